/-
  The search for what a model keeps: what it holds, and the contract of package model's reach. Conditions: those that stand in each theorem.
-/
import Derived.Test.YtbiompmklijgoaaDoorPGB
import Derived.Test.YtbiompmklijgoaaDoorPU
import Derived.Maps.GroupsBeside
namespace Go.Proofs.YtbiompmklijgoaaDoor
set_option linter.unusedVariables false
set_option linter.unusedSimpArgs false
open Go.RowKit Go.Deep Go.Maps

/-- What a search has noted: what is kept, what was found, in that order. -/
structure ST where
  ks : List Bool
  fs : List Int
def ST.add (s : ST) (z : Int) : ST := if z ≠ 0 ∧ s.ks.getD z.toNat false = false then ⟨s.ks.set z.toNat true, s.fs ++ [z]⟩ else s
def ST.reach (s : ST) (zs : List Int) : ST := zs.foldl ST.add s
def bcells (l : List Bool) : Array Value := (l.map Value.bool).toArray
theorem bcells_get {l : List Bool} {i : Nat} (h : i < l.length) : (bcells l)[i]? = some (.bool (l.getD i false)) := by
  unfold bcells
  rw [List.getElem?_toArray, List.getElem?_map, List.getElem?_eq_getElem h, List.getD_eq_getElem?_getD, List.getElem?_eq_getElem h]
  rfl
theorem bcells_set {l : List Bool} {i : Nat} {y : Bool} : (bcells l).setIfInBounds i (.bool y) = bcells (l.set i y) := by
  unfold bcells
  rw [List.setIfInBounds_toArray, List.map_set]
structure SM (W : World) (g gk mb B n : Nat) (fv mv : Value) (s : ST) : Prop where
  len : s.ks.length = n
  cnt : s.fs.length + s.ks.count false = n
  box : Blk W g 108 #[.pointer (some ⟨mb, 0, none⟩), .slice (some ⟨gk, 0, none⟩) n n, fv, mv]
  K : Blk W gk 4 (bcells s.ks)
  F : W.ownsRow B 3 1 fv s.fs.length (zcells s.fs)
section
variable {w w' W V : World} {g gk mb B n : Nat} {fv mv : Value} {s : ST}
theorem SM.apart (S : SM W g gk mb B n fv mv s) : g ≠ gk ∧ ∀ x, fv.ownBlock = some x → x ≠ g ∧ x ≠ gk := by
  refine ⟨S.box.ne_ S.K (by decide), fun x hx => ?_⟩
  rcases S.F.2 with ⟨hv, _⟩ | ⟨g', cap, cur, hv, _, hb, _⟩
  · rw [hv] at hx; simp [Value.ownBlock] at hx
  · rw [hv] at hx
    simp [Value.ownBlock] at hx
    subst hx
    have hB : Blk W g' 3 cur := hb
    exact ⟨hB.ne_ S.box (by decide), hB.ne_ S.K (by decide)⟩
theorem own_kpy {S : List Nat} {B : Nat} {e : TypeId} {z n : Nat} {v : Value} {xs : List Value} (h : w.ownsRow B e z v n xs) (k : Kp S w w') (hS : ∀ g, v.ownBlock = some g → g ∉ S) : w'.ownsRow B e z v n xs := by
  obtain ⟨hl, h2 | ⟨g, cap, cur, hv, hg, hb, r⟩⟩ := h
  · exact ⟨hl, .inl h2⟩
  · subst hv
    exact ⟨hl, .inr ⟨g, cap, cur, rfl, hg, Blk.kp hb k (hS g rfl), r⟩⟩
theorem SM.kp {S : List Nat} (h : SM W g gk mb B n fv mv s) (k : Kp S W V) (h1 : g ∉ S) (h2 : gk ∉ S) (h3 : ∀ x, fv.ownBlock = some x → x ∉ S) : SM V g gk mb B n fv mv s :=
  ⟨h.len, h.cnt, h.box.kp k h1, h.K.kp k h2, own_kpy h.F k h3⟩
theorem SM.kp0 (h : SM W g gk mb B n fv mv s) (k : Kp [] W V) : SM V g gk mb B n fv mv s := h.kp k (by simp) (by simp) (fun _ _ => by simp)
/-- Where the search writes. -/
def SB (g gk : Nat) (fv : Value) : List Nat := g :: gk :: fv.ownBlock.toList
/-- A slice of identities that the search doesn't write. -/
def Src (W : World) (S : List Nat) (A : Option Addr) (zs : List Int) : Prop := ∀ i, i < zs.length → ∃ gs f, A = some ⟨gs, f, none⟩ ∧ gs ∉ S ∧ W.cell? ⟨gs, f + i, none⟩ = some (.int .i64 (zs.getD i 0))
theorem Src.kp {S : List Nat} {A : Option Addr} {zs : List Int} (h : Src W S A zs) (k : Kp S W V) : Src V S A zs := fun i hi => by
  obtain ⟨gs, f, e, hn, hc⟩ := h i hi
  exact ⟨gs, f, e, hn, cell_kps k hc hn⟩
theorem cnt_set {l : List Bool} {i : Nat} (hi : i < l.length) (h : l.getD i false = false) : (l.set i true).count false + 1 = l.count false := by
  have hg : l[i] = false := by simpa [List.getD_eq_getElem?_getD, List.getElem?_eq_getElem hi] using h
  have hm : false ∈ l := hg ▸ List.getElem_mem hi
  have hp : 0 < l.count false := List.count_pos_iff.2 hm
  rw [List.count_set hi]
  simp [hg]
  omega
theorem ST.add_len (s : ST) (z : Int) : (s.add z).ks.length = s.ks.length := by
  unfold ST.add
  split <;> simp
theorem ST.reach_len (s : ST) (zs : List Int) : (s.reach zs).ks.length = s.ks.length := by
  unfold ST.reach
  induction zs generalizing s with
  | nil => rfl
  | cons z zs ih => simp only [List.foldl_cons]; rw [ih, ST.add_len]
theorem ST.reach_snoc (s : ST) (zs : List Int) (i : Nat) (hi : i < zs.length) : s.reach (zs.take (i + 1)) = (s.reach (zs.take i)).add (zs.getD i 0) := by
  unfold ST.reach
  rw [List.take_succ_eq_append_getElem hi, List.foldl_append, List.getD_eq_getElem?_getD, List.getElem?_eq_getElem hi]
  rfl
/-- One is found. -/
theorem SM.found {V9 : World} {v' : Value} {zn : Nat} (S : SM W g gk mb B n fv mv s) (hz : zn < n) (hk : s.ks.getD zn false = false) (own : V9.ownsRow B 3 1 v' (s.fs.length + 1) (zcells s.fs ++ [.int .i64 (zn : Int)])) (k : Kp (gk :: fv.ownBlock.toList) W V9) (hK : Blk V9 gk 4 (bcells (s.ks.set zn true)))
    (hn : ∀ x, v'.ownBlock = some x → fv.ownBlock = some x ∨ W.heap.size ≤ x) : SM (V9.setCell ⟨g, 2, none⟩ v') g gk mb B n v' mv ⟨s.ks.set zn true, s.fs ++ [(zn : Int)]⟩ ∧ Kp (SB g gk fv) W (V9.setCell ⟨g, 2, none⟩ v') := by
  obtain ⟨a1, a2⟩ := S.apart
  have k2 : Kp [g] V9 (V9.setCell ⟨g, 2, none⟩ v') := Kp.cell V9 ⟨g, 2, none⟩ v'
  have hb := (S.box.kp k (by simp; exact ⟨a1, fun e => (a2 g e).1 rfl⟩)).set_ 2 v'
  have hgl := S.box.lt
  refine ⟨⟨by simp [S.len], ?_, hb, hK.kp k2 (by simp; exact fun e => a1 e.symm), ?_⟩, k.trans k2 (fun x hx => .inl ?_) (fun x hx => .inl ?_)⟩
  · have := cnt_set (l := s.ks) (i := zn) (by rw [S.len]; exact hz) hk
    have h2 := S.cnt
    simp only [List.length_append, List.length_cons, List.length_nil]
    omega
  · have own2 : V9.ownsRow B 3 1 v' (s.fs ++ [(zn : Int)]).length (zcells (s.fs ++ [(zn : Int)])) := by
      rw [List.length_append]
      simpa [zcells] using own
    refine own_kpy own2 k2 (fun x hx hm => ?_)
    simp at hm
    subst hm
    rcases hn x hx with h | h
    · exact (a2 x h).1 rfl
    · omega
  · simp [SB] at hx ⊢; exact .inr hx
  · simp [SB] at hx ⊢; exact .inl hx
/-- Whatever the found ones' slice. -/
def ReachP (W : World) (g gk mb B n : Nat) (fv mv : Value) (s' : ST) (w' : World) : Prop := ∃ fv', SM w' g gk mb B n fv' mv s' ∧ Kp (SB g gk fv) W w' ∧ ∀ x, fv'.ownBlock = some x → fv.ownBlock = some x ∨ W.heap.size ≤ x
set_option maxRecDepth 100000 in
set_option maxHeartbeats 1000000 in
theorem m_reach (S : SM w g gk mb B n fv mv s) (hn : n ≤ 1000000) (hBw : B ≤ w.heap.size) {A : Option Addr} {zs : List Int} {c : Nat} (hs : Src w (SB g gk fv) A zs) (hl : zs.length ≤ 1000000) (hz : ∀ i, i < zs.length → 0 ≤ zs.getD i 0 ∧ zs.getD i 0 < (n : Int)) :
    Calls Tryd.prog 81 #[.pointer (some ⟨g, 0, none⟩), .slice A zs.length c] w fun e w' => e = .returned (.tuple #[]) ∧ ReachP w g gk mb B n fv mv (s.reach zs) w' := by
  obtain ⟨i0, hi0, hz0, hz1, hz2⟩ := info_parts infoInt
  have HS0 := hid S
  have HSRC := hid hs
  have HZ := hid hz
  have HBW := hid hBw
  clear S hs hz hBw
  go_enter Tryd.func81, Tryd.ntmps81
  go_wp2
  go_loopw [8] (fun ct wr => ∃ i : Nat, i ≤ zs.length ∧ ct = .int .i64 (i : Int) ∧ ReachP w g gk mb B n fv mv (s.reach (zs.take i)) wr) (fun ct _ => zs.length - (intOf ct).toNat)
  case atStart => exact ⟨0, by omega, rfl, fv, HS0.out, (Kp.refl _ _), fun x hx => .inl hx⟩
  case round =>
    obtain ⟨i, hi, rfl, fvi, Si, Ki, Ni⟩ := hrel
    by_cases hlt : i < zs.length
    · have hst := s.reach_snoc zs i hlt
      obtain ⟨gs, f, rfl, hgs, hcell⟩ := (HSRC.out.kp Ki) i hlt
      obtain ⟨hz1', hz2'⟩ := HZ.out i hlt
      generalize zs.getD i 0 = z at hst hcell hz1' hz2'
      have HST := hid hst
      have HSI := hid Si
      have HKI := hid Ki
      have HNI := hid Ni
      clear hst hgs
      generalize s.reach (zs.take i) = si at HST HSI Si
      obtain ⟨zn, rfl⟩ : ∃ k : Nat, z = (k : Int) := ⟨z.toNat, by omega⟩
      have hzn : zn < n := by omega
      by_cases h0 : zn = 0
      · subst h0
        clear Si Ki Ni
        have HE : Hid (si.add ((0 : Nat) : Int) = si) := by show _ = _; simp [ST.add]
        go_wp2
        go_roundw
        case rel => exact ⟨i + 1, by omega, by go_num, fvi, by rw [HST.out, HE.out]; exact HSI.out, HKI.out, HNI.out⟩
        case measure => simp [intOf]; omega
      · have hne : (((zn : Nat) : Int) != 0) = true := by simp; omega
        have cb1 : wr.cell? ⟨g, 1, none⟩ = some (.slice (some ⟨gk, 0, none⟩) n n) := Si.box.cell 1
        have cb2 : wr.cell? ⟨g, 2, none⟩ = some fvi := Si.box.cell 2
        have ck : wr.cell? ⟨gk, zn, none⟩ = some (.bool (si.ks.getD zn false)) := (Si.K.cell zn).trans (bcells_get (by rw [Si.len]; exact hzn))
        have ckf := Si.K.frozen zn
        rcases hkb : si.ks.getD zn false
        · obtain ⟨a1, a2⟩ := Si.apart
          obtain ⟨A3, c3, hfv, hc1, hc2, _⟩ := own_cut Si.F
          have HFV := hid hfv
          have HKB := hid hkb
          have hcnt := Si.cnt
          have hfl : si.fs.length ≤ 1000000 := by omega
          have HFL := hid hfl
          have kS : Kp [gk] wr (wr.setCell ⟨gk, zn, none⟩ (.bool true)) := Kp.cell wr ⟨gk, zn, none⟩ _
          have HOWN : Hid ((wr.setCell ⟨gk, zn, none⟩ (.bool true)).ownsRow B 3 1 fvi si.fs.length (zcells si.fs)) := own_kpy Si.F kS (fun x hx => by simp; exact (a2 x hx).2)
          have hKS : Blk (wr.setCell ⟨gk, zn, none⟩ (.bool true)) gk 4 (bcells (si.ks.set zn true)) := by
            have := Si.K.set_ zn (.bool true)
            rw [bcells_set] at this
            exact this
          have HKS := hid hKS
          have HKK := hid kS
          have HBX : Hid (∀ V, Kp fvi.ownBlock.toList (wr.setCell ⟨gk, zn, none⟩ (.bool true)) V → (∃ u, V.cell? ⟨g, 2, none⟩ = some u) ∧ V.frozen? ⟨g, 2, none⟩ = false) := fun V k => by
            have hb := (HSI.out.box.kp HKK.out (by simp; exact a1)).kp k (fun hm => (a2 g (by simpa using hm)).1 rfl)
            exact ⟨⟨_, hb.cell 2⟩, hb.frozen 2⟩
          have HA2 := hid a2
          rw [hkb] at ck
          have cb2S : (wr.setCell ⟨gk, zn, none⟩ (.bool true)).cell? ⟨g, 2, none⟩ = some fvi := cell_kps kS cb2 (by simp; exact a1)
          rw [hfv] at cb2 cb2S
          have hszS : (wr.setCell ⟨gk, zn, none⟩ (.bool true)).heap.size = wr.heap.size := by simp [World.setCell]
          have HN1 : Hid (∀ (j : Nat) (u : Value), ([.int .i64 (zn : Int)] : List Value)[j]? = some u → ((wr.setCell ⟨gk, zn, none⟩ (.bool true)).alloc (.cells #[.int .i64 (zn : Int)] 3)).cell? ((⟨wr.heap.size, 0, none⟩ : Addr).add j) = some u) := by
            have := one_new0 (wr.setCell ⟨gk, zn, none⟩ (.bool true)) (zn : Int)
            rw [hszS] at this
            exact this
          have NONE := one_cell (zn : Int)
          have HSZ : Hid (B ≤ (wr.setCell ⟨gk, zn, none⟩ (.bool true)).heap.size) := Nat.le_trans HBW.out (Nat.le_trans Ki.size kS.size)
          have HSS := hid hszS
          have HADD : Hid (si.add (zn : Int) = ⟨si.ks.set zn true, si.fs ++ [(zn : Int)]⟩) := by
            show _ = _
            unfold ST.add
            rw [if_pos ⟨by omega, by rw [Int.toNat_natCast]; exact hkb⟩, Int.toNat_natCast]
          rw [hfv] at HOWN HBX
          clear Si Ki Ni hkb a2 hfv hcnt kS hKS hszS
          generalize hwS : wr.setCell ⟨gk, zn, none⟩ (.bool true) = wS at HOWN HKS HKK HBX cb2S HN1 HSZ HSS
          have HWS := hid hwS
          clear hwS
          go_wp2_with (at_builtin; rw [HWS.out]; go_loud (refine wpList_append_own_at _ rfl (.tmp 34) (.tmp 36) 45 rfl B 3 i0 (.int .i64 0) 1 8 Tryd.underlying45 hi0 hz0 hz1 hz2 rfl (by decide) _ _ _ rfl (HOWN.out.alloc _) ⟨wr.heap.size, 0, none⟩ 1 1 [.int .i64 (zn : Int)] rfl rfl HN1.out NONE (by unfold maxLen; omega) (by omega) (by have := HSZ.out; simp; omega) ?_; intro v' w9 hown' hgr _ hat; have hk9 : Kp (Value.slice A3 si.fs.length c3).ownBlock.toList wS w9 := (Kp.new _ _).trans (Kp.of_grown hgr) (by simp) (fun x hx => .inl hx); obtain ⟨⟨u9, hu9⟩, hf9⟩ := HBX.out w9 hk9; obtain ⟨g9, c9, _, hv9, _⟩ := own_form hown' (by omega); have HO' := hid hown'; have HK9 := hid hk9; have HAT : Hid (∀ x, v'.ownBlock = some x → (Value.slice A3 si.fs.length c3).ownBlock = some x ∨ wr.heap.size ≤ x) := (fun x hx => by rcases hat with e | e; exact .inl (e.symm.trans hx); (refine .inr ?_; rw [hx] at e; injection e with e; have := HSS.out; simp at e; omega)); subst hv9; clear hown' hgr hat hk9))
          go_roundw
          case rel =>
            rw [← HFV.out] at HK9 HAT
            obtain ⟨z1, z2⟩ := HSI.out.found (V9 := w9) hzn HKB.out HO'.out (HKK.out.trans HK9.out (by simp) (fun x hx => .inl (by simp at hx ⊢; exact .inr hx))) (HKS.out.kp HK9.out (fun hm => (HA2.out gk (by simpa using hm)).2 rfl)) HAT.out
            refine ⟨i + 1, by omega, by go_num, _, by rw [HST.out, HADD.out]; exact z1, HKI.out.trans z2 (fun x hx => .inl hx) (fun x hx => ?_), fun x hx => ?_⟩
            · simp [SB] at hx
              rcases hx with rfl | rfl | hx
              · exact .inl (by simp [SB])
              · exact .inl (by simp [SB])
              · rcases HNI.out x hx with h | h
                · exact .inl (by simp [SB, h])
                · exact .inr h
            · rcases HAT.out x hx with h | h
              · exact HNI.out x h
              · exact .inr (Nat.le_trans HKI.out.size h)
          case measure => simp [intOf]; omega
        · rw [hkb] at ck
          have HE : Hid (si.add ((zn : Nat) : Int) = si) := by
            show _ = _
            unfold ST.add
            rw [if_neg]
            rintro ⟨_, h⟩
            rw [Int.toNat_natCast, hkb] at h
            cases h
          clear Si Ki Ni hkb
          go_wp2
          go_roundw
          case rel => exact ⟨i + 1, by omega, by go_num, fvi, by rw [HST.out, HE.out]; exact HSI.out, HKI.out, HNI.out⟩
          case measure => simp [intOf]; omega
    · obtain rfl : i = zs.length := by omega
      have HSI := hid Si
      have HKI := hid Ki
      have HNI := hid Ni
      clear Si Ki Ni
      go_wp2
      go_end0
      rw [List.take_length] at HSI
      exact ⟨rfl, fvi, HSI.out, HKI.out, HNI.out⟩
end
end Go.Proofs.YtbiompmklijgoaaDoor
/-
  A law of the kit's at the list of a plain region, as a step of a region that draws its order. Conditions: those that stand in each theorem.
-/
namespace Go.Proofs.YtbiompmklijgoaaDoor
set_option linter.unusedVariables false
set_option linter.unusedSimpArgs false
open Go.RowKit Go.Deep Go.Maps

/-- Nothing but the ordinary end. -/
def OnlyN (K : Act → World → Prop) : Exit → Act → World → Prop
  | .normal, a, w => K a w
  | _, _, _ => False
theorem OnlyN.not_out {K : Act → World → Prop} : ¬ LetsOut (OnlyN K) := fun ⟨_, _, h⟩ => h
theorem upon_only {P : Program} {o : Oper} {a : Act} {w : World} {K : Act → World → Prop} {Q : Exit → Act → World → Prop} (h : Oper.wp P o a w K (OnlyN K)) : Oper.wp P o a w K Q := by
  unfold Oper.wp at h ⊢
  unfold Oper.upon at h ⊢
  split at h
  all_goals first
    | exact h
    | exact (h : False).elim
    | (refine h.mono ?_
       intro e w'' hh
       cases e with
       | returned v => exact hh
       | panicked c => exact (hh : False).elim
       | outgrown => exact (OnlyN.not_out hh).elim)
    | (cases h)
/-- The step. -/
theorem step_of_list {P : Program} {ops : Array Oper} {o : Oper} {a : Act} {w : World} {K : Act → World → Prop} {Q : Exit → Act → World → Prop} {E : Prop} (hgd : o.guard = none) (h : wpList P ops (OnlyN K) [o] a w) :
    if Region.wanted o (yielded ops a.tmps) = true then Oper.wp P o a w K Q else E := by
  have hw : Region.wanted o (yielded ops a.tmps) = true := by simp [Region.wanted, hgd]
  rw [if_pos hw]
  unfold wpList at h
  rw [if_pos hw] at h
  rcases h with h | h
  · exact upon_only h
  · exact (OnlyN.not_out h.2).elim
end Go.Proofs.YtbiompmklijgoaaDoor
/-
  What a search keeps by keys not yet found: a map of slices, and what leaves it alone. Conditions: those that stand in each theorem.
-/
namespace Go.Proofs.YtbiompmklijgoaaDoor
set_option linter.unusedVariables false
set_option linter.unusedSimpArgs false
open Go.RowKit Go.Deep Go.Maps Go.WideElems Go.MapKept

section
variable {w w' W V : World} {bm nw : Nat} {D : DataW Unit}
/-- A slice of numbers of one's own, where other blocks change. -/
theorem ints_kp {S : List Nat} {B : Nat} {v : Value} {zs : List Int} (h : w.ownsInts B 3 .i64 v zs) (k : Kp S w V) (hS : ∀ g, v.ownBlock = some g → g ∉ S) : V.ownsInts B 3 .i64 v zs :=
  ⟨own_kpy h.1 k hS, h.2⟩
/-- The waiting ones: a map of slices at block bm; none of its rows is of S. -/
structure WG (W : World) (bm nw : Nat) (S : List Nat) (D : DataW Unit) : Prop where
  own : W.ownsGroups Tryd.prog 3 (bm + 1) 3 .i64 bm nw D
  shun : W.Shuns bm (fun x => x ∈ S)
  off : bm ∉ S
theorem WG.kp {S : List Nat} (h : WG W bm nw S D) (k : Kp S W V) : WG V bm nw S D := by
  have hown := h.own
  obtain ⟨es, clock, hb, F, hs, hD, hbb, hlen, hap⟩ := hown
  have hlt : bm < W.heap.size := (Array.getElem?_eq_some_iff.1 hb).1
  have hbV : V.heap[bm]? = some (.map es clock) := (k.block bm hlt h.off).trans hb
  have hoff : ∀ x ∈ es.toList, ∀ g, x.val.ownBlock = some g → g ∉ S := fun x hx g hg => h.shun es clock hb x hx g hg
  have keep : ∀ x ∈ es.toList, ∀ y, rowElem (H := Unit) W (bm + 1) 3 .i64 x.val = some y → rowElem V (bm + 1) 3 .i64 x.val = some y := by
    intro x hx y hy
    obtain ⟨zs, hz, e⟩ := rowElem_inv hy
    rw [e]
    exact rowElem_mk (ints_kp hz k (hoff x hx))
  have st := F.stay keep
  refine ⟨⟨es, clock, hbV, st.1, hs, ?_, hbb, ?_, hap⟩, ?_, h.off⟩
  · rw [st.2.1]; exact hD
  · intro x hx zs hz
    obtain ⟨y, hy⟩ := F.reads x hx
    obtain ⟨z, hz1, _⟩ := rd_val hy
    obtain ⟨zs0, h0, _⟩ := rowElem_inv hz1
    have := hz.unique (ints_kp h0 k (hoff x hx))
    rw [this]
    exact hlen x hx zs0 h0
  · intro es' clock' hb' x hx g hg
    rw [hbV] at hb'
    cases hb'
    exact hoff x hx g hg
/-- More blocks that it shuns: new ones. -/
theorem WG.more {S S' : List Nat} (h : WG W bm nw S D) (hn : ∀ x ∈ S', x ∈ S ∨ W.heap.size ≤ x) : WG W bm nw S' D := by
  have hlt : bm < W.heap.size := by
    obtain ⟨es, clock, hb, _⟩ := h.own
    exact (Array.getElem?_eq_some_iff.1 hb).1
  refine ⟨h.own, h.shun.reno h.own hn, fun hm => ?_⟩
  rcases hn bm hm with e | e
  · exact h.off e
  · omega
/-- A search that has reached some: the waiting ones are as they were. -/
theorem WG.reach {g gk mb B n : Nat} {fv mv : Value} {s' : ST} (h : WG W bm nw (SB g gk fv) D) (r : ReachP W g gk mb B n fv mv s' V) :
    ∃ fv', SM V g gk mb B n fv' mv s' ∧ WG V bm nw (SB g gk fv') D ∧ Kp (SB g gk fv) W V ∧ ∀ x, fv'.ownBlock = some x → fv.ownBlock = some x ∨ W.heap.size ≤ x := by
  obtain ⟨fv', S, K, N⟩ := r
  have hall : ∀ x ∈ SB g gk fv', x ∈ SB g gk fv ∨ W.heap.size ≤ x := fun x hx => by
    simp [SB] at hx ⊢
    rcases hx with e | e | e
    · exact .inl (.inl e)
    · exact .inl (.inr (.inl e))
    · rcases N x e with e2 | e2
      · exact .inl (.inr (.inr e2))
      · exact .inr e2
  have h2 : WG W bm nw (SB g gk fv ++ SB g gk fv') D := h.more (fun x hx => by
    rcases List.mem_append.1 hx with e | e
    · exact .inl e
    · exact hall x e)
  have h3 : WG V bm nw (SB g gk fv ++ SB g gk fv') D := h2.kp (K.mono (fun x hx => .inl (List.mem_append.2 (.inl hx))))
  exact ⟨fv', S, h3.more (fun x hx => .inl (List.mem_append.2 (.inr hx))), K, N⟩
/-- What the map hands over lies where the search doesn't write. -/
theorem WG.src {g gk : Nat} {fv v : Value} {zs : List Int} (ho : W.ownsInts (bm + 1) 3 .i64 v zs) (hno : ∀ x, v.ownBlock = some x → x ∉ SB g gk fv) : ∃ A c, v = .slice A zs.length c ∧ Src W (SB g gk fv) A zs := by
  rcases ho.1.2 with ⟨hv, h0⟩ | ⟨g', cap, cur, hv, hg, hb, h1, h2, h3⟩
  · exact ⟨none, 0, by rw [hv, h0], fun i hi => by omega⟩
  · refine ⟨_, cap, hv, fun i hi => ⟨g', 0, rfl, hno g' (by rw [hv]; rfl), ?_⟩⟩
    have hown := ho.1
    rw [hv] at hown
    rw [Nat.zero_add, hown.cellAt i (by omega), List.getElem?_map, List.getElem?_eq_getElem hi, List.getD_eq_getElem?_getD, List.getElem?_eq_getElem hi]
    rfl
end
end Go.Proofs.YtbiompmklijgoaaDoor
/-
  What the waiting ones read as, key by key; a model where only later blocks change. Conditions: those that stand in each theorem.
-/
namespace Go.Proofs.YtbiompmklijgoaaDoor
set_option linter.unusedVariables false
set_option linter.unusedSimpArgs false
open Go.RowKit Go.Deep Go.Maps Go.WideElems Go.MapKept

def wdat (zs : List Int) : DataW Unit := match zs with
  | [] => .nil
  | zs => .slice (ChangeShapes.lits .i64 zs) []
/-- Key by key. -/
structure WMR (D : DataW Unit) (wm : Int → List Int) : Prop where
  map : IsMap D
  at_ : ∀ key : Int, D.atKey (.int .i64 key) .nil = wdat (wm key)
def wput (wm : Int → List Int) (key v : Int) : Int → List Int := fun k => if k = key then wm key ++ [v] else wm k
section
variable {w w' W V : World} {D : DataW Unit} {wm : Int → List Int}
theorem WMR.none : WMR (.map []) (fun _ => []) := ⟨⟨[], rfl⟩, fun _ => rfl⟩
theorem wdat_pos {zs : List Int} (h : zs ≠ []) : wdat zs = .slice (ChangeShapes.lits .i64 zs) [] := by
  cases zs with
  | nil => exact absurd rfl h
  | cons z zs => rfl
theorem WMR.look (h : WMR D wm) {key : Int} {B : Nat} {v : Value} {zs : List Int} (ho : W.ownsInts B 3 .i64 v zs) (hat : D.atKey (.int .i64 key) .nil = rowDatum (H := Unit) .i64 v zs) : zs = wm key := by
  rw [h.at_ key] at hat
  rcases ho.datum (H := Unit) with ⟨h1, h2⟩ | h1
  · rw [h1] at hat
    rw [h2]
    cases hw : wm key with
    | nil => rfl
    | cons z l => rw [hw] at hat; cases hat
  · rw [h1] at hat
    cases hw : wm key with
    | nil => rw [hw] at hat; cases hat
    | cons z l =>
      rw [hw] at hat
      have e : ChangeShapes.lits (H := Unit) .i64 (z :: l) = ChangeShapes.lits .i64 zs := by
        injection hat
      unfold ChangeShapes.lits at e
      exact ((List.map_inj_right (fun a b hab => by injection hab with h1; injection h1)).1 e).symm
theorem WMR.put (h : WMR D wm) {key x : Int} {B : Nat} {v' : Value} (ho : W.ownsInts B 3 .i64 v' (wm key ++ [x])) : WMR (D.put (.int .i64 key) (rowDatum .i64 v' (wm key ++ [x]))) (wput wm key x) := by
  refine ⟨h.map.put _ _, fun k => ?_⟩
  unfold wput
  by_cases e : k = key
  · subst e
    rw [if_pos rfl, atKey_put_same h.map (by simp [WideAt.IsKeyLit]), ho.datum_pos (by simp), wdat_pos (by simp)]
  · rw [if_neg e, atKey_put_other (fun hc => e (by injection hc)), h.at_ k]
/-- A model, where only blocks from B on change. -/
theorem MR.below {b : MB} {t : MT} {B : Nat} (R : MR W b t) (h : Below B W V) (hB : ∀ y ∈ b.all, y < B) : MR V b t := by
  have k : Kp (List.range' B (W.heap.size - B)) W V := ⟨h.os, h.tape, h.output, h.size, fun j hj hn => h.block j (by
    rcases Nat.lt_or_ge j B with e | e
    · exact e
    · exact absurd (List.mem_range'_1.2 ⟨e, by omega⟩) hn)⟩
  have hb := hB b.g (by simp [MB.all])
  exact R.kp k (fun y hy hm => by
    have := hB y hy
    have := (List.mem_range'_1.1 hm).1
    omega) (fun hm => by
    have := (List.mem_range'_1.1 hm).1
    omega)
end
end Go.Proofs.YtbiompmklijgoaaDoor
/-
  The contract of package model's clearLoose, where nothing is cleared: no loose references, or the first leads to what is kept. Conditions: those that stand in each theorem.
-/
namespace Go.Proofs.YtbiompmklijgoaaDoor
set_option linter.unusedVariables false
set_option linter.unusedSimpArgs false
open Go.RowKit Go.Deep Go.Maps

section
variable {w w' W V : World} {b : MB} {t : MT}
theorem MR.fit_of2 (R : MR w b t) {x : Int} (h : t.has x = true) : (t.obj x).f + (t.obj x).r + (t.obj x).d ≤ t.ws.length := by
  obtain ⟨k, rfl, hk, hob⟩ := MT.has_nat h
  rw [hob]
  exact R.ok.fit k hk
set_option maxRecDepth 100000 in
theorem fld2 (W : World) (r d k : Int) : (Instr.field 33 (.agg #[.int .i64 r, .int .i64 d, .int .i64 k]) 2).run Tryd.prog W = .ok (.int .i64 k) W := by kernel_rfl
set_option maxRecDepth 100000 in
set_option maxHeartbeats 400000 in
theorem m_clear_no (R : MR w b t) {x : Int} (hx : t.has x = true) (hk : (t.obj x).k = 0 ∨ (t.obj x).k = 3) (K : Value) :
    Calls Tryd.prog 72 #[.pointer (some ⟨b.g, 0, none⟩), .int .i64 x, K] w fun e w' => e = .returned (.bool false) ∧ Kp [] w w' := by
  have HR := hid R
  have HX := hid hx
  obtain ⟨o, ho⟩ : ∃ o, o = t.obj x := ⟨_, rfl⟩
  rw [← ho] at hk
  have HO := hid ho
  clear R hx ho
  go_enter Tryd.func72, Tryd.ntmps72
  go_wp2_with (fail)
  refine (m_refs HR.out HX.out).mono ?_
  rintro e w2 ⟨v, rfl, ⟨A, c, rfl, hv1, hv2, _⟩, K2⟩
  have HK2 := hid K2
  unfold maxLen at hv2
  rw [← HO.out] at hv1 ⊢
  clear K2
  go_wp2_with (fail)
  refine (m_shape (HR.out.kp0 HK2.out) HX.out).mono ?_
  rintro e w3 ⟨rfl, K3⟩
  have HK3 := hid (HK2.out.chain K3)
  have hz := HR.out.lz.kp0 HK3.out
  obtain ⟨l0, l1, l2, l3⟩ := hz
  rw [← HO.out]
  unfold OB.shv
  clear K3
  rcases hk with hk | hk
  all_goals
    rw [hk]
    clear hk
    cases A
    all_goals
      go_wp2
      rw [fld2]
      go_wp2
      go_ret
      exact ⟨rfl, HK3.out⟩
/-- An object with loose references has as many references. -/
theorem MR.loose_le (R : MR W b t) {x : Int} (hx : t.has x = true) (hk : (t.obj x).k = 1 ∨ (t.obj x).k = 2) : (t.obj x).k ≤ (t.obj x).r := by
  obtain ⟨i, rfl, hi, ho⟩ := MT.has_nat hx
  rw [ho] at hk ⊢
  have := of_decide_eq_true (R.ok.sh i hi)
  rcases hk with hk | hk <;> omega
set_option maxRecDepth 100000 in
set_option maxHeartbeats 600000 in
theorem m_clear_kept (R : MR w b t) {x : Int} (hx : t.has x = true) (hk : (t.obj x).k = 1 ∨ (t.obj x).k = 2) (gk n zn : Nat) (hz : (zn : Int) = t.ws.getD (t.obj x).f 0) (hzn : zn < n) (hn : n ≤ 1000000) (hc : w.cell? ⟨gk, zn, none⟩ = some (.bool true)) :
    Calls Tryd.prog 72 #[.pointer (some ⟨b.g, 0, none⟩), .int .i64 x, .slice (some ⟨gk, 0, none⟩) n n] w fun e w' => e = .returned (.bool false) ∧ Kp [] w w' := by
  have HR := hid R
  have HX := hid hx
  have hle := R.loose_le hx hk
  have hfit := MR.fit_of2 R hx
  obtain ⟨o, ho⟩ : ∃ o, o = t.obj x := ⟨_, rfl⟩
  rw [← ho] at hk hz hle hfit
  have hr1 : 0 < o.r := by omega
  have hwl : o.f < t.ws.length := by omega
  obtain ⟨g0, c0, hwv, _⟩ := R.dat hwl
  have HWV := hid hwv
  have HWL := hid hwl
  have HR1 := hid hr1
  have HZ := hid hz
  have HC := hid hc
  have HO := hid ho
  have HLE := hid hle
  have hzi : (zn : Int) < (n : Int) := by omega
  clear R hx ho hwv hwl hr1 hz hc hfit hle
  go_enter Tryd.func72, Tryd.ntmps72
  go_wp2_with (fail)
  refine (m_refs HR.out HX.out).mono ?_
  rintro e w2 ⟨v, rfl, hv, K2⟩
  have HK2 := hid K2
  rw [← HO.out] at hv
  obtain ⟨c, rfl, hv1, hv2⟩ := hv.at_ HR1.out HWV.out
  unfold maxLen at hv2
  clear K2 hv
  go_wp2_with (fail)
  refine (m_shape (HR.out.kp0 HK2.out) HX.out).mono ?_
  rintro e w3 ⟨rfl, K3⟩
  have HK3 := hid (HK2.out.chain K3)
  have hz := HR.out.lz.kp0 HK3.out
  obtain ⟨l0, l1, l2, l3⟩ := hz
  have hd := (HR.out.kp0 HK3.out).dat2 HWV.out HWL.out
  rw [← HZ.out] at hd
  have hcc := cell_kp HK3.out HC.out
  rw [← HO.out]
  unfold OB.shv
  clear K3
  rcases hk with hk | hk
  all_goals
    have h1 := HLE.out
    rw [hk] at h1 ⊢
    have h2 : (1 : Int) ≤ (c : Int) := by omega
    have h3 : (2 : Int) ≤ (c : Int) ∨ o.k = 1 := by omega
    have h4 : o.k ≤ c := by omega
    rw [hk] at h4
    clear hk h3
    go_wp2
    rw [fld2]
    go_wp2
    go_ret
    exact ⟨rfl, HK3.out⟩
end
end Go.Proofs.YtbiompmklijgoaaDoor
/-
  The contract of package model's clearLoose, where one reference is cleared. Conditions: those that stand in each theorem.
-/
namespace Go.Proofs.YtbiompmklijgoaaDoor
set_option linter.unusedVariables false
set_option linter.unusedSimpArgs false
open Go.RowKit Go.Deep Go.Maps

section
variable {w w' W V : World} {b : MB} {t : MT}
set_option maxRecDepth 100000 in
set_option maxHeartbeats 600000 in
theorem m_clear_one (R : MR w b t) {x : Int} (hx : t.has x = true) (hk : (t.obj x).k = 1) (gk n zn : Nat) (hz : (zn : Int) = t.ws.getD (t.obj x).f 0) (hzn : zn < n) (hn : n ≤ 1000000) (hc : w.cell? ⟨gk, zn, none⟩ = some (.bool false)) :
    Calls Tryd.prog 72 #[.pointer (some ⟨b.g, 0, none⟩), .int .i64 x, .slice (some ⟨gk, 0, none⟩) n n] w fun e w' => e = .returned (.bool ((zn : Int) != 0)) ∧ ChgM w b (t.setW (t.obj x).f 0) w' := by
  have HR := hid R
  have HX := hid hx
  have hle := R.loose_le hx (.inl hk)
  have hfit := MR.fit_of2 R hx
  obtain ⟨o, ho⟩ : ∃ o, o = t.obj x := ⟨_, rfl⟩
  have hclr : (t.setW (t.obj x).f 0).Ok := R.ok.setW ⟨by omega, by omega⟩ (fun _ _ _ _ _ => ⟨by omega, by omega⟩)
  rw [← ho] at hk hz hle hfit hclr ⊢
  have HCLR := hid hclr
  clear hclr
  have hr1 : 0 < o.r := by omega
  have hwl : o.f < t.ws.length := by omega
  obtain ⟨g0, c0, hwv, _⟩ := R.dat hwl
  have HWV := hid hwv
  have HWL := hid hwl
  have HR1 := hid hr1
  have HZ := hid hz
  have HC := hid hc
  have HO := hid ho
  have HLE := hid hle
  have hzi : (zn : Int) < (n : Int) := by omega
  clear R hx ho hwv hwl hr1 hz hc hfit hle
  go_enter Tryd.func72, Tryd.ntmps72
  go_wp2_with (fail)
  refine (m_refs HR.out HX.out).mono ?_
  rintro e w2 ⟨v, rfl, hv, K2⟩
  have HK2 := hid K2
  rw [← HO.out] at hv
  obtain ⟨c, rfl, hv1, hv2⟩ := hv.at_ HR1.out HWV.out
  unfold maxLen at hv2
  clear K2 hv
  go_wp2_with (fail)
  refine (m_shape (HR.out.kp0 HK2.out) HX.out).mono ?_
  rintro e w3 ⟨rfl, K3⟩
  have HK3 := hid (HK2.out.chain K3)
  have hz := HR.out.lz.kp0 HK3.out
  obtain ⟨l0, l1, l2, l3⟩ := hz
  have hd := (HR.out.kp0 HK3.out).dat2 HWV.out HWL.out
  rw [← HZ.out] at hd
  have hcc := cell_kp HK3.out HC.out
  rw [← HO.out]
  unfold OB.shv
  clear K3
  have hdf := (HR.out.kp0 HK3.out).dat_f HWV.out o.f
  have h1 := HLE.out
  rw [hk] at h1 ⊢
  have h4 : 1 ≤ c := by omega
  have h2 : (1 : Int) ≤ (c : Int) := by omega
  clear hk
  go_wp2
  rw [fld2]
  go_wp2
  go_loopw [8, 34] (fun s8 s34 wr => (s34 = .int .i64 0 ∧ s8 = .bool false ∧ wr = w3) ∨ (s34 = .int .i64 1 ∧ s8 = .bool ((zn : Int) != 0) ∧ wr = w3.setCell ⟨g0, o.f, none⟩ (.int .i64 0))) (fun _ s34 _ => 1 - (intOf s34).toNat)
  case atStart => exact .inl ⟨rfl, rfl, rfl⟩
  case round =>
    rcases hrel with ⟨rfl, rfl, rfl⟩ | ⟨rfl, rfl, rfl⟩
    · go_wp2
      go_roundw
      case rel => first | exact .inr ⟨by go_num, by first | rfl | simp, rfl⟩ | (refine .inr ?_; simp)
      case measure => simp [intOf]
    · go_wp2
      go_ret
      obtain ⟨R9, K9⟩ := (HR.out.kp0 HK3.out).setW HWL.out HCLR.out HWV.out
      exact ⟨rfl, b, rfl, rfl, R9, HK3.out.chain0 K9, fun y hy => .inl hy⟩
end
end Go.Proofs.YtbiompmklijgoaaDoor
/-
  The contract of package model's clearLoose, where two references are cleared. Conditions: those that stand in each theorem.
-/
namespace Go.Proofs.YtbiompmklijgoaaDoor
set_option linter.unusedVariables false
set_option linter.unusedSimpArgs false
open Go.RowKit Go.Deep Go.Maps

section
variable {w w' W V : World} {b : MB} {t : MT}
set_option maxRecDepth 100000 in
set_option maxHeartbeats 600000 in
theorem m_clear_two (R : MR w b t) {x : Int} (hx : t.has x = true) (hk : (t.obj x).k = 2) (z2 : Int) (hz2 : z2 = t.ws.getD ((t.obj x).f + 1) 0) (gk n zn : Nat) (hz : (zn : Int) = t.ws.getD (t.obj x).f 0) (hzn : zn < n) (hn : n ≤ 1000000) (hc : w.cell? ⟨gk, zn, none⟩ = some (.bool false)) :
    Calls Tryd.prog 72 #[.pointer (some ⟨b.g, 0, none⟩), .int .i64 x, .slice (some ⟨gk, 0, none⟩) n n] w fun e w' => e = .returned (.bool (((zn : Int) != 0) || (z2 != 0))) ∧ ChgM w b ((t.setW (t.obj x).f 0).setW ((t.obj x).f + 1) 0) w' := by
  have HR := hid R
  have HX := hid hx
  have hle := R.loose_le hx (.inr hk)
  have hfit := MR.fit_of2 R hx
  obtain ⟨o, ho⟩ : ∃ o, o = t.obj x := ⟨_, rfl⟩
  have hclr : (t.setW (t.obj x).f 0).Ok := R.ok.setW ⟨by omega, by omega⟩ (fun _ _ _ _ _ => ⟨by omega, by omega⟩)
  have hclr2 : ((t.setW (t.obj x).f 0).setW ((t.obj x).f + 1) 0).Ok := hclr.setW ⟨by omega, by omega⟩ (fun _ _ _ _ _ => ⟨by omega, by omega⟩)
  rw [← ho] at hk hz hz2 hle hfit hclr hclr2 ⊢
  have HCLR := hid hclr
  have HCLR2 := hid hclr2
  have HZ2 := hid hz2
  have HWL2 : Hid (o.f + 1 < t.ws.length) := by show _ < _; omega
  clear hclr hclr2 hz2
  have hr1 : 0 < o.r := by omega
  have hwl : o.f < t.ws.length := by omega
  obtain ⟨g0, c0, hwv, _⟩ := R.dat hwl
  have HWV := hid hwv
  have HWL := hid hwl
  have HR1 := hid hr1
  have HZ := hid hz
  have HC := hid hc
  have HO := hid ho
  have HLE := hid hle
  have hzi : (zn : Int) < (n : Int) := by omega
  clear R hx ho hwv hwl hr1 hz hc hfit hle
  go_enter Tryd.func72, Tryd.ntmps72
  go_wp2_with (fail)
  refine (m_refs HR.out HX.out).mono ?_
  rintro e w2 ⟨v, rfl, hv, K2⟩
  have HK2 := hid K2
  rw [← HO.out] at hv
  obtain ⟨c, rfl, hv1, hv2⟩ := hv.at_ HR1.out HWV.out
  unfold maxLen at hv2
  clear K2 hv
  go_wp2_with (fail)
  refine (m_shape (HR.out.kp0 HK2.out) HX.out).mono ?_
  rintro e w3 ⟨rfl, K3⟩
  have HK3 := hid (HK2.out.chain K3)
  have hz := HR.out.lz.kp0 HK3.out
  obtain ⟨l0, l1, l2, l3⟩ := hz
  have hd := (HR.out.kp0 HK3.out).dat2 HWV.out HWL.out
  rw [← HZ.out] at hd
  have hcc := cell_kp HK3.out HC.out
  rw [← HO.out]
  unfold OB.shv
  clear K3
  have hdf := (HR.out.kp0 HK3.out).dat_f HWV.out o.f
  have h1 := HLE.out
  rw [hk] at h1 ⊢
  have h4 : 1 ≤ c := by omega
  have h2 : (1 : Int) ≤ (c : Int) := by omega
  clear hk
  go_wp2
  rw [fld2]
  go_wp2
  obtain ⟨RA, KA⟩ := (HR.out.kp0 HK3.out).setW HWL.out HCLR.out HWV.out
  have hA2 : (w3.setCell ⟨g0, o.f, none⟩ (.int .i64 0)).cell? ⟨g0, o.f + 1, none⟩ = some (.int .i64 z2) := by
    rw [RA.dat2 HWV.out (by simpa [MT.setW] using HWL2.out)]
    show some (Value.int .i64 ((t.ws.set o.f 0).getD (o.f + 1) 0)) = _
    rw [getD_set, if_neg (by omega), HZ2.out]
  have hA2f := RA.dat_f HWV.out (o.f + 1)
  have HRA := hid RA
  have HKA := hid KA
  clear RA KA
  generalize hwA : w3.setCell ⟨g0, o.f, none⟩ (.int .i64 0) = wA at hA2 hA2f HRA HKA
  have HWA := hid hwA
  clear hwA
  go_loopw [8, 34] (fun s8 s34 wr => (s34 = .int .i64 0 ∧ s8 = .bool false ∧ wr = w3) ∨ (s34 = .int .i64 1 ∧ s8 = .bool ((zn : Int) != 0) ∧ wr = wA) ∨ (s34 = .int .i64 2 ∧ s8 = .bool (((zn : Int) != 0) || (z2 != 0)) ∧ wr = wA.setCell ⟨g0, o.f + 1, none⟩ (.int .i64 0))) (fun _ s34 _ => 2 - (intOf s34).toNat)
  case atStart => exact .inl ⟨rfl, rfl, rfl⟩
  case round =>
    rcases hrel with ⟨rfl, rfl, rfl⟩ | ⟨rfl, rfl, rfl⟩ | ⟨rfl, rfl, rfl⟩
    · go_wp2
      go_roundw
      case rel =>
        refine .inr (.inl ?_)
        rw [HWA.out]
        first | exact ⟨by go_num, rfl, rfl⟩ | simp
      case measure => simp [intOf]
    · generalize hB : ((zn : Int) != 0) = B
      have HB := hid hB
      clear hB
      cases B
      all_goals
        go_wp2
        go_roundw
        case rel =>
          refine .inr (.inr ?_)
          first | exact ⟨by go_num, rfl, rfl⟩ | simp
        case measure => simp [intOf]
    · go_wp2
      go_ret
      obtain ⟨R9, K9⟩ := HRA.out.setW (by simpa [MT.setW] using HWL2.out) HCLR2.out HWV.out
      exact ⟨rfl, b, rfl, rfl, R9, (HK3.out.chain0 HKA.out).trans K9 (fun y hy => .inl hy) (fun y hy => .inl hy), fun y hy => .inl hy⟩
end
end Go.Proofs.YtbiompmklijgoaaDoor
/-
  What a search for what is kept finds: just what is led to. Plain mathematics. Conditions: those that stand in each theorem.
-/
namespace Go.Proofs.YtbiompmklijgoaaDoor
set_option linter.unusedVariables false
set_option linter.unusedSimpArgs false
open Go.RowKit Go.Deep Go.Maps

/-- The references that do not keep by themselves, by kinds. -/
def looseN (k : Nat) : Nat := if k = 1 then 1 else if k = 2 then 2 else 0
/-- Reference i of an object. -/
def MT.rf (t : MT) (x : Int) (i : Nat) : Int := t.ws.getD ((t.obj x).f + i) 0
/-- All references of an object, and those that keep. -/
def MT.refl (t : MT) (x : Int) : List Int := (List.range ((t.obj x).r)).map (t.rf x)
def MT.strong (t : MT) (x : Int) : List Int := (t.refl x).drop (looseN (t.obj x).k)
/-- What a search is: what it found, and what waits. -/
structure FT where
  s : ST
  wm : Int → List Int
def FT.mid (t : MT) (q : FT) (x : Int) : ST := (q.s.reach (t.strong x)).reach (q.wm x)
def FT.follow (t : MT) (q : FT) (x : Int) : FT :=
  if (t.obj x).k = 2 then
    if (q.mid t x).ks.getD (t.rf x 0).toNat false = true then ⟨(q.mid t x).reach [t.rf x 1], q.wm⟩
    else ⟨q.mid t x, wput q.wm (t.rf x 0) (t.rf x 1)⟩
  else ⟨q.mid t x, q.wm⟩
def FT.step (t : MT) (q : FT) (k : Nat) : FT := if k < q.s.fs.length then q.follow t (q.s.fs.getD k 0) else q
def FT.run (t : MT) (q : FT) : Nat → FT
  | 0 => q
  | k + 1 => (FT.run t q k).step t k
def MT.roots (t : MT) : List Int := t.sl ++ t.gl ++ t.qu
def MT.start (t : MT) : FT := ⟨(⟨List.replicate (t.ob.length + 1) false, []⟩ : ST).reach t.roots, fun _ => []⟩
/-- What is kept, by identities. -/
def MT.kb (t : MT) : List Bool := (FT.run t t.start (t.ob.length + 1)).s.ks
/-- What is kept: what places lead to, and what that keeps. -/
inductive MT.K (t : MT) : Int → Prop
  | root {x : Int} : x ∈ t.roots → x ≠ 0 → MT.K t x
  | strong {x y : Int} : MT.K t x → y ∈ t.strong x → y ≠ 0 → MT.K t y
  | eph {x : Int} : MT.K t x → (t.obj x).k = 2 → MT.K t (t.rf x 0) → t.rf x 1 ≠ 0 → MT.K t (t.rf x 1)
/-- A search in good state, over identities up to n. -/
structure ST.Good (s : ST) (n : Nat) : Prop where
  len : s.ks.length = n + 1
  mem : ∀ i : Nat, s.ks.getD i false = true ↔ (i : Int) ∈ s.fs
  pos : ∀ x ∈ s.fs, 1 ≤ x ∧ x ≤ (n : Int)
  nodup : s.fs.Nodup
  cnt : s.fs.length + s.ks.count false = n + 1
theorem getD_setB (l : List Bool) (i j : Nat) (h : i < l.length) : (l.set i true).getD j false = if i = j then true else l.getD j false := by
  rw [List.getD_eq_getElem?_getD, List.getElem?_set, List.getD_eq_getElem?_getD]
  by_cases e : i = j
  · subst e; simp [h]
  · simp [e]
theorem ST.Good.add {s : ST} {n : Nat} (h : s.Good n) {z : Int} (hz : 0 ≤ z ∧ z ≤ (n : Int)) : (s.add z).Good n ∧ (∃ e, (s.add z).fs = s.fs ++ e) ∧ ∀ y, y ∈ (s.add z).fs ↔ y ∈ s.fs ∨ (y = z ∧ z ≠ 0) := by
  obtain ⟨k, rfl⟩ : ∃ k : Nat, z = (k : Int) := ⟨z.toNat, by omega⟩
  unfold ST.add
  rw [Int.toNat_natCast]
  by_cases c : (k : Int) ≠ 0 ∧ s.ks.getD k false = false
  · rw [if_pos c]
    have hn : ((k : Int)) ∉ s.fs := fun hm => by rw [(h.mem k).2 hm] at c; simp at c
    have hk : k < s.ks.length := by rw [h.len]; omega
    refine ⟨⟨by simp [h.len], fun i => ?_, fun x hx => ?_, ?_, ?_⟩, ⟨_, rfl⟩, fun y => ?_⟩
    · show (s.ks.set k true).getD i false = true ↔ _
      rw [getD_setB _ _ _ hk]
      by_cases e : k = i
      · subst e; simp
      · rw [if_neg e, h.mem i]
        simp only [List.mem_append, List.mem_singleton]
        constructor
        · exact .inl
        · rintro (h1 | h1)
          · exact h1
          · omega
    · rcases List.mem_append.1 hx with h1 | h1
      · exact h.pos x h1
      · rw [List.mem_singleton] at h1; omega
    · refine List.nodup_append.2 ⟨h.nodup, by simp, fun a ha b hb => ?_⟩
      rw [List.mem_singleton] at hb
      subst hb
      rintro rfl
      exact hn ha
    · have := cnt_set (l := s.ks) (i := k) hk c.2
      have := h.cnt
      simp only [List.length_append, List.length_cons, List.length_nil]
      omega
    · simp only [List.mem_append, List.mem_singleton]
      exact ⟨fun hh => hh.imp id fun e => ⟨e, c.1⟩, fun hh => hh.imp id fun e => e.1⟩
  · rw [if_neg c]
    refine ⟨h, ⟨[], by simp⟩, fun y => ⟨.inl, ?_⟩⟩
    rintro (h1 | ⟨rfl, h2⟩)
    · exact h1
    · have : s.ks.getD k false = true := by
        cases hc : s.ks.getD k false
        · exact absurd ⟨h2, hc⟩ c
        · rfl
      exact (h.mem k).1 this
theorem ST.Good.reach {s : ST} {n : Nat} (h : s.Good n) {zs : List Int} (hz : ∀ z ∈ zs, 0 ≤ z ∧ z ≤ (n : Int)) : (s.reach zs).Good n ∧ (∃ e, (s.reach zs).fs = s.fs ++ e) ∧ ∀ y, y ∈ (s.reach zs).fs ↔ y ∈ s.fs ∨ (y ∈ zs ∧ y ≠ 0) := by
  unfold ST.reach
  induction zs generalizing s with
  | nil => exact ⟨h, ⟨[], by simp⟩, fun y => by simp⟩
  | cons z zs ih =>
    simp only [List.foldl_cons]
    obtain ⟨h1, ⟨e1, he1⟩, h3⟩ := h.add (hz z (by simp))
    obtain ⟨g1, ⟨e2, he2⟩, g3⟩ := ih h1 (fun y hy => hz y (by simp [hy]))
    refine ⟨g1, ⟨e1 ++ e2, by rw [he2, he1, List.append_assoc]⟩, fun y => ?_⟩
    rw [g3, h3]
    simp only [List.mem_cons]
    constructor
    · rintro ((h | ⟨rfl, h⟩) | ⟨h, h'⟩)
      · exact .inl h
      · exact .inr ⟨.inl rfl, h⟩
      · exact .inr ⟨.inr h, h'⟩
    · rintro (h | ⟨rfl | h, h'⟩)
      · exact .inl (.inl h)
      · exact .inl (.inr ⟨rfl, h'⟩)
      · exact .inr ⟨h, h'⟩
theorem ST.reach_append (s : ST) (a b : List Int) : s.reach (a ++ b) = (s.reach a).reach b := by
  unfold ST.reach
  exact List.foldl_append
/-- The first k of the found ones have been followed. -/
structure FT.Inv (t : MT) (q : FT) (k : Nat) : Prop where
  good : q.s.Good t.ob.length
  wpos : ∀ key, ∀ v ∈ q.wm key, 0 ≤ v ∧ v ≤ (t.ob.length : Int)
  kle : k ≤ q.s.fs.length
  just : ∀ x ∈ q.s.fs, t.K x
  wjust : ∀ key v, v ∈ q.wm key → v ≠ 0 → t.K key → t.K v
  root : ∀ x ∈ t.roots, x ≠ 0 → x ∈ q.s.fs
  strong : ∀ j, j < k → ∀ y ∈ t.strong (q.s.fs.getD j 0), y ≠ 0 → y ∈ q.s.fs
  eph : ∀ j, j < k → (t.obj (q.s.fs.getD j 0)).k = 2 → t.rf (q.s.fs.getD j 0) 1 ≠ 0 → t.rf (q.s.fs.getD j 0) 1 ∈ q.s.fs ∨ (t.rf (q.s.fs.getD j 0) 1 ∈ q.wm (t.rf (q.s.fs.getD j 0) 0) ∧ ∀ j', j' < k → q.s.fs.getD j' 0 ≠ t.rf (q.s.fs.getD j 0) 0)
theorem MT.Ok.rfs {t : MT} (ok : t.Ok) {x : Int} (hx : 1 ≤ x ∧ x ≤ (t.ob.length : Int)) {i : Nat} (hi : i < (t.obj x).r) : 0 ≤ t.rf x i ∧ t.rf x i ≤ (t.ob.length : Int) := by
  have h1 : x.toNat - 1 < t.ob.length := by omega
  exact ok.irf _ i h1 hi
theorem MT.Ok.refs_in {t : MT} (ok : t.Ok) {x : Int} (hx : 1 ≤ x ∧ x ≤ (t.ob.length : Int)) : ∀ y ∈ t.refl x, 0 ≤ y ∧ y ≤ (t.ob.length : Int) := by
  intro y hy
  unfold MT.refl at hy
  obtain ⟨i, hi, rfl⟩ := List.mem_map.1 hy
  exact ok.rfs hx (List.mem_range.1 hi)
theorem MT.Ok.strong_in {t : MT} (ok : t.Ok) {x : Int} (hx : 1 ≤ x ∧ x ≤ (t.ob.length : Int)) : ∀ y ∈ t.strong x, 0 ≤ y ∧ y ≤ (t.ob.length : Int) :=
  fun y hy => ok.refs_in hx y (List.drop_subset _ _ hy)
theorem MT.Ok.eph2 {t : MT} (ok : t.Ok) {x : Int} (hx : 1 ≤ x ∧ x ≤ (t.ob.length : Int)) (hk : (t.obj x).k = 2) : 2 ≤ (t.obj x).r := by
  have h1 : x.toNat - 1 < t.ob.length := by omega
  have := of_decide_eq_true (ok.sh _ h1)
  unfold MT.obj at hk ⊢
  omega
theorem getD_app {a b : List Int} {j : Nat} (h : j < a.length) : (a ++ b).getD j 0 = a.getD j 0 := by
  rw [List.getD_eq_getElem?_getD, List.getD_eq_getElem?_getD, List.getElem?_append_left h]
theorem getD_mem {a : List Int} {j : Nat} (h : j < a.length) : a.getD j 0 ∈ a := by
  rw [List.getD_eq_getElem?_getD, List.getElem?_eq_getElem h]
  exact List.getElem_mem h
theorem MT.Ok.start {t : MT} (ok : t.Ok) : FT.Inv t t.start 0 := by
  have hg : (⟨List.replicate (t.ob.length + 1) false, []⟩ : ST).Good t.ob.length := by
    refine ⟨by simp, fun i => ?_, by simp, by simp, by simp⟩
    simp only [List.getD_eq_getElem?_getD, List.getElem?_replicate, List.not_mem_nil, iff_false]
    split <;> simp
  have hr : ∀ z ∈ t.roots, 0 ≤ z ∧ z ≤ (t.ob.length : Int) := by
    intro z hz
    unfold MT.roots at hz
    rcases List.mem_append.1 hz with hz | hz
    · rcases List.mem_append.1 hz with hz | hz
      · exact ok.isl z hz
      · exact ok.igl z hz
    · have := ok.iqu z hz; omega
  obtain ⟨h1, _, h3⟩ := hg.reach hr
  refine ⟨h1, by simp [MT.start], by simp, fun x hx => ?_, by simp [MT.start], fun x hx h0 => (h3 x).2 (.inr ⟨hx, h0⟩), by omega, by omega⟩
  rcases (h3 x).1 hx with h | ⟨h, h0⟩
  · cases h
  · exact .root h h0
theorem FT.Inv.more {t : MT} {q : FT} {k : Nat} (ok : t.Ok) (I : FT.Inv t q k) (hk : k < q.s.fs.length) : FT.Inv t (q.follow t (q.s.fs.getD k 0)) (k + 1) := by
  have hxm : q.s.fs.getD k 0 ∈ q.s.fs := getD_mem hk
  have hK : t.K (q.s.fs.getD k 0) := I.just _ hxm
  have hp := I.good.pos _ hxm
  obtain ⟨x, hx⟩ : ∃ x, x = q.s.fs.getD k 0 := ⟨_, rfl⟩
  rw [← hx] at hxm hK hp ⊢
  obtain ⟨a1, ⟨e1, ae⟩, a3⟩ := I.good.reach (ok.strong_in hp)
  obtain ⟨b1, ⟨e2, be⟩, b3⟩ := a1.reach (I.wpos x)
  have me : ∃ e, (q.mid t x).fs = q.s.fs ++ e := ⟨e1 ++ e2, by unfold FT.mid; rw [be, ae, List.append_assoc]⟩
  have mm : ∀ y, y ∈ (q.mid t x).fs ↔ y ∈ q.s.fs ∨ (y ∈ t.strong x ∧ y ≠ 0) ∨ (y ∈ q.wm x ∧ y ≠ 0) := by
    intro y
    show y ∈ ((q.s.reach (t.strong x)).reach (q.wm x)).fs ↔ _
    rw [b3, a3, or_assoc]
  have mg : (q.mid t x).Good t.ob.length := b1
  have mj : ∀ y ∈ (q.mid t x).fs, t.K y := by
    intro y hy
    rcases (mm y).1 hy with h | ⟨h, h0⟩ | ⟨h, h0⟩
    · exact I.just y h
    · exact .strong hK h h0
    · exact I.wjust x y h h0 hK
  -- whatever is found besides, and whatever waits besides
  have main : ∀ (s' : ST) (wm' : Int → List Int), s'.Good t.ob.length → (∃ e, s'.fs = (q.mid t x).fs ++ e) → (∀ y ∈ s'.fs, t.K y) → (∀ key, ∀ v ∈ q.wm key, v ∈ wm' key) →
      (∀ key, ∀ v ∈ wm' key, 0 ≤ v ∧ v ≤ (t.ob.length : Int)) → (∀ key v, v ∈ wm' key → v ≠ 0 → t.K key → t.K v) →
      ((t.obj x).k = 2 → t.rf x 1 ≠ 0 → t.rf x 1 ∈ s'.fs ∨ (t.rf x 1 ∈ wm' (t.rf x 0) ∧ t.rf x 0 ∉ q.s.fs)) → FT.Inv t ⟨s', wm'⟩ (k + 1) := by
    intro s' wm' hg he hj hw hwp hwj hx2
    obtain ⟨e, he⟩ : ∃ e, s'.fs = q.s.fs ++ e := by
      obtain ⟨e, he⟩ := he
      obtain ⟨f, hf⟩ := me
      exact ⟨f ++ e, by rw [he, hf, List.append_assoc]⟩
    have hsub : ∀ y ∈ q.s.fs, y ∈ s'.fs := fun y hy => by rw [he]; exact List.mem_append_left _ hy
    have hsub2 : ∀ y ∈ (q.mid t x).fs, y ∈ s'.fs := fun y hy => by obtain ⟨f, hf⟩ := ‹∃ e, s'.fs = (q.mid t x).fs ++ e›; rw [hf]; exact List.mem_append_left _ hy
    have hat : ∀ j, j < q.s.fs.length → s'.fs.getD j 0 = q.s.fs.getD j 0 := fun j hj => by rw [he]; exact getD_app hj
    refine ⟨hg, hwp, ?_, hj, hwj, fun y hy h0 => hsub y (I.root y hy h0), ?_, ?_⟩
    · show k + 1 ≤ s'.fs.length
      rw [he, List.length_append]; omega
    · intro j hjk y
      show y ∈ t.strong (s'.fs.getD j 0) → _
      rw [hat j (by omega)]
      intro hy h0
      rcases Nat.lt_or_ge j k with h | h
      · exact hsub y (I.strong j h y hy h0)
      · obtain rfl : j = k := by omega
        rw [← hx] at hy
        exact hsub2 y ((mm y).2 (.inr (.inl ⟨hy, h0⟩)))
    · intro j hjk
      show (t.obj (s'.fs.getD j 0)).k = 2 → t.rf (s'.fs.getD j 0) 1 ≠ 0 → t.rf (s'.fs.getD j 0) 1 ∈ s'.fs ∨ (t.rf (s'.fs.getD j 0) 1 ∈ wm' (t.rf (s'.fs.getD j 0) 0) ∧ ∀ j', j' < k + 1 → s'.fs.getD j' 0 ≠ t.rf (s'.fs.getD j 0) 0)
      rw [hat j (by omega)]
      intro h2 h0
      rcases Nat.lt_or_ge j k with h | h
      · rcases I.eph j h h2 h0 with h3 | ⟨h3, h4⟩
        · exact .inl (hsub _ h3)
        · by_cases hxe : x = t.rf (q.s.fs.getD j 0) 0
          · exact .inl (hsub2 _ ((mm _).2 (.inr (.inr ⟨by rw [hxe]; exact h3, h0⟩))))
          · refine .inr ⟨hw _ _ h3, fun j' hj' => ?_⟩
            rw [hat j' (by omega)]
            rcases Nat.lt_or_ge j' k with h5 | h5
            · exact h4 j' h5
            · obtain rfl : j' = k := by omega
              rw [← hx]
              exact hxe
      · obtain rfl : j = k := by omega
        rw [← hx] at h2 h0 ⊢
        rcases hx2 h2 h0 with h3 | ⟨h3, h4⟩
        · exact .inl h3
        · refine .inr ⟨h3, fun j' hj' => ?_⟩
          rw [hat j' (by omega)]
          exact fun e => h4 (e ▸ getD_mem (by omega))
  unfold FT.follow
  by_cases h2 : (t.obj x).k = 2
  · rw [if_pos h2]
    have hr := ok.eph2 hp h2
    have p0 := ok.rfs hp (i := 0) (by omega)
    have p1 := ok.rfs hp (i := 1) (by omega)
    have hkey : (q.mid t x).ks.getD (t.rf x 0).toNat false = true ↔ t.rf x 0 ∈ (q.mid t x).fs := by
      rw [mg.mem, Int.toNat_of_nonneg p0.1]
    by_cases hc : (q.mid t x).ks.getD (t.rf x 0).toNat false = true
    · rw [if_pos hc]
      obtain ⟨c1, ce, c3⟩ := mg.reach (zs := [t.rf x 1]) (by simpa using p1)
      refine main _ _ c1 ce (fun y hy => ?_) (fun _ _ h => h) I.wpos I.wjust (fun _ h0 => .inl ((c3 _).2 (.inr ⟨by simp, h0⟩)))
      rcases (c3 y).1 hy with h | ⟨h, h0⟩
      · exact mj y h
      · rw [List.mem_singleton] at h
        subst h
        exact .eph hK h2 (mj _ (hkey.1 hc)) h0
    · rw [if_neg hc]
      have hn : t.rf x 0 ∉ (q.mid t x).fs := fun h => hc (hkey.2 h)
      refine main _ _ mg ⟨[], by simp⟩ mj (fun key v hv => ?_) (fun key v hv => ?_) (fun key v hv h0 hkk => ?_) (fun _ h0 => .inr ⟨?_, fun h => hn ?_⟩)
      · unfold wput; split
        · rename_i e; subst e; exact List.mem_append_left _ hv
        · exact hv
      · unfold wput at hv
        split at hv
        · rcases List.mem_append.1 hv with h | h
          · exact I.wpos _ v h
          · rw [List.mem_singleton] at h; subst h; exact p1
        · exact I.wpos _ v hv
      · unfold wput at hv
        split at hv
        · rename_i e
          rcases List.mem_append.1 hv with h | h
          · exact I.wjust _ v h h0 (e ▸ hkk)
          · rw [List.mem_singleton] at h; subst h; exact .eph hK h2 (e ▸ hkk) h0
        · exact I.wjust _ v hv h0 hkk
      · unfold wput; rw [if_pos rfl]; simp
      · exact (mm _).2 (.inl h)
  · rw [if_neg h2]
    exact main _ _ mg ⟨[], by simp⟩ mj (fun _ _ h => h) I.wpos I.wjust (fun h => absurd h h2)
theorem FT.Inv.runs {t : MT} {q : FT} (ok : t.Ok) (I : FT.Inv t q 0) (k : Nat) : FT.Inv t (q.run t k) (min k (q.run t k).s.fs.length) := by
  induction k with
  | zero => simpa [FT.run] using I
  | succ k ih =>
    simp only [FT.run]
    unfold FT.step
    by_cases h : k < (q.run t k).s.fs.length
    · rw [if_pos h]
      rw [Nat.min_eq_left (by omega)] at ih
      have := ih.more ok h
      rw [Nat.min_eq_left this.kle]
      exact this
    · rw [if_neg h]
      rw [Nat.min_eq_right (by omega)] at ih ⊢
      exact ih
theorem ST.Good.fits {s : ST} {n : Nat} (h : s.Good n) : s.fs.length ≤ n := by
  have h0 : s.ks.getD 0 false = false := by
    cases hc : s.ks.getD 0 false
    · rfl
    · have := h.pos _ ((h.mem 0).1 hc); simp at this
  have hlt : 0 < s.ks.length := by rw [h.len]; omega
  have hp : 0 < s.ks.count false := by
    refine List.count_pos_iff.2 ?_
    have : s.ks[0] = false := by simpa [List.getD_eq_getElem?_getD, List.getElem?_eq_getElem hlt] using h0
    exact this ▸ List.getElem_mem hlt
  have := h.cnt
  omega
/-- What a search that is over has found: just what is kept. -/
theorem FT.Inv.over {t : MT} {q : FT} {k : Nat} (ok : t.Ok) (I : FT.Inv t q k) (hk : q.s.fs.length ≤ k) : ∀ x, x ∈ q.s.fs ↔ t.K x := by
  intro x
  refine ⟨I.just x, fun h => ?_⟩
  have at_ : ∀ x ∈ q.s.fs, ∃ j, j < k ∧ q.s.fs.getD j 0 = x := fun x hx => by
    obtain ⟨j, hj, e⟩ := List.mem_iff_getElem.1 hx
    exact ⟨j, by omega, by rw [List.getD_eq_getElem?_getD, List.getElem?_eq_getElem hj]; exact e⟩
  induction h with
  | root h h0 => exact I.root _ h h0
  | strong h hy h0 ih =>
    obtain ⟨j, hj, e⟩ := at_ _ ih
    exact I.strong j hj _ (e ▸ hy) h0
  | eph h h2 hkey h0 ih ihk =>
    obtain ⟨j, hj, e⟩ := at_ _ ih
    rcases I.eph j hj (e ▸ h2) (e ▸ h0) with h3 | ⟨_, h4⟩
    · exact e ▸ h3
    · obtain ⟨j', hj', e'⟩ := at_ _ ihk
      exact absurd (e'.trans (by rw [e])) (h4 j' hj')
theorem MT.Ok.kb_len {t : MT} (ok : t.Ok) : t.kb.length = t.ob.length + 1 := (ok.start.runs ok _).good.len
theorem MT.Ok.kb_iff {t : MT} (ok : t.Ok) (i : Nat) : t.kb.getD i false = true ↔ t.K (i : Int) := by
  have I := ok.start.runs ok (t.ob.length + 1)
  have hf := I.good.fits
  unfold MT.kb
  rw [I.good.mem]
  exact I.over ok (by omega) _
theorem MT.K.pos {t : MT} (ok : t.Ok) {x : Int} (h : t.K x) : 1 ≤ x ∧ x ≤ (t.ob.length : Int) := by
  have I := ok.start.runs ok (t.ob.length + 1)
  have hf := I.good.fits
  exact I.good.pos x ((I.over ok (by omega) x).2 h)
/-- A run that is over stays as it is. -/
theorem FT.run_over {t : MT} {q : FT} {k : Nat} (h : (q.run t k).s.fs.length ≤ k) (j : Nat) : q.run t (k + j) = q.run t k := by
  induction j with
  | zero => rfl
  | succ j ih =>
    show (q.run t (k + j)).step t (k + j) = _
    rw [ih]
    unfold FT.step
    rw [if_neg (by omega)]
end Go.Proofs.YtbiompmklijgoaaDoor
