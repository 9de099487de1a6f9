/-
  The contract of package model's follow. Conditions: those that stand in each theorem.
-/
import Derived.Test.YtbiompmklijgoaaDoorPGE
import Derived.BigRegion
namespace Go.Proofs.YtbiompmklijgoaaDoor
set_option linter.unusedVariables false
set_option linter.unusedSimpArgs false
open Go.RowKit Go.Deep Go.Maps Go.WideElems Go.MapKept

/-- A search over a model, in memory. -/
structure FS (W : World) (b : MB) (t : MT) (g gk bm B : Nat) (fv : Value) (nw : Nat) (D : DataW Unit) (q : FT) : Prop where
  R : MR W b t
  S : SM W g gk b.g B (t.ob.length + 1) fv (.map (some bm)) q.s
  G : WG W bm nw (SB g gk fv) D
  M : WMR D q.wm
  lo : ∀ y ∈ b.all, y < B
  hi : B ≤ g ∧ B ≤ gk ∧ B ≤ bm
  sz : B ≤ W.heap.size
  wp : ∀ key, ∀ v ∈ q.wm key, 0 ≤ v ∧ v ≤ (t.ob.length : Int)
section
variable {w w' W V : World} {b : MB} {t : MT} {g gk bm B nw : Nat} {fv : Value} {D : DataW Unit} {q : FT}
theorem FS.sb (F : FS W b t g gk bm B fv nw D q) : ∀ x ∈ SB g gk fv, B ≤ x := by
  intro x hx
  simp only [SB, List.mem_cons, Option.mem_toList] at hx
  rcases hx with rfl | rfl | hx
  · exact F.hi.1
  · exact F.hi.2.1
  · rcases F.S.F.2 with ⟨h, _⟩ | ⟨g', cap, cur, hv, hg, _⟩
    · rw [h] at hx; cases hx
    · rw [hv] at hx; cases hx; exact hg
theorem FS.kp0 (F : FS W b t g gk bm B fv nw D q) (k : Kp [] W V) : FS V b t g gk bm B fv nw D q :=
  ⟨F.R.kp0 k, F.S.kp0 k, F.G.kp (k.mono (by simp)), F.M, F.lo, F.hi, Nat.le_trans F.sz k.size, F.wp⟩
theorem FS.below (F : FS W b t g gk bm B fv nw D q) (k : Kp (SB g gk fv) W V) : Below B W V := k.below F.sz F.sb
theorem FS.reach (F : FS W b t g gk bm B fv nw D q) {zs : List Int} (r : ReachP W g gk b.g B (t.ob.length + 1) fv (.map (some bm)) (q.s.reach zs) V) : ∃ fv', FS V b t g gk bm B fv' nw D ⟨q.s.reach zs, q.wm⟩ ∧ Below B W V := by
  obtain ⟨fv', S, G, K, N⟩ := F.G.reach r
  have hb := F.below K
  exact ⟨fv', ⟨F.R.below hb F.lo, S, G, F.M, F.lo, F.hi, Nat.le_trans F.sz K.size, F.wp⟩, hb⟩
theorem Src.one {S : List Nat} (hS : ∀ x ∈ S, x < W.heap.size) (y : Int) : Src (W.alloc (.cells #[.int .i64 y] 3)) S (some ⟨W.heap.size, 0, none⟩) [y] := by
  intro i hi
  obtain rfl : i = 0 := by simp at hi; omega
  refine ⟨_, 0, rfl, fun hm => by have := hS _ hm; omega, ?_⟩
  exact (Blk.new W 3 #[.int .i64 y]).cell 0
theorem FS.sblt (F : FS W b t g gk bm B fv nw D q) : ∀ x ∈ SB g gk fv, x < W.heap.size := by
  intro x hx
  simp only [SB, List.mem_cons, Option.mem_toList] at hx
  rcases hx with rfl | rfl | hx
  · exact F.S.box.lt
  · exact F.S.K.lt
  · exact own_lt F.S.F _ hx
set_option maxRecDepth 100000 in
theorem run_slice_lo (W : World) (A : Option Addr) (r c lo : Nat) (h1 : lo ≤ r) : (Instr.sliceAt 45 (.slice A r c) (some (.int .i64 (lo : Int))) none none).run Tryd.prog W = .ok (.slice (if c = lo then A else A.map (·.add lo)) (r - lo) (c - lo)) W := by
  obtain ⟨i0, hi0, hz0, hz1, hz2⟩ := info_parts infoInt
  have e1 : (0 : Int) ≤ (lo : Int) ∧ (lo : Int) ≤ (r : Int) := by omega
  simp [Instr.sliceAt, Instr.slice, Instr.sliceBounds, Instr.sliceBound, run_underlying Tryd.underlying45, asIntOf, sizeOf, typeInfo, hi0, hz1, h1]
set_option maxRecDepth 100000 in
theorem wpList_slice_lo {ops : Array Oper} {rest : List Oper} {o : Oper} {a : Act} {Q : Exit → Act → World → Prop} (hg : o.guard = none) (x l : Operand) (hop : o.op = Op.slice 45 x (some l) none none) {A : Option Addr} {r c lo : Nat} (hx : a.eval x = .slice A r c) (hl : a.eval l = .int .i64 (lo : Int)) (h1 : lo ≤ r)
    (hK : ∀ A', A' = (if c = lo then A else A.map (·.add lo)) → wpList Tryd.prog ops Q rest (a.put o.dst (.slice A' (r - lo) (c - lo))) W) : wpList Tryd.prog ops Q (o :: rest) a W := by
  refine wpList_plain hg fun K' hK' => ?_
  unfold Oper.wp
  simp [execOp, hop, hx, hl, run_slice_lo W A r c lo h1, Result.andThen]
  exact hK' _ _ (hK _ rfl)
/-- Where references lie. -/
theorem VS.cells (R : MR W b t) {x : Int} (hx : t.has x = true) {A : Option Addr} {c : Nat} (hv : VS b.wv (t.obj x).f (t.obj x).r (.slice A (t.obj x).r c)) {i : Nat} (hi : i < (t.obj x).r) :
    ∃ a o, A = some ⟨a, o, none⟩ ∧ a ∈ b.all ∧ W.cell? ⟨a, o + i, none⟩ = some (.int .i64 (t.rf x i)) := by
  obtain ⟨A', c', e, h1, h2, hA⟩ := hv
  injection e with e1 e2 e3
  subst e1 e3
  obtain ⟨g0, n0, c0, hwv, hA2⟩ := hA (by omega)
  have hfit := MR.fit_of2 R hx
  exact ⟨_, _, hA2, by simp [MB.all, hwv, Value.ownBlock], R.dat2 hwv (by omega)⟩
theorem FS.src (F : FS W b t g gk bm B fv nw D q) {x : Int} (hx : t.has x = true) {A A' : Option Addr} {c lo : Nat} (hv : VS b.wv (t.obj x).f (t.obj x).r (.slice A (t.obj x).r c)) (hc : (t.obj x).r ≤ c) (hA : A' = (if c = lo then A else A.map (·.add lo))) : Src W (SB g gk fv) A' ((t.refl x).drop lo) := by
  intro i hi
  have hl : ((t.refl x).drop lo).length = (t.obj x).r - lo := by simp [MT.refl]
  rw [hl] at hi
  obtain ⟨a, o, rfl, h3, h4⟩ := VS.cells F.R hx hv (i := lo + i) (by omega)
  rw [if_neg (by omega)] at hA
  refine ⟨a, o + lo, ?_, fun hm => by have := F.sb a hm; have := F.lo a h3; omega, ?_⟩
  · rw [hA]; unfold Addr.add; by_cases h0 : lo = 0 <;> simp [h0]
  · rw [Nat.add_assoc, h4]
    unfold MT.refl
    rw [List.getD_eq_getElem?_getD, List.getElem?_drop, List.getElem?_map, List.getElem?_range (by omega)]
    rfl
theorem MT.strong_len (t : MT) (x : Int) : (t.strong x).length = (t.obj x).r - looseN (t.obj x).k := by simp [MT.strong, MT.refl]
theorem LZ.at_ (h : LZ W) {k : Nat} (hk : k < 4) : W.cell? ⟨0, k, none⟩ = some (.int .i64 (looseN k : Int)) := by
  obtain ⟨h0, h1, h2, h3⟩ := h
  obtain rfl | rfl | rfl | rfl : k = 0 ∨ k = 1 ∨ k = 2 ∨ k = 3 := by omega
  · exact h0
  · exact h1
  · exact h2
  · exact h3
theorem MR.kinds (R : MR W b t) {x : Int} (hx : t.has x = true) : (t.obj x).k < 4 ∧ looseN (t.obj x).k ≤ (t.obj x).r ∧ (t.obj x).r ≤ 15 ∧ ((t.obj x).k = 2 → 2 ≤ (t.obj x).r) := by
  obtain ⟨i, rfl, hi, ho⟩ := MT.has_nat hx
  rw [ho]
  have := of_decide_eq_true (R.ok.sh i hi)
  unfold looseN
  refine ⟨by omega, ?_, by omega, by omega⟩
  split
  · omega
  · split <;> omega
set_option maxRecDepth 100000 in
theorem zeroRow (W : World) : (zeroValue 45).run Tryd.prog W = .ok (.slice none 0 0) W := by kernel_rfl
theorem wfInt {k : Int} (h : 0 ≤ k ∧ k ≤ 1000000) : (Lit.int .i64 k).wf = true := by simp [Lit.wf, IntKind.min, IntKind.max, IntKind.signed, IntKind.bits]; omega
theorem WG.lt_ {S : List Nat} (h : WG W bm nw S D) : bm < W.heap.size := by
  obtain ⟨es, clock, hb, _⟩ := h.own
  exact (Array.getElem?_eq_some_iff.1 hb).1
theorem keyInt {k : Int} (h : 0 ≤ k ∧ k ≤ 1000000) : keyOf Tryd.prog 3 (.int .i64 k) = some (.int .i64 k) := keyOf_int_mk Tryd.underlying3 (by simp [Lit.wf, IntKind.min, IntKind.max, IntKind.signed, IntKind.bits]; omega)
theorem FS.waits {w7 w9 w10 : World} (F : FS w7 b t g gk bm B fv nw D q) {key vz : Int} {v v' : Value} (hoi : w7.ownsInts (bm + 1) 3 .i64 v (q.wm key)) (hsh : ∀ y, v.ownBlock = some y → y ∉ SB g gk fv)
    (hgr : w7.grownBy w9 v.ownBlock) (ho : w9.ownsInts (bm + 1) 3 .i64 v' (q.wm key ++ [vz])) (hown : w10.ownsGroups Tryd.prog 3 (bm + 1) 3 .i64 bm (nw + 1) (D.put (.int .i64 key) (rowDatum .i64 v' (q.wm key ++ [vz])))) (hgr2 : w9.grownBy w10 (some bm))
    (hs2 : w10.Shuns bm (fun x => x ∈ SB g gk fv)) (hv : 0 ≤ vz ∧ vz ≤ (t.ob.length : Int)) :
    FS w10 b t g gk bm B fv (nw + 1) (D.put (.int .i64 key) (rowDatum .i64 v' (q.wm key ++ [vz]))) ⟨q.s, wput q.wm key vz⟩ ∧ Below B w7 w10 := by
  have k : Kp (v.ownBlock.toList ++ [bm]) w7 w10 := (Kp.of_grown hgr).trans (Kp.of_grown hgr2) (fun x hx => .inl (List.mem_append_left _ hx)) (fun x hx => .inl (List.mem_append_right _ (by simpa [eq_comm] using hx)))
  have hge : ∀ x ∈ v.ownBlock.toList ++ [bm], B ≤ x := by
    intro x hx
    rcases List.mem_append.1 hx with h | h
    · rcases hoi.1.2 with ⟨h1, _⟩ | ⟨g', cap, cur, h1, hg, _⟩
      · rw [h1] at h; cases h
      · rw [h1] at h
        simp [Value.ownBlock] at h
        have := F.hi.2.2
        omega
    · simp at h; subst h; exact F.hi.2.2
  have hoff : ∀ x ∈ SB g gk fv, x ∉ v.ownBlock.toList ++ [bm] := by
    intro x hx hm
    rcases List.mem_append.1 hm with h | h
    · exact hsh x (by simpa using h) hx
    · simp at h; subst h; exact F.G.off hx
  have hb := k.below F.sz hge
  exact ⟨⟨F.R.below hb F.lo, F.S.kp k (hoff _ (by simp [SB])) (hoff _ (by simp [SB])) (fun x hx => hoff x (by simp [SB, hx])), ⟨hown, hs2, F.G.off⟩, F.M.put ho, F.lo, F.hi, Nat.le_trans F.sz k.size, fun k2 v2 h2 => by
    show 0 ≤ v2 ∧ v2 ≤ (t.ob.length : Int)
    have h3 : v2 ∈ wput q.wm key vz k2 := h2
    unfold wput at h3
    split at h3
    · rcases List.mem_append.1 h3 with h | h
      · exact F.wp _ _ h
      · rw [List.mem_singleton] at h; subst h; exact hv
    · exact F.wp _ _ h3⟩, hb⟩
/-- What following leaves. -/
def FolP (W : World) (b : MB) (t : MT) (g gk bm B nw : Nat) (q' : FT) (V : World) : Prop := ∃ fv' nw' D', FS V b t g gk bm B fv' nw' D' q' ∧ nw' ≤ nw + 1 ∧ Below B W V
set_option maxRecDepth 100000 in
set_option maxHeartbeats 400000 in
theorem m_follow (F : FS w b t g gk bm B fv nw D q) (hnw : nw ≤ 1000000) {x : Int} (hx : t.has x = true) :
    Calls Tryd.prog 82 #[.pointer (some ⟨g, 0, none⟩), .int .i64 x] w fun e w' => e = .returned (.tuple #[]) ∧ FolP w b t g gk bm B nw (q.follow t x) w' := by
  have HF := hid F
  have HX := hid hx
  obtain ⟨o, ho⟩ : ∃ o, o = t.obj x := ⟨_, rfl⟩
  have HO := hid ho
  obtain ⟨hk4, hlo, hr15, hk2⟩ := F.R.kinds hx
  rw [← ho] at hk4 hlo hr15 hk2
  have hk4i : (o.k : Int) < 4 := by omega
  have hlo2 : (looseN o.k : Int) ≤ (o.r : Int) := by omega
  have HKE := hid hk2
  have HLO := hid hlo
  have hob := F.R.ok.small.1
  have hst := F.R.ok.strong_in (x := x) (of_decide_eq_true hx)
  have hsl := t.strong_len x
  rw [← ho] at hsl
  have HST := hid hst
  have HSL := hid hsl
  have HK4 := hid hk4
  have HXB : Hid (0 ≤ x ∧ x ≤ 1000000) := by
    have := of_decide_eq_true hx
    exact ⟨by omega, by omega⟩
  clear F hx ho hk2 hst hsl hk4
  obtain ⟨i0, hi0, hz0, hz1, hz2⟩ := info_parts infoInt
  go_enter Tryd.func82, Tryd.ntmps82
  go_upto_region 0 with fail
  refine wp_region_held_drew (S := fun wz => Blk wz g 108 #[.pointer (some ⟨b.g, 0, none⟩), .slice (some ⟨gk, 0, none⟩) (t.ob.length + 1) (t.ob.length + 1), fv, .map (some bm)]) (by kernel_rfl) ?_ (fun hHeld => ?_)
  · exact (HF.out.S.box.kp (Kp.draw _ 1) (by simp) : Blk _ _ _ _)
  refine wpAnyH_take (i := 0) (v := _) rfl (by kernel_rfl) (by kernel_rfl) (by kernel_rfl) (fun _ _ _ h => h) (Or.inl ⟨by rfl, by (intro wz hSw; go_simp; try with_reducible rfl)⟩) (by assumption) ?_
  refine wpAnyH_take (i := 1) (v := _) rfl (by kernel_rfl) (by kernel_rfl) (by kernel_rfl) (fun _ _ _ h => h) (Or.inl ⟨by rfl, by (intro wz hSw; go_simp; try with_reducible rfl)⟩) (by assumption) ?_
  refine wpAnyH_take (i := 2) (v := _) rfl (by kernel_rfl) (by kernel_rfl) (by kernel_rfl) (fun _ _ _ h => h) (Or.inl ⟨by rfl, by (intro wz hSw; go_simp; try with_reducible rfl)⟩) (by assumption) ?_
  refine wpAnyH_take (i := 3) (v := _) rfl (by kernel_rfl) (by kernel_rfl) (by kernel_rfl) (fun _ _ _ h => h) (Or.inl ⟨by rfl, by (intro wz hSw; have hcj : wz.cell? ⟨g, 0, none⟩ = some (.pointer (some ⟨b.g, 0, none⟩)) := hSw.cell 0; go_simp; try with_reducible rfl)⟩) (by assumption) ?_
  refine wpAnyH_take (i := 4) (v := _) rfl (by kernel_rfl) (by kernel_rfl) (by kernel_rfl) (fun _ _ _ h => h) (Or.inl ⟨by rfl, by (intro wz hSw; go_simp; try with_reducible rfl)⟩) (by assumption) ?_
  refine wpAnyH_take (i := 7) (v := _) rfl (by kernel_rfl) (by kernel_rfl) (by kernel_rfl) (fun _ _ _ h => h) (Or.inl ⟨by rfl, by (intro wz hSw; go_simp; try with_reducible rfl)⟩) (by assumption) ?_
  refine wpAnyH_take (i := 8) (v := _) rfl (by kernel_rfl) (by kernel_rfl) (by kernel_rfl) (fun _ _ _ h => h) (Or.inl ⟨by rfl, by (intro wz hSw; go_simp; try with_reducible rfl)⟩) (by assumption) ?_
  refine wpAnyH_take (i := 9) (v := _) rfl (by kernel_rfl) (by kernel_rfl) (by kernel_rfl) (fun _ _ _ h => h) (Or.inl ⟨by rfl, by (intro wz hSw; go_simp; try with_reducible rfl)⟩) (by assumption) ?_
  refine wpAnyH_take (i := 10) (v := _) rfl (by kernel_rfl) (by kernel_rfl) (by kernel_rfl) (fun _ _ _ h => h) (Or.inl ⟨by rfl, by (intro wz hSw; have hcj : wz.cell? ⟨g, 0, none⟩ = some (.pointer (some ⟨b.g, 0, none⟩)) := hSw.cell 0; go_simp; try with_reducible rfl)⟩) (by assumption) ?_
  refine wpAnyH_take (i := 11) (v := _) rfl (by kernel_rfl) (by kernel_rfl) (by kernel_rfl) (fun _ _ _ h => h) (Or.inl ⟨by rfl, by (intro wz hSw; go_simp; try with_reducible rfl)⟩) (by assumption) ?_
  refine wpAnyH_ready (rs := [5]) (by kernel_rfl) (by simp) ?_
  refine AllReadyH.cons rfl (fun K hK => ?_) AllReadyH.nil
  go_simp
  refine (m_shape (HF.out.kp0 (Kp.draw _ 1)).R HX.out).mono ?_
  rintro e w2 ⟨rfl, K2⟩
  have HK2 := hid ((Kp.draw w 1).chain K2)
  have HK2' := hid K2
  clear K2
  rw [← HO.out]
  unfold OB.shv
  try go_wp2_with fail
  refine hK.out _ _ ?_ (fun hHeld => ?_)
  · exact hHeld.kp HK2'.out (by simp)
  clear hK K
  refine wpAnyH_take (i := 6) (v := .int .i64 (o.k : Int)) rfl (by kernel_rfl) (by kernel_rfl) (by kernel_rfl) (fun _ _ _ h => h) (Or.inl ⟨by rfl, by (intro wz hSw; go_simp; rw [fld2]; rfl)⟩) (by assumption) ?_
  refine wpAnyH_ready (rs := [12]) (by kernel_rfl) (by simp) ?_
  refine AllReadyH.cons rfl (fun K hK => ?_) AllReadyH.nil
  go_simp
  refine (m_refs (HF.out.kp0 HK2.out).R HX.out).mono ?_
  rintro e w3 ⟨v, rfl, hv, K3⟩
  have HF3 := hid (HF.out.kp0 (HK2.out.chain K3))
  have HK3' := hid K3
  have HK3W := hid (HK2.out.chain K3)
  obtain ⟨A, c, rfl, hc1, hc2, _⟩ := id hv
  rw [← HO.out] at hc1 ⊢
  have HV := hid hv
  rw [← HO.out] at HV
  have HC1 := hid hc1
  unfold maxLen at hc2
  clear hv K3
  try go_wp2_with fail
  refine hK.out _ _ ?_ (fun hHeld => ?_)
  · exact hHeld.kp HK3'.out (by simp)
  clear hK K
  refine wpAnyH_ready (rs := [13]) (by kernel_rfl) (by simp) ?_
  refine AllReadyH.cons rfl (fun K hK => ?_) AllReadyH.nil
  go_simp
  refine hK.out _ _ ?_ (fun hHeld => ?_)
  · exact hHeld
  clear hK K
  refine wpAnyH_ready (rs := [14]) (by kernel_rfl) (by simp) ?_
  refine AllReadyH.cons rfl (fun K hK => ?_) AllReadyH.nil
  go_simp
  refine hK.out _ _ ?_ (fun hHeld => ?_)
  · exact hHeld
  clear hK K
  refine wpAnyH_done (by kernel_rfl) ?_ _
  clear HK3'
  have hl := HF3.out.R.lz.at_ HK4.out
  have HRE : Hid (∀ (A' : Option Addr) (c' : Nat), A' = (if c = looseN o.k then A else A.map (·.add (looseN o.k))) → Calls Tryd.prog 81 #[.pointer (some ⟨g, 0, none⟩), .slice A' (o.r - looseN o.k) c'] w3 fun e w' => e = .returned (.tuple #[]) ∧ ReachP w3 g gk b.g B (t.ob.length + 1) fv (.map (some bm)) (q.s.reach (t.strong x)) w') := fun A' c' hA => by
    rw [← HSL.out]
    have hsrc := HF3.out.src HX.out (lo := looseN o.k) (by rw [← HO.out]; exact HV.out) (by rw [← HO.out]; exact HC1.out) hA
    have hsrc2 : Src w3 (SB g gk fv) A' (t.strong x) := by unfold MT.strong; rw [← HO.out]; exact hsrc
    exact m_reach HF3.out.S (by omega) HF3.out.sz hsrc2 (by rw [HSL.out]; omega) (fun i hi => by have := HST.out _ (getD_mem hi); omega)
  go_wp2_with (fail)
  all_goals
    refine (HRE.out _ _ (by first | (rw [if_neg (by assumption)]; done) | (rw [if_pos (by assumption)]; done) | (split <;> first | rfl | contradiction))).mono ?_
    rintro e w4 ⟨rfl, hre⟩
    obtain ⟨fv4, F4, b4⟩ := HF3.out.reach hre
    have HF4 := hid F4
    have HB4 := hid ((HK3W.out.below HF.out.sz (by simp)).trans b4)
    have cm4 : w4.cell? ⟨g, 3, none⟩ = some (.map (some bm)) := F4.S.box.cell 3
    clear hre F4 b4 HRE hl
    have hnw2 : nw < maxLen := by unfold maxLen; omega
    go_wp2_with (first
      | (refine wpList_lookup_groups_shuns _ rfl (.tmp 32) (.tmp 33) 106 rfl 3 45 3 .i64 (int_keyed Tryd.underlying3) Tryd.underlying106 (zeroRow _) (bm + 1) bm nw D rfl HF4.out.G.own hnw2 (.int .i64 x) (.int .i64 x) rfl (keyInt HXB.out) ?_; intro v zs hat hoi hzl hback hsh)
      | fail)
    have hz : zs = q.wm x := HF4.out.M.look hoi hat
    subst hz
    obtain ⟨A2, c2, rfl, hsrc2⟩ := WG.src hoi (fun y hy => hsh _ HF4.out.G.shun y hy)
    refine (m_reach HF4.out.S (by omega) HF4.out.sz hsrc2 (by omega) (fun i hi => by have h9 : ∀ v ∈ q.wm x, 0 ≤ v ∧ v ≤ (t.ob.length : Int) := HF4.out.wp x; have := h9 _ (getD_mem hi); omega)).mono ?_
    rintro e w5 ⟨rfl, hre⟩
    obtain ⟨fv5, F5, b5⟩ := HF4.out.reach hre
    have HF5 : Hid (FS w5 b t g gk bm B fv5 nw D ⟨q.mid t x, q.wm⟩) := F5
    have HB5 := hid (HB4.out.trans b5)
    clear hre F5 b5 hat hoi hzl hback hsh hsrc2 cm4
    by_cases h2 : o.k = 2
    · have hr2 := HKE.out h2
      have hb : (((o.k : Nat) : Int) != 2) = false := by simp; omega
      have HH2 := hid h2
      clear h2
      obtain ⟨a, oo, rfl, ha, hc0⟩ := VS.cells HF5.out.R HX.out (by rw [← HO.out]; exact HV.out) (i := 0) (by rw [← HO.out]; omega)
      obtain ⟨a', oo', e', _, hc1⟩ := VS.cells HF5.out.R HX.out (by rw [← HO.out]; exact HV.out) (i := 1) (by rw [← HO.out]; omega)
      injection e' with e'
      injection e' with e1 e2
      subst e1 e2
      have p0 := HF5.out.R.ok.rfs (of_decide_eq_true HX.out) (i := 0) (by rw [← HO.out]; omega)
      have p1 := HF5.out.R.ok.rfs (of_decide_eq_true HX.out) (i := 1) (by rw [← HO.out]; omega)
      obtain ⟨kn, hkn⟩ : ∃ kn : Nat, t.rf x 0 = (kn : Int) := ⟨(t.rf x 0).toNat, by omega⟩
      obtain ⟨vz, hvz⟩ : ∃ vz, vz = t.rf x 1 := ⟨_, rfl⟩
      rw [hkn] at hc0 p0
      rw [← hvz] at hc1 p1
      rw [Nat.add_zero] at hc0
      have hknl : kn < t.ob.length + 1 := by omega
      have hkni : (kn : Int) < (t.ob.length : Int) + 1 := by omega
      have HKB : Hid (0 ≤ (kn : Int) ∧ (kn : Int) ≤ 1000000) := ⟨by omega, by omega⟩
      have HVB : Hid (0 ≤ vz ∧ vz ≤ (t.ob.length : Int)) := p1
      have HVB2 : Hid (0 ≤ vz ∧ vz ≤ 1000000) := ⟨by omega, by omega⟩
      have HKN := hid hkn
      have HVZ := hid hvz
      have hr2i : (2 : Int) ≤ (o.r : Int) := by omega
      clear hkn hvz ha
      go_wp2_with (fail)
      go_quiet (fail)
      have F6 := HF5.out.kp0 (Kp.draw w5 nq)
      have HB6 := hid (HB5.out.trans ((Kp.draw w5 nq).below HF5.out.sz (by simp)))
      clear hc0 hc1
      generalize w5.drewN nq = w6 at F6 HB6 ⊢
      have HF6 := hid F6
      have cb1 : w6.cell? ⟨g, 1, none⟩ = some (.slice (some ⟨gk, 0, none⟩) (t.ob.length + 1) (t.ob.length + 1)) := F6.S.box.cell 1
      have cb3 : w6.cell? ⟨g, 3, none⟩ = some (.map (some bm)) := F6.S.box.cell 3
      have ck : w6.cell? ⟨gk, kn, none⟩ = some (.bool ((q.mid t x).ks.getD kn false)) := (F6.S.K.cell kn).trans (bcells_get (by rw [F6.S.len]; exact hknl))
      clear F6
      rcases hkb : (q.mid t x).ks.getD kn false
      · have HFOL : Hid (FT.follow t q x = ⟨q.mid t x, wput q.wm (kn : Int) vz⟩) := by
          show FT.follow t q x = _
          unfold FT.follow
          rw [← HO.out, if_pos HH2.out, HKN.out, Int.toNat_natCast, if_neg (by rw [hkb]; simp), HVZ.out]
        rw [hkb] at ck
        clear hkb
        go_wp2_with (fail)
        refine wp_region_held_drew (S := fun wz => Blk wz g 108 #[.pointer (some ⟨b.g, 0, none⟩), .slice (some ⟨gk, 0, none⟩) (t.ob.length + 1) (t.ob.length + 1), fv5, .map (some bm)]) (by kernel_rfl) ?_ (fun hHeld => ?_)
        · exact (HF6.out.S.box.kp (Kp.draw _ 1) (by simp) : Blk _ _ _ _)
        have F7 : FS w6.drew b t g gk bm B fv5 nw D ⟨q.mid t x, q.wm⟩ := HF6.out.kp0 (Kp.draw w6 1)
        have HB7 : Hid (Below B w w6.drew) := HB6.out.trans ((Kp.draw w6 1).below HF6.out.sz (by simp))
        clear cb1 cb3 ck HF6 HB6
        generalize w6.drew = w7 at F7 HB7 hHeld ⊢
        have HF7 := hid F7
        have HF8 := hid (F7.kp0 (Kp.new w7 (.cells #[.int .i64 vz] 3)))
        have HN := hid (one_new0 w7 vz)
        clear F7
        refine wpAnyH_take (i := 0) (v := _) rfl (by kernel_rfl) (by kernel_rfl) (by kernel_rfl) (fun _ _ _ h => h) (Or.inl ⟨by rfl, by (intro wz hSw; go_simp; try with_reducible rfl)⟩) (by assumption) ?_
        refine wpAnyH_take (i := 1) (v := _) rfl (by kernel_rfl) (by kernel_rfl) (by kernel_rfl) (fun _ _ _ h => h) (Or.inl ⟨by rfl, by (intro wz hSw; go_simp; try with_reducible rfl)⟩) (by assumption) ?_
        refine wpAnyH_take (i := 2) (v := _) rfl (by kernel_rfl) (by kernel_rfl) (by kernel_rfl) (fun _ _ _ h => h) (Or.inl ⟨by rfl, by (intro wz hSw; go_simp; try with_reducible rfl)⟩) (by assumption) ?_
        refine wpAnyH_take (i := 3) (v := _) rfl (by kernel_rfl) (by kernel_rfl) (by kernel_rfl) (fun _ _ _ h => h) (Or.inl ⟨by rfl, by (intro wz hSw; have hcj : wz.cell? ⟨g, 3, none⟩ = some (.map (some bm)) := hSw.cell 3; go_simp; try with_reducible rfl)⟩) (by assumption) ?_
        refine wpAnyH_take (i := 4) (v := _) rfl (by kernel_rfl) (by kernel_rfl) (by kernel_rfl) (fun _ _ _ h => h) (Or.inl ⟨by rfl, by (intro wz hSw; go_simp; try with_reducible rfl)⟩) (by assumption) ?_
        refine wpAnyH_take (i := 5) (v := _) rfl (by kernel_rfl) (by kernel_rfl) (by kernel_rfl) (fun _ _ _ h => h) (Or.inl ⟨by rfl, by (intro wz hSw; go_simp; try with_reducible rfl)⟩) (by assumption) ?_
        refine wpAnyH_take (i := 6) (v := _) rfl (by kernel_rfl) (by kernel_rfl) (by kernel_rfl) (fun _ _ _ h => h) (Or.inl ⟨by rfl, by (intro wz hSw; go_simp; try with_reducible rfl)⟩) (by assumption) ?_
        refine wpAnyH_take (i := 7) (v := _) rfl (by kernel_rfl) (by kernel_rfl) (by kernel_rfl) (fun _ _ _ h => h) (Or.inl ⟨by rfl, by (intro wz hSw; go_simp; try with_reducible rfl)⟩) (by assumption) ?_
        refine wpAnyH_take (i := 8) (v := _) rfl (by kernel_rfl) (by kernel_rfl) (by kernel_rfl) (fun _ _ _ h => h) (Or.inl ⟨by rfl, by (intro wz hSw; have hcj : wz.cell? ⟨g, 3, none⟩ = some (.map (some bm)) := hSw.cell 3; go_simp; try with_reducible rfl)⟩) (by assumption) ?_
        refine wpAnyH_take (i := 9) (v := _) rfl (by kernel_rfl) (by kernel_rfl) (by kernel_rfl) (fun _ _ _ h => h) (Or.inl ⟨by rfl, by (intro wz hSw; go_simp; try with_reducible rfl)⟩) (by assumption) ?_
        refine wpAnyH_take (i := 11) (v := _) rfl (by kernel_rfl) (by kernel_rfl) (by kernel_rfl) (fun _ _ _ h => h) (Or.inl ⟨by rfl, by (intro wz hSw; go_simp; try with_reducible rfl)⟩) (by assumption) ?_
        try simp only [List.getElem_toArray, List.getElem_cons_zero, List.getElem_cons_succ, Act.put, List.setIfInBounds_toArray, List.set_cons_zero, List.set_cons_succ]
        refine wpAnyH_ready (rs := [10, 12]) (by kernel_rfl) (by simp) ?_
        refine (AllReadyH.cons rfl (fun K hK => ?_) (AllReadyH.cons rfl (fun K hK => ?_) AllReadyH.nil))
        · refine step_of_list (by rfl) (wpList_lookup_groups_shuns _ (by rfl) (.tmp 63) (.tmp 64) 106 (by rfl) 3 45 3 .i64 (int_keyed Tryd.underlying3) Tryd.underlying106 (zeroRow _) (bm + 1) bm nw D rfl HF7.out.G.own hnw2 (.int .i64 (kn : Int)) (.int .i64 (kn : Int)) rfl (keyInt HKB.out) ?_)
          intro v zs hat hoi hzl hback hsh
          have hz : zs = q.wm (kn : Int) := HF7.out.M.look hoi hat
          subst hz
          have HOI := hid hoi
          have HBK := hid hback
          have hsh2 := fun y hy => hsh _ HF7.out.G.shun y hy
          have HSH := hid hsh2
          have HZL := hid hzl
          clear hat hoi hback hsh hsh2 hzl
          refine wpList_nil ?_
          refine hK.out _ _ ?_ (fun hHeld => ?_)
          · exact hHeld
          clear hK K
          refine wpAnyH_ready (rs := [12]) (by kernel_rfl) (by simp) ?_
          refine AllReadyH.cons rfl (fun K hK => ?_) AllReadyH.nil
          go_simp
          refine hK.out _ _ ?_ (fun hHeld => ?_)
          · exact hHeld.kp (Kp.new _ _) (by simp)
          clear hK K
          refine wpAnyH_ready (rs := [13]) (by kernel_rfl) (by simp) ?_
          refine AllReadyH.cons rfl (fun K hK => ?_) AllReadyH.nil
          refine step_of_list (by rfl) (wpList_append_own_at _ (by rfl) (.tmp 65) (.tmp 67) 45 (by rfl) (bm + 1) 3 i0 (.int .i64 0) 1 8 Tryd.underlying45 hi0 hz0 hz1 hz2 rfl (by decide) _ _ _ rfl (HOI.out.1.alloc _) ⟨w7.heap.size, 0, none⟩ 1 1 [.int .i64 vz] rfl rfl HN.out (one_cell vz) (by have := HZL.out; unfold maxLen; omega) (by have := HZL.out; omega) (by have := HF7.out.G.lt_; simp; omega) ?_)
          intro v' w9 hown' hgrow _ hloc
          have HOW := hid (HOI.out.appended hown' (wfInt HVB2.out))
          have HLOC := hid hloc
          have HGA : Hid ((w7.alloc (.cells #[.int .i64 vz] 3)).grownBy w9 v.ownBlock) := hgrow
          have HGR : Hid (w7.grownBy w9 v.ownBlock) := (World.grownBy_alloc _ _ _).trans hgrow
          clear hown' hgrow hloc
          refine wpList_nil ?_
          refine hK.out _ _ ?_ (fun hHeld => ?_)
          · exact hHeld.kp (Kp.of_grown HGA.out) (fun hm => HSH.out g (by simpa using hm) (by simp [SB]))
          clear hK K
          refine wpAnyH_ready (rs := [14]) (by kernel_rfl) (by simp) ?_
          refine AllReadyH.cons rfl (fun K hK => ?_) AllReadyH.nil
          refine step_of_list (by rfl) (wpList_mapUpdate_back_shuns _ (by rfl) (.tmp 58) (.tmp 59) (.tmp 68) 106 (by rfl) (int_keyed Tryd.underlying3) Tryd.underlying106 (keyInt HKB.out) HF7.out.G.own hnw2 HOI.out HF7.out.G.shun (fun y hy hm => by
            have hlt := HF7.out.sblt y hm
            rcases HLOC.out with h | h
            · exact HSH.out y (h ▸ hy) hm
            · rw [hy] at h; injection h with h; simp at h; first | omega | (simp at hlt; omega)) HBK.out (by rfl) (by rfl) (by rfl) HGR.out HOW.out (by have := HZL.out; simp; omega) (HLOC.out.imp id (fun h => ⟨_, h, by simp⟩)) ?_)
          intro w10 hown10 hgr10 hsh10
          obtain ⟨F10, B10⟩ := HF7.out.waits (q := ⟨q.mid t x, q.wm⟩) HOI.out HSH.out HGR.out HOW.out hown10 hgr10 hsh10 HVB.out
          have HF10 := hid F10
          have HGU := hid hgr10
          have HB10 := hid (HB7.out.trans B10)
          clear F10 B10 hown10 hgr10 hsh10
          refine wpList_nil ?_
          refine hK.out _ _ ?_ (fun hHeld => ?_)
          · exact hHeld.kp (Kp.of_grown HGU.out) (fun hm => HF7.out.G.off (by simp at hm; rw [hm]; simp [SB]))
          clear hK K
          refine wpAnyH_done (by kernel_rfl) ?_ _
          go_wp2
          first | go_end0 | (refine bodyPost_ret (results_none rfl _ _ _) rfl ?_)
          exact ⟨rfl, fv5, nw + 1, _, by rw [HFOL.out]; exact HF10.out, by omega, HB10.out⟩
        · go_simp
          refine hK.out _ _ ?_ (fun hHeld => ?_)
          · exact hHeld.kp (Kp.new _ _) (by simp)
          clear hK K
          refine wpAnyH_ready (rs := [10]) (by kernel_rfl) (by simp) ?_
          refine AllReadyH.cons rfl (fun K hK => ?_) AllReadyH.nil
          refine step_of_list (by rfl) (wpList_lookup_groups_shuns _ (by rfl) (.tmp 63) (.tmp 64) 106 (by rfl) 3 45 3 .i64 (int_keyed Tryd.underlying3) Tryd.underlying106 (zeroRow _) (bm + 1) bm nw D rfl HF8.out.G.own hnw2 (.int .i64 (kn : Int)) (.int .i64 (kn : Int)) rfl (keyInt HKB.out) ?_)
          intro v zs hat hoi hzl hback hsh
          have hz : zs = q.wm (kn : Int) := HF8.out.M.look hoi hat
          subst hz
          have HOI := hid hoi
          have HBK := hid hback
          have hsh2 := fun y hy => hsh _ HF8.out.G.shun y hy
          have HSH := hid hsh2
          have HZL := hid hzl
          clear hat hoi hback hsh hsh2 hzl
          refine wpList_nil ?_
          refine hK.out _ _ ?_ (fun hHeld => ?_)
          · exact hHeld
          clear hK K
          refine wpAnyH_ready (rs := [13]) (by kernel_rfl) (by simp) ?_
          refine AllReadyH.cons rfl (fun K hK => ?_) AllReadyH.nil
          refine step_of_list (by rfl) (wpList_append_own_at _ (by rfl) (.tmp 65) (.tmp 67) 45 (by rfl) (bm + 1) 3 i0 (.int .i64 0) 1 8 Tryd.underlying45 hi0 hz0 hz1 hz2 rfl (by decide) _ _ _ rfl HOI.out.1 ⟨w7.heap.size, 0, none⟩ 1 1 [.int .i64 vz] rfl rfl HN.out (one_cell vz) (by have := HZL.out; unfold maxLen; omega) (by have := HZL.out; omega) (by have := HF7.out.G.lt_; simp; omega) ?_)
          intro v' w9 hown' hgrow _ hloc
          have HOW := hid (HOI.out.appended hown' (wfInt HVB2.out))
          have HLOC := hid hloc
          have HGA : Hid ((w7.alloc (.cells #[.int .i64 vz] 3)).grownBy w9 v.ownBlock) := hgrow
          have HGR : Hid ((w7.alloc (.cells #[.int .i64 vz] 3)).grownBy w9 v.ownBlock) := hgrow
          clear hown' hgrow hloc
          refine wpList_nil ?_
          refine hK.out _ _ ?_ (fun hHeld => ?_)
          · exact hHeld.kp (Kp.of_grown HGA.out) (fun hm => HSH.out g (by simpa using hm) (by simp [SB]))
          clear hK K
          refine wpAnyH_ready (rs := [14]) (by kernel_rfl) (by simp) ?_
          refine AllReadyH.cons rfl (fun K hK => ?_) AllReadyH.nil
          refine step_of_list (by rfl) (wpList_mapUpdate_back_shuns _ (by rfl) (.tmp 58) (.tmp 59) (.tmp 68) 106 (by rfl) (int_keyed Tryd.underlying3) Tryd.underlying106 (keyInt HKB.out) HF8.out.G.own hnw2 HOI.out HF8.out.G.shun (fun y hy hm => by
            have hlt := HF8.out.sblt y hm
            rcases HLOC.out with h | h
            · exact HSH.out y (h ▸ hy) hm
            · rw [hy] at h; injection h with h; simp at h; first | omega | (simp at hlt; omega)) HBK.out (by rfl) (by rfl) (by rfl) HGR.out HOW.out (by have := HZL.out; simp; omega) (HLOC.out.imp id (fun h => ⟨_, h, by simp⟩)) ?_)
          intro w10 hown10 hgr10 hsh10
          obtain ⟨F10, B10⟩ := HF8.out.waits (q := ⟨q.mid t x, q.wm⟩) HOI.out HSH.out HGR.out HOW.out hown10 hgr10 hsh10 HVB.out
          have HF10 := hid F10
          have HGU := hid hgr10
          have HB10 := hid ((HB7.out.trans ((Kp.new w7 _).below HF7.out.sz (by simp))).trans B10)
          clear F10 B10 hown10 hgr10 hsh10
          refine wpList_nil ?_
          refine hK.out _ _ ?_ (fun hHeld => ?_)
          · exact hHeld.kp (Kp.of_grown HGU.out) (fun hm => HF7.out.G.off (by simp at hm; rw [hm]; simp [SB]))
          clear hK K
          refine wpAnyH_done (by kernel_rfl) ?_ _
          go_wp2
          first | go_end0 | (refine bodyPost_ret (results_none rfl _ _ _) rfl ?_)
          exact ⟨rfl, fv5, nw + 1, _, by rw [HFOL.out]; exact HF10.out, by omega, HB10.out⟩

      · have HFOL : Hid (FT.follow t q x = ⟨(q.mid t x).reach [vz], q.wm⟩) := by
          show FT.follow t q x = _
          unfold FT.follow
          rw [← HO.out, if_pos HH2.out, HKN.out, Int.toNat_natCast, if_pos hkb, HVZ.out]
        rw [hkb] at ck
        clear hkb
        go_wp2_with (fail)
        have HF7 := hid (HF6.out.kp0 (Kp.new w6 (.cells #[.int .i64 vz] 3)))
        have HB7 := hid (HB6.out.trans ((Kp.new w6 (.cells #[.int .i64 vz] 3)).below HF6.out.sz (by simp)))
        refine (m_reach HF7.out.S (by omega) HF7.out.sz (Src.one HF6.out.sblt vz) (zs := [vz]) (by simp) (fun i hi => by have h9 : i = 0 := (by simp at hi; omega); subst h9; simp; omega)).mono ?_
        rintro e w8 ⟨rfl, hre⟩
        obtain ⟨fv8, F8, b8⟩ := HF7.out.reach hre
        have HF8 := hid F8
        have HB8 := hid (HB7.out.trans b8)
        clear hre F8 b8
        go_wp2
        first | go_end0 | (refine bodyPost_ret (results_none rfl _ _ _) rfl ?_)
        exact ⟨rfl, fv8, nw, D, by rw [HFOL.out]; exact HF8.out, by omega, HB8.out⟩
    · have hb : (((o.k : Nat) : Int) != 2) = true := by simp; omega
      have HFOL : Hid (FT.follow t q x = ⟨q.mid t x, q.wm⟩) := by
        show FT.follow t q x = _
        unfold FT.follow
        rw [← HO.out, if_neg h2]
      clear h2
      go_wp2
      refine bodyPost_ret (results_none rfl _ _ _) rfl ?_
      exact ⟨rfl, fv5, nw, D, by rw [HFOL.out]; exact HF5.out, by omega, HB5.out⟩
end
end Go.Proofs.YtbiompmklijgoaaDoor
/-
  What package model's findKept wants besides: where it reads, how its search begins and goes on. Conditions: those that stand in each theorem.
-/
namespace Go.Proofs.YtbiompmklijgoaaDoor
set_option linter.unusedVariables false
set_option linter.unusedSimpArgs false
open Go.RowKit Go.Deep Go.Maps Go.WideElems Go.MapKept

section
variable {w w' W V : World} {b : MB} {t : MT} {g gk bm B nw : Nat} {fv : Value} {D : DataW Unit} {q : FT}
set_option maxRecDepth 100000 in
theorem zeroSlots (w : World) : (zeroValue 80).run Tryd.prog w = .ok (.agg #[.int .i64 0, .int .i64 0, .int .i64 0, .int .i64 0, .int .i64 0, .int .i64 0, .int .i64 0, .int .i64 0, .int .i64 0, .int .i64 0, .int .i64 0, .int .i64 0, .int .i64 0, .int .i64 0, .int .i64 0, .int .i64 0]) w := by kernel_rfl
theorem slotsInfo : (Tryd.prog.info? 80).map (·.size) = some 16 := by kernel_rfl
theorem infoBool : (Tryd.prog.info? 4).map (fun i => (i.zero, i.size, i.bytes)) = some (some (.bool false), 1, 1) := by kernel_rfl
/-- One row of slots. -/
def MT.row (t : MT) (i : Nat) : List Int := (t.sl.drop (16 * i)).take 16
theorem MT.row_len {i : Nat} (h : t.sl.length = 16 * t.n) (hi : i < t.n) : (t.row i).length = 16 := by
  unfold MT.row
  rw [List.length_take, List.length_drop, h]
  omega
theorem MT.row_snoc (t : MT) (i : Nat) : t.sl.take (16 * (i + 1)) = t.sl.take (16 * i) ++ t.row i := by
  unfold MT.row
  rw [show 16 * (i + 1) = 16 * i + 16 by omega, List.take_add]
theorem MR.row (R : MR W b t) {i : Nat} (hi : i < t.n) : W.rangeAt b.sb (i * 16) (zcells (t.row i)) := by
  intro j v hv
  have hj := (List.getElem?_eq_some_iff.1 hv).1
  rw [zcells_length, MT.row_len R.ok.sl hi] at hj
  rw [R.cs (i := i * 16 + j) (by omega), ← hv]
  unfold zcells MT.row
  rw [List.getElem?_map, List.getElem?_take, if_pos hj, List.getElem?_drop, show 16 * i + j = i * 16 + j by omega, List.getD_eq_getElem?_getD]
  have : i * 16 + j < t.sl.length := by rw [R.ok.sl]; omega
  rw [List.getElem?_eq_getElem this]
  rfl
theorem zcells_oneC (l : List Int) : (zcells l).toArray.all (·.oneCell') = true := all_oneCell_toArray (fun v hv => by
  unfold zcells at hv
  obtain ⟨x, _, rfl⟩ := List.mem_map.1 hv
  rfl)
/-- A new box with numbers in it. -/
theorem FS.box (F : FS W b t g gk bm B fv nw D q) {cs : Array Value} {T : TypeId} {zs : List Int} (hcs : cs.size = zs.length) :
    (W.alloc (.cells cs T)).there W.heap.size 0 (zcells zs).toArray.size ∧ Kp [] W ((W.alloc (.cells cs T)).setCells W.heap.size 0 (zcells zs)) ∧ Src ((W.alloc (.cells cs T)).setCells W.heap.size 0 (zcells zs)) (SB g gk fv) (some ⟨W.heap.size, 0, none⟩) zs := by
  have hb := Blk.new W T cs
  have ht : (W.alloc (.cells cs T)).there W.heap.size 0 (zcells zs).toArray.size := fun j hj => by
    have hj2 : j < cs.size := by rw [hcs]; simpa [zcells] using hj
    refine ⟨?_, ?_⟩
    · rw [Nat.zero_add, hb.cell j, Array.getElem?_eq_getElem hj2]; rfl
    · rw [Nat.zero_add]; exact hb.frozen j
  refine ⟨ht, (Kp.new W _).trans (Kp.setCells _ _ _ _) (by simp) (fun x hx => .inr (by simp at hx; omega)), fun i hi => ?_⟩
  refine ⟨_, 0, rfl, fun hm => by have := F.sblt _ hm; omega, ?_⟩
  have := World.rangeAt_setCells_same (W.alloc (.cells cs T)) W.heap.size 0 (zcells zs) (by simpa using ht) i (.int .i64 (zs.getD i 0)) (by
    unfold zcells
    rw [List.getElem?_map, List.getElem?_eq_getElem hi, List.getD_eq_getElem?_getD, List.getElem?_eq_getElem hi]
    rfl)
  exact this
theorem list16 {l : List Int} (h : l.length = 16) : ∃ x0 x1 x2 x3 x4 x5 x6 x7 x8 x9 x10 x11 x12 x13 x14 x15, l = [x0, x1, x2, x3, x4, x5, x6, x7, x8, x9, x10, x11, x12, x13, x14, x15] := by
  match l, h with
  | [x0, x1, x2, x3, x4, x5, x6, x7, x8, x9, x10, x11, x12, x13, x14, x15], _ => exact ⟨x0, x1, x2, x3, x4, x5, x6, x7, x8, x9, x10, x11, x12, x13, x14, x15, rfl⟩
theorem FS.src_new (F : FS W b t g gk bm B fv nw D q) (zs : List Int) (T : TypeId) : Src (W.alloc (.cells (zcells zs).toArray T)) (SB g gk fv) (some ⟨W.heap.size, 0, none⟩) zs := fun i hi => by
  refine ⟨_, 0, rfl, fun hm => by have := F.sblt _ hm; omega, ?_⟩
  rw [Nat.zero_add, (Blk.new W T _).cell i]
  have := zcells_get (ws := zs) (sp := []) hi
  simpa using this
theorem FS.src_gl (F : FS W b t g gk bm B fv nw D q) : Src W (SB g gk fv) (some ⟨b.g, 1, none⟩) t.gl := fun i hi => by
  refine ⟨_, 1, rfl, fun hm => ?_, F.R.cg (by rw [F.R.ok.gl] at hi; exact hi)⟩
  have := F.sb _ hm
  have := F.lo b.g (by simp [MB.all])
  omega
theorem FS.src_qu (F : FS W b t g gk bm B fv nw D q) : ∃ A c, b.qv = .slice A t.qu.length c ∧ Src W (SB g gk fv) A t.qu := by
  have Q := F.R.Q
  rcases Q.2 with ⟨hv, h0⟩ | ⟨g', cap, cur, hv, hg, hb, h1, h2, h3⟩
  · exact ⟨none, 0, by rw [hv, h0], fun i hi => by omega⟩
  · refine ⟨_, cap, hv, fun i hi => ⟨g', 0, rfl, fun hm => ?_, ?_⟩⟩
    · have := F.sb _ hm
      have := F.lo g' (by simp [MB.all, hv, Value.ownBlock])
      omega
    · rw [hv] at Q
      rw [Nat.zero_add, Q.cellAt i (by omega)]
      have := zcells_get (ws := t.qu) (sp := []) hi
      simpa using this
/-- The search as it begins. -/
def ST.new (n : Nat) : ST := ⟨List.replicate n false, []⟩
theorem FS.begin (R : MR w b t) (W : World) (hW : W = (((w.alloc (.cells (madeCells #[.bool false] (t.ob.length + 1)) 4)).alloc (.map #[] 0)).alloc (.cells #[.pointer (some ⟨b.g, 0, none⟩), .slice (some ⟨w.heap.size, 0, none⟩) (t.ob.length + 1) (t.ob.length + 1), .slice none 0 0, .map (some (w.heap.size + 1))] 108))) :
    FS W b t (w.heap.size + 2) w.heap.size (w.heap.size + 1) w.heap.size (.slice none 0 0) 0 (.map []) ⟨ST.new (t.ob.length + 1), fun _ => []⟩ := by
  have k1 := Kp.new w (.cells (madeCells #[.bool false] (t.ob.length + 1)) 4)
  have k2 := Kp.new (w.alloc (.cells (madeCells #[.bool false] (t.ob.length + 1)) 4)) (.map #[] 0)
  have k3 := Kp.new ((w.alloc (.cells (madeCells #[.bool false] (t.ob.length + 1)) 4)).alloc (.map #[] 0)) (.cells #[.pointer (some ⟨b.g, 0, none⟩), .slice (some ⟨w.heap.size, 0, none⟩) (t.ob.length + 1) (t.ob.length + 1), .slice none 0 0, .map (some (w.heap.size + 1))] 108)
  have b1 := Blk.new w 4 (madeCells #[.bool false] (t.ob.length + 1))
  have b3 := Blk.new ((w.alloc (.cells (madeCells #[.bool false] (t.ob.length + 1)) 4)).alloc (.map #[] 0)) 108 #[.pointer (some ⟨b.g, 0, none⟩), .slice (some ⟨w.heap.size, 0, none⟩) (t.ob.length + 1) (t.ob.length + 1), .slice none 0 0, .map (some (w.heap.size + 1))]
  have hm := World.ownsGroups_made (H := Unit) (w.alloc (.cells (madeCells #[.bool false] (t.ob.length + 1)) 4)) Tryd.prog 3 3 .i64
  have hs := World.Shuns_made (w.alloc (.cells (madeCells #[.bool false] (t.ob.length + 1)) 4)) (fun x => x ∈ SB (w.heap.size + 2) w.heap.size (.slice none 0 0))
  rw [World.size_alloc] at hm hs
  rw [World.size_alloc, World.size_alloc] at b3
  have hmade : madeCells #[.bool false] (t.ob.length + 1) = bcells (List.replicate (t.ob.length + 1) false) := by
    apply Array.toList_inj.1
    rw [toList_madeCells_one]
    simp [bcells]
  have G : WG ((w.alloc (.cells (madeCells #[.bool false] (t.ob.length + 1)) 4)).alloc (.map #[] 0)) (w.heap.size + 1) 0 (SB (w.heap.size + 2) w.heap.size (.slice none 0 0)) (.map []) := ⟨hm, hs, by simp [SB, Value.ownBlock]⟩
  subst hW
  refine ⟨((R.kp0 k1).kp0 k2).kp0 k3, ⟨by simp [ST.new], by simp [ST.new], b3, ?_, ⟨rfl, .inl ⟨rfl, rfl⟩⟩⟩, G.kp (k3.mono (by simp)), WMR.none, R.lt, ⟨by omega, by omega, by omega⟩, by simp; omega, by simp⟩
  show Blk _ _ _ (bcells (List.replicate (t.ob.length + 1) false))
  rw [← hmade]
  exact (b1.kp k2 (by simp)).kp k3 (by simp)
/-- What findKept gives. -/
def KeptP (w : World) (t : MT) (e : Ending) (w' : World) : Prop := ∃ gk, e = .returned (.slice (some ⟨gk, 0, none⟩) (t.ob.length + 1) (t.ob.length + 1)) ∧ Blk w' gk 4 (bcells t.kb) ∧ w.heap.size ≤ gk ∧ Kp [] w w'
theorem MT.start_eq (t : MT) : t.start = ⟨(((ST.new (t.ob.length + 1)).reach t.sl).reach t.gl).reach t.qu, fun _ => []⟩ := by
  unfold MT.start MT.roots ST.new
  rw [ST.reach_append, ST.reach_append]
theorem MT.Ok.kb_run {t : MT} (ok : t.Ok) {k : Nat} (h : (t.start.run t k).s.fs.length ≤ k) (hk : k ≤ t.ob.length + 1) : t.kb = (t.start.run t k).s.ks := by
  unfold MT.kb
  rw [show t.ob.length + 1 = k + (t.ob.length + 1 - k) by omega, FT.run_over h]
theorem MT.Ok.run_fits {t : MT} (ok : t.Ok) (k : Nat) : (t.start.run t k).s.fs.length ≤ t.ob.length := (ok.start.runs ok k).good.fits
theorem MT.Ok.run_has {t : MT} (ok : t.Ok) {k : Nat} (h : k < (t.start.run t k).s.fs.length) : t.has ((t.start.run t k).s.fs.getD k 0) = true :=
  decide_eq_true ((ok.start.runs ok k).good.pos _ (getD_mem h))
theorem FT.run_step {t : MT} {q : FT} {k : Nat} (h : k < (q.run t k).s.fs.length) : q.run t (k + 1) = (q.run t k).follow t ((q.run t k).s.fs.getD k 0) := by
  show (q.run t k).step t k = _
  unfold FT.step
  rw [if_pos h]
theorem MT.Ok.run_kle {t : MT} (ok : t.Ok) {k : Nat} (h : k < (t.start.run t k).s.fs.length) : k + 1 ≤ (t.start.run t (k + 1)).s.fs.length := by
  have I := ok.start.runs ok k
  rw [Nat.min_eq_left (by omega)] at I
  have := I.more ok h
  rw [FT.run_step h]
  exact this.kle
end
end Go.Proofs.YtbiompmklijgoaaDoor
/-
  The contract of package model's findKept. Conditions: those that stand in each theorem.
-/
namespace Go.Proofs.YtbiompmklijgoaaDoor
set_option linter.unusedVariables false
set_option linter.unusedSimpArgs false
open Go.RowKit Go.Deep Go.Maps Go.WideElems Go.MapKept

section
variable {w w' W V : World} {b : MB} {t : MT}
def SlRel (w : World) (b : MB) (t : MT) (g bm : Nat) (q : FT) (nw : Nat) (wr : World) : Prop := ∃ fv D, FS wr b t g w.heap.size bm w.heap.size fv nw D q ∧ Below w.heap.size w wr
set_option maxRecDepth 100000 in
set_option maxHeartbeats 600000 in
theorem m_findKept (R : MR w b t) :
    Calls Tryd.prog 65 #[.pointer (some ⟨b.g, 0, none⟩)] w (KeptP w t) := by
  obtain ⟨i0, hi0, hz0, hz1, hz2⟩ := info_parts infoBool
  have HOK := hid R.ok
  have hn4 := R.ok.n4
  have hn1 := R.ok.n1
  have hob := R.ok.small.1
  have hmk : ∀ W : World, (Instr.makeSlice 62 (.int .i64 ((t.ob.length : Int) + 1)) (.int .i64 ((t.ob.length : Int) + 1))).run Tryd.prog W = .ok (.slice (some ⟨W.heap.size, 0, none⟩) (t.ob.length + 1) (t.ob.length + 1)) (W.alloc (.cells (madeCells #[.bool false] (t.ob.length + 1)) 4)) := fun W => by
    have := run_make_rowN (P := Tryd.prog) 62 4 i0 _ Tryd.underlying62 hi0 hz0 .i64 .i64 (t.ob.length + 1) (t.ob.length + 1) (Nat.le_refl _) (by rw [hz2]; omega) (by omega) W
    rw [hz1, Nat.mul_one] at this
    exact this
  have FB := FS.begin R _ rfl
  obtain ⟨A0, c0, hv0, h01, h02, _⟩ := own_cut R.O
  have hc18 := R.c18
  rw [hv0] at hc18
  have HBEL : Hid (∀ V, Kp [] w V → Below w.heap.size w V) := fun V k => k.below (Nat.le_refl _) (by simp)
  have HBK0 := hid (((Kp.new w (.cells (madeCells #[.bool false] (t.ob.length + 1)) 4)).chain (Kp.new _ (.map #[] 0))).chain (Kp.new _ (.cells #[.pointer (some ⟨b.g, 0, none⟩), .slice (some ⟨w.heap.size, 0, none⟩) (t.ob.length + 1) (t.ob.length + 1), .slice none 0 0, .map (some (w.heap.size + 1))] 108)))
  have HFB : Hid (FS _ b t (w.heap.size + 1 + 1) w.heap.size (w.heap.size + 1) w.heap.size (.slice none 0 0) 0 (.map []) ⟨ST.new (t.ob.length + 1), fun _ => []⟩) := FB
  have hmm := @run_makeMap Tryd.prog
  have HR := hid R
  clear R FB hv0
  go_enter Tryd.func65, Tryd.ntmps65
  go_upto_region 2 with fail
  generalize ((w.alloc (.cells (madeCells #[.bool false] (t.ob.length + 1)) 4)).alloc (.map #[] 0)).alloc (.cells #[.pointer (some ⟨b.g, 0, none⟩), .slice (some ⟨w.heap.size, 0, none⟩) (t.ob.length + 1) (t.ob.length + 1), .slice none 0 0, .map (some (w.heap.size + 1))] 108) = W0 at HFB HBK0 ⊢
  generalize w.heap.size + 1 + 1 = g at HFB ⊢
  generalize w.heap.size + 1 = bm at HFB ⊢
  obtain ⟨c1, h11, h12, hc0⟩ := HFB.out.R.c0
  unfold maxLen at h12
  clear hmk hmm hc18
  go_wp2
  go_loopw [22] (fun ct wr => ∃ i : Nat, i ≤ t.n ∧ ct = .int .i64 (i : Int) ∧ SlRel w b t g bm ⟨(ST.new (t.ob.length + 1)).reach (t.sl.take (16 * i)), fun _ => []⟩ 0 wr) (fun ct _ => t.n - (intOf ct).toNat)
  case atStart => exact ⟨0, by omega, rfl, _, _, HFB.out, HBEL.out _ HBK0.out⟩
  case round =>
    obtain ⟨i, hi, rfl, fvi, Di, Fi, Bi⟩ := hrel
    clear hc0
    by_cases hlt : i < t.n
    · have hrow := Fi.R.row hlt
      have hlen := MT.row_len Fi.R.ok.sl hlt
      have hsn := t.row_snoc i
      have hin : ∀ x ∈ t.row i, t.idn x := fun x hx => Fi.R.ok.isl x (List.mem_of_mem_drop (List.mem_of_mem_take hx))
      generalize t.row i = l at hrow hlen hsn hin
      have HIN := hid hin
      have HSN := hid hsn
      have HFI := hid Fi
      have HBI := hid Bi
      have HLEN := hid hlen
      have hzs := zeroSlots
      have hil : (i : Int) < (t.n : Int) := by omega
      obtain ⟨x0, x1, x2, x3, x4, x5, x6, x7, x8, x9, x10, x11, x12, x13, x14, x15, hl⟩ := list16 hlen
      subst hl
      have HSRC := hid (Fi.src_new [x0, x1, x2, x3, x4, x5, x6, x7, x8, x9, x10, x11, x12, x13, x14, x15] 80)
      have HKN := hid (Kp.new wr (.cells #[.int .i64 x0, .int .i64 x1, .int .i64 x2, .int .i64 x3, .int .i64 x4, .int .i64 x5, .int .i64 x6, .int .i64 x7, .int .i64 x8, .int .i64 x9, .int .i64 x10, .int .i64 x11, .int .i64 x12, .int .i64 x13, .int .i64 x14, .int .i64 x15] 80))
      have ce0 : wr.cell? ⟨b.sb, i * 16, none⟩ = some (.int .i64 x0) := hrow 0 _ rfl
      have ce1 : wr.cell? ⟨b.sb, i * 16 + 1, none⟩ = some (.int .i64 x1) := hrow 1 _ rfl
      have ce2 : wr.cell? ⟨b.sb, i * 16 + 2, none⟩ = some (.int .i64 x2) := hrow 2 _ rfl
      have ce3 : wr.cell? ⟨b.sb, i * 16 + 3, none⟩ = some (.int .i64 x3) := hrow 3 _ rfl
      have ce4 : wr.cell? ⟨b.sb, i * 16 + 4, none⟩ = some (.int .i64 x4) := hrow 4 _ rfl
      have ce5 : wr.cell? ⟨b.sb, i * 16 + 5, none⟩ = some (.int .i64 x5) := hrow 5 _ rfl
      have ce6 : wr.cell? ⟨b.sb, i * 16 + 6, none⟩ = some (.int .i64 x6) := hrow 6 _ rfl
      have ce7 : wr.cell? ⟨b.sb, i * 16 + 7, none⟩ = some (.int .i64 x7) := hrow 7 _ rfl
      have ce8 : wr.cell? ⟨b.sb, i * 16 + 8, none⟩ = some (.int .i64 x8) := hrow 8 _ rfl
      have ce9 : wr.cell? ⟨b.sb, i * 16 + 9, none⟩ = some (.int .i64 x9) := hrow 9 _ rfl
      have ce10 : wr.cell? ⟨b.sb, i * 16 + 10, none⟩ = some (.int .i64 x10) := hrow 10 _ rfl
      have ce11 : wr.cell? ⟨b.sb, i * 16 + 11, none⟩ = some (.int .i64 x11) := hrow 11 _ rfl
      have ce12 : wr.cell? ⟨b.sb, i * 16 + 12, none⟩ = some (.int .i64 x12) := hrow 12 _ rfl
      have ce13 : wr.cell? ⟨b.sb, i * 16 + 13, none⟩ = some (.int .i64 x13) := hrow 13 _ rfl
      have ce14 : wr.cell? ⟨b.sb, i * 16 + 14, none⟩ = some (.int .i64 x14) := hrow 14 _ rfl
      have ce15 : wr.cell? ⟨b.sb, i * 16 + 15, none⟩ = some (.int .i64 x15) := hrow 15 _ rfl
      clear hin hsn hlen Fi Bi hrow
      go_wp2_with (fail)
      have HFK := hid (HFI.out.kp0 HKN.out)
      refine (m_reach HFK.out.S (by omega) HFK.out.sz HSRC.out (zs := [x0, x1, x2, x3, x4, x5, x6, x7, x8, x9, x10, x11, x12, x13, x14, x15]) (by simp) (fun j hj => by have := HIN.out _ (getD_mem hj); exact ⟨this.1, by have := this.2; omega⟩)).mono ?_
      rintro e w5 ⟨rfl, hre⟩
      obtain ⟨fv5, F5, b5⟩ := HFK.out.reach hre
      have HF5 := hid F5
      have HB5 := hid ((HBI.out.trans (HKN.out.below HFI.out.sz (by simp))).trans b5)
      clear hre F5 b5
      go_wp2_with (fail)
      go_roundw
      case rel => exact ⟨i + 1, by omega, by go_num, fv5, Di, by rw [HSN.out, ST.reach_append]; exact HF5.out, HB5.out⟩
      case measure => simp [intOf]; omega
    · obtain rfl : i = t.n := by omega
      have hall : t.sl.take (16 * t.n) = t.sl := by rw [← Fi.R.ok.sl, List.take_length]
      rw [hall] at Fi
      have HFI := hid Fi
      have HBI := hid Bi
      have hgl := Fi.R.ok.gl
      have HG := m_reach Fi.S (by omega) Fi.sz Fi.src_gl (by omega) (c := 16) (fun j hj => by have := Fi.R.ok.igl _ (getD_mem hj); exact ⟨this.1, by have := this.2; omega⟩)
      rw [hgl] at HG
      have HG' := hid HG
      clear Fi Bi hall hgl HG
      go_wp2_with (fail)
      refine HG'.out.mono ?_
      rintro e w3 ⟨rfl, hre⟩
      obtain ⟨fv3, F3, b3⟩ := HFI.out.reach hre
      have HF3 := hid F3
      have HB3 := hid (HBI.out.trans b3)
      obtain ⟨Aq, cq, hqv, hsq⟩ := F3.src_qu
      have HSQ := hid hsq
      have hq17 := F3.R.c17
      rw [hqv] at hq17
      have hqu := F3.R.ok.qu
      clear hre F3 b3 hqv hsq HG'
      go_wp2_with (fail)
      refine (m_reach HF3.out.S (by omega) HF3.out.sz HSQ.out (by omega) (fun j hj => by have := HF3.out.R.ok.iqu _ (getD_mem hj); omega)).mono ?_
      rintro e w4 ⟨rfl, hre⟩
      obtain ⟨fv4, F4, b4⟩ := HF3.out.reach hre
      have HF4 : Hid (FS w4 b t g w.heap.size bm w.heap.size fv4 0 Di t.start) := by
        show FS _ _ _ _ _ _ _ _ _ _ _
        rw [MT.start_eq]
        exact F4
      have HB4 := hid (HB3.out.trans b4)
      clear hre F4 b4 hq17
      go_wp2_with (fail)
      go_loopw [6] (fun ct wr => ∃ k : Nat, k ≤ (t.start.run t k).s.fs.length ∧ ct = .int .i64 (k : Int) ∧ ∃ nw, nw ≤ k ∧ SlRel w b t g bm (t.start.run t k) nw wr) (fun ct _ => t.ob.length + 1 - (intOf ct).toNat)
      case atStart => exact ⟨0, by omega, rfl, 0, by omega, fv4, Di, HF4.out, HB4.out⟩
      case round =>
        obtain ⟨k, hk, rfl, nw, hnw, fvk, Dk, Fk, Bk⟩ := hrel
        have hfits := HOK.out.run_fits k
        obtain ⟨Af, cf, hfv, hf1, hf2, _⟩ := own_cut Fk.S.F
        unfold maxLen at hf2
        have cb2 : wr.cell? ⟨g, 2, none⟩ = some fvk := Fk.S.box.cell 2
        have cb1 : wr.cell? ⟨g, 1, none⟩ = some (.slice (some ⟨w.heap.size, 0, none⟩) (t.ob.length + 1) (t.ob.length + 1)) := Fk.S.box.cell 1
        rw [hfv] at cb2
        have HFK := hid Fk
        have HBK := hid Bk
        have HFV := hid hfv
        by_cases hlt : k < (t.start.run t k).s.fs.length
        · have hhas := HOK.out.run_has hlt
          have hst := FT.run_step hlt
          have hle := HOK.out.run_kle hlt
          have hFc : ∃ a o, Af = some ⟨a, o, none⟩ ∧ wr.cell? ⟨a, o + k, none⟩ = some (.int .i64 ((t.start.run t k).s.fs.getD k 0)) := by
            obtain ⟨g1, c1', sp, hv1, _, hb1, _⟩ := own_form Fk.S.F (by omega)
            rw [hfv] at hv1
            injection hv1 with e1 e2 e3
            refine ⟨_, _, e1, ?_⟩
            rw [Nat.zero_add, hb1.cell k, zcells_get hlt]
          obtain ⟨af, of_, rfl, hcf⟩ := hFc
          have HHAS := hid hhas
          have HST := hid hst
          have HLE := hid hle
          generalize hxx : (t.start.run t k).s.fs.getD k 0 = xx at hcf HHAS HST
          have HXX := hid hxx
          have hlti : (k : Int) < ((t.start.run t k).s.fs.length : Int) := by omega
          obtain ⟨nf, hnf⟩ : ∃ nf, nf = (t.start.run t k).s.fs.length := ⟨_, rfl⟩
          rw [← hnf] at cb2 hlt hlti hfits hf1
          clear Fk Bk hfv hhas hst hle hxx hnf hk
          go_wp2_with (fail)
          refine (m_follow HFK.out (by omega) HHAS.out).mono ?_
          rintro e w6 ⟨rfl, fv6, nw6, D6, F6, hn6, B6⟩
          have HF6 := hid F6
          have HB6 := hid (HBK.out.trans B6)
          clear F6 B6
          go_wp2_with (fail)
          go_roundw
          case rel => exact ⟨k + 1, HLE.out, by go_num, nw6, by omega, fv6, D6, by rw [HST.out]; exact HF6.out, HB6.out⟩
          case measure => simp [intOf]; omega
        · have HKB := hid (HOK.out.kb_run (by omega) (by omega : k ≤ t.ob.length + 1))
          have hkf : (t.start.run t k).s.fs.length = k := by omega
          rw [hkf] at cb2 hf1
          clear Fk Bk hfv hk hkf hlt
          go_wp2
          go_ret
          exact ⟨w.heap.size, rfl, by rw [HKB.out]; exact HFK.out.S.K, Nat.le_refl _, Kp.of_below HBK.out⟩
end
end Go.Proofs.YtbiompmklijgoaaDoor
/-
  The contract of package model's Kept. Conditions: those that stand in each theorem.
-/
namespace Go.Proofs.YtbiompmklijgoaaDoor
set_option linter.unusedVariables false
set_option linter.unusedSimpArgs false
open Go.RowKit Go.Deep Go.Maps Go.WideElems Go.MapKept

/-- The places of a list where it is true. -/
def trues (l : List Bool) (k : Nat) : List Int := ((List.range k).filter (fun i => l.getD i false)).map (fun i : Nat => (i : Int))
theorem trues_yes {l : List Bool} {k : Nat} (h : l.getD k false = true) : trues l (k + 1) = trues l k ++ [(k : Int)] := by
  unfold trues
  rw [List.range_succ, List.filter_append, List.map_append]
  simp only [List.filter_cons, h, if_true, List.filter_nil, List.map_cons, List.map_nil]
theorem trues_no {l : List Bool} {k : Nat} (h : l.getD k false = false) : trues l (k + 1) = trues l k := by
  unfold trues
  rw [List.range_succ, List.filter_append, List.map_append]
  simp only [List.filter_cons, h, Bool.false_eq_true, if_false, List.filter_nil, List.map_nil, List.append_nil]
theorem trues_len (l : List Bool) (k : Nat) : (trues l k).length ≤ k := by
  unfold trues
  rw [List.length_map]
  exact Nat.le_trans (List.length_filter_le _ _) (by simp)
theorem trues_mem (l : List Bool) (k : Nat) (x : Int) : x ∈ trues l k ↔ ∃ i : Nat, x = (i : Int) ∧ i < k ∧ l.getD i false = true := by
  unfold trues
  simp only [List.mem_map, List.mem_filter, List.mem_range]
  constructor
  · rintro ⟨i, ⟨h1, h2⟩, rfl⟩; exact ⟨i, rfl, h1, h2⟩
  · rintro ⟨i, rfl, h1, h2⟩; exact ⟨i, ⟨h1, h2⟩, rfl⟩
/-- What is kept, rising. -/
def MT.kept (t : MT) : List Int := trues t.kb (t.ob.length + 1)
/-- A new slice of numbers. -/
def IntsP (w : World) (l : List Int) (e : Ending) (w' : World) : Prop := ∃ v, e = .returned v ∧ w'.ownsRow w.heap.size 3 1 v l.length (zcells l) ∧ Kp [] w w'
section
variable {w w' W V : World} {b : MB} {t : MT}
def KpRel (w : World) (gk : Nat) (kb : List Bool) (k : Nat) (v : Value) (wr : World) : Prop := wr.ownsRow w.heap.size 3 1 v (trues kb k).length (zcells (trues kb k)) ∧ Kp [] w wr ∧ Blk wr gk 4 (bcells kb)
set_option maxRecDepth 100000 in
set_option maxHeartbeats 600000 in
theorem m_Kept (R : MR w b t) :
    Calls Tryd.prog 23 #[.pointer (some ⟨b.g, 0, none⟩)] w (IntsP w t.kept) := by
  obtain ⟨i0, hi0, hz0, hz1, hz2⟩ := info_parts infoInt
  have HKL := hid R.ok.kb_len
  have hob := R.ok.small.1
  have HR := hid R
  clear R
  go_enter Tryd.func23, Tryd.ntmps23
  go_wp2_with (fail)
  refine (m_made HR.out).mono ?_
  rintro e w1 ⟨rfl, n1, rfl⟩
  have HK1 := hid (Kp.draw w n1)
  have HR1 := hid (HR.out.kp0 HK1.out)
  generalize w.drewN n1 = w1 at HK1 HR1
  go_wp2_with (fail)
  refine (m_findKept HR1.out).mono ?_
  rintro e w2 ⟨gk, rfl, hb2, hge, K2⟩
  obtain ⟨n, hn⟩ : ∃ n, n = t.ob.length + 1 := ⟨_, rfl⟩
  have HKE : Hid (t.kept = trues t.kb n) := by show _ = _; rw [hn]; rfl
  rw [← hn] at HKL ⊢
  have hn9 : n ≤ 100001 := by omega
  have HREL : Hid (KpRel w gk t.kb 0 (.slice none 0 0) w2) := ⟨⟨rfl, .inl ⟨rfl, rfl⟩⟩, HK1.out.chain K2, hb2⟩
  clear hb2 hge K2 hn hob
  generalize t.kb = kb at HKL HKE HREL
  go_wp2_with (fail)
  go_loopw [3, 12] (fun ct cl wr => ∃ (k : Nat) (lv : Value), lv = ct ∧ k ≤ n ∧ cl = .int .i64 (k : Int) ∧ KpRel w gk kb k lv wr) (fun _ cl _ => n - (intOf cl).toNat)
  case atStart => exact ⟨0, _, rfl, by omega, rfl, HREL.out⟩
  case round =>
    obtain ⟨k, lv, hlv, hk, rfl, hown, hkp, hbk⟩ := hrel
    subst hlv
    by_cases hlt : k < n
    · have ck : wr.cell? ⟨gk, k, none⟩ = some (.bool (kb.getD k false)) := (hbk.cell k).trans (bcells_get (by rw [HKL.out]; exact hlt))
      have HOWN := hid hown
      have HKP := hid hkp
      have HBK := hid hbk
      have hkni : (k : Int) < (n : Int) := by omega
      rcases hc : kb.getD k false
      · have HT := hid (trues_no hc)
        rw [hc] at ck
        clear hown hkp hbk hc
        go_wp2
        go_roundw
        case rel => exact ⟨k + 1, _, rfl, by omega, by go_num, by rw [HT.out]; exact HOWN.out, HKP.out, HBK.out⟩
        case measure => simp [intOf]; omega
      · have HT := hid (trues_yes hc)
        rw [hc] at ck
        have hlen := trues_len kb k
        have HLEN := hid hlen
        have HGE : Hid (w.heap.size ≤ wr.heap.size) := hkp.size
        obtain ⟨A3, c3, hfv, hc1, hc2, _⟩ := own_cut hown
        have HFV := hid hfv
        have HOFF : Hid (gk ∉ lv.ownBlock.toList) := by
          intro hm
          rcases hown.2 with ⟨hv, _⟩ | ⟨g', cap, cur, hv, _, hb, _⟩
          · rw [hv] at hm; cases hm
          · rw [hv] at hm
            simp [Value.ownBlock] at hm
            have hB : Blk wr g' 3 cur := hb
            exact hB.ne_ hbk (by decide) hm.symm
        have HNEW : Hid (∀ x ∈ lv.ownBlock.toList, w.heap.size ≤ x) := by
          intro x hx
          rcases hown.2 with ⟨hv, _⟩ | ⟨g', cap, cur, hv, hg, _⟩
          · rw [hv] at hx; cases hx
          · rw [hv] at hx
            simp [Value.ownBlock] at hx
            omega
        have HN1 := hid (one_new0 wr (k : Int))
        have NONE := one_cell (k : Int)
        clear hown hkp hbk hc hlen
        go_wp2_with (first
          | (at_builtin; refine wpList_append_own_at _ rfl (.tmp 18) (.tmp 20) 45 rfl w.heap.size 3 i0 (.int .i64 0) 1 8 Tryd.underlying45 hi0 hz0 hz1 hz2 rfl (by decide) _ _ _ rfl (HOWN.out.alloc _) ⟨wr.heap.size, 0, none⟩ 1 1 [.int .i64 (k : Int)] rfl rfl HN1.out NONE (by have := HLEN.out; unfold maxLen; omega) (by have := HLEN.out; omega) (by have := HGE.out; simp; omega) ?_; intro v' w9 hown' hgr _ hat; have HO' := hid hown'; have HK9 : Hid (Kp lv.ownBlock.toList wr w9) := ((Kp.new wr _).trans (Kp.of_grown hgr) (by simp) (fun x hx => .inl hx)); clear hown' hgr hat)
          | fail)
        go_roundw
        case rel =>
          refine ⟨k + 1, _, rfl, by omega, by go_num, ?_, HKP.out.trans HK9.out (by simp) (fun x hx => .inr (HNEW.out x hx)), HBK.out.kp HK9.out HOFF.out⟩
          rw [HT.out, List.length_append]
          have e : zcells (trues kb k ++ [(k : Int)]) = zcells (trues kb k) ++ [.int .i64 (k : Int)] := by simp [zcells]
          rw [e]
          exact HO'.out
        case measure => simp [intOf]; omega
    · obtain rfl : k = n := by omega
      have HF : Hid (IntsP w t.kept (.returned lv) wr) := by
        show IntsP _ _ _ _
        rw [HKE.out]
        exact ⟨_, rfl, hown, hkp⟩
      clear hown hkp hbk
      go_wp2
      go_ret
      exact HF.out
end
end Go.Proofs.YtbiompmklijgoaaDoor
/-
  The contracts of package model's clearLoose at any object, and of Collect. Conditions: those that stand in each theorem.
-/
namespace Go.Proofs.YtbiompmklijgoaaDoor
set_option linter.unusedVariables false
set_option linter.unusedSimpArgs false
open Go.RowKit Go.Deep Go.Maps Go.WideElems Go.MapKept

/-- What clearLoose does, and whether it changes something. -/
def MT.clr (t : MT) (kb : List Bool) (x : Int) : MT × Bool :=
  if (t.obj x).k = 1 ∨ (t.obj x).k = 2 then
    if kb.getD (t.rf x 0).toNat false = true then (t, false)
    else if (t.obj x).k = 1 then (t.setW (t.obj x).f 0, t.rf x 0 != 0)
    else ((t.setW (t.obj x).f 0).setW ((t.obj x).f + 1) 0, (t.rf x 0 != 0) || (t.rf x 1 != 0))
  else (t, false)
/-- Collect, up to identity k. -/
def MT.clrs (t : MT) (kb : List Bool) : Nat → MT × Nat
  | 0 => (t, 0)
  | k + 1 =>
    let p := MT.clrs t kb k
    if kb.getD k false = true then ((p.1.clr kb (k : Int)).1, p.2 + (if (p.1.clr kb (k : Int)).2 = true then 1 else 0)) else p
def MT.collect (t : MT) : MT × Nat := t.clrs t.kb (t.ob.length + 1)
section
variable {w w' W V : World} {b : MB} {t : MT}
theorem MT.setW_ob (t : MT) (p : Nat) (y : Int) : (t.setW p y).ob = t.ob ∧ (t.setW p y).sl = t.sl ∧ (t.setW p y).gl = t.gl ∧ (t.setW p y).qu = t.qu ∧ (t.setW p y).n = t.n ∧ (t.setW p y).ws.length = t.ws.length := ⟨rfl, rfl, rfl, rfl, rfl, by simp [MT.setW]⟩
/-- What stays. -/
structure MT.Like (t t' : MT) : Prop where
  ob : t'.ob = t.ob
  sl : t'.sl = t.sl
  gl : t'.gl = t.gl
  qu : t'.qu = t.qu
  n : t'.n = t.n
  wl : t'.ws.length = t.ws.length
theorem MT.Like.refl (t : MT) : t.Like t := ⟨rfl, rfl, rfl, rfl, rfl, rfl⟩
theorem MT.Like.trans {a b c : MT} (h : a.Like b) (k : b.Like c) : a.Like c := ⟨k.ob.trans h.ob, k.sl.trans h.sl, k.gl.trans h.gl, k.qu.trans h.qu, k.n.trans h.n, k.wl.trans h.wl⟩
theorem MT.Like.setW (t : MT) (p : Nat) (y : Int) : t.Like (t.setW p y) := ⟨rfl, rfl, rfl, rfl, rfl, by simp [MT.setW]⟩
theorem MT.clr_like (t : MT) (kb : List Bool) (x : Int) : t.Like (t.clr kb x).1 := by
  unfold MT.clr
  split
  · split
    · exact .refl t
    · split
      · exact .setW _ _ _
      · exact (MT.Like.setW _ _ _).trans (.setW _ _ _)
  · exact .refl t
theorem MT.clrs_like (t : MT) (kb : List Bool) (k : Nat) : t.Like (t.clrs kb k).1 := by
  induction k with
  | zero => exact .refl t
  | succ k ih =>
    simp only [MT.clrs]
    split
    · exact ih.trans (MT.clr_like _ _ _)
    · exact ih
theorem m_clear (R : MR w b t) {x : Int} (hx : t.has x = true) {gk n : Nat} {kb : List Bool} (hb : Blk w gk 4 (bcells kb)) (hl : kb.length = n) (hn : n = t.ob.length + 1) :
    Calls Tryd.prog 72 #[.pointer (some ⟨b.g, 0, none⟩), .int .i64 x, .slice (some ⟨gk, 0, none⟩) n n] w fun e w' => e = .returned (.bool (t.clr kb x).2) ∧ ChgM w b (t.clr kb x).1 w' := by
  have hob := R.ok.small.1
  obtain ⟨h4, _, _, h2⟩ := R.kinds hx
  by_cases hk : (t.obj x).k = 1 ∨ (t.obj x).k = 2
  · have hle := R.loose_le hx hk
    have hxr := of_decide_eq_true hx
    have p0 := R.ok.rfs hxr (i := 0) (by omega)
    obtain ⟨zn, hz⟩ : ∃ zn : Nat, t.rf x 0 = (zn : Int) := ⟨(t.rf x 0).toNat, by omega⟩
    have hz' : (zn : Int) = t.ws.getD (t.obj x).f 0 := by rw [← hz]; rfl
    have hzn : zn < n := by omega
    have hc : w.cell? ⟨gk, zn, none⟩ = some (.bool (kb.getD zn false)) := (hb.cell zn).trans (bcells_get (by omega))
    cases hkb : kb.getD zn false
    · rw [hkb] at hc
      rcases hk with hk | hk
      · have e : t.clr kb x = (t.setW (t.obj x).f 0, (zn : Int) != 0) := by
          unfold MT.clr
          rw [if_pos (.inl hk), hz, Int.toNat_natCast, if_neg (by rw [hkb]; simp), if_pos hk]
        rw [e]
        exact m_clear_one R hx hk gk n zn hz' hzn (by omega) hc
      · have e : t.clr kb x = ((t.setW (t.obj x).f 0).setW ((t.obj x).f + 1) 0, ((zn : Int) != 0) || (t.rf x 1 != 0)) := by
          unfold MT.clr
          rw [if_pos (.inr hk), hz, Int.toNat_natCast, if_neg (by rw [hkb]; simp), if_neg (by omega)]
        rw [e]
        exact m_clear_two R hx hk (t.rf x 1) rfl gk n zn hz' hzn (by omega) hc
    · rw [hkb] at hc
      have e : t.clr kb x = (t, false) := by
        unfold MT.clr
        rw [if_pos hk, hz, Int.toNat_natCast, if_pos hkb]
      rw [e]
      exact (m_clear_kept R hx hk gk n zn hz' hzn (by omega) hc).mono fun _ _ ⟨h1, h2⟩ => ⟨h1, ChgM.same R h2⟩
  · have e : t.clr kb x = (t, false) := by
      unfold MT.clr
      rw [if_neg hk]
    rw [e]
    exact (m_clear_no R hx (by omega) _).mono fun _ _ ⟨h1, h2⟩ => ⟨h1, ChgM.same R h2⟩
def CoRel (w : World) (b : MB) (t : MT) (gk : Nat) (kb : List Bool) (k : Nat) (wr : World) : Prop := ∃ b' : MB, b'.g = b.g ∧ b'.sb = b.sb ∧ MR wr b' (t.clrs kb k).1 ∧ Kp b.all w wr ∧ (∀ x ∈ b'.all, x ∈ b.all ∨ w.heap.size ≤ x) ∧ gk ∉ b'.all ∧ Blk wr gk 4 (bcells kb)
theorem CoRel.next {gk : Nat} {kb : List Bool} {b' : MB} {t1 : MT} (hg : b'.g = b.g) (hs : b'.sb = b.sb) (hK : Kp b.all w W) (hn : ∀ x ∈ b'.all, x ∈ b.all ∨ w.heap.size ≤ x) (hoff : gk ∉ b'.all) (hb : Blk W gk 4 (bcells kb)) (C : ChgM W b' t1 V) :
    ∃ b2 : MB, b2.g = b.g ∧ b2.sb = b.sb ∧ MR V b2 t1 ∧ Kp b.all w V ∧ (∀ x ∈ b2.all, x ∈ b.all ∨ w.heap.size ≤ x) ∧ gk ∉ b2.all ∧ Blk V gk 4 (bcells kb) := by
  obtain ⟨b2, e1, e2, R2, K2, N2⟩ := C
  have hlt := hb.lt
  refine ⟨b2, e1.trans hg, e2.trans hs, R2, hK.trans K2 (fun x hx => .inl hx) hn, fun x hx => ?_, fun hm => ?_, hb.kp K2 hoff⟩
  · rcases N2 x hx with h | h
    · exact hn x h
    · exact .inr (Nat.le_trans hK.size h)
  · rcases N2 gk hm with h | h
    · exact hoff h
    · omega
set_option maxRecDepth 100000 in
set_option maxHeartbeats 600000 in
theorem m_Collect (R : MR w b t) :
    Calls Tryd.prog 39 #[.pointer (some ⟨b.g, 0, none⟩)] w fun e w' => e = .returned (.int .i64 (t.collect.2 : Int)) ∧ ChgM w b t.collect.1 w' := by
  have HKL := hid R.ok.kb_len
  have hob := R.ok.small.1
  have HP0 : Hid (t.kb.getD 0 false = false) := by
    cases h : t.kb.getD 0 false
    · rfl
    · have := ((R.ok.kb_iff 0).1 h).pos R.ok; simp at this
  have HR := hid R
  clear R
  go_enter Tryd.func39, Tryd.ntmps39
  go_wp2_with (fail)
  refine (m_made HR.out).mono ?_
  rintro e w1 ⟨rfl, n1, rfl⟩
  have HK1 := hid (Kp.draw w n1)
  have HR1 := hid (HR.out.kp0 HK1.out)
  generalize w.drewN n1 = w1 at HK1 HR1
  go_wp2_with (fail)
  refine (m_findKept HR1.out).mono ?_
  rintro e w2 ⟨gk, rfl, hb2, hge, K2⟩
  obtain ⟨n, hn⟩ : ∃ n, n = t.ob.length + 1 := ⟨_, rfl⟩
  have HN := hid hn
  have HCE : Hid (t.collect = t.clrs t.kb n) := by show _ = _; rw [hn]; rfl
  rw [← hn] at HKL ⊢
  have hn9 : n ≤ 100001 := by omega
  have HREL : Hid (CoRel w b t gk t.kb 0 w2) := ⟨b, rfl, rfl, HR1.out.kp0 K2, (HK1.out.chain K2).mono (by simp), fun x hx => .inl hx, fun hm => by have := HR1.out.lt gk hm; omega, hb2⟩
  have HC0 : Hid ((t.clrs t.kb 0).2 = 0) := rfl
  clear hb2 hge K2 hn hob
  generalize t.kb = kb at HKL HCE HREL HC0 HP0
  go_wp2_with (fail)
  go_loopw [3, 14] (fun ct cl wr => ∃ k : Nat, k ≤ n ∧ cl = .int .i64 (k : Int) ∧ ct = .int .i64 ((t.clrs kb k).2 : Int) ∧ (t.clrs kb k).2 ≤ k ∧ CoRel w b t gk kb k wr) (fun _ cl _ => n - (intOf cl).toNat)
  case atStart => exact ⟨0, by omega, rfl, rfl, Nat.le_refl _, HREL.out⟩
  case round =>
    obtain ⟨k, hk, rfl, rfl, hcn, b', eg, es, Rk, hK, hnw, hoff, hbk⟩ := hrel
    obtain ⟨p, hp⟩ : ∃ p, p = t.clrs kb k := ⟨_, rfl⟩
    rw [← hp] at hcn Rk ⊢
    have HP := hid hp
    clear hp
    by_cases hlt : k < n
    · have ck : wr.cell? ⟨gk, k, none⟩ = some (.bool (kb.getD k false)) := (hbk.cell k).trans (bcells_get (by rw [HKL.out]; exact hlt))
      have HRK := hid Rk
      have HK := hid hK
      have HNW := hid hnw
      have HOFF := hid hoff
      have HBK := hid hbk
      have HEG := hid eg
      have HES := hid es
      have hkni : (k : Int) < (n : Int) := by omega
      rcases hc : kb.getD k false
      · have HT : Hid (t.clrs kb (k + 1) = p) := by
          show _ = _
          simp only [MT.clrs]
          rw [if_neg (by rw [hc]; simp), HP.out]
        rw [hc] at ck
        clear Rk hK hnw hoff hbk hc eg es
        go_wp2
        go_roundw
        case rel => exact ⟨k + 1, by omega, by go_num, by rw [HT.out], by rw [HT.out]; omega, b', HEG.out, HES.out, by rw [HT.out]; exact HRK.out, HK.out, HNW.out, HOFF.out, HBK.out⟩
        case measure => simp [intOf]; omega
      · have hlk : t.Like p.1 := by rw [HP.out]; exact t.clrs_like kb k
        have hk0 : k ≠ 0 := by
          rintro rfl
          rw [HP0.out] at hc; cases hc
        have hhas : p.1.has (k : Int) = true := decide_eq_true (by rw [hlk.ob]; have := HN.out; omega)
        have HHAS := hid hhas
        have HT : Hid (t.clrs kb (k + 1) = ((p.1.clr kb (k : Int)).1, p.2 + (if (p.1.clr kb (k : Int)).2 = true then 1 else 0))) := by
          show _ = _
          simp only [MT.clrs]
          rw [if_pos hc, HP.out]
        have HLN : Hid (n = p.1.ob.length + 1) := by show _ = _; rw [hlk.ob]; exact HN.out
        rw [hc] at ck
        have hcl := m_clear HRK.out hhas HBK.out HKL.out HLN.out
        rw [eg] at hcl
        have HCL := hid hcl
        clear Rk hK hnw hoff hbk hc hlk hhas hcl eg es
        generalize hpc : p.1.clr kb (k : Int) = pc at HT HCL
        clear hpc
        obtain ⟨t1, ch⟩ := pc
        cases ch
        · go_wp2_with (fail)
          refine HCL.out.mono ?_
          rintro e w5 ⟨rfl, C5⟩
          obtain ⟨b2, q1, q2, q3, q4, q5, q6, q7⟩ := CoRel.next HEG.out HES.out HK.out HNW.out HOFF.out HBK.out C5
          have HQ3 := hid q3
          have HQ4 := hid q4
          have HQ5 := hid q5
          have HQ6 := hid q6
          have HQ7 := hid q7
          have HQ1 := hid q1
          have HQ2 := hid q2
          clear C5 q1 q2 q3 q4 q5 q6 q7
          go_wp2_with (fail)
          go_roundw
          case rel => exact ⟨k + 1, by omega, by go_num, by rw [HT.out]; simp, by rw [HT.out]; simp; omega, b2, HQ1.out, HQ2.out, by rw [HT.out]; exact HQ3.out, HQ4.out, HQ5.out, HQ6.out, HQ7.out⟩
          case measure => simp [intOf]; omega
        · go_wp2_with (fail)
          refine HCL.out.mono ?_
          rintro e w5 ⟨rfl, C5⟩
          obtain ⟨b2, q1, q2, q3, q4, q5, q6, q7⟩ := CoRel.next HEG.out HES.out HK.out HNW.out HOFF.out HBK.out C5
          have HQ3 := hid q3
          have HQ4 := hid q4
          have HQ5 := hid q5
          have HQ6 := hid q6
          have HQ7 := hid q7
          have HQ1 := hid q1
          have HQ2 := hid q2
          clear C5 q1 q2 q3 q4 q5 q6 q7
          go_wp2_with (fail)
          go_roundw
          case rel => exact ⟨k + 1, by omega, by go_num, by rw [HT.out]; simp, by rw [HT.out]; simp; omega, b2, HQ1.out, HQ2.out, by rw [HT.out]; exact HQ3.out, HQ4.out, HQ5.out, HQ6.out, HQ7.out⟩
          case measure => simp [intOf]; omega
    · obtain rfl : k = n := by omega
      have HF : Hid (ChgM w b t.collect.1 wr) := ⟨b', eg, es, by rw [HCE.out, ← HP.out]; exact Rk, hK, hnw⟩
      have HF2 : Hid (t.collect.2 = p.2) := by show _ = _; rw [HCE.out, HP.out]
      clear Rk hK hnw hoff hbk
      go_wp2
      go_ret
      exact ⟨by rw [HF2.out]; rfl, HF.out⟩
end
end Go.Proofs.YtbiompmklijgoaaDoor
