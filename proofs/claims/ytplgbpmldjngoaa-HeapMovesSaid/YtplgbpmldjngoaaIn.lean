/-
  The law HeapMoves, walked. Conditions: those that stand in each theorem.
-/
import Derived.Test.YtplgbpmldjngoaaIm
namespace Go.Proofs.Ytplgbpmldjngoaa
set_option linter.unusedVariables false
set_option linter.unusedSimpArgs false
open Go.RowKit Go.Deep Go.Maps

theorem infoRow : (Try.prog.info? 26).map (fun i => (i.zero, i.size, i.bytes)) = some (some (.slice none 0 0), 1, 24) := by kernel_rfl
theorem one_newV (w : World) (x : Value) (t : TypeId) : ∀ (j : Nat) (u : Value), ([x] : List Value)[j]? = some u → (w.alloc (.cells #[x] t)).cell? ((⟨w.heap.size, 0, none⟩ : Addr).add j) = some u := by
  intro j u hu
  exact blk_read (xs := [x]) (sp := []) (Blk.new w t _) j u hu
theorem row_endV {B : Nat} {w W w1 : World} {e : TypeId} {z : Nat} {zs : List Value} {k k' : Nat} {v : Value} (hW : Below B w W) (hB : B ≤ w.heap.size) (own : W.ownsRow B e z v k zs)
    (g : W.grownBy w1 v.ownBlock) : Below B w w1 := by
  refine hW.grown g (Nat.le_trans hB hW.size) ?_
  intro k hk
  rcases own.2 with ⟨rfl, _⟩ | ⟨g', cap, cur, rfl, hg, _⟩
  · simp [Value.ownBlock] at hk
  · simp [Value.ownBlock] at hk
    omega
/-- Rows of numbers, none of which lies in the block s. -/
def RowsAt (w : World) (B : Nat) (s : Option Nat) (vs : List Value) (f : Nat → List Int) : Prop :=
  ∀ i, i < vs.length → ∃ g n cap, vs[i]? = some (.slice (some ⟨g, 0, none⟩) n cap) ∧ s ≠ some g ∧ g < w.heap.size ∧ FarI w B (.slice (some ⟨g, 0, none⟩) n cap) (f i)
theorem RowsAt.kp0 {w W : World} {B : Nat} {s : Option Nat} {vs : List Value} {f : Nat → List Int} (h : RowsAt w B s vs f) (k : Kp [] w W) : RowsAt W B s vs f := fun i hi => by
  obtain ⟨g, n, cap, h1, h2, h3, h4⟩ := h i hi
  exact ⟨g, n, cap, h1, h2, Nat.lt_of_lt_of_le h3 k.size, h4.kp k (by simp)⟩
theorem RowsAt.grow {w W : World} {B : Nat} {s s' : Option Nat} {vs : List Value} {f : Nat → List Int} (h : RowsAt w B s vs f) (g : w.grownBy W s) (hs : s' = s ∨ s' = some w.heap.size) : RowsAt W B s' vs f := fun i hi => by
  obtain ⟨gr, n, cap, h1, h2, h3, h4⟩ := h i hi
  refine ⟨gr, n, cap, h1, ?_, Nat.lt_of_lt_of_le h3 g.size, far_grow h4 g (fun a ha => by cases ha; exact h2)⟩
  rcases hs with rfl | rfl
  · exact h2
  · intro hx; injection hx with hx; omega
theorem RowsAt.snoc {w : World} {B : Nat} {s : Option Nat} {vs : List Value} {f : Nat → List Int} {g n cap : Nat} (h : RowsAt w B s vs f) (h2 : s ≠ some g) (h3 : g < w.heap.size) (h4 : FarI w B (.slice (some ⟨g, 0, none⟩) n cap) (f vs.length)) : RowsAt w B s (vs ++ [.slice (some ⟨g, 0, none⟩) n cap]) f := fun i hi => by
  by_cases hl : i < vs.length
  · obtain ⟨gr, n', cap', e1, e2⟩ := h i hl
    exact ⟨gr, n', cap', by rw [List.getElem?_append_left hl]; exact e1, e2⟩
  · have : i = vs.length := by simp at hi; omega
    subst this
    exact ⟨g, n, cap, by simp, h2, h3, h4⟩
theorem FarI.base {w : World} {B C : Nat} {v : Value} {zs : List Int} (h : FarI w C v zs) (hB : B ≤ C) : FarI w B v zs := by
  obtain ⟨A, cap, rfl, h1, h2, hA⟩ := h
  exact ⟨A, cap, rfl, h1, h2, fun i hi => by obtain ⟨g, e1, hg, e2⟩ := hA i hi; exact ⟨g, e1, Nat.le_trans hB hg, e2⟩⟩
/-- What is carried through a round that holds the contents of an object against what they were. -/
structure MV (w W : World) (b : HB) (q : Nat) (m : HM) (B gs i gr nr cr : Nat) (zs : List Int) : Prop where
  sh : SH W b q m
  far : FarI W B (.slice (some ⟨gr, 0, none⟩) nr cr) zs
  c : W.cell? ⟨gs, i, none⟩ = some (.slice (some ⟨gr, 0, none⟩) nr cr)
  dr : Kp [] w W
section
variable {w W V : World} {b : HB} {m : HM} {q B gs i gr nr cr : Nat} {zs : List Int}
theorem MV.stepK (u : MV w W b q m B gs i gr nr cr zs) (k : Kp [] W V) : MV w V b q m B gs i gr nr cr zs := ⟨u.sh.kp0 k, u.far.kp k (by simp), cell_kp k u.c, u.dr.chain k⟩
theorem has_k (u : MV w W b q m B gs i gr nr cr zs) {x : Nat} (hx : m.has (x : Int) = true) (hw : W64 (x : Int)) : Calls Try.prog 23 #[.pointer (some ⟨b.g, 0, none⟩), .int .i64 (x : Int)] W fun e w' => e = .returned (.bool true) ∧ Kp [] W w' := by
  refine (h_has u.sh _ hw).mono ?_
  rintro e w' ⟨rfl, n, rfl⟩
  rw [hx]
  exact ⟨rfl, Kp.draw _ _⟩
theorem cont_k (u : MV w W b q m B gs i gr nr cr zs) {x : Nat} {o : Ob} (hx : m.ob x = some o) : Calls Try.prog 21 #[.pointer (some ⟨b.g, 0, none⟩), .int .i64 (x : Int)] W fun e w' => ∃ v, e = .returned v ∧ FarI w' W.heap.size v o.conts ∧ Kp [] W w' := by
  refine (h_contents u.sh hx).mono ?_
  rintro e w' ⟨v, rfl, own, bel⟩
  exact ⟨v, rfl, FarI.of_own own, Kp.of_below bel⟩
theorem ints_k {C : Nat} {v : Value} (F : FarI W C v zs) (u : MV w W b q m B gs i gr nr cr zs) (hl : zs.length ≤ 1000000) : Calls Try.prog 24 #[v, .slice (some ⟨gr, 0, none⟩) nr cr] W fun e w' => e = .returned (.bool true) ∧ Kp [] W w' := by
  refine (ints_yes F u.far hl).mono ?_
  rintro e w' ⟨rfl, n, rfl⟩
  exact ⟨rfl, Kp.draw _ _⟩
end
section
variable {w : World}
theorem contI_of {m : HM} {i t : Nat} {o : Ob} (ht : m.allL.getD i 0 = (t : Int)) (ho : m.ob t = some o) : m.contI i = o.conts := by
  unfold HM.contI
  rw [ht, Int.toNat_natCast, ho]
set_option maxRecDepth 100000 in
set_option maxHeartbeats 8000000 in
theorem moves_ok (n : Int) (A : Option Addr) (len cap : Nat) (f t : Int) (hA : ActsAt w A len) (hf : W64 f) (ht : W64 t) :
    Calls Try.prog 4 #[.int .i64 n, .slice A len cap, .int .i64 f, .int .i64 t] w (TrueP w) := by
  obtain ⟨i0, hi0, hz0, hz1, hz2⟩ := info_parts infoRow
  have HA := hid hA
  have HF := hid hf
  have HT := hid ht
  clear hA hf ht
  go_enter Try.func4, Try.ntmps4
  go_wp2_with (fail)
  refine (h_made_any n A len cap HA.out).mono ?_
  rintro e w2 ⟨K2, rfl | ⟨b, m, q, rfl, S2, hq, N2⟩⟩
  · have HK := hid K2
    clear K2
    go_wp2_with (go_at_call 14; refine (alive_ok _).mono ?_; rintro e w3 ⟨rfl, K3⟩; have HK3 := hid (HK.out.chain K3); clear K3)
    go_ret
    exact ⟨rfl, HK3.out⟩
  · have HK := hid K2
    have HN : Hid (∀ y ∈ b.all, w.heap.size ≤ y) := N2
    have HS := hid S2
    have I := S2.inv
    have hal := all_le I
    have HI := hid I
    have HQ : Hid (q ≤ 900000000) := by show _ ≤ _; omega
    clear K2 S2 N2 I
    go_wp2_with (fail)
    refine (h_all HS.out).mono ?_
    rintro e w3 ⟨v3, rfl, own3, bel3⟩
    have HF3 := hid (FarI.of_own own3)
    obtain ⟨A3, cap3, rfl, hc3a, hc3b, _⟩ := FarI.of_own own3
    unfold maxLen at hc3b
    have HK3 := hid (HK.out.chain (Kp.of_below bel3))
    have HS3 := hid (HS.out.kp0 (Kp.of_below bel3))
    clear own3 bel3
    go_wp2
    go_loopw [11, 12] (fun s c wr => ∃ (i : Nat) (vs : List Value) (sv : Value), sv = s ∧ i ≤ m.allL.length ∧ c = .int .i64 (i : Int) ∧ vs.length = i ∧ wr.ownsRow w3.heap.size 26 1 s i vs ∧ Below w3.heap.size w3 wr ∧ RowsAt wr w3.heap.size s.ownBlock vs m.contI) (fun _ c _ => m.allL.length - (intOf c).toNat)
    case atStart => exact ⟨0, [], _, rfl, by omega, rfl, rfl, ⟨rfl, .inl ⟨rfl, rfl⟩⟩, Below.refl _ _, fun i hi => absurd hi (by simp)⟩
    case round =>
      obtain ⟨i, vs, sv, hsv, hi, rfl, hvl, own, bel, rows⟩ := hrel
      subst hsv
      have HO := hid own
      have HBE := hid bel
      have HRO := hid rows
      have HVL := hid hvl
      have HSZ : Hid (w3.heap.size ≤ wr.heap.size) := bel.size
      have HS4 := hid (HS3.out.kp0 (Kp.of_below bel))
      have hfar := HF3.out.kp (Kp.of_below bel) (by simp)
      have HF4 := hid hfar
      clear own bel rows hvl
      by_cases hlt : i < m.allL.length
      · obtain ⟨g, rfl, hg, hcell⟩ := hfar.at_ i hlt
        obtain ⟨t', o, ht', ho⟩ := all_at hlt
        rw [ht'] at hcell
        have hok := HI.out.ok _ _ ho
        have HC4 := hid (conts_len hok).2
        have HCI := hid (contI_of ht' ho)
        have HOB := hid ho
        clear ht' ho hok hfar
        go_wp2_with (first
          | (go_at_call 21; refine (h_contents HS4.out HOB.out).mono ?_; rintro e w10 ⟨v10, rfl, own10, bel10⟩; have HF10 := hid (FarI.of_own own10); have HOL := hid (own_lt own10); obtain ⟨g10, cap10, rfl, _⟩ := src_of own10 HC4.out; have HK10 := hid (Kp.of_below bel10); have hgb : wr.heap.size ≤ g10 := (by rcases own10.2 with ⟨hx, _⟩ | ⟨g9, c9, cur9, hx, hg9, _⟩; (· cases hx); (· cases hx; exact hg9)); have HGB := hid hgb; have HSZ10 : Hid (w3.heap.size ≤ w10.heap.size) := Nat.le_trans HSZ.out bel10.size; have HN10 := hid (one_newV w10 (.slice (some ⟨g10, 0, none⟩) o.conts.length cap10) 26); clear own10 bel10 hgb)
          | (at_builtin; refine wpList_append_own_at _ rfl (.tmp 32) (.tmp 39) 36 rfl w3.heap.size 26 i0 (.slice none 0 0) 1 24 Try.underlying36 hi0 hz0 hz1 hz2 rfl (by decide) _ _ _ rfl ((own_kp0 HO.out HK10.out).alloc _) ⟨w10.heap.size, 0, none⟩ 1 1 [.slice (some ⟨g10, 0, none⟩) o.conts.length cap10] rfl rfl HN10.out (by simp [Value.oneCell']) (by unfold maxLen; omega) (by omega) (by have := HSZ10.out; simp; omega) ?_; intro v11 w11 own11 g11 _ at11; have H11 := hid own11; have HG11 := hid g11; have HA11 := hid at11; clear own11 g11 at11))
        go_roundw
        case rel =>
          have kA : Kp [] wr (w10.alloc (.cells #[.slice (some ⟨g10, 0, none⟩) o.conts.length cap10] 26)) := HK10.out.chain (Kp.new _ _)
          have b1 := row_endV (k' := 0) (kA.below HSZ.out (by simp)) HSZ.out (own_kp0 HO.out kA) HG11.out
          have hdis : ∀ x, (v11.ownBlock = x) → x ≠ some g10 := by
            intro x hx
            rcases HA11.out with e | e
            · rw [← hx, e]
              intro hy
              have := own_lt HO.out _ hy
              have := HGB.out
              omega
            · rw [← hx, e]
              intro hy
              injection hy with hy
              have h1 := HOL.out g10 rfl
              simp at hy
              omega
          have hlen : vs.length = i := HVL.out
          have r1 := (HRO.out.kp0 kA).grow HG11.out HA11.out
          have hsize : g10 < w11.heap.size := Nat.lt_of_lt_of_le (HOL.out g10 rfl) (Nat.le_trans (Kp.new w10 (.cells #[.slice (some ⟨g10, 0, none⟩) o.conts.length cap10] 26)).size HG11.out.size)
          have F11 := far_grow ((HF10.out.base HSZ.out).kp (Kp.new w10 (.cells #[.slice (some ⟨g10, 0, none⟩) o.conts.length cap10] 26)) (by simp)) HG11.out (fun a ha => by
            cases ha
            intro hy
            have h1 := own_lt HO.out _ hy
            have h2 := HGB.out
            simp at h1
            omega)
          refine ⟨i + 1, vs ++ [.slice (some ⟨g10, 0, none⟩) o.conts.length cap10], _, rfl, by omega, by go_num, by simp [hlen], H11.out, HBE.out.trans b1, r1.snoc (hdis _ rfl) hsize ?_⟩
          rw [hlen, HCI.out]
          exact F11
        case measure => simp [intOf]; omega
      · obtain rfl : i = m.allL.length := by omega
        go_wp2_with (fail)
        have HK4 := hid (HK3.out.chain (Kp.of_below HBE.out))
        refine (h_move HS4.out f t HF.out HT.out HQ.out).mono ?_
        rintro e w5 ⟨rfl, S5, K5⟩
        have HBL : Hid (∀ x ∈ b.all, x < w3.heap.size) := HS3.out.lt
        have HS5 := hid S5
        have HK5 := hid (HK4.out.trans K5 (U := []) (by simp) (fun x hx => .inr (HN.out x hx)))
        have rows5 : RowsAt w5 w3.heap.size none vs m.contI := fun i hi => by
          obtain ⟨g, n', cap', h1, h2, h3, h4⟩ := HRO.out i hi
          exact ⟨g, n', cap', h1, by simp, Nat.lt_of_lt_of_le h3 K5.size, h4.kp K5 (fun x hx => HBL.out x hx)⟩
        have HR5 := hid rows5
        have HF5 := hid (HF4.out.kp K5 (fun x hx => HS.out.lt x hx))
        have hcells : ∀ gs cs, sv = .slice (some ⟨gs, 0, none⟩) m.allL.length cs → ∀ j, j < m.allL.length → w5.cell? ⟨gs, j, none⟩ = vs[j]? := fun gs cs hs j hj => by
          subst hs
          have h1 := HO.out.cellAt j (by have := HVL.out; omega)
          have hgs : w3.heap.size ≤ gs := by
            rcases HO.out.2 with ⟨hx, _⟩ | ⟨g9, c9, cur9, hx, hg9, _⟩
            · cases hx
            · cases hx; exact hg9
          have hx : gs ∉ b.all := fun hx => by have := HBL.out gs hx; omega
          rw [← h1]
          rcases hcj : wr.cell? ⟨gs, j, none⟩ with _ | u
          · rw [hcj] at h1
            rw [List.getElem?_eq_getElem (by have := HVL.out; omega)] at h1
            cases h1
          · rw [← hcj]
            exact World.cell?_of_block (K5.block gs (cell_lt hcj) hx)
        have HCE := hid hcells
        have hform : sv = .slice none 0 0 ∧ m.allL.length = 0 ∨ ∃ gs cs, sv = .slice (some ⟨gs, 0, none⟩) m.allL.length cs ∧ m.allL.length ≤ cs ∧ cs ≤ maxLen := by
          rcases HO.out.2 with ⟨hx, h0⟩ | ⟨g9, c9, cur9, hx, hg9, _, h1, h2, _⟩
          · exact .inl ⟨hx, h0⟩
          · exact .inr ⟨g9, c9, hx, h1, h2⟩
        have HFO := hid hform
        clear S5 K5 rows5 hcells hform hfar HO HBE HRO HSZ HS4 HF4 HF3 HK3 HS3
        generalize hE : m.moveE f t = E at HS5 HK5 ⊢
        have HME := hid hE
        clear hE
        go_wp2
        go_loopw [14] (fun c wr => ∃ i : Nat, i ≤ m.allL.length ∧ c = .int .i64 (i : Int) ∧ Kp [] w5 wr) (fun c _ => m.allL.length - (intOf c).toNat)
        case atStart => exact ⟨0, by omega, rfl, Kp.refl _ _⟩
        case round =>
          obtain ⟨i, hi, rfl, k6⟩ := hrel
          have HK6 := hid k6
          have HF6 := hid (HF5.out.kp k6 (by simp))
          by_cases hlt : i < m.allL.length
          · obtain ⟨g, rfl, hg, hcell⟩ := HF6.out.at_ i hlt
            obtain ⟨x, o, hx, ho⟩ := all_at hlt
            rw [hx] at hcell
            have HOB := hid ho
            have HCI := hid (contI_of hx ho)
            have hxn := HI.out.hi ho
            have hnb := HI.out.n_bd
            obtain ⟨gr, nr, cr, hr1, _, _, hrF⟩ := HR5.out i (by have := HVL.out; omega)
            obtain ⟨gs, cs, rfl, hcs1, hcs2⟩ := HFO.out.resolve_left (by rintro ⟨_, h0⟩; omega)
            have hrc := (HCE.out gs cs rfl i hlt).trans hr1
            unfold maxLen at hcs2
            clear HCE HFO HR5 HF5 HF6 hr1 hx ho hg HVL
            by_cases hE0 : E = 0
            · subst hE0
              obtain ⟨k, j, o0, rfl, rfl, hko, hj2, hjn, hmv, hne⟩ := moved HI.out HME.out
              by_cases hxk : x = k
              · subst hxk
                have hoo : o0 = o := by have := HOB.out; rw [this] at hko; exact (Option.some.inj hko).symm
                subst hoo
                have hox : (m.moveM (x : Int) (j : Int)).ob j = some o0 := by rw [hmv, moved_ob, if_pos rfl]
                have HOX := hid hox
                have HHX := hid (has_of hox)
                have HWX : Hid (W64 (j : Int)) := ⟨by omega, by omega⟩
                clear hox hmv hne hko
                have HMV : Hid (∀ W, Kp [] wr W → MV w5 W b (q + 2) (m.moveM (x : Int) (j : Int)) w3.heap.size gs i gr nr cr o0.conts) := fun W k => ⟨HS5.out.kp0 (HK6.out.chain k), by rw [← HCI.out]; exact hrF.kp (HK6.out.chain k) (by simp), cell_kp (HK6.out.chain k) hrc, HK6.out.chain k⟩
                have hcl : wr.cell? ⟨gs, i, none⟩ = some (.slice (some ⟨gr, 0, none⟩) nr cr) := cell_kp HK6.out hrc
                have HLX : Hid (o0.conts.length ≤ 1000000) := by have := conts_len (HI.out.ok _ _ HOB.out); show _ ≤ _; omega
                clear hrF hrc k6
                go_wp2
                have U0 := HMV.out (wr.drew) (Kp.draw _ 1)
                have t0 := U0.c
                clear HMV hcl
                go_region_held3 (fun W => W.cell? ⟨gs, i, none⟩ = some (.slice (some ⟨gr, 0, none⟩) nr cr)) (go_keep)
                  (first
                    | (go_at_call 23; refine (has_k (w := w5) (by assumption) HHX.out HWX.out).mono ?_; rintro e w7 ⟨rfl, K7⟩; have U1 := MV.stepK (w := w5) (by assumption) K7; have t1 := U1.c; clear K7)
                    | (go_at_call 21; refine (cont_k (w := w5) (by assumption) HOX.out).mono ?_; rintro e w8 ⟨v8, rfl, F8, K8⟩; have U2 := MV.stepK (w := w5) (by assumption) K8; have t2 := U2.c; clear K8)
                    | (go_at_call 24; refine (ints_k (w := w5) (by assumption) (by assumption) HLX.out).mono ?_; rintro e w9 ⟨rfl, K9⟩; have U3 := MV.stepK (w := w5) (by assumption) K9; have t3 := U3.c; clear K9))
                all_goals (
                  go_wp2
                  go_roundw
                  case rel => exact ⟨i + 1, by omega, by go_num, MV.dr (by assumption)⟩
                  case measure => simp [intOf]; omega)
              · have hox : (m.moveM (k : Int) (j : Int)).ob x = some o := by rw [hmv, moved_ob, if_neg (hne x o HOB.out hxk), if_neg hxk]; exact HOB.out
                have HOX := hid hox
                have HHX := hid (has_of hox)
                have HWX : Hid (W64 (x : Int)) := ⟨by omega, by omega⟩
                have f1 : ((x : Int) == (k : Int)) = false := beq_eq_false_iff_ne.2 (by omega)
                clear hox hmv hne hko hxk
                have HMV : Hid (∀ W, Kp [] wr W → MV w5 W b (q + 2) (m.moveM (k : Int) (j : Int)) w3.heap.size gs i gr nr cr o.conts) := fun W k => ⟨HS5.out.kp0 (HK6.out.chain k), by rw [← HCI.out]; exact hrF.kp (HK6.out.chain k) (by simp), cell_kp (HK6.out.chain k) hrc, HK6.out.chain k⟩
                have hcl : wr.cell? ⟨gs, i, none⟩ = some (.slice (some ⟨gr, 0, none⟩) nr cr) := cell_kp HK6.out hrc
                have HLX : Hid (o.conts.length ≤ 1000000) := by have := conts_len (HI.out.ok _ _ HOB.out); show _ ≤ _; omega
                clear hrF hrc k6
                go_wp2
                have U0 := HMV.out (wr.drew) (Kp.draw _ 1)
                have t0 := U0.c
                clear HMV hcl
                go_region_held3 (fun W => W.cell? ⟨gs, i, none⟩ = some (.slice (some ⟨gr, 0, none⟩) nr cr)) (go_keep)
                  (first
                    | (go_at_call 23; refine (has_k (w := w5) (by assumption) HHX.out HWX.out).mono ?_; rintro e w7 ⟨rfl, K7⟩; have U1 := MV.stepK (w := w5) (by assumption) K7; have t1 := U1.c; clear K7)
                    | (go_at_call 21; refine (cont_k (w := w5) (by assumption) HOX.out).mono ?_; rintro e w8 ⟨v8, rfl, F8, K8⟩; have U2 := MV.stepK (w := w5) (by assumption) K8; have t2 := U2.c; clear K8)
                    | (go_at_call 24; refine (ints_k (w := w5) (by assumption) (by assumption) HLX.out).mono ?_; rintro e w9 ⟨rfl, K9⟩; have U3 := MV.stepK (w := w5) (by assumption) K9; have t3 := U3.c; clear K9))
                all_goals (
                  go_wp2
                  go_roundw
                  case rel => exact ⟨i + 1, by omega, by go_num, MV.dr (by assumption)⟩
                  case measure => simp [intOf]; omega)
            · have hsame : m.moveM f t = m := by unfold HM.moveM; rw [if_neg (by rw [HME.out]; exact hE0)]
              have f1 : (E == 0) = false := beq_eq_false_iff_ne.2 hE0
              have hox : (m.moveM f t).ob x = some o := by rw [hsame]; exact HOB.out
              have HOX := hid hox
              have HHX := hid (has_of hox)
              have HWX : Hid (W64 (x : Int)) := ⟨by omega, by omega⟩
              clear hox hsame hE0
              have HMV : Hid (∀ W, Kp [] wr W → MV w5 W b (q + 2) (m.moveM f t) w3.heap.size gs i gr nr cr o.conts) := fun W k => ⟨HS5.out.kp0 (HK6.out.chain k), by rw [← HCI.out]; exact hrF.kp (HK6.out.chain k) (by simp), cell_kp (HK6.out.chain k) hrc, HK6.out.chain k⟩
              have hcl : wr.cell? ⟨gs, i, none⟩ = some (.slice (some ⟨gr, 0, none⟩) nr cr) := cell_kp HK6.out hrc
              have HLX : Hid (o.conts.length ≤ 1000000) := by have := conts_len (HI.out.ok _ _ HOB.out); show _ ≤ _; omega
              clear hrF hrc k6
              go_wp2
              have U0 := HMV.out (wr.drew) (Kp.draw _ 1)
              have t0 := U0.c
              clear HMV hcl
              go_region_held3 (fun W => W.cell? ⟨gs, i, none⟩ = some (.slice (some ⟨gr, 0, none⟩) nr cr)) (go_keep)
                (first
                  | (go_at_call 23; refine (has_k (w := w5) (by assumption) HHX.out HWX.out).mono ?_; rintro e w7 ⟨rfl, K7⟩; have U1 := MV.stepK (w := w5) (by assumption) K7; have t1 := U1.c; clear K7)
                  | (go_at_call 21; refine (cont_k (w := w5) (by assumption) HOX.out).mono ?_; rintro e w8 ⟨v8, rfl, F8, K8⟩; have U2 := MV.stepK (w := w5) (by assumption) K8; have t2 := U2.c; clear K8)
                  | (go_at_call 24; refine (ints_k (w := w5) (by assumption) (by assumption) HLX.out).mono ?_; rintro e w9 ⟨rfl, K9⟩; have U3 := MV.stepK (w := w5) (by assumption) K9; have t3 := U3.c; clear K9))
              all_goals (
                go_wp2
                go_roundw
                case rel => exact ⟨i + 1, by omega, by go_num, MV.dr (by assumption)⟩
                case measure => simp [intOf]; omega)
          · obtain rfl : i = m.allL.length := by omega
            clear HF6 HCE HFO HR5 HF5
            by_cases hE0 : E = 0
            · subst hE0
              obtain ⟨k, j, o0, rfl, rfl, hko, hj2, hjn, hmv, hne⟩ := moved HI.out HME.out
              have HLN := hid (moved_len HI.out HME.out)
              have HFW : Hid ((m.moveM (k : Int) (j : Int)).fwI (k : Int) = some (j : Int)) := by show _ = _; rw [hmv]; simp [HM.fwI, HM.fwd]
              have HV : Hid (optV ((m.moveM (k : Int) (j : Int)).fwI (k : Int)) = (j : Int)) := by show _ = _; rw [HFW.out]; rfl
              have HE : Hid (optE ((m.moveM (k : Int) (j : Int)).fwI (k : Int)) = 0) := by show _ = _; rw [HFW.out]; rfl
              have HS6 := hid (HS5.out.kp0 HK6.out)
              clear HFW k6 hko
              by_cases hkj : k = j
              · subst hkj
                clear hmv hne
                go_wp2_with (first
                  | (go_at_call 25; refine (h_forward HS6.out _ HF.out).mono ?_; rintro e w' ⟨rfl, n7, rfl⟩; rw [HV.out, HE.out])
                  | (go_at_call 16; refine (h_all (HS6.out.drewN _)).mono ?_; rintro e w8 ⟨v8, rfl, own8, bel8⟩; have HK8 := hid ((HK5.out.chain HK6.out).chain0 (Kp.of_below bel8).from_drewN); obtain ⟨A8, cap8, rfl, _, _, _⟩ := FarI.of_own own8; clear own8 bel8; rw [HLN.out])
                  | (go_at_call 14; refine (alive_ok _).mono ?_; rintro e w9 ⟨rfl, K9⟩; have HK9 := hid (HK8.out.chain K9); clear K9))
                go_ret
                exact ⟨rfl, HK9.out⟩
              · have hhs : (m.moveM (k : Int) (j : Int)).has (k : Int) = false := by rw [hmv]; simp [HM.has, moved_ob, hkj]
                have HHS := hid hhs
                have f1 : ((k : Int) != (j : Int)) = true := bne_iff_ne.2 (by omega)
                clear hhs hmv hne hkj
                go_wp2_with (first
                  | (go_at_call 25; refine (h_forward HS6.out _ HF.out).mono ?_; rintro e w' ⟨rfl, n7, rfl⟩; rw [HV.out, HE.out])
                  | (go_at_call 23; refine (h_has (HS6.out.drewN _) _ HF.out).mono ?_; rintro e w' ⟨rfl, n8, rfl⟩; rw [HHS.out])
                  | (go_at_call 16; go_loud (refine (h_all (show SH _ b (q + 2) _ by first | exact HS6.out.drewN _ | exact (HS6.out.drewN _).drewN _)).mono ?_; rintro e w8 ⟨v8, rfl, own8, bel8⟩; have K8' : Kp [] wr w8 := (by first | exact (Kp.of_below bel8).from_drewN | exact ((Kp.of_below bel8).from_drewN).from_drewN); have HK8 := hid ((HK5.out.chain HK6.out).chain K8'); clear K8'); obtain ⟨A8, cap8, rfl, _, _, _⟩ := FarI.of_own own8; clear own8 bel8; rw [HLN.out])
                  | (go_at_call 14; refine (alive_ok _).mono ?_; rintro e w9 ⟨rfl, K9⟩; have HK9 := hid (HK8.out.chain K9); clear K9))
                go_ret
                exact ⟨rfl, HK9.out⟩
            · have hsame : m.moveM f t = m := by unfold HM.moveM; rw [if_neg (by rw [HME.out]; exact hE0)]
              have f1 : (E == 0) = false := beq_eq_false_iff_ne.2 hE0
              rw [hsame] at HS5
              have HS6 := hid (HS5.out.kp0 HK6.out)
              clear k6 hE0 hsame
              go_wp2_with (first
                | (go_at_call 16; refine (h_all HS6.out).mono ?_; rintro e w8 ⟨v8, rfl, own8, bel8⟩; have HK8 := hid ((HK5.out.chain HK6.out).chain (Kp.of_below bel8)); obtain ⟨A8, cap8, rfl, _, _, _⟩ := FarI.of_own own8; clear own8 bel8)
                | (go_at_call 14; refine (alive_ok _).mono ?_; rintro e w9 ⟨rfl, K9⟩; have HK9 := hid (HK8.out.chain K9); clear K9))
              go_ret
              exact ⟨rfl, HK9.out⟩
end
end Go.Proofs.Ytplgbpmldjngoaa
