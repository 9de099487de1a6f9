/-
  The contract of the document's allocator's Holes. Conditions: those that stand in each theorem.
-/
import Derived.Test.YthndilllnneijaaGreatPGJD
import Derived.Test.YthndilllnneijaaGreatPG19
import Derived.Test.YthndilllnneijaaGreatPGOA
import Derived.Test.YthndilllnneijaaGreatPG20
import Derived.Test.YthndilllnneijaaGreatPG13
import Derived.Test.YthndilllnneijaaGreatPGJA
import Derived.Test.YthndilllnneijaaGreatPGJE
import Derived.Test.YthndilllnneijaaGreatPGJH
import Derived.Test.YthndilllnneijaaGreatPGJI
import Derived.Test.YthndilllnneijaaGreatPG18
set_option linter.unusedSimpArgs false
set_option linter.unusedVariables false
set_option maxRecDepth 100000
set_option maxHeartbeats 4000000
namespace Go.Proofs.YthndilllnneijaaGreat
open Go.RowKit Go.Deep Go.Maps
theorem own_low {w : World} {B B' : Nat} {e : TypeId} {z n : Nat} {v : Value} {xs : List Value} (h : w.ownsRow B e z v n xs) (hB : B' ≤ B) : w.ownsRow B' e z v n xs := by
 obtain ⟨h1, h2 | ⟨g, cap, cur, hv, hg, r⟩⟩ := h
 · exact ⟨h1, .inl h2⟩
 · exact ⟨h1, .inr ⟨g, cap, cur, hv, Nat.le_trans hB hg, r⟩⟩
theorem LinesAt.of_own {w : World} {B n : Nat} {v : Value} {l : List Bool} (own : w.ownsRow B 4 1 v n (lcells l)) (hn : n = l.length) : LinesAt w v l := by
 subst hn
 rcases own.2 with ⟨rfl, h0⟩ | ⟨g, cap, cur, rfl, _⟩
 · exact ⟨none, 0, by rw [h0], fun i hi => by omega⟩
 · refine ⟨_, cap, rfl, fun i hi => ⟨g, rfl, ?_⟩⟩
   rw [own.cellAt _ (by omega)]
   have := lcells_get (L := l) hi
   simpa using this
section
variable {w W V : World} {d : DB} {m : HM} {q : Nat}
theorem r_holes (T : DR w d q m) (k : Nat) (hk : k < m.bl.length) (hst : m.st k = 1) :
   Calls Tryz.prog 181 #[.pointer (some ⟨d.g, 0, none⟩), .int .i64 (k : Int)] w (Grows w.heap.size w (holL (m.lnL k))) := by
 obtain ⟨i0, hi0, hz0, hz1, hz2⟩ := info_parts infoRun
 have hl : (m.lnL k).length = 8 := by simp [HM.lnL]
 have HD := hid (d_lines T k hk hst)
 have HLL := hid hl
 obtain ⟨L, hL⟩ : ∃ L, m.lnL k = L := ⟨_, rfl⟩
 rw [hL] at HD hl ⊢
 have HL8 : Hid (8 = L.length) := hl.symm
 replace hl : L.length ≤ 100 := by omega
 clear T hk hst hL HLL
 go_enter Tryz.func181, Tryz.ntmps181
 go_wp2_with (go_at_call 94; refine HD.out.mono ?_; rintro e w2 ⟨v, rfl, hown, K2⟩; have HL := hid (LinesAt.of_own hown HL8.out); have HK2 := hid K2; clear hown K2)
 obtain ⟨A, cap, rfl, _⟩ := HL.out
 go_loopw [5, 7] (fun r c wr => ∃ j : Nat, j ≤ L.length ∧ c = .int .i64 (j : Int) ∧ wr.ownsRow w2.heap.size 76 2 r (holN L j).length (rcells (holN L j)) ∧ Below w2.heap.size w2 wr) (fun _ c _ => L.length - (intOf c).toNat)
 case atStart => exact ⟨0, by omega, rfl, ⟨rfl, .inl ⟨rfl, rfl⟩⟩, Below.refl _ _⟩
 case round =>
   obtain ⟨j, hj, rfl, own, bel⟩ := hrel
   have HO := hid own
   have HBE := hid bel
   have HB2 := HL.out.kp0 (Kp.of_below bel)
   have hle := holN_len L j
   clear own bel
   by_cases hlt : j < L.length
   · obtain ⟨A', cap', e1, hA⟩ := HB2
     injection e1 with e1 e2 e3
     subst e1
     obtain ⟨g, rfl, hc⟩ := hA j hlt
     rcases ht : L.getD j false
     · by_cases hp : 0 < j ∧ L.getD (j - 1) false = false
       · have hstep : holN L (j + 1) = (holN L j).set ((holN L j).length - 1) (((holN L j).getD ((holN L j).length - 1) (0, 0)).1, ((holN L j).getD ((holN L j).length - 1) (0, 0)).2 + 1) := by
           conv => lhs; unfold holN
           rw [if_neg (by rw [ht]; decide), if_pos hp, dropLast_set _ _ (0, 0) (holN_some hp.1 hp.2), getLastD_getD]
         have hpos := holN_some hp.1 hp.2
         obtain ⟨gr, cr, sp, hv, hgr, hbr, hc1, hc2, hc3⟩ := own_formR HO.out hpos
         have hbel := HBE.out
         subst hv
         clear HO HBE
         obtain ⟨jm, hjm⟩ : ∃ jm, j = jm + 1 := ⟨j - 1, by omega⟩
         have htm : L.getD jm false = false := by rw [show jm = j - 1 by omega]; exact hp.2
         obtain ⟨g', e4, hcm⟩ := hA jm (by omega)
         injection e4 with e4
         injection e4 with e4
         subst e4
         rw [htm] at hcm
         rw [ht] at hc
         have hsub : (j : Int) - 1 = (jm : Int) := by omega
         have hdi : decide ((0 : Int) < (j : Int)) = true := decide_eq_true (by omega)
         have hdn : decide (0 < j) = true := decide_eq_true (by omega)
         have hjl : jm < L.length := by omega
         have HST := hid hstep
         have HJM := hid hjm
         generalize hrs : holN L j = rs at hle hpos hbr hc1 hc3 HST ⊢
         obtain ⟨p, hpl⟩ : ∃ p, rs.length = p + 1 := ⟨rs.length - 1, by omega⟩
         rw [hpl, Nat.add_sub_cancel] at HST
         have hpp : p < rs.length := by omega
         have hcell : wr.cell? ⟨gr, p * 2 + 1, none⟩ = some (.int .i64 ((rs.getD p (0, 0)).2 : Int)) := by
           rw [hbr.cell]
           exact rcells_get1 hpp
         have hfz := hbr.frozen (p * 2 + 1)
         obtain ⟨z, hz⟩ : ∃ z, (rs.getD p (0, 0)).2 = z := ⟨_, rfl⟩
         rw [hz] at hcell
         have HZ := hid hz
         have HBR := hid hbr
         have HPL := hid hpl
         have HRS := hid hrs
         have hzb : z ≤ 100000 := by
           have hm : rs.getD p (0, 0) ∈ holN L j := by
             rw [hrs, List.getD_eq_getElem?_getD, List.getElem?_eq_getElem hpp]
             exact List.getElem_mem _
           have := holN_bd L j _ hm
           omega
         have hp100 : p ≤ 100 := by omega
         have hps : ((p + 1 : Nat) : Int) - 1 = (p : Int) := by omega
         have HCC : Hid (rs.length ≤ cr ∧ cr ≤ maxLen ∧ (rcells rs ++ sp).length = cr * 2 ∧ w2.heap.size ≤ gr ∧ Below w2.heap.size w2 wr) := ⟨hc1, hc2, hc3, hgr, hbel⟩
         unfold maxLen at hc2
         rw [hpl] at hc1 ⊢
         clear hA e2 e3 ht htm hstep hp hjm hrs hbr hpl hz hpos hc3 hgr hbel hpp hle
         go_wp2
         go_roundw
         case rel =>
           obtain ⟨u1, u2, u3, u4, u5⟩ := HCC.out
           have hb2 := HBR.out.set_ (p * 2 + 1) (.int .i64 ((z : Int) + 1))
           have hz1 : (.int .i64 ((z : Int) + 1) : Value) = .int .i64 ((z + 1 : Nat) : Int) := rfl
           rw [hz1, rcells_set1 (z + 1) (by have := HPL.out; omega)] at hb2
           have HS9 := HST.out
           rw [HZ.out] at HS9
           have hlen : (holN L (j + 1)).length = p + 1 := by rw [HS9, List.length_set]; exact HPL.out
           have hown := own_ofR (w := wr.setCell ⟨gr, p * 2 + 1, none⟩ (.int .i64 ((z + 1 : Nat) : Int))) (rs := holN L (j + 1)) (sp := sp) (B := w2.heap.size) (c := cr) u4 (by rw [HS9]; exact hb2) (by rw [hlen, ← HPL.out]; exact u1) u2 (by rw [HS9]; simpa [rcells_length] using u3)
           rw [hlen] at hown
           refine ⟨j + 1, by omega, by go_num, ?_, u5.trans ((Kp.cell wr ⟨gr, p * 2 + 1, none⟩ _).below u5.size (by simp; omega))⟩
           rw [hlen]
           exact hown
         case measure => simp [intOf]; omega
       · have hstep : holN L (j + 1) = holN L j ++ [(j, 1)] := by
           conv => lhs; unfold holN
           rw [if_neg (by rw [ht]; decide), if_neg hp]
         have HST := hid hstep
         rw [ht] at hc
         by_cases hj0 : j = 0
         · have hdi : decide ((0 : Int) < (j : Int)) = false := decide_eq_false (by omega)
           have hdn : decide (0 < j) = false := decide_eq_false (by omega)
           have HJ0 := hid hj0
           clear hA e2 e3 ht hstep hp hj0
           have own1 := HO.out
           have HNEW := hid (run_news wr (j : Int) 1 0)
           have NONE := run_news_one (j : Int) 1
           have HSZ := hid HBE.out.size
           go_wp2_with (at_builtin; refine wpList_append_own _ rfl (.tmp 41) (.tmp 44) 73 rfl w2.heap.size 76 i0 (.agg #[.int .i64 0, .int .i64 0]) 2 16 Tryz.underlying73 hi0 hz0 hz1 hz2 rfl (by decide) _ _ _ rfl (HO.out.alloc _) ⟨wr.heap.size, 0, none⟩ 1 1 [.int .i64 (j : Int), .int .i64 1] rfl rfl HNEW.out NONE (by unfold maxLen; omega) (by omega) (by have := HSZ.out; simp; omega) ?_; intro v' w1 hown' hgr _; have HO1 := hid hown'; have HG1 := hid hgr; clear hown' hgr)
           go_roundw
           case rel =>
             obtain ⟨v2, e2, o2, b2⟩ := grows_end (n := 0) (i := j) (z := 1) HSZ.out rfl HO.out HO1.out HG1.out
             cases e2
             have HF := (⟨j + 1, by omega, by go_num, by rw [HST.out]; exact o2, HBE.out.trans b2⟩ : ∃ j1 : Nat, j1 ≤ L.length ∧ Value.int .i64 ((j : Int) + 1) = .int .i64 (j1 : Int) ∧ w1.ownsRow w2.heap.size 76 2 _ (holN L j1).length (rcells (holN L j1)) ∧ Below w2.heap.size w2 w1)
             first | exact HF | ((repeat apply Exists.intro); exact ⟨HF, rfl⟩)
           case measure => simp [intOf]; omega
         · obtain ⟨jm, hjm⟩ : ∃ jm, j = jm + 1 := ⟨j - 1, by omega⟩
           have htm : L.getD jm false = true := by
             rcases h : L.getD jm false
             · exact absurd ⟨by omega, by rw [show j - 1 = jm by omega]; exact h⟩ hp
             · rfl
           obtain ⟨g', e4, hcm⟩ := hA jm (by omega)
           injection e4 with e4
           injection e4 with e4
           subst e4
           rw [htm] at hcm
           have hsub : (j : Int) - 1 = (jm : Int) := by omega
           have hdi : decide ((0 : Int) < (j : Int)) = true := decide_eq_true (by omega)
           have hdn : decide (0 < j) = true := decide_eq_true (by omega)
           have hjl : jm < L.length := by omega
           have HJM := hid hjm
           clear hA e2 e3 ht htm hstep hp hj0 hjm
           have own1 := HO.out
           have HNEW := hid (run_news wr (j : Int) 1 0)
           have NONE := run_news_one (j : Int) 1
           have HSZ := hid HBE.out.size
           go_wp2_with (at_builtin; refine wpList_append_own _ rfl (.tmp 41) (.tmp 44) 73 rfl w2.heap.size 76 i0 (.agg #[.int .i64 0, .int .i64 0]) 2 16 Tryz.underlying73 hi0 hz0 hz1 hz2 rfl (by decide) _ _ _ rfl (HO.out.alloc _) ⟨wr.heap.size, 0, none⟩ 1 1 [.int .i64 (j : Int), .int .i64 1] rfl rfl HNEW.out NONE (by unfold maxLen; omega) (by omega) (by have := HSZ.out; simp; omega) ?_; intro v' w1 hown' hgr _; have HO1 := hid hown'; have HG1 := hid hgr; clear hown' hgr)
           go_roundw
           case rel =>
             obtain ⟨v2, e2, o2, b2⟩ := grows_end (n := 0) (i := j) (z := 1) HSZ.out rfl HO.out HO1.out HG1.out
             cases e2
             have HF := (⟨j + 1, by omega, by go_num, by rw [HST.out]; exact o2, HBE.out.trans b2⟩ : ∃ j1 : Nat, j1 ≤ L.length ∧ Value.int .i64 ((j : Int) + 1) = .int .i64 (j1 : Int) ∧ w1.ownsRow w2.heap.size 76 2 _ (holN L j1).length (rcells (holN L j1)) ∧ Below w2.heap.size w2 w1)
             first | exact HF | ((repeat apply Exists.intro); exact ⟨HF, rfl⟩)
           case measure => simp [intOf]; omega
     · have hstep : holN L (j + 1) = holN L j := by
         conv => lhs; unfold holN
         rw [if_pos ht]
       have HST := hid hstep
       rw [ht] at hc
       clear hA e2 e3 ht hstep
       go_wp2
       go_roundw
       case rel => exact ⟨j + 1, by omega, by go_num, by rw [HST.out]; exact HO.out, HBE.out⟩
       case measure => simp [intOf]; omega
   · obtain rfl : j = L.length := by omega
     clear HB2
     go_wp2
     go_ret
     exact ⟨_, rfl, own_low HO.out HK2.out.size, (HK2.out.below (Nat.le_refl _) (by simp)).trans ((Kp.of_below HBE.out).below HK2.out.size (by simp))⟩
end
theorem rcells_one1 (l : List (Nat × Nat)) : ∀ u ∈ rcells l, u.oneCell' = true := by
 intro u hu
 simp only [rcells, List.mem_flatMap] at hu
 obtain ⟨x, _, h⟩ := hu
 simp at h
 rcases h with rfl | rfl <;> rfl
theorem wpList_app_runs {W : World} {B B2 : Nat} {v sv : Value} {l1 l2 : List (Nat × Nat)} {ops : Array Oper} {rest : List Oper} {o : Oper} {a : Act} {Q : Exit → Act → World → Prop} (hgd : o.guard = none) (s x : Operand)
   (ho : o.op = .call { callee := .builtin .append, args := #[s, x], argTypes := #[73, 73] })
   (hs : a.eval s = v) (hx : a.eval x = sv) (own : W.ownsRow B 76 2 v l1.length (rcells l1)) (hB : B ≤ W.heap.size) (src : W.ownsRow B2 76 2 sv l2.length (rcells l2)) (hl : l1.length + l2.length ≤ 100000)
   (h : ∀ v' W', W'.ownsRow B 76 2 v' (l1 ++ l2).length (rcells (l1 ++ l2)) → Kp v.ownBlock.toList W W' → wpList Tryz.prog ops Q rest (a.put o.dst v') W') :
   wpList Tryz.prog ops Q (o :: rest) a W := by
 obtain ⟨i0, hi0, hz0, hz1, hz2⟩ := info_parts infoRun
 rcases src.2 with ⟨rfl, h0⟩ | ⟨g, c, cur, rfl, hg, _⟩
 · refine wpList_append_own_none hgd s x 73 ho B 76 i0 2 Tryz.underlying73 hi0 v l1.length (rcells l1) hs own hx ?_
   obtain rfl : l2 = [] := List.length_eq_zero_iff.1 h0
   have h2 := h v W
   rw [List.append_nil] at h2
   exact h2 own (Kp.refl _ _)
 · refine wpList_append_own_at W hgd s x 73 ho B 76 i0 (.agg #[.int .i64 0, .int .i64 0]) 2 16 Tryz.underlying73 hi0 hz0 hz1 hz2 rfl (by decide) v l1.length (rcells l1) hs own ⟨g, 0, none⟩ l2.length c (rcells l2) hx (rcells_length l2)
     (fun j u hj => by
       have hl2 := src.1
       have h3 := src.cellAt j (by have := (List.getElem?_eq_some_iff.1 hj).1; omega)
       rw [addr_off, Nat.zero_add, h3]
       exact hj) (rcells_one1 l2) (by unfold maxLen; omega) (by omega) hB ?_
   intro v' W' own' gr _ _
   rw [← rcells_append, ← List.length_append] at own'
   exact h v' W' own' (Kp.of_grown gr)
def rgL (m : HM) (s n : Nat) : List (Nat × Nat) := (blkS m s n).flatMap fun k : Nat => m.gapL (k : Int)
theorem rgL_yes {m : HM} {s n : Nat} (h1 : m.st n = 1) (h2 : m.sp n = s) : rgL m s (n + 1) = rgL m s n ++ m.gapL (n : Int) := by
 unfold rgL
 rw [blkS_succ, if_pos (show ownS m s n = true from decide_eq_true ⟨h1, h2⟩), List.flatMap_append]
 simp
theorem rgL_no {m : HM} {s n : Nat} (h : ¬ (m.st n = 1 ∧ m.sp n = s)) : rgL m s (n + 1) = rgL m s n := by
 unfold rgL
 rw [blkS_succ, if_neg (by unfold ownS; simpa using h), List.append_nil]
theorem rgL_len {m : HM} (I : m.Inv) (s n : Nat) : (rgL m s n).length ≤ 33 * n := by
 induction n with
 | zero => simp [rgL, blkS]
 | succ n ih =>
   by_cases h : m.st n = 1 ∧ m.sp n = s
   · rw [rgL_yes h.1 h.2, List.length_append]
     have := gaps_len I (k := n)
     omega
   · rw [rgL_no h]; omega
theorem rgL_one {m : HM} (I : m.Inv) (s : Nat) : rgL m s 1 = [] := by
 rw [rgL_no (by have := I.b0; omega)]
 simp [rgL, blkS]
section
variable {w W V : World} {d : DB} {m : HM} {q g : Nat} {A : AS}
theorem dst_q (T : DR w d q m) (i : Int) {v : Int} (hv : (if inB m.bl.length i then (m.st i.toNat : Int) else -1) = v) :
   Calls Tryz.prog 88 #[.pointer (some ⟨d.g, 0, none⟩), .int .i64 i] w fun e w' => e = .returned (.int .i64 v) ∧ ∃ n, w' = w.drewN n := by
 rw [← hv]; exact d_state T i
theorem dsp_q (T : DR w d q m) (i : Int) {v : Int} (hv : (if inB m.bl.length i then (m.sp i.toNat : Int) else -1) = v) :
   Calls Tryz.prog 89 #[.pointer (some ⟨d.g, 0, none⟩), .int .i64 i] w fun e w' => e = .returned (.int .i64 v) ∧ ∃ n, w' = w.drewN n := by
 rw [← hv]; exact d_spaceOf T i
theorem r_gaps (T : DR w d q m) (h : RAL w g d A) (hgl : g < w.heap.size) :
   Calls Tryz.prog 182 #[.pointer (some ⟨g, 0, none⟩)] w (Grows w.heap.size w (rgL m A.sp m.bl.length)) := by
 have HT := hid T
 have HA := hid h
 have hl := T.inv.len64
 have hl2 := T.inv.len2
 have HIN := hid T.inv
 generalize hn : m.bl.length = n at hl hl2
 obtain ⟨s, hs⟩ : ∃ s, A.sp = s := ⟨_, rfl⟩
 rw [hs]
 have HS := hid hs
 have HN := hid hn
 clear T h hn hs
 go_enter Tryz.func182, Tryz.ntmps182
 go_wp2
 go_loopw [3, 4, 5] (fun r c _ wr => ∃ i : Nat, 1 ≤ i ∧ i ≤ n ∧ c = .int .i64 (i : Int) ∧ wr.ownsRow w.heap.size 76 2 r (rgL m s i).length (rcells (rgL m s i)) ∧ Below w.heap.size w wr) (fun _ c _ _ => n - (intOf c).toNat)
 case atStart => exact ⟨1, by omega, by omega, rfl, by rw [rgL_one HIN.out]; exact ⟨rfl, .inl ⟨rfl, rfl⟩⟩, Below.refl _ _⟩
 case round =>
   rename World => w8
   obtain ⟨i, hi1, hi, rfl, own, bel⟩ := hrel
   have HO := hid own
   have HBE := hid bel
   have HT8 := hid (HT.out.kp0 (Kp.of_below bel))
   have A8 := HA.out.kp (Kp.of_below bel) (by simp)
   have HA8 := hid A8
   have c0 : w8.cell? ⟨g, 0, none⟩ = some (.pointer (some ⟨d.g, 0, none⟩)) := A8.cell 0
   have c1 : w8.cell? ⟨g, 1, none⟩ = some (.int .i64 (s : Int)) := by rw [← HS.out]; exact A8.cell 1
   clear own bel A8
   by_cases hlt : i < n
   · have hlt2 : decide ((i : Int) < (n : Int)) = true := decide_eq_true (by omega)
     obtain ⟨x, hx⟩ : ∃ x, m.st i = x := ⟨_, rfl⟩
     have HX : Hid ((if inB m.bl.length (i : Int) then (m.st (i : Int).toNat : Int) else -1) = (x : Int)) := by show _ = _; rw [stV_eq, if_pos (by rw [HN.out]; exact hlt), hx]
     by_cases hx1 : x = 1
     · have tx : ((x : Int) == 1) = true := beq_iff_eq.2 (by omega)
       obtain ⟨y, hy⟩ : ∃ y, m.sp i = y := ⟨_, rfl⟩
       have HY : Hid ((if inB m.bl.length (i : Int) then (m.sp (i : Int).toNat : Int) else -1) = (y : Int)) := by show _ = _; rw [spV_eq, if_pos (by rw [HN.out]; exact hlt), hy]
       by_cases hys : y = s
       · have ty : ((y : Int) == (s : Int)) = true := beq_iff_eq.2 (by omega)
         have HR : Hid (rgL m s (i + 1) = rgL m s i ++ m.gapL (i : Int)) := rgL_yes (by omega) (by omega)
         have HLN : Hid ((rgL m s i).length + (m.gapL (i : Int)).length ≤ 100000) := by
           have h1 := rgL_len HIN.out s i
           have h2 := gaps_len HIN.out (k := i)
           show _ ≤ _
           omega
         clear hx hx1 hy hys
         go_wp2_with (go_at_call 81; refine (dnb_k HT8.out).mono ?_; rintro e w5 ⟨rfl, K5⟩; rw [HN.out]; have HT5 := hid (HT8.out.kp0 K5); have HO5 := hid (own_kp0 HO.out K5); have HBE5 := hid (HBE.out.trans (K5.below HBE.out.size (by simp))); have d0 := cell_kp K5 c0; have d1 := cell_kp K5 c1; clear K5)
         have HQ1 : Hid (∀ n, Calls Tryz.prog 88 #[.pointer (some ⟨d.g, 0, none⟩), .int .i64 (i : Int)] (w5.drewN n) fun e w' => e = .returned (.int .i64 (x : Int)) ∧ ∃ j, w' = (w5.drewN n).drewN j) := fun n => by
           refine (dst_q (HT5.out.drewN n) _ HX.out).mono ?_
           rintro e w' ⟨rfl, j, rfl⟩
           exact ⟨rfl, _, rfl⟩
         have HQ2 : Hid (∀ n, Calls Tryz.prog 89 #[.pointer (some ⟨d.g, 0, none⟩), .int .i64 (i : Int)] (w5.drewN n) fun e w' => e = .returned (.int .i64 (y : Int)) ∧ ∃ j, w' = (w5.drewN n).drewN j) := fun n => by
           refine (dsp_q (HT5.out.drewN n) _ HY.out).mono ?_
           rintro e w' ⟨rfl, j, rfl⟩
           exact ⟨rfl, _, rfl⟩
         go_quiet ((first | (go_at_call 88; exact Calls.quiet_of (HQ1.out _)) | (go_at_call 89; exact Calls.quiet_of (HQ2.out _))))
         go_wp2_with (first
           | (go_at_call 92; refine (d_gaps (HT5.out.drewN _) _).mono ?_; rintro e w7 ⟨v7, rfl, own7, bel7⟩; have HO7 := hid own7; have HE7 := hid bel7; have HP7 := hid (own_kp0 (own_kp0 HO5.out (Kp.draw _ _)) (Kp.of_below bel7)); have HB7 := hid ((below_drewN HBE5.out _).trans ((Kp.of_below bel7).below (Nat.le_trans HBE5.out.size (Kp.draw w5 _).size) (by simp))); clear own7 bel7)
           | (at_builtin; refine wpList_app_runs rfl (.tmp 41) (.tmp 42) rfl rfl rfl HP7.out HB7.out.size HO7.out HLN.out ?_; intro v' w9 hown' hkp; have HO9 := hid hown'; have HK9 := hid hkp; clear hown' hkp))
         go_roundw
         case rel =>
           have hb9 : Below w.heap.size w w9 := HB7.out.trans (HK9.out.below HB7.out.size (fun y hy => own_geD HP7.out y (by exact Option.mem_toList.1 hy)))
           have HF := (⟨i + 1, by omega, by omega, by go_num, by rw [HR.out]; exact HO9.out, hb9⟩ : ∃ j1 : Nat, 1 ≤ j1 ∧ j1 ≤ n ∧ Value.int .i64 ((i : Int) + 1) = .int .i64 (j1 : Int) ∧ w9.ownsRow w.heap.size 76 2 _ (rgL m s j1).length (rcells (rgL m s j1)) ∧ Below w.heap.size w w9)
           first | exact HF | ((repeat apply Exists.intro); exact ⟨HF, rfl⟩)
         case measure => simp [intOf]; omega
       · have ty : ((y : Int) == (s : Int)) = false := beq_eq_false_iff_ne.2 (by omega)
         have HR : Hid (rgL m s (i + 1) = rgL m s i) := rgL_no (by omega)
         clear hx hx1 hy hys
         go_wp2_with (go_at_call 81; refine (dnb_k HT8.out).mono ?_; rintro e w5 ⟨rfl, K5⟩; rw [HN.out]; have HT5 := hid (HT8.out.kp0 K5); have HO5 := hid (own_kp0 HO.out K5); have HBE5 := hid (HBE.out.trans (K5.below HBE.out.size (by simp))); have d0 := cell_kp K5 c0; have d1 := cell_kp K5 c1; clear K5)
         have HQ1 : Hid (∀ n, Calls Tryz.prog 88 #[.pointer (some ⟨d.g, 0, none⟩), .int .i64 (i : Int)] (w5.drewN n) fun e w' => e = .returned (.int .i64 (x : Int)) ∧ ∃ j, w' = (w5.drewN n).drewN j) := fun n => by
           refine (dst_q (HT5.out.drewN n) _ HX.out).mono ?_
           rintro e w' ⟨rfl, j, rfl⟩
           exact ⟨rfl, _, rfl⟩
         have HQ2 : Hid (∀ n, Calls Tryz.prog 89 #[.pointer (some ⟨d.g, 0, none⟩), .int .i64 (i : Int)] (w5.drewN n) fun e w' => e = .returned (.int .i64 (y : Int)) ∧ ∃ j, w' = (w5.drewN n).drewN j) := fun n => by
           refine (dsp_q (HT5.out.drewN n) _ HY.out).mono ?_
           rintro e w' ⟨rfl, j, rfl⟩
           exact ⟨rfl, _, rfl⟩
         go_quiet ((first | (go_at_call 88; exact Calls.quiet_of (HQ1.out _)) | (go_at_call 89; exact Calls.quiet_of (HQ2.out _))))
         go_wp2
         go_roundw
         case rel => exact ⟨i + 1, by omega, by omega, by go_num, by rw [HR.out]; exact own_kp0 HO5.out (Kp.draw _ _), below_drewN HBE5.out _⟩
         case measure => simp [intOf]; omega
     · have tx : ((x : Int) == 1) = false := beq_eq_false_iff_ne.2 (by omega)
       have HR : Hid (rgL m s (i + 1) = rgL m s i) := rgL_no (by omega)
       clear hx hx1
       go_wp2_with (go_at_call 81; refine (dnb_k HT8.out).mono ?_; rintro e w5 ⟨rfl, K5⟩; rw [HN.out]; have HT5 := hid (HT8.out.kp0 K5); have HO5 := hid (own_kp0 HO.out K5); have HBE5 := hid (HBE.out.trans (K5.below HBE.out.size (by simp))); have d0 := cell_kp K5 c0; have d1 := cell_kp K5 c1; clear K5)
       have HQ1 : Hid (∀ n, Calls Tryz.prog 88 #[.pointer (some ⟨d.g, 0, none⟩), .int .i64 (i : Int)] (w5.drewN n) fun e w' => e = .returned (.int .i64 (x : Int)) ∧ ∃ j, w' = (w5.drewN n).drewN j) := fun n => by
         refine (dst_q (HT5.out.drewN n) _ HX.out).mono ?_
         rintro e w' ⟨rfl, j, rfl⟩
         exact ⟨rfl, _, rfl⟩
       go_quiet ((go_at_call 88; exact Calls.quiet_of (HQ1.out _)))
       go_wp2
       go_roundw
       case rel => exact ⟨i + 1, by omega, by omega, by go_num, by rw [HR.out]; exact own_kp0 HO5.out (Kp.draw _ _), below_drewN HBE5.out _⟩
       case measure => simp [intOf]; omega
   · obtain rfl : i = n := by omega
     have hlt2 : decide ((i : Int) < (i : Int)) = false := decide_eq_false (by omega)
     go_wp2_with (go_at_call 81; refine (d_blocks HT8.out).mono ?_; rintro e w5 ⟨rfl, n5, rfl⟩; rw [HN.out])
     go_ret
     exact ⟨_, rfl, own_kp0 HO.out (Kp.draw _ _), below_drewN HBE.out _⟩
end
def HM.ruA (m : HM) (c l n : Nat) : Nat := if c + n ≤ l then c else m.freeB 1
def HM.ruL (m : HM) (c l n : Nat) : Nat := if c + n ≤ l then l else m.freeB 1 + 64
def HM.ruB (m : HM) (c l n : Nat) : Nat := if c + n ≤ l then 0 else m.freeB 1 / 64
def HM.ruN (m : HM) (c l n : Nat) : Bool := decide (¬ c + n ≤ l ∧ m.freeB 1 = 0)
def HM.pgE (m : HM) (b : Bool) (s a blk : Nat) (x y z : Int) : Int := if b = true then 6 else m.rpE s a blk x y z
def HM.pgV (m : HM) (b : Bool) (s a blk : Nat) (x y z : Int) : Int := if b = true then 0 else m.rpV s a blk x y z
def HM.pgM (m : HM) (b : Bool) (s a blk : Nat) (x y z : Int) : HM := if b = true then m else m.rpM s a blk x y z
def HM.ruE (m : HM) (s c l n : Nat) (x y z : Int) : Int := m.pgE (m.ruN c l n) s (m.ruA c l n) (m.ruB c l n) x y z
def HM.ruV (m : HM) (s c l n : Nat) (x y z : Int) : Int := m.pgV (m.ruN c l n) s (m.ruA c l n) (m.ruB c l n) x y z
def HM.ruM (m : HM) (s c l n : Nat) (x y z : Int) : HM := m.pgM (m.ruN c l n) s (m.ruA c l n) (m.ruB c l n) x y z
def HM.ruC (m : HM) (s c l n : Nat) (x y z : Int) : Nat × Nat := if m.ruE s c l n x y z = 0 then (m.ruA c l n + n, m.ruL c l n) else (c, l)
def nxO (l : List (Nat × Nat)) (c n : Nat) : Option Nat := (l.find? (fun g => fitA (areaOf c g) n)).map (fun g => max g.1 c)
def beStep (best : Bool) (n : Nat) (x : Option (Nat × Nat)) (g : Nat × Nat) : Option (Nat × Nat) := if g.2 < n then x else match x with | none => some g | some y => if best = true ∧ g.2 < y.2 then some g else some y
def beO (l : List (Nat × Nat)) (best : Bool) (n : Nat) : Option (Nat × Nat) := l.foldl (beStep best n) none
def HM.rcO (m : HM) (A : AS) (n : Nat) : Option Nat := match (if A.po = 2 then nxO (rgL m A.sp m.bl.length) A.c n else none) with | some a => some a | none => (beO (rgL m A.sp m.bl.length) (decide (A.po = 1)) n).map (·.1)
def HM.rhO (m : HM) (s l : Nat) : Option (Nat × Nat) := (holsL m s m.bl.length).find? (fun a => decide (l ≤ a.1))
def HM.rlE (m : HM) (A : AS) (n : Nat) (x y z : Int) : Int := if A.c + n ≤ A.l then m.ruE A.sp A.c A.l n x y z else if 8 < n then m.ruE A.sp A.oc A.ol n x y z else match m.rhO A.sp A.l with | some h => m.rpE A.sp h.1 0 x y z | none => m.ruE A.sp A.c A.l n x y z
def HM.rlV (m : HM) (A : AS) (n : Nat) (x y z : Int) : Int := if A.c + n ≤ A.l then m.ruV A.sp A.c A.l n x y z else if 8 < n then m.ruV A.sp A.oc A.ol n x y z else match m.rhO A.sp A.l with | some h => m.rpV A.sp h.1 0 x y z | none => m.ruV A.sp A.c A.l n x y z
def HM.rlM (m : HM) (A : AS) (n : Nat) (x y z : Int) : HM := if A.c + n ≤ A.l then m.ruM A.sp A.c A.l n x y z else if 8 < n then m.ruM A.sp A.oc A.ol n x y z else match m.rhO A.sp A.l with | some h => m.rpM A.sp h.1 0 x y z | none => m.ruM A.sp A.c A.l n x y z
def HM.rlA (m : HM) (A : AS) (n : Nat) (x y z : Int) : AS :=
 if A.c + n ≤ A.l then { A with c := (m.ruC A.sp A.c A.l n x y z).1, l := (m.ruC A.sp A.c A.l n x y z).2 }
 else if 8 < n then { A with oc := (m.ruC A.sp A.oc A.ol n x y z).1, ol := (m.ruC A.sp A.oc A.ol n x y z).2 }
 else match m.rhO A.sp A.l with
   | some h => if m.rpE A.sp h.1 0 x y z = 0 then { A with c := h.1 + n, l := h.2 } else A
   | none => { A with c := (m.ruC A.sp A.c A.l n x y z).1, l := (m.ruC A.sp A.c A.l n x y z).2 }
def HM.rfA (m : HM) (A : AS) (n : Nat) : Nat := (m.rcO A n).getD (m.freeB 1)
def HM.rfB (m : HM) (A : AS) (n : Nat) : Nat := if (m.rcO A n).isSome = true then 0 else m.freeB 1 / 64
def HM.rfN (m : HM) (A : AS) (n : Nat) : Bool := !(m.rcO A n).isSome && decide (m.freeB 1 = 0)
def HM.rfE (m : HM) (A : AS) (n : Nat) (x y z : Int) : Int := m.pgE (m.rfN A n) A.sp (m.rfA A n) (m.rfB A n) x y z
def HM.rfV (m : HM) (A : AS) (n : Nat) (x y z : Int) : Int := m.pgV (m.rfN A n) A.sp (m.rfA A n) (m.rfB A n) x y z
def HM.rfM (m : HM) (A : AS) (n : Nat) (x y z : Int) : HM := m.pgM (m.rfN A n) A.sp (m.rfA A n) (m.rfB A n) x y z
def HM.rfC (m : HM) (A : AS) (n : Nat) (x y z : Int) : AS := if m.rfE A n x y z = 0 ∧ A.po = 2 then { A with c := m.rfA A n + n } else A
def HM.raS (m : HM) (A : AS) (n : Nat) (x y z : Int) : (Int × Int) × (HM × AS) :=
 if A.po = 3 then ((m.ruV A.sp A.c A.l n x y z, m.ruE A.sp A.c A.l n x y z), (m.ruM A.sp A.c A.l n x y z, { A with c := (m.ruC A.sp A.c A.l n x y z).1, l := (m.ruC A.sp A.c A.l n x y z).2 }))
 else if A.po = 4 then ((m.rlV A n x y z, m.rlE A n x y z), (m.rlM A n x y z, m.rlA A n x y z))
 else ((m.rfV A n x y z, m.rfE A n x y z), (m.rfM A n x y z, m.rfC A n x y z))
def HM.raL (m : HM) (A : AS) (n : Nat) (x y z : Int) : (Int × Int) × (HM × AS) :=
 if m.freeB ((n + 63) / 64) = 0 then ((0, 6), (m, A))
 else (((m.claimM ((m.freeB ((n + 63) / 64) / 64 : Nat) : Int) (((n + 63) / 64 : Nat) : Int) (A.sp : Int) 2).rpV A.sp (m.freeB ((n + 63) / 64) / 64 * 64) 0 x y z, (m.claimM ((m.freeB ((n + 63) / 64) / 64 : Nat) : Int) (((n + 63) / 64 : Nat) : Int) (A.sp : Int) 2).rpE A.sp (m.freeB ((n + 63) / 64) / 64 * 64) 0 x y z), ((m.claimM ((m.freeB ((n + 63) / 64) / 64 : Nat) : Int) (((n + 63) / 64 : Nat) : Int) (A.sp : Int) 2).rpM A.sp (m.freeB ((n + 63) / 64) / 64 * 64) 0 x y z, A))
def HM.ra (m : HM) (A : AS) (x y z : Int) : (Int × Int) × (HM × AS) :=
 if vldB x y z = true then (if 32 < wdN x.toNat y.toNat then m.raL A (wdN x.toNat y.toNat) x y z else m.raS A (wdN x.toNat y.toNat) x y z) else ((0, 2), (m, A))
theorem beO_mem {l : List (Nat × Nat)} {best : Bool} {n : Nat} {g : Nat × Nat} (h : beO l best n = some g) : g ∈ l ∧ n ≤ g.2 := by
 have key : ∀ (l : List (Nat × Nat)) (x : Option (Nat × Nat)), l.foldl (beStep best n) x = some g → (g ∈ l ∧ n ≤ g.2) ∨ x = some g := by
   intro l
   induction l with
   | nil => intro x h; exact .inr h
   | cons a l ih =>
     intro x h
     rcases ih _ h with h1 | h1
     · exact .inl ⟨List.mem_cons_of_mem _ h1.1, h1.2⟩
     · unfold beStep at h1
       split at h1
       · exact .inr h1
       · rename_i hn
         cases x with
         | none => injection h1 with h1; subst h1; exact .inl ⟨List.mem_cons_self .., by omega⟩
         | some y =>
           simp only at h1
           split at h1
           · injection h1 with h1; subst h1; exact .inl ⟨List.mem_cons_self .., by omega⟩
           · exact .inr h1
 rcases key l none h with h1 | h1
 · exact h1
 · cases h1
section
variable {w W V : World} {d0 d : DB} {m m' : HM} {q q' g g3 : Nat} {A A2 : AS} {x y z : Int}
theorem RS.gne (u : RS w W d0 d q m g A) : ∀ x ∈ d.all, x ∉ [g] := fun x hx hm => by
 rw [List.mem_singleton] at hm
 exact u.gd (hm ▸ hx)
theorem RS.set2 (u : RS w W d0 d q m g A) (c l : Nat) : RS w ((W.setCell ⟨g, 3, none⟩ (.int .i64 (c : Int))).setCell ⟨g, 4, none⟩ (.int .i64 (l : Int))) d0 d q m g { A with c := c, l := l } := by
 have K : Kp [g] W ((W.setCell ⟨g, 3, none⟩ (.int .i64 (c : Int))).setCell ⟨g, 4, none⟩ (.int .i64 (l : Int))) := (Kp.cell W ⟨g, 3, none⟩ _).trans (Kp.cell _ ⟨g, 4, none⟩ _) (U := [g]) (by simp) (by simp)
 refine ⟨u.dr.kp K u.gne, ((Blk.set_ u.al 3 (.int .i64 (c : Int))).set_ 4 (.int .i64 (l : Int))), u.gd, u.kp.trans K (U := g :: d0.all) (fun z hz => .inl hz) (fun z hz => .inl (by rw [List.mem_singleton] at hz; rw [hz]; exact List.mem_cons_self ..)), u.sub, u.hg, u.gg⟩
theorem RS.setO (u : RS w W d0 d q m g A) (c l : Nat) : RS w ((W.setCell ⟨g, 5, none⟩ (.int .i64 (c : Int))).setCell ⟨g, 6, none⟩ (.int .i64 (l : Int))) d0 d q m g { A with oc := c, ol := l } := by
 have K : Kp [g] W ((W.setCell ⟨g, 5, none⟩ (.int .i64 (c : Int))).setCell ⟨g, 6, none⟩ (.int .i64 (l : Int))) := (Kp.cell W ⟨g, 5, none⟩ _).trans (Kp.cell _ ⟨g, 6, none⟩ _) (U := [g]) (by simp) (by simp)
 refine ⟨u.dr.kp K u.gne, ((Blk.set_ u.al 5 (.int .i64 (c : Int))).set_ 6 (.int .i64 (l : Int))), u.gd, u.kp.trans K (U := g :: d0.all) (fun z hz => .inl hz) (fun z hz => .inl (by rw [List.mem_singleton] at hz; rw [hz]; exact List.mem_cons_self ..)), u.sub, u.hg, u.gg⟩
theorem RS.set1 (u : RS w W d0 d q m g A) (c : Nat) : RS w (W.setCell ⟨g, 3, none⟩ (.int .i64 (c : Int))) d0 d q m g { A with c := c } := by
 have K : Kp [g] W (W.setCell ⟨g, 3, none⟩ (.int .i64 (c : Int))) := Kp.cell W ⟨g, 3, none⟩ _
 refine ⟨u.dr.kp K u.gne, (Blk.set_ u.al 3 (.int .i64 (c : Int))), u.gd, u.kp.trans K (U := g :: d0.all) (fun z hz => .inl hz) (fun z hz => .inl (by rw [List.mem_singleton] at hz; rw [hz]; exact List.mem_cons_self ..)), u.sub, u.hg, u.gg⟩
theorem RB.free {x1 y1 z1 : Int} (u : RB w W d0 d q m g A g3 x1 y1 z1) (c : Nat) (hc : 1 ≤ c) (hc2 : c ≤ 1000) {f : Nat} (hf : m.freeB c / 64 = f) :
   Calls Tryz.prog 167 #[.pointer (some ⟨d0.g, 0, none⟩), .int .i64 (c : Int)] W fun e w' => e = .returned (.int .i64 (f : Int)) ∧ RB w w' d0 d q m g A g3 x1 y1 z1 := by
 rw [← u.rs.gg]
 refine (r_free u.rs.dr c hc hc2).mono ?_
 rintro e w' ⟨rfl, K⟩
 rw [hf]
 exact ⟨rfl, u.step K⟩
theorem freeB_64 (m : HM) : m.freeB 1 / 64 * 64 = m.freeB 1 := by
 have := freeB_mod (m := m) (c := 1) (by omega)
 omega
end
end Go.Proofs.YthndilllnneijaaGreat
