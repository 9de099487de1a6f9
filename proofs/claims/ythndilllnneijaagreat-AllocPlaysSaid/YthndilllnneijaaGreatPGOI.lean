/-
  The contract of the document's lines. Conditions: those that stand in each theorem.
-/
import Derived.Test.YthndilllnneijaaGreatPGOG
import Derived.Test.YthndilllnneijaaGreatPGOH
set_option linter.unusedSimpArgs false
set_option linter.unusedVariables false
set_option maxRecDepth 100000
set_option maxHeartbeats 4000000
namespace Go.Proofs.YthndilllnneijaaGreat
open Go.RowKit Go.Deep Go.Maps
theorem holsL_yes {m : HM} {s n : Nat} (h1 : m.st n = 1) (h2 : m.sp n = s) : holsL m s (n + 1) = holsL m s n ++ holsAt m n := by
 unfold holsL
 rw [blkS_succ, if_pos (by unfold ownS; exact decide_eq_true ⟨h1, h2⟩), List.flatMap_append]
 simp
theorem holsL_no {m : HM} {s n : Nat} (h : ¬ (m.st n = 1 ∧ m.sp n = s)) : holsL m s (n + 1) = holsL m s n := by
 unfold holsL
 rw [blkS_succ, if_neg (by unfold ownS; simpa using h), List.append_nil]
theorem mem_takeD {L : List (Nat × Nat)} {j : Nat} {h : Nat × Nat} (hm : h ∈ L.take j) : ∃ k, k < j ∧ L.getD k (0, 0) = h := by
 obtain ⟨k, hk, rfl⟩ := List.getElem_of_mem hm
 rw [List.length_take] at hk
 refine ⟨k, by omega, ?_⟩
 rw [List.getD_eq_getElem?_getD, List.getElem?_eq_getElem (by omega), List.getElem_take]
 rfl
theorem rhO_hit {m : HM} {s l i j : Nat} (hi : i < m.bl.length) (h1 : m.st i = 1) (h2 : m.sp i = s) (hj : j < (holL (m.lnL i)).length) (hno1 : ∀ x ∈ holsL m s i, x.1 < l) (hno2 : ∀ k, k < j → i * 64 + ((holL (m.lnL i)).getD k (0, 0)).1 * 8 < l) (h : l ≤ i * 64 + ((holL (m.lnL i)).getD j (0, 0)).1 * 8) : m.rhO s l = some (holeOf i ((holL (m.lnL i)).getD j (0, 0))) := by
 have hpre : blkS m s i ++ [i] <+: blkS m s m.bl.length := by
   have h3 := blkS_pre m s (i := i + 1) (j := m.bl.length) hi
   rw [blkS_succ, if_pos (by unfold ownS; exact decide_eq_true ⟨h1, h2⟩)] at h3
   exact h3
 obtain ⟨t, ht⟩ := holsL_pre m s hpre (j + 1)
 unfold HM.rhO
 rw [← ht]
 have e1 : (holsAt m i).take (j + 1) = ((holL (m.lnL i)).take j).map (holeOf i) ++ [holeOf i ((holL (m.lnL i)).getD j (0, 0))] := by
   unfold holsAt
   rw [← List.map_take, take_getD _ hj, List.map_append]
   rfl
 have eA : ((blkS m s i).flatMap (holsAt m)).find? (fun a => decide (l ≤ a.1)) = none := List.find?_eq_none.2 (fun x hx => by have := hno1 x hx; simp; omega)
 have eB : (((holL (m.lnL i)).take j).map (holeOf i)).find? (fun a => decide (l ≤ a.1)) = none := List.find?_eq_none.2 (fun x hx => by
   obtain ⟨y, hy, rfl⟩ := List.mem_map.1 hx
   obtain ⟨k, hk, rfl⟩ := mem_takeD hy
   have h4 := hno2 k hk
   intro h5
   have h6 : l ≤ i * 64 + ((holL (m.lnL i)).getD k (0, 0)).1 * 8 := of_decide_eq_true h5
   omega)
 rw [e1, List.find?_append, List.find?_append, List.find?_append, eA, eB, Option.none_or, Option.none_or, List.find?_cons_of_pos (p := fun a : Nat × Nat => decide (l ≤ a.1)) (a := holeOf i ((holL (m.lnL i)).getD j (0, 0))) (by exact decide_eq_true h)]
 rfl
theorem rhO_no {m : HM} {s l : Nat} (hno : ∀ x ∈ holsL m s m.bl.length, x.1 < l) : m.rhO s l = none :=
 List.find?_eq_none.2 (fun x hx => by have := hno x hx; simp; omega)
theorem holsL_more {m : HM} {s l i : Nat} (h1 : m.st i = 1) (h2 : m.sp i = s) (hno1 : ∀ x ∈ holsL m s i, x.1 < l) (hno2 : ∀ k, k < (holL (m.lnL i)).length → i * 64 + ((holL (m.lnL i)).getD k (0, 0)).1 * 8 < l) : ∀ x ∈ holsL m s (i + 1), x.1 < l := by
 intro x hx
 rw [holsL_yes h1 h2] at hx
 rcases List.mem_append.1 hx with h | h
 · exact hno1 x h
 · obtain ⟨y, hy, rfl⟩ := List.mem_map.1 h
   obtain ⟨k, hk, rfl⟩ := List.getElem_of_mem hy
   have := hno2 k hk
   rw [List.getD_eq_getElem?_getD, List.getElem?_eq_getElem hk] at this
   exact this
section
variable {w W V : World} {d0 d : DB} {m m' : HM} {q q' g g3 : Nat} {A A2 : AS}
theorem RB.holes {x y z : Int} (u : RB w W d0 d q m g A g3 x y z) {k : Nat} (hk : k < m.bl.length) (hst : m.st k = 1) :
   Calls Tryz.prog 181 #[.pointer (some ⟨d0.g, 0, none⟩), .int .i64 (k : Int)] W fun e w' => ∃ (Ad : Option Addr) (cap : Nat), e = .returned (.slice Ad (holL (m.lnL k)).length cap) ∧ (∀ i, i < (holL (m.lnL k)).length → ∃ gb, Ad = some ⟨gb, 0, none⟩ ∧ gb ∉ g :: d.all ∧ w'.cell? ⟨gb, i * 2, none⟩ = some (.int .i64 (((holL (m.lnL k)).getD i (0, 0)).1 : Int)) ∧ w'.cell? ⟨gb, i * 2 + 1, none⟩ = some (.int .i64 (((holL (m.lnL k)).getD i (0, 0)).2 : Int))) ∧ RB w w' d0 d q m g A g3 x y z := by
 rw [← u.rs.gg]
 refine (r_holes u.rs.dr k hk hst).mono ?_
 rintro e w' ⟨v, rfl, own, bel⟩
 have R := RunsFar.of_own own
 obtain ⟨Ad, cap, rfl, h2⟩ := R
 refine ⟨Ad, cap, rfl, fun i hi => ?_, u.step (Kp.of_below bel)⟩
 obtain ⟨gb, h3, h4, h5⟩ := h2 i hi
 refine ⟨gb, h3, fun hm => ?_, h5⟩
 rcases List.mem_cons.1 hm with rfl | hm
 · have := u.rs.hg; have := u.rs.kp.size; omega
 · have := u.rs.dr.lt _ hm; omega
theorem RB.blocks {x y z : Int} (u : RB w W d0 d q m g A g3 x y z) :
   Calls Tryz.prog 81 #[.pointer (some ⟨d0.g, 0, none⟩)] W fun e w' => e = .returned (.int .i64 (m.bl.length : Int)) ∧ RB w w' d0 d q m g A g3 x y z := by
 rw [← u.rs.gg]
 refine (dnb_k u.rs.dr).mono ?_
 rintro e w' ⟨rfl, K⟩
 exact ⟨rfl, u.step K⟩
theorem r_lines (u : RS w W d0 d q m g A) (hA : A.Ok) {x y z n : Nat} (hv : vldB x y z = true) (hn1 : 1 ≤ n) (hn2 : n ≤ 32) (hq : q ≤ 800000000) :
   Calls Tryz.prog 170 #[.pointer (some ⟨g, 0, none⟩), .agg #[.int .i64 (x : Int), .int .i64 (y : Int), .int .i64 (z : Int)], .int .i64 (n : Int)] W fun e w' => e = .returned (.tuple #[.int .i64 (m.rlV A n x y z), .int .i64 (m.rlE A n x y z)]) ∧ ∃ d', RS w w' d0 d' (q + 1) (m.rlM A n x y z) g (m.rlA A n x y z) := by
 have HV := hid hv
 have HAO := hid hA
 have HU := hid (RB.start u (x : Int) (y : Int) (z : Int))
 have ub := RB.start u (x : Int) (y : Int) (z : Int)
 obtain ⟨c, hc⟩ : ∃ c, A.c = c := ⟨_, rfl⟩
 obtain ⟨l, hl⟩ : ∃ l, A.l = l := ⟨_, rfl⟩
 have hcb : c ≤ 8192 := hc ▸ hA.c
 have hlb : l ≤ 8192 := hl ▸ hA.l
 have c0 := ub.rs.c0
 have c3 : (W.alloc (.cells #[.int .i64 (x : Int), .int .i64 (y : Int), .int .i64 (z : Int)] 33)).cell? ⟨g, 3, none⟩ = some (.int .i64 (c : Int)) := by rw [← hc]; exact ub.rs.al.cell 3
 have c4 : (W.alloc (.cells #[.int .i64 (x : Int), .int .i64 (y : Int), .int .i64 (z : Int)] 33)).cell? ⟨g, 4, none⟩ = some (.int .i64 (l : Int)) := by rw [← hl]; exact ub.rs.al.cell 4
 have b0 := ub.b3.cell 0
 have b1 := ub.b3.cell 1
 have b2 := ub.b3.cell 2
 have HBU := hid (fun (W' : World) (U' : RB w W' d0 d q m g A W.heap.size x y z) => r_bump U'.rs hA hv hn2 hq)
 have HOV := hid (fun (W' : World) (U' : RB w W' d0 d q m g A W.heap.size x y z) => r_over U'.rs hA hv hn2 hq)
 by_cases hf : A.c + n ≤ A.l
 · have tf : decide ((n : Int) ≤ (l : Int) - (c : Int)) = true := decide_eq_true (by omega)
   rw [show m.rlV A n x y z = m.ruV A.sp A.c A.l n x y z from if_pos hf, show m.rlE A n x y z = m.ruE A.sp A.c A.l n x y z from if_pos hf, show m.rlM A n x y z = m.ruM A.sp A.c A.l n x y z from if_pos hf, show m.rlA A n x y z = { A with c := (m.ruC A.sp A.c A.l n x y z).1, l := (m.ruC A.sp A.c A.l n x y z).2 } from if_pos hf]
   generalize m.ruV A.sp A.c A.l n x y z = bv at HBU ⊢
   generalize m.ruE A.sp A.c A.l n x y z = be at HBU ⊢
   generalize m.ruM A.sp A.c A.l n x y z = bm at HBU ⊢
   generalize ({ A with c := (m.ruC A.sp A.c A.l n x y z).1, l := (m.ruC A.sp A.c A.l n x y z).2 } : AS) = bA at HBU ⊢
   clear u hA hv hc hl ub hf HOV
   go_enter Tryz.func170, Tryz.ntmps170
   go_wp2
   go_quiet (fail)
   go_wp2_with (go_at_call 169; refine (HBU.out _ (HU.out.step (Kp.draw _ _))).mono ?_; rintro e w5 ⟨rfl, d5, U5⟩; have HU5 := hid U5; clear U5)
   go_ret2
   exact ⟨rfl, d5, HU5.out⟩
 have tf : decide ((n : Int) ≤ (l : Int) - (c : Int)) = false := decide_eq_false (by omega)
 by_cases h8 : 8 < n
 · have t8 : decide ((8 : Int) < (n : Int)) = true := decide_eq_true (by omega)
   rw [show m.rlV A n x y z = m.ruV A.sp A.oc A.ol n x y z from (if_neg hf).trans (if_pos h8), show m.rlE A n x y z = m.ruE A.sp A.oc A.ol n x y z from (if_neg hf).trans (if_pos h8), show m.rlM A n x y z = m.ruM A.sp A.oc A.ol n x y z from (if_neg hf).trans (if_pos h8), show m.rlA A n x y z = { A with oc := (m.ruC A.sp A.oc A.ol n x y z).1, ol := (m.ruC A.sp A.oc A.ol n x y z).2 } from (if_neg hf).trans (if_pos h8)]
   generalize m.ruV A.sp A.oc A.ol n x y z = bv at HOV ⊢
   generalize m.ruE A.sp A.oc A.ol n x y z = be at HOV ⊢
   generalize m.ruM A.sp A.oc A.ol n x y z = bm at HOV ⊢
   generalize ({ A with oc := (m.ruC A.sp A.oc A.ol n x y z).1, ol := (m.ruC A.sp A.oc A.ol n x y z).2 } : AS) = bA at HOV ⊢
   clear u hA hv hc hl ub hf HBU h8
   go_enter Tryz.func170, Tryz.ntmps170
   go_wp2
   go_quiet (fail)
   go_wp2_with (go_at_call 180; refine (HOV.out _ (HU.out.step (Kp.draw _ _))).mono ?_; rintro e w5 ⟨rfl, d5, U5⟩; have HU5 := hid U5; clear U5)
   go_ret2
   exact ⟨rfl, d5, HU5.out⟩
 have t8 : decide ((8 : Int) < (n : Int)) = false := decide_eq_false (by omega)
 obtain ⟨s, hs⟩ : ∃ s, A.sp = s := ⟨_, rfl⟩
 have HSP : Hid (∀ k, ownS m s k = ownS m A.sp k) := fun k => by rw [hs]
 have HS := hid hs
 have HRN : Hid (m.rhO s l = none → m.rlV A n x y z = m.ruV A.sp A.c A.l n x y z ∧ m.rlE A n x y z = m.ruE A.sp A.c A.l n x y z ∧ m.rlM A n x y z = m.ruM A.sp A.c A.l n x y z ∧ m.rlA A n x y z = { A with c := (m.ruC A.sp A.c A.l n x y z).1, l := (m.ruC A.sp A.c A.l n x y z).2 }) := fun h => by
   rw [← hs, ← hl] at h
   refine ⟨?_, ?_, ?_, ?_⟩
   · unfold HM.rlV; rw [if_neg hf, if_neg h8, h]
   · unfold HM.rlE; rw [if_neg hf, if_neg h8, h]
   · unfold HM.rlM; rw [if_neg hf, if_neg h8, h]
   · unfold HM.rlA; rw [if_neg hf, if_neg h8, h]
 have HRS : Hid (∀ a b, m.rhO s l = some (a, b) → m.rlV A n x y z = m.rpV A.sp a 0 x y z ∧ m.rlE A n x y z = m.rpE A.sp a 0 x y z ∧ m.rlM A n x y z = m.rpM A.sp a 0 x y z ∧ m.rlA A n x y z = if m.rpE A.sp a 0 x y z = 0 then { A with c := a + n, l := b } else A) := fun a b h => by
   rw [← hs, ← hl] at h
   refine ⟨?_, ?_, ?_, ?_⟩
   · unfold HM.rlV; rw [if_neg hf, if_neg h8, h]
   · unfold HM.rlE; rw [if_neg hf, if_neg h8, h]
   · unfold HM.rlM; rw [if_neg hf, if_neg h8, h]
   · unfold HM.rlA; rw [if_neg hf, if_neg h8, h]
 generalize m.rlV A n x y z = rv at HRN HRS ⊢
 generalize m.rlE A n x y z = re at HRN HRS ⊢
 generalize m.rlM A n x y z = rm at HRN HRS ⊢
 generalize m.rlA A n x y z = rA at HRN HRS ⊢
 generalize m.ruV A.sp A.c A.l n x y z = bv at HBU HRN ⊢
 generalize m.ruE A.sp A.c A.l n x y z = be at HBU HRN ⊢
 generalize m.ruM A.sp A.c A.l n x y z = bm at HBU HRN ⊢
 generalize ({ A with c := (m.ruC A.sp A.c A.l n x y z).1, l := (m.ruC A.sp A.c A.l n x y z).2 } : AS) = bA at HBU HRN ⊢
 have hN64 : m.bl.length ≤ 64 := u.dr.inv.len64
 have hN2 : 2 ≤ m.bl.length := u.dr.inv.len2
 generalize hN : m.bl.length = N at hN64 hN2
 have HN := hid hN
 have HC3 : Hid (A.l = l) := hl
 have H1 : Hid (ownS m s 0 = false) := by
   show _ = _
   unfold ownS
   rw [decide_eq_false]
   have := u.dr.inv.b0
   omega
 clear hf h8 HOV u hA hv hc hl ub hs hN
 go_enter Tryz.func170, Tryz.ntmps170
 go_wp2
 go_quiet (fail)
 go_wp2
 generalize W.heap.size = gs at HU HBU ⊢
 go_loopw [8] (fun b wr => ∃ i : Nat, 1 ≤ i ∧ i ≤ N ∧ b = .int .i64 (i : Int) ∧ Hid (∀ a ∈ holsL m s i, a.1 < l) ∧ RB w wr d0 d q m g A gs x y z) (fun b _ => N - (intOf b).toNat)
 case atStart => exact ⟨1, by omega, by omega, rfl, (fun a ha => by
   rw [holsL_no (n := 0) (by have := H1.out; unfold ownS at this; exact of_decide_eq_false this)] at ha
   cases ha), HU.out.step (Kp.draw _ _)⟩
 case round =>
   rename World => w8
   obtain ⟨i, hi1, hi, rfl, hno, U8⟩ := hrel
   have HNO := hid hno
   have HU8 := hid U8
   have e0 := U8.rs.c0
   have e1 := U8.rs.al.sp_ HS.out
   clear hno U8
   by_cases hlt : i < N
   · have hlt2 : decide ((i : Int) < (N : Int)) = true := decide_eq_true (by omega)
     have hlN : Hid (i < m.bl.length) := by show _ < _; rw [HN.out]; exact hlt
     obtain ⟨sx, hx⟩ : ∃ v, m.st i = v := ⟨_, rfl⟩
     have HX : Hid ((if inB m.bl.length (i : Int) then (m.st (i : Int).toNat : Int) else -1) = (sx : Int)) := by show _ = _; rw [stV_eq, if_pos hlN.out, hx]
     have BLK : True := trivial
     by_cases hx1 : sx = 1
     · have tx : ((sx : Int) == 1) = true := beq_iff_eq.2 (by omega)
       have txn : ((sx : Int) != 1) = false := by simp [hx1]
       obtain ⟨sy, hy⟩ : ∃ v, m.sp i = v := ⟨_, rfl⟩
       have HY : Hid ((if inB m.bl.length (i : Int) then (m.sp (i : Int).toNat : Int) else -1) = (sy : Int)) := by show _ = _; rw [spV_eq, if_pos hlN.out, hy]
       by_cases hys : sy = s
       · have tyn : ((sy : Int) != (s : Int)) = false := by simp [hys]
         have HST : Hid (m.st i = 1) := by show _ = _; omega
         have HSS : Hid (m.sp i = s) := by show _ = _; omega
         clear hx hx1 hy hys
         go_wp2_with (go_at_call 81; refine HU8.out.blocks.mono ?_; rintro e w5 ⟨rfl, U5⟩; rw [HN.out]; have HU5 := hid U5; have d0c := U5.rs.c0; have d1c := U5.rs.al.sp_ HS.out; clear U5)
         have HQ1 : Hid (∀ n, Calls Tryz.prog 88 #[.pointer (some ⟨d0.g, 0, none⟩), .int .i64 (i : Int)] (w5.drewN n) fun e w' => e = .returned (.int .i64 (sx : Int)) ∧ ∃ j, w' = (w5.drewN n).drewN j) := fun n => by
           rw [← HU5.out.rs.gg]
           refine (dst_q (HU5.out.rs.dr.drewN n) _ HX.out).mono ?_
           rintro e w' ⟨rfl, j, rfl⟩
           exact ⟨rfl, _, rfl⟩
         have HQ2 : Hid (∀ n, Calls Tryz.prog 89 #[.pointer (some ⟨d0.g, 0, none⟩), .int .i64 (i : Int)] (w5.drewN n) fun e w' => e = .returned (.int .i64 (sy : Int)) ∧ ∃ j, w' = (w5.drewN n).drewN j) := fun n => by
           rw [← HU5.out.rs.gg]
           refine (dsp_q (HU5.out.rs.dr.drewN n) _ HY.out).mono ?_
           rintro e w' ⟨rfl, j, rfl⟩
           exact ⟨rfl, _, rfl⟩
         go_quiet ((first | (go_at_call 88; exact Calls.quiet_of (HQ1.out _)) | (go_at_call 89; exact Calls.quiet_of (HQ2.out _))))
         go_wp2_with (go_at_call 181; refine ((HU5.out.step (Kp.draw _ _)).holes hlN.out HST.out).mono ?_; rintro e w7 ⟨Ad, cap, rfl, hra, U7⟩; have HC := hid hra; have HU7 := hid U7; clear hra U7)
         have HHB : Hid (∀ k, k < (holL (m.lnL i)).length → ((holL (m.lnL i)).getD k (0, 0)).1 + ((holL (m.lnL i)).getD k (0, 0)).2 ≤ 8) := fun k hk => by
           have h1 : ((holL (m.lnL i)).getD k (0, 0)).1 + ((holL (m.lnL i)).getD k (0, 0)).2 ≤ (m.lnL i).length ∧ 1 ≤ ((holL (m.lnL i)).getD k (0, 0)).2 := holN_bd (m.lnL i) (m.lnL i).length _ (getD_mem hk)
           have h2 : (m.lnL i).length = 8 := by simp [HM.lnL]
           omega
         have hhl : (holL (m.lnL i)).length ≤ 8 := by
           have h1 := holN_len (m.lnL i) (m.lnL i).length
           have h2 : (m.lnL i).length = 8 := by simp [HM.lnL]
           unfold holL
           omega
         have HHT := hid (fun j hj h2 h3 => rhO_hit (l := l) (j := j) hlN.out HST.out HSS.out hj HNO.out h2 h3)
         have HHM := hid (fun h2 => holsL_more (l := l) HST.out HSS.out HNO.out h2)
         generalize holL (m.lnL i) = L at HC HHB hhl HHT HHM ⊢
         go_loopw [10] (fun j wr => ∃ k : Nat, k ≤ L.length ∧ j = .int .i64 (k : Int) ∧ Hid (∀ v, v < k → i * 64 + (L.getD v (0, 0)).1 * 8 < l) ∧ Kp [] w7 wr) (fun j _ => L.length - (intOf j).toNat)
         case atStart => exact ⟨0, by omega, rfl, fun v hv => by omega, Kp.refl _ _⟩
         case round =>
           rename World => wr
           obtain ⟨k, hk, rfl, hno2, K⟩ := hrel
           have HNO2 := hid hno2
           have HK := hid K
           have HUR := hid (HU7.out.step K)
           have r4 : wr.cell? ⟨g, 4, none⟩ = some (.int .i64 (l : Int)) := by rw [← HC3.out]; exact HUR.out.rs.al.cell 4
           have rb0 := HUR.out.b3.cell 0
           have rb1 := HUR.out.b3.cell 1
           have rb2 := HUR.out.b3.cell 2
           clear hno2 K
           by_cases hkl : k < L.length
           · have hkl2 : decide ((k : Int) < (L.length : Int)) = true := decide_eq_true (by omega)
             obtain ⟨gb, hAd, hfar, s0, s1⟩ := HC.out k hkl
             have HFA := hid hfar
             clear hfar
             subst hAd
             have t0 := cell_kp HK.out s0
             obtain ⟨hx, hhx⟩ : ∃ v, (L.getD k (0, 0)).1 = v := ⟨_, rfl⟩
             obtain ⟨hz, hhz⟩ : ∃ v, (L.getD k (0, 0)).2 = v := ⟨_, rfl⟩
             have HXX := hid hhx
             have HG : Hid (L.getD k (0, 0) = (hx, hz)) := by show _ = _; rw [← hhx, ← hhz]
             have hbd := HHB.out k hkl
             rw [hhx, hhz] at hbd
             rw [hhx] at t0
             by_cases hle : l ≤ i * 64 + hx * 8
             · have tle : decide ((i : Int) * 64 + (hx : Int) * 8 < (l : Int)) = false := decide_eq_false (by omega)
               have hhit := HHT.out k hkl HNO2.out (by rw [hhx]; exact hle)
               rw [HG.out] at hhit
               obtain ⟨f1, f2, f3, f4⟩ := HRS.out _ _ hhit
               obtain ⟨pe, hpe⟩ : ∃ v, m.rpE A.sp (i * 64 + hx * 8) 0 x y z = v := ⟨_, rfl⟩
               have f4' : rA = if pe = 0 then { A with c := i * 64 + hx * 8 + n, l := i * 64 + hx * 8 + hz * 8 } else A := by rw [f4]; show (if m.rpE A.sp (i * 64 + hx * 8) 0 x y z = 0 then ({ A with c := i * 64 + hx * 8 + n, l := i * 64 + hx * 8 + hz * 8 } : AS) else A) = _; rw [hpe]
               have HPE := hid hpe
               have HF1 : Hid (m.rpV A.sp (i * 64 + hx * 8) 0 x y z = rv) := f1.symm
               have HF2 : Hid (re = pe) := by show _ = _; rw [f2]; exact hpe
               have HF3 : Hid (m.rpM A.sp (i * 64 + hx * 8) 0 x y z = rm) := f3.symm
               have HF4 := hid f4'
               have s1k := cell_kp HK.out s1
               rw [hhz] at s1k
               have HLT : Hid (i * 64 + hx * 8 ≤ 10000) := by show _ ≤ _; omega
               clear f1 f2 f3 f4 f4' hpe hhit hhx hhz s0 s1 hle
               by_cases hp : pe = 0
               · have tp : (pe == 0) = true := beq_iff_eq.2 hp
                 go_wp2_with (go_at_call 168; refine (HUR.out.plc (i * 64 + hx * 8) 0 HLT.out HV.out (by omega) (by omega) rfl HF1.out HPE.out HF3.out).mono ?_; rintro e w9 ⟨rfl, d9, U9, K9⟩; have s9 := cell_kpn K9 HFA.out s1k; have y0 := U9.al.frozen 3; have y1 := U9.al.frozen 4; have y2 : w9.cell? ⟨g, 3, none⟩ = some (.int .i64 (A.c : Int)) := U9.al.cell 3; have y3 : w9.cell? ⟨g, 4, none⟩ = some (.int .i64 (A.l : Int)) := U9.al.cell 4; have HU9 := hid U9; clear U9)
                 go_ret2
                 have US := HU9.out.set2 (i * 64 + hx * 8 + n) (i * 64 + hx * 8 + hz * 8)
                 rw [show ((i * 64 + hx * 8 + n : Nat) : Int) = (i : Int) * 64 + (hx : Int) * 8 + (n : Int) by omega, show ((i * 64 + hx * 8 + hz * 8 : Nat) : Int) = (i : Int) * 64 + (hx : Int) * 8 + (hz : Int) * 8 by omega] at US
                 rw [HF2.out, HF4.out, if_pos hp]
                 exact ⟨by first | rfl | (rw [hp]; done) | (rw [hp]; rfl), _, US⟩
               · have tp : (pe == 0) = false := beq_eq_false_iff_ne.2 hp
                 go_wp2_with (go_at_call 168; refine (HUR.out.plc (i * 64 + hx * 8) 0 HLT.out HV.out (by omega) (by omega) rfl HF1.out HPE.out HF3.out).mono ?_; rintro e w9 ⟨rfl, d9, U9, K9⟩; have s9 := cell_kpn K9 HFA.out s1k; have y0 := U9.al.frozen 3; have y1 := U9.al.frozen 4; have y2 : w9.cell? ⟨g, 3, none⟩ = some (.int .i64 (A.c : Int)) := U9.al.cell 3; have y3 : w9.cell? ⟨g, 4, none⟩ = some (.int .i64 (A.l : Int)) := U9.al.cell 4; have HU9 := hid U9; clear U9)
                 go_ret2
                 rw [HF2.out, HF4.out, if_neg hp]
                 exact ⟨rfl, _, HU9.out⟩
             · have tle : decide ((i : Int) * 64 + (hx : Int) * 8 < (l : Int)) = true := decide_eq_true (by omega)
               have HN2 : Hid (∀ v, v < k + 1 → i * 64 + (L.getD v (0, 0)).1 * 8 < l) := fun v hv => by
                 by_cases hvk : v = k
                 · subst hvk; rw [HXX.out]; omega
                 · exact HNO2.out v (by omega)
               clear hhx hhz s0 s1
               go_wp2
               go_roundw
               case rel => exact ⟨k + 1, by omega, by go_num, HN2, HK.out⟩
               case measure => simp [intOf]; omega
           · obtain rfl : k = L.length := by omega
             have hkl2 : decide ((L.length : Int) < (L.length : Int)) = false := decide_eq_false (by omega)
             have HN3 := hid (HHM.out HNO2.out)
             go_wp2
             go_roundw
             case rel => exact ⟨i + 1, by omega, by omega, by go_num, HN3, HUR.out⟩
             case measure => simp [intOf]; omega
       · have tyn : ((sy : Int) != (s : Int)) = true := bne_iff_ne.2 (by omega)
         have HN3 : Hid (∀ a ∈ holsL m s (i + 1), a.1 < l) := by show ∀ a ∈ _, _; rw [holsL_no (by omega)]; exact HNO.out
         clear hx hx1 hy hys
         go_wp2_with (go_at_call 81; refine HU8.out.blocks.mono ?_; rintro e w5 ⟨rfl, U5⟩; rw [HN.out]; have HU5 := hid U5; have d0c := U5.rs.c0; have d1c := U5.rs.al.sp_ HS.out; clear U5)
         have HQ1 : Hid (∀ n, Calls Tryz.prog 88 #[.pointer (some ⟨d0.g, 0, none⟩), .int .i64 (i : Int)] (w5.drewN n) fun e w' => e = .returned (.int .i64 (sx : Int)) ∧ ∃ j, w' = (w5.drewN n).drewN j) := fun n => by
           rw [← HU5.out.rs.gg]
           refine (dst_q (HU5.out.rs.dr.drewN n) _ HX.out).mono ?_
           rintro e w' ⟨rfl, j, rfl⟩
           exact ⟨rfl, _, rfl⟩
         have HQ2 : Hid (∀ n, Calls Tryz.prog 89 #[.pointer (some ⟨d0.g, 0, none⟩), .int .i64 (i : Int)] (w5.drewN n) fun e w' => e = .returned (.int .i64 (sy : Int)) ∧ ∃ j, w' = (w5.drewN n).drewN j) := fun n => by
           rw [← HU5.out.rs.gg]
           refine (dsp_q (HU5.out.rs.dr.drewN n) _ HY.out).mono ?_
           rintro e w' ⟨rfl, j, rfl⟩
           exact ⟨rfl, _, rfl⟩
         go_quiet ((first | (go_at_call 88; exact Calls.quiet_of (HQ1.out _)) | (go_at_call 89; exact Calls.quiet_of (HQ2.out _))))
         go_wp2
         go_roundw
         case rel => exact ⟨i + 1, by omega, by omega, by go_num, HN3, HU5.out.step (Kp.draw _ _)⟩
         case measure => simp [intOf]; omega
     · have txn : ((sx : Int) != 1) = true := bne_iff_ne.2 (by omega)
       have HN3 : Hid (∀ a ∈ holsL m s (i + 1), a.1 < l) := by show ∀ a ∈ _, _; rw [holsL_no (by omega)]; exact HNO.out
       clear hx hx1
       go_wp2_with (go_at_call 81; refine HU8.out.blocks.mono ?_; rintro e w5 ⟨rfl, U5⟩; rw [HN.out]; have HU5 := hid U5; have d0c := U5.rs.c0; have d1c := U5.rs.al.sp_ HS.out; clear U5)
       have HQ1 : Hid (∀ n, Calls Tryz.prog 88 #[.pointer (some ⟨d0.g, 0, none⟩), .int .i64 (i : Int)] (w5.drewN n) fun e w' => e = .returned (.int .i64 (sx : Int)) ∧ ∃ j, w' = (w5.drewN n).drewN j) := fun n => by
         rw [← HU5.out.rs.gg]
         refine (dst_q (HU5.out.rs.dr.drewN n) _ HX.out).mono ?_
         rintro e w' ⟨rfl, j, rfl⟩
         exact ⟨rfl, _, rfl⟩
       go_quiet ((go_at_call 88; exact Calls.quiet_of (HQ1.out _)))
       go_wp2
       go_roundw
       case rel => exact ⟨i + 1, by omega, by omega, by go_num, HN3, HU5.out.step (Kp.draw _ _)⟩
       case measure => simp [intOf]; omega
   · obtain rfl : i = N := by omega
     have hlt2 : decide ((i : Int) < (i : Int)) = false := decide_eq_false (by omega)
     obtain ⟨f1, f2, f3, f4⟩ := HRN.out (rhO_no (by rw [HN.out]; exact HNO.out))
     subst f1 f2 f3 f4
     go_wp2_with (first
       | (go_at_call 81; refine HU8.out.blocks.mono ?_; rintro e w5 ⟨rfl, U5⟩; rw [HN.out]; have HU5 := hid U5; have q0 := U5.b3.cell 0; have q1 := U5.b3.cell 1; have q2 := U5.b3.cell 2; clear U5)
       | (go_at_call 169; refine (HBU.out _ HU5.out).mono ?_; rintro e w6 ⟨rfl, d6, U6⟩; have HU6 := hid U6; clear U6))
     go_ret2
     exact ⟨rfl, d6, HU6.out⟩
end
end Go.Proofs.YthndilllnneijaaGreat
