/-
  The contract of the document's choose. Conditions: those that stand in each theorem.
-/
import Derived.Test.YthndilllnneijaaGreatPGOB
set_option linter.unusedSimpArgs false
set_option linter.unusedVariables false
set_option maxRecDepth 100000
set_option maxHeartbeats 2000000
namespace Go.Proofs.YthndilllnneijaaGreat
open Go.RowKit Go.Deep Go.Maps
theorem take_getD (L : List (Nat × Nat)) {k : Nat} (h : k < L.length) : L.take (k + 1) = L.take k ++ [L.getD k (0, 0)] := by
 rw [List.take_add_one, List.getElem?_eq_getElem h, List.getD_eq_getElem?_getD, List.getElem?_eq_getElem h]
 rfl
theorem nxO_more {L : List (Nat × Nat)} {c n k : Nat} (h : k < L.length) (h0 : nxO (L.take k) c n = none) (hf : fitA (areaOf c (L.getD k (0, 0))) n = false) : nxO (L.take (k + 1)) c n = none := by
 unfold nxO at h0 ⊢
 rw [take_getD L h, List.find?_append]
 rw [Option.map_eq_none_iff] at h0 ⊢
 rw [h0]
 simp only [Option.none_or]
 rw [List.find?_cons_of_neg (p := fun g => fitA (areaOf c g) n) (by rw [hf]; decide), List.find?_nil]
theorem nxO_hit {L : List (Nat × Nat)} {c n k : Nat} (h : k < L.length) (h0 : nxO (L.take k) c n = none) (hf : fitA (areaOf c (L.getD k (0, 0))) n = true) : nxO L c n = some (max (L.getD k (0, 0)).1 c) := by
 unfold nxO at h0 ⊢
 rw [Option.map_eq_none_iff] at h0
 have h1 : L = L.take k ++ (L.getD k (0, 0) :: L.drop (k + 1)) := by
   rw [List.getD_eq_getElem?_getD, List.getElem?_eq_getElem h, Option.getD_some, List.getElem_cons_drop, List.take_append_drop]
 generalize hg : L.getD k (0, 0) = gk at hf h1 ⊢
 rw [h1, List.find?_append, h0, Option.none_or, List.find?_cons_of_pos (p := fun g => fitA (areaOf c g) n) hf]
 rfl
theorem beO_more {L : List (Nat × Nat)} {best : Bool} {n k : Nat} (h : k < L.length) : beO (L.take (k + 1)) best n = beStep best n (beO (L.take k) best n) (L.getD k (0, 0)) := by
 unfold beO
 rw [take_getD L h, List.foldl_append]
 rfl
theorem ars_map (m : HM) (s f : Nat) : m.ars s f = (rgL m s m.bl.length).map (areaOf f) := by
 unfold HM.ars arsL rgL arsAt
 rw [List.map_flatMap]
theorem rgL_bd {m : HM} (I : m.Inv) {s : Nat} {a : Nat × Nat} (h : a ∈ rgL m s m.bl.length) : 64 ≤ a.1 ∧ a.1 + a.2 ≤ 4096 := by
 have h1 := ars_bd I (s := s) (f := 0) (a := areaOf 0 a) (by rw [ars_map]; exact List.mem_map_of_mem h)
 unfold areaOf at h1
 simp at h1
 omega
theorem getD_mem {L : List (Nat × Nat)} {k : Nat} (h : k < L.length) : L.getD k (0, 0) ∈ L := by
 rw [List.getD_eq_getElem?_getD, List.getElem?_eq_getElem h]
 exact List.getElem_mem h
section
variable {w W V : World} {d0 d : DB} {m m' : HM} {q q' g g3 : Nat} {A A2 : AS}
def chV (o : Option Nat) : Value := .tuple #[.int .i64 ((o.getD 0 : Nat) : Int), .bool o.isSome]
theorem d_gaps_of (T : DR w d q m) (h : RAL w g d A) (hgl : g < w.heap.size) :
   Calls Tryz.prog 182 #[.pointer (some ⟨g, 0, none⟩)] w fun e w' => ∃ (Ad : Option Addr) (cap : Nat), e = .returned (.slice Ad (rgL m A.sp m.bl.length).length cap) ∧ (∀ i, i < (rgL m A.sp m.bl.length).length → ∃ gb, Ad = some ⟨gb, 0, none⟩ ∧ w'.cell? ⟨gb, i * 2, none⟩ = some (.int .i64 (((rgL m A.sp m.bl.length).getD i (0, 0)).1 : Int)) ∧ w'.cell? ⟨gb, i * 2 + 1, none⟩ = some (.int .i64 (((rgL m A.sp m.bl.length).getD i (0, 0)).2 : Int))) ∧ Kp [] w w' := by
 refine (r_gaps T h hgl).mono ?_
 rintro e w' ⟨v, rfl, own, bel⟩
 have R := RunsAt.of_own own
 obtain ⟨Ad, cap, rfl, h2⟩ := R
 exact ⟨Ad, cap, rfl, h2, Kp.of_below bel⟩
def BE (L : List (Nat × Nat)) (best : Bool) (n k : Nat) (bi : Int) : Prop := (bi = -1 ∧ beO (L.take k) best n = none) ∨ ∃ j : Nat, bi = (j : Int) ∧ j < k ∧ beO (L.take k) best n = some (L.getD j (0, 0))
theorem BE.less {L : List (Nat × Nat)} {best : Bool} {n k : Nat} {bi : Int} (hk : k < L.length) (h : BE L best n k bi) (hy : (L.getD k (0, 0)).2 < n) : BE L best n (k + 1) bi := by
 rcases h with ⟨h1, h2⟩ | ⟨j, h1, h2, h3⟩
 · exact .inl ⟨h1, by rw [beO_more hk, h2]; unfold beStep; rw [if_pos hy]⟩
 · exact .inr ⟨j, h1, by omega, by rw [beO_more hk, h3]; unfold beStep; rw [if_pos hy]⟩
theorem BE.first {L : List (Nat × Nat)} {best : Bool} {n k : Nat} (hk : k < L.length) (h : beO (L.take k) best n = none) (hy : ¬ (L.getD k (0, 0)).2 < n) : BE L best n (k + 1) (k : Int) :=
 .inr ⟨k, rfl, by omega, by rw [beO_more hk, h]; unfold beStep; rw [if_neg hy]⟩
theorem BE.keep {L : List (Nat × Nat)} {best : Bool} {n k j : Nat} (hk : k < L.length) (hj : j < k) (h : beO (L.take k) best n = some (L.getD j (0, 0))) (hy : ¬ (L.getD k (0, 0)).2 < n) (hb : ¬ (best = true ∧ (L.getD k (0, 0)).2 < (L.getD j (0, 0)).2)) : BE L best n (k + 1) (j : Int) :=
 .inr ⟨j, rfl, by omega, by rw [beO_more hk, h]; unfold beStep; rw [if_neg hy]; simp only; rw [if_neg hb]⟩
theorem BE.swap {L : List (Nat × Nat)} {best : Bool} {n k j : Nat} (hk : k < L.length) (h : beO (L.take k) best n = some (L.getD j (0, 0))) (hy : ¬ (L.getD k (0, 0)).2 < n) (hb : best = true ∧ (L.getD k (0, 0)).2 < (L.getD j (0, 0)).2) : BE L best n (k + 1) (k : Int) :=
 .inr ⟨k, rfl, by omega, by rw [beO_more hk, h]; unfold beStep; rw [if_neg hy]; simp only; rw [if_pos hb]⟩
theorem r_choose (T : DR w d q m) (h : RAL w g d A) (hgl : g < w.heap.size) (hA : A.Ok) (n : Nat) (hn1 : 1 ≤ n) (hn : n ≤ 32) :
   Calls Tryz.prog 171 #[.pointer (some ⟨g, 0, none⟩), .int .i64 (n : Int)] w fun e w' => e = .returned (chV (m.rcO A n)) ∧ Kp [] w w' := by
 have HG := hid (d_gaps_of T h hgl)
 have HBD : Hid (∀ k, k < (rgL m A.sp m.bl.length).length → 64 ≤ ((rgL m A.sp m.bl.length).getD k (0, 0)).1 ∧ ((rgL m A.sp m.bl.length).getD k (0, 0)).1 + ((rgL m A.sp m.bl.length).getD k (0, 0)).2 ≤ 4096) := fun k hk => rgL_bd T.inv (getD_mem hk)
 have HLL : Hid ((rgL m A.sp m.bl.length).length ≤ 33 * m.bl.length) := rgL_len T.inv _ _
 have HBL : Hid (m.bl.length ≤ 64) := T.inv.len64
 have hcb := hA.c
 have hpb := hA.po
 have c2 := h.cell 2
 have c3 := h.cell 3
 obtain ⟨R, hR⟩ : ∃ R, m.rcO A n = R := ⟨_, rfl⟩
 have hRR : m.rcO A n = match (if A.po = 2 then nxO (rgL m A.sp m.bl.length) A.c n else none) with | some a => some a | none => (beO (rgL m A.sp m.bl.length) (decide (A.po = 1)) n).map (·.1) := rfl
 rw [hR] at hRR ⊢
 generalize rgL m A.sp m.bl.length = L at HG HBD HLL hRR
 obtain ⟨po, hpo⟩ : ∃ k, A.po = k := ⟨_, rfl⟩
 obtain ⟨c, hc⟩ : ∃ k, A.c = k := ⟨_, rfl⟩
 have j2 : w.cell? ⟨g, 2, none⟩ = some (.int .i64 (po : Int)) := by rw [← hpo]; exact c2
 have j3 : w.cell? ⟨g, 3, none⟩ = some (.int .i64 (c : Int)) := by rw [← hc]; exact c3
 rw [hpo] at hpb hRR
 rw [hc] at hcb hRR
 have hl1 : L.length ≤ 2112 := by have := HLL.out; have := HBL.out; omega
 clear T h hA hpo hc hR HLL HBL c2 c3
 by_cases hp2 : po = 2
 · have tp : ((po : Int) == 2) = true := beq_iff_eq.2 (by omega)
   have HP2 : Hid (∀ r, nxO L c n = some r → R = some r) := fun r hr => by rw [hRR, if_pos hp2, hr]
   have HP3 : Hid (nxO L c n = none → R = (beO L (decide (po = 1)) n).map (·.1)) := fun hr => by rw [hRR, if_pos hp2, hr]
   clear hRR
   go_enter Tryz.func171, Tryz.ntmps171
   go_wp2_with (go_at_call 182; refine HG.out.mono ?_; rintro e w1 ⟨Ad, cap, rfl, hra, K1⟩; have HC := hid hra; have HK1 := hid K1; have k2 := cell_kp K1 j2; have k3 := cell_kp K1 j3; clear hra K1)
   go_loopw [7] (fun i wr => ∃ k : Nat, k ≤ L.length ∧ i = .int .i64 (k : Int) ∧ Hid (nxO (L.take k) c n = none) ∧ Kp [] w1 wr) (fun i _ => L.length - (intOf i).toNat)
   case atStart => exact ⟨0, by omega, rfl, rfl, Kp.refl _ _⟩
   case round =>
     rename World => wr
     obtain ⟨k, hk, rfl, hno, K⟩ := hrel
     have HNO := hid hno
     have HK := hid K
     have r3 := cell_kp K k3
     clear hno K
     by_cases hlt : k < L.length
     · have hlt2 : decide ((k : Int) < (L.length : Int)) = true := decide_eq_true (by omega)
       obtain ⟨gb, hAd, s0, s1⟩ := HC.out k hlt
       subst hAd
       have t0 := cell_kp HK.out s0
       have t1 := cell_kp HK.out s1
       obtain ⟨x, hx⟩ : ∃ x, (L.getD k (0, 0)).1 = x := ⟨_, rfl⟩
       obtain ⟨y, hy⟩ : ∃ y, (L.getD k (0, 0)).2 = y := ⟨_, rfl⟩
       have HXY : Hid (L.getD k (0, 0) = (x, y)) := by show _ = _; rw [← hx, ← hy]
       rw [hx] at t0
       rw [hy] at t1
       have hHB := HBD.out k hlt
       rw [hx, hy] at hHB
       obtain ⟨hx1, hx2⟩ := hHB
       clear s0 s1 hx hy
       by_cases hxc : x < c
       · have hmx : max x c = c := by omega
         have HF := hid hmx
         clear hmx
         by_cases hfit : c + n ≤ x + y
         · have tf : decide ((n : Int) ≤ (x : Int) + (y : Int) - (c : Int)) = true := decide_eq_true (by omega)
           have hRv : R = some c := HP2.out _ (by
             rw [nxO_hit hlt HNO.out (by rw [HXY.out]; unfold areaOf fitA; simp only; rw [HF.out]; exact decide_eq_true hfit), HXY.out]
             simp only
             rw [HF.out])
           have HRV := hid hRv
           clear hfit hRv
           go_wp2
           go_quiet (fail)
           go_wp2
           go_ret2
           exact ⟨by rw [HRV.out]; rfl, (HK1.out.chain HK.out).chain (Kp.draw _ _)⟩
         · have tf : decide ((n : Int) ≤ (x : Int) + (y : Int) - (c : Int)) = false := decide_eq_false (by omega)
           have HN := hid (nxO_more hlt HNO.out (by rw [HXY.out]; unfold areaOf fitA; simp only; rw [HF.out]; exact decide_eq_false hfit))
           clear hfit
           go_wp2
           go_quiet (fail)
           go_wp2
           go_roundw
           case rel => exact ⟨k + 1, by omega, by go_num, HN, HK.out.chain (Kp.draw _ _)⟩
           case measure => simp [intOf]; omega
       · have hmx : max x c = x := by omega
         have HF := hid hmx
         clear hmx
         by_cases hfit : x + n ≤ x + y
         · have tf : decide ((n : Int) ≤ (x : Int) + (y : Int) - (x : Int)) = true := decide_eq_true (by omega)
           have te2 : decide (n ≤ y) = true := by simp; omega
           have te3 : decide ((n : Int) ≤ (y : Int)) = true := by simp; omega
           have hRv : R = some x := HP2.out _ (by
             rw [nxO_hit hlt HNO.out (by rw [HXY.out]; unfold areaOf fitA; simp only; rw [HF.out]; exact decide_eq_true hfit), HXY.out]
             simp only
             rw [HF.out])
           have HRV := hid hRv
           clear hfit hRv
           go_wp2
           go_quiet (fail)
           go_wp2
           go_ret2
           exact ⟨by rw [HRV.out]; rfl, (HK1.out.chain HK.out).chain (Kp.draw _ _)⟩
         · have tf : decide ((n : Int) ≤ (x : Int) + (y : Int) - (x : Int)) = false := decide_eq_false (by omega)
           have te2 : decide (n ≤ y) = false := by simp; omega
           have te3 : decide ((n : Int) ≤ (y : Int)) = false := by simp; omega
           have HN := hid (nxO_more hlt HNO.out (by rw [HXY.out]; unfold areaOf fitA; simp only; rw [HF.out]; exact decide_eq_false hfit))
           clear hfit
           go_wp2
           go_quiet (fail)
           go_wp2
           go_roundw
           case rel => exact ⟨k + 1, by omega, by go_num, HN, HK.out.chain (Kp.draw _ _)⟩
           case measure => simp [intOf]; omega
     · obtain rfl : k = L.length := by omega
       have hlt2 : decide ((L.length : Int) < (L.length : Int)) = false := decide_eq_false (by omega)
       have HR : Hid (R = (beO L (decide (po = 1)) n).map (·.1)) := HP3.out (by have := HNO.out; rw [List.take_length] at this; exact this)
       have HKS := hid HK.out
       have r2 := cell_kp HK.out k2
       go_wp2
       go_loopw [10, 11] (fun b i wr => ∃ (k : Nat) (bi : Int), k ≤ L.length ∧ i = .int .i64 (k : Int) ∧ b = .int .i64 bi ∧ Hid (BE L (decide (po = 1)) n k bi) ∧ Kp [] w1 wr) (fun _ i _ => L.length - (intOf i).toNat)
       case atStart => exact ⟨0, -1, by omega, rfl, rfl, .inl ⟨rfl, rfl⟩, HKS.out⟩
       case round =>
         rename World => ws
         obtain ⟨k, bi, hk, rfl, rfl, hbe, K⟩ := hrel
         have HBE := hid hbe
         have HQ := hid K
         have q2 := cell_kp K k2
         clear hbe K
         by_cases hlt : k < L.length
         · have hlt2 : decide ((k : Int) < (L.length : Int)) = true := decide_eq_true (by omega)
           obtain ⟨gb, hAd, s0, s1⟩ := HC.out k hlt
           subst hAd
           have t0 := cell_kp HQ.out s0
           have t1 := cell_kp HQ.out s1
           obtain ⟨x, hx⟩ : ∃ x, (L.getD k (0, 0)).1 = x := ⟨_, rfl⟩
           obtain ⟨y, hy⟩ : ∃ y, (L.getD k (0, 0)).2 = y := ⟨_, rfl⟩
           have HX := hid hx
           have HY := hid hy
           rw [hx] at t0
           rw [hy] at t1
           have hHB := HBD.out k hlt
           rw [hx, hy] at hHB
           obtain ⟨hx1, hx2⟩ := hHB
           clear s0 s1 hx hy
           by_cases hyn : y < n
           · have ty : decide ((y : Int) < (n : Int)) = true := decide_eq_true (by omega)
             have tyn : decide (y < n) = true := decide_eq_true hyn
             have HN := hid (BE.less hlt HBE.out (by rw [HY.out]; exact hyn))
             clear hyn
             go_wp2
             go_roundw
             case rel => exact ⟨k + 1, bi, by omega, by go_num, rfl, HN, HQ.out⟩
             case measure => simp [intOf]; omega
           · have ty : decide ((y : Int) < (n : Int)) = false := decide_eq_false (by omega)
             have tyn : decide (y < n) = false := decide_eq_false hyn
             have HYN : Hid (¬ (L.getD k (0, 0)).2 < n) := by show ¬ _; rw [HY.out]; exact hyn
             clear hyn
             rcases HBE.out with ⟨hb, h2⟩ | ⟨j, hb, hj, h3⟩
             · subst hb
               have HN := hid (BE.first hlt h2 HYN.out)
               clear h2
               go_wp2
               go_quiet (fail)
               go_wp2
               go_roundw
               case rel =>
                 have HF : ∃ (k' : Nat) (bi : Int), k' ≤ L.length ∧ Value.int .i64 ((k : Int) + 1) = .int .i64 (k' : Int) ∧ Value.int .i64 (k : Int) = .int .i64 bi ∧ Hid (BE L (decide (po = 1)) n k' bi) ∧ Kp [] w1 (ws.drewN nq) := ⟨k + 1, (k : Int), by omega, by go_num, rfl, HN, HQ.out.chain (Kp.draw _ _)⟩
                 first
                   | exact HF
                   | ((repeat apply Exists.intro); exact ⟨HF, rfl⟩)
               case measure => simp [intOf]; omega
             · subst hb
               have tj : decide ((j : Int) < 0) = false := decide_eq_false (by omega)
               obtain ⟨gb', hAd', s0, s1⟩ := HC.out j (by omega)
               injection hAd' with hAd'
               injection hAd' with hAd'
               subst hAd'
               have u1 := cell_kp HQ.out s1
               obtain ⟨z, hz⟩ : ∃ z, (L.getD j (0, 0)).2 = z := ⟨_, rfl⟩
               rw [hz] at u1
               have HZ := hid hz
               have hjl : j < L.length := by omega
               have HJ := hid hj
               have H3 := hid h3
               clear s0 s1 hz h3 hj
               by_cases hp1 : po = 1
               · exfalso; omega
               · have tp1 : ((po : Int) == 1) = false := beq_eq_false_iff_ne.2 (by omega)
                 have HN := hid (BE.keep hlt HJ.out H3.out HYN.out (by rw [decide_eq_false hp1]; simp))
                 go_wp2
                 go_quiet (fail)
                 go_wp2
                 go_roundw
                 case rel =>
                   have HF : ∃ (k' : Nat) (bi : Int), k' ≤ L.length ∧ Value.int .i64 ((k : Int) + 1) = .int .i64 (k' : Int) ∧ Value.int .i64 (j : Int) = .int .i64 bi ∧ Hid (BE L (decide (po = 1)) n k' bi) ∧ Kp [] w1 (ws.drewN nq) := ⟨k + 1, (j : Int), by omega, by go_num, rfl, HN, HQ.out.chain (Kp.draw _ _)⟩
                   first
                     | exact HF
                     | ((repeat apply Exists.intro); exact ⟨HF, rfl⟩)
                 case measure => simp [intOf]; omega
         · obtain rfl : k = L.length := by omega
           have hlt2 : decide ((L.length : Int) < (L.length : Int)) = false := decide_eq_false (by omega)
           rcases HBE.out with ⟨hb, h2⟩ | ⟨j, hb, hj, h3⟩
           · subst hb
             rw [List.take_length] at h2
             have hRv : R = none := by rw [HR.out, h2]; rfl
             have HRV := hid hRv
             clear h2 hRv
             go_wp2
             go_ret2
             exact ⟨by rw [HRV.out]; rfl, HK1.out.chain HQ.out⟩
           · subst hb
             have tj : decide ((j : Int) < 0) = false := decide_eq_false (by omega)
             obtain ⟨gb, hAd, s0, s1⟩ := HC.out j hj
             subst hAd
             have u0 := cell_kp HQ.out s0
             rw [List.take_length] at h3
             have hRv : R = some (L.getD j (0, 0)).1 := by rw [HR.out, h3]; rfl
             generalize (L.getD j (0, 0)).1 = x at u0 hRv
             have HRV := hid hRv
             clear h3 s0 s1 hRv
             go_wp2
             go_ret2
             exact ⟨by rw [HRV.out]; rfl, HK1.out.chain HQ.out⟩
 · have tp : ((po : Int) == 2) = false := beq_eq_false_iff_ne.2 (by omega)
   have HR : Hid (R = (beO L (decide (po = 1)) n).map (·.1)) := by show _ = _; rw [hRR, if_neg hp2]
   clear hRR
   go_enter Tryz.func171, Tryz.ntmps171
   go_wp2_with (go_at_call 182; refine HG.out.mono ?_; rintro e w1 ⟨Ad, cap, rfl, hra, K1⟩; have HC := hid hra; have HK1 := hid K1; have k2 := cell_kp K1 j2; clear hra K1)
   go_loopw [10, 11] (fun b i wr => ∃ (k : Nat) (bi : Int), k ≤ L.length ∧ i = .int .i64 (k : Int) ∧ b = .int .i64 bi ∧ Hid (BE L (decide (po = 1)) n k bi) ∧ Kp [] w1 wr) (fun _ i _ => L.length - (intOf i).toNat)
   case atStart => exact ⟨0, -1, by omega, rfl, rfl, .inl ⟨rfl, rfl⟩, Kp.refl _ _⟩
   case round =>
     rename World => wr
     obtain ⟨k, bi, hk, rfl, rfl, hbe, K⟩ := hrel
     have HBE := hid hbe
     have HK := hid K
     have r2 := cell_kp K k2
     clear hbe K
     by_cases hlt : k < L.length
     · have hlt2 : decide ((k : Int) < (L.length : Int)) = true := decide_eq_true (by omega)
       obtain ⟨gb, hAd, s0, s1⟩ := HC.out k hlt
       subst hAd
       have t0 := cell_kp HK.out s0
       have t1 := cell_kp HK.out s1
       obtain ⟨x, hx⟩ : ∃ x, (L.getD k (0, 0)).1 = x := ⟨_, rfl⟩
       obtain ⟨y, hy⟩ : ∃ y, (L.getD k (0, 0)).2 = y := ⟨_, rfl⟩
       have HX := hid hx
       have HY := hid hy
       rw [hx] at t0
       rw [hy] at t1
       have hHB := HBD.out k hlt
       rw [hx, hy] at hHB
       obtain ⟨hx1, hx2⟩ := hHB
       clear s0 s1 hx hy
       by_cases hyn : y < n
       · have ty : decide ((y : Int) < (n : Int)) = true := decide_eq_true (by omega)
         have tyn : decide (y < n) = true := decide_eq_true hyn
         have HN := hid (BE.less hlt HBE.out (by rw [HY.out]; exact hyn))
         clear hyn
         go_wp2
         go_roundw
         case rel => exact ⟨k + 1, bi, by omega, by go_num, rfl, HN, HK.out⟩
         case measure => simp [intOf]; omega
       · have ty : decide ((y : Int) < (n : Int)) = false := decide_eq_false (by omega)
         have tyn : decide (y < n) = false := decide_eq_false hyn
         have HYN : Hid (¬ (L.getD k (0, 0)).2 < n) := by show ¬ _; rw [HY.out]; exact hyn
         clear hyn
         rcases HBE.out with ⟨hb, h2⟩ | ⟨j, hb, hj, h3⟩
         · subst hb
           have HN := hid (BE.first hlt h2 HYN.out)
           clear h2
           go_wp2
           go_quiet (fail)
           go_wp2
           go_roundw
           case rel =>
             have HF : ∃ (k' : Nat) (bi : Int), k' ≤ L.length ∧ Value.int .i64 ((k : Int) + 1) = .int .i64 (k' : Int) ∧ Value.int .i64 (k : Int) = .int .i64 bi ∧ Hid (BE L (decide (po = 1)) n k' bi) ∧ Kp [] w1 (wr.drewN nq) := ⟨k + 1, (k : Int), by omega, by go_num, rfl, HN, HK.out.chain (Kp.draw _ _)⟩
             first
               | exact HF
               | ((repeat apply Exists.intro); exact ⟨HF, rfl⟩)
           case measure => simp [intOf]; omega
         · subst hb
           have tj : decide ((j : Int) < 0) = false := decide_eq_false (by omega)
           obtain ⟨gb', hAd', s0, s1⟩ := HC.out j (by omega)
           injection hAd' with hAd'
           injection hAd' with hAd'
           subst hAd'
           have u1 := cell_kp HK.out s1
           obtain ⟨z, hz⟩ : ∃ z, (L.getD j (0, 0)).2 = z := ⟨_, rfl⟩
           rw [hz] at u1
           have HZ := hid hz
           have hjl : j < L.length := by omega
           have HJ := hid hj
           have H3 := hid h3
           clear s0 s1 hz h3 hj
           by_cases hp1 : po = 1
           · have tp1 : ((po : Int) == 1) = true := beq_iff_eq.2 (by omega)
             by_cases hyz : y < z
             · have tyz : decide ((y : Int) < (z : Int)) = true := decide_eq_true (by omega)
               have tyzn : decide (y < z) = true := decide_eq_true hyz
               have HN := hid (BE.swap hlt H3.out HYN.out ⟨decide_eq_true hp1, by rw [HY.out, HZ.out]; exact hyz⟩)
               clear hyz hp1
               go_wp2
               go_quiet (fail)
               go_wp2
               go_roundw
               case rel =>
                 have HF : ∃ (k' : Nat) (bi : Int), k' ≤ L.length ∧ Value.int .i64 ((k : Int) + 1) = .int .i64 (k' : Int) ∧ Value.int .i64 (k : Int) = .int .i64 bi ∧ Hid (BE L (decide (po = 1)) n k' bi) ∧ Kp [] w1 (wr.drewN nq) := ⟨k + 1, (k : Int), by omega, by go_num, rfl, HN, HK.out.chain (Kp.draw _ _)⟩
                 first
                   | exact HF
                   | ((repeat apply Exists.intro); exact ⟨HF, rfl⟩)
               case measure => simp [intOf]; omega
             · have tyz : decide ((y : Int) < (z : Int)) = false := decide_eq_false (by omega)
               have tyzn : decide (y < z) = false := decide_eq_false hyz
               have HN := hid (BE.keep hlt HJ.out H3.out HYN.out (by rw [HY.out, HZ.out]; exact fun h => hyz h.2))
               clear hyz hp1
               go_wp2
               go_quiet (fail)
               go_wp2
               go_roundw
               case rel =>
                 have HF : ∃ (k' : Nat) (bi : Int), k' ≤ L.length ∧ Value.int .i64 ((k : Int) + 1) = .int .i64 (k' : Int) ∧ Value.int .i64 (j : Int) = .int .i64 bi ∧ Hid (BE L (decide (po = 1)) n k' bi) ∧ Kp [] w1 (wr.drewN nq) := ⟨k + 1, (j : Int), by omega, by go_num, rfl, HN, HK.out.chain (Kp.draw _ _)⟩
                 first
                   | exact HF
                   | ((repeat apply Exists.intro); exact ⟨HF, rfl⟩)
               case measure => simp [intOf]; omega
           · have tp1 : ((po : Int) == 1) = false := beq_eq_false_iff_ne.2 (by omega)
             have HN := hid (BE.keep hlt HJ.out H3.out HYN.out (by rw [decide_eq_false hp1]; simp))
             go_wp2
             go_quiet (fail)
             go_wp2
             go_roundw
             case rel =>
               have HF : ∃ (k' : Nat) (bi : Int), k' ≤ L.length ∧ Value.int .i64 ((k : Int) + 1) = .int .i64 (k' : Int) ∧ Value.int .i64 (j : Int) = .int .i64 bi ∧ Hid (BE L (decide (po = 1)) n k' bi) ∧ Kp [] w1 (wr.drewN nq) := ⟨k + 1, (j : Int), by omega, by go_num, rfl, HN, HK.out.chain (Kp.draw _ _)⟩
               first
                 | exact HF
                 | ((repeat apply Exists.intro); exact ⟨HF, rfl⟩)
             case measure => simp [intOf]; omega
     · obtain rfl : k = L.length := by omega
       have hlt2 : decide ((L.length : Int) < (L.length : Int)) = false := decide_eq_false (by omega)
       rcases HBE.out with ⟨hb, h2⟩ | ⟨j, hb, hj, h3⟩
       · subst hb
         rw [List.take_length] at h2
         have hRv : R = none := by rw [HR.out, h2]; rfl
         have HRV := hid hRv
         clear h2 hRv
         go_wp2
         go_ret2
         exact ⟨by rw [HRV.out]; rfl, HK1.out.chain HK.out⟩
       · subst hb
         have tj : decide ((j : Int) < 0) = false := decide_eq_false (by omega)
         obtain ⟨gb, hAd, s0, s1⟩ := HC.out j hj
         subst hAd
         have u0 := cell_kp HK.out s0
         rw [List.take_length] at h3
         have hRv : R = some (L.getD j (0, 0)).1 := by rw [HR.out, h3]; rfl
         generalize (L.getD j (0, 0)).1 = x at u0 hRv
         have HRV := hid hRv
         clear h3 s0 s1 hRv
         go_wp2
         go_ret2
         exact ⟨by rw [HRV.out]; rfl, HK1.out.chain HK.out⟩
end
end Go.Proofs.YthndilllnneijaaGreat
