/-
  The law's Play, act by act. Conditions: those that stand in each theorem.
-/
import Derived.BigQuiet
import Derived.Deep.RegionHeld3
import Derived.Test.YthndilllnneijaaGreatPG15
import Derived.Test.YthndilllnneijaaGreatPDx
import Derived.Test.YthndilllnneijaaGreatPG17
import Derived.Test.YthndilllnneijaaGreatPGE
import Derived.Test.YthndilllnneijaaGreatPG7
import Derived.Test.YthndilllnneijaaGreatPG6
import Derived.Test.YthndilllnneijaaGreatPG9
import Derived.Test.YthndilllnneijaaGreatPG12
import Derived.Test.YthndilllnneijaaGreatPG10
import Derived.Test.YthndilllnneijaaGreatPG16
import Derived.Test.YthndilllnneijaaGreatPG8
set_option linter.unusedSimpArgs false
set_option linter.unusedVariables false
set_option maxRecDepth 100000
set_option maxHeartbeats 2000000
namespace Go.Proofs.YthndilllnneijaaGreat
open Go.RowKit Go.Deep Go.Maps
section
variable {w w' w0 w1 w2 : World} {b : HB} {d : DB} {m m' : HM} {q p q1 p1 : Nat}
end
section
variable {w w' w0 w1 w2 : World} {b : HB} {d : DB} {m m' : HM} {q p q1 p1 : Nat}
end
section
variable {w w' : World} {b : HB} {d : DB} {m m' : HM} {q p : Nat}
theorem Tl.bl (t : m.Tl) (h : m'.bl = m.bl) : m'.Tl := fun j hj => by
 unfold HM.st at hj ⊢
 rw [h] at hj ⊢
 exact t j hj
theorem Tl.claim (t : m.Tl) (x n s : Int) {st : Nat} (hst : st = 2 ∨ (st = 1 ∧ n = 1)) : (m.claimM x n s st).Tl := by
 unfold HM.claimM
 split
 · rename_i he
   unfold HM.claimE at he
   split at he
   · rename_i ok
     unfold claimOk at ok
     simp only [Bool.and_eq_true] at ok
     obtain ⟨⟨h1, h2⟩, _⟩ := ok
     have h1 := of_decide_eq_true h1
     have h2 := of_decide_eq_true h2
     unfold takenE at he
     split at he
     · rename_i hf
       have hf := freeB_true.1 hf
       have G := fun j => claimL_get (bl := m.bl) (b := x.toNat) (n := n.toNat) (s := s.toNat) (st := st) (by omega) (by omega) j
       intro j hj
       unfold HM.st at hj ⊢
       have hj : ((claimL m.bl x.toNat n.toNat s.toNat st).getD (j + 1) (0, 0)).1 = 3 := hj
       show ((claimL m.bl x.toNat n.toNat s.toNat st).getD j (0, 0)).1 = 2 ∨ ((claimL m.bl x.toNat n.toNat s.toNat st).getD j (0, 0)).1 = 3
       rw [G] at hj ⊢
       by_cases c1 : j + 1 = x.toNat
       · rw [if_pos c1] at hj
         have hj : st = 3 := hj
         omega
       · rw [if_neg c1] at hj
         by_cases c2 : x.toNat ≤ j + 1 ∧ j + 1 < x.toNat + n.toNat
         · by_cases c3 : j = x.toNat
           · rw [if_pos c3]
             show st = 2 ∨ st = 3
             omega
           · rw [if_neg c3, if_pos (by omega)]
             exact .inr rfl
         · rw [if_neg c2] at hj
           have h0 := t j hj
           by_cases c4 : x.toNat ≤ j ∧ j < x.toNat + n.toNat
           · have := hf (j - x.toNat) (by omega)
             rw [show x.toNat + (j - x.toNat) = j by omega] at this
             omega
           · rw [if_neg (by omega), if_neg c4]
             exact h0
     · exact absurd he (by decide)
   · exact absurd he (by decide)
 · exact t
theorem Tl.release (t : m.Tl) (i : Int) : (m.releaseM i).Tl := by
 unfold HM.releaseM
 split
 · rename_i he
   unfold HM.releaseE at he
   split at he
   · rename_i hb
     have hb := of_decide_eq_true hb
     obtain ⟨e1, e2, e3, e4⟩ := (grpEnd_iff m.bl i.toNat (grpEnd m.bl i.toNat) (by omega)).1 rfl
     have G := fun j => rangeL_get m.bl i.toNat (0, 0) (grpEnd m.bl i.toNat - i.toNat) j (by omega)
     intro j hj
     unfold HM.st at hj ⊢
     have hj : ((rangeL m.bl i.toNat (0, 0) (grpEnd m.bl i.toNat - i.toNat)).getD (j + 1) (0, 0)).1 = 3 := hj
     show ((rangeL m.bl i.toNat (0, 0) (grpEnd m.bl i.toNat - i.toNat)).getD j (0, 0)).1 = 2 ∨ ((rangeL m.bl i.toNat (0, 0) (grpEnd m.bl i.toNat - i.toNat)).getD j (0, 0)).1 = 3
     rw [G] at hj ⊢
     by_cases c : i.toNat ≤ j + 1 ∧ j + 1 < i.toNat + (grpEnd m.bl i.toNat - i.toNat)
     · rw [if_pos c] at hj
       exact absurd hj (by decide)
     · rw [if_neg c] at hj
       have h0 := t j hj
       by_cases c2 : i.toNat ≤ j ∧ j < i.toNat + (grpEnd m.bl i.toNat - i.toNat)
       · have hje : j + 1 = grpEnd m.bl i.toNat := by omega
         rw [hje] at hj
         rcases Nat.lt_or_ge (grpEnd m.bl i.toNat) m.bl.length with h | h
         · exact absurd hj (e4 h)
         · rw [List.getD_eq_getElem?_getD, List.getElem?_eq_none h] at hj
           exact absurd hj (by decide)
       · rw [if_neg c2]
         exact h0
   · exact absurd he (by decide)
 · exact t
theorem Tl.retag (t : m.Tl) (i s : Int) : (m.retagM i s).Tl := by
 unfold HM.retagM
 split
 · rename_i he
   unfold HM.retagE at he
   split at he
   · rename_i hb
     have hb := of_decide_eq_true hb
     obtain ⟨e1, e2, e3, e4⟩ := (grpEnd_iff m.bl i.toNat (grpEnd m.bl i.toNat) (by omega)).1 rfl
     have G : ∀ j, ((spaceL m.bl i.toNat s.toNat (grpEnd m.bl i.toNat - i.toNat)).getD j (0, 0)).1 = (m.bl.getD j (0, 0)).1 := fun j => by
       rw [spaceL_get m.bl i.toNat s.toNat (grpEnd m.bl i.toNat - i.toNat) j (by omega)]
       split <;> rfl
     intro j hj
     unfold HM.st at hj ⊢
     have hj : ((spaceL m.bl i.toNat s.toNat (grpEnd m.bl i.toNat - i.toNat)).getD (j + 1) (0, 0)).1 = 3 := hj
     show ((spaceL m.bl i.toNat s.toNat (grpEnd m.bl i.toNat - i.toNat)).getD j (0, 0)).1 = 2 ∨ ((spaceL m.bl i.toNat s.toNat (grpEnd m.bl i.toNat - i.toNat)).getD j (0, 0)).1 = 3
     rw [G] at hj ⊢
     exact t j hj
   · exact absurd he (by decide)
 · exact t
theorem Tl.place (t : m.Tl) (a x dd k : Int) : (m.placeM a x dd k).Tl := Tl.bl t (by unfold HM.placeM; split <;> rfl)
theorem Tl.kill (t : m.Tl) (a : Int) : (m.killM a).Tl := Tl.bl t (by unfold HM.killM; split <;> rfl)
theorem Tl.pin (t : m.Tl) (a : Int) (z : Bool) : (m.pinM a z).Tl := Tl.bl t (by unfold HM.pinM; split <;> first | rfl | (split <;> rfl))
theorem Tl.new (n : Nat) : (HM.new n).Tl := fun j hj => by
 unfold HM.st at hj
 have hj : ((List.replicate n ((0, 0) : Nat × Nat)).getD (j + 1) (0, 0)).1 = 3 := hj
 rw [bl_zero] at hj
 exact absurd hj (by decide)
end
section
variable {w w' : World} {b : HB} {r : RM} {m : HM} {q : Nat}
theorem h_ident_ob (h : SH w b q m) {a : Nat} {o : Ob} (ho : m.ob a = some o) :
   Calls Tryz.prog 34 #[.pointer (some ⟨b.g, 0, none⟩), .int .i64 (a : Int)] w fun e w' => e = .returned (.tuple #[.int .i64 (o.id : Int), .int .i64 0]) ∧ ∃ n, w' = w.drewN n := by
 have h0 := h
 obtain ⟨r, R, A, _⟩ := h
 have hhi := A.inv.hi ho
 have hw := (A.inv.ok _ _ ho).wd_bd
 have hwl := A.wl R
 have hnb := A.inv.n_bd
 have hc1 := R.c1
 have hx := R.word (k := a) (by omega)
 rw [A.w0 ho] at hx
 have hal : (a : Int) < (r.ws.length : Int) := by omega
 have HE : Hid (m.lackE (a : Int) = 0) := by show _ = _; simp [HM.lackE, has_of ho]
 have HW : Hid (W64 (a : Int)) := ⟨by omega, by omega⟩
 clear A ho hw
 go_enter Tryz.func34, Tryz.ntmps34
 go_wp2_with (go_at_call 112; refine (h_check h0 _ HW.out).mono ?_; rintro e w' ⟨rfl, n1, rfl⟩; rw [HE.out])
 go_ret2
 exact ⟨rfl, _, rfl⟩
theorem h_ident_a (h : SH w b q m) (a : Int) (ha : W64 a) :
   Calls Tryz.prog 34 #[.pointer (some ⟨b.g, 0, none⟩), .int .i64 a] w fun e w' => e = .returned (.tuple #[.int .i64 (m.identV a), .int .i64 (m.lackE a)]) ∧ ∃ n, w' = w.drewN n := by
 rcases hb : m.has a
 · have e1 : m.identV a = 0 := by simp [HM.identV, hb]
   have e2 : m.lackE a = 4 := by simp [HM.lackE, hb]
   have HE := hid e2
   have HW := hid ha
   rw [e1, e2]
   clear hb e1 e2
   go_enter Tryz.func34, Tryz.ntmps34
   go_wp2_with (go_at_call 112; refine (h_check h _ HW.out).mono ?_; rintro e w' ⟨rfl, n1, rfl⟩; rw [HE.out])
   go_ret2
   exact ⟨rfl, _, rfl⟩
 · obtain ⟨k, o, rfl, ho⟩ := has_nat hb
   have e1 : m.identV (k : Int) = (o.id : Int) := by simp [HM.identV, hb, ho]
   have e2 : m.lackE (k : Int) = 0 := by simp [HM.lackE, hb]
   rw [e1, e2]
   exact h_ident_ob h ho
theorem h_shape_a (h : SH w b q m) (a : Int) (ha : W64 a) :
   Calls Tryz.prog 35 #[.pointer (some ⟨b.g, 0, none⟩), .int .i64 a] w fun e w' => e = .returned (.tuple #[.agg #[.int .i64 (m.shR a), .int .i64 (m.shD a), .int .i64 (m.shK a)], .int .i64 (m.lackE a)]) ∧ Kp [] w w' := by
 rcases hb : m.has a
 · have e1 : m.shR a = 0 := by simp [HM.shR, hb]
   have e2 : m.shD a = 0 := by simp [HM.shD, hb]
   have e3 : m.shK a = 0 := by simp [HM.shK, hb]
   have e4 : m.lackE a = 4 := by simp [HM.lackE, hb]
   have HE := hid e4
   have HW := hid ha
   rw [e1, e2, e3, e4]
   have K0 := hid (Kp.new w (.cells #[.int .i64 0, .int .i64 0, .int .i64 0] 33))
   have B0 := hid (Blk.new w 33 #[.int .i64 0, .int .i64 0, .int .i64 0])
   clear hb e1 e2 e3 e4
   go_enter Tryz.func35, Tryz.ntmps35
   go_wp2_with (go_at_call 112; refine (h_check (h.kp0 K0.out) _ HW.out).mono ?_; rintro e w2 ⟨rfl, h2⟩; rw [HE.out]; have K2 := Kp.of_drewN h2; have HK := hid (K0.out.chain K2); have B2 := B0.out.kp K2 (by simp); have c0 := B2.cell 0; have c1 := B2.cell 1; have c2 := B2.cell 2; have f0 := B2.frozen 0; have f1 := B2.frozen 1; have f2 := B2.frozen 2; have HB2 := hid B2; clear B2 K2 h2)
   have hB9 := ((HB2.out.set_ 0 (.int .i64 0)).set_ 1 (.int .i64 0)).set_ 2 (.int .i64 0)
   have hK9 : Kp [] w (((w2.setCell ⟨w.heap.size, 0, none⟩ (.int .i64 0)).setCell ⟨w.heap.size, 1, none⟩ (.int .i64 0)).setCell ⟨w.heap.size, 2, none⟩ (.int .i64 0)) :=
     (((HK.out.trans (Kp.cell _ ⟨w.heap.size, 0, none⟩ _) (U := []) (by simp) (by simp)).trans (Kp.cell _ ⟨w.heap.size, 1, none⟩ _) (U := []) (by simp) (by simp)).trans (Kp.cell _ ⟨w.heap.size, 2, none⟩ _) (U := []) (by simp) (by simp))
   generalize (((w2.setCell ⟨w.heap.size, 0, none⟩ (.int .i64 0)).setCell ⟨w.heap.size, 1, none⟩ (.int .i64 0)).setCell ⟨w.heap.size, 2, none⟩ (.int .i64 0)) = W9 at hB9 hK9 ⊢
   have q0 : W9.cell? ⟨w.heap.size, 0, none⟩ = some (.int .i64 0) := hB9.cell 0
   have q1 : W9.cell? ⟨w.heap.size, 1, none⟩ = some (.int .i64 0) := hB9.cell 1
   have q2 : W9.cell? ⟨w.heap.size, 2, none⟩ = some (.int .i64 0) := hB9.cell 2
   refine bodyPost_ret (v := .tuple #[.agg #[.int .i64 0, .int .i64 0, .int .i64 0], .int .i64 4]) ?_ rfl ⟨rfl, hK9⟩
   simp [results, Tryz.results35, q0, q1, q2, go_sem]
 · obtain ⟨k, o, rfl, ho⟩ := has_nat hb
   have e1 : m.shR (k : Int) = (o.refs : Int) := by simp [HM.shR, hb, ho]
   have e2 : m.shD (k : Int) = (o.data : Int) := by simp [HM.shD, hb, ho]
   have e3 : m.shK (k : Int) = (o.kind : Int) := by simp [HM.shK, hb, ho]
   have e4 : m.lackE (k : Int) = 0 := by simp [HM.lackE, hb]
   rw [e1, e2, e3, e4]
   exact h_shape_ob h ho
end
section
variable {w w' W : World} {b : HB} {d : DB} {m : HM} {q p : Nat}
theorem sh_nat (I : m.Inv) (n : Int) : ∃ r dd : Nat, m.shR n = (r : Int) ∧ m.shD n = (dd : Int) ∧ r ≤ 15 ∧ dd ≤ 200 := by
 unfold HM.shR HM.shD
 rcases hb : m.has n
 · exact ⟨0, 0, by simp, by simp, by omega, by omega⟩
 · obtain ⟨k, o, rfl, ho⟩ := has_nat hb
   have := (I.ok _ _ ho).bd
   exact ⟨o.refs, o.data, by simp [ho], by simp [ho], this.1, this.2.1⟩
theorem looks (S : SH w b q m) (T : DR w d p m) (n : Int) (hn : W64 n) (hp : p ≤ 1000000000) :
   Calls Tryz.prog 95 #[.pointer (some ⟨b.g, 0, none⟩), .pointer (some ⟨d.g, 0, none⟩), .int .i64 n] w fun e w' => e = .returned (.bool true) ∧ Kp [] w w' := by
 obtain ⟨r, dd, hr, hd, hr1, hd1⟩ := sh_nat T.inv n
 have HS := hid S
 have HT := hid T
 have HN := hid hn
 have HP := hid hp
 have HR := hid hr
 have HD := hid hd
 obtain ⟨e0, he0⟩ : ∃ e0 : Int, (if inB m.n n then (0 : Int) else 1) = e0 := ⟨_, rfl⟩
 have HE0 := hid he0
 clear S T hn hp hr hd he0
 go_enter Tryz.func95, Tryz.ntmps95
 go_wp2_with (first
   | (go_at_call 46; refine (h_word HS.out n).mono ?_; rintro e w1 ⟨rfl, h1⟩; have HK1 := hid (Kp.of_drewN h1); rw [HE0.out]; clear h1)
   | (go_at_call 155; refine (d_wordAt (HT.out.kp0 HK1.out) n).mono ?_; rintro e w2 ⟨rfl, h2⟩; have HK2 := hid (HK1.out.chain (h2)); rw [HE0.out]; clear h2)
   | (go_at_call 143; refine (h_has (HS.out.kp0 HK2.out) n HN.out).mono ?_; rintro e w3 ⟨rfl, h3⟩; have HK3 := hid (HK2.out.chain (Kp.of_drewN h3)); clear h3)
   | (go_at_call 144; refine (d_has (HT.out.kp0 HK3.out) n).mono ?_; rintro e w4 ⟨rfl, h4⟩; have HK4 := hid (HK3.out.chain (Kp.of_drewN h4)); clear h4)
   | (go_at_call 123; refine (h_pinned (HS.out.kp0 HK4.out) n HN.out).mono ?_; rintro e w5 ⟨rfl, h5⟩; have HK5 := hid (HK4.out.chain (Kp.of_drewN h5)); clear h5)
   | (go_at_call 156; refine (d_pinned (HT.out.kp0 HK5.out) n).mono ?_; rintro e w6 ⟨rfl, h6⟩; have HK6 := hid (HK5.out.chain (Kp.of_drewN h6)); clear h6)
   | (go_at_call 157; refine (h_find (HS.out.kp0 HK6.out) n HN.out).mono ?_; rintro e w7 ⟨rfl, h7⟩; have HK7 := hid (HK6.out.chain (Kp.of_drewN h7)); clear h7)
   | (go_at_call 148; refine (d_find (HT.out.kp0 HK7.out) n HN.out).mono ?_; rintro e w8 ⟨rfl, h8⟩; have HK8 := hid (HK7.out.chain (h8)); clear h8)
   | (go_at_call 48; refine (h_forward (HS.out.kp0 HK8.out) n HN.out).mono ?_; rintro e w9 ⟨rfl, h9⟩; have HK9 := hid (HK8.out.chain (Kp.of_drewN h9)); clear h9)
   | (go_at_call 158; refine (d_forward (HT.out.kp0 HK9.out) n HP.out).mono ?_; rintro e w10 ⟨rfl, h10⟩; have HK10 := hid (HK9.out.chain (Kp.of_drewN h10)); clear h10)
   | (go_at_call 34; refine (h_ident_a (HS.out.kp0 HK10.out) n HN.out).mono ?_; rintro e w11 ⟨rfl, h11⟩; have HK11 := hid (HK10.out.chain (Kp.of_drewN h11)); clear h11)
   | (go_at_call 159; refine (d_ident (HT.out.kp0 HK11.out) n).mono ?_; rintro e w12 ⟨rfl, h12⟩; have HK12 := hid (HK11.out.chain (h12)); clear h12)
   | (go_at_call 35; refine (h_shape_a (HS.out.kp0 HK12.out) n HN.out).mono ?_; rintro e w13 ⟨rfl, h13⟩; have HK13 := hid (HK12.out.chain (h13)); rw [HR.out, HD.out]; have HK13b := hid (HK13.out.chain (Kp.new w13 (.cells #[.int .i64 (r : Int), .int .i64 (dd : Int), .int .i64 (m.shK n)] 33))); have B1 := hid (Blk.new w13 33 #[.int .i64 (r : Int), .int .i64 (dd : Int), .int .i64 (m.shK n)]); clear h13)
   | (go_at_call 160; refine (d_shape (HT.out.kp0 HK13b.out) n).mono ?_; rintro e w14 ⟨rfl, h14⟩; have HK14 := hid (HK13b.out.chain (h14)); rw [HR.out, HD.out]; have hb1 := (B1.out.kp h14 (by simp)).kp (Kp.new w14 (.cells #[.int .i64 (r : Int), .int .i64 (dd : Int), .int .i64 (m.shK n)] 33)) (by simp); have b0 := hb1.cell 0; have b1 := hb1.cell 1; have b2 := hb1.cell 2; clear hb1; have B2 := hid (Blk.new w14 33 #[.int .i64 (r : Int), .int .i64 (dd : Int), .int .i64 (m.shK n)]); have HKE := hid (HK14.out.chain (Kp.new w14 (.cells #[.int .i64 (r : Int), .int .i64 (dd : Int), .int .i64 (m.shK n)] 33))); clear h14))
 clear b0 b1 b2
 generalize hW : w14.alloc (.cells #[.int .i64 (r : Int), .int .i64 (dd : Int), .int .i64 (m.shK n)] 33) = W at B2 HKE ⊢
 generalize w14.heap.size = gb at B2 ⊢
 clear hW
 go_loopw [7, 8, 9, 10, 13] (fun _ _ _ _ c wr => ∃ k : Nat, k ≤ r + 2 ∧ c = .int .i64 ((k : Int) - 1) ∧ Kp [] W wr) (fun _ _ _ _ c _ => r + 2 - (intOf c + 1).toNat)
 case atStart => exact ⟨0, by omega, by first | rfl | go_num, Kp.refl _ _⟩
 case round =>
   obtain ⟨k, hk, rfl, K⟩ := hrel
   have HK := hid K
   have c0 := (B2.out.kp K (by simp)).cell 0
   have HKW := hid (HKE.out.chain K)
   clear K
   by_cases hlt : k < r + 2
   · have e1 : decide ((k : Int) - 1 ≤ (r : Int)) = true := decide_eq_true (by omega)
     go_wp2_with (first
       | (go_at_call 161; refine (h_ref (HS.out.kp0 HKW.out) n _ HN.out).mono ?_; rintro e w16 ⟨rfl, h16⟩; have HK16 := hid (HKW.out.chain h16); have HJ16 := hid (HK.out.chain h16); clear h16)
       | (go_at_call 162; refine (d_ref (HT.out.kp0 HK16.out) n _).mono ?_; rintro e w17 ⟨rfl, h17⟩; have HJ17 := hid (HJ16.out.chain h17); clear h17))
     go_roundw
     case rel => exact ⟨k + 1, by omega, by go_num, HJ17.out⟩
     case measure => simp [intOf]; omega
   · obtain rfl : k = r + 2 := by omega
     have e1 : decide ((((r + 2 : Nat) : Int)) - 1 ≤ (r : Int)) = false := decide_eq_false (by omega)
     go_wp2
     rename World => w8
     go_loopw [7, 8, 9, 10, 14] (fun _ _ _ _ c wr => ∃ k : Nat, k ≤ dd + 2 ∧ c = .int .i64 ((k : Int) - 1) ∧ Kp [] W wr) (fun _ _ _ _ c _ => dd + 2 - (intOf c + 1).toNat)
     case atStart => exact ⟨0, by omega, by first | rfl | go_num, HK.out⟩
     case round =>
       obtain ⟨k, hk, rfl, K⟩ := hrel
       have HK9 := hid K
       have c1 := (B2.out.kp K (by simp)).cell 1
       have HKV := hid (HKE.out.chain K)
       clear K
       by_cases hlt : k < dd + 2
       · have e1 : decide ((k : Int) - 1 ≤ (dd : Int)) = true := decide_eq_true (by omega)
         go_wp2_with (first
           | (go_at_call 163; refine (h_data (HS.out.kp0 HKV.out) n _ HN.out).mono ?_; rintro e w16 ⟨rfl, h16⟩; have HK16 := hid (HKV.out.chain h16); have HJ16 := hid (HK9.out.chain h16); clear h16)
           | (go_at_call 164; refine (d_data (HT.out.kp0 HK16.out) n _).mono ?_; rintro e w17 ⟨rfl, h17⟩; have HJ17 := hid (HJ16.out.chain h17); clear h17))
         go_roundw
         case rel =>
           ((repeat apply Exists.intro); exact ⟨⟨k + 1, by omega, by go_num, HJ17.out⟩, rfl⟩)
         case measure => simp [intOf]; omega
       · obtain rfl : k = dd + 2 := by omega
         have e1 : decide ((((dd + 2 : Nat) : Int)) - 1 ≤ (dd : Int)) = false := decide_eq_false (by omega)
         go_wp2
         go_ret
         exact ⟨rfl, HKV.out⟩
end
end Go.Proofs.YthndilllnneijaaGreat
