/-
  The law AllocNone, walked. Conditions: those that stand in each theorem.
-/
import Derived.Test.YtkkmlllajfafcaaPJ6
namespace Go.Proofs.Ytkkmlllajfafcaa
set_option linter.unusedVariables false
set_option linter.unusedSimpArgs false
open Go.RowKit Go.Deep Go.Maps

section
variable {w W V : World}
theorem LH.step2 {b : HB} {m : HM} {q : Nat} (u : LH w W b q m) (K : Kp [] w V) (KW : Kp [] W V) : LH w V b q m := ⟨u.sh.k0 KW, K, u.hb⟩
set_option maxRecDepth 100000 in
set_option maxHeartbeats 4000000 in
theorem none_ok (x d k s p : Int) :
    Calls Try.prog 3 #[.agg #[.int .i64 x, .int .i64 d, .int .i64 k], .int .i64 s, .int .i64 p] w fun e w' => e = .returned (.bool true) ∧ Below w.heap.size w w' := by
  obtain ⟨w0, hw0⟩ : ∃ w0, w0 = ((w.alloc (.cells #[.int .i64 x, .int .i64 d, .int .i64 k] 23)).alloc (.cells #[.pointer none, .int .i64 0, .int .i64 0, .int .i64 0, .int .i64 0, .int .i64 0, .int .i64 0] 33)).alloc (.cells #[.slice none 0 0, .slice none 0 0, .pointer none, .pointer none, .map none, .map none, .int .i64 0] 39) := ⟨_, rfl⟩
  have K0 : Kp [] w w0 := by rw [hw0]; exact ((Kp.new _ _).chain (Kp.new _ _)).chain (Kp.new _ _)
  have B3 : Blk w0 w.heap.size 23 #[.int .i64 x, .int .i64 d, .int .i64 k] := by
    rw [hw0]
    exact ((Blk.new w 23 _).kp (Kp.new _ _) (by simp)).kp (Kp.new _ _) (by simp)
  have B8 : Blk w0 (w.heap.size + 1) 33 #[.pointer none, .int .i64 0, .int .i64 0, .int .i64 0, .int .i64 0, .int .i64 0, .int .i64 0] := by
    rw [hw0]
    have := (Blk.new (w.alloc (.cells #[.int .i64 x, .int .i64 d, .int .i64 k] 23)) 33 #[.pointer none, .int .i64 0, .int .i64 0, .int .i64 0, .int .i64 0, .int .i64 0, .int .i64 0]).kp (Kp.new _ (.cells #[.slice none 0 0, .slice none 0 0, .pointer none, .pointer none, .map none, .map none, .int .i64 0] 39)) (by simp)
    simpa using this
  have B9 : Blk w0 (w.heap.size + 1 + 1) 39 #[.slice none 0 0, .slice none 0 0, .pointer none, .pointer none, .map none, .map none, .int .i64 0] := by
    rw [hw0]
    have := Blk.new ((w.alloc (.cells #[.int .i64 x, .int .i64 d, .int .i64 k] 23)).alloc (.cells #[.pointer none, .int .i64 0, .int .i64 0, .int .i64 0, .int .i64 0, .int .i64 0, .int .i64 0] 33)) 39 #[.slice none 0 0, .slice none 0 0, .pointer none, .pointer none, .map none, .map none, .int .i64 0]
    simpa using this
  have HC : Hid (∀ V, Kp [] w0 V → V.cell? ⟨w.heap.size, 0, none⟩ = some (.int .i64 x) ∧ V.cell? ⟨w.heap.size, 1, none⟩ = some (.int .i64 d) ∧ V.cell? ⟨w.heap.size, 2, none⟩ = some (.int .i64 k)) := fun V K => ⟨(B3.kp K (by simp)).cell 0, (B3.kp K (by simp)).cell 1, (B3.kp K (by simp)).cell 2⟩
  have HZA : Hid (∀ V, Kp [] w0 V → NoA V (.pointer (some ⟨w.heap.size + 1, 0, none⟩))) := fun V K => .inr ⟨_, rfl, (B8.kp K (by simp)).cell 0⟩
  have HZH : Hid (∀ V, Kp [] w0 V → NoH V (.pointer (some ⟨w.heap.size + 1 + 1, 0, none⟩))) := fun V K => .inr ⟨_, rfl, (B9.kp K (by simp)).cell 0⟩
  have HK0 := hid K0
  have HW := hid hw0
  clear K0 B3 B8 B9 hw0
  go_enter Try.func3, Try.ntmps3
  go_wp2_with (fail)
  rw [← HW.out]
  refine (LH.start (w := w0) 2 w0 (by omega) (by omega) (Kp.refl [] w0)).mono ?_
  rintro e w1 ⟨b1, rfl, U1⟩
  have HU1 := hid U1
  have HK1 := hid U1.kp
  obtain ⟨c0, c1, c2⟩ := HC.out _ U1.kp
  clear U1
  go_wp2_with (first
    | (go_at_call 6; refine (na_alloc (HZA.out _ HK2.out) x d k).mono ?_; rintro e w3 ⟨rfl, K3⟩; have HK3 := hid (HK2.out.chain K3); have HQ3 := hid (HQ2.out.chain K3); clear K3)
    | (go_at_call 6; refine (na_alloc (.inl rfl) x d k).mono ?_; rintro e w2 ⟨rfl, K2⟩; have HK2 := hid (HK1.out.chain K2); have HQ2 := hid K2; obtain ⟨d0, d1, d2⟩ := HC.out _ (HK1.out.chain K2); clear K2)
    | (go_at_call 7; refine (na_reset (HZA.out _ HK4.out)).mono ?_; rintro e w5 ⟨rfl, K5⟩; have HK5 := hid (HK4.out.chain K5); have HQ5 := hid (HQ4.out.chain K5); clear K5)
    | (go_at_call 7; refine (na_reset (.inl rfl)).mono ?_; rintro e w4 ⟨rfl, K4⟩; have HK4 := hid (HK3.out.chain K4); have HQ4 := hid (HQ3.out.chain K4); clear K4)
    | (go_at_call 8; refine ((LH.step2 HU1.out HK9.out HQ9.out).new 0 0 (by omega) (by omega)).mono ?_; rintro e w10 ⟨g1, rfl, U10⟩; have HU10 := hid U10; have HK10 := hid U10.kp; clear U10)
    | (go_at_call 8; refine (nh_new (HZH.out _ HK6.out) s p).mono ?_; rintro e w7 ⟨rfl, K7⟩; have HK7 := hid (HK6.out.chain K7); have HQ7 := hid (HQ6.out.chain K7); clear K7)
    | (go_at_call 8; refine (nh_new (.inl rfl) s p).mono ?_; rintro e w6 ⟨rfl, K6⟩; have HK6 := hid (HK5.out.chain K6); have HQ6 := hid (HQ5.out.chain K6); clear K6)
    | (go_at_call 9; refine (nh_clone (HU10.out.al.kp HK1310.out (by simp)) (HZH.out _ HK13.out)).mono ?_; rintro e w14 ⟨rfl, K14⟩; have HK14 := hid (HK13.out.chain K14); clear K14)
    | (go_at_call 9; refine (nh_clone (HU10.out.al.kp HK1210.out (by simp)) (.inl rfl)).mono ?_; rintro e w13 ⟨rfl, K13⟩; have HK13 := hid (HK12.out.chain K13); have HK1310 := hid (HK1210.out.chain K13); clear K13)
    | (go_at_call 9; refine (na_clone (HZA.out _ HK8.out)).mono ?_; rintro e w9 ⟨rfl, K9⟩; have HK9 := hid (HK8.out.chain K9); have HQ9 := hid (HQ8.out.chain K9); clear K9)
    | (go_at_call 9; refine (na_clone (.inl rfl)).mono ?_; rintro e w8 ⟨rfl, K8⟩; have HK8 := hid (HK7.out.chain K8); have HQ8 := hid (HQ7.out.chain K8); clear K8)
    | (go_at_call 10; refine (na_cursors (HZA.out _ HK11.out)).mono ?_; rintro e w12 ⟨rfl, K12⟩; have HK12 := hid (HK11.out.chain K12); have HK1210 := hid (HK1110.out.chain K12); clear K12)
    | (go_at_call 10; refine (na_cursors (.inl rfl)).mono ?_; rintro e w11 ⟨rfl, K11⟩; have HK11 := hid (HK10.out.chain K11); have HK1110 := hid K11; clear K11)
    | (go_at_call 11; refine (al_alive _).mono ?_; rintro e w15 ⟨rfl, K15⟩; have HK15 := hid (HK14.out.chain K15); clear K15))
  go_ret
  exact ⟨rfl, (HK0.out.chain HK15.out).below (Nat.le_refl _) (by simp)⟩
end
end Go.Proofs.Ytkkmlllajfafcaa
