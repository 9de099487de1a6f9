/-
  The contract of the laws' do: a call, whichever. Conditions: those that stand in each theorem.
-/
import Derived.Test.YtplgbpmldjngoaaHz
import Derived.Test.YtplgbpmldjngoaaHv
import Derived.Test.YtplgbpmldjngoaaIa
import Derived.Test.YtplgbpmldjngoaaIb
namespace Go.Proofs.Ytplgbpmldjngoaa
set_option linter.unusedVariables false
set_option linter.unusedSimpArgs false
open Go.RowKit Go.Deep Go.Maps

section
variable {w w' : World} {b : HB} {r : RM} {m : HM} {q : Nat}
def DoP (w : World) (b : HB) (q : Nat) (E : Int) (M : HM) (e : Ending) (w' : World) : Prop := e = .returned (.int .i64 E) ∧ SH w' b (q + 2) M ∧ Kp b.all w w'
set_option maxRecDepth 100000 in
set_option maxHeartbeats 2000000 in
theorem do_0 (h : SH w b q m) (a b' c x d k : Int) (ha : W64 a) (hb : W64 b') (hc : W64 c) (hq : q ≤ 900000000) :
    Calls Try.prog 33 #[.pointer (some ⟨b.g, 0, none⟩), .agg #[.int .i64 0, .int .i64 a, .int .i64 b', .int .i64 c, .int .i64 x, .int .i64 d, .int .i64 k]] w (DoP w b q (m.claimE a 1 b') (m.claimM a 1 b' 1)) := by
  have HA := hid ha
  have HB := hid hb
  have HC := hid hc
  have K0 := hid (Kp.new w (.cells #[.int .i64 0, .int .i64 a, .int .i64 b', .int .i64 c, .int .i64 x, .int .i64 d, .int .i64 k] 55))
  clear ha hb hc
  go_enter Try.func33, Try.ntmps33
  go_wp2_with (go_at_call 55; refine (h_Claim (h.kp0 (by first | exact K0.out | exact K0.out.drewN _)) a b').mono ?_; rintro e w2 ⟨rfl, S2, K2⟩; have HS := hid S2; have HK := hid (Kp.chain0 (by first | exact K0.out | exact K0.out.drewN _) K2); clear S2 K2)
  go_ret
  exact ⟨rfl, HS.out.mono (by omega), HK.out⟩
set_option maxRecDepth 100000 in
set_option maxHeartbeats 2000000 in
theorem do_1 (h : SH w b q m) (a b' c x d k : Int) (ha : W64 a) (hb : W64 b') (hc : W64 c) (hq : q ≤ 900000000) :
    Calls Try.prog 33 #[.pointer (some ⟨b.g, 0, none⟩), .agg #[.int .i64 1, .int .i64 a, .int .i64 b', .int .i64 c, .int .i64 x, .int .i64 d, .int .i64 k]] w (DoP w b q (m.claimE a b' c) (m.claimM a b' c 2)) := by
  have HA := hid ha
  have HB := hid hb
  have HC := hid hc
  have K0 := hid (Kp.new w (.cells #[.int .i64 1, .int .i64 a, .int .i64 b', .int .i64 c, .int .i64 x, .int .i64 d, .int .i64 k] 55))
  clear ha hb hc
  go_enter Try.func33, Try.ntmps33
  go_wp2_with (go_at_call 58; refine (h_ClaimLarge (h.kp0 (by first | exact K0.out | exact K0.out.drewN _)) a b' c).mono ?_; rintro e w2 ⟨rfl, S2, K2⟩; have HS := hid S2; have HK := hid (Kp.chain0 (by first | exact K0.out | exact K0.out.drewN _) K2); clear S2 K2)
  go_ret
  exact ⟨rfl, HS.out.mono (by omega), HK.out⟩
set_option maxRecDepth 100000 in
set_option maxHeartbeats 2000000 in
theorem do_2 (h : SH w b q m) (a b' c x d k : Int) (ha : W64 a) (hb : W64 b') (hc : W64 c) (hq : q ≤ 900000000) :
    Calls Try.prog 33 #[.pointer (some ⟨b.g, 0, none⟩), .agg #[.int .i64 2, .int .i64 a, .int .i64 b', .int .i64 c, .int .i64 x, .int .i64 d, .int .i64 k]] w (DoP w b q (m.releaseE a) (m.releaseM a)) := by
  have HA := hid ha
  have HB := hid hb
  have HC := hid hc
  have K0 := hid (Kp.new w (.cells #[.int .i64 2, .int .i64 a, .int .i64 b', .int .i64 c, .int .i64 x, .int .i64 d, .int .i64 k] 55))
  clear ha hb hc
  go_enter Try.func33, Try.ntmps33
  go_wp2_with (go_at_call 60; refine (h_release (h.kp0 (by first | exact K0.out | exact K0.out.drewN _)) a).mono ?_; rintro e w2 ⟨rfl, S2, K2⟩; have HS := hid S2; have HK := hid (Kp.chain0 (by first | exact K0.out | exact K0.out.drewN _) K2); clear S2 K2)
  go_ret
  exact ⟨rfl, HS.out.mono (by omega), HK.out⟩
set_option maxRecDepth 100000 in
set_option maxHeartbeats 2000000 in
theorem do_3 (h : SH w b q m) (a b' c x d k : Int) (ha : W64 a) (hb : W64 b') (hc : W64 c) (hq : q ≤ 900000000) :
    Calls Try.prog 33 #[.pointer (some ⟨b.g, 0, none⟩), .agg #[.int .i64 3, .int .i64 a, .int .i64 b', .int .i64 c, .int .i64 x, .int .i64 d, .int .i64 k]] w (DoP w b q (m.retagE a b') (m.retagM a b')) := by
  have HA := hid ha
  have HB := hid hb
  have HC := hid hc
  have K0 := hid (Kp.new w (.cells #[.int .i64 3, .int .i64 a, .int .i64 b', .int .i64 c, .int .i64 x, .int .i64 d, .int .i64 k] 55))
  clear ha hb hc
  go_enter Try.func33, Try.ntmps33
  go_wp2_with (go_at_call 91; refine (h_retag (h.kp0 (by first | exact K0.out | exact K0.out.drewN _)) a b').mono ?_; rintro e w2 ⟨rfl, S2, K2⟩; have HS := hid S2; have HK := hid (Kp.chain0 (by first | exact K0.out | exact K0.out.drewN _) K2); clear S2 K2)
  go_ret
  exact ⟨rfl, HS.out.mono (by omega), HK.out⟩
set_option maxRecDepth 100000 in
set_option maxHeartbeats 2000000 in
theorem do_4 (h : SH w b q m) (a b' c x d k : Int) (ha : W64 a) (hb : W64 b') (hc : W64 c) (hq : q ≤ 900000000) :
    Calls Try.prog 33 #[.pointer (some ⟨b.g, 0, none⟩), .agg #[.int .i64 4, .int .i64 a, .int .i64 b', .int .i64 c, .int .i64 x, .int .i64 d, .int .i64 k]] w (DoP w b q (m.placeE a x d k) (m.placeM a x d k)) := by
  have HA := hid ha
  have HB := hid hb
  have HC := hid hc
  have K0 := hid (Kp.new w (.cells #[.int .i64 4, .int .i64 a, .int .i64 b', .int .i64 c, .int .i64 x, .int .i64 d, .int .i64 k] 55))
  clear ha hb hc
  go_enter Try.func33, Try.ntmps33
  go_wp2_with (go_at_call 56; refine (h_place (h.kp0 (by first | exact K0.out | exact K0.out.drewN _)) a x d k HA.out hq).mono ?_; rintro e w2 ⟨rfl, S2, K2⟩; have HS := hid S2; have HK := hid (Kp.chain0 (by first | exact K0.out | exact K0.out.drewN _) K2); clear S2 K2)
  go_ret
  exact ⟨rfl, HS.out.mono (by omega), HK.out⟩
set_option maxRecDepth 100000 in
set_option maxHeartbeats 2000000 in
theorem do_5 (h : SH w b q m) (a b' c x d k : Int) (ha : W64 a) (hb : W64 b') (hc : W64 c) (hq : q ≤ 900000000) :
    Calls Try.prog 33 #[.pointer (some ⟨b.g, 0, none⟩), .agg #[.int .i64 5, .int .i64 a, .int .i64 b', .int .i64 c, .int .i64 x, .int .i64 d, .int .i64 k]] w (DoP w b q (m.lackE a) (m.killM a)) := by
  have HA := hid ha
  have HB := hid hb
  have HC := hid hc
  have K0 := hid (Kp.new w (.cells #[.int .i64 5, .int .i64 a, .int .i64 b', .int .i64 c, .int .i64 x, .int .i64 d, .int .i64 k] 55))
  clear ha hb hc
  go_enter Try.func33, Try.ntmps33
  go_wp2_with (go_at_call 59; refine (h_kill (h.kp0 (by first | exact K0.out | exact K0.out.drewN _)) a HA.out (by omega)).mono ?_; rintro e w2 ⟨rfl, S2, K2⟩; have HS := hid S2; have HK := hid (Kp.chain0 (by first | exact K0.out | exact K0.out.drewN _) K2); clear S2 K2)
  go_ret
  exact ⟨rfl, HS.out.mono (by omega), HK.out⟩
set_option maxRecDepth 100000 in
set_option maxHeartbeats 2000000 in
theorem do_6 (h : SH w b q m) (a b' c x d k : Int) (ha : W64 a) (hb : W64 b') (hc : W64 c) (hq : q ≤ 900000000) :
    Calls Try.prog 33 #[.pointer (some ⟨b.g, 0, none⟩), .agg #[.int .i64 6, .int .i64 a, .int .i64 b', .int .i64 c, .int .i64 x, .int .i64 d, .int .i64 k]] w (DoP w b q (m.moveE a b') (m.moveM a b')) := by
  have HA := hid ha
  have HB := hid hb
  have HC := hid hc
  have K0 := hid (Kp.new w (.cells #[.int .i64 6, .int .i64 a, .int .i64 b', .int .i64 c, .int .i64 x, .int .i64 d, .int .i64 k] 55))
  clear ha hb hc
  go_enter Try.func33, Try.ntmps33
  go_wp2_with (go_at_call 22; refine (h_move (h.kp0 (by first | exact K0.out | exact K0.out.drewN _)) a b' HA.out HB.out hq).mono ?_; rintro e w2 ⟨rfl, S2, K2⟩; have HS := hid S2; have HK := hid (Kp.chain0 (by first | exact K0.out | exact K0.out.drewN _) K2); clear S2 K2)
  go_ret
  exact ⟨rfl, HS.out.mono (by omega), HK.out⟩
set_option maxRecDepth 100000 in
set_option maxHeartbeats 2000000 in
theorem do_7 (h : SH w b q m) (a b' c x d k : Int) (ha : W64 a) (hb : W64 b') (hc : W64 c) (hq : q ≤ 900000000) :
    Calls Try.prog 33 #[.pointer (some ⟨b.g, 0, none⟩), .agg #[.int .i64 7, .int .i64 a, .int .i64 b', .int .i64 c, .int .i64 x, .int .i64 d, .int .i64 k]] w (DoP w b q (m.setRefE a b' c) (m.setRefM a b' c)) := by
  have HA := hid ha
  have HB := hid hb
  have HC := hid hc
  have K0 := hid (Kp.new w (.cells #[.int .i64 7, .int .i64 a, .int .i64 b', .int .i64 c, .int .i64 x, .int .i64 d, .int .i64 k] 55))
  clear ha hb hc
  go_enter Try.func33, Try.ntmps33
  go_wp2_with (go_at_call 92; refine (h_setRef (h.kp0 (by first | exact K0.out | exact K0.out.drewN _)) a b' c HA.out HC.out).mono ?_; rintro e w2 ⟨rfl, S2, K2⟩; have HS := hid S2; have HK := hid (Kp.chain0 (by first | exact K0.out | exact K0.out.drewN _) K2); clear S2 K2)
  go_ret
  exact ⟨rfl, HS.out.mono (by omega), HK.out⟩
set_option maxRecDepth 100000 in
set_option maxHeartbeats 2000000 in
theorem do_8 (h : SH w b q m) (a b' c x d k : Int) (ha : W64 a) (hb : W64 b') (hc : W64 c) (hq : q ≤ 900000000) :
    Calls Try.prog 33 #[.pointer (some ⟨b.g, 0, none⟩), .agg #[.int .i64 8, .int .i64 a, .int .i64 b', .int .i64 c, .int .i64 x, .int .i64 d, .int .i64 k]] w (DoP w b q (m.datE a b') (m.setDatM a b' c)) := by
  have HA := hid ha
  have HB := hid hb
  have HC := hid hc
  have K0 := hid (Kp.new w (.cells #[.int .i64 8, .int .i64 a, .int .i64 b', .int .i64 c, .int .i64 x, .int .i64 d, .int .i64 k] 55))
  clear ha hb hc
  go_enter Try.func33, Try.ntmps33
  go_wp2_with (go_at_call 93; refine (h_setData (h.kp0 (by first | exact K0.out | exact K0.out.drewN _)) a b' c HA.out).mono ?_; rintro e w2 ⟨rfl, S2, K2⟩; have HS := hid S2; have HK := hid (Kp.chain0 (by first | exact K0.out | exact K0.out.drewN _) K2); clear S2 K2)
  go_ret
  exact ⟨rfl, HS.out.mono (by omega), HK.out⟩
set_option maxRecDepth 100000 in
set_option maxHeartbeats 2000000 in
theorem do_9 (h : SH w b q m) (a b' c x d k : Int) (ha : W64 a) (hb : W64 b') (hc : W64 c) (hq : q ≤ 900000000) :
    Calls Try.prog 33 #[.pointer (some ⟨b.g, 0, none⟩), .agg #[.int .i64 9, .int .i64 a, .int .i64 b', .int .i64 c, .int .i64 x, .int .i64 d, .int .i64 k]] w (DoP w b q (m.pokeE a) (m.pokeM a b')) := by
  have HA := hid ha
  have HB := hid hb
  have HC := hid hc
  have K0 := hid (Kp.new w (.cells #[.int .i64 9, .int .i64 a, .int .i64 b', .int .i64 c, .int .i64 x, .int .i64 d, .int .i64 k] 55))
  clear ha hb hc
  go_enter Try.func33, Try.ntmps33
  go_wp2_with (go_at_call 94; refine (h_poke (h.kp0 (by first | exact K0.out | exact K0.out.drewN _)) a b' HA.out).mono ?_; rintro e w2 ⟨rfl, S2, K2⟩; have HS := hid S2; have HK := hid (Kp.chain0 (by first | exact K0.out | exact K0.out.drewN _) K2); clear S2 K2)
  go_ret
  exact ⟨rfl, HS.out.mono (by omega), HK.out⟩
set_option maxRecDepth 100000 in
set_option maxHeartbeats 2000000 in
theorem do_10 (h : SH w b q m) (a b' c x d k : Int) (ha : W64 a) (hb : W64 b') (hc : W64 c) (hq : q ≤ 900000000) :
    Calls Try.prog 33 #[.pointer (some ⟨b.g, 0, none⟩), .agg #[.int .i64 10, .int .i64 a, .int .i64 b', .int .i64 c, .int .i64 x, .int .i64 d, .int .i64 k]] w (DoP w b q (m.lackE a) (m.pinM a true)) := by
  have HA := hid ha
  have HB := hid hb
  have HC := hid hc
  have K0 := hid (Kp.new w (.cells #[.int .i64 10, .int .i64 a, .int .i64 b', .int .i64 c, .int .i64 x, .int .i64 d, .int .i64 k] 55))
  clear ha hb hc
  go_enter Try.func33, Try.ntmps33
  go_wp2_with (go_at_call 79; refine (h_pin (h.kp0 (by first | exact K0.out | exact K0.out.drewN _)) a HA.out).mono ?_; rintro e w2 ⟨rfl, S2, K2⟩; have HS := hid S2; have HK := hid (Kp.chain0 (by first | exact K0.out | exact K0.out.drewN _) K2); clear S2 K2)
  go_ret
  exact ⟨rfl, HS.out.mono (by omega), HK.out⟩
set_option maxRecDepth 100000 in
set_option maxHeartbeats 2000000 in
theorem do_11 (h : SH w b q m) (a b' c x d k : Int) (ha : W64 a) (hb : W64 b') (hc : W64 c) (hq : q ≤ 900000000) :
    Calls Try.prog 33 #[.pointer (some ⟨b.g, 0, none⟩), .agg #[.int .i64 11, .int .i64 a, .int .i64 b', .int .i64 c, .int .i64 x, .int .i64 d, .int .i64 k]] w (DoP w b q (m.lackE a) (m.pinM a false)) := by
  have HA := hid ha
  have HB := hid hb
  have HC := hid hc
  have K0 := hid (Kp.new w (.cells #[.int .i64 11, .int .i64 a, .int .i64 b', .int .i64 c, .int .i64 x, .int .i64 d, .int .i64 k] 55))
  clear ha hb hc
  go_enter Try.func33, Try.ntmps33
  go_wp2_with (go_at_call 95; refine (h_unpin (h.kp0 (by first | exact K0.out | exact K0.out.drewN _)) a HA.out).mono ?_; rintro e w2 ⟨rfl, S2, K2⟩; have HS := hid S2; have HK := hid (Kp.chain0 (by first | exact K0.out | exact K0.out.drewN _) K2); clear S2 K2)
  go_ret
  exact ⟨rfl, HS.out.mono (by omega), HK.out⟩
set_option maxRecDepth 100000 in
set_option maxHeartbeats 2000000 in
theorem do_12 (h : SH w b q m) (a b' c x d k : Int) (ha : W64 a) (hb : W64 b') (hc : W64 c) (hq : q ≤ 900000000) :
    Calls Try.prog 33 #[.pointer (some ⟨b.g, 0, none⟩), .agg #[.int .i64 12, .int .i64 a, .int .i64 b', .int .i64 c, .int .i64 x, .int .i64 d, .int .i64 k]] w (DoP w b q (0) (m.forgetM)) := by
  have HA := hid ha
  have HB := hid hb
  have HC := hid hc
  have K0 := hid (Kp.new w (.cells #[.int .i64 12, .int .i64 a, .int .i64 b', .int .i64 c, .int .i64 x, .int .i64 d, .int .i64 k] 55))
  clear ha hb hc
  go_enter Try.func33, Try.ntmps33
  go_wp2_with (go_at_call 96; refine (h_forget (h.kp0 (by first | exact K0.out | exact K0.out.drewN _))).mono ?_; rintro e w2 ⟨rfl, S2, K2⟩; have HS := hid S2; have HK := hid (Kp.chain0 (by first | exact K0.out | exact K0.out.drewN _) K2); clear S2 K2)
  go_ret
  exact ⟨rfl, HS.out.mono (by omega), HK.out⟩
set_option maxRecDepth 100000 in
set_option maxHeartbeats 2000000 in
theorem do_else (h : SH w b q m) (n a b' c x d k : Int) (hn : ¬ (0 ≤ n ∧ n ≤ 12)) :
    Calls Try.prog 33 #[.pointer (some ⟨b.g, 0, none⟩), .agg #[.int .i64 n, .int .i64 a, .int .i64 b', .int .i64 c, .int .i64 x, .int .i64 d, .int .i64 k]] w (DoP w b q 0 m) := by
  have e0 : (n == 0) = false := beq_eq_false_iff_ne.2 (by omega)
  have e1 : (n == 1) = false := beq_eq_false_iff_ne.2 (by omega)
  have e2 : (n == 2) = false := beq_eq_false_iff_ne.2 (by omega)
  have e3 : (n == 3) = false := beq_eq_false_iff_ne.2 (by omega)
  have e4 : (n == 4) = false := beq_eq_false_iff_ne.2 (by omega)
  have e5 : (n == 5) = false := beq_eq_false_iff_ne.2 (by omega)
  have e6 : (n == 6) = false := beq_eq_false_iff_ne.2 (by omega)
  have e7 : (n == 7) = false := beq_eq_false_iff_ne.2 (by omega)
  have e8 : (n == 8) = false := beq_eq_false_iff_ne.2 (by omega)
  have e9 : (n == 9) = false := beq_eq_false_iff_ne.2 (by omega)
  have e10 : (n == 10) = false := beq_eq_false_iff_ne.2 (by omega)
  have e11 : (n == 11) = false := beq_eq_false_iff_ne.2 (by omega)
  have e12 : (n == 12) = false := beq_eq_false_iff_ne.2 (by omega)
  have K0 := hid (Kp.new w (.cells #[.int .i64 n, .int .i64 a, .int .i64 b', .int .i64 c, .int .i64 x, .int .i64 d, .int .i64 k] 55))
  clear hn
  go_enter Try.func33, Try.ntmps33
  go_wp2
  go_ret
  exact ⟨rfl, (h.kp0 K0.out).mono (by omega), K0.out.mono (by simp)⟩
/-- A call. -/
structure ActM where
  n : Int
  a : Int
  b : Int
  c : Int
  x : Int
  d : Int
  k : Int
structure ActM.Ok (y : ActM) : Prop where
  a : W64 y.a
  b : W64 y.b
  c : W64 y.c
def ActM.val (y : ActM) : Value := .agg #[.int .i64 y.n, .int .i64 y.a, .int .i64 y.b, .int .i64 y.c, .int .i64 y.x, .int .i64 y.d, .int .i64 y.k]
def HM.doE (m : HM) (y : ActM) : Int :=
  if y.n = 0 then m.claimE y.a 1 y.b else
  if y.n = 1 then m.claimE y.a y.b y.c else
  if y.n = 2 then m.releaseE y.a else
  if y.n = 3 then m.retagE y.a y.b else
  if y.n = 4 then m.placeE y.a y.x y.d y.k else
  if y.n = 5 then m.lackE y.a else
  if y.n = 6 then m.moveE y.a y.b else
  if y.n = 7 then m.setRefE y.a y.b y.c else
  if y.n = 8 then m.datE y.a y.b else
  if y.n = 9 then m.pokeE y.a else
  if y.n = 10 then m.lackE y.a else
  if y.n = 11 then m.lackE y.a else
  if y.n = 12 then 0 else
  0
def HM.doM (m : HM) (y : ActM) : HM :=
  if y.n = 0 then m.claimM y.a 1 y.b 1 else
  if y.n = 1 then m.claimM y.a y.b y.c 2 else
  if y.n = 2 then m.releaseM y.a else
  if y.n = 3 then m.retagM y.a y.b else
  if y.n = 4 then m.placeM y.a y.x y.d y.k else
  if y.n = 5 then m.killM y.a else
  if y.n = 6 then m.moveM y.a y.b else
  if y.n = 7 then m.setRefM y.a y.b y.c else
  if y.n = 8 then m.setDatM y.a y.b y.c else
  if y.n = 9 then m.pokeM y.a y.b else
  if y.n = 10 then m.pinM y.a true else
  if y.n = 11 then m.pinM y.a false else
  if y.n = 12 then m.forgetM else
  m
set_option maxRecDepth 100000 in
theorem h_do (h : SH w b q m) (y : ActM) (hy : y.Ok) (hq : q ≤ 900000000) :
    Calls Try.prog 33 #[.pointer (some ⟨b.g, 0, none⟩), y.val] w (DoP w b q (m.doE y) (m.doM y)) := by
  obtain ⟨n, a, b', c, x, d, k⟩ := y
  have ha := hy.a
  have hb := hy.b
  have hc := hy.c
  by_cases hn : 0 ≤ n ∧ n ≤ 12
  · obtain ⟨n, rfl⟩ : ∃ i : Nat, n = (i : Int) := ⟨n.toNat, by omega⟩
    have h13 : n < 13 := by omega
    match n, h13 with
    | 0, _ => exact do_0 h a b' c x d k ha hb hc hq
    | 1, _ => exact do_1 h a b' c x d k ha hb hc hq
    | 2, _ => exact do_2 h a b' c x d k ha hb hc hq
    | 3, _ => exact do_3 h a b' c x d k ha hb hc hq
    | 4, _ => exact do_4 h a b' c x d k ha hb hc hq
    | 5, _ => exact do_5 h a b' c x d k ha hb hc hq
    | 6, _ => exact do_6 h a b' c x d k ha hb hc hq
    | 7, _ => exact do_7 h a b' c x d k ha hb hc hq
    | 8, _ => exact do_8 h a b' c x d k ha hb hc hq
    | 9, _ => exact do_9 h a b' c x d k ha hb hc hq
    | 10, _ => exact do_10 h a b' c x d k ha hb hc hq
    | 11, _ => exact do_11 h a b' c x d k ha hb hc hq
    | 12, _ => exact do_12 h a b' c x d k ha hb hc hq
  · have e : HM.doE m ⟨n, a, b', c, x, d, k⟩ = 0 ∧ HM.doM m ⟨n, a, b', c, x, d, k⟩ = m := by
      unfold HM.doE HM.doM
      simp only []
      rw [if_neg (show ¬ n = 0 by omega), if_neg (show ¬ n = 0 by omega)]
      rw [if_neg (show ¬ n = 1 by omega), if_neg (show ¬ n = 1 by omega)]
      rw [if_neg (show ¬ n = 2 by omega), if_neg (show ¬ n = 2 by omega)]
      rw [if_neg (show ¬ n = 3 by omega), if_neg (show ¬ n = 3 by omega)]
      rw [if_neg (show ¬ n = 4 by omega), if_neg (show ¬ n = 4 by omega)]
      rw [if_neg (show ¬ n = 5 by omega), if_neg (show ¬ n = 5 by omega)]
      rw [if_neg (show ¬ n = 6 by omega), if_neg (show ¬ n = 6 by omega)]
      rw [if_neg (show ¬ n = 7 by omega), if_neg (show ¬ n = 7 by omega)]
      rw [if_neg (show ¬ n = 8 by omega), if_neg (show ¬ n = 8 by omega)]
      rw [if_neg (show ¬ n = 9 by omega), if_neg (show ¬ n = 9 by omega)]
      rw [if_neg (show ¬ n = 10 by omega), if_neg (show ¬ n = 10 by omega)]
      rw [if_neg (show ¬ n = 11 by omega), if_neg (show ¬ n = 11 by omega)]
      rw [if_neg (show ¬ n = 12 by omega), if_neg (show ¬ n = 12 by omega)]
      exact ⟨rfl, rfl⟩
    rw [e.1, e.2]
    exact do_else h n a b' c x d k hn
end
end Go.Proofs.Ytplgbpmldjngoaa
