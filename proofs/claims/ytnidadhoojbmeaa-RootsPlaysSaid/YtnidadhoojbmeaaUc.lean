/-
  The laws' Same, at roots and the document's in one state. Conditions: those that stand in each theorem.
-/
import Derived.Test.YtnidadhoojbmeaaSr
import Derived.Test.YtnidadhoojbmeaaTa
import Derived.Test.YtnidadhoojbmeaaSj
import Derived.Test.YtnidadhoojbmeaaSf
namespace Go.Proofs.Ytnidadhoojbmeaa
set_option linter.unusedVariables false
set_option linter.unusedSimpArgs false
open Go.RowKit Go.Deep Go.Maps

/-- Roots and the document's, in one state; only new blocks since w. -/
structure S2 (w : World) (b : RB) (tb : TB) (t : RT) (W : World) : Prop where
  rr : RR W b t
  tr : TR W tb t
  kp : Kp [] w W
section
variable {w0 w w' W V : World} {b : RB} {tb : TB} {t : RT}
theorem S2.step (h : S2 w b tb t W) (k : Kp [] W V) : S2 w b tb t V := ⟨h.rr.kp0 k, h.tr.kp0 k, h.kp.chain k⟩
set_option maxRecDepth 100000 in
set_option maxHeartbeats 4000000 in
theorem same_ok (R : RR w b t) (T : TR w tb t) (hd : t.Wd) :
    Calls Try.prog 12 #[.pointer (some ⟨b.g, 0, none⟩), .pointer (some ⟨tb.g, 0, none⟩)] w (TrueP w) := by
  have H0 : Hid (S2 w b tb t w) := ⟨R, T, Kp.refl _ _⟩
  have HOK := hid R.ok
  have HXL := hid (xs_le R.ok)
  have HEL := every_le R.ok
  have HW : Hid (∀ p ∈ t.xs, W64 (t.get (p.k : Int) (p.m : Int) (p.i : Int))) := fun p _ => hd.get _ _ _
  clear R T hd
  go_enter Try.func12, Try.ntmps12
  go_wp2_with (fail)
  refine (r_mutators H0.out.rr).mono ?_
  rintro e w1 ⟨rfl, n1, rfl⟩
  have H1 := hid (H0.out.step (Kp.draw _ n1))
  go_wp2_with (fail)
  refine (t_mutators H1.out.tr).mono ?_
  rintro e w2 ⟨rfl, n2, rfl⟩
  have H2 := hid (H0.out.step (Kp.draw w (n1 + n2)))
  go_wp2_with (fail)
  refine (r_places H2.out.rr).mono ?_
  rintro e w3 ⟨v3, rfl, own3, bel3⟩
  have H3 := hid (H2.out.step (Kp.of_below bel3))
  have HA3 := hid (IsPl.of_own own3)
  clear own3 bel3
  go_wp2_with (fail)
  refine (t_places H3.out.tr).mono ?_
  rintro e w4 ⟨v4, rfl, own4, bel4⟩
  have H4 := hid (H3.out.step (Kp.of_below bel4))
  have HA4 := hid (IsPl.of_own own4)
  have HB3 := hid (HA3.out.kp0 (Kp.of_below bel4))
  clear own4 bel4
  go_wp2_with (fail)
  refine (places_same HB3.out HA4.out (by have := HXL.out; omega)).mono ?_
  rintro e w5 ⟨rfl, n5, rfl⟩
  have H5 := hid (H4.out.step (Kp.draw _ n5))
  go_wp2_with (fail)
  refine (r_leads H5.out.rr HW.out).mono ?_
  rintro e w6 ⟨v6, rfl, own6, bel6⟩
  have H6 := hid (H5.out.step (Kp.of_below bel6))
  have HA6 := hid (IsI.of_own own6)
  clear own6 bel6
  go_wp2_with (fail)
  refine (t_leads H6.out.tr).mono ?_
  rintro e w7 ⟨v7, rfl, own7, bel7⟩
  have H7 := hid (H6.out.step (Kp.of_below bel7))
  have HA7 := hid (IsI.of_own own7)
  have HB6 := hid (HA6.out.kp0 (Kp.of_below bel7))
  clear own7 bel7
  go_wp2_with (fail)
  refine (ints_same HB6.out HA7.out).mono ?_
  rintro e w8 ⟨rfl, n8, rfl⟩
  have H8 := hid (H7.out.step (Kp.draw _ n8))
  go_wp2_with (fail)
  refine (r_queue H8.out.rr).mono ?_
  rintro e w9 ⟨v9, rfl, own9, bel9⟩
  have H9 := hid (H8.out.step (Kp.of_below bel9))
  have HA9 := hid (IsI.of_own own9)
  clear own9 bel9
  go_wp2_with (fail)
  refine (t_queue H9.out.tr).mono ?_
  rintro e w10 ⟨v10, rfl, own10, bel10⟩
  have H10 := hid (H9.out.step (Kp.of_below bel10))
  have HA10 := hid (IsI.of_own own10)
  have HB9 := hid (HA9.out.kp0 (Kp.of_below bel10))
  clear own10 bel10
  go_wp2_with (fail)
  refine (ints_same HB9.out HA10.out).mono ?_
  rintro e w11 ⟨rfl, n11, rfl⟩
  have H11 := hid (H10.out.step (Kp.draw _ n11))
  go_wp2_with (fail)
  refine (t_every H11.out.tr).mono ?_
  rintro e w12 ⟨v12, rfl, own12, bel12⟩
  have H12 := hid (H11.out.step (Kp.of_below bel12))
  obtain ⟨A, cap, rfl, _, hA⟩ := IsPl.of_own own12
  have HA := hid hA
  clear own12 bel12 hA
  go_wp2
  go_loopw [6, 7, 8, 9, 10] (fun c _ _ _ _ wr => ∃ k : Nat, k ≤ t.every.length ∧ c = .int .i64 (k : Int) ∧ Kp [] w12 wr) (fun c _ _ _ _ _ => t.every.length - (intOf c).toNat)
  case atStart => exact ⟨0, by omega, rfl, Kp.refl _ _⟩
  case round =>
    obtain ⟨k, hk, rfl, kn⟩ := hrel
    have HS := hid (H12.out.step kn)
    have HKN := hid kn
    by_cases hlt : k < t.every.length
    · obtain ⟨g, rfl, q0, q1, q2⟩ := HA.out k hlt
      generalize t.every.getD k ⟨0, 0, 0⟩ = p at q0 q1 q2
      have d0 := cell_kp kn q0
      have d1 := cell_kp kn q1
      have d2 := cell_kp kn q2
      have hg := r_get HS.out.rr (p.k : Int) (p.m : Int) (p.i : Int)
      have HG := hid hg
      clear hg kn q0 q1 q2
      generalize hx : t.getV (p.k : Int) (p.m : Int) (p.i : Int) = x at HG
      generalize hy : t.getE (p.k : Int) (p.m : Int) (p.i : Int) = y at HG
      have HX := hid hx
      have HY := hid hy
      clear hx hy
      go_wp2_with (fail)
      refine HG.out.mono ?_
      rintro e w13 ⟨rfl, k13⟩
      have HS13 := hid (HS.out.step k13)
      have HK13 := hid (HKN.out.chain k13)
      have e0 := cell_kp k13 d0
      have e1 := cell_kp k13 d1
      have e2 := cell_kp k13 d2
      have hg := t_getp HS13.out.tr (p.k : Int) (p.m : Int) (p.i : Int)
      rw [HX.out, HY.out] at hg
      have HG2 := hid hg
      clear hg k13 d0 d1 d2
      go_wp2_with (fail)
      refine HG2.out.mono ?_
      rintro e w14 ⟨rfl, k14⟩
      have HK14 := hid (HK13.out.chain k14)
      clear k14 e0 e1 e2
      go_wp2
      go_roundw
      case rel => exact ⟨k + 1, by omega, by go_num, HK14.out⟩
      case measure => simp [intOf]; omega
    · obtain rfl : k = t.every.length := by omega
      clear kn
      go_wp2
      go_ret
      exact ⟨rfl, HS.out.kp⟩
end
end Go.Proofs.Ytnidadhoojbmeaa
