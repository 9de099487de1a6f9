/-
  AllocLines: with Lines an object of at most LineWords words is placed in the hole of the one before it, or at the beginning of a line that is not occupied, and needs at most two lines: for every input the law returns true, and its arguments read as they did. No condition.
-/
import Derived.Test.YtmkmnlmfpddjkaaGreatPOx
import Derived.Test.YtmkmnlmfpddjkaaGreatPGOL
namespace Go.Proofs.YtmkmnlmfpddjkaaGreat.allocLines
open Go.ChangeShapes Go.WideShapes Go.ChangeAt Go.RowKit
set_option linter.unusedVariables false

set_option maxRecDepth 100000 in
set_option maxHeartbeats 1000000 in
theorem lifted (os : Os) (started : os.Started) (H : Type) (enc : TypeId × Value → H) :
    ReturnsInHanded {} Tryz.checked os 7 .any (Rows.allocLinesSpec.pre6 enc Tryz.prog Tryz.f7 Rows.allocLinesRow.domain false) (Rows.allocLinesSpec.post enc Tryz.prog Tryz.f7 false true false false) := by
  refine returnsInHanded_of_change (C := Tryz.checked) own started (by kernel_rfl) Tryz.func7
    (ChangeSpec.witness6 (enc := enc) (C := Tryz.checked) false ⟨#[], #[.int .i64 0, .int .i64 0, .slice none 0 0, .agg #[.int .i64 0, .int .i64 0, .int .i64 0]], []⟩ 8 (by kernel_rfl) (by kernel_rfl) (by kernel_rfl) (by kernel_rfl)) ?_
  intro W base args ds gs before hval0 hW hcnd _
  have hval : ∀ (j : Nat) t v, Tryz.f7.params[j]? = some t → args[j]? = some v → Value.okWide Tryz.prog W .any base t v := hval0
  have hW' := hW
  obtain ⟨p, q, hA0, hV, rfl, hfz, hnd⟩ := hW
  have hA : DataW.TrodAll enc Tryz.prog W 0 (fun _ => true) true Tryz.f7.params.toList args.toList ds p := hA0
  rw [Tryz.params7] at hA hval
  obtain ⟨v0, vs0, d0, ds0, p0, q0, hargs, rfl, rfl, h0, r0⟩ := trodAll_cons hA
  obtain ⟨v1, vs1, d1, ds1, p1, q1, rfl, rfl, rfl, h1, r1⟩ := trodAll_cons r0
  obtain ⟨v2, vs2, d2, ds2, p2, q2, rfl, rfl, rfl, h2, r2⟩ := trodAll_cons r1
  obtain ⟨v3, vs3, d3, ds3, p3, q3, rfl, rfl, rfl, h3, r3⟩ := trodAll_cons r2
  obtain ⟨rfl, rfl, rfl⟩ := trodAll_nil r3
  obtain rfl : args = #[v0, v1, v2, v3] := by cases args; simp_all
  obtain ⟨rfl, rfl⟩ := trodVars_none hV
  obtain ⟨x0, rfl, l0, u0⟩ := int_shape (hval 0 3 v0 rfl rfl) h0
  obtain ⟨x1, rfl, l1, u1⟩ := int_shape (hval 1 3 v1 rfl rfl) h1
  obtain ⟨A2, n2, m2, rfl, H2⟩ := qacts_shape (hval 2 41 v2 rfl rfl) h2
  obtain ⟨a3, b3, c3, rfl, wa3, wb3, wc3⟩ := shape_shape (hval 3 33 v3 rfl rfl) h3
  clear hA0 hval0
  refine (lines_ok x0 x1 A2 n2 m2 H2 a3 b3 c3).mono fun e W' ⟨he, bel⟩ => ?_
  subst he
  exact ⟨_, rfl, post_law laidOut hW' rfl (by kernel_rfl) (by kernel_rfl) Tryz.underlying4 ⟨rfl, rfl, rfl⟩ (by kernel_rfl) (bel.below (Nat.le_refl _) (by simp))⟩

theorem proved : Rows.AllocLinesSaid :=
  OpenClaim.holds_of_wide 7 Tryz.f7 rfl rfl rfl rfl rfl rfl rfl ⟨rfl, rfl, rfl, rfl, rfl⟩ rfl rfl rfl rfl rfl (by kernel_rfl) Tryz.func7 (by kernel_rfl)
    (of_decide_eq_true (by kernel_rfl)) (by unfold Func.isWrapper; first | (rw [if_pos (by decide +kernel)]; kernel_rfl) | (rw [if_neg (by decide +kernel)]; exact ⟨rfl, rfl⟩))
    (fun os started H enc _ => lifted os started H enc)
#print axioms proved
end Go.Proofs.YtmkmnlmfpddjkaaGreat.allocLines
