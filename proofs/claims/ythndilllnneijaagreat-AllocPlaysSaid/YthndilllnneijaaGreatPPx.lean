/-
  AllocPlays: whatever is called, an allocator returns what the chapter says, and it and its heap are in the state that it says: for every input the law returns true, and its arguments read as they did. No condition.
-/
import Derived.Test.YthndilllnneijaaGreatPGPY
import Derived.Test.YthndilllnneijaaGreatPGOL
set_option linter.unusedVariables false
set_option maxRecDepth 100000
set_option maxHeartbeats 1000000
namespace Go.Proofs.YthndilllnneijaaGreat.allocPlays
open Go.ChangeShapes Go.WideShapes Go.ChangeAt Go.RowKit
theorem lifted (os : Os) (started : os.Started) (H : Type) (enc : TypeId × Value → H) :
   ReturnsInHanded {} Tryz.checked os 4 .any (Rows.allocPlaysSpec.pre6 enc Tryz.prog Tryz.f4 Rows.allocPlaysRow.domain false) (Rows.allocPlaysSpec.post enc Tryz.prog Tryz.f4 false true false false) := by
 refine returnsInHanded_of_change (C := Tryz.checked) own started (by kernel_rfl) Tryz.func4
   (ChangeSpec.witness6 (enc := enc) (C := Tryz.checked) false ⟨#[], #[.int .i64 0, .int .i64 0, .int .i64 0, .slice none 0 0], []⟩ 8 (by kernel_rfl) (by kernel_rfl) (by kernel_rfl) (by kernel_rfl)) ?_
 intro W base args ds gs before hval0 hW hcnd _
 have hval : ∀ (j : Nat) t v, Tryz.f4.params[j]? = some t → args[j]? = some v → Value.okWide Tryz.prog W .any base t v := hval0
 have hW' := hW
 obtain ⟨p, q, hA0, hV, rfl, hfz, hnd⟩ := hW
 have hA : DataW.TrodAll enc Tryz.prog W 0 (fun _ => true) true Tryz.f4.params.toList args.toList ds p := hA0
 rw [Tryz.params4] at hA hval
 obtain ⟨v0, vs0, d0, ds0, p0, q0, hargs, rfl, rfl, h0, r0⟩ := trodAll_cons hA
 obtain ⟨v1, vs1, d1, ds1, p1, q1, rfl, rfl, rfl, h1, r1⟩ := trodAll_cons r0
 obtain ⟨v2, vs2, d2, ds2, p2, q2, rfl, rfl, rfl, h2, r2⟩ := trodAll_cons r1
 obtain ⟨v3, vs3, d3, ds3, p3, q3, rfl, rfl, rfl, h3, r3⟩ := trodAll_cons r2
 obtain ⟨rfl, rfl, rfl⟩ := trodAll_nil r3
 obtain rfl : args = #[v0, v1, v2, v3] := by cases args; simp_all
 obtain ⟨rfl, rfl⟩ := trodVars_none hV
 obtain ⟨x0, rfl, l0, u0⟩ := int_shape (hval 0 3 v0 rfl rfl) h0
 obtain ⟨x1, rfl, l1, u1⟩ := int_shape (hval 1 3 v1 rfl rfl) h1
 obtain ⟨x2, rfl, l2, u2⟩ := int_shape (hval 2 3 v2 rfl rfl) h2
 obtain ⟨A3, n3, m3, rfl, H3⟩ := qacts_shape (hval 3 41 v3 rfl rfl) h3
 clear hA0 hval0
 refine (al_plays x0 x1 x2 A3 n3 m3 H3).mono fun e W' ⟨he, bel⟩ => ?_
 subst he
 exact ⟨_, rfl, post_law laidOut hW' rfl (by kernel_rfl) (by kernel_rfl) Tryz.underlying4 ⟨rfl, rfl, rfl⟩ (by kernel_rfl) (bel.below (Nat.le_refl _) (by simp))⟩
theorem proved : Rows.AllocPlaysSaid :=
 OpenClaim.holds_of_wide 4 Tryz.f4 rfl rfl rfl rfl rfl rfl rfl ⟨rfl, rfl, rfl, rfl, rfl⟩ rfl rfl rfl rfl rfl (by kernel_rfl) Tryz.func4 (by kernel_rfl)
   (of_decide_eq_true (by kernel_rfl)) (by unfold Func.isWrapper; first | (rw [if_pos (by decide +kernel)]; kernel_rfl) | (rw [if_neg (by decide +kernel)]; exact ⟨rfl, rfl⟩))
   (fun os started H enc _ => lifted os started H enc)
#print axioms proved
end Go.Proofs.YthndilllnneijaaGreat.allocPlays
