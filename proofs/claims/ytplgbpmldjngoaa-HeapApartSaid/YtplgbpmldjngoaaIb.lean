/-
  The contract of package heap's Forget. Conditions: those that stand in the theorem.
-/
import Derived.Test.YtplgbpmldjngoaaHs
namespace Go.Proofs.Ytplgbpmldjngoaa
set_option linter.unusedVariables false
set_option linter.unusedSimpArgs false
open Go.RowKit Go.Deep Go.Maps

def HM.forgetM (m : HM) : HM := { m with fw := fun _ => none, fn := 0 }
theorem own_clear {w : World} {bm q : Nat} {D : DataW Unit} (h : w.ownsMap Try.prog 3 (plainElem Try.prog 3) bm q D) (n : Nat) :
    ∃ F : TypeId → World, ∀ ty, (Builtin.clear_ #[99] ty #[.map (some bm)]).run Try.prog (w.drewN n) = .ok (.tuple #[]) (F ty) ∧ (F ty).ownsMap Try.prog 3 (plainElem Try.prog 3) bm q (DataW.map [] : DataW Unit) ∧ Kp [bm] w (F ty) := by
  have hx : ∀ ty, ∃ w', (Builtin.clear_ #[99] ty #[.map (some bm)]).run Try.prog (w.drewN n) = .ok (.tuple #[]) w' ∧ w'.ownsMap Try.prog 3 (plainElem Try.prog 3) bm q (DataW.map [] : DataW Unit) ∧ Kp [bm] w w' := fun ty => by
    obtain ⟨es, clock, hb, F, hs, hD⟩ := (show (w.drewN n).ownsMap Try.prog 3 (plainElem Try.prog 3) bm q D from h)
    obtain ⟨w', hrun⟩ : ∃ w', (Builtin.clear_ #[99] ty #[.map (some bm)]).run Try.prog (w.drewN n) = .ok (.tuple #[]) w' := by
      simp [Builtin.clear_, run_underlying Try.underlying99, MapKept.run_getObj_map hb, MapKept.run_setObj_map _ hb, Result.andThen]
    refine ⟨w', hrun, ?_⟩
    simp [Builtin.clear_, run_underlying Try.underlying99, MapKept.run_getObj_map hb, MapKept.run_setObj_map _ hb, Result.andThen] at hrun
    subst hrun
    refine ⟨⟨#[], _, (MapKept.heap_set hb).1, ⟨by simp, MapKept.stamped_empty _, by simp⟩, Nat.zero_le _, rfl⟩, ?_⟩
    exact (Kp.of_turned ⟨es, clock, #[], _, hb, rfl⟩).from_drewN
  exact ⟨fun ty => Classical.choose (hx ty), fun ty => Classical.choose_spec (hx ty)⟩
section
variable {w w' : World} {b : HB} {r : RM} {m : HM} {q : Nat}
theorem HM.Inv.forget (I : m.Inv) : m.forgetM.Inv := ⟨I.len2, I.len64, I.b0, I.free0, I.even, I.ok, I.idb, I.lie, I.apart, I.ids⟩
theorem Abs.forget (A : Abs r m) : Abs { r with Df := .map [] } m.forgetM := by
  refine ⟨A.inv.forget, A.bl, A.born, ⟨A.rep.w_ob, A.rep.w_gap, A.rep.p_ob, A.rep.p_in, A.rep.p_gap, A.rep.n_ob, A.rep.n_gap⟩, A.dp, ?_, rfl⟩
  intro i _ _
  have e : m.forgetM.fwI i = none := by unfold HM.fwI HM.forgetM; split <;> rfl
  rw [e]
  exact ⟨rfl, fun v hv => by cases hv⟩
set_option maxHeartbeats 2000000 in
theorem h_forget (h : SH w b q m) :
    Calls Try.prog 96 #[.pointer (some ⟨b.g, 0, none⟩)] w fun e w' => e = .returned (.int .i64 (m.fn : Int)) ∧ SH w' b q m.forgetM ∧ Kp b.all w w' := by
  have h0 := h
  obtain ⟨r, R, A, hq1, hq2⟩ := h
  have HA := hid A
  have HR := hid R
  have hfs := A.fs
  clear A
  go_enter Try.func96, Try.ntmps96
  go_wp2_with (fail)
  refine h0.made.mono ?_
  rintro e w1 ⟨rfl, n1, rfl⟩
  have hc := (R.drewN n1).c5
  have hl : ∀ ty, (Builtin.len_ #[99] ty #[.map (some b.mf)]).run Try.prog (w.drewN n1) = .ok (.int .i64 (m.fn : Int)) (w.drewN n1) := fun ty => by
    rw [← hfs]
    exact (R.drewN n1).MF.len Try.underlying99 ty
  obtain ⟨F, hF⟩ := own_clear R.MF n1
  have hcl : ∀ ty, (Builtin.clear_ #[99] ty #[.map (some b.mf)]).run Try.prog (w.drewN n1) = .ok (.tuple #[]) (F ty) := fun ty => (hF ty).1
  have HF : Hid (∀ ty, SH (F ty) b q m.forgetM ∧ Kp b.all w (F ty)) := fun ty => ⟨⟨_, HR.out.setMF (hF ty).2.1 (Nat.le_refl _) (hF ty).2.2, HA.out.forget, hq1, hq2⟩, (hF ty).2.2.all b (by simp [HB.all])⟩
  clear hF R hfs
  go_wp2
  go_ret
  exact ⟨rfl, HF.out _⟩
end
end Go.Proofs.Ytplgbpmldjngoaa
