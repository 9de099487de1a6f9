/-
  The contract of package roots' Replace where it refuses. Conditions: those that stand in each theorem.
-/
import Derived.Test.YtnidadhoojbmeaaRm
namespace Go.Proofs.Ytnidadhoojbmeaa
set_option linter.unusedVariables false
set_option linter.unusedSimpArgs false
open Go.RowKit Go.Deep Go.Maps Go.Shelf
attribute [local go_sem] Oper.semAt_some

/-- Does Replace take these lists. -/
def repB (f tt : List Int) : Bool := decide (f.length = tt.length) && posB f && posB tt && risB f
section
variable {w w' : World} {b : RB} {t : RT}
set_option maxRecDepth 100000 in
set_option maxHeartbeats 4000000 in
theorem r_replace_bad (R : RR w b t) {f tt : List Int} {vf vt : Value} (hf : IsI w vf f) (ht : IsI w vt tt) (hbad : repB f tt = false) :
    Calls Try.prog 20 #[.pointer (some ⟨b.g, 0, none⟩), vf, vt] w fun e w' => e = .returned (.tuple #[.int .i64 0, .int .i64 1]) ∧ Kp [] w w' := by
  have HR := hid R
  have HF := hid hf
  have HT := hid ht
  obtain ⟨Af, cf, rfl, hf1, _⟩ := hf
  obtain ⟨At, ct, rfl, ht1, _⟩ := ht
  unfold maxLen at hf1 ht1
  clear R
  have HBAD := hid hbad
  clear hbad
  refine (callsIn_wide (n := 4)).1 ?_
  refine callsIn_of_wp_marks Try.func20 rfl trivial ?_ rfl
  simp only [Try.ntmps20, List.size_toArray, List.length_cons, List.length_nil, Nat.reduceAdd, Nat.reduceSub, Array.replicate_succ, Array.replicate_zero, List.push_toArray, List.append_toArray, List.nil_append, List.cons_append]
  have K2 : Kp [] w ((w.alloc (.cells #[.slice Af f.length cf] 34)).alloc (.cells #[.slice At tt.length ct] 34)) := (Kp.new _ _).chain (Kp.new _ _)
  have hbf2 : Blk ((w.alloc (.cells #[.slice Af f.length cf] 34)).alloc (.cells #[.slice At tt.length ct] 34)) w.heap.size 34 #[.slice Af f.length cf] := (Blk.new w 34 _).kp (Kp.new _ _) (by simp)
  have hbt2 : Blk ((w.alloc (.cells #[.slice Af f.length cf] 34)).alloc (.cells #[.slice At tt.length ct] 34)) (w.heap.size + 1) 34 #[.slice At tt.length ct] := by
    have := Blk.new (w.alloc (.cells #[.slice Af f.length cf] 34)) 34 #[.slice At tt.length ct]
    simpa using this
  have HK2 := hid K2
  have HBF2 := hid hbf2
  have HBT2 := hid hbt2
  clear K2 hbf2 hbt2
  gi_wp2
  generalize ((w.alloc (.cells #[.slice Af f.length cf] 34)).alloc (.cells #[.slice At tt.length ct] 34)) = w2 at *
  refine ⟨trivial, ?_⟩
  refine (callsIn_wide.2 (r_made (HR.out.kp0 HK2.out))).mono ?_
  rintro e w3 ⟨rfl, n1, rfl⟩
  have K3 := hid (HK2.out.drewN n1)
  have BF3 := hid (HBF2.out.kp (Kp.draw _ n1) (by simp))
  have BT3 := hid (HBT2.out.kp (Kp.draw _ n1) (by simp))
  have c3 := BF3.out.cell 0
  have d3 := BT3.out.cell 0
  generalize w2.drewN n1 = w3 at *
  by_cases hl : f.length = tt.length
  · have hne : (f.length != tt.length) = false := bne_eq_false_iff_eq.2 hl
    have hne2 : ((f.length : Int) != (tt.length : Int)) = false := bne_eq_false_iff_eq.2 (by omega)
    have HL := hid hl
    clear hl
    gi_wp2
    refine ⟨trivial, ?_⟩
    refine (callsIn_wide.2 (r_addresses (HF.out.kp0 K3.out))).mono ?_
    rcases hb3 : posB f
    · have HB3 := hid hb3
      clear hb3
      rintro e w4 ⟨rfl, KN⟩
      have K4 := hid (K3.out.chain KN)
      have BF4 := hid (BF3.out.kp KN (by simp))
      have BT4 := hid (BT3.out.kp KN (by simp))
      have c4 := BF4.out.cell 0
      have d4 := BT4.out.cell 0
      clear KN c3 d3
      gi_wp2
      repeat (refine ⟨trivial, ?_⟩; gi_wp2)
      exact ⟨_, results_tmp2 rfl _ _ _, rfl, K4.out⟩
    · have HB3 := hid hb3
      clear hb3
      rintro e w4 ⟨rfl, KN⟩
      have K4 := hid (K3.out.chain KN)
      have BF4 := hid (BF3.out.kp KN (by simp))
      have BT4 := hid (BT3.out.kp KN (by simp))
      have c4 := BF4.out.cell 0
      have d4 := BT4.out.cell 0
      clear KN c3 d3
      gi_wp2
      refine ⟨trivial, ?_⟩
      refine (callsIn_wide.2 (r_addresses (HT.out.kp0 K4.out))).mono ?_
      rcases hb4 : posB tt
      · have HB4 := hid hb4
        clear hb4
        rintro e w5 ⟨rfl, KN⟩
        have K5 := hid (K4.out.chain KN)
        have BF5 := hid (BF4.out.kp KN (by simp))
        have BT5 := hid (BT4.out.kp KN (by simp))
        have c5 := BF5.out.cell 0
        have d5 := BT5.out.cell 0
        clear KN c4 d4
        gi_wp2
        repeat (refine ⟨trivial, ?_⟩; gi_wp2)
        exact ⟨_, results_tmp2 rfl _ _ _, rfl, K5.out⟩
      · have HB4 := hid hb4
        clear hb4
        rintro e w5 ⟨rfl, KN⟩
        have K5 := hid (K4.out.chain KN)
        have BF5 := hid (BF4.out.kp KN (by simp))
        have BT5 := hid (BT4.out.kp KN (by simp))
        have c5 := BF5.out.cell 0
        have d5 := BT5.out.cell 0
        clear KN c4 d4
        gi_wp2
        refine ⟨trivial, ?_⟩
        refine (callsIn_wide.2 (r_rising (HF.out.kp0 K5.out))).mono ?_
        rcases hb5 : risB f
        · have HB5 := hid hb5
          clear hb5
          rintro e w6 ⟨rfl, KN⟩
          have K6 := hid (K5.out.chain KN)
          have BF6 := hid (BF5.out.kp KN (by simp))
          have BT6 := hid (BT5.out.kp KN (by simp))
          have c6 := BF6.out.cell 0
          have d6 := BT6.out.cell 0
          clear KN c5 d5
          gi_wp2
          repeat (refine ⟨trivial, ?_⟩; gi_wp2)
          exact ⟨_, results_tmp2 rfl _ _ _, rfl, K6.out⟩
        · have HB5 := hid hb5
          clear hb5
          exact absurd HBAD.out (by unfold repB; rw [HB3.out, HB4.out, HB5.out, decide_eq_true HL.out]; decide)
  · have hne : (f.length != tt.length) = true := bne_iff_ne.2 hl
    have hne2 : ((f.length : Int) != (tt.length : Int)) = true := bne_iff_ne.2 (by omega)
    clear hl
    gi_wp2
    repeat (refine ⟨trivial, ?_⟩; gi_wp2)
    exact ⟨_, results_tmp2 rfl _ _ _, rfl, K3.out⟩
end
end Go.Proofs.Ytnidadhoojbmeaa
