/-
  The contract of package roots' Clone. Conditions: those that stand in each theorem.
-/
import Derived.Test.YtnidadhoojbmeaaTf
namespace Go.Proofs.Ytnidadhoojbmeaa
set_option linter.unusedVariables false
set_option linter.unusedSimpArgs false
open Go.RowKit Go.Deep Go.Maps

/-- A queue of the call's own. -/
def ClonedQ (w : World) (q : List Int) (e : Ending) (w' : World) : Prop :=
  ∃ A c, e = .returned (.slice A q.length c) ∧ w'.ownsRow w.heap.size 3 1 (.slice A q.length c) q.length (zcells q) ∧ Below w.heap.size w w'
theorem own_slice {w : World} {B n z : Nat} {e : TypeId} {v : Value} {xs : List Value} (h : w.ownsRow B e z v n xs) : ∃ A c, v = .slice A n c := by
  rcases h.2 with ⟨hv, h0⟩ | ⟨g, cap, cur, hv, _⟩
  · exact ⟨none, 0, by rw [hv, h0]⟩
  · exact ⟨_, _, hv⟩
/-- New roots, as the old ones are. -/
def ClonedR (w : World) (t : RT) (e : Ending) (w' : World) : Prop :=
  ∃ c : RB, e = .returned (.pointer (some ⟨c.g, 0, none⟩)) ∧ RR w' c t ∧ Kp [] w w' ∧ ∀ x ∈ c.all, w.heap.size ≤ x
/-- What is carried along. -/
structure CR (w W : World) (b : RB) (t : RT) : Prop where
  rr : RR W b t
  dr : Kp [] w W
section
variable {w w' W V : World} {b : RB} {t : RT}
theorem CR.stepK (u : CR w W b t) (k : Kp [] W V) : CR w V b t := ⟨u.rr.kp0 k, u.dr.chain k⟩
theorem CR.rg (u : CR w W b t) : W.rangeAt b.g 1 (zcells t.gl) := fun j v hv => by
  have hj := (List.getElem?_eq_some_iff.1 hv).1
  rw [zcells_length, u.rr.ok.gl] at hj
  rw [u.rr.cg hj, ← hv]
  simp [zcells, u.rr.ok.gl, hj]
theorem sixteen_of {l : List Int} (h : l.length = 16) : ∃ a0 a1 a2 a3 a4 a5 a6 a7 a8 a9 a10 a11 a12 a13 a14 a15, l = [a0, a1, a2, a3, a4, a5, a6, a7, a8, a9, a10, a11, a12, a13, a14, a15] := by
  match l, h with
  | [a0, a1, a2, a3, a4, a5, a6, a7, a8, a9, a10, a11, a12, a13, a14, a15], _ => exact ⟨a0, a1, a2, a3, a4, a5, a6, a7, a8, a9, a10, a11, a12, a13, a14, a15, rfl⟩
theorem CR.rg16 (u : CR w W b t) {a0 a1 a2 a3 a4 a5 a6 a7 a8 a9 a10 a11 a12 a13 a14 a15 : Int} (h : t.gl = [a0, a1, a2, a3, a4, a5, a6, a7, a8, a9, a10, a11, a12, a13, a14, a15]) : W.rangeAt b.g 1 [.int .i64 a0, .int .i64 a1, .int .i64 a2, .int .i64 a3, .int .i64 a4, .int .i64 a5, .int .i64 a6, .int .i64 a7, .int .i64 a8, .int .i64 a9, .int .i64 a10, .int .i64 a11, .int .i64 a12, .int .i64 a13, .int .i64 a14, .int .i64 a15] := by
  have := u.rg
  rw [h] at this
  exact this
theorem clone_q (R : RR w b t) : Calls Try.prog 25 #[b.qv] w (ClonedQ w t.qu) := by
  have hql := R.ok.qu
  rcases R.q_form with ⟨hv, h0⟩ | ⟨g, cap, hv, hc1, hc2, hne1, hne2, hcl⟩
  · rw [hv, h0]
    refine (AnyG.slices_Clone_int_nil Try.cloneL 0 0 _).mono ?_
    rintro e w' ⟨rfl, rfl⟩
    exact ⟨none, 0, rfl, ⟨rfl, .inl ⟨rfl, rfl⟩⟩, Below.refl _ _⟩
  · rw [hv]
    refine (AnyG.slices_Clone_int Try.cloneL g 0 t.qu.length cap t.qu w (Nat.le_refl _) (by omega) (fun j hj => by rw [Nat.zero_add]; exact hcl j hj)).mono ?_
    rintro e w' ⟨v', rfl, own, _, bel⟩
    rw [List.take_length] at own
    obtain ⟨A, c, rfl⟩ := own_slice own
    exact ⟨A, c, rfl, own, bel⟩
set_option maxHeartbeats 4000000 in
set_option maxRecDepth 100000 in
theorem r_clone (R : RR w b t) :
    Calls Try.prog 9 #[.pointer (some ⟨b.g, 0, none⟩)] w (ClonedR w t) := by
  have HR := hid R
  have hn1 := R.ok.n1
  have hn4 := R.ok.n4
  have hsl := R.ok.sl
  have HOK := hid R.ok
  have HS : Hid (t.sl.length = t.n * 16) := by show _ = _; omega
  have HN : Hid (0 < t.n ∧ t.n ≤ 4) := ⟨hn1, hn4⟩
  have hu : Try.prog.underlying 57 = _ := Try.underlying57
  obtain ⟨a0, a1, a2, a3, a4, a5, a6, a7, a8, a9, a10, a11, a12, a13, a14, a15, hgl⟩ := sixteen_of R.ok.gl
  have HGL := hid hgl
  have hi : (Try.prog.info? 57).map (·.size) = some ([.int .i64 a0, .int .i64 a1, .int .i64 a2, .int .i64 a3, .int .i64 a4, .int .i64 a5, .int .i64 a6, .int .i64 a7, .int .i64 a8, .int .i64 a9, .int .i64 a10, .int .i64 a11, .int .i64 a12, .int .i64 a13, .int .i64 a14, .int .i64 a15] : List Value).length := by kernel_rfl
  clear R hsl hn1 hn4 hgl
  go_enter Try.func9, Try.ntmps9
  go_wp2_with (fail)
  refine (r_made HR.out).mono ?_
  rintro e w1 ⟨rfl, n1, rfl⟩
  have U9 : CR w (w.drewN n1).drew b t := ⟨(HR.out.drewN n1).drewN 1, Kp.draw w (n1 + 1)⟩
  revert U9
  generalize w.drewN n1 = W1
  intro U9
  obtain ⟨cs, sp, m1, m2, m3, G9, B9⟩ := U9.rr.mem
  have c0 : W1.drew.cell? ⟨b.g, 0, none⟩ = some (.slice (some ⟨b.sb, 0, none⟩) t.n cs) := G9.cell 0
  have HB9 := hid B9
  have c1 := U9.rg16 HGL.out
  have c2 := U9.rr.cq
  clear m1 m2 m3 G9 B9
  go_wp2
  go_region_held3 (fun W => W.cell? ⟨b.g, 0, none⟩ = some (.slice (some ⟨b.sb, 0, none⟩) t.n cs) ∧ W.rangeAt b.g 1 [.int .i64 a0, .int .i64 a1, .int .i64 a2, .int .i64 a3, .int .i64 a4, .int .i64 a5, .int .i64 a6, .int .i64 a7, .int .i64 a8, .int .i64 a9, .int .i64 a10, .int .i64 a11, .int .i64 a12, .int .i64 a13, .int .i64 a14, .int .i64 a15] ∧ W.cell? ⟨b.g, 17, none⟩ = some b.qv) ((refine ⟨?_, ?_, ?_⟩ <;> first | assumption | exact cell_kp (Kp.new _ _) (by assumption) | go_keep_ranges | go_keep))
    (first
      | (go_at_call 24; refine (clone_slots HB9.out HS.out HN.out.1 HN.out.2).mono ?_; rintro e w2 ⟨g2, k2, s2, rfl, N2, B2, x2, y2, z2, K2⟩; have U2 := U9.stepK K2; have HX2 := hid (And.intro N2 (And.intro B2 (And.intro x2 (And.intro y2 (And.intro z2 K2))))); have d0 := cell_kp K2 c0; have d1 := U2.rg16 HGL.out; have d2 := U2.rr.cq; clear N2 B2 x2 y2 z2 K2)
      | (go_at_call 25; refine (clone_q U2.rr).mono ?_; rintro e w3 ⟨A3, c3, rfl, O3, L3⟩; have U3 := U2.stepK (Kp.of_below L3); have HX3 := hid (And.intro O3 L3); have e0 := cell_kp (Kp.of_below L3) d0; have e1 := U3.rg16 HGL.out; have e2 := U3.rr.cq; clear O3 L3))
  go_wp2
  go_ret
  obtain ⟨N2, B2, x2, y2, z2, K2⟩ := HX2.out
  obtain ⟨O3, L3⟩ := HX3.out
  have KN := Kp.new w3 (.cells #[.slice (some ⟨g2, 0, none⟩) t.n k2, .int .i64 a0, .int .i64 a1, .int .i64 a2, .int .i64 a3, .int .i64 a4, .int .i64 a5, .int .i64 a6, .int .i64 a7, .int .i64 a8, .int .i64 a9, .int .i64 a10, .int .i64 a11, .int .i64 a12, .int .i64 a13, .int .i64 a14, .int .i64 a15, .slice A3 t.qu.length c3] 59)
  have s1 : w.heap.size ≤ W1.drew.heap.size := U9.dr.size
  have s2' := K2.size
  have s3 := L3.size
  have hG := Blk.new w3 59 #[.slice (some ⟨g2, 0, none⟩) t.n k2, .int .i64 a0, .int .i64 a1, .int .i64 a2, .int .i64 a3, .int .i64 a4, .int .i64 a5, .int .i64 a6, .int .i64 a7, .int .i64 a8, .int .i64 a9, .int .i64 a10, .int .i64 a11, .int .i64 a12, .int .i64 a13, .int .i64 a14, .int .i64 a15, .slice A3 t.qu.length c3]
  refine ⟨⟨w3.heap.size, g2, .slice A3 t.qu.length c3⟩, rfl, ⟨HOK.out, ⟨k2, s2, x2, y2, by rw [z2, Nat.mul_comm], ?_, (B2.kp (Kp.of_below L3) (by simp)).kp KN (by simp)⟩, own_base (own_kp0 O3 KN) (Nat.zero_le _)⟩, U3.dr.chain KN, ?_⟩
  · unfold rcell
    rw [HGL.out]
    exact hG
  · intro x hx
    simp only [RB.all, List.mem_cons, Option.mem_toList] at hx
    rcases hx with rfl | rfl | hx
    · omega
    · omega
    · rcases O3.2 with ⟨hv, _⟩ | ⟨g', c', cur, hv, hle, _⟩
      · rw [hv] at hx; simp [Value.ownBlock] at hx
      · rw [hv] at hx; simp [Value.ownBlock] at hx; omega
end
end Go.Proofs.Ytnidadhoojbmeaa
