/-
  The contract of package model's Clone. Conditions: those that stand in each theorem.
-/
import Derived.Test.YtbiompmklijgoaaDoorPZp
namespace Go.Proofs.YtbiompmklijgoaaDoor
set_option linter.unusedVariables false
set_option linter.unusedSimpArgs false
open Go.RowKit Go.Deep Go.Maps

/-- A new model, as the old one is. -/
def ClonedT (w : World) (t : MT) (e : Ending) (w' : World) : Prop :=
  ∃ c : MB, e = .returned (.pointer (some ⟨c.g, 0, none⟩)) ∧ MR w' c t ∧ Kp [] w w' ∧ ∀ x ∈ c.all, w.heap.size ≤ x
structure CM (w W : World) (b : MB) (t : MT) : Prop where
  mr : MR W b t
  dr : Kp [] w W
theorem sixteen_of {l : List Int} (h : l.length = 16) : ∃ a0 a1 a2 a3 a4 a5 a6 a7 a8 a9 a10 a11 a12 a13 a14 a15, l = [a0, a1, a2, a3, a4, a5, a6, a7, a8, a9, a10, a11, a12, a13, a14, a15] := by
  match l, h with
  | [a0, a1, a2, a3, a4, a5, a6, a7, a8, a9, a10, a11, a12, a13, a14, a15], _ => exact ⟨a0, a1, a2, a3, a4, a5, a6, a7, a8, a9, a10, a11, a12, a13, a14, a15, rfl⟩
section
variable {w w' W V : World} {b : MB} {t : MT}
theorem CM.stepK (u : CM w W b t) (k : Kp [] W V) : CM w V b t := ⟨u.mr.kp0 k, u.dr.chain k⟩
theorem CM.rg (u : CM w W b t) : W.rangeAt b.g 1 (zcells t.gl) := fun j v hv => by
  have hj := (List.getElem?_eq_some_iff.1 hv).1
  rw [zcells_length] at hj
  obtain ⟨c, sp, _, _, _, G, _⟩ := u.mr.mem
  rw [G.cell (1 + j), mcell_gl hj, ← hv]
  simp [zcells, hj]
theorem CM.rg16 (u : CM w W b t) {a0 a1 a2 a3 a4 a5 a6 a7 a8 a9 a10 a11 a12 a13 a14 a15 : Int} (h : t.gl = [a0, a1, a2, a3, a4, a5, a6, a7, a8, a9, a10, a11, a12, a13, a14, a15]) : W.rangeAt b.g 1 [.int .i64 a0, .int .i64 a1, .int .i64 a2, .int .i64 a3, .int .i64 a4, .int .i64 a5, .int .i64 a6, .int .i64 a7, .int .i64 a8, .int .i64 a9, .int .i64 a10, .int .i64 a11, .int .i64 a12, .int .i64 a13, .int .i64 a14, .int .i64 a15] := by
  have := u.rg
  rw [h] at this
  exact this
theorem CM.cv (u : CM w W b t) : W.cell? ⟨b.g, 17, none⟩ = some b.qv ∧ W.cell? ⟨b.g, 18, none⟩ = some b.ov ∧ W.cell? ⟨b.g, 19, none⟩ = some b.wv := by
  obtain ⟨c, sp, _, _, _, G, _⟩ := u.mr.mem
  exact ⟨(G.cell 17).trans (mcell_v u.mr.ok.gl 0), (G.cell 18).trans (mcell_v u.mr.ok.gl 1), (G.cell 19).trans (mcell_v u.mr.ok.gl 2)⟩
theorem own_new {B n z : Nat} {e : TypeId} {v : Value} {xs : List Value} (h : w.ownsRow B e z v n xs) {x : Nat} (hx : v.ownBlock = some x) : B ≤ x := by
  rcases h.2 with ⟨hv, _⟩ | ⟨g', c', cur, hv, hle, _⟩
  · rw [hv] at hx; simp [Value.ownBlock] at hx
  · rw [hv] at hx; simp [Value.ownBlock] at hx; omega
set_option maxHeartbeats 4000000 in
set_option maxRecDepth 100000 in
theorem m_clone (R : MR w b t) :
    Calls Tryd.prog 16 #[.pointer (some ⟨b.g, 0, none⟩)] w (ClonedT w t) := by
  have HR := hid R
  have hn1 := R.ok.n1
  have hn4 := R.ok.n4
  have hsl := R.ok.sl
  have HOK := hid R.ok
  have HS : Hid (t.sl.length = t.n * 16) := by show _ = _; omega
  have HN : Hid (0 < t.n ∧ t.n ≤ 4) := ⟨hn1, hn4⟩
  have hu : Tryd.prog.underlying 44 = _ := Tryd.underlying44
  obtain ⟨a0, a1, a2, a3, a4, a5, a6, a7, a8, a9, a10, a11, a12, a13, a14, a15, hgl⟩ := sixteen_of R.ok.gl
  have HGL := hid hgl
  have hi : (Tryd.prog.info? 44).map (·.size) = some ([.int .i64 a0, .int .i64 a1, .int .i64 a2, .int .i64 a3, .int .i64 a4, .int .i64 a5, .int .i64 a6, .int .i64 a7, .int .i64 a8, .int .i64 a9, .int .i64 a10, .int .i64 a11, .int .i64 a12, .int .i64 a13, .int .i64 a14, .int .i64 a15] : List Value).length := by kernel_rfl
  clear R hsl hn1 hn4 hgl
  go_enter Tryd.func16, Tryd.ntmps16
  go_wp2_with (fail)
  refine (m_made HR.out).mono ?_
  rintro e w1 ⟨rfl, n1, rfl⟩
  have U9 : CM w (w.drewN n1).drew b t := ⟨HR.out.kp0 (Kp.draw w (n1 + 1)), Kp.draw w (n1 + 1)⟩
  revert U9
  generalize w.drewN n1 = W1
  intro U9
  obtain ⟨cs, sp, m1, m2, m3, G9, B9⟩ := U9.mr.mem
  have c0 : W1.drew.cell? ⟨b.g, 0, none⟩ = some (.slice (some ⟨b.sb, 0, none⟩) t.n cs) := G9.cell 0
  have HB9 := hid B9
  have c1 := U9.rg16 HGL.out
  obtain ⟨c2, c3, c4⟩ := U9.cv
  clear m1 m2 m3 G9 B9
  go_wp2
  go_region_held3 (fun W => W.cell? ⟨b.g, 0, none⟩ = some (.slice (some ⟨b.sb, 0, none⟩) t.n cs) ∧ W.rangeAt b.g 1 [.int .i64 a0, .int .i64 a1, .int .i64 a2, .int .i64 a3, .int .i64 a4, .int .i64 a5, .int .i64 a6, .int .i64 a7, .int .i64 a8, .int .i64 a9, .int .i64 a10, .int .i64 a11, .int .i64 a12, .int .i64 a13, .int .i64 a14, .int .i64 a15] ∧ W.cell? ⟨b.g, 17, none⟩ = some b.qv ∧ W.cell? ⟨b.g, 18, none⟩ = some b.ov ∧ W.cell? ⟨b.g, 19, none⟩ = some b.wv) ((refine ⟨?_, ?_, ?_, ?_, ?_⟩ <;> first | assumption | exact cell_kp (Kp.new _ _) (by assumption) | go_keep_ranges | go_keep))
    (first
      | (go_at_call 42; refine (clone_msl HB9.out HS.out HN.out.1 HN.out.2).mono ?_; rintro e w2 ⟨g2, k2, s2, rfl, N2, B2, x2, y2, z2, K2⟩; have U2 := U9.stepK K2; have HX2 := hid (And.intro N2 (And.intro B2 (And.intro x2 (And.intro y2 (And.intro z2 K2))))); have d0 := cell_kp K2 c0; have d1 := U2.rg16 HGL.out; obtain ⟨d2, d3, d4⟩ := U2.cv; clear N2 B2 x2 y2 z2 K2)
      | (go_at_call 43; refine (clone_mint U4.mr.D (by have := U4.mr.ok.small.2; omega)).mono ?_; rintro e w5 ⟨A5, q5, rfl, O5, K5⟩; have U5 := U4.stepK K5; have HX5 := hid (And.intro O5 K5); have g0 := cell_kp K5 f0; have g1 := U5.rg16 HGL.out; obtain ⟨g2', g3, g4⟩ := U5.cv; clear O5 K5)
      | (go_at_call 43; refine (clone_mint U2.mr.Q (by have := U2.mr.ok.qu; omega)).mono ?_; rintro e w3 ⟨A3, q3, rfl, O3, K3⟩; have U3 := U2.stepK K3; have HX3 := hid (And.intro O3 K3); have e0 := cell_kp K3 d0; have e1 := U3.rg16 HGL.out; obtain ⟨e2, e3, e4⟩ := U3.cv; clear O3 K3)
      | (go_at_call 44; refine (clone_mob U3.mr.O U3.mr.ok.small.1).mono ?_; rintro e w4 ⟨A4, q4, rfl, O4, K4⟩; have U4 := U3.stepK K4; have HX4 := hid (And.intro O4 K4); have f0 := cell_kp K4 e0; have f1 := U4.rg16 HGL.out; obtain ⟨f2, f3, f4⟩ := U4.cv; clear O4 K4))
  go_wp2
  go_ret
  obtain ⟨N2, B2, x2, y2, z2, K2⟩ := HX2.out
  obtain ⟨O3, K3⟩ := HX3.out
  obtain ⟨O4, K4⟩ := HX4.out
  obtain ⟨O5, K5⟩ := HX5.out
  have KN := Kp.new w5 (.cells #[.slice (some ⟨g2, 0, none⟩) t.n k2, .int .i64 a0, .int .i64 a1, .int .i64 a2, .int .i64 a3, .int .i64 a4, .int .i64 a5, .int .i64 a6, .int .i64 a7, .int .i64 a8, .int .i64 a9, .int .i64 a10, .int .i64 a11, .int .i64 a12, .int .i64 a13, .int .i64 a14, .int .i64 a15, .slice A3 t.qu.length q3, .slice A4 t.ob.length q4, .slice A5 t.ws.length q5] 48)
  have s1 : w.heap.size ≤ W1.drew.heap.size := U9.dr.size
  have s2' := K2.size
  have s3 := K3.size
  have s4 := K4.size
  have s5 := K5.size
  have hG := Blk.new w5 48 #[.slice (some ⟨g2, 0, none⟩) t.n k2, .int .i64 a0, .int .i64 a1, .int .i64 a2, .int .i64 a3, .int .i64 a4, .int .i64 a5, .int .i64 a6, .int .i64 a7, .int .i64 a8, .int .i64 a9, .int .i64 a10, .int .i64 a11, .int .i64 a12, .int .i64 a13, .int .i64 a14, .int .i64 a15, .slice A3 t.qu.length q3, .slice A4 t.ob.length q4, .slice A5 t.ws.length q5]
  have h0 : 0 < w.heap.size := cell_lt HR.out.lz.1
  have hall : ∀ x ∈ (⟨w5.heap.size, g2, .slice A3 t.qu.length q3, .slice A4 t.ob.length q4, .slice A5 t.ws.length q5⟩ : MB).all, w.heap.size ≤ x := by
    intro x hx
    simp only [MB.all, List.mem_cons, List.mem_append, Option.mem_toList] at hx
    rcases hx with rfl | rfl | (hx | hx) | hx
    · omega
    · omega
    · have := own_new O3 hx; omega
    · have := own_new O4 hx; omega
    · have := own_new O5 hx; omega
  refine ⟨⟨w5.heap.size, g2, .slice A3 t.qu.length q3, .slice A4 t.ob.length q4, .slice A5 t.ws.length q5⟩, rfl, ⟨HOK.out, U5.mr.lz.kp0 KN, fun hm => by have := hall 0 hm; omega, ⟨k2, s2, x2, y2, by rw [z2, Nat.mul_comm], ?_, (((B2.kp K3 (by simp)).kp K4 (by simp)).kp K5 (by simp)).kp KN (by simp)⟩, own_base (own_kp0 (own_kp0 (own_kp0 O3 K4) K5) KN) (Nat.zero_le _), own_base (own_kp0 (own_kp0 O4 K5) KN) (Nat.zero_le _), own_base (own_kp0 O5 KN) (Nat.zero_le _), fun x hx hy => ?_⟩, U5.dr.chain KN, hall⟩
  · unfold mcell
    rw [HGL.out]
    exact hG
  · have h3 := own_lt O3 x hx
    have h5 := own_new O5 hy
    omega
end
end Go.Proofs.YtbiompmklijgoaaDoor
