/-
  What the laws' play does to roots and the document's: the other kinds of calls. Conditions: those that stand in each theorem.
-/
import Derived.Test.YtnidadhoojbmeaaSo
namespace Go.Proofs.Ytnidadhoojbmeaa
set_option linter.unusedVariables false
set_option linter.unusedSimpArgs false
open Go.RowKit Go.Deep Go.Maps

section
variable {w0 w w' : World} {b : RB} {tb : TB} {t : RT}
set_option maxRecDepth 100000 in
set_option maxHeartbeats 4000000 in
theorem play_push (h : P2 w0 b tb t t w) (x : ActR) (hk : x.k = 1) :
    Calls Try.prog 11 #[.pointer (some ⟨b.g, 0, none⟩), .pointer (some ⟨tb.g, 0, none⟩), .agg x.cells] w (PlayP w0 b tb (t.act x)) := by
  obtain ⟨k, pk, pm, pi, a, vf, vt, f, tt⟩ := x
  simp only at hk
  subst hk
  have ha : t.act ⟨1, pk, pm, pi, a, vf, vt, f, tt⟩ = t.pushM a := by simp [RT.act]
  rw [ha]
  have hb := Blk.new w 36 #[.int .i64 1, .int .i64 pk, .int .i64 pm, .int .i64 pi, .int .i64 a, vf, vt]
  have P0 := h.kp0 (Kp.new w (.cells #[.int .i64 1, .int .i64 pk, .int .i64 pm, .int .i64 pi, .int .i64 a, vf, vt] 36))
  have HXB : Hid (w.heap.size ∉ b.all) := fun hm => by have := h.rr.lt _ hm; omega
  have HXT : Hid (w.heap.size ∉ tb.all) := fun hm => by have := h.tr.lt _ hm; omega
  have HP0 := hid P0
  have HB := hid hb
  have b0 := hb.cell 0
  have b1 := hb.cell 1
  have b2 := hb.cell 2
  have b3 := hb.cell 3
  have b4 := hb.cell 4
  have b5 := hb.cell 5
  have b6 := hb.cell 6
  unfold ActR.cells
  clear h ha P0 hb
  go_enter Try.func11, Try.ntmps11
  go_wp2
  generalize w.alloc (.cells #[.int .i64 1, .int .i64 pk, .int .i64 pm, .int .i64 pi, .int .i64 a, vf, vt] 36) = w1 at *
  have PD := HP0.out.kp0 (Kp.draw w1 1)
  have BD := HB.out.kp (Kp.draw w1 1) (by simp)
  have s4 : w1.drew.cell? ⟨w.heap.size, 4, none⟩ = some (.int .i64 a) := BD.cell 4
  go_region_held3 (fun W => W.cell? ⟨w.heap.size, 4, none⟩ = some (.int .i64 a)) (go_keep)
    (first
      | (go_at_call 15; refine (r_push (b := b) (P2.rr (by assumption)) a).mono ?_; rintro e w5 ⟨rfl, C5⟩; obtain ⟨b', hb', P5, K5⟩ := P2.chgR (by assumption) C5; have HBG := hid hb'; have B5 := Blk.kp (by assumption) K5 HXB.out; have u4 := B5.cell 4; clear C5 K5 hb')
      | (go_at_call 28; refine (t_push (b := tb) (P2.tr (by assumption)) a).mono ?_; rintro e w6 ⟨rfl, C6⟩; obtain ⟨tb', htb', P6, K6⟩ := P2.chgT (by assumption) C6; have HTG := hid htb'; have B6 := Blk.kp (by assumption) K6 HXT.out; have v4 := B6.cell 4; clear C6 K6 htb'))
  all_goals (
    go_wp2
    go_ret
    exact ⟨rfl, _, _, HBG.out, HTG.out, by assumption⟩)
set_option maxRecDepth 100000 in
set_option maxHeartbeats 4000000 in
theorem play_pop (h : P2 w0 b tb t t w) (x : ActR) (hk : x.k = 2) :
    Calls Try.prog 11 #[.pointer (some ⟨b.g, 0, none⟩), .pointer (some ⟨tb.g, 0, none⟩), .agg x.cells] w (PlayP w0 b tb (t.act x)) := by
  obtain ⟨k, pk, pm, pi, a, vf, vt, f, tt⟩ := x
  simp only at hk
  subst hk
  have ha : t.act ⟨2, pk, pm, pi, a, vf, vt, f, tt⟩ = t.popM := by simp [RT.act]
  rw [ha]
  have hb := Blk.new w 36 #[.int .i64 2, .int .i64 pk, .int .i64 pm, .int .i64 pi, .int .i64 a, vf, vt]
  have P0 := h.kp0 (Kp.new w (.cells #[.int .i64 2, .int .i64 pk, .int .i64 pm, .int .i64 pi, .int .i64 a, vf, vt] 36))
  have HXB : Hid (w.heap.size ∉ b.all) := fun hm => by have := h.rr.lt _ hm; omega
  have HXT : Hid (w.heap.size ∉ tb.all) := fun hm => by have := h.tr.lt _ hm; omega
  have HP0 := hid P0
  have HB := hid hb
  have b0 := hb.cell 0
  have b1 := hb.cell 1
  have b2 := hb.cell 2
  have b3 := hb.cell 3
  have b4 := hb.cell 4
  have b5 := hb.cell 5
  have b6 := hb.cell 6
  unfold ActR.cells
  clear h ha P0 hb
  go_enter Try.func11, Try.ntmps11
  go_wp2_with (fail)
  refine (r_pop (b := b) HP0.out.rr).mono ?_
  rintro e w5 ⟨rfl, C5⟩
  obtain ⟨b', hb', P5, K5⟩ := P2.chgR HP0.out C5
  have HBG := hid hb'
  have HP5 := hid P5
  clear C5 K5 hb' P5
  go_wp2_with (fail)
  refine (t_pop (b := tb) HP5.out.tr).mono ?_
  rintro e w6 ⟨rfl, C6⟩
  obtain ⟨tb', htb', P6, K6⟩ := P2.chgT HP5.out C6
  have HTG := hid htb'
  have HP6 := hid P6
  clear C6 K6 htb' P6
  generalize t.popV = x1
  generalize t.popE = x2
  go_wp2
  go_ret
  exact ⟨rfl, _, _, HBG.out, HTG.out, HP6.out⟩
set_option maxRecDepth 100000 in
set_option maxHeartbeats 4000000 in
theorem play_get (h : P2 w0 b tb t t w) (x : ActR) (hk : x.k = 4) :
    Calls Try.prog 11 #[.pointer (some ⟨b.g, 0, none⟩), .pointer (some ⟨tb.g, 0, none⟩), .agg x.cells] w (PlayP w0 b tb (t.act x)) := by
  obtain ⟨k, pk, pm, pi, a, vf, vt, f, tt⟩ := x
  simp only at hk
  subst hk
  have ha : t.act ⟨4, pk, pm, pi, a, vf, vt, f, tt⟩ = t := by simp [RT.act]
  rw [ha]
  have hb := Blk.new w 36 #[.int .i64 4, .int .i64 pk, .int .i64 pm, .int .i64 pi, .int .i64 a, vf, vt]
  have P0 := h.kp0 (Kp.new w (.cells #[.int .i64 4, .int .i64 pk, .int .i64 pm, .int .i64 pi, .int .i64 a, vf, vt] 36))
  have HXB : Hid (w.heap.size ∉ b.all) := fun hm => by have := h.rr.lt _ hm; omega
  have HXT : Hid (w.heap.size ∉ tb.all) := fun hm => by have := h.tr.lt _ hm; omega
  have HP0 := hid P0
  have HB := hid hb
  have b0 := hb.cell 0
  have b1 := hb.cell 1
  have b2 := hb.cell 2
  have b3 := hb.cell 3
  have b4 := hb.cell 4
  have b5 := hb.cell 5
  have b6 := hb.cell 6
  unfold ActR.cells
  clear h ha P0 hb
  go_enter Try.func11, Try.ntmps11
  go_wp2_with (fail)
  refine (r_get (b := b) HP0.out.rr pk pm pi).mono ?_
  rintro e w5 ⟨rfl, K5⟩
  have HP5 := hid (HP0.out.kp0 K5)
  have HB5 := HB.out.kp K5 (by simp)
  have c1 := HB5.cell 1
  have c2 := HB5.cell 2
  have c3 := HB5.cell 3
  clear K5 HB5
  go_wp2_with (fail)
  refine (t_getp (b := tb) HP5.out.tr pk pm pi).mono ?_
  rintro e w6 ⟨rfl, K6⟩
  have HP6 := hid (HP5.out.kp0 K6)
  clear K6
  generalize t.getV pk pm pi = x1
  generalize t.getE pk pm pi = x2
  go_wp2
  go_ret
  exact ⟨rfl, _, _, rfl, rfl, HP6.out⟩
set_option maxRecDepth 100000 in
set_option maxHeartbeats 4000000 in
theorem play_repl (h : P2 w0 b tb t t w) (x : ActR) (hk : x.k = 3) (hf : IsI w0 x.vf x.f) (ht : IsI w0 x.vt x.tt) (hlen : x.f.length ≤ 60) :
    Calls Try.prog 11 #[.pointer (some ⟨b.g, 0, none⟩), .pointer (some ⟨tb.g, 0, none⟩), .agg x.cells] w (PlayP w0 b tb (t.act x)) := by
  obtain ⟨k, pk, pm, pi, a, vf, vt, f, tt⟩ := x
  simp only at hk
  subst hk
  have ha : t.act ⟨3, pk, pm, pi, a, vf, vt, f, tt⟩ = (if repB f tt then (t.reps f tt t.xs).1 else t) := by simp [RT.act]
  rw [ha]
  have hb := Blk.new w 36 #[.int .i64 3, .int .i64 pk, .int .i64 pm, .int .i64 pi, .int .i64 a, vf, vt]
  have P0 := h.kp0 (Kp.new w (.cells #[.int .i64 3, .int .i64 pk, .int .i64 pm, .int .i64 pi, .int .i64 a, vf, vt] 36))
  have HXB : Hid (w.heap.size ∉ b.all) := fun hm => by have := h.rr.lt _ hm; omega
  have HXT : Hid (w.heap.size ∉ tb.all) := fun hm => by have := h.tr.lt _ hm; omega
  have HP0 := hid P0
  have HB := hid hb
  have b0 := hb.cell 0
  have b1 := hb.cell 1
  have b2 := hb.cell 2
  have b3 := hb.cell 3
  have b4 := hb.cell 4
  have b5 := hb.cell 5
  have b6 := hb.cell 6
  unfold ActR.cells
  clear h ha P0 hb
  have HF := hid hf
  have HT := hid ht
  have HL := hid hlen
  clear hf ht hlen
  rcases hg : repB f tt
  · rw [if_neg (by simp)]
    have HG := hid hg
    clear hg
    go_enter Try.func11, Try.ntmps11
    go_wp2_with (fail)
    refine (r_replace_bad (b := b) HP0.out.rr (HF.out.old (T := []) HP0.out.kp (by simp)).is (HT.out.old (T := []) HP0.out.kp (by simp)).is HG.out).mono ?_
    rintro e w5 ⟨rfl, K5⟩
    have HP5 := hid (HP0.out.kp0 K5)
    have HB5 := HB.out.kp K5 (by simp)
    have c5 := HB5.cell 5
    have c6 := HB5.cell 6
    clear K5 HB5
    go_wp2_with (fail)
    refine (t_replace_bad (b := tb) HP5.out.tr (HF.out.old (T := []) HP5.out.kp (by simp)).is (HT.out.old (T := []) HP5.out.kp (by simp)).is HG.out).mono ?_
    rintro e w6 ⟨rfl, K6⟩
    have HP6 := hid (HP5.out.kp0 K6)
    clear K6
    go_wp2
    go_ret
    exact ⟨rfl, _, _, rfl, rfl, HP6.out⟩
  · rw [if_pos rfl]
    have HG := hid hg
    have hgp := hg
    unfold repB at hgp
    simp only [Bool.and_eq_true, decide_eq_true_eq] at hgp
    have HGP := hid hgp
    clear hg hgp
    go_enter Try.func11, Try.ntmps11
    go_wp2_with (fail)
    refine (r_replace (b := b) HP0.out.rr (HF.out.old HP0.out.kp HP0.out.nb) (HT.out.old HP0.out.kp HP0.out.nb) HGP.out.1.1.1 HGP.out.1.1.2 HGP.out.1.2 HGP.out.2 (by have := HL.out; omega)).mono ?_
    rintro e w5 ⟨rfl, R5, K5⟩
    have HP5 := hid (HP0.out.stepR R5 K5)
    have HB5 := HB.out.kp K5 HXB.out
    have c5 := HB5.cell 5
    have c6 := HB5.cell 6
    clear K5 HB5 R5
    go_wp2_with (fail)
    refine (t_replace (b := tb) HP5.out.tr (HF.out.old HP5.out.kp HP5.out.nt) (HT.out.old HP5.out.kp HP5.out.nt) HG.out).mono ?_
    rintro e w6 ⟨rfl, T6, K6⟩
    have HP6 := hid (HP5.out.stepT T6 K6)
    clear K6 T6
    generalize (t.reps f tt t.xs).2 = x1
    go_wp2
    go_ret
    exact ⟨rfl, _, _, rfl, rfl, HP6.out⟩
set_option maxRecDepth 100000 in
set_option maxHeartbeats 4000000 in
theorem play_other (h : P2 w0 b tb t t w) (x : ActR) (h0 : x.k ≠ 0) (h1 : x.k ≠ 1) (h2 : x.k ≠ 2) (h3 : x.k ≠ 3) (h4 : x.k ≠ 4) :
    Calls Try.prog 11 #[.pointer (some ⟨b.g, 0, none⟩), .pointer (some ⟨tb.g, 0, none⟩), .agg x.cells] w (PlayP w0 b tb (t.act x)) := by
  obtain ⟨k, pk, pm, pi, a, vf, vt, f, tt⟩ := x
  simp only at h0 h1 h2 h3 h4
  have ha : t.act ⟨k, pk, pm, pi, a, vf, vt, f, tt⟩ = t := by simp [RT.act, h0, h1, h2, h3]
  rw [ha]
  have hb := Blk.new w 36 #[.int .i64 k, .int .i64 pk, .int .i64 pm, .int .i64 pi, .int .i64 a, vf, vt]
  have HP0 := hid (h.kp0 (Kp.new w (.cells #[.int .i64 k, .int .i64 pk, .int .i64 pm, .int .i64 pi, .int .i64 a, vf, vt] 36)))
  have b0 := hb.cell 0
  have e0 : (k == 0) = false := beq_eq_false_iff_ne.2 h0
  have e1 : (k == 1) = false := beq_eq_false_iff_ne.2 h1
  have e2 : (k == 2) = false := beq_eq_false_iff_ne.2 h2
  have e3 : (k == 3) = false := beq_eq_false_iff_ne.2 h3
  have e4 : (k == 4) = false := beq_eq_false_iff_ne.2 h4
  unfold ActR.cells
  clear h ha hb
  go_enter Try.func11, Try.ntmps11
  go_wp2
  go_ret
  exact ⟨rfl, _, _, rfl, rfl, HP0.out⟩
theorem play_ok (h : P2 w0 b tb t t w) (x : ActR) (hx : x.Ok w0) (hlen : x.f.length ≤ 60) :
    Calls Try.prog 11 #[.pointer (some ⟨b.g, 0, none⟩), .pointer (some ⟨tb.g, 0, none⟩), .agg x.cells] w (PlayP w0 b tb (t.act x)) := by
  by_cases h0 : x.k = 0
  · exact play_set h x h0
  · by_cases h1 : x.k = 1
    · exact play_push h x h1
    · by_cases h2 : x.k = 2
      · exact play_pop h x h2
      · by_cases h3 : x.k = 3
        · exact play_repl h x h3 hx.f hx.tt hlen
        · by_cases h4 : x.k = 4
          · exact play_get h x h4
          · exact play_other h x h0 h1 h2 h3 h4
end
end Go.Proofs.Ytnidadhoojbmeaa
