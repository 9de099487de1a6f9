/-
  Roots beside the document's, and blocks that are neither's: what the laws' play does to both, and leaves. Conditions: those that stand in each theorem.
-/
import Derived.Test.YtnidadhoojbmeaaSo
namespace Go.Proofs.Ytnidadhoojbmeaa
set_option linter.unusedVariables false
set_option linter.unusedSimpArgs false
open Go.RowKit Go.Deep Go.Maps

/-- Roots and the document's, and blocks X that stay as they were in F. -/
structure P3 (w0 F : World) (X : List Nat) (b : RB) (tb : TB) (t1 t2 : RT) (w : World) : Prop where
  p2 : P2 w0 b tb t1 t2 w
  fb : ∀ x ∈ X, x ∉ b.all
  ft : ∀ x ∈ X, x ∉ tb.all
  fl : ∀ x ∈ X, x < F.heap.size
  fs : F.heap.size ≤ w.heap.size
  fx : ∀ x ∈ X, w.heap[x]? = F.heap[x]?
section
variable {w0 F w w' : World} {X : List Nat} {b : RB} {tb : TB} {t1 t2 t : RT}
theorem P3.rr (h : P3 w0 F X b tb t1 t2 w) : RR w b t1 := h.p2.rr
theorem P3.tr (h : P3 w0 F X b tb t1 t2 w) : TR w tb t2 := h.p2.tr
theorem P3.kp (h : P3 w0 F X b tb t1 t2 w) : Kp [] w0 w := h.p2.kp
theorem P3.nb (h : P3 w0 F X b tb t1 t2 w) : ∀ x ∈ b.all, w0.heap.size ≤ x := h.p2.nb
theorem P3.nt (h : P3 w0 F X b tb t1 t2 w) : ∀ x ∈ tb.all, w0.heap.size ≤ x := h.p2.nt
theorem P3.to (h : P3 w0 F X b tb t1 t2 w) {S : List Nat} (p : P2 w0 b tb t1 t2 w') (K : Kp S w w') (hS : ∀ x ∈ X, x ∉ S) : P3 w0 F X b tb t1 t2 w' :=
  ⟨p, h.fb, h.ft, h.fl, Nat.le_trans h.fs K.size, fun x hx => (K.block x (Nat.lt_of_lt_of_le (h.fl x hx) h.fs) (hS x hx)).trans (h.fx x hx)⟩
theorem P3.stepR (h : P3 w0 F X b tb t1 t2 w) (R : RR w' b t) (K : Kp b.all w w') : P3 w0 F X b tb t t2 w' :=
  ⟨h.p2.stepR R K, h.fb, h.ft, h.fl, Nat.le_trans h.fs K.size, fun x hx => (K.block x (Nat.lt_of_lt_of_le (h.fl x hx) h.fs) (h.fb x hx)).trans (h.fx x hx)⟩
theorem P3.stepT (h : P3 w0 F X b tb t1 t2 w) (T : TR w' tb t) (K : Kp tb.all w w') : P3 w0 F X b tb t1 t w' :=
  ⟨h.p2.stepT T K, h.fb, h.ft, h.fl, Nat.le_trans h.fs K.size, fun x hx => (K.block x (Nat.lt_of_lt_of_le (h.fl x hx) h.fs) (h.ft x hx)).trans (h.fx x hx)⟩
theorem P3.kp0 (h : P3 w0 F X b tb t1 t2 w) (K : Kp [] w w') : P3 w0 F X b tb t1 t2 w' := h.to (h.p2.kp0 K) K (by simp)
theorem P3.chgR (h : P3 w0 F X b tb t1 t2 w) (C : ChgP w b t w') : ∃ b', b'.g = b.g ∧ P3 w0 F X b' tb t t2 w' ∧ Kp b.all w w' := by
  obtain ⟨b', e, R, K, hn⟩ := C
  obtain ⟨b2, e2, P, K2⟩ := h.p2.chgR ⟨b', e, R, K, hn⟩
  have hp : P2 w0 b' tb t t2 w' := ⟨R, P.tr, fun x hx hm => by
    rcases hn x hx with h1 | h1
    · exact h.p2.sep x h1 hm
    · have := h.p2.tr.lt x hm; omega, P.kp, fun x hx => by
    rcases hn x hx with h1 | h1
    · exact h.p2.nb x h1
    · have := h.p2.kp.size; omega, P.nt⟩
  exact ⟨b', e, ⟨hp, fun x hx hm => by
    rcases hn x hm with h1 | h1
    · exact h.fb x hx h1
    · have := h.fl x hx; have := h.fs; omega, h.ft, h.fl, Nat.le_trans h.fs K.size, fun x hx => (K.block x (Nat.lt_of_lt_of_le (h.fl x hx) h.fs) (h.fb x hx)).trans (h.fx x hx)⟩, K⟩
theorem P3.chgT (h : P3 w0 F X b tb t1 t2 w) (C : TChg w tb t w') : ∃ tb', tb'.g = tb.g ∧ P3 w0 F X b tb' t1 t w' ∧ Kp tb.all w w' := by
  obtain ⟨tb', e, T, K, hn⟩ := C
  obtain ⟨b2, e2, P, K2⟩ := h.p2.chgT ⟨tb', e, T, K, hn⟩
  have hp : P2 w0 b tb' t1 t w' := ⟨P.rr, T, fun x hx hm => by
    rcases hn x hm with h1 | h1
    · exact h.p2.sep x hx h1
    · have := h.p2.rr.lt x hx; omega, P.kp, P.nb, fun x hx => by
    rcases hn x hx with h1 | h1
    · exact h.p2.nt x h1
    · have := h.p2.kp.size; omega⟩
  exact ⟨tb', e, ⟨hp, h.fb, fun x hx hm => by
    rcases hn x hm with h1 | h1
    · exact h.ft x hx h1
    · have := h.fl x hx; have := h.fs; omega, h.fl, Nat.le_trans h.fs K.size, fun x hx => (K.block x (Nat.lt_of_lt_of_le (h.fl x hx) h.fs) (h.ft x hx)).trans (h.fx x hx)⟩, K⟩
end
def PlayQ (w0 F : World) (X : List Nat) (b : RB) (tb : TB) (t : RT) (e : Ending) (w' : World) : Prop :=
  e = .returned (.bool true) ∧ ∃ b' tb', b'.g = b.g ∧ tb'.g = tb.g ∧ P3 w0 F X b' tb' t t w'
section
variable {w0 F w w' : World} {X : List Nat} {b : RB} {tb : TB} {t : RT}
set_option maxRecDepth 100000 in
set_option maxHeartbeats 4000000 in
theorem play_set3 (h : P3 w0 F X b tb t t w) (x : ActR) (hk : x.k = 0) :
    Calls Try.prog 11 #[.pointer (some ⟨b.g, 0, none⟩), .pointer (some ⟨tb.g, 0, none⟩), .agg x.cells] w (PlayQ w0 F X b tb (t.act x)) := by
  obtain ⟨k, pk, pm, pi, a, vf, vt, f, tt⟩ := x
  simp only at hk
  subst hk
  have ha : t.act ⟨0, pk, pm, pi, a, vf, vt, f, tt⟩ = t.setM pk pm pi a := by simp [RT.act]
  rw [ha]
  have hb := Blk.new w 36 #[.int .i64 0, .int .i64 pk, .int .i64 pm, .int .i64 pi, .int .i64 a, vf, vt]
  have P0 := h.kp0 (Kp.new w (.cells #[.int .i64 0, .int .i64 pk, .int .i64 pm, .int .i64 pi, .int .i64 a, vf, vt] 36))
  have HXB : Hid (w.heap.size ∉ b.all) := fun hm => by have := h.rr.lt _ hm; omega
  have HXT : Hid (w.heap.size ∉ tb.all) := fun hm => by have := h.tr.lt _ hm; omega
  have HP0 := hid P0
  have HB := hid hb
  have b0 := hb.cell 0
  have b1 := hb.cell 1
  have b2 := hb.cell 2
  have b3 := hb.cell 3
  have b4 := hb.cell 4
  unfold ActR.cells
  clear h ha P0 hb
  go_enter Try.func11, Try.ntmps11
  go_wp2
  generalize w.alloc (.cells #[.int .i64 0, .int .i64 pk, .int .i64 pm, .int .i64 pi, .int .i64 a, vf, vt] 36) = w1 at *
  have PD := HP0.out.kp0 (Kp.draw w1 1)
  have BD := HB.out.kp (Kp.draw w1 1) (by simp)
  have s1 : w1.drew.cell? ⟨w.heap.size, 1, none⟩ = some (.int .i64 pk) := BD.cell 1
  have s2 : w1.drew.cell? ⟨w.heap.size, 2, none⟩ = some (.int .i64 pm) := BD.cell 2
  have s3 : w1.drew.cell? ⟨w.heap.size, 3, none⟩ = some (.int .i64 pi) := BD.cell 3
  have s4 : w1.drew.cell? ⟨w.heap.size, 4, none⟩ = some (.int .i64 a) := BD.cell 4
  go_region_held3 (fun W => W.cell? ⟨w.heap.size, 1, none⟩ = some (.int .i64 pk) ∧ W.cell? ⟨w.heap.size, 2, none⟩ = some (.int .i64 pm) ∧ W.cell? ⟨w.heap.size, 3, none⟩ = some (.int .i64 pi) ∧ W.cell? ⟨w.heap.size, 4, none⟩ = some (.int .i64 a)) (go_keep)
    (first
      | (go_at_call 14; refine (r_set (b := b) (P3.rr (by assumption)) pk pm pi a).mono ?_; rintro e w5 ⟨rfl, R5, K5⟩; have P5 := P3.stepR (by assumption) R5 K5; have B5 := Blk.kp (by assumption) K5 HXB.out; have u1 := B5.cell 1; have u2 := B5.cell 2; have u3 := B5.cell 3; have u4 := B5.cell 4; clear R5 K5)
      | (go_at_call 27; refine (t_setp (b := tb) (P3.tr (by assumption)) pk pm pi a).mono ?_; rintro e w6 ⟨rfl, T6, K6⟩; have P6 := P3.stepT (by assumption) T6 K6; have B6 := Blk.kp (by assumption) K6 HXT.out; have v1 := B6.cell 1; have v2 := B6.cell 2; have v3 := B6.cell 3; have v4 := B6.cell 4; clear T6 K6))
  all_goals (
    go_wp2
    go_ret
    exact ⟨rfl, b, tb, rfl, rfl, by assumption⟩)
set_option maxRecDepth 100000 in
set_option maxHeartbeats 4000000 in
theorem play_push3 (h : P3 w0 F X b tb t t w) (x : ActR) (hk : x.k = 1) :
    Calls Try.prog 11 #[.pointer (some ⟨b.g, 0, none⟩), .pointer (some ⟨tb.g, 0, none⟩), .agg x.cells] w (PlayQ w0 F X b tb (t.act x)) := by
  obtain ⟨k, pk, pm, pi, a, vf, vt, f, tt⟩ := x
  simp only at hk
  subst hk
  have ha : t.act ⟨1, pk, pm, pi, a, vf, vt, f, tt⟩ = t.pushM a := by simp [RT.act]
  rw [ha]
  have hb := Blk.new w 36 #[.int .i64 1, .int .i64 pk, .int .i64 pm, .int .i64 pi, .int .i64 a, vf, vt]
  have P0 := h.kp0 (Kp.new w (.cells #[.int .i64 1, .int .i64 pk, .int .i64 pm, .int .i64 pi, .int .i64 a, vf, vt] 36))
  have HXB : Hid (w.heap.size ∉ b.all) := fun hm => by have := h.rr.lt _ hm; omega
  have HXT : Hid (w.heap.size ∉ tb.all) := fun hm => by have := h.tr.lt _ hm; omega
  have HP0 := hid P0
  have HB := hid hb
  have b0 := hb.cell 0
  have b1 := hb.cell 1
  have b2 := hb.cell 2
  have b3 := hb.cell 3
  have b4 := hb.cell 4
  have b5 := hb.cell 5
  have b6 := hb.cell 6
  unfold ActR.cells
  clear h ha P0 hb
  go_enter Try.func11, Try.ntmps11
  go_wp2
  generalize w.alloc (.cells #[.int .i64 1, .int .i64 pk, .int .i64 pm, .int .i64 pi, .int .i64 a, vf, vt] 36) = w1 at *
  have PD := HP0.out.kp0 (Kp.draw w1 1)
  have BD := HB.out.kp (Kp.draw w1 1) (by simp)
  have s4 : w1.drew.cell? ⟨w.heap.size, 4, none⟩ = some (.int .i64 a) := BD.cell 4
  go_region_held3 (fun W => W.cell? ⟨w.heap.size, 4, none⟩ = some (.int .i64 a)) (go_keep)
    (first
      | (go_at_call 15; refine (r_push (b := b) (P3.rr (by assumption)) a).mono ?_; rintro e w5 ⟨rfl, C5⟩; obtain ⟨b', hb', P5, K5⟩ := P3.chgR (by assumption) C5; have HBG := hid hb'; have B5 := Blk.kp (by assumption) K5 HXB.out; have u4 := B5.cell 4; clear C5 K5 hb')
      | (go_at_call 28; refine (t_push (b := tb) (P3.tr (by assumption)) a).mono ?_; rintro e w6 ⟨rfl, C6⟩; obtain ⟨tb', htb', P6, K6⟩ := P3.chgT (by assumption) C6; have HTG := hid htb'; have B6 := Blk.kp (by assumption) K6 HXT.out; have v4 := B6.cell 4; clear C6 K6 htb'))
  all_goals (
    go_wp2
    go_ret
    exact ⟨rfl, _, _, HBG.out, HTG.out, by assumption⟩)
set_option maxRecDepth 100000 in
set_option maxHeartbeats 4000000 in
theorem play_pop3 (h : P3 w0 F X b tb t t w) (x : ActR) (hk : x.k = 2) :
    Calls Try.prog 11 #[.pointer (some ⟨b.g, 0, none⟩), .pointer (some ⟨tb.g, 0, none⟩), .agg x.cells] w (PlayQ w0 F X b tb (t.act x)) := by
  obtain ⟨k, pk, pm, pi, a, vf, vt, f, tt⟩ := x
  simp only at hk
  subst hk
  have ha : t.act ⟨2, pk, pm, pi, a, vf, vt, f, tt⟩ = t.popM := by simp [RT.act]
  rw [ha]
  have hb := Blk.new w 36 #[.int .i64 2, .int .i64 pk, .int .i64 pm, .int .i64 pi, .int .i64 a, vf, vt]
  have P0 := h.kp0 (Kp.new w (.cells #[.int .i64 2, .int .i64 pk, .int .i64 pm, .int .i64 pi, .int .i64 a, vf, vt] 36))
  have HXB : Hid (w.heap.size ∉ b.all) := fun hm => by have := h.rr.lt _ hm; omega
  have HXT : Hid (w.heap.size ∉ tb.all) := fun hm => by have := h.tr.lt _ hm; omega
  have HP0 := hid P0
  have HB := hid hb
  have b0 := hb.cell 0
  have b1 := hb.cell 1
  have b2 := hb.cell 2
  have b3 := hb.cell 3
  have b4 := hb.cell 4
  have b5 := hb.cell 5
  have b6 := hb.cell 6
  unfold ActR.cells
  clear h ha P0 hb
  go_enter Try.func11, Try.ntmps11
  go_wp2_with (fail)
  refine (r_pop (b := b) HP0.out.rr).mono ?_
  rintro e w5 ⟨rfl, C5⟩
  obtain ⟨b', hb', P5, K5⟩ := P3.chgR HP0.out C5
  have HBG := hid hb'
  have HP5 := hid P5
  clear C5 K5 hb' P5
  go_wp2_with (fail)
  refine (t_pop (b := tb) HP5.out.tr).mono ?_
  rintro e w6 ⟨rfl, C6⟩
  obtain ⟨tb', htb', P6, K6⟩ := P3.chgT HP5.out C6
  have HTG := hid htb'
  have HP6 := hid P6
  clear C6 K6 htb' P6
  generalize t.popV = x1
  generalize t.popE = x2
  go_wp2
  go_ret
  exact ⟨rfl, _, _, HBG.out, HTG.out, HP6.out⟩
set_option maxRecDepth 100000 in
set_option maxHeartbeats 4000000 in
theorem play_get3 (h : P3 w0 F X b tb t t w) (x : ActR) (hk : x.k = 4) :
    Calls Try.prog 11 #[.pointer (some ⟨b.g, 0, none⟩), .pointer (some ⟨tb.g, 0, none⟩), .agg x.cells] w (PlayQ w0 F X b tb (t.act x)) := by
  obtain ⟨k, pk, pm, pi, a, vf, vt, f, tt⟩ := x
  simp only at hk
  subst hk
  have ha : t.act ⟨4, pk, pm, pi, a, vf, vt, f, tt⟩ = t := by simp [RT.act]
  rw [ha]
  have hb := Blk.new w 36 #[.int .i64 4, .int .i64 pk, .int .i64 pm, .int .i64 pi, .int .i64 a, vf, vt]
  have P0 := h.kp0 (Kp.new w (.cells #[.int .i64 4, .int .i64 pk, .int .i64 pm, .int .i64 pi, .int .i64 a, vf, vt] 36))
  have HXB : Hid (w.heap.size ∉ b.all) := fun hm => by have := h.rr.lt _ hm; omega
  have HXT : Hid (w.heap.size ∉ tb.all) := fun hm => by have := h.tr.lt _ hm; omega
  have HP0 := hid P0
  have HB := hid hb
  have b0 := hb.cell 0
  have b1 := hb.cell 1
  have b2 := hb.cell 2
  have b3 := hb.cell 3
  have b4 := hb.cell 4
  have b5 := hb.cell 5
  have b6 := hb.cell 6
  unfold ActR.cells
  clear h ha P0 hb
  go_enter Try.func11, Try.ntmps11
  go_wp2_with (fail)
  refine (r_get (b := b) HP0.out.rr pk pm pi).mono ?_
  rintro e w5 ⟨rfl, K5⟩
  have HP5 := hid (HP0.out.kp0 K5)
  have HB5 := HB.out.kp K5 (by simp)
  have c1 := HB5.cell 1
  have c2 := HB5.cell 2
  have c3 := HB5.cell 3
  clear K5 HB5
  go_wp2_with (fail)
  refine (t_getp (b := tb) HP5.out.tr pk pm pi).mono ?_
  rintro e w6 ⟨rfl, K6⟩
  have HP6 := hid (HP5.out.kp0 K6)
  clear K6
  generalize t.getV pk pm pi = x1
  generalize t.getE pk pm pi = x2
  go_wp2
  go_ret
  exact ⟨rfl, _, _, rfl, rfl, HP6.out⟩
set_option maxRecDepth 100000 in
set_option maxHeartbeats 4000000 in
theorem play_repl3 (h : P3 w0 F X b tb t t w) (x : ActR) (hk : x.k = 3) (hf : IsI w0 x.vf x.f) (ht : IsI w0 x.vt x.tt) (hlen : x.f.length ≤ 60) :
    Calls Try.prog 11 #[.pointer (some ⟨b.g, 0, none⟩), .pointer (some ⟨tb.g, 0, none⟩), .agg x.cells] w (PlayQ w0 F X b tb (t.act x)) := by
  obtain ⟨k, pk, pm, pi, a, vf, vt, f, tt⟩ := x
  simp only at hk
  subst hk
  have ha : t.act ⟨3, pk, pm, pi, a, vf, vt, f, tt⟩ = (if repB f tt then (t.reps f tt t.xs).1 else t) := by simp [RT.act]
  rw [ha]
  have hb := Blk.new w 36 #[.int .i64 3, .int .i64 pk, .int .i64 pm, .int .i64 pi, .int .i64 a, vf, vt]
  have P0 := h.kp0 (Kp.new w (.cells #[.int .i64 3, .int .i64 pk, .int .i64 pm, .int .i64 pi, .int .i64 a, vf, vt] 36))
  have HXB : Hid (w.heap.size ∉ b.all) := fun hm => by have := h.rr.lt _ hm; omega
  have HXT : Hid (w.heap.size ∉ tb.all) := fun hm => by have := h.tr.lt _ hm; omega
  have HP0 := hid P0
  have HB := hid hb
  have b0 := hb.cell 0
  have b1 := hb.cell 1
  have b2 := hb.cell 2
  have b3 := hb.cell 3
  have b4 := hb.cell 4
  have b5 := hb.cell 5
  have b6 := hb.cell 6
  unfold ActR.cells
  clear h ha P0 hb
  have HF := hid hf
  have HT := hid ht
  have HL := hid hlen
  clear hf ht hlen
  rcases hg : repB f tt
  · rw [if_neg (by simp)]
    have HG := hid hg
    clear hg
    go_enter Try.func11, Try.ntmps11
    go_wp2_with (fail)
    refine (r_replace_bad (b := b) HP0.out.rr (HF.out.old (T := []) HP0.out.kp (by simp)).is (HT.out.old (T := []) HP0.out.kp (by simp)).is HG.out).mono ?_
    rintro e w5 ⟨rfl, K5⟩
    have HP5 := hid (HP0.out.kp0 K5)
    have HB5 := HB.out.kp K5 (by simp)
    have c5 := HB5.cell 5
    have c6 := HB5.cell 6
    clear K5 HB5
    go_wp2_with (fail)
    refine (t_replace_bad (b := tb) HP5.out.tr (HF.out.old (T := []) HP5.out.kp (by simp)).is (HT.out.old (T := []) HP5.out.kp (by simp)).is HG.out).mono ?_
    rintro e w6 ⟨rfl, K6⟩
    have HP6 := hid (HP5.out.kp0 K6)
    clear K6
    go_wp2
    go_ret
    exact ⟨rfl, _, _, rfl, rfl, HP6.out⟩
  · rw [if_pos rfl]
    have HG := hid hg
    have hgp := hg
    unfold repB at hgp
    simp only [Bool.and_eq_true, decide_eq_true_eq] at hgp
    have HGP := hid hgp
    clear hg hgp
    go_enter Try.func11, Try.ntmps11
    go_wp2_with (fail)
    refine (r_replace (b := b) HP0.out.rr (HF.out.old HP0.out.kp HP0.out.nb) (HT.out.old HP0.out.kp HP0.out.nb) HGP.out.1.1.1 HGP.out.1.1.2 HGP.out.1.2 HGP.out.2 (by have := HL.out; omega)).mono ?_
    rintro e w5 ⟨rfl, R5, K5⟩
    have HP5 := hid (HP0.out.stepR R5 K5)
    have HB5 := HB.out.kp K5 HXB.out
    have c5 := HB5.cell 5
    have c6 := HB5.cell 6
    clear K5 HB5 R5
    go_wp2_with (fail)
    refine (t_replace (b := tb) HP5.out.tr (HF.out.old HP5.out.kp HP5.out.nt) (HT.out.old HP5.out.kp HP5.out.nt) HG.out).mono ?_
    rintro e w6 ⟨rfl, T6, K6⟩
    have HP6 := hid (HP5.out.stepT T6 K6)
    clear K6 T6
    generalize (t.reps f tt t.xs).2 = x1
    go_wp2
    go_ret
    exact ⟨rfl, _, _, rfl, rfl, HP6.out⟩
set_option maxRecDepth 100000 in
set_option maxHeartbeats 4000000 in
theorem play_other3 (h : P3 w0 F X b tb t t w) (x : ActR) (h0 : x.k ≠ 0) (h1 : x.k ≠ 1) (h2 : x.k ≠ 2) (h3 : x.k ≠ 3) (h4 : x.k ≠ 4) :
    Calls Try.prog 11 #[.pointer (some ⟨b.g, 0, none⟩), .pointer (some ⟨tb.g, 0, none⟩), .agg x.cells] w (PlayQ w0 F X b tb (t.act x)) := by
  obtain ⟨k, pk, pm, pi, a, vf, vt, f, tt⟩ := x
  simp only at h0 h1 h2 h3 h4
  have ha : t.act ⟨k, pk, pm, pi, a, vf, vt, f, tt⟩ = t := by simp [RT.act, h0, h1, h2, h3]
  rw [ha]
  have hb := Blk.new w 36 #[.int .i64 k, .int .i64 pk, .int .i64 pm, .int .i64 pi, .int .i64 a, vf, vt]
  have HP0 := hid (h.kp0 (Kp.new w (.cells #[.int .i64 k, .int .i64 pk, .int .i64 pm, .int .i64 pi, .int .i64 a, vf, vt] 36)))
  have b0 := hb.cell 0
  have e0 : (k == 0) = false := beq_eq_false_iff_ne.2 h0
  have e1 : (k == 1) = false := beq_eq_false_iff_ne.2 h1
  have e2 : (k == 2) = false := beq_eq_false_iff_ne.2 h2
  have e3 : (k == 3) = false := beq_eq_false_iff_ne.2 h3
  have e4 : (k == 4) = false := beq_eq_false_iff_ne.2 h4
  unfold ActR.cells
  clear h ha hb
  go_enter Try.func11, Try.ntmps11
  go_wp2
  go_ret
  exact ⟨rfl, _, _, rfl, rfl, HP0.out⟩
theorem play_ok3 (h : P3 w0 F X b tb t t w) (x : ActR) (hx : x.Ok w0) (hlen : x.f.length ≤ 60) :
    Calls Try.prog 11 #[.pointer (some ⟨b.g, 0, none⟩), .pointer (some ⟨tb.g, 0, none⟩), .agg x.cells] w (PlayQ w0 F X b tb (t.act x)) := by
  by_cases h0 : x.k = 0
  · exact play_set3 h x h0
  · by_cases h1 : x.k = 1
    · exact play_push3 h x h1
    · by_cases h2 : x.k = 2
      · exact play_pop3 h x h2
      · by_cases h3 : x.k = 3
        · exact play_repl3 h x h3 hx.f hx.tt hlen
        · by_cases h4 : x.k = 4
          · exact play_get3 h x h4
          · exact play_other3 h x h0 h1 h2 h3 h4
end
end Go.Proofs.Ytnidadhoojbmeaa
