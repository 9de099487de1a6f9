/-
  RootsNone's walk: play with roots that nobody made, and the law. Conditions: those that stand in each theorem.
-/
import Derived.Test.YtkepgcpogblfaaaTa
import Derived.Test.YtkepgcpogblfaaaSu
namespace Go.Proofs.Ytkepgcpogblfaaa
set_option linter.unusedVariables false
set_option linter.unusedSimpArgs false
open Go.RowKit Go.Deep Go.Maps

section
variable {w w' : World} {v : Value}
set_option maxRecDepth 100000 in
set_option maxHeartbeats 1000000 in
theorem pn_set (h : NoR w v) (x : ActR) (hx : x.Ok w) (hk : x.k = 0) :
    Calls Try.prog 17 #[v, .pointer none, .agg x.cells] w fun e w' => e = .returned (.bool true) ∧ Kp [] w w' := by
  obtain ⟨k, pk, pm, pi, a, vf, vt, f, tt⟩ := x
  simp only at hk
  subst hk
  obtain ⟨⟨Af, cf, hvf, _⟩, ⟨At, ct, hvt, _⟩⟩ : IsI w vf f ∧ IsI w vt tt := ⟨hx.f, hx.tt⟩
  subst hvf hvt
  have hb := Blk.new w 36 #[.int .i64 0, .int .i64 pk, .int .i64 pm, .int .i64 pi, .int .i64 a, .slice Af f.length cf, .slice At tt.length ct]
  have HK := hid (Kp.new w (.cells #[.int .i64 0, .int .i64 pk, .int .i64 pm, .int .i64 pi, .int .i64 a, .slice Af f.length cf, .slice At tt.length ct] 36))
  have HN := hid (h.kp0 HK.out)
  have HB := hid hb
  have b0 := hb.cell 0
  have b1 := hb.cell 1
  have b2 := hb.cell 2
  have b3 := hb.cell 3
  have b4 := hb.cell 4
  have b5 := hb.cell 5
  have b6 := hb.cell 6
  unfold ActR.cells
  clear h hb hx
  go_enter Try.func17, Try.ntmps17
  go_wp2
  generalize w.alloc (.cells #[.int .i64 0, .int .i64 pk, .int .i64 pm, .int .i64 pi, .int .i64 a, .slice Af f.length cf, .slice At tt.length ct] 36) = w1 at *
  have HKD := HK.out.drewN 1
  have ND := HN.out.kp0 (Kp.draw w1 1)
  have BD := HB.out.kp (Kp.draw w1 1) (by simp)
  have s1 : w1.drew.cell? ⟨w.heap.size, 1, none⟩ = some (.int .i64 pk) := BD.cell 1
  have s2 : w1.drew.cell? ⟨w.heap.size, 2, none⟩ = some (.int .i64 pm) := BD.cell 2
  have s3 : w1.drew.cell? ⟨w.heap.size, 3, none⟩ = some (.int .i64 pi) := BD.cell 3
  have s4 : w1.drew.cell? ⟨w.heap.size, 4, none⟩ = some (.int .i64 a) := BD.cell 4
  go_region_held3 (fun W => W.cell? ⟨w.heap.size, 1, none⟩ = some (.int .i64 pk) ∧ W.cell? ⟨w.heap.size, 2, none⟩ = some (.int .i64 pm) ∧ W.cell? ⟨w.heap.size, 3, none⟩ = some (.int .i64 pi) ∧ W.cell? ⟨w.heap.size, 4, none⟩ = some (.int .i64 a)) (go_keep)
    (first
      | (go_at_call 25; refine (n_set (by assumption) pk pm pi a).mono ?_; rintro e w5 ⟨rfl, K5⟩; have N5 := NoR.kp0 (by assumption) K5; have B5 := Blk.kp (by assumption) K5 (by simp); have u1 := B5.cell 1; have u2 := B5.cell 2; have u3 := B5.cell 3; have u4 := B5.cell 4; have KK5 := Kp.chain (by assumption : Kp [] w _) K5; clear K5)
      | (go_at_call 37; refine (u_set _ pk pm pi a).mono ?_; rintro e w6 ⟨rfl, K6⟩; have N6 := NoR.kp0 (by assumption) K6; have B6 := Blk.kp (by assumption) K6 (by simp); have v1 := B6.cell 1; have v2 := B6.cell 2; have v3 := B6.cell 3; have v4 := B6.cell 4; have KK6 := Kp.chain (by assumption : Kp [] w _) K6; clear K6))
  all_goals (
    go_wp2
    go_ret
    exact ⟨rfl, by assumption⟩)
set_option maxRecDepth 100000 in
set_option maxHeartbeats 1000000 in
theorem pn_push (h : NoR w v) (x : ActR) (hx : x.Ok w) (hk : x.k = 1) :
    Calls Try.prog 17 #[v, .pointer none, .agg x.cells] w fun e w' => e = .returned (.bool true) ∧ Kp [] w w' := by
  obtain ⟨k, pk, pm, pi, a, vf, vt, f, tt⟩ := x
  simp only at hk
  subst hk
  obtain ⟨⟨Af, cf, hvf, _⟩, ⟨At, ct, hvt, _⟩⟩ : IsI w vf f ∧ IsI w vt tt := ⟨hx.f, hx.tt⟩
  subst hvf hvt
  have hb := Blk.new w 36 #[.int .i64 1, .int .i64 pk, .int .i64 pm, .int .i64 pi, .int .i64 a, .slice Af f.length cf, .slice At tt.length ct]
  have HK := hid (Kp.new w (.cells #[.int .i64 1, .int .i64 pk, .int .i64 pm, .int .i64 pi, .int .i64 a, .slice Af f.length cf, .slice At tt.length ct] 36))
  have HN := hid (h.kp0 HK.out)
  have HB := hid hb
  have b0 := hb.cell 0
  have b1 := hb.cell 1
  have b2 := hb.cell 2
  have b3 := hb.cell 3
  have b4 := hb.cell 4
  have b5 := hb.cell 5
  have b6 := hb.cell 6
  unfold ActR.cells
  clear h hb hx
  go_enter Try.func17, Try.ntmps17
  go_wp2
  generalize w.alloc (.cells #[.int .i64 1, .int .i64 pk, .int .i64 pm, .int .i64 pi, .int .i64 a, .slice Af f.length cf, .slice At tt.length ct] 36) = w1 at *
  have HKD := HK.out.drewN 1
  have ND := HN.out.kp0 (Kp.draw w1 1)
  have BD := HB.out.kp (Kp.draw w1 1) (by simp)
  have s4 : w1.drew.cell? ⟨w.heap.size, 4, none⟩ = some (.int .i64 a) := BD.cell 4
  go_region_held3 (fun W => W.cell? ⟨w.heap.size, 4, none⟩ = some (.int .i64 a)) (go_keep)
    (first
      | (go_at_call 27; refine (n_push (by assumption) a).mono ?_; rintro e w5 ⟨rfl, K5⟩; have N5 := NoR.kp0 (by assumption) K5; have B5 := Blk.kp (by assumption) K5 (by simp); have u4 := B5.cell 4; have KK5 := Kp.chain (by assumption : Kp [] w _) K5; clear K5)
      | (go_at_call 38; refine (u_push _ a).mono ?_; rintro e w6 ⟨rfl, K6⟩; have N6 := NoR.kp0 (by assumption) K6; have B6 := Blk.kp (by assumption) K6 (by simp); have v4 := B6.cell 4; have KK6 := Kp.chain (by assumption : Kp [] w _) K6; clear K6))
  all_goals (
    go_wp2
    go_ret
    exact ⟨rfl, by assumption⟩)
set_option maxRecDepth 100000 in
set_option maxHeartbeats 1000000 in
theorem pn_pop (h : NoR w v) (x : ActR) (hx : x.Ok w) (hk : x.k = 2) :
    Calls Try.prog 17 #[v, .pointer none, .agg x.cells] w fun e w' => e = .returned (.bool true) ∧ Kp [] w w' := by
  obtain ⟨k, pk, pm, pi, a, vf, vt, f, tt⟩ := x
  simp only at hk
  subst hk
  obtain ⟨⟨Af, cf, hvf, _⟩, ⟨At, ct, hvt, _⟩⟩ : IsI w vf f ∧ IsI w vt tt := ⟨hx.f, hx.tt⟩
  subst hvf hvt
  have hb := Blk.new w 36 #[.int .i64 2, .int .i64 pk, .int .i64 pm, .int .i64 pi, .int .i64 a, .slice Af f.length cf, .slice At tt.length ct]
  have HK := hid (Kp.new w (.cells #[.int .i64 2, .int .i64 pk, .int .i64 pm, .int .i64 pi, .int .i64 a, .slice Af f.length cf, .slice At tt.length ct] 36))
  have HN := hid (h.kp0 HK.out)
  have HB := hid hb
  have b0 := hb.cell 0
  have b1 := hb.cell 1
  have b2 := hb.cell 2
  have b3 := hb.cell 3
  have b4 := hb.cell 4
  have b5 := hb.cell 5
  have b6 := hb.cell 6
  unfold ActR.cells
  clear h hb hx
  go_enter Try.func17, Try.ntmps17
  go_wp2_with (fail)
  refine (n_pop HN.out).mono ?_
  rintro e w5 ⟨rfl, K5⟩
  have HK5 := hid (HK.out.chain K5)
  have bb := HB.out.kp K5 (by simp)
  have d1 := bb.cell 1
  have d2 := bb.cell 2
  have d3 := bb.cell 3
  have d5 := bb.cell 5
  have d6 := bb.cell 6
  clear K5 bb
  go_wp2_with (fail)
  refine (u_pop _).mono ?_
  rintro e w6 ⟨rfl, K6⟩
  have HK6 := hid (HK5.out.chain K6)
  clear K6
  go_wp2
  go_ret
  exact ⟨rfl, HK6.out⟩
set_option maxRecDepth 100000 in
set_option maxHeartbeats 1000000 in
theorem pn_repl (h : NoR w v) (x : ActR) (hx : x.Ok w) (hk : x.k = 3) :
    Calls Try.prog 17 #[v, .pointer none, .agg x.cells] w fun e w' => e = .returned (.bool true) ∧ Kp [] w w' := by
  obtain ⟨k, pk, pm, pi, a, vf, vt, f, tt⟩ := x
  simp only at hk
  subst hk
  obtain ⟨⟨Af, cf, hvf, _⟩, ⟨At, ct, hvt, _⟩⟩ : IsI w vf f ∧ IsI w vt tt := ⟨hx.f, hx.tt⟩
  subst hvf hvt
  have hb := Blk.new w 36 #[.int .i64 3, .int .i64 pk, .int .i64 pm, .int .i64 pi, .int .i64 a, .slice Af f.length cf, .slice At tt.length ct]
  have HK := hid (Kp.new w (.cells #[.int .i64 3, .int .i64 pk, .int .i64 pm, .int .i64 pi, .int .i64 a, .slice Af f.length cf, .slice At tt.length ct] 36))
  have HN := hid (h.kp0 HK.out)
  have HB := hid hb
  have b0 := hb.cell 0
  have b1 := hb.cell 1
  have b2 := hb.cell 2
  have b3 := hb.cell 3
  have b4 := hb.cell 4
  have b5 := hb.cell 5
  have b6 := hb.cell 6
  unfold ActR.cells
  clear h hb hx
  go_enter Try.func17, Try.ntmps17
  go_wp2_with (fail)
  refine (n_replace HN.out Af At f.length cf tt.length ct).mono ?_
  rintro e w5 ⟨rfl, K5⟩
  have HK5 := hid (HK.out.chain K5)
  have bb := HB.out.kp K5 (by simp)
  have d1 := bb.cell 1
  have d2 := bb.cell 2
  have d3 := bb.cell 3
  have d5 := bb.cell 5
  have d6 := bb.cell 6
  clear K5 bb
  go_wp2_with (fail)
  refine (u_replace _ _ _).mono ?_
  rintro e w6 ⟨rfl, K6⟩
  have HK6 := hid (HK5.out.chain K6)
  clear K6
  go_wp2
  go_ret
  exact ⟨rfl, HK6.out⟩
set_option maxRecDepth 100000 in
set_option maxHeartbeats 1000000 in
theorem pn_get (h : NoR w v) (x : ActR) (hx : x.Ok w) (hk : x.k = 4) :
    Calls Try.prog 17 #[v, .pointer none, .agg x.cells] w fun e w' => e = .returned (.bool true) ∧ Kp [] w w' := by
  obtain ⟨k, pk, pm, pi, a, vf, vt, f, tt⟩ := x
  simp only at hk
  subst hk
  obtain ⟨⟨Af, cf, hvf, _⟩, ⟨At, ct, hvt, _⟩⟩ : IsI w vf f ∧ IsI w vt tt := ⟨hx.f, hx.tt⟩
  subst hvf hvt
  have hb := Blk.new w 36 #[.int .i64 4, .int .i64 pk, .int .i64 pm, .int .i64 pi, .int .i64 a, .slice Af f.length cf, .slice At tt.length ct]
  have HK := hid (Kp.new w (.cells #[.int .i64 4, .int .i64 pk, .int .i64 pm, .int .i64 pi, .int .i64 a, .slice Af f.length cf, .slice At tt.length ct] 36))
  have HN := hid (h.kp0 HK.out)
  have HB := hid hb
  have b0 := hb.cell 0
  have b1 := hb.cell 1
  have b2 := hb.cell 2
  have b3 := hb.cell 3
  have b4 := hb.cell 4
  have b5 := hb.cell 5
  have b6 := hb.cell 6
  unfold ActR.cells
  clear h hb hx
  go_enter Try.func17, Try.ntmps17
  go_wp2_with (fail)
  refine (n_get HN.out pk pm pi).mono ?_
  rintro e w5 ⟨rfl, K5⟩
  have HK5 := hid (HK.out.chain K5)
  have bb := HB.out.kp K5 (by simp)
  have d1 := bb.cell 1
  have d2 := bb.cell 2
  have d3 := bb.cell 3
  have d5 := bb.cell 5
  have d6 := bb.cell 6
  clear K5 bb
  go_wp2_with (fail)
  refine (u_get _ pk pm pi).mono ?_
  rintro e w6 ⟨rfl, K6⟩
  have HK6 := hid (HK5.out.chain K6)
  clear K6
  go_wp2
  go_ret
  exact ⟨rfl, HK6.out⟩
set_option maxRecDepth 100000 in
set_option maxHeartbeats 1000000 in
theorem pn_other (h : NoR w v) (x : ActR) (hx : x.Ok w) (e0 : x.k ≠ 0) (e1 : x.k ≠ 1) (e2 : x.k ≠ 2) (e3 : x.k ≠ 3) (e4 : x.k ≠ 4) :
    Calls Try.prog 17 #[v, .pointer none, .agg x.cells] w fun e w' => e = .returned (.bool true) ∧ Kp [] w w' := by
  obtain ⟨k, pk, pm, pi, a, vf, vt, f, tt⟩ := x
  simp only at e0 e1 e2 e3 e4
  have z0 : (k == 0) = false := beq_eq_false_iff_ne.2 e0
  have z1 : (k == 1) = false := beq_eq_false_iff_ne.2 e1
  have z2 : (k == 2) = false := beq_eq_false_iff_ne.2 e2
  have z3 : (k == 3) = false := beq_eq_false_iff_ne.2 e3
  have z4 : (k == 4) = false := beq_eq_false_iff_ne.2 e4
  obtain ⟨⟨Af, cf, hvf, _⟩, ⟨At, ct, hvt, _⟩⟩ : IsI w vf f ∧ IsI w vt tt := ⟨hx.f, hx.tt⟩
  subst hvf hvt
  have hb := Blk.new w 36 #[.int .i64 k, .int .i64 pk, .int .i64 pm, .int .i64 pi, .int .i64 a, .slice Af f.length cf, .slice At tt.length ct]
  have HK := hid (Kp.new w (.cells #[.int .i64 k, .int .i64 pk, .int .i64 pm, .int .i64 pi, .int .i64 a, .slice Af f.length cf, .slice At tt.length ct] 36))
  have HN := hid (h.kp0 HK.out)
  have HB := hid hb
  have b0 := hb.cell 0
  have b1 := hb.cell 1
  have b2 := hb.cell 2
  have b3 := hb.cell 3
  have b4 := hb.cell 4
  have b5 := hb.cell 5
  have b6 := hb.cell 6
  unfold ActR.cells
  clear h hb hx
  go_enter Try.func17, Try.ntmps17
  go_wp2
  go_ret
  exact ⟨rfl, HK.out⟩
theorem play_none (h : NoR w v) (x : ActR) (hx : x.Ok w) :
    Calls Try.prog 17 #[v, .pointer none, .agg x.cells] w fun e w' => e = .returned (.bool true) ∧ Kp [] w w' := by
  by_cases h0 : x.k = 0
  · exact pn_set h x hx h0
  · by_cases h1 : x.k = 1
    · exact pn_push h x hx h1
    · by_cases h2 : x.k = 2
      · exact pn_pop h x hx h2
      · by_cases h3 : x.k = 3
        · exact pn_repl h x hx h3
        · by_cases h4 : x.k = 4
          · exact pn_get h x hx h4
          · exact pn_other h x hx h0 h1 h2 h3 h4
end
end Go.Proofs.Ytkepgcpogblfaaa
