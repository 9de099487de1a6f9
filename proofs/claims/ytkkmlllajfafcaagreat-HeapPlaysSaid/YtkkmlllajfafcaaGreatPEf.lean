/-
  The law's Play, act by act. Conditions: those that stand in each theorem.
-/
import Derived.BigQuiet
import Derived.Deep.RegionHeld3
import Derived.Test.YtkkmlllajfafcaaGreatPG15
import Derived.Test.YtkkmlllajfafcaaGreatPDx
import Derived.Test.YtkkmlllajfafcaaGreatPG17
import Derived.Test.YtkkmlllajfafcaaGreatPDj
import Derived.Test.YtkkmlllajfafcaaGreatPDf
import Derived.Test.YtkkmlllajfafcaaGreatPG7
import Derived.Test.YtkkmlllajfafcaaGreatPG6
import Derived.Test.YtkkmlllajfafcaaGreatPG9
import Derived.Test.YtkkmlllajfafcaaGreatPG12
namespace Go.Proofs.YtkkmlllajfafcaaGreat
set_option linter.unusedVariables false
set_option linter.unusedSimpArgs false
open Go.RowKit Go.Deep Go.Maps

section
variable {w w' w0 w1 w2 : World} {b : HB} {d : DB} {m m' : HM} {q p q1 p1 : Nat}
/-- What an act leaves on both sides. -/
structure PlS (w : World) (b : HB) (d : DB) (q p : Nat) (m' : HM) (w' : World) : Prop where
  s : SH w' b (q + 2) m'
  t : ∃ d', d'.g = d.g ∧ DR w' d' (p + 1) m' ∧ (∀ x ∈ b.all, x ∉ d'.all) ∧ ∀ x ∈ d'.all, x ∈ d.all ∨ w.heap.size ≤ x
  k : Kp (b.all ++ d.all) w w'
theorem PlS.mk0 (dj : ∀ x ∈ b.all, x ∉ d.all) (K0 : Kp [] w w0) (S1 : SH w1 b q1 m') (K1 : Kp b.all w0 w1) (C : DChg w1 d p1 m' w2) (h1 : q1 ≤ q + 2) (h2 : p1 ≤ p + 1) : PlS w b d q p m' w2 := by
  obtain ⟨d', e1, T', K2, N2⟩ := C
  refine ⟨(S1.kp K2 dj).mono h1, ⟨d', e1, T'.mono h2, fun x hx hm => ?_, fun x hx => ?_⟩, (K0.trans K1 (by simp) (fun x hx => .inl hx)).trans K2 (U := b.all ++ d.all) (fun x hx => .inl (List.mem_append.2 (.inl hx))) (fun x hx => .inl (List.mem_append.2 (.inr hx)))⟩
  · rcases N2 x hm with h | h
    · exact dj x hx h
    · have := S1.lt x hx
      omega
  · rcases N2 x hx with h | h
    · exact .inl h
    · exact .inr (Nat.le_trans (K0.trans K1 (by simp) (fun x hx => .inl hx) : Kp b.all w w1).size h)
def plP (w : World) (b : HB) (d : DB) (q p : Nat) (m' : HM) (e : Ending) (w' : World) : Prop := e = .returned (.bool true) ∧ PlS w b d q p m' w'
set_option maxRecDepth 100000 in
set_option maxHeartbeats 1000000 in
theorem play0 (S : SH w b q m) (T : DR w d p m) (t : m.Tl) (dj : ∀ x ∈ b.all, x ∉ d.all) (a b' c x dd k : Int) (ha : W64 a) (hb : W64 b') (hc : W64 c) (hq : q ≤ 900000000) (hp : p ≤ 900000000) :
    Calls Tryz.prog 16 #[.pointer (some ⟨b.g, 0, none⟩), .pointer (some ⟨d.g, 0, none⟩), .agg #[.int .i64 0, .int .i64 a, .int .i64 b', .int .i64 c, .int .i64 x, .int .i64 dd, .int .i64 k]] w (plP w b d q p (m.claimM a 1 b' 1)) := by
  have HS := hid S
  have HT := hid T
  have HTL := hid t
  have HDJ := hid dj
  have ha := hid ha
  have hb := hid hb
  have hc := hid hc
  have HB0 := hid (Blk.new w 35 #[.int .i64 0, .int .i64 a, .int .i64 b', .int .i64 c, .int .i64 x, .int .i64 dd, .int .i64 k])
  have HK0 := hid (Kp.new w (.cells #[.int .i64 0, .int .i64 a, .int .i64 b', .int .i64 c, .int .i64 x, .int .i64 dd, .int .i64 k] 35))
  have HLB : Hid (w.heap.size ∉ b.all) := fun h => absurd (S.lt _ h) (Nat.lt_irrefl _)
  have HLD : Hid (w.heap.size ∉ d.all) := fun h => absurd (T.lt _ h) (Nat.lt_irrefl _)
  clear S T t dj
  go_enter Tryz.func16, Tryz.ntmps16
  go_wp2_with (fail)
  generalize hw0 : w.alloc (.cells #[.int .i64 0, .int .i64 a, .int .i64 b', .int .i64 c, .int .i64 x, .int .i64 dd, .int .i64 k] 35) = w0 at HB0 HK0 ⊢
  generalize hgb : w.heap.size = gb at HB0 HLB HLD ⊢
  clear hw0 hgb
  have hB0 := HB0.out
  have z1 := hB0.cell 1
  have z2 := hB0.cell 2
  have z3 := hB0.cell 3
  clear hB0
  have v1 := kp_cellD (Kp.draw w0 1) z1
  have v2 := kp_cellD (Kp.draw w0 1) z2
  have v3 := kp_cellD (Kp.draw w0 1) z3
  go_region_held3 (fun W => W.cell? ⟨gb, 1, none⟩ = some (.int .i64 a) ∧ W.cell? ⟨gb, 2, none⟩ = some (.int .i64 b') ∧ W.cell? ⟨gb, 3, none⟩ = some (.int .i64 c)) (go_keep)
    (first
      | (go_at_call 43; refine (h_Claim ((HS.out.kp0 HK0.out).drewN 1) _ _).mono ?_; rintro e w1 ⟨rfl, S1, K1⟩; have HS1 := hid S1; have HK1 : Hid (Kp b.all w0 w1) := (Kp.draw w0 1).trans K1 (by simp) (fun y hy => .inl hy); have HT1 := hid ((HT.out.kp0 HK0.out).kp HK1.out (fun y hy hm => HDJ.out y hm hy)); have u1 := cell_kps HK1.out z1 HLB.out; have u2 := cell_kps HK1.out z2 HLB.out; have u3 := cell_kps HK1.out z3 HLB.out; clear S1 K1)
      | (go_at_call 61; refine (d_Claim HT1.out _ _).mono ?_; rintro e w2 ⟨rfl, C2⟩; have HC := hid (PlS.mk0 HDJ.out HK0.out HS1.out HK1.out C2 (q := q) (p := p) (by omega) (by omega)); have hk2 : Kp d.all w1 w2 := (by obtain ⟨_, _, _, K, _⟩ := C2; exact K); have x1 := cell_kps hk2 u1 HLD.out; have x2 := cell_kps hk2 u2 HLD.out; have x3 := cell_kps hk2 u3 HLD.out; clear C2 hk2))
  all_goals (
    go_wp2
    go_ret
    exact ⟨rfl, HC.out⟩)
set_option maxRecDepth 100000 in
set_option maxHeartbeats 1000000 in
theorem play1 (S : SH w b q m) (T : DR w d p m) (t : m.Tl) (dj : ∀ x ∈ b.all, x ∉ d.all) (a b' c x dd k : Int) (ha : W64 a) (hb : W64 b') (hc : W64 c) (hq : q ≤ 900000000) (hp : p ≤ 900000000) :
    Calls Tryz.prog 16 #[.pointer (some ⟨b.g, 0, none⟩), .pointer (some ⟨d.g, 0, none⟩), .agg #[.int .i64 1, .int .i64 a, .int .i64 b', .int .i64 c, .int .i64 x, .int .i64 dd, .int .i64 k]] w (plP w b d q p (m.claimM a b' c 2)) := by
  have HS := hid S
  have HT := hid T
  have HTL := hid t
  have HDJ := hid dj
  have ha := hid ha
  have hb := hid hb
  have hc := hid hc
  have HB0 := hid (Blk.new w 35 #[.int .i64 1, .int .i64 a, .int .i64 b', .int .i64 c, .int .i64 x, .int .i64 dd, .int .i64 k])
  have HK0 := hid (Kp.new w (.cells #[.int .i64 1, .int .i64 a, .int .i64 b', .int .i64 c, .int .i64 x, .int .i64 dd, .int .i64 k] 35))
  have HLB : Hid (w.heap.size ∉ b.all) := fun h => absurd (S.lt _ h) (Nat.lt_irrefl _)
  have HLD : Hid (w.heap.size ∉ d.all) := fun h => absurd (T.lt _ h) (Nat.lt_irrefl _)
  clear S T t dj
  go_enter Tryz.func16, Tryz.ntmps16
  go_wp2_with (fail)
  generalize hw0 : w.alloc (.cells #[.int .i64 1, .int .i64 a, .int .i64 b', .int .i64 c, .int .i64 x, .int .i64 dd, .int .i64 k] 35) = w0 at HB0 HK0 ⊢
  generalize hgb : w.heap.size = gb at HB0 HLB HLD ⊢
  clear hw0 hgb
  have hB0 := HB0.out
  have z1 := hB0.cell 1
  have z2 := hB0.cell 2
  have z3 := hB0.cell 3
  clear hB0
  have v1 := kp_cellD (Kp.draw w0 1) z1
  have v2 := kp_cellD (Kp.draw w0 1) z2
  have v3 := kp_cellD (Kp.draw w0 1) z3
  go_region_held3 (fun W => W.cell? ⟨gb, 1, none⟩ = some (.int .i64 a) ∧ W.cell? ⟨gb, 2, none⟩ = some (.int .i64 b') ∧ W.cell? ⟨gb, 3, none⟩ = some (.int .i64 c)) (go_keep)
    (first
      | (go_at_call 50; refine (h_ClaimLarge ((HS.out.kp0 HK0.out).drewN 1) _ _ _).mono ?_; rintro e w1 ⟨rfl, S1, K1⟩; have HS1 := hid S1; have HK1 : Hid (Kp b.all w0 w1) := (Kp.draw w0 1).trans K1 (by simp) (fun y hy => .inl hy); have HT1 := hid ((HT.out.kp0 HK0.out).kp HK1.out (fun y hy hm => HDJ.out y hm hy)); have u1 := cell_kps HK1.out z1 HLB.out; have u2 := cell_kps HK1.out z2 HLB.out; have u3 := cell_kps HK1.out z3 HLB.out; clear S1 K1)
      | (go_at_call 62; refine (d_ClaimLarge HT1.out _ _ _).mono ?_; rintro e w2 ⟨rfl, C2⟩; have HC := hid (PlS.mk0 HDJ.out HK0.out HS1.out HK1.out C2 (q := q) (p := p) (by omega) (by omega)); have hk2 : Kp d.all w1 w2 := (by obtain ⟨_, _, _, K, _⟩ := C2; exact K); have x1 := cell_kps hk2 u1 HLD.out; have x2 := cell_kps hk2 u2 HLD.out; have x3 := cell_kps hk2 u3 HLD.out; clear C2 hk2))
  all_goals (
    go_wp2
    go_ret
    exact ⟨rfl, HC.out⟩)
set_option maxRecDepth 100000 in
set_option maxHeartbeats 1000000 in
theorem play2 (S : SH w b q m) (T : DR w d p m) (t : m.Tl) (dj : ∀ x ∈ b.all, x ∉ d.all) (a b' c x dd k : Int) (ha : W64 a) (hb : W64 b') (hc : W64 c) (hq : q ≤ 900000000) (hp : p ≤ 900000000) :
    Calls Tryz.prog 16 #[.pointer (some ⟨b.g, 0, none⟩), .pointer (some ⟨d.g, 0, none⟩), .agg #[.int .i64 2, .int .i64 a, .int .i64 b', .int .i64 c, .int .i64 x, .int .i64 dd, .int .i64 k]] w (plP w b d q p (m.releaseM a)) := by
  have HS := hid S
  have HT := hid T
  have HTL := hid t
  have HDJ := hid dj
  have ha := hid ha
  have hb := hid hb
  have hc := hid hc
  have HB0 := hid (Blk.new w 35 #[.int .i64 2, .int .i64 a, .int .i64 b', .int .i64 c, .int .i64 x, .int .i64 dd, .int .i64 k])
  have HK0 := hid (Kp.new w (.cells #[.int .i64 2, .int .i64 a, .int .i64 b', .int .i64 c, .int .i64 x, .int .i64 dd, .int .i64 k] 35))
  have HLB : Hid (w.heap.size ∉ b.all) := fun h => absurd (S.lt _ h) (Nat.lt_irrefl _)
  have HLD : Hid (w.heap.size ∉ d.all) := fun h => absurd (T.lt _ h) (Nat.lt_irrefl _)
  clear S T t dj
  go_enter Tryz.func16, Tryz.ntmps16
  go_wp2_with (fail)
  generalize hw0 : w.alloc (.cells #[.int .i64 2, .int .i64 a, .int .i64 b', .int .i64 c, .int .i64 x, .int .i64 dd, .int .i64 k] 35) = w0 at HB0 HK0 ⊢
  generalize hgb : w.heap.size = gb at HB0 HLB HLD ⊢
  clear hw0 hgb
  have hB0 := HB0.out
  have z1 := hB0.cell 1
  have z2 := hB0.cell 2
  have z3 := hB0.cell 3
  clear hB0
  have v1 := kp_cellD (Kp.draw w0 1) z1
  have v2 := kp_cellD (Kp.draw w0 1) z2
  have v3 := kp_cellD (Kp.draw w0 1) z3
  go_region_held3 (fun W => W.cell? ⟨gb, 1, none⟩ = some (.int .i64 a) ∧ W.cell? ⟨gb, 2, none⟩ = some (.int .i64 b') ∧ W.cell? ⟨gb, 3, none⟩ = some (.int .i64 c)) (go_keep)
    (first
      | (go_at_call 52; refine (h_release ((HS.out.kp0 HK0.out).drewN 1) _).mono ?_; rintro e w1 ⟨rfl, S1, K1⟩; have HS1 := hid S1; have HK1 : Hid (Kp b.all w0 w1) := (Kp.draw w0 1).trans K1 (by simp) (fun y hy => .inl hy); have HT1 := hid ((HT.out.kp0 HK0.out).kp HK1.out (fun y hy hm => HDJ.out y hm hy)); have u1 := cell_kps HK1.out z1 HLB.out; have u2 := cell_kps HK1.out z2 HLB.out; have u3 := cell_kps HK1.out z3 HLB.out; clear S1 K1)
      | (go_at_call 63; refine (d_release HT1.out HTL.out _).mono ?_; rintro e w2 ⟨rfl, C2⟩; have HC := hid (PlS.mk0 HDJ.out HK0.out HS1.out HK1.out C2 (q := q) (p := p) (by omega) (by omega)); have hk2 : Kp d.all w1 w2 := (by obtain ⟨_, _, _, K, _⟩ := C2; exact K); have x1 := cell_kps hk2 u1 HLD.out; have x2 := cell_kps hk2 u2 HLD.out; have x3 := cell_kps hk2 u3 HLD.out; clear C2 hk2))
  all_goals (
    go_wp2
    go_ret
    exact ⟨rfl, HC.out⟩)
set_option maxRecDepth 100000 in
set_option maxHeartbeats 1000000 in
theorem play3 (S : SH w b q m) (T : DR w d p m) (t : m.Tl) (dj : ∀ x ∈ b.all, x ∉ d.all) (a b' c x dd k : Int) (ha : W64 a) (hb : W64 b') (hc : W64 c) (hq : q ≤ 900000000) (hp : p ≤ 900000000) :
    Calls Tryz.prog 16 #[.pointer (some ⟨b.g, 0, none⟩), .pointer (some ⟨d.g, 0, none⟩), .agg #[.int .i64 3, .int .i64 a, .int .i64 b', .int .i64 c, .int .i64 x, .int .i64 dd, .int .i64 k]] w (plP w b d q p (m.retagM a b')) := by
  have HS := hid S
  have HT := hid T
  have HTL := hid t
  have HDJ := hid dj
  have ha := hid ha
  have hb := hid hb
  have hc := hid hc
  have HB0 := hid (Blk.new w 35 #[.int .i64 3, .int .i64 a, .int .i64 b', .int .i64 c, .int .i64 x, .int .i64 dd, .int .i64 k])
  have HK0 := hid (Kp.new w (.cells #[.int .i64 3, .int .i64 a, .int .i64 b', .int .i64 c, .int .i64 x, .int .i64 dd, .int .i64 k] 35))
  have HLB : Hid (w.heap.size ∉ b.all) := fun h => absurd (S.lt _ h) (Nat.lt_irrefl _)
  have HLD : Hid (w.heap.size ∉ d.all) := fun h => absurd (T.lt _ h) (Nat.lt_irrefl _)
  clear S T t dj
  go_enter Tryz.func16, Tryz.ntmps16
  go_wp2_with (fail)
  generalize hw0 : w.alloc (.cells #[.int .i64 3, .int .i64 a, .int .i64 b', .int .i64 c, .int .i64 x, .int .i64 dd, .int .i64 k] 35) = w0 at HB0 HK0 ⊢
  generalize hgb : w.heap.size = gb at HB0 HLB HLD ⊢
  clear hw0 hgb
  have hB0 := HB0.out
  have z1 := hB0.cell 1
  have z2 := hB0.cell 2
  have z3 := hB0.cell 3
  clear hB0
  have v1 := kp_cellD (Kp.draw w0 1) z1
  have v2 := kp_cellD (Kp.draw w0 1) z2
  have v3 := kp_cellD (Kp.draw w0 1) z3
  go_region_held3 (fun W => W.cell? ⟨gb, 1, none⟩ = some (.int .i64 a) ∧ W.cell? ⟨gb, 2, none⟩ = some (.int .i64 b') ∧ W.cell? ⟨gb, 3, none⟩ = some (.int .i64 c)) (go_keep)
    (first
      | (go_at_call 64; refine (h_retag ((HS.out.kp0 HK0.out).drewN 1) _ _).mono ?_; rintro e w1 ⟨rfl, S1, K1⟩; have HS1 := hid S1; have HK1 : Hid (Kp b.all w0 w1) := (Kp.draw w0 1).trans K1 (by simp) (fun y hy => .inl hy); have HT1 := hid ((HT.out.kp0 HK0.out).kp HK1.out (fun y hy hm => HDJ.out y hm hy)); have u1 := cell_kps HK1.out z1 HLB.out; have u2 := cell_kps HK1.out z2 HLB.out; have u3 := cell_kps HK1.out z3 HLB.out; clear S1 K1)
      | (go_at_call 65; refine (d_retag HT1.out HTL.out _ _).mono ?_; rintro e w2 ⟨rfl, C2⟩; have HC := hid (PlS.mk0 HDJ.out HK0.out HS1.out HK1.out C2 (q := q) (p := p) (by omega) (by omega)); have hk2 : Kp d.all w1 w2 := (by obtain ⟨_, _, _, K, _⟩ := C2; exact K); have x1 := cell_kps hk2 u1 HLD.out; have x2 := cell_kps hk2 u2 HLD.out; have x3 := cell_kps hk2 u3 HLD.out; clear C2 hk2))
  all_goals (
    go_wp2
    go_ret
    exact ⟨rfl, HC.out⟩)
set_option maxRecDepth 100000 in
set_option maxHeartbeats 1000000 in
theorem play5 (S : SH w b q m) (T : DR w d p m) (t : m.Tl) (dj : ∀ x ∈ b.all, x ∉ d.all) (a b' c x dd k : Int) (ha : W64 a) (hb : W64 b') (hc : W64 c) (hq : q ≤ 900000000) (hp : p ≤ 900000000) :
    Calls Tryz.prog 16 #[.pointer (some ⟨b.g, 0, none⟩), .pointer (some ⟨d.g, 0, none⟩), .agg #[.int .i64 5, .int .i64 a, .int .i64 b', .int .i64 c, .int .i64 x, .int .i64 dd, .int .i64 k]] w (plP w b d q p (m.killM a)) := by
  have HS := hid S
  have HT := hid T
  have HTL := hid t
  have HDJ := hid dj
  have ha := hid ha
  have hb := hid hb
  have hc := hid hc
  have HB0 := hid (Blk.new w 35 #[.int .i64 5, .int .i64 a, .int .i64 b', .int .i64 c, .int .i64 x, .int .i64 dd, .int .i64 k])
  have HK0 := hid (Kp.new w (.cells #[.int .i64 5, .int .i64 a, .int .i64 b', .int .i64 c, .int .i64 x, .int .i64 dd, .int .i64 k] 35))
  have HLB : Hid (w.heap.size ∉ b.all) := fun h => absurd (S.lt _ h) (Nat.lt_irrefl _)
  have HLD : Hid (w.heap.size ∉ d.all) := fun h => absurd (T.lt _ h) (Nat.lt_irrefl _)
  clear S T t dj
  go_enter Tryz.func16, Tryz.ntmps16
  go_wp2_with (fail)
  generalize hw0 : w.alloc (.cells #[.int .i64 5, .int .i64 a, .int .i64 b', .int .i64 c, .int .i64 x, .int .i64 dd, .int .i64 k] 35) = w0 at HB0 HK0 ⊢
  generalize hgb : w.heap.size = gb at HB0 HLB HLD ⊢
  clear hw0 hgb
  have hB0 := HB0.out
  have z1 := hB0.cell 1
  have z2 := hB0.cell 2
  have z3 := hB0.cell 3
  clear hB0
  have v1 := kp_cellD (Kp.draw w0 1) z1
  have v2 := kp_cellD (Kp.draw w0 1) z2
  have v3 := kp_cellD (Kp.draw w0 1) z3
  go_region_held3 (fun W => W.cell? ⟨gb, 1, none⟩ = some (.int .i64 a) ∧ W.cell? ⟨gb, 2, none⟩ = some (.int .i64 b') ∧ W.cell? ⟨gb, 3, none⟩ = some (.int .i64 c)) (go_keep)
    (first
      | (go_at_call 51; refine (h_kill ((HS.out.kp0 HK0.out).drewN 1) _ ha.out (by omega)).mono ?_; rintro e w1 ⟨rfl, S1, K1⟩; have HS1 := hid S1; have HK1 : Hid (Kp b.all w0 w1) := (Kp.draw w0 1).trans K1 (by simp) (fun y hy => .inl hy); have HT1 := hid ((HT.out.kp0 HK0.out).kp HK1.out (fun y hy hm => HDJ.out y hm hy)); have u1 := cell_kps HK1.out z1 HLB.out; have u2 := cell_kps HK1.out z2 HLB.out; have u3 := cell_kps HK1.out z3 HLB.out; clear S1 K1)
      | (go_at_call 67; refine (d_kill HT1.out _).mono ?_; rintro e w2 ⟨rfl, C2⟩; have HC := hid (PlS.mk0 HDJ.out HK0.out HS1.out HK1.out C2 (q := q) (p := p) (by omega) (by omega)); have hk2 : Kp d.all w1 w2 := (by obtain ⟨_, _, _, K, _⟩ := C2; exact K); have x1 := cell_kps hk2 u1 HLD.out; have x2 := cell_kps hk2 u2 HLD.out; have x3 := cell_kps hk2 u3 HLD.out; clear C2 hk2))
  all_goals (
    go_wp2
    go_ret
    exact ⟨rfl, HC.out⟩)
set_option maxRecDepth 100000 in
set_option maxHeartbeats 1000000 in
theorem play6 (S : SH w b q m) (T : DR w d p m) (t : m.Tl) (dj : ∀ x ∈ b.all, x ∉ d.all) (a b' c x dd k : Int) (ha : W64 a) (hb : W64 b') (hc : W64 c) (hq : q ≤ 900000000) (hp : p ≤ 900000000) :
    Calls Tryz.prog 16 #[.pointer (some ⟨b.g, 0, none⟩), .pointer (some ⟨d.g, 0, none⟩), .agg #[.int .i64 6, .int .i64 a, .int .i64 b', .int .i64 c, .int .i64 x, .int .i64 dd, .int .i64 k]] w (plP w b d q p (m.moveM a b')) := by
  have HS := hid S
  have HT := hid T
  have HTL := hid t
  have HDJ := hid dj
  have ha := hid ha
  have hb := hid hb
  have hc := hid hc
  have HB0 := hid (Blk.new w 35 #[.int .i64 6, .int .i64 a, .int .i64 b', .int .i64 c, .int .i64 x, .int .i64 dd, .int .i64 k])
  have HK0 := hid (Kp.new w (.cells #[.int .i64 6, .int .i64 a, .int .i64 b', .int .i64 c, .int .i64 x, .int .i64 dd, .int .i64 k] 35))
  have HLB : Hid (w.heap.size ∉ b.all) := fun h => absurd (S.lt _ h) (Nat.lt_irrefl _)
  have HLD : Hid (w.heap.size ∉ d.all) := fun h => absurd (T.lt _ h) (Nat.lt_irrefl _)
  clear S T t dj
  go_enter Tryz.func16, Tryz.ntmps16
  go_wp2_with (fail)
  generalize hw0 : w.alloc (.cells #[.int .i64 6, .int .i64 a, .int .i64 b', .int .i64 c, .int .i64 x, .int .i64 dd, .int .i64 k] 35) = w0 at HB0 HK0 ⊢
  generalize hgb : w.heap.size = gb at HB0 HLB HLD ⊢
  clear hw0 hgb
  have hB0 := HB0.out
  have z1 := hB0.cell 1
  have z2 := hB0.cell 2
  have z3 := hB0.cell 3
  clear hB0
  have v1 := kp_cellD (Kp.draw w0 1) z1
  have v2 := kp_cellD (Kp.draw w0 1) z2
  have v3 := kp_cellD (Kp.draw w0 1) z3
  go_region_held3 (fun W => W.cell? ⟨gb, 1, none⟩ = some (.int .i64 a) ∧ W.cell? ⟨gb, 2, none⟩ = some (.int .i64 b') ∧ W.cell? ⟨gb, 3, none⟩ = some (.int .i64 c)) (go_keep)
    (first
      | (go_at_call 47; refine (h_move ((HS.out.kp0 HK0.out).drewN 1) _ _ ha.out hb.out hq).mono ?_; rintro e w1 ⟨rfl, S1, K1⟩; have HS1 := hid S1; have HK1 : Hid (Kp b.all w0 w1) := (Kp.draw w0 1).trans K1 (by simp) (fun y hy => .inl hy); have HT1 := hid ((HT.out.kp0 HK0.out).kp HK1.out (fun y hy hm => HDJ.out y hm hy)); have u1 := cell_kps HK1.out z1 HLB.out; have u2 := cell_kps HK1.out z2 HLB.out; have u3 := cell_kps HK1.out z3 HLB.out; clear S1 K1)
      | (go_at_call 68; refine (d_move HT1.out _ _ hb.out hp).mono ?_; rintro e w2 ⟨rfl, C2⟩; have HC := hid (PlS.mk0 HDJ.out HK0.out HS1.out HK1.out C2 (q := q) (p := p) (by omega) (by omega)); have hk2 : Kp d.all w1 w2 := (by obtain ⟨_, _, _, K, _⟩ := C2; exact K); have x1 := cell_kps hk2 u1 HLD.out; have x2 := cell_kps hk2 u2 HLD.out; have x3 := cell_kps hk2 u3 HLD.out; clear C2 hk2))
  all_goals (
    go_wp2
    go_ret
    exact ⟨rfl, HC.out⟩)
set_option maxRecDepth 100000 in
set_option maxHeartbeats 1000000 in
theorem play7 (S : SH w b q m) (T : DR w d p m) (t : m.Tl) (dj : ∀ x ∈ b.all, x ∉ d.all) (a b' c x dd k : Int) (ha : W64 a) (hb : W64 b') (hc : W64 c) (hq : q ≤ 900000000) (hp : p ≤ 900000000) :
    Calls Tryz.prog 16 #[.pointer (some ⟨b.g, 0, none⟩), .pointer (some ⟨d.g, 0, none⟩), .agg #[.int .i64 7, .int .i64 a, .int .i64 b', .int .i64 c, .int .i64 x, .int .i64 dd, .int .i64 k]] w (plP w b d q p (m.setRefM a b' c)) := by
  have HS := hid S
  have HT := hid T
  have HTL := hid t
  have HDJ := hid dj
  have ha := hid ha
  have hb := hid hb
  have hc := hid hc
  have HB0 := hid (Blk.new w 35 #[.int .i64 7, .int .i64 a, .int .i64 b', .int .i64 c, .int .i64 x, .int .i64 dd, .int .i64 k])
  have HK0 := hid (Kp.new w (.cells #[.int .i64 7, .int .i64 a, .int .i64 b', .int .i64 c, .int .i64 x, .int .i64 dd, .int .i64 k] 35))
  have HLB : Hid (w.heap.size ∉ b.all) := fun h => absurd (S.lt _ h) (Nat.lt_irrefl _)
  have HLD : Hid (w.heap.size ∉ d.all) := fun h => absurd (T.lt _ h) (Nat.lt_irrefl _)
  clear S T t dj
  go_enter Tryz.func16, Tryz.ntmps16
  go_wp2_with (fail)
  generalize hw0 : w.alloc (.cells #[.int .i64 7, .int .i64 a, .int .i64 b', .int .i64 c, .int .i64 x, .int .i64 dd, .int .i64 k] 35) = w0 at HB0 HK0 ⊢
  generalize hgb : w.heap.size = gb at HB0 HLB HLD ⊢
  clear hw0 hgb
  have hB0 := HB0.out
  have z1 := hB0.cell 1
  have z2 := hB0.cell 2
  have z3 := hB0.cell 3
  clear hB0
  have v1 := kp_cellD (Kp.draw w0 1) z1
  have v2 := kp_cellD (Kp.draw w0 1) z2
  have v3 := kp_cellD (Kp.draw w0 1) z3
  go_region_held3 (fun W => W.cell? ⟨gb, 1, none⟩ = some (.int .i64 a) ∧ W.cell? ⟨gb, 2, none⟩ = some (.int .i64 b') ∧ W.cell? ⟨gb, 3, none⟩ = some (.int .i64 c)) (go_keep)
    (first
      | (go_at_call 69; refine (h_setRef ((HS.out.kp0 HK0.out).drewN 1) _ _ _ ha.out hc.out).mono ?_; rintro e w1 ⟨rfl, S1, K1⟩; have HS1 := hid S1; have HK1 : Hid (Kp b.all w0 w1) := (Kp.draw w0 1).trans K1 (by simp) (fun y hy => .inl hy); have HT1 := hid ((HT.out.kp0 HK0.out).kp HK1.out (fun y hy hm => HDJ.out y hm hy)); have u1 := cell_kps HK1.out z1 HLB.out; have u2 := cell_kps HK1.out z2 HLB.out; have u3 := cell_kps HK1.out z3 HLB.out; clear S1 K1)
      | (go_at_call 70; refine (d_setref HT1.out _ _ _).mono ?_; rintro e w2 ⟨rfl, C2⟩; have HC := hid (PlS.mk0 HDJ.out HK0.out HS1.out HK1.out C2 (q := q) (p := p) (by omega) (by omega)); have hk2 : Kp d.all w1 w2 := (by obtain ⟨_, _, _, K, _⟩ := C2; exact K); have x1 := cell_kps hk2 u1 HLD.out; have x2 := cell_kps hk2 u2 HLD.out; have x3 := cell_kps hk2 u3 HLD.out; clear C2 hk2))
  all_goals (
    go_wp2
    go_ret
    exact ⟨rfl, HC.out⟩)
set_option maxRecDepth 100000 in
set_option maxHeartbeats 1000000 in
theorem play8 (S : SH w b q m) (T : DR w d p m) (t : m.Tl) (dj : ∀ x ∈ b.all, x ∉ d.all) (a b' c x dd k : Int) (ha : W64 a) (hb : W64 b') (hc : W64 c) (hq : q ≤ 900000000) (hp : p ≤ 900000000) :
    Calls Tryz.prog 16 #[.pointer (some ⟨b.g, 0, none⟩), .pointer (some ⟨d.g, 0, none⟩), .agg #[.int .i64 8, .int .i64 a, .int .i64 b', .int .i64 c, .int .i64 x, .int .i64 dd, .int .i64 k]] w (plP w b d q p (m.setDatM a b' c)) := by
  have HS := hid S
  have HT := hid T
  have HTL := hid t
  have HDJ := hid dj
  have ha := hid ha
  have hb := hid hb
  have hc := hid hc
  have HB0 := hid (Blk.new w 35 #[.int .i64 8, .int .i64 a, .int .i64 b', .int .i64 c, .int .i64 x, .int .i64 dd, .int .i64 k])
  have HK0 := hid (Kp.new w (.cells #[.int .i64 8, .int .i64 a, .int .i64 b', .int .i64 c, .int .i64 x, .int .i64 dd, .int .i64 k] 35))
  have HLB : Hid (w.heap.size ∉ b.all) := fun h => absurd (S.lt _ h) (Nat.lt_irrefl _)
  have HLD : Hid (w.heap.size ∉ d.all) := fun h => absurd (T.lt _ h) (Nat.lt_irrefl _)
  clear S T t dj
  go_enter Tryz.func16, Tryz.ntmps16
  go_wp2_with (fail)
  generalize hw0 : w.alloc (.cells #[.int .i64 8, .int .i64 a, .int .i64 b', .int .i64 c, .int .i64 x, .int .i64 dd, .int .i64 k] 35) = w0 at HB0 HK0 ⊢
  generalize hgb : w.heap.size = gb at HB0 HLB HLD ⊢
  clear hw0 hgb
  have hB0 := HB0.out
  have z1 := hB0.cell 1
  have z2 := hB0.cell 2
  have z3 := hB0.cell 3
  clear hB0
  have v1 := kp_cellD (Kp.draw w0 1) z1
  have v2 := kp_cellD (Kp.draw w0 1) z2
  have v3 := kp_cellD (Kp.draw w0 1) z3
  go_region_held3 (fun W => W.cell? ⟨gb, 1, none⟩ = some (.int .i64 a) ∧ W.cell? ⟨gb, 2, none⟩ = some (.int .i64 b') ∧ W.cell? ⟨gb, 3, none⟩ = some (.int .i64 c)) (go_keep)
    (first
      | (go_at_call 71; refine (h_setData ((HS.out.kp0 HK0.out).drewN 1) _ _ _ ha.out).mono ?_; rintro e w1 ⟨rfl, S1, K1⟩; have HS1 := hid S1; have HK1 : Hid (Kp b.all w0 w1) := (Kp.draw w0 1).trans K1 (by simp) (fun y hy => .inl hy); have HT1 := hid ((HT.out.kp0 HK0.out).kp HK1.out (fun y hy hm => HDJ.out y hm hy)); have u1 := cell_kps HK1.out z1 HLB.out; have u2 := cell_kps HK1.out z2 HLB.out; have u3 := cell_kps HK1.out z3 HLB.out; clear S1 K1)
      | (go_at_call 72; refine (d_setdata HT1.out _ _ _).mono ?_; rintro e w2 ⟨rfl, C2⟩; have HC := hid (PlS.mk0 HDJ.out HK0.out HS1.out HK1.out C2 (q := q) (p := p) (by omega) (by omega)); have hk2 : Kp d.all w1 w2 := (by obtain ⟨_, _, _, K, _⟩ := C2; exact K); have x1 := cell_kps hk2 u1 HLD.out; have x2 := cell_kps hk2 u2 HLD.out; have x3 := cell_kps hk2 u3 HLD.out; clear C2 hk2))
  all_goals (
    go_wp2
    go_ret
    exact ⟨rfl, HC.out⟩)
set_option maxRecDepth 100000 in
set_option maxHeartbeats 1000000 in
theorem play9 (S : SH w b q m) (T : DR w d p m) (t : m.Tl) (dj : ∀ x ∈ b.all, x ∉ d.all) (a b' c x dd k : Int) (ha : W64 a) (hb : W64 b') (hc : W64 c) (hq : q ≤ 900000000) (hp : p ≤ 900000000) :
    Calls Tryz.prog 16 #[.pointer (some ⟨b.g, 0, none⟩), .pointer (some ⟨d.g, 0, none⟩), .agg #[.int .i64 9, .int .i64 a, .int .i64 b', .int .i64 c, .int .i64 x, .int .i64 dd, .int .i64 k]] w (plP w b d q p (m.pokeM a b')) := by
  have HS := hid S
  have HT := hid T
  have HTL := hid t
  have HDJ := hid dj
  have ha := hid ha
  have hb := hid hb
  have hc := hid hc
  have HB0 := hid (Blk.new w 35 #[.int .i64 9, .int .i64 a, .int .i64 b', .int .i64 c, .int .i64 x, .int .i64 dd, .int .i64 k])
  have HK0 := hid (Kp.new w (.cells #[.int .i64 9, .int .i64 a, .int .i64 b', .int .i64 c, .int .i64 x, .int .i64 dd, .int .i64 k] 35))
  have HLB : Hid (w.heap.size ∉ b.all) := fun h => absurd (S.lt _ h) (Nat.lt_irrefl _)
  have HLD : Hid (w.heap.size ∉ d.all) := fun h => absurd (T.lt _ h) (Nat.lt_irrefl _)
  clear S T t dj
  go_enter Tryz.func16, Tryz.ntmps16
  go_wp2_with (fail)
  generalize hw0 : w.alloc (.cells #[.int .i64 9, .int .i64 a, .int .i64 b', .int .i64 c, .int .i64 x, .int .i64 dd, .int .i64 k] 35) = w0 at HB0 HK0 ⊢
  generalize hgb : w.heap.size = gb at HB0 HLB HLD ⊢
  clear hw0 hgb
  have hB0 := HB0.out
  have z1 := hB0.cell 1
  have z2 := hB0.cell 2
  have z3 := hB0.cell 3
  clear hB0
  have v1 := kp_cellD (Kp.draw w0 1) z1
  have v2 := kp_cellD (Kp.draw w0 1) z2
  have v3 := kp_cellD (Kp.draw w0 1) z3
  go_region_held3 (fun W => W.cell? ⟨gb, 1, none⟩ = some (.int .i64 a) ∧ W.cell? ⟨gb, 2, none⟩ = some (.int .i64 b') ∧ W.cell? ⟨gb, 3, none⟩ = some (.int .i64 c)) (go_keep)
    (first
      | (go_at_call 73; refine (h_poke ((HS.out.kp0 HK0.out).drewN 1) _ _ ha.out).mono ?_; rintro e w1 ⟨rfl, S1, K1⟩; have HS1 := hid S1; have HK1 : Hid (Kp b.all w0 w1) := (Kp.draw w0 1).trans K1 (by simp) (fun y hy => .inl hy); have HT1 := hid ((HT.out.kp0 HK0.out).kp HK1.out (fun y hy hm => HDJ.out y hm hy)); have u1 := cell_kps HK1.out z1 HLB.out; have u2 := cell_kps HK1.out z2 HLB.out; have u3 := cell_kps HK1.out z3 HLB.out; clear S1 K1)
      | (go_at_call 74; refine (d_poke HT1.out _ _).mono ?_; rintro e w2 ⟨rfl, C2⟩; have HC := hid (PlS.mk0 HDJ.out HK0.out HS1.out HK1.out C2 (q := q) (p := p) (by omega) (by omega)); have hk2 : Kp d.all w1 w2 := (by obtain ⟨_, _, _, K, _⟩ := C2; exact K); have x1 := cell_kps hk2 u1 HLD.out; have x2 := cell_kps hk2 u2 HLD.out; have x3 := cell_kps hk2 u3 HLD.out; clear C2 hk2))
  all_goals (
    go_wp2
    go_ret
    exact ⟨rfl, HC.out⟩)
set_option maxRecDepth 100000 in
set_option maxHeartbeats 1000000 in
theorem play10 (S : SH w b q m) (T : DR w d p m) (t : m.Tl) (dj : ∀ x ∈ b.all, x ∉ d.all) (a b' c x dd k : Int) (ha : W64 a) (hb : W64 b') (hc : W64 c) (hq : q ≤ 900000000) (hp : p ≤ 900000000) :
    Calls Tryz.prog 16 #[.pointer (some ⟨b.g, 0, none⟩), .pointer (some ⟨d.g, 0, none⟩), .agg #[.int .i64 10, .int .i64 a, .int .i64 b', .int .i64 c, .int .i64 x, .int .i64 dd, .int .i64 k]] w (plP w b d q p (m.pinM a true)) := by
  have HS := hid S
  have HT := hid T
  have HTL := hid t
  have HDJ := hid dj
  have ha := hid ha
  have hb := hid hb
  have hc := hid hc
  have HB0 := hid (Blk.new w 35 #[.int .i64 10, .int .i64 a, .int .i64 b', .int .i64 c, .int .i64 x, .int .i64 dd, .int .i64 k])
  have HK0 := hid (Kp.new w (.cells #[.int .i64 10, .int .i64 a, .int .i64 b', .int .i64 c, .int .i64 x, .int .i64 dd, .int .i64 k] 35))
  have HLB : Hid (w.heap.size ∉ b.all) := fun h => absurd (S.lt _ h) (Nat.lt_irrefl _)
  have HLD : Hid (w.heap.size ∉ d.all) := fun h => absurd (T.lt _ h) (Nat.lt_irrefl _)
  clear S T t dj
  go_enter Tryz.func16, Tryz.ntmps16
  go_wp2_with (fail)
  generalize hw0 : w.alloc (.cells #[.int .i64 10, .int .i64 a, .int .i64 b', .int .i64 c, .int .i64 x, .int .i64 dd, .int .i64 k] 35) = w0 at HB0 HK0 ⊢
  generalize hgb : w.heap.size = gb at HB0 HLB HLD ⊢
  clear hw0 hgb
  have hB0 := HB0.out
  have z1 := hB0.cell 1
  have z2 := hB0.cell 2
  have z3 := hB0.cell 3
  clear hB0
  have v1 := kp_cellD (Kp.draw w0 1) z1
  have v2 := kp_cellD (Kp.draw w0 1) z2
  have v3 := kp_cellD (Kp.draw w0 1) z3
  go_region_held3 (fun W => W.cell? ⟨gb, 1, none⟩ = some (.int .i64 a) ∧ W.cell? ⟨gb, 2, none⟩ = some (.int .i64 b') ∧ W.cell? ⟨gb, 3, none⟩ = some (.int .i64 c)) (go_keep)
    (first
      | (go_at_call 75; refine (h_pin ((HS.out.kp0 HK0.out).drewN 1) _ ha.out).mono ?_; rintro e w1 ⟨rfl, S1, K1⟩; have HS1 := hid S1; have HK1 : Hid (Kp b.all w0 w1) := (Kp.draw w0 1).trans K1 (by simp) (fun y hy => .inl hy); have HT1 := hid ((HT.out.kp0 HK0.out).kp HK1.out (fun y hy hm => HDJ.out y hm hy)); have u1 := cell_kps HK1.out z1 HLB.out; have u2 := cell_kps HK1.out z2 HLB.out; have u3 := cell_kps HK1.out z3 HLB.out; clear S1 K1)
      | (go_at_call 76; refine (d_pin HT1.out _).mono ?_; rintro e w2 ⟨rfl, C2⟩; have HC := hid (PlS.mk0 HDJ.out HK0.out HS1.out HK1.out C2 (q := q) (p := p) (by omega) (by omega)); have hk2 : Kp d.all w1 w2 := (by obtain ⟨_, _, _, K, _⟩ := C2; exact K); have x1 := cell_kps hk2 u1 HLD.out; have x2 := cell_kps hk2 u2 HLD.out; have x3 := cell_kps hk2 u3 HLD.out; clear C2 hk2))
  all_goals (
    go_wp2
    go_ret
    exact ⟨rfl, HC.out⟩)
set_option maxRecDepth 100000 in
set_option maxHeartbeats 1000000 in
theorem play11 (S : SH w b q m) (T : DR w d p m) (t : m.Tl) (dj : ∀ x ∈ b.all, x ∉ d.all) (a b' c x dd k : Int) (ha : W64 a) (hb : W64 b') (hc : W64 c) (hq : q ≤ 900000000) (hp : p ≤ 900000000) :
    Calls Tryz.prog 16 #[.pointer (some ⟨b.g, 0, none⟩), .pointer (some ⟨d.g, 0, none⟩), .agg #[.int .i64 11, .int .i64 a, .int .i64 b', .int .i64 c, .int .i64 x, .int .i64 dd, .int .i64 k]] w (plP w b d q p (m.pinM a false)) := by
  have HS := hid S
  have HT := hid T
  have HTL := hid t
  have HDJ := hid dj
  have ha := hid ha
  have hb := hid hb
  have hc := hid hc
  have HB0 := hid (Blk.new w 35 #[.int .i64 11, .int .i64 a, .int .i64 b', .int .i64 c, .int .i64 x, .int .i64 dd, .int .i64 k])
  have HK0 := hid (Kp.new w (.cells #[.int .i64 11, .int .i64 a, .int .i64 b', .int .i64 c, .int .i64 x, .int .i64 dd, .int .i64 k] 35))
  have HLB : Hid (w.heap.size ∉ b.all) := fun h => absurd (S.lt _ h) (Nat.lt_irrefl _)
  have HLD : Hid (w.heap.size ∉ d.all) := fun h => absurd (T.lt _ h) (Nat.lt_irrefl _)
  clear S T t dj
  go_enter Tryz.func16, Tryz.ntmps16
  go_wp2_with (fail)
  generalize hw0 : w.alloc (.cells #[.int .i64 11, .int .i64 a, .int .i64 b', .int .i64 c, .int .i64 x, .int .i64 dd, .int .i64 k] 35) = w0 at HB0 HK0 ⊢
  generalize hgb : w.heap.size = gb at HB0 HLB HLD ⊢
  clear hw0 hgb
  have hB0 := HB0.out
  have z1 := hB0.cell 1
  have z2 := hB0.cell 2
  have z3 := hB0.cell 3
  clear hB0
  have v1 := kp_cellD (Kp.draw w0 1) z1
  have v2 := kp_cellD (Kp.draw w0 1) z2
  have v3 := kp_cellD (Kp.draw w0 1) z3
  go_region_held3 (fun W => W.cell? ⟨gb, 1, none⟩ = some (.int .i64 a) ∧ W.cell? ⟨gb, 2, none⟩ = some (.int .i64 b') ∧ W.cell? ⟨gb, 3, none⟩ = some (.int .i64 c)) (go_keep)
    (first
      | (go_at_call 77; refine (h_unpin ((HS.out.kp0 HK0.out).drewN 1) _ ha.out).mono ?_; rintro e w1 ⟨rfl, S1, K1⟩; have HS1 := hid S1; have HK1 : Hid (Kp b.all w0 w1) := (Kp.draw w0 1).trans K1 (by simp) (fun y hy => .inl hy); have HT1 := hid ((HT.out.kp0 HK0.out).kp HK1.out (fun y hy hm => HDJ.out y hm hy)); have u1 := cell_kps HK1.out z1 HLB.out; have u2 := cell_kps HK1.out z2 HLB.out; have u3 := cell_kps HK1.out z3 HLB.out; clear S1 K1)
      | (go_at_call 78; refine (d_unpin HT1.out _).mono ?_; rintro e w2 ⟨rfl, C2⟩; have HC := hid (PlS.mk0 HDJ.out HK0.out HS1.out HK1.out C2 (q := q) (p := p) (by omega) (by omega)); have hk2 : Kp d.all w1 w2 := (by obtain ⟨_, _, _, K, _⟩ := C2; exact K); have x1 := cell_kps hk2 u1 HLD.out; have x2 := cell_kps hk2 u2 HLD.out; have x3 := cell_kps hk2 u3 HLD.out; clear C2 hk2))
  all_goals (
    go_wp2
    go_ret
    exact ⟨rfl, HC.out⟩)
end
end Go.Proofs.YtkkmlllajfafcaaGreat
