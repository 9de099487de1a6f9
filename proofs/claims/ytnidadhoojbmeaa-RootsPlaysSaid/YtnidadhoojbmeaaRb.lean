/-
  The places of roots, and the contracts of package roots' at, Get, Set. Conditions: those that stand in each theorem.
-/
import Derived.Test.YtnidadhoojbmeaaRa
namespace Go.Proofs.Ytnidadhoojbmeaa
set_option linter.unusedVariables false
set_option linter.unusedSimpArgs false
open Go.RowKit Go.Deep Go.Maps

/-- Is there a place; what it is; roots where it is another. -/
def RT.has (t : RT) (k m i : Int) : Bool := decide ((k = 0 ∧ 0 ≤ m ∧ m < (t.n : Int) ∧ 0 ≤ i ∧ i < 16) ∨ (k = 1 ∧ m = 0 ∧ 0 ≤ i ∧ i < 16) ∨ (k = 2 ∧ m = 0 ∧ 0 ≤ i ∧ i < (t.qu.length : Int)))
def RT.get (t : RT) (k m i : Int) : Int := if k = 0 then t.sl.getD (m.toNat * 16 + i.toNat) 0 else if k = 1 then t.gl.getD i.toNat 0 else t.qu.getD i.toNat 0
def RT.set (t : RT) (k m i v : Int) : RT := if k = 0 then { t with sl := t.sl.set (m.toNat * 16 + i.toNat) v } else if k = 1 then { t with gl := t.gl.set i.toNat v } else { t with qu := t.qu.set i.toNat v }
/-- An address that is this place. -/
structure Spot (b : RB) (t : RT) (k m i : Int) (a : Addr) : Prop where
  blk : a.block ∈ b.all
  cell : ∀ W, RR W b t → W.cell? a = some (.int .i64 (t.get k m i))
  frz : ∀ W, RR W b t → W.frozen? a = false
  set_ : ∀ W v, RR W b t → RR (W.setCell a (.int .i64 v)) b (t.set k m i v)
section
variable {w w' W : World} {b : RB} {t : RT}
theorem rcell_set {c i : Nat} {v : Int} (hi : i < t.gl.length) : (rcell b t c).setIfInBounds (1 + i) (.int .i64 v) = rcell b { t with gl := t.gl.set i v } c := by
  unfold rcell
  rw [List.setIfInBounds_toArray, Nat.add_comm, List.set_cons_succ, List.set_append_left _ _ (by rw [zcells_length]; exact hi)]
  simp [zcells, List.map_set]
theorem own_set {B : Nat} {g cap : Nat} {q : List Int} (h : W.ownsRow B 3 1 (.slice (some ⟨g, 0, none⟩) q.length cap) q.length (zcells q)) {i : Nat} (hi : i < q.length) (v : Int) :
    (W.setCell ⟨g, i, none⟩ (.int .i64 v)).ownsRow B 3 1 (.slice (some ⟨g, 0, none⟩) q.length cap) (q.set i v).length (zcells (q.set i v)) := by
  obtain ⟨hl, h2 | ⟨g', cap', cur, hv, hg, hb, h3, h4, h5, h6⟩⟩ := h
  · cases h2.1
  · cases hv
    have hB : Blk W g 3 cur := hb
    have hB2 := hB.set_ i (.int .i64 v)
    refine ⟨by simp [zcells], .inr ⟨g, cap, _, by simp, hg, hB2, by simpa using h3, h4, by simpa using h5, ?_⟩⟩
    have hi2 : i < cur.toList.length := by
      have : cur.toList.length = cur.size := by simp
      omega
    simp only [List.length_set, Nat.mul_one] at h6 ⊢
    rw [Array.toList_setIfInBounds, List.take_set, h6]
    simp [zcells, List.map_set]
theorem spot_slot (m i : Nat) (hm : m < t.n) (hi : i < 16) (ok : t.Ok) : Spot b t 0 (m : Int) (i : Int) ⟨b.sb, m * 16 + i, none⟩ := by
  have e1 : t.get 0 (m : Int) (i : Int) = t.sl.getD (m * 16 + i) 0 := by simp [RT.get]
  have e2 : ∀ v, t.set 0 (m : Int) (i : Int) v = { t with sl := t.sl.set (m * 16 + i) v } := fun v => by simp [RT.set]
  have hlt : m * 16 + i < 16 * t.n := by omega
  refine ⟨by simp [RB.all], fun W R => by rw [e1]; exact R.cs hlt, fun W R => ?_, fun W v R => ?_⟩
  · obtain ⟨c, sp, h1, h2, h3, G, B⟩ := R.mem
    exact B.frozen _
  · obtain ⟨c, sp, h1, h2, h3, G, B⟩ := R.mem
    have k : Kp [b.sb] W (W.setCell ⟨b.sb, m * 16 + i, none⟩ (.int .i64 v)) := Kp.cell W ⟨b.sb, m * 16 + i, none⟩ _
    have hB := B.set_ (m * 16 + i) (.int .i64 v)
    rw [zcells_set (by rw [R.ok.sl]; exact hlt)] at hB
    rw [e2]
    refine ⟨⟨ok.n1, ok.n4, by simp [ok.sl], ok.gl, ok.qu⟩, ⟨c, sp, h1, h2, by rw [← h3]; simp [zcells_length], G.kp k (by simp; exact G.ne_ B (by decide)), hB⟩, own_kps R.Q k (fun g hg => ?_)⟩
    rcases R.q_form with ⟨hv, _⟩ | ⟨g', cap, hv, _, _, _, hne, _⟩
    · rw [hv] at hg; simp [Value.ownBlock] at hg
    · rw [hv] at hg; simp [Value.ownBlock] at hg; subst hg; simpa using hne
theorem spot_glob (i : Nat) (hi : i < 16) (ok : t.Ok) : Spot b t 1 0 (i : Int) ⟨b.g, 1 + i, none⟩ := by
  have e1 : t.get 1 0 (i : Int) = t.gl.getD i 0 := by simp [RT.get]
  have e2 : ∀ v, t.set 1 0 (i : Int) v = { t with gl := t.gl.set i v } := fun v => by simp [RT.set]
  refine ⟨by simp [RB.all], fun W R => by rw [e1]; exact R.cg hi, fun W R => ?_, fun W v R => ?_⟩
  · obtain ⟨c, sp, h1, h2, h3, G, B⟩ := R.mem
    exact G.frozen _
  · obtain ⟨c, sp, h1, h2, h3, G, B⟩ := R.mem
    have k : Kp [b.g] W (W.setCell ⟨b.g, 1 + i, none⟩ (.int .i64 v)) := Kp.cell W ⟨b.g, 1 + i, none⟩ _
    have hG := G.set_ (1 + i) (.int .i64 v)
    rw [rcell_set (by rw [ok.gl]; exact hi)] at hG
    rw [e2]
    refine ⟨⟨ok.n1, ok.n4, ok.sl, by simp [ok.gl], ok.qu⟩, ⟨c, sp, h1, h2, h3, hG, B.kp k (by simp; exact B.ne_ G (by decide))⟩, own_kps R.Q k (fun g hg => ?_)⟩
    rcases R.q_form with ⟨hv, _⟩ | ⟨g', cap, hv, _, _, hne, _, _⟩
    · rw [hv] at hg; simp [Value.ownBlock] at hg
    · rw [hv] at hg; simp [Value.ownBlock] at hg; subst hg; simpa using hne
theorem spot_queue {g cap : Nat} (hv : b.qv = .slice (some ⟨g, 0, none⟩) t.qu.length cap) (i : Nat) (hi : i < t.qu.length) (ok : t.Ok) : Spot b t 2 0 (i : Int) ⟨g, i, none⟩ := by
  have e1 : t.get 2 0 (i : Int) = t.qu.getD i 0 := by simp [RT.get]
  have e2 : ∀ v, t.set 2 0 (i : Int) v = { t with qu := t.qu.set i v } := fun v => by simp [RT.set]
  refine ⟨by simp [RB.all, hv, Value.ownBlock], fun W R => ?_, fun W R => ?_, fun W v R => ?_⟩
  · rw [e1]
    rcases R.q_form with ⟨hv', _⟩ | ⟨g', cap', hv', _, _, _, _, hc⟩
    · rw [hv] at hv'; cases hv'
    · rw [hv] at hv'; cases hv'; exact hc i hi
  · have Q := R.Q
    rw [hv] at Q
    rcases Q.2 with ⟨hv', _⟩ | ⟨g', cap', cur, hv', _, hb, _⟩
    · cases hv'
    · cases hv'
      exact Blk.frozen (cs := cur) (t := 3) hb _
  · obtain ⟨c, sp, h1, h2, h3, G, B⟩ := R.mem
    have k : Kp [g] W (W.setCell ⟨g, i, none⟩ (.int .i64 v)) := Kp.cell W ⟨g, i, none⟩ _
    rcases R.q_form with ⟨hv', _⟩ | ⟨g', cap', hv', _, _, hne1, hne2, hc⟩
    · rw [hv] at hv'; cases hv'
    · rw [hv] at hv'; cases hv'
      have Q := R.Q
      rw [hv] at Q
      rw [e2]
      refine ⟨⟨ok.n1, ok.n4, ok.sl, ok.gl, by simpa using ok.qu⟩, ⟨c, sp, h1, h2, h3, G.kp k (by simpa using hne1.symm), B.kp k (by simpa using hne2.symm)⟩, ?_⟩
      show World.ownsRow _ 0 _ 1 b.qv _ _
      rw [hv]
      exact own_set Q hi v
set_option maxHeartbeats 1000000 in
set_option maxRecDepth 100000 in
theorem at_no (R : RR w b t) (k m i : Int) (h : t.has k m i = false) :
    Calls Try.prog 39 #[.pointer (some ⟨b.g, 0, none⟩), .agg #[.int .i64 k, .int .i64 m, .int .i64 i]] w fun e w' => e = .returned (.pointer none) ∧ Kp [] w w' := by
  have hn : ¬ ((k = 0 ∧ 0 ≤ m ∧ m < (t.n : Int) ∧ 0 ≤ i ∧ i < 16) ∨ (k = 1 ∧ m = 0 ∧ 0 ≤ i ∧ i < 16) ∨ (k = 2 ∧ m = 0 ∧ 0 ≤ i ∧ i < (t.qu.length : Int))) := of_decide_eq_false h
  have K0 := Kp.new w (.cells #[.int .i64 k, .int .i64 m, .int .i64 i] 33)
  have hb := Blk.new w 33 #[.int .i64 k, .int .i64 m, .int .i64 i]
  have HB := hid hb
  have HR := hid (R.kp0 K0)
  have HK := hid K0
  have b0 := hb.cell 0
  have b1 := hb.cell 1
  have b2 := hb.cell 2
  obtain ⟨A, len, cap, hrow⟩ : ∃ A len cap, b.row t k m = .slice A len cap ∧ (0 ≤ i → (len : Int) ≤ i) := by
    unfold RB.row
    split
    · exact ⟨_, _, _, rfl, by omega⟩
    · split
      · exact ⟨_, _, _, rfl, by omega⟩
      · split
        · rcases R.q_form with ⟨hv, h0⟩ | ⟨g, c, hv, _⟩
          · exact ⟨_, _, _, hv, by omega⟩
          · exact ⟨_, _, _, hv, by omega⟩
        · exact ⟨_, _, _, rfl, by omega⟩
  obtain ⟨hrow, hlen⟩ := hrow
  have HRW : Hid (∀ W, RR W b t → Calls Try.prog 48 #[.pointer (some ⟨b.g, 0, none⟩), .agg #[.int .i64 k, .int .i64 m, .int .i64 i]] W fun e w' => e = .returned (.slice A len cap) ∧ Kp [] W w') := fun W RW => by
    rw [← hrow]; exact r_row RW k m i
  by_cases hi : 0 ≤ i
  · have hl := hlen hi
    have hd1 : decide (i < 0) = false := decide_eq_false (by omega)
    have hd2 : decide ((len : Int) ≤ i) = true := decide_eq_true hl
    clear h hn K0 hb hrow hlen R
    go_enter Try.func39, Try.ntmps39
    go_wp2_with (go_at_call 48; refine (HRW.out _ HR.out).mono ?_; rintro e w2 ⟨rfl, K2⟩; have hb2 := HB.out.kp K2 (by simp); have d2 := hb2.cell 2; have HK2 := hid (HK.out.chain K2); clear K2 hb2)
    repeat (go_quiet (fail); go_wp2)
    go_ret
    exact ⟨rfl, by first | exact HK2.out | exact HK2.out.drewN _⟩
  · have hd1 : decide (i < 0) = true := decide_eq_true (by omega)
    clear h hn K0 hb hrow hlen R
    go_enter Try.func39, Try.ntmps39
    go_wp2_with (go_at_call 48; refine (HRW.out _ HR.out).mono ?_; rintro e w2 ⟨rfl, K2⟩; have hb2 := HB.out.kp K2 (by simp); have d2 := hb2.cell 2; have HK2 := hid (HK.out.chain K2); clear K2 hb2)
    repeat (go_quiet (fail); go_wp2)
    go_ret
    exact ⟨rfl, by first | exact HK2.out | exact HK2.out.drewN _⟩
set_option maxHeartbeats 1000000 in
set_option maxRecDepth 100000 in
theorem at_yes (R : RR w b t) (k m i : Int) (h : t.has k m i = true) :
    Calls Try.prog 39 #[.pointer (some ⟨b.g, 0, none⟩), .agg #[.int .i64 k, .int .i64 m, .int .i64 i]] w fun e w' => (∃ a, Spot b t k m i a ∧ e = .returned (.pointer (some a))) ∧ Kp [] w w' := by
  have hn := of_decide_eq_true h
  have K0 := Kp.new w (.cells #[.int .i64 k, .int .i64 m, .int .i64 i] 33)
  have hb := Blk.new w 33 #[.int .i64 k, .int .i64 m, .int .i64 i]
  have HB := hid hb
  have HR := hid (R.kp0 K0)
  have HK := hid K0
  have b0 := hb.cell 0
  have b1 := hb.cell 1
  have b2 := hb.cell 2
  have hql := R.ok.qu
  obtain ⟨g, o, len, cap, y, hrow, hi, hlen, hcap, hsp⟩ : ∃ (g o len cap y : Nat), b.row t k m = .slice (some ⟨g, o, none⟩) len cap ∧ i = (y : Int) ∧ y < len ∧ len ≤ 100 ∧ Spot b t k m i ⟨g, o + y, none⟩ := by
    rcases hn with ⟨rfl, h1, h2, h3, h4⟩ | ⟨rfl, rfl, h3, h4⟩ | ⟨rfl, rfl, h3, h4⟩
    · obtain ⟨m, rfl⟩ : ∃ x : Nat, m = (x : Int) := ⟨m.toNat, by omega⟩
      obtain ⟨i, rfl⟩ : ∃ x : Nat, i = (x : Int) := ⟨i.toNat, by omega⟩
      refine ⟨b.sb, m * 16, 16, 16, i, ?_, rfl, by omega, by omega, spot_slot m i (by omega) (by omega) R.ok⟩
      unfold RB.row
      rw [if_pos ⟨rfl, h1, h2⟩, Int.toNat_natCast]
    · obtain ⟨i, rfl⟩ : ∃ x : Nat, i = (x : Int) := ⟨i.toNat, by omega⟩
      refine ⟨b.g, 1, 16, 16, i, ?_, rfl, by omega, by omega, spot_glob i (by omega) R.ok⟩
      unfold RB.row
      rw [if_neg (by omega), if_pos ⟨rfl, rfl⟩]
    · obtain ⟨i, rfl⟩ : ∃ x : Nat, i = (x : Int) := ⟨i.toNat, by omega⟩
      rcases R.q_form with ⟨hv, h0⟩ | ⟨g, c, hv, _⟩
      · rw [h0] at h4; simp at h4; omega
      · refine ⟨g, 0, t.qu.length, c, i, ?_, rfl, by omega, by omega, ?_⟩
        · unfold RB.row
          rw [if_neg (by omega), if_neg (by omega), if_pos ⟨rfl, rfl⟩, hv]
        · rw [Nat.zero_add]; exact spot_queue hv i (by omega) R.ok
  subst hi
  have HRW : Hid (∀ W, RR W b t → Calls Try.prog 48 #[.pointer (some ⟨b.g, 0, none⟩), .agg #[.int .i64 k, .int .i64 m, .int .i64 (y : Int)]] W fun e w' => e = .returned (.slice (some ⟨g, o, none⟩) len cap) ∧ Kp [] W w') := fun W RW => by
    rw [← hrow]; exact r_row RW k m _
  have HSP := hid hsp
  have hd1 : decide ((y : Int) < 0) = false := decide_eq_false (by omega)
  have hd2 : decide (len ≤ y) = false := decide_eq_false (by omega)
  have hd3 : (y : Int) < (len : Int) := by omega
  clear h hn K0 hb hrow R hsp
  go_enter Try.func39, Try.ntmps39
  go_wp2_with (go_at_call 48; refine (HRW.out _ HR.out).mono ?_; rintro e w2 ⟨rfl, K2⟩; have hb2 := HB.out.kp K2 (by simp); have d2 := hb2.cell 2; have HK2 := hid (HK.out.chain K2); clear K2 hb2)
  repeat (go_quiet (fail); go_wp2)
  go_ret
  exact ⟨⟨_, HSP.out, rfl⟩, by first | exact HK2.out | exact HK2.out.drewN _⟩
end
end Go.Proofs.Ytnidadhoojbmeaa
