/-
  The contracts of package side's load and store, over a table that reads as a list of entries. Conditions: those that stand in each theorem.
-/
import Derived.Test.YtkhemendnoeciaaGreatA
namespace Go.Proofs.YtkhemendnoeciaaGreat
set_option linter.unusedVariables false
set_option linter.unusedSimpArgs false
open Go.RowKit

theorem div_cast (x s : Nat) : ((x : Int) / 2 ^ s) = ((x / 2 ^ s : Nat) : Int) := by
  rw [Int.natCast_ediv, Int.natCast_pow]
  rfl
theorem mul_cast (x s : Nat) : ((x : Int) * 2 ^ s) = ((x * 2 ^ s : Nat) : Int) := by
  rw [Int.natCast_mul, Int.natCast_pow]
  rfl
theorem load_val {wd : Nat} {ws L : List Nat} (h : Enc wd ws L) (k : Nat) :
    wrap64 (bits .and .u64 (((ws.getD (k * wd / 64) 0 : Nat) : Int) / 2 ^ (k * wd % 64)) ((most wd : Nat) : Int)) = ((ent L k : Nat) : Int) := by
  have hx := h.word_lt (k * wd / 64)
  have hm := most_lt h.wd_ok
  rw [div_cast, u64_and_nat _ _ (Nat.lt_of_le_of_lt (Nat.div_le_self _ _) hx) (by omega)]
  have e : ws.getD (k * wd / 64) 0 / 2 ^ (k * wd % 64) &&& most wd = ent L k := by
    unfold most ent
    rw [Nat.and_two_pow_sub_one_eq_mod, ← h.fld_eq k]
    rfl
  rw [e]
  have : ent L k < 2 ^ wd := h.lt k
  have := h.wd_ok.pow_le
  exact IntWalk.wrap64_in _ ⟨by omega, by omega⟩
theorem store_val {wd x s v : Nat} (hw : Wd wd) (hx : x < 18446744073709551616) (hs : s + wd ≤ 64) (hv : v < 2 ^ wd) :
    bits .or .u64 (bits .andNot .u64 (x : Int) (IntKind.u64.wrap (((most wd : Nat) : Int) * 2 ^ s))) (IntKind.u64.wrap ((v : Int) * 2 ^ s)) = ((ins wd x s v : Nat) : Int) := by
  have hm : most wd * 2 ^ s < 18446744073709551616 := mask_lt hs
  have hv' : v * 2 ^ s < 18446744073709551616 := val_lt hs hv
  have wr : ∀ y : Nat, y < 18446744073709551616 → IntKind.u64.wrap (y : Int) = (y : Int) := fun y hy => by
    rw [IntKind.wrap_u64]; omega
  rw [mul_cast, mul_cast, wr _ hm, wr _ hv', u64_andNot_nat _ _ hx hm, u64_or_nat _ _ (Nat.lt_of_le_of_lt Nat.and_le_left hx) hv']
  rfl

theorem wcells_get {ws : List Nat} {sp : List Value} {q : Nat} (hq : q < ws.length) : (wcells ws ++ sp).toArray[q]? = some (.int .u64 ((ws.getD q 0 : Nat) : Int)) := by
  have h1 : q < (wcells ws).length := by simpa [wcells] using hq
  simp only [List.getElem?_toArray]
  rw [List.getElem?_append_left h1]
  simp [wcells, hq]
theorem icells_get {L : List Nat} {sp : List Value} {q : Nat} (hq : q < L.length) : (icells L ++ sp).toArray[q]? = some (.int .i64 ((ent L q : Nat) : Int)) := by
  have h1 : q < (icells L).length := by simpa [icells] using hq
  simp only [List.getElem?_toArray]
  rw [List.getElem?_append_left h1]
  simp [icells, ent, hq]
theorem wcells_set {ws : List Nat} {sp : List Value} {q y : Nat} (hq : q < ws.length) : (wcells ws ++ sp).toArray.setIfInBounds q (.int .u64 (y : Int)) = (wcells (ws.set q y) ++ sp).toArray := by
  have h1 : q < (wcells ws).length := by simpa [wcells] using hq
  rw [List.setIfInBounds_toArray, List.set_append_left _ _ h1]
  simp [wcells, List.map_set]
theorem icells_set {L : List Nat} {sp : List Value} {q y : Nat} (hq : q < L.length) : (icells L ++ sp).toArray.setIfInBounds q (.int .i64 (y : Int)) = (icells (L.set q y) ++ sp).toArray := by
  have h1 : q < (icells L).length := by simpa [icells] using hq
  rw [List.setIfInBounds_toArray, List.set_append_left _ _ h1]
  simp [icells, List.map_set]

theorem load_ok {g h wd : Nat} {L : List Nat} {w : World} (T : STab w g h wd L) (k : Nat) (hk : k < L.length) :
    Calls Tryz.prog 130 #[.pointer (some ⟨g, 0, none⟩), .int .i64 (k : Int)] w fun e w' => e = .returned (.int .i64 ((ent L k : Nat) : Int)) ∧ ∃ m, w' = w.drewN m := by
  have T0 := T
  obtain ⟨ws, c, sp, E, l1, l2, l3, l4, l5, b1, b2⟩ := T
  have hv := load_val E k
  have hin := E.inside hk
  have hc1 : w.cell? ⟨g, 1, none⟩ = some (.int .i64 (wd : Int)) := b1.cell 1
  have hc2 : w.cell? ⟨g, 2, none⟩ = some (.slice (some ⟨h, 0, none⟩) ws.length c) := b1.cell 2
  have hx : w.cell? ⟨h, k * wd / 64, none⟩ = some (.int .u64 ((ws.getD (k * wd / 64) 0 : Nat) : Int)) := (b2.cell _).trans (wcells_get hin)
  have hb : k * wd ≤ 32768 := by
    have := Nat.mul_le_mul (show k ≤ 4096 by omega) E.wd_ok.le
    omega
  have hM := most_lt E.wd_ok
  have hlen : ws.length < 1000 := by rw [E.len]; have := Nat.mul_le_mul l2 E.wd_ok.le; omega
  generalize hX : ws.getD (k * wd / 64) 0 = x at hx hv
  clear hX b1 b2 E l5
  have HV := hid hv
  clear hv
  go_enter Tryz.func130, Tryz.ntmps130
  go_wp2
  go_quiet ((go_at_call 139; exact Calls.quiet_of (greatest_any (w := w.drewN _) T0)))
  go_wp2
  go_ret
  exact ⟨congrArg (fun z => Ending.returned (Value.int IntKind.i64 z)) HV.out, nq, rfl⟩

theorem store_ok {g h wd : Nat} {L : List Nat} {w : World} (T : STab w g h wd L) (k : Nat) (hk : k < L.length) (v : Nat) (hv : v < 2 ^ wd) :
    Calls Tryz.prog 142 #[.pointer (some ⟨g, 0, none⟩), .int .i64 (k : Int), .int .i64 (v : Int)] w fun e w' => e = .returned (.tuple #[]) ∧ STab w' g h wd (L.set k v) ∧ Kp [h] w w' := by
  have T0 := T
  obtain ⟨ws, c, sp, E, l1, l2, l3, l4, l5, b1, b2⟩ := T
  have hin := E.inside hk
  have hval := store_val (x := ws.getD (k * wd / 64) 0) E.wd_ok (E.word_lt _) (E.wd_ok.room k) hv
  have hc1 : w.cell? ⟨g, 1, none⟩ = some (.int .i64 (wd : Int)) := b1.cell 1
  have hc2 : w.cell? ⟨g, 2, none⟩ = some (.slice (some ⟨h, 0, none⟩) ws.length c) := b1.cell 2
  have hx : w.cell? ⟨h, k * wd / 64, none⟩ = some (.int .u64 ((ws.getD (k * wd / 64) 0 : Nat) : Int)) := (b2.cell _).trans (wcells_get hin)
  have hf : w.frozen? ⟨h, k * wd / 64, none⟩ = false := b2.frozen _
  have hb : k * wd ≤ 32768 := by
    have := Nat.mul_le_mul (show k ≤ 4096 by omega) E.wd_ok.le
    omega
  have hM := most_lt E.wd_ok
  have hlen : ws.length < 1000 := by rw [E.len]; have := Nat.mul_le_mul l2 E.wd_ok.le; omega
  have hv2 : v < 256 := Nat.lt_of_lt_of_le hv E.wd_ok.pow_le
  have END : ∀ n, STab ((w.drewN n).setCell ⟨h, k * wd / 64, none⟩ (.int .u64 ((ins wd (ws.getD (k * wd / 64) 0) (k * wd % 64) v : Nat) : Int))) g h wd (L.set k v) := by
    intro n
    have hne : g ≠ h := b1.ne_ b2 (by decide)
    refine ⟨_, c, sp, E.set hk hv, by simpa using l1, by simpa using l2, by simpa using l3, l4, by simpa [wcells] using l5, ?_, ?_⟩
    · have := (show Blk (w.drewN n) g _ _ from b1).kp (Kp.cell (w.drewN n) ⟨h, k * wd / 64, none⟩ (.int .u64 ((ins wd (ws.getD (k * wd / 64) 0) (k * wd % 64) v : Nat) : Int))) (by simpa using hne)
      simpa using this
    · have := (show Blk (w.drewN n) h _ _ from b2).set_ (k * wd / 64) (.int .u64 ((ins wd (ws.getD (k * wd / 64) 0) (k * wd % 64) v : Nat) : Int))
      rw [wcells_set hin] at this
      exact this
  generalize hX : ws.getD (k * wd / 64) 0 = x at hx hval END
  generalize hY : ins wd x (k * wd % 64) v = y at hval END
  clear hX hY b1 b2 E l5
  have HV := hid hval
  have HE := hid END
  clear hval END
  go_enter Tryz.func142, Tryz.ntmps142
  go_wp2
  go_quiet ((go_at_call 139; exact Calls.quiet_of (greatest_any (w := w.drewN _) T0)))
  go_wp2
  go_region
  go_wp2
  go_end0
  rw [HV.out]
  exact ⟨rfl, HE.out _, ((Kp.draw w _).trans (Kp.cell _ _ _) (by simp) (by simp))⟩
end Go.Proofs.YtkhemendnoeciaaGreat
