/-
  Plain mathematics of packed entries: fields of few bits in words of 64 bits; what a table's functions return, as functions on lists. No condition but those stated.
-/
namespace Go.Proofs.YtkhemendnoeciaaGreat
set_option linter.unusedVariables false
set_option linter.unusedSimpArgs false

def Wd (wd : Nat) : Prop := wd = 1 ∨ wd = 2 ∨ wd = 4 ∨ wd = 8
theorem Wd.pos {wd : Nat} (h : Wd wd) : 1 ≤ wd := by unfold Wd at h; omega
theorem Wd.le {wd : Nat} (h : Wd wd) : wd ≤ 8 := by unfold Wd at h; omega
theorem Wd.room {wd : Nat} (h : Wd wd) (i : Nat) : i * wd % 64 + wd ≤ 64 := by
  rcases h with rfl | rfl | rfl | rfl <;> omega
theorem Wd.apart {wd : Nat} (h : Wd wd) (i j : Nat) (hne : j ≠ i) (hq : j * wd / 64 = i * wd / 64) : j * wd % 64 + wd ≤ i * wd % 64 ∨ i * wd % 64 + wd ≤ j * wd % 64 := by
  rcases h with rfl | rfl | rfl | rfl <;> omega
theorem Wd.pow_le {wd : Nat} (h : Wd wd) : 2 ^ wd ≤ 256 := by
  rcases h with rfl | rfl | rfl | rfl <;> decide
theorem Wd.pow_ge {wd : Nat} (h : Wd wd) : 2 ≤ 2 ^ wd := by
  rcases h with rfl | rfl | rfl | rfl <;> decide

def fld (wd : Nat) (ws : List Nat) (i : Nat) : Nat := ws.getD (i * wd / 64) 0 / 2 ^ (i * wd % 64) % 2 ^ wd
theorem fld_lt (wd : Nat) (ws : List Nat) (i : Nat) : fld wd ws i < 2 ^ wd := Nat.mod_lt _ (Nat.two_pow_pos _)

def ins (wd x s v : Nat) : Nat := (x &&& (18446744073709551615 - (2 ^ wd - 1) * 2 ^ s)) ||| v * 2 ^ s

theorem mask_lt {wd s : Nat} (hs : s + wd ≤ 64) : (2 ^ wd - 1) * 2 ^ s < 18446744073709551616 := by
  have h1 : (2 ^ wd - 1) * 2 ^ s < 2 ^ wd * 2 ^ s := by
    have := Nat.two_pow_pos wd
    exact (Nat.mul_lt_mul_right (Nat.two_pow_pos s)).2 (by omega)
  rw [← Nat.pow_add] at h1
  have h2 : 2 ^ (wd + s) ≤ 2 ^ 64 := Nat.pow_le_pow_right (by omega) (by omega)
  omega
theorem val_lt {wd s v : Nat} (hs : s + wd ≤ 64) (hv : v < 2 ^ wd) : v * 2 ^ s < 18446744073709551616 := by
  have h1 : v * 2 ^ s < 2 ^ wd * 2 ^ s := (Nat.mul_lt_mul_right (Nat.two_pow_pos s)).2 hv
  rw [← Nat.pow_add] at h1
  have h2 : 2 ^ (wd + s) ≤ 2 ^ 64 := Nat.pow_le_pow_right (by omega) (by omega)
  omega
theorem ins_lt {wd x s v : Nat} (hx : x < 18446744073709551616) (hs : s + wd ≤ 64) (hv : v < 2 ^ wd) : ins wd x s v < 18446744073709551616 := by
  have h1 : x &&& (18446744073709551615 - (2 ^ wd - 1) * 2 ^ s) < 2 ^ 64 := Nat.lt_of_le_of_lt Nat.and_le_left hx
  have h2 : v * 2 ^ s < 2 ^ 64 := val_lt hs hv
  exact Nat.or_lt_two_pow h1 h2
theorem ins_bit {wd x s v j : Nat} (hs : s + wd ≤ 64) (hj : j < 64) :
    (ins wd x s v).testBit j = ((x.testBit j && !(decide (s ≤ j) && decide (j - s < wd))) || (decide (s ≤ j) && v.testBit (j - s))) := by
  unfold ins
  have hm : (18446744073709551615 - (2 ^ wd - 1) * 2 ^ s) = 2 ^ 64 - ((2 ^ wd - 1) * 2 ^ s + 1) := by omega
  rw [Nat.testBit_or, Nat.testBit_and, hm, Nat.testBit_two_pow_sub_succ (mask_lt hs)]
  rw [Nat.mul_comm (2 ^ wd - 1), Nat.mul_comm v, Nat.testBit_two_pow_mul, Nat.testBit_two_pow_mul, Nat.testBit_two_pow_sub_one]
  simp [hj]
theorem ins_same {wd x s v : Nat} (hs : s + wd ≤ 64) (hv : v < 2 ^ wd) : ins wd x s v / 2 ^ s % 2 ^ wd = v := by
  apply Nat.eq_of_testBit_eq
  intro i
  rw [Nat.testBit_mod_two_pow, Nat.testBit_div_two_pow]
  by_cases hi : i < wd
  · rw [ins_bit hs (by omega)]
    simp [hi]
  · have : v.testBit i = false := Nat.testBit_lt_two_pow (Nat.lt_of_lt_of_le hv (Nat.pow_le_pow_right (by omega) (by omega)))
    simp [hi, this]
theorem ins_other {wd x s v s' : Nat} (hs : s + wd ≤ 64) (hs' : s' + wd ≤ 64) (hv : v < 2 ^ wd) (h : s' + wd ≤ s ∨ s + wd ≤ s') : ins wd x s v / 2 ^ s' % 2 ^ wd = x / 2 ^ s' % 2 ^ wd := by
  apply Nat.eq_of_testBit_eq
  intro i
  rw [Nat.testBit_mod_two_pow, Nat.testBit_div_two_pow, Nat.testBit_mod_two_pow, Nat.testBit_div_two_pow]
  by_cases hi : i < wd
  · rw [ins_bit hs (by omega)]
    simp only [hi, decide_true, Bool.true_and]
    rcases h with h | h
    · have h1 : ¬ s ≤ i + s' := by omega
      simp [h1]
    · have h1 : s ≤ i + s' := by omega
      have h2 : ¬ (i + s' - s < wd) := by omega
      have : v.testBit (i + s' - s) = false := Nat.testBit_lt_two_pow (Nat.lt_of_lt_of_le hv (Nat.pow_le_pow_right (by omega) (by omega)))
      simp [h1, h2, this]
  · simp [hi]

structure Enc (wd : Nat) (ws : List Nat) (L : List Nat) : Prop where
  wd_ok : Wd wd
  len : ws.length = (L.length * wd + 63) / 64
  bnd : ∀ x ∈ ws, x < 18446744073709551616
  fld_eq : ∀ i, fld wd ws i = L.getD i 0

theorem Enc.word_lt {wd : Nat} {ws L : List Nat} (h : Enc wd ws L) (k : Nat) : ws.getD k 0 < 18446744073709551616 := by
  by_cases hk : k < ws.length
  · rw [List.getD_eq_getElem?_getD, List.getElem?_eq_getElem hk]; exact h.bnd _ (List.getElem_mem hk)
  · rw [List.getD_eq_getElem?_getD, List.getElem?_eq_none (by omega)]; decide
theorem Enc.inside {wd : Nat} {ws L : List Nat} (h : Enc wd ws L) {i : Nat} (hi : i < L.length) : i * wd / 64 < ws.length := by
  rw [h.len]
  rcases h.wd_ok with rfl | rfl | rfl | rfl <;> omega
theorem Enc.lt {wd : Nat} {ws L : List Nat} (h : Enc wd ws L) (i : Nat) : L.getD i 0 < 2 ^ wd := by
  rw [← h.fld_eq i]; exact fld_lt _ _ _
theorem Enc.set {wd : Nat} {ws L : List Nat} (h : Enc wd ws L) {i v : Nat} (hi : i < L.length) (hv : v < 2 ^ wd) :
    Enc wd (ws.set (i * wd / 64) (ins wd (ws.getD (i * wd / 64) 0) (i * wd % 64) v)) (L.set i v) := by
  have hin := h.inside hi
  refine ⟨h.wd_ok, by simpa using h.len, ?_, ?_⟩
  · intro x hx
    rcases List.mem_or_eq_of_mem_set hx with h1 | rfl
    · exact h.bnd x h1
    · exact ins_lt (h.word_lt _) (h.wd_ok.room i) hv
  · intro j
    by_cases hji : j = i
    · subst hji
      have hr := h.wd_ok.room j
      unfold fld
      simp only [List.getD_eq_getElem?_getD, List.getElem?_set, hin, hi, if_true, Option.getD_some]
      exact ins_same hr hv
    · have hL : (L.set i v).getD j 0 = L.getD j 0 := by
        simp only [List.getD_eq_getElem?_getD, List.getElem?_set]
        rw [if_neg (by omega)]
      rw [hL, ← h.fld_eq j]
      unfold fld
      by_cases hq : j * wd / 64 = i * wd / 64
      · have e1 : (ws.set (i * wd / 64) (ins wd (ws.getD (i * wd / 64) 0) (i * wd % 64) v)).getD (j * wd / 64) 0 = ins wd (ws.getD (i * wd / 64) 0) (i * wd % 64) v := by
          rw [hq, List.getD_eq_getElem?_getD, List.getElem?_set]
          simp [hin]
        rw [e1, ins_other (h.wd_ok.room i) (h.wd_ok.room j) hv (h.wd_ok.apart i j hji hq), hq]
      · have e1 : (ws.set (i * wd / 64) (ins wd (ws.getD (i * wd / 64) 0) (i * wd % 64) v)).getD (j * wd / 64) 0 = ws.getD (j * wd / 64) 0 := by
          simp only [List.getD_eq_getElem?_getD, List.getElem?_set]
          rw [if_neg (by omega)]
        rw [e1]
theorem Enc.zero {wd n : Nat} (h : Wd wd) : Enc wd (List.replicate ((n * wd + 63) / 64) 0) (List.replicate n 0) := by
  refine ⟨h, by simp, ?_, ?_⟩
  · intro x hx
    rw [(List.mem_replicate.1 hx).2]; decide
  · intro i
    have e : ∀ m k : Nat, (List.replicate m 0).getD k 0 = 0 := by
      intro m k
      rw [List.getD_eq_getElem?_getD, List.getElem?_replicate]
      split <;> rfl
    unfold fld
    rw [e, e]
    simp

theorem word_eq {wd x y : Nat} (h : Wd wd) (hx : x < 18446744073709551616) (hy : y < 18446744073709551616) (hf : ∀ k, k * wd < 64 → x / 2 ^ (k * wd) % 2 ^ wd = y / 2 ^ (k * wd) % 2 ^ wd) : x = y := by
  apply Nat.eq_of_testBit_eq
  intro j
  by_cases hj : j < 64
  · have hk := hf (j / wd) (by rcases h with rfl | rfl | rfl | rfl <;> omega)
    have hm : j % wd < wd := Nat.mod_lt _ h.pos
    have hd : j % wd + j / wd * wd = j := by rw [Nat.mul_comm]; exact Nat.mod_add_div j wd
    have h1 := congrArg (fun z => z.testBit (j % wd)) hk
    simp only [Nat.testBit_mod_two_pow, Nat.testBit_div_two_pow, hm, decide_true, Bool.true_and, hd] at h1
    exact h1
  · rw [Nat.testBit_lt_two_pow (Nat.lt_of_lt_of_le hx (Nat.pow_le_pow_right (n := 2) (i := 64) (by omega) (by omega))), Nat.testBit_lt_two_pow (Nat.lt_of_lt_of_le hy (Nat.pow_le_pow_right (n := 2) (i := 64) (by omega) (by omega)))]

theorem Enc.ext {wd : Nat} {ws ws' L : List Nat} (h : Enc wd ws L) (h' : Enc wd ws' L) : ws = ws' := by
  apply List.ext_getElem (by rw [h.len, h'.len])
  intro q hq hq'
  have hx : ws[q] = ws.getD q 0 := by rw [List.getD_eq_getElem?_getD, List.getElem?_eq_getElem hq]; rfl
  have hy : ws'[q] = ws'.getD q 0 := by rw [List.getD_eq_getElem?_getD, List.getElem?_eq_getElem hq']; rfl
  rw [hx, hy]
  refine word_eq h.wd_ok (h.word_lt q) (h'.word_lt q) fun k hk => ?_
  have hf := (h.fld_eq (64 / wd * q + k)).trans (h'.fld_eq (64 / wd * q + k)).symm
  unfold fld at hf
  have e1 : (64 / wd * q + k) * wd / 64 = q := by rcases h.wd_ok with rfl | rfl | rfl | rfl <;> omega
  have e2 : (64 / wd * q + k) * wd % 64 = k * wd := by rcases h.wd_ok with rfl | rfl | rfl | rfl <;> omega
  rw [e1, e2] at hf
  exact hf
theorem Enc.inj {wd : Nat} {ws L L' : List Nat} (h : Enc wd ws L) (h' : Enc wd ws L') (hl : L.length = L'.length) : L = L' := by
  apply List.ext_getElem hl
  intro i hi hi'
  have := (h.fld_eq i).symm.trans (h'.fld_eq i)
  rw [List.getD_eq_getElem?_getD, List.getElem?_eq_getElem hi, List.getD_eq_getElem?_getD, List.getElem?_eq_getElem hi'] at this
  exact this

end Go.Proofs.YtkhemendnoeciaaGreat
