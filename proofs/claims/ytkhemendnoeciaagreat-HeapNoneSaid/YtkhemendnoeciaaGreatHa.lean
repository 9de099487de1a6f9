/-
  Plain mathematics of heaps: objects by their addresses, what words and pairs hold, what becomes of them where an object is laid or taken away. No condition but those stated.
-/
import Derived.Test.YtkhemendnoeciaaGreatN
namespace Go.Proofs.YtkhemendnoeciaaGreat
set_option linter.unusedVariables false
set_option linter.unusedSimpArgs false

/-- An object. -/
structure Ob where
  id : Nat
  refs : Nat
  data : Nat
  kind : Nat
  fs : List Int
  pin : Bool
def wdN (r d : Nat) : Nat := (r + d + 3) / 2 * 2
def shN (r d k : Nat) : Nat := r + 16 * d + 4096 * k
def Ob.wd (o : Ob) : Nat := wdN o.refs o.data
def Ob.sh (o : Ob) : Nat := shN o.refs o.data o.kind
def Ob.word (o : Ob) (i : Nat) : Int := if i = 0 then (o.id : Int) else if i = 1 then (o.sh : Int) else o.fs.getD (i - 2) 0
/-- Is a shape valid. -/
def vldB (r d k : Int) : Bool := decide (0 ≤ r ∧ r ≤ 15 ∧ 0 ≤ d ∧ d ≤ 200 ∧ (k = 0 ∨ k = 3 ∨ (k = 1 ∧ 1 ≤ r) ∨ (k = 2 ∧ 2 ≤ r)))
def wordsI (r d k : Int) : Int := if vldB r d k then ((wdN r.toNat d.toNat : Nat) : Int) else 0
structure Ob.Ok (o : Ob) : Prop where
  vld : vldB o.refs o.data o.kind = true
  len : o.fs.length = o.refs + o.data
  pos : 1 ≤ o.id
theorem vldB_nat {r d k : Int} (h : vldB r d k = true) : ∃ r' d' k' : Nat, r = (r' : Int) ∧ d = (d' : Int) ∧ k = (k' : Int) ∧ r' ≤ 15 ∧ d' ≤ 200 ∧ k' ≤ 3 := by
  have := of_decide_eq_true h
  exact ⟨r.toNat, d.toNat, k.toNat, by omega, by omega, by omega, by omega, by omega, by omega⟩
theorem vldB_bd {r d k : Nat} (h : vldB r d k = true) : r ≤ 15 ∧ d ≤ 200 ∧ k ≤ 3 := by
  have := of_decide_eq_true h
  omega
theorem wdN_bd {r d : Nat} (hr : r ≤ 15) (hd : d ≤ 200) : 2 ≤ wdN r d ∧ wdN r d ≤ 218 ∧ wdN r d % 2 = 0 ∧ r + d + 2 ≤ wdN r d := by unfold wdN; omega
theorem Ob.Ok.bd {o : Ob} (h : o.Ok) : o.refs ≤ 15 ∧ o.data ≤ 200 ∧ o.kind ≤ 3 := vldB_bd h.vld
theorem Ob.Ok.wd_bd {o : Ob} (h : o.Ok) : 2 ≤ o.wd ∧ o.wd ≤ 218 ∧ o.wd % 2 = 0 ∧ o.refs + o.data + 2 ≤ o.wd := wdN_bd h.bd.1 h.bd.2.1

/-- A heap: its blocks (state, space), the objects by their addresses, the forwards, their number, how many objects were placed. -/
structure HM where
  bl : List (Nat × Nat)
  ob : Nat → Option Ob
  fw : Nat → Option Nat
  fn : Nat
  born : Nat
def HM.n (m : HM) : Nat := 64 * m.bl.length
def HM.st (m : HM) (b : Nat) : Nat := (m.bl.getD b (0, 0)).1
def HM.sp (m : HM) (b : Nat) : Nat := (m.bl.getD b (0, 0)).2
/-- The end of the group of a block. -/
def grpEnd (bl : List (Nat × Nat)) (b : Nat) : Nat :=
  match leastN (fun i => decide (b + 1 ≤ i) && decide (((bl.getD i (0, 0)).1) ≠ 3)) bl.length with
  | some e => e
  | none => max bl.length (b + 1)
theorem leastN_iff {p : Nat → Bool} {n i : Nat} : leastN p n = some i ↔ i < n ∧ p i = true ∧ ∀ j, j < i → p j = false := by
  constructor
  · intro h
    unfold leastN at h
    rw [List.find?_range_eq_some] at h
    exact ⟨by simpa using h.2.1, h.1, fun j hj => by simpa using h.2.2 j hj⟩
  · rintro ⟨h1, h2, h3⟩
    exact leastN_some h1 h2 h3
theorem leastN_none_iff {p : Nat → Bool} {n : Nat} : leastN p n = none ↔ ∀ j, j < n → p j = false := by
  constructor
  · intro h
    unfold leastN at h
    rw [List.find?_range_eq_none] at h
    exact fun j hj => by simpa using h j hj
  · exact leastN_none
/-- The group's end: behind b + 1 there are only tails up to it, and there it ends. -/
theorem grpEnd_iff (bl : List (Nat × Nat)) (b e : Nat) (hb : b < bl.length) : grpEnd bl b = e ↔ (b + 1 ≤ e ∧ e ≤ bl.length ∧ (∀ i, b + 1 ≤ i → i < e → (bl.getD i (0, 0)).1 = 3) ∧ (e < bl.length → (bl.getD e (0, 0)).1 ≠ 3)) := by
  unfold grpEnd
  constructor
  · intro h
    rcases hl : leastN (fun i => decide (b + 1 ≤ i) && decide (((bl.getD i (0, 0)).1) ≠ 3)) bl.length with _ | x
    · rw [hl] at h
      rw [leastN_none_iff] at hl
      simp only at h
      refine ⟨by omega, by omega, fun i h1 h2 => ?_, fun h1 => by omega⟩
      have := hl i (by omega)
      simp [h1] at this
      exact this
    · rw [hl] at h
      rw [leastN_iff] at hl
      obtain ⟨h1, h2, h3⟩ := hl
      simp only at h
      subst h
      simp at h2
      refine ⟨h2.1, by omega, fun i h4 h5 => ?_, fun _ => h2.2⟩
      have := h3 i h5
      simp [h4] at this
      exact this
  · rintro ⟨h1, h2, h3, h4⟩
    by_cases he : e < bl.length
    · have : leastN (fun i => decide (b + 1 ≤ i) && decide (((bl.getD i (0, 0)).1) ≠ 3)) bl.length = some e := by
        rw [leastN_iff]
        refine ⟨he, by simp only [Bool.and_eq_true, decide_eq_true_eq]; exact ⟨h1, h4 he⟩, fun j hj => ?_⟩
        by_cases hj2 : b + 1 ≤ j
        · simp only [h3 j hj2 hj]
          simp
        · rw [decide_eq_false hj2]; rfl
      rw [this]
    · have : leastN (fun i => decide (b + 1 ≤ i) && decide (((bl.getD i (0, 0)).1) ≠ 3)) bl.length = none := by
        rw [leastN_none_iff]
        intro j hj
        by_cases hj2 : b + 1 ≤ j
        · simp only [h3 j hj2 (by omega)]
          simp
        · rw [decide_eq_false hj2]; rfl
      rw [this]
      simp only
      omega
/-- Would an object of so many words lie in blocks of its kind. -/
def suitB (bl : List (Nat × Nat)) (a wd : Nat) : Bool :=
  if wd ≤ 32 then decide ((bl.getD (a / 64) (0, 0)).1 = 1 ∧ a % 64 + wd ≤ 64) else decide ((bl.getD (a / 64) (0, 0)).1 = 2 ∧ a % 64 = 0 ∧ grpEnd bl (a / 64) - a / 64 = (wd + 63) / 64)
structure HM.Inv (m : HM) : Prop where
  len2 : 2 ≤ m.bl.length
  len64 : m.bl.length ≤ 64
  b0 : m.st 0 = 0
  free0 : ∀ b, m.st b = 0 → m.sp b = 0
  even : ∀ a o, m.ob a = some o → a % 2 = 0
  ok : ∀ a o, m.ob a = some o → o.Ok
  idb : ∀ a o, m.ob a = some o → o.id ≤ m.born
  lie : ∀ a o, m.ob a = some o → suitB m.bl a o.wd = true
  apart : ∀ a o a' o', m.ob a = some o → m.ob a' = some o' → a < a' → a + o.wd ≤ a'
  ids : ∀ a o a' o', m.ob a = some o → m.ob a' = some o' → o.id = o'.id → a = a'
theorem st_lt {bl : List (Nat × Nat)} {b : Nat} (h : (bl.getD b (0, 0)).1 ≠ 0) : b < bl.length := by
  rcases Nat.lt_or_ge b bl.length with h1 | h1
  · exact h1
  · rw [List.getD_eq_getElem?_getD, List.getElem?_eq_none h1] at h
    exact absurd rfl h
theorem suit_bd {bl : List (Nat × Nat)} {a wd : Nat} (h : suitB bl a wd = true) : a / 64 < bl.length ∧ a + wd ≤ 64 * bl.length ∧ (bl.getD (a / 64) (0, 0)).1 ≠ 0 := by
  unfold suitB at h
  split at h
  · have h1 := of_decide_eq_true h
    have h2 : (bl.getD (a / 64) (0, 0)).1 ≠ 0 := by omega
    have h3 := st_lt h2
    exact ⟨h3, by omega, h2⟩
  · have h1 := of_decide_eq_true h
    have h2 : (bl.getD (a / 64) (0, 0)).1 ≠ 0 := by omega
    have h3 := st_lt h2
    have h4 := ((grpEnd_iff bl (a / 64) _ h3).1 rfl)
    exact ⟨h3, by omega, h2⟩
section
variable {m : HM}
theorem HM.Inv.lo (I : m.Inv) {a : Nat} {o : Ob} (h : m.ob a = some o) : 64 ≤ a := by
  have h1 := (suit_bd (I.lie a o h)).2.2
  rcases Nat.lt_or_ge a 64 with h2 | h2
  · have : a / 64 = 0 := by omega
    rw [this] at h1
    exact absurd I.b0 h1
  · exact h2
theorem HM.Inv.hi (I : m.Inv) {a : Nat} {o : Ob} (h : m.ob a = some o) : a + o.wd ≤ m.n := (suit_bd (I.lie a o h)).2.1
theorem HM.Inv.n_bd (I : m.Inv) : 128 ≤ m.n ∧ m.n ≤ 4096 := by
  have := I.len2
  have := I.len64
  unfold HM.n
  omega
/-- Two objects that have a word in common are one. -/
theorem HM.Inv.same (I : m.Inv) {a a' k : Nat} {o o' : Ob} (h : m.ob a = some o) (h' : m.ob a' = some o') (h1 : a ≤ k) (h2 : k < a + o.wd) (h3 : a' ≤ k) (h4 : k < a' + o'.wd) : a = a' := by
  rcases Nat.lt_trichotomy a a' with hl | hl | hl
  · have := I.apart _ _ _ _ h h' hl; omega
  · exact hl
  · have := I.apart _ _ _ _ h' h hl; omega
end
/-- Does a word belong to an object. -/
def HM.cv (m : HM) (k : Nat) : Prop := ∃ a o, m.ob a = some o ∧ a ≤ k ∧ k < a + o.wd
/-- The object that a word belongs to, or 0. -/
def HM.own (m : HM) (k : Nat) : Nat :=
  match lastN (fun a => (m.ob a).isSome) (k + 1) with
  | some a => (match m.ob a with
    | some o => if k < a + o.wd then a else 0
    | none => 0)
  | none => 0
theorem lastN_spec {p : Nat → Bool} {n i : Nat} (h : lastN p n = some i) : i < n ∧ p i = true ∧ ∀ j, i < j → j < n → p j = false := by
  induction n with
  | zero => cases h
  | succ n ih =>
    unfold lastN at h
    rcases hp : p n
    · rw [hp] at h
      obtain ⟨h1, h2, h3⟩ := ih h
      refine ⟨by omega, h2, fun j h4 h5 => ?_⟩
      by_cases hj : j = n
      · rw [hj]; exact hp
      · exact h3 j h4 (by omega)
    · rw [hp] at h
      simp at h
      subst h
      exact ⟨by omega, hp, fun j h4 h5 => by omega⟩
section
variable {m : HM}
theorem own_cov (I : m.Inv) {a k : Nat} {o : Ob} (h : m.ob a = some o) (h1 : a ≤ k) (h2 : k < a + o.wd) : m.own k = a := by
  have : lastN (fun a => (m.ob a).isSome) (k + 1) = some a := by
    refine lastN_some (by omega) (by simp [h]) fun j hj hk => ?_
    rcases hj' : m.ob j with _ | o'
    · rfl
    · have := I.apart _ _ _ _ h hj' hj
      omega
  unfold HM.own
  rw [this]
  simp [h, h2]
theorem own_gap {k : Nat} (h : ¬ m.cv k) : m.own k = 0 := by
  unfold HM.own
  rcases hl : lastN (fun a => (m.ob a).isSome) (k + 1) with _ | a
  · rfl
  · obtain ⟨h1, h2, h3⟩ := lastN_spec hl
    rcases ho : m.ob a with _ | o
    · simp [ho]
    · by_cases hk : k < a + o.wd
      · exact absurd ⟨a, o, ho, by omega, hk⟩ h
      · simp [ho, hk]
theorem own_cases (I : m.Inv) (k : Nat) : (∃ a o, m.ob a = some o ∧ a ≤ k ∧ k < a + o.wd ∧ m.own k = a) ∨ (¬ m.cv k ∧ m.own k = 0) := by
  by_cases h : m.cv k
  · obtain ⟨a, o, h0, h1, h2⟩ := h
    exact .inl ⟨a, o, h0, h1, h2, own_cov I h0 h1 h2⟩
  · exact .inr ⟨h, own_gap h⟩
theorem own_ne (I : m.Inv) (k : Nat) : m.own k ≠ 0 ↔ m.cv k := by
  rcases own_cases I k with ⟨a, o, h0, h1, h2, h3⟩ | ⟨h1, h2⟩
  · have := I.lo h0
    exact ⟨fun _ => ⟨a, o, h0, h1, h2⟩, fun _ => by omega⟩
  · exact ⟨fun h => absurd h2 h, fun h => absurd h h1⟩
end

/-- What words, pairs and pins hold. -/
structure Rep (m : HM) (W : Nat → Int) (P N : Nat → Nat) : Prop where
  w_ob : ∀ a o, m.ob a = some o → ∀ i, i < o.wd → W (a + i) = o.word i
  w_gap : ∀ k, ¬ m.cv k → W k = 0
  p_ob : ∀ a o, m.ob a = some o → P (a / 2) = 1
  p_in : ∀ a o, m.ob a = some o → ∀ j, a < 2 * j → 2 * j < a + o.wd → P j = 2
  p_gap : ∀ j, ¬ m.cv (2 * j) → P j = 0
  n_ob : ∀ a o, m.ob a = some o → N (a / 2) = if o.pin then 1 else 0
  n_gap : ∀ j, m.ob (2 * j) = none → N j = 0
def HM.add (m : HM) (a : Nat) (o : Ob) : HM := { m with ob := fun x => if x = a then some o else m.ob x }
def HM.del (m : HM) (a : Nat) : HM := { m with ob := fun x => if x = a then none else m.ob x }
section
variable {m : HM} {W W' : Nat → Int} {P P' N N' : Nat → Nat} {a : Nat} {o : Ob}
theorem Rep.p_one (R : Rep m W P N) (I : m.Inv) (j : Nat) : P j = 1 ↔ (m.ob (2 * j)).isSome = true := by
  constructor
  · intro h
    by_cases hc : m.cv (2 * j)
    · obtain ⟨a, o, h0, h1, h2⟩ := hc
      by_cases he : a = 2 * j
      · subst he; simp [h0]
      · have := R.p_in a o h0 j (by omega) h2
        omega
    · have := R.p_gap j hc
      omega
  · intro h
    obtain ⟨o, ho⟩ := Option.isSome_iff_exists.1 h
    have := R.p_ob _ _ ho
    rw [show 2 * j / 2 = j by omega] at this
    exact this
theorem Rep.p_zero (R : Rep m W P N) (I : m.Inv) (j : Nat) : P j = 0 ↔ ¬ m.cv (2 * j) := by
  constructor
  · rintro h ⟨a, o, h0, h1, h2⟩
    by_cases he : a = 2 * j
    · have := R.p_ob _ _ h0
      rw [he, show 2 * j / 2 = j by omega] at this
      omega
    · have := R.p_in a o h0 j (by omega) h2
      omega
  · exact R.p_gap j
theorem add_cv {k : Nat} (hf : m.ob a = none) : (m.add a o).cv k ↔ (m.cv k ∨ (a ≤ k ∧ k < a + o.wd)) := by
  unfold HM.cv HM.add
  constructor
  · rintro ⟨x, y, h0, h1, h2⟩
    simp only at h0
    split at h0
    · cases h0
      subst x
      exact .inr ⟨h1, h2⟩
    · exact .inl ⟨x, y, h0, h1, h2⟩
  · rintro (⟨x, y, h0, h1, h2⟩ | ⟨h1, h2⟩)
    · refine ⟨x, y, ?_, h1, h2⟩
      simp only
      rw [if_neg (by rintro rfl; rw [hf] at h0; cases h0)]
      exact h0
    · exact ⟨a, o, by simp, h1, h2⟩
/-- The words from a on are free. -/
def HM.free (m : HM) (a wd : Nat) : Prop := ∀ k, a ≤ k → k < a + wd → ¬ m.cv k
theorem HM.Inv.add (I : m.Inv) (ho : o.Ok) (he : a % 2 = 0) (hs : suitB m.bl a o.wd = true) (hf : m.free a o.wd) (hid : ∀ x y, m.ob x = some y → y.id ≠ o.id) (hb : o.id ≤ m.born) : (m.add a o).Inv := by
  have hw := ho.wd_bd
  have F : ∀ x y, (m.add a o).ob x = some y → (x = a ∧ y = o) ∨ (x ≠ a ∧ m.ob x = some y) := fun x y h => by
    unfold HM.add at h
    simp only at h
    split at h
    · cases h; exact .inl ⟨by assumption, rfl⟩
    · exact .inr ⟨by assumption, h⟩
  refine ⟨I.len2, I.len64, I.b0, I.free0, ?_, ?_, ?_, ?_, ?_, ?_⟩
  · intro x y h
    rcases F x y h with ⟨rfl, rfl⟩ | ⟨_, h1⟩
    · exact he
    · exact I.even _ _ h1
  · intro x y h
    rcases F x y h with ⟨rfl, rfl⟩ | ⟨_, h1⟩
    · exact ho
    · exact I.ok _ _ h1
  · intro x y h
    rcases F x y h with ⟨rfl, rfl⟩ | ⟨_, h1⟩
    · exact hb
    · exact I.idb _ _ h1
  · intro x y h
    rcases F x y h with ⟨rfl, rfl⟩ | ⟨_, h1⟩
    · exact hs
    · exact I.lie _ _ h1
  · intro x y x' y' h h' hlt
    rcases F x y h with ⟨rfl, rfl⟩ | ⟨_, h1⟩ <;> rcases F x' y' h' with ⟨rfl, rfl⟩ | ⟨_, h2⟩
    · omega
    · rcases Nat.lt_or_ge x' (x + y.wd) with hc | hc
      · have := (I.ok _ _ h2).wd_bd
        exact absurd ⟨x', y', h2, Nat.le_refl _, by omega⟩ (hf x' (by omega) hc)
      · exact hc
    · rcases Nat.lt_or_ge x' (x + y.wd) with hc | hc
      · exact absurd ⟨x, y, h1, by omega, hc⟩ (hf x' (Nat.le_refl _) (by omega))
      · exact hc
    · exact I.apart _ _ _ _ h1 h2 hlt
  · intro x y x' y' h h' hi
    rcases F x y h with ⟨rfl, rfl⟩ | ⟨_, h1⟩ <;> rcases F x' y' h' with ⟨rfl, rfl⟩ | ⟨_, h2⟩
    · rfl
    · exact absurd hi.symm (hid _ _ h2)
    · exact absurd hi (hid _ _ h1)
    · exact I.ids _ _ _ _ h1 h2 hi
theorem HM.Inv.del (I : m.Inv) (a : Nat) : (m.del a).Inv := by
  have F : ∀ x y, (m.del a).ob x = some y → x ≠ a ∧ m.ob x = some y := fun x y h => by
    unfold HM.del at h
    simp only at h
    split at h
    · cases h
    · exact ⟨by assumption, h⟩
  refine ⟨I.len2, I.len64, I.b0, I.free0, ?_, ?_, ?_, ?_, ?_, ?_⟩
  · exact fun x y h => I.even _ _ (F x y h).2
  · exact fun x y h => I.ok _ _ (F x y h).2
  · exact fun x y h => I.idb _ _ (F x y h).2
  · exact fun x y h => I.lie _ _ (F x y h).2
  · exact fun x y x' y' h h' => I.apart _ _ _ _ (F x y h).2 (F x' y' h').2
  · exact fun x y x' y' h h' => I.ids _ _ _ _ (F x y h).2 (F x' y' h').2
theorem del_cv (I : m.Inv) (h : m.ob a = some o) {k : Nat} : (m.del a).cv k ↔ (m.cv k ∧ ¬ (a ≤ k ∧ k < a + o.wd)) := by
  unfold HM.cv HM.del
  constructor
  · rintro ⟨x, y, h0, h1, h2⟩
    simp only at h0
    split at h0
    · cases h0
    · refine ⟨⟨x, y, h0, h1, h2⟩, fun hc => ?_⟩
      have := I.same h h0 hc.1 hc.2 h1 h2
      exact absurd this.symm (by assumption)
  · rintro ⟨⟨x, y, h0, h1, h2⟩, hn⟩
    refine ⟨x, y, ?_, h1, h2⟩
    simp only
    rw [if_neg]
    · exact h0
    · rintro rfl
      rw [h] at h0
      cases h0
      exact hn ⟨h1, h2⟩
theorem Rep.add (R : Rep m W P N) (I : m.Inv) (ho : o.Ok) (he : a % 2 = 0) (hf : m.free a o.wd) (hp : o.pin = false)
    (hW : ∀ k, W' k = if a ≤ k ∧ k < a + o.wd then o.word (k - a) else W k) (hP : ∀ j, P' j = if j = a / 2 then 1 else if a ≤ 2 * j ∧ 2 * j < a + o.wd then 2 else P j) : Rep (m.add a o) W' P' N := by
  have hw := ho.wd_bd
  have hn : m.ob a = none := by
    rcases h : m.ob a with _ | y
    · rfl
    · have := (I.ok _ _ h).wd_bd
      exact absurd ⟨a, y, h, Nat.le_refl _, by omega⟩ (hf a (Nat.le_refl _) (by omega))
  have F : ∀ x y, (m.add a o).ob x = some y → (x = a ∧ y = o) ∨ (x ≠ a ∧ m.ob x = some y) := fun x y h => by
    unfold HM.add at h
    simp only at h
    split at h
    · cases h; exact .inl ⟨by assumption, rfl⟩
    · exact .inr ⟨by assumption, h⟩
  refine ⟨?_, ?_, ?_, ?_, ?_, ?_, ?_⟩
  · intro x y h i hi
    rcases F x y h with ⟨rfl, rfl⟩ | ⟨hx, h1⟩
    · rw [hW, if_pos (by omega), show x + i - x = i by omega]
    · rw [hW, if_neg (fun hc => hf (x + i) hc.1 hc.2 ⟨x, y, h1, by omega, by omega⟩)]
      exact R.w_ob _ _ h1 i hi
  · intro k hk
    rw [add_cv hn] at hk
    rw [hW, if_neg (fun hc => hk (.inr hc))]
    exact R.w_gap k (fun hc => hk (.inl hc))
  · intro x y h
    rw [hP]
    rcases F x y h with ⟨rfl, rfl⟩ | ⟨hx, h1⟩
    · rw [if_pos rfl]
    · have h2 := I.even _ _ h1
      have h3 := (I.ok _ _ h1).wd_bd
      rw [if_neg (by omega), if_neg (fun hc => hf x (by omega) (by omega) ⟨x, y, h1, Nat.le_refl _, by omega⟩)]
      exact R.p_ob _ _ h1
  · intro x y h j h4 h5
    rw [hP]
    rcases F x y h with ⟨rfl, rfl⟩ | ⟨hx, h1⟩
    · rw [if_neg (by omega), if_pos (by omega)]
    · have hc : ¬ (a ≤ 2 * j ∧ 2 * j < a + o.wd) := fun hc => hf (2 * j) hc.1 hc.2 ⟨x, y, h1, by omega, by omega⟩
      rw [if_neg (by omega), if_neg hc]
      exact R.p_in _ _ h1 j h4 h5
  · intro j hj
    rw [add_cv hn] at hj
    have hc : ¬ (a ≤ 2 * j ∧ 2 * j < a + o.wd) := fun hc => hj (.inr hc)
    rw [hP, if_neg (by omega), if_neg hc]
    exact R.p_gap j (fun hc => hj (.inl hc))
  · intro x y h
    rcases F x y h with ⟨rfl, rfl⟩ | ⟨hx, h1⟩
    · rw [hp, R.n_gap (x / 2) (by rw [show 2 * (x / 2) = x by omega]; exact hn)]
      rfl
    · exact R.n_ob _ _ h1
  · intro j hj
    unfold HM.add at hj
    simp only at hj
    split at hj
    · cases hj
    · exact R.n_gap j hj
theorem Rep.del (R : Rep m W P N) (I : m.Inv) (h : m.ob a = some o)
    (hW : ∀ k, W' k = if a ≤ k ∧ k < a + o.wd then 0 else W k) (hP : ∀ j, P' j = if a ≤ 2 * j ∧ 2 * j < a + o.wd then 0 else P j) (hN : ∀ j, N' j = if j = a / 2 then 0 else N j) : Rep (m.del a) W' P' N' := by
  have F : ∀ x y, (m.del a).ob x = some y → x ≠ a ∧ m.ob x = some y := fun x y h => by
    unfold HM.del at h
    simp only at h
    split at h
    · cases h
    · exact ⟨by assumption, h⟩
  have hw := (I.ok _ _ h).wd_bd
  have ha := I.even _ _ h
  refine ⟨?_, ?_, ?_, ?_, ?_, ?_, ?_⟩
  · intro x y h1 i hi
    obtain ⟨hx, h1⟩ := F x y h1
    rw [hW, if_neg (fun hc => hx (I.same h h1 hc.1 hc.2 (by omega) (by omega)).symm)]
    exact R.w_ob _ _ h1 i hi
  · intro k hk
    rw [del_cv I h] at hk
    rw [hW]
    split
    · rfl
    · exact R.w_gap k (fun hc => hk ⟨hc, by assumption⟩)
  · intro x y h1
    obtain ⟨hx, h1⟩ := F x y h1
    have h2 := I.even _ _ h1
    have h3 := (I.ok _ _ h1).wd_bd
    rw [hP, if_neg (fun hc => hx (I.same h h1 hc.1 hc.2 (by omega) (by omega)).symm)]
    exact R.p_ob _ _ h1
  · intro x y h1 j h4 h5
    obtain ⟨hx, h1⟩ := F x y h1
    rw [hP, if_neg (fun hc => hx (I.same h h1 hc.1 hc.2 (by omega) (by omega)).symm)]
    exact R.p_in _ _ h1 j h4 h5
  · intro j hj
    rw [del_cv I h] at hj
    rw [hP]
    split
    · rfl
    · exact R.p_gap j (fun hc => hj ⟨hc, by assumption⟩)
  · intro x y h1
    obtain ⟨hx, h1⟩ := F x y h1
    have h2 := I.even _ _ h1
    rw [hN, if_neg (by omega)]
    exact R.n_ob _ _ h1
  · intro j hj
    unfold HM.del at hj
    simp only at hj
    rw [hN]
    split at hj
    · rw [if_pos (by omega)]
    · rw [if_neg (by omega)]
      exact R.n_gap j hj
/-- Another object at the same address with the same identity and shape. -/
theorem Rep.put (R : Rep m W P N) (I : m.Inv) {o' : Ob} (h : m.ob a = some o) (hw : o'.wd = o.wd)
    (hW : ∀ k, W' k = if a ≤ k ∧ k < a + o.wd then o'.word (k - a) else W k) (hN : ∀ j, N' j = if j = a / 2 then (if o'.pin then 1 else 0) else N j) : Rep (m.add a o') W' P N' := by
  have F : ∀ x y, (m.add a o').ob x = some y → (x = a ∧ y = o') ∨ (x ≠ a ∧ m.ob x = some y) := fun x y h => by
    unfold HM.add at h
    simp only at h
    split at h
    · cases h; exact .inl ⟨by assumption, rfl⟩
    · exact .inr ⟨by assumption, h⟩
  have C : ∀ k, (m.add a o').cv k ↔ m.cv k := fun k => by
    unfold HM.cv
    constructor
    · rintro ⟨x, y, h0, h1, h2⟩
      rcases F x y h0 with ⟨rfl, rfl⟩ | ⟨hx, h3⟩
      · exact ⟨x, o, h, h1, by omega⟩
      · exact ⟨x, y, h3, h1, h2⟩
    · rintro ⟨x, y, h0, h1, h2⟩
      by_cases hx : x = a
      · subst hx
        rw [h] at h0
        cases h0
        exact ⟨x, o', by simp [HM.add], h1, by omega⟩
      · exact ⟨x, y, by simp [HM.add, hx]; exact h0, h1, h2⟩
  refine ⟨?_, ?_, ?_, ?_, ?_, ?_, ?_⟩
  · intro x y h1 i hi
    rcases F x y h1 with ⟨rfl, rfl⟩ | ⟨hx, h1⟩
    · rw [hW, if_pos (by omega), show x + i - x = i by omega]
    · rw [hW, if_neg (fun hc => hx (I.same h h1 hc.1 hc.2 (by omega) (by omega)).symm)]
      exact R.w_ob _ _ h1 i hi
  · intro k hk
    rw [C] at hk
    rw [hW, if_neg (fun hc => hk ⟨a, o, h, hc.1, hc.2⟩)]
    exact R.w_gap k hk
  · intro x y h1
    rcases F x y h1 with ⟨rfl, rfl⟩ | ⟨hx, h1⟩
    · exact R.p_ob _ _ h
    · exact R.p_ob _ _ h1
  · intro x y h1 j h4 h5
    rcases F x y h1 with ⟨rfl, rfl⟩ | ⟨hx, h1⟩
    · exact R.p_in _ _ h j h4 (by omega)
    · exact R.p_in _ _ h1 j h4 h5
  · intro j hj
    rw [C] at hj
    exact R.p_gap j hj
  · intro x y h1
    have ha := I.even _ _ h
    rcases F x y h1 with ⟨rfl, rfl⟩ | ⟨hx, h1⟩
    · rw [hN, if_pos rfl]
    · have h2 := I.even _ _ h1
      rw [hN, if_neg (by omega)]
      exact R.n_ob _ _ h1
  · intro j hj
    unfold HM.add at hj
    simp only at hj
    split at hj
    · cases hj
    · have ha := I.even _ _ h
      rw [hN, if_neg (by omega)]
      exact R.n_gap j hj
theorem HM.Inv.put (I : m.Inv) {o' : Ob} (h : m.ob a = some o) (ho : o'.Ok) (hid : o'.id = o.id) (hw : o'.wd = o.wd) : (m.add a o').Inv := by
  have F : ∀ x y, (m.add a o').ob x = some y → (x = a ∧ y = o') ∨ (x ≠ a ∧ m.ob x = some y) := fun x y h => by
    unfold HM.add at h
    simp only at h
    split at h
    · cases h; exact .inl ⟨by assumption, rfl⟩
    · exact .inr ⟨by assumption, h⟩
  refine ⟨I.len2, I.len64, I.b0, I.free0, ?_, ?_, ?_, ?_, ?_, ?_⟩
  · intro x y h1
    rcases F x y h1 with ⟨rfl, rfl⟩ | ⟨_, h1⟩
    · exact I.even _ _ h
    · exact I.even _ _ h1
  · intro x y h1
    rcases F x y h1 with ⟨rfl, rfl⟩ | ⟨_, h1⟩
    · exact ho
    · exact I.ok _ _ h1
  · intro x y h1
    rcases F x y h1 with ⟨rfl, rfl⟩ | ⟨_, h1⟩
    · rw [hid]; exact I.idb _ _ h
    · exact I.idb _ _ h1
  · intro x y h1
    rcases F x y h1 with ⟨rfl, rfl⟩ | ⟨_, h1⟩
    · rw [hw]; exact I.lie _ _ h
    · exact I.lie _ _ h1
  · intro x y x' y' h1 h' hlt
    rcases F x y h1 with ⟨rfl, rfl⟩ | ⟨_, h3⟩ <;> rcases F x' y' h' with ⟨rfl, rfl⟩ | ⟨_, h2⟩
    · omega
    · rw [hw]; exact I.apart _ _ _ _ h h2 hlt
    · exact I.apart _ _ _ _ h3 h hlt
    · exact I.apart _ _ _ _ h3 h2 hlt
  · intro x y x' y' h1 h' hi
    rcases F x y h1 with ⟨rfl, rfl⟩ | ⟨_, h3⟩ <;> rcases F x' y' h' with ⟨rfl, rfl⟩ | ⟨_, h2⟩
    · rfl
    · exact I.ids _ _ _ _ h h2 (by omega)
    · exact I.ids _ _ _ _ h3 h (by omega)
    · exact I.ids _ _ _ _ h3 h2 hi
end
end Go.Proofs.YtkhemendnoeciaaGreat
