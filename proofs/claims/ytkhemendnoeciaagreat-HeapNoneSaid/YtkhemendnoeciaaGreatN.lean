/-
  Plain mathematics: what each function of a table returns, as functions on the list of its entries. No condition but those stated.
-/
import Derived.Test.YtkhemendnoeciaaGreatM
namespace Go.Proofs.YtkhemendnoeciaaGreat
set_option linter.unusedVariables false
set_option linter.unusedSimpArgs false

/-- An entry. -/
def ent (L : List Nat) (k : Nat) : Nat := L.getD k 0
theorem ent_set (L : List Nat) (i v k : Nat) (hi : i < L.length) : ent (L.set i v) k = if k = i then v else ent L k := by
  unfold ent
  simp only [List.getD_eq_getElem?_getD, List.getElem?_set]
  by_cases h : i = k
  · subst h; simp [hi]
  · rw [if_neg h, if_neg (by omega)]
/-- The greatest value. -/
def most (wd : Nat) : Nat := 2 ^ wd - 1
theorem most_lt {wd : Nat} (h : Wd wd) : most wd < 256 := by have := h.pow_le; have := h.pow_ge; unfold most; omega
theorem lt_of_most {wd v : Nat} (h : v ≤ most wd) : v < 2 ^ wd := by have := Nat.two_pow_pos wd; unfold most at h; omega
theorem most_of_lt {wd v : Nat} (h : v < 2 ^ wd) : v ≤ most wd := by unfold most; omega

/-- Is there an entry; can an entry be this; is this run in the table. -/
def hasB (L : List Nat) (i : Int) : Bool := decide (0 ≤ i ∧ i < (L.length : Int))
def fitsB (wd : Nat) (v : Int) : Bool := decide (0 ≤ v ∧ v ≤ ((most wd : Nat) : Int))
def coversB (L : List Nat) (a n : Int) : Bool := decide (0 ≤ a ∧ a < (L.length : Int) ∧ 1 ≤ n ∧ n ≤ (L.length : Int) - a)
theorem hasB_nat {L : List Nat} {i : Int} (h : hasB L i = true) : ∃ k : Nat, i = (k : Int) ∧ k < L.length := by
  have := of_decide_eq_true h
  exact ⟨i.toNat, by omega, by omega⟩
theorem fitsB_nat {wd : Nat} {v : Int} (h : fitsB wd v = true) : ∃ x : Nat, v = (x : Int) ∧ x < 2 ^ wd := by
  have := of_decide_eq_true h
  exact ⟨v.toNat, by omega, lt_of_most (by omega)⟩
theorem fitsB_of {wd x : Nat} (h : x < 2 ^ wd) : fitsB wd (x : Int) = true := decide_eq_true ⟨by omega, by have := most_of_lt h; omega⟩
theorem hasB_of {L : List Nat} {k : Nat} (h : k < L.length) : hasB L (k : Int) = true := decide_eq_true ⟨by omega, by omega⟩
def setOk (wd : Nat) (L : List Nat) (i v : Int) : Bool := hasB L i && fitsB wd v
def setE (wd : Nat) (L : List Nat) (i v : Int) : Int := if setOk wd L i v then 0 else 1
def setL (wd : Nat) (L : List Nat) (i v : Int) : List Nat := if setOk wd L i v then L.set i.toNat v.toNat else L

def getS (L : List Nat) (i : Int) : Int := if hasB L i then ((ent L i.toNat : Nat) : Int) else -1

def fillN (L : List Nat) (a : Nat) : Nat → Nat → List Nat
  | 0, _ => L
  | n + 1, v => (fillN L a n v).set (a + n) v
@[simp] theorem fillN_length (L : List Nat) (a n v : Nat) : (fillN L a n v).length = L.length := by
  induction n with
  | zero => rfl
  | succ n ih => simp [fillN, ih]
def fillOk (wd : Nat) (L : List Nat) (a n v : Int) : Bool := coversB L a n && fitsB wd v
def fillE (wd : Nat) (L : List Nat) (a n v : Int) : Int := if fillOk wd L a n v then 0 else 1
def fillL (wd : Nat) (L : List Nat) (a n v : Int) : List Nat := if fillOk wd L a n v then fillN L a.toNat n.toNat v.toNat else L

def swapOk (wd : Nat) (L : List Nat) (i o v : Int) : Bool := hasB L i && fitsB wd o && fitsB wd v
def swapB (wd : Nat) (L : List Nat) (i o v : Int) : Bool := swapOk wd L i o v && decide (((ent L i.toNat : Nat) : Int) = o)
def swapE (wd : Nat) (L : List Nat) (i o v : Int) : Int := if swapOk wd L i o v then 0 else 1
def swapL (wd : Nat) (L : List Nat) (i o v : Int) : List Nat := if swapB wd L i o v then L.set i.toNat v.toNat else L

def dB (d : Int) : Bool := decide (-255 ≤ d ∧ d ≤ 255)
def addOk (L : List Nat) (i d : Int) : Bool := hasB L i && dB d
/-- What an entry becomes. -/
def addN (wd x : Nat) (d : Int) : Nat := if x = most wd then x else (min (max ((x : Int) + d) 0) ((most wd : Nat) : Int)).toNat
theorem addN_le {wd x : Nat} (d : Int) (hx : x ≤ most wd) : addN wd x d ≤ most wd := by unfold addN; split <;> omega
def addV (wd : Nat) (L : List Nat) (i d : Int) : Int := if addOk L i d then ((addN wd (ent L i.toNat) d : Nat) : Int) else 0
def addE (L : List Nat) (i d : Int) : Int := if addOk L i d then 0 else 1
def addL (wd : Nat) (L : List Nat) (i d : Int) : List Nat := if addOk L i d then L.set i.toNat (addN wd (ent L i.toNat) d) else L

/-- The least number below n with p, and the greatest. -/
def leastN (p : Nat → Bool) (n : Nat) : Option Nat := (List.range n).find? p
def lastN (p : Nat → Bool) : Nat → Option Nat
  | 0 => none
  | n + 1 => if p n then some n else lastN p n
theorem leastN_some {p : Nat → Bool} {n i : Nat} (hi : i < n) (hp : p i = true) (hn : ∀ j, j < i → p j = false) : leastN p n = some i := by
  unfold leastN
  rw [List.find?_range_eq_some]
  exact ⟨hp, by simpa using hi, fun j hj => by simp [hn j hj]⟩
theorem leastN_none {p : Nat → Bool} {n : Nat} (hn : ∀ j, j < n → p j = false) : leastN p n = none := by
  unfold leastN
  rw [List.find?_range_eq_none]
  exact fun j hj => by simp [hn j hj]
theorem lastN_none {p : Nat → Bool} {n : Nat} (hn : ∀ j, j < n → p j = false) : lastN p n = none := by
  induction n with
  | zero => rfl
  | succ n ih => simp [lastN, hn n (by omega), ih (fun j hj => hn j (by omega))]
theorem lastN_some {p : Nat → Bool} {n i : Nat} (hi : i < n) (hp : p i = true) (hn : ∀ j, i < j → j < n → p j = false) : lastN p n = some i := by
  induction n with
  | zero => omega
  | succ n ih =>
    by_cases h : i = n
    · subst h; simp [lastN, hp]
    · simp [lastN, hn n (by omega) (by omega), ih (by omega) (fun j h1 h2 => hn j h1 (by omega))]

def nextP (L : List Nat) (a v : Int) (k : Nat) : Bool := decide (a ≤ (k : Int)) && decide (((ent L k : Nat) : Int) = v)
def lastP (L : List Nat) (b v : Int) (k : Nat) : Bool := decide ((k : Int) < b) && decide (((ent L k : Nat) : Int) = v)
def foundV : Option Nat → Int
  | some k => (k : Int)
  | none => 0
def foundE : Option Nat → Int
  | some _ => 0
  | none => 4
def nextV (L : List Nat) (a v : Int) : Int := foundV (leastN (nextP L a v) L.length)
def nextE (L : List Nat) (a v : Int) : Int := foundE (leastN (nextP L a v) L.length)
def lastV (L : List Nat) (a v : Int) : Int := foundV (lastN (lastP L a v) L.length)
def lastE (L : List Nat) (a v : Int) : Int := foundE (lastN (lastP L a v) L.length)

def isV (L : List Nat) (v : Int) (k : Nat) : Bool := decide (((ent L k : Nat) : Int) = v)
def cntN (p : Nat → Bool) : Nat → Nat
  | 0 => 0
  | n + 1 => cntN p n + if p n then 1 else 0
theorem cntN_le (p : Nat → Bool) (n : Nat) : cntN p n ≤ n := by
  induction n with
  | zero => exact Nat.le_refl _
  | succ n ih => unfold cntN; split <;> omega

theorem cntN_yes {p : Nat → Bool} {k : Nat} (h : p k = true) : cntN p (k + 1) = cntN p k + 1 := by simp [cntN, h]
theorem cntN_no {p : Nat → Bool} {k : Nat} (h : p k = false) : cntN p (k + 1) = cntN p k := by simp [cntN, h]
theorem isV_yes {L : List Nat} {v : Int} {k : Nat} (h : ((ent L k : Nat) : Int) = v) : isV L v k = true := decide_eq_true h
theorem isV_no {L : List Nat} {v : Int} {k : Nat} (h : ¬ ((ent L k : Nat) : Int) = v) : isV L v k = false := decide_eq_false h
/-- An entry joins the last run, if they touch, or begins one. -/
def ext (rs : List (Nat × Nat)) (i : Nat) : List (Nat × Nat) :=
  match rs.getLast? with
  | some (s, z) => if s + z = i then rs.dropLast ++ [(s, z + 1)] else rs ++ [(i, 1)]
  | none => rs ++ [(i, 1)]
def runsN (p : Nat → Bool) : Nat → List (Nat × Nat)
  | 0 => []
  | n + 1 => if p n then ext (runsN p n) n else runsN p n

theorem last_cases (rs : List (Nat × Nat)) : rs = [] ∨ ∃ a s z, rs = a ++ [(s, z)] := by
  rcases List.eq_nil_or_concat rs with h | ⟨a, ⟨s, z⟩, h⟩
  · exact .inl h
  · exact .inr ⟨a, s, z, by simpa using h⟩
theorem ext_nil (i : Nat) : ext [] i = [(i, 1)] := rfl
theorem ext_join {rs : List (Nat × Nat)} {s z i : Nat} (h : s + z = i) : ext (rs ++ [(s, z)]) i = rs ++ [(s, z + 1)] := by
  simp [ext, h]
theorem ext_new {rs : List (Nat × Nat)} {s z i : Nat} (h : ¬ s + z = i) : ext (rs ++ [(s, z)]) i = rs ++ [(s, z)] ++ [(i, 1)] := by
  simp [ext, h]
/-- What is known of runs of the first n entries. -/
theorem runsN_ok (p : Nat → Bool) (n : Nat) : (runsN p n).length ≤ n ∧ (∀ r ∈ runsN p n, r.1 + r.2 ≤ n ∧ 1 ≤ r.2) ∧
    (∀ m, n = m + 1 → p m = true → ∃ a s z, runsN p n = a ++ [(s, z)] ∧ s + z = n) ∧
    (∀ m, n = m + 1 → p m = false → ∀ a s z, runsN p n = a ++ [(s, z)] → s + z < n) := by
  induction n with
  | zero => exact ⟨Nat.le_refl _, by simp [runsN], by omega, by omega⟩
  | succ n ih =>
    obtain ⟨h1, h2, h3, h4⟩ := ih
    rcases hp : p n
    · have e : runsN p (n + 1) = runsN p n := by simp [runsN, hp]
      rw [e]
      refine ⟨by omega, fun r hr => by have := h2 r hr; omega, ?_, ?_⟩
      · intro m hm hpm
        obtain rfl : m = n := by omega
        rw [hp] at hpm
        cases hpm
      · intro m hm hpm a s z he
        have := (h2 (s, z) (by rw [he]; simp)).1
        simp at this
        omega
    · have e : runsN p (n + 1) = ext (runsN p n) n := by simp [runsN, hp]
      rw [e]
      have key : (∃ a s z, runsN p n = a ++ [(s, z)] ∧ s + z = n ∧ ext (runsN p n) n = a ++ [(s, z + 1)]) ∨ ext (runsN p n) n = runsN p n ++ [(n, 1)] := by
        rcases last_cases (runsN p n) with h | ⟨a, s, z, h⟩
        · right
          rw [h]
          rfl
        · by_cases hs : s + z = n
          · left
            exact ⟨a, s, z, h, hs, by rw [h, ext_join hs]⟩
          · right
            rw [h, ext_new hs]
      rcases key with ⟨a, s, z, ha, hs, he⟩ | he
      · rw [he]
        rw [ha] at h1 h2
        refine ⟨by simp at h1 ⊢; omega, ?_, ?_, ?_⟩
        · intro r hr
          rcases List.mem_append.1 hr with h | h
          · have := h2 r (List.mem_append.2 (.inl h))
            omega
          · simp at h
            subst h
            simp
            omega
        · intro m _ _
          exact ⟨a, s, z + 1, rfl, by omega⟩
        · intro m hm hpm
          obtain rfl : m = n := by omega
          rw [hp] at hpm
          cases hpm
      · rw [he]
        refine ⟨by simp; omega, ?_, ?_, ?_⟩
        · intro r hr
          rcases List.mem_append.1 hr with h | h
          · have := h2 r h
            omega
          · simp at h
            subst h
            simp
        · intro m _ _
          exact ⟨runsN p n, n, 1, rfl, rfl⟩
        · intro m hm hpm
          obtain rfl : m = n := by omega
          rw [hp] at hpm
          cases hpm
theorem runsN_yes {p : Nat → Bool} {n : Nat} (h : p n = true) : runsN p (n + 1) = ext (runsN p n) n := by simp [runsN, h]
theorem runsN_no {p : Nat → Bool} {n : Nat} (h : p n = false) : runsN p (n + 1) = runsN p n := by simp [runsN, h]

def mergeN (_wd : Nat) (op : Int) (x y : Nat) : Nat := if op = 0 then max x y else if op = 1 then min x y else x - y
def mergeL (wd : Nat) (op : Int) (L M : List Nat) : Nat → List Nat
  | 0 => L
  | n + 1 => (mergeL wd op L M n).set n (mergeN wd op (ent L n) (ent M n))
end Go.Proofs.YtkhemendnoeciaaGreat
