/-
  The contract of package heap's Ident, at an object; and the law HeapIdents, walked. Conditions: those that stand in each theorem.
-/
import Derived.Test.YtplgbpmldjngoaaId
import Derived.Test.YtplgbpmldjngoaaIe
namespace Go.Proofs.Ytplgbpmldjngoaa
set_option linter.unusedVariables false
set_option linter.unusedSimpArgs false
open Go.RowKit Go.Deep Go.Maps

section
variable {w w' : World} {b : HB} {r : RM} {m : HM} {q : Nat}
theorem h_ident_ob (h : SH w b q m) {a : Nat} {o : Ob} (ho : m.ob a = some o) :
    Calls Try.prog 70 #[.pointer (some ⟨b.g, 0, none⟩), .int .i64 (a : Int)] w fun e w' => e = .returned (.tuple #[.int .i64 (o.id : Int), .int .i64 0]) ∧ ∃ n, w' = w.drewN n := by
  have h0 := h
  obtain ⟨r, R, A, _⟩ := h
  have hhi := A.inv.hi ho
  have hw := (A.inv.ok _ _ ho).wd_bd
  have hwl := A.wl R
  have hnb := A.inv.n_bd
  have hc1 := R.c1
  have hx := R.word (k := a) (by omega)
  rw [A.w0 ho] at hx
  have hal : (a : Int) < (r.ws.length : Int) := by omega
  have HE : Hid (m.lackE (a : Int) = 0) := by show _ = _; simp [HM.lackE, has_of ho]
  have HW : Hid (W64 (a : Int)) := ⟨by omega, by omega⟩
  clear A ho hw
  go_enter Try.func70, Try.ntmps70
  go_wp2_with (go_at_call 74; refine (h_check h0 _ HW.out).mono ?_; rintro e w' ⟨rfl, n1, rfl⟩; rw [HE.out])
  go_ret2
  exact ⟨rfl, _, rfl⟩
theorem all_at {i : Nat} (hi : i < m.allL.length) : ∃ (a : Nat) (o : Ob), m.allL.getD i 0 = (a : Int) ∧ m.ob a = some o := by
  have hm : m.allL.getD i 0 ∈ m.allL := by
    rw [List.getD_eq_getElem?_getD, List.getElem?_eq_getElem hi]
    exact List.getElem_mem hi
  obtain ⟨j, h1, h2, h3⟩ := (fpL_mem _ _ _ _).1 hm
  obtain ⟨o, ho⟩ := Option.isSome_iff_exists.1 h3
  exact ⟨_, o, h2, ho⟩
theorem all_lt {i j : Nat} (hi : i < j) (hj : j < m.allL.length) : m.allL.getD i 0 < m.allL.getD j 0 := by
  have := List.pairwise_iff_getElem.1 (fpL_sorted m 0 (32 * m.bl.length)) i j (by unfold HM.allL at hj; omega) hj hi
  rw [List.getD_eq_getElem?_getD, List.getD_eq_getElem?_getD, List.getElem?_eq_getElem (by omega), List.getElem?_eq_getElem hj]
  exact this
theorem all_mem (I : m.Inv) {a : Nat} {o : Ob} (ho : m.ob a = some o) : ∃ i, i < m.allL.length ∧ m.allL.getD i 0 = (a : Int) := by
  have he := I.even _ _ ho
  have hh := I.hi ho
  have hw := (I.ok _ _ ho).wd_bd
  have hn : m.n = 64 * m.bl.length := rfl
  have hm : ((a : Nat) : Int) ∈ m.allL := (fpL_mem _ _ _ _).2 ⟨a / 2, by omega, by congr 1; omega, by rw [show 2 * (0 + a / 2) = a by omega, ho]; rfl⟩
  obtain ⟨y, hy, hg⟩ := List.mem_iff_getElem.1 hm
  refine ⟨y, hy, ?_⟩
  rw [List.getD_eq_getElem?_getD, List.getElem?_eq_getElem hy, hg]
  rfl
theorem all_le (I : m.Inv) : m.allL.length ≤ 2048 := by
  have := fpL_le m 0 (32 * m.bl.length)
  have := I.len64
  unfold HM.allL
  omega
def HM.idL (m : HM) (j : Nat) : Nat := match m.ob (m.allL.getD j 0).toNat with | some o => o.id | none => 0
theorem idL_of {j a : Nat} {o : Ob} (h1 : m.allL.getD j 0 = (a : Int)) (h2 : m.ob a = some o) : m.idL j = o.id := by
  unfold HM.idL
  rw [h1, Int.toNat_natCast, h2]
def HM.seenL (m : HM) : Nat → List Bool
  | 0 => List.replicate (m.born + 1) false
  | j + 1 => (m.seenL j).set (m.idL j) true
@[simp] theorem seenL_length (m : HM) (j : Nat) : (m.seenL j).length = m.born + 1 := by
  induction j with
  | zero => simp [HM.seenL]
  | succ j ih => simp [HM.seenL, ih]
theorem seenL_get (m : HM) (j n : Nat) (hn : n ≤ m.born) : (m.seenL j).getD n false = true ↔ ∃ y, y < j ∧ m.idL y = n := by
  induction j with
  | zero =>
    have : (m.seenL 0).getD n false = false := by
      show (List.replicate (m.born + 1) false).getD n false = false
      rw [List.getD_eq_getElem?_getD, List.getElem?_replicate]; split <;> rfl
    rw [this]
    constructor
    · intro h; cases h
    · rintro ⟨y, h, _⟩; omega
  | succ j ih =>
    unfold HM.seenL
    rw [List.getD_eq_getElem?_getD, List.getElem?_set]
    by_cases h1 : m.idL j = n
    · rw [if_pos h1, if_pos (by simp; omega)]
      exact ⟨fun _ => ⟨j, by omega, h1⟩, fun _ => rfl⟩
    · rw [if_neg h1, ← List.getD_eq_getElem?_getD, ih]
      constructor
      · rintro ⟨y, h2, h3⟩; exact ⟨y, by omega, h3⟩
      · rintro ⟨y, h2, h3⟩
        by_cases h4 : y = j
        · subst h4; exact absurd h3 h1
        · exact ⟨y, by omega, h3⟩
theorem seen_not (I : m.Inv) {j a : Nat} {o : Ob} (hj : j < m.allL.length) (h1 : m.allL.getD j 0 = (a : Int)) (h2 : m.ob a = some o) : (m.seenL j).getD o.id false = false := by
  rcases hb : (m.seenL j).getD o.id false
  · rfl
  · obtain ⟨y, hy, he⟩ := (seenL_get m j o.id (I.idb _ _ h2)).1 hb
    obtain ⟨a', o', g1, g2⟩ := all_at (m := m) (i := y) (by omega)
    rw [idL_of g1 g2] at he
    have := I.ids _ _ _ _ g2 h2 he
    subst this
    have := all_lt hy hj
    omega
theorem seen_all (I : m.Inv) {n : Nat} (hn : n ≤ m.born) : (m.seenL m.allL.length).getD n false = (m.at_ (n : Int)).isSome := by
  rw [Bool.eq_iff_iff, seenL_get _ _ _ hn, Option.isSome_iff_exists]
  constructor
  · rintro ⟨y, hy, he⟩
    obtain ⟨a, o, g1, g2⟩ := all_at hy
    rw [idL_of g1 g2] at he
    exact ⟨a, (at_iff I _ _).2 ⟨o, g2, by rw [he]⟩⟩
  · rintro ⟨a, ha⟩
    obtain ⟨o, h1, h2⟩ := (at_iff I _ _).1 ha
    obtain ⟨y, hy, he⟩ := all_mem I h1
    exact ⟨y, hy, by rw [idL_of he h1]; omega⟩
theorem FarI.kp' {w W : World} {B : Nat} {S : List Nat} {v : Value} {zs : List Int} (h : FarI w B v zs) (k : Kp S w W) (hS : ∀ x ∈ S, w.heap.size ≤ x) : FarI W B v zs := by
  obtain ⟨A, cap, rfl, h1, h2, hA⟩ := h
  refine ⟨A, cap, rfl, h1, h2, fun i hi => ?_⟩
  obtain ⟨g, e1, hB, e2⟩ := hA i hi
  have hn : g ∉ S := fun hm => by have := hS g hm; have := cell_lt e2; omega
  exact ⟨g, e1, hB, by rw [World.cell?_of_block (k.block g (cell_lt e2) hn)]; exact e2⟩
theorem SH.born_le (h : SH w b q m) : m.born ≤ q := by
  obtain ⟨r, R, A, _, h2⟩ := h
  rw [← A.born]; exact h2
end
end Go.Proofs.Ytplgbpmldjngoaa
