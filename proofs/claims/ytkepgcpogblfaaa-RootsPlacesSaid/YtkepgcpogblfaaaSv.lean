/-
  What Set and Replace do to all values: the mathematics. Conditions: those that stand in each theorem.
-/
import Derived.Test.YtkepgcpogblfaaaSt
namespace Go.Proofs.Ytkepgcpogblfaaa
set_option linter.unusedVariables false
set_option linter.unusedSimpArgs false
open Go.RowKit Go.Deep Go.Maps

def RT.hasP (t : RT) (p : Pl) : Prop := t.has (p.k : Int) (p.m : Int) (p.i : Int) = true
def RT.setP (t : RT) (p : Pl) (v : Int) : RT := t.set (p.k : Int) (p.m : Int) (p.i : Int) v
theorem has_form {t : RT} {p : Pl} (h : t.hasP p) : (p.k = 0 ∧ p.m < t.n ∧ p.i < 16) ∨ (p.k = 1 ∧ p.m = 0 ∧ p.i < 16) ∨ (p.k = 2 ∧ p.m = 0 ∧ p.i < t.qu.length) := by
  rcases of_decide_eq_true h with ⟨a, b, c, d, e⟩ | ⟨a, b, c, d⟩ | ⟨a, b, c, d⟩
  · exact .inl ⟨by omega, by omega, by omega⟩
  · exact .inr (.inl ⟨by omega, by omega, by omega⟩)
  · exact .inr (.inr ⟨by omega, by omega, by omega⟩)
theorem getD_set' {l : List Int} {i j : Nat} {v : Int} (hi : i < l.length) : (l.set i v).getD j 0 = if j = i then v else l.getD j 0 := by
  rw [List.getD_eq_getElem?_getD, List.getElem?_set]
  by_cases h : j = i
  · subst h; simp [hi]
  · rw [if_neg (Ne.symm h), if_neg h, List.getD_eq_getElem?_getD]
theorem at0 (t : RT) (m i : Nat) : t.at_ ⟨0, m, i⟩ = t.sl.getD (m * 16 + i) 0 := by simp [RT.at_, RT.get]
theorem at1 (t : RT) (m i : Nat) : t.at_ ⟨1, m, i⟩ = t.gl.getD i 0 := by simp [RT.at_, RT.get]
theorem at2 (t : RT) (m i : Nat) : t.at_ ⟨2, m, i⟩ = t.qu.getD i 0 := by simp [RT.at_, RT.get]
theorem set0 (t : RT) (m i : Nat) (v : Int) : t.setP ⟨0, m, i⟩ v = { t with sl := t.sl.set (m * 16 + i) v } := by simp [RT.setP, RT.set]
theorem set1 (t : RT) (m i : Nat) (v : Int) : t.setP ⟨1, m, i⟩ v = { t with gl := t.gl.set i v } := by simp [RT.setP, RT.set]
theorem set2 (t : RT) (m i : Nat) (v : Int) : t.setP ⟨2, m, i⟩ v = { t with qu := t.qu.set i v } := by simp [RT.setP, RT.set]
theorem at_set {t : RT} (ok : t.Ok) {p q : Pl} (hp : t.hasP p) (hq : t.hasP q) (v : Int) : (t.setP p v).at_ q = if q = p then v else t.at_ q := by
  obtain ⟨k, m, i⟩ := p
  obtain ⟨k', m', i'⟩ := q
  have hs := ok.sl
  have hg := ok.gl
  have h1 := has_form hp
  have h2 := has_form hq
  simp only at h1 h2
  rcases h1 with ⟨rfl, a, b⟩ | ⟨rfl, rfl, b⟩ | ⟨rfl, rfl, b⟩
  · rw [set0]
    rcases h2 with ⟨rfl, c, d⟩ | ⟨rfl, rfl, d⟩ | ⟨rfl, rfl, d⟩
    · rw [at0, at0]
      show (t.sl.set (m * 16 + i) v).getD (m' * 16 + i') 0 = _
      rw [getD_set' (by omega)]
      by_cases e : m' * 16 + i' = m * 16 + i
      · have e1 : m' = m := by omega
        have e2 : i' = i := by omega
        subst e1; subst e2
        rw [if_pos rfl, if_pos rfl]
      · rw [if_neg e, if_neg]
        intro h
        injection h with _ h1 h2
        subst h1; subst h2
        exact e rfl
    · rw [if_neg (by simp), at1, at1]
    · rw [if_neg (by simp), at2, at2]
  · rw [set1]
    rcases h2 with ⟨rfl, c, d⟩ | ⟨rfl, rfl, d⟩ | ⟨rfl, rfl, d⟩
    · rw [if_neg (by simp), at0, at0]
    · rw [at1, at1]
      show (t.gl.set i v).getD i' 0 = _
      rw [getD_set' (by omega)]
      by_cases e : i' = i
      · subst e; rw [if_pos rfl, if_pos rfl]
      · rw [if_neg e, if_neg (by simp [e])]
    · rw [if_neg (by simp), at2, at2]
  · rw [set2]
    rcases h2 with ⟨rfl, c, d⟩ | ⟨rfl, rfl, d⟩ | ⟨rfl, rfl, d⟩
    · rw [if_neg (by simp), at0, at0]
    · rw [if_neg (by simp), at1, at1]
    · rw [at2, at2]
      show (t.qu.set i v).getD i' 0 = _
      rw [getD_set' (by omega)]
      by_cases e : i' = i
      · subst e; rw [if_pos rfl, if_pos rfl]
      · rw [if_neg e, if_neg (by simp [e])]
theorem set_ok {t : RT} (ok : t.Ok) (p : Pl) (v : Int) : (t.setP p v).Ok := by
  unfold RT.setP RT.set
  split
  · exact ⟨ok.n1, ok.n4, by simpa using ok.sl, ok.gl, ok.qu⟩
  · split
    · exact ⟨ok.n1, ok.n4, ok.sl, by simpa using ok.gl, ok.qu⟩
    · exact ⟨ok.n1, ok.n4, ok.sl, ok.gl, by simpa using ok.qu⟩
theorem set_dims (t : RT) (k m i v : Int) : (t.set k m i v).n = t.n ∧ (t.set k m i v).qu.length = t.qu.length := by
  unfold RT.set
  split
  · exact ⟨rfl, rfl⟩
  · split
    · exact ⟨rfl, rfl⟩
    · exact ⟨rfl, by simp⟩
theorem every_of {s t : RT} (h1 : s.n = t.n) (h2 : s.qu.length = t.qu.length) : s.every = t.every := by unfold RT.every; rw [h1, h2]
theorem has_of {s t : RT} (h1 : s.n = t.n) (h2 : s.qu.length = t.qu.length) (k m i : Int) : s.has k m i = t.has k m i := by unfold RT.has; rw [h1, h2]
/-- What an address becomes. -/
def repl (f tt : List Int) (y : Int) : Int := if f.contains y then tt.getD (f.countP (· < y)) 0 else y
theorem reps_at {t : RT} (ok : t.Ok) (f tt : List Int) (l : List Pl) (hl : l.Nodup) (hm : ∀ p ∈ l, t.hasP p) :
    (t.reps f tt l).1.Ok ∧ (t.reps f tt l).1.n = t.n ∧ (t.reps f tt l).1.qu.length = t.qu.length ∧ (∀ q, t.hasP q → (t.reps f tt l).1.at_ q = if q ∈ l then repl f tt (t.at_ q) else t.at_ q) ∧ (t.reps f tt l).2 = l.countP (fun p => f.contains (t.at_ p)) := by
  have key : ∀ k, k ≤ l.length → (t.reps f tt (l.take k)).1.Ok ∧ (t.reps f tt (l.take k)).1.n = t.n ∧ (t.reps f tt (l.take k)).1.qu.length = t.qu.length ∧ (∀ q, t.hasP q → (t.reps f tt (l.take k)).1.at_ q = if q ∈ l.take k then repl f tt (t.at_ q) else t.at_ q) ∧ (t.reps f tt (l.take k)).2 = (l.take k).countP (fun p => f.contains (t.at_ p)) := by
    intro k
    induction k with
    | zero => intro _; exact ⟨by simpa [RT.reps] using ok, by simp [RT.reps], by simp [RT.reps], fun q _ => by simp [RT.reps], by simp [RT.reps]⟩
    | succ k ih =>
      intro hk
      obtain ⟨i1, i2, i3, i4, i5⟩ := ih (by omega)
      have hlt : k < l.length := by omega
      rw [take_getD hlt, reps_snoc]
      have hpm : l.getD k ⟨0, 0, 0⟩ ∈ l := by rw [List.getD_eq_getElem?_getD, List.getElem?_eq_getElem hlt]; exact List.getElem_mem hlt
      have hpn : l.getD k ⟨0, 0, 0⟩ ∉ l.take k := by
        intro hc
        obtain ⟨j, hj, e⟩ := List.mem_iff_getElem.1 hc
        rw [List.length_take] at hj
        rw [List.getElem_take, List.getD_eq_getElem?_getD, List.getElem?_eq_getElem hlt] at e
        exact (List.pairwise_iff_getElem.1 hl) j k (by omega) hlt (by omega) e
      generalize l.getD k ⟨0, 0, 0⟩ = p at hpm hpn
      generalize l.take k = l' at i1 i2 i3 i4 i5 hpn
      have hp := hm p hpm
      have ep : (t.reps f tt l').1.at_ p = t.at_ p := by rw [i4 p hp, if_neg hpn]
      generalize t.reps f tt l' = s at i1 i2 i3 i4 i5 ep
      have hps : s.1.hasP p := (has_of i2 i3 _ _ _).trans hp
      have er : RT.rep1 f tt s p = if f.contains (t.at_ p) then (s.1.setP p (tt.getD (f.countP (· < t.at_ p)) 0), s.2 + 1) else s := by
        unfold RT.rep1
        rw [show s.1.get (p.k : Int) (p.m : Int) (p.i : Int) = t.at_ p from ep]
        rfl
      rw [er]
      by_cases hc : f.contains (t.at_ p) = true
      · rw [if_pos hc]
        obtain ⟨d1, d2⟩ := set_dims s.1 (p.k : Int) (p.m : Int) (p.i : Int) (tt.getD (f.countP (· < t.at_ p)) 0)
        refine ⟨set_ok i1 p _, d1.trans i2, d2.trans i3, fun q hq => ?_, ?_⟩
        · rw [at_set i1 hps ((has_of i2 i3 _ _ _).trans hq)]
          by_cases e : q = p
          · subst e
            rw [if_pos rfl, if_pos (by simp)]
            unfold repl
            rw [if_pos hc]
          · rw [if_neg e, i4 q hq]
            simp [e]
        · show s.2 + 1 = _
          rw [List.countP_append, i5]
          simp only [List.countP_cons, List.countP_nil, hc, if_true, Nat.zero_add]
      · rw [if_neg hc]
        refine ⟨i1, i2, i3, fun q hq => ?_, ?_⟩
        · rw [i4 q hq]
          by_cases e : q = p
          · subst e
            rw [if_neg hpn, if_pos (by simp)]
            unfold repl
            rw [if_neg hc]
          · simp [e]
        · rw [List.countP_append, i5]
          simp only [List.countP_cons, List.countP_nil, hc, if_false, Nat.add_zero, Nat.zero_add]
          rfl
  have := key l.length (Nat.le_refl _)
  rwa [List.take_length] at this
end Go.Proofs.Ytkepgcpogblfaaa
