/-
  What a call changes in the contents of objects: plain mathematics. Conditions: those that stand in each theorem.
-/
import Derived.Test.YtbiompmklijgoaaDoorPZi
import Derived.Test.YtbiompmklijgoaaDoorPZk
namespace Go.Proofs.YtbiompmklijgoaaDoor
set_option linter.unusedVariables false
set_option linter.unusedSimpArgs false
open Go.RowKit Go.Deep Go.Maps

def MT.inW (t : MT) (x : Int) (q : Nat) : Prop := (t.obj x).f ≤ q ∧ q < (t.obj x).f + (t.obj x).r + (t.obj x).d
theorem MT.Ok.far {t : MT} (ok : t.Ok) {x z : Int} (hx : t.has x = true) (hz : t.has z = true) (hxz : x ≠ z) {p q : Nat} (hp : t.inW z p) (hq : t.inW x q) : p ≠ q := by
  obtain ⟨i, rfl, hi, ei⟩ := MT.has_nat hx
  obtain ⟨j, rfl, hj, ej⟩ := MT.has_nat hz
  unfold MT.inW at hp hq
  rw [ej] at hp
  rw [ei] at hq
  rcases Nat.lt_or_ge i j with h | h
  · have := ok.apart i j h hj; omega
  · have := ok.apart j i (by omega) hi; omega
theorem ctSame {t t' : MT} {x : Int} (ho : t'.obj x = t.obj x) (hw : ∀ q, t.inW x q → t'.ws.getD q 0 = t.ws.getD q 0) : t'.cont x = t.cont x := by
  have h1 : t'.refl x = t.refl x := by
    unfold MT.refl
    rw [ho]
    apply List.map_congr_left
    intro i hi
    rw [List.mem_range] at hi
    unfold MT.rf
    rw [ho]
    exact hw _ ⟨by omega, by omega⟩
  have h2 : t'.datl x = t.datl x := by
    unfold MT.datl
    rw [ho]
    apply List.map_congr_left
    intro i hi
    rw [List.mem_range] at hi
    unfold MT.dw
    rw [ho]
    exact hw _ ⟨by omega, by omega⟩
  unfold MT.cont
  rw [h1, h2, ho]
theorem ctLen (t : MT) (x : Int) : (t.cont x).length = 3 + (t.obj x).r + (t.obj x).d := by
  simp only [MT.cont, MT.refl, MT.datl, List.length_append, List.length_map, List.length_range, List.length_cons, List.length_nil]
theorem ctZero (t : MT) (x : Int) : (t.cont x).getD 0 0 = ((t.obj x).r : Int) := rfl
theorem ctTwo (t : MT) (x : Int) : (t.cont x).getD 2 0 = ((t.obj x).k : Int) := rfl
theorem getD_setI {l : List Int} {p q : Nat} {y : Int} (h : p ≠ q) : (l.set p y).getD q 0 = l.getD q 0 := by
  rw [List.getD_eq_getElem?_getD, List.getElem?_set, if_neg h, ← List.getD_eq_getElem?_getD]
theorem MT.done_pre (t : MT) (m : Nat) (x : MA) : ∃ l, (t.done m x).1.ob = t.ob ++ l := by
  by_cases h : x.k = 0
  · unfold MT.done
    rw [if_pos h]
    exact ⟨_, rfl⟩
  · exact ⟨[], by rw [t.done_ob _ _ h, List.append_nil]⟩
theorem MT.dos_pre (t : MT) (s : SP) : ∃ l, (t.dos s).1.ob = t.ob ++ l := by
  unfold MT.dos
  split
  · show ∃ l, (t.act s.mu s.act).1.ob = _
    unfold MT.act
    split
    · exact t.done_pre _ _
    · exact ⟨[], by rw [List.append_nil]⟩
  · split
    · have e : t.collect.1.ob = t.ob := (t.clrs_like t.kb (t.ob.length + 1)).ob
      exact ⟨[], by rw [List.append_nil]; exact e⟩
    · split
      · refine ⟨[], ?_⟩
        rw [List.append_nil]
        show (t.pushM s.a).ob = _
        unfold MT.pushM
        split <;> rfl
      · split
        · exact ⟨[], by rw [List.append_nil]; rfl⟩
        · split
          · refine ⟨[], ?_⟩
            rw [List.append_nil]
            show (t.srM s.a s.b s.c).ob = _
            unfold MT.srM
            split <;> rfl
          · exact ⟨[], by rw [List.append_nil]⟩
theorem MT.dos_obj (t : MT) (s : SP) {x : Int} (hx : t.has x = true) : (t.dos s).1.obj x = t.obj x ∧ (t.dos s).1.has x = true := by
  obtain ⟨l, h⟩ := t.dos_pre s
  obtain ⟨i, rfl, hi, e⟩ := MT.has_nat hx
  refine ⟨?_, ?_⟩
  · unfold MT.obj
    rw [h, List.getD_eq_getElem?_getD, List.getD_eq_getElem?_getD, List.getElem?_append_left (by omega)]
  · unfold MT.has
    apply decide_eq_true
    rw [h, List.length_append]
    omega
/-- The object that a call names. -/
def MT.ofI (t : MT) (s : SP) : Int := if s.k = 0 ∧ s.act.k ≠ 6 then t.sloV s.mu s.act.a else if s.k = 4 then s.a else 0
theorem MT.err0 {t : MT} {mu : Int} {x : MA} (h : t.err mu x = 0) : t.hasM mu = true ∧ slotB x.a = true ∧ (x.k = 2 ∨ x.k = 3 → t.slt mu.toNat x.a ≠ 0) ∧ (x.k = 2 → inI x.i (t.obj (t.slt mu.toNat x.a)).r = true) ∧ (x.k = 3 → inI x.i (t.obj (t.slt mu.toNat x.a)).d = true) := by
  unfold MT.err at h
  by_cases c1 : t.hasM mu = false
  · rw [if_pos c1] at h; exact absurd h (by decide)
  rw [if_neg c1] at h
  by_cases c2 : x.k < 0
  · rw [if_pos c2] at h; exact absurd h (by decide)
  rw [if_neg c2] at h
  by_cases c3 : 12 ≤ x.k
  · rw [if_pos c3] at h; exact absurd h (by decide)
  rw [if_neg c3] at h
  by_cases c4 : slotB x.a = false
  · rw [if_pos c4] at h; exact absurd h (by decide)
  rw [if_neg c4] at h
  by_cases c5 : (x.k = 1 ∨ x.k = 2 ∨ x.k = 5 ∨ x.k = 7) ∧ slotB x.b = false
  · rw [if_pos c5] at h; exact absurd h (by decide)
  rw [if_neg c5] at h
  by_cases c6 : x.k = 0 ∧ shB x.r x.d x.s = false
  · rw [if_pos c6] at h; exact absurd h (by decide)
  rw [if_neg c6] at h
  by_cases c7 : x.k = 1 ∧ t.slt mu.toNat x.b = 0
  · rw [if_pos c7] at h; exact absurd h (by decide)
  rw [if_neg c7] at h
  by_cases c8 : (x.k = 2 ∨ x.k = 3 ∨ x.k = 4 ∨ x.k = 11) ∧ t.slt mu.toNat x.a = 0
  · rw [if_pos c8] at h; exact absurd h (by decide)
  rw [if_neg c8] at h
  by_cases c9 : x.k = 1 ∧ inI x.i (t.obj (t.slt mu.toNat x.b)).r = false
  · rw [if_pos c9] at h; exact absurd h (by decide)
  rw [if_neg c9] at h
  by_cases c10 : x.k = 2 ∧ inI x.i (t.obj (t.slt mu.toNat x.a)).r = false
  · rw [if_pos c10] at h; exact absurd h (by decide)
  rw [if_neg c10] at h
  by_cases c11 : (x.k = 3 ∨ x.k = 4) ∧ inI x.i (t.obj (t.slt mu.toNat x.a)).d = false
  · rw [if_pos c11] at h; exact absurd h (by decide)
  refine ⟨by simpa using c1, by simpa using c4, fun hk h0 => c8 ⟨by omega, h0⟩, fun hk => ?_, fun hk => ?_⟩
  · rcases hb : inI x.i (t.obj (t.slt mu.toNat x.a)).r with _ | _
    · exact absurd ⟨hk, hb⟩ c10
    · rfl
  · rcases hb : inI x.i (t.obj (t.slt mu.toNat x.a)).d with _ | _
    · exact absurd ⟨.inl hk, hb⟩ c11
    · rfl
theorem MT.Ok.slt_has {t : MT} (ok : t.Ok) {m : Nat} {a : Int} (h : t.slt m a ≠ 0) : t.has (t.slt m a) = true := by
  unfold MT.slt at h ⊢
  by_cases hl : m * 16 + a.toNat < t.sl.length
  · have := ok.isl _ (getD_mem hl)
    unfold MT.idn at this
    exact decide_eq_true ⟨by omega, this.2⟩
  · exact absurd (by rw [List.getD_eq_getElem?_getD, List.getElem?_eq_none (by omega)]; rfl) h
theorem MT.slo_slt {t : MT} {mu a : Int} (h1 : t.hasM mu = true) (h2 : slotB a = true) : t.sloV mu a = t.slt mu.toNat a := by
  unfold MT.sloV
  rw [h1, h2]
  rfl
theorem MT.Ok.done_ws {t : MT} (ok : t.Ok) {mu : Int} {a : MA} (he : t.err mu a = 0) {x : Int} (hx : t.has x = true) (hne : a.k ≠ 6 → x ≠ t.sloV mu a.a) {q : Nat} (hq : t.inW x q) : (t.done mu.toNat a).1.ws.getD q 0 = t.ws.getD q 0 := by
  obtain ⟨e1, e2, e3, e4, e5⟩ := MT.err0 he
  rw [MT.slo_slt e1 e2] at hne
  unfold MT.done
  by_cases k0 : a.k = 0
  · rw [if_pos k0]
    show (t.ws ++ zer _).getD q 0 = _
    obtain ⟨i, rfl, hi, e⟩ := MT.has_nat hx
    have := ok.fit i hi
    unfold MT.inW at hq
    rw [e] at hq
    rw [List.getD_eq_getElem?_getD, List.getElem?_append_left (by omega), ← List.getD_eq_getElem?_getD]
  rw [if_neg k0]
  by_cases k1 : a.k = 1
  · rw [if_pos k1]; rfl
  rw [if_neg k1]
  by_cases k2 : a.k = 2
  · rw [if_pos k2]
    have hi := of_decide_eq_true (e4 k2)
    refine getD_setI (ok.far hx (ok.slt_has (e3 (.inl k2))) (hne (by omega)) ?_ hq)
    unfold MT.inW
    omega
  rw [if_neg k2]
  by_cases k3 : a.k = 3
  · rw [if_pos k3]
    have hi := of_decide_eq_true (e5 k3)
    refine getD_setI (ok.far hx (ok.slt_has (e3 (.inr k3))) (hne (by omega)) ?_ hq)
    unfold MT.inW
    omega
  rw [if_neg k3]
  by_cases k4 : a.k = 4
  · rw [if_pos k4]
  rw [if_neg k4]
  by_cases k5 : a.k = 5
  · rw [if_pos k5]; rfl
  rw [if_neg k5]
  by_cases k6 : a.k = 6
  · rw [if_pos k6]; rfl
  rw [if_neg k6]
  by_cases k7 : a.k = 7
  · rw [if_pos k7]
  rw [if_neg k7]
  by_cases k8 : a.k = 8
  · rw [if_pos k8]
  rw [if_neg k8]
  by_cases k9 : a.k = 9
  · rw [if_pos k9]; rfl
  rw [if_neg k9]
  by_cases k10 : a.k = 10
  · rw [if_pos k10]; rfl
  rw [if_neg k10]
theorem MT.Ok.dos_ws {t : MT} (ok : t.Ok) {s : SP} (h1 : s.k ≠ 1) {x : Int} (hx : t.has x = true) (hne : x ≠ t.ofI s) {q : Nat} (hq : t.inW x q) : (t.dos s).1.ws.getD q 0 = t.ws.getD q 0 := by
  unfold MT.dos
  unfold MT.ofI at hne
  by_cases k0 : s.k = 0
  · rw [if_pos k0]
    show (t.act s.mu s.act).1.ws.getD q 0 = _
    unfold MT.act
    by_cases he : t.err s.mu s.act = 0
    · rw [if_pos he]
      exact ok.done_ws he hx (fun h6 => by rwa [if_pos ⟨k0, h6⟩] at hne) hq
    · rw [if_neg he]
  rw [if_neg k0, if_neg h1]
  by_cases k2 : s.k = 2
  · rw [if_pos k2]
    show (t.pushM s.a).ws.getD q 0 = _
    unfold MT.pushM
    split <;> rfl
  rw [if_neg k2]
  by_cases k3 : s.k = 3
  · rw [if_pos k3]; rfl
  rw [if_neg k3]
  by_cases k4 : s.k = 4
  · rw [if_pos k4]
    rw [if_neg (fun h => k0 h.1), if_pos k4] at hne
    show (t.srM s.a s.b s.c).ws.getD q 0 = _
    unfold MT.srM
    by_cases he : t.srE s.a s.b s.c = 0
    · rw [if_pos he]
      unfold MT.srE at he
      by_cases ha : t.has s.a = true
      · rw [if_pos ha] at he
        by_cases hr : (t.isR s.a s.b && t.okTo s.c) = true
        · rw [Bool.and_eq_true] at hr
          have hi := of_decide_eq_true hr.1
          refine getD_setI (ok.far hx ha hne ?_ hq)
          unfold MT.inW
          omega
        · rw [if_neg hr] at he
          exact absurd he (by decide)
      · rw [if_neg ha] at he
        exact absurd he (by decide)
    · rw [if_neg he]
  rw [if_neg k4]
/-- What a call leaves of an object. -/
theorem MT.Ok.dos_cont {t : MT} (ok : t.Ok) {s : SP} {x : Int} (hx : t.has x = true) :
    (t.dos s).1.has x = true ∧ ((t.dos s).1.cont x).length = (t.cont x).length ∧ ((t.dos s).1.cont x).getD 0 0 = (t.cont x).getD 0 0 ∧ ((t.dos s).1.cont x).getD 2 0 = (t.cont x).getD 2 0 ∧ (s.k ≠ 1 → x ≠ t.ofI s → (t.dos s).1.cont x = t.cont x) := by
  obtain ⟨ho, hh⟩ := t.dos_obj s hx
  refine ⟨hh, by rw [ctLen, ctLen, ho], by rw [ctZero, ctZero, ho], by rw [ctTwo, ctTwo, ho], fun h1 hne => ctSame ho (fun q hq => ok.dos_ws h1 hx hne hq)⟩
end Go.Proofs.YtbiompmklijgoaaDoor
