/-
  Plain mathematics for the law HeapApart: gaps and objects cover a used block; how many words the objects have. No condition but those stated.
-/
import Derived.Test.YtplgbpmldjngoaaIm
namespace Go.Proofs.Ytplgbpmldjngoaa
set_option linter.unusedVariables false
set_option linter.unusedSimpArgs false

/-- An object with a word in a used block lies in it. -/
theorem in_used {m : HM} (I : m.Inv) {a x : Nat} {o : Ob} (ho : m.ob a = some o) (h1 : a ≤ x) (h2 : x < a + o.wd) (hst : m.st (x / 64) = 1) : a / 64 = x / 64 ∧ o.wd ≤ 32 ∧ a % 64 + o.wd ≤ 64 := by
  have hs := I.lie _ _ ho
  have hw := (I.ok _ _ ho).wd_bd
  unfold suitB at hs
  split at hs
  · rename_i h32
    have := of_decide_eq_true hs
    exact ⟨by omega, h32, this.2⟩
  · rename_i h32
    obtain ⟨g1, g2, g3⟩ := of_decide_eq_true hs
    have hb : a / 64 < m.bl.length := st_lt (by omega)
    obtain ⟨e1, e2, e3, e4⟩ := (grpEnd_iff m.bl (a / 64) _ hb).1 rfl
    unfold HM.st at hst
    by_cases he : x / 64 = a / 64
    · rw [he] at hst; omega
    · have := e3 (x / 64) (by omega) (by omega)
      omega
/-- The blocks of an object. -/
theorem lie_small {m : HM} (I : m.Inv) {a : Nat} {o : Ob} (ho : m.ob a = some o) (h : o.wd ≤ 32) : m.st (a / 64) = 1 ∧ (a + o.wd - 1) / 64 = a / 64 := by
  have hs := I.lie _ _ ho
  have hw := (I.ok _ _ ho).wd_bd
  unfold suitB at hs
  rw [if_pos h] at hs
  have := of_decide_eq_true hs
  exact ⟨this.1, by omega⟩
theorem lie_large {m : HM} (I : m.Inv) {a : Nat} {o : Ob} (ho : m.ob a = some o) (h : ¬ o.wd ≤ 32) : m.st (a / 64) = 2 ∧ a % 64 = 0 ∧ ∀ c, a / 64 + 1 ≤ c → c ≤ (a + o.wd - 1) / 64 → m.st c = 3 := by
  have hs := I.lie _ _ ho
  have hw := (I.ok _ _ ho).wd_bd
  unfold suitB at hs
  rw [if_neg h] at hs
  obtain ⟨g1, g2, g3⟩ := of_decide_eq_true hs
  have hb : a / 64 < m.bl.length := st_lt (by omega)
  obtain ⟨e1, e2, e3, e4⟩ := (grpEnd_iff m.bl (a / 64) _ hb).1 rfl
  exact ⟨g1, g2, fun c h1 h2 => e3 c h1 (by omega)⟩
def HM.vO (m : HM) (k : Nat) : Int := (m.own k : Int)
/-- How many words the objects below a have, and of the one at a, the first c. -/
def HM.nO (m : HM) (a c : Nat) : Nat := cntN (fun k => decide (m.cc a c k)) m.n
theorem nO_step {m : HM} (I : m.Inv) {a : Nat} {o : Ob} (ho : m.ob a = some o) : ∀ c, c ≤ o.wd → m.nO a c = m.nO a 0 + c := by
  intro c
  induction c with
  | zero => intro _; rfl
  | succ c ih =>
    intro hc
    have hh := I.hi ho
    have h1 : m.nO a (c + 1) = m.nO a c + 1 := by
      refine cntN_one (i := a + c) (by omega) (decide_eq_false (cc_not I ho (by omega))) (decide_eq_true ((cc_step I ho (by omega) _).2 (.inr rfl))) fun j hj hne => ?_
      have := cc_step I ho (by omega : c < o.wd) j
      by_cases h : m.cc a c j
      · rw [decide_eq_true h, decide_eq_true (this.2 (.inl h))]
      · rw [decide_eq_false h, decide_eq_false (fun h2 => (this.1 h2).elim h hne)]
    rw [h1, ih (by omega)]
    omega
theorem nO_next {m : HM} (I : m.Inv) {j a : Nat} {o : Ob} (hj : j < m.allL.length) (ht : m.allL.getD j 0 = (a : Int)) (ho : m.ob a = some o) : m.nO (m.nxt (j + 1)) 0 = m.nO (m.nxt j) 0 + o.wd := by
  rw [nxt_at hj ht, ← nO_step I ho o.wd (Nat.le_refl _)]
  refine cntN_congr fun k hk => ?_
  have h := cc_next I hj ht ho (Nat.le_refl o.wd) k
  have : ¬ (m.own k = a ∧ a + o.wd ≤ k) := by
    rintro ⟨h1, h2⟩
    rcases own_cases I k with ⟨a', o', h0, g1, g2, g3⟩ | ⟨g1, g2⟩
    · have : a' = a := by omega
      subst this
      rw [h0] at ho
      cases ho
      omega
    · have := I.lo ho; omega
  by_cases hc : m.cc a o.wd k
  · rw [decide_eq_true hc, decide_eq_true (h.2 (.inl hc))]
  · rw [decide_eq_false hc, decide_eq_false (fun h2 => (h.1 h2).elim hc this)]
theorem nO_first {m : HM} (I : m.Inv) : m.nO (m.nxt 0) 0 = 0 := by
  have : ∀ n, cntN (fun k => decide (m.cc (m.nxt 0) 0 k)) n = 0 := by
    intro n
    induction n with
    | zero => rfl
    | succ n ih => unfold cntN; rw [ih, decide_eq_false (cc_first I n)]; rfl
  exact this _
theorem own_pair {m : HM} (I : m.Inv) (p : Nat) : m.own (2 * p + 1) ≠ 0 ↔ m.own (2 * p) ≠ 0 := by
  rw [own_ne I, own_ne I]
  constructor
  · rintro ⟨a, o, h0, h1, h2⟩
    have := I.even _ _ h0
    have := (I.ok _ _ h0).wd_bd
    exact ⟨a, o, h0, by omega, by omega⟩
  · rintro ⟨a, o, h0, h1, h2⟩
    have := I.even _ _ h0
    have := (I.ok _ _ h0).wd_bd
    exact ⟨a, o, h0, by omega, by omega⟩
theorem psL_get {m : HM} {p : Nat} (hp : p < m.psL.length) : ent m.psL p = if (m.ob (2 * p)).isSome then 1 else if m.own (2 * p) = 0 then 0 else 2 := by
  unfold ent
  rw [List.getD_eq_getElem?_getD, List.getElem?_eq_getElem hp]
  simp [HM.psL]
theorem nO_used {m : HM} (I : m.Inv) : ((m.nO (m.nxt m.allL.length) 0 : Nat) : Int) = m.usedV := by
  have h1 : m.nO (m.nxt m.allL.length) 0 = cntN (fun k => decide (m.own k ≠ 0)) m.n := cntN_congr fun k hk => by
    by_cases h : m.own k ≠ 0
    · rw [decide_eq_true h, decide_eq_true ((cc_last I k).2 h)]
    · rw [decide_eq_false h, decide_eq_false (fun h2 => h ((cc_last I k).1 h2))]
  have hl : m.psL.length = 32 * m.bl.length := by simp [HM.psL]
  have h2 : ∀ p, cntN (fun k => decide (m.own k ≠ 0)) (2 * p) = 2 * cntN (fun i => decide (m.own (2 * i) ≠ 0)) p := by
    intro p
    induction p with
    | zero => rfl
    | succ p ih =>
      rw [show 2 * (p + 1) = 2 * p + 1 + 1 by omega]
      unfold cntN
      show cntN _ (2 * p) + (if decide (m.own (2 * p) ≠ 0) = true then 1 else 0) + _ = _
      rw [ih]
      have := own_pair I p
      by_cases h : m.own (2 * p) ≠ 0
      · rw [decide_eq_true h, decide_eq_true (this.2 h)]; simp; omega
      · rw [decide_eq_false h, decide_eq_false (fun hc => h (this.1 hc))]; simp
  have h3 : ∀ p, p ≤ m.psL.length → cntN (fun i => decide (m.own (2 * i) ≠ 0)) p + cntN (isV m.psL 0) p = p := by
    intro p
    induction p with
    | zero => intro _; rfl
    | succ p ih =>
      intro hp
      have ih := ih (by omega)
      have hg := psL_get (m := m) (p := p) (by omega)
      by_cases h : m.own (2 * p) ≠ 0
      · have : isV m.psL 0 p = false := isV_no (by rw [hg]; split <;> simp_all)
        rw [cntN_yes (p := fun i => decide (m.own (2 * i) ≠ 0)) (decide_eq_true h), cntN_no this]; omega
      · have hn : (m.ob (2 * p)).isSome = false := by
          rcases hx : m.ob (2 * p) with _ | o
          · rfl
          · have hw := (I.ok _ _ hx).wd_bd
            have := own_cov I hx (Nat.le_refl _) (by omega)
            have := I.lo hx
            omega
        have : isV m.psL 0 p = true := isV_yes (by rw [hg, hn]; simp; omega)
        rw [cntN_no (p := fun i => decide (m.own (2 * i) ≠ 0)) (decide_eq_false h), cntN_yes this]; omega
  have h4 := h3 m.psL.length (Nat.le_refl _)
  have h5 := h2 (32 * m.bl.length)
  unfold HM.usedV
  rw [h1, show m.n = 2 * (32 * m.bl.length) by unfold HM.n; omega, h5, ← hl]
  omega
/-- The sizes of the first i runs. -/
def sumR (rs : List (Nat × Nat)) : Nat → Nat
  | 0 => 0
  | i + 1 => sumR rs i + (rs.getD i (0, 0)).2
theorem sumR_app (rs : List (Nat × Nat)) (x : Nat × Nat) : ∀ i, i ≤ rs.length → sumR (rs ++ [x]) i = sumR rs i := by
  intro i
  induction i with
  | zero => intro _; rfl
  | succ i ih =>
    intro hi
    unfold sumR
    rw [ih (by omega)]
    congr 2
    rw [List.getD_eq_getElem?_getD, List.getD_eq_getElem?_getD, List.getElem?_append_left (by omega)]
theorem sumR_mono (rs : List (Nat × Nat)) {i j : Nat} (h : i ≤ j) : sumR rs i ≤ sumR rs j := by
  induction j with
  | zero =>
    obtain rfl : i = 0 := by omega
    exact Nat.le_refl _
  | succ j ih =>
    by_cases hi : i = j + 1
    · subst hi; exact Nat.le_refl _
    · have := ih (by omega)
      show _ ≤ sumR rs j + _
      omega
/-- Runs of words of no object, from s on, before e; not touching one another, nor e. -/
structure GapsOk (m : HM) (s e : Nat) (rs : List (Nat × Nat)) : Prop where
  pos : ∀ i, i < rs.length → 1 ≤ (rs.getD i (0, 0)).2
  lo : ∀ i, i < rs.length → s ≤ (rs.getD i (0, 0)).1
  hi : ∀ i, i < rs.length → (rs.getD i (0, 0)).1 + (rs.getD i (0, 0)).2 ≤ e
  sep : ∀ i, i + 1 < rs.length → (rs.getD i (0, 0)).1 + (rs.getD i (0, 0)).2 < (rs.getD (i + 1) (0, 0)).1
  free : ∀ i, i < rs.length → ∀ x, (rs.getD i (0, 0)).1 ≤ x → x < (rs.getD i (0, 0)).1 + (rs.getD i (0, 0)).2 → m.own x = 0
  sum : sumR rs rs.length + cntN (fun x => decide (m.own (s + x) ≠ 0)) (e - s) = e - s
theorem cntN_all {p : Nat → Bool} {a n : Nat} (h : ∀ i, i < n → p (a + i) = true) : cntN p (a + n) = cntN p a + n := by
  induction n with
  | zero => rfl
  | succ n ih => rw [← Nat.add_assoc, cntN_yes (h n (by omega)), ih (fun i hi => h i (by omega))]; omega
theorem cntN_non {p : Nat → Bool} {a n : Nat} (h : ∀ i, i < n → p (a + i) = false) : cntN p (a + n) = cntN p a := by
  induction n with
  | zero => rfl
  | succ n ih => rw [← Nat.add_assoc, cntN_no (h n (by omega)), ih (fun i hi => h i (by omega))]
theorem getD_snoc (rs : List (Nat × Nat)) (x : Nat × Nat) (i : Nat) : (rs ++ [x]).getD i (0, 0) = if i < rs.length then rs.getD i (0, 0) else if i = rs.length then x else (0, 0) := by
  simp only [List.getD_eq_getElem?_getD]
  by_cases h : i < rs.length
  · rw [if_pos h, List.getElem?_append_left h]
  · rw [if_neg h, List.getElem?_append_right (by omega)]
    by_cases h2 : i = rs.length
    · rw [if_pos h2, h2]; simp
    · rw [if_neg h2, List.getElem?_eq_none (by simp; omega)]; rfl
/-- A gap up to a, or none. -/
theorem GapsOk.gap {m : HM} {s e a : Nat} {rs : List (Nat × Nat)} (G : GapsOk m s e rs) (hse : s ≤ e) (hea : e ≤ a) (hb : ∀ i, i < rs.length → (rs.getD i (0, 0)).1 + (rs.getD i (0, 0)).2 < e) (hf : ∀ x, e ≤ x → x < a → m.own x = 0) : GapsOk m s a (gapAdd rs e a) := by
  unfold gapAdd
  by_cases h : e = a
  · subst h; rw [if_pos rfl]; exact G
  rw [if_neg h]
  have hl : (rs ++ [(e, a - e)]).length = rs.length + 1 := by simp
  refine ⟨?_, ?_, ?_, ?_, ?_, ?_⟩
  · intro i hi
    rw [getD_snoc]
    split
    · exact G.pos i ‹_›
    · rw [if_pos (by omega)]; show 1 ≤ a - e; omega
  · intro i hi
    rw [getD_snoc]
    split
    · exact G.lo i ‹_›
    · rw [if_pos (by omega)]; exact hse
  · intro i hi
    rw [getD_snoc]
    split
    · have := G.hi i ‹_›; omega
    · rw [if_pos (by omega)]; show e + (a - e) ≤ a; omega
  · intro i hi
    rw [hl] at hi
    rw [getD_snoc, getD_snoc, if_pos (show i < rs.length by omega)]
    split
    · exact G.sep i ‹_›
    · rw [if_pos (by omega)]; exact hb i (by omega)
  · intro i hi x
    rw [getD_snoc]
    split
    · exact G.free i ‹_› x
    · rw [if_pos (by omega)]
      intro h1 h2
      exact hf x h1 (by have : x < e + (a - e) := h2; omega)
  · rw [hl]
    unfold sumR
    rw [sumR_app _ _ _ (Nat.le_refl _), getD_snoc, if_neg (by omega), if_pos rfl]
    have h1 := cntN_non (p := fun x => decide (m.own (s + x) ≠ 0)) (a := e - s) (n := a - e) (fun i hi => decide_eq_false (by simp [hf (s + (e - s + i)) (by omega) (by omega)]))
    rw [show e - s + (a - e) = a - s by omega] at h1
    rw [h1]
    have := G.sum
    show sumR rs rs.length + (a - e) + _ = _
    omega
/-- An object from e on. -/
theorem GapsOk.obj {m : HM} {s e z : Nat} {rs : List (Nat × Nat)} (G : GapsOk m s e rs) (hse : s ≤ e) (hf : ∀ x, e ≤ x → x < e + z → m.own x ≠ 0) : GapsOk m s (e + z) rs := by
  refine ⟨G.pos, G.lo, fun i hi => by have := G.hi i hi; omega, G.sep, G.free, ?_⟩
  have h1 := cntN_all (p := fun x => decide (m.own (s + x) ≠ 0)) (a := e - s) (n := z) (fun i hi => decide_eq_true (hf (s + (e - s + i)) (by omega) (by omega)))
  rw [show e - s + z = e + z - s by omega] at h1
  rw [h1]
  have := G.sum
  omega
section
variable {m : HM}
/-- The words between the objects of a used block are of none. -/
theorem between (I : m.Inv) {k i : Nat} (hk : k < m.bl.length) (hst : m.st k = 1) (hi : i ≤ (m.objL (k : Int)).length) {x : Nat} (h1 : (gpN m (m.objL (k : Int)) (64 * k) i).2 ≤ x) (h2 : x < 64 * (k + 1)) (h3 : ∀ h : i < (m.objL (k : Int)).length, x < ((m.objL (k : Int)).getD i 0).toNat) (h0 : 64 * k ≤ x) : m.own x = 0 := by
  rcases own_cases I x with ⟨a, o, ho, g1, g2, g3⟩ | ⟨g1, g2⟩
  · exfalso
    have hx : x / 64 = k := by omega
    obtain ⟨u1, u2, u3⟩ := in_used I ho g1 g2 (by rw [hx]; exact hst)
    have hb : inB m.bl.length (k : Int) = true := decide_eq_true ⟨by omega, by omega⟩
    have he := I.even _ _ ho
    have hm : ((a : Nat) : Int) ∈ m.objL (k : Int) := by
      simp only [HM.objL, hb, if_true]
      exact (fpL_mem _ _ _ _).2 ⟨a / 2 - (k : Int).toNat * 32, by simp; omega, by simp; omega, by rw [show 2 * ((k : Int).toNat * 32 + (a / 2 - (k : Int).toNat * 32)) = a by simp; omega, ho]; rfl⟩
    obtain ⟨y, hy, hg⟩ := List.mem_iff_getElem.1 hm
    have hgd : (m.objL (k : Int)).getD y 0 = (a : Int) := by rw [List.getD_eq_getElem?_getD, List.getElem?_eq_getElem hy, hg]; rfl
    by_cases hyi : y < i
    · have key : ∀ i, y < i → i ≤ (m.objL (k : Int)).length → a + o.wd ≤ (gpN m (m.objL (k : Int)) (64 * k) i).2 := by
        intro i
        induction i with
        | zero => intro h; omega
        | succ i ih =>
          intro h1 h2
          show _ ≤ ((m.objL (k : Int)).getD i 0).toNat + m.wdAt ((m.objL (k : Int)).getD i 0).toNat
          by_cases hyi : y = i
          · subst hyi
            rw [hgd, Int.toNat_natCast]
            unfold HM.wdAt
            rw [ho]
            exact Nat.le_refl _
          · have := ih (by omega) (by omega)
            have := gpN_before I hk (i := i) (by omega)
            omega
      have := key i hyi hi
      omega
    · have h4 : i < (m.objL (k : Int)).length := by omega
      have h5 := h3 h4
      by_cases hyi2 : y = i
      · subst hyi2; rw [hgd] at h5; simp at h5; omega
      · have := objL_lt hk (show i < y by omega) hy
        rw [hgd] at this
        omega
  · exact g2
theorem gpN_lo (I : m.Inv) {k : Nat} (hk : k < m.bl.length) : ∀ i, i ≤ (m.objL (k : Int)).length → 64 * k ≤ (gpN m (m.objL (k : Int)) (64 * k) i).2 := by
  intro i
  rcases i with _ | i
  · intro _; exact Nat.le_refl _
  · intro hi
    obtain ⟨a, o, e, ho, h1, h2⟩ := objL_at (i := i) hk (by omega)
    show _ ≤ ((m.objL (k : Int)).getD i 0).toNat + _
    rw [e]
    simp
    omega
theorem gpN_ok (I : m.Inv) {k : Nat} (hk : k < m.bl.length) (hst : m.st k = 1) : ∀ i, i ≤ (m.objL (k : Int)).length →
    GapsOk m (64 * k) (gpN m (m.objL (k : Int)) (64 * k) i).2 (gpN m (m.objL (k : Int)) (64 * k) i).1 ∧ ∀ j, j < (gpN m (m.objL (k : Int)) (64 * k) i).1.length → ((gpN m (m.objL (k : Int)) (64 * k) i).1.getD j (0, 0)).1 + ((gpN m (m.objL (k : Int)) (64 * k) i).1.getD j (0, 0)).2 < (gpN m (m.objL (k : Int)) (64 * k) i).2 := by
  intro i
  induction i with
  | zero =>
    intro _
    refine ⟨⟨fun i hi => absurd hi (by simp [gpN]), fun i hi => absurd hi (by simp [gpN]), fun i hi => absurd hi (by simp [gpN]), fun i hi => absurd hi (by simp [gpN]), fun i hi => absurd hi (by simp [gpN]), ?_⟩, fun i hi => absurd hi (by simp [gpN])⟩
    show sumR [] 0 + cntN _ (64 * k - 64 * k) = 64 * k - 64 * k
    rw [Nat.sub_self]; rfl
  | succ i ih =>
    intro hi
    obtain ⟨G, hb⟩ := ih (by omega)
    obtain ⟨a, o, e, ho, h1, h2⟩ := objL_at (i := i) hk (by omega)
    have hbf := gpN_before I hk (i := i) (by omega)
    have hlo := gpN_lo I hk i (by omega)
    rw [e, Int.toNat_natCast] at hbf
    have hwd := (I.ok _ _ ho).wd_bd
    have hl := I.lo ho
    have ev : (gpN m (m.objL (k : Int)) (64 * k) (i + 1)).2 = a + o.wd := by
      show ((m.objL (k : Int)).getD i 0).toNat + m.wdAt ((m.objL (k : Int)).getD i 0).toNat = _
      rw [e, Int.toNat_natCast]; unfold HM.wdAt; rw [ho]
    have el : (gpN m (m.objL (k : Int)) (64 * k) (i + 1)).1 = gapAdd (gpN m (m.objL (k : Int)) (64 * k) i).1 (gpN m (m.objL (k : Int)) (64 * k) i).2 a := by
      show gapAdd _ _ ((m.objL (k : Int)).getD i 0).toNat = _
      rw [e, Int.toNat_natCast]
    rw [ev, el]
    have G2 := G.gap hlo hbf hb (fun x g1 g2 => between I hk hst (by omega) g1 (by omega) (fun _ => by rw [e]; simpa using g2) (by omega))
    have G3 := G2.obj (z := o.wd) (by omega) (fun x g1 g2 => by rw [own_cov I ho g1 g2]; omega)
    refine ⟨G3, fun j hj => ?_⟩
    have := G2.hi j hj
    omega
theorem gapL_ok (I : m.Inv) {k : Nat} (hk : k < m.bl.length) (hst : m.st k = 1) : GapsOk m (64 * k) (64 * (k + 1)) (m.gapL (k : Int)) := by
  have hb : inB m.bl.length (k : Int) = true := decide_eq_true ⟨by omega, by omega⟩
  have e : m.gapL (k : Int) = gapAdd (gpN m (m.objL (k : Int)) (64 * k) (m.objL (k : Int)).length).1 (gpN m (m.objL (k : Int)) (64 * k) (m.objL (k : Int)).length).2 (64 * (k + 1)) := by
    unfold HM.gapL
    rw [if_pos ⟨hb, by simpa using hst⟩, Int.toNat_natCast]
  obtain ⟨G, hbd⟩ := gpN_ok I hk hst (m.objL (k : Int)).length (Nat.le_refl _)
  rw [e]
  exact G.gap (gpN_lo I hk _ (Nat.le_refl _)) (gpN_end I hk hst) hbd (fun x g1 g2 => between I hk hst (Nat.le_refl _) g1 g2 (fun h => absurd h (Nat.lt_irrefl _)) (Nat.le_trans (gpN_lo I hk _ (Nat.le_refl _)) g1))
theorem gapL_not {k : Nat} (hst : m.st k ≠ 1) : m.gapL (k : Int) = [] := by
  unfold HM.gapL
  rw [if_neg]
  rintro ⟨_, h⟩
  rw [Int.toNat_natCast] at h
  exact hst h
theorem gapL_len (I : m.Inv) {k : Nat} : (m.gapL (k : Int)).length ≤ 33 := by
  unfold HM.gapL
  split
  · have h1 := gapAdd_le (gpN m (m.objL (k : Int)) (64 * (k : Int).toNat) (m.objL (k : Int)).length).1 (gpN m (m.objL (k : Int)) (64 * (k : Int).toNat) (m.objL (k : Int)).length).2 (64 * ((k : Int).toNat + 1))
    have h2 := gpN_le m (m.objL (k : Int)) (64 * (k : Int).toNat) (m.objL (k : Int)).length
    have h3 : (m.objL (k : Int)).length ≤ 32 := by
      unfold HM.objL
      split
      · exact fpL_le _ _ _
      · simp
    omega
  · simp
end
end Go.Proofs.Ytplgbpmldjngoaa
