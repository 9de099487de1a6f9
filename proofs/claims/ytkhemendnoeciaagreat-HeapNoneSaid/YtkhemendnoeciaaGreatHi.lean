/-
  What a heap's memory reads as behind cover, uncover, a pin and a forward. No condition but those stated.
-/
import Derived.Test.YtkhemendnoeciaaGreatHh
namespace Go.Proofs.YtkhemendnoeciaaGreat
set_option linter.unusedVariables false
set_option linter.unusedSimpArgs false
open Go.RowKit Go.Deep Go.Maps

theorem ent_fillN {L : List Nat} {a n v : Nat} (h : a + n ≤ L.length) (j : Nat) : ent (fillN L a n v) j = if a ≤ j ∧ j < a + n then v else ent L j := by
  induction n with
  | zero => rw [if_neg (by omega)]; rfl
  | succ n ih =>
    unfold fillN
    rw [ent_set _ _ _ _ (by rw [fillN_length]; omega), ih (by omega)]
    by_cases h1 : j = a + n
    · rw [if_pos h1, if_pos (by omega)]
    · rw [if_neg h1]
      by_cases h2 : a ≤ j ∧ j < a + n
      · rw [if_pos h2, if_pos (by omega)]
      · rw [if_neg h2, if_neg (by omega)]
theorem MapRd.put {D : DataW Unit} {f : Int → Option Int} (h : MapRd D f) (hD : IsMap D) (key v : Int) (hk : W64 key) : MapRd (D.put (.int .i64 key) (.lit (.int .i64 v))) (fun i => if i = key then some v else f i) := by
  intro i h1 h2
  have hkl : WideAt.IsKeyLit (.int .i64 key) := trivial
  by_cases he : i = key
  · subst he
    refine ⟨by rw [has_put_same hD hkl]; simp, fun x hx => ?_⟩
    simp at hx
    subst hx
    exact atKey_put_same hD hkl _ _
  · have hne : (Lit.int .i64 i) ≠ .int .i64 key := by simpa using he
    obtain ⟨a1, a2⟩ := h i h1 h2
    refine ⟨by rw [has_put_other hne, a1]; simp [he], fun x hx => ?_⟩
    simp only [if_neg he] at hx
    rw [atKey_put_other hne]
    exact a2 x hx
theorem MapRd.del {D : DataW Unit} {f : Int → Option Int} (h : MapRd D f) (key : Int) : MapRd (D.del (.int .i64 key)) (fun i => if i = key then none else f i) := by
  intro i h1 h2
  by_cases he : i = key
  · subst he
    exact ⟨by rw [has_del_same]; simp, fun x hx => by simp at hx⟩
  · have hne : (Lit.int .i64 i) ≠ .int .i64 key := by simpa using he
    obtain ⟨a1, a2⟩ := h i h1 h2
    refine ⟨by rw [has_del_other hne, a1]; simp [he], fun x hx => ?_⟩
    simp only [if_neg he] at hx
    rw [atKey_del_other hne]
    exact a2 x hx
section
variable {m : HM} {r : RM} {a : Nat} {o : Ob}
theorem add_ob {x : Nat} {y : Ob} : (m.add a o).ob x = some y ↔ (x = a ∧ y = o) ∨ (x ≠ a ∧ m.ob x = some y) := by
  unfold HM.add
  simp only
  constructor
  · intro h
    split at h
    · cases h; exact .inl ⟨by assumption, rfl⟩
    · exact .inr ⟨by assumption, h⟩
  · rintro (⟨rfl, rfl⟩ | ⟨h1, h2⟩)
    · rw [if_pos rfl]
    · rw [if_neg h1, h2]
theorem del_ob {x : Nat} {y : Ob} : (m.del a).ob x = some y ↔ x ≠ a ∧ m.ob x = some y := by
  unfold HM.del
  simp only
  constructor
  · intro h
    split at h
    · cases h
    · exact ⟨by assumption, h⟩
  · rintro ⟨h1, h2⟩
    rw [if_neg h1, h2]
theorem opt_ext {α : Type} {x y : Option α} (h : ∀ a, x = some a ↔ y = some a) : x = y := by
  rcases x with _ | x
  · rcases y with _ | y
    · rfl
    · exact absurd ((h y).2 rfl) (by simp)
  · exact ((h x).1 rfl).symm
theorem atI_add (I : m.Inv) (J : (m.add a o).Inv) (hn : m.ob a = none) : (m.add a o).atI = fun i => if i = (o.id : Int) then some (a : Int) else m.atI i := by
  funext i
  unfold HM.atI
  have h : (m.add a o).at_ i = if i = (o.id : Int) then some a else m.at_ i := by
    apply opt_ext
    intro x
    rw [at_iff J]
    by_cases hi : i = (o.id : Int)
    · rw [if_pos hi]
      constructor
      · rintro ⟨y, h1, h2⟩
        have := J.ids _ _ _ _ h1 (add_ob.2 (.inl ⟨rfl, rfl⟩)) (by omega)
        rw [this]
      · intro h1
        cases h1
        exact ⟨o, add_ob.2 (.inl ⟨rfl, rfl⟩), hi.symm⟩
    · rw [if_neg hi, at_iff I]
      constructor
      · rintro ⟨y, h1, h2⟩
        rcases add_ob.1 h1 with ⟨rfl, rfl⟩ | ⟨_, h3⟩
        · exact absurd h2.symm hi
        · exact ⟨y, h3, h2⟩
      · rintro ⟨y, h1, h2⟩
        exact ⟨y, add_ob.2 (.inr ⟨(by rintro rfl; rw [hn] at h1; cases h1), h1⟩), h2⟩
  rw [h]
  split <;> rfl
theorem atI_del (I : m.Inv) (h : m.ob a = some o) : (m.del a).atI = fun i => if i = (o.id : Int) then none else m.atI i := by
  funext i
  unfold HM.atI
  have h : (m.del a).at_ i = if i = (o.id : Int) then none else m.at_ i := by
    apply opt_ext
    intro x
    rw [at_iff (I.del a)]
    by_cases hi : i = (o.id : Int)
    · rw [if_pos hi]
      constructor
      · rintro ⟨y, h1, h2⟩
        obtain ⟨h3, h4⟩ := del_ob.1 h1
        exact absurd (I.ids _ _ _ _ h4 h (by omega)) h3
      · intro h1
        cases h1
    · rw [if_neg hi, at_iff I]
      constructor
      · rintro ⟨y, h1, h2⟩
        exact ⟨y, (del_ob.1 h1).2, h2⟩
      · rintro ⟨y, h1, h2⟩
        refine ⟨y, del_ob.2 ⟨?_, h1⟩, h2⟩
        rintro rfl
        rw [h] at h1
        cases h1
        exact hi h2.symm
  rw [h]
  split <;> rfl
theorem atI_put (I : m.Inv) {o' : Ob} (h : m.ob a = some o) (hid : o'.id = o.id) (J : (m.add a o').Inv) : (m.add a o').atI = m.atI := by
  funext i
  unfold HM.atI
  have h : (m.add a o').at_ i = m.at_ i := by
    apply opt_ext
    intro x
    rw [at_iff J, at_iff I]
    constructor
    · rintro ⟨y, h1, h2⟩
      rcases add_ob.1 h1 with ⟨rfl, rfl⟩ | ⟨_, h3⟩
      · exact ⟨o, h, by rw [← hid]; exact h2⟩
      · exact ⟨y, h3, h2⟩
    · rintro ⟨y, h1, h2⟩
      by_cases hx : x = a
      · subst hx
        rw [h] at h1
        cases h1
        exact ⟨o', add_ob.2 (.inl ⟨rfl, rfl⟩), by rw [hid]; exact h2⟩
      · exact ⟨y, add_ob.2 (.inr ⟨hx, h1⟩), h2⟩
  rw [h]
theorem Abs.pl (A : Abs r m) {w : World} {b : HB} (R : Raw w b r) : r.ps.length * 2 = m.n := by
  have := R.pl
  have := A.bl
  unfold HM.n
  rw [← this]
  omega
theorem Abs.nl (A : Abs r m) {w : World} {b : HB} (R : Raw w b r) : r.pn.length * 2 = m.n := by
  have := R.nl
  have := A.bl
  unfold HM.n
  rw [← this]
  omega
theorem Abs.uncover (A : Abs r m) {w : World} {b : HB} (R : Raw w b r) (h : m.ob a = some o) : Abs (r.uncover a o.wd o.id) (m.del a) := by
  have I := A.inv
  have hhi := I.hi h
  have hwl := A.wl R
  have hpl := A.pl R
  have hnl := A.nl R
  have he := I.even _ _ h
  have hw := (I.ok _ _ h).wd_bd
  refine ⟨I.del a, A.bl, A.born, ?_, ?_, A.df, A.fs⟩
  · refine A.rep.del I h (fun k => ?_) (fun j => ?_) (fun j => ?_)
    · show (laid r.ws a (List.replicate o.wd 0)).getD k 0 = _
      rw [laid_get (by simp; omega)]
      simp only [List.length_replicate]
      split
      · rw [List.getD_eq_getElem?_getD, List.getElem?_replicate]
        split <;> rfl
      · rfl
    · show ent (fillN r.ps (a / 2) (o.wd / 2) 0) j = _
      rw [ent_fillN (by omega)]
      by_cases hc : a ≤ 2 * j ∧ 2 * j < a + o.wd
      · rw [if_pos hc, if_pos (by omega)]
      · rw [if_neg hc, if_neg (by omega)]
    · show ent (r.pn.set (a / 2) 0) j = _
      rw [ent_set _ _ _ _ (by omega)]
  · show MapRd (r.Dp.del _) _
    rw [atI_del I h]
    exact A.dp.del _
theorem Abs.cover (A : Abs r m) {w : World} {b : HB} (R : Raw w b r) (J : (m.add a o).Inv) (ho : o.Ok) (he : a % 2 = 0) (hf : m.free a o.wd) (hp : o.pin = false) (hhi : a + o.wd ≤ m.n) {gs : List Int} (hg : gs.length ≤ o.wd) (hgs : ∀ j, j < o.wd → gs.getD j 0 = o.word j) (hid : W64 o.id) :
    Abs (r.cover a o.wd gs) (m.add a o) := by
  have I := A.inv
  have hwl := A.wl R
  have hpl := A.pl R
  have hw := ho.wd_bd
  have hn : m.ob a = none := by
    rcases h : m.ob a with _ | y
    · rfl
    · have := (I.ok _ _ h).wd_bd
      exact absurd ⟨a, y, h, Nat.le_refl _, by omega⟩ (hf a (Nat.le_refl _) (by omega))
  refine ⟨J, A.bl, A.born, ?_, ?_, A.df, A.fs⟩
  · refine A.rep.add I ho he hf hp (fun k => ?_) (fun j => ?_)
    · show (laid r.ws a gs).getD k 0 = _
      rw [laid_get (by omega)]
      by_cases h1 : a ≤ k ∧ k < a + o.wd
      · rw [if_pos h1]
        split
        · exact hgs _ (by omega)
        · have h2 := A.rep.w_gap k (hf k h1.1 h1.2)
          rw [h2, ← hgs (k - a) (by omega), List.getD_eq_getElem?_getD, List.getElem?_eq_none (by omega)]
          rfl
      · rw [if_neg h1, if_neg (by omega)]
    · show ent ((fillN r.ps (a / 2) (o.wd / 2) 2).set (a / 2) 1) j = _
      rw [ent_set _ _ _ _ (by rw [fillN_length]; omega), ent_fillN (by omega)]
      by_cases h1 : j = a / 2
      · rw [if_pos h1, if_pos h1]
      · rw [if_neg h1, if_neg h1]
        by_cases hc : a ≤ 2 * j ∧ 2 * j < a + o.wd
        · rw [if_pos hc, if_pos (by omega)]
        · rw [if_neg hc, if_neg (by omega)]
  · show MapRd (r.Dp.put _ _) _
    rw [atI_add I J hn]
    have e : gs.getD 0 0 = (o.id : Int) := by rw [hgs 0 (by omega)]; rfl
    rw [e]
    exact A.dp.put ((R.MP).isMap) _ _ hid
/-- Another pin. -/
def Ob.setPin (o : Ob) (p : Bool) : Ob := { o with pin := p }
theorem Ob.Ok.setPin (h : o.Ok) (p : Bool) : (o.setPin p).Ok := ⟨h.vld, h.len, h.pos⟩
theorem Abs.setPin (A : Abs r m) {w : World} {b : HB} (R : Raw w b r) (h : m.ob a = some o) (p : Bool) : Abs { r with pn := r.pn.set (a / 2) (if p then 1 else 0) } (m.add a (o.setPin p)) := by
  have I := A.inv
  have J : (m.add a (o.setPin p)).Inv := I.put h ((I.ok _ _ h).setPin p) rfl rfl
  have hnl := A.nl R
  have hhi := I.hi h
  have hw := (I.ok _ _ h).wd_bd
  refine ⟨J, A.bl, A.born, ?_, ?_, A.df, A.fs⟩
  · refine A.rep.put I h rfl (fun k => ?_) (fun j => ?_)
    · by_cases hc : a ≤ k ∧ k < a + o.wd
      · rw [if_pos hc]
        have := A.rep.w_ob _ _ h (k - a) (by omega)
        rw [show a + (k - a) = k by omega] at this
        exact this
      · rw [if_neg hc]
    · show ent (r.pn.set (a / 2) _) j = _
      rw [ent_set _ _ _ _ (by omega)]
      rfl
  · rw [atI_put (o' := o.setPin p) I h rfl J]
    exact A.dp
/-- A forward is noted. -/
def HM.fwd (m : HM) (f t : Nat) : HM := { m with fw := fun x => if x = f then some t else m.fw x, fn := if (m.fw f).isSome then m.fn else m.fn + 1 }
theorem HM.Inv.fwd (I : m.Inv) (f t : Nat) : (m.fwd f t).Inv := ⟨I.len2, I.len64, I.b0, I.free0, I.even, I.ok, I.idb, I.lie, I.apart, I.ids⟩
theorem Abs.fwd (A : Abs r m) {w : World} {b : HB} (R : Raw w b r) (f t q : Nat) (hf : W64 f) : Abs { r with Df := r.Df.put (.int .i64 (f : Int)) (.lit (.int .i64 (t : Int))), q := q } (m.fwd f t) := by
  refine ⟨A.inv.fwd f t, A.bl, A.born, ⟨A.rep.w_ob, A.rep.w_gap, A.rep.p_ob, A.rep.p_in, A.rep.p_gap, A.rep.n_ob, A.rep.n_gap⟩, A.dp, ?_, ?_⟩
  · show MapRd (r.Df.put _ _) _
    have e : (m.fwd f t).fwI = fun i => if i = (f : Int) then some (t : Int) else m.fwI i := by
      funext i
      unfold HM.fwI HM.fwd
      simp only
      by_cases hi : i = (f : Int)
      · subst hi
        simp
      · rw [if_neg hi]
        split
        · rw [if_neg (by omega)]
        · rfl
    rw [e]
    exact A.df.put R.MF.isMap _ _ hf
  · show Maps.size (r.Df.put _ _) = _
    rw [size_put (R.MF.tidy lawInt)]
    have h1 := (A.df (f : Int) hf.1 hf.2).1
    have e : m.fwI (f : Int) = Option.map (fun a : Nat => (a : Int)) (m.fw f) := by simp [HM.fwI]
    rw [h1, e, A.fs]
    unfold HM.fwd
    simp
end
end Go.Proofs.YtkhemendnoeciaaGreat
