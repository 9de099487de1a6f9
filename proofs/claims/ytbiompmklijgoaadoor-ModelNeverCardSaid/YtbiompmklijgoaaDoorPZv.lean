/-
  Kept is closed, and the least: plain mathematics; what ModelLeast's walk carries. Conditions: those that stand in each theorem.
-/
import Derived.Test.YtbiompmklijgoaaDoorPZu
namespace Go.Proofs.YtbiompmklijgoaaDoor
set_option linter.unusedVariables false
set_option linter.unusedSimpArgs false
open Go.RowKit Go.Deep Go.Maps

theorem MT.Ok.keep {t : MT} (ok : t.Ok) {x y : Int} {bs : List Bool} (hx : t.K x) (hbs : ∀ i : Nat, i ≤ t.ob.length → bs.getD i false = true → t.K (i : Int)) (hy : y ≠ 0) (h : t.keepB bs x y = true) : t.K y := by
  unfold MT.keepB at h
  rw [List.any_eq_true] at h
  obtain ⟨j, hj, h⟩ := h
  rw [List.mem_range] at hj
  unfold MT.kpB at h
  rw [Bool.and_eq_true, Bool.or_eq_true, Bool.and_eq_true] at h
  obtain ⟨h1, h2⟩ := h
  have h1 := of_decide_eq_true h1
  rcases h2 with h2 | ⟨h2, h3⟩
  · exact .strong hx (mem_strong.2 ⟨j, of_decide_eq_true h2, hj, h1⟩) hy
  · obtain ⟨hk, rfl⟩ := of_decide_eq_true h2
    have hb := ok.rfs (hx.pos ok) (i := 0) (by omega)
    have hkey := hbs _ (by omega) h3
    rw [Int.toNat_of_nonneg hb.1] at hkey
    rw [← h1] at hy ⊢
    exact .eph hx hk hkey hy
/-- A list of marks that leads to no object that it lacks. -/
def Clo (t : MT) (cnt : List Bool) (x : Int) (n : Nat) : Prop := cnt.getD x.toNat false = true → ∀ y : Nat, 1 ≤ y → y < n → cnt.getD y false = true ∨ t.keepB cnt x (y : Int) = false
theorem MT.Ok.least {t : MT} (ok : t.Ok) {cnt : List Bool} (hr : ∀ z ∈ t.roots, z ≠ 0 → cnt.getD z.toNat false = true) (hc : ∀ x, t.K x → Clo t cnt x (t.ob.length + 1)) {x : Int} (hx : t.K x) : cnt.getD x.toNat false = true := by
  induction hx with
  | root h h0 => exact hr _ h h0
  | @strong x y hx hy h0 ih =>
    have hb := ok.strong_in (hx.pos ok) _ hy
    obtain ⟨yn, rfl⟩ : ∃ k : Nat, y = (k : Int) := ⟨y.toNat, by omega⟩
    rw [Int.toNat_natCast]
    rcases hc x hx ih yn (by omega) (by omega) with h | h
    · exact h
    · obtain ⟨i, h1, h2, h3⟩ := mem_strong.1 hy
      have := keepB_yes (bs := cnt) (y := (yn : Int)) h2 (by unfold MT.kpB strB; rw [decide_eq_true h3, decide_eq_true h1]; rfl)
      rw [this] at h
      cases h
  | @eph x hx hk hkey h0 ih ihk =>
    have h2 := ok.eph2 (hx.pos ok) hk
    have hb := ok.rfs (hx.pos ok) (i := 1) (by omega)
    obtain ⟨yn, hyn⟩ : ∃ k : Nat, t.rf x 1 = (k : Int) := ⟨(t.rf x 1).toNat, by omega⟩
    rw [hyn] at h0 hb ⊢
    rw [Int.toNat_natCast]
    rcases hc x hx ih yn (by omega) (by omega) with h | h
    · exact h
    · have := keepB_yes (t := t) (x := x) (bs := cnt) (y := (yn : Int)) (j := 1) (by omega) (by unfold MT.kpB; rw [decide_eq_true hyn, decide_eq_true ⟨hk, rfl⟩, ihk]; simp)
      rw [this] at h
      cases h
theorem trues_up (l : List Bool) (k i : Nat) (h : i + 1 < (trues l k).length) : (trues l k).getD i 0 < (trues l k).getD (i + 1) 0 := by
  have p : (trues l k).Pairwise (· < ·) := by
    unfold trues
    rw [List.pairwise_map]
    refine List.Pairwise.imp (R := fun a b : Nat => a < b) (fun h => by omega) ?_
    exact List.Pairwise.filter _ List.pairwise_lt_range
  rw [List.getD_eq_getElem?_getD, List.getD_eq_getElem?_getD, List.getElem?_eq_getElem (by omega), List.getElem?_eq_getElem h]
  exact List.pairwise_iff_getElem.1 p i (i + 1) (by omega) h (by omega)
theorem cnt_setF {l : List Bool} {j : Nat} (hj : j < l.length) (h : l.getD j false = false) : (l.set j true).count false < l.count false := by
  rw [List.getD_eq_getElem?_getD, List.getElem?_eq_getElem hj] at h
  have h' : l[j] = false := h
  have hp : 0 < l.count false := List.count_pos_iff.2 (h' ▸ List.getElem_mem hj)
  rw [List.count_set hj, h']
  simp
  omega
theorem set_getD {l : List Bool} {j : Nat} {i : Nat} (h : l.getD i false = true) : (l.set j true).getD i false = true := by
  rw [List.getD_eq_getElem?_getD] at h ⊢
  rw [List.getElem?_set]
  by_cases e : j = i
  · subst e
    by_cases hl : j < l.length
    · simp [hl]
    · rw [List.getElem?_eq_none (by omega)] at h
      cases h
  · rw [if_neg e]
    exact h
theorem set_getD_self {l : List Bool} {j : Nat} (h : j < l.length) : (l.set j true).getD j false = true := by
  rw [List.getD_eq_getElem?_getD, List.getElem?_set]
  simp [h]
/-- A cell that holds true. -/
def isT : Option Value → Bool
  | some (.bool true) => true
  | _ => false
def fz (g n : Nat) (w : World) : Nat := ((List.range n).map (fun j => isT (w.cell? ⟨g, j, none⟩))).count false
theorem fz_of {w : World} {g n : Nat} {cnt : List Bool} (hb : Blk w g 4 (bcells cnt)) (hl : cnt.length = n) : fz g n w = cnt.count false := by
  unfold fz
  congr 1
  apply List.ext_getElem
  · simp [hl]
  · intro i h1 h2
    have hi : i < cnt.length := h2
    simp only [List.getElem_map, List.getElem_range]
    rw [hb.cell i, bcells_get hi, List.getD_eq_getElem?_getD, List.getElem?_eq_getElem hi]
    show isT (some (.bool cnt[i])) = cnt[i]
    cases cnt[i] <;> rfl
def boolOf : Value → Nat
  | .bool true => 1
  | _ => 0
section
variable {w w' W V : World} {b : MB} {t : MT} {vo vp : Value} {gk gc N : Nat}
/-- A model, what is kept, its roots, marks of what is kept, and another block of marks. -/
structure LF (w W : World) (b : MB) (t : MT) (vo vp : Value) (gk gc N : Nat) : Prop where
  r : MR W b t
  o : W.ownsRow 0 3 1 vo t.kept.length (zcells t.kept)
  p : W.ownsRow 0 3 1 vp t.roots.length (zcells t.roots)
  k : Blk W gk 4 (bcells (marks N t.kept))
  d : Kp [] w W
  off : ∀ x ∈ b.all, x ≠ gc
  oo : vo.ownBlock ≠ some gc
  op : vp.ownBlock ≠ some gc
  ok_ : gk ≠ gc
  c0 : 0 < gc
  cw : w.heap.size ≤ gc
theorem LF.chg (h : LF w W b t vo vp gk gc N) (k : Kp [gc] W V) : LF w V b t vo vp gk gc N :=
  ⟨h.r.kp k (fun x hx hm => h.off x hx (by simpa using hm)) (by have := h.c0; simp; omega), own_kpx h.o k (fun g hg hm => h.oo (by rw [hg]; simpa using hm)), own_kpx h.p k (fun g hg hm => h.op (by rw [hg]; simpa using hm)), h.k.kp k (by have := h.ok_; simpa using this), h.d.trans k (by simp) (fun x hx => .inr (by have := h.cw; simp at hx; omega)), h.off, h.oo, h.op, h.ok_, h.c0, h.cw⟩
theorem LF.kp0 (h : LF w W b t vo vp gk gc N) (k : Kp [] W V) : LF w V b t vo vp gk gc N := h.chg (k.mono (by simp))
theorem own_at {v : Value} {zs : List Int} (own : W.ownsRow 0 3 1 v zs.length (zcells zs)) {A : Option Addr} {n c : Nat} (hv : v = .slice A n c) {i : Nat} (hi : i < zs.length) : ∃ g, A = some ⟨g, 0, none⟩ ∧ W.cell? ⟨g, i, none⟩ = some (.int .i64 (zs.getD i 0)) := by
  rcases id own.2 with ⟨h1, h0⟩ | ⟨g, cap, cur, h1, _⟩
  · omega
  · rw [hv] at h1
    injection h1 with e1 e2 e3
    subst e1 e2 e3
    rw [hv] at own
    refine ⟨g, rfl, ?_⟩
    rw [own.cellAt i (by omega)]
    have := zcells_get (ws := zs) (sp := []) hi
    simpa using this
theorem LF.live (h : LF w W b t vo vp gk gc N) : Live W b.g t [] := ⟨⟨b, rfl, h.r, fun x hx => by cases hx⟩, fun x hx => by cases hx⟩
end
end Go.Proofs.YtbiompmklijgoaaDoor
