/-
  A model in memory, and the contracts of package model's small readers. Conditions: those that stand in each theorem.
-/
import Derived.Test.YtbiompmklijgoaaDoorPU
namespace Go.Proofs.YtbiompmklijgoaaDoor
set_option linter.unusedVariables false
set_option linter.unusedSimpArgs false
open Go.RowKit Go.Deep Go.Maps

/-- An object: references, data words, kind, where its words begin. -/
structure OB where
  r : Nat
  d : Nat
  k : Nat
  f : Nat
def OB.zero : OB := ⟨0, 0, 0, 0⟩
def OB.cells (o : OB) : List Value := [.int .i64 (o.r : Int), .int .i64 (o.d : Int), .int .i64 (o.k : Int), .int .i64 (o.f : Int)]
def obcells : List OB → List Value
  | [] => []
  | o :: l => o.cells ++ obcells l
theorem obcells_length (l : List OB) : (obcells l).length = l.length * 4 := by
  induction l with
  | nil => rfl
  | cons o l ih => simp only [obcells, List.length_append, ih, OB.cells, List.length_cons, List.length_nil]; omega
theorem obcells_append (l l' : List OB) : obcells (l ++ l') = obcells l ++ obcells l' := by
  induction l with
  | nil => rfl
  | cons o l ih => simp only [List.cons_append, obcells, ih, List.append_assoc]
theorem obcells_at (l : List OB) (i : Nat) (hi : i < l.length) (j : Nat) (hj : j < 4) : (obcells l)[i * 4 + j]? = (l.getD i OB.zero).cells[j]? := by
  induction l generalizing i with
  | nil => simp at hi
  | cons o l ih =>
    simp only [obcells]
    cases i with
    | zero =>
      rw [List.getElem?_append_left (by simp [OB.cells]; omega)]
      simp
    | succ i =>
      rw [List.getElem?_append_right (by simp [OB.cells]; omega)]
      have e : (i + 1) * 4 + j - o.cells.length = i * 4 + j := by simp [OB.cells]; omega
      rw [e, ih i (by simpa using hi)]
      simp
/-- What a model is. -/
structure MT where
  n : Nat
  sl : List Int
  gl : List Int
  qu : List Int
  ob : List OB
  ws : List Int
def MT.obj (t : MT) (id : Int) : OB := t.ob.getD (id.toNat - 1) OB.zero
def MT.has (t : MT) (id : Int) : Bool := decide (1 ≤ id ∧ id ≤ (t.ob.length : Int))
/-- An identity, or none. -/
def MT.idn (t : MT) (x : Int) : Prop := 0 ≤ x ∧ x ≤ (t.ob.length : Int)
def shB (r d k : Int) : Bool := decide (0 ≤ k ∧ k ≤ 3 ∧ 0 ≤ r ∧ r ≤ 15 ∧ 0 ≤ d ∧ d ≤ 200 ∧ (k = 1 → 1 ≤ r) ∧ (k = 2 → 2 ≤ r))
structure MT.Ok (t : MT) : Prop where
  n1 : 1 ≤ t.n
  n4 : t.n ≤ 4
  sl : t.sl.length = 16 * t.n
  gl : t.gl.length = 16
  qu : t.qu.length ≤ 64
  sh : ∀ i, i < t.ob.length → shB (t.ob.getD i OB.zero).r (t.ob.getD i OB.zero).d (t.ob.getD i OB.zero).k = true
  fit : ∀ i, i < t.ob.length → (t.ob.getD i OB.zero).f + (t.ob.getD i OB.zero).r + (t.ob.getD i OB.zero).d ≤ t.ws.length
  apart : ∀ i j, i < j → j < t.ob.length → (t.ob.getD i OB.zero).f + (t.ob.getD i OB.zero).r + (t.ob.getD i OB.zero).d ≤ (t.ob.getD j OB.zero).f
  isl : ∀ x ∈ t.sl, t.idn x
  igl : ∀ x ∈ t.gl, t.idn x
  iqu : ∀ x ∈ t.qu, 1 ≤ x ∧ x ≤ (t.ob.length : Int)
  irf : ∀ i j, i < t.ob.length → j < (t.ob.getD i OB.zero).r → t.idn (t.ws.getD ((t.ob.getD i OB.zero).f + j) 0)
  w64 : ∀ x ∈ t.ws, W64 x
  small : t.ob.length ≤ 100000 ∧ t.ws.length ≤ 100000000
  wl : t.ws.length ≤ 215 * t.ob.length
/-- Where a model lies. -/
structure MB where
  g : Nat
  sb : Nat
  qv : Value
  ov : Value
  wv : Value
def MB.all (b : MB) : List Nat := b.g :: b.sb :: (b.qv.ownBlock.toList ++ b.ov.ownBlock.toList ++ b.wv.ownBlock.toList)
def mcell (b : MB) (t : MT) (c : Nat) : Array Value := (.slice (some ⟨b.sb, 0, none⟩) t.n c :: (zcells t.gl ++ [b.qv, b.ov, b.wv])).toArray
/-- The table of loose references, as it is laid. -/
def LZ (w : World) : Prop := w.cell? ⟨0, 0, none⟩ = some (.int .i64 0) ∧ w.cell? ⟨0, 1, none⟩ = some (.int .i64 1) ∧ w.cell? ⟨0, 2, none⟩ = some (.int .i64 2) ∧ w.cell? ⟨0, 3, none⟩ = some (.int .i64 0)
theorem LZ.kp {w w' : World} {S : List Nat} (h : LZ w) (k : Kp S w w') (h0 : 0 ∉ S) : LZ w' := ⟨cell_kps k h.1 h0, cell_kps k h.2.1 h0, cell_kps k h.2.2.1 h0, cell_kps k h.2.2.2 h0⟩
theorem LZ.kp0 {w w' : World} (h : LZ w) (k : Kp [] w w') : LZ w' := h.kp k (by simp)
structure MR (w : World) (b : MB) (t : MT) : Prop where
  ok : t.Ok
  lz : LZ w
  z0 : 0 ∉ b.all
  mem : ∃ (c : Nat) (sp : List Value), t.n ≤ c ∧ c ≤ maxLen ∧ (zcells t.sl ++ sp).length = 16 * c ∧ Blk w b.g 48 (mcell b t c) ∧ Blk w b.sb 80 (zcells t.sl ++ sp).toArray
  Q : w.ownsRow 0 3 1 b.qv t.qu.length (zcells t.qu)
  O : w.ownsRow 0 84 4 b.ov t.ob.length (obcells t.ob)
  D : w.ownsRow 0 3 1 b.wv t.ws.length (zcells t.ws)
  ne : ∀ x, b.qv.ownBlock = some x → b.wv.ownBlock ≠ some x
theorem mcell_gl {b : MB} {t : MT} {c i : Nat} (hi : i < t.gl.length) : (mcell b t c)[1 + i]? = some (.int .i64 (t.gl.getD i 0)) := by
  unfold mcell
  rw [List.getElem?_toArray, Nat.add_comm, List.getElem?_cons_succ, List.getElem?_append_left (by rw [zcells_length]; exact hi)]
  have := zcells_get (ws := t.gl) (sp := []) hi
  simpa using this
theorem mcell_v {b : MB} {t : MT} {c : Nat} (h : t.gl.length = 16) (j : Nat) : (mcell b t c)[17 + j]? = [b.qv, b.ov, b.wv][j]? := by
  unfold mcell
  rw [List.getElem?_toArray, show 17 + j = (16 + j) + 1 by omega, List.getElem?_cons_succ, List.getElem?_append_right (by rw [zcells_length]; omega), zcells_length, h]
  congr 1
  omega
section
variable {w w' : World} {b : MB} {t : MT}
theorem own_kpx {S : List Nat} {B : Nat} {e : TypeId} {z n : Nat} {v : Value} {xs : List Value} (h : w.ownsRow B e z v n xs) (k : Kp S w w') (hS : ∀ g, v.ownBlock = some g → g ∉ S) : w'.ownsRow B e z v n xs := by
  obtain ⟨hl, h2 | ⟨g, cap, cur, hv, hg, hb, r⟩⟩ := h
  · exact ⟨hl, .inl h2⟩
  · subst hv
    have hlt : g < w.heap.size := by
      rcases Nat.lt_or_ge g w.heap.size with h1 | h1
      · exact h1
      · rw [Array.getElem?_eq_none h1] at hb; cases hb
    exact ⟨hl, .inr ⟨g, cap, cur, rfl, hg, (k.block g hlt (hS g rfl)).trans hb, r⟩⟩
theorem own_cut {w : World} {B n z : Nat} {e : TypeId} {v : Value} {xs : List Value} (h : w.ownsRow B e z v n xs) : ∃ A c, v = .slice A n c ∧ n ≤ c ∧ c ≤ maxLen ∧ (A = none → n = 0 ∧ c = 0) ∧ ∀ a, A = some a → ∃ g, a = ⟨g, 0, none⟩ ∧ v.ownBlock = some g := by
  rcases h.2 with ⟨hv, h0⟩ | ⟨g, cap, cur, hv, _, _, h1, h2, _⟩
  · exact ⟨none, 0, by rw [hv, h0], by omega, by unfold maxLen; omega, fun _ => ⟨h0, rfl⟩, (fun a h => by cases h)⟩
  · exact ⟨_, cap, hv, h1, h2, (fun h => by cases h), (fun a h => by cases h; exact ⟨g, rfl, by rw [hv]; rfl⟩)⟩
theorem MR.c0 (R : MR w b t) : ∃ c, t.n ≤ c ∧ c ≤ maxLen ∧ w.cell? ⟨b.g, 0, none⟩ = some (.slice (some ⟨b.sb, 0, none⟩) t.n c) := by
  obtain ⟨c, sp, h1, h2, h3, G, B⟩ := R.mem
  exact ⟨c, h1, h2, G.cell 0⟩
theorem MR.cg (R : MR w b t) {i : Nat} (hi : i < 16) : w.cell? ⟨b.g, 1 + i, none⟩ = some (.int .i64 (t.gl.getD i 0)) := by
  obtain ⟨c, sp, h1, h2, h3, G, B⟩ := R.mem
  exact (G.cell _).trans (mcell_gl (by rw [R.ok.gl]; exact hi))
theorem MR.c17 (R : MR w b t) : w.cell? ⟨b.g, 17, none⟩ = some b.qv := by
  obtain ⟨c, sp, h1, h2, h3, G, B⟩ := R.mem
  exact (G.cell _).trans (mcell_v R.ok.gl 0)
theorem MR.c18 (R : MR w b t) : w.cell? ⟨b.g, 18, none⟩ = some b.ov := by
  obtain ⟨c, sp, h1, h2, h3, G, B⟩ := R.mem
  exact (G.cell _).trans (mcell_v R.ok.gl 1)
theorem MR.c19 (R : MR w b t) : w.cell? ⟨b.g, 19, none⟩ = some b.wv := by
  obtain ⟨c, sp, h1, h2, h3, G, B⟩ := R.mem
  exact (G.cell _).trans (mcell_v R.ok.gl 2)
theorem MR.cs (R : MR w b t) {i : Nat} (hi : i < 16 * t.n) : w.cell? ⟨b.sb, i, none⟩ = some (.int .i64 (t.sl.getD i 0)) := by
  obtain ⟨c, sp, h1, h2, h3, G, B⟩ := R.mem
  exact (B.cell _).trans (zcells_get (by rw [R.ok.sl]; exact hi))
theorem MR.lt (R : MR w b t) : ∀ x ∈ b.all, x < w.heap.size := by
  obtain ⟨c, sp, h1, h2, h3, G, B⟩ := R.mem
  intro x hx
  simp only [MB.all, List.mem_cons, List.mem_append, Option.mem_toList] at hx
  rcases hx with rfl | rfl | (hx | hx) | hx
  · exact G.lt
  · exact B.lt
  · exact own_lt R.Q _ hx
  · exact own_lt R.O _ hx
  · exact own_lt R.D _ hx
theorem MR.kp {S : List Nat} (R : MR w b t) (k : Kp S w w') (hS : ∀ x ∈ b.all, x ∉ S) (h0 : 0 ∉ S) : MR w' b t := by
  obtain ⟨c, sp, h1, h2, h3, G, B⟩ := R.mem
  exact ⟨R.ok, R.lz.kp k h0, R.z0, ⟨c, sp, h1, h2, h3, G.kp k (hS _ (by simp [MB.all])), B.kp k (hS _ (by simp [MB.all]))⟩, own_kpx R.Q k (fun g hg => hS g (by simp [MB.all, hg])), own_kpx R.O k (fun g hg => hS g (by simp [MB.all, hg])), own_kpx R.D k (fun g hg => hS g (by simp [MB.all, hg])), R.ne⟩
theorem MR.kp0 (R : MR w b t) (k : Kp [] w w') : MR w' b t := R.kp k (by simp) (by simp)
theorem MR.drewN (R : MR w b t) (n : Nat) : MR (w.drewN n) b t := R.kp0 (Kp.draw w n)
/-- The words: one after the other. -/
theorem MR.dat (R : MR w b t) {i : Nat} (hi : i < t.ws.length) : ∃ g c, b.wv = .slice (some ⟨g, 0, none⟩) t.ws.length c ∧ w.cell? ⟨g, i, none⟩ = some (.int .i64 (t.ws.getD i 0)) := by
  have D := R.D
  rcases D.2 with ⟨hv, h0⟩ | ⟨g, cap, cur, hv, _⟩
  · omega
  · refine ⟨g, cap, hv, ?_⟩
    rw [hv] at D
    rw [D.cellAt i (by omega)]
    have := zcells_get (ws := t.ws) (sp := []) hi
    simpa using this
/-- The objects: four cells each. -/
theorem MR.obc (R : MR w b t) {i : Nat} (hi : i < t.ob.length) : ∃ g c, b.ov = .slice (some ⟨g, 0, none⟩) t.ob.length c ∧ c ≤ maxLen ∧ w.cell? ⟨g, i * 4, none⟩ = some (.int .i64 ((t.ob.getD i OB.zero).r : Int)) ∧ w.cell? ⟨g, i * 4 + 1, none⟩ = some (.int .i64 ((t.ob.getD i OB.zero).d : Int)) ∧ w.cell? ⟨g, i * 4 + 2, none⟩ = some (.int .i64 ((t.ob.getD i OB.zero).k : Int)) ∧ w.cell? ⟨g, i * 4 + 3, none⟩ = some (.int .i64 ((t.ob.getD i OB.zero).f : Int)) := by
  have D := R.O
  rcases D.2 with ⟨hv, h0⟩ | ⟨g, cap, cur, hv, _, _, hc1, hc2, _⟩
  · omega
  · rw [hv] at D
    have hl := obcells_length t.ob
    refine ⟨g, cap, hv, hc2, ?_, ?_, ?_, ?_⟩
    · rw [D.cellAt (i * 4) (by omega)]; exact obcells_at t.ob i hi 0 (by omega)
    · rw [D.cellAt (i * 4 + 1) (by omega)]; exact obcells_at t.ob i hi 1 (by omega)
    · rw [D.cellAt (i * 4 + 2) (by omega)]; exact obcells_at t.ob i hi 2 (by omega)
    · rw [D.cellAt (i * 4 + 3) (by omega)]; exact obcells_at t.ob i hi 3 (by omega)
theorem m_made (R : MR w b t) :
    Calls Tryd.prog 41 #[.pointer (some ⟨b.g, 0, none⟩)] w fun e w' => e = .returned (.bool true) ∧ ∃ m, w' = w.drewN m := by
  obtain ⟨c, h1, h2, hc⟩ := R.c0
  have hp := R.ok.n1
  have hp2 := R.ok.n4
  have hp3 : 0 < t.n := by omega
  clear R
  go_enter Tryd.func41, Tryd.ntmps41
  go_wp2
  go_ret
  exact ⟨rfl, 0, rfl⟩
theorem m_mutators (R : MR w b t) :
    Calls Tryd.prog 25 #[.pointer (some ⟨b.g, 0, none⟩)] w fun e w' => e = .returned (.int .i64 (t.n : Int)) ∧ Kp [] w w' := by
  obtain ⟨c, h1, h2, hc⟩ := R.c0
  go_enter Tryd.func25, Tryd.ntmps25
  go_wp2_with (go_at_call 41; refine (m_made R).mono ?_; rintro e w' ⟨rfl, n1, rfl⟩)
  go_ret
  exact ⟨rfl, Kp.draw _ _⟩
theorem m_births (R : MR w b t) :
    Calls Tryd.prog 24 #[.pointer (some ⟨b.g, 0, none⟩)] w fun e w' => e = .returned (.int .i64 (t.ob.length : Int)) ∧ Kp [] w w' := by
  obtain ⟨A, c, hv, h1, h2, _⟩ := own_cut R.O
  have hc := R.c18
  rw [hv] at hc
  go_enter Tryd.func24, Tryd.ntmps24
  go_wp2_with (go_at_call 41; refine (m_made R).mono ?_; rintro e w' ⟨rfl, n1, rfl⟩)
  go_ret
  exact ⟨rfl, Kp.draw _ _⟩
def MT.hasM (t : MT) (m : Int) : Bool := decide (0 ≤ m ∧ m < (t.n : Int))
theorem m_hasMutator (R : MR w b t) (m : Int) :
    Calls Tryd.prog 59 #[.pointer (some ⟨b.g, 0, none⟩), .int .i64 m] w fun e w' => e = .returned (.bool (t.hasM m)) ∧ w = w' := by
  obtain ⟨c, h1, h2, hc⟩ := R.c0
  have h4 := R.ok.n4
  clear R
  by_cases h0 : 0 ≤ m
  · have d0 : decide ((0 : Int) ≤ m) = true := decide_eq_true h0
    by_cases hl : m < (t.n : Int)
    · have d1 : decide (m < (t.n : Int)) = true := decide_eq_true hl
      rw [show t.hasM m = true from decide_eq_true ⟨h0, hl⟩]
      go_enter Tryd.func59, Tryd.ntmps59
      go_wp2
      go_ret
      exact ⟨rfl, rfl⟩
    · have d1 : decide (m < (t.n : Int)) = false := decide_eq_false hl
      rw [show t.hasM m = false from decide_eq_false (by omega)]
      go_enter Tryd.func59, Tryd.ntmps59
      go_wp2
      go_ret
      exact ⟨rfl, rfl⟩
  · have d0 : decide ((0 : Int) ≤ m) = false := decide_eq_false h0
    rw [show t.hasM m = false from decide_eq_false (by omega)]
    go_enter Tryd.func59, Tryd.ntmps59
    go_wp2
    go_ret
    exact ⟨rfl, rfl⟩
def slotB (i : Int) : Bool := decide (0 ≤ i ∧ i < 16)
theorem m_isSlot (w : World) (i : Int) :
    Calls Tryd.prog 60 #[.int .i64 i] w fun e w' => e = .returned (.bool (slotB i)) ∧ w = w' := by
  by_cases h0 : 0 ≤ i
  · have d0 : decide ((0 : Int) ≤ i) = true := decide_eq_true h0
    by_cases hl : i < 16
    · have d1 : decide (i < (16 : Int)) = true := decide_eq_true hl
      rw [show slotB i = true from decide_eq_true ⟨h0, hl⟩]
      go_enter Tryd.func60, Tryd.ntmps60
      go_wp2
      go_ret
      exact ⟨rfl, rfl⟩
    · have d1 : decide (i < (16 : Int)) = false := decide_eq_false hl
      rw [show slotB i = false from decide_eq_false (by omega)]
      go_enter Tryd.func60, Tryd.ntmps60
      go_wp2
      go_ret
      exact ⟨rfl, rfl⟩
  · have d0 : decide ((0 : Int) ≤ i) = false := decide_eq_false h0
    rw [show slotB i = false from decide_eq_false (by omega)]
    go_enter Tryd.func60, Tryd.ntmps60
    go_wp2
    go_ret
    exact ⟨rfl, rfl⟩
theorem m_has (R : MR w b t) (id : Int) :
    Calls Tryd.prog 71 #[.pointer (some ⟨b.g, 0, none⟩), .int .i64 id] w fun e w' => e = .returned (.bool (t.has id)) ∧ w = w' := by
  obtain ⟨A, c, hv, h1, h2, _⟩ := own_cut R.O
  have hc := R.c18
  rw [hv] at hc
  have hsm := R.ok.small.1
  clear R hv
  by_cases h0 : 1 ≤ id
  · have d0 : decide ((1 : Int) ≤ id) = true := decide_eq_true h0
    by_cases hl : id ≤ (t.ob.length : Int)
    · have d1 : decide (id ≤ (t.ob.length : Int)) = true := decide_eq_true hl
      rw [show t.has id = true from decide_eq_true ⟨h0, hl⟩]
      go_enter Tryd.func71, Tryd.ntmps71
      go_wp2
      go_ret
      exact ⟨rfl, rfl⟩
    · have d1 : decide (id ≤ (t.ob.length : Int)) = false := decide_eq_false hl
      rw [show t.has id = false from decide_eq_false (by omega)]
      go_enter Tryd.func71, Tryd.ntmps71
      go_wp2
      go_ret
      exact ⟨rfl, rfl⟩
  · have d0 : decide ((1 : Int) ≤ id) = false := decide_eq_false h0
    rw [show t.has id = false from decide_eq_false (by omega)]
    go_enter Tryd.func71, Tryd.ntmps71
    go_wp2
    go_ret
    exact ⟨rfl, rfl⟩
def MT.chk (t : MT) (id : Int) : Int := if t.has id then 0 else 4
theorem m_check (R : MR w b t) (id : Int) :
    Calls Tryd.prog 67 #[.pointer (some ⟨b.g, 0, none⟩), .int .i64 id] w fun e w' => e = .returned (.int .i64 (t.chk id)) ∧ ∃ m, w' = w.drewN m := by
  have HR := hid R
  clear R
  rcases hh : t.has id
  · rw [show t.chk id = 4 by simp [MT.chk, hh]]
    have HH := hid hh
    clear hh
    go_enter Tryd.func67, Tryd.ntmps67
    go_wp2_with (first
      | (go_at_call 41; refine (m_made HR.out).mono ?_; rintro e w' ⟨rfl, n1, rfl⟩)
      | (go_at_call 71; refine (m_has (HR.out.drewN n1) id).mono ?_; rw [HH.out]; rintro e w' ⟨rfl, rfl⟩))
    go_ret
    exact ⟨rfl, _, rfl⟩
  · rw [show t.chk id = 0 by simp [MT.chk, hh]]
    have HH := hid hh
    clear hh
    go_enter Tryd.func67, Tryd.ntmps67
    go_wp2_with (first
      | (go_at_call 41; refine (m_made HR.out).mono ?_; rintro e w' ⟨rfl, n1, rfl⟩)
      | (go_at_call 71; refine (m_has (HR.out.drewN n1) id).mono ?_; rw [HH.out]; rintro e w' ⟨rfl, rfl⟩))
    go_ret
    exact ⟨rfl, _, rfl⟩
end
end Go.Proofs.YtbiompmklijgoaaDoor
