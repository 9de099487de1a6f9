/-
  The contract of package roots' Replace. Conditions: those that stand in each theorem.
-/
import Derived.Test.YtnidadhoojbmeaaRk
import Derived.Test.YtnidadhoojbmeaaRl
import Derived.Test.YtnidadhoojbmeaaRe
namespace Go.Proofs.Ytnidadhoojbmeaa
set_option linter.unusedVariables false
set_option linter.unusedSimpArgs false
open Go.RowKit Go.Deep Go.Maps Go.Shelf
attribute [local go_sem] Oper.semAt_some

/-- One place of a replacement; all of them, with how many. -/
def RT.rep1 (f tt : List Int) (s : RT × Nat) (p : Pl) : RT × Nat :=
  if f.contains (s.1.get (p.k : Int) (p.m : Int) (p.i : Int)) then (s.1.set (p.k : Int) (p.m : Int) (p.i : Int) (tt.getD (f.countP (· < s.1.get (p.k : Int) (p.m : Int) (p.i : Int))) 0), s.2 + 1) else s
def RT.reps (t : RT) (f tt : List Int) (l : List Pl) : RT × Nat := l.foldl (RT.rep1 f tt) (t, 0)
theorem reps_snoc (t : RT) (f tt : List Int) (l : List Pl) (p : Pl) : t.reps f tt (l ++ [p]) = RT.rep1 f tt (t.reps f tt l) p := by simp [RT.reps, List.foldl_append]
theorem reps_le (t : RT) (f tt : List Int) (l : List Pl) : (t.reps f tt l).2 ≤ l.length := by
  have h : ∀ (l : List Pl) (s : RT × Nat), (l.foldl (RT.rep1 f tt) s).2 ≤ s.2 + l.length := by
    intro l
    induction l with
    | nil => exact fun s => Nat.le_refl _
    | cons p l ih =>
      intro s
      have h1 := ih (RT.rep1 f tt s p)
      have h2 : (RT.rep1 f tt s p).2 ≤ s.2 + 1 := by unfold RT.rep1; split <;> simp
      rw [List.foldl_cons, List.length_cons]
      omega
  simpa [RT.reps] using h l (t, 0)
theorem like_get {t s : RT} (h : t.like s) (k m i : Int) : s.get k m i = 0 ↔ t.get k m i = 0 := by
  obtain ⟨_, _, _, _, h5, h6, h7⟩ := h
  unfold RT.get
  split
  · exact h5 _
  · split
    · exact h6 _
    · exact h7 _
theorem like_has {t s : RT} (h : t.like s) (k m i : Int) : s.has k m i = t.has k m i := by
  unfold RT.has
  rw [h.1, h.2.2.2.1]
theorem getD_set_iff {l l' : List Int} {j : Nat} {v : Int} (h : ∀ i, l'.getD i 0 = 0 ↔ l.getD i 0 = 0) (hj : l'.getD j 0 ≠ 0) (hv : v ≠ 0) (i : Nat) : (l'.set j v).getD i 0 = 0 ↔ l.getD i 0 = 0 := by
  by_cases e : i = j
  · subst e
    have hlt : i < l'.length := by
      rcases Nat.lt_or_ge i l'.length with h1 | h1
      · exact h1
      · rw [List.getD_eq_getElem?_getD, List.getElem?_eq_none h1] at hj; exact absurd rfl hj
    rw [← h i]
    simp [List.getD_eq_getElem?_getD, List.getElem?_set, hlt] at hj ⊢
    exact ⟨fun h1 => absurd h1 hv, fun h1 => absurd h1 hj⟩
  · rw [← h i]
    simp [List.getD_eq_getElem?_getD, List.getElem?_set, Ne.symm e]
theorem like_set {t s : RT} (h : t.like s) {k m i v : Int} (h0 : s.get k m i ≠ 0) (hv : v ≠ 0) : t.like (s.set k m i v) := by
  obtain ⟨h1, h2, h3, h4, h5, h6, h7⟩ := h
  unfold RT.get at h0
  unfold RT.set
  split
  · rename_i hk
    rw [if_pos hk] at h0
    exact ⟨h1, by simpa using h2, h3, h4, getD_set_iff h5 h0 hv, h6, h7⟩
  · rename_i hk
    rw [if_neg hk] at h0
    split
    · rename_i hk2
      rw [if_pos hk2] at h0
      exact ⟨h1, h2, by simpa using h3, h4, h5, getD_set_iff h6 h0 hv, h7⟩
    · rename_i hk2
      rw [if_neg hk2] at h0
      exact ⟨h1, h2, h3, by simpa using h4, h5, h6, getD_set_iff h7 h0 hv⟩
theorem countP_lt {f : List Int} {x : Int} (h : f.contains x = true) : f.countP (· < x) < f.length := by
  have h2 := List.contains_iff_mem.1 h
  refine Nat.lt_of_le_of_ne (List.countP_le_length) (fun e => ?_)
  have := (List.countP_eq_length (p := (· < x))).1 e x h2
  simp at this
theorem to_pos {tt : List Int} (hp : posB tt = true) {j : Nat} (hj : j < tt.length) : tt.getD j 0 ≠ 0 := by
  have := posB_iff.1 hp j hj; omega
theorem ris_pair {f : List Int} (h : risB f = true) : f.Pairwise (· ≤ ·) := by
  have h1 := risB_iff.1 h
  have h2 : ∀ d i, i + d < f.length → f.getD i 0 ≤ f.getD (i + d) 0 := by
    intro d
    induction d with
    | zero => exact fun i _ => Int.le_refl _
    | succ d ih => exact fun i hi => Int.le_trans (ih i (by omega)) (Int.le_of_lt (h1 (i + d) (by omega)))
  refine List.pairwise_iff_getElem.2 fun i j hi hj hij => ?_
  have := h2 (j - i) i (by omega)
  rw [show i + (j - i) = j by omega] at this
  simpa [List.getD_eq_getElem?_getD, hi, hj] using this
section
variable {P : Program} {ρ : Ren}
set_option maxHeartbeats 2000000 in
set_option maxRecDepth 1000000 in
theorem bs_none (L : SlLaysN.n49 P ρ) (a : Option Addr) (c : Nat) (x : Int) (w : World) :
    Calls P (ρ.f 49) #[.slice a 0 c, .int .i64 x] w fun e w' => e = .returned (.tuple #[.int .i64 0, .bool false]) ∧ w' = w := by
  have mixed := L.mixed; have t0 := L.t0; have a0 := L.a0; have z0 := L.z0; have v0 := L.v0; have t3 := L.t3; have a3 := L.a3; have z3 := L.z3; have v3 := L.v3; have t4 := L.t4; have a4 := L.a4; have z4 := L.z4; have v4 := L.v4; have t22 := L.t22; have a22 := L.a22; have z22 := L.z22; have v22 := L.v22; have t23 := L.t23; have a23 := L.a23; have z23 := L.z23; have v23 := L.v23; have t51 := L.t51; have a51 := L.a51; have z51 := L.z51; have v51 := L.v51
  have e31 : ∀ args w, (callFunc (ρ.f 59) args).run P w = .ok (.enter (ρ.f 59) args) w := L.f59.enters rfl
  have e32 : ∀ args w, (callFunc (ρ.f 60) args).run P w = .ok (.enter (ρ.f 60) args) w := L.f60.enters rfl
  have e37 : ∀ args w, (callFunc (ρ.f 68) args).run P w = .ok (.enter (ρ.f 68) args) w := L.f68.enters rfl
  obtain ⟨_, _, FG⟩ := L.f49
  go_enter FG, SlBodyN.n49_ntmps ρ
  go_wp2
  go_loopg [7, 8] 0 (fun _ s7 s8 wr => s7 = .int .i64 0 ∧ s8 = .int .i64 0 ∧ wr = w)
  case atStart => exact ⟨rfl, rfl, rfl⟩
  case round =>
    obtain ⟨rfl, rfl, rfl⟩ := hrel
    go_wp2
    go_ret2
    exact ⟨rfl, rfl⟩
end
section
variable {w w' W : World} {b : RB} {t : RT}
theorem bs_int {v : Value} {zs : List Int} (h : IsI w v zs) (hs : risB zs = true) (hl : zs.length < 4611686018427387904) (x : Int) :
    Calls Try.prog 43 #[v, .int .i64 x] w fun e w' => e = .returned (.tuple #[.int .i64 (zs.countP (· < x) : Nat), .bool (zs.contains x)]) ∧ ∃ q, w' = w.drewN q := by
  obtain ⟨A, cap, rfl, h1, h2⟩ := h
  by_cases h0 : 0 < zs.length
  · obtain ⟨g, o, rfl, _⟩ := h2 0 h0
    refine (AnyG.slices_BinarySearch_int Try.searchL g o zs.length cap zs x w (Nat.le_refl _) hl (fun j hj => ?_) (by rw [List.take_length]; exact ris_pair hs)).mono ?_
    · obtain ⟨g', o', e, c⟩ := h2 j hj
      cases e; exact c
    · rintro e w' ⟨rfl, q, rfl⟩
      rw [List.take_length]
      exact ⟨rfl, q, rfl⟩
  · obtain rfl : zs = [] := List.length_eq_zero_iff.1 (by omega)
    refine (bs_none Try.searchL A cap x w).mono ?_
    rintro e w' ⟨rfl, rfl⟩
    exact ⟨by simp, 0, rfl⟩
/-- A slice of numbers that lies apart from blocks. -/
def IsO (T : List Nat) (w : World) (v : Value) (zs : List Int) : Prop :=
  ∃ A cap, v = .slice A zs.length cap ∧ zs.length ≤ maxLen ∧ ∀ i, i < zs.length → ∃ g o, A = some ⟨g, o, none⟩ ∧ g ∉ T ∧ w.cell? ⟨g, o + i, none⟩ = some (.int .i64 (zs.getD i 0))
theorem IsO.is {T : List Nat} {v : Value} {zs : List Int} (h : IsO T w v zs) : IsI w v zs := by
  obtain ⟨A, cap, rfl, h1, h2⟩ := h
  exact ⟨A, cap, rfl, h1, fun i hi => by obtain ⟨g, o, e, _, c⟩ := h2 i hi; exact ⟨g, o, e, c⟩⟩
theorem IsO.kp {T : List Nat} {v : Value} {zs : List Int} (h : IsO T w v zs) (k : Kp T w W) : IsI W v zs := by
  obtain ⟨A, cap, rfl, h1, h2⟩ := h
  exact ⟨A, cap, rfl, h1, fun i hi => by obtain ⟨g, o, e, hn, c⟩ := h2 i hi; exact ⟨g, o, e, cell_kps k c hn⟩⟩
theorem like_rep1 {f tt : List Int} (hl : f.length = tt.length) (hp : posB tt = true) {s : RT × Nat} (h : t.like s.1) {p : Pl} (h0 : t.get (p.k : Int) (p.m : Int) (p.i : Int) ≠ 0) : t.like (RT.rep1 f tt s p).1 := by
  unfold RT.rep1
  split
  · rename_i hc
    exact like_set h (fun e => h0 ((like_get h _ _ _).1 e)) (to_pos hp (by rw [← hl]; exact countP_lt hc))
  · exact h
/-- What holds between two rounds of Replace's loop. -/
structure IRp (w : World) (b : RB) (t : RT) (f tt : List Int) (vf vt : Value) (Bc Br : Nat) (pre : List Pl) (S : List Nat) (W : World) : Prop where
  bf : Blk W w.heap.size 34 #[vf]
  bt : Blk W (w.heap.size + 1) 34 #[vt]
  bc : Blk W Bc 3 #[.int .i64 ((t.reps f tt pre).2 : Int)]
  br : Blk W Br 25 #[.pointer (some ⟨b.g, 0, none⟩)]
  rr : RR W b (t.reps f tt pre).1
  lk : t.like (t.reps f tt pre).1
  kp : Kp b.all w W
  ap : Apart S w.heap.size W (w.heap.size :: (w.heap.size + 1) :: Bc :: Br :: b.all)
theorem IRp.kps {f tt : List Int} {vf vt : Value} {Bc Br : Nat} {pre : List Pl} {S T S' : List Nat} (h : IRp w b t f tt vf vt Bc Br pre S W) (k : Kp T W w') (hT : ∀ x ∈ w.heap.size :: (w.heap.size + 1) :: Bc :: Br :: b.all, x ∉ T) (hT2 : ∀ x ∈ T, w.heap.size ≤ x) (ha : Apart S' w.heap.size w' (w.heap.size :: (w.heap.size + 1) :: Bc :: Br :: b.all)) : IRp w b t f tt vf vt Bc Br pre S' w' :=
  ⟨h.bf.kp k (hT _ (by simp)), h.bt.kp k (hT _ (by simp)), h.bc.kp k (hT _ (by simp)), h.br.kp k (hT _ (by simp)), h.rr.kp k (fun x hx => hT x (by simp [hx])), h.lk, h.kp.trans k (fun x hx => .inl hx) (fun x hx => .inr (hT2 x hx)), ha⟩
theorem IRp.lts {f tt : List Int} {vf vt : Value} {Bc Br : Nat} {pre : List Pl} {S : List Nat} (h : IRp w b t f tt vf vt Bc Br pre S W) : ∀ x ∈ w.heap.size :: (w.heap.size + 1) :: Bc :: Br :: b.all, x < W.heap.size := by
  intro x hx
  simp only [List.mem_cons] at hx
  rcases hx with rfl | rfl | rfl | rfl | hx
  · exact h.bf.lt
  · exact h.bt.lt
  · exact h.bc.lt
  · exact h.br.lt
  · exact h.rr.lt x hx
theorem IRp.isC {f tt : List Int} {vf vt : Value} {Bc Br : Nat} {pre : List Pl} {S : List Nat} (h : IRp w b t f tt vf vt Bc Br pre S W) : ∀ x ∈ w.heap.size :: (w.heap.size + 1) :: Bc :: Br :: b.all, ∀ o, W.heap[x]? = some o → o.isCells = true := by
  intro x hx
  simp only [List.mem_cons] at hx
  rcases hx with rfl | rfl | rfl | rfl | hx
  · exact h.bf.isC
  · exact h.bt.isC
  · exact h.bc.isC
  · exact h.br.isC
  · exact h.rr.isC x hx
theorem IRp.ab (w : World) (b : RB) (t : RT) (f tt : List Int) (vf vt : Value) (Bc Br : Nat) : AbOwn (IRp w b t f tt vf vt Bc Br) := by
  intro pre S W W' h k
  exact h.kps k h.ap.ne_ h.ap.lo (h.ap.step h.kp.size h.lts k)
theorem IRp.own_ {w w0 : World} {b : RB} {t : RT} {f tt : List Int} {vf vt : Value} {Bc Br : Nat} (hw : w.heap.size ≤ w0.heap.size) (S : List Nat) : OwnFrom w0.heap.size (fun pre W => IRp w b t f tt vf vt Bc Br pre S W) := by
  intro pre X Y row h hg hr
  have k : Kp row.toList X Y := Kp.of_grown hg
  refine h.kps k (fun x hx hm => ?_) (fun x hx => ?_) (h.ap.more k.size (fun x hx => .inl hx))
  · obtain ⟨_, o, ho, hoc⟩ := hr x (by simpa using hm)
    rw [h.isC x hx o ho] at hoc; cases hoc
  · have := (hr x (by simpa using hx)).1
    omega
end
end Go.Proofs.Ytnidadhoojbmeaa
