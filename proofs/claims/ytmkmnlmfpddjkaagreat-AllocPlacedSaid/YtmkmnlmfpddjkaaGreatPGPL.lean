/-
  The law AllocClones, walked. Conditions: those that stand in each theorem.
-/
import Derived.Test.YtmkmnlmfpddjkaaGreatPGOL
import Derived.Test.YtmkmnlmfpddjkaaGreatPG20
import Derived.Test.YtmkmnlmfpddjkaaGreatPG16
import Derived.Test.YtmkmnlmfpddjkaaGreatPG12
namespace Go.Proofs.YtmkmnlmfpddjkaaGreat
set_option linter.unusedVariables false
set_option linter.unusedSimpArgs false
open Go.RowKit Go.Deep Go.Maps

section
variable {m : HM} {A : AS}
theorem own_ne (I : m.Inv) (k : Nat) : m.own k ≠ 0 ↔ m.cv k := by
  rcases own_cases I k with ⟨a, o, h0, h1, h2, h3⟩ | ⟨h1, h2⟩
  · have := I.lo h0
    exact ⟨fun _ => ⟨a, o, h0, h1, h2⟩, fun _ => by omega⟩
  · exact ⟨fun h => absurd h2 h, fun h => absurd h h1⟩
theorem alE_cases (x d k : Int) : m.alE A x d k = 0 ∨ (m.alE A x d k ≠ 0 ∧ m.alA A x d k = A ∧ m.alM A x d k = m) := by
  by_cases h : m.alE A x d k = 0
  · exact .inl h
  · refine .inr ⟨h, ?_, ?_⟩
    · unfold HM.alA; rw [if_neg h]
    · unfold HM.alM; rw [if_neg h]
theorem al_valid {x d k : Int} (h : m.alE A x d k = 0) : vldB x d k = true ∧ (m.choose A (wdN x.toNat d.toNat)).1 ≠ 0 ∧ m.alV A x d k = (m.choose A (wdN x.toNat d.toNat)).1 ∧ m.alA A x d k = (m.choose A (wdN x.toNat d.toNat)).2 := by
  have h0 := h
  unfold HM.alE at h
  rcases hv : vldB x d k
  · rw [hv] at h; simp at h
  · rw [hv] at h
    simp only [if_true] at h
    by_cases hz : (m.choose A (wdN x.toNat d.toNat)).1 = 0
    · rw [if_pos hz] at h; exact absurd h (by decide)
    · refine ⟨rfl, hz, ?_, ?_⟩
      · unfold HM.alV; rw [hv]; rfl
      · unfold HM.alA; rw [if_pos h0]
end
section
variable {w W V : World} {b c : HB} {m m2 : HM} {q q2 g gc B B' : Nat} {A A2 : AS}
theorem FarI.kpn {v : Value} {zs : List Int} {S : List Nat} (h : FarI w B v zs) (k : Kp S w W) (hS : ∀ x ∈ S, x < B) : FarI W B v zs := by
  obtain ⟨Ad, cap, rfl, h1, h2, hA⟩ := h
  exact ⟨Ad, cap, rfl, h1, h2, fun i hi => by
    obtain ⟨gg, e, hb, c⟩ := hA i hi
    exact ⟨gg, e, hb, cell_kpn k (fun hm => by have := hS gg hm; omega) c⟩⟩
theorem cursor_k (U : LV w W b q m g A) :
    Calls Tryz.prog 31 #[.pointer (some ⟨g, 0, none⟩)] W fun e w' => e = .returned (.tuple #[.int .i64 (A.c : Int), .int .i64 (A.l : Int), .int .i64 (A.oc : Int), .int .i64 (A.ol : Int)]) ∧ Kp [] W w' := by
  refine (a_cursor U.al).mono ?_
  rintro e w' ⟨rfl, h⟩
  exact ⟨rfl, h⟩
theorem LV.bl (U : LV w W b q m g A) : ∀ x ∈ g :: b.all, x < W.heap.size := fun x hx => by
  rcases List.mem_cons.1 hx with rfl | h
  · exact Blk.lt U.al
  · exact U.sh.lt x h
end
end Go.Proofs.YtmkmnlmfpddjkaaGreat
/-
  The law AllocFull, walked. Conditions: those that stand in each theorem.
-/
namespace Go.Proofs.YtmkmnlmfpddjkaaGreat
set_option linter.unusedVariables false
set_option linter.unusedSimpArgs false
open Go.RowKit Go.Deep Go.Maps

section
variable {w W V w0 : World} {b : HB} {m : HM} {q g B : Nat} {A : AS}
theorem alA_sp (m : HM) (A : AS) (x d k : Int) : (m.alA A x d k).sp = A.sp ∧ (m.alA A x d k).po = A.po := by
  unfold HM.alA
  split
  · unfold HM.choose
    repeat' split
    all_goals exact ⟨rfl, rfl⟩
  · exact ⟨rfl, rfl⟩
theorem pqP_sp (m : HM) (A : AS) (n1 k a s x y z : Int) : (pqP m A n1 k a s x y z).2.sp = A.sp ∧ (pqP m A n1 k a s x y z).2.po = A.po := by
  unfold pqP
  split
  · exact alA_sp m A x y z
  repeat' split
  all_goals exact ⟨rfl, rfl⟩
theorem Rch.sp {n s p : Nat} {m : HM} {A : AS} (h : Rch n s p m A) : A.sp = s ∧ A.po = p := by
  induction h with
  | new => exact ⟨rfl, rfl⟩
  | act h n1 k a c x y z _ _ ih => exact ⟨(pqP_sp _ _ _ _ _ _ _ _ _).1.trans ih.1, (pqP_sp _ _ _ _ _ _ _ _ _).2.trans ih.2⟩
theorem wordsI_nat (x y z : Int) : ∃ n : Nat, wordsI x y z = (n : Int) ∧ n ≤ 218 ∧ (vldB x y z = true → wdN x.toNat y.toNat = n) ∧ (vldB x y z = false → n = 0) := by
  rcases hv : vldB x y z
  · exact ⟨0, by unfold wordsI; rw [hv]; rfl, by omega, (fun h => by cases h), fun _ => rfl⟩
  · obtain ⟨a, c, d, rfl, rfl, rfl, h1, h2, _⟩ := vldB_nat hv
    have := wdN_bd h1 h2
    exact ⟨wdN a c, by unfold wordsI; rw [if_pos hv, Int.toNat_natCast, Int.toNat_natCast], by omega, fun _ => rfl, (fun h => by cases h)⟩
theorem words_k (U : LV w0 W b q m g A) {x y z : Int} {n : Nat} (hn : wordsI x y z = (n : Int)) :
    Calls Tryz.prog 37 #[.agg #[.int .i64 x, .int .i64 y, .int .i64 z]] W fun e w' => e = .returned (.int .i64 (n : Int)) ∧ LV w0 w' b q m g A ∧ Kp [] W w' := by
  refine (h_words x y z W).mono ?_
  rintro e w' ⟨rfl, K⟩
  rw [hn]
  exact ⟨rfl, U.step' K, K⟩
end
end Go.Proofs.YtmkmnlmfpddjkaaGreat
/-
  The law AllocFirst, walked. Conditions: those that stand in each theorem.
-/
namespace Go.Proofs.YtmkmnlmfpddjkaaGreat
set_option linter.unusedVariables false
set_option linter.unusedSimpArgs false
open Go.RowKit Go.Deep Go.Maps

section
variable {w W V w0 : World} {b : HB} {m : HM} {q g B : Nat} {A : AS}
theorem alloc_k (U : LV w0 W b q m g A) (x y z : Int) (hq : q ≤ 900000000) :
    Calls Tryz.prog 32 #[.pointer (some ⟨g, 0, none⟩), .agg #[.int .i64 x, .int .i64 y, .int .i64 z]] W fun e w' => e = .returned (.tuple #[.int .i64 (m.alV A x y z : Int), .int .i64 (m.alE A x y z)]) ∧ LV w0 w' b (q + 1) (m.alM A x y z) g (m.alA A x y z) ∧ Kp (g :: b.all) W w' := by
  refine (a_alloc U.sh U.al U.ok U.gb x y z hq).mono ?_
  rintro e w' ⟨rfl, h1, h2, h3⟩
  refine ⟨rfl, ⟨h1, U.kp.trans h3 (U := []) (by simp) (fun z hz => .inr ?_), U.hb, h2, U.hg, U.gb, alA_ok U.sh.inv U.ok x y z⟩, h3⟩
  rcases List.mem_cons.1 hz with rfl | h
  · exact U.hg
  · exact U.hb z h
end
end Go.Proofs.YtmkmnlmfpddjkaaGreat
/-
  The law AllocLines, walked. Conditions: those that stand in each theorem.
-/
namespace Go.Proofs.YtmkmnlmfpddjkaaGreat
set_option linter.unusedVariables false
set_option linter.unusedSimpArgs false
open Go.RowKit Go.Deep Go.Maps

theorem holN_free (L : List Bool) (i : Nat) : ∀ h ∈ holN L i, L.getD h.1 false = false := by
  induction i with
  | zero => intro h hh; cases hh
  | succ i ih =>
    intro h hh
    unfold holN at hh
    split at hh
    · exact ih h hh
    · rename_i ht
      have ht2 : L.getD i false = false := by simpa using ht
      split at hh
      · rename_i hp
        rcases List.mem_append.1 hh with h1 | h1
        · exact ih h (List.dropLast_subset _ h1)
        · rw [List.mem_singleton] at h1
          subst h1
          have hpos := holN_some hp.1 hp.2
          have hne : holN L i ≠ [] := by intro e; rw [e] at hpos; cases hpos
          have hl : (holN L i).getLastD (0, 0) = (holN L i).getLast hne := by
            rw [List.getLastD_eq_getLast?, List.getLast?_eq_some_getLast hne]
            rfl
          show L.getD ((holN L i).getLastD (0, 0)).1 false = false
          rw [hl]
          exact ih _ (List.getLast_mem hne)
      · rcases List.mem_append.1 hh with h1 | h1
        · exact ih h h1
        · rw [List.mem_singleton] at h1
          subst h1
          exact ht2
section
variable {w W V w0 : World} {b : HB} {m : HM} {q g B : Nat} {A : AS}
end
end Go.Proofs.YtmkmnlmfpddjkaaGreat
/-
  Plain mathematics: what Alloc places is there afterwards. Conditions: those that stand in each theorem.
-/
namespace Go.Proofs.YtmkmnlmfpddjkaaGreat
set_option linter.unusedVariables false
set_option linter.unusedSimpArgs false
open Go.RowKit Go.Deep Go.Maps

section
variable {m : HM} {A : AS}
theorem cv_st (I : m.Inv) {x : Nat} (h : m.cv x) : m.st (x / 64) ≠ 0 := by
  obtain ⟨a, o, h0, h1, h2⟩ := h
  have hs := I.lie a o h0
  have hb := suit_bd hs
  unfold suitB at hs
  split at hs
  · have hs2 := of_decide_eq_true hs
    have : x / 64 = a / 64 := by omega
    rw [this]
    unfold HM.st
    omega
  · have hs2 := of_decide_eq_true hs
    obtain ⟨g1, g2, g3⟩ := hs2
    by_cases hx : x / 64 = a / 64
    · rw [hx]; unfold HM.st; omega
    · have hg := (grpEnd_iff m.bl (a / 64) _ hb.1).1 rfl
      have := hg.2.2.1 (x / 64) (by omega) (by omega)
      unfold HM.st
      omega
theorem own_free (I : m.Inv) {x : Nat} (h : m.st (x / 64) = 0) : m.own x = 0 := own_gap (fun hc => cv_st I hc h)
/-- Both cursors are even. -/
def AS.Ev (A : AS) : Prop := A.c % 2 = 0 ∧ A.oc % 2 = 0
theorem rgL_ev (I : m.Inv) {s n : Nat} {a : Nat × Nat} (h : a ∈ rgL m s n) : a.1 % 2 = 0 := by
  unfold rgL at h
  obtain ⟨k, hk, ha⟩ := List.mem_flatMap.1 h
  obtain ⟨hk1, hk2⟩ := mem_blkS.1 hk
  have hk3 := of_decide_eq_true hk2
  obtain ⟨i, hi, rfl⟩ := List.getElem_of_mem ha
  have G := gapsAt I (ownS_lt hk2) hk3.1
  have := (G.ev i hi).1
  rw [List.getD_eq_getElem?_getD, List.getElem?_eq_getElem hi] at this
  exact this
/-- Free words in a used block of the space. -/
def RoomAt (m : HM) (s v n : Nat) : Prop := ownS m s (v / 64) = true ∧ v % 64 + n ≤ 64 ∧ ∀ x, v ≤ x → x < v + n → m.own x = 0
theorem room_gap (I : m.Inv) {s v n : Nat} (hn : 1 ≤ n) {g : Nat × Nat} (hg : g ∈ rgL m s m.bl.length) (h1 : g.1 ≤ v) (h2 : v + n ≤ g.1 + g.2) : RoomAt m s v n := by
  unfold rgL at hg
  obtain ⟨k, hk, ha⟩ := List.mem_flatMap.1 hg
  obtain ⟨hk1, hk2⟩ := mem_blkS.1 hk
  have hk3 := of_decide_eq_true hk2
  obtain ⟨i, hi, rfl⟩ := List.getElem_of_mem ha
  have G := gapsAt I (ownS_lt hk2) hk3.1
  have e : (m.gapL (k : Int)).getD i (0, 0) = (m.gapL (k : Int))[i] := by rw [List.getD_eq_getElem?_getD, List.getElem?_eq_getElem hi]; rfl
  have hlo := G.lo i hi
  have hhi := G.hi i hi
  rw [e] at hlo hhi
  have hvk : v / 64 = k := by omega
  refine ⟨by rw [hvk]; exact hk2, by omega, fun x h3 h4 => G.free i hi x (by rw [e]; omega) (by rw [e]; omega)⟩
theorem room_isGap (I : m.Inv) {s v n : Nat} (hn : 1 ≤ n) (h : m.isGapB s v n = true) : RoomAt m s v n := by
  unfold HM.isGapB at h
  rw [Bool.and_eq_true, List.any_eq_true] at h
  obtain ⟨h1, g, hg, h2⟩ := h
  have h3 := of_decide_eq_true h2
  have hk := ownS_lt h1
  refine room_gap I hn (g := g) ?_ h3.1 h3.2
  unfold rgL
  exact List.mem_flatMap.2 ⟨v / 64, mem_blkS.2 ⟨hk, h1⟩, hg⟩
theorem low_room (I : m.Inv) {s f n : Nat} (hn : 1 ≤ n) (h : m.lowG s f n ≠ 0) : RoomAt m s (m.lowG s f n) n ∧ (f % 2 = 0 → m.lowG s f n % 2 = 0) := by
  unfold HM.lowG firstFit at h ⊢
  rw [ars_map, List.find?_map] at h ⊢
  rcases hf : (rgL m s m.bl.length).find? ((fun a => fitA a n) ∘ areaOf f) with _ | a
  · simp only [hf] at h; exact absurd rfl h
  · have h1 := List.find?_some hf
    have h2 := List.mem_of_find?_eq_some hf
    simp only [Function.comp] at h1
    unfold fitA areaOf at h1
    have h3 := of_decide_eq_true h1
    simp only at h3
    have hev := rgL_ev I h2
    show RoomAt m s (max a.1 f) n ∧ (f % 2 = 0 → max a.1 f % 2 = 0)
    refine ⟨room_gap I hn h2 (by omega) (by omega), fun hfe => ?_⟩
    rcases Nat.le_total a.1 f with hle | hle
    · rw [Nat.max_eq_right hle]; exact hfe
    · rw [Nat.max_eq_left hle]; exact hev
theorem least_room (I : m.Inv) {s n : Nat} (hn : 1 ≤ n) (h : m.leastG s n ≠ 0) : RoomAt m s (m.leastG s n) n ∧ m.leastG s n % 2 = 0 := by
  rcases leastG_spec I s n with ⟨h1, _⟩ | ⟨a, ha, h1, _, h2, _⟩
  · exact absurd h1 h
  · rw [h1]
    exact ⟨room_gap I hn ha (Nat.le_refl _) (by omega), rgL_ev I ha⟩
theorem hole_room (I : m.Inv) {s l n : Nat} (hn : 1 ≤ n) (h8 : n ≤ 8) {a : Nat × Nat} (ha : a ∈ holsL m s m.bl.length) : RoomAt m s a.1 n ∧ a.1 % 8 = 0 := by
  unfold holsL at ha
  obtain ⟨k, hk, ha⟩ := List.mem_flatMap.1 ha
  obtain ⟨hk1, hk2⟩ := mem_blkS.1 hk
  have hk3 := of_decide_eq_true hk2
  obtain ⟨h, hh, rfl⟩ := List.mem_map.1 ha
  have hb := holN_bd (m.lnL k) (m.lnL k).length h hh
  have hl8 : (m.lnL k).length = 8 := by simp [HM.lnL]
  have hfr := holN_free (m.lnL k) (m.lnL k).length h hh
  show RoomAt m s (k * 64 + h.1 * 8) n ∧ (k * 64 + h.1 * 8) % 8 = 0
  have q1 : (k * 64 + h.1 * 8) / 64 = k := by omega
  refine ⟨⟨by rw [q1]; exact hk2, by omega, fun x h3 h4 => ?_⟩, by omega⟩
  refine own_gap (fun hc => ?_)
  have := (lnL_iff I hk1 hk3.1 (i := h.1) (by omega)).2 ⟨x - (k * 64 + h.1 * 8), by omega, by rw [show k * 64 + h.1 * 8 + (x - (k * 64 + h.1 * 8)) = x by omega]; exact (own_ne I x).2 hc⟩
  rw [hfr] at this
  cases this
/-- Where a small object is placed. -/
theorem small_cases (I : m.Inv) (hE : A.Ev) {n : Nat} (hn : 1 ≤ n) (h32 : ¬ 32 < n) (h : (m.choose A n).1 ≠ 0) (hpo : A.po < 5) : (m.choose A n).1 % 2 = 0 ∧ (RoomAt m A.sp (m.choose A n).1 n ∨ (m.choose A n).1 = m.freeB 1) := by
  have hfm := freeB_mod (m := m) (c := 1) (by omega)
  unfold HM.choose at h ⊢
  rw [if_neg h32] at h ⊢
  by_cases h0 : A.po = 0
  · rw [if_pos h0] at h ⊢
    simp only at h ⊢
    unfold orN at h ⊢
    by_cases hl : m.lowG A.sp 0 n = 0
    · rw [if_pos hl]; exact ⟨by omega, .inr rfl⟩
    · rw [if_neg hl]
      obtain ⟨h1, h2⟩ := low_room I hn hl
      exact ⟨h2 rfl, .inl h1⟩
  rw [if_neg h0] at h ⊢
  by_cases h1 : A.po = 1
  · rw [if_pos h1] at h ⊢
    simp only at h ⊢
    unfold orN at h ⊢
    by_cases hl : m.leastG A.sp n = 0
    · rw [if_pos hl]; exact ⟨by omega, .inr rfl⟩
    · rw [if_neg hl]
      obtain ⟨h1, h2⟩ := least_room I hn hl
      exact ⟨h2, .inl h1⟩
  rw [if_neg h1] at h ⊢
  by_cases h2 : A.po = 2
  · rw [if_pos h2] at h ⊢
    simp only at h ⊢
    unfold orN at h ⊢
    by_cases hl : m.lowG A.sp A.c n = 0
    · rw [if_pos hl] at h ⊢
      by_cases hl2 : m.lowG A.sp 0 n = 0
      · rw [if_pos hl2]; exact ⟨by omega, .inr rfl⟩
      · rw [if_neg hl2]
        obtain ⟨h1, h2⟩ := low_room I hn hl2
        exact ⟨h2 rfl, .inl h1⟩
    · rw [if_neg hl] at h ⊢
      rw [if_neg hl]
      obtain ⟨h1, h2⟩ := low_room I hn hl
      exact ⟨h2 hE.1, .inl h1⟩
  rw [if_neg h2] at h ⊢
  have bump : ∀ c l, c % 2 = 0 → (m.bumpA A.sp (c, l) n).1 ≠ 0 → (m.bumpA A.sp (c, l) n).1 % 2 = 0 ∧ (RoomAt m A.sp (m.bumpA A.sp (c, l) n).1 n ∨ (m.bumpA A.sp (c, l) n).1 = m.freeB 1) := by
    intro c l hc hb
    unfold HM.bumpA at hb ⊢
    by_cases hf : fitA (c, l) n = true
    · rw [if_pos hf] at hb ⊢
      by_cases hg : m.isGapB A.sp c n = true
      · simp only [hg, if_true] at hb ⊢
        exact ⟨hc, .inl (room_isGap I hn hg)⟩
      · simp only [hg] at hb
        exact absurd rfl hb
    · rw [if_neg hf]
      exact ⟨by show m.freeB 1 % 2 = 0; omega, .inr rfl⟩
  by_cases h3 : A.po = 3
  · rw [if_pos h3] at h ⊢
    exact bump A.c A.l hE.1 h
  rw [if_neg h3] at h ⊢
  by_cases h4 : A.c + n ≤ A.l
  · rw [if_pos h4] at h ⊢
    exact bump A.c A.l hE.1 h
  rw [if_neg h4] at h ⊢
  by_cases h5 : 8 < n
  · rw [if_pos h5] at h ⊢
    exact bump A.oc A.ol hE.2 h
  rw [if_neg h5] at h ⊢
  have e1 : (takeA (m.holeA A.sp A.l) n).1 = (m.holeA A.sp A.l).1 := rfl
  simp only [e1] at h ⊢
  unfold HM.holeA at h ⊢
  rcases hfd : (holsL m A.sp m.bl.length).find? (fun a => decide (A.l ≤ a.1)) with _ | a
  · simp only [hfd]
    exact ⟨by show m.freeB 1 % 2 = 0; omega, .inr rfl⟩
  · simp only [hfd]
    obtain ⟨g1, g2⟩ := hole_room I (l := A.l) hn (by omega) (List.mem_of_find?_eq_some hfd)
    exact ⟨by omega, .inl g1⟩
end
end Go.Proofs.YtmkmnlmfpddjkaaGreat
/-
  Plain mathematics: Alloc makes one object, in a block of its space, and claims no more blocks than it needs. Conditions: those that stand in each theorem.
-/
namespace Go.Proofs.YtmkmnlmfpddjkaaGreat
set_option linter.unusedVariables false
set_option linter.unusedSimpArgs false
open Go.RowKit Go.Deep Go.Maps

/-- Whether a block has changed, and how many of the first ones have. -/
def chB (m m' : HM) (j : Nat) : Bool := decide (m'.st j ≠ m.st j ∨ m'.sp j ≠ m.sp j)
def chN (m m' : HM) : Nat → Nat
  | 0 => 0
  | j + 1 => chN m m' j + (if chB m m' j = true then 1 else 0)
/-- What Alloc leaves of the blocks before it places an object. -/
structure Begun (m m' : HM) (s v n : Nat) (x y z : Int) : Prop where
  ob : m'.ob = m.ob
  born : m'.born = m.born
  len : m'.bl.length = m.bl.length
  E : m'.placeE (v : Int) x y z = 0
  sp : m'.sp (v / 64) = s
  blk : v / 64 < m.bl.length
  ch : ∀ j, chB m m' j = true → m.st j = 0 ∧ m'.sp j = s
  few : n ≤ 32 → chN m m' m.bl.length ≤ 1
  all : 32 < n → chN m m' m.bl.length = (n + 63) / 64
section
variable {m : HM} {A : AS}
theorem chB_self (m : HM) (j : Nat) : chB m m j = false := by unfold chB; simp
theorem chN_self (m : HM) : ∀ k, chN m m k = 0 := by
  intro k
  induction k with
  | zero => rfl
  | succ k ih => unfold chN; rw [ih, chB_self]; rfl
theorem chN_range {m m' : HM} {b n : Nat} (h : ∀ j, chB m m' j = decide (b ≤ j ∧ j < b + n)) : ∀ k, chN m m' k = min k (b + n) - min k b := by
  intro k
  induction k with
  | zero => simp [chN]
  | succ k ih =>
    unfold chN
    rw [ih, h k]
    by_cases hk : b ≤ k ∧ k < b + n
    · rw [decide_eq_true hk, if_pos rfl]; omega
    · rw [decide_eq_false hk, if_neg (by decide)]; omega
theorem room_zero {m : HM} {v n : Nat} (hev : v % 2 = 0) (hn : n % 2 = 0) (hlt : v < m.n) (hs : suitB m.bl v n = true) (hf : ∀ x, v ≤ x → x < v + n → m.own x = 0) : roomE m (v : Int) n 0 = 0 := by
  unfold roomE
  rw [if_pos ⟨by omega, by omega, by omega⟩, Int.toNat_natCast, if_pos hs]
  unfold tkE
  rw [if_neg]
  rw [Bool.not_eq_true, tkB_false]
  intro i hi
  exact .inl (hf _ (by omega) (by omega))
theorem place_of {m : HM} {v n : Nat} {x y z : Int} (hv : vldB x y z = true) (hn : wdN x.toNat y.toNat = n) (h : roomE m (v : Int) n 0 = 0) : m.placeE (v : Int) x y z = 0 := by
  unfold HM.placeE
  rw [if_pos hv, hn]
  exact h
/-- What a claim of free blocks leaves. -/
theorem claim_free (I : m.Inv) {b n s st : Nat} (hb : 1 ≤ b) (hn : 1 ≤ n) (h : b + n ≤ m.bl.length) (hf : ∀ i, i < n → m.st (b + i) = 0) (hs : s < 8) (hst : st = 1 ∨ st = 2) :
    (m.claimM (b : Int) (n : Int) (s : Int) st).ob = m.ob ∧ (m.claimM (b : Int) (n : Int) (s : Int) st).born = m.born ∧ (m.claimM (b : Int) (n : Int) (s : Int) st).bl = claimL m.bl b n s st ∧ (∀ j, (m.claimM (b : Int) (n : Int) (s : Int) st).st j = if j = b then st else if b ≤ j ∧ j < b + n then 3 else m.st j) ∧ (∀ j, (m.claimM (b : Int) (n : Int) (s : Int) st).sp j = if b ≤ j ∧ j < b + n then s else m.sp j) ∧ ∀ j, chB m (m.claimM (b : Int) (n : Int) (s : Int) st) j = decide (b ≤ j ∧ j < b + n) := by
  have hE : m.claimE (b : Int) (n : Int) (s : Int) = 0 := by
    unfold HM.claimE claimOk
    have h1 : blkB m.bl.length (b : Int) = true := decide_eq_true ⟨by omega, by omega⟩
    have h2 : spcB (s : Int) = true := decide_eq_true ⟨by omega, by omega⟩
    have h3 : decide (1 ≤ (n : Int) ∧ (n : Int) ≤ (m.bl.length : Int) - (b : Int)) = true := decide_eq_true ⟨by omega, by omega⟩
    rw [h1, h2, h3]
    simp only [Bool.and_self, if_true]
    unfold takenE
    rw [Int.toNat_natCast, Int.toNat_natCast, if_pos (freeB_true.2 hf)]
  have hM : m.claimM (b : Int) (n : Int) (s : Int) st = m.setBl (claimL m.bl b n s st) := by
    unfold HM.claimM
    rw [if_pos hE, Int.toNat_natCast, Int.toNat_natCast, Int.toNat_natCast]
  have G := fun j => claimL_get (bl := m.bl) (s := s) (st := st) hn h j
  have hS : ∀ j, (m.claimM (b : Int) (n : Int) (s : Int) st).st j = if j = b then st else if b ≤ j ∧ j < b + n then 3 else m.st j := fun j => by
    rw [hM]
    show ((claimL m.bl b n s st).getD j (0, 0)).1 = _
    rw [G j]
    split
    · rfl
    · split <;> rfl
  have hP : ∀ j, (m.claimM (b : Int) (n : Int) (s : Int) st).sp j = if b ≤ j ∧ j < b + n then s else m.sp j := fun j => by
    rw [hM]
    show ((claimL m.bl b n s st).getD j (0, 0)).2 = _
    rw [G j]
    split
    · rename_i hj; rw [if_pos (by omega)]
    · split
      · rename_i hj; first | rw [if_pos hj] | rfl
      · rename_i hj; first | rw [if_neg hj] | rfl
      <;> rfl
  refine ⟨by rw [hM]; rfl, by rw [hM]; rfl, by rw [hM]; rfl, hS, hP, fun j => ?_⟩
  unfold chB
  rw [hS j, hP j]
  by_cases hj : b ≤ j ∧ j < b + n
  · rw [decide_eq_true hj]
    have h0 := hf (j - b) (by omega)
    rw [show b + (j - b) = j by omega] at h0
    refine decide_eq_true (.inl ?_)
    rw [h0]
    split
    · omega
    · first | (rw [if_pos hj]; decide) | decide
  · rw [decide_eq_false hj]
    refine decide_eq_false ?_
    rw [if_neg (by omega), if_neg hj, if_neg hj]
    simp
theorem begun_small (I : m.Inv) (hA : A.Ok) (hE : A.Ev) {x y z : Int} (hv : vldB x y z = true) {n : Nat} (hn : wdN x.toNat y.toNat = n) (h32 : ¬ 32 < n) (hn2 : 2 ≤ n) (hne : n % 2 = 0) (h0 : (m.choose A n).1 ≠ 0) : Begun m (m.forM A.sp (m.choose A n).1 n) A.sp (m.choose A n).1 n x y z := by
  obtain ⟨hev, hc⟩ := small_cases I hE (by omega) h32 h0 hA.po
  generalize (m.choose A n).1 = v at *
  unfold HM.forM
  rw [if_neg h32]
  by_cases hst : m.st (v / 64) = 0
  · rw [if_pos hst]
    have hvf : v = m.freeB 1 := by
      rcases hc with ⟨h1, _⟩ | h
      · have := of_decide_eq_true h1
        omega
      · exact h
    obtain ⟨k, h1, h2, h3, _, _, h6⟩ := freeB_some (m := m) (c := 1) (by omega) (by omega)
    have hvk : v / 64 = k := by omega
    rw [hvk]
    obtain ⟨g1, g2, g3, g4, g5, g6⟩ := claim_free I (b := k) (n := 1) (s := A.sp) (st := 1) h1 (Nat.le_refl _) (by omega) (fun i hi => by rw [show k + i = k by omega]; exact h3) hA.sp (.inl rfl)
    rw [show ((1 : Nat) : Int) = 1 from rfl] at g1 g2 g3 g4 g5 g6
    have hlen : (m.claimM (k : Int) 1 (A.sp : Int) 1).bl.length = m.bl.length := by rw [g3, claimL_length]
    refine ⟨g1, g2, hlen, ?_, by rw [hvk, g5 k, if_pos ⟨Nat.le_refl _, by omega⟩], by omega, fun j hj => ?_, fun _ => ?_, fun h => absurd h h32⟩
    · refine place_of hv hn (room_zero hev hne ?_ ?_ (fun w h7 h8 => ?_))
      · unfold HM.n; rw [hlen]; omega
      · unfold suitB
        rw [if_pos (by omega)]
        refine decide_eq_true ⟨?_, by omega⟩
        have := g4 k
        rw [if_pos rfl] at this
        rw [hvk]
        exact this
      · have hown : (m.claimM (k : Int) 1 (A.sp : Int) 1).own w = m.own w := by unfold HM.own; rw [g1]
        rw [hown]
        exact own_free I (by rw [show w / 64 = k by omega]; exact h3)
    · rw [g6 j] at hj
      have hj2 := of_decide_eq_true hj
      obtain rfl : j = k := by omega
      exact ⟨h3, by rw [g5 j, if_pos hj2]⟩
    · rw [chN_range g6]; omega
  · rw [if_neg hst]
    rcases hc with ⟨h1, h2, h3⟩ | h
    · have h4 := of_decide_eq_true h1
      have h5 := ownS_lt h1
      refine ⟨rfl, rfl, rfl, place_of hv hn (room_zero hev hne (by unfold HM.n; omega) ?_ h3), h4.2, h5, (fun j hj => by rw [chB_self] at hj; cases hj), (fun _ => by rw [chN_self]; omega), fun h => absurd h h32⟩
      unfold suitB
      rw [if_pos (by omega)]
      exact decide_eq_true ⟨h4.1, h2⟩
    · exfalso
      obtain ⟨k, h1, h2, h3, _, _, h6⟩ := freeB_some (m := m) (c := 1) (by omega) (by omega)
      rw [show v / 64 = k by omega] at hst
      exact hst h3
theorem begun_large (I : m.Inv) (t : m.Tl) (hA : A.Ok) {x y z : Int} (hv : vldB x y z = true) {n : Nat} (hn : wdN x.toNat y.toNat = n) (h32 : 32 < n) (hne : n % 2 = 0) (h0 : (m.choose A n).1 ≠ 0) : Begun m (m.forM A.sp (m.choose A n).1 n) A.sp (m.choose A n).1 n x y z := by
  have hch : (m.choose A n).1 = m.freeB ((n + 63) / 64) := by unfold HM.choose; rw [if_pos h32]
  rw [hch] at h0 ⊢
  obtain ⟨c, hc⟩ : ∃ c, (n + 63) / 64 = c := ⟨_, rfl⟩
  rw [hc] at h0 ⊢
  obtain ⟨k, h1, h2, h3, h4, h5, h6⟩ := freeB_some (m := m) (c := c) (by omega) h0
  have hgood := (frun_all h4 h1).2
  rw [h6]
  obtain ⟨b, hb⟩ : ∃ b, k + 1 - c = b := ⟨_, rfl⟩
  rw [hb] at hgood ⊢
  have hvb : b * 64 / 64 = b := by omega
  unfold HM.forM
  rw [if_pos h32, hvb, hc]
  obtain ⟨g1, g2, g3, g4, g5, g6⟩ := claim_free I (b := b) (n := c) (s := A.sp) (st := 2) (by omega) (by omega) (by omega) (fun i hi => hgood i hi) hA.sp (.inr rfl)
  have hlen : (m.claimM (b : Int) (c : Int) (A.sp : Int) 2).bl.length = m.bl.length := by rw [g3, claimL_length]
  refine ⟨g1, g2, hlen, ?_, by rw [hvb, g5 b, if_pos ⟨Nat.le_refl _, by omega⟩], by omega, fun j hj => ?_, fun h => absurd h32 (by omega), fun _ => ?_⟩
  · refine place_of hv hn (room_zero (by omega) hne ?_ ?_ (fun w h7 h8 => ?_))
    · unfold HM.n; rw [hlen]; omega
    · unfold suitB
      rw [if_neg (by omega), hvb]
      refine decide_eq_true ⟨?_, by omega, ?_⟩
      · have := g4 b
        rw [if_pos rfl] at this
        exact this
      · have hg : grpEnd (m.claimM (b : Int) (c : Int) (A.sp : Int) 2).bl b = b + c := by
          refine (grpEnd_iff _ b (b + c) (by rw [hlen]; omega)).2 ⟨by omega, by rw [hlen]; omega, fun i h9 h10 => ?_, fun h9 => ?_⟩
          · have := g4 i
            rw [if_neg (by omega), if_pos ⟨by omega, by omega⟩] at this
            exact this
          · have h11 := g4 (b + c)
            rw [if_neg (by omega), if_neg (by omega)] at h11
            intro h12
            have h13 : m.st (b + c) = 3 := h11 ▸ h12
            have h14 := t (b + c - 1)
            rw [show b + c - 1 + 1 = b + c by omega] at h14
            have h15 := hgood (c - 1) (by omega)
            rw [show b + (c - 1) = b + c - 1 by omega] at h15
            have := h14 h13
            omega
        rw [hg]
        omega
    · have hown : (m.claimM (b : Int) (c : Int) (A.sp : Int) 2).own w = m.own w := by unfold HM.own; rw [g1]
      rw [hown]
      refine own_free I ?_
      have := hgood (w / 64 - b) (by omega)
      rw [show b + (w / 64 - b) = w / 64 by omega] at this
      exact this
  · rw [g6 j] at hj
    have hj2 := of_decide_eq_true hj
    have := hgood (j - b) (by omega)
    rw [show b + (j - b) = j by omega] at this
    exact ⟨this, by rw [g5 j, if_pos hj2]⟩
  · rw [chN_range g6]; omega
end
end Go.Proofs.YtmkmnlmfpddjkaaGreat
/-
  Plain mathematics: the lists of objects and of states before and after Alloc; cursors stay even. Conditions: those that stand in each theorem.
-/
namespace Go.Proofs.YtmkmnlmfpddjkaaGreat
set_option linter.unusedVariables false
set_option linter.unusedSimpArgs false
open Go.RowKit Go.Deep Go.Maps

/-- One object more, at an address; t is its number. -/
structure Ins (m m2 : HM) (v t : Nat) : Prop where
  len : m2.allL.length = m.allL.length + 1
  ht : t ≤ m.allL.length
  at_ : m2.allL.getD t 0 = (v : Int)
  lo : ∀ j, j < t → m2.allL.getD j 0 = m.allL.getD j 0 ∧ m2.allL.getD j 0 ≠ (v : Int) ∧ m2.idN j = m.idN j
  hi : ∀ j, t ≤ j → j < m.allL.length → m2.allL.getD (j + 1) 0 = m.allL.getD j 0 ∧ m2.allL.getD (j + 1) 0 ≠ (v : Int) ∧ m2.idN (j + 1) = m.idN j
theorem fpL_same {m m2 : HM} {v : Nat} (h : ∀ x, x ≠ v → m2.ob x = m.ob x) {u : Nat} (hv : v = 2 * u) : ∀ N, N ≤ u → fpL m2 0 N = fpL m 0 N := by
  intro N
  induction N with
  | zero => intro _; rfl
  | succ N ih =>
    intro hN
    unfold fpL
    rw [ih (by omega), h (2 * (0 + N)) (by omega)]
theorem fpL_ins {m m2 : HM} {v : Nat} (h : ∀ x, x ≠ v → m2.ob x = m.ob x) (h0 : m.ob v = none) (h1 : (m2.ob v).isSome = true) {u : Nat} (hv : v = 2 * u) : ∀ N, u < N → ∃ D, fpL m 0 N = fpL m 0 u ++ D ∧ fpL m2 0 N = fpL m 0 u ++ ((v : Nat) : Int) :: D := by
  intro N
  induction N with
  | zero => intro h; omega
  | succ N ih =>
    intro hN
    by_cases hu : N = u
    · subst hu
      refine ⟨[], ?_, ?_⟩
      · rw [show fpL m 0 (N + 1) = fpL m 0 N by rw [fpL, show 2 * (0 + N) = v by omega, h0, if_neg (by simp)], List.append_nil]
      · rw [show fpL m2 0 (N + 1) = fpL m2 0 N ++ [((v : Nat) : Int)] by rw [fpL, show 2 * (0 + N) = v by omega, if_pos h1], fpL_same h hv N (Nat.le_refl _)]
    · obtain ⟨D, h2, h3⟩ := ih (by omega)
      have e : m2.ob (2 * (0 + N)) = m.ob (2 * (0 + N)) := h _ (by omega)
      by_cases hs : (m.ob (2 * (0 + N))).isSome = true
      · refine ⟨D ++ [((2 * (0 + N) : Nat) : Int)], ?_, ?_⟩
        · rw [show fpL m 0 (N + 1) = fpL m 0 N ++ [((2 * (0 + N) : Nat) : Int)] by rw [fpL, if_pos hs], h2, List.append_assoc]
        · rw [show fpL m2 0 (N + 1) = fpL m2 0 N ++ [((2 * (0 + N) : Nat) : Int)] by rw [fpL, e, if_pos hs], h3, List.append_assoc, List.cons_append]
      · refine ⟨D, ?_, ?_⟩
        · rw [show fpL m 0 (N + 1) = fpL m 0 N by rw [fpL, if_neg hs], h2]
        · rw [show fpL m2 0 (N + 1) = fpL m2 0 N by rw [fpL, e, if_neg hs], h3]
theorem getD_app (a : List Int) (b : List Int) (j : Nat) : (a ++ b).getD j 0 = if j < a.length then a.getD j 0 else b.getD (j - a.length) 0 := by
  simp only [List.getD_eq_getElem?_getD]
  by_cases h : j < a.length
  · rw [if_pos h, List.getElem?_append_left h]
  · rw [if_neg h, List.getElem?_append_right (by omega)]
theorem ins_of {m m2 : HM} {v : Nat} (I : m.Inv) (hl : m2.bl.length = m.bl.length) (hev : v % 2 = 0) (hlt : v < m.n) (h : ∀ x, x ≠ v → m2.ob x = m.ob x) (h0 : m.ob v = none) (h1 : (m2.ob v).isSome = true) : ∃ t, Ins m m2 v t := by
  obtain ⟨u, hu⟩ : ∃ u, v = 2 * u := ⟨v / 2, by omega⟩
  unfold HM.n at hlt
  obtain ⟨D, h2, h3⟩ := fpL_ins h h0 h1 hu (32 * m.bl.length) (by omega)
  have a1 : m.allL = fpL m 0 u ++ D := h2
  have a2 : m2.allL = fpL m 0 u ++ ((v : Nat) : Int) :: D := by unfold HM.allL; rw [hl]; exact h3
  have hne : ∀ j, j < m.allL.length → m.allL.getD j 0 ≠ (v : Int) := fun j hj hh => by
    obtain ⟨a, o, h4, h5⟩ := all_at hj
    rw [hh] at h4
    have : a = v := by omega
    subst this
    rw [h0] at h5
    cases h5
  have hid : ∀ i j, m2.allL.getD i 0 = m.allL.getD j 0 → j < m.allL.length → m2.idN i = m.idN j := fun i j he hj => by
    unfold HM.idN
    rw [he]
    obtain ⟨a, o, h4, h5⟩ := all_at hj
    have h6 := hne j hj
    rw [h4, Int.toNat_natCast] at *
    rw [h a (fun e => h6 (by rw [e]))]
  have e1 : m.allL.length = (fpL m 0 u).length + D.length := by rw [a1, List.length_append]
  refine ⟨(fpL m 0 u).length, ⟨?_, by omega, ?_, fun j hj => ?_, fun j hj1 hj2 => ?_⟩⟩
  · rw [a2, List.length_append, List.length_cons, e1]; omega
  · rw [a2, getD_app, if_neg (by omega), Nat.sub_self]; rfl
  · have e : m2.allL.getD j 0 = m.allL.getD j 0 := by rw [a1, a2, getD_app, getD_app, if_pos hj, if_pos hj]
    exact ⟨e, by rw [e]; exact hne j (by omega), hid j j e (by omega)⟩
  · have e : m2.allL.getD (j + 1) 0 = m.allL.getD j 0 := by
      rw [a1, a2, getD_app, getD_app, if_neg (by omega), if_neg (by omega), show j + 1 - (fpL m 0 u).length = (j - (fpL m 0 u).length) + 1 by omega]
      rfl
    exact ⟨e, by rw [e]; exact hne j hj2, hid (j + 1) j e hj2⟩
theorem objsL_at (m : HM) : ∀ k j, j < k → (objsL m k).getD (2 * j) 0 = m.allL.getD j 0 ∧ (objsL m k).getD (2 * j + 1) 0 = (m.idN j : Int) := by
  intro k
  induction k with
  | zero => intro j h; omega
  | succ k ih =>
    intro j hj
    unfold objsL
    rw [getD_app, getD_app, objsL_len]
    by_cases hk : j < k
    · rw [if_pos (by omega), if_pos (by omega)]; exact ih j hk
    · obtain rfl : j = k := by omega
      rw [if_neg (by omega), if_neg (by omega), Nat.sub_self, show 2 * j + 1 - 2 * j = 1 by omega]
      exact ⟨rfl, rfl⟩
theorem stsL_at (m : HM) : ∀ k j, j < k → (stsL m k).getD (2 * j) 0 = (m.st j : Int) ∧ (stsL m k).getD (2 * j + 1) 0 = (m.sp j : Int) := by
  intro k
  induction k with
  | zero => intro j h; omega
  | succ k ih =>
    intro j hj
    unfold stsL
    rw [getD_app, getD_app, stsL_len]
    by_cases hk : j < k
    · rw [if_pos (by omega), if_pos (by omega)]; exact ih j hk
    · obtain rfl : j = k := by omega
      rw [if_neg (by omega), if_neg (by omega), Nat.sub_self, show 2 * j + 1 - 2 * j = 1 by omega]
      exact ⟨rfl, rfl⟩
/-- What Alloc leaves when it places an object. -/
structure Grown (m m2 : HM) (s v n : Nat) (x y z : Int) : Prop where
  ins : ∃ t, Ins m m2 v t
  born : m2.born = m.born + 1
  ob : ∃ o, m2.ob v = some o ∧ o.id = m.born + 1 ∧ (o.refs : Int) = x ∧ (o.data : Int) = y ∧ (o.kind : Int) = z
  len : m2.bl.length = m.bl.length
  sp : m2.sp (v / 64) = s
  blk : v / 64 < m.bl.length
  ch : ∀ j, chB m m2 j = true → m.st j = 0 ∧ m2.sp j = s
  few : n ≤ 32 → chN m m2 m.bl.length ≤ 1
  all : 32 < n → chN m m2 m.bl.length = (n + 63) / 64
theorem chB_bl {m m1 m2 : HM} (h : m2.bl = m1.bl) (j : Nat) : chB m m2 j = chB m m1 j := by unfold chB HM.st HM.sp; rw [h]
theorem chN_bl {m m1 m2 : HM} (h : m2.bl = m1.bl) : ∀ k, chN m m2 k = chN m m1 k := by
  intro k
  induction k with
  | zero => rfl
  | succ k ih => unfold chN; rw [ih, chB_bl h]
theorem grown_of {m m1 : HM} {s v n : Nat} {x y z : Int} (I : m.Inv) (hv : vldB x y z = true) (hn : wdN x.toNat y.toNat = n) (hn2 : 2 ≤ n) (B : Begun m m1 s v n x y z) : Grown m (m1.placeM (v : Int) x y z) s v n x y z := by
  have hM : m1.placeM (v : Int) x y z = m1.bear.add v (m1.newOb x y z) := by unfold HM.placeM; rw [if_pos B.E, Int.toNat_natCast]
  have hE := B.E
  unfold HM.placeE at hE
  rw [if_pos hv, hn] at hE
  obtain ⟨k, h1, h2, h3, _, h5⟩ := roomE_zero hE
  have hkv : k = v := by omega
  subst hkv
  have h6 : m1.own k = 0 := by
    have := tkB_false.1 h5 0 (by omega)
    simpa using this
  have h0 : m.ob k = none := by
    rcases hob : m.ob k with _ | o
    · rfl
    · exfalso
      have h7 : m.own k = k := own_cov I hob (Nat.le_refl _) (by have := (I.ok _ _ hob).wd_bd; omega)
      have h8 : m1.own k = m.own k := by unfold HM.own; rw [B.ob]
      have h9 := I.lo hob
      omega
  rw [hM]
  have hb : (m1.bear.add k (m1.newOb x y z)).bl = m1.bl := rfl
  have hob : ∀ w, (m1.bear.add k (m1.newOb x y z)).ob w = if w = k then some (m1.newOb x y z) else m1.ob w := fun w => rfl
  obtain ⟨a, c, d, rfl, rfl, rfl, _⟩ := vldB_nat hv
  refine ⟨ins_of I (by rw [hb]; exact B.len) h2 (by unfold HM.n at h3 ⊢; rw [← B.len]; exact h3) (fun w hw => by rw [hob, if_neg hw, B.ob]) h0 (by rw [hob, if_pos rfl]; rfl), ?_, ⟨_, by rw [hob, if_pos rfl], ?_, ?_, ?_, ?_⟩, B.len, B.sp, B.blk, fun j hj => ?_, fun h => ?_, fun h => ?_⟩
  · show m1.born + 1 = m.born + 1
    rw [B.born]
  · show m1.born + 1 = m.born + 1
    rw [B.born]
  · show ((a : Int).toNat : Int) = a
    rw [Int.toNat_natCast]
  · show ((c : Int).toNat : Int) = c
    rw [Int.toNat_natCast]
  · show ((d : Int).toNat : Int) = d
    rw [Int.toNat_natCast]
  · rw [chB_bl hb] at hj
    exact B.ch j hj
  · rw [chN_bl hb]; exact B.few h
  · rw [chN_bl hb]; exact B.all h
section
variable {m : HM} {A : AS}
theorem wdN_even (a b : Nat) : wdN a b % 2 = 0 ∧ 2 ≤ wdN a b := by unfold wdN; omega
theorem grown_alloc (I : m.Inv) (t : m.Tl) (hA : A.Ok) (hE : A.Ev) {x y z : Int} (h : m.alE A x y z = 0) : vldB x y z = true ∧ Grown m (m.alM A x y z) A.sp (m.alV A x y z) (wdN x.toNat y.toNat) x y z := by
  obtain ⟨h1, h2, h3, _⟩ := al_valid h
  have hw := wdN_even x.toNat y.toNat
  refine ⟨h1, ?_⟩
  have hM : m.alM A x y z = (m.forM A.sp (m.alV A x y z) (wdN x.toNat y.toNat)).placeM (m.alV A x y z : Int) x y z := by unfold HM.alM; rw [if_pos h]
  rw [hM, h3]
  by_cases h32 : 32 < wdN x.toNat y.toNat
  · exact grown_of I h1 rfl hw.2 (begun_large I t hA h1 rfl h32 hw.1 h2)
  · exact grown_of I h1 rfl hw.2 (begun_small I hA hE h1 rfl h32 hw.2 hw.1 h2)
theorem bump_next {s c l n : Nat} (h : (m.bumpA s (c, l) n).1 ≠ 0) : (m.bumpA s (c, l) n).2.1 = (m.bumpA s (c, l) n).1 + n := by
  unfold HM.bumpA at h ⊢
  by_cases hf : fitA (c, l) n = true
  · rw [if_pos hf] at h ⊢
    by_cases hg : m.isGapB s c n = true
    · rw [if_pos hg]; rfl
    · rw [if_neg hg] at h; exact absurd rfl h
  · rw [if_neg hf]; rfl
theorem alA_ev (I : m.Inv) (hA : A.Ok) (hE : A.Ev) (x y z : Int) : (m.alA A x y z).Ev := by
  by_cases h : m.alE A x y z = 0
  · obtain ⟨h1, h2, _, h4⟩ := al_valid h
    have hw := wdN_even x.toNat y.toNat
    rw [h4]
    generalize wdN x.toNat y.toNat = n at h2 hw ⊢
    by_cases h32 : 32 < n
    · unfold HM.choose; rw [if_pos h32]; exact hE
    · obtain ⟨hev, _⟩ := small_cases I hE (by omega) h32 h2 hA.po
      unfold HM.choose at h2 hev ⊢
      rw [if_neg h32] at h2 hev ⊢
      split
      · exact hE
      split
      · exact hE
      split
      · rename_i g0 g1 g2
        rw [if_neg g0, if_neg g1, if_pos g2] at hev
        exact ⟨by show (_ + n) % 2 = 0; simp only at hev; omega, hE.2⟩
      split
      · rename_i g0 g1 g2 g3
        rw [if_neg g0, if_neg g1, if_neg g2, if_pos g3] at hev h2
        exact ⟨by show (m.bumpA A.sp (A.c, A.l) n).2.1 % 2 = 0; rw [bump_next h2]; simp only at hev; omega, hE.2⟩
      split
      · rename_i g0 g1 g2 g3 g4
        rw [if_neg g0, if_neg g1, if_neg g2, if_neg g3, if_pos g4] at hev h2
        exact ⟨by show (m.bumpA A.sp (A.c, A.l) n).2.1 % 2 = 0; rw [bump_next h2]; simp only at hev; omega, hE.2⟩
      split
      · rename_i g0 g1 g2 g3 g4 g5
        rw [if_neg g0, if_neg g1, if_neg g2, if_neg g3, if_neg g4, if_pos g5] at hev h2
        exact ⟨hE.1, by show (m.bumpA A.sp (A.oc, A.ol) n).2.1 % 2 = 0; rw [bump_next h2]; simp only at hev; omega⟩
      · rename_i g0 g1 g2 g3 g4 g5
        rw [if_neg g0, if_neg g1, if_neg g2, if_neg g3, if_neg g4, if_neg g5] at hev
        exact ⟨by show ((m.holeA A.sp A.l).1 + n) % 2 = 0; have : (m.holeA A.sp A.l).1 % 2 = 0 := hev; omega, hE.2⟩
  · unfold HM.alA; rw [if_neg h]; exact hE
theorem pqP_ev (I : m.Inv) (hA : A.Ok) (hE : A.Ev) (n1 k a s x y z : Int) : (pqP m A n1 k a s x y z).2.Ev := by
  unfold pqP
  split
  · exact alA_ev I hA hE x y z
  split
  · exact hE
  split
  · exact ⟨rfl, rfl⟩
  repeat' split
  all_goals exact hE
end
end Go.Proofs.YtmkmnlmfpddjkaaGreat
/-
  The law's made once more, with cursors that are even. Conditions: those that stand in each theorem.
-/
namespace Go.Proofs.YtmkmnlmfpddjkaaGreat
set_option linter.unusedVariables false
set_option linter.unusedSimpArgs false
open Go.RowKit Go.Deep Go.Maps

section
variable {w W V : World} {b : HB} {m m' m2 : HM} {q p q2 p2 g g' gb : Nat} {A A' A2 : AS}
def MadeE (w : World) (n s p : Nat) (e : Ending) (w' : World) : Prop := ∃ b q m g A, e = .returned (.tuple #[.pointer (some ⟨b.g, 0, none⟩), .pointer (some ⟨g, 0, none⟩)]) ∧ LV w w' b q m g A ∧ q ≤ 100 ∧ m.Tl ∧ A.Ev ∧ A.sp = s ∧ A.po = p
set_option maxRecDepth 100000 in
set_option maxHeartbeats 2000000 in
theorem made_goodE (n s p : Nat) (Ad : Option Addr) (len cap : Nat) (hg : ¬ 80 < len) (h : 2 ≤ n ∧ n ≤ 12) (hs : s < 8) (hp : p < 5) (hA : QActs w Ad len) :
    Calls Tryz.prog 27 #[.int .i64 (n : Int), .int .i64 (s : Int), .int .i64 (p : Int), .slice Ad len cap] w (MadeE w n s p) := by
  have HG : Hid (decide (80 < len) = false) := decide_eq_false hg
  have HB := hid h
  have HF : Hid ((decide ((n : Int) ≤ 12) || decide (64 < (n : Int))) = true) := by show _ = _; simp; omega
  have HA := hid hA
  have hlen : len ≤ 80 := by omega
  clear hg h hA
  go_enter Tryz.func27, Tryz.ntmps27
  go_wp2_with (first
    | (go_at_call 12; refine (LH.start (w := w) n _ HB.out.1 (by have := HB.out; omega) (Kp.refl [] w)).mono ?_; rintro e w1 ⟨b1, rfl, U1⟩)
    | (go_at_call 18; refine (q_great _ _ _ _ HG.out).mono ?_; rintro e w2 ⟨rfl, K2⟩; have HU2 := hid (U1.step' K2); clear K2)
    | (go_at_call 19; refine (few_k _ _ HF).mono ?_; rintro e w3 ⟨rfl, K3⟩; have HU3 := hid (HU2.out.step' K3); clear K3)
    | (go_at_call 21; refine (HU3.out.new s p hs hp).mono ?_; rintro e w4 ⟨g1, rfl, U4⟩; have HU4 := hid U4; clear U4)
    | (go_at_call 13; refine (d_new_ok n _ HB.out.1 (by have := HB.out; omega)).mono ?_; rintro e w5 ⟨dd, rfl, T5, K5, N5⟩; have HT5 := hid T5; have HK5 := hid K5; have HN5 := hid N5; clear T5 K5 N5)
    | (go_at_call 22; refine (r_new HT5.out s p hs hp).mono ?_; rintro e w6 ⟨g2, rfl, R6, hg6, K6⟩; have HR6 := hid R6; have HG6 := hid hg6; have HK6 := hid K6; clear R6 hg6 K6))
  have HP : Hid (PQ w w6 b1 0 (HM.new n) g1 (AS.new s p) dd 0 (HM.new n) g2 (AS.new s p)) := by
    have hs4 := HU4.out.kp.size
    have hs5 := HK5.out.size
    have hg6 := HG6.out
    have hgl := Blk.lt HU4.out.al
    exact ⟨HU4.out.step' (HK5.out.chain HK6.out), HT5.out.kp0 HK6.out, HR6.out, AS.new_ok hs hp, Tl.new n,
      fun x hx => ⟨by have := HN5.out x hx; omega, fun hm => by have := HU4.out.sh.lt x hm; have := HN5.out x hx; omega, fun he => by have := HN5.out x hx; omega⟩,
      ⟨by omega, fun hm => by have := HT5.out.lt _ hm; omega, fun hm => by have := HU4.out.sh.lt _ hm; omega, by omega⟩⟩
  clear HU2 HU3 HU4 HT5 HK5 HN5 HR6 HG6 HK6 U1
  go_loopw [18] (fun c wr => ∃ (i : Nat) (m : HM) (A : AS) (d : DB) (m' : HM) (A' : AS), i ≤ len ∧ c = .int .i64 (i : Int) ∧ d.g = dd.g ∧ PQ w wr b1 i m g1 A d i m' g2 A' ∧ m.Tl ∧ (A.Ev ∧ A.sp = s ∧ A.po = p)) (fun c _ => len - (intOf c).toNat)
  case atStart => exact ⟨0, _, _, dd, _, _, by omega, rfl, rfl, HP.out, Tl.new n, ⟨rfl, rfl⟩, rfl, rfl⟩
  case round =>
    clear HP
    rename World => w8
    obtain ⟨i, m, A, d, m', A', hi, rfl, hdg, P, htl, hR⟩ := hrel
    have HTL := hid htl
    have HRC := hid hR
    have HDG := hid hdg
    have HP := hid P
    clear htl hR hdg P
    by_cases hlt : i < len
    · have hlt2 : decide ((i : Int) < (len : Int)) = true := decide_eq_true (by omega)
      have hltn : decide (i < len) = true := decide_eq_true hlt
      obtain ⟨ga, oa, y, hya, rfl, c0, c1, c2, c3, c4, c5⟩ := HA.out.kp0 HP.out.v.kp i hlt
      have HYA := hid hya
      have HOB := hid (oneV_bd HP.out.t.inv y.a)
      clear hya
      have HCA : Hid (Calls Tryz.prog 25 #[.pointer (some ⟨b1.g, 0, none⟩), .pointer (some ⟨g1, 0, none⟩), .pointer (some ⟨dd.g, 0, none⟩), .pointer (some ⟨g2, 0, none⟩), .agg #[.int .i64 y.k, .int .i64 y.a, .int .i64 y.s, .int .i64 y.x, .int .i64 y.y, .int .i64 y.z]] w8 (PlQ w b1 i g1 d i g2 (pqP m A (m'.oneV y.a) y.k y.a y.s y.x y.y y.z).1 (pqP m A (m'.oneV y.a) y.k y.a y.s y.x y.y y.z).2 (pqD m' A' (m'.oneV y.a) y.k y.a y.s y.x y.y y.z).1 (pqD m' A' (m'.oneV y.a) y.k y.a y.s y.x y.y y.z).2 (pqB m A m' A' (m'.oneV y.a) y.k y.a y.s y.x y.y y.z))) := by
        rw [← HDG.out]
        exact play_q HP.out y.k y.a y.s y.x y.y y.z HYA.out (by omega) (by omega)
      go_wp2_with (go_at_call 25; refine HCA.out.mono ?_; rintro e w9 ⟨rfl, d9, hg9, P9⟩; have HP9 := hid P9; have HG9 := hid hg9; clear P9 hg9)
      go_roundw
      case rel => exact ⟨i + 1, _, _, d9, _, _, by omega, by go_num, HG9.out.trans HDG.out, HP9.out, pqP_tl HTL.out _ _ _ _ _ _ _, pqP_ev HP.out.v.sh.inv HP.out.v.ok HRC.out.1 _ _ _ _ _ _ _, (pqP_sp _ _ _ _ _ _ _ _ _).1.trans HRC.out.2.1, (pqP_sp _ _ _ _ _ _ _ _ _).2.trans HRC.out.2.2⟩
      case measure => simp [intOf]; omega
    · obtain rfl : i = len := by omega
      have hlt2 : decide ((i : Int) < (i : Int)) = false := decide_eq_false (by omega)
      have hltn : decide (i < i) = false := decide_eq_false (by omega)
      go_wp2
      go_ret2
      exact ⟨b1, i, m, g1, A, rfl, HP.out.v, by omega, HTL.out, HRC.out⟩
theorem made_anyE (n s p : Int) (Ad : Option Addr) (len cap : Nat) (hA : QActs w Ad len) :
    Calls Tryz.prog 27 #[.int .i64 n, .int .i64 s, .int .i64 p, .slice Ad len cap] w (fun e w' => NoneQ w e w' ∨ ∃ n' s' p' : Nat, n = (n' : Int) ∧ s = (s' : Int) ∧ p = (p' : Int) ∧ 2 ≤ n' ∧ n' ≤ 12 ∧ s' < 8 ∧ p' < 5 ∧ MadeE w n' s' p' e w') := by
  by_cases hg : 80 < len
  · exact (made_great n s p Ad len cap hg).mono fun e w' h => .inl h
  by_cases hn : 2 ≤ n ∧ n ≤ 12
  · obtain ⟨k, rfl⟩ : ∃ k : Nat, n = (k : Int) := ⟨n.toNat, by omega⟩
    by_cases hsp : 0 ≤ s ∧ s < 8 ∧ 0 ≤ p ∧ p < 5
    · obtain ⟨s', rfl⟩ : ∃ k : Nat, s = (k : Int) := ⟨s.toNat, by omega⟩
      obtain ⟨p', rfl⟩ : ∃ k : Nat, p = (k : Int) := ⟨p.toNat, by omega⟩
      exact (made_goodE k s' p' Ad len cap hg (by omega) (by omega) (by omega) hA).mono fun e w' h => .inr ⟨k, s', p', rfl, rfl, rfl, by omega, by omega, by omega, by omega, h⟩
    · exact (made_bad k s p Ad len cap hg (by omega) hsp).mono fun e w' h => .inl h
  · exact (made_out n s p Ad len cap hg hn).mono fun e w' h => .inl h
end
end Go.Proofs.YtmkmnlmfpddjkaaGreat
/-
  The law AllocPlaced, walked. Conditions: those that stand in each theorem.
-/
namespace Go.Proofs.YtmkmnlmfpddjkaaGreat
set_option linter.unusedVariables false
set_option linter.unusedSimpArgs false
open Go.RowKit Go.Deep Go.Maps

theorem alV_zero {m : HM} {A : AS} {x y z : Int} (h : m.alE A x y z ≠ 0) : m.alV A x y z = 0 ∧ m.alM A x y z = m ∧ m.alA A x y z = A := by
  rcases alE_cases (m := m) (A := A) x y z with h1 | ⟨_, h2, h3⟩
  · exact absurd h1 h
  · refine ⟨?_, h3, h2⟩
    unfold HM.alV
    split
    · rename_i hv
      unfold HM.alE at h
      rw [if_pos hv] at h
      split at h
      · assumption
      · exact absurd rfl h
    · rfl
section
variable {w W V w0 : World} {b : HB} {m m2 : HM} {q g B : Nat} {A : AS}
theorem FarI.cellz {Ad : Option Addr} {n cap : Nat} {zs : List Int} (h : FarI W B (.slice Ad n cap) zs) : ∀ i, i < zs.length → ∃ g, Ad = some ⟨g, 0, none⟩ ∧ W.cell? ⟨g, i, none⟩ = some (.int .i64 (zs.getD i 0)) := by
  obtain ⟨A', c', e, _, _, hA⟩ := h
  injection e with e1 e2 e3
  subst e1
  intro i hi
  obtain ⟨g, h1, _, h2⟩ := hA i hi
  exact ⟨g, h1, h2⟩
theorem rows_obj {Ad : Option Addr} {n cap : Nat} (h : FarI W B (.slice Ad n cap) (objsL m m.allL.length)) (j : Nat) (hj : j < m.allL.length) : ∃ g, Ad = some ⟨g, 0, none⟩ ∧ W.cell? ⟨g, 2 * j, none⟩ = some (.int .i64 (m.allL.getD j 0)) ∧ W.cell? ⟨g, 2 * j + 1, none⟩ = some (.int .i64 (m.idN j : Int)) := by
  have hl := objsL_len m m.allL.length
  obtain ⟨h1, h2⟩ := objsL_at m m.allL.length j hj
  obtain ⟨g, h3, h4⟩ := h.cellz (2 * j) (by omega)
  obtain ⟨g', h5, h6⟩ := h.cellz (2 * j + 1) (by omega)
  rw [h3] at h5
  injection h5 with h5
  injection h5 with h5
  subst h5
  rw [h1] at h4
  rw [h2] at h6
  exact ⟨g, h3, h4, h6⟩
theorem rows_sts {Ad : Option Addr} {n cap : Nat} (h : FarI W B (.slice Ad n cap) (stsL m m.bl.length)) (j : Nat) (hj : j < m.bl.length) : ∃ g, Ad = some ⟨g, 0, none⟩ ∧ W.cell? ⟨g, 2 * j, none⟩ = some (.int .i64 (m.st j : Int)) ∧ W.cell? ⟨g, 2 * j + 1, none⟩ = some (.int .i64 (m.sp j : Int)) := by
  have hl := stsL_len m m.bl.length
  obtain ⟨h1, h2⟩ := stsL_at m m.bl.length j hj
  obtain ⟨g, h3, h4⟩ := h.cellz (2 * j) (by omega)
  obtain ⟨g', h5, h6⟩ := h.cellz (2 * j + 1) (by omega)
  rw [h3] at h5
  injection h5 with h5
  injection h5 with h5
  subst h5
  rw [h1] at h4
  rw [h2] at h6
  exact ⟨g, h3, h4, h6⟩
theorem chN_le (m m2 : HM) : ∀ k, chN m m2 k ≤ k := by
  intro k
  induction k with
  | zero => exact Nat.le_refl _
  | succ k ih => unfold chN; split <;> omega
theorem objects_k (U : LV w0 W b q m g A) :
    Calls Tryz.prog 28 #[.pointer (some ⟨b.g, 0, none⟩)] W fun e w' => ∃ (Ad : Option Addr) (cap : Nat), e = .returned (.slice Ad (objsL m m.allL.length).length cap) ∧ FarI w' W.heap.size (.slice Ad (objsL m m.allL.length).length cap) (objsL m m.allL.length) ∧ LV w0 w' b q m g A ∧ Kp [] W w' := by
  refine (l_objects U.sh).mono ?_
  rintro e w' ⟨v, rfl, own, bel⟩
  have F := FarI.of_own own
  obtain ⟨Ad, cap, rfl, h1, h2, h3⟩ := F
  exact ⟨Ad, cap, rfl, ⟨Ad, cap, rfl, h1, h2, h3⟩, U.step' (Kp.of_below bel), Kp.of_below bel⟩
theorem states_k (U : LV w0 W b q m g A) :
    Calls Tryz.prog 29 #[.pointer (some ⟨b.g, 0, none⟩)] W fun e w' => ∃ (Ad : Option Addr) (cap : Nat), e = .returned (.slice Ad (stsL m m.bl.length).length cap) ∧ FarI w' W.heap.size (.slice Ad (stsL m m.bl.length).length cap) (stsL m m.bl.length) ∧ LV w0 w' b q m g A ∧ Kp [] W w' := by
  refine (l_states U.sh).mono ?_
  rintro e w' ⟨v, rfl, own, bel⟩
  have F := FarI.of_own own
  obtain ⟨Ad, cap, rfl, h1, h2, h3⟩ := F
  exact ⟨Ad, cap, rfl, ⟨Ad, cap, rfl, h1, h2, h3⟩, U.step' (Kp.of_below bel), Kp.of_below bel⟩
theorem births_k (U : LV w0 W b q m g A) :
    Calls Tryz.prog 30 #[.pointer (some ⟨b.g, 0, none⟩)] W fun e w' => e = .returned (.int .i64 (m.born : Int)) ∧ LV w0 w' b q m g A ∧ Kp [] W w' := by
  refine (h_births U.sh).mono ?_
  rintro e w' ⟨rfl, n, rfl⟩
  exact ⟨rfl, U.step' (Kp.draw _ _), Kp.draw _ _⟩
theorem ident_k (U : LV w0 W b q m g A) {v i : Nat} {ob : Ob} (h : m.ob v = some ob) (hi : ob.id = i) :
    Calls Tryz.prog 34 #[.pointer (some ⟨b.g, 0, none⟩), .int .i64 (v : Int)] W fun e w' => e = .returned (.tuple #[.int .i64 (i : Int), .int .i64 0]) ∧ LV w0 w' b q m g A ∧ Kp [] W w' := by
  refine (h_ident_ob U.sh h).mono ?_
  rintro e w' ⟨rfl, n, rfl⟩
  rw [hi]
  exact ⟨rfl, U.step' (Kp.draw _ _), Kp.draw _ _⟩
theorem shape_k (U : LV w0 W b q m g A) {v : Nat} {ob : Ob} (h : m.ob v = some ob) {x y z : Int} (hx : (ob.refs : Int) = x) (hy : (ob.data : Int) = y) (hz : (ob.kind : Int) = z) :
    Calls Tryz.prog 35 #[.pointer (some ⟨b.g, 0, none⟩), .int .i64 (v : Int)] W fun e w' => e = .returned (.tuple #[.agg #[.int .i64 x, .int .i64 y, .int .i64 z], .int .i64 0]) ∧ LV w0 w' b q m g A ∧ Kp [] W w' := by
  refine (h_shape_ob U.sh h).mono ?_
  rintro e w' ⟨rfl, K⟩
  rw [hx, hy, hz]
  exact ⟨rfl, U.step' K, K⟩
theorem space_k (U : LV w0 W b q m g A) {i : Int} {s : Nat} (h : (if inB m.bl.length i then (m.sp i.toNat : Int) else -1) = (s : Int)) :
    Calls Tryz.prog 36 #[.pointer (some ⟨b.g, 0, none⟩), .int .i64 i] W fun e w' => e = .returned (.int .i64 (s : Int)) ∧ LV w0 w' b q m g A ∧ Kp [] W w' := by
  refine (sp_k U.sh i h).mono ?_
  rintro e w' ⟨rfl, K⟩
  exact ⟨rfl, U.step' K, K⟩
set_option maxRecDepth 100000 in
set_option maxHeartbeats 4000000 in
theorem placed_ok (n s p : Int) (Ad : Option Addr) (len cap : Nat) (hA : QActs w Ad len) (x y z : Int) :
    Calls Tryz.prog 5 #[.int .i64 n, .int .i64 s, .int .i64 p, .slice Ad len cap, .agg #[.int .i64 x, .int .i64 y, .int .i64 z]] w (TrueP w) := by
  have HQA := hid (hA.kp0 (Kp.new w (.cells #[.int .i64 x, .int .i64 y, .int .i64 z] 33)))
  have hb := Blk.new w 33 #[.int .i64 x, .int .i64 y, .int .i64 z]
  have b0 := hb.cell 0
  have b1 := hb.cell 1
  have b2 := hb.cell 2
  have HK0 := hid (Kp.new w (.cells #[.int .i64 x, .int .i64 y, .int .i64 z] 33))
  clear hA hb
  go_enter Tryz.func5, Tryz.ntmps5
  go_wp2_with (fail)
  generalize w.alloc (.cells #[.int .i64 x, .int .i64 y, .int .i64 z] 33) = w0 at HQA b0 b1 b2 HK0 ⊢
  generalize w.heap.size = gb at b0 b1 b2 ⊢
  refine (made_anyE n s p Ad len cap HQA.out).mono ?_
  rintro e w1 (⟨rfl, K1⟩ | ⟨n', s', p', rfl, rfl, rfl, _, _, _, _, b, q, m, g, A, rfl, U1, hq, htl, hev, hsp, hpo⟩)
  · have HK1 := hid K1
    clear K1
    go_wp2_with (go_at_call 20; refine (al_alive_q HK1.out).mono ?_; rintro e wa ⟨rfl, Ka⟩; have HKA := hid (HK0.out.chain Ka); clear Ka)
    go_ret
    exact ⟨rfl, HKA.out⟩
  have HU1 := hid U1
  have HTL := hid htl
  have HEVN := hid hev
  have HSP := hid hsp
  have B0 := hid b0
  have B1 := hid b1
  have B2 := hid b2
  have c0 := cell_kp U1.kp b0
  have c1 := cell_kp U1.kp b1
  have c2 := cell_kp U1.kp b2
  have hq9 : q ≤ 900000000 := by omega
  clear U1 htl hev hsp hpo b0 b1 b2
  obtain ⟨ev, hev⟩ : ∃ r, m.alE A x y z = r := ⟨_, rfl⟩
  obtain ⟨av, hav⟩ : ∃ r, m.alV A x y z = r := ⟨_, rfl⟩
  obtain ⟨m2, hm2⟩ : ∃ r, m.alM A x y z = r := ⟨_, rfl⟩
  obtain ⟨A2, hA2⟩ : ∃ r, m.alA A x y z = r := ⟨_, rfl⟩
  have HEV := hid hev
  have HAV := hid hav
  have HM2 := hid hm2
  have HA2 := hid hA2
  have HINV := hid HU1.out.sh.inv
  have hborn : m.born ≤ 1000 := by
    obtain ⟨r, R, Ab, h1, h2⟩ := HU1.out.sh
    have := Ab.born
    omega
  have hal := all_le HU1.out.sh.inv
  have hl64 := HU1.out.sh.inv.len64
  by_cases hz : ev = 0
  · have te : (ev != 0) = false := by simp [hz]
    obtain ⟨hvld, G⟩ := grown_alloc HU1.out.sh.inv HTL.out HU1.out.ok HEVN.out (hev.trans hz)
    rw [HSP.out, HAV.out, HM2.out] at G
    obtain ⟨wn, hw⟩ : ∃ r, wdN x.toNat y.toNat = r := ⟨_, rfl⟩
    rw [hw] at G
    have hwi : wordsI x y z = (wn : Int) := by unfold wordsI; rw [if_pos hvld, hw]
    have hwb : wn ≤ 218 := by
      obtain ⟨nn, h1, h2, h3, _⟩ := wordsI_nat x y z
      have := h3 hvld
      omega
    have HW := hid hwi
    obtain ⟨⟨t, hins⟩, hbrn, ⟨ob, hob, hid1, hox, hoy, hoz⟩, hlen2, hsp2, hblk, hch, hfew, hall⟩ := G
    have HINS := hid hins
    have HOB := hid hob
    have HID := hid hid1
    have HBRN := hid hbrn
    have HOX := hid hox
    have HOY := hid hoy
    have HOZ := hid hoz
    have HL2 := hid hlen2
    have HCH := hid hch
    have HFEW := hid hfew
    have HALL := hid hall
    obtain ⟨k1, hk1⟩ : ∃ r, av / 64 = r := ⟨_, rfl⟩
    rw [hk1] at hsp2 hblk
    have d3 : Int.tdiv (av : Int) 64 = (k1 : Int) := by rw [Int.tdiv_eq_ediv_of_nonneg (by omega)]; omega
    have hk64 : k1 ≤ 64 := by omega
    have v3 : IntKind.i64.wrap (k1 : Int) = (k1 : Int) := by rw [IntKind.wrap_i64]; omega
    have HSPV : Hid ((if inB m2.bl.length (k1 : Int) then (m2.sp (k1 : Int).toNat : Int) else -1) = (s' : Int)) := by
      show _ = _
      rw [spV_eq, if_pos (by rw [hlen2]; exact hblk), hsp2]
    have HSP2 := hid hsp2
    have htb : t ≤ 2048 := by have := hins.ht; omega
    have tw : wrap64 (((objsL m m.allL.length).length : Int) + 2) = ((objsL m m.allL.length).length : Int) + 2 := IntWalk.wrap64_in _ ⟨by omega, by rw [objsL_len]; omega⟩
    have tne : (((objsL m2 m2.allL.length).length : Int) != ((objsL m m.allL.length).length : Int) + 2) = false := by rw [objsL_len, objsL_len, hins.len]; simp; omega
    clear hev hav hm2 hA2 hz hvld hw hwi hins hbrn hob hid1 hox hoy hoz hlen2 hsp2 hblk hch hfew hall hk1
    go_wp2_with (first
      | (go_at_call 28; refine (objects_k HU6.out).mono ?_; rintro e w7 ⟨An, cn, rfl, F7, U7, K7⟩; have HF7 := hid F7; have HG2a := hid (HG2.out.kp0 K7); have HG3a := hid (HG3.out.kp0 K7); have HU7 := hid U7; clear F7 U7 K7)
      | (go_at_call 28; refine (objects_k HU1.out).mono ?_; rintro e w2 ⟨Ao, co, rfl, F2, U2, K2⟩; have HF2 := hid F2; have HU2 := hid U2; clear F2 U2 K2)
      | (go_at_call 29; refine (states_k HU7.out).mono ?_; rintro e w8 ⟨At, ct, rfl, F8, U8, K8⟩; have HF8 := hid F8; have HF7b := hid (HF7.out.kp0 K8); have HG2b := hid (HG2a.out.kp0 K8); have HG3b := hid (HG3a.out.kp0 K8); have HU8 := hid U8; clear F8 U8 K8)
      | (go_at_call 29; refine (states_k HU2.out).mono ?_; rintro e w3 ⟨As, cs, rfl, F3, U3, K3⟩; have HF3 := hid F3; have HF2' := hid (HF2.out.kp0 K3); have HU3 := hid U3; clear F3 U3 K3)
      | (go_at_call 30; refine (births_k (HX1.out.step' (Kp.new x1 (.cells #[.int .i64 x, .int .i64 y, .int .i64 z] 33)))).mono ?_; rintro e x2 ⟨rfl, U, K⟩; rw [HBRN.out]; have HX2 := hid U; have HKX2 := hid ((HKX1.out.chain (Kp.new x1 (.cells #[.int .i64 x, .int .i64 y, .int .i64 z] 33))).chain K); have q0 := cell_kp U.kp B0.out; have q1 := cell_kp U.kp B1.out; have q2 := cell_kp U.kp B2.out; have s0 := cell_kp K ((Blk.new x1 33 #[.int .i64 x, .int .i64 y, .int .i64 z]).cell 0); have s1 := cell_kp K ((Blk.new x1 33 #[.int .i64 x, .int .i64 y, .int .i64 z]).cell 1); have s2 := cell_kp K ((Blk.new x1 33 #[.int .i64 x, .int .i64 y, .int .i64 z]).cell 2); clear U K)
      | (go_at_call 30; refine (births_k HU3.out).mono ?_; rintro e w4 ⟨rfl, U4, K4⟩; have HU4 := hid U4; have HK4 := hid K4; clear U4 K4)
      | (go_at_call 31; refine (cursor_k HU4.out).mono ?_; rintro e w5 ⟨rfl, K5⟩; have HU5 := hid (HU4.out.step' K5); have HK5 := hid K5; have o0 := cell_kp HU5.out.kp B0.out; have o1 := cell_kp HU5.out.kp B1.out; have o2 := cell_kp HU5.out.kp B2.out; clear K5)
      | (go_at_call 32; refine (alloc_k HU5.out x y z hq9).mono ?_; rintro e w6 ⟨rfl, U6, K6⟩; rw [HEV.out, HAV.out]; rw [HM2.out, HA2.out] at U6; have HU6 := hid U6; have HG2 := hid ((HF2'.out.kp0 (HK4.out.chain HK5.out)).kpn K6 (fun x hx => HU1.out.bl x hx)); have HG3 := hid ((HF3.out.kp0 (HK4.out.chain HK5.out)).kpn K6 (fun x hx => HU2.out.bl x hx)); clear U6 K6)
      | (go_at_call 34; refine (ident_k HU8.out HOB.out HID.out).mono ?_; rintro e w9 ⟨rfl, U9, K9⟩; have HU9 := hid U9; have HK9 := hid K9; clear U9 K9)
      | (go_at_call 35; refine (shape_k HU9.out HOB.out HOX.out HOY.out HOZ.out).mono ?_; rintro e x1 ⟨rfl, U, K⟩; have HX1 := hid U; have HKX1 := hid (HK9.out.chain K); clear U K)
      | (go_at_call 36; refine (space_k HX2.out HSPV.out).mono ?_; rintro e x3 ⟨rfl, U, K⟩; have HX3 := hid U; have HKX3 := hid (HKX2.out.chain K); clear U K))
    have HNOW : Hid (∀ j, j < m.allL.length + 1 → ∃ g, An = some ⟨g, 0, none⟩ ∧ x3.cell? ⟨g, 2 * j, none⟩ = some (.int .i64 (m2.allL.getD j 0)) ∧ x3.cell? ⟨g, 2 * j + 1, none⟩ = some (.int .i64 (m2.idN j : Int))) := fun j hj => rows_obj (HF7b.out.kp0 HKX3.out) j (by rw [HINS.out.len]; exact hj)
    have HOLD : Hid (∀ j, j < m.allL.length → ∃ g, Ao = some ⟨g, 0, none⟩ ∧ x3.cell? ⟨g, 2 * j, none⟩ = some (.int .i64 (m.allL.getD j 0)) ∧ x3.cell? ⟨g, 2 * j + 1, none⟩ = some (.int .i64 (m.idN j : Int))) := fun j hj => rows_obj (HG2b.out.kp0 HKX3.out) j hj
    have HSTA : Hid (∀ j, j < m.bl.length → ∃ g, At = some ⟨g, 0, none⟩ ∧ x3.cell? ⟨g, 2 * j, none⟩ = some (.int .i64 (m2.st j : Int)) ∧ x3.cell? ⟨g, 2 * j + 1, none⟩ = some (.int .i64 (m2.sp j : Int))) := fun j hj => rows_sts (HF8.out.kp0 HKX3.out) j (by rw [HL2.out]; exact hj)
    have HSTB : Hid (∀ j, j < m.bl.length → ∃ g, As = some ⟨g, 0, none⟩ ∧ x3.cell? ⟨g, 2 * j, none⟩ = some (.int .i64 (m.st j : Int)) ∧ x3.cell? ⟨g, 2 * j + 1, none⟩ = some (.int .i64 (m.sp j : Int))) := fun j hj => rows_sts (HG3b.out.kp0 HKX3.out) j hj
    have hla : (objsL m2 m2.allL.length).length = 2 * (m.allL.length + 1) := by rw [objsL_len, HINS.out.len]
    have hlb : (objsL m m.allL.length).length = 2 * m.allL.length := objsL_len _ _
    have hlc : (stsL m2 m2.bl.length).length = 2 * m.bl.length := by rw [stsL_len, HL2.out]
    have hld : (stsL m m.bl.length).length = 2 * m.bl.length := stsL_len _ _
    clear HF7b HG2b HG3b HF8 HF2 HF3 HF2' HG2 HG3 HG2a HG3a HF7 tw tne
    generalize (objsL m2 m2.allL.length).length = la at hla ⊢
    generalize (objsL m m.allL.length).length = lb at hlb ⊢
    generalize (stsL m2 m2.bl.length).length = lc at hlc ⊢
    generalize (stsL m m.bl.length).length = ld at hld ⊢
    have HTB : Hid (t ≤ m.allL.length) := HINS.out.ht
    have HLA := hid hla
    have HLB := hid hlb
    have HLC := hid hlc
    have HLD := hid hld
    have hlab : la ≤ 4100 := by omega
    have hlbb : lb ≤ 4100 := by omega
    have hlcb : lc ≤ 128 := by omega
    have hldb : ld ≤ 128 := by omega
    clear hla hlb hlc hld
    go_loopw [32, 33] (fun at_ c wr => ∃ j k i0 k0 : Nat, Hid (i0 = 2 * j) ∧ Hid (k0 = 2 * k) ∧ j ≤ m.allL.length + 1 ∧ c = .int .i64 (i0 : Int) ∧ at_ = .int .i64 (k0 : Int) ∧ Hid ((j ≤ t ∧ k = j) ∨ (t < j ∧ k + 1 = j)) ∧ Kp [] x3 wr) (fun _ c _ => la - (intOf c).toNat)
    case atStart => exact ⟨0, 0, 0, 0, rfl, rfl, by omega, rfl, rfl, .inl ⟨by omega, rfl⟩, Kp.refl _ _⟩
    case round =>
      rename World => wr
      obtain ⟨j, k, i0, k0, hi0, hk0, hj, rfl, rfl, hjk, K⟩ := hrel
      have HI0 := hid hi0.out
      have HK0' := hid hk0.out
      have HJK := hid hjk.out
      have HK := hid K
      clear hi0 hk0 hjk K
      have hib : i0 ≤ 4100 := by have := HI0.out; omega
      by_cases hlt : j < m.allL.length + 1
      · have hil : i0 < la := by have := HI0.out; have := HLA.out; omega
        have tl : decide ((i0 : Int) < (la : Int)) = true := decide_eq_true (by omega)
        have tln : decide (i0 < la) = true := decide_eq_true hil
        have hil1 : i0 + 1 < la := by have := HI0.out; have := HLA.out; omega
        obtain ⟨gn, rfl, s0, s1⟩ := HNOW.out j hlt
        rw [← HI0.out] at s0 s1
        have t0 := cell_kp HK.out s0
        have t1 := cell_kp HK.out s1
        by_cases hjt : j = t
        · have hx : m2.allL.getD j 0 = (av : Int) := by rw [hjt]; exact HINS.out.at_
          rw [hx] at t0
          have HJ2 : Hid ((j + 1 ≤ t ∧ k = j + 1) ∨ (t < j + 1 ∧ k + 1 = j + 1)) := by
            rcases HJK.out with h | h
            · exact .inr ⟨by omega, by omega⟩
            · omega
          clear hx s0 s1 t1 hjt
          go_wp2
          go_roundw
          case rel => exact ⟨j + 1, k, i0 + 2, k0, (by show _ = _; have := HI0.out; omega), HK0'.out, by omega, by go_num, rfl, HJ2.out, HK.out⟩
          case measure => simp [intOf] <;> omega
        · have hkl : k < m.allL.length := by
            have := HTB.out
            rcases HJK.out with h | h <;> omega
          have hkb : k0 ≤ 4100 := by have := HK0'.out; omega
          have hkl0 : k0 < lb := by have := HK0'.out; have := HLB.out; omega
          have hkl1 : k0 + 1 < lb := by have := HK0'.out; have := HLB.out; omega
          obtain ⟨go', rfl, r0, r1⟩ := HOLD.out k hkl
          rw [← HK0'.out] at r0 r1
          have u0 := cell_kp HK.out r0
          have u1 := cell_kp HK.out r1
          obtain ⟨e1, e2, e3⟩ : m2.allL.getD j 0 = m.allL.getD k 0 ∧ m2.allL.getD j 0 ≠ (av : Int) ∧ m2.idN j = m.idN k := by
            rcases HJK.out with ⟨h1, h2⟩ | ⟨h1, h2⟩
            · have := HINS.out.lo j (by omega)
              rw [h2]; exact this
            · have := HINS.out.hi k (by omega) hkl
              rw [h2] at this; exact this
          rw [e1] at t0 e2
          rw [e3] at t1
          obtain ⟨xv, hxv⟩ : ∃ r, m.allL.getD k 0 = r := ⟨_, rfl⟩
          obtain ⟨yv, hyv⟩ : ∃ r, (m.idN k : Int) = r := ⟨_, rfl⟩
          rw [hxv] at t0 u0 e2
          rw [hyv] at t1 u1
          have tx : (xv == (av : Int)) = false := beq_eq_false_iff_ne.2 e2
          have HJ2 : Hid ((j + 1 ≤ t ∧ k + 1 = j + 1) ∨ (t < j + 1 ∧ k + 1 + 1 = j + 1)) := by
            rcases HJK.out with ⟨h1, h2⟩ | ⟨h1, h2⟩
            · exact .inl ⟨by omega, by omega⟩
            · exact .inr ⟨by omega, by omega⟩
          clear e1 e2 e3 hxv hyv s0 s1 r0 r1 hjt hkl
          go_wp2
          go_quiet (fail)
          go_wp2
          go_roundw
          case rel => exact ⟨j + 1, k + 1, i0 + 2, k0 + 2, (by show _ = _; have := HI0.out; omega), (by show _ = _; have := HK0'.out; omega), by omega, by go_num, by go_num, HJ2.out, HK.out.chain (Kp.draw _ _)⟩
          case measure => simp [intOf] <;> omega
      · have hil : ¬ i0 < la := by have := HI0.out; have := HLA.out; omega
        have tl : decide ((i0 : Int) < (la : Int)) = false := decide_eq_false (by omega)
        have tln : decide (i0 < la) = false := decide_eq_false hil
        have HKW := hid HK.out
        clear HK HNOW HOLD
        go_wp2
        go_loopw [34, 35] (fun ch c wr => ∃ j i0 : Nat, Hid (i0 = 2 * j) ∧ j ≤ m.bl.length ∧ c = .int .i64 (i0 : Int) ∧ ch = .int .i64 (chN m m2 j : Int) ∧ Kp [] x3 wr) (fun _ c _ => lc - (intOf c).toNat)
        case atStart => exact ⟨0, 0, rfl, by omega, rfl, rfl, HKW.out⟩
        case round =>
          rename World => ws
          obtain ⟨j, i0, hi0, hj, rfl, rfl, K⟩ := hrel
          have HI0 := hid hi0.out
          have HK := hid K
          have hcb := chN_le m m2 j
          clear hi0 K
          obtain ⟨cv, hcv⟩ : ∃ r, chN m m2 j = r := ⟨_, rfl⟩
          rw [hcv] at hcb ⊢
          have HCV := hid hcv
          clear hcv
          have hib : i0 ≤ 128 := by have := HI0.out; omega
          by_cases hlt : j < m.bl.length
          · have hil : i0 < lc := by have := HI0.out; have := HLC.out; omega
            have tl : decide ((i0 : Int) < (lc : Int)) = true := decide_eq_true (by omega)
            have tln : decide (i0 < lc) = true := decide_eq_true hil
            have hil1 : i0 + 1 < lc := by have := HI0.out; have := HLC.out; omega
            have hil2 : i0 < ld := by have := HI0.out; have := HLD.out; omega
            have hil3 : i0 + 1 < ld := by have := HI0.out; have := HLD.out; omega
            obtain ⟨gn, rfl, s0, s1⟩ := HSTA.out j hlt
            obtain ⟨go', rfl, r0, r1⟩ := HSTB.out j hlt
            rw [← HI0.out] at s0 s1 r0 r1
            have t0 := cell_kp HK.out s0
            have t1 := cell_kp HK.out s1
            have u0 := cell_kp HK.out r0
            have u1 := cell_kp HK.out r1
            obtain ⟨a1, ha1⟩ : ∃ r, m2.st j = r := ⟨_, rfl⟩
            obtain ⟨a2, ha2⟩ : ∃ r, m2.sp j = r := ⟨_, rfl⟩
            obtain ⟨c1, hc1⟩ : ∃ r, m.st j = r := ⟨_, rfl⟩
            obtain ⟨c2, hc2⟩ : ∃ r, m.sp j = r := ⟨_, rfl⟩
            have hchd : chB m m2 j = decide (a1 ≠ c1 ∨ a2 ≠ c2) := by unfold chB; rw [ha1, ha2, hc1, hc2]
            have hstep : chN m m2 (j + 1) = cv + (if chB m m2 j = true then 1 else 0) := by show chN m m2 j + _ = _; rw [HCV.out]
            have hchj := HCH.out j
            rw [hc1, ha2] at hchj
            rw [ha1] at t0
            rw [ha2] at t1
            rw [hc1] at u0
            rw [hc2] at u1
            rw [hchd] at hchj hstep
            clear s0 s1 r0 r1 ha1 ha2 hc1 hc2 hchd
            by_cases h1 : a1 = c1
            · subst h1
              by_cases h2 : a2 = c2
              · subst h2
                have HST : Hid (chN m m2 (j + 1) = cv) := by show _ = _; rw [hstep]; simp
                clear hchj hstep
                go_wp2
                go_quiet (fail)
                go_wp2
                go_roundw
                case rel => exact ⟨j + 1, i0 + 2, (by show _ = _; have := HI0.out; omega), by omega, by go_num, by rw [HST.out], HK.out.chain (Kp.draw _ _)⟩
                case measure => simp [intOf] <;> omega
              · have tc2 : ((a2 : Int) != (c2 : Int)) = true := bne_iff_ne.2 (by omega)
                have tc2n : (a2 != c2) = true := bne_iff_ne.2 h2
                obtain ⟨g1, g2⟩ := hchj (decide_eq_true (.inr h2))
                subst g1 g2
                have HST : Hid (chN m m2 (j + 1) = cv + 1) := by show _ = _; rw [hstep, if_pos (decide_eq_true (.inr h2))]
                clear hchj hstep h2
                go_wp2
                go_quiet (fail)
                go_wp2
                go_roundw
                case rel => exact ⟨j + 1, i0 + 2, (by show _ = _; have := HI0.out; omega), by omega, by go_num, by rw [HST.out]; rfl, HK.out.chain (Kp.draw _ _)⟩
                case measure => simp [intOf] <;> omega
            · have tc1 : ((a1 : Int) != (c1 : Int)) = true := bne_iff_ne.2 (by omega)
              have tc1n : (a1 != c1) = true := bne_iff_ne.2 h1
              obtain ⟨g1, g2⟩ := hchj (decide_eq_true (.inl h1))
              subst g1 g2
              have tc0 : ((a1 : Int) != 0) = true := bne_iff_ne.2 (by omega)
              have tc0n : (a1 != 0) = true := bne_iff_ne.2 h1
              have HST : Hid (chN m m2 (j + 1) = cv + 1) := by show _ = _; rw [hstep, if_pos (decide_eq_true (.inl h1))]
              clear hchj hstep h1
              go_wp2
              go_quiet (fail)
              go_wp2
              go_roundw
              case rel => exact ⟨j + 1, i0 + 2, (by show _ = _; have := HI0.out; omega), by omega, by go_num, by rw [HST.out]; rfl, HK.out.chain (Kp.draw _ _)⟩
              case measure => simp [intOf] <;> omega
          · obtain rfl : j = m.bl.length := by omega
            have hil : ¬ i0 < lc := by have := HI0.out; have := HLC.out; omega
            have tl : decide ((i0 : Int) < (lc : Int)) = false := decide_eq_false (by omega)
            have tln : decide (i0 < lc) = false := decide_eq_false hil
            have p0 := cell_kp ((HX3.out.kp).chain HK.out) B0.out
            have p1 := cell_kp ((HX3.out.kp).chain HK.out) B1.out
            have p2 := cell_kp ((HX3.out.kp).chain HK.out) B2.out
            by_cases h32 : 32 < wn
            · have t32 : decide ((32 : Int) < (wn : Int)) = true := decide_eq_true (by omega)
              have t32n : decide (32 < wn) = true := decide_eq_true h32
              have hcn := HALL.out h32
              rw [HCV.out] at hcn
              have td : Int.tdiv ((wn : Int) + 64 - 1) 64 = (cv : Int) := by rw [Int.tdiv_eq_ediv_of_nonneg (by omega)]; omega
              have tv : IntKind.i64.wrap (cv : Int) = (cv : Int) := by rw [IntKind.wrap_i64]; omega
              clear hcn
              go_wp2_with (first
                | (go_at_call 37; refine (words_k HY1.out HW.out).mono ?_; rintro e y2 ⟨rfl, U, K⟩; have HY2 := hid U; clear U K)
                | (go_at_call 37; refine (words_k (HX3.out.step' HK.out) HW.out).mono ?_; rintro e y1 ⟨rfl, U, K⟩; have HY1 := hid U; have a0 := cell_kp U.kp B0.out; have a1 := cell_kp U.kp B1.out; have a2 := cell_kp U.kp B2.out; clear U K)
                | (go_at_call 20; refine (al_alive_q HY2.out.kp).mono ?_; rintro e wa ⟨rfl, Ka⟩; have HKA := hid (HK0.out.chain Ka); clear Ka))
              go_ret
              exact ⟨rfl, HKA.out⟩
            · have t32 : decide ((32 : Int) < (wn : Int)) = false := decide_eq_false (by omega)
              have t32n : decide (32 < wn) = false := decide_eq_false h32
              have hcn := HFEW.out (by omega)
              rw [HCV.out] at hcn
              have tc : decide ((cv : Int) ≤ 1) = true := decide_eq_true (by omega)
              have tcn : decide (cv ≤ 1) = true := decide_eq_true hcn
              go_wp2_with (first
                | (go_at_call 37; refine (words_k (HX3.out.step' HK.out) HW.out).mono ?_; rintro e y1 ⟨rfl, U, K⟩; have HY1 := hid U; have a0 := cell_kp U.kp B0.out; have a1 := cell_kp U.kp B1.out; have a2 := cell_kp U.kp B2.out; clear U K)
                | (go_at_call 20; refine (al_alive_q HY1.out.kp).mono ?_; rintro e wa ⟨rfl, Ka⟩; have HKA := hid (HK0.out.chain Ka); clear Ka))
              go_ret
              exact ⟨rfl, HKA.out⟩
  · have te : (ev != 0) = true := bne_iff_ne.2 hz
    obtain ⟨e1, e2, e3⟩ := alV_zero (m := m) (A := A) (x := x) (y := y) (z := z) (by rw [hev]; exact hz)
    rw [hav] at e1
    rw [hm2] at e2
    rw [hA2] at e3
    subst e1 e2 e3
    clear hev hav hm2 hA2 hz
    go_wp2_with (first
      | (go_at_call 28; refine (objects_k HU6.out).mono ?_; rintro e w7 ⟨An, cn, rfl, F7, U7, K7⟩; have HF7 := hid F7; have HG2a := hid (HG2.out.kp0 K7); have HG3a := hid (HG3.out.kp0 K7); have HU7 := hid U7; clear F7 U7 K7)
      | (go_at_call 28; refine (objects_k HU1.out).mono ?_; rintro e w2 ⟨Ao, co, rfl, F2, U2, K2⟩; have HF2 := hid F2; have HU2 := hid U2; clear F2 U2 K2)
      | (go_at_call 29; refine (states_k HU7.out).mono ?_; rintro e w8 ⟨At, ct, rfl, F8, U8, K8⟩; have HF8 := hid F8; have HF7b := hid (HF7.out.kp0 K8); have HG2b := hid (HG2a.out.kp0 K8); have HG3b := hid (HG3a.out.kp0 K8); have HU8 := hid U8; clear F8 U8 K8)
      | (go_at_call 29; refine (states_k HU2.out).mono ?_; rintro e w3 ⟨As, cs, rfl, F3, U3, K3⟩; have HF3 := hid F3; have HF2' := hid (HF2.out.kp0 K3); have HU3 := hid U3; clear F3 U3 K3)
      | (go_at_call 30; refine (births_k HY2.out).mono ?_; rintro e y3 ⟨rfl, U, K⟩; have HY3 := hid U; clear U K)
      | (go_at_call 30; refine (births_k HU3.out).mono ?_; rintro e w4 ⟨rfl, U4, K4⟩; have HU4 := hid U4; have HK4 := hid K4; clear U4 K4)
      | (go_at_call 31; refine (cursor_k HU8.out).mono ?_; rintro e w9 ⟨rfl, K9⟩; have HU9 := hid (HU8.out.step' K9); have HK9 := hid K9; clear K9)
      | (go_at_call 31; refine (cursor_k HU4.out).mono ?_; rintro e w5 ⟨rfl, K5⟩; have HU5 := hid (HU4.out.step' K5); have HK5 := hid K5; have o0 := cell_kp HU5.out.kp B0.out; have o1 := cell_kp HU5.out.kp B1.out; have o2 := cell_kp HU5.out.kp B2.out; clear K5)
      | (go_at_call 32; refine (alloc_k HU5.out x y z hq9).mono ?_; rintro e w6 ⟨rfl, U6, K6⟩; rw [HEV.out, HAV.out]; rw [HM2.out, HA2.out] at U6; have HU6 := hid U6; have HG2 := hid ((HF2'.out.kp0 (HK4.out.chain HK5.out)).kpn K6 (fun x hx => HU1.out.bl x hx)); have HG3 := hid ((HF3.out.kp0 (HK4.out.chain HK5.out)).kpn K6 (fun x hx => HU2.out.bl x hx)); clear U6 K6)
      | (go_at_call 33; refine (l_same (HG3b.out.kp0 HKY.out) (HF8.out.kp0 HKY.out) (r := true) (decide_eq_true rfl)).mono ?_; rintro e y2 ⟨rfl, K⟩; have HY2 := hid (HY1.out.step' K); clear K)
      | (go_at_call 33; refine (l_same (HG2b.out.kp0 HK9.out) (HF7b.out.kp0 HK9.out) (r := true) (decide_eq_true rfl)).mono ?_; rintro e y1 ⟨rfl, K⟩; have HY1 := hid (HU9.out.step' K); have HKY := hid (HK9.out.chain K); clear K)
      | (go_at_call 20; refine (al_alive_q HY3.out.kp).mono ?_; rintro e wa ⟨rfl, Ka⟩; have HKA := hid (HK0.out.chain Ka); clear Ka))
    go_ret
    exact ⟨rfl, HKA.out⟩
end
end Go.Proofs.YtmkmnlmfpddjkaaGreat

