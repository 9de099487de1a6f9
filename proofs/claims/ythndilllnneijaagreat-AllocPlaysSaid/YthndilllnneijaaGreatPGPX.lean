/-
  The law AllocClones, walked. Conditions: those that stand in each theorem.
-/
import Derived.Test.YthndilllnneijaaGreatPGOL
import Derived.Test.YthndilllnneijaaGreatPG20
set_option linter.unusedSimpArgs false
set_option linter.unusedVariables false
namespace Go.Proofs.YthndilllnneijaaGreat
open Go.RowKit Go.Deep Go.Maps
section
variable {w W V : World} {b c : HB} {m m2 : HM} {q q2 g gc B B' : Nat} {A A2 : AS}
theorem LV.bl (U : LV w W b q m g A) : ∀ x ∈ g :: b.all, x < W.heap.size := fun x hx => by
 rcases List.mem_cons.1 hx with rfl | h
 · exact Blk.lt U.al
 · exact U.sh.lt x h
end
section
variable {w W V w0 : World} {b : HB} {m : HM} {q g B : Nat} {A : AS}
theorem full_inv {x y z : Int} (hv : vldB x y z = false) : m.alE A x y z = 2 := by unfold HM.alE; rw [hv]; rfl
theorem alE_of {x y z : Int} (hv : vldB x y z = true) {n : Nat} (hn : wdN x.toNat y.toNat = n) : m.alE A x y z = if (m.choose A n).1 = 0 then 6 else 0 := by unfold HM.alE; rw [if_pos hv, hn]
end
theorem sep_lt {L : List (Nat × Nat)} (hp : ∀ i, i < L.length → 1 ≤ (L.getD i (0, 0)).2) (hs : ∀ i, i + 1 < L.length → (L.getD i (0, 0)).1 + (L.getD i (0, 0)).2 < (L.getD (i + 1) (0, 0)).1) : ∀ d i, i + d + 1 < L.length → (L.getD i (0, 0)).1 < (L.getD (i + d + 1) (0, 0)).1 := by
 intro d
 induction d with
 | zero => intro i hi; have := hs i hi; simp only [Nat.add_zero]; omega
 | succ d ih =>
   intro i hi
   have h1 := ih i (by omega)
   have h2 := hs (i + d + 1) (by omega)
   have h3 : i + (d + 1) + 1 = i + d + 1 + 1 := by omega
   rw [h3]
   omega
section
variable {w W V w0 : World} {b : HB} {m : HM} {q g B : Nat} {A : AS}
end
theorem holN_free (L : List Bool) (i : Nat) : ∀ h ∈ holN L i, L.getD h.1 false = false := by
 induction i with
 | zero => intro h hh; cases hh
 | succ i ih =>
   intro h hh
   unfold holN at hh
   split at hh
   · exact ih h hh
   · rename_i ht
     have ht2 : L.getD i false = false := by simpa using ht
     split at hh
     · rename_i hp
       rcases List.mem_append.1 hh with h1 | h1
       · exact ih h (List.dropLast_subset _ h1)
       · rw [List.mem_singleton] at h1
         subst h1
         have hpos := holN_some hp.1 hp.2
         have hne : holN L i ≠ [] := by intro e; rw [e] at hpos; cases hpos
         have hl : (holN L i).getLastD (0, 0) = (holN L i).getLast hne := by
           rw [List.getLastD_eq_getLast?, List.getLast?_eq_some_getLast hne]
           rfl
         show L.getD ((holN L i).getLastD (0, 0)).1 false = false
         rw [hl]
         exact ih _ (List.getLast_mem hne)
     · rcases List.mem_append.1 hh with h1 | h1
       · exact ih h h1
       · rw [List.mem_singleton] at h1
         subst h1
         exact ht2
section
variable {w W V w0 : World} {b : HB} {m : HM} {q g B : Nat} {A : AS}
end
section
variable {m : HM} {A : AS}
theorem cv_st (I : m.Inv) {x : Nat} (h : m.cv x) : m.st (x / 64) ≠ 0 := by
 obtain ⟨a, o, h0, h1, h2⟩ := h
 have hs := I.lie a o h0
 have hb := suit_bd hs
 unfold suitB at hs
 split at hs
 · have hs2 := of_decide_eq_true hs
   have : x / 64 = a / 64 := by omega
   rw [this]
   unfold HM.st
   omega
 · have hs2 := of_decide_eq_true hs
   obtain ⟨g1, g2, g3⟩ := hs2
   by_cases hx : x / 64 = a / 64
   · rw [hx]; unfold HM.st; omega
   · have hg := (grpEnd_iff m.bl (a / 64) _ hb.1).1 rfl
     have := hg.2.2.1 (x / 64) (by omega) (by omega)
     unfold HM.st
     omega
theorem own_free (I : m.Inv) {x : Nat} (h : m.st (x / 64) = 0) : m.own x = 0 := own_gap (fun hc => cv_st I hc h)
def AS.Ev (A : AS) : Prop := A.c % 2 = 0 ∧ A.oc % 2 = 0
theorem rgL_ev (I : m.Inv) {s n : Nat} {a : Nat × Nat} (h : a ∈ rgL m s n) : a.1 % 2 = 0 := by
 unfold rgL at h
 obtain ⟨k, hk, ha⟩ := List.mem_flatMap.1 h
 obtain ⟨hk1, hk2⟩ := mem_blkS.1 hk
 have hk3 := of_decide_eq_true hk2
 obtain ⟨i, hi, rfl⟩ := List.getElem_of_mem ha
 have G := gapsAt I (ownS_lt hk2) hk3.1
 have := (G.ev i hi).1
 rw [List.getD_eq_getElem?_getD, List.getElem?_eq_getElem hi] at this
 exact this
def RoomAt (m : HM) (s v n : Nat) : Prop := ownS m s (v / 64) = true ∧ v % 64 + n ≤ 64 ∧ ∀ x, v ≤ x → x < v + n → m.own x = 0
theorem room_gap (I : m.Inv) {s v n : Nat} (hn : 1 ≤ n) {g : Nat × Nat} (hg : g ∈ rgL m s m.bl.length) (h1 : g.1 ≤ v) (h2 : v + n ≤ g.1 + g.2) : RoomAt m s v n := by
 unfold rgL at hg
 obtain ⟨k, hk, ha⟩ := List.mem_flatMap.1 hg
 obtain ⟨hk1, hk2⟩ := mem_blkS.1 hk
 have hk3 := of_decide_eq_true hk2
 obtain ⟨i, hi, rfl⟩ := List.getElem_of_mem ha
 have G := gapsAt I (ownS_lt hk2) hk3.1
 have e : (m.gapL (k : Int)).getD i (0, 0) = (m.gapL (k : Int))[i] := by rw [List.getD_eq_getElem?_getD, List.getElem?_eq_getElem hi]; rfl
 have hlo := G.lo i hi
 have hhi := G.hi i hi
 rw [e] at hlo hhi
 have hvk : v / 64 = k := by omega
 refine ⟨by rw [hvk]; exact hk2, by omega, fun x h3 h4 => G.free i hi x (by rw [e]; omega) (by rw [e]; omega)⟩
theorem room_isGap (I : m.Inv) {s v n : Nat} (hn : 1 ≤ n) (h : m.isGapB s v n = true) : RoomAt m s v n := by
 unfold HM.isGapB at h
 rw [Bool.and_eq_true, List.any_eq_true] at h
 obtain ⟨h1, g, hg, h2⟩ := h
 have h3 := of_decide_eq_true h2
 have hk := ownS_lt h1
 refine room_gap I hn (g := g) ?_ h3.1 h3.2
 unfold rgL
 exact List.mem_flatMap.2 ⟨v / 64, mem_blkS.2 ⟨hk, h1⟩, hg⟩
theorem low_room (I : m.Inv) {s f n : Nat} (hn : 1 ≤ n) (h : m.lowG s f n ≠ 0) : RoomAt m s (m.lowG s f n) n ∧ (f % 2 = 0 → m.lowG s f n % 2 = 0) := by
 unfold HM.lowG firstFit at h ⊢
 rw [ars_map, List.find?_map] at h ⊢
 rcases hf : (rgL m s m.bl.length).find? ((fun a => fitA a n) ∘ areaOf f) with _ | a
 · simp only [hf] at h; exact absurd rfl h
 · have h1 := List.find?_some hf
   have h2 := List.mem_of_find?_eq_some hf
   simp only [Function.comp] at h1
   unfold fitA areaOf at h1
   have h3 := of_decide_eq_true h1
   simp only at h3
   have hev := rgL_ev I h2
   show RoomAt m s (max a.1 f) n ∧ (f % 2 = 0 → max a.1 f % 2 = 0)
   refine ⟨room_gap I hn h2 (by omega) (by omega), fun hfe => ?_⟩
   rcases Nat.le_total a.1 f with hle | hle
   · rw [Nat.max_eq_right hle]; exact hfe
   · rw [Nat.max_eq_left hle]; exact hev
theorem least_room (I : m.Inv) {s n : Nat} (hn : 1 ≤ n) (h : m.leastG s n ≠ 0) : RoomAt m s (m.leastG s n) n ∧ m.leastG s n % 2 = 0 := by
 rcases leastG_spec I s n with ⟨h1, _⟩ | ⟨a, ha, h1, _, h2, _⟩
 · exact absurd h1 h
 · rw [h1]
   exact ⟨room_gap I hn ha (Nat.le_refl _) (by omega), rgL_ev I ha⟩
theorem hole_room (I : m.Inv) {s l n : Nat} (hn : 1 ≤ n) (h8 : n ≤ 8) {a : Nat × Nat} (ha : a ∈ holsL m s m.bl.length) : RoomAt m s a.1 n ∧ a.1 % 8 = 0 := by
 unfold holsL at ha
 obtain ⟨k, hk, ha⟩ := List.mem_flatMap.1 ha
 obtain ⟨hk1, hk2⟩ := mem_blkS.1 hk
 have hk3 := of_decide_eq_true hk2
 obtain ⟨h, hh, rfl⟩ := List.mem_map.1 ha
 have hb := holN_bd (m.lnL k) (m.lnL k).length h hh
 have hl8 : (m.lnL k).length = 8 := by simp [HM.lnL]
 have hfr := holN_free (m.lnL k) (m.lnL k).length h hh
 show RoomAt m s (k * 64 + h.1 * 8) n ∧ (k * 64 + h.1 * 8) % 8 = 0
 have q1 : (k * 64 + h.1 * 8) / 64 = k := by omega
 refine ⟨⟨by rw [q1]; exact hk2, by omega, fun x h3 h4 => ?_⟩, by omega⟩
 refine own_gap (fun hc => ?_)
 have := (lnL_iff I hk1 hk3.1 (i := h.1) (by omega)).2 ⟨x - (k * 64 + h.1 * 8), by omega, by rw [show k * 64 + h.1 * 8 + (x - (k * 64 + h.1 * 8)) = x by omega]; exact (own_ne I x).2 hc⟩
 rw [hfr] at this
 cases this
theorem small_cases (I : m.Inv) (hE : A.Ev) {n : Nat} (hn : 1 ≤ n) (h32 : ¬ 32 < n) (h : (m.choose A n).1 ≠ 0) (hpo : A.po < 5) : (m.choose A n).1 % 2 = 0 ∧ (RoomAt m A.sp (m.choose A n).1 n ∨ (m.choose A n).1 = m.freeB 1) := by
 have hfm := freeB_mod (m := m) (c := 1) (by omega)
 unfold HM.choose at h ⊢
 rw [if_neg h32] at h ⊢
 by_cases h0 : A.po = 0
 · rw [if_pos h0] at h ⊢
   simp only at h ⊢
   unfold orN at h ⊢
   by_cases hl : m.lowG A.sp 0 n = 0
   · rw [if_pos hl]; exact ⟨by omega, .inr rfl⟩
   · rw [if_neg hl]
     obtain ⟨h1, h2⟩ := low_room I hn hl
     exact ⟨h2 rfl, .inl h1⟩
 rw [if_neg h0] at h ⊢
 by_cases h1 : A.po = 1
 · rw [if_pos h1] at h ⊢
   simp only at h ⊢
   unfold orN at h ⊢
   by_cases hl : m.leastG A.sp n = 0
   · rw [if_pos hl]; exact ⟨by omega, .inr rfl⟩
   · rw [if_neg hl]
     obtain ⟨h1, h2⟩ := least_room I hn hl
     exact ⟨h2, .inl h1⟩
 rw [if_neg h1] at h ⊢
 by_cases h2 : A.po = 2
 · rw [if_pos h2] at h ⊢
   simp only at h ⊢
   unfold orN at h ⊢
   by_cases hl : m.lowG A.sp A.c n = 0
   · rw [if_pos hl] at h ⊢
     by_cases hl2 : m.lowG A.sp 0 n = 0
     · rw [if_pos hl2]; exact ⟨by omega, .inr rfl⟩
     · rw [if_neg hl2]
       obtain ⟨h1, h2⟩ := low_room I hn hl2
       exact ⟨h2 rfl, .inl h1⟩
   · rw [if_neg hl] at h ⊢
     rw [if_neg hl]
     obtain ⟨h1, h2⟩ := low_room I hn hl
     exact ⟨h2 hE.1, .inl h1⟩
 rw [if_neg h2] at h ⊢
 have bump : ∀ c l, c % 2 = 0 → (m.bumpA A.sp (c, l) n).1 ≠ 0 → (m.bumpA A.sp (c, l) n).1 % 2 = 0 ∧ (RoomAt m A.sp (m.bumpA A.sp (c, l) n).1 n ∨ (m.bumpA A.sp (c, l) n).1 = m.freeB 1) := by
   intro c l hc hb
   unfold HM.bumpA at hb ⊢
   by_cases hf : fitA (c, l) n = true
   · rw [if_pos hf] at hb ⊢
     by_cases hg : m.isGapB A.sp c n = true
     · simp only [hg, if_true] at hb ⊢
       exact ⟨hc, .inl (room_isGap I hn hg)⟩
     · simp only [hg] at hb
       exact absurd rfl hb
   · rw [if_neg hf]
     exact ⟨by show m.freeB 1 % 2 = 0; omega, .inr rfl⟩
 by_cases h3 : A.po = 3
 · rw [if_pos h3] at h ⊢
   exact bump A.c A.l hE.1 h
 rw [if_neg h3] at h ⊢
 by_cases h4 : A.c + n ≤ A.l
 · rw [if_pos h4] at h ⊢
   exact bump A.c A.l hE.1 h
 rw [if_neg h4] at h ⊢
 by_cases h5 : 8 < n
 · rw [if_pos h5] at h ⊢
   exact bump A.oc A.ol hE.2 h
 rw [if_neg h5] at h ⊢
 have e1 : (takeA (m.holeA A.sp A.l) n).1 = (m.holeA A.sp A.l).1 := rfl
 simp only [e1] at h ⊢
 unfold HM.holeA at h ⊢
 rcases hfd : (holsL m A.sp m.bl.length).find? (fun a => decide (A.l ≤ a.1)) with _ | a
 · simp only [hfd]
   exact ⟨by show m.freeB 1 % 2 = 0; omega, .inr rfl⟩
 · simp only [hfd]
   obtain ⟨g1, g2⟩ := hole_room I (l := A.l) hn (by omega) (List.mem_of_find?_eq_some hfd)
   exact ⟨by omega, .inl g1⟩
end
def chB (m m' : HM) (j : Nat) : Bool := decide (m'.st j ≠ m.st j ∨ m'.sp j ≠ m.sp j)
def chN (m m' : HM) : Nat → Nat
 | 0 => 0
 | j + 1 => chN m m' j + (if chB m m' j = true then 1 else 0)
structure Begun (m m' : HM) (s v n : Nat) (x y z : Int) : Prop where
 ob : m'.ob = m.ob
 born : m'.born = m.born
 len : m'.bl.length = m.bl.length
 E : m'.placeE (v : Int) x y z = 0
 sp : m'.sp (v / 64) = s
 blk : v / 64 < m.bl.length
 ch : ∀ j, chB m m' j = true → m.st j = 0 ∧ m'.sp j = s
 few : n ≤ 32 → chN m m' m.bl.length ≤ 1
 all : 32 < n → chN m m' m.bl.length = (n + 63) / 64
section
variable {m : HM} {A : AS}
theorem chB_self (m : HM) (j : Nat) : chB m m j = false := by unfold chB; simp
theorem chN_self (m : HM) : ∀ k, chN m m k = 0 := by
 intro k
 induction k with
 | zero => rfl
 | succ k ih => unfold chN; rw [ih, chB_self]; rfl
theorem chN_range {m m' : HM} {b n : Nat} (h : ∀ j, chB m m' j = decide (b ≤ j ∧ j < b + n)) : ∀ k, chN m m' k = min k (b + n) - min k b := by
 intro k
 induction k with
 | zero => simp [chN]
 | succ k ih =>
   unfold chN
   rw [ih, h k]
   by_cases hk : b ≤ k ∧ k < b + n
   · rw [decide_eq_true hk, if_pos rfl]; omega
   · rw [decide_eq_false hk, if_neg (by decide)]; omega
theorem room_zero {m : HM} {v n : Nat} (hev : v % 2 = 0) (hn : n % 2 = 0) (hlt : v < m.n) (hs : suitB m.bl v n = true) (hf : ∀ x, v ≤ x → x < v + n → m.own x = 0) : roomE m (v : Int) n 0 = 0 := by
 unfold roomE
 rw [if_pos ⟨by omega, by omega, by omega⟩, Int.toNat_natCast, if_pos hs]
 unfold tkE
 rw [if_neg]
 rw [Bool.not_eq_true, tkB_false]
 intro i hi
 exact .inl (hf _ (by omega) (by omega))
theorem place_of {m : HM} {v n : Nat} {x y z : Int} (hv : vldB x y z = true) (hn : wdN x.toNat y.toNat = n) (h : roomE m (v : Int) n 0 = 0) : m.placeE (v : Int) x y z = 0 := by
 unfold HM.placeE
 rw [if_pos hv, hn]
 exact h
theorem claim_free (I : m.Inv) {b n s st : Nat} (hb : 1 ≤ b) (hn : 1 ≤ n) (h : b + n ≤ m.bl.length) (hf : ∀ i, i < n → m.st (b + i) = 0) (hs : s < 8) (hst : st = 1 ∨ st = 2) :
   (m.claimM (b : Int) (n : Int) (s : Int) st).ob = m.ob ∧ (m.claimM (b : Int) (n : Int) (s : Int) st).born = m.born ∧ (m.claimM (b : Int) (n : Int) (s : Int) st).bl = claimL m.bl b n s st ∧ (∀ j, (m.claimM (b : Int) (n : Int) (s : Int) st).st j = if j = b then st else if b ≤ j ∧ j < b + n then 3 else m.st j) ∧ (∀ j, (m.claimM (b : Int) (n : Int) (s : Int) st).sp j = if b ≤ j ∧ j < b + n then s else m.sp j) ∧ ∀ j, chB m (m.claimM (b : Int) (n : Int) (s : Int) st) j = decide (b ≤ j ∧ j < b + n) := by
 have hE : m.claimE (b : Int) (n : Int) (s : Int) = 0 := by
   unfold HM.claimE claimOk
   have h1 : blkB m.bl.length (b : Int) = true := decide_eq_true ⟨by omega, by omega⟩
   have h2 : spcB (s : Int) = true := decide_eq_true ⟨by omega, by omega⟩
   have h3 : decide (1 ≤ (n : Int) ∧ (n : Int) ≤ (m.bl.length : Int) - (b : Int)) = true := decide_eq_true ⟨by omega, by omega⟩
   rw [h1, h2, h3]
   simp only [Bool.and_self, if_true]
   unfold takenE
   rw [Int.toNat_natCast, Int.toNat_natCast, if_pos (freeB_true.2 hf)]
 have hM : m.claimM (b : Int) (n : Int) (s : Int) st = m.setBl (claimL m.bl b n s st) := by
   unfold HM.claimM
   rw [if_pos hE, Int.toNat_natCast, Int.toNat_natCast, Int.toNat_natCast]
 have G := fun j => claimL_get (bl := m.bl) (s := s) (st := st) hn h j
 have hS : ∀ j, (m.claimM (b : Int) (n : Int) (s : Int) st).st j = if j = b then st else if b ≤ j ∧ j < b + n then 3 else m.st j := fun j => by
   rw [hM]
   show ((claimL m.bl b n s st).getD j (0, 0)).1 = _
   rw [G j]
   split
   · rfl
   · split <;> rfl
 have hP : ∀ j, (m.claimM (b : Int) (n : Int) (s : Int) st).sp j = if b ≤ j ∧ j < b + n then s else m.sp j := fun j => by
   rw [hM]
   show ((claimL m.bl b n s st).getD j (0, 0)).2 = _
   rw [G j]
   split
   · rename_i hj; rw [if_pos (by omega)]
   · split
     · rename_i hj; first | rw [if_pos hj] | rfl
     · rename_i hj; first | rw [if_neg hj] | rfl
     <;> rfl
 refine ⟨by rw [hM]; rfl, by rw [hM]; rfl, by rw [hM]; rfl, hS, hP, fun j => ?_⟩
 unfold chB
 rw [hS j, hP j]
 by_cases hj : b ≤ j ∧ j < b + n
 · rw [decide_eq_true hj]
   have h0 := hf (j - b) (by omega)
   rw [show b + (j - b) = j by omega] at h0
   refine decide_eq_true (.inl ?_)
   rw [h0]
   split
   · omega
   · first | (rw [if_pos hj]; decide) | decide
 · rw [decide_eq_false hj]
   refine decide_eq_false ?_
   rw [if_neg (by omega), if_neg hj, if_neg hj]
   simp
theorem begun_large (I : m.Inv) (t : m.Tl) (hA : A.Ok) {x y z : Int} (hv : vldB x y z = true) {n : Nat} (hn : wdN x.toNat y.toNat = n) (h32 : 32 < n) (hne : n % 2 = 0) (h0 : (m.choose A n).1 ≠ 0) : Begun m (m.forM A.sp (m.choose A n).1 n) A.sp (m.choose A n).1 n x y z := by
 have hch : (m.choose A n).1 = m.freeB ((n + 63) / 64) := by unfold HM.choose; rw [if_pos h32]
 rw [hch] at h0 ⊢
 obtain ⟨c, hc⟩ : ∃ c, (n + 63) / 64 = c := ⟨_, rfl⟩
 rw [hc] at h0 ⊢
 obtain ⟨k, h1, h2, h3, h4, h5, h6⟩ := freeB_some (m := m) (c := c) (by omega) h0
 have hgood := (frun_all h4 h1).2
 rw [h6]
 obtain ⟨b, hb⟩ : ∃ b, k + 1 - c = b := ⟨_, rfl⟩
 rw [hb] at hgood ⊢
 have hvb : b * 64 / 64 = b := by omega
 unfold HM.forM
 rw [if_pos h32, hvb, hc]
 obtain ⟨g1, g2, g3, g4, g5, g6⟩ := claim_free I (b := b) (n := c) (s := A.sp) (st := 2) (by omega) (by omega) (by omega) (fun i hi => hgood i hi) hA.sp (.inr rfl)
 have hlen : (m.claimM (b : Int) (c : Int) (A.sp : Int) 2).bl.length = m.bl.length := by rw [g3, claimL_length]
 refine ⟨g1, g2, hlen, ?_, by rw [hvb, g5 b, if_pos ⟨Nat.le_refl _, by omega⟩], by omega, fun j hj => ?_, fun h => absurd h32 (by omega), fun _ => ?_⟩
 · refine place_of hv hn (room_zero (by omega) hne ?_ ?_ (fun w h7 h8 => ?_))
   · unfold HM.n; rw [hlen]; omega
   · unfold suitB
     rw [if_neg (by omega), hvb]
     refine decide_eq_true ⟨?_, by omega, ?_⟩
     · have := g4 b
       rw [if_pos rfl] at this
       exact this
     · have hg : grpEnd (m.claimM (b : Int) (c : Int) (A.sp : Int) 2).bl b = b + c := by
         refine (grpEnd_iff _ b (b + c) (by rw [hlen]; omega)).2 ⟨by omega, by rw [hlen]; omega, fun i h9 h10 => ?_, fun h9 => ?_⟩
         · have := g4 i
           rw [if_neg (by omega), if_pos ⟨by omega, by omega⟩] at this
           exact this
         · have h11 := g4 (b + c)
           rw [if_neg (by omega), if_neg (by omega)] at h11
           intro h12
           have h13 : m.st (b + c) = 3 := h11 ▸ h12
           have h14 := t (b + c - 1)
           rw [show b + c - 1 + 1 = b + c by omega] at h14
           have h15 := hgood (c - 1) (by omega)
           rw [show b + (c - 1) = b + c - 1 by omega] at h15
           have := h14 h13
           omega
       rw [hg]
       omega
   · have hown : (m.claimM (b : Int) (c : Int) (A.sp : Int) 2).own w = m.own w := by unfold HM.own; rw [g1]
     rw [hown]
     refine own_free I ?_
     have := hgood (w / 64 - b) (by omega)
     rw [show b + (w / 64 - b) = w / 64 by omega] at this
     exact this
 · rw [g6 j] at hj
   have hj2 := of_decide_eq_true hj
   have := hgood (j - b) (by omega)
   rw [show b + (j - b) = j by omega] at this
   exact ⟨this, by rw [g5 j, if_pos hj2]⟩
 · rw [chN_range g6]; omega
end
section
variable {m : HM} {A : AS}
theorem wdN_even (a b : Nat) : wdN a b % 2 = 0 ∧ 2 ≤ wdN a b := by unfold wdN; omega
theorem bump_next {s c l n : Nat} (h : (m.bumpA s (c, l) n).1 ≠ 0) : (m.bumpA s (c, l) n).2.1 = (m.bumpA s (c, l) n).1 + n := by
 unfold HM.bumpA at h ⊢
 by_cases hf : fitA (c, l) n = true
 · rw [if_pos hf] at h ⊢
   by_cases hg : m.isGapB s c n = true
   · rw [if_pos hg]; rfl
   · rw [if_neg hg] at h; exact absurd rfl h
 · rw [if_neg hf]; rfl
theorem alA_ev (I : m.Inv) (hA : A.Ok) (hE : A.Ev) (x y z : Int) : (m.alA A x y z).Ev := by
 by_cases h : m.alE A x y z = 0
 · obtain ⟨h1, h2, _, h4⟩ := al_valid h
   have hw := wdN_even x.toNat y.toNat
   rw [h4]
   generalize wdN x.toNat y.toNat = n at h2 hw ⊢
   by_cases h32 : 32 < n
   · unfold HM.choose; rw [if_pos h32]; exact hE
   · obtain ⟨hev, _⟩ := small_cases I hE (by omega) h32 h2 hA.po
     unfold HM.choose at h2 hev ⊢
     rw [if_neg h32] at h2 hev ⊢
     split
     · exact hE
     split
     · exact hE
     split
     · rename_i g0 g1 g2
       rw [if_neg g0, if_neg g1, if_pos g2] at hev
       exact ⟨by show (_ + n) % 2 = 0; simp only at hev; omega, hE.2⟩
     split
     · rename_i g0 g1 g2 g3
       rw [if_neg g0, if_neg g1, if_neg g2, if_pos g3] at hev h2
       exact ⟨by show (m.bumpA A.sp (A.c, A.l) n).2.1 % 2 = 0; rw [bump_next h2]; simp only at hev; omega, hE.2⟩
     split
     · rename_i g0 g1 g2 g3 g4
       rw [if_neg g0, if_neg g1, if_neg g2, if_neg g3, if_pos g4] at hev h2
       exact ⟨by show (m.bumpA A.sp (A.c, A.l) n).2.1 % 2 = 0; rw [bump_next h2]; simp only at hev; omega, hE.2⟩
     split
     · rename_i g0 g1 g2 g3 g4 g5
       rw [if_neg g0, if_neg g1, if_neg g2, if_neg g3, if_neg g4, if_pos g5] at hev h2
       exact ⟨hE.1, by show (m.bumpA A.sp (A.oc, A.ol) n).2.1 % 2 = 0; rw [bump_next h2]; simp only at hev; omega⟩
     · rename_i g0 g1 g2 g3 g4 g5
       rw [if_neg g0, if_neg g1, if_neg g2, if_neg g3, if_neg g4, if_neg g5] at hev
       exact ⟨by show ((m.holeA A.sp A.l).1 + n) % 2 = 0; have : (m.holeA A.sp A.l).1 % 2 = 0 := hev; omega, hE.2⟩
 · unfold HM.alA; rw [if_neg h]; exact hE
theorem pqP_ev (I : m.Inv) (hA : A.Ok) (hE : A.Ev) (n1 k a s x y z : Int) : (pqP m A n1 k a s x y z).2.Ev := by
 unfold pqP
 split
 · exact alA_ev I hA hE x y z
 split
 · exact hE
 split
 · exact ⟨rfl, rfl⟩
 repeat' split
 all_goals exact hE
end
section
variable {w W V : World} {b : HB} {m m' m2 : HM} {q p q2 p2 g g' gb : Nat} {A A' A2 : AS}
end
section
variable {m : HM} {A : AS}
theorem gap_of_room (I : m.Inv) {s v n : Nat} (hn : 1 ≤ n) (h : RoomAt m s v n) : m.isGapB s v n = true := by
 obtain ⟨h1, h2, h3⟩ := h
 have hk := ownS_lt h1
 have hst := (of_decide_eq_true h1).1
 have G := gapsAt I hk hst
 obtain ⟨i, hi, g1, g2⟩ := G.all v (by omega) (by omega) (h3 v (Nat.le_refl _) (by omega))
 have hend : v + n ≤ ((m.gapL ((v / 64 : Nat) : Int)).getD i (0, 0)).1 + ((m.gapL ((v / 64 : Nat) : Int)).getD i (0, 0)).2 := by
   rcases Nat.lt_or_ge (((m.gapL ((v / 64 : Nat) : Int)).getD i (0, 0)).1 + ((m.gapL ((v / 64 : Nat) : Int)).getD i (0, 0)).2) (v + n) with hlt | hge
   · exfalso
     obtain ⟨j, hj, g3, g4⟩ := G.all (((m.gapL ((v / 64 : Nat) : Int)).getD i (0, 0)).1 + ((m.gapL ((v / 64 : Nat) : Int)).getD i (0, 0)).2) (by omega) (by omega) (h3 _ (by omega) hlt)
     by_cases hij : i < j
     · have h5 := G.sep i (by omega)
       by_cases hj1 : j = i + 1
       · subst hj1; omega
       · have h6 := sep_lt G.pos G.sep (j - i - 2) (i + 1) (by omega)
         rw [show i + 1 + (j - i - 2) + 1 = j by omega] at h6
         omega
     · by_cases hji : j = i
       · subst hji; omega
       · have h5 := G.sep j (by omega)
         by_cases hj1 : i = j + 1
         · subst hj1; omega
         · have h6 := sep_lt G.pos G.sep (i - j - 2) (j + 1) (by omega)
           rw [show j + 1 + (i - j - 2) + 1 = i by omega] at h6
           omega
   · exact hge
 unfold HM.isGapB
 rw [h1, Bool.true_and, List.any_eq_true]
 refine ⟨(m.gapL ((v / 64 : Nat) : Int)).getD i (0, 0), getD_mem hi, decide_eq_true ⟨g1, hend⟩⟩
theorem room_of_place (I : m.Inv) {s c n : Nat} {x y z : Int} (hv : vldB x y z = true) (hn : wdN x.toNat y.toNat = n) (hne : n % 2 = 0) (h32 : ¬ 32 < n) (hs : spV m ((c / 64 : Nat) : Int) = (s : Int)) (h : m.placeE (c : Int) x y z = 0) : RoomAt m s c n := by
 unfold HM.placeE at h
 rw [if_pos hv, hn] at h
 obtain ⟨k, h1, h2, h3, h4, h5⟩ := roomE_zero h
 obtain rfl : k = c := by omega
 have hb := suit_bd h4
 unfold suitB at h4
 rw [if_pos (by omega)] at h4
 obtain ⟨h6, h7⟩ := of_decide_eq_true h4
 have h8 := tkB_false.1 h5
 unfold spV at hs
 rw [spV_eq, if_pos hb.1] at hs
 refine ⟨decide_eq_true ⟨h6, by omega⟩, h7, fun w h9 h10 => ?_⟩
 have h11 : m.own (k + 2 * ((w - k) / 2)) = 0 := by
   have := h8 ((w - k) / 2) (by omega)
   omega
 refine own_gap (fun hc => ?_)
 obtain ⟨a, o, q0, q1, q2⟩ := hc
 have q3 := I.even _ _ q0
 have q4 := (I.ok _ _ q0).wd_bd
 have q5 : m.own (k + 2 * ((w - k) / 2)) = a := own_cov I q0 (by omega) (by omega)
 have q6 := I.lo q0
 omega
theorem begun_v (I : m.Inv) {s : Nat} (hs8 : s < 8) {x y z : Int} (hv : vldB x y z = true) {n : Nat} (hn : wdN x.toNat y.toNat = n) (h32 : ¬ 32 < n) (hn2 : 2 ≤ n) (hne : n % 2 = 0) {v : Nat} (h0 : v ≠ 0) (hev : v % 2 = 0) (hc : RoomAt m s v n ∨ v = m.freeB 1) : Begun m (m.forM s v n) s v n x y z := by
 unfold HM.forM
 rw [if_neg h32]
 by_cases hst : m.st (v / 64) = 0
 · rw [if_pos hst]
   have hvf : v = m.freeB 1 := by
     rcases hc with ⟨h1, _⟩ | h
     · have := of_decide_eq_true h1
       omega
     · exact h
   obtain ⟨k, h1, h2, h3, _, _, h6⟩ := freeB_some (m := m) (c := 1) (by omega) (by omega)
   have hvk : v / 64 = k := by omega
   rw [hvk]
   obtain ⟨g1, g2, g3, g4, g5, g6⟩ := claim_free I (b := k) (n := 1) (s := s) (st := 1) h1 (Nat.le_refl _) (by omega) (fun i hi => by rw [show k + i = k by omega]; exact h3) hs8 (.inl rfl)
   rw [show ((1 : Nat) : Int) = 1 from rfl] at g1 g2 g3 g4 g5 g6
   have hlen : (m.claimM (k : Int) 1 (s : Int) 1).bl.length = m.bl.length := by rw [g3, claimL_length]
   refine ⟨g1, g2, hlen, ?_, by rw [hvk, g5 k, if_pos ⟨Nat.le_refl _, by omega⟩], by omega, fun j hj => ?_, fun _ => ?_, fun h => absurd h h32⟩
   · refine place_of hv hn (room_zero hev hne ?_ ?_ (fun w h7 h8 => ?_))
     · unfold HM.n; rw [hlen]; omega
     · unfold suitB
       rw [if_pos (by omega)]
       refine decide_eq_true ⟨?_, by omega⟩
       have := g4 k
       rw [if_pos rfl] at this
       rw [hvk]
       exact this
     · have hown : (m.claimM (k : Int) 1 (s : Int) 1).own w = m.own w := by unfold HM.own; rw [g1]
       rw [hown]
       exact own_free I (by rw [show w / 64 = k by omega]; exact h3)
   · rw [g6 j] at hj
     have hj2 := of_decide_eq_true hj
     obtain rfl : j = k := by omega
     exact ⟨h3, by rw [g5 j, if_pos hj2]⟩
   · rw [chN_range g6]; omega
 · rw [if_neg hst]
   rcases hc with ⟨h1, h2, h3⟩ | h
   · have h4 := of_decide_eq_true h1
     have h5 := ownS_lt h1
     refine ⟨rfl, rfl, rfl, place_of hv hn (room_zero hev hne (by unfold HM.n; omega) ?_ h3), h4.2, h5, (fun j hj => by rw [chB_self] at hj; cases hj), (fun _ => by rw [chN_self]; omega), fun h => absurd h h32⟩
     unfold suitB
     rw [if_pos (by omega)]
     exact decide_eq_true ⟨h4.1, h2⟩
   · exfalso
     obtain ⟨k, h1, h2, h3, _, _, h6⟩ := freeB_some (m := m) (c := 1) (by omega) (by omega)
     rw [show v / 64 = k by omega] at hst
     exact hst h3
theorem rp_begun {s v n blk : Nat} {x y z : Int} (hn : wdN x.toNat y.toNat = n) (h32 : ¬ 32 < n) (B : Begun m (m.forM s v n) s v n x y z) (h1 : m.rp1 s blk = m.forM s v n) : m.rpE s v blk x y z = 0 ∧ m.rpV s v blk x y z = (v : Int) ∧ m.rpM s v blk x y z = (m.forM s v n).placeM (v : Int) x y z := by
 have hoff : (m.forM s v n).rpOff s v n = false := by
   unfold HM.rpOff
   have : spV (m.forM s v n) ((v / 64 : Nat) : Int) = (s : Int) := by
     unfold spV
     rw [spV_eq, if_pos (by rw [B.len]; exact B.blk), B.sp]
   rw [this]
   simp
 have hE : m.rpE s v blk x y z = 0 := by
   unfold HM.rpE
   rw [h1, hn, hoff, B.E]
   rfl
 refine ⟨hE, ?_, ?_⟩
 · unfold HM.rpV; rw [if_pos hE]
 · unfold HM.rpM; rw [h1, hn, hoff]; rfl
theorem rp_none (I : m.Inv) {s c n : Nat} {x y z : Int} (hv : vldB x y z = true) (hn : wdN x.toNat y.toNat = n) (hn1 : 1 ≤ n) (hne : n % 2 = 0) (h32 : ¬ 32 < n) (h : ¬ m.isGapB s c n = true) : m.rpE s c 0 x y z = 6 ∧ m.rpV s c 0 x y z = 0 ∧ m.rpM s c 0 x y z = m := by
 have h1 : m.rp1 s 0 = m := by unfold HM.rp1; rw [if_neg (by omega)]
 by_cases hoff : m.rpOff s c n = true
 · have hE : m.rpE s c 0 x y z = 6 := by unfold HM.rpE; rw [h1, hn, if_pos hoff]
   refine ⟨hE, by unfold HM.rpV; rw [hE]; rfl, by unfold HM.rpM; rw [h1, hn, if_pos hoff]⟩
 · have hs : spV m ((c / 64 : Nat) : Int) = (s : Int) := by
     unfold HM.rpOff at hoff
     rw [decide_eq_false h32] at hoff
     simpa using hoff
   have hpe : m.placeE (c : Int) x y z ≠ 0 := fun hp => h (gap_of_room I hn1 (room_of_place I hv hn hne h32 hs hp))
   have hE : m.rpE s c 0 x y z = 6 := by unfold HM.rpE; rw [h1, hn, if_neg hoff, if_neg hpe]
   refine ⟨hE, by unfold HM.rpV; rw [hE]; rfl, ?_⟩
   unfold HM.rpM
   rw [h1, hn, if_neg hoff]
   unfold HM.placeM
   rw [if_neg hpe]
theorem forM_room {s v n : Nat} (h32 : ¬ 32 < n) (h : RoomAt m s v n) : m.forM s v n = m := by
 have h4 := of_decide_eq_true h.1
 unfold HM.forM
 rw [if_neg h32, if_neg (by omega)]
theorem forM_free {n : Nat} (h32 : ¬ 32 < n) (s : Nat) (h0 : m.freeB 1 ≠ 0) : m.rp1 s (m.freeB 1 / 64) = m.forM s (m.freeB 1) n := by
 obtain ⟨k, h1, h2, h3, _, _, h6⟩ := freeB_some (m := m) (c := 1) (by omega) h0
 have hvk : m.freeB 1 / 64 = k := by omega
 unfold HM.rp1 HM.forM
 rw [if_pos (by omega), if_neg h32, hvk, if_pos h3]
theorem room_pos {s v n : Nat} (I : m.Inv) (h : RoomAt m s v n) : v ≠ 0 := fun hv => by
 subst hv
 have h1 : m.st 0 = 1 := (of_decide_eq_true h.1).1
 have h2 := I.b0
 omega
theorem ru_eq (I : m.Inv) {s : Nat} (hs8 : s < 8) {x y z : Int} (hv : vldB x y z = true) {n : Nat} (hn : wdN x.toNat y.toNat = n) (h32 : ¬ 32 < n) (hn2 : 2 ≤ n) (hne : n % 2 = 0) {c l : Nat} (hc : c % 2 = 0) :
   ((m.bumpA s (c, l) n).1 = 0 ∧ m.ruE s c l n x y z = 6 ∧ m.ruV s c l n x y z = 0 ∧ m.ruM s c l n x y z = m ∧ m.ruC s c l n x y z = (c, l)) ∨
   ((m.bumpA s (c, l) n).1 ≠ 0 ∧ m.ruE s c l n x y z = 0 ∧ m.ruV s c l n x y z = ((m.bumpA s (c, l) n).1 : Int) ∧ m.ruM s c l n x y z = (m.forM s (m.bumpA s (c, l) n).1 n).placeM ((m.bumpA s (c, l) n).1 : Int) x y z ∧ m.ruC s c l n x y z = (m.bumpA s (c, l) n).2) := by
 by_cases hf : c + n ≤ l
 · have hfa : fitA (c, l) n = true := fits_iff.2 hf
   have e1 : m.ruA c l n = c := if_pos hf
   have e2 : m.ruB c l n = 0 := if_pos hf
   have e3 : m.ruL c l n = l := if_pos hf
   have e4 : m.ruN c l n = false := by unfold HM.ruN; simp; omega
   have hE : m.ruE s c l n x y z = m.rpE s c 0 x y z := by unfold HM.ruE HM.pgE; rw [e4, e1, e2]; rfl
   have hV : m.ruV s c l n x y z = m.rpV s c 0 x y z := by unfold HM.ruV HM.pgV; rw [e4, e1, e2]; rfl
   have hM : m.ruM s c l n x y z = m.rpM s c 0 x y z := by unfold HM.ruM HM.pgM; rw [e4, e1, e2]; rfl
   by_cases hg : m.isGapB s c n = true
   · have hb : m.bumpA s (c, l) n = (c, (c + n, l)) := by unfold HM.bumpA; rw [if_pos hfa, if_pos hg]; rfl
     have hr := room_isGap I (by omega) hg
     have hc0 := room_pos I hr
     have B := begun_v I hs8 hv hn h32 hn2 hne hc0 hc (.inl hr)
     obtain ⟨g1, g2, g3⟩ := rp_begun hn h32 B (blk := 0) (by rw [forM_room h32 hr]; unfold HM.rp1; rw [if_neg (by omega)])
     rw [hb]
     refine .inr ⟨hc0, hE.trans g1, hV.trans g2, hM.trans g3, ?_⟩
     unfold HM.ruC
     rw [hE.trans g1, if_pos rfl, e1, e3]
   · have hb : m.bumpA s (c, l) n = (0, (c, l)) := by unfold HM.bumpA; rw [if_pos hfa, if_neg hg]
     obtain ⟨g1, g2, g3⟩ := rp_none I hv hn (by omega) hne h32 hg
     rw [hb]
     refine .inl ⟨rfl, hE.trans g1, hV.trans g2, hM.trans g3, ?_⟩
     unfold HM.ruC
     rw [hE.trans g1, if_neg (by decide)]
 · have hfa : ¬ fitA (c, l) n = true := fun h => hf (fits_iff.1 h)
   have hb : m.bumpA s (c, l) n = (m.freeB 1, (m.freeB 1 + n, m.freeB 1 + 64)) := by unfold HM.bumpA; rw [if_neg hfa]; rfl
   rw [hb]
   by_cases h0 : m.freeB 1 = 0
   · have e4 : m.ruN c l n = true := by unfold HM.ruN; simp [h0]; omega
     have hE : m.ruE s c l n x y z = 6 := by unfold HM.ruE HM.pgE; rw [e4]; rfl
     refine .inl ⟨h0, hE, by unfold HM.ruV HM.pgV; rw [e4]; rfl, by unfold HM.ruM HM.pgM; rw [e4]; rfl, ?_⟩
     unfold HM.ruC
     rw [hE, if_neg (by decide)]
   · have e1 : m.ruA c l n = m.freeB 1 := if_neg hf
     have e2 : m.ruB c l n = m.freeB 1 / 64 := if_neg hf
     have e3 : m.ruL c l n = m.freeB 1 + 64 := if_neg hf
     have e4 : m.ruN c l n = false := by unfold HM.ruN; simp [h0]
     have hm64 := freeB_mod (m := m) (c := 1) (by omega)
     have B := begun_v I hs8 hv hn h32 hn2 hne h0 (by omega) (.inr rfl)
     obtain ⟨g1, g2, g3⟩ := rp_begun hn h32 B (blk := m.freeB 1 / 64) (forM_free h32 s h0)
     have hE : m.ruE s c l n x y z = 0 := by unfold HM.ruE HM.pgE; rw [e4, e1, e2]; exact g1
     refine .inr ⟨h0, hE, by unfold HM.ruV HM.pgV; rw [e4, e1, e2]; exact g2, by unfold HM.ruM HM.pgM; rw [e4, e1, e2]; exact g3, ?_⟩
     unfold HM.ruC
     rw [hE, if_pos rfl, e1, e3]
end
theorem be_false {n : Nat} : ∀ (L : List (Nat × Nat)) (x : Option (Nat × Nat)), L.foldl (beStep false n) x = match x with | some y => some y | none => L.find? (fun g => decide (n ≤ g.2)) := by
 intro L
 induction L with
 | nil => intro x; cases x <;> rfl
 | cons a L ih =>
   intro x
   rw [List.foldl_cons, ih]
   cases x with
   | some y =>
     have : beStep false n (some y) a = some y := by unfold beStep; split <;> simp
     rw [this]
   | none =>
     rw [List.find?_cons]
     by_cases h : n ≤ a.2
     · have : beStep false n none a = some a := by unfold beStep; rw [if_neg (by omega)]
       rw [this, decide_eq_true h]
     · have : beStep false n none a = none := by unfold beStep; rw [if_pos (by omega)]
       rw [this, decide_eq_false h]
theorem be_true {n : Nat} : ∀ (L : List (Nat × Nat)) (x : Option (Nat × Nat)) (st : Nat × Nat), (∀ a ∈ L, a.2 ≤ 64) → ((x = none ∧ st = (0, 65)) ∨ x = some st) → (L.foldl (beStep true n) x = none ∧ (L.map (areaOf 0)).foldl (leastStep n) st = (0, 65)) ∨ L.foldl (beStep true n) x = some ((L.map (areaOf 0)).foldl (leastStep n) st) := by
 intro L
 induction L with
 | nil =>
   intro x st _ h
   rcases h with ⟨h1, h2⟩ | h
   · exact .inl ⟨h1, h2⟩
   · exact .inr h
 | cons a L ih =>
   intro x st hL h
   have ha := hL a (List.mem_cons_self ..)
   rw [List.map_cons, List.foldl_cons, List.foldl_cons]
   have hstep : leastStep n st (areaOf 0 a) = if n ≤ a.2 ∧ a.2 < st.2 then a else st := by
     unfold leastStep
     rw [fit0]
     unfold areaOf
     simp only [Nat.max_zero, decide_eq_true_eq, show a.1 + a.2 - a.1 = a.2 by omega]
   rw [hstep]
   refine ih _ _ (fun c hc => hL c (List.mem_cons_of_mem _ hc)) ?_
   rcases h with ⟨rfl, rfl⟩ | rfl
   · by_cases hn : n ≤ a.2
     · rw [if_pos ⟨hn, by show a.2 < 65; omega⟩]
       refine .inr ?_
       unfold beStep
       rw [if_neg (by omega)]
     · rw [if_neg (fun hh => hn hh.1)]
       refine .inl ⟨?_, rfl⟩
       unfold beStep
       rw [if_pos (by omega)]
   · refine .inr ?_
     unfold beStep
     by_cases hn : a.2 < n
     · rw [if_pos hn, if_neg (by omega)]
     · rw [if_neg hn]
       simp only
       by_cases hl : a.2 < st.2
       · rw [if_pos ⟨by first | trivial | rfl, hl⟩, if_pos ⟨by omega, hl⟩]
       · rw [if_neg (fun hh => hl hh.2), if_neg (fun hh => hl hh.2)]
section
variable {m : HM} {A : AS}
theorem nx_low (I : m.Inv) (s c n : Nat) : (nxO (rgL m s m.bl.length) c n = none ∧ m.lowG s c n = 0) ∨ (nxO (rgL m s m.bl.length) c n = some (m.lowG s c n) ∧ m.lowG s c n ≠ 0) := by
 unfold nxO HM.lowG firstFit
 rw [ars_map, List.find?_map]
 have e : (rgL m s m.bl.length).find? (fun g => fitA (areaOf c g) n) = (rgL m s m.bl.length).find? ((fun a => fitA a n) ∘ areaOf c) := rfl
 rw [e]
 rcases hf : (rgL m s m.bl.length).find? ((fun a => fitA a n) ∘ areaOf c) with _ | a
 · exact .inl ⟨rfl, rfl⟩
 · have h1 := rgL_bd I (List.mem_of_find?_eq_some hf)
   refine .inr ⟨rfl, ?_⟩
   show max a.1 c ≠ 0
   omega
theorem be_low (I : m.Inv) (s n : Nat) : ((beO (rgL m s m.bl.length) false n).map (·.1) = none ∧ m.lowG s 0 n = 0) ∨ ((beO (rgL m s m.bl.length) false n).map (·.1) = some (m.lowG s 0 n) ∧ m.lowG s 0 n ≠ 0) := by
 have e : beO (rgL m s m.bl.length) false n = (rgL m s m.bl.length).find? (fun g => decide (n ≤ g.2)) := be_false _ none
 have e2 : (rgL m s m.bl.length).find? (fun g => decide (n ≤ g.2)) = (rgL m s m.bl.length).find? (fun g => fitA (areaOf 0 g) n) := by
   congr 1
   funext g
   exact fit0.symm
 rw [e, e2]
 rcases nx_low I s 0 n with ⟨h1, h2⟩ | ⟨h1, h2⟩
 · refine .inl ⟨?_, h2⟩
   unfold nxO at h1
   rw [Option.map_eq_none_iff] at h1 ⊢
   exact h1
 · refine .inr ⟨?_, h2⟩
   unfold nxO at h1
   rw [← h1]
   congr 1
   funext g
   simp
theorem be_least (I : m.Inv) (s n : Nat) : ((beO (rgL m s m.bl.length) true n).map (·.1) = none ∧ m.leastG s n = 0) ∨ ((beO (rgL m s m.bl.length) true n).map (·.1) = some (m.leastG s n) ∧ m.leastG s n ≠ 0) := by
 have hL : ∀ a ∈ rgL m s m.bl.length, a.2 ≤ 64 := fun a ha => by
   obtain ⟨k, _, _, _, _, _, _, _⟩ := rgL_small I ha
   omega
 have hdef : m.leastG s n = (((rgL m s m.bl.length).map (areaOf 0)).foldl (leastStep n) (0, 65)).1 := by unfold HM.leastG; rw [ars_map]
 rcases be_true (n := n) (rgL m s m.bl.length) none (0, 65) hL (.inl ⟨rfl, rfl⟩) with ⟨h1, h2⟩ | h1
 · refine .inl ⟨?_, by rw [hdef, h2]⟩
   unfold beO
   rw [h1]
   rfl
 · have hm := beO_mem (l := rgL m s m.bl.length) (best := true) (n := n) h1
   have hb := rgL_bd I hm.1
   refine .inr ⟨?_, by rw [hdef]; omega⟩
   unfold beO
   rw [h1, hdef]
   rfl
theorem rc_eq (I : m.Inv) {n : Nat} (h32 : ¬ 32 < n) (hp : A.po ≤ 2) : (m.rcO A n = none ∧ (m.choose A n).1 = m.freeB 1) ∨ (m.rcO A n = some (m.choose A n).1 ∧ (m.choose A n).1 ≠ 0) := by
 have hch : ∀ {G : Nat}, G ≠ 0 → orN G (m.freeB 1) = G := fun h => by unfold orN; rw [if_neg h]
 have hch0 : ∀ {G : Nat}, G = 0 → orN G (m.freeB 1) = m.freeB 1 := fun h => by unfold orN; rw [if_pos h]
 unfold HM.rcO HM.choose
 rw [if_neg h32]
 by_cases h0 : A.po = 0
 · rw [if_neg (by omega), if_pos h0, decide_eq_false (by omega)]
   simp only
   rcases be_low I A.sp n with ⟨h1, h2⟩ | ⟨h1, h2⟩
   · exact .inl ⟨h1, hch0 h2⟩
   · rw [hch h2]; exact .inr ⟨h1, h2⟩
 rw [if_neg h0]
 by_cases h1 : A.po = 1
 · rw [if_neg (by omega), if_pos h1, decide_eq_true h1]
   simp only
   rcases be_least I A.sp n with ⟨g1, g2⟩ | ⟨g1, g2⟩
   · exact .inl ⟨g1, hch0 g2⟩
   · rw [hch g2]; exact .inr ⟨g1, g2⟩
 have h2 : A.po = 2 := by omega
 rw [if_pos h2, if_neg h1, if_pos h2, decide_eq_false h1]
 simp only
 rcases nx_low I A.sp A.c n with ⟨g1, g2⟩ | ⟨g1, g2⟩
 · rw [g1]
   simp only
   have e : orN (m.lowG A.sp A.c n) (m.lowG A.sp 0 n) = m.lowG A.sp 0 n := by unfold orN; rw [if_pos g2]
   rw [e]
   rcases be_low I A.sp n with ⟨h1, h2⟩ | ⟨h1, h2⟩
   · exact .inl ⟨h1, hch0 h2⟩
   · rw [hch h2]; exact .inr ⟨h1, h2⟩
 · rw [g1]
   simp only
   have e : orN (m.lowG A.sp A.c n) (m.lowG A.sp 0 n) = m.lowG A.sp A.c n := by unfold orN; rw [if_neg g2]
   rw [e, hch g2]
   exact .inr ⟨rfl, g2⟩
theorem rc_room (I : m.Inv) {n a : Nat} (hn : 1 ≤ n) (h : m.rcO A n = some a) : RoomAt m A.sp a n := by
 unfold HM.rcO at h
 have be : ∀ best, (beO (rgL m A.sp m.bl.length) best n).map (·.1) = some a → RoomAt m A.sp a n := by
   intro best hb
   rw [Option.map_eq_some_iff] at hb
   obtain ⟨g, hg, rfl⟩ := hb
   obtain ⟨h1, h2⟩ := beO_mem hg
   exact room_gap I hn h1 (Nat.le_refl _) (by omega)
 split at h
 · rename_i c hc
   injection h with h
   subst h
   split at hc
   · unfold nxO at hc
     rw [Option.map_eq_some_iff] at hc
     obtain ⟨g, hg, rfl⟩ := hc
     have h1 := List.find?_some hg
     unfold fitA areaOf at h1
     have h2 := of_decide_eq_true h1
     simp only at h2
     exact room_gap I hn (List.mem_of_find?_eq_some hg) (by omega) (by omega)
   · cases hc
 · exact be _ h
theorem pair4 {a b : Int} {c : HM} {d : AS} {a' b' : Int} {c' : HM} {d' : AS} (h1 : a = a') (h2 : b = b') (h3 : c = c') (h4 : d = d') : (((a, b), (c, d)) : (Int × Int) × (HM × AS)) = ((a', b'), (c', d')) := by rw [h1, h2, h3, h4]
theorem al_zero {x y z : Int} (hv : vldB x y z = true) {n : Nat} (hn : wdN x.toNat y.toNat = n) (h : (m.choose A n).1 = 0) : m.alV A x y z = 0 ∧ m.alE A x y z = 6 ∧ m.alM A x y z = m ∧ m.alA A x y z = A := by
 have hE : m.alE A x y z = 6 := by rw [alE_of hv hn, if_pos h]
 refine ⟨by unfold HM.alV; rw [if_pos hv, hn, h], hE, by unfold HM.alM; rw [if_neg (by rw [hE]; decide)], by unfold HM.alA; rw [if_neg (by rw [hE]; decide)]⟩
theorem al_some {x y z : Int} (hv : vldB x y z = true) {n : Nat} (hn : wdN x.toNat y.toNat = n) (h : (m.choose A n).1 ≠ 0) : m.alV A x y z = (m.choose A n).1 ∧ m.alE A x y z = 0 ∧ m.alM A x y z = (m.forM A.sp (m.choose A n).1 n).placeM ((m.choose A n).1 : Int) x y z ∧ m.alA A x y z = (m.choose A n).2 := by
 have hE : m.alE A x y z = 0 := by rw [alE_of hv hn, if_neg h]
 have hV : m.alV A x y z = (m.choose A n).1 := by unfold HM.alV; rw [if_pos hv, hn]
 refine ⟨hV, hE, by unfold HM.alM; rw [if_pos hE, hV, hn], by unfold HM.alA; rw [if_pos hE, hn]⟩
theorem ra_eq (I : m.Inv) (t : m.Tl) (hA : A.Ok) (hE : A.Ev) (x y z : Int) : m.ra A x y z = (((m.alV A x y z : Int), m.alE A x y z), (m.alM A x y z, m.alA A x y z)) := by
 rcases hv : vldB x y z
 · have h1 := full_inv (m := m) (A := A) hv
   unfold HM.ra
   rw [hv, if_neg (by decide)]
   refine pair4 ?_ h1.symm ?_ ?_
   · unfold HM.alV; rw [hv]; rfl
   · unfold HM.alM; rw [if_neg (by rw [h1]; decide)]
   · unfold HM.alA; rw [if_neg (by rw [h1]; decide)]
 obtain ⟨n, hn⟩ : ∃ n, wdN x.toNat y.toNat = n := ⟨_, rfl⟩
 have hw := wdN_even x.toNat y.toNat
 rw [hn] at hw
 obtain ⟨hne, hn2⟩ := hw
 unfold HM.ra
 rw [if_pos hv, hn]
 by_cases h32 : 32 < n
 · rw [if_pos h32]
   have hch : (m.choose A n).1 = m.freeB ((n + 63) / 64) := by unfold HM.choose; rw [if_pos h32]
   have hch2 : (m.choose A n).2 = A := by unfold HM.choose; rw [if_pos h32]
   unfold HM.raL
   by_cases h0 : m.freeB ((n + 63) / 64) = 0
   · rw [if_pos h0]
     obtain ⟨g1, g2, g3, g4⟩ := al_zero (A := A) hv hn (hch.trans h0)
     rw [g1, g2, g3, g4]
     rfl
   · rw [if_neg h0]
     obtain ⟨g1, g2, g3, g4⟩ := al_some (A := A) hv hn (by rw [hch]; exact h0)
     have B := begun_large I t hA hv hn h32 hne (by rw [hch]; exact h0)
     rw [hch] at g1 g3 B
     have hm64 := freeB_mod (m := m) (c := (n + 63) / 64) (by omega)
     have hfb : m.freeB ((n + 63) / 64) / 64 * 64 = m.freeB ((n + 63) / 64) := by omega
     have hf : m.forM A.sp (m.freeB ((n + 63) / 64)) n = m.claimM ((m.freeB ((n + 63) / 64) / 64 : Nat) : Int) (((n + 63) / 64 : Nat) : Int) (A.sp : Int) 2 := by unfold HM.forM; rw [if_pos h32]
     rw [hf] at g3 B
     rw [hfb]
     generalize m.claimM ((m.freeB ((n + 63) / 64) / 64 : Nat) : Int) (((n + 63) / 64 : Nat) : Int) (A.sp : Int) 2 = m1 at g3 B ⊢
     have h1 : m1.rp1 A.sp 0 = m1 := by unfold HM.rp1; rw [if_neg (by omega)]
     have hoff : m1.rpOff A.sp (m.freeB ((n + 63) / 64)) n = false := by unfold HM.rpOff; rw [decide_eq_true h32]; rfl
     have q1 : m1.rpE A.sp (m.freeB ((n + 63) / 64)) 0 x y z = 0 := by unfold HM.rpE; rw [h1, hn, hoff, B.E]; rfl
     refine pair4 ?_ (q1.trans g2.symm) ?_ (by rw [g4, hch2])
     · unfold HM.rpV; rw [if_pos q1, g1]
     · unfold HM.rpM; rw [h1, hn, hoff, g3]; rfl
 rw [if_neg h32]
 unfold HM.raS
 by_cases hp3 : A.po = 3
 · rw [if_pos hp3]
   have hch : m.choose A n = ((m.bumpA A.sp (A.c, A.l) n).1, { A with c := (m.bumpA A.sp (A.c, A.l) n).2.1, l := (m.bumpA A.sp (A.c, A.l) n).2.2 }) := by
     unfold HM.choose; rw [if_neg h32, if_neg (by omega), if_neg (by omega), if_neg (by omega), if_pos hp3]
   rcases ru_eq I hA.sp hv hn h32 hn2 hne (c := A.c) (l := A.l) hE.1 with ⟨b0, b1, b2, b3, b4⟩ | ⟨b0, b1, b2, b3, b4⟩
   · obtain ⟨g1, g2, g3, g4⟩ := al_zero (A := A) hv hn (by rw [hch]; exact b0)
     rw [b1, b2, b3, b4, g1, g2, g3, g4]
     rfl
   · obtain ⟨g1, g2, g3, g4⟩ := al_some (A := A) hv hn (by rw [hch]; exact b0)
     rw [hch] at g1 g3 g4
     rw [b1, b2, b3, b4, g1, g2, g3, g4]
 rw [if_neg hp3]
 by_cases hp4 : A.po = 4
 · rw [if_pos hp4]
   have hch0 : m.choose A n = if A.c + n ≤ A.l then ((m.bumpA A.sp (A.c, A.l) n).1, { A with c := (m.bumpA A.sp (A.c, A.l) n).2.1, l := (m.bumpA A.sp (A.c, A.l) n).2.2 }) else if 8 < n then ((m.bumpA A.sp (A.oc, A.ol) n).1, { A with oc := (m.bumpA A.sp (A.oc, A.ol) n).2.1, ol := (m.bumpA A.sp (A.oc, A.ol) n).2.2 }) else ((takeA (m.holeA A.sp A.l) n).1, { A with c := (takeA (m.holeA A.sp A.l) n).2.1, l := (takeA (m.holeA A.sp A.l) n).2.2 }) := by
     unfold HM.choose; rw [if_neg h32, if_neg (by omega), if_neg (by omega), if_neg (by omega), if_neg hp3]
   unfold HM.rlV HM.rlE HM.rlM HM.rlA
   by_cases hf : A.c + n ≤ A.l
   · rw [if_pos hf] at hch0
     rw [if_pos hf, if_pos hf, if_pos hf, if_pos hf]
     rcases ru_eq I hA.sp hv hn h32 hn2 hne (c := A.c) (l := A.l) hE.1 with ⟨b0, b1, b2, b3, b4⟩ | ⟨b0, b1, b2, b3, b4⟩
     · obtain ⟨g1, g2, g3, g4⟩ := al_zero (A := A) hv hn (by rw [hch0]; exact b0)
       rw [b1, b2, b3, b4, g1, g2, g3, g4]
       rfl
     · obtain ⟨g1, g2, g3, g4⟩ := al_some (A := A) hv hn (by rw [hch0]; exact b0)
       rw [hch0] at g1 g3 g4
       rw [b1, b2, b3, b4, g1, g2, g3, g4]
   rw [if_neg hf] at hch0
   rw [if_neg hf, if_neg hf, if_neg hf, if_neg hf]
   by_cases h8 : 8 < n
   · rw [if_pos h8] at hch0
     rw [if_pos h8, if_pos h8, if_pos h8, if_pos h8]
     rcases ru_eq I hA.sp hv hn h32 hn2 hne (c := A.oc) (l := A.ol) hE.2 with ⟨b0, b1, b2, b3, b4⟩ | ⟨b0, b1, b2, b3, b4⟩
     · obtain ⟨g1, g2, g3, g4⟩ := al_zero (A := A) hv hn (by rw [hch0]; exact b0)
       rw [b1, b2, b3, b4, g1, g2, g3, g4]
       rfl
     · obtain ⟨g1, g2, g3, g4⟩ := al_some (A := A) hv hn (by rw [hch0]; exact b0)
       rw [hch0] at g1 g3 g4
       rw [b1, b2, b3, b4, g1, g2, g3, g4]
   rw [if_neg h8] at hch0
   rw [if_neg h8, if_neg h8, if_neg h8, if_neg h8]
   have hho : m.holeA A.sp A.l = match m.rhO A.sp A.l with | some a => a | none => m.freeA := rfl
   rcases hr : m.rhO A.sp A.l with _ | a
   · rw [hr] at hho
     simp only at hho ⊢
     have hb : m.bumpA A.sp (A.c, A.l) n = takeA m.freeA n := by unfold HM.bumpA; rw [if_neg (fun h => hf (fits_iff.1 h))]
     rw [hho, ← hb] at hch0
     rcases ru_eq I hA.sp hv hn h32 hn2 hne (c := A.c) (l := A.l) hE.1 with ⟨b0, b1, b2, b3, b4⟩ | ⟨b0, b1, b2, b3, b4⟩
     · obtain ⟨g1, g2, g3, g4⟩ := al_zero (A := A) hv hn (by rw [hch0]; exact b0)
       rw [b1, b2, b3, b4, g1, g2, g3, g4]
       rfl
     · obtain ⟨g1, g2, g3, g4⟩ := al_some (A := A) hv hn (by rw [hch0]; exact b0)
       rw [hch0] at g1 g3 g4
       rw [b1, b2, b3, b4, g1, g2, g3, g4]
   · rw [hr] at hho
     simp only at hho ⊢
     rw [hho] at hch0
     have hmem : a ∈ holsL m A.sp m.bl.length := List.mem_of_find?_eq_some hr
     obtain ⟨q1, q2⟩ := hole_room I (l := A.l) (n := n) (by omega) (by omega) hmem
     have hc1 : (m.choose A n).1 = a.1 := by rw [hch0]; rfl
     have ha0 := room_pos I q1
     have B := begun_v I hA.sp hv hn h32 hn2 hne ha0 (by omega) (.inl q1)
     obtain ⟨r1, r2, r3⟩ := rp_begun hn h32 B (blk := 0) (by rw [forM_room h32 q1]; unfold HM.rp1; rw [if_neg (by omega)])
     obtain ⟨g1, g2, g3, g4⟩ := al_some (A := A) hv hn (by rw [hc1]; exact ha0)
     rw [hc1] at g1 g3
     rw [r1, r2, r3, g1, g2, g3, g4, hch0, if_pos rfl]
     rfl
 rw [if_neg hp4]
 have hp2 : A.po ≤ 2 := by have := hA.po; omega
 have hcc : (m.choose A n).1 ≠ 0 → (m.choose A n).2 = if A.po = 2 then { A with c := (m.choose A n).1 + n } else A := by
   intro _
   unfold HM.choose
   rw [if_neg h32]
   by_cases h0 : A.po = 0
   · rw [if_pos h0, if_neg (by omega)]
   rw [if_neg h0]
   by_cases h1 : A.po = 1
   · rw [if_pos h1, if_neg (by omega)]
   rw [if_neg h1, if_pos (by omega), if_pos (by omega)]
 rcases rc_eq I (A := A) h32 hp2 with ⟨h1, h2⟩ | ⟨h1, h2⟩
 · by_cases h0 : m.freeB 1 = 0
   · have hN : m.rfN A n = true := by unfold HM.rfN; rw [h1, h0]; rfl
     have e1 : m.rfE A n x y z = 6 := by unfold HM.rfE HM.pgE; rw [hN]; rfl
     obtain ⟨g1, g2, g3, g4⟩ := al_zero (A := A) hv hn (h2.trans h0)
     rw [g1, g2, g3, g4]
     refine pair4 ?_ e1 ?_ ?_
     · unfold HM.rfV HM.pgV; rw [hN]; rfl
     · unfold HM.rfM HM.pgM; rw [hN]; rfl
     · unfold HM.rfC; rw [e1]; rfl
   · have hN : m.rfN A n = false := by unfold HM.rfN; rw [h1]; simp [h0]
     have hA1 : m.rfA A n = m.freeB 1 := by unfold HM.rfA; rw [h1]; rfl
     have hB1 : m.rfB A n = m.freeB 1 / 64 := by unfold HM.rfB; rw [h1]; rfl
     have hm64 := freeB_mod (m := m) (c := 1) (by omega)
     have B := begun_v I hA.sp hv hn h32 hn2 hne h0 (by omega) (.inr rfl)
     obtain ⟨r1, r2, r3⟩ := rp_begun hn h32 B (blk := m.freeB 1 / 64) (forM_free h32 A.sp h0)
     obtain ⟨g1, g2, g3, g4⟩ := al_some (A := A) hv hn (by rw [h2]; exact h0)
     have hc2 := hcc (by rw [h2]; exact h0)
     rw [h2] at g1 g3 hc2
     have e1 : m.rfE A n x y z = 0 := by unfold HM.rfE HM.pgE; rw [hN, hA1, hB1]; exact r1
     rw [g1, g2, g3, g4, hc2]
     refine pair4 ?_ e1 ?_ ?_
     · unfold HM.rfV HM.pgV; rw [hN, hA1, hB1]; exact r2
     · unfold HM.rfM HM.pgM; rw [hN, hA1, hB1]; exact r3
     · unfold HM.rfC
       rw [e1, hA1]
       by_cases hp : A.po = 2
       · rw [if_pos ⟨rfl, hp⟩, if_pos hp]
       · rw [if_neg (fun h => hp h.2), if_neg hp]
 · have hroom := rc_room I (by omega) h1
   obtain ⟨hev, _⟩ := small_cases I hE (by omega) h32 h2 hA.po
   have hN : m.rfN A n = false := by unfold HM.rfN; rw [h1]; rfl
   have hA1 : m.rfA A n = (m.choose A n).1 := by unfold HM.rfA; rw [h1]; rfl
   have hB1 : m.rfB A n = 0 := by unfold HM.rfB; rw [h1]; rfl
   have B := begun_v I hA.sp hv hn h32 hn2 hne h2 hev (.inl hroom)
   obtain ⟨r1, r2, r3⟩ := rp_begun hn h32 B (blk := 0) (by rw [forM_room h32 hroom]; unfold HM.rp1; rw [if_neg (by omega)])
   obtain ⟨g1, g2, g3, g4⟩ := al_some (A := A) hv hn h2
   have e1 : m.rfE A n x y z = 0 := by unfold HM.rfE HM.pgE; rw [hN, hA1, hB1]; exact r1
   rw [g1, g2, g3, g4, hcc h2]
   refine pair4 ?_ e1 ?_ ?_
   · unfold HM.rfV HM.pgV; rw [hN, hA1, hB1]; exact r2
   · unfold HM.rfM HM.pgM; rw [hN, hA1, hB1]; exact r3
   · unfold HM.rfC
     rw [e1, hA1]
     by_cases hp : A.po = 2
     · rw [if_pos ⟨rfl, hp⟩, if_pos hp]
     · rw [if_neg (fun h => hp h.2), if_neg hp]
theorem pq_eq (I : m.Inv) (t : m.Tl) (hA : A.Ok) (hE : A.Ev) (n1 k a s x y z : Int) : pqD m A n1 k a s x y z = pqP m A n1 k a s x y z ∧ pqB m A m A n1 k a s x y z = true := by
 have h := ra_eq I t hA hE x y z
 unfold pqD pqP pqB
 by_cases h0 : k = 0
 · rw [if_pos h0, if_pos h0, if_pos h0, h]
   exact ⟨rfl, by simp⟩
 rw [if_neg h0, if_neg h0, if_neg h0]
 refine ⟨rfl, ?_⟩
 repeat' split
 all_goals simp
end
end Go.Proofs.YthndilllnneijaaGreat
