/-
  The law's bools, and Lines on both sides. Conditions: those that stand in each theorem.
-/
import Derived.BigQuiet
import Derived.Test.YthndilllnneijaaGreatPG19
import Derived.Test.YthndilllnneijaaGreatPG8
import Derived.Deep.RegionHeld3
import Derived.Test.YthndilllnneijaaGreatPG16
import Derived.Test.YthndilllnneijaaGreatPGE
set_option linter.unusedSimpArgs false
set_option linter.unusedVariables false
set_option maxRecDepth 100000
set_option maxHeartbeats 4000000
namespace Go.Proofs.YthndilllnneijaaGreat
open Go.RowKit Go.Deep Go.Maps
def BoolsAt (w : World) (v : Value) (l : List Bool) : Prop :=
 ∃ A cap, v = .slice A l.length cap ∧ ∀ i, i < l.length → ∃ g, A = some ⟨g, 0, none⟩ ∧ w.cell? ⟨g, i, none⟩ = some (.bool (l.getD i false))
theorem BoolsAt.kp0 {w W : World} {v : Value} {l : List Bool} (h : BoolsAt w v l) (k : Kp [] w W) : BoolsAt W v l := by
 obtain ⟨A, cap, hv, hc⟩ := h
 exact ⟨A, cap, hv, fun i hi => by obtain ⟨g, h1, h2⟩ := hc i hi; exact ⟨g, h1, cell_kp k h2⟩⟩
theorem BoolsAt.of_own {w : World} {B n : Nat} {v : Value} {l : List Bool} (own : w.ownsRow B 4 1 v n (lcells l)) (hn : n = l.length) : BoolsAt w v l := by
 subst hn
 rcases own.2 with ⟨rfl, h0⟩ | ⟨g, cap, cur, rfl, _⟩
 · exact ⟨none, 0, by rw [h0], fun i hi => by omega⟩
 · refine ⟨_, cap, rfl, fun i hi => ⟨g, rfl, ?_⟩⟩
   rw [own.cellAt _ (by omega)]
   have := lcells_get (L := l) hi
   simpa using this
theorem BoolsAt.of_blk {w : World} {g n c : Nat} {l : List Bool} (B : Blk w g 4 (lcells l).toArray) (hn : n = l.length) : BoolsAt w (.slice (some ⟨g, 0, none⟩) n c) l := by
 subst hn
 exact ⟨_, c, rfl, fun i hi => ⟨g, rfl, by rw [B.cell]; exact lcells_get hi⟩⟩
theorem bools_yes {w : World} {v v' : Value} {l : List Bool} (h : BoolsAt w v l) (h' : BoolsAt w v' l) (hl : l.length ≤ 4096) :
   Calls Tryz.prog 93 #[v, v'] w fun e w' => e = .returned (.bool true) ∧ ∃ m, w' = w.drewN m := by
 obtain ⟨A, cap, rfl, hA⟩ := h
 obtain ⟨A', cap', rfl, hA'⟩ := h'
 have HA := hid hA
 have HA' := hid hA'
 clear hA hA'
 go_enter Tryz.func93, Tryz.ntmps93
 go_wp2
 go_loopw [5] (fun c wr => ∃ k n : Nat, k ≤ l.length ∧ c = .int .i64 (k : Int) ∧ wr = w.drewN n) (fun c _ => l.length - (intOf c).toNat)
 case atStart => exact ⟨0, 0, by omega, rfl, rfl⟩
 case round =>
   obtain ⟨k, n, hk, rfl, rfl⟩ := hrel
   by_cases hlt : k < l.length
   · obtain ⟨g, rfl, c0⟩ := HA.out k hlt
     obtain ⟨g', rfl, d0⟩ := HA'.out k hlt
     clear HA HA'
     go_wp2
     go_quiet (fail)
     go_wp2
     go_roundw
     case rel => exact ⟨k + 1, _, by omega, by go_num, rfl⟩
     case measure => simp [intOf]; omega
   · obtain rfl : k = l.length := by omega
     go_wp2
     go_ret
     exact ⟨rfl, _, rfl⟩
section
variable {w w' : World} {b : HB} {d : DB} {m : HM} {q p : Nat}
def HM.lineL (m : HM) (i : Int) : List Bool := if inB m.bl.length i = true ∧ m.st i.toNat = 1 then m.lnL i.toNat else []
theorem lnL_len (m : HM) (k : Nat) : (m.lnL k).length = 8 := by unfold HM.lnL; exact lnN_length _ _ _
theorem lineL_len (m : HM) (i : Int) : (m.lineL i).length ≤ 8 := by
 unfold HM.lineL
 split
 · rw [lnL_len]; omega
 · simp
def LineP (w : World) (l : List Bool) (e : Ending) (w' : World) : Prop := ∃ v, e = .returned v ∧ BoolsAt w' v l ∧ Kp [] w w'
theorem boolsNone (w : World) : BoolsAt w (.slice none 0 0) [] := ⟨none, 0, rfl, fun i hi => by simp at hi⟩
theorem h_linesP (h : SH w b q m) (i : Int) :
   Calls Tryz.prog 39 #[.pointer (some ⟨b.g, 0, none⟩), .int .i64 i] w (LineP w (m.lineL i)) := by
 by_cases hb : inB m.bl.length i = true ∧ m.st i.toNat = 1
 · have e : m.lineL i = m.lnL i.toNat := by unfold HM.lineL; rw [if_pos hb]
   have hi := of_decide_eq_true hb.1
   obtain ⟨k, rfl⟩ : ∃ k : Nat, i = (k : Int) := ⟨i.toNat, by omega⟩
   rw [Int.toNat_natCast] at hb e
   rw [e]
   refine (h_lines h k (by omega) hb.2).mono ?_
   rintro e w' ⟨g, rfl, B, _, K⟩
   exact ⟨_, rfl, BoolsAt.of_blk B (lnL_len m k).symm, K⟩
 · have e : m.lineL i = [] := by unfold HM.lineL; rw [if_neg hb]
   have e0 : ((if inB m.bl.length i = true then (m.st i.toNat : Int) else -1) != 1) = true := by
     rw [bne_iff_ne]
     split
     · rename_i h1
       have : ¬ m.st i.toNat = 1 := fun h2 => hb ⟨h1, h2⟩
       omega
     · omega
   rw [e]
   generalize hx : (if inB m.bl.length i = true then (m.st i.toNat : Int) else -1) = x at e0
   have HX := hid hx
   clear hb e hx
   go_enter Tryz.func39, Tryz.ntmps39
   go_wp2_with (go_at_call 41; refine (h_state h _).mono ?_; rintro e w' ⟨rfl, n1, rfl⟩; rw [HX.out])
   go_ret
   exact ⟨_, rfl, boolsNone _, Kp.draw _ _⟩
theorem d_linesP (T : DR w d p m) (i : Int) :
   Calls Tryz.prog 94 #[.pointer (some ⟨d.g, 0, none⟩), .int .i64 i] w (LineP w (m.lineL i)) := by
 by_cases hb : inB m.bl.length i = true ∧ m.st i.toNat = 1
 · have e : m.lineL i = m.lnL i.toNat := by unfold HM.lineL; rw [if_pos hb]
   have hi := of_decide_eq_true hb.1
   obtain ⟨k, rfl⟩ : ∃ k : Nat, i = (k : Int) := ⟨i.toNat, by omega⟩
   rw [Int.toNat_natCast] at hb e
   rw [e]
   refine (d_lines T k (by omega) hb.2).mono ?_
   rintro e w' ⟨v, rfl, own, K⟩
   exact ⟨_, rfl, BoolsAt.of_own own (lnL_len m k).symm, K⟩
 · have e : m.lineL i = [] := by unfold HM.lineL; rw [if_neg hb]
   rw [e]
   refine (d_lines_not T i hb).mono ?_
   rintro e w' ⟨rfl, K⟩
   exact ⟨_, rfl, boolsNone _, K⟩
end
theorem cntN_congr {p r : Nat → Bool} {n : Nat} (h : ∀ j, j < n → p j = r j) : cntN p n = cntN r n := by
 induction n with
 | zero => rfl
 | succ n ih =>
   have h1 := ih fun j hj => h j (by omega)
   have h2 := h n (by omega)
   simp only [cntN, h1, h2]
theorem cntN_not (p : Nat → Bool) (n : Nat) : cntN p n + cntN (fun j => !p j) n = n := by
 induction n with
 | zero => rfl
 | succ n ih =>
   rcases hp : p n
   · rw [cntN_no hp, cntN_yes (p := fun j => !p j) (by simp [hp])]; omega
   · rw [cntN_yes hp, cntN_no (p := fun j => !p j) (by simp [hp])]; omega
theorem cntN_or {p r : Nat → Bool} {n : Nat} (h : ∀ j, j < n → ¬ (p j = true ∧ r j = true)) : cntN (fun j => p j || r j) n = cntN p n + cntN r n := by
 induction n with
 | zero => rfl
 | succ n ih =>
   have h1 := ih fun j hj => h j (by omega)
   have h2 := h n (by omega)
   rcases hp : p n <;> rcases hr : r n
   · rw [cntN_no hp, cntN_no hr, cntN_no (p := fun j => p j || r j) (by simp [hp, hr])]; omega
   · rw [cntN_no hp, cntN_yes hr, cntN_yes (p := fun j => p j || r j) (by simp [hp, hr])]; omega
   · rw [cntN_yes hp, cntN_no hr, cntN_yes (p := fun j => p j || r j) (by simp [hp, hr])]; omega
   · exact absurd ⟨hp, hr⟩ h2
theorem cntN_int (a k n : Nat) : cntN (fun j => decide (a ≤ j ∧ j < a + k)) n = min (a + k) n - min a n := by
 induction n with
 | zero => simp [cntN]
 | succ n ih =>
   by_cases h : a ≤ n ∧ n < a + k
   · rw [cntN_yes (p := fun j => decide (a ≤ j ∧ j < a + k)) (by simpa using h), ih]; omega
   · rw [cntN_no (p := fun j => decide (a ≤ j ∧ j < a + k)) (by simpa using h), ih]; omega
def sumW (l : List DO) : Nat := (l.map fun x => x.o.wd).sum
def cvP (l : List DO) (j : Nat) : Bool := l.any fun x => decide (x.a ≤ 2 * j ∧ 2 * j < x.a + x.o.wd)
theorem sumW_cnt (N : Nat) : ∀ (l : List DO), (l.Pairwise fun x y => x.a + x.o.wd ≤ y.a) → (∀ x ∈ l, x.a % 2 = 0 ∧ x.o.wd % 2 = 0 ∧ x.a + x.o.wd ≤ 2 * N) → sumW l = 2 * cntN (cvP l) N
 | [], _, _ => by
   have : cntN (cvP []) N = cntN (fun _ => false) N := cntN_congr fun _ _ => rfl
   have h0 : cntN (fun _ => false) N = 0 := by
     have := cntN_int 0 0 N
     simpa using this
   rw [this, h0]; rfl
 | x :: l, hp, hx => by
   rw [List.pairwise_cons] at hp
   have ih := sumW_cnt N l hp.2 fun y hy => hx y (by simp [hy])
   obtain ⟨h1, h2, h3⟩ := hx x (by simp)
   have e1 : cntN (cvP (x :: l)) N = cntN (fun j => decide (x.a / 2 ≤ j ∧ j < x.a / 2 + x.o.wd / 2) || cvP l j) N := cntN_congr fun j _ => by
     unfold cvP
     rw [List.any_cons]
     congr 1
     exact decide_eq_decide.2 (by omega)
   rw [e1, cntN_or ?_, cntN_int]
   · have : sumW (x :: l) = x.o.wd + sumW l := by simp [sumW]
     omega
   · rintro j hj ⟨ha, hb⟩
     have ha := of_decide_eq_true ha
     unfold cvP at hb
     obtain ⟨y, hy, hb⟩ := List.any_eq_true.1 hb
     have hb := of_decide_eq_true hb
     have := hp.1 y hy
     omega
theorem used_sum {l : List DO} {m : HM} (L : Lst l m) (I : m.Inv) : m.usedV = (sumW l : Int) := by
 have hn : m.n = 64 * m.bl.length := rfl
 have hp : l.Pairwise fun x y => x.a + x.o.wd ≤ y.a := by
   refine List.pairwise_iff_getElem.2 fun i j hi hj hlt => ?_
   exact I.apart _ _ _ _ (L.ob (List.getElem?_eq_getElem hi)) (L.ob (List.getElem?_eq_getElem hj)) (L.lt (List.getElem?_eq_getElem hi) (List.getElem?_eq_getElem hj) hlt)
 have hx : ∀ x ∈ l, x.a % 2 = 0 ∧ x.o.wd % 2 = 0 ∧ x.a + x.o.wd ≤ 2 * (32 * m.bl.length) := fun x hx => by
   obtain ⟨i, hi⟩ := List.mem_iff_getElem?.1 hx
   have ho := L.ob hi
   have h1 := I.even _ _ ho
   have h2 := (I.ok _ _ ho).wd_bd
   have h3 := I.hi ho
   exact ⟨h1, h2.2.2.1, by omega⟩
 have hs := sumW_cnt (32 * m.bl.length) l hp hx
 have hl : m.psL.length = 32 * m.bl.length := by simp [HM.psL]
 have hc := cntN_not (cvP l) (32 * m.bl.length)
 have he : cntN (isV m.psL 0) (32 * m.bl.length) = cntN (fun j => !cvP l j) (32 * m.bl.length) := cntN_congr fun j hj => by
   have e1 : ent m.psL j = if (m.ob (2 * j)).isSome then 1 else if m.own (2 * j) = 0 then 0 else 2 := by
     unfold ent HM.psL
     rw [List.getD_eq_getElem?_getD, List.getElem?_map, List.getElem?_range hj]
     rfl
   rcases hcv : cvP l j
   · refine isV_yes ?_
     have hno : ¬ m.cv (2 * j) := by
       rintro ⟨a, o, ho, h1, h2⟩
       obtain ⟨i, x, hi, rfl, rfl⟩ := L.get ho
       have : cvP l j = true := List.any_eq_true.2 ⟨x, List.mem_of_getElem? hi, decide_eq_true ⟨h1, h2⟩⟩
       rw [hcv] at this; cases this
     have h0 := own_gap hno
     have hob : m.ob (2 * j) = none := by
       rcases ho : m.ob (2 * j) with _ | o
       · rfl
       · have := (I.ok _ _ ho).wd_bd
         exact absurd ⟨_, o, ho, Nat.le_refl _, by omega⟩ hno
     rw [e1, hob, h0]
     rfl
   · refine isV_no ?_
     obtain ⟨x, hx, hb⟩ := List.any_eq_true.1 hcv
     have hb := of_decide_eq_true hb
     obtain ⟨i, hi⟩ := List.mem_iff_getElem?.1 hx
     have hcvm : m.cv (2 * j) := ⟨x.a, x.o, L.ob hi, hb.1, hb.2⟩
     have := (own_ne I (2 * j)).2 hcvm
     rw [e1]
     split
     · decide
     · first | decide | omega | (rw [if_neg this]; decide)
 unfold HM.usedV
 rw [hl, he]
 omega
theorem sumW_take (l : List DO) (k : Nat) {x : DO} (h : l[k]? = some x) : sumW (l.take (k + 1)) = sumW (l.take k) + x.o.wd := by
 rw [List.take_add_one, h]
 simp [sumW]
theorem sumW_le (l : List DO) (h : ∀ x ∈ l, x.o.wd ≤ 218) : sumW l ≤ 218 * l.length := by
 induction l with
 | nil => simp [sumW]
 | cons x l ih =>
   have h1 := ih fun y hy => h y (by simp [hy])
   have h2 := h x (by simp)
   simp only [sumW, List.map_cons, List.sum_cons, List.length_cons] at h1 ⊢
   omega
section
variable {w w' W : World} {d : DB} {q : Nat} {m : HM}
theorem d_used (T : DR w d q m) :
   Calls Tryz.prog 84 #[.pointer (some ⟨d.g, 0, none⟩)] w fun e w' => e = .returned (.int .i64 m.usedV) ∧ Kp [] w w' := by
 rw [used_sum T.lst T.inv]
 obtain ⟨A, cap, hov⟩ := T.o_len
 have hlen := T.len
 have HT := hid T
 have HOV := hid hov
 have HBD := hid (fun k => sumW_le (d.os.take k) fun x hx => by
   obtain ⟨i, hi⟩ := List.mem_iff_getElem?.1 (List.mem_of_mem_take hx)
   exact (T.ok hi).wd_bd.2.1)
 clear T hov
 go_enter Tryz.func84, Tryz.ntmps84
 go_wp2
 go_loopw [3, 4] (fun s c wr => ∃ k : Nat, k ≤ d.os.length ∧ c = .int .i64 (k : Int) ∧ s = .int .i64 ((sumW (d.os.take k) : Nat) : Int) ∧ Kp [] w wr) (fun _ c _ => d.os.length - (intOf c).toNat)
 case atStart => exact ⟨0, by omega, by simp, by simp [sumW], Kp.refl _ _⟩
 case round =>
   obtain ⟨k, hk, rfl, rfl, K⟩ := hrel
   have HTR := hid (HT.out.kp0 K)
   have hc1 := HTR.out.c1
   rw [HOV.out] at hc1
   have HKR := hid K
   have hsm := HBD.out k
   have hsm2 : sumW (d.os.take k) ≤ 1000000 := by
     rw [List.length_take] at hsm
     omega
   clear K hsm
   by_cases hlt : k < d.os.length
   · obtain ⟨x, hx⟩ := get_some hlt
     obtain ⟨g, cap', hov', _, _, _, hO, _⟩ := HTR.out.ocell hx
     rw [HOV.out] at hov'
     cases hov'
     have o2 := hO.c2
     have o3 := hO.c3
     have o4 := hO.c4
     have hok := HTR.out.ok hx
     have hwd := hok.wd_bd
     have HWD := hid (wordsI_ok hok)
     have HS := hid (sumW_take d.os k hx)
     generalize sumW (d.os.take k) = s1 at hsm2 HS ⊢
     clear hO hx hok
     go_wp2_with (first
       | (go_at_call 60; refine (d_made HTR.out).mono ?_; rintro e w' ⟨rfl, n1, rfl⟩)
       | (go_at_call 153; refine (r_words _ _ _ _).mono ?_; rintro e w5 ⟨rfl, K5⟩; rw [HWD.out]; have HK5 := hid ((Kp.draw wr _).chain K5); clear K5))
     go_roundw
     case rel => exact ⟨k + 1, by omega, by go_num, by rw [HS.out]; go_num, HKR.out.chain HK5.out⟩
     case measure => simp [intOf]; omega
   · obtain rfl : k = d.os.length := by omega
     rw [List.take_length] at hsm2 ⊢
     go_wp2_with (go_at_call 60; refine (d_made HTR.out).mono ?_; rintro e w' ⟨rfl, n1, rfl⟩)
     go_ret
     exact ⟨rfl, HKR.out.drewN _⟩
end
section
variable {w w' W : World} {d : DB} {q : Nat} {m : HM}
theorem d_gaps (T : DR w d q m) (i : Int) :
   Calls Tryz.prog 92 #[.pointer (some ⟨d.g, 0, none⟩), .int .i64 i] w (Grows w.heap.size w (m.gapL i)) := by
 have I := T.inv
 have hl64 := I.len64
 by_cases hb : inB m.bl.length i = true ∧ m.st i.toNat = 1
 · obtain ⟨k, rfl⟩ : ∃ k : Nat, i = (k : Int) := ⟨i.toNat, by have := of_decide_eq_true hb.1; omega⟩
   rw [Int.toNat_natCast] at hb
   have hk : k < m.bl.length := by have := of_decide_eq_true hb.1; omega
   have hst : (if inB m.bl.length (k : Int) = true then (m.st ((k : Int).toNat) : Int) else -1) = 1 := by rw [if_pos hb.1, Int.toNat_natCast, hb.2]; rfl
   have hgl : m.gapL (k : Int) = gapAdd (gpN m (m.objL (k : Int)) (64 * k) (m.objL (k : Int)).length).1 (gpN m (m.objL (k : Int)) (64 * k) (m.objL (k : Int)).length).2 (64 * (k + 1)) := by
     unfold HM.gapL
     rw [Int.toNat_natCast, if_pos ⟨hb.1, hb.2⟩]
   rw [hgl]
   obtain ⟨i0, hi0, hz0, hz1, hz2⟩ := info_parts infoRun
   have HSTV := hid hst
   have hend := gpN_end I hk hb.2
   have HEND := hid hend
   have hol : (m.objL (k : Int)).length ≤ 32 := by
     simp only [HM.objL, hb.1, if_true]
     exact fpL_le _ _ _
   have hk64 : k ≤ 64 := by omega
   have HBF := hid (fun i (hi : i < (m.objL (k : Int)).length) => gpN_before I hk hi)
   have HOA := hid (fun i (hi : i < (m.objL (k : Int)).length) => objL_at (m := m) (i := i) hk hi)
   have HLE := hid (fun j => gpN_le m (m.objL (k : Int)) (64 * k) j)
   have HSIZ := hid (fun a o (ho : m.ob a = some o) => (⟨I.hi ho, (I.ok _ _ ho).wd_bd⟩ : a + o.wd ≤ m.n ∧ _))
   have hmn : m.n ≤ 4096 := I.n_bd.2
   have hlen := T.len
   obtain ⟨A, cap, hov⟩ := T.o_len
   have HT := hid T
   have HOV := hid hov
   generalize hzs : m.objL (k : Int) = zs at HEND HBF HOA HLE hol ⊢
   have HZS := hid hzs
   clear hb hst hgl hend hzs T hov I
   go_enter Tryz.func92, Tryz.ntmps92
   go_wp2_with (go_at_call 88; refine (d_state HT.out _).mono ?_; rintro e w' ⟨rfl, n1, rfl⟩; rw [HSTV.out])
   refine (d_objects (HT.out.drewN _) _).mono ?_
   rintro e w3 ⟨v3, rfl, own3, bel3⟩
   rw [HZS.out] at own3
   have hbel : Below w.heap.size w w3 := (below_drewN (Below.refl _ w) n1).trans bel3
   have HB3 := hid hbel
   have HF3 := hid (FarI.of_own own3)
   obtain ⟨A3, cap3, rfl, hc3a, hc3b, _⟩ := FarI.of_own own3
   clear own3 bel3 hbel
   unfold maxLen at hc3b
   go_wp2
   go_loopw [5, 6, 8] (fun s a c wr => ∃ j : Nat, j ≤ zs.length ∧ c = .int .i64 (j : Int) ∧ a = .int .i64 ((gpN m zs (64 * k) j).2 : Int) ∧ wr.ownsRow w3.heap.size 76 2 s (gpN m zs (64 * k) j).1.length (rcells (gpN m zs (64 * k) j).1) ∧ Below w3.heap.size w3 wr) (fun _ _ c _ => zs.length - (intOf c).toNat)
   case atStart => exact ⟨0, by omega, rfl, by show _ = Value.int _ ((64 * k : Nat) : Int); congr 1; omega, ⟨rfl, .inl ⟨rfl, rfl⟩⟩, Below.refl _ _⟩
   case round =>
     obtain ⟨j, hj, rfl, rfl, own, bel⟩ := hrel
     have HO := hid own
     have HBE := hid bel
     clear own bel
     by_cases hlt : j < zs.length
     · have HTD : Hid (∀ V, Below w3.heap.size w3 V → DR V d q m) := fun V b => HT.out.kp0 (Kp.of_below (HB3.out.trans (below_mono b HB3.out.size)))
       obtain ⟨g3, rfl, hg3, hcell⟩ := (HF3.out.below HBE.out).at_ j hlt
       obtain ⟨a, o, ha, ho, ha1, ha2⟩ := HOA.out j hlt
       obtain ⟨ix, x, hix, hxa, hxo⟩ := HT.out.lst.get ho
       subst hxa hxo
       have hbf := HBF.out j hlt
       have hle := HLE.out j
       obtain ⟨hs1, hs2⟩ := HSIZ.out x.a x.o ho
       rw [ha] at hbf hcell
       rw [Int.toNat_natCast] at hbf
       have HZC : Hid (∀ V, Below w3.heap.size w3 V → V.cell? ⟨g3, j, none⟩ = some (.int .i64 (x.a : Int))) := fun V b => by
         obtain ⟨g', e1, _, h1⟩ := (HF3.out.below b).at_ j hlt
         injection e1 with e1; injection e1 with e1; subst e1
         rw [ha] at h1
         exact h1
       have hstep : gpN m zs (64 * k) (j + 1) = (gapAdd (gpN m zs (64 * k) j).1 (gpN m zs (64 * k) j).2 x.a, x.a + x.o.wd) := by
         show (gapAdd _ _ (zs.getD j 0).toNat, (zs.getD j 0).toNat + m.wdAt (zs.getD j 0).toNat) = _
         rw [ha, Int.toNat_natCast]
         unfold HM.wdAt
         rw [ho]
       have HSTEP := hid hstep
       have HWR : Hid (IntKind.i64.wrap ((x.a : Int) + (x.o.wd : Int)) = ((x.a + x.o.wd : Nat) : Int)) := by show _ = _; rw [IntKind.wrap_i64]; omega
       have HE := hid (HT.out.lst.ix_at hix)
       have HIX := hid hix
       have hil := (List.getElem?_eq_some_iff.1 hix).1
       have hw218 : x.o.wd ≤ 218 := hs2.2.1
       have HWD := hid (wordsI_ok (HT.out.ok hix))
       generalize (gpN m zs (64 * k) j).2 = at1 at hbf HSTEP HO ⊢
       generalize (gpN m zs (64 * k) j).1 = rs1 at hle HSTEP HO
       clear ha hs1 hs2 hstep ho hix
       by_cases hgp : at1 < x.a
       · have e1 : decide (at1 < x.a) = true := decide_eq_true (by omega)
         have HN : Hid _ := run_news wr (at1 : Int) ((x.a : Int) - (at1 : Int)) 0
         have NONE := run_news_one (at1 : Int) ((x.a : Int) - (at1 : Int))
         have HZ : Hid ((x.a : Int) - (at1 : Int) = ((x.a - at1 : Nat) : Int)) := by show _ = _; omega
         have HSZ : Hid (w3.heap.size ≤ wr.heap.size) := HBE.out.size
         have HGA : Hid (gapAdd rs1 at1 x.a = rs1 ++ [(at1, x.a - at1)]) := by show _ = _; unfold gapAdd; rw [if_neg (by omega)]
         have hga : ∀ V : World, wr.heap.size < V.heap.size → Below w3.heap.size w3 V → True := fun _ _ _ => trivial
         have hcell2 : ∀ n : Nat, ((wr.drewN n).alloc (.cells #[.int .i64 (at1 : Int), .int .i64 ((x.a : Int) - (at1 : Int))] 76)).cell? ⟨g3, j, none⟩ = some (.int .i64 (x.a : Int)) := fun n => kp_cellD ((Kp.draw wr n).chain (Kp.new _ _)) hcell
         clear hgp hga
         go_wp2_with (at_builtin; refine wpList_append_own _ rfl (.tmp 32) (.tmp 41) 73 rfl w3.heap.size 76 i0 (.agg #[.int .i64 0, .int .i64 0]) 2 16 Tryz.underlying73 hi0 hz0 hz1 hz2 rfl (by decide) _ _ _ rfl (HO.out.alloc _) ⟨wr.heap.size, 0, none⟩ 1 1 [.int .i64 (at1 : Int), .int .i64 ((x.a : Int) - (at1 : Int))] rfl rfl HN.out NONE (by unfold maxLen; omega) (by omega) (by have := HSZ.out; simp; omega) ?_; intro v' w5 hown' hgr hnil; have HO5' := hid hown'; have HG5 := hid hgr; clear hown' hgr hnil)
         obtain ⟨v5, e5, own5, bel5⟩ : Grows w3.heap.size wr (rs1 ++ [(at1, x.a - at1)]) (.returned v') w5 := by
           have h1 := HO5'.out
           have h2 := HG5.out
           rw [HZ.out] at h1 h2
           exact grows_end (n := 0) HSZ.out rfl HO.out h1 h2
         cases e5
         rw [← HGA.out] at own5
         have HO5 := hid own5
         have HB5 := hid (HBE.out.trans bel5)
         clear own5 bel5 hcell hcell2 HO5' HG5 HN NONE
         have HT5 := hid (HTD.out _ HB5.out)
         obtain ⟨go, cap', hov', _, _, _, hO, _⟩ := HT5.out.ocell HIX.out
         rw [HOV.out] at hov'
         cases hov'
         have hc1 := HT5.out.c1
         rw [HOV.out] at hc1
         have hz0 := HZC.out w5 HB5.out
         have o2 := hO.c2
         have o3 := hO.c3
         have o4 := hO.c4
         have s0 := kp_cellD (Kp.draw w5 1) hz0
         have s1 := kp_cellD (Kp.draw w5 1) hc1
         have s2 := kp_cellD (Kp.draw w5 1) o2
         have s3 := kp_cellD (Kp.draw w5 1) o3
         have s4 := kp_cellD (Kp.draw w5 1) o4
         clear hO
         go_wp2_with (fail)
         go_region_held3 (fun W => W.cell? ⟨g3, j, none⟩ = some (.int .i64 (x.a : Int)) ∧ W.cell? ⟨d.g, 1, none⟩ = some (.slice (some ⟨go, 0, none⟩) d.os.length cap) ∧ W.cell? ⟨go, ix * 8 + 2, none⟩ = some (.int .i64 (x.o.refs : Int)) ∧ W.cell? ⟨go, ix * 8 + 3, none⟩ = some (.int .i64 (x.o.data : Int)) ∧ W.cell? ⟨go, ix * 8 + 4, none⟩ = some (.int .i64 (x.o.kind : Int))) (go_keep)
           (first
             | (go_at_call 153; refine (r_words _ _ _ _).mono ?_; rintro e w7 ⟨rfl, K7⟩; rw [HWD.out]; have hk7 : Kp [] w5 w7 := (Kp.chain (by first | exact Kp.draw _ _ | exact (Kp.draw w5 1).drewN _ | exact kp_drew_n (Kp.refl _ _)) K7); have HK7 := hid hk7; clear hk7; have u0 := kp_cellD K7 (by first | exact s0 | exact kp_cellD (Kp.draw _ _) s0); have u1 := kp_cellD K7 (by first | exact s1 | exact kp_cellD (Kp.draw _ _) s1); have u2 := kp_cellD K7 (by first | exact s2 | exact kp_cellD (Kp.draw _ _) s2); have u3 := kp_cellD K7 (by first | exact s3 | exact kp_cellD (Kp.draw _ _) s3); have u4 := kp_cellD K7 (by first | exact s4 | exact kp_cellD (Kp.draw _ _) s4); clear K7)
             | (go_at_call 141; refine (d_index (HT5.out.kp0 (Kp.draw _ 1)) _).mono ?_; rintro e w6 ⟨rfl, n6, rfl⟩; rw [HE.out]))
         all_goals (
           go_wp2
           go_roundw
           case rel => exact ⟨j + 1, by omega, by go_num, by rw [HSTEP.out, HWR.out], by rw [HSTEP.out]; exact own_kp0 HO5.out HK7.out, HB5.out.trans (HK7.out.below HB5.out.size (by simp))⟩
           case measure => simp [intOf]; omega)
       · obtain rfl : at1 = x.a := by omega
         have e1 : decide ((x.a : Int) < (x.a : Int)) = false := decide_eq_false (by omega)
         have HGA : Hid (gapAdd rs1 x.a x.a = rs1) := by show _ = _; unfold gapAdd; rw [if_pos rfl]
         have ho5 := HO.out
         rw [← HGA.out] at ho5
         have HO5 := hid ho5
         clear ho5
         have HB5 := hid HBE.out
         clear hgp hcell
         have hcell := HZC.out wr HBE.out
         go_wp2_with (fail)
         clear hcell
         have HT5 := hid (HTD.out _ HB5.out)
         obtain ⟨go, cap', hov', _, _, _, hO, _⟩ := HT5.out.ocell HIX.out
         rw [HOV.out] at hov'
         cases hov'
         have hc1 := HT5.out.c1
         rw [HOV.out] at hc1
         have hz0 := HZC.out wr HB5.out
         have o2 := hO.c2
         have o3 := hO.c3
         have o4 := hO.c4
         have s0 := kp_cellD (Kp.draw wr 1) hz0
         have s1 := kp_cellD (Kp.draw wr 1) hc1
         have s2 := kp_cellD (Kp.draw wr 1) o2
         have s3 := kp_cellD (Kp.draw wr 1) o3
         have s4 := kp_cellD (Kp.draw wr 1) o4
         clear hO
         go_region_held3 (fun W => W.cell? ⟨g3, j, none⟩ = some (.int .i64 (x.a : Int)) ∧ W.cell? ⟨d.g, 1, none⟩ = some (.slice (some ⟨go, 0, none⟩) d.os.length cap) ∧ W.cell? ⟨go, ix * 8 + 2, none⟩ = some (.int .i64 (x.o.refs : Int)) ∧ W.cell? ⟨go, ix * 8 + 3, none⟩ = some (.int .i64 (x.o.data : Int)) ∧ W.cell? ⟨go, ix * 8 + 4, none⟩ = some (.int .i64 (x.o.kind : Int))) (go_keep)
           (first
             | (go_at_call 153; refine (r_words _ _ _ _).mono ?_; rintro e w7 ⟨rfl, K7⟩; rw [HWD.out]; have hk7 : Kp [] wr w7 := (Kp.chain (by first | exact Kp.draw _ _ | exact (Kp.draw wr 1).drewN _ | exact kp_drew_n (Kp.refl _ _)) K7); have HK7 := hid hk7; clear hk7; have u0 := kp_cellD K7 (by first | exact s0 | exact kp_cellD (Kp.draw _ _) s0); have u1 := kp_cellD K7 (by first | exact s1 | exact kp_cellD (Kp.draw _ _) s1); have u2 := kp_cellD K7 (by first | exact s2 | exact kp_cellD (Kp.draw _ _) s2); have u3 := kp_cellD K7 (by first | exact s3 | exact kp_cellD (Kp.draw _ _) s3); have u4 := kp_cellD K7 (by first | exact s4 | exact kp_cellD (Kp.draw _ _) s4); clear K7)
             | (go_at_call 141; refine (d_index (HT5.out.kp0 (Kp.draw _ 1)) _).mono ?_; rintro e w6 ⟨rfl, n6, rfl⟩; rw [HE.out]))
         all_goals (
           go_wp2
           go_roundw
           case rel => exact ⟨j + 1, by omega, by go_num, by rw [HSTEP.out, HWR.out], by rw [HSTEP.out]; exact own_kp0 HO5.out HK7.out, HB5.out.trans (HK7.out.below HB5.out.size (by simp))⟩
           case measure => simp [intOf]; omega)
     · obtain rfl : j = zs.length := by omega
       have hle := HLE.out zs.length
       have hend := HEND.out
       generalize h1 : (gpN m zs (64 * k) zs.length).2 = at1 at hend HO ⊢
       generalize h2 : (gpN m zs (64 * k) zs.length).1 = rs1 at hle HO ⊢
       have HA1 := hid h1
       have HR1 := hid h2
       have HSZ : Hid (w3.heap.size ≤ wr.heap.size) := HBE.out.size
       have hcast : ((k : Int) + 1) * 64 = ((64 * (k + 1) : Nat) : Int) := by omega
       clear h1 h2
       by_cases hgp : at1 < 64 * (k + 1)
       · have e1 : decide ((at1 : Int) < ((k : Int) + 1) * 64) = true := decide_eq_true (by omega)
         have HN : Hid _ := run_news wr (at1 : Int) (((k : Int) + 1) * 64 - (at1 : Int)) 0
         have NONE := run_news_one (at1 : Int) (((k : Int) + 1) * 64 - (at1 : Int))
         have HZ : Hid (((k : Int) + 1) * 64 - (at1 : Int) = ((64 * (k + 1) - at1 : Nat) : Int)) := by show _ = _; omega
         have HGA : Hid (gapAdd rs1 at1 (64 * (k + 1)) = rs1 ++ [(at1, 64 * (k + 1) - at1)]) := by show _ = _; unfold gapAdd; rw [if_neg (by omega)]
         clear hgp hcast
         go_wp2_with (at_builtin; refine wpList_append_own _ rfl (.tmp 68) (.tmp 74) 73 rfl w3.heap.size 76 i0 (.agg #[.int .i64 0, .int .i64 0]) 2 16 Tryz.underlying73 hi0 hz0 hz1 hz2 rfl (by decide) _ _ _ rfl (HO.out.alloc _) ⟨wr.heap.size, 0, none⟩ 1 1 [.int .i64 (at1 : Int), .int .i64 (((k : Int) + 1) * 64 - (at1 : Int))] rfl rfl HN.out NONE (by unfold maxLen; omega) (by omega) (by have := HSZ.out; simp; omega) ?_; intro v' w5 hown' hgr hnil; have HO5' := hid hown'; have HG5 := hid hgr; clear hown' hgr hnil)
         go_ret
         obtain ⟨v5, e5, own5, bel5⟩ : Grows w3.heap.size wr (rs1 ++ [(at1, 64 * (k + 1) - at1)]) (.returned v') w5 := by
           have h1 := HO5'.out
           have h2 := HG5.out
           rw [HZ.out] at h1 h2
           exact grows_end (n := 0) HSZ.out rfl HO.out h1 h2
         cases e5
         rw [HA1.out, HR1.out, HGA.out]
         exact ⟨_, rfl, own_base own5 HB3.out.size, HB3.out.trans (below_mono (HBE.out.trans bel5) HB3.out.size)⟩
       · obtain hat : at1 = 64 * (k + 1) := by omega
         have e1 : decide ((at1 : Int) < ((k : Int) + 1) * 64) = false := decide_eq_false (by omega)
         have HGA : Hid (gapAdd rs1 at1 (64 * (k + 1)) = rs1) := by show _ = _; unfold gapAdd; rw [if_pos hat]
         clear hgp hat hcast
         go_wp2
         go_ret
         rw [HA1.out, HR1.out, HGA.out]
         exact ⟨_, rfl, own_base HO.out HB3.out.size, HB3.out.trans (below_mono HBE.out HB3.out.size)⟩
 · have e : m.gapL i = [] := by unfold HM.gapL; rw [if_neg hb]
   rw [e]
   have hst : ((if inB m.bl.length i = true then (m.st i.toNat : Int) else -1) != 1) = true := by
     rw [bne_iff_ne]
     split
     · rename_i h1
       have : ¬ m.st i.toNat = 1 := fun h2 => hb ⟨h1, h2⟩
       omega
     · omega
   generalize hx : (if inB m.bl.length i = true then (m.st i.toNat : Int) else -1) = x at hst
   have HX := hid hx
   have HT := hid T
   clear hb e hx T I
   go_enter Tryz.func92, Tryz.ntmps92
   go_wp2_with (go_at_call 88; refine (d_state HT.out _).mono ?_; rintro e w' ⟨rfl, n1, rfl⟩; rw [HX.out])
   go_ret
   exact ⟨_, rfl, ⟨rfl, .inl ⟨rfl, rfl⟩⟩, below_drewN (Below.refl _ _) _⟩
end
end Go.Proofs.YthndilllnneijaaGreat
