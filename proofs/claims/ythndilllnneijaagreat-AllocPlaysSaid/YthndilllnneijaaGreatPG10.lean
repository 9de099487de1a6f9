/-
  The contracts of the document's heap's small readers: Made, block, space, Whole, State, Space, Blocks, Births, word, Index, lacks, Has. Conditions: those that stand in each theorem.
-/
import Derived.Test.YthndilllnneijaaGreatPG9
set_option linter.unusedSimpArgs false
set_option linter.unusedVariables false
set_option maxHeartbeats 1000000
namespace Go.Proofs.YthndilllnneijaaGreat
open Go.RowKit Go.Deep Go.Maps
def ixI (l : List DO) (a : Int) : Int := match leastN (fun i => decide (((l.getD i DO.z).a : Int) = a)) l.length with
 | some i => (i : Int)
 | none => -1
theorem getD_some {l : List DO} {i : Nat} {x : DO} (h : l[i]? = some x) : l.getD i DO.z = x := by rw [List.getD_eq_getElem?_getD, h]; rfl
theorem get_some {l : List DO} {i : Nat} (h : i < l.length) : ∃ x, l[i]? = some x := ⟨_, List.getElem?_eq_getElem h⟩
theorem ixI_some {l : List DO} {a : Int} {i : Nat} {x : DO} (h : l[i]? = some x) (hx : (x.a : Int) = a) (hn : ∀ j, j < i → ∀ y, l[j]? = some y → (y.a : Int) ≠ a) : ixI l a = (i : Int) := by
 have hi := (List.getElem?_eq_some_iff.1 h).1
 have : leastN (fun i => decide (((l.getD i DO.z).a : Int) = a)) l.length = some i := by
   rw [leastN_iff]
   refine ⟨hi, by simp only [getD_some h]; exact decide_eq_true hx, fun j hj => decide_eq_false ?_⟩
   obtain ⟨y, hy⟩ := get_some (l := l) (i := j) (by omega)
   rw [getD_some hy]
   exact hn j hj y hy
 unfold ixI
 rw [this]
theorem ixI_none {l : List DO} {a : Int} (hn : ∀ j, j < l.length → ∀ y, l[j]? = some y → (y.a : Int) ≠ a) : ixI l a = -1 := by
 have : leastN (fun i => decide (((l.getD i DO.z).a : Int) = a)) l.length = none := by
   rw [leastN_none_iff]
   intro j hj
   obtain ⟨y, hy⟩ := get_some hj
   refine decide_eq_false ?_
   rw [getD_some hy]
   exact hn j hj y hy
 unfold ixI
 rw [this]
theorem Lst.ix {l : List DO} {m : HM} (L : Lst l m) {a : Int} (h : m.has a = true) : ∃ (i : Nat) (x : DO), l[i]? = some x ∧ (x.a : Int) = a ∧ ixI l a = (i : Int) ∧ m.ob a.toNat = some x.o := by
 obtain ⟨k, o, rfl, ho⟩ := has_nat h
 obtain ⟨i, x, hi, h1, h2⟩ := L.get ho
 refine ⟨i, x, hi, by omega, ixI_some hi (by omega) fun j hj y hy he => ?_, by rw [Int.toNat_natCast, ho, h2]⟩
 have := L.inj hy hi (by omega)
 omega
theorem Lst.ix_none {l : List DO} {m : HM} (L : Lst l m) {a : Int} (h : m.has a = false) : ixI l a = -1 := by
 refine ixI_none fun j hj y hy he => ?_
 rw [← he, has_of (L.ob hy)] at h
 cases h
theorem Lst.ix_at {l : List DO} {m : HM} (L : Lst l m) {i : Nat} {x : DO} (h : l[i]? = some x) : ixI l (x.a : Int) = (i : Int) :=
 ixI_some h rfl fun j hj y hy he => by have := L.inj hy h (by omega); omega
def wholeN (bl : List (Nat × Nat)) (b : Nat) : Nat := if (bl.getD b (0, 0)).1 = 1 then 1 else if (bl.getD b (0, 0)).1 = 2 then grpEnd bl b - b else 0
section
variable {w w' W : World} {d : DB} {q : Nat} {m : HM}
theorem d_made (T : DR w d q m) :
   Calls Tryz.prog 60 #[.pointer (some ⟨d.g, 0, none⟩)] w fun e w' => e = .returned (.bool true) ∧ ∃ n, w' = w.drewN n := by
 have hc := T.c0
 obtain ⟨h1, h2, h3, h4⟩ := T.n_bd
 have hp3 : 0 < m.bl.length := by omega
 clear T
 go_enter Tryz.func60, Tryz.ntmps60
 go_wp2
 go_ret
 exact ⟨rfl, 0, rfl⟩
theorem d_block (T : DR w d q m) (i : Int) :
   Calls Tryz.prog 132 #[.pointer (some ⟨d.g, 0, none⟩), .int .i64 i] w fun e w' => e = .returned (.bool (blkB m.bl.length i)) ∧ ∃ n, w' = w.drewN n := by
 have hc := T.c0
 obtain ⟨h1, h2, h3, h4⟩ := T.n_bd
 clear T
 by_cases c1 : 1 ≤ i
 · by_cases c2 : i < (m.bl.length : Int)
   · rw [show blkB m.bl.length i = true from decide_eq_true ⟨c1, c2⟩]
     have e1 : decide (1 ≤ i) = true := decide_eq_true c1
     have e2 : decide (i < (m.bl.length : Int)) = true := decide_eq_true c2
     clear c1 c2
     go_enter Tryz.func132, Tryz.ntmps132
     go_wp2
     repeat (go_quiet (fail); go_wp2)
     go_ret
     exact ⟨rfl, by first | exact ⟨_, rfl⟩ | exact ⟨0, rfl⟩⟩
   · rw [show blkB m.bl.length i = false from decide_eq_false (by omega)]
     have e1 : decide (1 ≤ i) = true := decide_eq_true c1
     have e2 : decide (i < (m.bl.length : Int)) = false := decide_eq_false c2
     clear c1 c2
     go_enter Tryz.func132, Tryz.ntmps132
     go_wp2
     repeat (go_quiet (fail); go_wp2)
     go_ret
     exact ⟨rfl, by first | exact ⟨_, rfl⟩ | exact ⟨0, rfl⟩⟩
 · rw [show blkB m.bl.length i = false from decide_eq_false (by omega)]
   have e1 : decide (1 ≤ i) = false := decide_eq_false c1
   clear c1
   go_enter Tryz.func132, Tryz.ntmps132
   go_wp2
   repeat (go_quiet (fail); go_wp2)
   go_ret
   exact ⟨rfl, by first | exact ⟨_, rfl⟩ | exact ⟨0, rfl⟩⟩
theorem d_word (T : DR w d q m) (i : Int) :
   Calls Tryz.prog 147 #[.pointer (some ⟨d.g, 0, none⟩), .int .i64 i] w fun e w' => e = .returned (.bool (inB m.n i)) ∧ ∃ n, w' = w.drewN n := by
 have hc := T.c0
 obtain ⟨h1, h2, h3, h4⟩ := T.n_bd
 have hn : m.n = 64 * m.bl.length := rfl
 have hz : (m.bl.length : Int) * 64 = (m.n : Int) := by rw [hn]; omega
 have HN := hid hn
 clear T hn
 by_cases c1 : 0 ≤ i
 · by_cases c2 : i < (m.n : Int)
   · rw [show inB m.n i = true from decide_eq_true ⟨c1, c2⟩]
     have e1 : decide (0 ≤ i) = true := decide_eq_true c1
     have e2 : decide (i < (m.bl.length : Int) * 64) = true := decide_eq_true (by rw [hz]; exact c2)
     clear c1 c2 hz
     go_enter Tryz.func147, Tryz.ntmps147
     go_wp2
     repeat (go_quiet (fail); go_wp2)
     go_ret
     exact ⟨rfl, by first | exact ⟨_, rfl⟩ | exact ⟨0, rfl⟩⟩
   · rw [show inB m.n i = false from decide_eq_false (by omega)]
     have e1 : decide (0 ≤ i) = true := decide_eq_true c1
     have e2 : decide (i < (m.bl.length : Int) * 64) = false := decide_eq_false (by rw [hz]; exact c2)
     clear c1 c2 hz
     go_enter Tryz.func147, Tryz.ntmps147
     go_wp2
     repeat (go_quiet (fail); go_wp2)
     go_ret
     exact ⟨rfl, by first | exact ⟨_, rfl⟩ | exact ⟨0, rfl⟩⟩
 · rw [show inB m.n i = false from decide_eq_false (by omega)]
   have e1 : decide (0 ≤ i) = false := decide_eq_false c1
   clear c1 hz
   go_enter Tryz.func147, Tryz.ntmps147
   go_wp2
   repeat (go_quiet (fail); go_wp2)
   go_ret
   exact ⟨rfl, by first | exact ⟨_, rfl⟩ | exact ⟨0, rfl⟩⟩
theorem d_space (w : World) (i : Int) :
   Calls Tryz.prog 133 #[.int .i64 i] w fun e w' => e = .returned (.bool (spcB i)) ∧ ∃ n, w' = w.drewN n := by
 by_cases c1 : 0 ≤ i
 · by_cases c2 : i < 8
   · rw [show spcB i = true from decide_eq_true ⟨c1, c2⟩]
     have e1 : decide (0 ≤ i) = true := decide_eq_true c1
     have e2 : decide (i < 8) = true := decide_eq_true c2
     clear c1 c2
     go_enter Tryz.func133, Tryz.ntmps133
     go_wp2
     repeat (go_quiet (fail); go_wp2)
     go_ret
     exact ⟨rfl, by first | exact ⟨_, rfl⟩ | exact ⟨0, rfl⟩⟩
   · rw [show spcB i = false from decide_eq_false (by omega)]
     have e1 : decide (0 ≤ i) = true := decide_eq_true c1
     have e2 : decide (i < 8) = false := decide_eq_false c2
     clear c1 c2
     go_enter Tryz.func133, Tryz.ntmps133
     go_wp2
     repeat (go_quiet (fail); go_wp2)
     go_ret
     exact ⟨rfl, by first | exact ⟨_, rfl⟩ | exact ⟨0, rfl⟩⟩
 · rw [show spcB i = false from decide_eq_false (by omega)]
   have e1 : decide (0 ≤ i) = false := decide_eq_false c1
   clear c1
   go_enter Tryz.func133, Tryz.ntmps133
   go_wp2
   repeat (go_quiet (fail); go_wp2)
   go_ret
   exact ⟨rfl, by first | exact ⟨_, rfl⟩ | exact ⟨0, rfl⟩⟩
theorem d_whole (T : DR w d q m) (i : Nat) (hi : i < m.bl.length) :
   Calls Tryz.prog 134 #[.pointer (some ⟨d.g, 0, none⟩), .int .i64 (i : Int)] w fun e w' => e = .returned (.int .i64 ((wholeN m.bl i : Nat) : Int)) ∧ ∃ n, w' = w.drewN n := by
 have hc := T.c0
 have hs := T.stc hi
 obtain ⟨h1, h2, h3, h4⟩ := T.n_bd
 have HS := hid (fun k (hk : k < m.bl.length) => T.stc hk)
 clear T
 by_cases s1 : (m.bl.getD i (0, 0)).1 = 1
 · rw [show wholeN m.bl i = 1 by unfold wholeN; rw [if_pos s1]]
   rw [s1] at hs
   clear s1
   go_enter Tryz.func134, Tryz.ntmps134
   go_wp2
   go_ret
   exact ⟨rfl, by first | exact ⟨_, rfl⟩ | exact ⟨0, rfl⟩⟩
 · by_cases s2 : (m.bl.getD i (0, 0)).1 = 2
   · have HW : Hid (wholeN m.bl i = grpEnd m.bl i - i) := by show _ = _; unfold wholeN; rw [if_neg s1, if_pos s2]
     rw [s2] at hs
     clear s1 s2
     go_enter Tryz.func134, Tryz.ntmps134
     go_wp2
     go_loop [5] (fun c => ∃ k : Nat, 1 ≤ k ∧ i + k ≤ m.bl.length ∧ Hid (∀ j, i + 1 ≤ j → j < i + k → (m.bl.getD j (0, 0)).1 = 3) ∧ c = .int .i64 (k : Int)) (fun c => m.bl.length - i - (intOf c).toNat)
     case atStart => exact ⟨1, by omega, by omega, (fun j h1 h2 => absurd h2 (by omega)), by go_num⟩
     case round =>
       obtain ⟨k, hk1, hk2, HK, rfl⟩ := hrel
       by_cases hlt : i + k < m.bl.length
       · have hs := HS.out (i + k) hlt
         by_cases h3 : (m.bl.getD (i + k) (0, 0)).1 = 3
         · have HK' : Hid (∀ j, i + 1 ≤ j → j < i + (k + 1) → (m.bl.getD j (0, 0)).1 = 3) := fun j h1 h2 => by
             by_cases hj : j < i + k
             · exact HK.out j h1 hj
             · obtain rfl : j = i + k := by omega
               exact h3
           rw [h3] at hs
           clear h3
           go_wp2
           go_round
           case rel => exact ⟨k + 1, by omega, by omega, HK', by go_num⟩
           case measure => simp [intOf]; omega
         · have HE : Hid (grpEnd m.bl i = i + k) := (grpEnd_iff _ _ _ hi).2 ⟨by omega, hk2, HK.out, fun _ => h3⟩
           generalize (m.bl.getD (i + k) (0, 0)).1 = s at hs h3
           have e2 : ((s : Int) == 3) = false := beq_eq_false_iff_ne.2 (by omega)
           clear h3
           go_wp2
           go_ret
           rw [HW.out, HE.out, Nat.add_sub_cancel_left]
           exact ⟨rfl, by first | exact ⟨_, rfl⟩ | exact ⟨0, rfl⟩⟩
       · have HE : Hid (grpEnd m.bl i = i + k) := (grpEnd_iff _ _ _ hi).2 ⟨by omega, hk2, HK.out, fun h => absurd h (by omega)⟩
         go_wp2
         go_ret
         rw [HW.out, HE.out, Nat.add_sub_cancel_left]
         exact ⟨rfl, by first | exact ⟨_, rfl⟩ | exact ⟨0, rfl⟩⟩
   · rw [show wholeN m.bl i = 0 by unfold wholeN; rw [if_neg s1, if_neg s2]]
     generalize (m.bl.getD i (0, 0)).1 = s at hs s1 s2
     have e1 : ((s : Int) == 1) = false := beq_eq_false_iff_ne.2 (by omega)
     have e2 : ((s : Int) == 2) = false := beq_eq_false_iff_ne.2 (by omega)
     clear s1 s2
     go_enter Tryz.func134, Tryz.ntmps134
     go_wp2
     go_ret
     exact ⟨rfl, by first | exact ⟨_, rfl⟩ | exact ⟨0, rfl⟩⟩
theorem d_blocks (T : DR w d q m) :
   Calls Tryz.prog 81 #[.pointer (some ⟨d.g, 0, none⟩)] w fun e w' => e = .returned (.int .i64 (m.bl.length : Int)) ∧ ∃ n, w' = w.drewN n := by
 have hc := T.c0
 have HT := hid T
 clear T
 go_enter Tryz.func81, Tryz.ntmps81
 go_wp2_with (go_at_call 60; refine (d_made HT.out).mono ?_; rintro e w' ⟨rfl, n1, rfl⟩)
 go_ret
 exact ⟨rfl, _, rfl⟩
theorem d_births (T : DR w d q m) :
   Calls Tryz.prog 82 #[.pointer (some ⟨d.g, 0, none⟩)] w fun e w' => e = .returned (.int .i64 (m.born : Int)) ∧ ∃ n, w' = w.drewN n := by
 have hc := T.c3
 have HT := hid T
 clear T
 go_enter Tryz.func82, Tryz.ntmps82
 go_wp2_with (go_at_call 60; refine (d_made HT.out).mono ?_; rintro e w' ⟨rfl, n1, rfl⟩)
 go_ret
 exact ⟨rfl, _, rfl⟩
theorem d_state (T : DR w d q m) (i : Int) :
   Calls Tryz.prog 88 #[.pointer (some ⟨d.g, 0, none⟩), .int .i64 i] w fun e w' => e = .returned (.int .i64 (if inB m.bl.length i then (m.st i.toNat : Int) else -1)) ∧ ∃ n, w' = w.drewN n := by
 have hc := T.c0
 obtain ⟨h1, h2, h3, h4⟩ := T.n_bd
 have HT := hid T
 by_cases c1 : 0 ≤ i
 · have e1 : decide (i < 0) = false := decide_eq_false (by omega)
   by_cases c2 : i < (m.bl.length : Int)
   · obtain ⟨i, rfl⟩ : ∃ k : Nat, i = (k : Int) := ⟨i.toNat, by omega⟩
     rw [if_pos (show inB m.bl.length (i : Int) = true from decide_eq_true ⟨c1, c2⟩)]
     have hs := T.stc (k := i) (by omega)
     have hst : m.st (i : Int).toNat = (m.bl.getD i (0, 0)).1 := rfl
     rw [hst]
     generalize (m.bl.getD i (0, 0)).1 = s at hs ⊢
     clear T hst
     go_enter Tryz.func88, Tryz.ntmps88
     go_wp2_with (go_at_call 60; refine (d_made HT.out).mono ?_; rintro e w' ⟨rfl, n1, rfl⟩)
     go_ret
     exact ⟨rfl, _, rfl⟩
   · rw [if_neg (show ¬ inB m.bl.length i = true by simp [inB]; omega)]
     clear T
     go_enter Tryz.func88, Tryz.ntmps88
     go_wp2_with (go_at_call 60; refine (d_made HT.out).mono ?_; rintro e w' ⟨rfl, n1, rfl⟩)
     go_ret
     exact ⟨rfl, _, rfl⟩
 · rw [if_neg (show ¬ inB m.bl.length i = true by simp [inB]; omega)]
   have e1 : decide (i < 0) = true := decide_eq_true (by omega)
   clear T
   go_enter Tryz.func88, Tryz.ntmps88
   go_wp2_with (go_at_call 60; refine (d_made HT.out).mono ?_; rintro e w' ⟨rfl, n1, rfl⟩)
   go_ret
   exact ⟨rfl, _, rfl⟩
theorem d_spaceOf (T : DR w d q m) (i : Int) :
   Calls Tryz.prog 89 #[.pointer (some ⟨d.g, 0, none⟩), .int .i64 i] w fun e w' => e = .returned (.int .i64 (if inB m.bl.length i then (m.sp i.toNat : Int) else -1)) ∧ ∃ n, w' = w.drewN n := by
 have hc := T.c0
 obtain ⟨h1, h2, h3, h4⟩ := T.n_bd
 have HT := hid T
 by_cases c1 : 0 ≤ i
 · have e1 : decide (i < 0) = false := decide_eq_false (by omega)
   by_cases c2 : i < (m.bl.length : Int)
   · obtain ⟨i, rfl⟩ : ∃ k : Nat, i = (k : Int) := ⟨i.toNat, by omega⟩
     rw [if_pos (show inB m.bl.length (i : Int) = true from decide_eq_true ⟨c1, c2⟩)]
     have hs := T.spc (k := i) (by omega)
     have hst : m.sp (i : Int).toNat = (m.bl.getD i (0, 0)).2 := rfl
     rw [hst]
     generalize (m.bl.getD i (0, 0)).2 = s at hs ⊢
     clear T hst
     go_enter Tryz.func89, Tryz.ntmps89
     go_wp2_with (go_at_call 60; refine (d_made HT.out).mono ?_; rintro e w' ⟨rfl, n1, rfl⟩)
     go_ret
     exact ⟨rfl, _, rfl⟩
   · rw [if_neg (show ¬ inB m.bl.length i = true by simp [inB]; omega)]
     clear T
     go_enter Tryz.func89, Tryz.ntmps89
     go_wp2_with (go_at_call 60; refine (d_made HT.out).mono ?_; rintro e w' ⟨rfl, n1, rfl⟩)
     go_ret
     exact ⟨rfl, _, rfl⟩
 · rw [if_neg (show ¬ inB m.bl.length i = true by simp [inB]; omega)]
   have e1 : decide (i < 0) = true := decide_eq_true (by omega)
   clear T
   go_enter Tryz.func89, Tryz.ntmps89
   go_wp2_with (go_at_call 60; refine (d_made HT.out).mono ?_; rintro e w' ⟨rfl, n1, rfl⟩)
   go_ret
   exact ⟨rfl, _, rfl⟩
theorem d_index (T : DR w d q m) (a : Int) :
   Calls Tryz.prog 141 #[.pointer (some ⟨d.g, 0, none⟩), .int .i64 a] w fun e w' => e = .returned (.int .i64 (ixI d.os a)) ∧ ∃ n, w' = w.drewN n := by
 have hc1 := T.c1
 obtain ⟨A, cap, hov⟩ := T.o_len
 rw [hov] at hc1
 have hlen := T.len
 have HT := hid T
 have HOC : Hid (∀ i x, d.os[i]? = some x → ∃ g, A = some ⟨g, 0, none⟩ ∧ OCell w g i x) := fun i x hx => by
   obtain ⟨g, cap', hv, _, _, _, hO, _⟩ := T.ocell hx
   rw [hov] at hv
   injection hv with hv
   exact ⟨g, hv, hO⟩
 clear T hov
 go_enter Tryz.func141, Tryz.ntmps141
 go_wp2_with (go_at_call 60; refine (d_made HT.out).mono ?_; rintro e w' ⟨rfl, n1, rfl⟩)
 go_loop [5] (fun c => ∃ k : Nat, k ≤ d.os.length ∧ Hid (∀ j, j < k → ∀ y, d.os[j]? = some y → (y.a : Int) ≠ a) ∧ c = .int .i64 (k : Int)) (fun c => d.os.length - (intOf c).toNat)
 case atStart => exact ⟨0, by omega, (fun j h1 => absurd h1 (by omega)), by go_num⟩
 case round =>
   obtain ⟨k, hk, HK, rfl⟩ := hrel
   by_cases hlt : k < d.os.length
   · obtain ⟨x, hx⟩ := get_some hlt
     obtain ⟨g, rfl, hO⟩ := HOC.out k x hx
     have o0 := hO.c0
     clear hO
     by_cases he : (x.a : Int) = a
     · have HE : Hid (ixI d.os a = (k : Int)) := ixI_some hx he HK.out
       have e2 : ((x.a : Int) == a) = true := beq_iff_eq.2 he
       have HX := hid hx
       clear he hx
       go_wp2
       go_ret
       rw [HE.out]
       exact ⟨rfl, by first | exact ⟨_, rfl⟩ | exact ⟨0, rfl⟩⟩
     · have HK' : Hid (∀ j, j < k + 1 → ∀ y, d.os[j]? = some y → (y.a : Int) ≠ a) := fun j h1 y hy => by
         by_cases hj : j < k
         · exact HK.out j hj y hy
         · obtain rfl : j = k := by omega
           rw [hx] at hy
           cases hy
           exact he
       have e2 : ((x.a : Int) == a) = false := beq_eq_false_iff_ne.2 he
       clear he hx
       go_wp2
       go_round
       case rel => exact ⟨k + 1, by omega, HK', by go_num⟩
       case measure => simp [intOf]; omega
   · obtain rfl : k = d.os.length := by omega
     have HE : Hid (ixI d.os a = -1) := ixI_none HK.out
     go_wp2
     go_ret
     rw [HE.out]
     exact ⟨rfl, by first | exact ⟨_, rfl⟩ | exact ⟨0, rfl⟩⟩
theorem d_lacks (T : DR w d q m) (a : Int) :
   Calls Tryz.prog 139 #[.pointer (some ⟨d.g, 0, none⟩), .int .i64 a] w fun e w' => e = .returned (.int .i64 (m.lackE a)) ∧ ∃ n, w' = w.drewN n := by
 have HT := hid T
 rcases hh : m.has a
 · have e1 : m.lackE a = 4 := by simp [HM.lackE, hh]
   rw [e1]
   have HE := hid (T.lst.ix_none hh)
   clear T e1 hh
   go_enter Tryz.func139, Tryz.ntmps139
   go_wp2_with (first
     | (go_at_call 60; refine (d_made HT.out).mono ?_; rintro e w' ⟨rfl, n1, rfl⟩)
     | (go_at_call 141; refine (d_index (HT.out.drewN n1) a).mono ?_; rintro e w' ⟨rfl, n2, rfl⟩; rw [HE.out]))
   go_ret
   exact ⟨rfl, n1 + n2, by first | rfl | simp [World.drewN] | (simp [World.drewN]; omega)⟩
 · have e1 : m.lackE a = 0 := by simp [HM.lackE, hh]
   rw [e1]
   obtain ⟨i, x, hi, hx, hix, ho⟩ := T.lst.ix hh
   have hlen := T.len
   have hil := (List.getElem?_eq_some_iff.1 hi).1
   have HE := hid hix
   clear T e1 hh hi hx hix ho
   go_enter Tryz.func139, Tryz.ntmps139
   go_wp2_with (first
     | (go_at_call 60; refine (d_made HT.out).mono ?_; rintro e w' ⟨rfl, n1, rfl⟩)
     | (go_at_call 141; refine (d_index (HT.out.drewN n1) a).mono ?_; rintro e w' ⟨rfl, n2, rfl⟩; rw [HE.out]))
   go_ret
   exact ⟨rfl, n1 + n2, by first | rfl | simp [World.drewN] | (simp [World.drewN]; omega)⟩
theorem d_has (T : DR w d q m) (a : Int) :
   Calls Tryz.prog 144 #[.pointer (some ⟨d.g, 0, none⟩), .int .i64 a] w fun e w' => e = .returned (.bool (m.has a)) ∧ ∃ n, w' = w.drewN n := by
 have HT := hid T
 rcases hh : m.has a
 · have HE := hid (T.lst.ix_none hh)
   clear T hh
   go_enter Tryz.func144, Tryz.ntmps144
   go_wp2_with (go_at_call 141; refine (d_index HT.out a).mono ?_; rintro e w' ⟨rfl, n2, rfl⟩; rw [HE.out])
   go_ret
   exact ⟨rfl, _, rfl⟩
 · obtain ⟨i, x, hi, hx, hix, ho⟩ := T.lst.ix hh
   have hlen := T.len
   have hil := (List.getElem?_eq_some_iff.1 hi).1
   have HE := hid hix
   clear T hh hi hx hix ho
   go_enter Tryz.func144, Tryz.ntmps144
   go_wp2_with (go_at_call 141; refine (d_index HT.out a).mono ?_; rintro e w' ⟨rfl, n2, rfl⟩; rw [HE.out])
   go_ret
   exact ⟨rfl, _, rfl⟩
end
section
variable {w w' W : World} {d : DB} {q : Nat} {m : HM}
theorem Kp.of_drewN {w w' : World} (h : ∃ n, w' = w.drewN n) : Kp [] w w' := by
 obtain ⟨n, rfl⟩ := h
 exact Kp.draw _ _
theorem kp_drew {w w1 : World} {S : List Nat} (h : Kp S w w1) : Kp S w w1.drew := h.chain (Kp.draw w1 1)
theorem kp_drew_n {w w1 : World} {S : List Nat} {n : Nat} (h : Kp S w w1) : Kp S w (w1.drew.drewN n) := (kp_drew h).drewN n
theorem kp_n_drew {w w1 : World} {S : List Nat} {n : Nat} (h : Kp S w w1) : Kp S w (w1.drewN n).drew := kp_drew (h.drewN n)
theorem d_at (T : DR w d q m) (a : Int) :
   Calls Tryz.prog 96 #[.pointer (some ⟨d.g, 0, none⟩), .int .i64 a] w fun e w' => e = .returned (.tuple #[.int .i64 (optV (m.atI a)), .int .i64 (optE (m.atI a))]) ∧ ∃ n, w' = w.drewN n := by
 have hc1 := T.c1
 obtain ⟨A, cap, hov⟩ := T.o_len
 rw [hov] at hc1
 have hlen := T.len
 have HT := hid T
 have HOC : Hid (∀ i x, d.os[i]? = some x → ∃ g, A = some ⟨g, 0, none⟩ ∧ OCell w g i x) := fun i x hx => by
   obtain ⟨g, cap', hv, _, _, _, hO, _⟩ := T.ocell hx
   rw [hov] at hv
   injection hv with hv
   exact ⟨g, hv, hO⟩
 clear T hov
 go_enter Tryz.func96, Tryz.ntmps96
 go_wp2_with (go_at_call 60; refine (d_made HT.out).mono ?_; rintro e w' ⟨rfl, n1, rfl⟩)
 go_loop [6] (fun c => ∃ k : Nat, k ≤ d.os.length ∧ Hid (∀ j, j < k → ∀ y, d.os[j]? = some y → (y.o.id : Int) ≠ a) ∧ c = .int .i64 (k : Int)) (fun c => d.os.length - (intOf c).toNat)
 case atStart => exact ⟨0, by omega, (fun j h1 => absurd h1 (by omega)), by go_num⟩
 case round =>
   obtain ⟨k, hk, HK, rfl⟩ := hrel
   by_cases hlt : k < d.os.length
   · obtain ⟨x, hx⟩ := get_some hlt
     obtain ⟨g, rfl, hO⟩ := HOC.out k x hx
     have o0 := hO.c0
     have o1 := hO.c1
     clear hO
     by_cases he : (x.o.id : Int) = a
     · have HE : Hid (m.atI a = some (x.a : Int)) := by
         show _ = _
         have := (at_iff HT.out.inv a x.a).2 ⟨x.o, HT.out.lst.ob hx, he⟩
         simp [HM.atI, this]
       have e2 : ((x.o.id : Int) == a) = true := beq_iff_eq.2 he
       clear he hx
       go_wp2
       go_ret2
       rw [HE.out]
       exact ⟨rfl, by first | exact ⟨_, rfl⟩ | exact ⟨0, rfl⟩⟩
     · have HK' : Hid (∀ j, j < k + 1 → ∀ y, d.os[j]? = some y → (y.o.id : Int) ≠ a) := fun j h1 y hy => by
         by_cases hj : j < k
         · exact HK.out j hj y hy
         · obtain rfl : j = k := by omega
           rw [hx] at hy
           cases hy
           exact he
       have e2 : ((x.o.id : Int) == a) = false := beq_eq_false_iff_ne.2 he
       clear he hx
       go_wp2
       go_round
       case rel => exact ⟨k + 1, by omega, HK', by go_num⟩
       case measure => simp [intOf]; omega
   · obtain rfl : k = d.os.length := by omega
     have HE : Hid (m.atI a = none) := by
       show _ = _
       have := (at_none HT.out.inv a).2 fun b o ho => by
         obtain ⟨i, x, hi, _, h2⟩ := HT.out.lst.get ho
         rw [← h2]
         exact HK.out i (List.getElem?_eq_some_iff.1 hi).1 x hi
       simp [HM.atI, this]
     go_wp2
     go_ret2
     rw [HE.out]
     exact ⟨rfl, by first | exact ⟨_, rfl⟩ | exact ⟨0, rfl⟩⟩
theorem fs_get {l : List (Nat × Nat)} {i : Nat} (h : i < l.length) : l.getD i (0, 0) ∈ l := by
 rw [List.getD_eq_getElem?_getD, List.getElem?_eq_getElem h]
 exact List.getElem_mem h
theorem d_forward (T : DR w d q m) (a : Int) (hq : q ≤ 1000000000) :
   Calls Tryz.prog 158 #[.pointer (some ⟨d.g, 0, none⟩), .int .i64 a] w fun e w' => e = .returned (.tuple #[.int .i64 (optV (m.fwI a)), .int .i64 (optE (m.fwI a))]) ∧ ∃ n, w' = w.drewN n := by
 have hc2 := T.c2
 obtain ⟨A, cap, hfv⟩ := T.f_len
 rw [hfv] at hc2
 have hlen := T.fq
 have HT := hid T
 have HFC : Hid (∀ i, i < d.fs.length → ∃ g, A = some ⟨g, 0, none⟩ ∧ w.cell? ⟨g, i * 2, none⟩ = some (.int .i64 ((d.fs.getD i (0, 0)).1 : Int)) ∧ w.cell? ⟨g, i * 2 + 1, none⟩ = some (.int .i64 ((d.fs.getD i (0, 0)).2 : Int))) := fun i hi => by
   rcases T.f_form with ⟨_, h0⟩ | ⟨g, cap', hv, _, _, hc⟩
   · rw [h0] at hi; simp at hi
   · rw [hfv] at hv
     injection hv with hv
     exact ⟨g, hv, hc i hi⟩
 clear T hfv
 go_enter Tryz.func158, Tryz.ntmps158
 go_wp2_with (go_at_call 60; refine (d_made HT.out).mono ?_; rintro e w' ⟨rfl, n1, rfl⟩)
 go_loop [6] (fun c => ∃ k : Nat, k ≤ d.fs.length ∧ Hid (∀ j, j < k → ((d.fs.getD j (0, 0)).1 : Int) ≠ a) ∧ c = .int .i64 (k : Int)) (fun c => d.fs.length - (intOf c).toNat)
 case atStart => exact ⟨0, by omega, (fun j h1 => absurd h1 (by omega)), by go_num⟩
 case round =>
   obtain ⟨k, hk, HK, rfl⟩ := hrel
   by_cases hlt : k < d.fs.length
   · obtain ⟨g, rfl, o0, o1⟩ := HFC.out k hlt
     have hx := fs_get hlt
     generalize hp : d.fs.getD k (0, 0) = p at o0 o1 hx
     have HP := hid hp
     clear hp
     by_cases he : (p.1 : Int) = a
     · have HE : Hid (m.fwI a = some (p.2 : Int)) := by
         show _ = _
         have h1 : m.fw a.toNat = some p.2 := (HT.out.fws.mem _ _).2 (by rw [← he, Int.toNat_natCast]; exact hx)
         unfold HM.fwI
         rw [if_pos (by omega), h1]
         rfl
       have e2 : ((p.1 : Int) == a) = true := beq_iff_eq.2 he
       clear he hx
       go_wp2
       go_ret2
       rw [HE.out]
       exact ⟨rfl, by first | exact ⟨_, rfl⟩ | exact ⟨0, rfl⟩⟩
     · have HK' : Hid (∀ j, j < k + 1 → ((d.fs.getD j (0, 0)).1 : Int) ≠ a) := fun j h1 => by
         by_cases hj : j < k
         · exact HK.out j hj
         · obtain rfl : j = k := by omega
           rw [HP.out]
           exact he
       have e2 : ((p.1 : Int) == a) = false := beq_eq_false_iff_ne.2 he
       clear he hx
       go_wp2
       go_round
       case rel => exact ⟨k + 1, by omega, HK', by go_num⟩
       case measure => simp [intOf]; omega
   · obtain rfl : k = d.fs.length := by omega
     have HE : Hid (m.fwI a = none) := by
       show _ = _
       unfold HM.fwI
       split
       · rcases hf : m.fw a.toNat with _ | t
         · rfl
         · obtain ⟨i, hi⟩ := List.mem_iff_getElem?.1 ((HT.out.fws.mem _ _).1 hf)
           have h1 := HK.out i (List.getElem?_eq_some_iff.1 hi).1
           rw [List.getD_eq_getElem?_getD, hi] at h1
           simp at h1
           omega
       · rfl
     go_wp2
     go_ret2
     rw [HE.out]
     exact ⟨rfl, by first | exact ⟨_, rfl⟩ | exact ⟨0, rfl⟩⟩
theorem d_pinned (T : DR w d q m) (a : Int) :
   Calls Tryz.prog 156 #[.pointer (some ⟨d.g, 0, none⟩), .int .i64 a] w fun e w' => e = .returned (.bool (m.pinned a)) ∧ ∃ n, w' = w.drewN n := by
 have HT := hid T
 rcases hh : m.has a
 · have e1 : m.pinned a = false := by
     unfold HM.pinned
     unfold HM.has at hh
     by_cases h0 : 0 ≤ a
     · rw [decide_eq_true h0] at hh ⊢
       rcases ho : m.ob a.toNat with _ | o
       · simp
       · rw [ho] at hh; simp at hh
     · rw [decide_eq_false h0]; simp
   rw [e1]
   have HE := hid (T.lst.ix_none hh)
   clear T hh e1
   go_enter Tryz.func156, Tryz.ntmps156
   go_wp2_with (go_at_call 141; refine (d_index HT.out a).mono ?_; rintro e w' ⟨rfl, n2, rfl⟩; rw [HE.out])
   go_ret
   exact ⟨rfl, _, rfl⟩
 · obtain ⟨i, x, hi, hx, hix, ho⟩ := T.lst.ix hh
   have e1 : m.pinned a = x.o.pin := by
     unfold HM.pinned
     have h0 : 0 ≤ a := by omega
     rw [decide_eq_true h0, ho]
     simp
   rw [e1]
   have hlen := T.len
   have hil := (List.getElem?_eq_some_iff.1 hi).1
   obtain ⟨g, cap, hov, _, _, _, hO, _⟩ := T.ocell hi
   have hc1 := T.c1
   rw [hov] at hc1
   have o7 := hO.c7
   have HE := hid hix
   generalize x.o.pin = pn at o7 ⊢
   clear T hh hi hx hix ho hO e1 hov
   go_enter Tryz.func156, Tryz.ntmps156
   go_wp2_with (go_at_call 141; refine (d_index HT.out a).mono ?_; rintro e w' ⟨rfl, n2, rfl⟩; rw [HE.out])
   repeat (go_quiet (fail); go_wp2)
   go_ret
   exact ⟨rfl, by first | exact ⟨_, rfl⟩ | exact ⟨n2 + 1, by first | rfl | simp [World.drewN] | (simp [World.drewN]; omega)⟩⟩
def HM.identV (m : HM) (a : Int) : Int := if m.has a then (match m.ob a.toNat with | some o => (o.id : Int) | none => 0) else 0
theorem d_ident (T : DR w d q m) (a : Int) :
   Calls Tryz.prog 159 #[.pointer (some ⟨d.g, 0, none⟩), .int .i64 a] w fun e w' => e = .returned (.tuple #[.int .i64 (m.identV a), .int .i64 (m.lackE a)]) ∧ Kp [] w w' := by
 have HT := hid T
 rcases hh : m.has a
 · have e1 : m.identV a = 0 := by simp [HM.identV, hh]
   have e2 : m.lackE a = 4 := by simp [HM.lackE, hh]
   rw [e1]
   have HL := hid e2
   clear T hh e1 e2
   go_enter Tryz.func159, Tryz.ntmps159
   go_wp2_with (go_at_call 139; refine (d_lacks HT.out a).mono ?_; rintro e w1 ⟨rfl, h1⟩; rw [HL.out]; have HK := hid (Kp.of_drewN h1); clear h1)
   go_ret2
   rw [HL.out]
   exact ⟨rfl, HK.out⟩
 · obtain ⟨i, x, hi, hx, hix, ho⟩ := T.lst.ix hh
   have e1 : m.identV a = (x.o.id : Int) := by simp [HM.identV, hh, ho]
   have e2 : m.lackE a = 0 := by simp [HM.lackE, hh]
   rw [e1]
   have HL := hid e2
   have hlen := T.len
   have hil := (List.getElem?_eq_some_iff.1 hi).1
   have HE := hid hix
   have HI := hid hi
   clear T hh hi hx hix ho e1 e2
   go_enter Tryz.func159, Tryz.ntmps159
   go_wp2_with (go_at_call 139; refine (d_lacks HT.out a).mono ?_; rintro e w1 ⟨rfl, h1⟩; rw [HL.out]; have HK := hid (Kp.of_drewN h1); clear h1)
   have HT1 := hid (HT.out.kp0 HK.out)
   obtain ⟨g, cap, hov, _, _, _, hO, _⟩ := HT1.out.ocell HI.out
   have hc1 := HT1.out.c1
   rw [hov] at hc1
   have o1 := hO.c1
   clear hO hov
   go_region_held3 (fun W => W.cell? ⟨d.g, 1, none⟩ = some (.slice (some ⟨g, 0, none⟩) d.os.length cap) ∧ W.cell? ⟨g, i * 8 + 1, none⟩ = some (.int .i64 (x.o.id : Int))) (go_keep)
     (first | (go_at_call 141; refine (d_index (by first | exact HT1.out | exact HT1.out.kp0 (Kp.draw _ 1) | exact HT1.out.drewN _) a).mono ?_; rintro e w2 ⟨rfl, n2, rfl⟩; rw [HE.out]))
   all_goals (
     go_wp2
     go_ret2
     rw [HL.out]
     exact ⟨rfl, by first | exact HK.out | exact HK.out.drewN _ | exact kp_drew HK.out | exact kp_drew_n HK.out | exact kp_n_drew HK.out⟩)
end
end Go.Proofs.YthndilllnneijaaGreat
