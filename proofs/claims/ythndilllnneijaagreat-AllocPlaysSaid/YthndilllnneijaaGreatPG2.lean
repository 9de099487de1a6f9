/-
  The contracts of package side's small functions, over a table that reads as a list of entries: what each returns, and what becomes of the table. Conditions: those that stand in each theorem.
-/
import Derived.Test.YthndilllnneijaaGreatPU
import Derived.Test.YthndilllnneijaaGreatPG1
import Derived.WalkKit
import Derived.WalkSpells
import Derived.WalkLawsBesides
import Derived.Deep.QuietTactic
import Derived.BigQuiet
import Derived.Laws.BitsAllLaws
import Derived.BigRegion
import Derived.Deep.OwnRows
import Derived.OwnWalk
import Derived.Deep.AppendLies
import Derived.Deep.RegionHeld3
set_option linter.unusedSimpArgs false
set_option linter.unusedVariables false
set_option maxHeartbeats 1000000
namespace Go.Proofs.YthndilllnneijaaGreat
open Go.RowKit
section
variable {w w' : World} {g : Nat} {t : TypeId} {cs : Array Value}
end
def wcells (ws : List Nat) : List Value := ws.map fun (x : Nat) => .int .u64 (x : Int)
def STab (w : World) (g h wd : Nat) (L : List Nat) : Prop :=
 ∃ (ws : List Nat) (c : Nat) (sp : List Value), Enc wd ws L ∧ 1 ≤ L.length ∧ L.length ≤ 4096 ∧ ws.length ≤ c ∧ c ≤ maxLen ∧ (wcells ws ++ sp).length = c ∧
   Blk w g 141 #[.int .i64 (L.length : Int), .int .i64 (wd : Int), .slice (some ⟨h, 0, none⟩) ws.length c] ∧ Blk w h 143 (wcells ws ++ sp).toArray
section
variable {w w' : World} {g h wd : Nat} {L : List Nat}
theorem STab.kp {S : List Nat} (T : STab w g h wd L) (k : Kp S w w') (hg : g ∉ S) (hh : h ∉ S) : STab w' g h wd L := by
 obtain ⟨ws, c, sp, h1, h2, h3, h4, h5, h6, b1, b2⟩ := T
 exact ⟨ws, c, sp, h1, h2, h3, h4, h5, h6, b1.kp k hg, b2.kp k hh⟩
theorem STab.wd_ok (T : STab w g h wd L) : Wd wd := by
 obtain ⟨ws, c, sp, h1, _⟩ := T
 exact h1.wd_ok
theorem STab.pos (T : STab w g h wd L) : 0 < L.length := by
 obtain ⟨ws, c, sp, _, h1, _⟩ := T
 exact h1
theorem STab.le (T : STab w g h wd L) : L.length ≤ 4096 := by
 obtain ⟨ws, c, sp, _, _, h1, _⟩ := T
 exact h1
theorem STab.lt (T : STab w g h wd L) (i : Nat) : ent L i < 2 ^ wd := by
 obtain ⟨ws, c, sp, h1, _⟩ := T
 exact h1.lt i
theorem STab.cell0 (T : STab w g h wd L) : w.cell? ⟨g, 0, none⟩ = some (.int .i64 (L.length : Int)) := by
 obtain ⟨ws, c, sp, _, _, _, _, _, _, b1, _⟩ := T
 exact b1.cell 0
theorem STab.cell1 (T : STab w g h wd L) : w.cell? ⟨g, 1, none⟩ = some (.int .i64 (wd : Int)) := by
 obtain ⟨ws, c, sp, _, _, _, _, _, _, b1, _⟩ := T
 exact b1.cell 1
theorem STab.g_lt (T : STab w g h wd L) : g < w.heap.size := by
 obtain ⟨ws, c, sp, _, _, _, _, _, _, b1, _⟩ := T
 exact b1.lt
theorem STab.h_lt (T : STab w g h wd L) : h < w.heap.size := by
 obtain ⟨ws, c, sp, _, _, _, _, _, _, _, b1⟩ := T
 exact b1.lt
end
theorem made_yes {g h wd : Nat} {L : List Nat} {w : World} (T : STab w g h wd L) :
   Calls Tryz.prog 129 #[.pointer (some ⟨g, 0, none⟩)] w fun e w' => e = .returned (.bool true) ∧ ∃ m, w' = w.drewN m := by
 have hc := T.cell0
 have hp := T.pos
 clear T
 go_enter Tryz.func129, Tryz.ntmps129
 go_wp2
 go_ret
 exact ⟨rfl, 0, rfl⟩
theorem greatest_any {g h wd : Nat} {L : List Nat} {w : World} (T : STab w g h wd L) :
   Calls Tryz.prog 188 #[.pointer (some ⟨g, 0, none⟩)] w fun e w' => e = .returned (.int .i64 (most wd : Nat)) ∧ ∃ m, w' = w.drewN m := by
 have hc := T.cell1
 rcases T.wd_ok with rfl | rfl | rfl | rfl
 all_goals
   clear T
   go_enter Tryz.func188, Tryz.ntmps188
   go_wp2
   go_ret
   exact ⟨rfl, 0, rfl⟩
theorem has_yes {g h wd : Nat} {L : List Nat} {w : World} (T : STab w g h wd L) (i : Int) (h0 : 0 ≤ i) (h1 : i < L.length) :
   Calls Tryz.prog 187 #[.pointer (some ⟨g, 0, none⟩), .int .i64 i] w fun e w' => e = .returned (.bool true) ∧ ∃ m, w' = w.drewN m := by
 have hc := T.cell0
 clear T
 go_enter Tryz.func187, Tryz.ntmps187
 go_wp2
 go_ret
 exact ⟨rfl, 0, rfl⟩
theorem has_no {g h wd : Nat} {L : List Nat} {w : World} (T : STab w g h wd L) (i : Int) (hn : ¬ (0 ≤ i ∧ i < L.length)) :
   Calls Tryz.prog 187 #[.pointer (some ⟨g, 0, none⟩), .int .i64 i] w fun e w' => e = .returned (.bool false) ∧ ∃ m, w' = w.drewN m := by
 have hc := T.cell0
 clear T
 by_cases h0 : 0 ≤ i
 · have h1 : ¬ i < L.length := fun h => hn ⟨h0, h⟩
   clear hn
   go_enter Tryz.func187, Tryz.ntmps187
   go_wp2
   go_ret
   exact ⟨rfl, 0, rfl⟩
 · clear hn
   go_enter Tryz.func187, Tryz.ntmps187
   go_wp2
   go_ret
   exact ⟨rfl, 0, rfl⟩
theorem fits_yes {g h wd : Nat} {L : List Nat} {w : World} (T : STab w g h wd L) (v : Int) (h0 : 0 ≤ v) (h1 : v ≤ (most wd : Nat)) :
   Calls Tryz.prog 185 #[.pointer (some ⟨g, 0, none⟩), .int .i64 v] w fun e w' => e = .returned (.bool true) ∧ ∃ m, w' = w.drewN m := by
 go_enter Tryz.func185, Tryz.ntmps185
 go_wp2_with (go_at_call 188; refine (greatest_any T).mono ?_; rintro e w' ⟨rfl, nq, rfl⟩)
 go_ret
 exact ⟨rfl, nq, rfl⟩
theorem fits_no {g h wd : Nat} {L : List Nat} {w : World} (T : STab w g h wd L) (v : Int) (hn : ¬ (0 ≤ v ∧ v ≤ (most wd : Nat))) :
   Calls Tryz.prog 185 #[.pointer (some ⟨g, 0, none⟩), .int .i64 v] w fun e w' => e = .returned (.bool false) ∧ ∃ m, w' = w.drewN m := by
 by_cases h0 : 0 ≤ v
 · have h1 : decide (v ≤ ((most wd : Nat) : Int)) = false := decide_eq_false fun h => hn ⟨h0, h⟩
   clear hn
   go_enter Tryz.func185, Tryz.ntmps185
   go_wp2_with (go_at_call 188; refine (greatest_any T).mono ?_; rintro e w' ⟨rfl, nq, rfl⟩)
   go_ret
   exact ⟨rfl, nq, rfl⟩
 · clear hn
   go_enter Tryz.func185, Tryz.ntmps185
   go_wp2
   go_ret
   exact ⟨rfl, 0, rfl⟩
theorem has_any {g h wd : Nat} {L : List Nat} {w : World} (T : STab w g h wd L) (i : Int) :
   Calls Tryz.prog 187 #[.pointer (some ⟨g, 0, none⟩), .int .i64 i] w fun e w' => e = .returned (.bool (hasB L i)) ∧ ∃ m, w' = w.drewN m := by
 rcases hb : hasB L i
 · exact has_no T i (of_decide_eq_false hb)
 · exact has_yes T i (of_decide_eq_true hb).1 (of_decide_eq_true hb).2
theorem fits_any {g h wd : Nat} {L : List Nat} {w : World} (T : STab w g h wd L) (v : Int) :
   Calls Tryz.prog 185 #[.pointer (some ⟨g, 0, none⟩), .int .i64 v] w fun e w' => e = .returned (.bool (fitsB wd v)) ∧ ∃ m, w' = w.drewN m := by
 rcases hb : fitsB wd v
 · exact fits_no T v (of_decide_eq_false hb)
 · exact fits_yes T v (of_decide_eq_true hb).1 (of_decide_eq_true hb).2
theorem covers_any {g h wd : Nat} {L : List Nat} {w : World} (T : STab w g h wd L) (a n : Int) :
   Calls Tryz.prog 184 #[.pointer (some ⟨g, 0, none⟩), .int .i64 a, .int .i64 n] w fun e w' => e = .returned (.bool (coversB L a n)) ∧ ∃ m, w' = w.drewN m := by
 have hc := T.cell0
 have hl := T.le
 rcases hb : hasB L a
 · have e1 : coversB L a n = false := decide_eq_false fun hh => of_decide_eq_false hb ⟨hh.1, hh.2.1⟩
   rw [e1]
   clear e1
   go_enter Tryz.func184, Tryz.ntmps184
   go_wp2_with (go_at_call 187; refine (has_any T _).mono ?_; rintro e w' ⟨rfl, n2, rfl⟩)
   go_ret
   exact ⟨rfl, _, rfl⟩
 · obtain ⟨k, rfl, hk⟩ := hasB_nat hb
   by_cases h1 : 1 ≤ n
   · by_cases h2 : n ≤ (L.length : Int) - (k : Int)
     · have e1 : coversB L (k : Int) n = true := decide_eq_true ⟨by omega, by omega, h1, h2⟩
       rw [e1]
       clear e1
       go_enter Tryz.func184, Tryz.ntmps184
       go_wp2_with (go_at_call 187; refine (has_any T _).mono ?_; rintro e w' ⟨rfl, n2, rfl⟩)
       go_ret
       exact ⟨rfl, _, rfl⟩
     · have e1 : coversB L (k : Int) n = false := decide_eq_false fun hh => h2 hh.2.2.2
       have e2 : decide (n ≤ (L.length : Int) - (k : Int)) = false := decide_eq_false h2
       rw [e1]
       clear e1
       go_enter Tryz.func184, Tryz.ntmps184
       go_wp2_with (go_at_call 187; refine (has_any T _).mono ?_; rintro e w' ⟨rfl, n2, rfl⟩)
       go_ret
       exact ⟨rfl, _, rfl⟩
   · have e1 : coversB L (k : Int) n = false := decide_eq_false fun hh => h1 hh.2.2.1
     have e2 : decide (1 ≤ n) = false := decide_eq_false h1
     rw [e1]
     clear e1
     go_enter Tryz.func184, Tryz.ntmps184
     go_wp2_with (go_at_call 187; refine (has_any T _).mono ?_; rintro e w' ⟨rfl, n2, rfl⟩)
     go_ret
     exact ⟨rfl, _, rfl⟩
theorem div_cast (x s : Nat) : ((x : Int) / 2 ^ s) = ((x / 2 ^ s : Nat) : Int) := by
 rw [Int.natCast_ediv, Int.natCast_pow]
 rfl
theorem mul_cast (x s : Nat) : ((x : Int) * 2 ^ s) = ((x * 2 ^ s : Nat) : Int) := by
 rw [Int.natCast_mul, Int.natCast_pow]
 rfl
theorem load_val {wd : Nat} {ws L : List Nat} (h : Enc wd ws L) (k : Nat) :
   wrap64 (bits .and .u64 (((ws.getD (k * wd / 64) 0 : Nat) : Int) / 2 ^ (k * wd % 64)) ((most wd : Nat) : Int)) = ((ent L k : Nat) : Int) := by
 have hx := h.word_lt (k * wd / 64)
 have hm := most_lt h.wd_ok
 rw [div_cast, u64_and_nat _ _ (Nat.lt_of_le_of_lt (Nat.div_le_self _ _) hx) (by omega)]
 have e : ws.getD (k * wd / 64) 0 / 2 ^ (k * wd % 64) &&& most wd = ent L k := by
   unfold most ent
   rw [Nat.and_two_pow_sub_one_eq_mod, ← h.fld_eq k]
   rfl
 rw [e]
 have : ent L k < 2 ^ wd := h.lt k
 have := h.wd_ok.pow_le
 exact IntWalk.wrap64_in _ ⟨by omega, by omega⟩
theorem store_val {wd x s v : Nat} (hw : Wd wd) (hx : x < 18446744073709551616) (hs : s + wd ≤ 64) (hv : v < 2 ^ wd) :
   bits .or .u64 (bits .andNot .u64 (x : Int) (IntKind.u64.wrap (((most wd : Nat) : Int) * 2 ^ s))) (IntKind.u64.wrap ((v : Int) * 2 ^ s)) = ((ins wd x s v : Nat) : Int) := by
 have hm : most wd * 2 ^ s < 18446744073709551616 := mask_lt hs
 have hv' : v * 2 ^ s < 18446744073709551616 := val_lt hs hv
 have wr : ∀ y : Nat, y < 18446744073709551616 → IntKind.u64.wrap (y : Int) = (y : Int) := fun y hy => by
   rw [IntKind.wrap_u64]; omega
 rw [mul_cast, mul_cast, wr _ hm, wr _ hv', u64_andNot_nat _ _ hx hm, u64_or_nat _ _ (Nat.lt_of_le_of_lt Nat.and_le_left hx) hv']
 rfl
theorem wcells_get {ws : List Nat} {sp : List Value} {q : Nat} (hq : q < ws.length) : (wcells ws ++ sp).toArray[q]? = some (.int .u64 ((ws.getD q 0 : Nat) : Int)) := by
 have h1 : q < (wcells ws).length := by simpa [wcells] using hq
 simp only [List.getElem?_toArray]
 rw [List.getElem?_append_left h1]
 simp [wcells, hq]
theorem wcells_set {ws : List Nat} {sp : List Value} {q y : Nat} (hq : q < ws.length) : (wcells ws ++ sp).toArray.setIfInBounds q (.int .u64 (y : Int)) = (wcells (ws.set q y) ++ sp).toArray := by
 have h1 : q < (wcells ws).length := by simpa [wcells] using hq
 rw [List.setIfInBounds_toArray, List.set_append_left _ _ h1]
 simp [wcells, List.map_set]
theorem load_ok {g h wd : Nat} {L : List Nat} {w : World} (T : STab w g h wd L) (k : Nat) (hk : k < L.length) :
   Calls Tryz.prog 179 #[.pointer (some ⟨g, 0, none⟩), .int .i64 (k : Int)] w fun e w' => e = .returned (.int .i64 ((ent L k : Nat) : Int)) ∧ ∃ m, w' = w.drewN m := by
 have T0 := T
 obtain ⟨ws, c, sp, E, l1, l2, l3, l4, l5, b1, b2⟩ := T
 have hv := load_val E k
 have hin := E.inside hk
 have hc1 : w.cell? ⟨g, 1, none⟩ = some (.int .i64 (wd : Int)) := b1.cell 1
 have hc2 : w.cell? ⟨g, 2, none⟩ = some (.slice (some ⟨h, 0, none⟩) ws.length c) := b1.cell 2
 have hx : w.cell? ⟨h, k * wd / 64, none⟩ = some (.int .u64 ((ws.getD (k * wd / 64) 0 : Nat) : Int)) := (b2.cell _).trans (wcells_get hin)
 have hb : k * wd ≤ 32768 := by
   have := Nat.mul_le_mul (show k ≤ 4096 by omega) E.wd_ok.le
   omega
 have hM := most_lt E.wd_ok
 have hlen : ws.length < 1000 := by rw [E.len]; have := Nat.mul_le_mul l2 E.wd_ok.le; omega
 generalize hX : ws.getD (k * wd / 64) 0 = x at hx hv
 clear hX b1 b2 E l5
 have HV := hid hv
 clear hv
 go_enter Tryz.func179, Tryz.ntmps179
 go_wp2
 go_quiet ((go_at_call 188; exact Calls.quiet_of (greatest_any (w := w.drewN _) T0)))
 go_wp2
 go_ret
 exact ⟨congrArg (fun z => Ending.returned (Value.int IntKind.i64 z)) HV.out, nq, rfl⟩
theorem store_ok {g h wd : Nat} {L : List Nat} {w : World} (T : STab w g h wd L) (k : Nat) (hk : k < L.length) (v : Nat) (hv : v < 2 ^ wd) :
   Calls Tryz.prog 186 #[.pointer (some ⟨g, 0, none⟩), .int .i64 (k : Int), .int .i64 (v : Int)] w fun e w' => e = .returned (.tuple #[]) ∧ STab w' g h wd (L.set k v) ∧ Kp [h] w w' := by
 have T0 := T
 obtain ⟨ws, c, sp, E, l1, l2, l3, l4, l5, b1, b2⟩ := T
 have hin := E.inside hk
 have hval := store_val (x := ws.getD (k * wd / 64) 0) E.wd_ok (E.word_lt _) (E.wd_ok.room k) hv
 have hc1 : w.cell? ⟨g, 1, none⟩ = some (.int .i64 (wd : Int)) := b1.cell 1
 have hc2 : w.cell? ⟨g, 2, none⟩ = some (.slice (some ⟨h, 0, none⟩) ws.length c) := b1.cell 2
 have hx : w.cell? ⟨h, k * wd / 64, none⟩ = some (.int .u64 ((ws.getD (k * wd / 64) 0 : Nat) : Int)) := (b2.cell _).trans (wcells_get hin)
 have hf : w.frozen? ⟨h, k * wd / 64, none⟩ = false := b2.frozen _
 have hb : k * wd ≤ 32768 := by
   have := Nat.mul_le_mul (show k ≤ 4096 by omega) E.wd_ok.le
   omega
 have hM := most_lt E.wd_ok
 have hlen : ws.length < 1000 := by rw [E.len]; have := Nat.mul_le_mul l2 E.wd_ok.le; omega
 have hv2 : v < 256 := Nat.lt_of_lt_of_le hv E.wd_ok.pow_le
 have END : ∀ n, STab ((w.drewN n).setCell ⟨h, k * wd / 64, none⟩ (.int .u64 ((ins wd (ws.getD (k * wd / 64) 0) (k * wd % 64) v : Nat) : Int))) g h wd (L.set k v) := by
   intro n
   have hne : g ≠ h := b1.ne_ b2 (by decide)
   refine ⟨_, c, sp, E.set hk hv, by simpa using l1, by simpa using l2, by simpa using l3, l4, by simpa [wcells] using l5, ?_, ?_⟩
   · have := (show Blk (w.drewN n) g _ _ from b1).kp (Kp.cell (w.drewN n) ⟨h, k * wd / 64, none⟩ (.int .u64 ((ins wd (ws.getD (k * wd / 64) 0) (k * wd % 64) v : Nat) : Int))) (by simpa using hne)
     simpa using this
   · have := (show Blk (w.drewN n) h _ _ from b2).set_ (k * wd / 64) (.int .u64 ((ins wd (ws.getD (k * wd / 64) 0) (k * wd % 64) v : Nat) : Int))
     rw [wcells_set hin] at this
     exact this
 generalize hX : ws.getD (k * wd / 64) 0 = x at hx hval END
 generalize hY : ins wd x (k * wd % 64) v = y at hval END
 clear hX hY b1 b2 E l5
 have HV := hid hval
 have HE := hid END
 clear hval END
 go_enter Tryz.func186, Tryz.ntmps186
 go_wp2
 go_quiet ((go_at_call 188; exact Calls.quiet_of (greatest_any (w := w.drewN _) T0)))
 go_wp2
 go_region
 go_wp2
 go_end0
 rw [HV.out]
 exact ⟨rfl, HE.out _, ((Kp.draw w _).trans (Kp.cell _ _ _) (by simp) (by simp))⟩
section
variable {g h wd : Nat} {L : List Nat} {w : World}
theorem entries_any (T : STab w g h wd L) :
   Calls Tryz.prog 151 #[.pointer (some ⟨g, 0, none⟩)] w fun e w' => e = .returned (.int .i64 (L.length : Int)) ∧ ∃ m, w' = w.drewN m := by
 have hc := T.cell0
 go_enter Tryz.func151, Tryz.ntmps151
 go_wp2_with (go_at_call 129; refine (made_yes T).mono ?_; rintro e w' ⟨rfl, nq, rfl⟩)
 go_ret
 exact ⟨rfl, nq, rfl⟩
theorem get_any (T : STab w g h wd L) (i : Int) :
   Calls Tryz.prog 178 #[.pointer (some ⟨g, 0, none⟩), .int .i64 i] w fun e w' => e = .returned (.int .i64 (getS L i)) ∧ ∃ m, w' = w.drewN m := by
 rcases hb : hasB L i
 · have e1 : getS L i = -1 := by unfold getS; rw [hb]; rfl
   rw [e1]
   clear e1
   go_enter Tryz.func178, Tryz.ntmps178
   go_wp2_with (first | (go_at_call 129; refine (made_yes T).mono ?_; rintro e w' ⟨rfl, n1, rfl⟩) | (go_at_call 187; refine (has_any (w := w.drewN _) T _).mono ?_; rintro e w' ⟨rfl, n2, rfl⟩))
   go_ret
   exact ⟨rfl, _, rfl⟩
 · have e1 : getS L i = ((ent L i.toNat : Nat) : Int) := by unfold getS; rw [hb]; rfl
   rw [e1]
   obtain ⟨k, rfl, hk⟩ := hasB_nat hb
   clear e1
   go_enter Tryz.func178, Tryz.ntmps178
   go_wp2_with (first | (go_at_call 129; refine (made_yes T).mono ?_; rintro e w' ⟨rfl, n1, rfl⟩) | (go_at_call 187; refine (has_any (w := w.drewN _) T _).mono ?_; rintro e w' ⟨rfl, n2, rfl⟩) | (go_at_call 179; refine (load_ok (w := w.drewN _) T k hk).mono ?_; rintro e w' ⟨rfl, n5, rfl⟩))
   go_ret
   exact ⟨rfl, _, rfl⟩
theorem set_any (T : STab w g h wd L) (i v : Int) :
   Calls Tryz.prog 177 #[.pointer (some ⟨g, 0, none⟩), .int .i64 i, .int .i64 v] w fun e w' => e = .returned (.int .i64 (setE wd L i v)) ∧ STab w' g h wd (setL wd L i v) ∧ Kp [h] w w' := by
 rcases hb : hasB L i
 · have e1 : setE wd L i v = 1 := by simp [setE, setOk, hb]
   have e2 : setL wd L i v = L := by simp [setL, setOk, hb]
   rw [e1, e2]
   clear e1 e2
   go_enter Tryz.func177, Tryz.ntmps177
   go_wp2_with (first | (go_at_call 129; refine (made_yes T).mono ?_; rintro e w' ⟨rfl, n1, rfl⟩) | (go_at_call 187; refine (has_any (w := w.drewN _) T _).mono ?_; rintro e w' ⟨rfl, n2, rfl⟩))
   go_ret
   exact ⟨rfl, T, (Kp.refl _ _).drewN _⟩
 · rcases hf : fitsB wd v
   · have e1 : setE wd L i v = 1 := by simp [setE, setOk, hf]
     have e2 : setL wd L i v = L := by simp [setL, setOk, hf]
     rw [e1, e2]
     clear e1 e2
     go_enter Tryz.func177, Tryz.ntmps177
     go_wp2_with (first | (go_at_call 129; refine (made_yes T).mono ?_; rintro e w' ⟨rfl, n1, rfl⟩) | (go_at_call 187; refine (has_any (w := w.drewN _) T _).mono ?_; rintro e w' ⟨rfl, n2, rfl⟩) | (go_at_call 185; refine (fits_any (w := w.drewN _) T _).mono ?_; rintro e w' ⟨rfl, n3, rfl⟩))
     go_ret
     exact ⟨rfl, T, (Kp.refl _ _).drewN _⟩
   · have e1 : setE wd L i v = 0 := by simp [setE, setOk, hb, hf]
     have e2 : setL wd L i v = L.set i.toNat v.toNat := by simp [setL, setOk, hb, hf]
     rw [e1, e2]
     clear e1 e2
     obtain ⟨k, rfl, hk⟩ := hasB_nat hb
     obtain ⟨x, rfl, hx⟩ := fitsB_nat hf
     have HX := hid hx
     clear hx
     go_enter Tryz.func177, Tryz.ntmps177
     go_wp2_with (first | (go_at_call 129; refine (made_yes T).mono ?_; rintro e w' ⟨rfl, n1, rfl⟩) | (go_at_call 187; refine (has_any (w := w.drewN _) T _).mono ?_; rintro e w' ⟨rfl, n2, rfl⟩) | (go_at_call 185; refine (fits_any (w := w.drewN _) T _).mono ?_; rintro e w' ⟨rfl, n3, rfl⟩) | (go_at_call 186; refine (store_ok (w := w.drewN _) T k hk x HX.out).mono ?_; rintro e w' ⟨rfl, T', K'⟩))
     go_ret
     exact ⟨rfl, T', K'.from_drewN⟩
end
open Go.Deep
def wdB (v : Int) : Bool := decide (v = 1 ∨ v = 2 ∨ v = 4 ∨ v = 8)
theorem isWidth_any (v : Int) (w : World) :
   Calls Tryz.prog 128 #[.int .i64 v] w fun e w' => e = .returned (.bool (wdB v)) ∧ ∃ m, w' = w.drewN m := by
 by_cases h0 : v = 1
 · have e : wdB v = true := decide_eq_true (by omega)
   rw [e]; subst h0; clear e
   go_enter Tryz.func128, Tryz.ntmps128
   go_wp2
   refine wp_loop_rounds 1 ?_
   iterate 1 (rw [rounds_succ]; go_wp2)
   go_ret
   exact ⟨rfl, 0, rfl⟩
 by_cases h1 : v = 2
 · have e : wdB v = true := decide_eq_true (by omega)
   rw [e]; subst h1; clear e h0
   go_enter Tryz.func128, Tryz.ntmps128
   go_wp2
   refine wp_loop_rounds 2 ?_
   iterate 2 (rw [rounds_succ]; go_wp2)
   go_ret
   exact ⟨rfl, 0, rfl⟩
 by_cases h2 : v = 4
 · have e : wdB v = true := decide_eq_true (by omega)
   rw [e]; subst h2; clear e h0 h1
   go_enter Tryz.func128, Tryz.ntmps128
   go_wp2
   refine wp_loop_rounds 3 ?_
   iterate 3 (rw [rounds_succ]; go_wp2)
   go_ret
   exact ⟨rfl, 0, rfl⟩
 by_cases h3 : v = 8
 · have e : wdB v = true := decide_eq_true (by omega)
   rw [e]; subst h3; clear e h0 h1 h2
   go_enter Tryz.func128, Tryz.ntmps128
   go_wp2
   refine wp_loop_rounds 4 ?_
   iterate 4 (rw [rounds_succ]; go_wp2)
   go_ret
   exact ⟨rfl, 0, rfl⟩
 have e : wdB v = false := decide_eq_false (by omega)
 have g0 : (v == 1) = false := beq_eq_false_iff_ne.2 h0
 have g1 : (v == 2) = false := beq_eq_false_iff_ne.2 h1
 have g2 : (v == 4) = false := beq_eq_false_iff_ne.2 h2
 have g3 : (v == 8) = false := beq_eq_false_iff_ne.2 h3
 rw [e]
 clear e h0 h1 h2 h3
 go_enter Tryz.func128, Tryz.ntmps128
 go_wp2
 refine wp_loop_rounds 5 ?_
 iterate 5 (rw [rounds_succ]; go_wp2)
 go_ret
 exact ⟨rfl, 0, rfl⟩
theorem infoU64 : (Tryz.prog.info? 143).map (fun i => (i.zero, i.size, i.bytes)) = some (some (.int .u64 0), 1, 8) := by kernel_rfl
theorem made_w (m : Nat) : madeCells #[.int .u64 0] m = (wcells (List.replicate m 0) ++ []).toArray := by
 apply Array.toList_inj.1
 rw [toList_madeCells_one]
 simp [wcells]
theorem ent_replicate (m k : Nat) : ent (List.replicate m 0) k = 0 := by
 unfold ent
 rw [List.getD_eq_getElem?_getD, List.getElem?_replicate]
 split <;> rfl
theorem STab.fresh (w : World) (n wd : Nat) (h1 : 1 ≤ n) (h2 : n ≤ 4096) (hw : Wd wd) :
   STab ((w.alloc (.cells (madeCells #[.int .u64 0] ((n * wd + 63) / 64)) 143)).alloc (.cells #[.int .i64 (n : Int), .int .i64 (wd : Int), .slice (some ⟨w.heap.size, 0, none⟩) ((n * wd + 63) / 64) ((n * wd + 63) / 64)] 141))
     (w.heap.size + 1) w.heap.size wd (List.replicate n 0) := by
 have hb : n * wd ≤ 32768 := by
   have := Nat.mul_le_mul h2 hw.le
   omega
 refine ⟨List.replicate ((n * wd + 63) / 64) 0, (n * wd + 63) / 64, [], Enc.zero hw, by simpa using h1, by simpa using h2, by simp, by unfold maxLen; omega, by simp [wcells], ?_, ?_⟩
 · have := Blk.at_end (w := w.alloc (.cells (madeCells #[.int .u64 0] ((n * wd + 63) / 64)) 143)) (g := w.heap.size + 1) (t := 141) (cs := #[.int .i64 (n : Int), .int .i64 (wd : Int), .slice (some ⟨w.heap.size, 0, none⟩) ((n * wd + 63) / 64) ((n * wd + 63) / 64)]) (by simp)
   simpa using this
 · rw [← made_w]
   exact (Blk.new w 143 _).kp (Kp.new _ _) (by simp)
theorem new_ok (n wd : Nat) (w : World) (h1 : 1 ≤ n) (h2 : n ≤ 4096) (hw : Wd wd) :
   Calls Tryz.prog 54 #[.int .i64 (n : Int), .int .i64 (wd : Int)] w fun e w' => e = .returned (.tuple #[.pointer (some ⟨w.heap.size + 1, 0, none⟩), .int .i64 0]) ∧ STab w' (w.heap.size + 1) w.heap.size wd (List.replicate n 0) ∧ Kp [] w w' := by
 have hwd : wdB (wd : Int) = true := decide_eq_true (by unfold Wd at hw; omega)
 have hb : n * wd ≤ 32768 := by
   have := Nat.mul_le_mul h2 hw.le
   omega
 have hmk : ∀ W : World, (Instr.makeSlice 139 (.int .i64 (((n : Int) * (wd : Int) + 64 - 1) / 64)) (.int .i64 (((n : Int) * (wd : Int) + 64 - 1) / 64))).run Tryz.prog W =
     .ok (.slice (some ⟨W.heap.size, 0, none⟩) ((n * wd + 63) / 64) ((n * wd + 63) / 64)) (W.alloc (.cells (madeCells #[.int .u64 0] ((n * wd + 63) / 64)) 143)) := fun W => by
   have e : (((n : Int) * (wd : Int) + 64 - 1) / 64) = (((n * wd + 63) / 64 : Nat) : Int) := by
     rw [← Int.natCast_mul]; omega
   rw [e]
   exact run_make_row' (P := Tryz.prog) 139 143 (.int .u64 0) 8 Tryz.underlying139 infoU64 rfl .i64 .i64 ((n * wd + 63) / 64) (by omega) (by omega) W
 go_enter Tryz.func54, Tryz.ntmps54
 go_wp2_with (go_at_call 128; refine (isWidth_any _ _).mono ?_; rintro e w' ⟨rfl, n2, rfl⟩)
 go_ret2
 exact ⟨rfl, STab.fresh (w.drewN n2) n wd h1 h2 hw, (Kp.draw w n2).trans ((Kp.new _ _).trans (Kp.new _ _) (U := []) (by simp) (by simp)) (by simp) (by simp)⟩
theorem wcells_one {ws : List Nat} : ∀ u ∈ wcells ws, u.oneCell' = true := by
 intro u hu
 obtain ⟨x, _, rfl⟩ := List.mem_map.1 hu
 rfl
def ClonedW (w : World) (ws : List Nat) (e : Ending) (w' : World) : Prop :=
 ∃ g c sp, e = .returned (.slice (some ⟨g, 0, none⟩) ws.length c) ∧ w.heap.size ≤ g ∧ Blk w' g 143 (wcells ws ++ sp).toArray ∧ ws.length ≤ c ∧ c ≤ maxLen ∧ (wcells ws ++ sp).length = c ∧ Kp [] w w'
theorem clone_words {w : World} {h c : Nat} {ws : List Nat} {sp : List Value} (b : Blk w h 143 (wcells ws ++ sp).toArray) (hn : 0 < ws.length) (hl : ws.length ≤ 4096) :
   Calls Tryz.prog 130 #[.slice (some ⟨h, 0, none⟩) ws.length c] w (ClonedW w ws) := by
 obtain ⟨i0, hi0, hz0, hz1, hz2⟩ := info_parts infoU64
 have HC : Hid (∀ j u, (wcells ws)[j]? = some u → (w.alloc (.cells #[] 143)).cell? ((⟨h, 0, none⟩ : Addr).add j) = some u) := fun j u hu => by
   rw [← blk_read b j u hu]
   refine World.cell?_of_block ((Kp.new w _).block _ ?_ (by simp))
   have := b.lt
   unfold Addr.add
   split <;> exact this
 have hnil : ∀ W : World, (binOp .eql 139 (.slice (some ⟨h, 0, none⟩) ws.length c) (.slice none 0 0)).run Tryz.prog W = .ok (.bool false) W := fun W => Lib.run_eql_slice_nil W 139 143 (some ⟨h, 0, none⟩) ws.length c 0 0 Tryz.underlying139
 clear b
 go_enter Tryz.func130, Tryz.ntmps130
 go_wp2_with (at_builtin; (refine wpList_append_lies _ rfl (.tmp 5) (.tmp 6) 139 rfl w.heap.size 143 i0 (.int .u64 0) 1 8 Tryz.underlying139 hi0 hz0 hz1 hz2 rfl (by decide) (.slice (some ⟨w.heap.size, 0, none⟩) 0 0) 0 [] rfl (own_empty w 143) ⟨h, 0, none⟩ ws.length c (wcells ws) rfl (by simp [wcells]) HC.out wcells_one hn (by unfold maxLen; omega) (by omega) (by simp) (w.heap.size + 1) (by simp) ?_); intro g cap w' hown hgr hat hlt)
 have HO := hid hown
 have HG := hid hgr
 clear hown hgr hnil
 go_wp2
 go_ret
 have hO := HO.out
 rw [Nat.zero_add, List.nil_append] at hO
 obtain ⟨g', c', sp', hv, hB, hb, h1, h2, h3⟩ := own_form hO hn
 injection hv with e1 e2 e3
 injection e1 with e1
 injection e1 with e1
 subst e1 e3
 refine ⟨g, cap, sp', by simp, hB, hb, h1, h2, h3, ?_⟩
 exact (Kp.new w _).trans (Kp.of_grown HG.out) (by simp) (by simp [Value.ownBlock])
def Cloned (w : World) (wd : Nat) (L : List Nat) (e : Ending) (w' : World) : Prop :=
 ∃ g h, e = .returned (.pointer (some ⟨g, 0, none⟩)) ∧ STab w' g h wd L ∧ Kp [] w w' ∧ w.heap.size ≤ g ∧ w.heap.size ≤ h
theorem clone_any {g h wd : Nat} {L : List Nat} {w : World} (T : STab w g h wd L) :
   Calls Tryz.prog 58 #[.pointer (some ⟨g, 0, none⟩)] w (Cloned w wd L) := by
 have T0 := T
 obtain ⟨ws, c, sp, E, l1, l2, l3, l4, l5, b1, b2⟩ := T
 have hlen : 0 < ws.length := Nat.lt_of_le_of_lt (Nat.zero_le _) (E.inside (i := 0) (by omega))
 have hlen2 : ws.length ≤ 4096 := by rw [E.len]; have := Nat.mul_le_mul l2 E.wd_ok.le; omega
 have c0 : w.cell? ⟨g, 0, none⟩ = some (.int .i64 (L.length : Int)) := b1.cell 0
 have c1 : w.cell? ⟨g, 1, none⟩ = some (.int .i64 (wd : Int)) := b1.cell 1
 have c2 : w.cell? ⟨g, 2, none⟩ = some (.slice (some ⟨h, 0, none⟩) ws.length c) := b1.cell 2
 have HB2 := hid b2
 have HB1 := hid b1
 have HE := hid E
 clear b1 b2 E l5
 go_enter Tryz.func58, Tryz.ntmps58
 go_wp2_with (go_at_call 129; refine (made_yes T0).mono ?_; rintro e w' ⟨rfl, n1, rfl⟩)
 go_region_held3 (fun W => W.cell? ⟨g, 0, none⟩ = some (.int .i64 (L.length : Int)) ∧ W.cell? ⟨g, 1, none⟩ = some (.int .i64 (wd : Int)) ∧ W.cell? ⟨g, 2, none⟩ = some (.slice (some ⟨h, 0, none⟩) ws.length c)) (go_keep)
   (first | (go_at_call 130; refine (clone_words (w := (w.drewN n1).drew) HB2.out hlen hlen2).mono ?_; rintro e w' ⟨g', c', sp', rfl, hge, hb', hc1', hc2', hc3', hk'⟩; have hbg := (show Blk ((w.drewN n1).drew) g _ _ from HB1.out).kp hk' (by simp); have q0 := hbg.cell 0; have q1 := hbg.cell 1; have q2 := hbg.cell 2; have q3 := World.new_ne w' ⟨g, 0, none⟩ q0; have HB' := hid hb'; have HK' := hid hk'; have HBG := hid hbg; have HGE := hid hge; clear hb' hk' hbg hge))
 go_wp2
 go_ret
 have hge := HGE.out
 have hsz : w.heap.size ≤ w'.heap.size := HK'.out.size
 refine ⟨w'.heap.size, g', rfl, ?_, ?_, hsz, hge⟩
 · exact ⟨ws, c', sp', HE.out, l1, l2, hc1', hc2', hc3', Blk.new w' 141 _, HB'.out.kp (Kp.new _ _) (by simp)⟩
 · exact ((Kp.draw w n1).trans ((Kp.draw _ 1).trans (HK'.out.trans (Kp.new _ _) (U := []) (by simp) (by simp)) (U := []) (by simp) (by simp)) (by simp) (by simp))
section
variable {g h wd : Nat} {L : List Nat} {w : World}
theorem fill_any (T : STab w g h wd L) (a n v : Int) :
   Calls Tryz.prog 176 #[.pointer (some ⟨g, 0, none⟩), .int .i64 a, .int .i64 n, .int .i64 v] w fun e w' => e = .returned (.int .i64 (fillE wd L a n v)) ∧ STab w' g h wd (fillL wd L a n v) ∧ Kp [h] w w' := by
 have bad : fillOk wd L a n v = false → fillE wd L a n v = 1 ∧ fillL wd L a n v = L := fun hk => by simp [fillE, fillL, hk]
 rcases hb : coversB L a n
 · obtain ⟨e0, e1⟩ := bad (by simp [fillOk, hb])
   rw [e0, e1]
   clear e0 e1 bad
   go_enter Tryz.func176, Tryz.ntmps176
   go_wp2_with (first | (go_at_call 129; refine (made_yes T).mono ?_; rintro e w' ⟨rfl, n1, rfl⟩) | (go_at_call 184; refine (covers_any (w := w.drewN _) T _ _).mono ?_; rintro e w' ⟨rfl, n3, rfl⟩))
   go_ret
   exact ⟨rfl, T, (Kp.refl _ _).drewN _⟩
 · rcases hf : fitsB wd v
   · obtain ⟨e0, e1⟩ := bad (by simp [fillOk, hf])
     rw [e0, e1]
     clear e0 e1 bad
     go_enter Tryz.func176, Tryz.ntmps176
     go_wp2_with (first | (go_at_call 129; refine (made_yes T).mono ?_; rintro e w' ⟨rfl, n1, rfl⟩) | (go_at_call 184; refine (covers_any (w := w.drewN _) T _ _).mono ?_; rintro e w' ⟨rfl, n3, rfl⟩) | (go_at_call 185; refine (fits_any (w := w.drewN _) T _).mono ?_; rintro e w' ⟨rfl, n3, rfl⟩))
     go_ret
     exact ⟨rfl, T, (Kp.refl _ _).drewN _⟩
   · have e0 : fillE wd L a n v = 0 := by simp [fillE, fillOk, hb, hf]
     have e1 : fillL wd L a n v = fillN L a.toNat n.toNat v.toNat := by simp [fillL, fillOk, hb, hf]
     rw [e0, e1]
     clear e0 e1 bad
     have hc := of_decide_eq_true hb
     have hle := T.le
     obtain ⟨i, rfl⟩ : ∃ i : Nat, a = (i : Int) := ⟨a.toNat, by omega⟩
     obtain ⟨z, rfl⟩ : ∃ z : Nat, n = (z : Int) := ⟨n.toNat, by omega⟩
     obtain ⟨x, rfl, hx⟩ := fitsB_nat hf
     have HX := hid hx
     have hz : i + z ≤ L.length := by omega
     clear hx hc
     simp only [Int.toNat_natCast]
     have TT := hid T
     go_enter Tryz.func176, Tryz.ntmps176
     go_wp2_with (first | (go_at_call 129; refine (made_yes T).mono ?_; rintro e w' ⟨rfl, n1, rfl⟩) | (go_at_call 184; refine (covers_any (w := w.drewN _) T _ _).mono ?_; rintro e w' ⟨rfl, n3, rfl⟩) | (go_at_call 185; refine (fits_any (w := w.drewN _) T _).mono ?_; rintro e w' ⟨rfl, n3, rfl⟩))
     go_loopw [25] (fun c wr => ∃ k : Nat, k ≤ z ∧ c = .int .i64 (k : Int) ∧ STab wr g h wd (fillN L i k x) ∧ Kp [h] w wr) (fun c _ => z - (intOf c).toNat)
     case atStart => exact ⟨0, by omega, rfl, T, (Kp.refl _ _).drewN _⟩
     case round =>
       obtain ⟨k, hk, rfl, T1, K1⟩ := hrel
       by_cases hlt : k < z
       · have HIN : Hid (i + k < (fillN L i k x).length) := by show _ < _; rw [fillN_length]; omega
         clear T TT
         go_wp2_with (go_at_call 186; refine (store_ok T1 (i + k) HIN.out x HX.out).mono ?_; rintro e w' ⟨rfl, T', K'⟩)
         go_roundw
         case rel => exact ⟨k + 1, by omega, by go_num, T', K1.trans K' (by simp) (by simp)⟩
         case measure => simp [intOf]; omega
       · obtain rfl : k = z := by omega
         clear T TT
         go_wp2
         go_ret
         exact ⟨rfl, T1, K1⟩
theorem count_any (T : STab w g h wd L) (v : Int) :
   Calls Tryz.prog 152 #[.pointer (some ⟨g, 0, none⟩), .int .i64 v] w fun e w' => e = .returned (.int .i64 ((cntN (isV L v) L.length : Nat) : Int)) ∧ ∃ m, w' = w.drewN m := by
 have hc := T.cell0
 have hle := T.le
 go_enter Tryz.func152, Tryz.ntmps152
 go_wp2_with (first | (go_at_call 129; refine (made_yes T).mono ?_; rintro e w' ⟨rfl, n1, rfl⟩))
 go_loopw [5, 14] (fun s c wr => ∃ k n : Nat, k ≤ L.length ∧ c = .int .i64 (k : Int) ∧ s = .int .i64 ((cntN (isV L v) k : Nat) : Int) ∧ wr = w.drewN n) (fun _ c _ => L.length - (intOf c).toNat)
 case atStart => exact ⟨0, _, by omega, rfl, rfl, rfl⟩
 case round =>
   obtain ⟨k, n, hk, rfl, rfl, rfl⟩ := hrel
   have hcnt := cntN_le (isV L v) k
   by_cases hlt : k < L.length
   · by_cases hv : ((ent L k : Nat) : Int) = v
     · have e := cntN_yes (isV_yes hv)
       have HE := hid e
       have hv' : (((ent L k : Nat) : Int) == v) = true := by rw [hv]; exact beq_self_eq_true _
       clear e hv
       go_wp2_with (go_at_call 179; refine (load_ok (w := w.drewN _) T k hlt).mono ?_; rintro e w' ⟨rfl, n5, rfl⟩)
       go_roundw
       case rel => exact ⟨k + 1, _, by omega, by go_num, by rw [HE.out]; go_num, rfl⟩
       case measure => simp [intOf]; omega
     · have e := cntN_no (isV_no hv)
       have HE := hid e
       have hv' : (((ent L k : Nat) : Int) == v) = false := beq_eq_false_iff_ne.2 hv
       clear e hv
       go_wp2_with (go_at_call 179; refine (load_ok (w := w.drewN _) T k hlt).mono ?_; rintro e w' ⟨rfl, n5, rfl⟩)
       go_roundw
       case rel => exact ⟨k + 1, _, by omega, by go_num, by rw [HE.out], rfl⟩
       case measure => simp [intOf]; omega
   · obtain rfl : k = L.length := by omega
     go_wp2
     go_ret
     exact ⟨rfl, _, rfl⟩
end
section
variable {g h wd : Nat} {L : List Nat} {w : World}
theorem last_any (T : STab w g h wd L) (a v : Int) :
   Calls Tryz.prog 183 #[.pointer (some ⟨g, 0, none⟩), .int .i64 a, .int .i64 v] w fun e w' => e = .returned (.tuple #[.int .i64 (lastV L a v), .int .i64 (lastE L a v)]) ∧ ∃ m, w' = w.drewN m := by
 have hc := T.cell0
 have hle := T.le
 have h3 : a < 0 ∨ (0 ≤ a ∧ a ≤ (L.length : Int)) ∨ (L.length : Int) < a := by omega
 rcases h3 with h0 | ⟨h0, h1⟩ | h0
 all_goals
   go_enter Tryz.func183, Tryz.ntmps183
   go_wp2_with (first | (go_at_call 129; refine (made_yes T).mono ?_; rintro e w' ⟨rfl, n1, rfl⟩))
   go_loopw [8] (fun c wr => ∃ (k n : Nat) (q : Int), Hid (∀ j : Nat, k ≤ j → j < L.length → lastP L a v j = false) ∧ k ≤ L.length ∧ (k = 0 ∨ (k : Int) ≤ a) ∧ q + 1 = (k : Int) ∧ c = .int .i64 q ∧ wr = w.drewN n) (fun c _ => (intOf c + 1).toNat)
   case atStart => first
     | exact ⟨0, _, -1, (fun j hj _ => by unfold lastP; rw [decide_eq_false (by omega)]; rfl), by omega, by omega, by omega, rfl, rfl⟩
     | exact ⟨a.toNat, _, a - 1, (fun j hj _ => by unfold lastP; rw [decide_eq_false (by omega)]; rfl), by omega, by omega, by omega, rfl, rfl⟩
     | exact ⟨L.length, _, (L.length : Int) - 1, (fun j hj hj2 => absurd hj2 (by omega)), by omega, by omega, by omega, rfl, rfl⟩
   case round =>
     obtain ⟨k, n, q, HN, hkl, hka, hq, rfl, rfl⟩ := hrel
     rcases k with _ | k
     · obtain rfl : q = -1 := by omega
       have e : lastN (lastP L a v) L.length = none := lastN_none fun j hj => HN.out j (by omega) hj
       have e1 : lastV L a v = 0 := by unfold lastV; rw [e]; rfl
       have e2 : lastE L a v = 4 := by unfold lastE; rw [e]; rfl
       have E1 := hid e1
       have E2 := hid e2
       clear e e1 e2 hq
       go_wp2
       go_ret2
       rw [E1.out, E2.out]
       exact ⟨rfl, _, rfl⟩
     · obtain rfl : q = (k : Int) := by omega
       have hlt : k < L.length := by omega
       clear hq
       by_cases hv : ((ent L k : Nat) : Int) = v
       · have e : lastN (lastP L a v) L.length = some k := lastN_some hlt (by unfold lastP; rw [decide_eq_true (by omega), decide_eq_true hv]; rfl) (fun j h1 h2 => HN.out j (by omega) h2)
         have e1 : lastV L a v = (k : Int) := by unfold lastV; rw [e]; rfl
         have e2 : lastE L a v = 0 := by unfold lastE; rw [e]; rfl
         have E1 := hid e1
         have E2 := hid e2
         have hv' : (((ent L k : Nat) : Int) == v) = true := by rw [hv]; exact beq_self_eq_true _
         clear e e1 e2 hv hka
         go_wp2_with (go_at_call 179; refine (load_ok (w := w.drewN _) T k hlt).mono ?_; rintro e w' ⟨rfl, n5, rfl⟩)
         go_ret2
         rw [E1.out, E2.out]
         exact ⟨rfl, _, rfl⟩
       · have hv' : (((ent L k : Nat) : Int) == v) = false := beq_eq_false_iff_ne.2 hv
         have HN' : Hid (∀ j : Nat, k ≤ j → j < L.length → lastP L a v j = false) := fun j hj hj2 => by
           by_cases hj' : k + 1 ≤ j
           · exact HN.out j hj' hj2
           · obtain rfl : j = k := by omega
             unfold lastP
             rw [decide_eq_false hv, Bool.and_false]
         have HA := hid hka
         clear hv hka
         go_wp2_with (go_at_call 179; refine (load_ok (w := w.drewN _) T k hlt).mono ?_; rintro e w' ⟨rfl, n5, rfl⟩)
         go_roundw
         case rel => exact ⟨k, _, (k : Int) - 1, HN', by omega, by have := HA.out; omega, by omega, rfl, rfl⟩
         case measure => simp [intOf]
end
end Go.Proofs.YthndilllnneijaaGreat
