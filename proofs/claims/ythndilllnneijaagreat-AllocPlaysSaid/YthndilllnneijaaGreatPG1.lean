/-
  The steps from a law's walk to its row, the same for each law: arguments open as they lie, results read as true, all that was there is as it was. Conditions: those that stand in each theorem.
-/
import Derived.Test.YthndilllnneijaaGreatPU
import Derived.ProofKit
import Derived.OpenShut
import Derived.ChangeOld
import Derived.Carry
import Derived.Lib.SmallJoins
import Derived.Deep.Slices
import Derived.Deep.Fields
import Derived.ChangeSame
set_option linter.unusedSimpArgs false
set_option linter.unusedVariables false
set_option maxRecDepth 100000
namespace Go.Proofs.YthndilllnneijaaGreat
open Go.ChangeShapes Go.WideShapes Go.ChangeAt Go.RowKit Go.Joins Go.Deep
theorem own : ownKnob Tryz.prog.godebug = none := by kernel_rfl
theorem laidOut : laidOutB Tryz.prog = true := by kernel_rfl
theorem trodAll_below {H : Type} {enc : TypeId × Value → H} {P : Program} (hl : laidOutB P = true) {W W' : World} (hb : Below W.heap.size W W') :
   ∀ {ts : List TypeId} {vs : List Value} {ds : List (DataW H)} {ps : List MemPlace}, ts.all (fun t => P.readableRec t && decide (t < P.types.size)) = true → DataW.TrodAll enc P W 0 (fun _ => true) true ts vs ds ps →
     (∀ x ∈ ps, x.block < W.heap.size) → DataW.TrodAll enc P W' 0 (fun b => decide (b < W.heap.size)) true ts vs ds ps
 | [], _, _, _, _, h, _ => by
   obtain ⟨rfl, rfl, rfl⟩ := trodAll_nil h
   exact trodAll_mk0
 | t :: ts, _, _, _, ha, h, hlt => by
   obtain ⟨v, vs1, d, ds1, a, b, rfl, rfl, rfl, h1, h2⟩ := trodAll_cons h
   simp only [List.all_cons, Bool.and_eq_true, decide_eq_true_eq] at ha
   exact trodAll_cons_mk (Below.trod hl ha.1.1 ha.1.2 h1 hb fun x hx => hlt x (List.mem_append.2 (.inl hx))) (trodAll_below hl hb (by simpa using ha.2) h2 fun x hx => hlt x (List.mem_append.2 (.inr hx)))
theorem post_law {H : Type} {enc : TypeId × Value → H} {P : Program} {f : Func} {s : ChangeSpec} {W W' : World} {args : Array Value} {ds gs : List (DataW H)} {before : List MemPlace} {b : TypeId}
   (hl : laidOutB P = true) (hW : DataW.Whole enc P f.params.toList s.vars false W args.toList ds gs before) (hvars : s.vars = []) (hres : f.resultTypes.toList = [b]) (hsize : f.resultTypes.size = 1) (hb : P.underlying b = some .bool)
   (hs : (s.fn H (ds ++ gs)).results = [.lit (.bool true)] ∧ (s.fn H (ds ++ gs)).args = ds ∧ (s.fn H (ds ++ gs)).vars = []) (hok : f.params.toList.all (fun t => P.readableRec t && decide (t < P.types.size)) = true)
   (bel : Below W.heap.size W W') : s.post enc P f false true false false W args (.bool true) W' := by
 have hW0 := hW
 have hlt : ∀ x ∈ before, x.block < W.heap.size := fun x hx => hW.lt x hx
 obtain ⟨p, q, hA, hV, rfl, _, _⟩ := hW
 rw [hvars] at hV
 obtain ⟨rfl, rfl⟩ := trodVars_none hV
 obtain ⟨h1, h2, h3⟩ := hs
 refine ⟨ds, [], p ++ [], [], p, [], hW0, ?_, ?_, ?_, bel.frame _, fun h => by cases h⟩
 · rw [hres, h1, hsize]
   exact trodAll_mk1 (shut_bool hb _)
 · rw [h2]
   exact trodAll_below hl bel hok hA fun x hx => hlt x (List.mem_append.2 (.inl hx))
 · rw [h3, hvars]
   rfl
section
variable {H : Type} {enc : TypeId × Value → H} {W : World} {base : Nat} {spare : Nat → Bool} {held : Bool} {r : Reach} {b0 : Nat}
theorem w64_of {a : Int} (h : (Lit.int .i64 a).wf = true) : W64 a := by
 have hx : -9223372036854775808 ≤ a ∧ a ≤ 9223372036854775807 := by simpa [Lit.wf, IntKind.min, IntKind.max, IntKind.signed, IntKind.bits] using h
 exact hx
theorem int_shape {v : Value} {d : DataW H} {p : List MemPlace} (hv : Value.okWide Tryz.prog W r b0 3 v) (h : DataW.Trod enc Tryz.prog W base spare held 3 v d p) :
   ∃ k : Int, v = .int .i64 k ∧ -9223372036854775808 ≤ k ∧ k ≤ 9223372036854775807 := by
 obtain ⟨a, rfl, _, _, hw⟩ := open_int Tryz.underlying3 hv h
 have hx : -9223372036854775808 ≤ a ∧ a ≤ 9223372036854775807 := by simpa [Lit.wf, IntKind.min, IntKind.max, IntKind.signed, IntKind.bits] using hw
 exact ⟨a, rfl, hx.1, hx.2⟩
end
section
variable {H : Type} {enc : TypeId × Value → H} {W : World} {base : Nat} {spare : Nat → Bool} {held : Bool} {r : Reach} {b0 : Nat}
theorem cellsInt : Tryz.prog.cellsOf 3 = 1 := by kernel_rfl
theorem three_of {cs : List Value} (h : cs.length = 3) : ∃ a b c, cs = [a, b, c] := by
 match cs, h with
 | [a, b, c], _ => exact ⟨a, b, c, rfl⟩
theorem int_of {n : Nat} {v : Value} {y : Option (DataW H × List MemPlace)} {y' : DataW H × List MemPlace} (h : DataW.trod enc Tryz.prog W base spare held n 3 [v] = y) (hy : y = some y') : ∃ k : Int, v = .int .i64 k ∧ W64 k := by
 subst hy
 obtain ⟨a, e, _, hw⟩ := DataW.trod_int Tryz.underlying3 h
 simp at e
 exact ⟨a, e, w64_of hw⟩
end
theorem cell_off {g o j : Nat} : ((⟨g, o, none⟩ : Addr).add j) = ⟨g, o + j, none⟩ := by
 unfold Addr.add
 by_cases h : j = 0 <;> simp [h]
def Wd (wd : Nat) : Prop := wd = 1 ∨ wd = 2 ∨ wd = 4 ∨ wd = 8
theorem Wd.pos {wd : Nat} (h : Wd wd) : 1 ≤ wd := by unfold Wd at h; omega
theorem Wd.le {wd : Nat} (h : Wd wd) : wd ≤ 8 := by unfold Wd at h; omega
theorem Wd.room {wd : Nat} (h : Wd wd) (i : Nat) : i * wd % 64 + wd ≤ 64 := by
 rcases h with rfl | rfl | rfl | rfl <;> omega
theorem Wd.apart {wd : Nat} (h : Wd wd) (i j : Nat) (hne : j ≠ i) (hq : j * wd / 64 = i * wd / 64) : j * wd % 64 + wd ≤ i * wd % 64 ∨ i * wd % 64 + wd ≤ j * wd % 64 := by
 rcases h with rfl | rfl | rfl | rfl <;> omega
theorem Wd.pow_le {wd : Nat} (h : Wd wd) : 2 ^ wd ≤ 256 := by
 rcases h with rfl | rfl | rfl | rfl <;> decide
theorem Wd.pow_ge {wd : Nat} (h : Wd wd) : 2 ≤ 2 ^ wd := by
 rcases h with rfl | rfl | rfl | rfl <;> decide
def fld (wd : Nat) (ws : List Nat) (i : Nat) : Nat := ws.getD (i * wd / 64) 0 / 2 ^ (i * wd % 64) % 2 ^ wd
theorem fld_lt (wd : Nat) (ws : List Nat) (i : Nat) : fld wd ws i < 2 ^ wd := Nat.mod_lt _ (Nat.two_pow_pos _)
def ins (wd x s v : Nat) : Nat := (x &&& (18446744073709551615 - (2 ^ wd - 1) * 2 ^ s)) ||| v * 2 ^ s
theorem mask_lt {wd s : Nat} (hs : s + wd ≤ 64) : (2 ^ wd - 1) * 2 ^ s < 18446744073709551616 := by
 have h1 : (2 ^ wd - 1) * 2 ^ s < 2 ^ wd * 2 ^ s := by
   have := Nat.two_pow_pos wd
   exact (Nat.mul_lt_mul_right (Nat.two_pow_pos s)).2 (by omega)
 rw [← Nat.pow_add] at h1
 have h2 : 2 ^ (wd + s) ≤ 2 ^ 64 := Nat.pow_le_pow_right (by omega) (by omega)
 omega
theorem val_lt {wd s v : Nat} (hs : s + wd ≤ 64) (hv : v < 2 ^ wd) : v * 2 ^ s < 18446744073709551616 := by
 have h1 : v * 2 ^ s < 2 ^ wd * 2 ^ s := (Nat.mul_lt_mul_right (Nat.two_pow_pos s)).2 hv
 rw [← Nat.pow_add] at h1
 have h2 : 2 ^ (wd + s) ≤ 2 ^ 64 := Nat.pow_le_pow_right (by omega) (by omega)
 omega
theorem ins_lt {wd x s v : Nat} (hx : x < 18446744073709551616) (hs : s + wd ≤ 64) (hv : v < 2 ^ wd) : ins wd x s v < 18446744073709551616 := by
 have h1 : x &&& (18446744073709551615 - (2 ^ wd - 1) * 2 ^ s) < 2 ^ 64 := Nat.lt_of_le_of_lt Nat.and_le_left hx
 have h2 : v * 2 ^ s < 2 ^ 64 := val_lt hs hv
 exact Nat.or_lt_two_pow h1 h2
theorem ins_bit {wd x s v j : Nat} (hs : s + wd ≤ 64) (hj : j < 64) :
   (ins wd x s v).testBit j = ((x.testBit j && !(decide (s ≤ j) && decide (j - s < wd))) || (decide (s ≤ j) && v.testBit (j - s))) := by
 unfold ins
 have hm : (18446744073709551615 - (2 ^ wd - 1) * 2 ^ s) = 2 ^ 64 - ((2 ^ wd - 1) * 2 ^ s + 1) := by omega
 rw [Nat.testBit_or, Nat.testBit_and, hm, Nat.testBit_two_pow_sub_succ (mask_lt hs)]
 rw [Nat.mul_comm (2 ^ wd - 1), Nat.mul_comm v, Nat.testBit_two_pow_mul, Nat.testBit_two_pow_mul, Nat.testBit_two_pow_sub_one]
 simp [hj]
theorem ins_same {wd x s v : Nat} (hs : s + wd ≤ 64) (hv : v < 2 ^ wd) : ins wd x s v / 2 ^ s % 2 ^ wd = v := by
 apply Nat.eq_of_testBit_eq
 intro i
 rw [Nat.testBit_mod_two_pow, Nat.testBit_div_two_pow]
 by_cases hi : i < wd
 · rw [ins_bit hs (by omega)]
   simp [hi]
 · have : v.testBit i = false := Nat.testBit_lt_two_pow (Nat.lt_of_lt_of_le hv (Nat.pow_le_pow_right (by omega) (by omega)))
   simp [hi, this]
theorem ins_other {wd x s v s' : Nat} (hs : s + wd ≤ 64) (hs' : s' + wd ≤ 64) (hv : v < 2 ^ wd) (h : s' + wd ≤ s ∨ s + wd ≤ s') : ins wd x s v / 2 ^ s' % 2 ^ wd = x / 2 ^ s' % 2 ^ wd := by
 apply Nat.eq_of_testBit_eq
 intro i
 rw [Nat.testBit_mod_two_pow, Nat.testBit_div_two_pow, Nat.testBit_mod_two_pow, Nat.testBit_div_two_pow]
 by_cases hi : i < wd
 · rw [ins_bit hs (by omega)]
   simp only [hi, decide_true, Bool.true_and]
   rcases h with h | h
   · have h1 : ¬ s ≤ i + s' := by omega
     simp [h1]
   · have h1 : s ≤ i + s' := by omega
     have h2 : ¬ (i + s' - s < wd) := by omega
     have : v.testBit (i + s' - s) = false := Nat.testBit_lt_two_pow (Nat.lt_of_lt_of_le hv (Nat.pow_le_pow_right (by omega) (by omega)))
     simp [h1, h2, this]
 · simp [hi]
structure Enc (wd : Nat) (ws : List Nat) (L : List Nat) : Prop where
 wd_ok : Wd wd
 len : ws.length = (L.length * wd + 63) / 64
 bnd : ∀ x ∈ ws, x < 18446744073709551616
 fld_eq : ∀ i, fld wd ws i = L.getD i 0
theorem Enc.word_lt {wd : Nat} {ws L : List Nat} (h : Enc wd ws L) (k : Nat) : ws.getD k 0 < 18446744073709551616 := by
 by_cases hk : k < ws.length
 · rw [List.getD_eq_getElem?_getD, List.getElem?_eq_getElem hk]; exact h.bnd _ (List.getElem_mem hk)
 · rw [List.getD_eq_getElem?_getD, List.getElem?_eq_none (by omega)]; decide
theorem Enc.inside {wd : Nat} {ws L : List Nat} (h : Enc wd ws L) {i : Nat} (hi : i < L.length) : i * wd / 64 < ws.length := by
 rw [h.len]
 rcases h.wd_ok with rfl | rfl | rfl | rfl <;> omega
theorem Enc.lt {wd : Nat} {ws L : List Nat} (h : Enc wd ws L) (i : Nat) : L.getD i 0 < 2 ^ wd := by
 rw [← h.fld_eq i]; exact fld_lt _ _ _
theorem Enc.set {wd : Nat} {ws L : List Nat} (h : Enc wd ws L) {i v : Nat} (hi : i < L.length) (hv : v < 2 ^ wd) :
   Enc wd (ws.set (i * wd / 64) (ins wd (ws.getD (i * wd / 64) 0) (i * wd % 64) v)) (L.set i v) := by
 have hin := h.inside hi
 refine ⟨h.wd_ok, by simpa using h.len, ?_, ?_⟩
 · intro x hx
   rcases List.mem_or_eq_of_mem_set hx with h1 | rfl
   · exact h.bnd x h1
   · exact ins_lt (h.word_lt _) (h.wd_ok.room i) hv
 · intro j
   by_cases hji : j = i
   · subst hji
     have hr := h.wd_ok.room j
     unfold fld
     simp only [List.getD_eq_getElem?_getD, List.getElem?_set, hin, hi, if_true, Option.getD_some]
     exact ins_same hr hv
   · have hL : (L.set i v).getD j 0 = L.getD j 0 := by
       simp only [List.getD_eq_getElem?_getD, List.getElem?_set]
       rw [if_neg (by omega)]
     rw [hL, ← h.fld_eq j]
     unfold fld
     by_cases hq : j * wd / 64 = i * wd / 64
     · have e1 : (ws.set (i * wd / 64) (ins wd (ws.getD (i * wd / 64) 0) (i * wd % 64) v)).getD (j * wd / 64) 0 = ins wd (ws.getD (i * wd / 64) 0) (i * wd % 64) v := by
         rw [hq, List.getD_eq_getElem?_getD, List.getElem?_set]
         simp [hin]
       rw [e1, ins_other (h.wd_ok.room i) (h.wd_ok.room j) hv (h.wd_ok.apart i j hji hq), hq]
     · have e1 : (ws.set (i * wd / 64) (ins wd (ws.getD (i * wd / 64) 0) (i * wd % 64) v)).getD (j * wd / 64) 0 = ws.getD (j * wd / 64) 0 := by
         simp only [List.getD_eq_getElem?_getD, List.getElem?_set]
         rw [if_neg (by omega)]
       rw [e1]
theorem Enc.zero {wd n : Nat} (h : Wd wd) : Enc wd (List.replicate ((n * wd + 63) / 64) 0) (List.replicate n 0) := by
 refine ⟨h, by simp, ?_, ?_⟩
 · intro x hx
   rw [(List.mem_replicate.1 hx).2]; decide
 · intro i
   have e : ∀ m k : Nat, (List.replicate m 0).getD k 0 = 0 := by
     intro m k
     rw [List.getD_eq_getElem?_getD, List.getElem?_replicate]
     split <;> rfl
   unfold fld
   rw [e, e]
   simp
theorem Enc.inj {wd : Nat} {ws L L' : List Nat} (h : Enc wd ws L) (h' : Enc wd ws L') (hl : L.length = L'.length) : L = L' := by
 apply List.ext_getElem hl
 intro i hi hi'
 have := (h.fld_eq i).symm.trans (h'.fld_eq i)
 rw [List.getD_eq_getElem?_getD, List.getElem?_eq_getElem hi, List.getD_eq_getElem?_getD, List.getElem?_eq_getElem hi'] at this
 exact this
def ent (L : List Nat) (k : Nat) : Nat := L.getD k 0
theorem ent_set (L : List Nat) (i v k : Nat) (hi : i < L.length) : ent (L.set i v) k = if k = i then v else ent L k := by
 unfold ent
 simp only [List.getD_eq_getElem?_getD, List.getElem?_set]
 by_cases h : i = k
 · subst h; simp [hi]
 · rw [if_neg h, if_neg (by omega)]
def most (wd : Nat) : Nat := 2 ^ wd - 1
theorem most_lt {wd : Nat} (h : Wd wd) : most wd < 256 := by have := h.pow_le; have := h.pow_ge; unfold most; omega
theorem lt_of_most {wd v : Nat} (h : v ≤ most wd) : v < 2 ^ wd := by have := Nat.two_pow_pos wd; unfold most at h; omega
theorem most_of_lt {wd v : Nat} (h : v < 2 ^ wd) : v ≤ most wd := by unfold most; omega
def hasB (L : List Nat) (i : Int) : Bool := decide (0 ≤ i ∧ i < (L.length : Int))
def fitsB (wd : Nat) (v : Int) : Bool := decide (0 ≤ v ∧ v ≤ ((most wd : Nat) : Int))
def coversB (L : List Nat) (a n : Int) : Bool := decide (0 ≤ a ∧ a < (L.length : Int) ∧ 1 ≤ n ∧ n ≤ (L.length : Int) - a)
theorem hasB_nat {L : List Nat} {i : Int} (h : hasB L i = true) : ∃ k : Nat, i = (k : Int) ∧ k < L.length := by
 have := of_decide_eq_true h
 exact ⟨i.toNat, by omega, by omega⟩
theorem fitsB_nat {wd : Nat} {v : Int} (h : fitsB wd v = true) : ∃ x : Nat, v = (x : Int) ∧ x < 2 ^ wd := by
 have := of_decide_eq_true h
 exact ⟨v.toNat, by omega, lt_of_most (by omega)⟩
theorem fitsB_of {wd x : Nat} (h : x < 2 ^ wd) : fitsB wd (x : Int) = true := decide_eq_true ⟨by omega, by have := most_of_lt h; omega⟩
theorem hasB_of {L : List Nat} {k : Nat} (h : k < L.length) : hasB L (k : Int) = true := decide_eq_true ⟨by omega, by omega⟩
def setOk (wd : Nat) (L : List Nat) (i v : Int) : Bool := hasB L i && fitsB wd v
def setE (wd : Nat) (L : List Nat) (i v : Int) : Int := if setOk wd L i v then 0 else 1
def setL (wd : Nat) (L : List Nat) (i v : Int) : List Nat := if setOk wd L i v then L.set i.toNat v.toNat else L
def getS (L : List Nat) (i : Int) : Int := if hasB L i then ((ent L i.toNat : Nat) : Int) else -1
def fillN (L : List Nat) (a : Nat) : Nat → Nat → List Nat
 | 0, _ => L
 | n + 1, v => (fillN L a n v).set (a + n) v
@[simp] theorem fillN_length (L : List Nat) (a n v : Nat) : (fillN L a n v).length = L.length := by
 induction n with
 | zero => rfl
 | succ n ih => simp [fillN, ih]
def fillOk (wd : Nat) (L : List Nat) (a n v : Int) : Bool := coversB L a n && fitsB wd v
def fillE (wd : Nat) (L : List Nat) (a n v : Int) : Int := if fillOk wd L a n v then 0 else 1
def fillL (wd : Nat) (L : List Nat) (a n v : Int) : List Nat := if fillOk wd L a n v then fillN L a.toNat n.toNat v.toNat else L
def leastN (p : Nat → Bool) (n : Nat) : Option Nat := (List.range n).find? p
def lastN (p : Nat → Bool) : Nat → Option Nat
 | 0 => none
 | n + 1 => if p n then some n else lastN p n
theorem leastN_some {p : Nat → Bool} {n i : Nat} (hi : i < n) (hp : p i = true) (hn : ∀ j, j < i → p j = false) : leastN p n = some i := by
 unfold leastN
 rw [List.find?_range_eq_some]
 exact ⟨hp, by simpa using hi, fun j hj => by simp [hn j hj]⟩
theorem leastN_none {p : Nat → Bool} {n : Nat} (hn : ∀ j, j < n → p j = false) : leastN p n = none := by
 unfold leastN
 rw [List.find?_range_eq_none]
 exact fun j hj => by simp [hn j hj]
theorem lastN_none {p : Nat → Bool} {n : Nat} (hn : ∀ j, j < n → p j = false) : lastN p n = none := by
 induction n with
 | zero => rfl
 | succ n ih => simp [lastN, hn n (by omega), ih (fun j hj => hn j (by omega))]
theorem lastN_some {p : Nat → Bool} {n i : Nat} (hi : i < n) (hp : p i = true) (hn : ∀ j, i < j → j < n → p j = false) : lastN p n = some i := by
 induction n with
 | zero => omega
 | succ n ih =>
   by_cases h : i = n
   · subst h; simp [lastN, hp]
   · simp [lastN, hn n (by omega) (by omega), ih (by omega) (fun j h1 h2 => hn j h1 (by omega))]
def lastP (L : List Nat) (b v : Int) (k : Nat) : Bool := decide ((k : Int) < b) && decide (((ent L k : Nat) : Int) = v)
def foundV : Option Nat → Int
 | some k => (k : Int)
 | none => 0
def foundE : Option Nat → Int
 | some _ => 0
 | none => 4
def lastV (L : List Nat) (a v : Int) : Int := foundV (lastN (lastP L a v) L.length)
def lastE (L : List Nat) (a v : Int) : Int := foundE (lastN (lastP L a v) L.length)
def isV (L : List Nat) (v : Int) (k : Nat) : Bool := decide (((ent L k : Nat) : Int) = v)
def cntN (p : Nat → Bool) : Nat → Nat
 | 0 => 0
 | n + 1 => cntN p n + if p n then 1 else 0
theorem cntN_le (p : Nat → Bool) (n : Nat) : cntN p n ≤ n := by
 induction n with
 | zero => exact Nat.le_refl _
 | succ n ih => unfold cntN; split <;> omega
theorem cntN_yes {p : Nat → Bool} {k : Nat} (h : p k = true) : cntN p (k + 1) = cntN p k + 1 := by simp [cntN, h]
theorem cntN_no {p : Nat → Bool} {k : Nat} (h : p k = false) : cntN p (k + 1) = cntN p k := by simp [cntN, h]
theorem isV_yes {L : List Nat} {v : Int} {k : Nat} (h : ((ent L k : Nat) : Int) = v) : isV L v k = true := decide_eq_true h
theorem isV_no {L : List Nat} {v : Int} {k : Nat} (h : ¬ ((ent L k : Nat) : Int) = v) : isV L v k = false := decide_eq_false h
structure Ob where
 id : Nat
 refs : Nat
 data : Nat
 kind : Nat
 fs : List Int
 pin : Bool
def wdN (r d : Nat) : Nat := (r + d + 3) / 2 * 2
def shN (r d k : Nat) : Nat := r + 16 * d + 4096 * k
def Ob.wd (o : Ob) : Nat := wdN o.refs o.data
def Ob.sh (o : Ob) : Nat := shN o.refs o.data o.kind
def Ob.word (o : Ob) (i : Nat) : Int := if i = 0 then (o.id : Int) else if i = 1 then (o.sh : Int) else o.fs.getD (i - 2) 0
def vldB (r d k : Int) : Bool := decide (0 ≤ r ∧ r ≤ 15 ∧ 0 ≤ d ∧ d ≤ 200 ∧ (k = 0 ∨ k = 3 ∨ (k = 1 ∧ 1 ≤ r) ∨ (k = 2 ∧ 2 ≤ r)))
def wordsI (r d k : Int) : Int := if vldB r d k then ((wdN r.toNat d.toNat : Nat) : Int) else 0
structure Ob.Ok (o : Ob) : Prop where
 vld : vldB o.refs o.data o.kind = true
 len : o.fs.length = o.refs + o.data
 pos : 1 ≤ o.id
theorem vldB_nat {r d k : Int} (h : vldB r d k = true) : ∃ r' d' k' : Nat, r = (r' : Int) ∧ d = (d' : Int) ∧ k = (k' : Int) ∧ r' ≤ 15 ∧ d' ≤ 200 ∧ k' ≤ 3 := by
 have := of_decide_eq_true h
 exact ⟨r.toNat, d.toNat, k.toNat, by omega, by omega, by omega, by omega, by omega, by omega⟩
theorem vldB_bd {r d k : Nat} (h : vldB r d k = true) : r ≤ 15 ∧ d ≤ 200 ∧ k ≤ 3 := by
 have := of_decide_eq_true h
 omega
theorem wdN_bd {r d : Nat} (hr : r ≤ 15) (hd : d ≤ 200) : 2 ≤ wdN r d ∧ wdN r d ≤ 218 ∧ wdN r d % 2 = 0 ∧ r + d + 2 ≤ wdN r d := by unfold wdN; omega
theorem Ob.Ok.bd {o : Ob} (h : o.Ok) : o.refs ≤ 15 ∧ o.data ≤ 200 ∧ o.kind ≤ 3 := vldB_bd h.vld
theorem Ob.Ok.wd_bd {o : Ob} (h : o.Ok) : 2 ≤ o.wd ∧ o.wd ≤ 218 ∧ o.wd % 2 = 0 ∧ o.refs + o.data + 2 ≤ o.wd := wdN_bd h.bd.1 h.bd.2.1
structure HM where
 bl : List (Nat × Nat)
 ob : Nat → Option Ob
 fw : Nat → Option Nat
 fn : Nat
 born : Nat
def HM.n (m : HM) : Nat := 64 * m.bl.length
def HM.st (m : HM) (b : Nat) : Nat := (m.bl.getD b (0, 0)).1
def HM.sp (m : HM) (b : Nat) : Nat := (m.bl.getD b (0, 0)).2
def grpEnd (bl : List (Nat × Nat)) (b : Nat) : Nat :=
 match leastN (fun i => decide (b + 1 ≤ i) && decide (((bl.getD i (0, 0)).1) ≠ 3)) bl.length with
 | some e => e
 | none => max bl.length (b + 1)
theorem leastN_iff {p : Nat → Bool} {n i : Nat} : leastN p n = some i ↔ i < n ∧ p i = true ∧ ∀ j, j < i → p j = false := by
 constructor
 · intro h
   unfold leastN at h
   rw [List.find?_range_eq_some] at h
   exact ⟨by simpa using h.2.1, h.1, fun j hj => by simpa using h.2.2 j hj⟩
 · rintro ⟨h1, h2, h3⟩
   exact leastN_some h1 h2 h3
theorem leastN_none_iff {p : Nat → Bool} {n : Nat} : leastN p n = none ↔ ∀ j, j < n → p j = false := by
 constructor
 · intro h
   unfold leastN at h
   rw [List.find?_range_eq_none] at h
   exact fun j hj => by simpa using h j hj
 · exact leastN_none
theorem grpEnd_iff (bl : List (Nat × Nat)) (b e : Nat) (hb : b < bl.length) : grpEnd bl b = e ↔ (b + 1 ≤ e ∧ e ≤ bl.length ∧ (∀ i, b + 1 ≤ i → i < e → (bl.getD i (0, 0)).1 = 3) ∧ (e < bl.length → (bl.getD e (0, 0)).1 ≠ 3)) := by
 unfold grpEnd
 constructor
 · intro h
   rcases hl : leastN (fun i => decide (b + 1 ≤ i) && decide (((bl.getD i (0, 0)).1) ≠ 3)) bl.length with _ | x
   · rw [hl] at h
     rw [leastN_none_iff] at hl
     simp only at h
     refine ⟨by omega, by omega, fun i h1 h2 => ?_, fun h1 => by omega⟩
     have := hl i (by omega)
     simp [h1] at this
     exact this
   · rw [hl] at h
     rw [leastN_iff] at hl
     obtain ⟨h1, h2, h3⟩ := hl
     simp only at h
     subst h
     simp at h2
     refine ⟨h2.1, by omega, fun i h4 h5 => ?_, fun _ => h2.2⟩
     have := h3 i h5
     simp [h4] at this
     exact this
 · rintro ⟨h1, h2, h3, h4⟩
   by_cases he : e < bl.length
   · have : leastN (fun i => decide (b + 1 ≤ i) && decide (((bl.getD i (0, 0)).1) ≠ 3)) bl.length = some e := by
       rw [leastN_iff]
       refine ⟨he, by simp only [Bool.and_eq_true, decide_eq_true_eq]; exact ⟨h1, h4 he⟩, fun j hj => ?_⟩
       by_cases hj2 : b + 1 ≤ j
       · simp only [h3 j hj2 hj]
         simp
       · rw [decide_eq_false hj2]; rfl
     rw [this]
   · have : leastN (fun i => decide (b + 1 ≤ i) && decide (((bl.getD i (0, 0)).1) ≠ 3)) bl.length = none := by
       rw [leastN_none_iff]
       intro j hj
       by_cases hj2 : b + 1 ≤ j
       · simp only [h3 j hj2 (by omega)]
         simp
       · rw [decide_eq_false hj2]; rfl
     rw [this]
     simp only
     omega
def suitB (bl : List (Nat × Nat)) (a wd : Nat) : Bool :=
 if wd ≤ 32 then decide ((bl.getD (a / 64) (0, 0)).1 = 1 ∧ a % 64 + wd ≤ 64) else decide ((bl.getD (a / 64) (0, 0)).1 = 2 ∧ a % 64 = 0 ∧ grpEnd bl (a / 64) - a / 64 = (wd + 63) / 64)
structure HM.Inv (m : HM) : Prop where
 len2 : 2 ≤ m.bl.length
 len64 : m.bl.length ≤ 64
 b0 : m.st 0 = 0
 free0 : ∀ b, m.st b = 0 → m.sp b = 0
 even : ∀ a o, m.ob a = some o → a % 2 = 0
 ok : ∀ a o, m.ob a = some o → o.Ok
 idb : ∀ a o, m.ob a = some o → o.id ≤ m.born
 lie : ∀ a o, m.ob a = some o → suitB m.bl a o.wd = true
 apart : ∀ a o a' o', m.ob a = some o → m.ob a' = some o' → a < a' → a + o.wd ≤ a'
 ids : ∀ a o a' o', m.ob a = some o → m.ob a' = some o' → o.id = o'.id → a = a'
theorem st_lt {bl : List (Nat × Nat)} {b : Nat} (h : (bl.getD b (0, 0)).1 ≠ 0) : b < bl.length := by
 rcases Nat.lt_or_ge b bl.length with h1 | h1
 · exact h1
 · rw [List.getD_eq_getElem?_getD, List.getElem?_eq_none h1] at h
   exact absurd rfl h
theorem suit_bd {bl : List (Nat × Nat)} {a wd : Nat} (h : suitB bl a wd = true) : a / 64 < bl.length ∧ a + wd ≤ 64 * bl.length ∧ (bl.getD (a / 64) (0, 0)).1 ≠ 0 := by
 unfold suitB at h
 split at h
 · have h1 := of_decide_eq_true h
   have h2 : (bl.getD (a / 64) (0, 0)).1 ≠ 0 := by omega
   have h3 := st_lt h2
   exact ⟨h3, by omega, h2⟩
 · have h1 := of_decide_eq_true h
   have h2 : (bl.getD (a / 64) (0, 0)).1 ≠ 0 := by omega
   have h3 := st_lt h2
   have h4 := ((grpEnd_iff bl (a / 64) _ h3).1 rfl)
   exact ⟨h3, by omega, h2⟩
section
variable {m : HM}
theorem HM.Inv.lo (I : m.Inv) {a : Nat} {o : Ob} (h : m.ob a = some o) : 64 ≤ a := by
 have h1 := (suit_bd (I.lie a o h)).2.2
 rcases Nat.lt_or_ge a 64 with h2 | h2
 · have : a / 64 = 0 := by omega
   rw [this] at h1
   exact absurd I.b0 h1
 · exact h2
theorem HM.Inv.hi (I : m.Inv) {a : Nat} {o : Ob} (h : m.ob a = some o) : a + o.wd ≤ m.n := (suit_bd (I.lie a o h)).2.1
theorem HM.Inv.n_bd (I : m.Inv) : 128 ≤ m.n ∧ m.n ≤ 4096 := by
 have := I.len2
 have := I.len64
 unfold HM.n
 omega
theorem HM.Inv.same (I : m.Inv) {a a' k : Nat} {o o' : Ob} (h : m.ob a = some o) (h' : m.ob a' = some o') (h1 : a ≤ k) (h2 : k < a + o.wd) (h3 : a' ≤ k) (h4 : k < a' + o'.wd) : a = a' := by
 rcases Nat.lt_trichotomy a a' with hl | hl | hl
 · have := I.apart _ _ _ _ h h' hl; omega
 · exact hl
 · have := I.apart _ _ _ _ h' h hl; omega
end
def HM.cv (m : HM) (k : Nat) : Prop := ∃ a o, m.ob a = some o ∧ a ≤ k ∧ k < a + o.wd
def HM.own (m : HM) (k : Nat) : Nat :=
 match lastN (fun a => (m.ob a).isSome) (k + 1) with
 | some a => (match m.ob a with
   | some o => if k < a + o.wd then a else 0
   | none => 0)
 | none => 0
theorem lastN_spec {p : Nat → Bool} {n i : Nat} (h : lastN p n = some i) : i < n ∧ p i = true ∧ ∀ j, i < j → j < n → p j = false := by
 induction n with
 | zero => cases h
 | succ n ih =>
   unfold lastN at h
   rcases hp : p n
   · rw [hp] at h
     obtain ⟨h1, h2, h3⟩ := ih h
     refine ⟨by omega, h2, fun j h4 h5 => ?_⟩
     by_cases hj : j = n
     · rw [hj]; exact hp
     · exact h3 j h4 (by omega)
   · rw [hp] at h
     simp at h
     subst h
     exact ⟨by omega, hp, fun j h4 h5 => by omega⟩
section
variable {m : HM}
theorem own_cov (I : m.Inv) {a k : Nat} {o : Ob} (h : m.ob a = some o) (h1 : a ≤ k) (h2 : k < a + o.wd) : m.own k = a := by
 have : lastN (fun a => (m.ob a).isSome) (k + 1) = some a := by
   refine lastN_some (by omega) (by simp [h]) fun j hj hk => ?_
   rcases hj' : m.ob j with _ | o'
   · rfl
   · have := I.apart _ _ _ _ h hj' hj
     omega
 unfold HM.own
 rw [this]
 simp [h, h2]
theorem own_gap {k : Nat} (h : ¬ m.cv k) : m.own k = 0 := by
 unfold HM.own
 rcases hl : lastN (fun a => (m.ob a).isSome) (k + 1) with _ | a
 · rfl
 · obtain ⟨h1, h2, h3⟩ := lastN_spec hl
   rcases ho : m.ob a with _ | o
   · simp [ho]
   · by_cases hk : k < a + o.wd
     · exact absurd ⟨a, o, ho, by omega, hk⟩ h
     · simp [ho, hk]
theorem own_cases (I : m.Inv) (k : Nat) : (∃ a o, m.ob a = some o ∧ a ≤ k ∧ k < a + o.wd ∧ m.own k = a) ∨ (¬ m.cv k ∧ m.own k = 0) := by
 by_cases h : m.cv k
 · obtain ⟨a, o, h0, h1, h2⟩ := h
   exact .inl ⟨a, o, h0, h1, h2, own_cov I h0 h1 h2⟩
 · exact .inr ⟨h, own_gap h⟩
theorem own_ne (I : m.Inv) (k : Nat) : m.own k ≠ 0 ↔ m.cv k := by
 rcases own_cases I k with ⟨a, o, h0, h1, h2, h3⟩ | ⟨h1, h2⟩
 · have := I.lo h0
   exact ⟨fun _ => ⟨a, o, h0, h1, h2⟩, fun _ => by omega⟩
 · exact ⟨fun h => absurd h2 h, fun h => absurd h h1⟩
end
structure Rep (m : HM) (W : Nat → Int) (P N : Nat → Nat) : Prop where
 w_ob : ∀ a o, m.ob a = some o → ∀ i, i < o.wd → W (a + i) = o.word i
 w_gap : ∀ k, ¬ m.cv k → W k = 0
 p_ob : ∀ a o, m.ob a = some o → P (a / 2) = 1
 p_in : ∀ a o, m.ob a = some o → ∀ j, a < 2 * j → 2 * j < a + o.wd → P j = 2
 p_gap : ∀ j, ¬ m.cv (2 * j) → P j = 0
 n_ob : ∀ a o, m.ob a = some o → N (a / 2) = if o.pin then 1 else 0
 n_gap : ∀ j, m.ob (2 * j) = none → N j = 0
def HM.add (m : HM) (a : Nat) (o : Ob) : HM := { m with ob := fun x => if x = a then some o else m.ob x }
def HM.del (m : HM) (a : Nat) : HM := { m with ob := fun x => if x = a then none else m.ob x }
section
variable {m : HM} {W W' : Nat → Int} {P P' N N' : Nat → Nat} {a : Nat} {o : Ob}
theorem Rep.p_one (R : Rep m W P N) (I : m.Inv) (j : Nat) : P j = 1 ↔ (m.ob (2 * j)).isSome = true := by
 constructor
 · intro h
   by_cases hc : m.cv (2 * j)
   · obtain ⟨a, o, h0, h1, h2⟩ := hc
     by_cases he : a = 2 * j
     · subst he; simp [h0]
     · have := R.p_in a o h0 j (by omega) h2
       omega
   · have := R.p_gap j hc
     omega
 · intro h
   obtain ⟨o, ho⟩ := Option.isSome_iff_exists.1 h
   have := R.p_ob _ _ ho
   rw [show 2 * j / 2 = j by omega] at this
   exact this
theorem Rep.p_zero (R : Rep m W P N) (I : m.Inv) (j : Nat) : P j = 0 ↔ ¬ m.cv (2 * j) := by
 constructor
 · rintro h ⟨a, o, h0, h1, h2⟩
   by_cases he : a = 2 * j
   · have := R.p_ob _ _ h0
     rw [he, show 2 * j / 2 = j by omega] at this
     omega
   · have := R.p_in a o h0 j (by omega) h2
     omega
 · exact R.p_gap j
theorem add_cv {k : Nat} (hf : m.ob a = none) : (m.add a o).cv k ↔ (m.cv k ∨ (a ≤ k ∧ k < a + o.wd)) := by
 unfold HM.cv HM.add
 constructor
 · rintro ⟨x, y, h0, h1, h2⟩
   simp only at h0
   split at h0
   · cases h0
     subst x
     exact .inr ⟨h1, h2⟩
   · exact .inl ⟨x, y, h0, h1, h2⟩
 · rintro (⟨x, y, h0, h1, h2⟩ | ⟨h1, h2⟩)
   · refine ⟨x, y, ?_, h1, h2⟩
     simp only
     rw [if_neg (by rintro rfl; rw [hf] at h0; cases h0)]
     exact h0
   · exact ⟨a, o, by simp, h1, h2⟩
def HM.free (m : HM) (a wd : Nat) : Prop := ∀ k, a ≤ k → k < a + wd → ¬ m.cv k
theorem HM.Inv.add (I : m.Inv) (ho : o.Ok) (he : a % 2 = 0) (hs : suitB m.bl a o.wd = true) (hf : m.free a o.wd) (hid : ∀ x y, m.ob x = some y → y.id ≠ o.id) (hb : o.id ≤ m.born) : (m.add a o).Inv := by
 have hw := ho.wd_bd
 have F : ∀ x y, (m.add a o).ob x = some y → (x = a ∧ y = o) ∨ (x ≠ a ∧ m.ob x = some y) := fun x y h => by
   unfold HM.add at h
   simp only at h
   split at h
   · cases h; exact .inl ⟨by assumption, rfl⟩
   · exact .inr ⟨by assumption, h⟩
 refine ⟨I.len2, I.len64, I.b0, I.free0, ?_, ?_, ?_, ?_, ?_, ?_⟩
 · intro x y h
   rcases F x y h with ⟨rfl, rfl⟩ | ⟨_, h1⟩
   · exact he
   · exact I.even _ _ h1
 · intro x y h
   rcases F x y h with ⟨rfl, rfl⟩ | ⟨_, h1⟩
   · exact ho
   · exact I.ok _ _ h1
 · intro x y h
   rcases F x y h with ⟨rfl, rfl⟩ | ⟨_, h1⟩
   · exact hb
   · exact I.idb _ _ h1
 · intro x y h
   rcases F x y h with ⟨rfl, rfl⟩ | ⟨_, h1⟩
   · exact hs
   · exact I.lie _ _ h1
 · intro x y x' y' h h' hlt
   rcases F x y h with ⟨rfl, rfl⟩ | ⟨_, h1⟩ <;> rcases F x' y' h' with ⟨rfl, rfl⟩ | ⟨_, h2⟩
   · omega
   · rcases Nat.lt_or_ge x' (x + y.wd) with hc | hc
     · have := (I.ok _ _ h2).wd_bd
       exact absurd ⟨x', y', h2, Nat.le_refl _, by omega⟩ (hf x' (by omega) hc)
     · exact hc
   · rcases Nat.lt_or_ge x' (x + y.wd) with hc | hc
     · exact absurd ⟨x, y, h1, by omega, hc⟩ (hf x' (Nat.le_refl _) (by omega))
     · exact hc
   · exact I.apart _ _ _ _ h1 h2 hlt
 · intro x y x' y' h h' hi
   rcases F x y h with ⟨rfl, rfl⟩ | ⟨_, h1⟩ <;> rcases F x' y' h' with ⟨rfl, rfl⟩ | ⟨_, h2⟩
   · rfl
   · exact absurd hi.symm (hid _ _ h2)
   · exact absurd hi (hid _ _ h1)
   · exact I.ids _ _ _ _ h1 h2 hi
theorem HM.Inv.del (I : m.Inv) (a : Nat) : (m.del a).Inv := by
 have F : ∀ x y, (m.del a).ob x = some y → x ≠ a ∧ m.ob x = some y := fun x y h => by
   unfold HM.del at h
   simp only at h
   split at h
   · cases h
   · exact ⟨by assumption, h⟩
 refine ⟨I.len2, I.len64, I.b0, I.free0, ?_, ?_, ?_, ?_, ?_, ?_⟩
 · exact fun x y h => I.even _ _ (F x y h).2
 · exact fun x y h => I.ok _ _ (F x y h).2
 · exact fun x y h => I.idb _ _ (F x y h).2
 · exact fun x y h => I.lie _ _ (F x y h).2
 · exact fun x y x' y' h h' => I.apart _ _ _ _ (F x y h).2 (F x' y' h').2
 · exact fun x y x' y' h h' => I.ids _ _ _ _ (F x y h).2 (F x' y' h').2
theorem del_cv (I : m.Inv) (h : m.ob a = some o) {k : Nat} : (m.del a).cv k ↔ (m.cv k ∧ ¬ (a ≤ k ∧ k < a + o.wd)) := by
 unfold HM.cv HM.del
 constructor
 · rintro ⟨x, y, h0, h1, h2⟩
   simp only at h0
   split at h0
   · cases h0
   · refine ⟨⟨x, y, h0, h1, h2⟩, fun hc => ?_⟩
     have := I.same h h0 hc.1 hc.2 h1 h2
     exact absurd this.symm (by assumption)
 · rintro ⟨⟨x, y, h0, h1, h2⟩, hn⟩
   refine ⟨x, y, ?_, h1, h2⟩
   simp only
   rw [if_neg]
   · exact h0
   · rintro rfl
     rw [h] at h0
     cases h0
     exact hn ⟨h1, h2⟩
theorem Rep.add (R : Rep m W P N) (I : m.Inv) (ho : o.Ok) (he : a % 2 = 0) (hf : m.free a o.wd) (hp : o.pin = false)
   (hW : ∀ k, W' k = if a ≤ k ∧ k < a + o.wd then o.word (k - a) else W k) (hP : ∀ j, P' j = if j = a / 2 then 1 else if a ≤ 2 * j ∧ 2 * j < a + o.wd then 2 else P j) : Rep (m.add a o) W' P' N := by
 have hw := ho.wd_bd
 have hn : m.ob a = none := by
   rcases h : m.ob a with _ | y
   · rfl
   · have := (I.ok _ _ h).wd_bd
     exact absurd ⟨a, y, h, Nat.le_refl _, by omega⟩ (hf a (Nat.le_refl _) (by omega))
 have F : ∀ x y, (m.add a o).ob x = some y → (x = a ∧ y = o) ∨ (x ≠ a ∧ m.ob x = some y) := fun x y h => by
   unfold HM.add at h
   simp only at h
   split at h
   · cases h; exact .inl ⟨by assumption, rfl⟩
   · exact .inr ⟨by assumption, h⟩
 refine ⟨?_, ?_, ?_, ?_, ?_, ?_, ?_⟩
 · intro x y h i hi
   rcases F x y h with ⟨rfl, rfl⟩ | ⟨hx, h1⟩
   · rw [hW, if_pos (by omega), show x + i - x = i by omega]
   · rw [hW, if_neg (fun hc => hf (x + i) hc.1 hc.2 ⟨x, y, h1, by omega, by omega⟩)]
     exact R.w_ob _ _ h1 i hi
 · intro k hk
   rw [add_cv hn] at hk
   rw [hW, if_neg (fun hc => hk (.inr hc))]
   exact R.w_gap k (fun hc => hk (.inl hc))
 · intro x y h
   rw [hP]
   rcases F x y h with ⟨rfl, rfl⟩ | ⟨hx, h1⟩
   · rw [if_pos rfl]
   · have h2 := I.even _ _ h1
     have h3 := (I.ok _ _ h1).wd_bd
     rw [if_neg (by omega), if_neg (fun hc => hf x (by omega) (by omega) ⟨x, y, h1, Nat.le_refl _, by omega⟩)]
     exact R.p_ob _ _ h1
 · intro x y h j h4 h5
   rw [hP]
   rcases F x y h with ⟨rfl, rfl⟩ | ⟨hx, h1⟩
   · rw [if_neg (by omega), if_pos (by omega)]
   · have hc : ¬ (a ≤ 2 * j ∧ 2 * j < a + o.wd) := fun hc => hf (2 * j) hc.1 hc.2 ⟨x, y, h1, by omega, by omega⟩
     rw [if_neg (by omega), if_neg hc]
     exact R.p_in _ _ h1 j h4 h5
 · intro j hj
   rw [add_cv hn] at hj
   have hc : ¬ (a ≤ 2 * j ∧ 2 * j < a + o.wd) := fun hc => hj (.inr hc)
   rw [hP, if_neg (by omega), if_neg hc]
   exact R.p_gap j (fun hc => hj (.inl hc))
 · intro x y h
   rcases F x y h with ⟨rfl, rfl⟩ | ⟨hx, h1⟩
   · rw [hp, R.n_gap (x / 2) (by rw [show 2 * (x / 2) = x by omega]; exact hn)]
     rfl
   · exact R.n_ob _ _ h1
 · intro j hj
   unfold HM.add at hj
   simp only at hj
   split at hj
   · cases hj
   · exact R.n_gap j hj
theorem Rep.del (R : Rep m W P N) (I : m.Inv) (h : m.ob a = some o)
   (hW : ∀ k, W' k = if a ≤ k ∧ k < a + o.wd then 0 else W k) (hP : ∀ j, P' j = if a ≤ 2 * j ∧ 2 * j < a + o.wd then 0 else P j) (hN : ∀ j, N' j = if j = a / 2 then 0 else N j) : Rep (m.del a) W' P' N' := by
 have F : ∀ x y, (m.del a).ob x = some y → x ≠ a ∧ m.ob x = some y := fun x y h => by
   unfold HM.del at h
   simp only at h
   split at h
   · cases h
   · exact ⟨by assumption, h⟩
 have hw := (I.ok _ _ h).wd_bd
 have ha := I.even _ _ h
 refine ⟨?_, ?_, ?_, ?_, ?_, ?_, ?_⟩
 · intro x y h1 i hi
   obtain ⟨hx, h1⟩ := F x y h1
   rw [hW, if_neg (fun hc => hx (I.same h h1 hc.1 hc.2 (by omega) (by omega)).symm)]
   exact R.w_ob _ _ h1 i hi
 · intro k hk
   rw [del_cv I h] at hk
   rw [hW]
   split
   · rfl
   · exact R.w_gap k (fun hc => hk ⟨hc, by assumption⟩)
 · intro x y h1
   obtain ⟨hx, h1⟩ := F x y h1
   have h2 := I.even _ _ h1
   have h3 := (I.ok _ _ h1).wd_bd
   rw [hP, if_neg (fun hc => hx (I.same h h1 hc.1 hc.2 (by omega) (by omega)).symm)]
   exact R.p_ob _ _ h1
 · intro x y h1 j h4 h5
   obtain ⟨hx, h1⟩ := F x y h1
   rw [hP, if_neg (fun hc => hx (I.same h h1 hc.1 hc.2 (by omega) (by omega)).symm)]
   exact R.p_in _ _ h1 j h4 h5
 · intro j hj
   rw [del_cv I h] at hj
   rw [hP]
   split
   · rfl
   · exact R.p_gap j (fun hc => hj ⟨hc, by assumption⟩)
 · intro x y h1
   obtain ⟨hx, h1⟩ := F x y h1
   have h2 := I.even _ _ h1
   rw [hN, if_neg (by omega)]
   exact R.n_ob _ _ h1
 · intro j hj
   unfold HM.del at hj
   simp only at hj
   rw [hN]
   split at hj
   · rw [if_pos (by omega)]
   · rw [if_neg (by omega)]
     exact R.n_gap j hj
theorem Rep.put (R : Rep m W P N) (I : m.Inv) {o' : Ob} (h : m.ob a = some o) (hw : o'.wd = o.wd)
   (hW : ∀ k, W' k = if a ≤ k ∧ k < a + o.wd then o'.word (k - a) else W k) (hN : ∀ j, N' j = if j = a / 2 then (if o'.pin then 1 else 0) else N j) : Rep (m.add a o') W' P N' := by
 have F : ∀ x y, (m.add a o').ob x = some y → (x = a ∧ y = o') ∨ (x ≠ a ∧ m.ob x = some y) := fun x y h => by
   unfold HM.add at h
   simp only at h
   split at h
   · cases h; exact .inl ⟨by assumption, rfl⟩
   · exact .inr ⟨by assumption, h⟩
 have C : ∀ k, (m.add a o').cv k ↔ m.cv k := fun k => by
   unfold HM.cv
   constructor
   · rintro ⟨x, y, h0, h1, h2⟩
     rcases F x y h0 with ⟨rfl, rfl⟩ | ⟨hx, h3⟩
     · exact ⟨x, o, h, h1, by omega⟩
     · exact ⟨x, y, h3, h1, h2⟩
   · rintro ⟨x, y, h0, h1, h2⟩
     by_cases hx : x = a
     · subst hx
       rw [h] at h0
       cases h0
       exact ⟨x, o', by simp [HM.add], h1, by omega⟩
     · exact ⟨x, y, by simp [HM.add, hx]; exact h0, h1, h2⟩
 refine ⟨?_, ?_, ?_, ?_, ?_, ?_, ?_⟩
 · intro x y h1 i hi
   rcases F x y h1 with ⟨rfl, rfl⟩ | ⟨hx, h1⟩
   · rw [hW, if_pos (by omega), show x + i - x = i by omega]
   · rw [hW, if_neg (fun hc => hx (I.same h h1 hc.1 hc.2 (by omega) (by omega)).symm)]
     exact R.w_ob _ _ h1 i hi
 · intro k hk
   rw [C] at hk
   rw [hW, if_neg (fun hc => hk ⟨a, o, h, hc.1, hc.2⟩)]
   exact R.w_gap k hk
 · intro x y h1
   rcases F x y h1 with ⟨rfl, rfl⟩ | ⟨hx, h1⟩
   · exact R.p_ob _ _ h
   · exact R.p_ob _ _ h1
 · intro x y h1 j h4 h5
   rcases F x y h1 with ⟨rfl, rfl⟩ | ⟨hx, h1⟩
   · exact R.p_in _ _ h j h4 (by omega)
   · exact R.p_in _ _ h1 j h4 h5
 · intro j hj
   rw [C] at hj
   exact R.p_gap j hj
 · intro x y h1
   have ha := I.even _ _ h
   rcases F x y h1 with ⟨rfl, rfl⟩ | ⟨hx, h1⟩
   · rw [hN, if_pos rfl]
   · have h2 := I.even _ _ h1
     rw [hN, if_neg (by omega)]
     exact R.n_ob _ _ h1
 · intro j hj
   unfold HM.add at hj
   simp only at hj
   split at hj
   · cases hj
   · have ha := I.even _ _ h
     rw [hN, if_neg (by omega)]
     exact R.n_gap j hj
theorem HM.Inv.put (I : m.Inv) {o' : Ob} (h : m.ob a = some o) (ho : o'.Ok) (hid : o'.id = o.id) (hw : o'.wd = o.wd) : (m.add a o').Inv := by
 have F : ∀ x y, (m.add a o').ob x = some y → (x = a ∧ y = o') ∨ (x ≠ a ∧ m.ob x = some y) := fun x y h => by
   unfold HM.add at h
   simp only at h
   split at h
   · cases h; exact .inl ⟨by assumption, rfl⟩
   · exact .inr ⟨by assumption, h⟩
 refine ⟨I.len2, I.len64, I.b0, I.free0, ?_, ?_, ?_, ?_, ?_, ?_⟩
 · intro x y h1
   rcases F x y h1 with ⟨rfl, rfl⟩ | ⟨_, h1⟩
   · exact I.even _ _ h
   · exact I.even _ _ h1
 · intro x y h1
   rcases F x y h1 with ⟨rfl, rfl⟩ | ⟨_, h1⟩
   · exact ho
   · exact I.ok _ _ h1
 · intro x y h1
   rcases F x y h1 with ⟨rfl, rfl⟩ | ⟨_, h1⟩
   · rw [hid]; exact I.idb _ _ h
   · exact I.idb _ _ h1
 · intro x y h1
   rcases F x y h1 with ⟨rfl, rfl⟩ | ⟨_, h1⟩
   · rw [hw]; exact I.lie _ _ h
   · exact I.lie _ _ h1
 · intro x y x' y' h1 h' hlt
   rcases F x y h1 with ⟨rfl, rfl⟩ | ⟨_, h3⟩ <;> rcases F x' y' h' with ⟨rfl, rfl⟩ | ⟨_, h2⟩
   · omega
   · rw [hw]; exact I.apart _ _ _ _ h h2 hlt
   · exact I.apart _ _ _ _ h3 h hlt
   · exact I.apart _ _ _ _ h3 h2 hlt
 · intro x y x' y' h1 h' hi
   rcases F x y h1 with ⟨rfl, rfl⟩ | ⟨_, h3⟩ <;> rcases F x' y' h' with ⟨rfl, rfl⟩ | ⟨_, h2⟩
   · rfl
   · exact I.ids _ _ _ _ h h2 (by omega)
   · exact I.ids _ _ _ _ h3 h (by omega)
   · exact I.ids _ _ _ _ h3 h2 hi
end
end Go.Proofs.YthndilllnneijaaGreat
