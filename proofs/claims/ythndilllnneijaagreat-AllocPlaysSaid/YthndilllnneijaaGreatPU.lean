/-
  Memory and its changes, slices of numbers: what the other texts say of them. Conditions: those that stand in each theorem.
-/
import Derived.Test.YthndilllnneijaaGreatRows
import Derived.WalkKit
import Derived.WalkSpells
import Derived.WalkLawsBesides
import Derived.Deep.QuietTactic
import Derived.BigQuiet
import Derived.Laws.BitsAllLaws
import Derived.BigRegion
import Derived.Deep.OwnRows
import Derived.OwnWalk
import Derived.Deep.AppendLies
import Derived.Deep.RegionHeld3
import Derived.Maps.OwnSet
import Derived.Maps.OwnOps
import Derived.Maps.AppendAt
set_option linter.unusedSimpArgs false
set_option linter.unusedVariables false
namespace Go.Proofs.YthndilllnneijaaGreat
open Go.RowKit Go.Deep Go.Maps
theorem hid {p : Prop} (h : p) : Hid p := h
structure Kp (S : List Nat) (w w' : World) : Prop where
 os : w'.os = w.os
 tape : w'.tape = w.tape
 output : w'.output = w.output
 size : w.heap.size ≤ w'.heap.size
 block : ∀ k, k < w.heap.size → k ∉ S → w'.heap[k]? = w.heap[k]?
theorem Kp.refl (S : List Nat) (w : World) : Kp S w w := ⟨rfl, rfl, rfl, Nat.le_refl _, fun _ _ _ => rfl⟩
theorem Kp.trans {S T U : List Nat} {a b c : World} (h : Kp S a b) (k : Kp T b c) (hS : ∀ x ∈ S, x ∈ U ∨ a.heap.size ≤ x) (hT : ∀ x ∈ T, x ∈ U ∨ a.heap.size ≤ x) : Kp U a c :=
 ⟨k.os.trans h.os, k.tape.trans h.tape, k.output.trans h.output, Nat.le_trans h.size k.size, fun i hi hn => by
   rw [k.block i (Nat.lt_of_lt_of_le hi h.size) (fun hm => by rcases hT i hm with h1 | h1 <;> first | exact hn h1 | omega),
     h.block i hi (fun hm => by rcases hS i hm with h1 | h1 <;> first | exact hn h1 | omega)]⟩
theorem Kp.mono {S U : List Nat} {a b : World} (h : Kp S a b) (hS : ∀ x ∈ S, x ∈ U ∨ a.heap.size ≤ x) : Kp U a b := h.trans (Kp.refl [] b) hS (by simp)
theorem Kp.drewN {S : List Nat} {a b : World} (h : Kp S a b) (n : Nat) : Kp S a (b.drewN n) := ⟨h.os, h.tape, h.output, h.size, h.block⟩
theorem Kp.from_drewN {S : List Nat} {a b : World} {n : Nat} (h : Kp S (a.drewN n) b) : Kp S a b := ⟨h.os, h.tape, h.output, h.size, h.block⟩
theorem Kp.draw (w : World) (n : Nat) : Kp [] w (w.drewN n) := (Kp.refl [] w).drewN n
theorem Kp.new (w : World) (o : Obj) : Kp [] w (w.alloc o) := ⟨rfl, rfl, rfl, by simp, fun k hk _ => Below.heap_alloc w o k hk⟩
theorem Kp.cell (w : World) (a : Addr) (v : Value) : Kp [a.block] w (w.setCell a v) := ⟨rfl, rfl, rfl, by simp [World.setCell], fun k _ hn => Below.heap_setCell w a v k (by simpa using hn)⟩
theorem Kp.below {S : List Nat} {B : Nat} {a b : World} (h : Kp S a b) (hB : B ≤ a.heap.size) (hS : ∀ x ∈ S, B ≤ x) : Below B a b :=
 ⟨h.os, h.tape, h.output, h.size, fun k hk => h.block k (by omega) (fun hm => by have := hS k hm; omega)⟩
theorem Kp.of_below {a b : World} (h : Below a.heap.size a b) : Kp [] a b := ⟨h.os, h.tape, h.output, h.size, fun k hk _ => h.block k hk⟩
def Blk (w : World) (g : Nat) (t : TypeId) (cs : Array Value) : Prop := w.heap[g]? = some (.cells cs t (0, 0))
section
variable {w w' : World} {g : Nat} {t : TypeId} {cs : Array Value}
theorem Blk.lt (h : Blk w g t cs) : g < w.heap.size := by
 rcases Nat.lt_or_ge g w.heap.size with hlt | hge
 · exact hlt
 · unfold Blk at h; rw [Array.getElem?_eq_none hge] at h; cases h
theorem Blk.cell (h : Blk w g t cs) (i : Nat) : w.cell? ⟨g, i, none⟩ = cs[i]? := by
 unfold Blk at h
 simp [World.cell?, h]
theorem Blk.frozen (h : Blk w g t cs) (i : Nat) : w.frozen? ⟨g, i, none⟩ = false := by
 unfold Blk at h
 simp [World.frozen?, h]
theorem Blk.new (w : World) (t : TypeId) (cs : Array Value) : Blk (w.alloc (.cells cs t)) w.heap.size t cs := by
 show (w.heap.push _)[w.heap.size]? = _
 simp
theorem Blk.set_ (h : Blk w g t cs) (i : Nat) (u : Value) : Blk (w.setCell ⟨g, i, none⟩ u) g t (cs.setIfInBounds i u) := by
 unfold Blk at h ⊢
 simp [World.setCell, Array.getElem?_modify, h]
theorem Blk.kp {S : List Nat} (h : Blk w g t cs) (k : Kp S w w') (hg : g ∉ S) : Blk w' g t cs := (k.block g h.lt hg).trans h
theorem Blk.ne_ {g' : Nat} {t' : TypeId} {cs' : Array Value} (h : Blk w g t cs) (h' : Blk w g' t' cs') (hne : t ≠ t') : g ≠ g' := by
 rintro rfl
 unfold Blk at h h'
 rw [h] at h'
 injection h' with h'
 injection h' with _ ht
 exact hne ht
end
theorem infoInt : (Tryz.prog.info? 3).map (fun i => (i.zero, i.size, i.bytes)) = some (some (.int .i64 0), 1, 8) := by kernel_rfl
theorem Blk.at_end {w : World} {g : Nat} {t : TypeId} {cs : Array Value} (h : g = w.heap.size) : Blk (w.alloc (.cells cs t)) g t cs := by
 subst h
 exact Blk.new w t cs
theorem cell_kp {w W : World} {g i : Nat} {u : Value} (k : Kp [] w W) (h : w.cell? ⟨g, i, none⟩ = some u) : W.cell? ⟨g, i, none⟩ = some u := by
 rw [← h]; refine World.cell?_of_block (k.block g ?_ (by simp))
 rcases Nat.lt_or_ge g w.heap.size with hlt | hge
 · exact hlt
 · unfold World.cell? at h
   simp only [Array.getElem?_eq_none hge] at h
   cases h
theorem Kp.chain {a b c : World} {S : List Nat} (h : Kp S a b) (k : Kp [] b c) : Kp S a c := h.trans k (fun x hx => .inl hx) (by simp)
theorem Kp.chain0 {a b c : World} {S : List Nat} (h : Kp [] a b) (k : Kp S b c) : Kp S a c := h.trans k (by simp) (fun x hx => .inl hx)
def W64 (i : Int) : Prop := -9223372036854775808 ≤ i ∧ i ≤ 9223372036854775807
def zcells (ws : List Int) : List Value := ws.map fun x => .int .i64 x
theorem zcells_length (ws : List Int) : (zcells ws).length = ws.length := by simp [zcells]
theorem zcells_get {ws : List Int} {sp : List Value} {q : Nat} (hq : q < ws.length) : (zcells ws ++ sp).toArray[q]? = some (.int .i64 (ws.getD q 0)) := by
 have h1 : q < (zcells ws).length := by simpa [zcells] using hq
 simp only [List.getElem?_toArray]
 rw [List.getElem?_append_left h1]
 simp [zcells, hq]
theorem zcells_set {ws : List Int} {sp : List Value} {q : Nat} {y : Int} (hq : q < ws.length) : (zcells ws ++ sp).toArray.setIfInBounds q (.int .i64 y) = (zcells (ws.set q y) ++ sp).toArray := by
 have h1 : q < (zcells ws).length := by simpa [zcells] using hq
 rw [List.setIfInBounds_toArray, List.set_append_left _ _ h1]
 simp [zcells, List.map_set]
theorem blk_read {w : World} {h : Nat} {t : TypeId} {xs sp : List Value} (b : Blk w h t (xs ++ sp).toArray) : ∀ j u, xs[j]? = some u → w.cell? ((⟨h, 0, none⟩ : Addr).add j) = some u := by
 intro j u hu
 have e : ((⟨h, 0, none⟩ : Addr).add j) = ⟨h, j, none⟩ := by unfold Addr.add; by_cases hj : j = 0 <;> simp [hj]
 rw [e, b.cell j]
 have hj := (List.getElem?_eq_some_iff.1 hu).1
 rw [List.getElem?_toArray, List.getElem?_append_left hj, hu]
theorem own_form {w : World} {B : Nat} {e : TypeId} {v : Value} {n : Nat} {xs : List Value} (h : w.ownsRow B e 1 v n xs) (hn : 0 < n) :
   ∃ g c sp, v = .slice (some ⟨g, 0, none⟩) n c ∧ B ≤ g ∧ Blk w g e (xs ++ sp).toArray ∧ n ≤ c ∧ c ≤ maxLen ∧ (xs ++ sp).length = c := by
 obtain ⟨hl, h2 | ⟨g, cap, cur, hv, hg, hb, hnc, hcm, hsz, htk⟩⟩ := h
 · omega
 · refine ⟨g, cap, cur.toList.drop (n * 1), hv, hg, ?_, hnc, hcm, ?_⟩
   · rw [← htk, List.take_append_drop]
     exact hb
   · rw [← htk, List.take_append_drop]
     simpa using hsz
theorem own_empty (w : World) (t : TypeId) : (w.alloc (.cells #[] t)).ownsRow w.heap.size t 1 (.slice (some ⟨w.heap.size, 0, none⟩) 0 0) 0 [] :=
 ⟨rfl, .inr ⟨w.heap.size, 0, #[], rfl, Nat.le_refl _, Blk.new w t #[], Nat.le_refl _, Nat.zero_le _, rfl, rfl⟩⟩
theorem Kp.of_grown {w w' : World} {row : Option Nat} (h : w.grownBy w' row) : Kp row.toList w w' :=
 ⟨h.os, h.tape, h.output, h.size, fun k hk hn => h.block k hk fun e => hn (by rw [← e]; simp)⟩
theorem addr_off {g k j : Nat} : ((⟨g, k, none⟩ : Addr).add j) = ⟨g, k + j, none⟩ := by
 unfold Addr.add
 by_cases h : j = 0 <;> simp [h]
def ClonedI (w : World) (ws : List Int) (e : Ending) (w' : World) : Prop :=
 ∃ g c sp, e = .returned (.slice (some ⟨g, 0, none⟩) ws.length c) ∧ w.heap.size ≤ g ∧ Blk w' g 3 (zcells ws ++ sp).toArray ∧ ws.length ≤ c ∧ c ≤ maxLen ∧ (zcells ws ++ sp).length = c ∧ Kp [] w w'
def RowP (B : Nat) (w : World) (zs : List Int) (e : Ending) (w' : World) : Prop :=
 ∃ v', e = .returned v' ∧ w'.ownsRow B 3 1 v' zs.length (zcells zs) ∧ Below B w w'
theorem below_drewN {B : Nat} {a w : World} (h : Below B a w) (n : Nat) : Below B a (w.drewN n) := ⟨h.os, h.tape, h.output, h.size, h.block⟩
theorem one_new (w : World) (x : Int) (n : Nat) : ∀ (j : Nat) (u : Value), ([.int .i64 x] : List Value)[j]? = some u → ((w.drewN n).alloc (.cells #[.int .i64 x] 3)).cell? ((⟨w.heap.size, 0, none⟩ : Addr).add j) = some u := by
 intro j u hu
 exact blk_read (xs := [.int .i64 x]) (sp := []) (Blk.new (w.drewN n) 3 _) j u hu
theorem one_cell (x : Int) : ∀ u ∈ ([.int .i64 x] : List Value), u.oneCell' = true := by
 intro u hu
 simp at hu
 subst hu
 rfl
theorem row_end {B : Nat} {w w1 : World} {zs : List Int} {x : Int} {n k : Nat} {v v' : Value} (hB : B ≤ w.heap.size) (hk : zs.length = k) (own : w.ownsRow B 3 1 v k (zcells zs)) (own' : w1.ownsRow B 3 1 v' (k + 1) (zcells zs ++ [.int .i64 x]))
   (g : ((w.drewN n).alloc (.cells #[.int .i64 x] 3)).grownBy w1 v.ownBlock) : w1.ownsRow B 3 1 v' (zs ++ [x]).length (zcells (zs ++ [x])) ∧ Below B w w1 := by
 refine ⟨?_, ?_⟩
 · rw [List.length_append, hk]
   simpa [zcells] using own'
 · refine (((Below.refl B w).trans (show Below B w (w.drewN n) from ⟨rfl, rfl, rfl, Nat.le_refl _, fun _ _ => rfl⟩)).alloc hB _).grown g (by simp [World.drewN]; omega) ?_
   intro k hk
   rcases own.2 with ⟨rfl, _⟩ | ⟨g', cap, cur, rfl, hg, _⟩
   · simp [Value.ownBlock] at hk
   · simp [Value.ownBlock] at hk
     omega
def FarI (w : World) (B : Nat) (v : Value) (zs : List Int) : Prop :=
 ∃ A cap, v = .slice A zs.length cap ∧ zs.length ≤ cap ∧ cap ≤ maxLen ∧ ∀ i, i < zs.length → ∃ g, A = some ⟨g, 0, none⟩ ∧ B ≤ g ∧ w.cell? ⟨g, i, none⟩ = some (.int .i64 (zs.getD i 0))
theorem FarI.of_own {w : World} {B : Nat} {v : Value} {zs : List Int} (own : w.ownsRow B 3 1 v zs.length (zcells zs)) : FarI w B v zs := by
 rcases own.2 with ⟨rfl, h0⟩ | ⟨g, cap, cur, rfl, hg, _, h1, h2, _⟩
 · exact ⟨none, 0, by rw [h0], by omega, by unfold maxLen; omega, fun i hi => by omega⟩
 · refine ⟨_, cap, rfl, h1, h2, fun i hi => ⟨g, rfl, hg, ?_⟩⟩
   rw [own.cellAt _ (by omega)]
   simp [zcells, hi]
theorem cell_lt {w : World} {g i : Nat} {u : Value} (h : w.cell? ⟨g, i, none⟩ = some u) : g < w.heap.size := by
 rcases Nat.lt_or_ge g w.heap.size with hlt | hge
 · exact hlt
 · unfold World.cell? at h
   simp only [Array.getElem?_eq_none hge] at h
   cases h
theorem FarI.kp {w W : World} {B : Nat} {S : List Nat} {v : Value} {zs : List Int} (h : FarI w B v zs) (k : Kp S w W) (hS : ∀ x ∈ S, x < B) : FarI W B v zs := by
 obtain ⟨A, cap, rfl, h1, h2, hA⟩ := h
 refine ⟨A, cap, rfl, h1, h2, fun i hi => ?_⟩
 obtain ⟨g, e1, hB, e2⟩ := hA i hi
 have hn : g ∉ S := fun hm => by have := hS g hm; omega
 exact ⟨g, e1, hB, by rw [World.cell?_of_block (k.block g (cell_lt e2) hn)]; exact e2⟩
theorem own_base {w : World} {B C : Nat} {e : TypeId} {z n : Nat} {v : Value} {xs : List Value} (h : w.ownsRow C e z v n xs) (hBC : B ≤ C) : w.ownsRow B e z v n xs := by
 obtain ⟨h1, h2 | ⟨g, cap, cur, hv, hg, hr⟩⟩ := h
 · exact ⟨h1, .inl h2⟩
 · exact ⟨h1, .inr ⟨g, cap, cur, hv, Nat.le_trans hBC hg, hr⟩⟩
theorem below_mono {B C : Nat} {w w' : World} (h : Below C w w') (hBC : B ≤ C) : Below B w w' := ⟨h.os, h.tape, h.output, h.size, fun k hk => h.block k (Nat.lt_of_lt_of_le hk hBC)⟩
theorem FarI.below {w W : World} {B : Nat} {v : Value} {zs : List Int} (h : FarI w B v zs) (k : Below w.heap.size w W) : FarI W B v zs := h.kp (Kp.of_below k) (by simp)
theorem FarI.at_ {w : World} {B n cap : Nat} {A : Option Addr} {zs : List Int} (h : FarI w B (.slice A n cap) zs) : ∀ i, i < zs.length → ∃ g, A = some ⟨g, 0, none⟩ ∧ B ≤ g ∧ w.cell? ⟨g, i, none⟩ = some (.int .i64 (zs.getD i 0)) := by
 obtain ⟨A', cap', e, _, _, hA⟩ := h
 injection e with e1 e2 e3
 subst e1
 exact hA
theorem own_kp0 {w w' : World} {B : Nat} {e : TypeId} {z n : Nat} {v : Value} {xs : List Value} (h : w.ownsRow B e z v n xs) (k : Kp [] w w') : w'.ownsRow B e z v n xs := by
 obtain ⟨h1, h2 | ⟨g, cap, cur, hv, hg, hb, hr⟩⟩ := h
 · exact ⟨h1, .inl h2⟩
 · exact ⟨h1, .inr ⟨g, cap, cur, hv, hg, Blk.kp hb k (by simp), hr⟩⟩
theorem own_lt {w : World} {B n z : Nat} {e : TypeId} {v : Value} {xs : List Value} (own : w.ownsRow B e z v n xs) : ∀ g, v.ownBlock = some g → g < w.heap.size := by
 intro g hg
 rcases own.2 with ⟨rfl, _⟩ | ⟨g', cap, cur, rfl, _, h, _⟩
 · simp [Value.ownBlock] at hg
 · simp [Value.ownBlock] at hg
   subst hg
   rcases Nat.lt_or_ge g' w.heap.size with h1 | h1
   · exact h1
   · rw [Array.getElem?_eq_none h1] at h; cases h
theorem one_newV (w : World) (x : Value) (t : TypeId) : ∀ (j : Nat) (u : Value), ([x] : List Value)[j]? = some u → (w.alloc (.cells #[x] t)).cell? ((⟨w.heap.size, 0, none⟩ : Addr).add j) = some u := by
 intro j u hu
 exact blk_read (xs := [x]) (sp := []) (Blk.new w t _) j u hu
theorem row_endV {B : Nat} {w W w1 : World} {e : TypeId} {z : Nat} {zs : List Value} {k k' : Nat} {v : Value} (hW : Below B w W) (hB : B ≤ w.heap.size) (own : W.ownsRow B e z v k zs)
   (g : W.grownBy w1 v.ownBlock) : Below B w w1 := by
 refine hW.grown g (Nat.le_trans hB hW.size) ?_
 intro k hk
 rcases own.2 with ⟨rfl, _⟩ | ⟨g', cap, cur, rfl, hg, _⟩
 · simp [Value.ownBlock] at hk
 · simp [Value.ownBlock] at hk
   omega
theorem cell_kps {w W : World} {S : List Nat} {g i : Nat} {u : Value} (k : Kp S w W) (h : w.cell? ⟨g, i, none⟩ = some u) (hn : g ∉ S) : W.cell? ⟨g, i, none⟩ = some u :=
 (World.cell?_of_block (k.block g (cell_lt h) hn)).trans h
def TrueP (w : World) (e : Ending) (w' : World) : Prop := e = .returned (.bool true) ∧ Kp [] w w'
theorem Kp.setCells (w : World) (g o : Nat) (vs : List Value) : Kp [g] w (w.setCells g o vs) := by
 induction vs generalizing o w with
 | nil => exact Kp.refl _ _
 | cons v vs ih => exact (Kp.cell w ⟨g, o, none⟩ v).trans (ih _ _) (by simp) (by simp)
theorem run_make_rowN {P : Program} (t e : TypeId) (i : TypeInfo) (z : Value) (ht : P.underlying t = some (.slice e)) (hi : P.info? e = some i) (hz : i.zero = some z)
   (kl kc : IntKind) (n c : Nat) (hnc : n ≤ c) (hbytes : i.bytes * c ≤ 281474976710656) (h63 : c ≤ 9223372036854775807) (w : World) :
   (Instr.makeSlice t (.int kl (n : Int)) (.int kc (c : Int))).run P w = .ok (.slice (some ⟨w.heap.size, 0, none⟩) n c) (w.alloc (.cells (madeCells z.cells (c * i.size)) e)) := by
 have hb : (i.bytes : Int) * (c : Int) ≤ 281474976710656 := by
   have h : ((i.bytes * c : Nat) : Int) ≤ 281474976710656 := by omega
   rwa [Int.natCast_mul] at h
 have hr := run_make (P := P) w t e i z ht hi hz kl kc n c (by omega) (by omega) hb (by omega)
 simp only [Int.toNat_natCast] at hr
 exact hr
theorem ly {α : Type} : (∀ (l : List α) (i : Nat) (h : i < l.toArray.size), l.toArray[i] = l[i]'(by simpa using h)) ∧ (∀ (a : α) (l : List α) (h : 0 < (a :: l).length), (a :: l)[0] = a) ∧ (∀ (a : α) (l : List α) (i : Nat) (h : i + 1 < (a :: l).length), (a :: l)[i + 1] = l[i]'(by simpa using h)) ∧ (∀ (l : List α) (i : Nat) (a : α), l.toArray.setIfInBounds i a = (l.set i a).toArray) ∧ (∀ (l : List α) (a b : α), (a :: l).set 0 b = b :: l) ∧ (∀ (l : List α) (a b : α) (i : Nat), (a :: l).set (i + 1) b = a :: l.set i b) :=
 ⟨fun _ _ _ => List.getElem_toArray .., fun _ _ _ => rfl, fun _ _ _ _ => rfl, fun _ _ _ => List.setIfInBounds_toArray .., fun _ _ _ => rfl, fun _ _ _ _ => rfl⟩
section
variable {P : Program} {ops : Array Oper} {Q : Exit → Act → World → Prop} {md : Region.Mode} {S : World → Prop} {oi : Oper} {v : Value} {fuel : Nat} {listed : Array Bool} {a : Act} {w : World}
theorem tk (i : Nat) (hi : ops[i]? = some oi) (hy : YieldsIf P ops S oi v a) (h : wpAnyH P md ops Q S fuel (listed.setIfInBounds i true) (a.put oi.dst v) w) (hS : S w := by assumption) (hs : Region.noSelect ops = true := by kernel_rfl) (hf : Region.free md ops listed i = true := by kernel_rfl) (hr : (Region.ready md ops listed).contains i = true := by kernel_rfl) (hQ : ∀ c a w, Q (.panic c) (a.put oi.dst v) w → Q (.panic c) a w := by exact fun _ _ _ h => h) : wpAnyH P md ops Q S (fuel + 1) listed a w := wpAnyH_take hi hs hf hr hQ hy hS h
theorem tk0 (i : Nat) (hi : ops[i]? = some oi) (h : wpAnyH P md ops Q S fuel (listed.setIfInBounds i true) (a.put oi.dst v) w) (hy : YieldsIf P ops S oi v a := by exact Or.inl ⟨by rfl, by (intro wz hSw; go_simp; try with_reducible rfl)⟩) (hS : S w := by assumption) (hs : Region.noSelect ops = true := by kernel_rfl) (hf : Region.free md ops listed i = true := by kernel_rfl) (hr : (Region.ready md ops listed).contains i = true := by kernel_rfl) (hQ : ∀ c a w, Q (.panic c) (a.put oi.dst v) w → Q (.panic c) a w := by exact fun _ _ _ h => h) : wpAnyH P md ops Q S (fuel + 1) listed a w := wpAnyH_take hi hs hf hr hQ hy hS h
theorem tku (i : Nat) (hi : ops[i]? = some oi) (h : wpAnyH P md ops Q S fuel (listed.setIfInBounds i true) (a.put oi.dst undef) w) (hy : YieldsIf P ops S oi undef a := by exact Or.inr ⟨by rfl, rfl⟩) (hS : S w := by assumption) (hs : Region.noSelect ops = true := by kernel_rfl) (hf : Region.free md ops listed i = true := by kernel_rfl) (hr : (Region.ready md ops listed).contains i = true := by kernel_rfl) (hQ : ∀ c a w, Q (.panic c) (a.put oi.dst undef) w → Q (.panic c) a w := by exact fun _ _ _ h => h) : wpAnyH P md ops Q S (fuel + 1) listed a w := wpAnyH_take hi hs hf hr hQ hy hS h
theorem rd {o : Oper} (i : Nat) (ho : ops[i]? = some o) (h : ∀ K' : Act → World → Prop, Shut (∀ a w, S w → (S w → wpAnyH P md ops Q S fuel (listed.setIfInBounds i true) a w) → K' a w) → if Region.wanted o (yielded ops a.tmps) = true then Oper.wp P o a w K' Q else K' (a.put o.dst undef) w) (hr : Region.ready md ops listed = [i] := by kernel_rfl) : wpAnyH P md ops Q S (fuel + 1) listed a w := wpAnyH_ready hr (by simp) (AllReadyH.cons ho h AllReadyH.nil)
end
end Go.Proofs.YthndilllnneijaaGreat
