/-
  The law's ints; a model beside what must stay. Conditions: those that stand in each theorem.
-/
import Derived.Test.YtbiompmklijgoaaDoorPZb
import Derived.Test.YtbiompmklijgoaaDoorPGF
import Derived.Test.YtbiompmklijgoaaDoorPGA
namespace Go.Proofs.YtbiompmklijgoaaDoor
set_option linter.unusedVariables false
set_option linter.unusedSimpArgs false
open Go.RowKit Go.Deep Go.Maps

/-- A slice of numbers, wherever it lies. -/
def IsN (w : World) (v : Value) (zs : List Int) : Prop :=
  ∃ A cap, v = .slice A zs.length cap ∧ zs.length ≤ 1000000000 ∧ ∀ i, i < zs.length → ∃ g o, A = some ⟨g, o, none⟩ ∧ w.cell? ⟨g, o + i, none⟩ = some (.int .i64 (zs.getD i 0))
theorem IsN.kp0 {w W : World} {v : Value} {zs : List Int} (h : IsN w v zs) (k : Kp [] w W) : IsN W v zs := by
  obtain ⟨A, cap, rfl, h1, hA⟩ := h
  exact ⟨A, cap, rfl, h1, fun i hi => by obtain ⟨g, o, e, c⟩ := hA i hi; exact ⟨g, o, e, cell_kp k c⟩⟩
theorem IsN.of_own {w : World} {B : Nat} {v : Value} {zs : List Int} (own : w.ownsRow B 3 1 v zs.length (zcells zs)) (hl : zs.length ≤ 1000000000) : IsN w v zs := by
  obtain ⟨A, cap, hv, h1, h2, hA⟩ := FarI.of_own own
  exact ⟨A, cap, hv, hl, fun i hi => by obtain ⟨g, e, _, c⟩ := hA i hi; exact ⟨g, 0, e, by rw [Nat.zero_add]; exact c⟩⟩
theorem IsN.lit {w : World} {g : Nat} (zs : List Int) (h : Blk w g 3 (zcells zs ++ []).toArray) (hl : zs.length ≤ 1000000000) : IsN w (.slice (some ⟨g, 0, none⟩) zs.length zs.length) zs :=
  ⟨_, _, rfl, hl, fun i hi => ⟨g, 0, rfl, by rw [Nat.zero_add, h.cell i]; exact zcells_get hi⟩⟩
theorem take_snocI {l : List Int} {k : Nat} (h : k < l.length) : l.take (k + 1) = l.take k ++ [l.getD k 0] := by
  rw [List.take_succ_eq_append_getElem h, List.getD_eq_getElem?_getD, List.getElem?_eq_getElem h]
  rfl
def eqL (a b : List Int) : Bool := decide (a = b)
set_option maxHeartbeats 1000000 in
/-- ints says whether two lists are equal. -/
theorem m_ints {w : World} {v v' : Value} {zs zs' : List Int} (h : IsN w v zs) (h' : IsN w v' zs') :
    Calls Tryd.prog 30 #[v, v'] w fun e w' => e = .returned (.bool (eqL zs zs')) ∧ Kp [] w w' := by
  obtain ⟨A, cap, rfl, hA1, hA⟩ := h
  obtain ⟨A', cap', rfl, hB1, hA'⟩ := h'
  have HA := hid hA
  have HA' := hid hA'
  clear hA hA'
  by_cases hlen : zs.length = zs'.length
  · have HLEN := hid hlen
    have e : (Value.slice A' zs'.length cap') = .slice A' zs.length cap' := by rw [hlen]
    rw [e]
    clear hlen hB1 e
    go_enter Tryd.func30, Tryd.ntmps30
    go_wp2
    go_loopw [5] (fun ct wr => ∃ k : Nat, k ≤ zs.length ∧ ct = .int .i64 (k : Int) ∧ zs.take k = zs'.take k ∧ Kp [] w wr) (fun ct _ => zs.length - (intOf ct).toNat)
    case atStart => exact ⟨0, by omega, rfl, by simp, Kp.refl _ _⟩
    case round =>
      obtain ⟨k, hk, rfl, hpre, hkp⟩ := hrel
      have HPRE := hid hpre
      have HKP := hid hkp
      clear hpre hkp
      by_cases hlt : k < zs.length
      · obtain ⟨g, o, rfl, c0⟩ := HA.out k hlt
        obtain ⟨g', o', rfl, d0⟩ := HA'.out k (by rw [← HLEN.out]; exact hlt)
        have c1 := cell_kp HKP.out c0
        have d1 := cell_kp HKP.out d0
        have HSN : Hid (zs.take (k + 1) = zs.take k ++ [zs.getD k 0] ∧ zs'.take (k + 1) = zs'.take k ++ [zs'.getD k 0]) := ⟨take_snocI hlt, take_snocI (by rw [← HLEN.out]; exact hlt)⟩
        clear c0 d0
        by_cases hq : zs.getD k 0 = zs'.getD k 0
        · have HQ := hid hq
          have hq2 : (zs.getD k 0 != zs'.getD k 0) = false := by simpa using hq
          clear HA HA' hq
          generalize zs.getD k 0 = z1 at c1 hq2 HQ HSN
          generalize zs'.getD k 0 = z2 at d1 hq2 HQ HSN
          go_wp2
          go_quiet (fail)
          go_wp2
          go_roundw
          case rel => exact ⟨k + 1, by omega, by go_num, by rw [HSN.out.1, HSN.out.2, HPRE.out, HQ.out], HKP.out.drewN _⟩
          case measure => simp [intOf]; omega
        · have hq2 : (zs.getD k 0 != zs'.getD k 0) = true := by simpa using hq
          have HF : Hid (eqL zs zs' = false) := decide_eq_false (fun h => hq (by rw [h]))
          clear HA HA' hq HSN
          generalize zs.getD k 0 = z1 at c1 hq2
          generalize zs'.getD k 0 = z2 at d1 hq2
          go_wp2
          go_quiet (fail)
          go_wp2
          go_ret
          exact ⟨by rw [HF.out]; rfl, HKP.out.drewN _⟩
      · obtain rfl : k = zs.length := by omega
        have HF : Hid (eqL zs zs' = true) := decide_eq_true (by
          have := HPRE.out
          rw [List.take_length] at this
          rw [this, HLEN.out, List.take_length])
        go_wp2
        go_ret
        exact ⟨by rw [HF.out]; rfl, HKP.out⟩
  · have HF : Hid (eqL zs zs' = false) := decide_eq_false (fun h => hlen (by rw [h]))
    have h1 : ((zs.length : Int) != (zs'.length : Int)) = true := by simp; omega
    go_enter Tryd.func30, Tryd.ntmps30
    go_wp2
    go_ret
    exact ⟨by rw [HF.out]; rfl, Kp.refl _ _⟩
/-- These blocks are as they were. -/
structure Stay (L : List Nat) (w w' : World) : Prop where
  os : w'.os = w.os
  tape : w'.tape = w.tape
  output : w'.output = w.output
  size : w.heap.size ≤ w'.heap.size
  block : ∀ x ∈ L, w'.heap[x]? = w.heap[x]?
/-- A model, some blocks that are not its own, and old ones that are not, either. -/
structure Live (W : World) (g : Nat) (t : MT) (L : List Nat) : Prop where
  mr : ∃ b : MB, b.g = g ∧ MR W b t ∧ ∀ x ∈ L, x ∉ b.all
  lt : ∀ x ∈ L, x < W.heap.size
section
variable {w w' W V : World} {g : Nat} {t t' : MT} {L : List Nat}
theorem Stay.refl (L : List Nat) (w : World) : Stay L w w := ⟨rfl, rfl, rfl, Nat.le_refl _, fun _ _ => rfl⟩
theorem Stay.trans {a b c : World} (h : Stay L a b) (k : Stay L b c) : Stay L a c := ⟨k.os.trans h.os, k.tape.trans h.tape, k.output.trans h.output, Nat.le_trans h.size k.size, fun x hx => (k.block x hx).trans (h.block x hx)⟩
theorem Stay.of_kp {S : List Nat} {a b : World} (k : Kp S a b) (hS : ∀ x ∈ L, x ∉ S) (hl : ∀ x ∈ L, x < a.heap.size) : Stay L a b := ⟨k.os, k.tape, k.output, k.size, fun x hx => k.block x (hl x hx) (hS x hx)⟩
theorem Stay.sub {M : List Nat} {a b : World} (h : Stay L a b) (hs : ∀ x ∈ M, x ∈ L) : Stay M a b := ⟨h.os, h.tape, h.output, h.size, fun x hx => h.block x (hs x hx)⟩
theorem Stay.blk {x : Nat} {T : TypeId} {cs : Array Value} (h : Stay L W V) (hx : x ∈ L) (hb : Blk W x T cs) : Blk V x T cs := (h.block x hx).trans hb
theorem IsN.stay {v : Value} {zs : List Int} (h : IsN W v zs) (s : Stay L W V) (hL : ∀ x, v.ownBlock = some x → x ∈ L) (hv : ∀ A n c, v = .slice A n c → ∀ a, A = some a → a.off = 0) : IsN V v zs := by
  obtain ⟨A, cap, rfl, h1, hA⟩ := h
  refine ⟨A, cap, rfl, h1, fun i hi => ?_⟩
  obtain ⟨g, o, rfl, c⟩ := hA i hi
  have h0 : o = 0 := hv _ _ _ rfl _ rfl
  subst h0
  refine ⟨g, 0, rfl, ?_⟩
  have hx : g ∈ L := hL g rfl
  rw [← c]
  exact World.cell?_of_block (s.block g hx)
theorem Live.kp0 (h : Live W g t L) (k : Kp [] W V) : Live V g t L ∧ Stay L W V := by
  obtain ⟨b, e, R, n⟩ := h.mr
  exact ⟨⟨⟨b, e, R.kp0 k, n⟩, fun x hx => Nat.lt_of_lt_of_le (h.lt x hx) k.size⟩, .of_kp k (by simp) h.lt⟩
theorem Live.add (h : Live W g t L) {M : List Nat} (hM : ∀ x ∈ M, x ∈ L ∨ W.heap.size ≤ x) (hlt : ∀ x ∈ M, x < V.heap.size) (k : Kp [] W V) : Live V g t M := by
  obtain ⟨b, e, R, n⟩ := h.mr
  refine ⟨⟨b, e, R.kp0 k, fun x hx hm => ?_⟩, hlt⟩
  rcases hM x hx with h1 | h1
  · exact n x h1 hm
  · have := R.lt x hm; omega
theorem Live.chg (h : Live W g t L) {b : MB} (hb : b.g = g) (R : MR W b t) (hn : ∀ x ∈ L, x ∉ b.all) (C : ChgM W b t' V) : Live V g t' L ∧ Stay L W V := by
  obtain ⟨b', e1, e2, R', K, N⟩ := C
  refine ⟨⟨⟨b', e1.trans hb, R', fun x hx hm => ?_⟩, fun x hx => Nat.lt_of_lt_of_le (h.lt x hx) K.size⟩, .of_kp K hn h.lt⟩
  rcases N x hm with h1 | h1
  · exact hn x hx h1
  · have := h.lt x hx; omega
def LDo (W : World) (g : Nat) (p : MT × ET × Int) (L : List Nat) (e : Ending) (w' : World) : Prop := ∃ A n c, e = .returned (.tuple #[.agg (p.2.1.cells (.slice A n c)), .int .i64 p.2.2]) ∧ Live w' g p.1 L ∧ Stay L W w' ∧ FarI w' W.heap.size (.slice A n c) p.2.1.zs
theorem l_Do (h : Live W g t L) (hob : t.ob.length < 100000) (mu : Int) (x : MA) (hx : W64 x.n) :
    Calls Tryd.prog 40 #[.pointer (some ⟨g, 0, none⟩), .int .i64 mu, .agg x.cells] W (LDo W g (t.act mu x) L) := by
  obtain ⟨b, rfl, R, n⟩ := h.mr
  refine (m_Do R hob mu x hx).mono ?_
  rintro e w' ⟨A, n1, c, h1, h2, h3⟩
  obtain ⟨h4, h5⟩ := h.chg rfl R n h2
  exact ⟨A, n1, c, h1, h4, h5, h3⟩
def LInts (W : World) (g : Nat) (t : MT) (l : List Int) (L : List Nat) (e : Ending) (w' : World) : Prop := ∃ v, e = .returned v ∧ w'.ownsRow W.heap.size 3 1 v l.length (zcells l) ∧ Live w' g t L ∧ Stay L W w' ∧ Kp [] W w'
theorem l_Kept (h : Live W g t L) :
    Calls Tryd.prog 23 #[.pointer (some ⟨g, 0, none⟩)] W (LInts W g t t.kept L) := by
  obtain ⟨b, rfl, R, n⟩ := h.mr
  refine (m_Kept R).mono ?_
  rintro e w' ⟨v, h1, h2, h3⟩
  obtain ⟨h4, h5⟩ := h.kp0 h3
  exact ⟨v, h1, h2, h4, h5, h3⟩
theorem l_Collect (h : Live W g t L) :
    Calls Tryd.prog 39 #[.pointer (some ⟨g, 0, none⟩)] W fun e w' => e = .returned (.int .i64 (t.collect.2 : Int)) ∧ Live w' g t.collect.1 L ∧ Stay L W w' := by
  obtain ⟨b, rfl, R, n⟩ := h.mr
  refine (m_Collect R).mono ?_
  rintro e w' ⟨h1, h2⟩
  obtain ⟨h4, h5⟩ := h.chg rfl R n h2
  exact ⟨h1, h4, h5⟩
theorem l_New (hlz : LZ w) (n : Nat) (h1 : 1 ≤ n) (h2 : n ≤ 4) :
    Calls Tryd.prog 14 #[.int .i64 (n : Int)] w fun e w' => ∃ g, e = .returned (.tuple #[.pointer (some ⟨g, 0, none⟩), .int .i64 0]) ∧ Live w' g (MT.new n) (List.range w.heap.size) ∧ Kp [] w w' := by
  refine (m_new_ok hlz n h1 h2).mono ?_
  rintro e w' ⟨b, h1, R, K, N⟩
  refine ⟨b.g, h1, ⟨⟨b, rfl, R, fun x hx hm => ?_⟩, fun x hx => ?_⟩, K⟩
  · have := N x hm
    rw [List.mem_range] at hx
    omega
  · rw [List.mem_range] at hx
    have := K.size
    omega
/-- Whatever was there at first is as it was. -/
theorem Stay.kp0 {a b : World} (h : Stay L a b) {w0 : World} (k : Kp [] w0 a) (hL : ∀ x, x < w0.heap.size → x ∈ L) : Kp [] w0 b :=
  ⟨h.os.trans k.os, h.tape.trans k.tape, h.output.trans k.output, Nat.le_trans k.size h.size, fun x hx _ => (h.block x (hL x hx)).trans (k.block x hx (by simp))⟩
end
end Go.Proofs.YtbiompmklijgoaaDoor
/-
  The contract of the law's alive over package model: it returns true. Condition: the table of loose references lies as it is laid.
-/
namespace Go.Proofs.YtbiompmklijgoaaDoor
set_option linter.unusedVariables false
set_option linter.unusedSimpArgs false
open Go.RowKit Go.Deep Go.Maps

def aT0 : MT := MT.new 1
def aT1 : MT := (aT0.act 0 ⟨0, 0, 0, 0, 0, 1, 1, 0⟩).1
def aT2 : MT := (aT1.act 0 ⟨0, 1, 0, 0, 0, 0, 2, 0⟩).1
def aT3 : MT := (aT2.act 0 ⟨2, 0, 1, 0, 0, 0, 0, 0⟩).1
def aT4 : MT := (aT3.act 0 ⟨6, 1, 0, 0, 0, 0, 0, 0⟩).1
def aT5 : MT := (aT4.act 0 ⟨6, 0, 0, 0, 0, 0, 0, 0⟩).1
def aT6 : MT := (aT5.act 0 ⟨0, 0, 0, 0, 0, 1, 0, 1⟩).1
def aT7 : MT := (aT6.act 0 ⟨0, 1, 0, 0, 0, 0, 0, 0⟩).1
def aT8 : MT := (aT7.act 0 ⟨2, 0, 1, 0, 0, 0, 0, 0⟩).1
def aT9 : MT := (aT8.act 0 ⟨6, 1, 0, 0, 0, 0, 0, 0⟩).1
def aTc : MT := aT9.collect.1
def aT10 : MT := (aTc.act 0 ⟨1, 2, 0, 0, 0, 0, 0, 0⟩).1
theorem aH1 : aT0.act 0 ⟨0, 0, 0, 0, 0, 1, 1, 0⟩ = (aT1, ⟨[], 0, 0, 0, 0, 1, 0⟩, 0) := by kernel_rfl
theorem aL1 : aT0.ob.length < 100000 := by decide +kernel
theorem aH2 : aT1.act 0 ⟨0, 1, 0, 0, 0, 0, 2, 0⟩ = (aT2, ⟨[], 0, 0, 0, 0, 2, 0⟩, 0) := by kernel_rfl
theorem aL2 : aT1.ob.length < 100000 := by decide +kernel
theorem aH3 : aT2.act 0 ⟨2, 0, 1, 0, 0, 0, 0, 0⟩ = (aT3, ⟨[], 1, 0, 0, 2, 0, 0⟩, 0) := by kernel_rfl
theorem aL3 : aT2.ob.length < 100000 := by decide +kernel
theorem aH4 : aT3.act 0 ⟨6, 1, 0, 0, 0, 0, 0, 0⟩ = (aT4, ET.zero, 0) := by kernel_rfl
theorem aL4 : aT3.ob.length < 100000 := by decide +kernel
theorem aH5 : aT4.act 0 ⟨6, 0, 0, 0, 0, 0, 0, 0⟩ = (aT5, ET.zero, 0) := by kernel_rfl
theorem aL5 : aT4.ob.length < 100000 := by decide +kernel
theorem aH6 : aT5.act 0 ⟨0, 0, 0, 0, 0, 1, 0, 1⟩ = (aT6, ⟨[], 0, 0, 0, 0, 3, 0⟩, 0) := by kernel_rfl
theorem aL6 : aT5.ob.length < 100000 := by decide +kernel
theorem aH7 : aT6.act 0 ⟨0, 1, 0, 0, 0, 0, 0, 0⟩ = (aT7, ⟨[], 0, 0, 0, 0, 4, 0⟩, 0) := by kernel_rfl
theorem aL7 : aT6.ob.length < 100000 := by decide +kernel
theorem aH8 : aT7.act 0 ⟨2, 0, 1, 0, 0, 0, 0, 0⟩ = (aT8, ⟨[], 3, 0, 0, 4, 0, 0⟩, 0) := by kernel_rfl
theorem aL8 : aT7.ob.length < 100000 := by decide +kernel
theorem aH9 : aT8.act 0 ⟨6, 1, 0, 0, 0, 0, 0, 0⟩ = (aT9, ET.zero, 0) := by kernel_rfl
theorem aL9 : aT8.ob.length < 100000 := by decide +kernel
theorem aH10 : aTc.act 0 ⟨1, 2, 0, 0, 0, 0, 0, 0⟩ = (aT10, ⟨[], 0, 0, 0, 0, 0, 0⟩, 0) := by kernel_rfl
theorem aL10 : aTc.ob.length < 100000 := by decide +kernel
theorem aK4 : aT4.kept = [1, 2] := by decide +kernel
theorem aK5 : aT5.kept = [] := by decide +kernel
theorem aK9 : aT9.kept = [3] := by decide +kernel
theorem aC9 : aT9.collect.2 = 1 := by decide +kernel
section
variable {w w' W V : World} {g : Nat} {t t' : MT} {L : List Nat}
def ADo (W : World) (g : Nat) (t' : MT) (ef : ET) (L : List Nat) (e : Ending) (w' : World) : Prop := ∃ A n c, e = .returned (.tuple #[.agg #[.slice A n c, .int .i64 ef.o, .int .i64 ef.i, .int .i64 ef.old, .int .i64 ef.nw, .int .i64 ef.made, .int .i64 ef.load], .int .i64 0]) ∧ Live w' g t' L ∧ Stay L W w'
theorem a_do (h : Live W g t L) {x : MA} {ef : ET} (ha : t.act 0 x = (t', ef, 0)) (hob : t.ob.length < 100000) (hx : W64 x.n) :
    Calls Tryd.prog 40 #[.pointer (some ⟨g, 0, none⟩), .int .i64 0, .agg x.cells] W (ADo W g t' ef L) := by
  have := l_Do h hob 0 x hx
  rw [ha] at this
  exact this.mono fun _ _ ⟨A, n, c, h1, h2, h3, _⟩ => ⟨A, n, c, h1, h2, h3⟩
theorem a_kept (h : Live W g t L) {l : List Int} (hk : t.kept = l) :
    Calls Tryd.prog 23 #[.pointer (some ⟨g, 0, none⟩)] W (LInts W g t l L) := by
  have := l_Kept h
  rw [hk] at this
  exact this
theorem IsN.blk {zs : List Int} {sp : List Value} (h : Blk W g 3 (zcells zs ++ sp).toArray) (hl : zs.length ≤ 1000000000) (cap : Nat) : IsN W (.slice (some ⟨g, 0, none⟩) zs.length cap) zs :=
  ⟨_, _, rfl, hl, fun i hi => ⟨g, 0, rfl, by rw [Nat.zero_add, h.cell i]; exact zcells_get hi⟩⟩
theorem eq12 : eqL [1, 2] [1, 2] = true := by decide +kernel
theorem eq3 : eqL [3] [3] = true := by decide +kernel
theorem w640 : W64 0 := ⟨by omega, by omega⟩
theorem effZero (W : World) : (zeroValue 73).run Tryd.prog W = .ok (.agg #[.slice none 0 0, .int .i64 0, .int .i64 0, .int .i64 0, .int .i64 0, .int .i64 0, .int .i64 0]) W := by kernel_rfl
set_option maxRecDepth 100000 in
set_option maxHeartbeats 1000000 in
theorem m_alive (hlz : LZ w) : Calls Tryd.prog 13 #[] w (TrueP w) := by
  have HLZ := hid hlz
  have hez := effZero
  clear hlz
  go_enter Tryd.func13, Tryd.ntmps13
  go_wp2_with (fail)
  refine (l_New HLZ.out 1 (by omega) (by omega)).mono ?_
  rintro e w1 ⟨g, rfl, V1, K1⟩
  have HV0 : Hid (Live w1 g aT0 (List.range w.heap.size)) := V1
  have HK1 := hid K1
  have HL0 : Hid (∀ x, x < w.heap.size → x ∈ List.range w.heap.size) := fun x hx => List.mem_range.2 hx
  clear V1 K1
  generalize List.range w.heap.size = L0 at HV0 HL0
  have HS0 := hid (Stay.refl L0 w1)
  go_wp2_with (fail)
  refine (a_do HV0.out aH1 aL1 w640).mono ?_
  rintro e d1 ⟨A1, n1, c1, rfl, v1, s1⟩
  have HVd1 := hid v1
  have HSd1 : Hid (Stay L0 w1 d1) := HS0.out.trans (s1.sub (fun x hx => hx))
  have HTd1 := hid s1
  clear v1 s1

  go_wp2_with (fail)
  refine (a_do HVd1.out aH2 aL2 w640).mono ?_
  rintro e d2 ⟨A2, n2, c2, rfl, v2, s2⟩
  have HVd2 := hid v2
  have HSd2 : Hid (Stay L0 w1 d2) := HSd1.out.trans (s2.sub (fun x hx => hx))
  have HTd2 := hid s2
  clear v2 s2

  go_wp2_with (fail)
  refine (a_do HVd2.out aH3 aL3 w640).mono ?_
  rintro e d3 ⟨A3, n3, c3, rfl, v3, s3⟩
  have HVd3 := hid v3
  have HSd3 : Hid (Stay L0 w1 d3) := HSd2.out.trans (s3.sub (fun x hx => hx))
  have HTd3 := hid s3
  clear v3 s3


  go_wp2_with (fail)
  have bX := Blk.new d3 73 #[.slice A3 n3 c3, .int .i64 1, .int .i64 0, .int .i64 0, .int .i64 2, .int .i64 0, .int .i64 0]
  have kX := Kp.new d3 (.cells #[.slice A3 n3 c3, .int .i64 1, .int .i64 0, .int .i64 0, .int .i64 2, .int .i64 0, .int .i64 0] 73)
  have HVX := hid (HVd3.out.add (M := d3.heap.size :: L0) (fun x hx => by
    rcases List.mem_cons.1 hx with h | h
    · exact .inr (by omega)
    · exact .inl h) (fun x hx => by
    rcases List.mem_cons.1 hx with h | h
    · subst h; exact bX.lt
    · exact Nat.lt_of_lt_of_le (HVd3.out.lt x h) kX.size) kX)
  have HSX : Hid (Stay L0 w1 _) := HSd3.out.trans (HVd3.out.kp0 kX).2
  have HBX := hid bX
  clear bX kX
  generalize d3.alloc (.cells #[.slice A3 n3 c3, .int .i64 1, .int .i64 0, .int .i64 0, .int .i64 2, .int .i64 0, .int .i64 0] 73) = x3 at HVX HSX HBX ⊢
  generalize d3.heap.size = gX at HVX HSX HBX ⊢

  go_wp2_with (fail)
  refine (a_do HVX.out aH4 aL4 w640).mono ?_
  rintro e d4 ⟨A4, n4, c4, rfl, v4, s4⟩
  have HVd4 := hid v4
  have HSd4 : Hid (Stay L0 w1 d4) := HSX.out.trans (s4.sub (fun x hx => by simp [hx]))
  have HBX_d4 := hid (s4.blk (by simp) HBX.out)
  clear v4 s4

  go_wp2_with (fail)
  refine (a_kept HVd4.out aK4).mono ?_
  rintro e k5 ⟨vk5, rfl, own5, v5, s5, kp5⟩
  have HSk5 : Hid (Stay L0 w1 k5) := HSd4.out.trans (s5.sub (fun x hx => by simp [hx]))
  have HBX_k5 := hid (s5.blk (by simp) HBX_d4.out)
  obtain ⟨gA, ccA, spA, rfl, hgeA, hbA, _⟩ := own_form own5 (by decide)
  have HBA_k5 := hid hbA
  have HVk5 := hid (HVd4.out.add (V := k5) (M := gA :: gX :: L0) (fun x hx => by
    rcases List.mem_cons.1 hx with h | h
    · exact .inr (by omega)
    · exact .inl h) (fun x hx => by
    rcases List.mem_cons.1 hx with h | h
    · subst h; exact hbA.lt
    · exact v5.lt x h) kp5)
  clear hgeA hbA v5 s5 own5 kp5

  go_wp2_with (fail)
  refine (a_do HVk5.out aH5 aL5 w640).mono ?_
  rintro e d5 ⟨A5, n5, c5, rfl, v5, s5⟩
  have HVd5 := hid v5
  have HSd5 : Hid (Stay L0 w1 d5) := HSk5.out.trans (s5.sub (fun x hx => by simp [hx]))
  have HBX_d5 := hid (s5.blk (by simp) HBX_k5.out)
  have HBA_d5 := hid (s5.blk (by simp) HBA_k5.out)
  clear v5 s5

  go_wp2_with (fail)
  refine (a_kept HVd5.out aK5).mono ?_
  rintro e k7 ⟨vk7, rfl, own7, v7, s7, kp7⟩
  have HSk7 : Hid (Stay L0 w1 k7) := HSd5.out.trans (s7.sub (fun x hx => by simp [hx]))
  have HBX_k7 := hid (s7.blk (by simp) HBX_d5.out)
  have HBA_k7 := hid (s7.blk (by simp) HBA_d5.out)
  obtain ⟨ABb, ccBb, rfl, _⟩ := own_cut own7
  have HVk7 := hid v7
  clear v7 s7 own7 kp7

  go_wp2_with (fail)
  refine (a_do HVk7.out aH6 aL6 w640).mono ?_
  rintro e d6 ⟨A6, n6, c6, rfl, v6, s6⟩
  have HVd6 := hid v6
  have HSd6 : Hid (Stay L0 w1 d6) := HSk7.out.trans (s6.sub (fun x hx => by simp [hx]))
  have HBX_d6 := hid (s6.blk (by simp) HBX_k7.out)
  have HBA_d6 := hid (s6.blk (by simp) HBA_k7.out)
  clear v6 s6

  go_wp2_with (fail)
  refine (a_do HVd6.out aH7 aL7 w640).mono ?_
  rintro e d7 ⟨A7, n7, c7, rfl, v7, s7⟩
  have HVd7 := hid v7
  have HSd7 : Hid (Stay L0 w1 d7) := HSd6.out.trans (s7.sub (fun x hx => by simp [hx]))
  have HBX_d7 := hid (s7.blk (by simp) HBX_d6.out)
  have HBA_d7 := hid (s7.blk (by simp) HBA_d6.out)
  clear v7 s7

  go_wp2_with (fail)
  refine (a_do HVd7.out aH8 aL8 w640).mono ?_
  rintro e d8 ⟨A8, n8, c8, rfl, v8, s8⟩
  have HVd8 := hid v8
  have HSd8 : Hid (Stay L0 w1 d8) := HSd7.out.trans (s8.sub (fun x hx => by simp [hx]))
  have HBX_d8 := hid (s8.blk (by simp) HBX_d7.out)
  have HBA_d8 := hid (s8.blk (by simp) HBA_d7.out)
  clear v8 s8

  go_wp2_with (fail)
  refine (a_do HVd8.out aH9 aL9 w640).mono ?_
  rintro e d9 ⟨A9, n9, c9, rfl, v9, s9⟩
  have HVd9 := hid v9
  have HSd9 : Hid (Stay L0 w1 d9) := HSd8.out.trans (s9.sub (fun x hx => by simp [hx]))
  have HBX_d9 := hid (s9.blk (by simp) HBX_d8.out)
  have HBA_d9 := hid (s9.blk (by simp) HBA_d8.out)
  clear v9 s9

  go_wp2_with (fail)
  refine (a_kept HVd9.out aK9).mono ?_
  rintro e k12 ⟨vk12, rfl, own12, v12, s12, kp12⟩
  have HSk12 : Hid (Stay L0 w1 k12) := HSd9.out.trans (s12.sub (fun x hx => by simp [hx]))
  have HBX_k12 := hid (s12.blk (by simp) HBX_d9.out)
  have HBA_k12 := hid (s12.blk (by simp) HBA_d9.out)
  obtain ⟨gC, ccC, spC, rfl, hgeC, hbC, _⟩ := own_form own12 (by decide)
  have HBC_k12 := hid hbC
  have HVk12 := hid (HVd9.out.add (V := k12) (M := gC :: gA :: gX :: L0) (fun x hx => by
    rcases List.mem_cons.1 hx with h | h
    · exact .inr (by omega)
    · exact .inl h) (fun x hx => by
    rcases List.mem_cons.1 hx with h | h
    · subst h; exact hbC.lt
    · exact v12.lt x h) kp12)
  clear hgeC hbC v12 s12 own12 kp12

  go_wp2_with (fail)
  have hcol := l_Collect HVk12.out
  rw [aC9] at hcol
  refine hcol.mono ?_
  rintro e k13 ⟨rfl, v13, s13⟩
  have HVk13 : Hid (Live k13 g aTc _) := v13
  have HSk13 : Hid (Stay L0 w1 k13) := HSk12.out.trans (s13.sub (fun x hx => by simp [hx]))
  have HBX_k13 := hid (s13.blk (by simp) HBX_k12.out)
  have HBA_k13 := hid (s13.blk (by simp) HBA_k12.out)
  have HBC_k13 := hid (s13.blk (by simp) HBC_k12.out)
  clear v13 s13 hcol

  go_wp2_with (fail)
  refine (a_do HVk13.out aH10 aL10 w640).mono ?_
  rintro e d10 ⟨A10, n10, c10, rfl, v10, s10⟩
  have HVd10 := hid v10
  have HSd10 : Hid (Stay L0 w1 d10) := HSk13.out.trans (s10.sub (fun x hx => by simp [hx]))
  have HBX_d10 := hid (s10.blk (by simp) HBX_k13.out)
  have HBA_d10 := hid (s10.blk (by simp) HBA_k13.out)
  have HBC_d10 := hid (s10.blk (by simp) HBC_k13.out)
  clear v10 s10

  go_upto_region 17 with (fail)
  have bY := Blk.new d10 73 #[.slice A10 n10 c10, .int .i64 0, .int .i64 0, .int .i64 0, .int .i64 0, .int .i64 0, .int .i64 0]
  have kY := Kp.new d10 (.cells #[.slice A10 n10 c10, .int .i64 0, .int .i64 0, .int .i64 0, .int .i64 0, .int .i64 0, .int .i64 0] 73)
  have HY : Hid (Blk _ _ _ _) := bY
  have HX := hid (HBX_d10.out.kp kY (by simp))
  have HA := hid (HBA_d10.out.kp kY (by simp))
  have HC := hid (HBC_d10.out.kp kY (by simp))
  have HKE := hid (((HSd10.out).kp0 HK1.out HL0.out).chain kY)
  clear bY kY
  generalize d10.alloc (.cells #[.slice A10 n10 c10, .int .i64 0, .int .i64 0, .int .i64 0, .int .i64 0, .int .i64 0, .int .i64 0] 73) = D at HY HX HA HC HKE ⊢
  generalize d10.heap.size = gY at HY ⊢
  have x1 := HX.out.cell 1
  have x4 := HX.out.cell 4
  go_wp2_with (fail)
  have hn2 : IsN (D.alloc (.cells #[.int .i64 1, .int .i64 2] 3)) (.slice (some ⟨D.heap.size, 0, none⟩) 2 2) [1, 2] := IsN.lit [1, 2] (Blk.new D 3 _) (by decide)
  have hn1 : IsN (D.alloc (.cells #[.int .i64 1, .int .i64 2] 3)) (.slice (some ⟨gA, 0, none⟩) 2 ccA) [1, 2] := (IsN.blk HA.out (by decide) ccA).kp0 (Kp.new _ _)
  have hi := m_ints hn1 hn2
  rw [eq12] at hi
  refine hi.mono ?_
  rintro e i1 ⟨rfl, ki1⟩
  have HKE1 := hid (((HKE.out).chain (Kp.new _ _)).chain ki1)
  have HY1 := hid ((HY.out.kp (Kp.new D (.cells #[.int .i64 1, .int .i64 2] 3)) (by simp)).kp ki1 (by simp))
  have HC1 := hid ((HC.out.kp (Kp.new D (.cells #[.int .i64 1, .int .i64 2] 3)) (by simp)).kp ki1 (by simp))
  clear hn1 hn2 hi ki1 x1 x4
  go_wp2_with (fail)
  have hn2 : IsN (i1.alloc (.cells #[.int .i64 3] 3)) (.slice (some ⟨i1.heap.size, 0, none⟩) 1 1) [3] := IsN.lit [3] (Blk.new i1 3 _) (by decide)
  have hn1 : IsN (i1.alloc (.cells #[.int .i64 3] 3)) (.slice (some ⟨gC, 0, none⟩) 1 ccC) [3] := (IsN.blk HC1.out (by decide) ccC).kp0 (Kp.new _ _)
  have hi := m_ints hn1 hn2
  rw [eq3] at hi
  refine hi.mono ?_
  rintro e i2 ⟨rfl, ki2⟩
  have HKE2 := hid (((HKE1.out).chain (Kp.new _ _)).chain ki2)
  have y6 := ((HY1.out.kp (Kp.new i1 (.cells #[.int .i64 3] 3)) (by simp)).kp ki2 (by simp)).cell 6
  clear hn1 hn2 hi ki2
  go_wp2
  go_ret
  exact ⟨rfl, HKE2.out⟩
end
end Go.Proofs.YtbiompmklijgoaaDoor
