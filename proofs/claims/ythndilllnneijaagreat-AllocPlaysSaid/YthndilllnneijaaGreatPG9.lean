/-
  The contract of package heap's Release. Conditions: those that stand in the theorem.
-/
import Derived.Test.YthndilllnneijaaGreatPG8
import Derived.Test.YthndilllnneijaaGreatPG6
set_option linter.unusedSimpArgs false
set_option linter.unusedVariables false
set_option maxHeartbeats 2000000
namespace Go.Proofs.YthndilllnneijaaGreat
open Go.RowKit Go.Deep Go.Maps
theorem zeroBlock (w : World) : (zeroValue 104).run Tryz.prog w = .ok (.agg #[.int .i64 0, .int .i64 0]) w := by kernel_rfl
theorem run_clear_two (w : World) (ty : TypeId) (b o n c : Nat) (hn : 0 < n) (hc : ∀ j, j < n * 2 → (w.cell? ⟨b, o + j, none⟩).isSome = true) (hf : ∀ j, j < n * 2 → w.frozen? ⟨b, o + j, none⟩ = false) :
   (Builtin.clear_ #[93] ty #[.slice (some ⟨b, o, none⟩) n c]).run Tryz.prog w = .ok (.tuple #[]) (w.setCells b o (List.replicate (n * 2) (.int .i64 0))) := by
 have hzc : (Builtin.zeroCells (Value.agg #[.int .i64 0, .int .i64 0]).cells n).toList = List.replicate (n * 2) (.int .i64 0) := by
   apply List.ext_getElem
   · simp [Builtin.zeroCells, Value.cells]
   · intro i h1 h2
     have hi : i % 2 = 0 ∨ i % 2 = 1 := by omega
     simp only [Builtin.zeroCells, Value.cells, Array.toList_map, List.getElem_map, List.getElem_replicate]
     simp
     rcases hi with h | h <;> simp [h]
 have hst := run_storeCells_cells (P := Tryz.prog) b o (List.replicate (n * 2) (.int .i64 0)) 0 w (by simpa using hc) (by simpa using hf) (by intro v hv'; rw [List.eq_of_mem_replicate hv']; rfl)
 simp only [Nat.add_zero] at hst
 obtain ⟨m, rfl⟩ : ∃ m, n = m + 1 := ⟨n - 1, by omega⟩
 simp only [Builtin.clear_]
 simp [run_underlying Tryz.underlying93, zeroBlock, hzc, hst]
theorem ext_getD {a c : List (Nat × Nat)} (hl : a.length = c.length) (h : ∀ j, a.getD j (0, 0) = c.getD j (0, 0)) : a = c := by
 apply List.ext_getElem hl
 intro j h1 h2
 have := h j
 rw [List.getD_eq_getElem?_getD, List.getD_eq_getElem?_getD, List.getElem?_eq_getElem h1, List.getElem?_eq_getElem h2] at this
 exact this
theorem Blk.clear2 {w : World} {g : Nat} {t : TypeId} {bl : List (Nat × Nat)} {sp : List Value} (k n : Nat) (h : Blk w g t (bcells bl ++ sp).toArray) (hk : k + n ≤ bl.length) :
   Blk (w.setCells g (k * 2) (List.replicate (n * 2) (.int .i64 0))) g t (bcells (rangeL bl k (0, 0) n) ++ sp).toArray := by
 have key : ∀ (n k : Nat) (w : World) (bl : List (Nat × Nat)), Blk w g t (bcells bl ++ sp).toArray → k + n ≤ bl.length →
     ∃ bl', bl'.length = bl.length ∧ (∀ j, bl'.getD j (0, 0) = if k ≤ j ∧ j < k + n then (0, 0) else bl.getD j (0, 0)) ∧ Blk (w.setCells g (k * 2) (List.replicate (n * 2) (.int .i64 0))) g t (bcells bl' ++ sp).toArray := by
   intro n
   induction n with
   | zero => exact fun k w bl h hk => ⟨bl, rfl, fun j => by rw [if_neg (by omega)], h⟩
   | succ n ih =>
     intro k w bl h hk
     have h1 := (h.set_ (k * 2) (.int .i64 0)).set_ (k * 2 + 1) (.int .i64 0)
     have h2 := bcells_set bl sp k 0 0 (by omega)
     have h3 : Blk ((w.setCell ⟨g, k * 2, none⟩ (.int .i64 0)).setCell ⟨g, k * 2 + 1, none⟩ (.int .i64 0)) g t (bcells (bl.set k (0, 0)) ++ sp).toArray := by
       rw [← h2]; exact h1
     obtain ⟨bl', e1, e2, e3⟩ := ih (k + 1) _ _ h3 (by simp; omega)
     refine ⟨bl', by rw [e1]; simp, fun j => ?_, ?_⟩
     · rw [e2, getD_set _ _ _ _ (by omega)]
       by_cases h4 : k + 1 ≤ j ∧ j < k + 1 + n
       · rw [if_pos h4, if_pos (by omega)]
       · rw [if_neg h4]
         by_cases h5 : j = k
         · rw [if_pos h5, if_pos (by omega)]
         · rw [if_neg h5, if_neg (by omega)]
     · have e4 : List.replicate ((n + 1) * 2) (Value.int .i64 0) = .int .i64 0 :: .int .i64 0 :: List.replicate (n * 2) (.int .i64 0) := by
         rw [show (n + 1) * 2 = n * 2 + 1 + 1 by omega]; rfl
       rw [e4]
       have e5 : (k + 1) * 2 = k * 2 + 1 + 1 := by omega
       rw [e5] at e3
       exact e3
 obtain ⟨bl', e1, e2, e3⟩ := key n k w bl h hk
 have : bl' = rangeL bl k (0, 0) n := ext_getD (by rw [e1, rangeL_length]) (fun j => by rw [e2, rangeL_get _ _ _ _ _ hk])
 rw [← this]
 exact e3
def HM.releaseE (m : HM) (i : Int) : Int := if blkB m.bl.length i then (if clmB (m.st i.toNat) then (if (m.objL i).length = 0 then 0 else 8) else 5) else 1
def HM.releaseM (m : HM) (i : Int) : HM := if m.releaseE i = 0 then m.setBl (rangeL m.bl i.toNat (0, 0) (grpEnd m.bl i.toNat - i.toNat)) else m
section
variable {w w' : World} {b : HB} {r : RM} {m : HM} {q : Nat}
theorem objL_none {k : Nat} (hk : k < m.bl.length) (h : (m.objL (k : Int)).length = 0) (I : m.Inv) : ∀ a o, m.ob a = some o → a / 64 ≠ k := by
 intro a o ho he
 have hb : inB m.bl.length (k : Int) = true := decide_eq_true ⟨by omega, by omega⟩
 have e : m.objL (k : Int) = fpL m (k * 32) 32 := by simp [HM.objL, hb]
 have hev := I.even _ _ ho
 have : ((a : Nat) : Int) ∈ fpL m (k * 32) 32 := (fpL_mem _ _ _ _).2 ⟨a / 2 - k * 32, by omega, by congr 1; omega, by rw [show 2 * (k * 32 + (a / 2 - k * 32)) = a by omega, ho]; rfl⟩
 rw [← e, List.eq_nil_of_length_eq_zero h] at this
 cases this
theorem h_release (h : SH w b q m) (i : Int) :
   Calls Tryz.prog 52 #[.pointer (some ⟨b.g, 0, none⟩), .int .i64 i] w fun e w' => e = .returned (.int .i64 (m.releaseE i)) ∧ SH w' b q (m.releaseM i) ∧ Kp b.all w w' := by
 have h0 := h
 have I := h.inv
 obtain ⟨r, R, A, hq1, hq2⟩ := h
 have hbl := A.bl
 rcases hx : blkB m.bl.length i
 · have e0 : m.releaseE i = 1 := by simp [HM.releaseE, hx]
   have e1 : m.releaseM i = m := by simp [HM.releaseM, e0]
   rw [e0, e1]
   rw [← hbl] at hx
   have HX := hid hx
   clear e0 e1 hx hbl A
   go_enter Tryz.func52, Tryz.ntmps52
   go_wp2_with (first | (go_at_call 55; refine (h_made R).mono ?_; rintro e w' ⟨rfl, n1, rfl⟩) | (go_at_call 125; refine (h_canBeUsed (R.drewN _) _).mono ?_; rintro e w' ⟨rfl, n2, rfl⟩; rw [HX.out]))
   go_ret
   exact ⟨rfl, h0.drewN _, (Kp.draw w _).mono (by simp)⟩
 obtain ⟨k, rfl, hk1, hk2⟩ := blkB_nat hx
 have HX : Hid (blkB r.bl.length (k : Int) = true) := by rw [hbl]; exact hx
 have hk2' : k < r.bl.length := by rw [hbl]; exact hk2
 have HC : Hid (∀ n, Calls Tryz.prog 126 #[.pointer (some ⟨b.g, 0, none⟩), .int .i64 (k : Int)] (w.drewN n) fun e w' => e = .returned (.bool (clmB (m.st k))) ∧ ∃ n2, w' = (w.drewN n).drewN n2) := fun n => by
   have := h_isClaimed (R.drewN n) k hk2'
   rw [hbl] at this
   exact this
 rcases hc : clmB (m.st k)
 · have e0 : m.releaseE (k : Int) = 5 := by simp [HM.releaseE, hx, hc]
   have e1 : m.releaseM (k : Int) = m := by simp [HM.releaseM, e0]
   rw [e0, e1]
   rw [hc] at HC
   clear e0 e1 hx hbl A hc
   go_enter Tryz.func52, Tryz.ntmps52
   go_wp2_with (first | (go_at_call 55; refine (h_made R).mono ?_; rintro e w' ⟨rfl, n1, rfl⟩) | (go_at_call 125; refine (h_canBeUsed (R.drewN _) _).mono ?_; rintro e w' ⟨rfl, n2, rfl⟩; rw [HX.out]) | (go_at_call 126; refine (HC.out _).mono ?_; rintro e w' ⟨rfl, n3, rfl⟩))
   go_ret
   exact ⟨rfl, h0.drewN _, (Kp.draw w _).mono (by simp)⟩
 have hcs : m.st k = 1 ∨ m.st k = 2 := of_decide_eq_true hc
 have HCS := hid hcs
 clear hcs
 rw [hc] at HC
 have hol : (m.objL (k : Int)).length ≤ 32 := by
   unfold HM.objL
   split
   · exact fpL_le _ _ _
   · simp
 by_cases hz : (m.objL (k : Int)).length = 0
 · have e0 : m.releaseE (k : Int) = 0 := by simp [HM.releaseE, hx, hc, hz]
   have e1 : m.releaseM (k : Int) = m.setBl (rangeL m.bl k (0, 0) (grpEnd m.bl k - k)) := by unfold HM.releaseM; rw [e0]; rfl
   rw [e0, e1]
   have hno := objL_none hk2 hz I
   have A2 := A.setBl (rangeL_length m.bl k (0, 0) (grpEnd m.bl k - k)) (release_inv I hk1 hk2 HCS.out hno)
   have HA2 := hid A2
   have hge := (grpEnd_iff m.bl k _ hk2).1 rfl
   have HGP : Hid (∀ W, Raw W b r → Calls Tryz.prog 127 #[.pointer (some ⟨b.g, 0, none⟩), .int .i64 (k : Int)] W fun e w' => e = .returned (.slice (some ⟨b.hb, k * 2, none⟩) (grpEnd m.bl k - k) (r.cb - k)) ∧ ∃ n, w' = W.drewN n) := fun W RW => by
     have := h_group RW k hk2'
     rw [hbl] at this
     exact this
   have hgl : k + (grpEnd m.bl k - k) ≤ r.bl.length := by rw [hbl]; omega
   have hgp : 0 < grpEnd m.bl k - k := by omega
   have hg64 : grpEnd m.bl k - k ≤ 64 := by have := R.bl64; omega
   have HZ := hid hz
   have HBL := hid hbl
   clear e0 e1 hx hbl A hc hno A2 hge hz
   generalize hgn : grpEnd m.bl k - k = gn at HGP hgl hgp hg64
   have HGN := hid hgn
   clear hgn
   go_enter Tryz.func52, Tryz.ntmps52
   go_wp2_with (first | (go_at_call 55; refine (h_made R).mono ?_; rintro e w' ⟨rfl, n1, rfl⟩) | (go_at_call 125; refine (h_canBeUsed (R.drewN _) _).mono ?_; rintro e w' ⟨rfl, n2, rfl⟩; rw [HX.out]) | (go_at_call 126; refine (HC.out _).mono ?_; rintro e w' ⟨rfl, n3, rfl⟩))
   refine (h_objects (h0.drewN _) _).mono ?_
   rintro e w3 ⟨v3, rfl, own3, bel3⟩
   obtain ⟨A3, cap3, rfl, hc3a, hc3b, _⟩ := FarI.of_own own3
   rw [HZ.out]
   have K3 : Kp [] w w3 := (Kp.of_below bel3).from_drewN
   have R3 := R.kp0 K3
   have HK3 := hid K3
   have HR3 := hid R3
   clear own3 bel3 K3 hc3a hc3b
   go_wp2_with (fail)
   refine (HGP.out _ R3).mono ?_
   rintro e w' ⟨rfl, n5, rfl⟩
   obtain ⟨W4, hW4⟩ : ∃ W4, W4 = (w3.drewN n5).setCells b.hb (k * 2) (List.replicate (gn * 2) (.int .i64 0)) := ⟨_, rfl⟩
   have hcl : ∀ ty, (Builtin.clear_ #[93] ty #[.slice (some ⟨b.hb, k * 2, none⟩) gn (r.cb - k)]).run Tryz.prog (w3.drewN n5) = .ok (.tuple #[]) W4 := fun ty => by
     rw [hW4]
     refine run_clear_two (w3.drewN n5) ty b.hb (k * 2) gn (r.cb - k) hgp (fun j hj => ?_) (fun j hj => (HR3.out.drewN n5).Bb.frozen _)
     rw [(HR3.out.drewN n5).Bb.cell]
     have hl : k * 2 + j < (bcells r.bl ++ r.spb).toArray.size := by simp [bcells_length]; omega
     rw [Array.getElem?_eq_getElem hl]
     rfl
   have hB4 : Blk W4 b.hb 104 (bcells (rangeL r.bl k (0, 0) gn) ++ r.spb).toArray := by
     rw [hW4]; exact (HR3.out.drewN n5).Bb.clear2 k gn hgl
   have K4 : Kp [b.hb] (w3.drewN n5) W4 := by rw [hW4]; exact Kp.setCells _ _ _ _
   have R4 := (HR3.out.drewN n5).setB hB4 (rangeL_length _ _ _ _) K4
   have HR4 := hid R4
   have HK4 := hid (HK3.out.chain0 K4.from_drewN)
   clear hW4 hB4 K4 R4 R3
   go_wp2
   go_ret
   refine ⟨rfl, ⟨_, HR4.out, ?_, hq1, hq2⟩, HK4.out.all b (by simp [HB.all])⟩
   have := HA2.out
   rw [HGN.out] at this
   rw [HBL.out]
   exact this
 · have e0 : m.releaseE (k : Int) = 8 := by simp [HM.releaseE, hx, hc, hz]
   have e1 : m.releaseM (k : Int) = m := by simp [HM.releaseM, e0]
   rw [e0, e1]
   have hz' : 0 < (m.objL (k : Int)).length := by omega
   generalize hzs : (m.objL (k : Int)).length = zl at hz' hol
   have HZS := hid hzs
   clear e0 e1 hx hbl A hc hz hzs
   go_enter Tryz.func52, Tryz.ntmps52
   go_wp2_with (first | (go_at_call 55; refine (h_made R).mono ?_; rintro e w' ⟨rfl, n1, rfl⟩) | (go_at_call 125; refine (h_canBeUsed (R.drewN _) _).mono ?_; rintro e w' ⟨rfl, n2, rfl⟩; rw [HX.out]) | (go_at_call 126; refine (HC.out _).mono ?_; rintro e w' ⟨rfl, n3, rfl⟩))
   refine (h_objects (h0.drewN _) _).mono ?_
   rintro e w3 ⟨v3, rfl, own3, bel3⟩
   obtain ⟨A3, cap3, rfl, hc3a, hc3b, _⟩ := FarI.of_own own3
   rw [HZS.out]
   have K3 : Kp [] w w3 := (Kp.of_below bel3).from_drewN
   have HK3 := hid K3
   clear own3 bel3 K3 hc3a hc3b
   go_wp2
   go_ret
   exact ⟨rfl, h0.kp0 HK3.out, HK3.out.mono (by simp)⟩
end
structure DO where
 a : Nat
 o : Ob
 rb : Nat
 rc : Nat
 db : Nat
 dc : Nat
def DO.z : DO := ⟨0, ⟨0, 0, 0, 0, [], false⟩, 0, 0, 0, 0⟩
def DO.cells (x : DO) : List Value := [.int .i64 (x.a : Int), .int .i64 (x.o.id : Int), .int .i64 (x.o.refs : Int), .int .i64 (x.o.data : Int), .int .i64 (x.o.kind : Int), .slice (some ⟨x.rb, 0, none⟩) x.o.refs x.rc, .slice (some ⟨x.db, 0, none⟩) x.o.data x.dc, .bool x.o.pin]
def DO.rs (x : DO) : List Int := x.o.fs.take x.o.refs
def DO.ds (x : DO) : List Int := x.o.fs.drop x.o.refs
def DO.rows (x : DO) : List Nat := [x.rb, x.db]
def ocells (l : List DO) : List Value := l.flatMap DO.cells
theorem ocells_length (l : List DO) : (ocells l).length = l.length * 8 := by
 induction l with
 | nil => rfl
 | cons r rs ih => simp only [ocells, List.flatMap_cons, List.length_append, List.length_cons, DO.cells, List.length_nil] at ih ⊢; omega
theorem ocells_append (a b : List DO) : ocells (a ++ b) = ocells a ++ ocells b := by simp [ocells]
theorem ocells_cons (x : DO) (b : List DO) : ocells (x :: b) = x.cells ++ ocells b := rfl
theorem ocells_at {l : List DO} {sp : List Value} {i j : Nat} {x : DO} (h : l[i]? = some x) (hj : j < 8) : (ocells l ++ sp)[i * 8 + j]? = x.cells[j]? := by
 induction l generalizing i with
 | nil => cases h
 | cons y l ih =>
   rw [ocells_cons, List.append_assoc]
   rcases i with _ | i
   · simp at h
     subst h
     rw [List.getElem?_append_left (by simp [DO.cells]; omega)]
     simp
   · simp at h
     rw [List.getElem?_append_right (by simp [DO.cells]; omega)]
     have := ih h
     rw [← this]
     congr 1
     simp [DO.cells]
     omega
theorem ocells_one (l : List DO) : ∀ u ∈ ocells l, u.oneCell' = true := by
 intro u hu
 obtain ⟨x, _, hx⟩ := List.mem_flatMap.1 hu
 simp [DO.cells] at hx
 rcases hx with rfl | rfl | rfl | rfl | rfl | rfl | rfl | rfl <;> rfl
theorem ocells_take (l : List DO) (k : Nat) : ocells (l.take k) = (ocells l).take (k * 8) := by
 induction l generalizing k with
 | nil => simp [ocells]
 | cons x l ih =>
   rcases k with _ | k
   · simp [ocells]
   · rw [List.take_succ_cons, ocells_cons, ocells_cons, ih, List.take_append]
     simp only [show x.cells.length = 8 from rfl]
     rw [List.take_of_length_le (l := x.cells) (by show 8 ≤ _; omega), show (k + 1) * 8 - 8 = k * 8 by omega]
theorem ocells_drop (l : List DO) (k : Nat) : ocells (l.drop k) = (ocells l).drop (k * 8) := by
 induction l generalizing k with
 | nil => simp [ocells]
 | cons x l ih =>
   rcases k with _ | k
   · simp
   · rw [List.drop_succ_cons, ocells_cons, ih, List.drop_append]
     simp only [show x.cells.length = 8 from rfl]
     rw [List.drop_of_length_le (l := x.cells) (by show 8 ≤ _; omega), show (k + 1) * 8 - 8 = k * 8 by omega]
     rfl
structure Lst (l : List DO) (m : HM) : Prop where
 up : l.Pairwise fun x y => x.a < y.a
 mem : ∀ a o, m.ob a = some o ↔ ∃ x ∈ l, x.a = a ∧ x.o = o
structure Fws (l : List (Nat × Nat)) (m : HM) : Prop where
 nd : (l.map Prod.fst).Nodup
 mem : ∀ f t, m.fw f = some t ↔ (f, t) ∈ l
 len : l.length = m.fn
section
variable {l : List DO} {m : HM}
theorem Lst.ob (L : Lst l m) {i : Nat} {x : DO} (h : l[i]? = some x) : m.ob x.a = some x.o := (L.mem _ _).2 ⟨x, List.mem_of_getElem? h, rfl, rfl⟩
theorem Lst.lt (L : Lst l m) {i j : Nat} {x y : DO} (hx : l[i]? = some x) (hy : l[j]? = some y) (h : i < j) : x.a < y.a := by
 obtain ⟨h1, rfl⟩ := List.getElem?_eq_some_iff.1 hx
 obtain ⟨h2, rfl⟩ := List.getElem?_eq_some_iff.1 hy
 exact List.pairwise_iff_getElem.1 L.up i j h1 h2 h
theorem Lst.inj (L : Lst l m) {i j : Nat} {x y : DO} (hx : l[i]? = some x) (hy : l[j]? = some y) (h : x.a = y.a) : i = j := by
 rcases Nat.lt_trichotomy i j with h1 | h1 | h1
 · have := L.lt hx hy h1; omega
 · exact h1
 · have := L.lt hy hx h1; omega
theorem Lst.get (L : Lst l m) {a : Nat} {o : Ob} (h : m.ob a = some o) : ∃ (i : Nat) (x : DO), l[i]? = some x ∧ x.a = a ∧ x.o = o := by
 obtain ⟨x, hx, h1, h2⟩ := (L.mem a o).1 h
 obtain ⟨i, hi⟩ := List.mem_iff_getElem?.1 hx
 exact ⟨i, x, hi, h1, h2⟩
theorem Lst.none (L : Lst l m) {a : Nat} (h : m.ob a = none) {i : Nat} {x : DO} (hx : l[i]? = some x) : x.a ≠ a := by
 rintro rfl
 rw [L.ob hx] at h
 cases h
theorem Lst.idx_le (L : Lst l m) {i : Nat} {x : DO} (h : l[i]? = some x) : i ≤ x.a := by
 induction i generalizing x with
 | zero => omega
 | succ i ih =>
   have hi : i < l.length := by have := (List.getElem?_eq_some_iff.1 h).1; omega
   have h1 := ih (List.getElem?_eq_getElem hi)
   have h2 := L.lt (List.getElem?_eq_getElem hi) h (by omega)
   omega
theorem Lst.len (L : Lst l m) (I : m.Inv) : l.length ≤ 4096 := by
 rcases Nat.eq_zero_or_pos l.length with h | h
 · omega
 · have h1 : l[l.length - 1]? = some (l[l.length - 1]'(by omega)) := List.getElem?_eq_getElem (by omega)
   have h2 := L.idx_le h1
   have h3 := I.hi (L.ob h1)
   have h4 := (I.ok _ _ (L.ob h1)).wd_bd
   have h5 := I.n_bd
   omega
end
theorem own_kpS {w w' : World} {S : List Nat} {B : Nat} {e : TypeId} {z n : Nat} {v : Value} {xs : List Value} (h : w.ownsRow B e z v n xs) (k : Kp S w w') (hS : ∀ g, v.ownBlock = some g → g ∉ S) : w'.ownsRow B e z v n xs := by
 obtain ⟨h1, h2 | ⟨g, cap, cur, hv, hg, hb, hr⟩⟩ := h
 · exact ⟨h1, .inl h2⟩
 · exact ⟨h1, .inr ⟨g, cap, cur, hv, hg, Blk.kp hb k (hS g (by rw [hv]; rfl)), hr⟩⟩
structure DB where
 g : Nat
 bb : Nat
 bc : Nat
 ov : Value
 fv : Value
 os : List DO
 fs : List (Nat × Nat)
def rowsOf (l : List DO) : List Nat := l.flatMap DO.rows
def DB.all (d : DB) : List Nat := d.g :: d.bb :: (d.ov.ownBlock.toList ++ (d.fv.ownBlock.toList ++ rowsOf d.os))
structure DR (w : World) (d : DB) (q : Nat) (m : HM) : Prop where
 inv : m.Inv
 lst : Lst d.os m
 fws : Fws d.fs m
 nd : d.all.Nodup
 fq : d.fs.length ≤ q
 bq : m.born ≤ q
 G : Blk w d.g 101 #[.slice (some ⟨d.bb, 0, none⟩) m.bl.length d.bc, d.ov, d.fv, .int .i64 (m.born : Int)]
 B : ∃ sp, m.bl.length ≤ d.bc ∧ d.bc ≤ maxLen ∧ (bcells m.bl ++ sp).length = 2 * d.bc ∧ Blk w d.bb 146 (bcells m.bl ++ sp).toArray
 O : w.ownsRow 0 109 8 d.ov d.os.length (ocells d.os)
 F : w.ownsRow 0 150 2 d.fv d.fs.length (rcells d.fs)
 R : ∀ x ∈ d.os, (∃ sp, Blk w x.rb 3 (zcells x.rs ++ sp).toArray) ∧ ∃ sp, Blk w x.db 3 (zcells x.ds ++ sp).toArray
theorem rowsOf_mem {l : List DO} {y : Nat} : y ∈ rowsOf l ↔ ∃ x ∈ l, y = x.rb ∨ y = x.db := by
 simp [rowsOf, DO.rows]
section
variable {w w' W : World} {d : DB} {q : Nat} {m : HM}
theorem DR.row_mem {x : DO} (hx : x ∈ d.os) : x.rb ∈ d.all ∧ x.db ∈ d.all := by
 have h1 : x.rb ∈ rowsOf d.os := rowsOf_mem.2 ⟨x, hx, .inl rfl⟩
 have h2 : x.db ∈ rowsOf d.os := rowsOf_mem.2 ⟨x, hx, .inr rfl⟩
 simp only [DB.all, List.mem_cons, List.mem_append]
 exact ⟨.inr (.inr (.inr (.inr h1))), .inr (.inr (.inr (.inr h2)))⟩
theorem DR.lt (T : DR w d q m) : ∀ x ∈ d.all, x < w.heap.size := by
 obtain ⟨sp, _, _, _, B⟩ := T.B
 intro x hx
 simp only [DB.all, List.mem_cons, List.mem_append, Option.mem_toList] at hx
 rcases hx with rfl | rfl | hx | hx | hx
 · exact T.G.lt
 · exact B.lt
 · exact own_lt T.O _ hx
 · exact own_lt T.F _ hx
 · obtain ⟨y, hy, rfl | rfl⟩ := rowsOf_mem.1 hx
   · obtain ⟨⟨sp, B⟩, _⟩ := T.R y hy; exact B.lt
   · obtain ⟨_, sp, B⟩ := T.R y hy; exact B.lt
theorem DR.kp {S : List Nat} (T : DR w d q m) (k : Kp S w w') (hS : ∀ x ∈ d.all, x ∉ S) : DR w' d q m := by
 obtain ⟨sp, h1, h2, h3, B⟩ := T.B
 refine ⟨T.inv, T.lst, T.fws, T.nd, T.fq, T.bq, T.G.kp k (hS _ (by simp [DB.all])), ⟨sp, h1, h2, h3, B.kp k (hS _ (by simp [DB.all]))⟩, own_kpS T.O k (fun g hg => hS g (by simp [DB.all, hg])), own_kpS T.F k (fun g hg => hS g (by simp [DB.all, hg])), fun x hx => ?_⟩
 obtain ⟨m1, m2⟩ := DR.row_mem hx
 exact ⟨(T.R x hx).1.imp fun sp B => B.kp k (hS _ m1), (T.R x hx).2.imp fun sp B => B.kp k (hS _ m2)⟩
theorem DR.kp0 (T : DR w d q m) (k : Kp [] w w') : DR w' d q m := T.kp k (by simp)
theorem DR.drewN (T : DR w d q m) (n : Nat) : DR (w.drewN n) d q m := T.kp0 (Kp.draw w n)
theorem DR.mono (T : DR w d q m) {q' : Nat} (h : q ≤ q') : DR w d q' m := ⟨T.inv, T.lst, T.fws, T.nd, Nat.le_trans T.fq h, Nat.le_trans T.bq h, T.G, T.B, T.O, T.F, T.R⟩
theorem DR.c0 (T : DR w d q m) : w.cell? ⟨d.g, 0, none⟩ = some (.slice (some ⟨d.bb, 0, none⟩) m.bl.length d.bc) := T.G.cell 0
theorem DR.c1 (T : DR w d q m) : w.cell? ⟨d.g, 1, none⟩ = some d.ov := T.G.cell 1
theorem DR.c2 (T : DR w d q m) : w.cell? ⟨d.g, 2, none⟩ = some d.fv := T.G.cell 2
theorem DR.c3 (T : DR w d q m) : w.cell? ⟨d.g, 3, none⟩ = some (.int .i64 (m.born : Int)) := T.G.cell 3
theorem DR.stc (T : DR w d q m) {k : Nat} (hk : k < m.bl.length) : w.cell? ⟨d.bb, k * 2, none⟩ = some (.int .i64 ((m.bl.getD k (0, 0)).1 : Int)) := by
 obtain ⟨sp, _, _, _, B⟩ := T.B
 exact (B.cell _).trans (bcells_get0 hk)
theorem DR.spc (T : DR w d q m) {k : Nat} (hk : k < m.bl.length) : w.cell? ⟨d.bb, k * 2 + 1, none⟩ = some (.int .i64 ((m.bl.getD k (0, 0)).2 : Int)) := by
 obtain ⟨sp, _, _, _, B⟩ := T.B
 exact (B.cell _).trans (bcells_get1 hk)
theorem DR.n_bd (T : DR w d q m) : 2 ≤ m.bl.length ∧ m.bl.length ≤ 64 ∧ m.bl.length ≤ d.bc ∧ d.bc ≤ maxLen := by
 obtain ⟨sp, h1, h2, _, B⟩ := T.B
 exact ⟨T.inv.len2, T.inv.len64, h1, h2⟩
theorem DR.o_form (T : DR w d q m) : (d.ov = .slice none 0 0 ∧ d.os = []) ∨ ∃ g cap, d.ov = .slice (some ⟨g, 0, none⟩) d.os.length cap ∧ d.os.length ≤ cap ∧ cap ≤ maxLen ∧ (∀ i x j, d.os[i]? = some x → j < 8 → w.cell? ⟨g, i * 8 + j, none⟩ = x.cells[j]?) ∧ ∀ j, w.frozen? ⟨g, j, none⟩ = false := by
 have Q := T.O
 rcases Q.2 with ⟨hv, h0⟩ | ⟨g, cap, cur, hv, hg, hb, hc1, hc2, hc3, hc4⟩
 · exact .inl ⟨hv, List.length_eq_zero_iff.1 h0⟩
 · refine .inr ⟨g, cap, hv, hc1, hc2, fun i x j hi hj => ?_, fun j => Blk.frozen (cs := cur) (t := 109) hb j⟩
   rw [hv] at Q
   have hil := (List.getElem?_eq_some_iff.1 hi).1
   rw [Q.cellAt (i * 8 + j) (by omega)]
   have := ocells_at (sp := []) hi hj
   simpa using this
theorem DR.f_form (T : DR w d q m) : (d.fv = .slice none 0 0 ∧ d.fs = []) ∨ ∃ g cap, d.fv = .slice (some ⟨g, 0, none⟩) d.fs.length cap ∧ d.fs.length ≤ cap ∧ cap ≤ maxLen ∧ ∀ i, i < d.fs.length → w.cell? ⟨g, i * 2, none⟩ = some (.int .i64 ((d.fs.getD i (0, 0)).1 : Int)) ∧ w.cell? ⟨g, i * 2 + 1, none⟩ = some (.int .i64 ((d.fs.getD i (0, 0)).2 : Int)) := by
 have Q := T.F
 rcases Q.2 with ⟨hv, h0⟩ | ⟨g, cap, cur, hv, hg, hb, hc1, hc2, hc3, hc4⟩
 · exact .inl ⟨hv, List.length_eq_zero_iff.1 h0⟩
 · refine .inr ⟨g, cap, hv, hc1, hc2, fun i hi => ?_⟩
   rw [hv] at Q
   rw [Q.cellAt (i * 2) (by omega), Q.cellAt (i * 2 + 1) (by omega)]
   exact rcells_at d.fs i hi
structure OCell (w : World) (g i : Nat) (x : DO) : Prop where
 c0 : w.cell? ⟨g, i * 8, none⟩ = some (.int .i64 (x.a : Int))
 c1 : w.cell? ⟨g, i * 8 + 1, none⟩ = some (.int .i64 (x.o.id : Int))
 c2 : w.cell? ⟨g, i * 8 + 2, none⟩ = some (.int .i64 (x.o.refs : Int))
 c3 : w.cell? ⟨g, i * 8 + 3, none⟩ = some (.int .i64 (x.o.data : Int))
 c4 : w.cell? ⟨g, i * 8 + 4, none⟩ = some (.int .i64 (x.o.kind : Int))
 c5 : w.cell? ⟨g, i * 8 + 5, none⟩ = some (.slice (some ⟨x.rb, 0, none⟩) x.o.refs x.rc)
 c6 : w.cell? ⟨g, i * 8 + 6, none⟩ = some (.slice (some ⟨x.db, 0, none⟩) x.o.data x.dc)
 c7 : w.cell? ⟨g, i * 8 + 7, none⟩ = some (.bool x.o.pin)
theorem DR.ocell (T : DR w d q m) {i : Nat} {x : DO} (h : d.os[i]? = some x) : ∃ g cap, d.ov = .slice (some ⟨g, 0, none⟩) d.os.length cap ∧ d.os.length ≤ cap ∧ cap ≤ maxLen ∧ g ∈ d.all ∧ OCell w g i x ∧ ∀ j, w.frozen? ⟨g, j, none⟩ = false := by
 rcases T.o_form with ⟨_, h0⟩ | ⟨g, cap, hv, h1, h2, hc, hf⟩
 · rw [h0] at h; cases h
 · exact ⟨g, cap, hv, h1, h2, by simp [DB.all, hv, Value.ownBlock], ⟨hc i x 0 h (by omega), hc i x 1 h (by omega), hc i x 2 h (by omega), hc i x 3 h (by omega), hc i x 4 h (by omega), hc i x 5 h (by omega), hc i x 6 h (by omega), hc i x 7 h (by omega)⟩, hf⟩
theorem DR.o_len (T : DR w d q m) : ∃ A cap, d.ov = .slice A d.os.length cap := by
 rcases T.o_form with ⟨h, h0⟩ | ⟨g, cap, h, _⟩
 · exact ⟨none, 0, by rw [h, h0]; rfl⟩
 · exact ⟨_, _, h⟩
theorem DR.f_len (T : DR w d q m) : ∃ A cap, d.fv = .slice A d.fs.length cap := by
 rcases T.f_form with ⟨h, h0⟩ | ⟨g, cap, h, _⟩
 · exact ⟨none, 0, by rw [h, h0]; rfl⟩
 · exact ⟨_, _, h⟩
theorem DR.len (T : DR w d q m) : d.os.length ≤ 4096 := T.lst.len T.inv
theorem DO.rs_len {x : DO} (h : x.o.Ok) : x.rs.length = x.o.refs := by simp [DO.rs, h.len]
theorem DO.ds_len {x : DO} (h : x.o.Ok) : x.ds.length = x.o.data := by simp [DO.ds, h.len]
theorem DR.ok (T : DR w d q m) {i : Nat} {x : DO} (h : d.os[i]? = some x) : x.o.Ok := T.inv.ok _ _ (T.lst.ob h)
theorem DR.rcell (T : DR w d q m) {i : Nat} {x : DO} (h : d.os[i]? = some x) {j : Nat} (hj : j < x.o.refs) : w.cell? ⟨x.rb, j, none⟩ = some (.int .i64 (x.o.fs.getD j 0)) := by
 obtain ⟨sp, B⟩ := (T.R x (List.mem_of_getElem? h)).1
 rw [B.cell, zcells_get (by rw [DO.rs_len (T.ok h)]; exact hj)]
 simp [DO.rs, List.getD_eq_getElem?_getD, List.getElem?_take_of_lt hj]
theorem DR.dcell (T : DR w d q m) {i : Nat} {x : DO} (h : d.os[i]? = some x) {j : Nat} (hj : j < x.o.data) : w.cell? ⟨x.db, j, none⟩ = some (.int .i64 (x.o.fs.getD (x.o.refs + j) 0)) := by
 obtain ⟨sp, B⟩ := (T.R x (List.mem_of_getElem? h)).2
 rw [B.cell, zcells_get (by rw [DO.ds_len (T.ok h)]; exact hj)]
 simp [DO.ds, List.getD_eq_getElem?_getD, List.getElem?_drop]
end
def DChg (w : World) (d : DB) (q : Nat) (m : HM) (w' : World) : Prop :=
 ∃ d', d'.g = d.g ∧ DR w' d' q m ∧ Kp d.all w w' ∧ ∀ x ∈ d'.all, x ∈ d.all ∨ w.heap.size ≤ x
section
variable {w w' W : World} {d : DB} {q : Nat} {m : HM}
theorem DChg.same (T : DR w d q m) (k : Kp [] w w') : DChg w d q m w' := ⟨d, rfl, T.kp0 k, k.mono (by simp), fun x hx => .inl hx⟩
theorem DChg.mono (h : DChg w d q m w') {q' : Nat} (hq : q ≤ q') : DChg w d q' m w' := by
 obtain ⟨d', h1, h2, h3, h4⟩ := h
 exact ⟨d', h1, h2.mono hq, h3, h4⟩
theorem DChg.then (h : DChg w d q m w') (k : Kp [] w' W) : DChg w d q m W := by
 obtain ⟨d', h1, h2, h3, h4⟩ := h
 exact ⟨d', h1, h2.kp0 k, h3.chain k, h4⟩
end
end Go.Proofs.YthndilllnneijaaGreat
