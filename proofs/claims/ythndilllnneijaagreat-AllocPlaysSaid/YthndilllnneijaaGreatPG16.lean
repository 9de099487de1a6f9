/-
  The contract of package heap's Shape, at an object. Conditions: those that stand in each theorem.
-/
import Derived.Test.YthndilllnneijaaGreatPG12
import Derived.Deep.RegionHeld3
import Derived.BigQuiet
import Derived.Test.YthndilllnneijaaGreatPG13
set_option linter.unusedSimpArgs false
set_option linter.unusedVariables false
set_option maxHeartbeats 2000000
namespace Go.Proofs.YthndilllnneijaaGreat
open Go.RowKit Go.Deep Go.Maps
def Ob.head (o : Ob) : List Int := [(o.id : Int), (o.refs : Int), (o.data : Int), (o.kind : Int)]
def Ob.all (o : Ob) : List Int := o.head ++ o.fs
section
variable {w w' : World} {b : HB} {r : RM} {m : HM} {q : Nat}
theorem h_shape_ob (h : SH w b q m) {a : Nat} {o : Ob} (ho : m.ob a = some o) :
   Calls Tryz.prog 35 #[.pointer (some ⟨b.g, 0, none⟩), .int .i64 (a : Int)] w fun e w' => e = .returned (.tuple #[.agg #[.int .i64 (o.refs : Int), .int .i64 (o.data : Int), .int .i64 (o.kind : Int)], .int .i64 0]) ∧ Kp [] w w' := by
 have hhi := h.inv.hi ho
 have hnb := h.inv.n_bd
 have HE : Hid (m.lackE (a : Int) = 0) := by show _ = _; simp [HM.lackE, has_of ho]
 have HW : Hid (W64 (a : Int)) := ⟨by omega, by omega⟩
 have HO := hid ho
 clear ho
 have K0 := hid (Kp.new w (.cells #[.int .i64 0, .int .i64 0, .int .i64 0] 33))
 have B0 := hid (Blk.new w 33 #[.int .i64 0, .int .i64 0, .int .i64 0])
 go_enter Tryz.func35, Tryz.ntmps35
 go_wp2_with (first
   | (go_at_call 112; refine (h_check (h.kp0 K0.out) _ HW.out).mono ?_; rintro e w' ⟨rfl, n1, rfl⟩; rw [HE.out])
   | (go_at_call 113; refine (((h.kp0 K0.out).drewN _).shape_at HO.out).mono ?_; rintro e w2 ⟨rfl, K2⟩; have HK := hid (K0.out.chain K2.from_drewN); have B2 := B0.out.kp K2.from_drewN (by simp); have c0 := B2.cell 0; have c1 := B2.cell 1; have c2 := B2.cell 2; have f0 := B2.frozen 0; have f1 := B2.frozen 1; have f2 := B2.frozen 2; have HB2 := hid B2; clear B2 K2))
 have hB9 := ((HB2.out.set_ 0 (.int .i64 (o.refs : Int))).set_ 1 (.int .i64 (o.data : Int))).set_ 2 (.int .i64 (o.kind : Int))
 have hK9 : Kp [] w (((w2.setCell ⟨w.heap.size, 0, none⟩ (.int .i64 (o.refs : Int))).setCell ⟨w.heap.size, 1, none⟩ (.int .i64 (o.data : Int))).setCell ⟨w.heap.size, 2, none⟩ (.int .i64 (o.kind : Int))) :=
   (((HK.out.trans (Kp.cell _ ⟨w.heap.size, 0, none⟩ _) (U := []) (by simp) (by simp)).trans (Kp.cell _ ⟨w.heap.size, 1, none⟩ _) (U := []) (by simp) (by simp)).trans (Kp.cell _ ⟨w.heap.size, 2, none⟩ _) (U := []) (by simp) (by simp))
 generalize (((w2.setCell ⟨w.heap.size, 0, none⟩ (.int .i64 (o.refs : Int))).setCell ⟨w.heap.size, 1, none⟩ (.int .i64 (o.data : Int))).setCell ⟨w.heap.size, 2, none⟩ (.int .i64 (o.kind : Int))) = W9 at hB9 hK9 ⊢
 have q0 : W9.cell? ⟨w.heap.size, 0, none⟩ = some (.int .i64 (o.refs : Int)) := hB9.cell 0
 have q1 : W9.cell? ⟨w.heap.size, 1, none⟩ = some (.int .i64 (o.data : Int)) := hB9.cell 1
 have q2 : W9.cell? ⟨w.heap.size, 2, none⟩ = some (.int .i64 (o.kind : Int)) := hB9.cell 2
 refine bodyPost_ret (v := .tuple #[.agg #[.int .i64 (o.refs : Int), .int .i64 (o.data : Int), .int .i64 (o.kind : Int)], .int .i64 0]) ?_ rfl ⟨rfl, hK9⟩
 simp [results, Tryz.results35, q0, q1, q2, go_sem]
end
def HM.psL (m : HM) : List Nat := (List.range (32 * m.bl.length)).map fun j => if (m.ob (2 * j)).isSome then 1 else if m.own (2 * j) = 0 then 0 else 2
def HM.usedV (m : HM) : Int := 2 * ((m.psL.length : Int) - ((cntN (isV m.psL 0) m.psL.length : Nat) : Int))
section
variable {w w' : World} {b : HB} {r : RM} {m : HM} {q : Nat}
theorem Abs.psL (A : Abs r m) (R : Raw w b r) : r.ps = m.psL := by
 have I := A.inv
 have hl : r.ps.length = 32 * m.bl.length := by rw [R.pl, A.bl]
 apply List.ext_getElem (by simp [HM.psL, hl])
 intro j h1 h2
 have e1 : r.ps[j] = ent r.ps j := by unfold ent; rw [List.getD_eq_getElem?_getD, List.getElem?_eq_getElem h1]; rfl
 rw [e1]
 simp only [HM.psL, List.getElem_map, List.getElem_range]
 rcases own_cases I (2 * j) with ⟨a, o, ho, g1, g2, g3⟩ | ⟨g1, g2⟩
 · by_cases ha : a = 2 * j
   · subst ha
     rw [if_pos (by rw [ho]; rfl)]
     have := A.rep.p_ob _ _ ho
     rw [show 2 * j / 2 = j by omega] at this
     exact this
   · have hn : (m.ob (2 * j)).isSome = false := by
       rcases h : m.ob (2 * j) with _ | o'
       · rfl
       · have hw := (I.ok _ _ h).wd_bd
         have := own_cov I h (Nat.le_refl _) (by omega)
         omega
     have := I.lo ho
     rw [hn, if_neg (by decide), if_neg (by omega)]
     exact A.rep.p_in _ _ ho j (by omega) g2
 · have hn : (m.ob (2 * j)).isSome = false := by
     rcases h : m.ob (2 * j) with _ | o'
     · rfl
     · have hw := (I.ok _ _ h).wd_bd
       exact absurd ⟨_, _, h, Nat.le_refl _, by omega⟩ g1
   rw [hn, if_neg (by decide), if_pos g2]
   exact A.rep.p_gap _ g1
structure US (w W : World) (b : HB) (m : HM) : Prop where
 tab : STab W b.pg b.ph 2 m.psL
 c2 : W.cell? ⟨b.g, 2, none⟩ = some (.pointer (some ⟨b.pg, 0, none⟩))
 dr : Kp [] w W
theorem US.step {w W : World} {b : HB} {m : HM} (u : US w W b m) (n : Nat) : US w (W.drewN n) b m := by
 exact ⟨u.tab.kp (Kp.draw _ n) (by simp) (by simp), u.c2, u.dr.drewN n⟩
theorem US.stepK {w W V : World} {b : HB} {m : HM} (u : US w W b m) (k : Kp [] W V) : US w V b m := ⟨u.tab.kp k (by simp) (by simp), cell_kp k u.c2, u.dr.chain k⟩
theorem entries_k {w W : World} {b : HB} {m : HM} (u : US w W b m) : Calls Tryz.prog 151 #[.pointer (some ⟨b.pg, 0, none⟩)] W fun e w' => e = .returned (.int .i64 (m.psL.length : Int)) ∧ Kp [] W w' := by
 refine (entries_any u.tab).mono ?_
 rintro e w' ⟨rfl, n, rfl⟩
 exact ⟨rfl, Kp.draw _ _⟩
theorem count_k {w W : World} {b : HB} {m : HM} (u : US w W b m) : Calls Tryz.prog 152 #[.pointer (some ⟨b.pg, 0, none⟩), .int .i64 0] W fun e w' => e = .returned (.int .i64 ((cntN (isV m.psL 0) m.psL.length : Nat) : Int)) ∧ Kp [] W w' := by
 refine (count_any u.tab 0).mono ?_
 rintro e w' ⟨rfl, n, rfl⟩
 exact ⟨rfl, Kp.draw _ _⟩
theorem h_used (h : SH w b q m) :
   Calls Tryz.prog 83 #[.pointer (some ⟨b.g, 0, none⟩)] w fun e w' => e = .returned (.int .i64 m.usedV) ∧ Kp [] w w' := by
 have h0 := h
 obtain ⟨r, R, A, _⟩ := h
 have hps := A.psL R
 have hl64 := A.inv.len64
 have hl : m.psL.length = 32 * m.bl.length := by simp [HM.psL]
 have hc := R.c2
 have hle := cntN_le (isV m.psL 0) m.psL.length
 have HU0 : Hid (∀ n, US w (w.drewN n) b m) := fun n => ⟨by rw [← hps]; exact (R.drewN n).TP, (R.drewN n).c2, Kp.draw _ _⟩
 have HU : Hid (m.usedV = 2 * ((m.psL.length : Int) - ((cntN (isV m.psL 0) m.psL.length : Nat) : Int))) := rfl
 have hb1 : m.psL.length ≤ 2048 := by omega
 have HLE := hid hle
 clear R A hc hps hl
 go_enter Tryz.func83, Tryz.ntmps83
 go_wp2_with (fail)
 refine h0.made.mono ?_
 rintro e w1 ⟨rfl, n1, rfl⟩
 have U0 := HU0.out n1
 clear HU0
 generalize w.drewN n1 = W1 at U0 ⊢
 have hc := U0.c2
 have U9 : US w W1.drew b m := U0.step 1
 have hc1 : W1.drew.cell? ⟨b.g, 2, none⟩ = some (.pointer (some ⟨b.pg, 0, none⟩)) := U9.c2
 clear U0
 go_wp2
 go_region_held3 (fun W => W.cell? ⟨b.g, 2, none⟩ = some (.pointer (some ⟨b.pg, 0, none⟩))) (go_keep)
   (first
     | (go_at_call 151; refine (entries_k (w := w) (by assumption)).mono ?_; rintro e w5 ⟨rfl, K5⟩; have U1 := US.stepK (w := w) (by assumption) K5; have t1 := U1.c2; clear K5)
     | (go_at_call 152; refine (count_k (w := w) (by assumption)).mono ?_; rintro e w6 ⟨rfl, K6⟩; have U2 := US.stepK (w := w) (by assumption) K6; have t2 := U2.c2; clear K6))
 all_goals (
   go_wp2
   go_ret
   rw [HU.out]
   have hl1 := HLE.out
   have g1 : IntKind.i64.wrap ((m.psL.length : Int) - ((cntN (isV m.psL 0) m.psL.length : Nat) : Int)) = (m.psL.length : Int) - ((cntN (isV m.psL 0) m.psL.length : Nat) : Int) := by rw [IntKind.wrap_i64]; omega
   have g2 : IntKind.i64.wrap (2 * ((m.psL.length : Int) - ((cntN (isV m.psL 0) m.psL.length : Nat) : Int))) = 2 * ((m.psL.length : Int) - ((cntN (isV m.psL 0) m.psL.length : Nat) : Int)) := by rw [IntKind.wrap_i64]; omega
   rw [g1, g2]
   exact ⟨rfl, US.dr (by assumption)⟩)
theorem h_space (h : SH w b q m) (i : Int) :
   Calls Tryz.prog 36 #[.pointer (some ⟨b.g, 0, none⟩), .int .i64 i] w fun e w' => e = .returned (.int .i64 (if inB m.bl.length i then (m.sp i.toNat : Int) else -1)) ∧ ∃ n, w' = w.drewN n := by
 obtain ⟨r, R, A, _⟩ := h
 have hbl := A.bl
 rcases hb : inB m.bl.length i
 · rw [if_neg (by decide)]
   have HB : Hid (inB r.bl.length i = false) := by rw [hbl]; exact hb
   clear hb
   go_enter Tryz.func36, Tryz.ntmps36
   go_wp2_with (first | (go_at_call 55; refine (h_made R).mono ?_; rintro e w' ⟨rfl, n1, rfl⟩) | (go_at_call 114; refine (h_hasBlock (R.drewN _) _).mono ?_; rintro e w' ⟨rfl, n2, rfl⟩; rw [HB.out]))
   go_ret
   exact ⟨rfl, _, rfl⟩
 · rw [if_pos rfl]
   have h0 := of_decide_eq_true hb
   obtain ⟨k, rfl⟩ : ∃ k : Nat, i = (k : Int) := ⟨i.toNat, by omega⟩
   have HB : Hid (inB r.bl.length (k : Int) = true) := by rw [hbl]; exact hb
   have hk : k < r.bl.length := by rw [hbl]; omega
   have hc := R.c0
   have hs := R.spc hk
   have hl := R.bl64
   rw [hbl] at hs
   have e : ((m.sp ((k : Int).toNat) : Nat) : Int) = (((m.bl.getD k (0, 0)).2 : Nat) : Int) := rfl
   rw [e]
   generalize (m.bl.getD k (0, 0)).2 = x at hs ⊢
   clear hb h0 e hbl
   go_enter Tryz.func36, Tryz.ntmps36
   go_wp2_with (first | (go_at_call 55; refine (h_made R).mono ?_; rintro e w' ⟨rfl, n1, rfl⟩) | (go_at_call 114; refine (h_hasBlock (R.drewN _) _).mono ?_; rintro e w' ⟨rfl, n2, rfl⟩; rw [HB.out]))
   go_ret
   exact ⟨rfl, _, rfl⟩
theorem ints_yes {w : World} {B B' : Nat} {v v' : Value} {zs : List Int} (h : FarI w B v zs) (h' : FarI w B' v' zs) (hl : zs.length ≤ 1000000) :
   Calls Tryz.prog 85 #[v, v'] w fun e w' => e = .returned (.bool true) ∧ ∃ m, w' = w.drewN m := by
 obtain ⟨A, cap, rfl, hA1, hA2, hA⟩ := h
 obtain ⟨A', cap', rfl, hB1, hB2, hA'⟩ := h'
 unfold maxLen at hA2 hB2
 have HA := hid hA
 have HA' := hid hA'
 clear hA hA'
 go_enter Tryz.func85, Tryz.ntmps85
 go_wp2
 go_loopw [5] (fun c wr => ∃ k n : Nat, k ≤ zs.length ∧ c = .int .i64 (k : Int) ∧ wr = w.drewN n) (fun c _ => zs.length - (intOf c).toNat)
 case atStart => exact ⟨0, 0, by omega, rfl, rfl⟩
 case round =>
   obtain ⟨k, n, hk, rfl, rfl⟩ := hrel
   by_cases hlt : k < zs.length
   · obtain ⟨g, rfl, _, c0⟩ := HA.out k hlt
     obtain ⟨g', rfl, _, d0⟩ := HA'.out k hlt
     clear HA HA'
     go_wp2
     go_quiet (fail)
     go_wp2
     go_roundw
     case rel => exact ⟨k + 1, _, by omega, by go_num, rfl⟩
     case measure => simp [intOf]; omega
   · obtain rfl : k = zs.length := by omega
     go_wp2
     go_ret
     exact ⟨rfl, _, rfl⟩
end
theorem rise_ext : ∀ {l l' : List Int}, l.Pairwise (· < ·) → l'.Pairwise (· < ·) → (∀ z, z ∈ l ↔ z ∈ l') → l = l'
 | [], [], _, _, _ => rfl
 | [], y :: l', _, _, h => by have := (h y).2 (by simp); cases this
 | x :: l, [], _, _, h => by have := (h x).1 (by simp); cases this
 | x :: l, y :: l', h1, h2, h => by
   rw [List.pairwise_cons] at h1 h2
   have hxy : x = y := by
     have a1 := (h x).1 (by simp)
     have a2 := (h y).2 (by simp)
     simp only [List.mem_cons] at a1 a2
     rcases a1 with a1 | a1
     · exact a1
     · rcases a2 with a2 | a2
       · exact a2.symm
       · have := h2.1 x a1; have := h1.1 y a2; omega
   subst hxy
   have : l = l' := rise_ext h1.2 h2.2 fun z => by
     have := h z
     simp only [List.mem_cons] at this
     constructor
     · intro hz
       rcases this.1 (.inr hz) with e | e
       · subst e; have := h1.1 _ hz; omega
       · exact e
     · intro hz
       rcases this.2 (.inr hz) with e | e
       · subst e; have := h2.1 _ hz; omega
       · exact e
   rw [this]
def adL (l : List DO) : List Int := l.map fun x => (x.a : Int)
theorem adL_take (l : List DO) (k : Nat) {x : DO} (h : l[k]? = some x) : adL (l.take (k + 1)) = adL (l.take k) ++ [(x.a : Int)] := by
 rw [List.take_add_one, h]
 simp [adL]
theorem Lst.rise {l : List DO} {m : HM} (L : Lst l m) : (adL l).Pairwise (· < ·) := by
 unfold adL
 rw [List.pairwise_map]
 exact L.up.imp fun h => by omega
theorem allL_eq {l : List DO} {m : HM} (L : Lst l m) (I : m.Inv) : m.allL = adL l := by
 refine rise_ext (fpL_sorted _ _ _) L.rise fun z => ?_
 unfold HM.allL
 rw [fpL_mem]
 unfold adL
 rw [List.mem_map]
 constructor
 · rintro ⟨i, hi, rfl, hs⟩
   obtain ⟨o, ho⟩ := Option.isSome_iff_exists.1 hs
   obtain ⟨j, x, hj, h1, _⟩ := L.get ho
   exact ⟨x, List.mem_of_getElem? hj, by rw [h1]⟩
 · rintro ⟨x, hx, rfl⟩
   obtain ⟨j, hj⟩ := List.mem_iff_getElem?.1 hx
   have ho := L.ob hj
   have he := I.even _ _ ho
   have hh := I.hi ho
   have hw := (I.ok _ _ ho).wd_bd
   have hn : m.n = 64 * m.bl.length := rfl
   exact ⟨x.a / 2, by omega, by omega, by rw [show 2 * (0 + x.a / 2) = x.a by omega, ho]; rfl⟩
def inBk (b : Int) (x : DO) : Bool := decide ((x.a : Int) / 64 = b)
theorem objL_eq {l : List DO} {m : HM} (L : Lst l m) (I : m.Inv) (b : Int) : m.objL b = adL (l.filter (inBk b)) := by
 have hr : (adL (l.filter (inBk b))).Pairwise (· < ·) := by
   unfold adL
   rw [List.pairwise_map]
   exact (L.up.filter _).imp fun h => by omega
 have hn : m.n = 64 * m.bl.length := rfl
 unfold HM.objL
 by_cases hb : inB m.bl.length b = true
 · rw [if_pos hb]
   have hb2 := of_decide_eq_true hb
   refine rise_ext (fpL_sorted _ _ _) hr fun z => ?_
   rw [fpL_mem]
   unfold adL
   rw [List.mem_map]
   constructor
   · rintro ⟨i, hi, rfl, hs⟩
     obtain ⟨o, ho⟩ := Option.isSome_iff_exists.1 hs
     obtain ⟨j, x, hj, h1, _⟩ := L.get ho
     exact ⟨x, List.mem_filter.2 ⟨List.mem_of_getElem? hj, decide_eq_true (by omega)⟩, by rw [h1]⟩
   · rintro ⟨x, hx, rfl⟩
     obtain ⟨hx1, hx2⟩ := List.mem_filter.1 hx
     have hx3 := of_decide_eq_true hx2
     obtain ⟨j, hj⟩ := List.mem_iff_getElem?.1 hx1
     have ho := L.ob hj
     have he := I.even _ _ ho
     exact ⟨x.a / 2 - b.toNat * 32, by omega, by omega, by rw [show 2 * (b.toNat * 32 + (x.a / 2 - b.toNat * 32)) = x.a by omega, ho]; rfl⟩
 · rw [if_neg hb]
   symm
   unfold adL
   rw [List.map_eq_nil_iff, List.filter_eq_nil_iff]
   intro x hx hx2
   have hx3 := of_decide_eq_true hx2
   obtain ⟨j, hj⟩ := List.mem_iff_getElem?.1 hx
   have ho := L.ob hj
   have hh := I.hi ho
   have hw := (I.ok _ _ ho).wd_bd
   exact hb (decide_eq_true (by omega))
theorem filt_take (l : List DO) (b : Int) (k : Nat) {x : DO} (h : l[k]? = some x) : (l.take (k + 1)).filter (inBk b) = (l.take k).filter (inBk b) ++ (if inBk b x then [x] else []) := by
 rw [List.take_add_one, h]
 simp only [Option.toList_some, List.filter_append]
 congr 1
 rw [List.filter_cons]
 simp
theorem tdiv_nat64 (n : Nat) : ((n : Int)).tdiv 64 = (n : Int) / 64 := Int.tdiv_eq_ediv_of_nonneg (by omega)
section
variable {w w' W : World} {d : DB} {q : Nat} {m : HM}
theorem d_all (T : DR w d q m) :
   Calls Tryz.prog 87 #[.pointer (some ⟨d.g, 0, none⟩)] w (RowP w.heap.size w m.allL) := by
 obtain ⟨i0, hi0, hz0, hz1, hz2⟩ := info_parts infoInt
 rw [allL_eq T.lst T.inv]
 obtain ⟨A, cap, hov⟩ := T.o_len
 have hlen := T.len
 have HT := hid T
 have HOV := hid hov
 have HLT := hid T.lt
 clear T hov
 go_enter Tryz.func87, Tryz.ntmps87
 go_wp2
 go_loopw [3, 4] (fun s c wr => ∃ k : Nat, k ≤ d.os.length ∧ c = .int .i64 (k : Int) ∧ wr.ownsRow w.heap.size 3 1 s (adL (d.os.take k)).length (zcells (adL (d.os.take k))) ∧ Below w.heap.size w wr) (fun _ c _ => d.os.length - (intOf c).toNat)
 case atStart => exact ⟨0, by omega, by simp, ⟨rfl, .inl ⟨rfl, rfl⟩⟩, Below.refl _ _⟩
 case round =>
   obtain ⟨k, hk, rfl, own, hbel⟩ := hrel
   have HTR := hid (HT.out.kp0 (Kp.of_below hbel))
   have hc1 := HTR.out.c1
   rw [HOV.out] at hc1
   have HO := hid own
   have HB := hid hbel
   clear own hbel
   by_cases hlt : k < d.os.length
   · obtain ⟨x, hx⟩ := get_some hlt
     obtain ⟨g, cap', hov', _, _, _, hO, _⟩ := HTR.out.ocell hx
     rw [HOV.out] at hov'
     cases hov'
     have o0 := hO.c0
     have HE := hid (adL_take d.os k hx)
     have hle : (adL (d.os.take k)).length ≤ 5000 := by simp [adL]; omega
     generalize (x.a : Int) = y at o0 HE
     have HN : Hid _ := one_new wr y
     have NONE := one_cell y
     have HSZ : Hid (w.heap.size ≤ wr.heap.size) := HB.out.size
     clear hO hx
     go_wp2_with (first
       | (go_at_call 60; refine (d_made HTR.out).mono ?_; rintro e w' ⟨rfl, n1, rfl⟩)
       | (at_builtin; refine wpList_append_own _ rfl (.tmp 18) (.tmp 27) 59 rfl w.heap.size 3 i0 (.int .i64 0) 1 8 Tryz.underlying59 hi0 hz0 hz1 hz2 rfl (by decide) _ _ _ rfl ((show (wr.drewN n1).ownsRow _ _ _ _ _ _ from HO.out).alloc _) ⟨wr.heap.size, 0, none⟩ 1 1 [.int .i64 y] rfl rfl (HN.out n1) NONE (by unfold maxLen; omega) (by omega) (by have := HSZ.out; simp; omega) ?_; intro v' w1 hown' hgr _; have HO' := hid hown'; have HG := hid hgr; clear hown' hgr))
     go_roundw
     case rel =>
       obtain ⟨z1, z2⟩ := row_end HSZ.out rfl HO.out HO'.out HG.out
       exact ⟨k + 1, by omega, by go_num, by rw [HE.out]; exact z1, HB.out.trans z2⟩
     case measure => simp [intOf]; omega
   · obtain rfl : k = d.os.length := by omega
     rw [List.take_length] at HO
     go_wp2_with (go_at_call 60; refine (d_made HTR.out).mono ?_; rintro e w' ⟨rfl, n1, rfl⟩)
     go_ret
     exact ⟨_, rfl, HO.out, below_drewN HB.out n1⟩
theorem d_objects (T : DR w d q m) (b : Int) :
   Calls Tryz.prog 91 #[.pointer (some ⟨d.g, 0, none⟩), .int .i64 b] w (RowP w.heap.size w (m.objL b)) := by
 obtain ⟨i0, hi0, hz0, hz1, hz2⟩ := info_parts infoInt
 rw [objL_eq T.lst T.inv]
 obtain ⟨A, cap, hov⟩ := T.o_len
 have hlen := T.len
 have HT := hid T
 have HOV := hid hov
 have HLT := hid T.lt
 clear T hov
 go_enter Tryz.func91, Tryz.ntmps91
 go_wp2
 go_loopw [5, 6] (fun s c wr => ∃ k : Nat, k ≤ d.os.length ∧ c = .int .i64 (k : Int) ∧ wr.ownsRow w.heap.size 3 1 s (adL ((d.os.take k).filter (inBk b))).length (zcells (adL ((d.os.take k).filter (inBk b)))) ∧ Below w.heap.size w wr) (fun _ c _ => d.os.length - (intOf c).toNat)
 case atStart => exact ⟨0, by omega, by simp, ⟨rfl, .inl ⟨rfl, rfl⟩⟩, Below.refl _ _⟩
 case round =>
   obtain ⟨k, hk, rfl, own, hbel⟩ := hrel
   have HTR := hid (HT.out.kp0 (Kp.of_below hbel))
   have hc1 := HTR.out.c1
   rw [HOV.out] at hc1
   have HO := hid own
   have HB := hid hbel
   clear own hbel
   by_cases hlt : k < d.os.length
   · obtain ⟨x, hx⟩ := get_some hlt
     obtain ⟨g, cap', hov', _, _, _, hO, _⟩ := HTR.out.ocell hx
     rw [HOV.out] at hov'
     cases hov'
     have o0 := hO.c0
     have hft := filt_take d.os b k hx
     have hle : (adL ((d.os.take k).filter (inBk b))).length ≤ 5000 := by
       have := List.length_filter_le (inBk b) (d.os.take k)
       simp only [adL, List.length_map, List.length_take] at this ⊢
       omega
     have htd := tdiv_nat64 x.a
     have hob := HTR.out.lst.ob hx
     have hhi := HTR.out.inv.hi hob
     have hnb := HTR.out.inv.n_bd
     have HSZ : Hid (w.heap.size ≤ wr.heap.size) := HB.out.size
     by_cases hbk : (x.a : Int) / 64 = b
     · have hin : inBk b x = true := decide_eq_true hbk
       have HE : Hid (adL ((d.os.take (k + 1)).filter (inBk b)) = adL ((d.os.take k).filter (inBk b)) ++ [(x.a : Int)]) := by
         show _ = _
         rw [hft, hin]
         simp [adL]
       have e1 : ((x.a : Int) / 64 == b) = true := beq_iff_eq.2 hbk
       have HN : Hid _ := one_new wr (x.a : Int)
       have NONE := one_cell (x.a : Int)
       clear hO hx hft hbk hin hob
       go_wp2_with (first
         | (go_at_call 60; refine (d_made HTR.out).mono ?_; rintro e w' ⟨rfl, n1, rfl⟩)
         | (at_builtin; refine wpList_append_own _ rfl (.tmp 31) (.tmp 40) 59 rfl w.heap.size 3 i0 (.int .i64 0) 1 8 Tryz.underlying59 hi0 hz0 hz1 hz2 rfl (by decide) _ _ _ rfl ((show (wr.drewN n1).ownsRow _ _ _ _ _ _ from HO.out).alloc _) ⟨wr.heap.size, 0, none⟩ 1 1 [.int .i64 (x.a : Int)] rfl rfl (HN.out n1) NONE (by unfold maxLen; omega) (by omega) (by have := HSZ.out; simp; omega) ?_; intro v' w1 hown' hgr _; have HO' := hid hown'; have HG := hid hgr; clear hown' hgr))
       go_roundw
       case rel =>
         obtain ⟨z1, z2⟩ := row_end HSZ.out rfl HO.out HO'.out HG.out
         exact ⟨k + 1, by omega, by go_num, by rw [HE.out]; exact z1, HB.out.trans z2⟩
       case measure => simp [intOf]; omega
     · have hin : inBk b x = false := decide_eq_false hbk
       have HE : Hid (adL ((d.os.take (k + 1)).filter (inBk b)) = adL ((d.os.take k).filter (inBk b))) := by
         show _ = _
         rw [hft, hin]
         simp [adL]
       have e1 : ((x.a : Int) / 64 == b) = false := beq_eq_false_iff_ne.2 hbk
       clear hO hx hft hbk hin hob
       go_wp2_with (first
         | (go_at_call 60; refine (d_made HTR.out).mono ?_; rintro e w' ⟨rfl, n1, rfl⟩))
       go_roundw
       case rel => exact ⟨k + 1, by omega, by go_num, by rw [HE.out]; exact HO.out, below_drewN HB.out n1⟩
       case measure => simp [intOf]; omega
   · obtain rfl : k = d.os.length := by omega
     rw [List.take_length] at HO
     go_wp2_with (go_at_call 60; refine (d_made HTR.out).mono ?_; rintro e w' ⟨rfl, n1, rfl⟩)
     go_ret
     exact ⟨_, rfl, HO.out, below_drewN HB.out n1⟩
end
end Go.Proofs.YthndilllnneijaaGreat
