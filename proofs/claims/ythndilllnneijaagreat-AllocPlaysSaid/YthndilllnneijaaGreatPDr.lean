/-
  The contracts of the document's heap's Large, Need, fits. Conditions: those that stand in each theorem.
-/
import Derived.BigQuiet
import Derived.Deep.RegionHeld3
import Derived.Test.YthndilllnneijaaGreatPGE
import Derived.Test.YthndilllnneijaaGreatPG4
set_option linter.unusedSimpArgs false
set_option linter.unusedVariables false
set_option maxRecDepth 100000
set_option maxHeartbeats 4000000
namespace Go.Proofs.YthndilllnneijaaGreat
open Go.RowKit Go.Deep Go.Maps
theorem wordsI_v {r d k : Nat} (h : vldB r d k = true) : wordsI (r : Int) (d : Int) (k : Int) = ((wdN r d : Nat) : Int) := by
 unfold wordsI
 rw [h]
 simp
theorem tk_iff {l : List DO} {m : HM} (L : Lst l m) (I : m.Inv) {own k wd : Nat} (he : k % 2 = 0) (hw : wd % 2 = 0) (hw1 : 1 ≤ wd) : tkB m own k (wd / 2) = true ↔ ∃ x ∈ l, x.a ≠ own ∧ x.a < k + wd ∧ k < x.a + x.o.wd := by
 constructor
 · intro h
   unfold tkB at h
   obtain ⟨i, hi, h1⟩ := List.any_eq_true.1 h
   rw [List.mem_range] at hi
   obtain ⟨h1, h2⟩ := of_decide_eq_true h1
   rcases own_cases I (k + 2 * i) with ⟨a, o, g0, g1, g2, g3⟩ | ⟨g1, g2⟩
   · obtain ⟨x, hx, rfl, rfl⟩ := (L.mem a o).1 g0
     exact ⟨x, hx, by omega, by omega, by omega⟩
   · exact absurd g2 h1
 · rintro ⟨x, hx, h1, h2, h3⟩
   obtain ⟨j, hj⟩ := List.mem_iff_getElem?.1 hx
   have ho := L.ob hj
   have hev := I.even _ _ ho
   have hlo := I.lo ho
   have hwd := (I.ok _ _ ho).wd_bd
   by_cases hc : x.a ≤ k
   · have := own_cov I ho (k := k + 2 * 0) (by omega) (by omega)
     exact tkB_true (i := 0) (by omega) (by omega) (by omega)
   · have h4 : k + 2 * ((x.a - k) / 2) = x.a := by omega
     have := own_cov I ho (k := x.a) (Nat.le_refl _) (by omega)
     exact tkB_true (i := (x.a - k) / 2) (by omega) (by rw [h4]; omega) (by rw [h4]; omega)
section
variable {w w' W : World} {d : DB} {q : Nat} {m : HM}
theorem r_large {r dd kd : Nat} (hv : vldB r dd kd = true) (w : World) :
   Calls Tryz.prog 165 #[.agg #[.int .i64 (r : Int), .int .i64 (dd : Int), .int .i64 (kd : Int)]] w fun e w' => e = .returned (.bool (decide (32 < wdN r dd))) ∧ Kp [] w w' := by
 have B0 := hid (Blk.new w 33 #[.int .i64 (r : Int), .int .i64 (dd : Int), .int .i64 (kd : Int)])
 have hb := Blk.new w 33 #[.int .i64 (r : Int), .int .i64 (dd : Int), .int .i64 (kd : Int)]
 have b0 := hb.cell 0
 have b1 := hb.cell 1
 have b2 := hb.cell 2
 have HW := hid (wordsI_v hv)
 have hbd := vldB_bd hv
 have hw2 := wdN_bd hbd.1 hbd.2.1
 generalize wdN r dd = n at HW hw2 ⊢
 clear hb hv
 go_enter Tryz.func165, Tryz.ntmps165
 go_wp2_with (go_at_call 153; refine (r_words _ _ _ _).mono ?_; rintro e w5 ⟨rfl, K5⟩; rw [HW.out]; have HK5 := hid ((Kp.new _ _).chain K5); clear K5)
 go_ret
 rcases hc : decide (32 < n)
 · have := of_decide_eq_false hc
   exact ⟨by first | rfl | (simp; omega), HK5.out⟩
 · have := of_decide_eq_true hc
   exact ⟨by first | rfl | (simp; omega), HK5.out⟩
theorem r_need {r dd kd : Nat} (hv : vldB r dd kd = true) (w : World) :
   Calls Tryz.prog 166 #[.agg #[.int .i64 (r : Int), .int .i64 (dd : Int), .int .i64 (kd : Int)]] w fun e w' => e = .returned (.int .i64 (((wdN r dd + 63) / 64 : Nat) : Int)) ∧ Kp [] w w' := by
 have hb := Blk.new w 33 #[.int .i64 (r : Int), .int .i64 (dd : Int), .int .i64 (kd : Int)]
 have b0 := hb.cell 0
 have b1 := hb.cell 1
 have b2 := hb.cell 2
 have HW := hid (wordsI_v hv)
 have hbd := vldB_bd hv
 have hw2 := wdN_bd hbd.1 hbd.2.1
 generalize wdN r dd = n at HW hw2 ⊢
 have hn1 : ((n : Int) + 64 - 1) / 64 = (((n + 63) / 64 : Nat) : Int) := by omega
 clear hb hv
 go_enter Tryz.func166, Tryz.ntmps166
 go_wp2_with (go_at_call 153; refine (r_words _ _ _ _).mono ?_; rintro e w5 ⟨rfl, K5⟩; rw [HW.out]; have HK5 := hid ((Kp.new _ _).chain K5); clear K5)
 go_ret
 refine ⟨?_, HK5.out⟩
 show Ending.returned (Value.int .i64 (((n : Int) + 64 - 1) / 64)) = _
 rw [hn1]
structure FX (W : World) (gb gs : Nat) (x : DO) (r dd kd : Nat) : Prop where
 b0 : W.cell? ⟨gb, 0, none⟩ = some (.int .i64 (x.a : Int))
 b1 : W.cell? ⟨gb, 1, none⟩ = some (.int .i64 (x.o.id : Int))
 b2 : W.cell? ⟨gb, 2, none⟩ = some (.int .i64 (x.o.refs : Int))
 b3 : W.cell? ⟨gb, 3, none⟩ = some (.int .i64 (x.o.data : Int))
 b4 : W.cell? ⟨gb, 4, none⟩ = some (.int .i64 (x.o.kind : Int))
 s0 : W.cell? ⟨gs, 0, none⟩ = some (.int .i64 (r : Int))
 s1 : W.cell? ⟨gs, 1, none⟩ = some (.int .i64 (dd : Int))
 s2 : W.cell? ⟨gs, 2, none⟩ = some (.int .i64 (kd : Int))
theorem FX.kp0 {gb gs : Nat} {x : DO} {r dd kd : Nat} (h : FX w gb gs x r dd kd) (k : Kp [] w W) : FX W gb gs x r dd kd :=
 ⟨cell_kp k h.b0, cell_kp k h.b1, cell_kp k h.b2, cell_kp k h.b3, cell_kp k h.b4, cell_kp k h.s0, cell_kp k h.s1, cell_kp k h.s2⟩
theorem d_fits (T : DR w d q m) (a : Int) (ha : W64 a) {r dd kd : Nat} (hv : vldB r dd kd = true) (but own : Nat) (hbo : ∀ a o, m.ob a = some o → (o.id ≠ but ↔ a ≠ own)) :
   Calls Tryz.prog 137 #[.pointer (some ⟨d.g, 0, none⟩), .int .i64 a, .agg #[.int .i64 (r : Int), .int .i64 (dd : Int), .int .i64 (kd : Int)], .int .i64 (but : Int)] w fun e w' => e = .returned (.int .i64 (roomE m a (wdN r dd) own)) ∧ Kp [] w w' := by
 have HT := hid T
 have HB0 := hid (Blk.new w 33 #[.int .i64 (r : Int), .int .i64 (dd : Int), .int .i64 (kd : Int)])
 have HK0 := hid (Kp.new w (.cells #[.int .i64 (r : Int), .int .i64 (dd : Int), .int .i64 (kd : Int)] 33))
 have hnb := T.inv.n_bd
 have hn : m.n = 64 * m.bl.length := rfl
 obtain ⟨l1, l2, l3, l4⟩ := T.n_bd
 unfold maxLen at l4
 have hlen := T.len
 have hz : (m.bl.length : Int) * 64 = (m.n : Int) := by rw [hn]; omega
 have hc0 := cell_kp HK0.out T.c0
 have hbb := HB0.out
 have s0 := hbb.cell 0
 have s1 := hbb.cell 1
 have s2 := hbb.cell 2
 obtain ⟨ha1, ha2⟩ := ha
 by_cases h0 : 0 ≤ a
 · have e0 : decide (a < 0) = false := decide_eq_false (by omega)
   by_cases h2 : a % 2 = 0
   · have e2 : (a % 2 != 0) = false := by rw [bne_eq_false_iff_eq]; exact h2
     by_cases h3 : a < (m.n : Int)
     · obtain ⟨k, rfl⟩ : ∃ k : Nat, a = (k : Int) := ⟨a.toNat, by omega⟩
       have er : roomE m (k : Int) (wdN r dd) own = (if suitB m.bl k (wdN r dd) then tkE m own k (wdN r dd / 2) else 5) := by
         unfold roomE; rw [if_pos ⟨h0, h2, h3⟩, Int.toNat_natCast]
       rw [er]
       have e3 : decide ((m.bl.length : Int) * 64 ≤ (k : Int)) = false := decide_eq_false (by rw [hz]; omega)
       have HWP := hid (wordsI_v hv)
       have hbd := vldB_bd hv
       have hw2 := wdN_bd hbd.1 hbd.2.1
       have HLG := hid (fun w => r_large hv w)
       have HND := hid (fun w => r_need hv w)
       generalize hnn : wdN r dd = n at HWP hw2 HLG HND ⊢
       generalize hnd : (n + 63) / 64 = nd at HND
       have hnd2 : nd ≤ 100 := by omega
       have HE2 : Hid (k % 2 = 0) := by show _ = _; omega
       have HE3 : Hid (n % 2 = 0) := hw2.2.2.1
       have HE4 : Hid (1 ≤ n) := by show _ ≤ _; omega
       obtain ⟨p, hp⟩ : ∃ p, p = k / 64 := ⟨_, rfl⟩
       have hpk : (k : Int) / 64 = (p : Int) := by omega
       have hpl : p < m.bl.length := by omega
       have hst := T.stc hpl
       have HSU : Hid (suitB m.bl k n = if n ≤ 32 then decide ((m.bl.getD p (0, 0)).1 = 1 ∧ k % 64 + n ≤ 64) else decide ((m.bl.getD p (0, 0)).1 = 2 ∧ k % 64 = 0 ∧ grpEnd m.bl p - p = nd)) := by show _ = _; rw [hp, ← hnd]; rfl
       have HPL := hid hpl
       have HPP := hid hp
       have HBO := hid hbo
       obtain ⟨A, cap, hov⟩ := T.o_len
       have HOV := hid hov
       have HKS : Hid (Kp [] (w.alloc (.cells #[.int .i64 (r : Int), .int .i64 (dd : Int), .int .i64 (kd : Int)] 33)) (w.alloc (.cells #[.int .i64 (r : Int), .int .i64 (dd : Int), .int .i64 (kd : Int)] 33))) := Kp.refl _ _
       by_cases hlg : n ≤ 32
       · have e4 : decide (32 < n) = false := decide_eq_false (by omega)
         have HLGF := hid e4
         by_cases hst1 : (m.bl.getD p (0, 0)).1 = 1
         · rw [hst1] at hst
           by_cases hfit : k % 64 + n ≤ 64
           · have HS := HSU.out
             rw [if_pos hlg, decide_eq_true ⟨hst1, hfit⟩] at HS
             rw [HS, if_pos rfl]
             have e7 : (((k : Int) + (n : Int) - 1) / 64 != (p : Int)) = false := by rw [bne_eq_false_iff_eq]; omega
             have HSTC := hid hst
             have HTC := hid hc0
             have HNDD := hid hnd
             clear T hbo hv er HS HSU hz h0 h2 h3 hp hov hbb hnd
             go_enter Tryz.func137, Tryz.ntmps137
             go_wp2_with (first
               | (go_at_call 165; refine (HLG.out _).mono ?_; rintro e w3 ⟨rfl, K3⟩; rw [HLGF.out]; have HKL0 := hid K3; have hkl : Kp [] w w3 := HK0.out.chain K3; have HKL := hid hkl; have z0 := cell_kp K3 HTC.out; have z1 := cell_kp hkl HSTC.out; have y0 := cell_kp K3 (HB0.out.cell 0); have y1 := cell_kp K3 (HB0.out.cell 1); have y2 := cell_kp K3 (HB0.out.cell 2); clear K3 hkl)
               | (go_at_call 153; refine (r_words _ _ _ _).mono ?_; rintro e w4 ⟨rfl, K4⟩; rw [HWP.out]; have HKQ := hid (HKL.out.chain K4); have HKS := hid (HKL0.out.chain K4); clear K4))
             go_loopw [10] (fun c wr => ∃ i : Nat, i ≤ d.os.length ∧ Hid (∀ j, j < i → ∀ y, d.os[j]? = some y → ¬ (y.a ≠ own ∧ y.a < k + n ∧ k < y.a + y.o.wd)) ∧ c = .int .i64 (i : Int) ∧ Kp [] (w.alloc (.cells #[.int .i64 (r : Int), .int .i64 (dd : Int), .int .i64 (kd : Int)] 33)) wr) (fun c _ => d.os.length - (intOf c).toNat)
             case atStart => exact ⟨0, by omega, (fun j h => absurd h (by omega)), by go_num, HKS.out⟩
             case round =>
               obtain ⟨i, hi, HK, rfl, K⟩ := hrel
               have HKW := hid K
               have HKX : Hid (Kp [] w wr) := HK0.out.chain K
               have HTR := hid (HT.out.kp0 HKX.out)
               have hc1 := HTR.out.c1
               rw [HOV.out] at hc1
               clear K
               by_cases hlt : i < d.os.length
               · obtain ⟨x, hx⟩ := get_some hlt
                 obtain ⟨go, cap', hov', _, _, _, hO, _⟩ := HTR.out.ocell hx
                 rw [HOV.out] at hov'
                 cases hov'
                 have o0 := hO.c0
                 have o1 := hO.c1
                 have o2 := hO.c2
                 have o3 := hO.c3
                 have o4 := hO.c4
                 have o5 := hO.c5
                 have o6 := hO.c6
                 have o7 := hO.c7
                 have hob := HT.out.lst.ob hx
                 have hok := HT.out.inv.ok _ _ hob
                 have hhi := HT.out.inv.hi hob
                 have hwd := hok.wd_bd
                 have HWX := hid (wordsI_ok hok)
                 have hne : (x.o.id ≠ but) ↔ (x.a ≠ own) := HBO.out x.a x.o hob
                 have HX := hid hx
                 have qk : IntKind.i64.wrap ((k : Int) + (n : Int)) = (k : Int) + (n : Int) := by rw [IntKind.wrap_i64]; omega
                 have qx : IntKind.i64.wrap ((x.a : Int) + (x.o.wd : Int)) = (x.a : Int) + (x.o.wd : Int) := by rw [IntKind.wrap_i64]; omega
                 clear hO hob hok
                 by_cases c1 : x.o.id = but
                 · have e1 : ((x.o.id : Int) != (but : Int)) = false := by rw [bne_eq_false_iff_eq]; omega
                   have HK' : Hid (∀ j, j < i + 1 → ∀ y, d.os[j]? = some y → ¬ (y.a ≠ own ∧ y.a < k + n ∧ k < y.a + y.o.wd)) := fun j h1 y hy => by
                     by_cases hj : j < i
                     · exact HK.out j hj y hy
                     · obtain rfl : j = i := by omega
                       rw [HX.out] at hy
                       cases hy
                       exact fun h => hne.2 h.1 c1
                   clear c1 hne hx
                   have HBN := hid (Blk.new wr 109 #[.int .i64 0, .int .i64 0, .int .i64 0, .int .i64 0, .int .i64 0, .slice none 0 0, .slice none 0 0, .bool false])
                   obtain ⟨hth, hkb, hrb⟩ := obox_any (w := wr) (g := wr.heap.size) HBN.out (Kp.new _ _) (Nat.le_refl _) #[.int .i64 (x.a : Int), .int .i64 (x.o.id : Int), .int .i64 (x.o.refs : Int), .int .i64 (x.o.data : Int), .int .i64 (x.o.kind : Int), .slice (some ⟨x.rb, 0, none⟩) x.o.refs x.rc, .slice (some ⟨x.db, 0, none⟩) x.o.data x.dc, .bool x.o.pin] rfl
                   have HTH := hid hth
                   have HKB := hid hkb
                   have HRB := hid hrb
                   clear hth hkb hrb
                   go_wp2_with (refine wpList_store_mid (by rfl) 109 (.tmp 11) (.tmp 89) (by rfl) wr.heap.size 0 #[.int .i64 (x.a : Int), .int .i64 (x.o.id : Int), .int .i64 (x.o.refs : Int), .int .i64 (x.o.data : Int), .int .i64 (x.o.kind : Int), .slice (some ⟨x.rb, 0, none⟩) x.o.refs x.rc, .slice (some ⟨x.db, 0, none⟩) x.o.data x.dc, .bool x.o.pin] (by rfl) (by rfl) HTH.out objInfo (objOne x) ?_)
                   generalize hW5 : (wr.alloc (.cells #[.int .i64 0, .int .i64 0, .int .i64 0, .int .i64 0, .int .i64 0, .slice none 0 0, .slice none 0 0, .bool false] 109)).setCells wr.heap.size 0 (#[.int .i64 (x.a : Int), .int .i64 (x.o.id : Int), .int .i64 (x.o.refs : Int), .int .i64 (x.o.data : Int), .int .i64 (x.o.kind : Int), .slice (some ⟨x.rb, 0, none⟩) x.o.refs x.rc, .slice (some ⟨x.db, 0, none⟩) x.o.data x.dc, .bool x.o.pin] : Array Value).toList = w5 at HKB HRB ⊢
                   generalize hgb : wr.heap.size = gb at HRB ⊢
                   have hrb := HRB.out
                   have hbp := (HB0.out.kp (HKW.out.chain HKB.out) (by simp))
                   have HFX : Hid (FX w5 gb w.heap.size x r dd kd) := ⟨hrb 0 _ rfl, hrb 1 _ rfl, hrb 2 _ rfl, hrb 3 _ rfl, hrb 4 _ rfl, hbp.cell 0, hbp.cell 1, hbp.cell 2⟩
                   clear hrb hbp HRB HTH hW5 hgb
                   have f0 := HFX.out.b0
                   have f1 := HFX.out.b1
                   go_wp2_with (fail)
                   go_quiet (fail)
                   go_wp2
                   go_roundw
                   case rel => first | exact ⟨i + 1, by omega, HK', by go_num, by first | exact (HKW.out.chain HKB.out).drewN _ | exact HKW.out.chain HKB.out | exact kp_drew (HKW.out.chain HKB.out)⟩ | ((repeat apply Exists.intro); exact ⟨⟨i + 1, by omega, HK', by go_num, by first | exact (HKW.out.chain HKB.out).drewN _ | exact HKW.out.chain HKB.out | exact kp_drew (HKW.out.chain HKB.out)⟩, rfl⟩)
                   case measure => simp [intOf]; omega
                 · have e1 : ((x.o.id : Int) != (but : Int)) = true := bne_iff_ne.2 (by omega)
                   have hown : x.a ≠ own := hne.1 c1
                   by_cases c2 : x.a < k + n
                   · have e2 : decide ((x.a : Int) < (k : Int) + (n : Int)) = true := decide_eq_true (by omega)
                     by_cases c3 : k < x.a + x.o.wd
                     · have e3 : decide ((k : Int) < (x.a : Int) + (x.o.wd : Int)) = true := decide_eq_true (by omega)
                       have HZ : Hid (tkE m own k (n / 2) = 8) := by
                         show _ = _
                         unfold tkE
                         rw [if_pos ((tk_iff HT.out.lst HT.out.inv HE2.out HE3.out HE4.out).2 ⟨x, List.mem_of_getElem? HX.out, hown, c2, c3⟩)]
                       clear c1 c2 c3 hne hx hown
                       have HBN := hid (Blk.new wr 109 #[.int .i64 0, .int .i64 0, .int .i64 0, .int .i64 0, .int .i64 0, .slice none 0 0, .slice none 0 0, .bool false])
                       obtain ⟨hth, hkb, hrb⟩ := obox_any (w := wr) (g := wr.heap.size) HBN.out (Kp.new _ _) (Nat.le_refl _) #[.int .i64 (x.a : Int), .int .i64 (x.o.id : Int), .int .i64 (x.o.refs : Int), .int .i64 (x.o.data : Int), .int .i64 (x.o.kind : Int), .slice (some ⟨x.rb, 0, none⟩) x.o.refs x.rc, .slice (some ⟨x.db, 0, none⟩) x.o.data x.dc, .bool x.o.pin] rfl
                       have HTH := hid hth
                       have HKB := hid hkb
                       have HRB := hid hrb
                       clear hth hkb hrb
                       go_wp2_with (refine wpList_store_mid (by rfl) 109 (.tmp 11) (.tmp 89) (by rfl) wr.heap.size 0 #[.int .i64 (x.a : Int), .int .i64 (x.o.id : Int), .int .i64 (x.o.refs : Int), .int .i64 (x.o.data : Int), .int .i64 (x.o.kind : Int), .slice (some ⟨x.rb, 0, none⟩) x.o.refs x.rc, .slice (some ⟨x.db, 0, none⟩) x.o.data x.dc, .bool x.o.pin] (by rfl) (by rfl) HTH.out objInfo (objOne x) ?_)
                       generalize hW5 : (wr.alloc (.cells #[.int .i64 0, .int .i64 0, .int .i64 0, .int .i64 0, .int .i64 0, .slice none 0 0, .slice none 0 0, .bool false] 109)).setCells wr.heap.size 0 (#[.int .i64 (x.a : Int), .int .i64 (x.o.id : Int), .int .i64 (x.o.refs : Int), .int .i64 (x.o.data : Int), .int .i64 (x.o.kind : Int), .slice (some ⟨x.rb, 0, none⟩) x.o.refs x.rc, .slice (some ⟨x.db, 0, none⟩) x.o.data x.dc, .bool x.o.pin] : Array Value).toList = w5 at HKB HRB ⊢
                       generalize hgb : wr.heap.size = gb at HRB ⊢
                       have hrb := HRB.out
                       have hbp := (HB0.out.kp (HKW.out.chain HKB.out) (by simp))
                       have HFX : Hid (FX w5 gb w.heap.size x r dd kd) := ⟨hrb 0 _ rfl, hrb 1 _ rfl, hrb 2 _ rfl, hrb 3 _ rfl, hrb 4 _ rfl, hbp.cell 0, hbp.cell 1, hbp.cell 2⟩
                       clear hrb hbp HRB HTH hW5 hgb
                       go_wp2_with (fail)
                       refine wp_region_held_drew (S := fun W => FX W gb w.heap.size x r dd kd) (by kernel_rfl) ?_ (fun hHeld => ?_)
                       · exact HFX.out.kp0 (Kp.draw _ 1)
                       refine tk0 0 rfl ?_
                       try simp only [ly, Act.put]
                       refine tk 1 rfl (Or.inl ⟨by rfl, by (intro wz hSw; have hcj := hSw.b1; go_simp; try with_reducible rfl)⟩) ?_
                       try simp only [ly, Act.put]
                       refine tk0 2 rfl ?_
                       try simp only [ly, Act.put]
                       refine tk0 3 rfl ?_
                       try simp only [ly, Act.put]
                       refine tk0 4 rfl ?_
                       try simp only [ly, Act.put]
                       refine tk0 5 rfl ?_
                       try simp only [ly, Act.put]
                       refine tk 6 rfl (Or.inl ⟨by rfl, by (intro wz hSw; have hcj := hSw.b0; go_simp; try with_reducible rfl)⟩) ?_
                       try simp only [ly, Act.put]
                       refine tk0 7 rfl ?_
                       try simp only [ly, Act.put]
                       refine tk 8 rfl (Or.inl ⟨by rfl, by (intro wz hSw; have k0 := hSw.s0; have k1 := hSw.s1; have k2 := hSw.s2; go_simp; try with_reducible rfl)⟩) ?_
                       try simp only [ly, Act.put]
                       refine rd 9 rfl fun K hK => ?_
                       go_simp
                       refine (r_words _ _ _ _).mono ?_
                       rintro e w6 ⟨rfl, K6⟩
                       rw [HWP.out]
                       have HK6 := hid K6
                       clear K6
                       try go_wp2_with fail
                       refine hK.out _ _ ?_ (fun hHeld => ?_)
                       · exact hHeld.kp0 HK6.out
                       clear hK K
                       refine tk0 10 rfl ?_
                       try simp only [ly, Act.put]
                       refine tk0 11 rfl ?_
                       try simp only [ly, Act.put]
                       refine tk0 12 rfl ?_
                       try simp only [ly, Act.put]
                       refine tk0 13 rfl ?_
                       try simp only [ly, Act.put]
                       refine tk0 14 rfl ?_
                       try simp only [ly, Act.put]
                       refine tk0 15 rfl ?_
                       try simp only [ly, Act.put]
                       refine tk 16 rfl (Or.inl ⟨by rfl, by (intro wz hSw; have hcj := hSw.b0; go_simp; try with_reducible rfl)⟩) ?_
                       try simp only [ly, Act.put]
                       refine tk0 17 rfl ?_
                       try simp only [ly, Act.put]
                       refine tk 18 rfl (Or.inl ⟨by rfl, by (intro wz hSw; have k0 := hSw.b2; have k1 := hSw.b3; have k2 := hSw.b4; go_simp; try with_reducible rfl)⟩) ?_
                       try simp only [ly, Act.put]
                       refine rd 19 rfl fun K hK => ?_
                       go_simp
                       refine (r_words _ _ _ _).mono ?_
                       rintro e w7 ⟨rfl, K7⟩
                       rw [HWX.out]
                       have HK7 := hid K7
                       clear K7
                       try go_wp2_with fail
                       refine hK.out _ _ ?_ (fun hHeld => ?_)
                       · exact hHeld.kp0 HK7.out
                       clear hK K
                       refine tk0 20 rfl ?_
                       try simp only [ly, Act.put]
                       refine tk0 21 rfl ?_
                       try simp only [ly, Act.put]
                       refine tk0 22 rfl ?_
                       try simp only [ly, Act.put]
                       refine wpAnyH_done (by kernel_rfl) ?_ _
                       clear hHeld
                       go_wp2
                       go_ret
                       rw [HZ.out]
                       exact ⟨rfl, HK0.out.chain ((((HKW.out.chain HKB.out).chain (Kp.draw _ 1)).chain HK6.out).chain HK7.out)⟩
                     · have e3 : decide ((k : Int) < (x.a : Int) + (x.o.wd : Int)) = false := decide_eq_false (by omega)
                       have HK' : Hid (∀ j, j < i + 1 → ∀ y, d.os[j]? = some y → ¬ (y.a ≠ own ∧ y.a < k + n ∧ k < y.a + y.o.wd)) := fun j h1 y hy => by
                         by_cases hj : j < i
                         · exact HK.out j hj y hy
                         · obtain rfl : j = i := by omega
                           rw [HX.out] at hy
                           cases hy
                           omega
                       clear c1 c2 c3 hne hx hown
                       have HBN := hid (Blk.new wr 109 #[.int .i64 0, .int .i64 0, .int .i64 0, .int .i64 0, .int .i64 0, .slice none 0 0, .slice none 0 0, .bool false])
                       obtain ⟨hth, hkb, hrb⟩ := obox_any (w := wr) (g := wr.heap.size) HBN.out (Kp.new _ _) (Nat.le_refl _) #[.int .i64 (x.a : Int), .int .i64 (x.o.id : Int), .int .i64 (x.o.refs : Int), .int .i64 (x.o.data : Int), .int .i64 (x.o.kind : Int), .slice (some ⟨x.rb, 0, none⟩) x.o.refs x.rc, .slice (some ⟨x.db, 0, none⟩) x.o.data x.dc, .bool x.o.pin] rfl
                       have HTH := hid hth
                       have HKB := hid hkb
                       have HRB := hid hrb
                       clear hth hkb hrb
                       go_wp2_with (refine wpList_store_mid (by rfl) 109 (.tmp 11) (.tmp 89) (by rfl) wr.heap.size 0 #[.int .i64 (x.a : Int), .int .i64 (x.o.id : Int), .int .i64 (x.o.refs : Int), .int .i64 (x.o.data : Int), .int .i64 (x.o.kind : Int), .slice (some ⟨x.rb, 0, none⟩) x.o.refs x.rc, .slice (some ⟨x.db, 0, none⟩) x.o.data x.dc, .bool x.o.pin] (by rfl) (by rfl) HTH.out objInfo (objOne x) ?_)
                       generalize hW5 : (wr.alloc (.cells #[.int .i64 0, .int .i64 0, .int .i64 0, .int .i64 0, .int .i64 0, .slice none 0 0, .slice none 0 0, .bool false] 109)).setCells wr.heap.size 0 (#[.int .i64 (x.a : Int), .int .i64 (x.o.id : Int), .int .i64 (x.o.refs : Int), .int .i64 (x.o.data : Int), .int .i64 (x.o.kind : Int), .slice (some ⟨x.rb, 0, none⟩) x.o.refs x.rc, .slice (some ⟨x.db, 0, none⟩) x.o.data x.dc, .bool x.o.pin] : Array Value).toList = w5 at HKB HRB ⊢
                       generalize hgb : wr.heap.size = gb at HRB ⊢
                       have hrb := HRB.out
                       have hbp := (HB0.out.kp (HKW.out.chain HKB.out) (by simp))
                       have HFX : Hid (FX w5 gb w.heap.size x r dd kd) := ⟨hrb 0 _ rfl, hrb 1 _ rfl, hrb 2 _ rfl, hrb 3 _ rfl, hrb 4 _ rfl, hbp.cell 0, hbp.cell 1, hbp.cell 2⟩
                       clear hrb hbp HRB HTH hW5 hgb
                       go_wp2_with (fail)
                       refine wp_region_held_drew (S := fun W => FX W gb w.heap.size x r dd kd) (by kernel_rfl) ?_ (fun hHeld => ?_)
                       · exact HFX.out.kp0 (Kp.draw _ 1)
                       refine tk0 0 rfl ?_
                       try simp only [ly, Act.put]
                       refine tk 1 rfl (Or.inl ⟨by rfl, by (intro wz hSw; have hcj := hSw.b1; go_simp; try with_reducible rfl)⟩) ?_
                       try simp only [ly, Act.put]
                       refine tk0 2 rfl ?_
                       try simp only [ly, Act.put]
                       refine tk0 3 rfl ?_
                       try simp only [ly, Act.put]
                       refine tk0 4 rfl ?_
                       try simp only [ly, Act.put]
                       refine tk0 5 rfl ?_
                       try simp only [ly, Act.put]
                       refine tk 6 rfl (Or.inl ⟨by rfl, by (intro wz hSw; have hcj := hSw.b0; go_simp; try with_reducible rfl)⟩) ?_
                       try simp only [ly, Act.put]
                       refine tk0 7 rfl ?_
                       try simp only [ly, Act.put]
                       refine tk 8 rfl (Or.inl ⟨by rfl, by (intro wz hSw; have k0 := hSw.s0; have k1 := hSw.s1; have k2 := hSw.s2; go_simp; try with_reducible rfl)⟩) ?_
                       try simp only [ly, Act.put]
                       refine rd 9 rfl fun K hK => ?_
                       go_simp
                       refine (r_words _ _ _ _).mono ?_
                       rintro e w6 ⟨rfl, K6⟩
                       rw [HWP.out]
                       have HK6 := hid K6
                       clear K6
                       try go_wp2_with fail
                       refine hK.out _ _ ?_ (fun hHeld => ?_)
                       · exact hHeld.kp0 HK6.out
                       clear hK K
                       refine tk0 10 rfl ?_
                       try simp only [ly, Act.put]
                       refine tk0 11 rfl ?_
                       try simp only [ly, Act.put]
                       refine tk0 12 rfl ?_
                       try simp only [ly, Act.put]
                       refine tk0 13 rfl ?_
                       try simp only [ly, Act.put]
                       refine tk0 14 rfl ?_
                       try simp only [ly, Act.put]
                       refine tk0 15 rfl ?_
                       try simp only [ly, Act.put]
                       refine tk 16 rfl (Or.inl ⟨by rfl, by (intro wz hSw; have hcj := hSw.b0; go_simp; try with_reducible rfl)⟩) ?_
                       try simp only [ly, Act.put]
                       refine tk0 17 rfl ?_
                       try simp only [ly, Act.put]
                       refine tk 18 rfl (Or.inl ⟨by rfl, by (intro wz hSw; have k0 := hSw.b2; have k1 := hSw.b3; have k2 := hSw.b4; go_simp; try with_reducible rfl)⟩) ?_
                       try simp only [ly, Act.put]
                       refine rd 19 rfl fun K hK => ?_
                       go_simp
                       refine (r_words _ _ _ _).mono ?_
                       rintro e w7 ⟨rfl, K7⟩
                       rw [HWX.out]
                       have HK7 := hid K7
                       clear K7
                       try go_wp2_with fail
                       refine hK.out _ _ ?_ (fun hHeld => ?_)
                       · exact hHeld.kp0 HK7.out
                       clear hK K
                       refine tk0 20 rfl ?_
                       try simp only [ly, Act.put]
                       refine tk0 21 rfl ?_
                       try simp only [ly, Act.put]
                       refine tk0 22 rfl ?_
                       try simp only [ly, Act.put]
                       refine wpAnyH_done (by kernel_rfl) ?_ _
                       clear hHeld
                       go_wp2
                       go_roundw
                       case rel => first | exact ⟨i + 1, by omega, HK', by go_num, (((HKW.out.chain HKB.out).chain (Kp.draw _ 1)).chain HK6.out).chain HK7.out⟩ | ((repeat apply Exists.intro); exact ⟨⟨i + 1, by omega, HK', by go_num, (((HKW.out.chain HKB.out).chain (Kp.draw _ 1)).chain HK6.out).chain HK7.out⟩, rfl⟩)
                       case measure => simp [intOf]; omega
                   · have e2 : decide ((x.a : Int) < (k : Int) + (n : Int)) = false := decide_eq_false (by omega)
                     have HK' : Hid (∀ j, j < i + 1 → ∀ y, d.os[j]? = some y → ¬ (y.a ≠ own ∧ y.a < k + n ∧ k < y.a + y.o.wd)) := fun j h1 y hy => by
                       by_cases hj : j < i
                       · exact HK.out j hj y hy
                       · obtain rfl : j = i := by omega
                         rw [HX.out] at hy
                         cases hy
                         omega
                     clear c1 c2 hne hx hown
                     have HBN := hid (Blk.new wr 109 #[.int .i64 0, .int .i64 0, .int .i64 0, .int .i64 0, .int .i64 0, .slice none 0 0, .slice none 0 0, .bool false])
                     obtain ⟨hth, hkb, hrb⟩ := obox_any (w := wr) (g := wr.heap.size) HBN.out (Kp.new _ _) (Nat.le_refl _) #[.int .i64 (x.a : Int), .int .i64 (x.o.id : Int), .int .i64 (x.o.refs : Int), .int .i64 (x.o.data : Int), .int .i64 (x.o.kind : Int), .slice (some ⟨x.rb, 0, none⟩) x.o.refs x.rc, .slice (some ⟨x.db, 0, none⟩) x.o.data x.dc, .bool x.o.pin] rfl
                     have HTH := hid hth
                     have HKB := hid hkb
                     have HRB := hid hrb
                     clear hth hkb hrb
                     go_wp2_with (refine wpList_store_mid (by rfl) 109 (.tmp 11) (.tmp 89) (by rfl) wr.heap.size 0 #[.int .i64 (x.a : Int), .int .i64 (x.o.id : Int), .int .i64 (x.o.refs : Int), .int .i64 (x.o.data : Int), .int .i64 (x.o.kind : Int), .slice (some ⟨x.rb, 0, none⟩) x.o.refs x.rc, .slice (some ⟨x.db, 0, none⟩) x.o.data x.dc, .bool x.o.pin] (by rfl) (by rfl) HTH.out objInfo (objOne x) ?_)
                     generalize hW5 : (wr.alloc (.cells #[.int .i64 0, .int .i64 0, .int .i64 0, .int .i64 0, .int .i64 0, .slice none 0 0, .slice none 0 0, .bool false] 109)).setCells wr.heap.size 0 (#[.int .i64 (x.a : Int), .int .i64 (x.o.id : Int), .int .i64 (x.o.refs : Int), .int .i64 (x.o.data : Int), .int .i64 (x.o.kind : Int), .slice (some ⟨x.rb, 0, none⟩) x.o.refs x.rc, .slice (some ⟨x.db, 0, none⟩) x.o.data x.dc, .bool x.o.pin] : Array Value).toList = w5 at HKB HRB ⊢
                     generalize hgb : wr.heap.size = gb at HRB ⊢
                     have hrb := HRB.out
                     have hbp := (HB0.out.kp (HKW.out.chain HKB.out) (by simp))
                     have HFX : Hid (FX w5 gb w.heap.size x r dd kd) := ⟨hrb 0 _ rfl, hrb 1 _ rfl, hrb 2 _ rfl, hrb 3 _ rfl, hrb 4 _ rfl, hbp.cell 0, hbp.cell 1, hbp.cell 2⟩
                     clear hrb hbp HRB HTH hW5 hgb
                     go_wp2_with (fail)
                     refine wp_region_held_drew (S := fun W => FX W gb w.heap.size x r dd kd) (by kernel_rfl) ?_ (fun hHeld => ?_)
                     · exact HFX.out.kp0 (Kp.draw _ 1)
                     refine tk0 0 rfl ?_
                     try simp only [ly, Act.put]
                     refine tk 1 rfl (Or.inl ⟨by rfl, by (intro wz hSw; have hcj := hSw.b1; go_simp; try with_reducible rfl)⟩) ?_
                     try simp only [ly, Act.put]
                     refine tk0 2 rfl ?_
                     try simp only [ly, Act.put]
                     refine tk0 3 rfl ?_
                     try simp only [ly, Act.put]
                     refine tk0 4 rfl ?_
                     try simp only [ly, Act.put]
                     refine tk0 5 rfl ?_
                     try simp only [ly, Act.put]
                     refine tk 6 rfl (Or.inl ⟨by rfl, by (intro wz hSw; have hcj := hSw.b0; go_simp; try with_reducible rfl)⟩) ?_
                     try simp only [ly, Act.put]
                     refine tk0 7 rfl ?_
                     try simp only [ly, Act.put]
                     refine tk 8 rfl (Or.inl ⟨by rfl, by (intro wz hSw; have k0 := hSw.s0; have k1 := hSw.s1; have k2 := hSw.s2; go_simp; try with_reducible rfl)⟩) ?_
                     try simp only [ly, Act.put]
                     refine rd 9 rfl fun K hK => ?_
                     go_simp
                     refine (r_words _ _ _ _).mono ?_
                     rintro e w6 ⟨rfl, K6⟩
                     rw [HWP.out]
                     have HK6 := hid K6
                     clear K6
                     try go_wp2_with fail
                     refine hK.out _ _ ?_ (fun hHeld => ?_)
                     · exact hHeld.kp0 HK6.out
                     clear hK K
                     refine tk0 10 rfl ?_
                     try simp only [ly, Act.put]
                     refine tk0 11 rfl ?_
                     try simp only [ly, Act.put]
                     refine tk0 12 rfl ?_
                     try simp only [ly, Act.put]
                     refine tk0 13 rfl ?_
                     try simp only [ly, Act.put]
                     refine tku 14 rfl ?_
                     try simp only [ly, Act.put]
                     refine tku 15 rfl ?_
                     try simp only [ly, Act.put]
                     refine tku 16 rfl ?_
                     try simp only [ly, Act.put]
                     refine tku 17 rfl ?_
                     try simp only [ly, Act.put]
                     refine tku 18 rfl ?_
                     try simp only [ly, Act.put]
                     refine tku 19 rfl ?_
                     try simp only [ly, Act.put]
                     refine tku 20 rfl ?_
                     try simp only [ly, Act.put]
                     refine tku 21 rfl ?_
                     try simp only [ly, Act.put]
                     refine tk0 22 rfl ?_
                     try simp only [ly, Act.put]
                     refine wpAnyH_done (by kernel_rfl) ?_ _
                     clear hHeld
                     go_wp2
                     go_roundw
                     case rel => first | exact ⟨i + 1, by omega, HK', by go_num, ((HKW.out.chain HKB.out).chain (Kp.draw _ 1)).chain HK6.out⟩ | ((repeat apply Exists.intro); exact ⟨⟨i + 1, by omega, HK', by go_num, ((HKW.out.chain HKB.out).chain (Kp.draw _ 1)).chain HK6.out⟩, rfl⟩)
                     case measure => simp [intOf]; omega
               · obtain rfl : i = d.os.length := by omega
                 have HZ : Hid (tkE m own k (n / 2) = 0) := by
                   show _ = _
                   unfold tkE
                   rw [if_neg]
                   intro h
                   obtain ⟨x, hx, h1⟩ := (tk_iff HT.out.lst HT.out.inv HE2.out HE3.out HE4.out).1 h
                   obtain ⟨j, hj⟩ := List.mem_iff_getElem?.1 hx
                   exact HK.out j (List.getElem?_eq_some_iff.1 hj).1 x hj h1
                 go_wp2
                 go_ret
                 rw [HZ.out]
                 exact ⟨rfl, HKX.out⟩
           · have HS := HSU.out
             rw [if_pos hlg, decide_eq_false (fun h => hfit h.2)] at HS
             rw [HS, if_neg (by simp)]
             have e7 : (((k : Int) + (n : Int) - 1) / 64 != (p : Int)) = true := bne_iff_ne.2 (by omega)
             have HSTC := hid hst
             have HTC := hid hc0
             have HNDD := hid hnd
             clear T hbo hv er HS HSU hz h0 h2 h3 hp hov hbb hnd
             go_enter Tryz.func137, Tryz.ntmps137
             go_wp2_with (first
               | (go_at_call 165; refine (HLG.out _).mono ?_; rintro e w3 ⟨rfl, K3⟩; rw [HLGF.out]; have HKL0 := hid K3; have hkl : Kp [] w w3 := HK0.out.chain K3; have HKL := hid hkl; have z0 := cell_kp K3 HTC.out; have z1 := cell_kp hkl HSTC.out; have y0 := cell_kp K3 (HB0.out.cell 0); have y1 := cell_kp K3 (HB0.out.cell 1); have y2 := cell_kp K3 (HB0.out.cell 2); clear K3 hkl)
               | (go_at_call 153; refine (r_words _ _ _ _).mono ?_; rintro e w4 ⟨rfl, K4⟩; rw [HWP.out]; have HKQ := hid (HKL.out.chain K4); have HKS := hid (HKL0.out.chain K4); clear K4))
             go_ret
             exact ⟨rfl, HKQ.out⟩
         · have HS := HSU.out
           rw [if_pos hlg, decide_eq_false (fun h => hst1 h.1)] at HS
           rw [HS, if_neg (by simp)]
           generalize (m.bl.getD p (0, 0)).1 = st at hst hst1
           have e6 : ((st : Int) != 1) = true := bne_iff_ne.2 (by omega)
           have HSTC := hid hst
           have HTC := hid hc0
           have HNDD := hid hnd
           clear T hbo hv er HS HSU hz h0 h2 h3 hp hov hbb hnd
           go_enter Tryz.func137, Tryz.ntmps137
           go_wp2_with (first
             | (go_at_call 165; refine (HLG.out _).mono ?_; rintro e w3 ⟨rfl, K3⟩; rw [HLGF.out]; have HKL0 := hid K3; have hkl : Kp [] w w3 := HK0.out.chain K3; have HKL := hid hkl; have z0 := cell_kp K3 HTC.out; have z1 := cell_kp hkl HSTC.out; have y0 := cell_kp K3 (HB0.out.cell 0); have y1 := cell_kp K3 (HB0.out.cell 1); have y2 := cell_kp K3 (HB0.out.cell 2); clear K3 hkl)
             | (go_at_call 153; refine (r_words _ _ _ _).mono ?_; rintro e w4 ⟨rfl, K4⟩; rw [HWP.out]; have HKQ := hid (HKL.out.chain K4); have HKS := hid (HKL0.out.chain K4); clear K4))
           go_ret
           exact ⟨rfl, by first | exact HKQ.out | exact HKL.out⟩
       · have e4 : decide (32 < n) = true := decide_eq_true (by omega)
         have HLGF := hid e4
         by_cases hal : k % 64 = 0
         · have e5 : ((k : Int) % 64 != 0) = false := by rw [bne_eq_false_iff_eq]; omega
           have e5t : ((k : Int).tmod 64 != 0) = false := by rw [Int.tmod_eq_emod_of_nonneg (by omega)]; exact e5
           have HTM : Hid ((k : Int).tmod 64 = (k : Int) % 64) := Int.tmod_eq_emod_of_nonneg (by omega)
           by_cases hst2 : (m.bl.getD p (0, 0)).1 = 2
           · rw [hst2] at hst
             have hwn : wholeN m.bl p = grpEnd m.bl p - p := by unfold wholeN; rw [if_neg (by rw [hst2]; decide), if_pos hst2]
             have HWN := hid hwn
             have hgl : grpEnd m.bl p - p ≤ 64 := by
               have := ((grpEnd_iff m.bl p _ hpl).1 rfl).2.1
               omega
             by_cases hneed : grpEnd m.bl p - p = nd
             · have HS := HSU.out
               rw [if_neg hlg, decide_eq_true ⟨hst2, hal, hneed⟩] at HS
               rw [HS, if_pos rfl]
               have e9 : (((grpEnd m.bl p - p : Nat) : Int) != (nd : Int)) = false := by rw [bne_eq_false_iff_eq]; omega
               generalize grpEnd m.bl p - p = g1 at e9 hgl HWN
               clear hwn hneed hst2 hal
               have HSTC := hid hst
               have HTC := hid hc0
               have HNDD := hid hnd
               clear T hbo hv er HS HSU hz h0 h2 h3 hp hov hbb hnd
               go_enter Tryz.func137, Tryz.ntmps137
               go_wp2_with (first
                 | (go_at_call 165; refine (HLG.out _).mono ?_; rintro e w3 ⟨rfl, K3⟩; rw [HLGF.out]; have HKL0 := hid K3; have hkl : Kp [] w w3 := HK0.out.chain K3; have HKL := hid hkl; have z0 := cell_kp K3 HTC.out; have z1 := cell_kp hkl HSTC.out; have y0 := cell_kp K3 (HB0.out.cell 0); have y1 := cell_kp K3 (HB0.out.cell 1); have y2 := cell_kp K3 (HB0.out.cell 2); clear K3 hkl)
                 | (go_at_call 153; refine (r_words _ _ _ _).mono ?_; rintro e w4 ⟨rfl, K4⟩; rw [HWP.out]; have HKQ := hid (HKL.out.chain K4); have HKS := hid (HKL0.out.chain K4); clear K4))
               have HT3 := hid (HT.out.kp0 HKL.out)
               have v0 := kp_cellD (Kp.draw w3 1) z0
               have v1 := kp_cellD (Kp.draw w3 1) z1
               have v2 := kp_cellD (Kp.draw w3 1) y0
               have v3 := kp_cellD (Kp.draw w3 1) y1
               have v4 := kp_cellD (Kp.draw w3 1) y2
               go_region_held3 (fun W => W.cell? ⟨d.g, 0, none⟩ = some (.slice (some ⟨d.bb, 0, none⟩) m.bl.length d.bc) ∧ W.cell? ⟨d.bb, p * 2, none⟩ = some (.int .i64 ((2 : Nat) : Int)) ∧ W.cell? ⟨w.heap.size, 0, none⟩ = some (.int .i64 (r : Int)) ∧ W.cell? ⟨w.heap.size, 1, none⟩ = some (.int .i64 (dd : Int)) ∧ W.cell? ⟨w.heap.size, 2, none⟩ = some (.int .i64 (kd : Int))) (go_keep)
                 (first
                   | (go_at_call 134; refine (d_whole (HT3.out.kp0 (Kp.draw _ 1)) p HPL.out).mono ?_; rintro e w4 ⟨rfl, n4, rfl⟩; rw [HWN.out])
                   | (go_at_call 166; refine (HND.out _).mono ?_; rintro e w5 ⟨rfl, K5⟩; have hk5 : Kp [] w3 w5 := (Kp.chain (by first | exact (Kp.draw w3 1).drewN _ | exact Kp.draw w3 _ | exact kp_drew_n (Kp.refl _ _)) K5); have HKQ := hid (HKL.out.chain hk5); have HKS := hid (HKL0.out.chain hk5); have u0 := kp_cellD hk5 z0; have u1 := kp_cellD hk5 z1; have u2 := kp_cellD hk5 y0; have u3 := kp_cellD hk5 y1; have u4 := kp_cellD hk5 y2; clear K5 hk5))
               all_goals (
                 go_wp2
                 try rw [HTM.out]
                 go_loopw [10] (fun c wr => ∃ i : Nat, i ≤ d.os.length ∧ Hid (∀ j, j < i → ∀ y, d.os[j]? = some y → ¬ (y.a ≠ own ∧ y.a < k + n ∧ k < y.a + y.o.wd)) ∧ c = .int .i64 (i : Int) ∧ Kp [] (w.alloc (.cells #[.int .i64 (r : Int), .int .i64 (dd : Int), .int .i64 (kd : Int)] 33)) wr) (fun c _ => d.os.length - (intOf c).toNat)
                 case atStart => exact ⟨0, by omega, (fun j h => absurd h (by omega)), by go_num, HKS.out⟩
                 case round =>
                   obtain ⟨i, hi, HK, rfl, K⟩ := hrel
                   have HKW := hid K
                   have HKX : Hid (Kp [] w wr) := HK0.out.chain K
                   have HTR := hid (HT.out.kp0 HKX.out)
                   have hc1 := HTR.out.c1
                   rw [HOV.out] at hc1
                   clear K
                   by_cases hlt : i < d.os.length
                   · obtain ⟨x, hx⟩ := get_some hlt
                     obtain ⟨go, cap', hov', _, _, _, hO, _⟩ := HTR.out.ocell hx
                     rw [HOV.out] at hov'
                     cases hov'
                     have o0 := hO.c0
                     have o1 := hO.c1
                     have o2 := hO.c2
                     have o3 := hO.c3
                     have o4 := hO.c4
                     have o5 := hO.c5
                     have o6 := hO.c6
                     have o7 := hO.c7
                     have hob := HT.out.lst.ob hx
                     have hok := HT.out.inv.ok _ _ hob
                     have hhi := HT.out.inv.hi hob
                     have hwd := hok.wd_bd
                     have HWX := hid (wordsI_ok hok)
                     have hne : (x.o.id ≠ but) ↔ (x.a ≠ own) := HBO.out x.a x.o hob
                     have HX := hid hx
                     have qk : IntKind.i64.wrap ((k : Int) + (n : Int)) = (k : Int) + (n : Int) := by rw [IntKind.wrap_i64]; omega
                     have qx : IntKind.i64.wrap ((x.a : Int) + (x.o.wd : Int)) = (x.a : Int) + (x.o.wd : Int) := by rw [IntKind.wrap_i64]; omega
                     clear hO hob hok
                     by_cases c1 : x.o.id = but
                     · have e1 : ((x.o.id : Int) != (but : Int)) = false := by rw [bne_eq_false_iff_eq]; omega
                       have HK' : Hid (∀ j, j < i + 1 → ∀ y, d.os[j]? = some y → ¬ (y.a ≠ own ∧ y.a < k + n ∧ k < y.a + y.o.wd)) := fun j h1 y hy => by
                         by_cases hj : j < i
                         · exact HK.out j hj y hy
                         · obtain rfl : j = i := by omega
                           rw [HX.out] at hy
                           cases hy
                           exact fun h => hne.2 h.1 c1
                       clear c1 hne hx
                       have HBN := hid (Blk.new wr 109 #[.int .i64 0, .int .i64 0, .int .i64 0, .int .i64 0, .int .i64 0, .slice none 0 0, .slice none 0 0, .bool false])
                       obtain ⟨hth, hkb, hrb⟩ := obox_any (w := wr) (g := wr.heap.size) HBN.out (Kp.new _ _) (Nat.le_refl _) #[.int .i64 (x.a : Int), .int .i64 (x.o.id : Int), .int .i64 (x.o.refs : Int), .int .i64 (x.o.data : Int), .int .i64 (x.o.kind : Int), .slice (some ⟨x.rb, 0, none⟩) x.o.refs x.rc, .slice (some ⟨x.db, 0, none⟩) x.o.data x.dc, .bool x.o.pin] rfl
                       have HTH := hid hth
                       have HKB := hid hkb
                       have HRB := hid hrb
                       clear hth hkb hrb
                       go_wp2_with (refine wpList_store_mid (by rfl) 109 (.tmp 11) (.tmp 89) (by rfl) wr.heap.size 0 #[.int .i64 (x.a : Int), .int .i64 (x.o.id : Int), .int .i64 (x.o.refs : Int), .int .i64 (x.o.data : Int), .int .i64 (x.o.kind : Int), .slice (some ⟨x.rb, 0, none⟩) x.o.refs x.rc, .slice (some ⟨x.db, 0, none⟩) x.o.data x.dc, .bool x.o.pin] (by rfl) (by rfl) HTH.out objInfo (objOne x) ?_)
                       generalize hW5 : (wr.alloc (.cells #[.int .i64 0, .int .i64 0, .int .i64 0, .int .i64 0, .int .i64 0, .slice none 0 0, .slice none 0 0, .bool false] 109)).setCells wr.heap.size 0 (#[.int .i64 (x.a : Int), .int .i64 (x.o.id : Int), .int .i64 (x.o.refs : Int), .int .i64 (x.o.data : Int), .int .i64 (x.o.kind : Int), .slice (some ⟨x.rb, 0, none⟩) x.o.refs x.rc, .slice (some ⟨x.db, 0, none⟩) x.o.data x.dc, .bool x.o.pin] : Array Value).toList = w5 at HKB HRB ⊢
                       generalize hgb : wr.heap.size = gb at HRB ⊢
                       have hrb := HRB.out
                       have hbp := (HB0.out.kp (HKW.out.chain HKB.out) (by simp))
                       have HFX : Hid (FX w5 gb w.heap.size x r dd kd) := ⟨hrb 0 _ rfl, hrb 1 _ rfl, hrb 2 _ rfl, hrb 3 _ rfl, hrb 4 _ rfl, hbp.cell 0, hbp.cell 1, hbp.cell 2⟩
                       clear hrb hbp HRB HTH hW5 hgb
                       have f0 := HFX.out.b0
                       have f1 := HFX.out.b1
                       go_wp2_with (fail)
                       go_quiet (fail)
                       go_wp2
                       go_roundw
                       case rel => first | exact ⟨i + 1, by omega, HK', by go_num, by first | exact (HKW.out.chain HKB.out).drewN _ | exact HKW.out.chain HKB.out | exact kp_drew (HKW.out.chain HKB.out)⟩ | ((repeat apply Exists.intro); exact ⟨⟨i + 1, by omega, HK', by go_num, by first | exact (HKW.out.chain HKB.out).drewN _ | exact HKW.out.chain HKB.out | exact kp_drew (HKW.out.chain HKB.out)⟩, rfl⟩)
                       case measure => simp [intOf]; omega
                     · have e1 : ((x.o.id : Int) != (but : Int)) = true := bne_iff_ne.2 (by omega)
                       have hown : x.a ≠ own := hne.1 c1
                       by_cases c2 : x.a < k + n
                       · have e2 : decide ((x.a : Int) < (k : Int) + (n : Int)) = true := decide_eq_true (by omega)
                         by_cases c3 : k < x.a + x.o.wd
                         · have e3 : decide ((k : Int) < (x.a : Int) + (x.o.wd : Int)) = true := decide_eq_true (by omega)
                           have HZ : Hid (tkE m own k (n / 2) = 8) := by
                             show _ = _
                             unfold tkE
                             rw [if_pos ((tk_iff HT.out.lst HT.out.inv HE2.out HE3.out HE4.out).2 ⟨x, List.mem_of_getElem? HX.out, hown, c2, c3⟩)]
                           clear c1 c2 c3 hne hx hown
                           have HBN := hid (Blk.new wr 109 #[.int .i64 0, .int .i64 0, .int .i64 0, .int .i64 0, .int .i64 0, .slice none 0 0, .slice none 0 0, .bool false])
                           obtain ⟨hth, hkb, hrb⟩ := obox_any (w := wr) (g := wr.heap.size) HBN.out (Kp.new _ _) (Nat.le_refl _) #[.int .i64 (x.a : Int), .int .i64 (x.o.id : Int), .int .i64 (x.o.refs : Int), .int .i64 (x.o.data : Int), .int .i64 (x.o.kind : Int), .slice (some ⟨x.rb, 0, none⟩) x.o.refs x.rc, .slice (some ⟨x.db, 0, none⟩) x.o.data x.dc, .bool x.o.pin] rfl
                           have HTH := hid hth
                           have HKB := hid hkb
                           have HRB := hid hrb
                           clear hth hkb hrb
                           go_wp2_with (refine wpList_store_mid (by rfl) 109 (.tmp 11) (.tmp 89) (by rfl) wr.heap.size 0 #[.int .i64 (x.a : Int), .int .i64 (x.o.id : Int), .int .i64 (x.o.refs : Int), .int .i64 (x.o.data : Int), .int .i64 (x.o.kind : Int), .slice (some ⟨x.rb, 0, none⟩) x.o.refs x.rc, .slice (some ⟨x.db, 0, none⟩) x.o.data x.dc, .bool x.o.pin] (by rfl) (by rfl) HTH.out objInfo (objOne x) ?_)
                           generalize hW5 : (wr.alloc (.cells #[.int .i64 0, .int .i64 0, .int .i64 0, .int .i64 0, .int .i64 0, .slice none 0 0, .slice none 0 0, .bool false] 109)).setCells wr.heap.size 0 (#[.int .i64 (x.a : Int), .int .i64 (x.o.id : Int), .int .i64 (x.o.refs : Int), .int .i64 (x.o.data : Int), .int .i64 (x.o.kind : Int), .slice (some ⟨x.rb, 0, none⟩) x.o.refs x.rc, .slice (some ⟨x.db, 0, none⟩) x.o.data x.dc, .bool x.o.pin] : Array Value).toList = w5 at HKB HRB ⊢
                           generalize hgb : wr.heap.size = gb at HRB ⊢
                           have hrb := HRB.out
                           have hbp := (HB0.out.kp (HKW.out.chain HKB.out) (by simp))
                           have HFX : Hid (FX w5 gb w.heap.size x r dd kd) := ⟨hrb 0 _ rfl, hrb 1 _ rfl, hrb 2 _ rfl, hrb 3 _ rfl, hrb 4 _ rfl, hbp.cell 0, hbp.cell 1, hbp.cell 2⟩
                           clear hrb hbp HRB HTH hW5 hgb
                           go_wp2_with (fail)
                           refine wp_region_held_drew (S := fun W => FX W gb w.heap.size x r dd kd) (by kernel_rfl) ?_ (fun hHeld => ?_)
                           · exact HFX.out.kp0 (Kp.draw _ 1)
                           refine tk0 0 rfl ?_
                           try simp only [ly, Act.put]
                           refine tk 1 rfl (Or.inl ⟨by rfl, by (intro wz hSw; have hcj := hSw.b1; go_simp; try with_reducible rfl)⟩) ?_
                           try simp only [ly, Act.put]
                           refine tk0 2 rfl ?_
                           try simp only [ly, Act.put]
                           refine tk0 3 rfl ?_
                           try simp only [ly, Act.put]
                           refine tk0 4 rfl ?_
                           try simp only [ly, Act.put]
                           refine tk0 5 rfl ?_
                           try simp only [ly, Act.put]
                           refine tk 6 rfl (Or.inl ⟨by rfl, by (intro wz hSw; have hcj := hSw.b0; go_simp; try with_reducible rfl)⟩) ?_
                           try simp only [ly, Act.put]
                           refine tk0 7 rfl ?_
                           try simp only [ly, Act.put]
                           refine tk 8 rfl (Or.inl ⟨by rfl, by (intro wz hSw; have k0 := hSw.s0; have k1 := hSw.s1; have k2 := hSw.s2; go_simp; try with_reducible rfl)⟩) ?_
                           try simp only [ly, Act.put]
                           refine rd 9 rfl fun K hK => ?_
                           go_simp
                           refine (r_words _ _ _ _).mono ?_
                           rintro e w6 ⟨rfl, K6⟩
                           rw [HWP.out]
                           have HK6 := hid K6
                           clear K6
                           try go_wp2_with fail
                           refine hK.out _ _ ?_ (fun hHeld => ?_)
                           · exact hHeld.kp0 HK6.out
                           clear hK K
                           refine tk0 10 rfl ?_
                           try simp only [ly, Act.put]
                           refine tk0 11 rfl ?_
                           try simp only [ly, Act.put]
                           refine tk0 12 rfl ?_
                           try simp only [ly, Act.put]
                           refine tk0 13 rfl ?_
                           try simp only [ly, Act.put]
                           refine tk0 14 rfl ?_
                           try simp only [ly, Act.put]
                           refine tk0 15 rfl ?_
                           try simp only [ly, Act.put]
                           refine tk 16 rfl (Or.inl ⟨by rfl, by (intro wz hSw; have hcj := hSw.b0; go_simp; try with_reducible rfl)⟩) ?_
                           try simp only [ly, Act.put]
                           refine tk0 17 rfl ?_
                           try simp only [ly, Act.put]
                           refine tk 18 rfl (Or.inl ⟨by rfl, by (intro wz hSw; have k0 := hSw.b2; have k1 := hSw.b3; have k2 := hSw.b4; go_simp; try with_reducible rfl)⟩) ?_
                           try simp only [ly, Act.put]
                           refine rd 19 rfl fun K hK => ?_
                           go_simp
                           refine (r_words _ _ _ _).mono ?_
                           rintro e w7 ⟨rfl, K7⟩
                           rw [HWX.out]
                           have HK7 := hid K7
                           clear K7
                           try go_wp2_with fail
                           refine hK.out _ _ ?_ (fun hHeld => ?_)
                           · exact hHeld.kp0 HK7.out
                           clear hK K
                           refine tk0 20 rfl ?_
                           try simp only [ly, Act.put]
                           refine tk0 21 rfl ?_
                           try simp only [ly, Act.put]
                           refine tk0 22 rfl ?_
                           try simp only [ly, Act.put]
                           refine wpAnyH_done (by kernel_rfl) ?_ _
                           clear hHeld
                           go_wp2
                           go_ret
                           rw [HZ.out]
                           exact ⟨rfl, HK0.out.chain ((((HKW.out.chain HKB.out).chain (Kp.draw _ 1)).chain HK6.out).chain HK7.out)⟩
                         · have e3 : decide ((k : Int) < (x.a : Int) + (x.o.wd : Int)) = false := decide_eq_false (by omega)
                           have HK' : Hid (∀ j, j < i + 1 → ∀ y, d.os[j]? = some y → ¬ (y.a ≠ own ∧ y.a < k + n ∧ k < y.a + y.o.wd)) := fun j h1 y hy => by
                             by_cases hj : j < i
                             · exact HK.out j hj y hy
                             · obtain rfl : j = i := by omega
                               rw [HX.out] at hy
                               cases hy
                               omega
                           clear c1 c2 c3 hne hx hown
                           have HBN := hid (Blk.new wr 109 #[.int .i64 0, .int .i64 0, .int .i64 0, .int .i64 0, .int .i64 0, .slice none 0 0, .slice none 0 0, .bool false])
                           obtain ⟨hth, hkb, hrb⟩ := obox_any (w := wr) (g := wr.heap.size) HBN.out (Kp.new _ _) (Nat.le_refl _) #[.int .i64 (x.a : Int), .int .i64 (x.o.id : Int), .int .i64 (x.o.refs : Int), .int .i64 (x.o.data : Int), .int .i64 (x.o.kind : Int), .slice (some ⟨x.rb, 0, none⟩) x.o.refs x.rc, .slice (some ⟨x.db, 0, none⟩) x.o.data x.dc, .bool x.o.pin] rfl
                           have HTH := hid hth
                           have HKB := hid hkb
                           have HRB := hid hrb
                           clear hth hkb hrb
                           go_wp2_with (refine wpList_store_mid (by rfl) 109 (.tmp 11) (.tmp 89) (by rfl) wr.heap.size 0 #[.int .i64 (x.a : Int), .int .i64 (x.o.id : Int), .int .i64 (x.o.refs : Int), .int .i64 (x.o.data : Int), .int .i64 (x.o.kind : Int), .slice (some ⟨x.rb, 0, none⟩) x.o.refs x.rc, .slice (some ⟨x.db, 0, none⟩) x.o.data x.dc, .bool x.o.pin] (by rfl) (by rfl) HTH.out objInfo (objOne x) ?_)
                           generalize hW5 : (wr.alloc (.cells #[.int .i64 0, .int .i64 0, .int .i64 0, .int .i64 0, .int .i64 0, .slice none 0 0, .slice none 0 0, .bool false] 109)).setCells wr.heap.size 0 (#[.int .i64 (x.a : Int), .int .i64 (x.o.id : Int), .int .i64 (x.o.refs : Int), .int .i64 (x.o.data : Int), .int .i64 (x.o.kind : Int), .slice (some ⟨x.rb, 0, none⟩) x.o.refs x.rc, .slice (some ⟨x.db, 0, none⟩) x.o.data x.dc, .bool x.o.pin] : Array Value).toList = w5 at HKB HRB ⊢
                           generalize hgb : wr.heap.size = gb at HRB ⊢
                           have hrb := HRB.out
                           have hbp := (HB0.out.kp (HKW.out.chain HKB.out) (by simp))
                           have HFX : Hid (FX w5 gb w.heap.size x r dd kd) := ⟨hrb 0 _ rfl, hrb 1 _ rfl, hrb 2 _ rfl, hrb 3 _ rfl, hrb 4 _ rfl, hbp.cell 0, hbp.cell 1, hbp.cell 2⟩
                           clear hrb hbp HRB HTH hW5 hgb
                           go_wp2_with (fail)
                           refine wp_region_held_drew (S := fun W => FX W gb w.heap.size x r dd kd) (by kernel_rfl) ?_ (fun hHeld => ?_)
                           · exact HFX.out.kp0 (Kp.draw _ 1)
                           refine tk0 0 rfl ?_
                           try simp only [ly, Act.put]
                           refine tk 1 rfl (Or.inl ⟨by rfl, by (intro wz hSw; have hcj := hSw.b1; go_simp; try with_reducible rfl)⟩) ?_
                           try simp only [ly, Act.put]
                           refine tk0 2 rfl ?_
                           try simp only [ly, Act.put]
                           refine tk0 3 rfl ?_
                           try simp only [ly, Act.put]
                           refine tk0 4 rfl ?_
                           try simp only [ly, Act.put]
                           refine tk0 5 rfl ?_
                           try simp only [ly, Act.put]
                           refine tk 6 rfl (Or.inl ⟨by rfl, by (intro wz hSw; have hcj := hSw.b0; go_simp; try with_reducible rfl)⟩) ?_
                           try simp only [ly, Act.put]
                           refine tk0 7 rfl ?_
                           try simp only [ly, Act.put]
                           refine tk 8 rfl (Or.inl ⟨by rfl, by (intro wz hSw; have k0 := hSw.s0; have k1 := hSw.s1; have k2 := hSw.s2; go_simp; try with_reducible rfl)⟩) ?_
                           try simp only [ly, Act.put]
                           refine rd 9 rfl fun K hK => ?_
                           go_simp
                           refine (r_words _ _ _ _).mono ?_
                           rintro e w6 ⟨rfl, K6⟩
                           rw [HWP.out]
                           have HK6 := hid K6
                           clear K6
                           try go_wp2_with fail
                           refine hK.out _ _ ?_ (fun hHeld => ?_)
                           · exact hHeld.kp0 HK6.out
                           clear hK K
                           refine tk0 10 rfl ?_
                           try simp only [ly, Act.put]
                           refine tk0 11 rfl ?_
                           try simp only [ly, Act.put]
                           refine tk0 12 rfl ?_
                           try simp only [ly, Act.put]
                           refine tk0 13 rfl ?_
                           try simp only [ly, Act.put]
                           refine tk0 14 rfl ?_
                           try simp only [ly, Act.put]
                           refine tk0 15 rfl ?_
                           try simp only [ly, Act.put]
                           refine tk 16 rfl (Or.inl ⟨by rfl, by (intro wz hSw; have hcj := hSw.b0; go_simp; try with_reducible rfl)⟩) ?_
                           try simp only [ly, Act.put]
                           refine tk0 17 rfl ?_
                           try simp only [ly, Act.put]
                           refine tk 18 rfl (Or.inl ⟨by rfl, by (intro wz hSw; have k0 := hSw.b2; have k1 := hSw.b3; have k2 := hSw.b4; go_simp; try with_reducible rfl)⟩) ?_
                           try simp only [ly, Act.put]
                           refine rd 19 rfl fun K hK => ?_
                           go_simp
                           refine (r_words _ _ _ _).mono ?_
                           rintro e w7 ⟨rfl, K7⟩
                           rw [HWX.out]
                           have HK7 := hid K7
                           clear K7
                           try go_wp2_with fail
                           refine hK.out _ _ ?_ (fun hHeld => ?_)
                           · exact hHeld.kp0 HK7.out
                           clear hK K
                           refine tk0 20 rfl ?_
                           try simp only [ly, Act.put]
                           refine tk0 21 rfl ?_
                           try simp only [ly, Act.put]
                           refine tk0 22 rfl ?_
                           try simp only [ly, Act.put]
                           refine wpAnyH_done (by kernel_rfl) ?_ _
                           clear hHeld
                           go_wp2
                           go_roundw
                           case rel => first | exact ⟨i + 1, by omega, HK', by go_num, (((HKW.out.chain HKB.out).chain (Kp.draw _ 1)).chain HK6.out).chain HK7.out⟩ | ((repeat apply Exists.intro); exact ⟨⟨i + 1, by omega, HK', by go_num, (((HKW.out.chain HKB.out).chain (Kp.draw _ 1)).chain HK6.out).chain HK7.out⟩, rfl⟩)
                           case measure => simp [intOf]; omega
                       · have e2 : decide ((x.a : Int) < (k : Int) + (n : Int)) = false := decide_eq_false (by omega)
                         have HK' : Hid (∀ j, j < i + 1 → ∀ y, d.os[j]? = some y → ¬ (y.a ≠ own ∧ y.a < k + n ∧ k < y.a + y.o.wd)) := fun j h1 y hy => by
                           by_cases hj : j < i
                           · exact HK.out j hj y hy
                           · obtain rfl : j = i := by omega
                             rw [HX.out] at hy
                             cases hy
                             omega
                         clear c1 c2 hne hx hown
                         have HBN := hid (Blk.new wr 109 #[.int .i64 0, .int .i64 0, .int .i64 0, .int .i64 0, .int .i64 0, .slice none 0 0, .slice none 0 0, .bool false])
                         obtain ⟨hth, hkb, hrb⟩ := obox_any (w := wr) (g := wr.heap.size) HBN.out (Kp.new _ _) (Nat.le_refl _) #[.int .i64 (x.a : Int), .int .i64 (x.o.id : Int), .int .i64 (x.o.refs : Int), .int .i64 (x.o.data : Int), .int .i64 (x.o.kind : Int), .slice (some ⟨x.rb, 0, none⟩) x.o.refs x.rc, .slice (some ⟨x.db, 0, none⟩) x.o.data x.dc, .bool x.o.pin] rfl
                         have HTH := hid hth
                         have HKB := hid hkb
                         have HRB := hid hrb
                         clear hth hkb hrb
                         go_wp2_with (refine wpList_store_mid (by rfl) 109 (.tmp 11) (.tmp 89) (by rfl) wr.heap.size 0 #[.int .i64 (x.a : Int), .int .i64 (x.o.id : Int), .int .i64 (x.o.refs : Int), .int .i64 (x.o.data : Int), .int .i64 (x.o.kind : Int), .slice (some ⟨x.rb, 0, none⟩) x.o.refs x.rc, .slice (some ⟨x.db, 0, none⟩) x.o.data x.dc, .bool x.o.pin] (by rfl) (by rfl) HTH.out objInfo (objOne x) ?_)
                         generalize hW5 : (wr.alloc (.cells #[.int .i64 0, .int .i64 0, .int .i64 0, .int .i64 0, .int .i64 0, .slice none 0 0, .slice none 0 0, .bool false] 109)).setCells wr.heap.size 0 (#[.int .i64 (x.a : Int), .int .i64 (x.o.id : Int), .int .i64 (x.o.refs : Int), .int .i64 (x.o.data : Int), .int .i64 (x.o.kind : Int), .slice (some ⟨x.rb, 0, none⟩) x.o.refs x.rc, .slice (some ⟨x.db, 0, none⟩) x.o.data x.dc, .bool x.o.pin] : Array Value).toList = w5 at HKB HRB ⊢
                         generalize hgb : wr.heap.size = gb at HRB ⊢
                         have hrb := HRB.out
                         have hbp := (HB0.out.kp (HKW.out.chain HKB.out) (by simp))
                         have HFX : Hid (FX w5 gb w.heap.size x r dd kd) := ⟨hrb 0 _ rfl, hrb 1 _ rfl, hrb 2 _ rfl, hrb 3 _ rfl, hrb 4 _ rfl, hbp.cell 0, hbp.cell 1, hbp.cell 2⟩
                         clear hrb hbp HRB HTH hW5 hgb
                         go_wp2_with (fail)
                         refine wp_region_held_drew (S := fun W => FX W gb w.heap.size x r dd kd) (by kernel_rfl) ?_ (fun hHeld => ?_)
                         · exact HFX.out.kp0 (Kp.draw _ 1)
                         refine tk0 0 rfl ?_
                         try simp only [ly, Act.put]
                         refine tk 1 rfl (Or.inl ⟨by rfl, by (intro wz hSw; have hcj := hSw.b1; go_simp; try with_reducible rfl)⟩) ?_
                         try simp only [ly, Act.put]
                         refine tk0 2 rfl ?_
                         try simp only [ly, Act.put]
                         refine tk0 3 rfl ?_
                         try simp only [ly, Act.put]
                         refine tk0 4 rfl ?_
                         try simp only [ly, Act.put]
                         refine tk0 5 rfl ?_
                         try simp only [ly, Act.put]
                         refine tk 6 rfl (Or.inl ⟨by rfl, by (intro wz hSw; have hcj := hSw.b0; go_simp; try with_reducible rfl)⟩) ?_
                         try simp only [ly, Act.put]
                         refine tk0 7 rfl ?_
                         try simp only [ly, Act.put]
                         refine tk 8 rfl (Or.inl ⟨by rfl, by (intro wz hSw; have k0 := hSw.s0; have k1 := hSw.s1; have k2 := hSw.s2; go_simp; try with_reducible rfl)⟩) ?_
                         try simp only [ly, Act.put]
                         refine rd 9 rfl fun K hK => ?_
                         go_simp
                         refine (r_words _ _ _ _).mono ?_
                         rintro e w6 ⟨rfl, K6⟩
                         rw [HWP.out]
                         have HK6 := hid K6
                         clear K6
                         try go_wp2_with fail
                         refine hK.out _ _ ?_ (fun hHeld => ?_)
                         · exact hHeld.kp0 HK6.out
                         clear hK K
                         refine tk0 10 rfl ?_
                         try simp only [ly, Act.put]
                         refine tk0 11 rfl ?_
                         try simp only [ly, Act.put]
                         refine tk0 12 rfl ?_
                         try simp only [ly, Act.put]
                         refine tk0 13 rfl ?_
                         try simp only [ly, Act.put]
                         refine tku 14 rfl ?_
                         try simp only [ly, Act.put]
                         refine tku 15 rfl ?_
                         try simp only [ly, Act.put]
                         refine tku 16 rfl ?_
                         try simp only [ly, Act.put]
                         refine tku 17 rfl ?_
                         try simp only [ly, Act.put]
                         refine tku 18 rfl ?_
                         try simp only [ly, Act.put]
                         refine tku 19 rfl ?_
                         try simp only [ly, Act.put]
                         refine tku 20 rfl ?_
                         try simp only [ly, Act.put]
                         refine tku 21 rfl ?_
                         try simp only [ly, Act.put]
                         refine tk0 22 rfl ?_
                         try simp only [ly, Act.put]
                         refine wpAnyH_done (by kernel_rfl) ?_ _
                         clear hHeld
                         go_wp2
                         go_roundw
                         case rel => first | exact ⟨i + 1, by omega, HK', by go_num, ((HKW.out.chain HKB.out).chain (Kp.draw _ 1)).chain HK6.out⟩ | ((repeat apply Exists.intro); exact ⟨⟨i + 1, by omega, HK', by go_num, ((HKW.out.chain HKB.out).chain (Kp.draw _ 1)).chain HK6.out⟩, rfl⟩)
                         case measure => simp [intOf]; omega
                   · obtain rfl : i = d.os.length := by omega
                     have HZ : Hid (tkE m own k (n / 2) = 0) := by
                       show _ = _
                       unfold tkE
                       rw [if_neg]
                       intro h
                       obtain ⟨x, hx, h1⟩ := (tk_iff HT.out.lst HT.out.inv HE2.out HE3.out HE4.out).1 h
                       obtain ⟨j, hj⟩ := List.mem_iff_getElem?.1 hx
                       exact HK.out j (List.getElem?_eq_some_iff.1 hj).1 x hj h1
                     go_wp2
                     go_ret
                     rw [HZ.out]
                     exact ⟨rfl, HKX.out⟩
                 skip)
             · have HS := HSU.out
               rw [if_neg hlg, decide_eq_false (fun h => hneed h.2.2)] at HS
               rw [HS, if_neg (by simp)]
               have e9 : (((grpEnd m.bl p - p : Nat) : Int) != (nd : Int)) = true := bne_iff_ne.2 (by omega)
               generalize grpEnd m.bl p - p = g1 at e9 hgl HWN
               clear hwn hneed hst2 hal
               have HSTC := hid hst
               have HTC := hid hc0
               have HNDD := hid hnd
               clear T hbo hv er HS HSU hz h0 h2 h3 hp hov hbb hnd
               go_enter Tryz.func137, Tryz.ntmps137
               go_wp2_with (first
                 | (go_at_call 165; refine (HLG.out _).mono ?_; rintro e w3 ⟨rfl, K3⟩; rw [HLGF.out]; have HKL0 := hid K3; have hkl : Kp [] w w3 := HK0.out.chain K3; have HKL := hid hkl; have z0 := cell_kp K3 HTC.out; have z1 := cell_kp hkl HSTC.out; have y0 := cell_kp K3 (HB0.out.cell 0); have y1 := cell_kp K3 (HB0.out.cell 1); have y2 := cell_kp K3 (HB0.out.cell 2); clear K3 hkl)
                 | (go_at_call 153; refine (r_words _ _ _ _).mono ?_; rintro e w4 ⟨rfl, K4⟩; rw [HWP.out]; have HKQ := hid (HKL.out.chain K4); have HKS := hid (HKL0.out.chain K4); clear K4))
               have HT3 := hid (HT.out.kp0 HKL.out)
               have v0 := kp_cellD (Kp.draw w3 1) z0
               have v1 := kp_cellD (Kp.draw w3 1) z1
               have v2 := kp_cellD (Kp.draw w3 1) y0
               have v3 := kp_cellD (Kp.draw w3 1) y1
               have v4 := kp_cellD (Kp.draw w3 1) y2
               go_region_held3 (fun W => W.cell? ⟨d.g, 0, none⟩ = some (.slice (some ⟨d.bb, 0, none⟩) m.bl.length d.bc) ∧ W.cell? ⟨d.bb, p * 2, none⟩ = some (.int .i64 ((2 : Nat) : Int)) ∧ W.cell? ⟨w.heap.size, 0, none⟩ = some (.int .i64 (r : Int)) ∧ W.cell? ⟨w.heap.size, 1, none⟩ = some (.int .i64 (dd : Int)) ∧ W.cell? ⟨w.heap.size, 2, none⟩ = some (.int .i64 (kd : Int))) (go_keep)
                 (first
                   | (go_at_call 134; refine (d_whole (HT3.out.kp0 (Kp.draw _ 1)) p HPL.out).mono ?_; rintro e w4 ⟨rfl, n4, rfl⟩; rw [HWN.out])
                   | (go_at_call 166; refine (HND.out _).mono ?_; rintro e w5 ⟨rfl, K5⟩; have hk5 : Kp [] w3 w5 := (Kp.chain (by first | exact (Kp.draw w3 1).drewN _ | exact Kp.draw w3 _ | exact kp_drew_n (Kp.refl _ _)) K5); have HKQ := hid (HKL.out.chain hk5); have HKS := hid (HKL0.out.chain hk5); have u0 := kp_cellD hk5 z0; have u1 := kp_cellD hk5 z1; have u2 := kp_cellD hk5 y0; have u3 := kp_cellD hk5 y1; have u4 := kp_cellD hk5 y2; clear K5 hk5))
               all_goals (
                 go_wp2
                 go_ret
                 exact ⟨rfl, HKQ.out⟩)
           · have HS := HSU.out
             rw [if_neg hlg, decide_eq_false (fun h => hst2 h.1)] at HS
             rw [HS, if_neg (by simp)]
             generalize (m.bl.getD p (0, 0)).1 = st at hst hst2
             have e6 : ((st : Int) != 2) = true := bne_iff_ne.2 (by omega)
             clear hst2
             have HSTC := hid hst
             have HTC := hid hc0
             have HNDD := hid hnd
             clear T hbo hv er HS HSU hz h0 h2 h3 hp hov hbb hnd
             go_enter Tryz.func137, Tryz.ntmps137
             go_wp2_with (first
               | (go_at_call 165; refine (HLG.out _).mono ?_; rintro e w3 ⟨rfl, K3⟩; rw [HLGF.out]; have HKL0 := hid K3; have hkl : Kp [] w w3 := HK0.out.chain K3; have HKL := hid hkl; have z0 := cell_kp K3 HTC.out; have z1 := cell_kp hkl HSTC.out; have y0 := cell_kp K3 (HB0.out.cell 0); have y1 := cell_kp K3 (HB0.out.cell 1); have y2 := cell_kp K3 (HB0.out.cell 2); clear K3 hkl)
               | (go_at_call 153; refine (r_words _ _ _ _).mono ?_; rintro e w4 ⟨rfl, K4⟩; rw [HWP.out]; have HKQ := hid (HKL.out.chain K4); have HKS := hid (HKL0.out.chain K4); clear K4))
             go_quiet (fail)
             go_wp2
             go_ret
             exact ⟨rfl, by first | exact HKL.out.drewN _ | exact kp_drew HKL.out | exact HKL.out⟩
         · have e5 : ((k : Int) % 64 != 0) = true := bne_iff_ne.2 (by omega)
           have HS := HSU.out
           rw [if_neg hlg, decide_eq_false (fun h => hal h.2.1)] at HS
           rw [HS, if_neg (by simp)]
           clear hal
           have HSTC := hid hst
           have HTC := hid hc0
           have HNDD := hid hnd
           clear T hbo hv er HS HSU hz h0 h2 h3 hp hov hbb hnd
           go_enter Tryz.func137, Tryz.ntmps137
           go_wp2_with (first
             | (go_at_call 165; refine (HLG.out _).mono ?_; rintro e w3 ⟨rfl, K3⟩; rw [HLGF.out]; have HKL0 := hid K3; have hkl : Kp [] w w3 := HK0.out.chain K3; have HKL := hid hkl; have z0 := cell_kp K3 HTC.out; have z1 := cell_kp hkl HSTC.out; have y0 := cell_kp K3 (HB0.out.cell 0); have y1 := cell_kp K3 (HB0.out.cell 1); have y2 := cell_kp K3 (HB0.out.cell 2); clear K3 hkl)
             | (go_at_call 153; refine (r_words _ _ _ _).mono ?_; rintro e w4 ⟨rfl, K4⟩; rw [HWP.out]; have HKQ := hid (HKL.out.chain K4); have HKS := hid (HKL0.out.chain K4); clear K4))
           go_quiet (fail)
           go_wp2
           go_ret
           exact ⟨rfl, by first | exact HKL.out.drewN _ | exact kp_drew HKL.out | exact HKL.out⟩
     · have er : roomE m a (wdN r dd) own = 1 := by unfold roomE; rw [if_neg (fun h => h3 h.2.2)]
       rw [er]
       have e3 : decide ((m.bl.length : Int) * 64 ≤ a) = true := decide_eq_true (by rw [hz]; omega)
       clear T hbo er hz hbb h3
       go_enter Tryz.func137, Tryz.ntmps137
       go_wp2
       go_ret
       exact ⟨rfl, HK0.out⟩
   · have er : roomE m a (wdN r dd) own = 1 := by unfold roomE; rw [if_neg (fun h => h2 h.2.1)]
     rw [er]
     have e2 : (a % 2 != 0) = true := bne_iff_ne.2 h2
     clear T hbo er hz hbb h2
     go_enter Tryz.func137, Tryz.ntmps137
     go_wp2
     go_ret
     exact ⟨rfl, HK0.out⟩
 · have er : roomE m a (wdN r dd) own = 1 := by unfold roomE; rw [if_neg (fun h => h0 h.1)]
   rw [er]
   have e0 : decide (a < 0) = true := decide_eq_true (by omega)
   clear T hbo er hz hbb h0
   go_enter Tryz.func137, Tryz.ntmps137
   go_wp2
   go_ret
   exact ⟨rfl, HK0.out⟩
end
end Go.Proofs.YthndilllnneijaaGreat
