/-
  The contract of the document's heap's put. Conditions: those that stand in each theorem.
-/
import Derived.BigQuiet
import Derived.Deep.RegionHeld3
import Derived.Test.YthndilllnneijaaGreatPG13
set_option linter.unusedSimpArgs false
set_option linter.unusedVariables false
set_option maxRecDepth 100000
set_option maxHeartbeats 2000000
namespace Go.Proofs.YthndilllnneijaaGreat
open Go.RowKit Go.Deep Go.Maps
section
variable {w w' W : World} {d : DB} {q : Nat} {m : HM}
structure New1 (w : World) (d : DB) (m : HM) (x : DO) : Prop where
 no : m.ob x.a = none
 inv : (m.add x.a x.o).Inv
 r : ∃ sp, Blk w x.rb 3 (zcells x.rs ++ sp).toArray
 s : ∃ sp, Blk w x.db 3 (zcells x.ds ++ sp).toArray
 rn : x.rb ∉ d.all
 sn : x.db ∉ d.all
 ne : x.rb ≠ x.db
theorem New1.kp {S : List Nat} {x : DO} (h : New1 w d m x) (k : Kp S w W) (h1 : x.rb ∉ S) (h2 : x.db ∉ S) : New1 W d m x :=
 ⟨h.no, h.inv, h.r.imp fun sp B => B.kp k h1, h.s.imp fun sp B => B.kp k h2, h.rn, h.sn, h.ne⟩
theorem put_end (T : DR w d q m) {k n : Nat} {x : DO} {v : Value} (hx : New1 w d m x) (hk : ∀ j, j < k → ∀ y, d.os[j]? = some y → y.a < x.a) (hk2 : ∀ y, d.os[k]? = some y → ¬ y.a < x.a) (K : Kp [] w W) (own : W.ownsRow w.heap.size 109 8 v n (ocells (d.os.take k ++ [x] ++ d.os.drop k))) (hn : n = (d.os.take k ++ x :: d.os.drop k).length) :
   DR (W.setCell ⟨d.g, 1, none⟩ v) { d with ov := v, os := d.os.take k ++ x :: d.os.drop k } q (m.add x.a x.o) ∧ Kp [d.g] w (W.setCell ⟨d.g, 1, none⟩ v) ∧ ∀ y, v.ownBlock = some y → w.heap.size ≤ y := by
 subst hn
 rw [List.append_assoc] at own
 have hnd := T.nd'.2.2.2.2.2
 have hge : ∀ j, k ≤ j → ∀ y, d.os[j]? = some y → x.a < y.a := fun j hj y hy => by
   have h0 := T.lst.none hx.no hy
   obtain ⟨z, hz⟩ := get_some (l := d.os) (i := k) (by have := (List.getElem?_eq_some_iff.1 hy).1; omega)
   have h1 := hk2 z hz
   have h2 := T.lst.none hx.no hz
   rcases Nat.eq_or_lt_of_le hj with e | e
   · subst e; rw [hz] at hy; cases hy; omega
   · have := T.lst.lt hz hy e; omega
 have hro : rowsOf (d.os.take k ++ x :: d.os.drop k) = rowsOf (d.os.take k) ++ (x.rows ++ rowsOf (d.os.drop k)) := by rw [rowsOf_append]; rfl
 have hrl : rowsOf d.os = rowsOf (d.os.take k) ++ rowsOf (d.os.drop k) := by rw [← rowsOf_append, List.take_append_drop]
 have hno : ∀ y ∈ x.rows, y ∉ rowsOf d.os := fun y hy hm => by
   have hm2 : y ∈ d.all := by
     obtain ⟨z, hz, e⟩ := rowsOf_mem.1 hm
     obtain ⟨a1, a2⟩ := DR.row_mem hz
     rcases e with rfl | rfl
     · exact a1
     · exact a2
   simp [DO.rows] at hy
   rcases hy with rfl | rfl
   · exact hx.rn hm2
   · exact hx.sn hm2
 refine T.setO K own rfl rfl rfl rfl hx.inv (T.lst.ins hx.no hk hge) ?_ (fun y hy => ?_) (fun z hz => ?_)
 · rw [hro]
   rw [hrl] at hnd hno
   rw [List.nodup_append] at hnd ⊢
   refine ⟨hnd.1, ?_, fun a ha b hb => ?_⟩
   · rw [List.nodup_append]
     refine ⟨by simp [DO.rows, hx.ne], hnd.2.1, fun a ha b hb e => hno a ha (List.mem_append.2 (.inr (e ▸ hb)))⟩
   · rcases List.mem_append.1 hb with h | h
     · exact fun e => hno b h (List.mem_append.2 (.inl (e ▸ ha)))
     · exact hnd.2.2 a ha b h
 · rw [hro] at hy
   rcases List.mem_append.1 hy with h | h
   · exact .inl (by rw [hrl]; exact List.mem_append.2 (.inl h))
   · rcases List.mem_append.1 h with h | h
     · simp [DO.rows] at h
       rcases h with rfl | rfl
       · exact .inr hx.rn
       · exact .inr hx.sn
     · exact .inl (by rw [hrl]; exact List.mem_append.2 (.inr h))
 · rcases List.mem_append.1 hz with h | h
   · exact T.R z (List.mem_of_mem_take h)
   · rcases List.mem_cons.1 h with rfl | h
     · exact ⟨hx.r, hx.s⟩
     · exact T.R z (List.mem_of_mem_drop h)
theorem srcO_one (W : World) (x : DO) : SrcO (W.alloc (.cells #[.int .i64 (x.a : Int), .int .i64 (x.o.id : Int), .int .i64 (x.o.refs : Int), .int .i64 (x.o.data : Int), .int .i64 (x.o.kind : Int), .slice (some ⟨x.rb, 0, none⟩) x.o.refs x.rc, .slice (some ⟨x.db, 0, none⟩) x.o.data x.dc, .bool x.o.pin] 109)) (.slice (some ⟨W.heap.size, 0, none⟩) 1 1) [x] := by
 refine .inr ⟨W.heap.size, 0, 1, rfl, fun j u hu => ?_⟩
 have B := Blk.new W 109 #[.int .i64 (x.a : Int), .int .i64 (x.o.id : Int), .int .i64 (x.o.refs : Int), .int .i64 (x.o.data : Int), .int .i64 (x.o.kind : Int), .slice (some ⟨x.rb, 0, none⟩) x.o.refs x.rc, .slice (some ⟨x.db, 0, none⟩) x.o.data x.dc, .bool x.o.pin]
 rw [Nat.zero_add, B.cell j]
 have e : ocells [x] = x.cells := by simp [ocells]
 rw [e] at hu
 rw [show (#[.int .i64 (x.a : Int), .int .i64 (x.o.id : Int), .int .i64 (x.o.refs : Int), .int .i64 (x.o.data : Int), .int .i64 (x.o.kind : Int), .slice (some ⟨x.rb, 0, none⟩) x.o.refs x.rc, .slice (some ⟨x.db, 0, none⟩) x.o.data x.dc, .bool x.o.pin] : Array Value) = x.cells.toArray from rfl, List.getElem?_toArray]
 exact hu
theorem d_put (T : DR w d q m) {x : DO} (hx : New1 w d m x) :
   Calls Tryz.prog 138 #[.pointer (some ⟨d.g, 0, none⟩), .agg #[.int .i64 (x.a : Int), .int .i64 (x.o.id : Int), .int .i64 (x.o.refs : Int), .int .i64 (x.o.data : Int), .int .i64 (x.o.kind : Int), .slice (some ⟨x.rb, 0, none⟩) x.o.refs x.rc, .slice (some ⟨x.db, 0, none⟩) x.o.data x.dc, .bool x.o.pin]] w fun e w' => e = .returned (.tuple #[]) ∧ ∃ k v', DR w' { d with ov := v', os := d.os.take k ++ x :: d.os.drop k } q (m.add x.a x.o) ∧ Kp [d.g] w w' ∧ ∀ y, v'.ownBlock = some y → w.heap.size ≤ y := by
 have hlen := T.len
 have HT := hid T
 have HX := hid hx
 have HB0 := hid (Blk.new w 109 #[.int .i64 (x.a : Int), .int .i64 (x.o.id : Int), .int .i64 (x.o.refs : Int), .int .i64 (x.o.data : Int), .int .i64 (x.o.kind : Int), .slice (some ⟨x.rb, 0, none⟩) x.o.refs x.rc, .slice (some ⟨x.db, 0, none⟩) x.o.data x.dc, .bool x.o.pin])
 have HK0 := hid (Kp.new w (.cells #[.int .i64 (x.a : Int), .int .i64 (x.o.id : Int), .int .i64 (x.o.refs : Int), .int .i64 (x.o.data : Int), .int .i64 (x.o.kind : Int), .slice (some ⟨x.rb, 0, none⟩) x.o.refs x.rc, .slice (some ⟨x.db, 0, none⟩) x.o.data x.dc, .bool x.o.pin] 109))
 have hc1 := T.c1
 rcases T.o_form with ⟨hov, h0⟩ | ⟨g, cap, hov, hcl, hcm, hoc, _⟩
 · rw [hov] at hc1
   have HOS := hid h0
   have HC1 := hid hc1
   have hb0 := HB0.out.cell 0
   have HK : Hid (∀ j, j < 0 → ∀ y, d.os[j]? = some y → y.a < x.a) := fun j h => absurd h (by omega)
   have HKE : Hid (∀ y, d.os[0]? = some y → ¬ y.a < x.a) := fun y hy => by rw [h0] at hy; cases hy
   have HL1 : Hid ((d.os.take 0).length = 0) := rfl
   have HL2 : Hid ((d.os.drop 0).length = 0) := by show _ = _; rw [h0]; rfl
   have hc1b := cell_kp HK0.out hc1
   clear T hx hov h0 hc1
   go_enter Tryz.func138, Tryz.ntmps138
   go_wp2
   go_loopw [4] (fun c wr => c = .int .i64 0 ∧ Kp [] (w.alloc (.cells #[.int .i64 (x.a : Int), .int .i64 (x.o.id : Int), .int .i64 (x.o.refs : Int), .int .i64 (x.o.data : Int), .int .i64 (x.o.kind : Int), .slice (some ⟨x.rb, 0, none⟩) x.o.refs x.rc, .slice (some ⟨x.db, 0, none⟩) x.o.data x.dc, .bool x.o.pin] 109)) wr) (fun _ _ => 0)
   case atStart => exact ⟨rfl, Kp.refl _ _⟩
   case round =>
     obtain ⟨rfl, K⟩ := hrel
     have HKW := hid K
     have HKX : Hid (Kp [] w wr) := HK0.out.chain K
     have hc1 := cell_kp HKX.out HC1.out
     have hbr := HB0.out.kp K (by simp)
     have b0 := hbr.cell 0
     clear K hbr
     go_wp2_with (fail)
     go_quiet (fail)
     have HKW2 := hid (HKW.out.drewN nq)
     have HKX2 := hid (HKX.out.drewN nq)
     clear HKW HKX
     generalize wr.drewN nq = wr2 at HKW2 HKX2 ⊢
     have HKW := hid HKW2.out
     have HKX := hid HKX2.out
     clear HKW2 HKX2
     have hc1 := cell_kp HKX.out HC1.out
     go_wp2_with (first
       | (at_builtin; refine wpList_app_objs (l1 := []) (v := .slice none 0 0) (B := w.heap.size) 0 0 rfl HL1.out rfl (.tmp 28) (.tmp 34) rfl rfl rfl (World.ownsRow_nil _ w.heap.size 109 8) HKX.out.size (.inl ⟨rfl, by rw [HOS.out]; rfl⟩) (by omega) ?_; intro A1 c1 w1 own1 k1; rw [List.nil_append, Nat.zero_add] at own1; rw [Nat.zero_add]; have HO1 := hid own1; have hk1 : Kp [] w w1 := HKX.out.chain k1; have HK1 := hid hk1; have hc2 := cell_kp hk1 HC1.out; have hb2 := HB0.out.kp (HKW.out.chain k1) (by simp); have q0 := hb2.cell 0; have q1 := hb2.cell 1; have q2 := hb2.cell 2; have q3 := hb2.cell 3; have q4 := hb2.cell 4; have q5 := hb2.cell 5; have q6 := hb2.cell 6; have q7 := hb2.cell 7; clear own1 k1 hk1 hb2)
       | (at_builtin; refine wpList_app_objs (l1 := d.os.take 0) (v := .slice A1 0 c1) (B := w.heap.size) 0 1 HL1.out rfl rfl (.tmp 36) (.tmp 38) rfl rfl rfl (own_kp0 HO1.out (Kp.new _ _)) (HK1.out.chain (Kp.new _ _)).size (srcO_one w1 x) (by omega) ?_; intro A2 c2 w2 own2 k2; have HO2 := hid own2; have hk2 : Kp [] w w2 := kp_new2 (HK1.out.chain (Kp.new _ _)) k2 (fun y hy => own_geD HO1.out y (by simpa using hy)); have HK2 := hid hk2; have hc3 := cell_kp hk2 HC1.out; clear own2 k2 hk2)
       | (at_builtin; refine wpList_app_objs (l1 := d.os.take 0 ++ [x]) (v := .slice A2 (0 + 1) c2) (B := w.heap.size) (0 + 1) 0 (by rw [List.length_append, HL1.out]; rfl) HL2.out rfl (.tmp 41) (.tmp 47) rfl rfl rfl HO2.out HK2.out.size (.inl ⟨rfl, by rw [HOS.out]; rfl⟩) (by omega) ?_; intro A3 c3 w3 own3 k3; have HO3 := hid own3; have hk3 : Kp [] w w3 := kp_new2 HK2.out k3 (fun y hy => own_geD HO2.out y (by simpa using hy)); have HK3 := hid hk3; have hc4 := (HT.out.kp0 hk3).c1; have hf4 := (HT.out.kp0 hk3).g_fr 1; clear own3 k3 hk3))
     all_goals go_wp2
     all_goals go_end0
     all_goals exact ⟨rfl, 0, _, put_end HT.out HX.out HK.out HKE.out HK3.out HO3.out (by rw [List.length_append, List.length_cons, HL1.out, HL2.out]; first | done | omega)⟩
 · rw [hov] at hc1
   unfold maxLen at hcm
   have HC1 := hid hc1
   have HOV := hid hov
   have HOC := hid hoc
   have HCL := hid hcl
   clear T hx hov hoc hc1
   go_enter Tryz.func138, Tryz.ntmps138
   go_wp2
   go_loopw [4] (fun c wr => ∃ k : Nat, k ≤ d.os.length ∧ Hid (∀ j, j < k → ∀ y, d.os[j]? = some y → y.a < x.a) ∧ c = .int .i64 (k : Int) ∧ Kp [] (w.alloc (.cells #[.int .i64 (x.a : Int), .int .i64 (x.o.id : Int), .int .i64 (x.o.refs : Int), .int .i64 (x.o.data : Int), .int .i64 (x.o.kind : Int), .slice (some ⟨x.rb, 0, none⟩) x.o.refs x.rc, .slice (some ⟨x.db, 0, none⟩) x.o.data x.dc, .bool x.o.pin] 109)) wr) (fun c _ => d.os.length - (intOf c).toNat)
   case atStart => exact ⟨0, by omega, (fun j h => absurd h (by omega)), by go_num, Kp.refl _ _⟩
   case round =>
     obtain ⟨k, hk, HK, rfl, K⟩ := hrel
     have HKW := hid K
     have HKX : Hid (Kp [] w wr) := HK0.out.chain K
     have hc1 := cell_kp HKX.out HC1.out
     have hbr := HB0.out.kp K (by simp)
     have b0 := hbr.cell 0
     clear K hbr
     have HS1 := hid (HT.out.src_take HOV.out k cap hk)
     have HS2 := hid (fun c n hn => HT.out.src_dropI HOV.out HCL.out k c n hn hk)
     have HS3 := hid (fun c n hn => HT.out.src_drop HOV.out k c n hn)
     have HL1 : Hid ((d.os.take k).length = k) := by show _ = _; rw [List.length_take]; omega
     by_cases hlt : k < d.os.length
     · obtain ⟨y, hy⟩ := get_some hlt
       have o0 : wr.cell? ⟨g, k * 8, none⟩ = some (.int .i64 (y.a : Int)) := cell_kp HKX.out (HOC.out k y 0 hy (by omega))
       have d0 : decide (k < d.os.length) = true := decide_eq_true hlt
       by_cases hya : y.a < x.a
       · have d1 : decide (y.a < x.a) = true := decide_eq_true hya
         have HK' : Hid (∀ j, j < k + 1 → ∀ y, d.os[j]? = some y → y.a < x.a) := fun j h1 z hz => by
           by_cases hj : j < k
           · exact HK.out j hj z hz
           · obtain rfl : j = k := by omega
             rw [hy] at hz; cases hz; exact hya
         clear hy hya
         go_wp2_with (fail)
         go_quiet (fail)
         go_wp2
         go_roundw
         case rel => exact ⟨k + 1, by omega, HK', by go_num, by first | exact kp_drew HKW.out | exact HKW.out.drewN _ | exact HKW.out⟩
         case measure => simp [intOf]; omega
       · have d1 : decide (y.a < x.a) = false := decide_eq_false hya
         have HKE : Hid (∀ y, d.os[k]? = some y → ¬ y.a < x.a) := fun z hz => by rw [hy] at hz; cases hz; exact hya
         have HL2 : Hid ((d.os.drop k).length = d.os.length - k) := by show _ = _; rw [List.length_drop]
         clear hy hya
         go_wp2_with (fail)
         go_quiet (fail)
         have HKW2 := hid (HKW.out.drewN nq)
         have HKX2 := hid (HKX.out.drewN nq)
         clear HKW HKX
         generalize wr.drewN nq = wr2 at HKW2 HKX2 ⊢
         have HKW := hid HKW2.out
         have HKX := hid HKX2.out
         clear HKW2 HKX2
         have hc1 := cell_kp HKX.out HC1.out
         go_wp2_with (first
           | (at_builtin; refine wpList_app_objs (l1 := []) (v := .slice none 0 0) (B := w.heap.size) 0 k rfl HL1.out rfl (.tmp 28) (.tmp 34) rfl rfl rfl (World.ownsRow_nil _ w.heap.size 109 8) HKX.out.size (HS1.out.kp HKX.out) (by omega) ?_; intro A1 c1 w1 own1 k1; rw [List.nil_append, Nat.zero_add] at own1; rw [Nat.zero_add]; have HO1 := hid own1; have hk1 : Kp [] w w1 := HKX.out.chain k1; have HK1 := hid hk1; have hc2 := cell_kp hk1 HC1.out; have hb2 := HB0.out.kp (HKW.out.chain k1) (by simp); have q0 := hb2.cell 0; have q1 := hb2.cell 1; have q2 := hb2.cell 2; have q3 := hb2.cell 3; have q4 := hb2.cell 4; have q5 := hb2.cell 5; have q6 := hb2.cell 6; have q7 := hb2.cell 7; clear own1 k1 hk1 hb2)
           | (at_builtin; refine wpList_app_objs (l1 := d.os.take k) (v := .slice A1 k c1) (B := w.heap.size) k 1 HL1.out rfl rfl (.tmp 36) (.tmp 38) rfl rfl rfl (own_kp0 HO1.out (Kp.new _ _)) (HK1.out.chain (Kp.new _ _)).size (srcO_one w1 x) (by omega) ?_; intro A2 c2 w2 own2 k2; have HO2 := hid own2; have hk2 : Kp [] w w2 := kp_new2 (HK1.out.chain (Kp.new _ _)) k2 (fun y hy => own_geD HO1.out y (by simpa using hy)); have HK2 := hid hk2; have hc3 := cell_kp hk2 HC1.out; clear own2 k2 hk2)
           | (at_builtin; refine wpList_app_objs (l1 := d.os.take k ++ [x]) (v := .slice A2 (k + 1) c2) (B := w.heap.size) (k + 1) (d.os.length - k) (by rw [List.length_append, HL1.out]; rfl) HL2.out rfl (.tmp 41) (.tmp 47) rfl rfl rfl HO2.out HK2.out.size (by first | exact ((HS2.out _ _ (by omega)).kp HK2.out) | exact ((HS3.out _ _ (by omega)).kp HK2.out)) (by omega) ?_; intro A3 c3 w3 own3 k3; have HO3 := hid own3; have hk3 : Kp [] w w3 := kp_new2 HK2.out k3 (fun y hy => own_geD HO2.out y (by simpa using hy)); have HK3 := hid hk3; have hc4 := (HT.out.kp0 hk3).c1; have hf4 := (HT.out.kp0 hk3).g_fr 1; clear own3 k3 hk3))
         all_goals go_wp2
         all_goals go_end0
         all_goals exact ⟨rfl, k, _, put_end HT.out HX.out HK.out HKE.out HK3.out HO3.out (by rw [List.length_append, List.length_cons, HL1.out, HL2.out]; first | done | omega)⟩
     · have HKE : Hid (∀ y, d.os[k]? = some y → ¬ y.a < x.a) := fun z hz => by have := (List.getElem?_eq_some_iff.1 hz).1; omega
       have d0 : decide (k < d.os.length) = false := decide_eq_false hlt
       have hle : d.os.length ≤ k := by omega
       have HL2 : Hid ((d.os.drop k).length = 0) := by show _ = _; rw [List.length_drop]; omega
       go_wp2_with (fail)
       go_quiet (fail)
       have HKW2 := hid (HKW.out.drewN nq)
       have HKX2 := hid (HKX.out.drewN nq)
       clear HKW HKX
       generalize wr.drewN nq = wr2 at HKW2 HKX2 ⊢
       have HKW := hid HKW2.out
       have HKX := hid HKX2.out
       clear HKW2 HKX2
       have hc1 := cell_kp HKX.out HC1.out
       go_wp2_with (first
         | (at_builtin; refine wpList_app_objs (l1 := []) (v := .slice none 0 0) (B := w.heap.size) 0 k rfl HL1.out rfl (.tmp 28) (.tmp 34) rfl rfl rfl (World.ownsRow_nil _ w.heap.size 109 8) HKX.out.size (HS1.out.kp HKX.out) (by omega) ?_; intro A1 c1 w1 own1 k1; rw [List.nil_append, Nat.zero_add] at own1; rw [Nat.zero_add]; have HO1 := hid own1; have hk1 : Kp [] w w1 := HKX.out.chain k1; have HK1 := hid hk1; have hc2 := cell_kp hk1 HC1.out; have hb2 := HB0.out.kp (HKW.out.chain k1) (by simp); have q0 := hb2.cell 0; have q1 := hb2.cell 1; have q2 := hb2.cell 2; have q3 := hb2.cell 3; have q4 := hb2.cell 4; have q5 := hb2.cell 5; have q6 := hb2.cell 6; have q7 := hb2.cell 7; clear own1 k1 hk1 hb2)
         | (at_builtin; refine wpList_app_objs (l1 := d.os.take k) (v := .slice A1 k c1) (B := w.heap.size) k 1 HL1.out rfl rfl (.tmp 36) (.tmp 38) rfl rfl rfl (own_kp0 HO1.out (Kp.new _ _)) (HK1.out.chain (Kp.new _ _)).size (srcO_one w1 x) (by omega) ?_; intro A2 c2 w2 own2 k2; have HO2 := hid own2; have hk2 : Kp [] w w2 := kp_new2 (HK1.out.chain (Kp.new _ _)) k2 (fun y hy => own_geD HO1.out y (by simpa using hy)); have HK2 := hid hk2; have hc3 := cell_kp hk2 HC1.out; clear own2 k2 hk2)
         | (at_builtin; refine wpList_app_objs (l1 := d.os.take k ++ [x]) (v := .slice A2 (k + 1) c2) (B := w.heap.size) (k + 1) 0 (by rw [List.length_append, HL1.out]; rfl) HL2.out rfl (.tmp 41) (.tmp 47) rfl rfl rfl HO2.out HK2.out.size (by first | exact ((HS2.out _ _ (by omega)).kp HK2.out) | exact ((HS3.out _ _ (by omega)).kp HK2.out)) (by omega) ?_; intro A3 c3 w3 own3 k3; have HO3 := hid own3; have hk3 : Kp [] w w3 := kp_new2 HK2.out k3 (fun y hy => own_geD HO2.out y (by simpa using hy)); have HK3 := hid hk3; have hc4 := (HT.out.kp0 hk3).c1; have hf4 := (HT.out.kp0 hk3).g_fr 1; clear own3 k3 hk3))
       all_goals go_wp2
       all_goals go_end0
       all_goals exact ⟨rfl, k, _, put_end HT.out HX.out HK.out HKE.out HK3.out HO3.out (by rw [List.length_append, List.length_cons, HL1.out, HL2.out]; first | done | omega)⟩
end
end Go.Proofs.YthndilllnneijaaGreat
