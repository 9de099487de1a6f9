/-
  The contract of the document's heap's Clone. Conditions: those that stand in each theorem.
-/
import Derived.BigQuiet
import Derived.Deep.RegionHeldLaw
import Derived.Deep.RegionLawGrows
import Derived.Deep.AppendLies
import Derived.Deep.RegionLaw
import Derived.Test.YthndilllnneijaaGreatPG22
set_option linter.unusedSimpArgs false
set_option linter.unusedVariables false
set_option maxRecDepth 100000
set_option maxHeartbeats 2000000
namespace Go.Proofs.YthndilllnneijaaGreat
open Go.RowKit Go.Deep Go.Maps
theorem wpList_copy_rowz {W : World} {ops : Array Oper} {rest : List Oper} {o : Oper} {a : Act} {Q : Exit → Act → World → Prop} (hgd : o.guard = none) (s x : Operand)
   (ho : o.op = .call { callee := .builtin .append, args := #[s, x], argTypes := #[59, 59] }) (z : Nat) (hs : a.eval s = .slice (some ⟨z, 0, none⟩) 0 0) (hz : W.heap.size = z)
   {rb m c : Nat} {zs : List Int} {sp : List Value} (hx : a.eval x = .slice (some ⟨rb, 0, none⟩) m c) (B : Blk W rb 3 (zcells zs ++ sp).toArray) (hm : zs.length = m) (h3 : m ≤ 1000)
   (h : ∀ g c' W' sp', W.heap.size ≤ g → Blk W' g 3 (zcells zs ++ sp').toArray → Kp [] W W' → wpList Tryz.prog ops Q rest (a.put o.dst (.slice (some ⟨g, 0, none⟩) m c')) W') :
   wpList Tryz.prog ops Q (o :: rest) a (W.alloc (.cells #[] 3)) := by
 subst hz
 exact wpList_copy_row hgd s x ho hs hx B hm h3 h
section
variable {w w' W w1 : World} {d : DB} {m m' : HM} {q p : Nat}
theorem bc_src (T : DR w d p m) : ∀ (j : Nat) (u : Value), (bcells m.bl)[j]? = some u → w.cell? ((⟨d.bb, 0, none⟩ : Addr).add j) = some u := by
 obtain ⟨sp, _, _, _, B⟩ := T.B
 exact fun j u hu => blk_read B j u hu
theorem rcells_one (l : List (Nat × Nat)) : ∀ u ∈ rcells l, u.oneCell' = true := by
 intro u hu
 simp only [rcells, List.mem_flatMap] at hu
 obtain ⟨x, _, h⟩ := hu
 simp at h
 rcases h with rfl | rfl <;> rfl
theorem fs_src (T : DR w d p m) {g c : Nat} (hv : d.fv = .slice (some ⟨g, 0, none⟩) d.fs.length c) : ∀ (j : Nat) (u : Value), (rcells d.fs)[j]? = some u → w.cell? ((⟨g, 0, none⟩ : Addr).add j) = some u := by
 have Q := T.F
 have hl := Q.1
 intro j u hu
 rw [hv] at Q
 have h := Q.cellAt j (by have := (List.getElem?_eq_some_iff.1 hu).1; omega)
 have e : (⟨g, 0, none⟩ : Addr).add j = ⟨g, j, none⟩ := by unfold Addr.add; split <;> simp_all
 rw [e, h]
 exact hu
theorem gc_after {wr W w9 : World} {gc b8 c8 N i : Nat} {v v9 : Value} {ys : List DO} (H : CK w1 d m p gc b8 c8 v9 N) (C : CI w1 wr d m gc b8 c8 v9 N i v ys) (K : Kp [] wr W) (gr : W.grownBy w9 v.ownBlock) : Blk w9 gc 101 #[.slice (some ⟨b8, 0, none⟩) m.bl.length c8, v, v9, .int .i64 (m.born : Int)] :=
 (C.G.kp K (by simp)).kp (Kp.of_grown gr) (fun hm => by
   rw [Option.mem_toList] at hm
   have := own_geD C.O _ hm
   have := H.gc1
   omega)
theorem clone_start (T : DR w1 d p m) {W8 W9 X Y L : World} {A8 A9 : Option Addr} {c8 c9 : Nat} (hn : 0 < m.bl.length)
   (own8 : X.ownsRow W8.heap.size 146 2 (.slice A8 (0 + m.bl.length) c8) (0 + m.bl.length) ([] ++ bcells m.bl)) (own9 : Y.ownsRow W9.heap.size 150 2 (.slice A9 (0 + d.fs.length) c9) (0 + d.fs.length) ([] ++ rcells d.fs))
   (k1 : Kp [] w1 W8) (k2 : Kp [] w1 W9) (k3 : Kp [] X L) (k4 : Kp [] Y L) (k5 : Kp [] w1 L) (sep : X.heap.size ≤ W9.heap.size ∨ Y.heap.size ≤ W8.heap.size) :
   ∃ b8 gc N, A8 = some ⟨b8, 0, none⟩ ∧ gc = L.heap.size ∧ CK w1 d m p gc b8 c8 (.slice A9 d.fs.length c9) N ∧ CI w1 (L.alloc (.cells #[.slice A8 m.bl.length c8, .slice none 0 0, .slice A9 d.fs.length c9, .int .i64 (m.born : Int)] 101)) d m gc b8 c8 (.slice A9 d.fs.length c9) N 0 (.slice none 0 0) [] := by
 rw [Nat.zero_add, List.nil_append] at own8 own9
 obtain ⟨b8, c', sp, he, hg, hB, h1, h2, h3⟩ := own_form2 own8 hn
 injection he with e1 e2 e3
 subst e1 e3
 have l8 := hB.lt
 have s3 := k3.size
 have s4 := k4.size
 have s1 := k1.size
 have s2 := k2.size
 generalize hv9 : (Value.slice A9 d.fs.length c9) = v9 at own9 ⊢
 have hl9 : ∀ y, v9.ownBlock = some y → W9.heap.size ≤ y ∧ y < Y.heap.size := fun y hy => ⟨own_geD own9 y hy, own_lt own9 y hy⟩
 have KN := Kp.new L (.cells #[.slice (some ⟨b8, 0, none⟩) m.bl.length c8, .slice none 0 0, v9, .int .i64 (m.born : Int)] 101)
 refine ⟨b8, L.heap.size, L.heap.size + 1, rfl, rfl, ⟨T, k5.size, by omega, by omega, by omega, by omega, fun y hy => ?_, h1, h2⟩, ⟨Blk.new L 101 _, ⟨sp, by omega, (hB.kp k3 (by simp)).kp KN (by simp)⟩, own_base (own_kp0 (own_kp0 own9 k4) KN) (by omega), ⟨rfl, .inl ⟨rfl, rfl⟩⟩, (by simp), (fun y hy => by cases hy), (by simp [rowsOf]), (fun y hy => by simp [rowsOf] at hy), (fun y hy => by simp [Value.ownBlock] at hy), (by simp), k5.chain KN⟩⟩
 have := hl9 y hy
 refine ⟨by omega, by omega, by omega, ?_⟩
 rintro rfl
 rcases sep with h | h <;> omega
theorem keepC {g i j k : Nat} {x y z : Value} (h1 : w1.cell? ⟨g, i, none⟩ = some x) (h2 : w1.cell? ⟨g, j, none⟩ = some y) (h3 : w1.cell? ⟨g, k, none⟩ = some z) (hk : Kp [] w1 W) : W.cell? ⟨g, i, none⟩ = some x ∧ W.cell? ⟨g, j, none⟩ = some y ∧ W.cell? ⟨g, k, none⟩ = some z ∧ Kp [] w1 W := ⟨kp_cellD hk h1, kp_cellD hk h2, kp_cellD hk h3, hk⟩
theorem d_clone_some (T : DR w d p m) (hp : p ≤ 1000000000) (hnf : d.fs.length ≠ 0) :
   Calls Tryz.prog 15 #[.pointer (some ⟨d.g, 0, none⟩)] w fun e w' => ∃ c : DB, e = .returned (.pointer (some ⟨c.g, 0, none⟩)) ∧ DR w' c p m ∧ Kp [] w w' ∧ ∀ x ∈ c.all, w.heap.size ≤ x := by
 obtain ⟨i0, hi0, hz0, hz1, hz2⟩ := info_parts infoBlockD
 obtain ⟨j0, hj0, hy0, hy1, hy2⟩ := info_parts infoMove
 have hnb := T.n_bd
 obtain ⟨A, cf, hfv⟩ := T.f_len
 have HFV := hid hfv
 have hfq := T.fq
 have HT := hid T
 have HNB := hid hnb
 obtain ⟨AO, co, hov⟩ := T.o_len
 have HOV := hid hov
 clear T hfv hov
 · obtain ⟨gf, rfl⟩ : ∃ g, A = some ⟨g, 0, none⟩ := by
     rcases HT.out.f_form with ⟨_, h0⟩ | ⟨g, cap', hv, _⟩
     · rw [h0] at hnf; exact absurd rfl hnf
     · rw [HFV.out] at hv
       injection hv with hv
       exact ⟨g, hv⟩
   go_enter Tryz.func15, Tryz.ntmps15
   go_wp2_with (go_at_call 60; refine (d_made HT.out).mono ?_; rintro e w1 ⟨rfl, h1⟩; have HK1 := hid (Kp.of_drewN h1); clear h1)
   have T1 := HT.out.kp0 HK1.out
   have HT1 := hid T1
   have c0 := T1.c0
   have c2 := T1.c2
   have c3 := T1.c3
   rw [HFV.out] at c2
   clear T1
   have k1 := Kp.draw w1 1
   have v0 := kp_cellD k1 c0
   have v2 := kp_cellD k1 c2
   have v3 := kp_cellD k1 c3
   go_region_held_law (fun W => W.cell? ⟨d.g, 0, none⟩ = some (.slice (some ⟨d.bb, 0, none⟩) m.bl.length d.bc) ∧ W.cell? ⟨d.g, 2, none⟩ = some (.slice (some ⟨gf, 0, none⟩) d.fs.length cf) ∧ W.cell? ⟨d.g, 3, none⟩ = some (.int .i64 (m.born : Int)) ∧ Kp [] w1 W) ((refine keepC c0 c2 c3 ?_; repeat (first | exact Kp.refl _ _ | assumption | refine Kp.chain ?_ (Kp.new _ _) | refine Kp.chain ?_ (Kp.draw _ 1) | refine Kp.chain ?_ (by assumption))))
     (first
       | (refine step_append_grows rfl (.tmp 9) (.tmp 13) 97 rfl 146 i0 (.agg #[.int .i64 0, .int .i64 0]) 2 16 Tryz.underlying97 hi0 hz0 hz1 hz2 rfl (by decide) (some ⟨_, 0, none⟩) 0 0 [] (by rfl) (by simp) rfl (by simp) ⟨d.bb, 0, none⟩ m.bl.length d.bc (bcells m.bl) (by rfl) (bcells_length m.bl) (bc_src (HT1.out.kp0 (by repeat (first | exact Kp.refl _ _ | assumption | refine Kp.chain ?_ (Kp.new _ _) | refine Kp.chain ?_ (Kp.draw _ 1) | refine Kp.chain ?_ (by assumption))))) bcells_one (by omega) (by unfold maxLen; omega) (by omega) ?_; intro v8 w8 hown8 hgr8; obtain ⟨A8, c8, rfl⟩ := own_sl hown8; have hk8 := Kp.of_grown hgr8; have HO8 := hid hown8; clear hown8 hgr8)
       | (refine step_append_grows rfl (.tmp 15) (.tmp 19) 99 rfl 150 j0 (.agg #[.int .i64 0, .int .i64 0]) 2 16 Tryz.underlying99 hj0 hy0 hy1 hy2 rfl (by decide) (some ⟨_, 0, none⟩) 0 0 [] (by rfl) (by simp) rfl (by simp) ⟨gf, 0, none⟩ d.fs.length cf (rcells d.fs) (by rfl) (rcells_length d.fs) (fs_src (HT1.out.kp0 (by repeat (first | exact Kp.refl _ _ | assumption | refine Kp.chain ?_ (Kp.new _ _) | refine Kp.chain ?_ (Kp.draw _ 1) | refine Kp.chain ?_ (by assumption)))) HFV.out) (rcells_one d.fs) (by omega) (by unfold maxLen; omega) (by omega) ?_; intro v9 w9 hown9 hgr9; obtain ⟨A9, c9, rfl⟩ := own_sl hown9; have hk9 := Kp.of_grown hgr9; have HO9 := hid hown9; clear hown9 hgr9))
   all_goals (first
     | (obtain ⟨b8, gc, N, rfl, hgc, K0, C0⟩ := clone_start HT1.out (L := w9) (by omega) HO8.out HO9.out (by repeat (first | exact Kp.refl _ _ | assumption | refine Kp.chain ?_ (Kp.new _ _) | refine Kp.chain ?_ (Kp.draw _ 1) | refine Kp.chain ?_ (by assumption))) (by repeat (first | exact Kp.refl _ _ | assumption | refine Kp.chain ?_ (Kp.new _ _) | refine Kp.chain ?_ (Kp.draw _ 1) | refine Kp.chain ?_ (by assumption))) (by repeat (first | exact Kp.refl _ _ | assumption | refine Kp.chain ?_ (Kp.new _ _) | refine Kp.chain ?_ (Kp.draw _ 1) | refine Kp.chain ?_ (by assumption))) (by repeat (first | exact Kp.refl _ _ | assumption | refine Kp.chain ?_ (Kp.new _ _) | refine Kp.chain ?_ (Kp.draw _ 1) | refine Kp.chain ?_ (by assumption))) (by repeat (first | exact Kp.refl _ _ | assumption | refine Kp.chain ?_ (Kp.new _ _) | refine Kp.chain ?_ (Kp.draw _ 1) | refine Kp.chain ?_ (by assumption))) (.inl (show Kp [] w8 _ from (by repeat (first | exact Kp.refl _ _ | assumption | refine Kp.chain ?_ (Kp.new _ _) | refine Kp.chain ?_ (Kp.draw _ 1) | refine Kp.chain ?_ (by assumption)))).size))
     | (obtain ⟨b8, gc, N, rfl, hgc, K0, C0⟩ := clone_start HT1.out (L := w8) (by omega) HO8.out HO9.out (by repeat (first | exact Kp.refl _ _ | assumption | refine Kp.chain ?_ (Kp.new _ _) | refine Kp.chain ?_ (Kp.draw _ 1) | refine Kp.chain ?_ (by assumption))) (by repeat (first | exact Kp.refl _ _ | assumption | refine Kp.chain ?_ (Kp.new _ _) | refine Kp.chain ?_ (Kp.draw _ 1) | refine Kp.chain ?_ (by assumption))) (by repeat (first | exact Kp.refl _ _ | assumption | refine Kp.chain ?_ (Kp.new _ _) | refine Kp.chain ?_ (Kp.draw _ 1) | refine Kp.chain ?_ (by assumption))) (by repeat (first | exact Kp.refl _ _ | assumption | refine Kp.chain ?_ (Kp.new _ _) | refine Kp.chain ?_ (Kp.draw _ 1) | refine Kp.chain ?_ (by assumption))) (by repeat (first | exact Kp.refl _ _ | assumption | refine Kp.chain ?_ (Kp.new _ _) | refine Kp.chain ?_ (Kp.draw _ 1) | refine Kp.chain ?_ (by assumption))) (.inr (show Kp [] w9 _ from (by repeat (first | exact Kp.refl _ _ | assumption | refine Kp.chain ?_ (Kp.new _ _) | refine Kp.chain ?_ (Kp.draw _ 1) | refine Kp.chain ?_ (by assumption)))).size)))
   all_goals (
     have HCK := hid K0
     have HC0 := hid C0
     rw [← hgc]
     clear K0 C0 hgc HO8 HO9 hk8 hk9 c0 c2 c3 v0 v2 v3 k1
     go_wp2
     go_loopw [4, 5] (fun c _ wr => ∃ (i : Nat) (v : Value) (ys : List DO), i ≤ d.os.length ∧ c = .int .i64 (i : Int) ∧ CI w1 wr d m gc b8 c8 (.slice A9 d.fs.length c9) N i v ys) (fun c _ _ => d.os.length - (intOf c).toNat)
     case atStart => exact ⟨0, _, _, by omega, by first | rfl | go_num, HC0.out⟩
     case round =>
       obtain ⟨i, v, ys, hi, rfl, C⟩ := hrel
       have HC := hid C
       have HTR := hid (HT1.out.kp0 C.k)
       clear C
       have hc1 := HTR.out.c1
       rw [HOV.out] at hc1
       by_cases hlt : i < d.os.length
       · obtain ⟨x, hx⟩ := get_some hlt
         have HX := hid hx
         obtain ⟨go, cap', hov', _, _, _, hO, _⟩ := HTR.out.ocell hx
         rw [HOV.out] at hov'
         cases hov'
         have o0 := hO.c0; have o1 := hO.c1; have o2 := hO.c2; have o3 := hO.c3; have o4 := hO.c4; have o5 := hO.c5; have o6 := hO.c6; have o7 := hO.c7
         have hok := HTR.out.ok hx
         have hbd := hok.bd
         have HL5 := hid (DO.rs_len hok)
         have HL6 := hid (DO.ds_len hok)
         obtain ⟨⟨sp5, B5⟩, ⟨sp6, B6⟩⟩ := HTR.out.R x (List.mem_of_getElem? hx)
         have HB5 := hid B5
         have HB6 := hid B6
         have KB := hid (Kp.new wr (.cells #[.int .i64 (x.a : Int), .int .i64 (x.o.id : Int), .int .i64 (x.o.refs : Int), .int .i64 (x.o.data : Int), .int .i64 (x.o.kind : Int), .slice (some ⟨x.rb, 0, none⟩) x.o.refs x.rc, .slice (some ⟨x.db, 0, none⟩) x.o.data x.dc, .bool x.o.pin] 109))
         have HBX := hid (Blk.new wr 109 #[.int .i64 (x.a : Int), .int .i64 (x.o.id : Int), .int .i64 (x.o.refs : Int), .int .i64 (x.o.data : Int), .int .i64 (x.o.kind : Int), .slice (some ⟨x.rb, 0, none⟩) x.o.refs x.rc, .slice (some ⟨x.db, 0, none⟩) x.o.data x.dc, .bool x.o.pin])
         have b5 := (HBX.out.kp (Kp.new _ (.cells #[] 3)) (by simp)).cell 5
         clear hO hx hok B5 B6
         go_wp2_with (first
           | (at_builtin; refine wpList_copy_rowz rfl (.tmp 43) (.tmp 45) rfl _ (by rfl) (by simp) (by rfl) (HB5.out.kp KB.out (by simp)) HL5.out (by omega) ?_; intro g5 c5 w5 s5 h5 B5 k5; have HG5 : Hid (wr.heap.size + 1 ≤ g5) := (show wr.heap.size + 1 ≤ g5 from (by simpa using h5)); have HY5 := hid B5; have hk5 := KB.out.chain k5; have HK5 : Hid (Kp [] wr (w5.setCell ⟨wr.heap.size, 5, none⟩ (.slice (some ⟨g5, 0, none⟩) x.o.refs c5))) := hk5.trans (Kp.cell _ ⟨wr.heap.size, 5, none⟩ _) (by simp) (by simp); have hbx := HBX.out.kp k5 (by simp); have d5 := hbx.cell 5; have f5 := hbx.frozen 5; have HBY := hid (hbx.set_ 5 (.slice (some ⟨g5, 0, none⟩) x.o.refs c5)); have b6 := (HBY.out.kp (Kp.new _ (.cells #[] 3)) (by simp)).cell 6; clear B5 k5 h5 hbx hk5)
           | (at_builtin; refine wpList_copy_rowz rfl (.tmp 48) (.tmp 50) rfl _ (by rfl) (by simp) (by rfl) (HB6.out.kp HK5.out (by simp)) HL6.out (by omega) ?_; intro g6 c6 w6 s6 h6 B6 k6; have HG6 : Hid (g5 < g6) := (by have := HY5.out.lt; have h : w5.heap.size ≤ g6 := (by simpa using h6); exact Nat.lt_of_lt_of_le this h); have HY6 := hid B6; have HY5' := hid ((HY5.out.kp (Kp.cell w5 ⟨wr.heap.size, 5, none⟩ (.slice (some ⟨g5, 0, none⟩) x.o.refs c5)) (by have := HG5.out; simp; omega)).kp k6 (by simp)); have HK6 := hid (HK5.out.chain k6); have hbx := HBY.out.kp k6 (by simp); have d6 := hbx.cell 6; have f6 := hbx.frozen 6; have HBZ := hid hbx; clear B6 k6 h6 hbx d5 f5 b5 b6)
           )
         have HBW : Hid (Blk (w6.setCell ⟨wr.heap.size, 6, none⟩ (.slice (some ⟨g6, 0, none⟩) x.o.data c6)) wr.heap.size 109 #[.int .i64 (x.a : Int), .int .i64 (x.o.id : Int), .int .i64 (x.o.refs : Int), .int .i64 (x.o.data : Int), .int .i64 (x.o.kind : Int), .slice (some ⟨g5, 0, none⟩) x.o.refs c5, .slice (some ⟨g6, 0, none⟩) x.o.data c6, .bool x.o.pin]) := HBZ.out.set_ 6 (.slice (some ⟨g6, 0, none⟩) x.o.data c6)
         have HK7 : Hid (Kp [] wr (w6.setCell ⟨wr.heap.size, 6, none⟩ (.slice (some ⟨g6, 0, none⟩) x.o.data c6))) := HK6.out.trans (Kp.cell _ ⟨wr.heap.size, 6, none⟩ _) (by simp) (by simp)
         have HZ5 : Hid (Blk (w6.setCell ⟨wr.heap.size, 6, none⟩ (.slice (some ⟨g6, 0, none⟩) x.o.data c6)) g5 3 (zcells x.rs ++ s5).toArray) := HY5'.out.kp (Kp.cell _ ⟨wr.heap.size, 6, none⟩ _) (by have := HG5.out; simp; omega)
         have HZ6 : Hid (Blk (w6.setCell ⟨wr.heap.size, 6, none⟩ (.slice (some ⟨g6, 0, none⟩) x.o.data c6)) g6 3 (zcells x.ds ++ s6).toArray) := HY6.out.kp (Kp.cell _ ⟨wr.heap.size, 6, none⟩ _) (by have := HG5.out; have := HG6.out; simp; omega)
         generalize w6.setCell ⟨wr.heap.size, 6, none⟩ (.slice (some ⟨g6, 0, none⟩) x.o.data c6) = w7 at HBW HK7 HZ5 HZ6 ⊢
         generalize hgb : wr.heap.size = gb at HBW HG5 ⊢
         have HGB := hid hgb
         clear hgb d6 f6
         have hbw := HBW.out
         have b0 := hbw.cell 0; have b1 := hbw.cell 1; have b2 := hbw.cell 2; have b3 := hbw.cell 3; have b4 := hbw.cell 4; have b5 := hbw.cell 5; have b6 := hbw.cell 6; have b7 := hbw.cell 7
         clear hbw
         have C7 := HC.out.kp0 HK7.out
         have z1 : w7.cell? ⟨gc, 1, none⟩ = some v := C7.G.cell 1
         have z1a : (w7.alloc (.cells #[.int .i64 (x.a : Int), .int .i64 (x.o.id : Int), .int .i64 (x.o.refs : Int), .int .i64 (x.o.data : Int), .int .i64 (x.o.kind : Int), .slice (some ⟨g5, 0, none⟩) x.o.refs c5, .slice (some ⟨g6, 0, none⟩) x.o.data c6, .bool x.o.pin] 109)).cell? ⟨gc, 1, none⟩ = some v := cell_kp (Kp.new w7 _) z1
         have HC7 := hid C7
         clear C7
         have hvv : Hid (∃ A cc, v = .slice A i cc) := own_sl HC.out.O
         obtain ⟨A, cc, rfl⟩ := hvv.out
         obtain ⟨k0, hk0, hx0, hx1, hx2⟩ := info_parts infoObj
         have HNW : Hid (∀ W, Blk W w7.heap.size 109 #[.int .i64 (x.a : Int), .int .i64 (x.o.id : Int), .int .i64 (x.o.refs : Int), .int .i64 (x.o.data : Int), .int .i64 (x.o.kind : Int), .slice (some ⟨g5, 0, none⟩) x.o.refs c5, .slice (some ⟨g6, 0, none⟩) x.o.data c6, .bool x.o.pin] → ∀ (j : Nat) (u : Value), (⟨x.a, x.o, g5, c5, g6, c6⟩ : DO).cells[j]? = some u → W.cell? ((⟨w7.heap.size, 0, none⟩ : Addr).add j) = some u) := fun W hB => World.news_of_block hB
         have HONE : Hid (∀ u ∈ (⟨x.a, x.o, g5, c5, g6, c6⟩ : DO).cells, u.oneCell' = true) := fun u hu => ocells_one [(⟨x.a, x.o, g5, c5, g6, c6⟩ : DO)] u (by simpa [ocells] using hu)
         have hdl := HTR.out.len
         go_wp2_with (fail)
         go_region_law (refine step_append_lies _ (by rfl) (.tmp 57) (.tmp 59) 98 (by rfl) N 109 k0 (.agg #[.int .i64 0, .int .i64 0, .int .i64 0, .int .i64 0, .int .i64 0, .slice none 0 0, .slice none 0 0, .bool false]) 8 96 Tryz.underlying98 hk0 hx0 hx1 hx2 rfl (by decide) (.slice A i cc) i (ocells ys) (by rfl) (own_kp0 HC7.out.O (by repeat (first | exact Kp.refl _ _ | assumption | refine Kp.chain ?_ (Kp.new _ _) | refine Kp.chain ?_ (Kp.draw _ 1) | refine Kp.chain ?_ (by assumption)))) ⟨w7.heap.size, 0, none⟩ 1 1 (⟨x.a, x.o, g5, c5, g6, c6⟩ : DO).cells (by rfl) rfl (HNW.out _ (by first | exact Blk.new _ _ _ | exact (Blk.new _ _ _).kp (Kp.draw _ 1) (by simp))) HONE.out (by omega) (by unfold maxLen; omega) (by omega) (Nat.le_trans HC7.out.sz (show Kp [] w7 _ from (by repeat (first | exact Kp.refl _ _ | assumption | refine Kp.chain ?_ (Kp.new _ _) | refine Kp.chain ?_ (Kp.draw _ 1) | refine Kp.chain ?_ (by assumption)))).size) (w7.heap.size + 1) (by simp [World.drew]) ?_; intro g9 cap9 w9 hown hgr hat hlt9; have hG9 := gc_after HCK.out HC7.out (by repeat (first | exact Kp.refl _ _ | assumption | refine Kp.chain ?_ (Kp.new _ _) | refine Kp.chain ?_ (Kp.draw _ 1) | refine Kp.chain ?_ (by assumption))) hgr; have z9 := hG9.cell 1; have f9 := hG9.frozen 1; have HST := hid (CI.step HCK.out HC.out HX.out (c5 := c5) (c6 := c6) (HK7.out.chain (by repeat (first | exact Kp.refl _ _ | assumption | refine Kp.chain ?_ (Kp.new _ _) | refine Kp.chain ?_ (Kp.draw _ 1) | refine Kp.chain ?_ (by assumption)))) ⟨s5, Blk.kp (S := []) HZ5.out (by repeat (first | exact Kp.refl _ _ | assumption | refine Kp.chain ?_ (Kp.new _ _) | refine Kp.chain ?_ (Kp.draw _ 1) | refine Kp.chain ?_ (by assumption))) (by simp)⟩ ⟨s6, Blk.kp (S := []) HZ6.out (by repeat (first | exact Kp.refl _ _ | assumption | refine Kp.chain ?_ (Kp.new _ _) | refine Kp.chain ?_ (Kp.draw _ 1) | refine Kp.chain ?_ (by assumption))) (by simp)⟩ (by have := HGB.out; have := HG5.out; omega) (by have := HGB.out; have := HG5.out; have := HG6.out; omega) (by have := HG6.out; omega) hown hgr (hat.imp id (fun e => e.trans (by simp [World.drew])))); clear hG9 hown hgr hat hlt9)
         all_goals (
           go_wp2
           go_roundw
           case rel => first | exact ⟨i + 1, _, _, by omega, by go_num, HST.out⟩ | ((repeat apply Exists.intro); exact ⟨⟨i + 1, _, _, by omega, by go_num, HST.out⟩, rfl⟩)
           case measure => simp [intOf]; omega)
       · obtain rfl : i = d.os.length := by omega
         go_wp2
         go_ret
         obtain ⟨D, N9⟩ := HC.out.done HCK.out
         exact ⟨_, rfl, D, HK1.out.chain HC.out.k, fun y hy => Nat.le_trans HK1.out.size (N9 y hy)⟩)
end
end Go.Proofs.YthndilllnneijaaGreat
