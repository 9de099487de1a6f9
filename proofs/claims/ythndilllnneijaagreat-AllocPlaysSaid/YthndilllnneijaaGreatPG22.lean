/-
  Copies of rows of numbers. Conditions: those that stand in each theorem.
-/
import Derived.Test.YthndilllnneijaaGreatPG15
import Derived.Test.YthndilllnneijaaGreatPG21
import Derived.Test.YthndilllnneijaaGreatPG18
set_option linter.unusedSimpArgs false
set_option linter.unusedVariables false
namespace Go.Proofs.YthndilllnneijaaGreat
open Go.RowKit Go.Deep Go.Maps
theorem own_empty1 (w : World) (t : TypeId) (z : Nat) : (w.alloc (.cells #[] t)).ownsRow w.heap.size t z (.slice (some ⟨w.heap.size, 0, none⟩) 0 0) 0 [] :=
 ⟨by simp, .inr ⟨w.heap.size, 0, #[], rfl, Nat.le_refl _, Blk.new w t #[], Nat.le_refl _, Nat.zero_le _, by simp, by simp⟩⟩
theorem own_blkZ {w : World} {B : Nat} {e : TypeId} {v : Value} {n : Nat} {xs : List Value} (h : w.ownsRow B e 1 v n xs) (hv : v ≠ .slice none 0 0) :
   ∃ g c sp, v = .slice (some ⟨g, 0, none⟩) n c ∧ B ≤ g ∧ Blk w g e (xs ++ sp).toArray := by
 obtain ⟨hl, ⟨h2, _⟩ | ⟨g, cap, cur, h2, hg, hb, hnc, hcm, hsz, htk⟩⟩ := h
 · exact absurd h2 hv
 · refine ⟨g, cap, cur.toList.drop (n * 1), h2, hg, ?_⟩
   rw [← htk, List.take_append_drop]
   exact hb
theorem wpList_copy_row {W : World} {ops : Array Oper} {rest : List Oper} {o : Oper} {a : Act} {Q : Exit → Act → World → Prop} (hgd : o.guard = none) (s x : Operand)
   (ho : o.op = .call { callee := .builtin .append, args := #[s, x], argTypes := #[59, 59] }) (hs : a.eval s = .slice (some ⟨W.heap.size, 0, none⟩) 0 0)
   {rb m c : Nat} {zs : List Int} {sp : List Value} (hx : a.eval x = .slice (some ⟨rb, 0, none⟩) m c) (B : Blk W rb 3 (zcells zs ++ sp).toArray) (hm : zs.length = m) (h3 : m ≤ 1000)
   (h : ∀ g c' W' sp', W.heap.size ≤ g → Blk W' g 3 (zcells zs ++ sp').toArray → Kp [] W W' → wpList Tryz.prog ops Q rest (a.put o.dst (.slice (some ⟨g, 0, none⟩) m c')) W') :
   wpList Tryz.prog ops Q (o :: rest) a (W.alloc (.cells #[] 3)) := by
 obtain ⟨i0, hi0, hz0, hz1, hz2⟩ := info_parts infoInt
 subst hm
 have hlt := B.lt
 have B' := B.kp (Kp.new W (.cells #[] 3)) (by simp)
 refine wpList_append_own_at _ hgd s x 59 ho W.heap.size 3 i0 (.int .i64 0) 1 8 Tryz.underlying59 hi0 hz0 hz1 hz2 rfl (by decide) _ 0 [] hs (own_empty1 W 3 1) ⟨rb, 0, none⟩ zs.length c (zcells zs) hx (by simp [zcells]) (fun j u hu => blk_read B' j u hu) zcells_one (by unfold maxLen; omega) (by omega) (by simp) ?_
 intro v' W' own gr hnil _
 have hv : v' ≠ .slice none 0 0 := fun e => by have := (hnil.1 e).1; cases this
 rw [Nat.zero_add, List.nil_append] at own
 obtain ⟨g, c', sp', rfl, hg, hB⟩ := own_blkZ own hv
 refine h g c' W' sp' hg hB ((Kp.new W _).trans (Kp.of_grown gr) (by simp) (fun y hy => .inr ?_))
 simp [Value.ownBlock] at hy
 omega
structure CK (w1 : World) (d : DB) (m : HM) (p gc b8 c8 : Nat) (v9 : Value) (N : Nat) : Prop where
 t : DR w1 d p m
 gc0 : w1.heap.size ≤ gc
 gc1 : gc < N
 b0 : w1.heap.size ≤ b8
 b1 : b8 < N
 bg : b8 ≠ gc
 f0 : ∀ y, v9.ownBlock = some y → w1.heap.size ≤ y ∧ y < N ∧ y ≠ gc ∧ y ≠ b8
 c0 : m.bl.length ≤ c8
 c1 : c8 ≤ maxLen
def DO.key (x : DO) : Nat × Ob := (x.a, x.o)
structure CI (w1 wr : World) (d : DB) (m : HM) (gc b8 c8 : Nat) (v9 : Value) (N i : Nat) (v : Value) (ys : List DO) : Prop where
 G : Blk wr gc 101 #[.slice (some ⟨b8, 0, none⟩) m.bl.length c8, v, v9, .int .i64 (m.born : Int)]
 B : ∃ sp, (bcells m.bl ++ sp).length = 2 * c8 ∧ Blk wr b8 146 (bcells m.bl ++ sp).toArray
 F : wr.ownsRow w1.heap.size 150 2 v9 d.fs.length (rcells d.fs)
 O : wr.ownsRow N 109 8 v i (ocells ys)
 ky : ys.map DO.key = (d.os.take i).map DO.key
 R : ∀ y ∈ ys, (∃ sp, Blk wr y.rb 3 (zcells y.rs ++ sp).toArray) ∧ ∃ sp, Blk wr y.db 3 (zcells y.ds ++ sp).toArray
 rn : (rowsOf ys).Nodup
 rg : ∀ y ∈ rowsOf ys, N ≤ y
 rv : ∀ y, v.ownBlock = some y → y ∉ rowsOf ys
 sz : N ≤ wr.heap.size
 k : Kp [] w1 wr
section
variable {w w' w1 wr W W' : World} {d : DB} {m : HM} {p gc b8 c8 N i : Nat} {v v9 : Value} {ys : List DO}
theorem CI.kp0 (C : CI w1 wr d m gc b8 c8 v9 N i v ys) (K : Kp [] wr W) : CI w1 W d m gc b8 c8 v9 N i v ys := by
 obtain ⟨sp, h1, B⟩ := C.B
 exact ⟨C.G.kp K (by simp), ⟨sp, h1, B.kp K (by simp)⟩, own_kp0 C.F K, own_kp0 C.O K, C.ky, fun y hy => ⟨(C.R y hy).1.imp fun sp B => B.kp K (by simp), (C.R y hy).2.imp fun sp B => B.kp K (by simp)⟩, C.rn, C.rg, C.rv, Nat.le_trans C.sz K.size, C.k.chain K⟩
theorem CI.row_lt (C : CI w1 wr d m gc b8 c8 v9 N i v ys) : ∀ y ∈ rowsOf ys, y < wr.heap.size := by
 intro y hy
 obtain ⟨z, hz, rfl | rfl⟩ := rowsOf_mem.1 hy
 · obtain ⟨⟨sp, B⟩, _⟩ := C.R z hz; exact B.lt
 · obtain ⟨_, sp, B⟩ := C.R z hz; exact B.lt
theorem CI.step (H : CK w1 d m p gc b8 c8 v9 N) (C : CI w1 wr d m gc b8 c8 v9 N i v ys) {x : DO} (hx : d.os[i]? = some x) {g5 c5 g6 c6 g cap : Nat} (KW : Kp [] wr W)
   (B5 : ∃ sp, Blk W g5 3 (zcells x.rs ++ sp).toArray) (B6 : ∃ sp, Blk W g6 3 (zcells x.ds ++ sp).toArray) (h5 : wr.heap.size ≤ g5) (h6 : wr.heap.size ≤ g6) (hne : g5 ≠ g6)
   (own : W'.ownsRow N 109 8 (.slice (some ⟨g, 0, none⟩) (i + 1) cap) (i + 1) (ocells ys ++ (⟨x.a, x.o, g5, c5, g6, c6⟩ : DO).cells)) (gr : W.grownBy W' v.ownBlock) (hat : v.ownBlock = some g ∨ g = W.heap.size) :
   CI w1 (W'.setCell ⟨gc, 1, none⟩ (.slice (some ⟨g, 0, none⟩) (i + 1) cap)) d m gc b8 c8 v9 N (i + 1) (.slice (some ⟨g, 0, none⟩) (i + 1) cap) (ys ++ [⟨x.a, x.o, g5, c5, g6, c6⟩]) := by
 obtain ⟨sp, h1, B⟩ := C.B
 have hge := own_geD C.O
 have K1 := Kp.of_grown gr
 have K2 := Kp.cell W' ⟨gc, 1, none⟩ (.slice (some ⟨g, 0, none⟩) (i + 1) cap)
 have hN := C.sz
 have hWs := KW.size
 obtain ⟨s5, B5⟩ := B5
 obtain ⟨s6, B6⟩ := B6
 have l5 := B5.lt
 have l6 := B6.lt
 have hgl := H.gc1
 have hnv : ∀ y, (y < N ∨ y ∈ rowsOf ys) → y ∉ v.ownBlock.toList := fun y hy hm => by
   rw [Option.mem_toList] at hm
   rcases hy with h | h
   · have := hge y hm; omega
   · exact C.rv y hm h
 have hg : N ≤ g := by
   rcases hat with h | h
   · exact hge g h
   · omega
 have hro : rowsOf (ys ++ [(⟨x.a, x.o, g5, c5, g6, c6⟩ : DO)]) = rowsOf ys ++ [g5, g6] := by rw [rowsOf_append]; rfl
 have hlt := C.row_lt
 have hvl : ∀ y, v.ownBlock = some y → y < wr.heap.size := fun y hy => own_lt C.O y hy
 have n5 : g5 ∉ v.ownBlock.toList := fun hm => by rw [Option.mem_toList] at hm; have := hvl _ hm; omega
 have n6 : g6 ∉ v.ownBlock.toList := fun hm => by rw [Option.mem_toList] at hm; have := hvl _ hm; omega
 have ng5 : g5 ≠ gc := by omega
 have ng6 : g6 ≠ gc := by omega
 have fwd : ∀ {g' : Nat} {e : TypeId} {cs : Array Value}, Blk W g' e cs → g' ∉ v.ownBlock.toList → g' ≠ gc → Blk (W'.setCell ⟨gc, 1, none⟩ (.slice (some ⟨g, 0, none⟩) (i + 1) cap)) g' e cs := fun hB h1 h2 => (hB.kp K1 h1).kp K2 (by simpa using h2)
 refine ⟨?_, ⟨sp, h1, fwd (B.kp KW (by simp)) (hnv _ (.inl H.b1)) H.bg⟩, ?_, ?_, ?_, fun y hy => ?_, ?_, fun y hy => ?_, fun y hy hm => ?_, ?_, ?_⟩
 · exact ((C.G.kp KW (by simp)).kp K1 (hnv _ (.inl H.gc1))).set_ 1 _
 · refine own_kpS (own_kpS (own_kp0 C.F KW) K1 (fun y hy => hnv y (.inl (H.f0 y hy).2.1))) K2 (fun y hy => ?_)
   simpa using (H.f0 y hy).2.2.1
 · rw [ocells_append]
   have e : ocells [(⟨x.a, x.o, g5, c5, g6, c6⟩ : DO)] = (⟨x.a, x.o, g5, c5, g6, c6⟩ : DO).cells := by simp [ocells]
   rw [e]
   refine own_kpS own K2 (fun y hy => ?_)
   simp [Value.ownBlock] at hy
   simp
   omega
 · rw [List.map_append, C.ky, List.take_add_one, hx]
   simp [DO.key]
 · rcases List.mem_append.1 hy with h | h
   · have r1 : y.rb ∈ rowsOf ys := rowsOf_mem.2 ⟨y, h, .inl rfl⟩
     have r2 : y.db ∈ rowsOf ys := rowsOf_mem.2 ⟨y, h, .inr rfl⟩
     have n1 := C.rg _ r1
     have n2 := C.rg _ r2
     exact ⟨(C.R y h).1.imp fun sp B => fwd (B.kp KW (by simp)) (hnv _ (.inr r1)) (by omega), (C.R y h).2.imp fun sp B => fwd (B.kp KW (by simp)) (hnv _ (.inr r2)) (by omega)⟩
   · obtain rfl := List.mem_singleton.1 h
     exact ⟨⟨s5, fwd B5 n5 ng5⟩, ⟨s6, fwd B6 n6 ng6⟩⟩
 · rw [hro, List.nodup_append]
   refine ⟨C.rn, by simp [hne], fun a ha b hb => ?_⟩
   have := hlt a ha
   simp at hb
   omega
 · rw [hro] at hy
   rcases List.mem_append.1 hy with h | h
   · exact C.rg y h
   · simp at h; omega
 · rw [hro] at hm
   simp [Value.ownBlock] at hy
   subst hy
   rcases List.mem_append.1 hm with h | h
   · rcases hat with e | e
     · exact C.rv _ e h
     · have := hlt _ h; omega
   · simp at h
     rcases hat with e | e
     · have := hvl _ e; omega
     · omega
 · have := K1.size
   have := K2.size
   omega
 · refine ((C.k.chain KW).trans K1 (U := []) (by simp) (fun y hy => .inr ?_)).trans K2 (U := []) (by simp) (fun y hy => .inr ?_)
   · rw [Option.mem_toList] at hy
     have := hge y hy
     have := H.gc0
     omega
   · simp at hy
     have := H.gc0
     omega
theorem CI.done (H : CK w1 d m p gc b8 c8 v9 N) (C : CI w1 wr d m gc b8 c8 v9 N d.os.length v ys) :
   DR wr ⟨gc, b8, c8, v, v9, ys, d.fs⟩ p m ∧ ∀ y ∈ (⟨gc, b8, c8, v, v9, ys, d.fs⟩ : DB).all, w1.heap.size ≤ y := by
 obtain ⟨sp, h1, B⟩ := C.B
 have T := H.t
 have hky := C.ky
 rw [List.take_length] at hky
 have hlen : ys.length = d.os.length := by have := congrArg List.length hky; simpa using this
 have hge := own_geD C.O
 have g1 := H.gc1
 have g0 := H.gc0
 have b1 := H.b1
 have b0 := H.b0
 have hbg := H.bg
 have hn0 : w1.heap.size ≤ N := by omega
 have hmem : ∀ (a : Nat) (o : Ob), (∃ x ∈ ys, x.a = a ∧ x.o = o) ↔ ∃ x ∈ d.os, x.a = a ∧ x.o = o := fun a o => by
   have e : ∀ l : List DO, (∃ x ∈ l, x.a = a ∧ x.o = o) ↔ (a, o) ∈ l.map DO.key := fun l => by
     rw [List.mem_map]
     constructor
     · rintro ⟨x, hx, rfl, rfl⟩; exact ⟨x, hx, rfl⟩
     · rintro ⟨x, hx, e⟩; injection e with e1 e2; exact ⟨x, hx, e1, e2⟩
   rw [e, e, hky]
 have hup : ys.Pairwise fun x y => x.a < y.a := by
   have h := T.lst.up
   have e : ∀ l : List DO, (l.Pairwise fun x y => x.a < y.a) ↔ (l.map DO.key).Pairwise fun x y => x.1 < y.1 := fun l => by rw [List.pairwise_map]; rfl
   rw [e] at h ⊢
   rw [hky]
   exact h
 refine ⟨⟨T.inv, ⟨hup, fun a o => by rw [hmem]; exact T.lst.mem a o⟩, ⟨T.fws.nd, T.fws.mem, T.fws.len⟩, ?_, T.fq, T.bq, C.G, ⟨sp, H.c0, H.c1, h1, B⟩, ?_, own_base C.F (Nat.zero_le _), C.R⟩, fun y hy => ?_⟩
 · simp only [DB.all, List.nodup_cons, List.mem_cons, List.mem_append, Option.mem_toList, not_or, List.nodup_append]
   refine ⟨⟨fun e => hbg e.symm, fun e => by have := hge _ e; omega, fun e => (H.f0 _ e).2.2.1 rfl, fun e => by have := C.rg _ e; omega⟩, ⟨fun e => by have := hge _ e; omega, fun e => (H.f0 _ e).2.2.2 rfl, fun e => by have := C.rg _ e; omega⟩, ?_, ⟨?_, C.rn, fun a ha b hb e => ?_⟩, fun a ha b hb e => ?_⟩
   · rcases v.ownBlock with _ | y <;> simp
   · rcases v9.ownBlock with _ | y <;> simp
   · have := (H.f0 a ha).2.1
     have := C.rg b hb
     omega
   · rcases hb with hb | hb
     · have := (H.f0 b hb).2.1
       have := hge a ha
       omega
     · exact C.rv a ha (e ▸ hb)
 · show wr.ownsRow 0 _ 8 v ys.length (ocells ys)
   rw [hlen]
   exact own_base C.O (Nat.zero_le _)
 · simp only [DB.all, List.mem_cons, List.mem_append, Option.mem_toList] at hy
   rcases hy with rfl | rfl | h | h | h
   · exact g0
   · exact b0
   · have := hge y h; omega
   · exact (H.f0 y h).1
   · have := C.rg y h; omega
end
end Go.Proofs.YthndilllnneijaaGreat
