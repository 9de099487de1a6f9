/-
  Changes of one object of the document's heap, and the contracts of its pin, SetRef, SetData. Conditions: those that stand in each theorem.
-/
import Derived.BigQuiet
import Derived.Deep.RegionHeld3
import Derived.Test.YthndilllnneijaaGreatPDd
import Derived.Laws.AppendOwnNone
set_option linter.unusedSimpArgs false
set_option linter.unusedVariables false
set_option maxRecDepth 100000
set_option maxHeartbeats 1000000
namespace Go.Proofs.YthndilllnneijaaGreat
open Go.RowKit Go.Deep Go.Maps
theorem set_mapD {β : Type} {l : List DO} {i : Nat} {x x' : DO} (f : DO → β) (hi : l[i]? = some x) (h : f x' = f x) : (l.set i x').map f = l.map f := by
 rw [List.map_set, h]
 apply List.ext_getElem?
 intro j
 rw [List.getElem?_set]
 split
 · rename_i hj
   subst hj
   have hl := (List.getElem?_eq_some_iff.1 hi).1
   simp only [List.length_map, hl, if_true, List.getElem?_map, hi, Option.map_some]
 · rfl
theorem Lst.put {l : List DO} {m : HM} (L : Lst l m) {i : Nat} {x x' : DO} (hi : l[i]? = some x) (ha : x'.a = x.a) : Lst (l.set i x') (m.add x.a x'.o) := by
 have hl := (List.getElem?_eq_some_iff.1 hi).1
 refine ⟨?_, fun a o => ?_⟩
 · have h1 : (l.map DO.a).Pairwise (· < ·) := List.pairwise_map.2 L.up
   rw [← set_mapD DO.a hi ha] at h1
   exact List.pairwise_map.1 h1
 · rw [add_ob]
   constructor
   · rintro (⟨rfl, rfl⟩ | ⟨h1, h2⟩)
     · exact ⟨x', List.mem_of_getElem? (by rw [List.getElem?_set_self hl]), ha, rfl⟩
     · obtain ⟨j, y, hj, rfl, rfl⟩ := L.get h2
       refine ⟨y, List.mem_of_getElem? (i := j) ?_, rfl, rfl⟩
       rw [List.getElem?_set_ne (fun e => h1 (by rw [e, hj] at hi; cases hi; rfl))]
       exact hj
   · rintro ⟨y, hy, rfl, rfl⟩
     obtain ⟨j, hj⟩ := List.mem_iff_getElem?.1 hy
     rw [List.getElem?_set] at hj
     split at hj
     · simp at hj
       obtain ⟨_, rfl⟩ := hj
       exact .inl ⟨ha, rfl⟩
     · rename_i hne
       refine .inr ⟨fun e => hne (L.inj hi hj e.symm), L.ob hj⟩
section
variable {w w' W : World} {d : DB} {q : Nat} {m : HM}
theorem DR.nd' (T : DR w d q m) : d.g ≠ d.bb ∧ (∀ y, d.ov.ownBlock = some y → y ≠ d.g ∧ y ≠ d.bb ∧ y ∉ rowsOf d.os ∧ d.fv.ownBlock ≠ some y) ∧ (∀ y, d.fv.ownBlock = some y → y ≠ d.g ∧ y ≠ d.bb ∧ y ∉ rowsOf d.os ∧ d.ov.ownBlock ≠ some y) ∧ d.g ∉ rowsOf d.os ∧ d.bb ∉ rowsOf d.os ∧ (rowsOf d.os).Nodup := by
 have h := T.nd
 simp only [DB.all, List.nodup_cons, List.mem_cons, List.mem_append, Option.mem_toList, not_or, List.nodup_append] at h
 obtain ⟨⟨h1, h2, h3, h4⟩, ⟨h5, h6, h7⟩, h8, ⟨h9, h10, h11⟩, h12⟩ := h
 refine ⟨h1, fun y hy => ⟨?_, ?_, ?_, ?_⟩, fun y hy => ⟨?_, ?_, ?_, ?_⟩, h4, h7, h10⟩
 · rintro rfl; exact h2 hy
 · rintro rfl; exact h5 hy
 · exact fun hm => h12 y (by simpa using hy) y (.inr hm) rfl
 · exact fun hm => h12 y (by simpa using hy) y (.inl (by simpa using hm)) rfl
 · rintro rfl; exact h3 hy
 · rintro rfl; exact h6 hy
 · exact fun hm => h11 y (by simpa using hy) y hm rfl
 · exact fun hm => h12 y (by simpa using hm) y (.inl (by simpa using hy)) rfl
def DO.setPin (x : DO) (p : Bool) : DO := { x with o := x.o.setPin p }
theorem ocells_pin {l : List DO} {i : Nat} {x : DO} (hi : l[i]? = some x) (p : Bool) : (ocells l).set (i * 8 + 7) (.bool p) = ocells (l.set i (x.setPin p)) := by
 induction l generalizing i with
 | nil => cases hi
 | cons y l ih =>
   rcases i with _ | i
   · simp at hi
     subst hi
     rfl
   · simp at hi
     rw [List.set_cons_succ, ocells_cons, ocells_cons, ← ih hi, List.set_append, if_neg (by simp [DO.cells]; omega)]
     congr 2
     simp [DO.cells]
     omega
theorem DR.setPin (T : DR w d q m) {i : Nat} {x : DO} (hi : d.os[i]? = some x) {g n c : Nat} (hv : d.ov = .slice (some ⟨g, 0, none⟩) n c) (p : Bool) : DR (w.setCell ⟨g, i * 8 + 7, none⟩ (.bool p)) { d with os := d.os.set i (x.setPin p) } q (m.add x.a (x.o.setPin p)) := by
 have hob := T.lst.ob hi
 have hok := T.ok hi
 have k := Kp.cell w ⟨g, i * 8 + 7, none⟩ (.bool p)
 have hg : d.ov.ownBlock = some g := by rw [hv]; rfl
 have e2 : rowsOf (d.os.set i (x.setPin p)) = rowsOf d.os := by
   unfold rowsOf
   rw [List.flatMap_def, List.flatMap_def, set_mapD DO.rows hi (x' := x.setPin p) rfl]
 obtain ⟨n1, n2, n3, n4, n5, n6⟩ := T.nd'
 obtain ⟨m1, m2, m3, m4⟩ := n2 g hg
 obtain ⟨sp, h1, h2, h3, B⟩ := T.B
 refine ⟨T.inv.put hob (hok.setPin p) rfl rfl, T.lst.put (x' := x.setPin p) hi rfl, ⟨T.fws.nd, T.fws.mem, T.fws.len⟩, ?_, T.fq, T.bq, T.G.kp k (by simpa using m1.symm), ⟨sp, h1, h2, h3, B.kp k (by simpa using m2.symm)⟩, ?_, own_kpS T.F k (fun y hy => by simp; rintro rfl; exact (n3 y hy).2.2.2 hg), fun y hy => ?_⟩
 · have := T.nd
   unfold DB.all at this ⊢
   rw [e2]
   exact this
 · show World.ownsRow _ 0 _ 8 d.ov (d.os.set i (x.setPin p)).length (ocells (d.os.set i (x.setPin p)))
   rw [← ocells_pin hi, List.length_set]
   have hO := T.O
   rw [hv] at hO ⊢
   have hn : n = d.os.length := by
     rcases T.o_form with ⟨h, _⟩ | ⟨_, _, h, _⟩
     · rw [hv] at h; cases h
     · rw [hv] at h; cases h; rfl
   subst hn
   exact (World.ownsRow.stored hO (i * 8 + 7) (.bool p)).1
 · obtain ⟨j, hj⟩ := List.mem_iff_getElem?.1 hy
   rw [List.getElem?_set] at hj
   have hx := T.R x (List.mem_of_getElem? hi)
   have hrb : ∀ z ∈ d.os, z.rb ≠ g ∧ z.db ≠ g := fun z hz => ⟨fun e => m3 (rowsOf_mem.2 ⟨z, hz, .inl e.symm⟩), fun e => m3 (rowsOf_mem.2 ⟨z, hz, .inr e.symm⟩)⟩
   split at hj
   · simp at hj
     obtain ⟨_, rfl⟩ := hj
     have h0 := hrb x (List.mem_of_getElem? hi)
     exact ⟨hx.1.imp fun sp B => B.kp k (by simpa using h0.1), hx.2.imp fun sp B => B.kp k (by simpa using h0.2)⟩
   · have hy' := List.mem_of_getElem? hj
     have h0 := hrb y hy'
     exact ⟨(T.R y hy').1.imp fun sp B => B.kp k (by simpa using h0.1), (T.R y hy').2.imp fun sp B => B.kp k (by simpa using h0.2)⟩
end
theorem infoObj : (Tryz.prog.info? 109).map (fun i => (i.zero, i.size, i.bytes)) = some (some (.agg #[.int .i64 0, .int .i64 0, .int .i64 0, .int .i64 0, .int .i64 0, .slice none 0 0, .slice none 0 0, .bool false]), 8, 96) := by kernel_rfl
def SrcO (W : World) (sv : Value) (l : List DO) : Prop :=
 (sv = .slice none 0 0 ∧ l = []) ∨ ∃ (g off c : Nat), sv = .slice (some ⟨g, off, none⟩) l.length c ∧ ∀ (j : Nat) (u : Value), (ocells l)[j]? = some u → W.cell? ⟨g, off + j, none⟩ = some u
theorem own_sl {W : World} {B n z : Nat} {e : TypeId} {v : Value} {xs : List Value} (own : W.ownsRow B e z v n xs) : ∃ A c, v = .slice A n c := by
 rcases own.2 with ⟨rfl, h⟩ | ⟨g, c, cur, rfl, hg, _⟩
 · exact ⟨none, 0, by rw [h]⟩
 · exact ⟨_, _, rfl⟩
theorem wpList_app_objs {W : World} {B : Nat} {v sv : Value} {l1 l2 : List DO} (n1 n2 : Nat) (hn1 : l1.length = n1) (hn2 : l2.length = n2) {ops : Array Oper} {rest : List Oper} {o : Oper} {a : Act} {Q : Exit → Act → World → Prop} (hgd : o.guard = none) (s x : Operand)
   (ho : o.op = .call { callee := .builtin .append, args := #[s, x], argTypes := #[98, 98] })
   (hs : a.eval s = v) (hx : a.eval x = sv) (own : W.ownsRow B 109 8 v n1 (ocells l1)) (hB : B ≤ W.heap.size) (src : SrcO W sv l2) (hl : n1 + n2 ≤ 100000)
   (h : ∀ A c W', W'.ownsRow B 109 8 (.slice A (n1 + n2) c) (n1 + n2) (ocells (l1 ++ l2)) → Kp v.ownBlock.toList W W' → wpList Tryz.prog ops Q rest (a.put o.dst (.slice A (n1 + n2) c)) W') :
   wpList Tryz.prog ops Q (o :: rest) a W := by
 obtain ⟨i0, hi0, hz0, hz1, hz2⟩ := info_parts infoObj
 subst hn1 hn2
 rcases src with ⟨rfl, rfl⟩ | ⟨g, off, c, rfl, hc⟩
 · refine wpList_append_own_none hgd s x 98 ho B 109 i0 8 Tryz.underlying98 hi0 v l1.length (ocells l1) hs own hx ?_
   obtain ⟨A, c, rfl⟩ := own_sl own
   have h2 := h A c W
   rw [List.append_nil] at h2
   exact h2 own (Kp.refl _ _)
 · refine wpList_append_own_at W hgd s x 98 ho B 109 i0 (.agg #[.int .i64 0, .int .i64 0, .int .i64 0, .int .i64 0, .int .i64 0, .slice none 0 0, .slice none 0 0, .bool false]) 8 96 Tryz.underlying98 hi0 hz0 hz1 hz2 rfl (by decide) v l1.length (ocells l1) hs own ⟨g, off, none⟩ l2.length c (ocells l2) hx (ocells_length l2) (fun j u hj => by rw [addr_off]; exact hc j u hj) (ocells_one l2) (by unfold maxLen; omega) (by omega) hB ?_
   intro v' W' own' gr _ _
   rw [← ocells_append] at own'
   obtain ⟨A, c, rfl⟩ := own_sl own'
   exact h A c W' own' (Kp.of_grown gr)
theorem SrcO.kp {W V : World} {sv : Value} {l : List DO} (h : SrcO W sv l) (k : Kp [] W V) : SrcO V sv l := by
 rcases h with h | ⟨g, off, c, h1, h2⟩
 · exact .inl h
 · exact .inr ⟨g, off, c, h1, fun j u hj => cell_kp k (h2 j u hj)⟩
theorem own_geD {W : World} {B n z : Nat} {e : TypeId} {v : Value} {xs : List Value} (own : W.ownsRow B e z v n xs) : ∀ y, v.ownBlock = some y → B ≤ y := by
 intro y hy
 rcases own.2 with ⟨rfl, _⟩ | ⟨g, c, cur, rfl, hg, _⟩
 · simp [Value.ownBlock] at hy
 · simp [Value.ownBlock] at hy
   omega
theorem rowsOf_append (a b : List DO) : rowsOf (a ++ b) = rowsOf a ++ rowsOf b := by simp [rowsOf]
theorem split_at {l : List DO} {i : Nat} {x : DO} (hi : l[i]? = some x) : l = l.take i ++ x :: l.drop (i + 1) := by
 obtain ⟨h, rfl⟩ := List.getElem?_eq_some_iff.1 hi
 rw [← List.drop_eq_getElem_cons h, List.take_append_drop]
theorem Lst.cut {l : List DO} {m : HM} (L : Lst l m) {i : Nat} {x : DO} (hi : l[i]? = some x) : Lst (l.take i ++ l.drop (i + 1)) (m.del x.a) := by
 have he : l.take i ++ l.drop (i + 1) = l.eraseIdx i := (List.eraseIdx_eq_take_drop_succ l i).symm
 rw [he]
 refine ⟨L.up.sublist (List.eraseIdx_sublist l i), fun a o => ?_⟩
 rw [del_ob]
 constructor
 · rintro ⟨h1, h2⟩
   obtain ⟨j, y, hj, rfl, rfl⟩ := L.get h2
   exact ⟨y, List.mem_eraseIdx_iff_getElem?.2 ⟨j, fun e => h1 (by rw [e, hi] at hj; cases hj; rfl), hj⟩, rfl, rfl⟩
 · rintro ⟨y, hy, rfl, rfl⟩
   obtain ⟨j, h1, h2⟩ := List.mem_eraseIdx_iff_getElem?.1 hy
   exact ⟨fun e => h1 (L.inj h2 hi e), L.ob h2⟩
theorem Lst.ins {l : List DO} {m : HM} (L : Lst l m) {k : Nat} {x : DO} (hx : m.ob x.a = Option.none) (h1 : ∀ j, j < k → ∀ y, l[j]? = some y → y.a < x.a) (h2 : ∀ j, k ≤ j → ∀ y, l[j]? = some y → x.a < y.a) : Lst (l.take k ++ x :: l.drop k) (m.add x.a x.o) := by
 have ht : ∀ y ∈ l.take k, y.a < x.a := fun y hy => by
   obtain ⟨j, hj⟩ := List.mem_iff_getElem?.1 hy
   rw [List.getElem?_take] at hj
   split at hj
   · exact h1 j (by assumption) y hj
   · cases hj
 have hd : ∀ y ∈ l.drop k, x.a < y.a := fun y hy => by
   obtain ⟨j, hj⟩ := List.mem_iff_getElem?.1 hy
   rw [List.getElem?_drop] at hj
   exact h2 _ (by omega) y hj
 refine ⟨?_, fun a o => ?_⟩
 · rw [List.pairwise_append]
   refine ⟨L.up.sublist (List.take_sublist k l), List.pairwise_cons.2 ⟨hd, L.up.sublist (List.drop_sublist k l)⟩, fun y hy z hz => ?_⟩
   have := ht y hy
   rcases List.mem_cons.1 hz with rfl | hz
   · exact this
   · have := hd z hz; omega
 · rw [add_ob]
   have hmem : ∀ y, y ∈ l ↔ y ∈ l.take k ∨ y ∈ l.drop k := fun y => by rw [← List.mem_append, List.take_append_drop]
   constructor
   · rintro (⟨rfl, rfl⟩ | ⟨g1, g2⟩)
     · exact ⟨x, by simp, rfl, rfl⟩
     · obtain ⟨y, hy, rfl, rfl⟩ := (L.mem a o).1 g2
       refine ⟨y, ?_, rfl, rfl⟩
       rcases (hmem y).1 hy with h | h
       · exact List.mem_append.2 (.inl h)
       · exact List.mem_append.2 (.inr (List.mem_cons.2 (.inr h)))
   · rintro ⟨y, hy, rfl, rfl⟩
     rcases List.mem_append.1 hy with h | h
     · have := ht y h
       exact .inr ⟨by omega, (L.mem _ _).2 ⟨y, (hmem y).2 (.inl h), rfl, rfl⟩⟩
     · rcases List.mem_cons.1 h with rfl | h
       · exact .inl ⟨rfl, rfl⟩
       · have := hd y h
         exact .inr ⟨by omega, (L.mem _ _).2 ⟨y, (hmem y).2 (.inr h), rfl, rfl⟩⟩
section
variable {w w' W : World} {d : DB} {q : Nat} {m : HM}
theorem DR.setO (T : DR w d q m) {v : Value} {os' : List DO} {m' : HM} (K : Kp [] w W) (own : W.ownsRow w.heap.size 109 8 v os'.length (ocells os'))
   (h1 : m'.bl = m.bl) (h2 : m'.fw = m.fw) (h3 : m'.fn = m.fn) (h4 : m'.born = m.born) (I : m'.Inv) (L : Lst os' m') (hnd : (rowsOf os').Nodup)
   (hr : ∀ y ∈ rowsOf os', y ∈ rowsOf d.os ∨ y ∉ d.all) (hR : ∀ x ∈ os', (∃ sp, Blk w x.rb 3 (zcells x.rs ++ sp).toArray) ∧ ∃ sp, Blk w x.db 3 (zcells x.ds ++ sp).toArray) :
   DR (W.setCell ⟨d.g, 1, none⟩ v) { d with ov := v, os := os' } q m' ∧ Kp [d.g] w (W.setCell ⟨d.g, 1, none⟩ v) ∧ ∀ y, v.ownBlock = some y → w.heap.size ≤ y := by
 have k : Kp [d.g] W (W.setCell ⟨d.g, 1, none⟩ v) := Kp.cell W ⟨d.g, 1, none⟩ v
 obtain ⟨n1, n2, n3, n4, n5, n6⟩ := T.nd'
 obtain ⟨sp, b1, b2, b3, B⟩ := T.B
 have hlt := T.lt
 have hge := own_geD own
 have hrl : ∀ y ∈ rowsOf os', y < w.heap.size := fun y hy => by
   obtain ⟨x, hx, e | e⟩ := rowsOf_mem.1 hy
   · obtain ⟨⟨sp, B⟩, _⟩ := hR x hx; rw [e]; exact B.lt
   · obtain ⟨_, sp, B⟩ := hR x hx; rw [e]; exact B.lt
 have hrn : ∀ y ∈ rowsOf os', y ≠ d.g ∧ y ≠ d.bb ∧ d.fv.ownBlock ≠ some y := fun y hy => by
   rcases hr y hy with h | h
   · refine ⟨?_, ?_, fun e => (n3 y e).2.2.1 h⟩
     · rintro rfl; exact n4 h
     · rintro rfl; exact n5 h
   · simp only [DB.all, List.mem_cons, List.mem_append, not_or, Option.mem_toList] at h
     exact ⟨h.1, h.2.1, fun e => h.2.2.2.1 e⟩
 have hg : d.g < w.heap.size := hlt _ (by simp [DB.all])
 have hb : d.bb < w.heap.size := hlt _ (by simp [DB.all])
 have hf : ∀ y, d.fv.ownBlock = some y → y < w.heap.size := fun y hy => hlt _ (by simp [DB.all, hy])
 have hvg : ∀ y, v.ownBlock = some y → y ≠ d.g := fun y hy e => by have := hge y hy; omega
 refine ⟨⟨I, L, ⟨T.fws.nd, by rw [h2]; exact T.fws.mem, by rw [h3]; exact T.fws.len⟩, ?_, T.fq, by rw [h4]; exact T.bq, ?_, ?_, own_base (own_kpS own k (fun y hy => by simpa using hvg y hy)) (Nat.zero_le _), own_kpS (own_kp0 T.F K) k (fun y hy => by simpa using (n3 y hy).1), fun x hx => ?_⟩, K.chain0 k, hge⟩
 · simp only [DB.all, List.nodup_cons, List.mem_cons, List.mem_append, Option.mem_toList, not_or, List.nodup_append]
   refine ⟨⟨n1, fun e => by have := hge _ e; omega, fun e => (n3 _ e).1 rfl, fun e => (hrn _ e).1 rfl⟩, ⟨fun e => by have := hge _ e; omega, fun e => (n3 _ e).2.1 rfl, fun e => (hrn _ e).2.1 rfl⟩, ?_, ⟨?_, hnd, fun y hy z hz e => (hrn z hz).2.2 (by rw [← e]; exact hy)⟩, fun y hy z hz e => ?_⟩
   · cases v.ownBlock <;> simp
   · cases d.fv.ownBlock <;> simp
   · have h5 := hge y hy
     rcases hz with hz | hz
     · have := hf z hz; omega
     · have := hrl z hz; omega
 · have := (T.G.kp K (by simp)).set_ 1 v
   rw [h1, h4]
   exact this
 · rw [h1]
   exact ⟨sp, b1, b2, b3, (B.kp K (by simp)).kp k (by simpa using n1.symm)⟩
 · have hxr : x.rb ∈ rowsOf os' := rowsOf_mem.2 ⟨x, hx, .inl rfl⟩
   have hxd : x.db ∈ rowsOf os' := rowsOf_mem.2 ⟨x, hx, .inr rfl⟩
   exact ⟨(hR x hx).1.imp fun sp B => (B.kp K (by simp)).kp k (by simpa using (hrn _ hxr).1), (hR x hx).2.imp fun sp B => (B.kp K (by simp)).kp k (by simpa using (hrn _ hxd).1)⟩
theorem DR.src_take (T : DR w d q m) {g cap : Nat} (hv : d.ov = .slice (some ⟨g, 0, none⟩) d.os.length cap) (k c : Nat) (hk : k ≤ d.os.length) : SrcO w (.slice (some ⟨g, 0, none⟩) k c) (d.os.take k) := by
 refine .inr ⟨g, 0, c, by rw [List.length_take, Nat.min_eq_left hk], fun j u hu => ?_⟩
 have Q := T.O
 rw [hv] at Q
 have hj := (List.getElem?_eq_some_iff.1 hu).1
 rw [ocells_length, List.length_take, Nat.min_eq_left hk] at hj
 rw [Nat.zero_add, Q.cellAt j (by omega), ← hu, ocells_take, List.getElem?_take_of_lt hj]
theorem DR.src_drop (T : DR w d q m) {g cap : Nat} (hv : d.ov = .slice (some ⟨g, 0, none⟩) d.os.length cap) (k c n : Nat) (hn : n = d.os.length - k) : SrcO w (.slice (some ⟨g, k * 8, none⟩) n c) (d.os.drop k) := by
 refine .inr ⟨g, k * 8, c, by rw [List.length_drop, hn], fun j u hu => ?_⟩
 have Q := T.O
 rw [hv] at Q
 have hj := (List.getElem?_eq_some_iff.1 hu).1
 rw [ocells_length, List.length_drop] at hj
 rw [Q.cellAt (k * 8 + j) (by omega), ← hu, ocells_drop, List.getElem?_drop]
end
section
variable {w w' W : World} {d : DB} {q : Nat} {m : HM}
theorem kp_new2 {w w1 w2 : World} {S : List Nat} (k1 : Kp [] w w1) (k2 : Kp S w1 w2) (h : ∀ y ∈ S, w.heap.size ≤ y) : Kp [] w w2 := k1.trans k2 (by simp) (fun x hx => .inr (h x hx))
theorem DR.src_dropI (T : DR w d q m) {g cap : Nat} (hv : d.ov = .slice (some ⟨g, 0, none⟩) d.os.length cap) (hc : d.os.length ≤ cap) (k c n : Nat) (hn : n = d.os.length - k) (hk : k ≤ d.os.length) : SrcO w (.slice (if cap = k then some ⟨g, 0, none⟩ else some ⟨g, k * 8, none⟩) n c) (d.os.drop k) := by
 split
 · have h0 : d.os.length = k := by omega
   refine .inr ⟨g, 0, c, by rw [List.length_drop, hn], fun j u hu => ?_⟩
   rw [List.drop_of_length_le (by omega)] at hu
   cases hu
 · exact T.src_drop hv k c n hn
theorem DR.g_fr (T : DR w d q m) (j : Nat) : w.frozen? ⟨d.g, j, none⟩ = false := T.G.frozen j
theorem cut_end (T : DR w d q m) {i n : Nat} {x : DO} {v : Value} (hi : d.os[i]? = some x) (K : Kp [] w W) (own : W.ownsRow w.heap.size 109 8 v n (ocells (d.os.take i ++ d.os.drop (i + 1)))) (hn : n = (d.os.take i ++ d.os.drop (i + 1)).length) :
   DR (W.setCell ⟨d.g, 1, none⟩ v) { d with ov := v, os := d.os.take i ++ d.os.drop (i + 1) } q (m.del x.a) ∧ Kp [d.g] w (W.setCell ⟨d.g, 1, none⟩ v) ∧ ∀ y, v.ownBlock = some y → w.heap.size ≤ y := by
 subst hn
 have hx := split_at hi
 have hnd := T.nd'.2.2.2.2.2
 have hsub : ∀ y, y ∈ rowsOf (d.os.take i ++ d.os.drop (i + 1)) → y ∈ rowsOf d.os := fun y hy => by
   obtain ⟨z, hz, e⟩ := rowsOf_mem.1 hy
   refine rowsOf_mem.2 ⟨z, ?_, e⟩
   rcases List.mem_append.1 hz with h | h
   · exact List.mem_of_mem_take h
   · exact List.mem_of_mem_drop h
 refine T.setO K own rfl rfl rfl rfl (T.inv.del x.a) (T.lst.cut hi) ?_ (fun y hy => .inl (hsub y hy)) (fun z hz => T.R z ?_)
 · rw [hx, rowsOf_append] at hnd
   rw [rowsOf_append]
   exact hnd.sublist (List.Sublist.append (List.Sublist.refl _) (by rw [show rowsOf (x :: d.os.drop (i + 1)) = x.rows ++ rowsOf (d.os.drop (i + 1)) from rfl]; exact List.sublist_append_right _ _))
 · rcases List.mem_append.1 hz with h | h
   · exact List.mem_of_mem_take h
   · exact List.mem_of_mem_drop h
theorem d_cut (T : DR w d q m) {i : Nat} {x : DO} (hi : d.os[i]? = some x) :
   Calls Tryz.prog 140 #[.pointer (some ⟨d.g, 0, none⟩), .int .i64 (i : Int)] w fun e w' => e = .returned (.tuple #[]) ∧ ∃ v', DR w' { d with ov := v', os := d.os.take i ++ d.os.drop (i + 1) } q (m.del x.a) ∧ Kp [d.g] w w' ∧ ∀ y, v'.ownBlock = some y → w.heap.size ≤ y := by
 have hlen := T.len
 have hil := (List.getElem?_eq_some_iff.1 hi).1
 obtain ⟨g, cap, hov, hcl, hcm, _, _, _⟩ := T.ocell hi
 unfold maxLen at hcm
 have hc1 := T.c1
 rw [hov] at hc1
 have HT := hid T
 have HI := hid hi
 have HOV := hid hov
 have HS1 := hid (T.src_take hov i cap (by omega))
 have HS2 := hid (fun c n hn => T.src_dropI hov hcl (i + 1) c n hn (by omega))
 have HN0 := hid (World.ownsRow_nil w w.heap.size 109 8)
 have HLT1 : Hid ((d.os.take i).length = i) := by show _ = _; rw [List.length_take]; omega
 have HLT2 : Hid ((d.os.drop (i + 1)).length = d.os.length - (i + 1)) := by show _ = _; rw [List.length_drop]
 clear T hi hov
 go_enter Tryz.func140, Tryz.ntmps140
 go_wp2_with (first
   | (at_builtin; refine wpList_app_objs (l1 := []) (v := .slice none 0 0) (B := w.heap.size) 0 i rfl HLT1.out rfl (.tmp 5) (.tmp 11) rfl rfl rfl HN0.out (Nat.le_refl _) HS1.out (by omega) ?_; intro A1 c1 w1 own1 k1; rw [List.nil_append, Nat.zero_add] at own1; rw [Nat.zero_add]; have HO1 := hid own1; have HK1 : Hid (Kp [] w w1) := k1; have hc2 := cell_kp HK1.out hc1; clear own1 k1)
   | (at_builtin; refine wpList_app_objs (l1 := d.os.take i) (v := .slice A1 i c1) (B := w.heap.size) i (d.os.length - (i + 1)) HLT1.out HLT2.out rfl (.tmp 14) (.tmp 21) rfl rfl rfl HO1.out HK1.out.size ((HS2.out _ _ (by omega)).kp HK1.out) (by omega) ?_; intro A2 c2 w2 own2 k2; have HO2 := hid own2; have hk2 : Kp [] w w2 := kp_new2 HK1.out k2 (fun y hy => own_geD HO1.out y (by simpa using hy)); have HK2 := hid hk2; have hc3 := (HT.out.kp0 HK2.out).c1; have hf3 := (HT.out.kp0 HK2.out).g_fr 1; clear own2 k2 hk2))
 all_goals go_wp2
 all_goals go_end0
 all_goals exact ⟨rfl, _, cut_end HT.out HI.out HK2.out HO2.out (by rw [List.length_append, HLT1.out, HLT2.out])⟩
theorem d_kill (T : DR w d q m) (a : Int) :
   Calls Tryz.prog 67 #[.pointer (some ⟨d.g, 0, none⟩), .int .i64 a] w fun e w' => e = .returned (.int .i64 (m.lackE a)) ∧ DChg w d q (m.killM a) w' := by
 have HT := hid T
 rcases hh : m.has a
 · have e2 : m.killM a = m := by simp [HM.killM, hh]
   have e3 : m.lackE a = 4 := by simp [HM.lackE, hh]
   rw [e2]
   have HL := hid e3
   clear T hh e2 e3
   go_enter Tryz.func67, Tryz.ntmps67
   go_wp2_with (go_at_call 139; refine (d_lacks HT.out a).mono ?_; rintro e w' ⟨rfl, n1, rfl⟩; rw [HL.out])
   go_ret
   first | exact ⟨rfl, DChg.same HT.out (Kp.draw _ _)⟩ | (rw [HL.out]; exact ⟨rfl, DChg.same HT.out (Kp.draw _ _)⟩)
 · obtain ⟨i, x, hi, hx, hix, ho⟩ := T.lst.ix hh
   have e3 : m.lackE a = 0 := by simp [HM.lackE, hh]
   have e2 : m.killM a = m.del x.a := by simp only [HM.killM, hh, if_true]; rw [← hx, Int.toNat_natCast]
   rw [e2]
   have HL := hid e3
   have HE := hid hix
   have HI := hid hi
   have hlen := T.len
   have hil := (List.getElem?_eq_some_iff.1 hi).1
   rw [e3]
   clear T hh hi hix ho e2 e3 hx
   go_enter Tryz.func67, Tryz.ntmps67
   go_wp2_with (first
     | (go_at_call 139; refine (d_lacks HT.out a).mono ?_; rintro e w1 ⟨rfl, h1⟩; rw [HL.out]; have HK1 := hid (Kp.of_drewN h1); clear h1)
     | (go_at_call 141; refine (d_index (HT.out.kp0 HK1.out) a).mono ?_; rintro e w2 ⟨rfl, h2⟩; rw [HE.out]; have HK2 := hid (HK1.out.chain (Kp.of_drewN h2)); clear h2)
     | (go_at_call 140; refine (d_cut (HT.out.kp0 HK2.out) HI.out).mono ?_; rintro e w3 ⟨rfl, v', R3, K3, N3⟩; have HR3 := hid R3; have HK3 := hid K3; have HN3 := hid N3; clear R3 K3 N3))
   go_ret
   refine ⟨rfl, { d with ov := v', os := d.os.take i ++ d.os.drop (i + 1) }, rfl, HR3.out, (HK2.out.chain0 HK3.out).mono (fun y hy => .inl (by simp at hy; subst hy; simp [DB.all])), fun y hy => ?_⟩
   simp only [DB.all, List.mem_cons, List.mem_append, Option.mem_toList] at hy ⊢
   rcases hy with h | h | h | h | h
   · exact .inl (.inl h)
   · exact .inl (.inr (.inl h))
   · exact .inr (Nat.le_trans HK2.out.size (HN3.out y h))
   · exact .inl (.inr (.inr (.inr (.inl h))))
   · refine .inl (.inr (.inr (.inr (.inr ?_))))
     obtain ⟨z, hz, e⟩ := rowsOf_mem.1 h
     refine rowsOf_mem.2 ⟨z, ?_, e⟩
     rcases List.mem_append.1 hz with h | h
     · exact List.mem_of_mem_take h
     · exact List.mem_of_mem_drop h
end
end Go.Proofs.YthndilllnneijaaGreat
