/-
  Numbers that are gathered, one by one or many at once, in a slice of one's own. Conditions: those that stand in each theorem.
-/
import Derived.Test.YtbiompmklijgoaaDoorPU
import Derived.Laws.AppendOwnNone
import Derived.Test.YtbiompmklijgoaaDoorPGG
import Derived.Test.YtbiompmklijgoaaDoorPGR
import Derived.Test.YtbiompmklijgoaaDoorPGA
namespace Go.Proofs.YtbiompmklijgoaaDoor
set_option linter.unusedVariables false
set_option linter.unusedSimpArgs false
open Go.RowKit Go.Deep Go.Maps

/-- What was gathered since world w. -/
def Col (w : World) (l : List Int) (v : Value) (W : World) : Prop := W.ownsRow w.heap.size 3 1 v l.length (zcells l) ∧ Kp [] w W
theorem zcells_append (a b : List Int) : zcells (a ++ b) = zcells a ++ zcells b := by simp [zcells]
section
variable {w W V : World} {l : List Int} {v : Value}
theorem Col.nil (w : World) : Col w [] (.slice none 0 0) w := ⟨⟨rfl, .inl ⟨rfl, rfl⟩⟩, Kp.refl _ _⟩
theorem Col.nil' {W : World} (k : Kp [] w W) : Col w [] (.slice none 0 0) W := ⟨⟨rfl, .inl ⟨rfl, rfl⟩⟩, k⟩
theorem col_own_kp {S : List Nat} {B : Nat} {e : TypeId} {z n : Nat} {v : Value} {xs : List Value} (h : w.ownsRow B e z v n xs) (k : Kp S w V) (hS : ∀ g, v.ownBlock = some g → g ∉ S) : V.ownsRow B e z v n xs := by
  obtain ⟨hl, h2 | ⟨g, cap, cur, hv, hg, hb, r⟩⟩ := h
  · exact ⟨hl, .inl h2⟩
  · subst hv
    exact ⟨hl, .inr ⟨g, cap, cur, rfl, hg, Blk.kp hb k (hS g rfl), r⟩⟩
theorem Col.kp0 (h : Col w l v W) (k : Kp [] W V) : Col w l v V := ⟨col_own_kp h.1 k (fun _ _ => by simp), h.2.chain k⟩
/-- A literal of numbers. -/
theorem Col.lit {W : World} (k : Kp [] w W) (zs : List Int) (hl : zs.length ≤ 1000000000) : Col w zs (.slice (some ⟨W.heap.size, 0, none⟩) zs.length zs.length) (W.alloc (.cells (zcells zs).toArray 3)) := by
  refine ⟨⟨by simp [zcells], .inr ⟨W.heap.size, zs.length, (zcells zs).toArray, rfl, k.size, Blk.new W _ _, Nat.le_refl _, by unfold maxLen; omega, by simp [zcells], by rw [Nat.mul_one]; exact List.take_of_length_le (by simp [zcells])⟩⟩, k.chain (Kp.new _ _)⟩
/-- A block of another type is none of its. -/
theorem Col.off (h : Col w l v W) {g : Nat} {T : TypeId} {cs : Array Value} (hb : Blk W g T cs) (hT : T ≠ 3) : g ∉ v.ownBlock.toList := by
  intro hm
  rcases h.1.2 with ⟨hv, _⟩ | ⟨g', cap, cur, hv, _, hb', _⟩
  · rw [hv] at hm; cases hm
  · rw [hv] at hm
    simp [Value.ownBlock] at hm
    subst hm
    have hB : Blk W g 3 cur := hb'
    exact hb.ne_ hB hT rfl
theorem Col.old (h : Col w l v W) {g : Nat} (hg : g < w.heap.size) : g ∉ v.ownBlock.toList := by
  intro hm
  rcases h.1.2 with ⟨hv, _⟩ | ⟨g', cap, cur, hv, hge, hb', _⟩
  · rw [hv] at hm; cases hm
  · rw [hv] at hm
    simp [Value.ownBlock] at hm
    omega
theorem Col.new_ (h : Col w l v W) : ∀ x ∈ v.ownBlock.toList, w.heap.size ≤ x := fun x hx => Nat.le_of_not_lt fun hlt => h.old hlt hx
/-- One more. -/
theorem wpList_col {ops : Array Oper} {rest : List Oper} {o : Oper} {a : Act} {Q : Exit → Act → World → Prop} (hgd : o.guard = none) (s x : Operand)
    (ho : o.op = .call { callee := .builtin .append, args := #[s, x], argTypes := #[45, 45] }) (hc : Col w l v W) (hl : l.length ≤ 1000000000) (z : Int)
    (hs : a.eval s = v) (hx : a.eval x = .slice (some ⟨W.heap.size, 0, none⟩) 1 1)
    (hK : ∀ v' W', Col w (l ++ [z]) v' W' → Kp v.ownBlock.toList W W' → wpList Tryd.prog ops Q rest (a.put o.dst v') W') :
    wpList Tryd.prog ops Q (o :: rest) a (W.alloc (.cells #[.int .i64 z] 3)) := by
  obtain ⟨i0, hi0, hz0, hz1, hz2⟩ := info_parts infoInt
  have hsz := hc.2.size
  refine wpList_append_own_at _ hgd s x 45 ho w.heap.size 3 i0 (.int .i64 0) 1 8 Tryd.underlying45 hi0 hz0 hz1 hz2 rfl (by decide) v l.length (zcells l) hs (hc.1.alloc _) ⟨W.heap.size, 0, none⟩ 1 1 [.int .i64 z] hx rfl (one_new0 W z) (one_cell z) (by unfold maxLen; omega) (by omega) (by simp; omega) ?_
  intro v' w9 hown' hgr _ hat
  have hk : Kp v.ownBlock.toList W w9 := (Kp.new W _).trans (Kp.of_grown hgr) (by simp) (fun x hx => .inl hx)
  refine hK v' w9 ⟨?_, hc.2.trans hk (by simp) (fun x hx => .inr (hc.new_ x hx))⟩ hk
  rw [zcells_append, List.length_append]
  exact hown'
/-- Many more, out of another slice. -/
theorem wpList_cols {ops : Array Oper} {rest : List Oper} {o : Oper} {a : Act} {Q : Exit → Act → World → Prop} (hgd : o.guard = none) (s x : Operand)
    (ho : o.op = .call { callee := .builtin .append, args := #[s, x], argTypes := #[45, 45] }) (hc : Col w l v W) (hl : l.length ≤ 1000000000) {zs : List Int} {u : Value} {B : Nat} (hu : W.ownsRow B 3 1 u zs.length (zcells zs)) (hz : zs.length ≤ 1000000000)
    (hs : a.eval s = v) (hx : a.eval x = u)
    (hK : ∀ v' W', Col w (l ++ zs) v' W' → Kp v.ownBlock.toList W W' → wpList Tryd.prog ops Q rest (a.put o.dst v') W') :
    wpList Tryd.prog ops Q (o :: rest) a W := by
  obtain ⟨i0, hi0, hz0, hz1, hz2⟩ := info_parts infoInt
  have hsz := hc.2.size
  rcases hu.2 with ⟨hv, h0⟩ | ⟨g, cap, cur, hv, hg, hb, h1, h2, h3, h4⟩
  · have hze : zs = [] := List.length_eq_zero_iff.1 h0
    subst hze
    subst hv
    refine wpList_append_own_none hgd s x 45 ho w.heap.size 3 i0 1 Tryd.underlying45 hi0 v l.length (zcells l) hs hc.1 hx ?_
    exact hK v W (by rw [List.append_nil]; exact hc) (Kp.refl _ _)
  · subst hv
    refine wpList_append_own_at _ hgd s x 45 ho w.heap.size 3 i0 (.int .i64 0) 1 8 Tryd.underlying45 hi0 hz0 hz1 hz2 rfl (by decide) v l.length (zcells l) hs hc.1 ⟨g, 0, none⟩ zs.length cap (zcells zs) hx (by rw [zcells_length, Nat.mul_one]) (hu.cells rfl) (fun y hy => by
      unfold zcells at hy
      obtain ⟨q, _, rfl⟩ := List.mem_map.1 hy
      rfl) (by unfold maxLen; omega) (by omega) (by omega) ?_
    intro v' w9 hown' hgr _ hat
    have hk : Kp v.ownBlock.toList W w9 := Kp.of_grown hgr
    refine hK v' w9 ⟨?_, hc.2.trans hk (by simp) (fun x hx => .inr (hc.new_ x hx))⟩ hk
    rw [zcells_append, List.length_append]
    exact hown'
end
end Go.Proofs.YtbiompmklijgoaaDoor
/-
  The law's do, great and made, over package model. Conditions: those that stand in each theorem.
-/
namespace Go.Proofs.YtbiompmklijgoaaDoor
set_option linter.unusedVariables false
set_option linter.unusedSimpArgs false
open Go.RowKit Go.Deep Go.Maps

/-- What a call of the laws does, and what it returns. -/
def MT.dos (t : MT) (s : SP) : MT × Int :=
  if s.k = 0 then ((t.act s.mu s.act).1, (t.act s.mu s.act).2.2)
  else if s.k = 1 then (t.collect.1, 0)
  else if s.k = 2 then (t.pushM s.a, t.pushE s.a)
  else if s.k = 3 then (t.popM, t.popE)
  else if s.k = 4 then (t.srM s.a s.b s.c, t.srE s.a s.b s.c)
  else (t, 0)
/-- The first calls. -/
def MT.plays (t : MT) (X : Nat → SP) : Nat → MT
  | 0 => t
  | i + 1 => ((MT.plays t X i).dos (X i)).1
theorem MT.setS_ob (t : MT) (p : Nat) (y : Int) : (t.setS p y).ob = t.ob := rfl
theorem ite_ob {t : MT} {c : Prop} [Decidable c] {a b : MT × ET} (ha : a.1.ob = t.ob) (hb : b.1.ob = t.ob) : (if c then a else b).1.ob = t.ob := by
  by_cases h : c
  · rw [if_pos h]; exact ha
  · rw [if_neg h]; exact hb
theorem MT.done_ob (t : MT) (m : Nat) (x : MA) (h : ¬ x.k = 0) : (t.done m x).1.ob = t.ob := by
  unfold MT.done
  rw [if_neg h]
  exact ite_ob rfl (ite_ob rfl (ite_ob rfl (ite_ob rfl (ite_ob rfl (ite_ob rfl (ite_ob rfl (ite_ob rfl (ite_ob rfl (ite_ob rfl rfl)))))))))
theorem MT.act_ob (t : MT) (mu : Int) (x : MA) : (t.act mu x).1.ob.length ≤ t.ob.length + 1 := by
  unfold MT.act
  by_cases he : t.err mu x = 0
  · rw [if_pos he]
    show (t.done mu.toNat x).1.ob.length ≤ _
    by_cases h : x.k = 0
    · unfold MT.done
      rw [if_pos h]
      show (t.ob ++ [(_ : OB)]).length ≤ _
      rw [List.length_append]
      exact Nat.le_refl _
    · rw [t.done_ob _ _ h]
      exact Nat.le_succ _
  · rw [if_neg he]
    exact Nat.le_succ _
theorem MT.dos_ob (t : MT) (s : SP) : (t.dos s).1.ob.length ≤ t.ob.length + 1 := by
  unfold MT.dos
  split
  · exact t.act_ob _ _
  · split
    · show t.collect.1.ob.length ≤ _
      have e : t.collect.1.ob = t.ob := (t.clrs_like t.kb (t.ob.length + 1)).ob
      rw [e]
      exact Nat.le_succ _
    · split
      · show (t.pushM s.a).ob.length ≤ _
        unfold MT.pushM
        split <;> exact Nat.le_succ _
      · split
        · exact Nat.le_succ _
        · split
          · show (t.srM s.a s.b s.c).ob.length ≤ _
            unfold MT.srM
            split <;> exact Nat.le_succ _
          · exact Nat.le_succ _
theorem MT.plays_ob (t : MT) (X : Nat → SP) (i : Nat) : (t.plays X i).ob.length ≤ t.ob.length + i := by
  induction i with
  | zero => exact Nat.le_refl _
  | succ i ih => have := (t.plays X i).dos_ob (X i); simp only [MT.plays]; omega
section
variable {w w' W V : World} {g : Nat} {t t' : MT} {L : List Nat}
theorem l_push (h : Live W g t L) (x : Int) :
    Calls Tryd.prog 37 #[.pointer (some ⟨g, 0, none⟩), .int .i64 x] W fun e w' => e = .returned (.int .i64 (t.pushE x)) ∧ Live w' g (t.pushM x) L ∧ Stay L W w' := by
  obtain ⟨b, rfl, R, n⟩ := h.mr
  refine (m_push R x).mono ?_
  rintro e w' ⟨h1, h2⟩
  exact ⟨h1, h.chg rfl R n h2⟩
theorem l_pop (h : Live W g t L) :
    Calls Tryd.prog 50 #[.pointer (some ⟨g, 0, none⟩)] W fun e w' => e = .returned (.tuple #[.int .i64 t.popV, .int .i64 t.popE]) ∧ Live w' g t.popM L ∧ Stay L W w' := by
  obtain ⟨b, rfl, R, n⟩ := h.mr
  refine (m_pop R).mono ?_
  rintro e w' ⟨h1, h2⟩
  exact ⟨h1, h.chg rfl R n h2⟩
theorem l_setRef (h : Live W g t L) (x i y : Int) (hy : W64 y) :
    Calls Tryd.prog 36 #[.pointer (some ⟨g, 0, none⟩), .int .i64 x, .int .i64 i, .int .i64 y] W fun e w' => e = .returned (.int .i64 (t.srE x i y)) ∧ Live w' g (t.srM x i y) L ∧ Stay L W w' := by
  obtain ⟨b, rfl, R, n⟩ := h.mr
  refine (m_setRef R x i y hy).mono ?_
  rintro e w' ⟨h1, h2⟩
  exact ⟨h1, h.chg rfl R n h2⟩
def LD (W : World) (g : Nat) (p : MT × Int) (L : List Nat) (e : Ending) (w' : World) : Prop := e = .returned (.int .i64 p.2) ∧ Live w' g p.1 L ∧ Stay L W w'
set_option maxRecDepth 100000 in
set_option maxHeartbeats 1000000 in
theorem l_do (h : Live W g t L) (hob : t.ob.length < 100000) (s : SP) (hs : s.Ok) :
    Calls Tryd.prog 29 #[.pointer (some ⟨g, 0, none⟩), .agg s.cells] W (LD W g (t.dos s) L) := by
  obtain ⟨sk, smu, act, sa, sb, sc⟩ := s
  obtain ⟨ak, aa, ab, ai, an, ar, ad, as_⟩ := act
  obtain ⟨_, _, hn, ha, hb, hc⟩ := hs
  simp only at hn ha hb hc
  unfold SP.cells
  simp only
  have hbx := Blk.new W 37 #[.int .i64 sk, .int .i64 smu, .int .i64 ak, .int .i64 aa, .int .i64 ab, .int .i64 ai, .int .i64 an, .int .i64 ar, .int .i64 ad, .int .i64 as_, .int .i64 sa, .int .i64 sb, .int .i64 sc]
  obtain ⟨hv1, hs1⟩ := h.kp0 (Kp.new W (.cells #[.int .i64 sk, .int .i64 smu, .int .i64 ak, .int .i64 aa, .int .i64 ab, .int .i64 ai, .int .i64 an, .int .i64 ar, .int .i64 ad, .int .i64 as_, .int .i64 sa, .int .i64 sb, .int .i64 sc] 37))
  have c0 := hbx.cell 0
  have c1 := hbx.cell 1
  have c2 := hbx.cell 2
  have c3 := hbx.cell 3
  have c4 := hbx.cell 4
  have c5 := hbx.cell 5
  have c6 := hbx.cell 6
  have c7 := hbx.cell 7
  have c8 := hbx.cell 8
  have c9 := hbx.cell 9
  have c10 := hbx.cell 10
  have c11 := hbx.cell 11
  have c12 := hbx.cell 12
  have HV := hid hv1
  have HS := hid hs1
  have HN := hid hn
  have HC := hid hc
  have HOB := hid hob
  clear h hbx hv1 hs1 hn ha hb hc hob
  by_cases k0 : sk = 0
  · subst k0
    have HD : Hid (t.dos ⟨0, smu, ⟨ak, aa, ab, ai, an, ar, ad, as_⟩, sa, sb, sc⟩ = ((t.act smu ⟨ak, aa, ab, ai, an, ar, ad, as_⟩).1, (t.act smu ⟨ak, aa, ab, ai, an, ar, ad, as_⟩).2.2)) := by
      show MT.dos _ _ = _
      unfold MT.dos
      dsimp only
      rw [if_pos rfl]
    go_enter Tryd.func29, Tryd.ntmps29
    go_wp2_with (fail)
    refine (l_Do HV.out HOB.out smu ⟨ak, aa, ab, ai, an, ar, ad, as_⟩ HN.out).mono ?_
    rintro e w5 ⟨A5, n5, c5, rfl, v5, s5, _⟩
    have HF : Hid (Live w5 g (t.dos ⟨0, smu, ⟨ak, aa, ab, ai, an, ar, ad, as_⟩, sa, sb, sc⟩).1 L ∧ Stay L W w5) := by rw [HD.out]; exact ⟨v5, HS.out.trans s5⟩
    clear v5 s5
    go_wp2
    go_ret
    exact ⟨by rw [HD.out]; rfl, HF.out⟩
  by_cases k1 : sk = 1
  · subst k1
    have HD : Hid (t.dos ⟨1, smu, ⟨ak, aa, ab, ai, an, ar, ad, as_⟩, sa, sb, sc⟩ = (t.collect.1, 0)) := by
      show MT.dos _ _ = _
      unfold MT.dos
      dsimp only
      rw [if_neg (show ¬ (1 : Int) = 0 by decide), if_pos rfl]
    go_enter Tryd.func29, Tryd.ntmps29
    go_wp2_with (fail)
    refine (l_Collect HV.out).mono ?_
    rintro e w5 ⟨rfl, v5, s5⟩
    have HF : Hid (Live w5 g (t.dos ⟨1, smu, ⟨ak, aa, ab, ai, an, ar, ad, as_⟩, sa, sb, sc⟩).1 L ∧ Stay L W w5) := by rw [HD.out]; exact ⟨v5, HS.out.trans s5⟩
    clear v5 s5
    go_wp2
    go_ret
    exact ⟨by rw [HD.out]; rfl, HF.out⟩
  by_cases k2 : sk = 2
  · subst k2
    have HD : Hid (t.dos ⟨2, smu, ⟨ak, aa, ab, ai, an, ar, ad, as_⟩, sa, sb, sc⟩ = (t.pushM sa, t.pushE sa)) := by
      show MT.dos _ _ = _
      unfold MT.dos
      dsimp only
      rw [if_neg (show ¬ (2 : Int) = 0 by decide), if_neg (show ¬ (2 : Int) = 1 by decide), if_pos rfl]
    go_enter Tryd.func29, Tryd.ntmps29
    go_wp2_with (fail)
    refine (l_push HV.out sa).mono ?_
    rintro e w5 ⟨rfl, v5, s5⟩
    have HF : Hid (Live w5 g (t.dos ⟨2, smu, ⟨ak, aa, ab, ai, an, ar, ad, as_⟩, sa, sb, sc⟩).1 L ∧ Stay L W w5) := by rw [HD.out]; exact ⟨v5, HS.out.trans s5⟩
    clear v5 s5
    go_wp2
    go_ret
    exact ⟨by rw [HD.out]; rfl, HF.out⟩
  by_cases k3 : sk = 3
  · subst k3
    have HD : Hid (t.dos ⟨3, smu, ⟨ak, aa, ab, ai, an, ar, ad, as_⟩, sa, sb, sc⟩ = (t.popM, t.popE)) := by
      show MT.dos _ _ = _
      unfold MT.dos
      dsimp only
      rw [if_neg (show ¬ (3 : Int) = 0 by decide), if_neg (show ¬ (3 : Int) = 1 by decide), if_neg (show ¬ (3 : Int) = 2 by decide), if_pos rfl]
    go_enter Tryd.func29, Tryd.ntmps29
    go_wp2_with (fail)
    refine (l_pop HV.out).mono ?_
    rintro e w5 ⟨rfl, v5, s5⟩
    have HF : Hid (Live w5 g (t.dos ⟨3, smu, ⟨ak, aa, ab, ai, an, ar, ad, as_⟩, sa, sb, sc⟩).1 L ∧ Stay L W w5) := by rw [HD.out]; exact ⟨v5, HS.out.trans s5⟩
    clear v5 s5
    go_wp2
    go_ret
    exact ⟨by rw [HD.out]; rfl, HF.out⟩
  by_cases k4 : sk = 4
  · subst k4
    have HD : Hid (t.dos ⟨4, smu, ⟨ak, aa, ab, ai, an, ar, ad, as_⟩, sa, sb, sc⟩ = (t.srM sa sb sc, t.srE sa sb sc)) := by
      show MT.dos _ _ = _
      unfold MT.dos
      dsimp only
      rw [if_neg (show ¬ (4 : Int) = 0 by decide), if_neg (show ¬ (4 : Int) = 1 by decide), if_neg (show ¬ (4 : Int) = 2 by decide), if_neg (show ¬ (4 : Int) = 3 by decide), if_pos rfl]
    go_enter Tryd.func29, Tryd.ntmps29
    go_wp2_with (fail)
    refine (l_setRef HV.out sa sb sc HC.out).mono ?_
    rintro e w5 ⟨rfl, v5, s5⟩
    have HF : Hid (Live w5 g (t.dos ⟨4, smu, ⟨ak, aa, ab, ai, an, ar, ad, as_⟩, sa, sb, sc⟩).1 L ∧ Stay L W w5) := by rw [HD.out]; exact ⟨v5, HS.out.trans s5⟩
    clear v5 s5
    go_wp2
    go_ret
    exact ⟨by rw [HD.out]; rfl, HF.out⟩
  have HD : Hid (t.dos ⟨sk, smu, ⟨ak, aa, ab, ai, an, ar, ad, as_⟩, sa, sb, sc⟩ = (t, 0)) := by
    show MT.dos _ _ = _
    unfold MT.dos
    dsimp only
    rw [if_neg k0, if_neg k1, if_neg k2, if_neg k3, if_neg k4]
  have q0 : (sk == 0) = false := by simpa using k0
  have q1 : (sk == 1) = false := by simpa using k1
  have q2 : (sk == 2) = false := by simpa using k2
  have q3 : (sk == 3) = false := by simpa using k3
  have q4 : (sk == 4) = false := by simpa using k4
  clear k0 k1 k2 k3 k4
  go_enter Tryd.func29, Tryd.ntmps29
  go_wp2
  go_ret
  exact ⟨by rw [HD.out]; rfl, by rw [HD.out]; exact HV.out, HS.out⟩
theorem m_great_no (w : World) {A : Option Addr} {n c : Nat} (h : n ≤ 120) :
    Calls Tryd.prog 12 #[.slice A n c] w fun e w' => e = .returned (.bool false) ∧ w = w' := by
  have d : decide ((120 : Int) < (n : Int)) = false := decide_eq_false (by omega)
  go_enter Tryd.func12, Tryd.ntmps12
  go_wp2
  go_ret
  exact ⟨rfl, rfl⟩
theorem m_great_yes (w : World) {A : Option Addr} {n c : Nat} (h : 120 < n) :
    Calls Tryd.prog 12 #[.slice A n c] w fun e w' => e = .returned (.bool true) ∧ w = w' := by
  have d : decide ((120 : Int) < (n : Int)) = true := decide_eq_true (by omega)
  go_enter Tryd.func12, Tryd.ntmps12
  go_wp2
  go_ret
  exact ⟨rfl, rfl⟩
/-- The model that calls made. -/
def madeT (n : Nat) (X : Nat → SP) (len : Nat) : MT := (MT.new n).plays X len
def MadeP (w : World) (n : Nat) (X : Nat → SP) (len : Nat) (e : Ending) (w' : World) : Prop := ∃ g, e = .returned (.pointer (some ⟨g, 0, none⟩)) ∧ Live w' g (madeT n X len) (List.range w.heap.size) ∧ Kp [] w w'
set_option maxRecDepth 100000 in
set_option maxHeartbeats 1000000 in
theorem m_made_ok (hlz : LZ w) (n : Nat) (h1 : 1 ≤ n) (h2 : n ≤ 4) {A : Option Addr} {len cap : Nat} {X : Nat → SP} (HX : StepsR w A len X) (hl : len ≤ 120) :
    Calls Tryd.prog 27 #[.int .i64 (n : Int), .slice A len cap] w (MadeP w n X len) := by
  have HLZ := hid hlz
  have HST := hid HX
  clear hlz HX
  go_enter Tryd.func27, Tryd.ntmps27
  go_wp2_with (fail)
  refine (l_New HLZ.out n h1 h2).mono ?_
  rintro e w1 ⟨g, rfl, V1, K1⟩
  have HV1 := hid V1
  have HK1 := hid K1
  have HL0 : Hid (∀ x, x < w.heap.size → x ∈ List.range w.heap.size) := fun x hx => List.mem_range.2 hx
  have HLE : Hid (List.range w.heap.size = List.range w.heap.size) := rfl
  clear V1 K1
  obtain ⟨L0, hL0⟩ : ∃ L0, L0 = List.range w.heap.size := ⟨_, rfl⟩
  have HLQ := hid hL0
  rw [← hL0] at HV1 HL0
  clear hL0
  go_wp2_with (fail)
  refine (m_great_no w1 hl).mono ?_
  rintro e w' ⟨rfl, rfl⟩
  go_wp2_with (fail)
  go_loopw [7] (fun ct wr => ∃ i : Nat, i ≤ len ∧ ct = .int .i64 (i : Int) ∧ Live wr g ((MT.new n).plays X i) L0 ∧ Stay L0 w1 wr) (fun ct _ => len - (intOf ct).toNat)
  case atStart => exact ⟨0, by omega, rfl, HV1.out, Stay.refl _ _⟩
  case round =>
    obtain ⟨i, hi, rfl, hv, hs⟩ := hrel
    have HV := hid hv
    have HS := hid hs
    have HKW := hid (hs.kp0 HK1.out HL0.out)
    clear hv hs
    by_cases hlt : i < len
    · obtain ⟨ag, ao, rfl, hat⟩ := (HST.out.kp0 HKW.out).at_ i hlt
      have hok := HST.out.ok i hlt
      have HPL : Hid ((MT.new n).plays X (i + 1) = (((MT.new n).plays X i).dos (X i)).1) := rfl
      have hobi := (MT.new n).plays_ob X i
      have hob0 : (MT.new n).ob.length = 0 := rfl
      have HOB : Hid (((MT.new n).plays X i).ob.length < 100000) := by show _ < _; omega
      obtain ⟨s, hs⟩ : ∃ s, s = X i := ⟨_, rfl⟩
      rw [← hs] at hat hok HPL
      have HOK := hid hok
      have hli : (i : Int) < (len : Int) := by omega
      have ce0 : wr.cell? ⟨ag, ao + i * 13, none⟩ = some (.int .i64 s.k) := hat 0 _ rfl
      have ce1 : wr.cell? ⟨ag, ao + i * 13 + 1, none⟩ = some (.int .i64 s.mu) := hat 1 _ rfl
      have ce2 : wr.cell? ⟨ag, ao + i * 13 + 2, none⟩ = some (.int .i64 s.act.k) := hat 2 _ rfl
      have ce3 : wr.cell? ⟨ag, ao + i * 13 + 3, none⟩ = some (.int .i64 s.act.a) := hat 3 _ rfl
      have ce4 : wr.cell? ⟨ag, ao + i * 13 + 4, none⟩ = some (.int .i64 s.act.b) := hat 4 _ rfl
      have ce5 : wr.cell? ⟨ag, ao + i * 13 + 5, none⟩ = some (.int .i64 s.act.i) := hat 5 _ rfl
      have ce6 : wr.cell? ⟨ag, ao + i * 13 + 6, none⟩ = some (.int .i64 s.act.n) := hat 6 _ rfl
      have ce7 : wr.cell? ⟨ag, ao + i * 13 + 7, none⟩ = some (.int .i64 s.act.r) := hat 7 _ rfl
      have ce8 : wr.cell? ⟨ag, ao + i * 13 + 8, none⟩ = some (.int .i64 s.act.d) := hat 8 _ rfl
      have ce9 : wr.cell? ⟨ag, ao + i * 13 + 9, none⟩ = some (.int .i64 s.act.s) := hat 9 _ rfl
      have ce10 : wr.cell? ⟨ag, ao + i * 13 + 10, none⟩ = some (.int .i64 s.a) := hat 10 _ rfl
      have ce11 : wr.cell? ⟨ag, ao + i * 13 + 11, none⟩ = some (.int .i64 s.b) := hat 11 _ rfl
      have ce12 : wr.cell? ⟨ag, ao + i * 13 + 12, none⟩ = some (.int .i64 s.c) := hat 12 _ rfl
      clear hat hok hs hobi hob0
      go_wp2_with (fail)
      refine (l_do HV.out HOB.out s HOK.out).mono ?_
      rintro e w5 ⟨rfl, v5, s5⟩
      have HV5 := hid v5
      have HS5 := hid (HS.out.trans s5)
      clear v5 s5
      go_wp2_with (fail)
      go_roundw
      case rel => exact ⟨i + 1, by omega, by go_num, by rw [HPL.out]; exact HV5.out, HS5.out⟩
      case measure => simp [intOf]; omega
    · obtain rfl : i = len := by omega
      have HF : Hid (MadeP w n X i (.returned (.pointer (some ⟨g, 0, none⟩))) wr) := ⟨g, rfl, by rw [← HLQ.out]; exact HV.out, HKW.out⟩
      go_wp2
      go_ret
      exact HF.out
theorem m_made_no (hlz : LZ w) (n : Int) {A : Option Addr} {len cap : Nat} (h : ¬ (1 ≤ n ∧ n ≤ 4) ∨ 120 < len) :
    Calls Tryd.prog 27 #[.int .i64 n, .slice A len cap] w fun e w' => e = .returned (.pointer none) ∧ Kp [] w w' := by
  have HLZ := hid hlz
  clear hlz
  by_cases hn : 1 ≤ n ∧ n ≤ 4
  · have hl : 120 < len := by omega
    obtain ⟨k, rfl⟩ : ∃ k : Nat, n = (k : Int) := ⟨n.toNat, by omega⟩
    obtain ⟨hn1, hn2⟩ := hn
    have k1 : 1 ≤ k := by omega
    have k4 : k ≤ 4 := by omega
    clear h hn1 hn2
    go_enter Tryd.func27, Tryd.ntmps27
    go_wp2_with (fail)
    refine (l_New HLZ.out k k1 k4).mono ?_
    rintro e w1 ⟨g, rfl, V1, K1⟩
    have HK1 := hid K1
    clear V1 K1
    go_wp2_with (fail)
    refine (m_great_yes w1 hl).mono ?_
    rintro e w' ⟨rfl, rfl⟩
    go_wp2
    go_ret
    exact ⟨rfl, HK1.out⟩
  · have HN := hid hn
    have hlen : len ≤ 120 ∨ 120 < len := by omega
    clear hn h
    rcases hlen with hl | hl
    · go_enter Tryd.func27, Tryd.ntmps27
      go_wp2_with (fail)
      refine (m_new_bad n HN.out).mono ?_
      rintro e w1 ⟨rfl, m1, rfl⟩
      go_wp2_with (fail)
      refine (m_great_no _ hl).mono ?_
      rintro e w' ⟨rfl, rfl⟩
      go_wp2
      go_ret
      exact ⟨rfl, Kp.draw _ _⟩
    · go_enter Tryd.func27, Tryd.ntmps27
      go_wp2_with (fail)
      refine (m_new_bad n HN.out).mono ?_
      rintro e w1 ⟨rfl, m1, rfl⟩
      go_wp2_with (fail)
      refine (m_great_yes _ hl).mono ?_
      rintro e w' ⟨rfl, rfl⟩
      go_wp2
      go_ret
      exact ⟨rfl, Kp.draw _ _⟩
end
end Go.Proofs.YtbiompmklijgoaaDoor
/-
  The law's contents, roots and state, over package model. Conditions: those that stand in each theorem.
-/
namespace Go.Proofs.YtbiompmklijgoaaDoor
set_option linter.unusedVariables false
set_option linter.unusedSimpArgs false
open Go.RowKit Go.Deep Go.Maps

/-- The data words of an object. -/
def MT.dw (t : MT) (x : Int) (i : Nat) : Int := t.ws.getD ((t.obj x).f + (t.obj x).r + i) 0
def MT.datl (t : MT) (x : Int) : List Int := (List.range ((t.obj x).d)).map (t.dw x)
def MT.cont (t : MT) (x : Int) : List Int := [((t.obj x).r : Int), ((t.obj x).d : Int), ((t.obj x).k : Int)] ++ t.refl x ++ t.datl x
theorem range_snoc (f : Nat → Int) (i : Nat) : (List.range (i + 1)).map f = (List.range i).map f ++ [f i] := by
  rw [List.range_succ, List.map_append]
  rfl
section
variable {w w' W V : World} {b : MB} {t : MT}
theorem MT.refV_at {t : MT} {x : Int} (hx : t.has x = true) {i : Nat} (hi : i < (t.obj x).r) : t.refV x (i : Int) = t.rf x i ∧ t.refE x (i : Int) = 0 := by
  have h : t.isR x (i : Int) = true := decide_eq_true ⟨by omega, by omega⟩
  unfold MT.refV MT.refE
  rw [hx, h]
  simp [MT.rf]
theorem MT.datV_at {t : MT} {x : Int} (hx : t.has x = true) {i : Nat} (hi : i < (t.obj x).d) : t.datV x (i : Int) = t.dw x i ∧ t.datE x (i : Int) = 0 := by
  have h : t.isD x (i : Int) = true := decide_eq_true ⟨by omega, by omega⟩
  unfold MT.datV MT.datE
  rw [hx, h]
  simp [MT.dw]
theorem MT.sloV_at {t : MT} {m i : Nat} (hm : m < t.n) (hi : i < 16) : t.sloV (m : Int) (i : Int) = t.sl.getD (m * 16 + i) 0 ∧ t.sloE (m : Int) (i : Int) = 0 := by
  have h1 : t.hasM (m : Int) = true := decide_eq_true ⟨by omega, by omega⟩
  have h2 : slotB (i : Int) = true := decide_eq_true ⟨by omega, by omega⟩
  unfold MT.sloV MT.sloE
  rw [h1, h2]
  simp
theorem MT.gloV_at {t : MT} {i : Nat} (hi : i < 16) : t.gloV (i : Int) = t.gl.getD i 0 ∧ t.gloE (i : Int) = 0 := by
  have h2 : slotB (i : Int) = true := decide_eq_true ⟨by omega, by omega⟩
  unfold MT.gloV MT.gloE
  rw [h2]
  simp
theorem MR.shape15 (R : MR W b t) {x : Int} (hx : t.has x = true) : (t.obj x).r ≤ 15 ∧ (t.obj x).d ≤ 200 := by
  obtain ⟨i, rfl, hi, ho⟩ := MT.has_nat hx
  rw [ho]
  have := of_decide_eq_true (R.ok.sh i hi)
  omega
def CoL (w : World) (gx : Nat) (cs : Array Value) (l : List Int) (v : Value) (W : World) : Prop := Col w l v W ∧ Blk W gx 33 cs
theorem CoL.step {gx : Nat} {cs : Array Value} {l l' : List Int} {v v' : Value} (h : CoL w gx cs l v W) (hc : Col w l' v' V) (k : Kp v.ownBlock.toList W V) : CoL w gx cs l' v' V := ⟨hc, h.2.kp k (h.1.off h.2 (by decide))⟩
theorem CoL.kp0 {gx : Nat} {cs : Array Value} {l : List Int} {v : Value} (h : CoL w gx cs l v W) (k : Kp [] W V) : CoL w gx cs l v V := ⟨h.1.kp0 k, h.2.kp k (by simp)⟩
set_option maxRecDepth 100000 in
set_option maxHeartbeats 1000000 in
theorem m_contents (R : MR w b t) {x : Int} (hx : t.has x = true) :
    Calls Tryd.prog 28 #[.pointer (some ⟨b.g, 0, none⟩), .int .i64 x] w (IntsP w (t.cont x)) := by
  obtain ⟨nr15, nd200⟩ := R.shape15 hx
  obtain ⟨nr, hnr⟩ : ∃ n, n = (t.obj x).r := ⟨_, rfl⟩
  obtain ⟨nd, hnd⟩ : ∃ n, n = (t.obj x).d := ⟨_, rfl⟩
  obtain ⟨nk, hnk⟩ : ∃ n, n = (t.obj x).k := ⟨_, rfl⟩
  rw [← hnr] at nr15
  rw [← hnd] at nd200
  have HSH : Hid (t.shV x = .agg #[.int .i64 (nr : Int), .int .i64 (nd : Int), .int .i64 (nk : Int)] ∧ t.chk x = 0) := by
    refine ⟨?_, by unfold MT.chk; rw [hx]; rfl⟩
    unfold MT.shV
    rw [hx, hnr, hnd, hnk]
    rfl
  have HNR := hid hnr
  have HND := hid hnd
  have HNK := hid hnk
  have HR := hid R
  have HX := hid hx
  clear R hx hnr hnd hnk
  go_enter Tryd.func28, Tryd.ntmps28
  go_wp2_with (fail)
  refine (m_Shape HR.out x).mono ?_
  rintro e w2 ⟨rfl, k2⟩
  rw [HSH.out.1, HSH.out.2]
  have HK2 := hid k2
  have hez : ∀ V : World, (zeroValue 33).run Tryd.prog V = .ok (.agg #[.int .i64 0, .int .i64 0, .int .i64 0]) V := fun V => by kernel_rfl
  clear k2
  go_upto_region 3 with (fail)
  have hb := Blk.new w2 33 #[.int .i64 (nr : Int), .int .i64 (nd : Int), .int .i64 (nk : Int)]
  have hc := Col.lit (HK2.out.chain (Kp.new w2 (.cells #[.int .i64 (nr : Int), .int .i64 (nd : Int), .int .i64 (nk : Int)] 33))) [(nr : Int), (nd : Int), (nk : Int)] (by simp)
  rw [World.size_alloc] at hc
  have HCL0 : Hid (CoL w w2.heap.size #[.int .i64 (nr : Int), .int .i64 (nd : Int), .int .i64 (nk : Int)] [(nr : Int), (nd : Int), (nk : Int)] (.slice (some ⟨w2.heap.size + 1, 0, none⟩) 3 3) ((w2.alloc (.cells #[.int .i64 (nr : Int), .int .i64 (nd : Int), .int .i64 (nk : Int)] 33)).alloc (.cells #[.int .i64 (nr : Int), .int .i64 (nd : Int), .int .i64 (nk : Int)] 3))) := ⟨hc, hb.kp (Kp.new _ _) (by simp)⟩
  clear hb hc hez
  generalize (w2.alloc (.cells #[.int .i64 (nr : Int), .int .i64 (nd : Int), .int .i64 (nk : Int)] 33)).alloc (.cells #[.int .i64 (nr : Int), .int .i64 (nd : Int), .int .i64 (nk : Int)] 3) = w3 at HCL0 ⊢
  generalize w2.heap.size + 1 = g2 at HCL0 ⊢
  generalize w2.heap.size = gx at HCL0 ⊢
  have cc0 := HCL0.out.2.cell 0
  clear cc0
  go_wp2
  go_loopw [7, 8] (fun ct cl wr => ∃ (i : Nat) (lv : Value), lv = ct ∧ i ≤ nr ∧ cl = .int .i64 (i : Int) ∧ CoL w gx #[.int .i64 (nr : Int), .int .i64 (nd : Int), .int .i64 (nk : Int)] ([(nr : Int), (nd : Int), (nk : Int)] ++ (List.range i).map (t.rf x)) lv wr) (fun _ cl _ => nr - (intOf cl).toNat)
  case atStart => exact ⟨0, _, rfl, by omega, rfl, (by simpa using HCL0.out)⟩
  case round =>
    obtain ⟨i, lv, hlv, hi, rfl, hco⟩ := hrel
    subst hlv
    have HCO := hid hco
    have c0 := hco.2.cell 0
    clear hco
    by_cases hlt : i < nr
    · have HSN := hid (range_snoc (t.rf x) i)
      have hli : (i : Int) < (nr : Int) := by omega
      go_wp2_with (fail)
      refine ((m_Ref (HR.out.kp0 HCO.out.1.2) x (i : Int))).mono ?_
      rintro e w5 ⟨rfl, k5⟩
      rw [(MT.refV_at HX.out (by rw [← HNR.out]; exact hlt)).1, (MT.refV_at HX.out (by rw [← HNR.out]; exact hlt)).2]
      have HC5 := hid (HCO.out.kp0 k5)
      have hlen : ([(nr : Int), (nd : Int), (nk : Int)] ++ (List.range i).map (t.rf x)).length ≤ 1000000000 := by simp []; omega
      have HLEN := hid hlen
      clear k5 hlen c0
      go_wp2_with (first
        | (at_builtin; refine wpList_col rfl (.tmp 40) (.tmp 42) rfl HC5.out.1 HLEN.out (t.rf x i) rfl rfl ?_; intro v' w9 hc9 hk9; have HC9 := hid (HC5.out.step hc9 hk9); clear hc9 hk9)
        | fail)
      go_roundw
      case rel => exact ⟨i + 1, _, rfl, by omega, by go_num, by rw [HSN.out, ← List.append_assoc]; exact HC9.out⟩
      case measure => simp [intOf]; omega
    · obtain rfl : nr = i := by omega
      have HCX := hid HCO.out
      clear hlt
      go_wp2_with (fail)
      go_loopw [7, 11] (fun ct cl wr => ∃ (i : Nat) (lv : Value), lv = ct ∧ i ≤ nd ∧ cl = .int .i64 (i : Int) ∧ CoL w gx #[.int .i64 (nr : Int), .int .i64 (nd : Int), .int .i64 (nk : Int)] (([(nr : Int), (nd : Int), (nk : Int)] ++ (List.range nr).map (t.rf x)) ++ (List.range i).map (t.dw x)) lv wr) (fun _ cl _ => nd - (intOf cl).toNat)
      case atStart => exact ⟨0, _, rfl, by omega, rfl, (by simpa using HCX.out)⟩
      case round =>
        obtain ⟨i, lv, hlv, hi, rfl, hco⟩ := hrel
        subst hlv
        have HCO := hid hco
        have c1 := hco.2.cell 1
        clear hco
        by_cases hlt : i < nd
        · have HSN := hid (range_snoc (t.dw x) i)
          have hli : (i : Int) < (nd : Int) := by omega
          go_wp2_with (fail)
          refine ((m_Data (HR.out.kp0 HCO.out.1.2) x (i : Int))).mono ?_
          rintro e w5 ⟨rfl, k5⟩
          rw [(MT.datV_at HX.out (by rw [← HND.out]; exact hlt)).1, (MT.datV_at HX.out (by rw [← HND.out]; exact hlt)).2]
          have HC5 := hid (HCO.out.kp0 k5)
          have hlen : (([(nr : Int), (nd : Int), (nk : Int)] ++ (List.range nr).map (t.rf x)) ++ (List.range i).map (t.dw x)).length ≤ 1000000000 := by simp []; omega
          have HLEN := hid hlen
          clear k5 hlen c1
          go_wp2_with (first
            | (at_builtin; refine wpList_col rfl (.tmp 57) (.tmp 59) rfl HC5.out.1 HLEN.out (t.dw x i) rfl rfl ?_; intro v' w9 hc9 hk9; have HC9 := hid (HC5.out.step hc9 hk9); clear hc9 hk9)
            | fail)
          go_roundw
          case rel => exact ⟨i + 1, _, rfl, by omega, by go_num, by rw [HSN.out, ← List.append_assoc]; exact HC9.out⟩
          case measure => simp [intOf]; omega
        · obtain rfl : nd = i := by omega
          have HFI : Hid (IntsP w (t.cont x) (.returned lv) wr) := by
            refine ⟨lv, rfl, ?_, HCO.out.1.2⟩
            have e : t.cont x = [(nr : Int), (nd : Int), (nk : Int)] ++ (List.range nr).map (t.rf x) ++ (List.range nd).map (t.dw x) := by
              unfold MT.cont MT.refl MT.datl
              rw [HNR.out, HND.out, HNK.out]
            rw [e]
            exact HCO.out.1.1
          go_wp2
          go_ret
          exact HFI.out
/-- All that a model has, as the laws list it. -/
def MT.conts (t : MT) (k : Nat) : List Int := (List.range k).flatMap (fun i : Nat => t.cont ((i : Int) + 1))
def MT.stateL (t : MT) : List Int := [(t.ob.length : Int), (t.n : Int)] ++ t.roots ++ t.conts t.ob.length
theorem MT.conts_snoc (t : MT) (k : Nat) : t.conts (k + 1) = t.conts k ++ t.cont ((k : Int) + 1) := by
  unfold MT.conts
  rw [List.range_succ, List.flatMap_append]
  simp
theorem MT.cont_len {t : MT} (R : MR w b t) {x : Int} (hx : t.has x = true) : (t.cont x).length ≤ 218 := by
  obtain ⟨h1, h2⟩ := R.shape15 hx
  unfold MT.cont MT.refl MT.datl
  simp
  omega
theorem MT.conts_len {t : MT} (R : MR w b t) {k : Nat} (hk : k ≤ t.ob.length) : (t.conts k).length ≤ 218 * k := by
  induction k with
  | zero => simp [MT.conts]
  | succ k ih =>
    rw [MT.conts_snoc, List.length_append]
    have := MT.cont_len R (x := (k : Int) + 1) (decide_eq_true (by omega))
    have := ih (by omega)
    omega
set_option maxRecDepth 100000 in
set_option maxHeartbeats 1000000 in
theorem m_roots (R : MR w b t) :
    Calls Tryd.prog 32 #[.pointer (some ⟨b.g, 0, none⟩)] w (IntsP w t.roots) := by
  have HSL := hid R.ok.sl
  have HGL := hid R.ok.gl
  have HQL : Hid (t.qu.length ≤ 1000000000) := by
    have := R.ok.qu
    show _ ≤ _
    omega
  have hn4 := R.ok.n4
  have hob := R.ok.small.1
  have HR := hid R
  clear R
  have HC0 := hid (Col.nil w)
  go_enter Tryd.func32, Tryd.ntmps32
  go_wp2_with (fail)
  go_loopw [3, 4] (fun ct cl wr => ∃ (j : Nat) (lv : Value), lv = ct ∧ j ≤ t.n ∧ cl = .int .i64 (j : Int) ∧ Col w (([] : List Int) ++ t.sl.take (16 * j)) lv wr) (fun _ cl _ => t.n - (intOf cl).toNat)
  case atStart => exact ⟨0, _, rfl, by omega, rfl, by simpa using HC0.out⟩
  case round =>
    obtain ⟨j, lv, hlv, hj, rfl, hco⟩ := hrel
    subst hlv
    have HCO := hid hco
    clear hco
    by_cases hlt : j < t.n
    · have hji : (j : Int) < (t.n : Int) := by omega
      go_wp2_with (fail)
      refine (m_mutators (HR.out.kp0 HCO.out.2)).mono ?_
      rintro e w5 ⟨rfl, k5⟩
      have HC5 := hid (HCO.out.kp0 k5)
      clear k5
      go_wp2_with (fail)
      go_loopw [3, 5] (fun ct cl wr => ∃ (i : Nat) (lv : Value), lv = ct ∧ i ≤ 16 ∧ cl = .int .i64 (i : Int) ∧ Col w (([] : List Int) ++ t.sl.take (16 * j + i)) lv wr) (fun _ cl _ => 16 - (intOf cl).toNat)
      case atStart => exact ⟨0, _, rfl, by omega, rfl, HC5.out⟩
      case round =>
        obtain ⟨i, lv2, hlv, hi, rfl, hco⟩ := hrel
        subst hlv
        have HCI := hid hco
        clear hco
        by_cases hlt2 : i < 16
        · have hi16 : (i : Int) < 16 := by omega
          have HSN : Hid (t.sl.take (16 * j + (i + 1)) = t.sl.take (16 * j + i) ++ [t.sl.getD (j * 16 + i) 0]) := by
            show _ = _
            have e : j * 16 + i = 16 * j + i := by omega
            rw [← Nat.add_assoc, e]
            exact take_snocI (by rw [HSL.out]; omega)
          have HLEN : Hid ((([] : List Int) ++ t.sl.take (16 * j + i)).length ≤ 1000000000) := by
            show _ ≤ _
            have := HSL.out
            simp only [List.length_append, List.length_take, List.length_nil]
            omega
          go_wp2_with (fail)
          refine (m_slot (HR.out.kp0 HCI.out.2) (j : Int) (i : Int)).mono ?_
          rintro e w6 ⟨rfl, k6⟩
          rw [(MT.sloV_at hlt hlt2).1, (MT.sloV_at hlt hlt2).2]
          have HC6 := hid (HCI.out.kp0 k6)
          clear k6
          go_wp2_with (first
            | (at_builtin; refine wpList_col rfl (.tmp 28) (.tmp 30) rfl HC6.out HLEN.out (t.sl.getD (j * 16 + i) 0) rfl rfl ?_; intro v' w9 hc9 hk9; have HC9 := hid hc9; clear hc9 hk9)
            | fail)
          go_roundw
          case rel => exact ⟨i + 1, _, rfl, by omega, by go_num, by rw [HSN.out, ← List.append_assoc]; exact HC9.out⟩
          case measure => simp [intOf]; omega
        · obtain rfl : i = 16 := by omega
          clear hlt2
          go_wp2_with (fail)
          go_roundw
          case rel => exact ⟨j + 1, _, rfl, by omega, by go_num, by rw [show 16 * (j + 1) = 16 * j + 16 by omega]; exact HCI.out⟩
          case measure => simp [intOf]; omega
    · obtain rfl : j = t.n := by omega
      have hall : t.sl.take (16 * t.n) = t.sl := by rw [← HSL.out, List.take_length]
      have hco2 := HCO.out
      rw [hall] at hco2
      have HCS := hid hco2
      clear hco2 hall HCO hlt
      go_wp2_with (fail)
      refine (m_mutators (HR.out.kp0 HCS.out.2)).mono ?_
      rintro e w5 ⟨rfl, k5⟩
      have HC5 := hid (HCS.out.kp0 k5)
      clear k5
      go_wp2_with (fail)
      go_loopw [3, 8] (fun ct cl wr => ∃ (i : Nat) (lv : Value), lv = ct ∧ i ≤ 16 ∧ cl = .int .i64 (i : Int) ∧ Col w (([] : List Int) ++ t.sl ++ t.gl.take i) lv wr) (fun _ cl _ => 16 - (intOf cl).toNat)
      case atStart => exact ⟨0, _, rfl, by omega, rfl, by simpa using HC5.out⟩
      case round =>
        obtain ⟨i, lv2, hlv, hi, rfl, hco⟩ := hrel
        subst hlv
        have HCI := hid hco
        clear hco
        have HLEN : Hid ((([] : List Int) ++ t.sl ++ t.gl.take i).length ≤ 1000000000) := by
          show _ ≤ _
          have := HSL.out
          have := HGL.out
          simp only [List.length_append, List.length_take, List.length_nil]
          omega
        by_cases hlt2 : i < 16
        · have hi16 : (i : Int) < 16 := by omega
          have HSN : Hid (t.gl.take (i + 1) = t.gl.take i ++ [t.gl.getD i 0]) := take_snocI (by rw [HGL.out]; omega)
          go_wp2_with (fail)
          refine (m_global (HR.out.kp0 HCI.out.2) (i : Int)).mono ?_
          rintro e w6 ⟨rfl, k6⟩
          rw [(MT.gloV_at hlt2).1, (MT.gloV_at hlt2).2]
          have HC6 := hid (HCI.out.kp0 k6)
          clear k6
          go_wp2_with (first
            | (at_builtin; refine wpList_col rfl (.tmp 42) (.tmp 44) rfl HC6.out HLEN.out (t.gl.getD i 0) rfl rfl ?_; intro v' w9 hc9 hk9; have HC9 := hid hc9; clear hc9 hk9)
            | fail)
          go_roundw
          case rel => exact ⟨i + 1, _, rfl, by omega, by go_num, by rw [HSN.out, ← List.append_assoc]; exact HC9.out⟩
          case measure => simp [intOf]; omega
        · obtain rfl : i = 16 := by omega
          have hall : t.gl.take 16 = t.gl := by rw [← HGL.out, List.take_length]
          have hco2 := HCI.out
          rw [hall] at hco2
          have HCG := hid hco2
          have HLEN2 : Hid ((([] : List Int) ++ t.sl ++ t.gl).length ≤ 1000000000) := by
            have h := HLEN.out
            rw [hall] at h
            exact h
          clear hco2 hall hlt2 HLEN HCI
          go_wp2_with (fail)
          refine (m_queue (HR.out.kp0 HCG.out.2)).mono ?_
          rintro e w6 ⟨vq, rfl, oq, b6⟩
          have HC6 := hid (HCG.out.kp0 (Kp.of_below b6))
          have HOQ := hid oq
          clear oq b6
          go_wp2_with (first
            | (at_builtin; refine wpList_cols rfl (.tmp 46) (.tmp 48) rfl HC6.out HLEN2.out HOQ.out HQL.out rfl rfl ?_; intro v' w9 hc9 hk9; have HC9 := hid hc9; clear hc9 hk9)
            | fail)
          have HFI : Hid (IntsP w t.roots (.returned v') w9) := by
            refine ⟨v', rfl, ?_, HC9.out.2⟩
            have e : t.roots = ([] : List Int) ++ t.sl ++ t.gl ++ t.qu := rfl
            rw [e]
            exact HC9.out.1
          go_wp2
          go_ret
          exact HFI.out
set_option maxRecDepth 100000 in
set_option maxHeartbeats 1000000 in
theorem m_state (R : MR w b t) :
    Calls Tryd.prog 38 #[.pointer (some ⟨b.g, 0, none⟩)] w (IntsP w t.stateL) := by
  have HSL := hid R.ok.sl
  have HGL := hid R.ok.gl
  have HQL : Hid (t.qu.length ≤ 1000000000) := by
    have := R.ok.qu
    show _ ≤ _
    omega
  have hn4 := R.ok.n4
  have hob := R.ok.small.1
  have HR := hid R
  clear R
  go_enter Tryd.func38, Tryd.ntmps38
  go_wp2_with (fail)
  refine (m_births HR.out).mono ?_
  rintro e w1 ⟨rfl, k1⟩
  have HK1 := hid k1
  clear k1
  go_wp2_with (fail)
  refine (m_mutators (HR.out.kp0 HK1.out)).mono ?_
  rintro e w2 ⟨rfl, k2⟩
  have HK2 := hid (HK1.out.chain k2)
  clear k2
  have hc := Col.lit HK2.out [(t.ob.length : Int), (t.n : Int)] (by simp)
  have HC0 : Hid (Col w [(t.ob.length : Int), (t.n : Int)] (.slice (some ⟨w2.heap.size, 0, none⟩) 2 2) (w2.alloc (.cells #[.int .i64 (t.ob.length : Int), .int .i64 (t.n : Int)] 3))) := hc
  clear hc
  go_upto_region 2 with (fail)
  generalize w2.alloc (.cells #[.int .i64 (t.ob.length : Int), .int .i64 (t.n : Int)] 3) = w3 at HC0 ⊢
  generalize w2.heap.size = g2 at HC0 ⊢
  go_wp2
  go_loopw [3, 4] (fun ct cl wr => ∃ (j : Nat) (lv : Value), lv = ct ∧ j ≤ t.n ∧ cl = .int .i64 (j : Int) ∧ Col w ([(t.ob.length : Int), (t.n : Int)] ++ t.sl.take (16 * j)) lv wr) (fun _ cl _ => t.n - (intOf cl).toNat)
  case atStart => exact ⟨0, _, rfl, by omega, rfl, by simpa using HC0.out⟩
  case round =>
    obtain ⟨j, lv, hlv, hj, rfl, hco⟩ := hrel
    subst hlv
    have HCO := hid hco
    clear hco
    by_cases hlt : j < t.n
    · have hji : (j : Int) < (t.n : Int) := by omega
      go_wp2_with (fail)
      refine (m_mutators (HR.out.kp0 HCO.out.2)).mono ?_
      rintro e w5 ⟨rfl, k5⟩
      have HC5 := hid (HCO.out.kp0 k5)
      clear k5
      go_wp2_with (fail)
      go_loopw [3, 5] (fun ct cl wr => ∃ (i : Nat) (lv : Value), lv = ct ∧ i ≤ 16 ∧ cl = .int .i64 (i : Int) ∧ Col w ([(t.ob.length : Int), (t.n : Int)] ++ t.sl.take (16 * j + i)) lv wr) (fun _ cl _ => 16 - (intOf cl).toNat)
      case atStart => exact ⟨0, _, rfl, by omega, rfl, HC5.out⟩
      case round =>
        obtain ⟨i, lv2, hlv, hi, rfl, hco⟩ := hrel
        subst hlv
        have HCI := hid hco
        clear hco
        by_cases hlt2 : i < 16
        · have hi16 : (i : Int) < 16 := by omega
          have HSN : Hid (t.sl.take (16 * j + (i + 1)) = t.sl.take (16 * j + i) ++ [t.sl.getD (j * 16 + i) 0]) := by
            show _ = _
            have e : j * 16 + i = 16 * j + i := by omega
            rw [← Nat.add_assoc, e]
            exact take_snocI (by rw [HSL.out]; omega)
          have HLEN : Hid (([(t.ob.length : Int), (t.n : Int)] ++ t.sl.take (16 * j + i)).length ≤ 1000000000) := by
            show _ ≤ _
            have := HSL.out
            simp only [List.length_append, List.length_take, List.length_cons, List.length_nil]
            omega
          go_wp2_with (fail)
          refine (m_slot (HR.out.kp0 HCI.out.2) (j : Int) (i : Int)).mono ?_
          rintro e w6 ⟨rfl, k6⟩
          rw [(MT.sloV_at hlt hlt2).1, (MT.sloV_at hlt hlt2).2]
          have HC6 := hid (HCI.out.kp0 k6)
          clear k6
          go_wp2_with (first
            | (at_builtin; refine wpList_col rfl (.tmp 34) (.tmp 36) rfl HC6.out HLEN.out (t.sl.getD (j * 16 + i) 0) rfl rfl ?_; intro v' w9 hc9 hk9; have HC9 := hid hc9; clear hc9 hk9)
            | fail)
          go_roundw
          case rel => exact ⟨i + 1, _, rfl, by omega, by go_num, by rw [HSN.out, ← List.append_assoc]; exact HC9.out⟩
          case measure => simp [intOf]; omega
        · obtain rfl : i = 16 := by omega
          clear hlt2
          go_wp2_with (fail)
          go_roundw
          case rel => exact ⟨j + 1, _, rfl, by omega, by go_num, by rw [show 16 * (j + 1) = 16 * j + 16 by omega]; exact HCI.out⟩
          case measure => simp [intOf]; omega
    · obtain rfl : j = t.n := by omega
      have hall : t.sl.take (16 * t.n) = t.sl := by rw [← HSL.out, List.take_length]
      have hco2 := HCO.out
      rw [hall] at hco2
      have HCS := hid hco2
      clear hco2 hall HCO hlt
      go_wp2_with (fail)
      refine (m_mutators (HR.out.kp0 HCS.out.2)).mono ?_
      rintro e w5 ⟨rfl, k5⟩
      have HC5 := hid (HCS.out.kp0 k5)
      clear k5
      go_wp2_with (fail)
      go_loopw [3, 8] (fun ct cl wr => ∃ (i : Nat) (lv : Value), lv = ct ∧ i ≤ 16 ∧ cl = .int .i64 (i : Int) ∧ Col w ([(t.ob.length : Int), (t.n : Int)] ++ t.sl ++ t.gl.take i) lv wr) (fun _ cl _ => 16 - (intOf cl).toNat)
      case atStart => exact ⟨0, _, rfl, by omega, rfl, by simpa using HC5.out⟩
      case round =>
        obtain ⟨i, lv2, hlv, hi, rfl, hco⟩ := hrel
        subst hlv
        have HCI := hid hco
        clear hco
        have HLEN : Hid (([(t.ob.length : Int), (t.n : Int)] ++ t.sl ++ t.gl.take i).length ≤ 1000000000) := by
          show _ ≤ _
          have := HSL.out
          have := HGL.out
          simp only [List.length_append, List.length_take, List.length_cons, List.length_nil]
          omega
        by_cases hlt2 : i < 16
        · have hi16 : (i : Int) < 16 := by omega
          have HSN : Hid (t.gl.take (i + 1) = t.gl.take i ++ [t.gl.getD i 0]) := take_snocI (by rw [HGL.out]; omega)
          go_wp2_with (fail)
          refine (m_global (HR.out.kp0 HCI.out.2) (i : Int)).mono ?_
          rintro e w6 ⟨rfl, k6⟩
          rw [(MT.gloV_at hlt2).1, (MT.gloV_at hlt2).2]
          have HC6 := hid (HCI.out.kp0 k6)
          clear k6
          go_wp2_with (first
            | (at_builtin; refine wpList_col rfl (.tmp 48) (.tmp 50) rfl HC6.out HLEN.out (t.gl.getD i 0) rfl rfl ?_; intro v' w9 hc9 hk9; have HC9 := hid hc9; clear hc9 hk9)
            | fail)
          go_roundw
          case rel => exact ⟨i + 1, _, rfl, by omega, by go_num, by rw [HSN.out, ← List.append_assoc]; exact HC9.out⟩
          case measure => simp [intOf]; omega
        · obtain rfl : i = 16 := by omega
          have hall : t.gl.take 16 = t.gl := by rw [← HGL.out, List.take_length]
          have hco2 := HCI.out
          rw [hall] at hco2
          have HCG := hid hco2
          have HLEN2 : Hid (([(t.ob.length : Int), (t.n : Int)] ++ t.sl ++ t.gl).length ≤ 1000000000) := by
            have h := HLEN.out
            rw [hall] at h
            exact h
          clear hco2 hall hlt2 HLEN HCI
          go_wp2_with (fail)
          refine (m_queue (HR.out.kp0 HCG.out.2)).mono ?_
          rintro e w6 ⟨vq, rfl, oq, b6⟩
          have HC6 := hid (HCG.out.kp0 (Kp.of_below b6))
          have HOQ := hid oq
          clear oq b6
          go_wp2_with (first
            | (at_builtin; refine wpList_cols rfl (.tmp 52) (.tmp 54) rfl HC6.out HLEN2.out HOQ.out HQL.out rfl rfl ?_; intro v' w9 hc9 hk9; have HC9 := hid hc9; clear hc9 hk9)
            | fail)
          have hcr : Col w ([(t.ob.length : Int), (t.n : Int)] ++ t.roots) v' w9 := by
            have e : [(t.ob.length : Int), (t.n : Int)] ++ t.roots = [(t.ob.length : Int), (t.n : Int)] ++ t.sl ++ t.gl ++ t.qu := by unfold MT.roots; simp only [List.append_assoc]
            rw [e]
            exact HC9.out
          have HCR := hid hcr
          have HRL : Hid (t.roots.length ≤ 1000) := by
            show _ ≤ _
            unfold MT.roots
            have := HSL.out
            have := HGL.out
            have := HR.out.ok.qu
            simp only [List.length_append]
            omega
          clear hcr HC9
          go_wp2_with (fail)
          go_loopw [3, 11] (fun ct cl wr => ∃ (k : Nat) (lv : Value), lv = ct ∧ k ≤ t.ob.length ∧ cl = .int .i64 ((k : Int) + 1) ∧ Col w ([(t.ob.length : Int), (t.n : Int)] ++ t.roots ++ t.conts k) lv wr) (fun _ cl _ => t.ob.length + 1 - (intOf cl).toNat)
          case atStart => exact ⟨0, _, rfl, by omega, rfl, by simpa [MT.conts] using HCR.out⟩
          case round =>
            obtain ⟨k, lv3, hlv, hk, rfl, hco⟩ := hrel
            subst hlv
            have HCK := hid hco
            clear hco
            by_cases hlt3 : k < t.ob.length
            · have hki : (k : Int) + 1 ≤ (t.ob.length : Int) := by omega
              have HHAS : Hid (t.has ((k : Int) + 1) = true) := decide_eq_true ⟨by omega, by omega⟩
              have HSN := hid (t.conts_snoc k)
              have HLEN3 : Hid (([(t.ob.length : Int), (t.n : Int)] ++ t.roots ++ t.conts k).length ≤ 1000000000) := by
                show _ ≤ _
                have := MT.conts_len HR.out (k := k) (by omega)
                have := HRL.out
                simp only [List.length_append, List.length_cons, List.length_nil]
                omega
              have HLEN4 : Hid ((t.cont ((k : Int) + 1)).length ≤ 1000000000) := by
                show _ ≤ _
                have := MT.cont_len HR.out HHAS.out
                omega
              go_wp2_with (fail)
              refine (m_births (HR.out.kp0 HCK.out.2)).mono ?_
              rintro e w7 ⟨rfl, k7⟩
              have HC7 := hid (HCK.out.kp0 k7)
              clear k7
              go_wp2_with (fail)
              refine (m_contents (HR.out.kp0 HC7.out.2) HHAS.out).mono ?_
              rintro e w8 ⟨vc, rfl, oc, k8⟩
              have HC8 := hid (HC7.out.kp0 k8)
              have HOC := hid oc
              clear k8 oc
              go_wp2_with (first
                | (at_builtin; refine wpList_cols rfl (.tmp 62) (.tmp 65) rfl HC8.out HLEN3.out HOC.out HLEN4.out rfl rfl ?_; intro v' w9 hc9 hk9; have HCD := hid hc9; clear hc9 hk9)
                | fail)
              go_roundw
              case rel => exact ⟨k + 1, _, rfl, by omega, by first | go_num | (congr 1; omega), by rw [HSN.out, ← List.append_assoc]; exact HCD.out⟩
              case measure => simp [intOf]; omega
            · obtain rfl : k = t.ob.length := by omega
              have hki : ¬ ((t.ob.length : Int) + 1 ≤ (t.ob.length : Int)) := by omega
              have HFI : Hid (∀ W, Kp [] wr W → IntsP w t.stateL (.returned lv3) W) := fun W kW => by
                have := HCK.out.kp0 kW
                exact ⟨lv3, rfl, this.1, this.2⟩
              go_wp2_with (fail)
              refine (m_births (HR.out.kp0 HCK.out.2)).mono ?_
              rintro e w7 ⟨rfl, k7⟩
              have HFJ := hid (HFI.out w7 k7)
              clear k7 hlt3
              go_wp2
              go_ret
              exact HFJ.out
end
end Go.Proofs.YtbiompmklijgoaaDoor
