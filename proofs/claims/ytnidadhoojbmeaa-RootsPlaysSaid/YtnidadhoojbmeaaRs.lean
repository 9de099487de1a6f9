/-
  The contract of package roots' Leads: its walk. Conditions: those that stand in each theorem.
-/
import Derived.Test.YtnidadhoojbmeaaRq
namespace Go.Proofs.Ytnidadhoojbmeaa
set_option linter.unusedVariables false
set_option linter.unusedSimpArgs false
open Go.RowKit Go.Deep Go.Maps Go.Shelf
attribute [local go_sem] Oper.semAt_some

theorem step_append_in {F : Fence} {m0 : Nat} {P : Program} {w : World} {ops : Array Oper} {o : Oper} {a : Act} {K : Act → World → Prop} {Q : Exit → Act → World → Prop} {E : Prop} (hgd : o.guard = none) (s x : Operand) (t : TypeId)
    (ho : o.op = .call { callee := .builtin .append, args := #[s, x], argTypes := #[t, t] })
    (base : Nat) (e : TypeId) (i : TypeInfo) (z : Value) (size bytes : Nat) (ht : P.underlying t = some (.slice e)) (hi : P.info? e = some i) (hz : i.zero = some z)
    (hsize : i.size = size) (hby : i.bytes = bytes) (hzs : z.cells.size = size) (hsz : 0 < size)
    (v : Value) (n : Nat) (xs : List Value) (hs : a.eval s = v) (hown : w.ownsRow base e size v n xs)
    (ad : Addr) (m c : Nat) (news : List Value) (hx : a.eval x = .slice (some ad) m c) (hl : news.length = m * size) (hnews : ∀ j u, news[j]? = some u → w.cell? (ad.add j) = some u) (h1 : ∀ u ∈ news, u.oneCell' = true)
    (h63 : n + m ≤ maxLen) (hbytes : (n + m) * bytes ≤ 140737488355328) (hbase : base ≤ w.heap.size)
    (h : ∀ v' w', w'.ownsRow base e size v' (n + m) (xs ++ news) → w.grownBy w' v.ownBlock → (v' = .slice none 0 0 ↔ v = .slice none 0 0 ∧ m = 0) → (v'.ownBlock = v.ownBlock ∨ v'.ownBlock = some w.heap.size) → K (a.put o.dst v') w') :
    if Region.wanted o (yielded ops a.tmps) = true then Oper.wpIn F m0 P o a w K Q else E := by
  have hw : Region.wanted o (yielded ops a.tmps) = true := by simp [Region.wanted, hgd]
  rw [if_pos hw]
  obtain ⟨v', w', hr, h2, h3, h4, h5⟩ := run_append_own_at (P := P) (w := w) base t o.type e i z size bytes ht hi hz hsize hby hzs hsz v n xs hown ad m c news hl hnews h1 h63 hbytes hbase
  unfold Oper.wpIn
  refine ⟨by simp [Oper.about, ho, resolve, Target.leads, Sem.run_pure], ?_⟩
  rw [Oper.semAt_plain F _ _ (by rw [ho]; intro c hc'; cases hc')]
  simp [execOp, ho, resolve, invoke, builtin, hs, hx, hr, Result.andThen]
  exact h v' w' h2 h3 h4 h5
section
variable {w w' W : World} {b : RB} {t : RT}
theorem leads_le (t : RT) (l : List Pl) : (t.leads l).length ≤ l.length := by
  have h : ∀ (l : List Pl) (a : List Int), (l.foldl (fun a p => if a.contains (t.get (p.k : Int) (p.m : Int) (p.i : Int)) then a else a ++ [t.get (p.k : Int) (p.m : Int) (p.i : Int)]) a).length ≤ a.length + l.length := by
    intro l
    induction l with
    | nil => exact fun a => Nat.le_refl _
    | cons p l ih =>
      intro a
      rw [List.foldl_cons, List.length_cons]
      refine Nat.le_trans (ih _) ?_
      split <;> simp <;> omega
  simpa [RT.leads] using h l []
set_option maxRecDepth 100000 in
set_option maxHeartbeats 2000000 in
theorem leads9 {l L B : Nat} {ad : Addr} {y : Int} {v : Value} {zs : List Int} {Q : Exit → Act → World → Prop} {t0 t1 t2 t4 t5 t7 t8 t9 t10 t11 t12 t13 t14 t15 t16 t17 t18 t19 t20 t21 t22 t23 t24 : Value} (h1 : Blk W L 34 #[v]) (h2 : W.ownsRow B 3 1 v zs.length (zcells zs)) (hz : zs.length ≤ 384) (hB : B ≤ W.heap.size) (hca : W.cell? ad = some (.int .i64 y))
    (hQ : ∀ g9 c9 w9 z26 z27, w9.ownsRow B 3 1 (.slice (some ⟨g9, 0, none⟩) (zs.length + 1) c9) (zs.length + 1) (zcells zs ++ [.int .i64 y]) → Kp v.ownBlock.toList W w9 → ((Value.slice (some ⟨g9, 0, none⟩) (zs.length + 1) c9).ownBlock = v.ownBlock ∨ (Value.slice (some ⟨g9, 0, none⟩) (zs.length + 1) c9).ownBlock = some (W.heap.size + 1)) →
      Q .normal { tmps := #[t0, t1, t2, .pointer (some ⟨L, 0, none⟩), t4, t5, .pointer (some ad), t7, t8, t9, t10, t11, t12, t13, t14, t15, t16, t17, t18, t19, t20, t21, t22, t23, t24, v, z26, z27, .int .i64 y, .slice (some ⟨W.heap.size, 0, none⟩) 1 1, .slice (some ⟨g9, 0, none⟩) (zs.length + 1) c9, undef], defers := [] } (w9.setCell ⟨L, 0, none⟩ (.slice (some ⟨g9, 0, none⟩) (zs.length + 1) c9))) :
    Code.wpIn (Fence.wide.inRound l) (3 - 1 - 1) Try.prog (Code.region 9
      #[{ dst := some 25, op := Op.load 34 (Operand.tmp 3), type := 34, pos := "places.go:103", after := #[], guard := none },
        { dst := some 26, op := Op.move (Operand.tmp 6), type := 66, pos := "places.go:103", after := #[], guard := none },
        { dst := some 27, op := Op.nilCheck (Operand.tmp 26), type := 0, pos := "places.go:103", after := #[{ on := 1, ground := Ground.data }], guard := none },
        { dst := some 28, op := Op.load 3 (Operand.tmp 27), type := 3, pos := "places.go:103", after := #[{ on := 2, ground := Ground.data }], guard := none },
        { dst := some 29, op := Op.buildSlice 34 1 #[(0, Operand.tmp 28)], type := 34, pos := "places.go:103", after := #[{ on := 3, ground := Ground.data }], guard := none },
        { dst := some 30, op := Op.call { callee := Callee.builtin Builtin.append, args := #[Operand.tmp 25, Operand.tmp 29], argTypes := #[34, 34] }, type := 34, pos := "places.go:103", after := #[{ on := 0, ground := Ground.data }, { on := 4, ground := Ground.data }], guard := none },
        { dst := none, op := Op.store 34 (Operand.tmp 3) (Operand.tmp 30), type := 0, pos := "places.go:103",
          after := #[{ on := 5, ground := Ground.data }, { on := 5, ground := Ground.chain }, { on := 0, ground := Ground.phase }, { on := 1, ground := Ground.phase }, { on := 2, ground := Ground.phase }, { on := 3, ground := Ground.phase }, { on := 4, ground := Ground.phase }, { on := 5, ground := Ground.phase }],
          guard := none }]
      true) Q { tmps := #[t0, t1, t2, .pointer (some ⟨L, 0, none⟩), t4, t5, .pointer (some ad), t7, t8, t9, t10, t11, t12, t13, t14, t15, t16, t17, t18, t19, t20, t21, t22, t23, t24, undef, undef, undef, undef, undef, undef, undef], defers := [] } W := by
  obtain ⟨i0, hi0, hz0, hz1, hz2⟩ := info_parts infoInt
  have cl := h1.cell 0
  have cla := (h1.kp (Kp.new W (.cells #[.int .i64 y] 3)) (by simp)).cell 0
  have fl := h1.frozen 0
  have HO : Hid ((W.alloc (.cells #[.int .i64 y] 3)).drew.ownsRow B 3 1 v zs.length (zcells zs)) := h2.alloc _
  have HN : Hid (∀ (j : Nat) (u : Value), ([.int .i64 y] : List Value)[j]? = some u → (W.alloc (.cells #[.int .i64 y] 3)).drew.cell? ((⟨W.heap.size, 0, none⟩ : Addr).add j) = some u) := blk_newV W [.int .i64 y] 3
  have NONE : ∀ u ∈ ([.int .i64 y] : List Value), u.oneCell' = true := by
    intro u hu; simp only [List.mem_cons, List.not_mem_nil, or_false] at hu; rcases hu with rfl; rfl
  have HL := hid hz
  have HSZ := hid hB
  have H1 := hid h1
  have H2 := hid h2
  have HQ := hid hQ
  clear h1 h2 hz hB hQ
  refine wpIn_region_any (by kernel_rfl) ?_
  change wpAnyIn _ _ _ _ _ _ _ _ _ (World.drew _)
  iterate 5
    all_goals (first
      | (refine wpAnyIn_ready (rs := [0]) (by decide +kernel) (by simp) ?_; refine AllReadyIn.cons rfl (fun K hK => ?_) AllReadyIn.nil)
      | (refine wpAnyIn_ready (rs := [0, 1]) (by decide +kernel) (by simp) ?_; refine AllReadyIn.cons rfl (fun K hK => ?_) (AllReadyIn.cons rfl (fun K hK => ?_) AllReadyIn.nil))
      | (refine wpAnyIn_ready (rs := [0, 2]) (by decide +kernel) (by simp) ?_; refine AllReadyIn.cons rfl (fun K hK => ?_) (AllReadyIn.cons rfl (fun K hK => ?_) AllReadyIn.nil))
      | (refine wpAnyIn_ready (rs := [0, 3]) (by decide +kernel) (by simp) ?_; refine AllReadyIn.cons rfl (fun K hK => ?_) (AllReadyIn.cons rfl (fun K hK => ?_) AllReadyIn.nil))
      | (refine wpAnyIn_ready (rs := [0, 4]) (by decide +kernel) (by simp) ?_; refine AllReadyIn.cons rfl (fun K hK => ?_) (AllReadyIn.cons rfl (fun K hK => ?_) AllReadyIn.nil))
      | (refine wpAnyIn_ready (rs := [1]) (by decide +kernel) (by simp) ?_; refine AllReadyIn.cons rfl (fun K hK => ?_) AllReadyIn.nil)
      | (refine wpAnyIn_ready (rs := [2]) (by decide +kernel) (by simp) ?_; refine AllReadyIn.cons rfl (fun K hK => ?_) AllReadyIn.nil)
      | (refine wpAnyIn_ready (rs := [3]) (by decide +kernel) (by simp) ?_; refine AllReadyIn.cons rfl (fun K hK => ?_) AllReadyIn.nil)
      | (refine wpAnyIn_ready (rs := [4]) (by decide +kernel) (by simp) ?_; refine AllReadyIn.cons rfl (fun K hK => ?_) AllReadyIn.nil))
    all_goals go_simp
    all_goals (refine hK _ _ ?_; clear hK K)
  all_goals (
    refine wpAnyIn_ready (rs := [5]) (by decide +kernel) (by simp) ?_
    refine AllReadyIn.cons rfl (fun K hK => ?_) AllReadyIn.nil
    refine step_append_in (w := (W.alloc (.cells #[.int .i64 y] 3)).drew) rfl (.tmp 25) (.tmp 29) 34 rfl B 3 i0 (.int .i64 0) 1 8 Try.underlying34 hi0 hz0 hz1 hz2 rfl (by decide) v _ _ (by rfl) HO.out ⟨W.heap.size, 0, none⟩ 1 1 [.int .i64 y] (by rfl) rfl HN.out NONE (by have := HL.out; unfold maxLen; omega) (by have := HL.out; omega) (by have := HSZ.out; simp; omega) ?_
    intro v' w9 hown' hgr _ hat
    refine hK _ _ ?_
    clear hK K
    have hk9 : Kp v.ownBlock.toList W w9 := ((Kp.new W _).drewN 1).trans (Kp.of_grown hgr) (by simp) (fun x hx => .inl hx)
    have HAT : Hid (v'.ownBlock = v.ownBlock ∨ v'.ownBlock = some (W.heap.size + 1)) := (by first | exact hat | (simp at hat; exact hat))
    have hbl9 := H1.out.kp hk9 (fun hm => by
      rcases H2.out.2 with ⟨hv, _⟩ | ⟨g', c', cur', hv, _, hb', _⟩
      · rw [hv] at hm; simp [Value.ownBlock] at hm
      · rw [hv] at hm; simp [Value.ownBlock] at hm; exact Blk.ne_ H1.out (show Blk W g' _ cur' from hb') (by decide) hm)
    have cl9 := hbl9.cell 0
    have fl9 := hbl9.frozen 0
    obtain ⟨g9, c9, rfl⟩ : ∃ g c, v' = .slice (some ⟨g, 0, none⟩) (zs.length + 1) c := by
      rcases hown'.2 with ⟨_, hz⟩ | ⟨g', c', cur', hv, _⟩
      · omega
      · exact ⟨g', c', hv⟩
    have HO' := hid hown'
    have HK9 := hid hk9
    clear hown' hgr hat hk9 hbl9
    refine wpAnyIn_ready (rs := [6]) (by decide +kernel) (by simp) ?_
    refine AllReadyIn.cons rfl (fun K hK => ?_) AllReadyIn.nil
    simp only [Act.put]
    go_simp
    refine hK _ _ ?_
    clear hK K
    refine wpAnyIn_done (by decide +kernel) ?_ _
    exact HQ.out g9 c9 w9 _ _ HO'.out HK9.out HAT.out)
end
end Go.Proofs.Ytnidadhoojbmeaa
