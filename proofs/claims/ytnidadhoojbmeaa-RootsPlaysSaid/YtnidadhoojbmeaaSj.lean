/-
  The contract of the document's roots' Leads. Conditions: those that stand in each theorem.
-/
import Derived.Test.YtnidadhoojbmeaaSi
namespace Go.Proofs.Ytnidadhoojbmeaa
set_option linter.unusedVariables false
set_option linter.unusedSimpArgs false
open Go.RowKit Go.Deep Go.Maps

/-- A slice of numbers of the call's own, as it grows. -/
structure IRow (w : World) (B : Nat) (zs : List Int) (v : Value) (W : World) : Prop where
  own : W.ownsRow B 3 1 v zs.length (zcells zs)
  bel : Below B w W
section
variable {w w' W w9 : World} {B : Nat} {zs : List Int} {v v' : Value} {x : Int}
theorem IRow.nil (w : World) (B : Nat) : IRow w B [] (.slice none 0 0) w := ⟨⟨rfl, .inl ⟨rfl, rfl⟩⟩, Below.refl _ _⟩
theorem IRow.step (h : IRow w B zs v W) (hB : B ≤ w.heap.size) (hown : w9.ownsRow B 3 1 v' (zs.length + 1) (zcells zs ++ [.int .i64 x])) (hgr : (W.alloc (.cells #[.int .i64 x] 3)).grownBy w9 v.ownBlock) : IRow w B (zs ++ [x]) v' w9 := by
  obtain ⟨a, b⟩ := row_end0 (Nat.le_trans hB h.bel.size) rfl h.own hown hgr
  exact ⟨a, h.bel.trans b⟩
theorem IRow.kp0 (h : IRow w B zs v W) (hB : B ≤ w.heap.size) (k : Kp [] W w') : IRow w B zs v w' := ⟨own_kp0 h.own k, ⟨k.os.trans h.bel.os, k.tape.trans h.bel.tape, k.output.trans h.bel.output, Nat.le_trans h.bel.size k.size, fun j hj => (k.block j (by have := h.bel.size; omega) (by simp)).trans (h.bel.block j hj)⟩⟩
end
theorem contains_snoc (zs : List Int) (k : Nat) (y : Int) (h : k < zs.length) : (zs.take (k + 1)).contains y = ((zs.take k).contains y || (zs.getD k 0 == y)) := by
  rw [List.take_succ_eq_append_getElem h, List.getD_eq_getElem?_getD, List.getElem?_eq_getElem h]
  simp only [List.contains_eq_mem, List.mem_append, List.mem_singleton, Option.getD_some, Bool.decide_or]
  congr 1
  by_cases e : y = zs[k]
  · simp [e]
  · rw [decide_eq_false e]; simp [Ne.symm e]
section
variable {w w' W : World} {b : TB} {t : RT}
set_option maxRecDepth 100000 in
set_option maxHeartbeats 2000000 in
theorem t_leads (T : TR w b t) :
    Calls Try.prog 35 #[.pointer (some ⟨b.g, 0, none⟩)] w (RowP w.heap.size w (t.leads t.xs)) := by
  have HT := hid T
  obtain ⟨i0, hi0, hz0, hz1, hz2⟩ := info_parts infoInt
  have hel := xs_le T.ok
  have HXE : Hid (∀ p ∈ t.xs, t.has (p.k : Int) (p.m : Int) (p.i : Int) = true) := fun p hp => (mem_xs T.ok hp).1
  go_enter Try.func35, Try.ntmps35
  go_wp2_with (fail)
  refine (t_places HT.out).mono ?_
  rintro e w1 ⟨v1, rfl, own1, bel1⟩
  have HT1 := hid (HT.out.kp0 (Kp.of_below bel1))
  have HB1 := hid bel1
  obtain ⟨A, cap, rfl, _, hA⟩ := IsPl.of_own own1
  have HA := hid hA
  have HTP : Hid (∀ v W l, IRow w1 w1.heap.size l v W → TR W b t) := fun v W l h => HT1.out.kp0 (Kp.of_below h.bel)
  clear T own1 bel1 hA
  go_wp2
  go_loopw [3, 5] (fun out c wr => ∃ k : Nat, k ≤ t.xs.length ∧ c = .int .i64 (k : Int) ∧ IRow w1 w1.heap.size (t.leads (t.xs.take k)) out wr) (fun _ c _ => t.xs.length - (intOf c).toNat)
  case atStart => exact ⟨0, by omega, rfl, IRow.nil w1 _⟩
  case round =>
    obtain ⟨k, hk, rfl, P⟩ := hrel
    have HP := hid P
    have HTK := hid (HTP.out _ _ _ P)
    have HLN : Hid ((t.leads (t.xs.take k)).length ≤ 384) := by
      have h1 := leads_le t (t.xs.take k)
      have h2 : (t.xs.take k).length ≤ k := List.length_take_le _ _
      show _ ≤ _
      omega
    by_cases hlt : k < t.xs.length
    · obtain ⟨g, rfl, q0, q1, q2⟩ := HA.out k hlt
      have HHAS := hid (HXE.out (t.xs.getD k ⟨0, 0, 0⟩) (by rw [List.getD_eq_getElem?_getD, List.getElem?_eq_getElem hlt]; exact List.getElem_mem hlt))
      have HTS := hid (take_getD hlt)
      generalize t.xs.getD k ⟨0, 0, 0⟩ = p at q0 q1 q2 HHAS HTS
      have d0 := cell_kp (Kp.of_below P.bel) q0
      have d1 := cell_kp (Kp.of_below P.bel) q1
      have d2 := cell_kp (Kp.of_below P.bel) q2
      have HG := hid (t_get HTK.out (p.k : Int) (p.m : Int) (p.i : Int) HHAS.out)
      have HSN : Hid (t.leads (t.xs.take (k + 1)) = if (t.leads (t.xs.take k)).contains (t.at_ p) then t.leads (t.xs.take k) else t.leads (t.xs.take k) ++ [t.at_ p]) := by
        show _ = _
        rw [HTS.out]; exact leads_snoc t _ p
      have e0 : t.get (p.k : Int) (p.m : Int) (p.i : Int) = t.at_ p := rfl
      rw [e0] at HG
      generalize t.at_ p = y at HG HSN
      generalize t.leads (t.xs.take k) = zs at HP HLN HSN P
      clear q0 q1 q2 e0 P
      go_wp2_with (go_at_call 47; refine HG.out.mono ?_; rintro e w3 ⟨rfl, K3⟩; have HP3 := hid (HP.out.kp0 (Nat.le_refl _) K3); clear K3)
      obtain ⟨A3, c3, h3, _, _, hA3⟩ := FarI.of_own HP3.out.own
      have H3 := hid h3
      have HA3 := hid hA3
      subst h3
      have hln := HLN.out
      clear hA3
      go_loop [7, 8] (fun f c => ∃ j : Nat, j ≤ zs.length ∧ c = .int .i64 (j : Int) ∧ f = .bool ((zs.take j).contains y)) (fun _ c => zs.length - (intOf c).toNat)
      case atStart => exact ⟨0, by omega, rfl, rfl⟩
      case round =>
        obtain ⟨j, hj, rfl, rfl⟩ := hrel
        by_cases hlt2 : j < zs.length
        · obtain ⟨g3, rfl, _, hc3⟩ := HA3.out j hlt2
          have HCS := hid (contains_snoc zs j y hlt2)
          rcases hcon : (zs.take j).contains y
          · obtain ⟨z, hz⟩ : ∃ z, z = zs.getD j 0 := ⟨_, rfl⟩
            rw [← hz] at hc3
            have HCS2 : Hid ((zs.take (j + 1)).contains y = (z == y)) := by show _ = _; rw [HCS.out, hcon, ← hz]; simp
            clear hz
            clear hcon
            rcases hzy : (z == y)
            all_goals
              go_wp2
              go_round
              case rel => exact ⟨j + 1, by omega, by go_num, by rw [HCS2.out, hzy]⟩
              case measure => simp [intOf]; omega
          · have HCS2 : Hid ((zs.take (j + 1)).contains y = true) := by show _ = _; rw [HCS.out, hcon]; simp
            clear hcon
            go_wp2
            go_round
            case rel => exact ⟨j + 1, by omega, by go_num, by rw [HCS2.out]⟩
            case measure => simp [intOf]; omega
        · obtain rfl : j = zs.length := by omega
          rw [List.take_length]
          rcases hcon : zs.contains y
          · have HE : Hid (t.leads (t.xs.take (k + 1)) = zs ++ [y]) := by show _ = _; rw [HSN.out, hcon]; simp
            have HN := hid (one_new0 w3 y)
            have NONE := one_cell y
            clear hcon
            go_wp2_with (at_builtin; go_loud (refine wpList_append_own_at _ rfl (.tmp 40) (.tmp 42) 34 rfl w1.heap.size 3 i0 (.int .i64 0) 1 8 Try.underlying34 hi0 hz0 hz1 hz2 rfl (by decide) _ _ _ rfl (HP3.out.own.alloc _) ⟨w3.heap.size, 0, none⟩ 1 1 [.int .i64 y] rfl rfl HN.out NONE (by unfold maxLen; omega) (by omega) (by have := HP3.out.bel.size; simp; omega) ?_; intro v' w9 hown' hgr _ hat; have HP9 := hid (HP3.out.step (x := y) (Nat.le_refl _) hown' hgr); clear hown' hgr hat))
            go_roundw
            case rel => exact ⟨k + 1, by omega, by go_num, by rw [HE.out]; exact HP9.out⟩
            case measure => simp [intOf]; omega
          · have HE : Hid (t.leads (t.xs.take (k + 1)) = zs) := by show _ = _; rw [HSN.out, hcon]; simp
            clear hcon
            go_wp2
            go_roundw
            case rel => exact ⟨k + 1, by omega, by go_num, by rw [HE.out]; exact HP3.out⟩
            case measure => simp [intOf]; omega
    · obtain rfl : k = t.xs.length := by omega
      clear P
      go_wp2
      go_ret
      have hf := HP.out
      rw [List.take_length] at hf
      exact ⟨_, rfl, own_base hf.own HB1.out.size, HB1.out.trans (below_mono hf.bel HB1.out.size)⟩
end
end Go.Proofs.Ytnidadhoojbmeaa
