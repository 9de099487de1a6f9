/-
  All places and those that are not empty: what they have in common; the contract of the document's roots' Places. Conditions: those that stand in each theorem.
-/
import Derived.Test.YtnidadhoojbmeaaSh
import Derived.Test.YtnidadhoojbmeaaSa
namespace Go.Proofs.Ytnidadhoojbmeaa
set_option linter.unusedVariables false
set_option linter.unusedSimpArgs false
open Go.RowKit Go.Deep Go.Maps

def RT.at_ (t : RT) (p : Pl) : Int := t.get (p.k : Int) (p.m : Int) (p.i : Int)
def RT.nz (t : RT) (p : Pl) : Bool := decide (t.at_ p ≠ 0)
theorem rowUp_filter (t : RT) (q : Pl) (i : Nat) (h : ∀ j, j < i → (t.row q).getD j 0 = t.at_ ⟨q.k, q.m, j⟩) : t.rowUp q i = ((List.range i).map fun j => (⟨q.k, q.m, j⟩ : Pl)).filter t.nz := by
  induction i with
  | zero => rfl
  | succ i ih =>
    show t.rowUp q i ++ (if (t.row q).getD i 0 ≠ 0 then [(⟨q.k, q.m, i⟩ : Pl)] else []) = _
    rw [ih (fun j hj => h j (by omega)), List.range_succ, List.map_append, List.filter_append, h i (by omega)]
    congr 1
    by_cases h0 : t.at_ ⟨q.k, q.m, i⟩ = 0 <;> simp [RT.nz, h0]
theorem evSl_row (j : Nat) : evSl (16 * (j + 1)) = evSl (16 * j) ++ (List.range 16).map fun i => (⟨0, j, i⟩ : Pl) := by
  unfold evSl
  rw [show 16 * (j + 1) = 16 * j + 16 by omega, List.range_add, List.map_append, List.map_map]
  congr 1
  apply List.map_congr_left
  intro i hi
  have := List.mem_range.1 hi
  simp only [Function.comp]
  rw [show (16 * j + i) / 16 = j by omega, show (16 * j + i) % 16 = i by omega]
theorem xs_every {t : RT} (ok : t.Ok) : t.xs = t.every.filter t.nz := by
  have hsl : ∀ j, j ≤ t.n → t.xsUp j = (evSl (16 * j)).filter t.nz := by
    intro j
    induction j with
    | zero => intro _; rfl
    | succ j ih =>
      intro hj
      show t.xsUp j ++ t.rowUp ((firstsL t.n).getD j ⟨0, 0, 0⟩) (t.row ((firstsL t.n).getD j ⟨0, 0, 0⟩)).length = _
      rw [ih (by omega), firsts_at j (by omega), if_pos (by omega), evSl_row, List.filter_append]
      congr 1
      obtain ⟨h1, _⟩ := mrow_get (i := 0) ok (show j < t.n by omega) (by omega)
      have hr : t.row ⟨0, j, 0⟩ = t.mrow j := rfl
      rw [hr, h1]
      refine rowUp_filter t ⟨0, j, 0⟩ 16 (fun i hi => ?_)
      rw [hr, (mrow_get ok (show j < t.n by omega) hi).2]
      simp [RT.at_, RT.get]
  show t.xsUp (t.n + 1) ++ t.rowUp ((firstsL t.n).getD (t.n + 1) ⟨0, 0, 0⟩) (t.row ((firstsL t.n).getD (t.n + 1) ⟨0, 0, 0⟩)).length = _
  have h2 : t.xsUp (t.n + 1) = t.xsUp t.n ++ t.rowUp ((firstsL t.n).getD t.n ⟨0, 0, 0⟩) (t.row ((firstsL t.n).getD t.n ⟨0, 0, 0⟩)).length := rfl
  rw [h2, hsl _ (Nat.le_refl _), firsts_at t.n (by omega), firsts_at (t.n + 1) (by omega), if_neg (by omega), if_pos rfl, if_neg (by omega), if_neg (by omega)]
  unfold RT.every
  rw [List.filter_append, List.filter_append]
  have hg : t.row ⟨1, 0, 0⟩ = t.gl := rfl
  have hq : t.row ⟨2, 0, 0⟩ = t.qu := rfl
  rw [hg, hq, ok.gl]
  have r1 : t.rowUp ⟨1, 0, 0⟩ 16 = (evK 1 16).filter t.nz := by
    unfold evK
    exact rowUp_filter t ⟨1, 0, 0⟩ 16 (fun i hi => by rw [hg]; simp [RT.at_, RT.get])
  have r2 : t.rowUp ⟨2, 0, 0⟩ t.qu.length = (evK 2 t.qu.length).filter t.nz := by
    unfold evK
    exact rowUp_filter t ⟨2, 0, 0⟩ t.qu.length (fun i hi => by rw [hq]; simp [RT.at_, RT.get])
  rw [r1, r2]
theorem mem_every {t : RT} {p : Pl} (h : p ∈ t.every) : t.has (p.k : Int) (p.m : Int) (p.i : Int) = true := by
  unfold RT.every evSl evK at h
  simp only [List.mem_append, List.mem_map, List.mem_range] at h
  rcases h with (⟨j, hj, rfl⟩ | ⟨j, hj, rfl⟩) | ⟨j, hj, rfl⟩
  · exact decide_eq_true (.inl ⟨rfl, by simp only; omega, by simp only; omega, by simp only; omega, by simp only; omega⟩)
  · exact decide_eq_true (.inr (.inl ⟨rfl, rfl, by simp only; omega, by simp only; omega⟩))
  · exact decide_eq_true (.inr (.inr ⟨rfl, rfl, by simp only; omega, by simp only; omega⟩))
theorem every_le {t : RT} (ok : t.Ok) : t.every.length ≤ 144 := by
  have := ok.n4
  have := ok.qu
  unfold RT.every
  rw [List.length_append, List.length_append, evSl_length, evK_length, evK_length]
  omega
theorem take_getD {l : List Pl} {i : Nat} (h : i < l.length) : l.take (i + 1) = l.take i ++ [l.getD i ⟨0, 0, 0⟩] := by
  rw [List.take_succ_eq_append_getElem h, List.getD_eq_getElem?_getD, List.getElem?_eq_getElem h]
  rfl
section
variable {w w' W : World} {b : TB} {t : RT}
set_option maxRecDepth 100000 in
set_option maxHeartbeats 2000000 in
theorem t_places (T : TR w b t) :
    Calls Try.prog 34 #[.pointer (some ⟨b.g, 0, none⟩)] w (RowPl w.heap.size w t.xs) := by
  rw [xs_every T.ok]
  have HT := hid T
  obtain ⟨i0, hi0, hz0, hz1, hz2⟩ := info_parts infoPlace
  have hel := every_le T.ok
  go_enter Try.func34, Try.ntmps34
  go_wp2_with (fail)
  refine (t_every HT.out).mono ?_
  rintro e w1 ⟨v1, rfl, own1, bel1⟩
  have HT1 := hid (HT.out.kp0 (Kp.of_below bel1))
  have HB1 := hid bel1
  obtain ⟨A, cap, rfl, _, hA⟩ := IsPl.of_own own1
  have HA := hid hA
  have HTP : Hid (∀ v W l, PRow w1 w1.heap.size l v W → TR W b t) := fun v W l h => HT1.out.kp0 (Kp.of_below h.bel)
  clear T own1 bel1 hA
  go_wp2
  go_loopw [3, 5] (fun out c wr => ∃ k : Nat, k ≤ t.every.length ∧ c = .int .i64 (k : Int) ∧ PRow w1 w1.heap.size ((t.every.take k).filter t.nz) out wr) (fun _ c _ => t.every.length - (intOf c).toNat)
  case atStart => exact ⟨0, by omega, rfl, PRow.nil w1 _⟩
  case round =>
    obtain ⟨k, hk, rfl, P⟩ := hrel
    have HP := hid P
    have HTK := hid (HTP.out _ _ _ P)
    have HLN : Hid (((t.every.take k).filter t.nz).length ≤ 144) := by
      have h1 := List.length_filter_le t.nz (t.every.take k)
      have h2 : (t.every.take k).length ≤ k := List.length_take_le _ _
      show _ ≤ _
      omega
    clear P
    by_cases hlt : k < t.every.length
    · obtain ⟨g, rfl, q0, q1, q2⟩ := HA.out k hlt
      have HHAS := hid (mem_every (t := t) (p := t.every.getD k ⟨0, 0, 0⟩) (by rw [List.getD_eq_getElem?_getD, List.getElem?_eq_getElem hlt]; exact List.getElem_mem hlt))
      have HTS := hid (take_getD hlt)
      generalize t.every.getD k ⟨0, 0, 0⟩ = p at q0 q1 q2 HHAS HTS
      have d0 := cell_kp (Kp.of_below HP.out.bel) q0
      have d1 := cell_kp (Kp.of_below HP.out.bel) q1
      have d2 := cell_kp (Kp.of_below HP.out.bel) q2
      have HONE := hid (pl_one p)
      have HG := hid (t_get HTK.out (p.k : Int) (p.m : Int) (p.i : Int) HHAS.out)
      have e0 : t.get (p.k : Int) (p.m : Int) (p.i : Int) = t.at_ p := rfl
      rw [e0] at HG
      by_cases h0 : t.at_ p = 0
      · rw [h0] at HG
        have HF : Hid ((t.every.take (k + 1)).filter t.nz = (t.every.take k).filter t.nz) := by
          show _ = _; rw [HTS.out, List.filter_append]; simp [RT.nz, h0]
        clear h0 q0 q1 q2 e0
        go_wp2_with (go_at_call 47; refine HG.out.mono ?_; rintro e w3 ⟨rfl, K3⟩; have HP3 := hid (HP.out.kp0 (Nat.le_refl _) K3); clear K3)
        go_roundw
        case rel => exact ⟨k + 1, by omega, by go_num, by rw [HF.out]; exact HP3.out⟩
        case measure => simp [intOf]; omega
      · have HF : Hid ((t.every.take (k + 1)).filter t.nz = (t.every.take k).filter t.nz ++ [p]) := by
          show _ = _; rw [HTS.out, List.filter_append]; simp [RT.nz, h0]
        have hz : (t.at_ p != 0) = true := bne_iff_ne.2 h0
        have hz2' : (t.at_ p == 0) = false := beq_eq_false_iff_ne.2 h0
        generalize t.at_ p = y at hz hz2' HG
        clear h0 q0 q1 q2 e0
        go_wp2_with (first
          | (go_at_call 47; refine HG.out.mono ?_; rintro e w3 ⟨rfl, K3⟩; have HP3 := hid (HP.out.kp0 (Nat.le_refl _) K3); have f0 := cell_kp K3 d0; have f1 := cell_kp K3 d1; have f2 := cell_kp K3 d2; have HN := hid (blk_newV w3 [.int .i64 (p.k : Int), .int .i64 (p.m : Int), .int .i64 (p.i : Int)] 33); clear K3)
          | (at_builtin; go_loud (refine wpList_append_own_at _ rfl (.tmp 21) (.tmp 26) 47 rfl w1.heap.size 33 i0 (.agg #[.int .i64 0, .int .i64 0, .int .i64 0]) 3 24 Try.underlying47 hi0 hz0 hz1 hz2 rfl (by decide) _ _ _ rfl (HP3.out.own.alloc _) ⟨w3.heap.size, 0, none⟩ 1 1 [.int .i64 (p.k : Int), .int .i64 (p.m : Int), .int .i64 (p.i : Int)] rfl rfl HN.out HONE.out (by have := HLN.out; unfold maxLen; omega) (by have := HLN.out; omega) (by have := HP3.out.bel.size; simp; omega) ?_; intro v' w9 hown' hgr _ hat; have HP9 := hid (HP3.out.step (p := p) (Nat.le_refl _) hown' hgr); clear hown' hgr hat)))
        go_roundw
        case rel => exact ⟨k + 1, by omega, by go_num, by rw [HF.out]; exact HP9.out⟩
        case measure => simp [intOf]; omega
    · obtain rfl : k = t.every.length := by omega
      go_wp2
      go_ret
      have hf := HP.out
      rw [List.take_length] at hf
      exact ⟨_, rfl, own_base hf.own HB1.out.size, HB1.out.trans (below_mono hf.bel HB1.out.size)⟩
end
end Go.Proofs.Ytnidadhoojbmeaa
