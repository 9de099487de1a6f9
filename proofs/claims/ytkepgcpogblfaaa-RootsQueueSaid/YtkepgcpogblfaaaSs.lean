/-
  The laws' all. Conditions: those that stand in each theorem.
-/
import Derived.Test.YtkepgcpogblfaaaSr
namespace Go.Proofs.Ytkepgcpogblfaaa
set_option linter.unusedVariables false
set_option linter.unusedSimpArgs false
open Go.RowKit Go.Deep Go.Maps

section
variable {w0 w w' : World} {b : RB} {tb : TB} {t : RT}
theorem vals_snoc {t : RT} {k : Nat} (h : k < t.every.length) : (t.every.take (k + 1)).map t.at_ = (t.every.take k).map t.at_ ++ [t.at_ (t.every.getD k ⟨0, 0, 0⟩)] := by
  rw [take_getD h, List.map_append, List.map_singleton]
set_option maxRecDepth 100000 in
set_option maxHeartbeats 2000000 in
theorem all_ok (h : P2 w0 b tb t t w) :
    Calls Try.prog 24 #[.pointer (some ⟨b.g, 0, none⟩), .pointer (some ⟨tb.g, 0, none⟩)] w (RowP w.heap.size w t.vals) := by
  have H := hid h
  obtain ⟨i0, hi0, hz0, hz1, hz2⟩ := info_parts infoInt
  have hel := every_le h.rr.ok
  clear h
  go_enter Try.func24, Try.ntmps24
  go_wp2_with (fail)
  refine (t_every H.out.tr).mono ?_
  rintro e w1 ⟨v1, rfl, own1, bel1⟩
  have HR1 := hid (H.out.rr.kp0 (Kp.of_below bel1))
  have HB1 := hid bel1
  obtain ⟨A, cap, rfl, _, hA⟩ := IsPl.of_own own1
  have HA := hid hA
  clear own1 bel1 hA
  go_wp2
  go_loopw [5, 7] (fun out c wr => ∃ k : Nat, k ≤ t.every.length ∧ c = .int .i64 (k : Int) ∧ IRow w1 w1.heap.size ((t.every.take k).map t.at_) out wr) (fun _ c _ => t.every.length - (intOf c).toNat)
  case atStart => exact ⟨0, by omega, rfl, IRow.nil w1 _⟩
  case round =>
    obtain ⟨k, hk, rfl, P⟩ := hrel
    have HP := hid P
    have HRK := hid (HR1.out.kp0 (Kp.of_below P.bel))
    have HLN : Hid (((t.every.take k).map t.at_).length ≤ 144) := by
      have h2 : (t.every.take k).length ≤ k := List.length_take_le _ _
      show _ ≤ _
      rw [List.length_map]
      omega
    by_cases hlt : k < t.every.length
    · obtain ⟨g, rfl, q0, q1, q2⟩ := HA.out k hlt
      have HHAS := hid (mem_every (t := t) (p := t.every.getD k ⟨0, 0, 0⟩) (by rw [List.getD_eq_getElem?_getD, List.getElem?_eq_getElem hlt]; exact List.getElem_mem hlt))
      have HTS := hid (vals_snoc hlt)
      generalize t.every.getD k ⟨0, 0, 0⟩ = p at q0 q1 q2 HHAS HTS
      have d0 := cell_kp (Kp.of_below P.bel) q0
      have d1 := cell_kp (Kp.of_below P.bel) q1
      have d2 := cell_kp (Kp.of_below P.bel) q2
      have hg := r_get HRK.out (p.k : Int) (p.m : Int) (p.i : Int)
      rw [show t.getV (p.k : Int) (p.m : Int) (p.i : Int) = t.at_ p by simp [RT.getV, HHAS.out, RT.at_], show t.getE (p.k : Int) (p.m : Int) (p.i : Int) = 0 by simp [RT.getE, HHAS.out]] at hg
      have HG := hid hg
      generalize t.at_ p = y at HG HTS hg
      have NONE := one_cell y
      clear q0 q1 q2 P hg
      go_wp2_with (first
        | (go_at_call 32; refine HG.out.mono ?_; rintro e w3 ⟨rfl, K3⟩; have HP3 := hid (HP.out.kp0 (Nat.le_refl _) K3); have HN := hid (one_new0 w3 y); clear K3)
        | (at_builtin; go_loud (refine wpList_append_own_at _ rfl (.tmp 27) (.tmp 29) 34 rfl w1.heap.size 3 i0 (.int .i64 0) 1 8 Try.underlying34 hi0 hz0 hz1 hz2 rfl (by decide) _ _ _ rfl (HP3.out.own.alloc _) ⟨w3.heap.size, 0, none⟩ 1 1 [.int .i64 y] rfl rfl HN.out NONE (by have := HLN.out; unfold maxLen; omega) (by have := HLN.out; omega) (by have := HP3.out.bel.size; simp; omega) ?_; intro v' w9 hown' hgr _ hat; have HP9 := hid (HP3.out.step (x := y) (Nat.le_refl _) hown' hgr); clear hown' hgr hat)))
      go_roundw
      case rel => exact ⟨k + 1, by omega, by go_num, by rw [HTS.out]; exact HP9.out⟩
      case measure => simp [intOf]; omega
    · obtain rfl : k = t.every.length := by omega
      clear P
      go_wp2
      go_ret
      have hf := HP.out
      rw [List.take_length] at hf
      exact ⟨_, rfl, own_base hf.own HB1.out.size, HB1.out.trans (below_mono hf.bel HB1.out.size)⟩
end
end Go.Proofs.Ytkepgcpogblfaaa
