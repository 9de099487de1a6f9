/-
  The contract of the document's heap's Lines. Conditions: those that stand in each theorem.
-/
import Derived.BigQuiet
import Derived.Test.YtkkmlllajfafcaaGreatPDg
import Derived.Test.YtkkmlllajfafcaaGreatPG19
namespace Go.Proofs.YtkkmlllajfafcaaGreat
set_option linter.unusedVariables false
set_option linter.unusedSimpArgs false
open Go.RowKit Go.Deep Go.Maps

theorem infoBoolD : (Tryz.prog.info? 4).map (fun i => (i.zero, i.size, i.bytes)) = some (some (.bool false), 1, 1) := by kernel_rfl
def HM.isBn (m : HM) (p : Nat) : Nat → Bool
  | 0 => false
  | n + 1 => m.isBn p n || decide (m.own (p + n) ≠ 0)
theorem isBn_iff (m : HM) (p n : Nat) : m.isBn p n = true ↔ ∃ x, x < n ∧ m.own (p + x) ≠ 0 := by
  induction n with
  | zero => simp [HM.isBn]
  | succ n ih =>
    simp only [HM.isBn, Bool.or_eq_true, ih, decide_eq_true_eq]
    constructor
    · rintro (⟨x, h1, h2⟩ | h)
      · exact ⟨x, by omega, h2⟩
      · exact ⟨n, by omega, h⟩
    · rintro ⟨x, h1, h2⟩
      by_cases hx : x < n
      · exact .inl ⟨x, hx, h2⟩
      · obtain rfl : x = n := by omega
        exact .inr h2
theorem line_isD {m : HM} (I : m.Inv) {k i : Nat} (hk : k < m.bl.length) (hst : m.st k = 1) (hi : i < 8) : (m.lnL k).getD i false = m.isBn (k * 64 + i * 8) 8 := by
  have h1 := lnL_iff I hk hst hi
  have h2 := isBn_iff m (k * 64 + i * 8) 8
  rcases h3 : (m.lnL k).getD i false <;> rcases h4 : m.isBn (k * 64 + i * 8) 8
  · rfl
  · rw [h3] at h1; exact absurd (h1.2 (h2.1 h4)) (by simp)
  · rw [h4] at h2; exact absurd (h2.2 (h1.1 h3)) (by simp)
  · rfl
theorem lcells_take (L : List Bool) (i : Nat) (h : i < L.length) : lcells (L.take (i + 1)) = lcells (L.take i) ++ [.bool (L.getD i false)] := by
  rw [List.take_add_one, List.getElem?_eq_getElem h, List.getD_eq_getElem?_getD, List.getElem?_eq_getElem h]
  simp only [lcells, List.map_append, List.map_cons, List.map_nil, Option.toList_some, Option.getD_some]
section
variable {w w' W : World} {d : DB} {q : Nat} {m : HM}
theorem d_lines_not (T : DR w d q m) (i : Int) (hb : ¬ (inB m.bl.length i = true ∧ m.st i.toNat = 1)) :
    Calls Tryz.prog 94 #[.pointer (some ⟨d.g, 0, none⟩), .int .i64 i] w fun e w' => e = .returned (.slice none 0 0) ∧ Kp [] w w' := by
  have hst : ((if inB m.bl.length i = true then (m.st i.toNat : Int) else -1) != 1) = true := by
    rw [bne_iff_ne]
    split
    · rename_i h1
      have : ¬ m.st i.toNat = 1 := fun h2 => hb ⟨h1, h2⟩
      omega
    · omega
  generalize hx : (if inB m.bl.length i = true then (m.st i.toNat : Int) else -1) = x at hst
  have HX := hid hx
  have HT := hid T
  clear hb hx T
  go_enter Tryz.func94, Tryz.ntmps94
  go_wp2_with (go_at_call 88; refine (d_state HT.out _).mono ?_; rintro e w' ⟨rfl, n1, rfl⟩; rw [HX.out])
  go_ret
  exact ⟨rfl, Kp.draw _ _⟩
set_option maxRecDepth 100000 in
set_option maxHeartbeats 4000000 in
theorem d_lines (T : DR w d q m) (k : Nat) (hk : k < m.bl.length) (hst1 : m.st k = 1) :
    Calls Tryz.prog 94 #[.pointer (some ⟨d.g, 0, none⟩), .int .i64 (k : Int)] w fun e w' => ∃ v, e = .returned v ∧ w'.ownsRow w.heap.size 4 1 v 8 (lcells (m.lnL k)) ∧ Kp [] w w' := by
  obtain ⟨i0, hi0, hz0, hz1, hz2⟩ := info_parts infoBoolD
  have hst : (if inB m.bl.length (k : Int) = true then (m.st ((k : Int).toNat) : Int) else -1) = 1 := by rw [if_pos (show inB m.bl.length (k : Int) = true from decide_eq_true ⟨by omega, by omega⟩), Int.toNat_natCast, hst1]; rfl
  have hl64 := T.inv.len64
  have hk64 : k ≤ 64 := by omega
  have HT := hid T
  have HSTV := hid hst
  have HLI := hid (fun i (hi : i < 8) => line_isD T.inv hk hst1 hi)
  have HLL : Hid ((m.lnL k).length = 8) := by show _ = _; simp [HM.lnL]
  have HLT := hid (fun i (hi : i < 8) => lcells_take (m.lnL k) i (by rw [HLL.out]; exact hi))
  have HL0 : Hid (lcells ((m.lnL k).take 8) = lcells (m.lnL k)) := by show _ = _; rw [List.take_of_length_le (by rw [HLL.out]; omega)]
  have HON : Hid (∀ p z, m.isBn p (z + 1) = (m.isBn p z || decide (m.own (p + z) ≠ 0))) := fun p z => rfl
  clear T hst hst1 hk hl64
  go_enter Tryz.func94, Tryz.ntmps94
  go_wp2_with (go_at_call 88; refine (d_state HT.out _).mono ?_; rintro e w' ⟨rfl, n1, rfl⟩; rw [HSTV.out])
  go_loopw [5, 6, 7, 8, 9, 10] (fun s c _ _ _ _ wr => ∃ i : Nat, i ≤ 8 ∧ c = .int .i64 (i : Int) ∧ wr.ownsRow w.heap.size 4 1 s i (lcells ((m.lnL k).take i)) ∧ Below w.heap.size w wr) (fun _ c _ _ _ _ _ => 8 - (intOf c).toNat)
  case atStart => exact ⟨0, by omega, by go_num, ⟨rfl, .inl ⟨rfl, rfl⟩⟩, below_drewN (Below.refl _ _) _⟩
  case round =>
    rename World => w8
    obtain ⟨i, hi, rfl, own, bel⟩ := hrel
    have HO := hid own
    have HB := hid bel
    clear own bel
    by_cases hlt : i < 8
    · go_wp2
      rw [show decide ((i : Int) < 8) = true from decide_eq_true (by omega)]
      go_loopw [7, 8, 9, 10] (fun is c _ _ wq => ∃ z : Nat, z ≤ 8 ∧ c = .int .i64 (z : Int) ∧ is = .bool (m.isBn (k * 64 + i * 8) z) ∧ Kp [] w8 wq) (fun _ c _ _ _ => 8 - (intOf c).toNat)
      case atStart => exact ⟨0, by omega, by go_num, rfl, Kp.refl _ _⟩
      case round =>
        obtain ⟨z, hz, rfl, rfl, K⟩ := hrel
        have HK := hid K
        have HTQ := hid (HT.out.kp0 ((Kp.of_below HB.out).chain K))
        clear K
        by_cases hlz : z < 8
        · have HP9 := hid (HON.out (k * 64 + i * 8) z)
          have hcast : (k : Int) * 64 + (i : Int) * 8 + (z : Int) = ((k * 64 + i * 8 + z : Nat) : Int) := by omega
          have HC := hid hcast
          have hfe : m.findE ((k * 64 + i * 8 + z : Nat) : Int) = if m.own (k * 64 + i * 8 + z) = 0 then 4 else 0 := by
            have hown : m.ownI ((k * 64 + i * 8 + z : Nat) : Int) = m.own (k * 64 + i * 8 + z) := by
              unfold HM.ownI
              rw [if_pos (by omega), Int.toNat_natCast]
            unfold HM.findE
            rw [hown]
          generalize m.isBn (k * 64 + i * 8) z = b1 at HP9 ⊢
          by_cases h0 : m.own (k * 64 + i * 8 + z) = 0
          · rw [if_pos h0] at hfe
            have HFE := hid hfe
            have HP8 : Hid (m.isBn (k * 64 + i * 8) (z + 1) = b1) := by show _ = _; rw [HP9.out]; simp [h0]
            clear hfe h0 hcast
            go_wp2_with (fail)
            rw [HC.out]
            refine (d_find HTQ.out _ ⟨by omega, by omega⟩).mono ?_
            rintro e w7 ⟨rfl, K7⟩
            rw [HFE.out]
            have HK7 := hid (HK.out.chain K7)
            clear K7
            rcases b1
            · go_wp2
              go_roundw
              case rel =>
                have HF : ∃ z1 : Nat, z1 ≤ 8 ∧ Value.int .i64 ((z : Int) + 1) = .int .i64 (z1 : Int) ∧ Value.bool false = .bool (m.isBn (k * 64 + i * 8) z1) ∧ Kp [] w8 w7 := ⟨z + 1, by omega, by go_num, by rw [HP8.out], HK7.out⟩
                first | exact HF | ((repeat apply Exists.intro); exact ⟨HF, rfl⟩)
              case measure => simp [intOf]; omega
            · go_wp2
              go_roundw
              case rel =>
                have HF : ∃ z1 : Nat, z1 ≤ 8 ∧ Value.int .i64 ((z : Int) + 1) = .int .i64 (z1 : Int) ∧ Value.bool true = .bool (m.isBn (k * 64 + i * 8) z1) ∧ Kp [] w8 w7 := ⟨z + 1, by omega, by go_num, by rw [HP8.out], HK7.out⟩
                first | exact HF | ((repeat apply Exists.intro); exact ⟨HF, rfl⟩)
              case measure => simp [intOf]; omega
          · rw [if_neg h0] at hfe
            have HFE := hid hfe
            have HP8 : Hid (m.isBn (k * 64 + i * 8) (z + 1) = true) := by show _ = _; rw [HP9.out]; simp [h0]
            clear hfe h0 hcast
            go_wp2_with (fail)
            rw [HC.out]
            refine (d_find HTQ.out _ ⟨by omega, by omega⟩).mono ?_
            rintro e w7 ⟨rfl, K7⟩
            rw [HFE.out]
            have HK7 := hid (HK.out.chain K7)
            clear K7
            rcases b1
            · go_wp2
              go_roundw
              case rel =>
                have HF : ∃ z1 : Nat, z1 ≤ 8 ∧ Value.int .i64 ((z : Int) + 1) = .int .i64 (z1 : Int) ∧ Value.bool true = .bool (m.isBn (k * 64 + i * 8) z1) ∧ Kp [] w8 w7 := ⟨z + 1, by omega, by go_num, by rw [HP8.out], HK7.out⟩
                first | exact HF | ((repeat apply Exists.intro); exact ⟨HF, rfl⟩)
              case measure => simp [intOf]; omega
            · go_wp2
              go_roundw
              case rel =>
                have HF : ∃ z1 : Nat, z1 ≤ 8 ∧ Value.int .i64 ((z : Int) + 1) = .int .i64 (z1 : Int) ∧ Value.bool true = .bool (m.isBn (k * 64 + i * 8) z1) ∧ Kp [] w8 w7 := ⟨z + 1, by omega, by go_num, by rw [HP8.out], HK7.out⟩
                first | exact HF | ((repeat apply Exists.intro); exact ⟨HF, rfl⟩)
              case measure => simp [intOf]; omega
        · obtain rfl : z = 8 := by omega
          have HE := hid (HLI.out i hlt)
          have HT9 := hid (HLT.out i hlt)
          rw [HE.out] at HT9
          generalize m.isBn (k * 64 + i * 8) 8 = b1 at HT9 ⊢
          have HQ := hid (own_kp0 HO.out HK.out)
          have HBQ : Hid (Below w.heap.size w wr) := HB.out.trans (HK.out.below HB.out.size (by simp))
          have HN := hid (one_newV wr (.bool b1) 4)
          have NONE : ∀ u ∈ ([.bool b1] : List Value), u.oneCell' = true := fun u hu => by simp at hu; subst hu; rfl
          have HSZ : Hid (w.heap.size ≤ wr.heap.size) := HBQ.out.size
          have HIL := hid hlt
          go_wp2_with (at_builtin; refine wpList_append_own _ rfl (.tmp 40) (.tmp 42) 78 rfl w.heap.size 4 i0 (.bool false) 1 1 Tryz.underlying78 hi0 hz0 hz1 hz2 rfl (by decide) _ _ _ rfl (HQ.out.alloc _) ⟨wr.heap.size, 0, none⟩ 1 1 [.bool b1] rfl rfl HN.out NONE (by unfold maxLen; omega) (by omega) (by have := HSZ.out; simp; omega) ?_; intro v' w1 hown' hgr hnil; have HO' := hid hown'; have HG := hid hgr; clear hown' hgr hnil)
          go_roundw
          case rel =>
            have z2 : Below w.heap.size wr w1 := row_endV (k' := 0) ((Below.refl _ wr).alloc HSZ.out _) HSZ.out (HQ.out.alloc _) HG.out
            exact ⟨i + 1, by omega, by go_num, by rw [HT9.out]; exact HO'.out, HBQ.out.trans z2⟩
          case measure => simp [intOf]; omega
    · obtain rfl : i = 8 := by omega
      rw [HL0.out] at HO
      go_wp2
      go_ret
      exact ⟨_, rfl, HO.out, Kp.of_below HB.out⟩
end
end Go.Proofs.YtkkmlllajfafcaaGreat
