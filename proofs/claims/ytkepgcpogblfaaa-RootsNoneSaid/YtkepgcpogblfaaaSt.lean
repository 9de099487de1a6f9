/-
  RootsLeads' walk. Conditions: those that stand in each theorem.
-/
import Derived.Test.YtkepgcpogblfaaaSs
namespace Go.Proofs.Ytkepgcpogblfaaa
set_option linter.unusedVariables false
set_option linter.unusedSimpArgs false
open Go.RowKit Go.Deep Go.Maps

/-- The different numbers of a list, but for 0, in the order of the first of each. -/
def firstsV (l : List Int) : List Int := l.foldl (fun a y => if y = 0 ∨ a.contains y then a else a ++ [y]) []
theorem firstsV_snoc (l : List Int) (y : Int) : firstsV (l ++ [y]) = if y = 0 ∨ (firstsV l).contains y then firstsV l else firstsV l ++ [y] := by
  unfold firstsV; rw [List.foldl_append]; rfl
theorem firstsV_le (l : List Int) : (firstsV l).length ≤ l.length := by
  have h : ∀ (l a : List Int), (l.foldl (fun a y => if y = 0 ∨ a.contains y then a else a ++ [y]) a).length ≤ a.length + l.length := by
    intro l
    induction l with
    | nil => exact fun a => Nat.le_refl _
    | cons y l ih =>
      intro a
      rw [List.foldl_cons, List.length_cons]
      refine Nat.le_trans (ih _) ?_
      split <;> simp <;> omega
  simpa [firstsV] using h l []
theorem firstsV_vals {t : RT} (ok : t.Ok) : firstsV t.vals = t.leads t.xs := by
  rw [xs_every ok]
  unfold firstsV RT.vals RT.leads
  have h : ∀ (l : List Pl) (a : List Int), (l.map t.at_).foldl (fun a y => if y = 0 ∨ a.contains y then a else a ++ [y]) a = (l.filter t.nz).foldl (fun a p => if a.contains (t.get (p.k : Int) (p.m : Int) (p.i : Int)) then a else a ++ [t.get (p.k : Int) (p.m : Int) (p.i : Int)]) a := by
    intro l
    induction l with
    | nil => exact fun a => rfl
    | cons p l ih =>
      intro a
      rw [List.map_cons, List.foldl_cons, ih]
      by_cases h0 : t.at_ p = 0
      · rw [List.filter_cons_of_neg (by simp [RT.nz, h0]), if_pos (.inl h0)]
      · rw [List.filter_cons_of_pos (by simp [RT.nz, h0]), List.foldl_cons]
        congr 1
        show (if t.at_ p = 0 ∨ a.contains (t.at_ p) = true then a else a ++ [t.at_ p]) = if a.contains (t.at_ p) = true then a else a ++ [t.at_ p]
        by_cases hc : a.contains (t.at_ p) = true
        · rw [if_pos (.inr hc), if_pos hc]
        · rw [if_neg (by simp only [not_or]; exact ⟨h0, hc⟩), if_neg hc]
  exact h _ _
theorem takeI_getD {l : List Int} {i : Nat} (h : i < l.length) : l.take (i + 1) = l.take i ++ [l.getD i 0] := by
  rw [List.take_succ_eq_append_getElem h, List.getD_eq_getElem?_getD, List.getElem?_eq_getElem h]
  rfl
section
variable {w0 w w' : World} {b : RB} {tb : TB} {t : RT}
theorem vals_le (ok : t.Ok) : t.vals.length ≤ 144 := by
  unfold RT.vals; rw [List.length_map]; exact every_le ok
set_option maxRecDepth 100000 in
set_option maxHeartbeats 4000000 in
theorem leads_ok (mu : Int) {A : Option Addr} {n c : Nat} {X : Nat → ActR} (h : ActsR w A n X) :
    Calls Try.prog 7 #[.int .i64 mu, .slice A n c] w (TrueP w) := by
  have H := hid h
  obtain ⟨i0, hi0, hz0, hz1, hz2⟩ := info_parts infoInt
  clear h
  go_enter Try.func7, Try.ntmps7
  go_wp2_with (fail)
  refine (made_ok mu H.out).mono ?_
  rintro e w1 (⟨rfl, k1⟩ | ⟨b, tb, t, rfl, P, D⟩)
  · have HK := hid k1
    clear k1
    go_wp2_with (fail)
    refine (alive_ok _).mono ?_
    rintro e w2 ⟨rfl, k2⟩
    have HK2 := hid (HK.out.chain k2)
    clear k2
    go_wp2
    go_ret
    exact ⟨rfl, HK2.out⟩
  · have HP := hid P
    have HD := hid D
    have hvl := vals_le P.rr.ok
    clear P D
    go_wp2_with (fail)
    refine (all_ok HP.out).mono ?_
    rintro e w2 ⟨v2, rfl, own2, bel2⟩
    have HP2 := hid (HP.out.kp0 (Kp.of_below bel2))
    obtain ⟨A2, c2, rfl, _, hA⟩ := IsI.of_own own2
    have HA := hid hA
    clear own2 bel2 hA
    go_wp2
    go_loopw [7, 9] (fun out c wr => ∃ k : Nat, k ≤ t.vals.length ∧ c = .int .i64 (k : Int) ∧ IRow w2 w2.heap.size (firstsV (t.vals.take k)) out wr) (fun _ c _ => t.vals.length - (intOf c).toNat)
    case atStart => exact ⟨0, by omega, rfl, IRow.nil w2 _⟩
    case round =>
      obtain ⟨k, hk, rfl, P⟩ := hrel
      have HR := hid P
      have HLN : Hid ((firstsV (t.vals.take k)).length ≤ 144) := by
        have h1 := firstsV_le (t.vals.take k)
        have h2 : (t.vals.take k).length ≤ k := List.length_take_le _ _
        show _ ≤ _
        omega
      by_cases hlt : k < t.vals.length
      · obtain ⟨g, o, rfl, q0⟩ := HA.out k hlt
        have HTS : Hid (firstsV (t.vals.take (k + 1)) = if t.vals.getD k 0 = 0 ∨ (firstsV (t.vals.take k)).contains (t.vals.getD k 0) then firstsV (t.vals.take k) else firstsV (t.vals.take k) ++ [t.vals.getD k 0]) := by
          show _ = _
          rw [takeI_getD hlt, firstsV_snoc]
        generalize t.vals.getD k 0 = y at q0 HTS
        have d0 := cell_kp (Kp.of_below P.bel) q0
        obtain ⟨A3, c3, h3, _, _, hA3⟩ := FarI.of_own P.own
        have HA3 := hid hA3
        generalize firstsV (t.vals.take k) = zs at HR HLN HTS HA3 h3 P
        subst h3
        have hln := HLN.out
        clear hA3 q0 P
        go_wp2
        go_loopw [10, 11] (fun f c wr2 => ∃ j m : Nat, j ≤ zs.length ∧ c = .int .i64 (j : Int) ∧ f = .bool ((y == 0) || (zs.take j).contains y) ∧ wr2 = wr.drewN m) (fun _ c _ => zs.length - (intOf c).toNat)
        case atStart => exact ⟨0, 0, by omega, rfl, by simp, rfl⟩
        case round =>
          obtain ⟨j, m, hj, rfl, rfl, rfl⟩ := hrel
          by_cases hlt2 : j < zs.length
          · obtain ⟨g3, rfl, _, hc3⟩ := HA3.out j hlt2
            have HCS := hid (contains_snoc zs j y hlt2)
            obtain ⟨z, hz⟩ : ∃ z, z = zs.getD j 0 := ⟨_, rfl⟩
            rw [← hz] at hc3
            rcases hcon : ((y == 0) || (zs.take j).contains y)
            · have HCS2 : Hid (((y == 0) || (zs.take (j + 1)).contains y) = (z == y)) := by
                show _ = _
                rw [HCS.out, ← Bool.or_assoc, hcon, ← hz, Bool.false_or]
              clear hz hcon
              rcases hzy : (z == y)
              all_goals
                go_wp2
                go_quiet (fail)
                go_wp2
                go_roundw
                case rel => exact ⟨j + 1, _, by omega, by go_num, by rw [HCS2.out, hzy], rfl⟩
                case measure => simp [intOf]; omega
            · have HCS2 : Hid (((y == 0) || (zs.take (j + 1)).contains y) = true) := by
                show _ = _
                rw [HCS.out, ← Bool.or_assoc, hcon, Bool.true_or]
              clear hz hcon
              go_wp2
              go_quiet (fail)
              go_wp2
              go_roundw
              case rel => exact ⟨j + 1, _, by omega, by go_num, by rw [HCS2.out], rfl⟩
              case measure => simp [intOf]; omega
          · obtain rfl : j = zs.length := by omega
            rw [List.take_length]
            rcases hcon : ((y == 0) || zs.contains y)
            · have HE : Hid (firstsV (t.vals.take (k + 1)) = zs ++ [y]) := by
                show _ = _
                rw [HTS.out, if_neg]
                simp only [Bool.or_eq_false_iff, beq_eq_false_iff_ne] at hcon
                simp only [not_or]
                exact ⟨hcon.1, by rw [hcon.2]; simp⟩
              have HN := hid (one_new0 (wr.drewN m) y)
              have NONE := one_cell y
              clear hcon
              go_wp2_with (at_builtin; go_loud (refine wpList_append_own_at _ rfl (.tmp 55) (.tmp 60) 34 rfl w2.heap.size 3 i0 (.int .i64 0) 1 8 Try.underlying34 hi0 hz0 hz1 hz2 rfl (by decide) _ _ _ rfl ((HR.out.kp0 (Nat.le_refl _) (Kp.draw wr m)).own.alloc _) ⟨wr.heap.size, 0, none⟩ 1 1 [.int .i64 y] rfl rfl HN.out NONE (by unfold maxLen; omega) (by omega) (by have := HR.out.bel.size; simp [World.drewN]; omega) ?_; intro v' w9 hown' hgr _ hat; have HP9 := hid ((HR.out.kp0 (Nat.le_refl _) (Kp.draw wr m)).step (x := y) (Nat.le_refl _) hown' hgr); clear hown' hgr hat))
              go_roundw
              case rel => exact ⟨k + 1, by omega, by go_num, by rw [HE.out]; exact HP9.out⟩
              case measure => simp [intOf]; omega
            · have HE : Hid (firstsV (t.vals.take (k + 1)) = zs) := by
                show _ = _
                rw [HTS.out, if_pos]
                simp only [Bool.or_eq_true, beq_iff_eq] at hcon
                exact hcon
              clear hcon
              go_wp2
              go_roundw
              case rel => exact ⟨k + 1, by omega, by go_num, by rw [HE.out]; exact HR.out.kp0 (Nat.le_refl _) (Kp.draw wr m)⟩
              case measure => simp [intOf]; omega
      · obtain rfl : k = t.vals.length := by omega
        have HPR := hid (HP2.out.kp0 (Kp.of_below P.bel))
        rw [List.take_length, firstsV_vals HP2.out.rr.ok] at P
        have HR9 := hid (IsI.of_own P.own)
        clear P
        go_wp2_with (fail)
        refine (r_leads HPR.out.rr (fun p _ => HD.out.get _ _ _)).mono ?_
        rintro e w5 ⟨v5, rfl, own5, bel5⟩
        have HI5 := hid (IsI.of_own own5)
        have HI6 := hid (HR9.out.kp0 (Kp.of_below bel5))
        have HK5 := hid (HPR.out.kp.chain (Kp.of_below bel5))
        clear own5 bel5
        go_wp2_with (fail)
        refine (ints_same HI5.out HI6.out).mono ?_
        rintro e w6 ⟨rfl, m6, rfl⟩
        go_wp2_with (fail)
        refine (alive_ok _).mono ?_
        rintro e w7 ⟨rfl, k7⟩
        have HK7 := hid ((HK5.out.drewN m6).chain k7)
        clear k7
        go_wp2
        go_ret
        exact ⟨rfl, HK7.out⟩
end
end Go.Proofs.Ytkepgcpogblfaaa
