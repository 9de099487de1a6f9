/-
  The contract of the reference's Runs. Conditions: those that stand in each theorem.
-/
import Derived.Test.YthhgcjbmnkdgjaaO
namespace Go.Proofs.Ythhgcjbmnkdgjaa
set_option linter.unusedVariables false
set_option linter.unusedSimpArgs false
open Go.RowKit Go.Deep

theorem own_any {w : World} {B e size n : Nat} {v : Value} {xs : List Value} (h : w.ownsRow B e size v n xs) : ∃ A cap, v = .slice A n cap := by
  rcases h.2 with ⟨rfl, rfl⟩ | ⟨g', cap, cur, rfl, _⟩
  · exact ⟨_, _, rfl⟩
  · exact ⟨_, _, rfl⟩

/-- What a round leaves. -/
def RunsRel (w : World) (L : List Nat) (v : Int) (s c : Value) (wr : World) : Prop :=
  ∃ k : Nat, k ≤ L.length ∧ c = .int .i64 (k : Int) ∧ wr.ownsRow w.heap.size 62 2 s (runsN (isV L v) k).length (rcells (runsN (isV L v) k)) ∧ Below w.heap.size w wr
theorem RunsRel.grow {w w0 w1 : World} {L : List Nat} {v : Int} {v' : Value} {k : Nat} {c : Int} (hk : k + 1 ≤ L.length) (hc : c = ((k + 1 : Nat) : Int)) (hb : Below w.heap.size w w0) (h : Grows w.heap.size w0 (runsN (isV L v) (k + 1)) (.returned v') w1) : RunsRel w L v v' (.int .i64 c) w1 := by
  obtain ⟨v2, he, own, hb'⟩ := h
  injection he with he
  subst he
  exact ⟨k + 1, hk, by rw [hc], own, hb.trans hb'⟩

theorem join_end {B g cap n : Nat} {a : List (Nat × Nat)} {s z : Nat} {w : World} (own : w.ownsRow B 62 2 (.slice (some ⟨g, 0, none⟩) (a.length + 1) cap) (a.length + 1) (rcells (a ++ [(s, z)]))) (hB : B ≤ w.heap.size) :
    Grows B w (a ++ [(s, z + 1)]) (.returned (.slice (some ⟨g, 0, none⟩) (a.length + 1) cap)) ((w.drewN n).setCell ⟨g, a.length * 2 + 1, none⟩ (.int .i64 ((z : Int) + 1))) := by
  obtain ⟨h1, h2⟩ := (show (w.drewN n).ownsRow _ _ _ _ _ _ from own).stored (a.length * 2 + 1) (.int .i64 ((z : Int) + 1))
  have hl2 := rcells_length a
  have hBg : B ≤ g := by
    rcases own.2 with ⟨h0, _⟩ | ⟨g', cap', cur, he, hg, _⟩
    · cases h0
    · injection he with e1
      injection e1 with e1
      injection e1 with e1
      omega
  refine ⟨_, rfl, ?_, ?_⟩
  · have e : (rcells (a ++ [(s, z)])).set (a.length * 2 + 1) (.int .i64 ((z : Int) + 1)) = rcells (a ++ [(s, z + 1)]) := by
      rw [rcells_append, rcells_append, List.set_append_right _ _ (by omega), hl2, Nat.add_sub_cancel_left]
      rfl
    rw [e] at h1
    rw [List.length_append]
    exact h1
  · refine (show Below B w (w.drewN n) from ⟨rfl, rfl, rfl, Nat.le_refl _, fun _ _ => rfl⟩).grown h2 hB ?_
    intro k hk
    injection hk with hk
    omega

set_option maxHeartbeats 2000000 in
theorem r_runs {g h wd : Nat} {L : List Nat} {w : World} (T : RTab w g h wd L) (v : Int) :
    Calls Try.prog 59 #[.pointer (some ⟨g, 0, none⟩), .int .i64 v] w (Grows w.heap.size w (runsN (isV L v) L.length)) := by
  obtain ⟨i0, hi0, hz0, hz1, hz2⟩ := info_parts info62
  have hle := T.le
  have HT := hid T
  go_enter Try.func59, Try.ntmps59
  go_wp2
  go_loopw [5, 6] (fun s c wr => RunsRel w L v s c wr) (fun _ c _ => L.length - (intOf c).toNat)
  case atStart => exact ⟨0, by omega, rfl, ⟨rfl, .inl ⟨rfl, rfl⟩⟩, Below.refl _ _⟩
  case round =>
    obtain ⟨k, hk, rfl, own, hbel⟩ := hrel
    have T1 := T.below hbel T.g_lt T.h_lt
    obtain ⟨c, hc⟩ := T1.cell2
    obtain ⟨A, cap, rfl⟩ := own_any own
    have HO := hid own
    have HB := hid hbel
    have HSZ : Hid (w.heap.size ≤ ((wr.alloc (.cells #[.int .i64 (k : Int), .int .i64 1] 62))).heap.size) := by
      have := hbel.size
      show _ ≤ _
      simp
      omega
    have HN : Hid _ := run_news wr k
    have NONE := run_news_one k
    have hok := runsN_ok (isV L v) k
    have HK := hid hok
    have hlen := hok.1
    clear own hbel T hok
    by_cases hlt : k < L.length
    · have hcell := T1.at_ hlt
      by_cases hv : ((ent L k : Nat) : Int) = v
      · have e := runsN_yes (isV_yes hv)
        have HE := hid e
        have hv' : (((ent L k : Nat) : Int) != v) = false := by rw [hv]; exact bne_self_eq_false _
        clear e hv
        by_cases hk0 : k = 0
        · subst hk0
          go_wp2_with (first | (go_at_call 55; refine (r_entries T1).mono ?_; rintro e w' ⟨rfl, n4, rfl⟩) | (at_builtin; refine wpList_append_own _ rfl (.tmp 46) (.tmp 49) 59 rfl w.heap.size 62 i0 (.agg #[.int .i64 0, .int .i64 0]) 2 16 Try.underlying59 hi0 hz0 hz1 hz2 rfl (by decide) (.slice A (runsN (isV L v) 0).length cap) _ _ rfl ((show (wr.drewN n4).ownsRow _ _ _ _ _ _ from HO.out).alloc _) ⟨wr.heap.size, 0, none⟩ 1 1 [.int .i64 ((0 : Nat) : Int), .int .i64 1] rfl rfl (HN.out n4) NONE (by unfold maxLen; omega) (by omega) HSZ.out ?_; intro v' w1 hown' hgr hdrop; have HO' := hid hown'; have HG' := hid hgr; clear hown' hgr hdrop))
          go_roundw
          case rel => exact RunsRel.grow (k := 0) (w0 := wr) (by omega) (by simp) HB.out (by rw [HE.out]; exact grows_end (rs := []) HB.out.size rfl HO.out HO'.out HG'.out)
          case measure => simp [intOf]; omega
        · have hkm : k - 1 < L.length := by omega
          have hcell2 := T1.at_ hkm
          have hk1 : 0 < k := by omega
          by_cases hp : ((ent L (k - 1) : Nat) : Int) = v
          · obtain ⟨a, s, z, hrs, hsz⟩ := HK.out.2.2.1 (k - 1) (by omega) (isV_yes hp)
            have hp' : (((ent L (k - 1) : Nat) : Int) == v) = true := by rw [hp]; exact beq_self_eq_true _
            have HRS := hid hrs
            have HSZ2 := hid hsz
            have own2 := HO.out
            have hl0 : (runsN (isV L v) k).length = a.length + 1 := by rw [hrs, List.length_append]; rfl
            rw [hl0, hrs] at own2
            rw [hl0]
            have hla : a.length < 4096 := by omega
            have hsz1 : z ≤ 4096 := by omega
            have hA : ∃ gr, A = some ⟨gr, 0, none⟩ ∧ a.length + 1 ≤ cap ∧ cap ≤ maxLen := by
              rcases own2.2 with ⟨_, h0⟩ | ⟨g', cap', cur, he, hg, _, h1, h2, _⟩
              · omega
              · injection he with e1 e2 e3
                subst e3
                exact ⟨g', e1, h1, h2⟩
            obtain ⟨gr, rfl, hc1, hc2⟩ := hA
            obtain ⟨d0, d1⟩ := last_cells own2
            have hfr := own2.frozenAt (a.length * 2 + 1)
            have HEND := hid (fun n => join_end (n := n) own2 HB.out.size)
            have HE2 : Hid (runsN (isV L v) (k + 1) = a ++ [(s, z + 1)]) := by
              show _ = _
              rw [HE.out, hrs, ext_join hsz]
            clear own2 hp hk0 hrs hsz hl0 hlen HO
            generalize a.length = q at *
            go_wp2_with (first | (go_at_call 55; refine (r_entries T1).mono ?_; rintro e w' ⟨rfl, n4, rfl⟩))
            go_roundw
            case rel => exact RunsRel.grow (k := k) (w0 := wr) (by omega) (by simp) HB.out (by rw [HE2.out]; exact HEND.out n4)
            case measure => simp [intOf]; omega
          · have hp' : (((ent L (k - 1) : Nat) : Int) == v) = false := beq_eq_false_iff_ne.2 hp
            have HE2 : Hid (runsN (isV L v) (k + 1) = runsN (isV L v) k ++ [(k, 1)]) := by
              show _ = _
              rw [HE.out]
              rcases last_cases (runsN (isV L v) k) with h0 | ⟨a, s, z, h0⟩
              · rw [h0]
                rfl
              · have := HK.out.2.2.2 (k - 1) (by omega) (isV_no hp) a s z h0
                rw [h0, ext_new (by omega)]
            clear hp hk0
            go_wp2_with (first | (go_at_call 55; refine (r_entries T1).mono ?_; rintro e w' ⟨rfl, n4, rfl⟩) | (at_builtin; refine wpList_append_own _ rfl (.tmp 46) (.tmp 49) 59 rfl w.heap.size 62 i0 (.agg #[.int .i64 0, .int .i64 0]) 2 16 Try.underlying59 hi0 hz0 hz1 hz2 rfl (by decide) (.slice A (runsN (isV L v) k).length cap) _ _ rfl ((show (wr.drewN n4).ownsRow _ _ _ _ _ _ from HO.out).alloc _) ⟨wr.heap.size, 0, none⟩ 1 1 [.int .i64 (k : Int), .int .i64 1] rfl rfl (HN.out n4) NONE (by unfold maxLen; omega) (by omega) HSZ.out ?_; intro v' w1 hown' hgr hdrop; have HO' := hid hown'; have HG' := hid hgr; clear hown' hgr hdrop))
            go_roundw
            case rel => exact RunsRel.grow (k := k) (w0 := wr) (by omega) (by simp) HB.out (by rw [HE2.out]; exact grows_end HB.out.size rfl HO.out HO'.out HG'.out)
            case measure => simp [intOf]; omega
      · have e := runsN_no (isV_no hv)
        have HE := hid e
        have hv' : (((ent L k : Nat) : Int) != v) = true := bne_iff_ne.2 hv
        clear e hv
        go_wp2_with (first | (go_at_call 55; refine (r_entries T1).mono ?_; rintro e w' ⟨rfl, n4, rfl⟩))
        go_roundw
        case rel => exact ⟨k + 1, by omega, by go_num, by rw [HE.out]; exact HO.out, below_drewN HB.out n4⟩
        case measure => simp [intOf]; omega
    · obtain rfl : k = L.length := by omega
      go_wp2_with (first | (go_at_call 55; refine (r_entries T1).mono ?_; rintro e w' ⟨rfl, n4, rfl⟩))
      go_ret
      exact ⟨_, rfl, HO.out, below_drewN HB.out n4⟩
end Go.Proofs.Ythhgcjbmnkdgjaa
