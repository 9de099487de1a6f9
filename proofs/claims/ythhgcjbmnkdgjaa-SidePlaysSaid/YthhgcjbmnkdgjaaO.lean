/-
  The contracts of package side's extended and Runs. Conditions: those that stand in each theorem.
-/
import Derived.Test.YthhgcjbmnkdgjaaL
namespace Go.Proofs.Ythhgcjbmnkdgjaa
set_option linter.unusedVariables false
set_option linter.unusedSimpArgs false
open Go.RowKit Go.Deep

theorem info62 : (Try.prog.info? 62).map (fun i => (i.zero, i.size, i.bytes)) = some (some (.agg #[.int .i64 0, .int .i64 0]), 2, 16) := by kernel_rfl

def rcells (rs : List (Nat × Nat)) : List Value := rs.flatMap fun r => [.int .i64 (r.1 : Int), .int .i64 (r.2 : Int)]
theorem rcells_length (rs : List (Nat × Nat)) : (rcells rs).length = rs.length * 2 := by
  induction rs with
  | nil => rfl
  | cons r rs ih => simp only [rcells, List.flatMap_cons, List.length_append, List.length_cons, List.length_nil] at ih ⊢; omega
theorem rcells_append (a b : List (Nat × Nat)) : rcells (a ++ b) = rcells a ++ rcells b := by simp [rcells]
theorem rcells_one (rs : List (Nat × Nat)) : ∀ u ∈ rcells rs, u.oneCell' = true := by
  intro u hu
  obtain ⟨r, _, hr⟩ := List.mem_flatMap.1 hu
  simp at hr
  rcases hr with rfl | rfl <;> rfl

/-- A slice of runs of the call's own. -/
def Grows (B : Nat) (w : World) (rs : List (Nat × Nat)) (e : Ending) (w' : World) : Prop :=
  ∃ v', e = .returned v' ∧ w'.ownsRow B 62 2 v' rs.length (rcells rs) ∧ Below B w w'

theorem run_news (w : World) (i n : Nat) : ∀ (j : Nat) (u : Value), ([.int .i64 (i : Int), .int .i64 1] : List Value)[j]? = some u → ((w.drewN n).alloc (.cells #[.int .i64 (i : Int), .int .i64 1] 62)).cell? ((⟨w.heap.size, 0, none⟩ : Addr).add j) = some u := by
  intro j u hu
  exact blk_read (xs := [.int .i64 (i : Int), .int .i64 1]) (sp := []) (Blk.new (w.drewN n) 62 _) j u hu
theorem run_news_one (i : Nat) : ∀ u ∈ ([.int .i64 (i : Int), .int .i64 1] : List Value), u.oneCell' = true := by
  intro u hu
  simp at hu
  rcases hu with rfl | rfl <;> rfl
theorem grows_end {B : Nat} {w w1 : World} {rs : List (Nat × Nat)} {i n k : Nat} {v v' : Value} (hB : B ≤ w.heap.size) (hk : rs.length = k) (own : w.ownsRow B 62 2 v k (rcells rs)) (own' : w1.ownsRow B 62 2 v' (k + 1) (rcells rs ++ [.int .i64 (i : Int), .int .i64 1]))
    (g : ((w.drewN n).alloc (.cells #[.int .i64 (i : Int), .int .i64 1] 62)).grownBy w1 v.ownBlock) : Grows B w (rs ++ [(i, 1)]) (.returned v') w1 := by
  refine ⟨v', rfl, ?_, ?_⟩
  · rw [rcells_append, List.length_append, hk]
    exact own'
  · refine (((Below.refl B w).trans (show Below B w (w.drewN n) from ⟨rfl, rfl, rfl, Nat.le_refl _, fun _ _ => rfl⟩)).alloc hB _).grown g (by simp [World.drewN]; omega) ?_
    intro k hk
    rcases own.2 with ⟨rfl, _⟩ | ⟨g', cap, cur, rfl, hg, _⟩
    · simp [Value.ownBlock] at hk
    · simp [Value.ownBlock] at hk
      omega

set_option maxHeartbeats 1000000 in
theorem extended_first {B : Nat} {v : Value} {i : Nat} {w : World} (own : w.ownsRow B 62 2 v 0 []) (hB : B ≤ w.heap.size) (hi : i < 4096) :
    Calls Try.prog 64 #[v, .int .i64 (i : Int)] w (Grows B w [(i, 1)]) := by
  obtain ⟨i0, hi0, hz0, hz1, hz2⟩ := info_parts info62
  have OWN := hid own
  have HN : Hid _ := run_news w i
  have NONE := run_news_one i
  have hv : ∃ A cap, v = .slice A 0 cap := by
    rcases own.2 with ⟨rfl, _⟩ | ⟨g', cap, cur, rfl, hg, _⟩
    · exact ⟨_, _, rfl⟩
    · exact ⟨_, _, rfl⟩
  obtain ⟨A, cap, rfl⟩ := hv
  clear own
  go_enter Try.func64, Try.ntmps64
  go_wp2
  go_quiet (fail)
  go_wp2_with (at_builtin; refine wpList_append_own _ rfl (.tmp 35) (.tmp 38) 59 rfl B 62 i0 (.agg #[.int .i64 0, .int .i64 0]) 2 16 Try.underlying59 hi0 hz0 hz1 hz2 rfl (by decide) _ _ _ rfl ((show (w.drewN nq).ownsRow _ _ _ _ _ _ from OWN.out).alloc _) ⟨w.heap.size, 0, none⟩ 1 1 [.int .i64 (i : Int), .int .i64 1] rfl rfl (HN.out nq) NONE (by unfold maxLen; omega) (by omega) (by simp; omega) ?_; intro v' w1 hown' hgr _)
  have HO := hid hown'
  have HG := hid hgr
  clear hown' hgr
  go_wp2
  go_ret
  exact grows_end (rs := []) hB rfl OWN.out HO.out HG.out

theorem last_cells {w : World} {B g cap : Nat} {a : List (Nat × Nat)} {s z : Nat} (own : w.ownsRow B 62 2 (.slice (some ⟨g, 0, none⟩) (a.length + 1) cap) (a.length + 1) (rcells (a ++ [(s, z)]))) :
    w.cell? ⟨g, a.length * 2, none⟩ = some (.int .i64 (s : Int)) ∧ w.cell? ⟨g, a.length * 2 + 1, none⟩ = some (.int .i64 (z : Int)) := by
  have hl := rcells_length a
  constructor
  · rw [own.cellAt _ (by omega), rcells_append, List.getElem?_append_right (by omega), hl, Nat.sub_self]
    rfl
  · rw [own.cellAt _ (by omega), rcells_append, List.getElem?_append_right (by omega), hl, Nat.add_sub_cancel_left]
    rfl
set_option maxHeartbeats 1000000 in
theorem extended_apart {B : Nat} {v : Value} {a : List (Nat × Nat)} {s z i : Nat} {w : World} (own : w.ownsRow B 62 2 v (a.length + 1) (rcells (a ++ [(s, z)]))) (hB : B ≤ w.heap.size) (hi : i < 4096) (hl : a.length < 4096)
    (hsz : s + z ≤ 4096) (hne : ¬ s + z = i) :
    Calls Try.prog 64 #[v, .int .i64 (i : Int)] w (Grows B w (a ++ [(s, z)] ++ [(i, 1)])) := by
  obtain ⟨i0, hi0, hz0, hz1, hz2⟩ := info_parts info62
  have OWN := hid own
  have HN : Hid _ := run_news w i
  have NONE := run_news_one i
  have hv : ∃ g cap, v = .slice (some ⟨g, 0, none⟩) (a.length + 1) cap ∧ a.length + 1 ≤ cap ∧ cap ≤ maxLen := by
    rcases own.2 with ⟨rfl, h0⟩ | ⟨g', cap, cur, rfl, hg, _, h1, h2, _⟩
    · omega
    · exact ⟨_, _, rfl, h1, h2⟩
  obtain ⟨g, cap, rfl, hc1, hc2⟩ := hv
  obtain ⟨c0, c1⟩ := last_cells own
  have htest : (((s : Int) + (z : Int)) == (i : Int)) = false := beq_eq_false_iff_ne.2 (by omega)
  generalize hm : a.length = m at *
  have HM := hid hm
  clear own hne hm
  go_enter Try.func64, Try.ntmps64
  go_wp2
  go_quiet (fail)
  go_wp2_with (at_builtin; refine wpList_append_own _ rfl (.tmp 35) (.tmp 38) 59 rfl B 62 i0 (.agg #[.int .i64 0, .int .i64 0]) 2 16 Try.underlying59 hi0 hz0 hz1 hz2 rfl (by decide) _ _ _ rfl ((show (w.drewN nq).ownsRow _ _ _ _ _ _ from OWN.out).alloc _) ⟨w.heap.size, 0, none⟩ 1 1 [.int .i64 (i : Int), .int .i64 1] rfl rfl (HN.out nq) NONE (by unfold maxLen; omega) (by omega) (by simp; omega) ?_; intro v' w1 hown' hgr _)
  have HO := hid hown'
  have HG := hid hgr
  clear hown' hgr
  go_wp2
  go_ret
  exact grows_end hB (by simp [HM.out]) OWN.out HO.out HG.out

set_option maxHeartbeats 1000000 in
theorem extended_join {B : Nat} {v : Value} {a : List (Nat × Nat)} {s z i : Nat} {w : World} (own : w.ownsRow B 62 2 v (a.length + 1) (rcells (a ++ [(s, z)]))) (hB : B ≤ w.heap.size) (hi : i < 4096) (hl : a.length < 4096)
    (hsz : s + z = i) :
    Calls Try.prog 64 #[v, .int .i64 (i : Int)] w (Grows B w (a ++ [(s, z + 1)])) := by
  have hv : ∃ g cap, v = .slice (some ⟨g, 0, none⟩) (a.length + 1) cap ∧ a.length + 1 ≤ cap ∧ cap ≤ maxLen ∧ B ≤ g := by
    rcases own.2 with ⟨rfl, h0⟩ | ⟨g', cap, cur, rfl, hg, _, h1, h2, _⟩
    · omega
    · exact ⟨_, _, rfl, h1, h2, hg⟩
  obtain ⟨g, cap, rfl, hc1, hc2, hBg⟩ := hv
  obtain ⟨c0, c1⟩ := last_cells own
  have hfr := own.frozenAt (a.length * 2 + 1)
  have HEND : Hid (∀ n, Grows B w (a ++ [(s, z + 1)]) (.returned (.slice (some ⟨g, 0, none⟩) (a.length + 1) cap)) ((w.drewN n).setCell ⟨g, a.length * 2 + 1, none⟩ (.int .i64 ((z : Int) + 1)))) := fun n => by
    obtain ⟨h1, h2⟩ := (show (w.drewN n).ownsRow _ _ _ _ _ _ from own).stored (a.length * 2 + 1) (.int .i64 ((z : Int) + 1))
    have hl2 := rcells_length a
    refine ⟨_, rfl, ?_, ?_⟩
    · have e : (rcells (a ++ [(s, z)])).set (a.length * 2 + 1) (.int .i64 ((z : Int) + 1)) = rcells (a ++ [(s, z + 1)]) := by
        rw [rcells_append, rcells_append, List.set_append_right _ _ (by omega), hl2, Nat.add_sub_cancel_left]
        rfl
      rw [e] at h1
      rw [List.length_append]
      exact h1
    · refine (show Below B w (w.drewN n) from ⟨rfl, rfl, rfl, Nat.le_refl _, fun _ _ => rfl⟩).grown h2 hB ?_
      intro k hk
      injection hk with hk
      omega
  have htest : (((s : Int) + (z : Int)) == (i : Int)) = true := beq_iff_eq.2 (by omega)
  have hb1 : z ≤ 4096 := by omega
  have hb2 : s ≤ 4096 := by omega
  generalize hm : a.length = m at *
  clear own hsz hm
  go_enter Try.func64, Try.ntmps64
  go_wp2
  go_quiet (fail)
  go_wp2
  go_ret
  exact HEND.out _

theorem extended_any {B : Nat} {v : Value} {rs : List (Nat × Nat)} {i : Nat} {w : World} (own : w.ownsRow B 62 2 v rs.length (rcells rs)) (hB : B ≤ w.heap.size) (hi : i < 4096) (hl : rs.length ≤ i)
    (hsz : ∀ r ∈ rs, r.1 + r.2 ≤ i ∧ 1 ≤ r.2) : Calls Try.prog 64 #[v, .int .i64 (i : Int)] w (Grows B w (ext rs i)) := by
  rcases last_cases rs with rfl | ⟨a, s, z, rfl⟩
  · exact extended_first own hB hi
  · have h1 := (hsz (s, z) (by simp)).1
    simp only at h1
    rw [List.length_append] at own hl
    by_cases hs : s + z = i
    · rw [ext_join hs]
      exact extended_join own hB hi (by simp at hl; omega) hs
    · rw [ext_new hs]
      exact extended_apart own hB hi (by simp at hl; omega) (by omega) hs

theorem STab.below {w w' : World} {g h wd B : Nat} {L : List Nat} (T : STab w g h wd L) (b : Below B w w') (hg : g < B) (hh : h < B) : STab w' g h wd L := by
  obtain ⟨ws, c, sp, h1, h2, h3, h4, h5, h6, b1, b2⟩ := T
  exact ⟨ws, c, sp, h1, h2, h3, h4, h5, h6, (b.block g hg).trans b1, (b.block h hh).trans b2⟩
theorem RTab.below {w w' : World} {g h wd B : Nat} {L : List Nat} (T : RTab w g h wd L) (b : Below B w w') (hg : g < B) (hh : h < B) : RTab w' g h wd L := by
  obtain ⟨c, sp, h1, h2, h3, h4, h5, h6, h7, b1, b2⟩ := T
  exact ⟨c, sp, h1, h2, h3, h4, h5, h6, h7, (b.block g hg).trans b1, (b.block h hh).trans b2⟩
theorem below_drewN {B : Nat} {a w : World} (h : Below B a w) (n : Nat) : Below B a (w.drewN n) := ⟨h.os, h.tape, h.output, h.size, h.block⟩

set_option maxHeartbeats 1000000 in
theorem runs_any {g h wd : Nat} {L : List Nat} {w : World} (T : STab w g h wd L) (v : Int) :
    Calls Try.prog 33 #[.pointer (some ⟨g, 0, none⟩), .int .i64 v] w (Grows w.heap.size w (runsN (isV L v) L.length)) := by
  have hc := T.cell0
  have hle := T.le
  have HT := hid T
  go_enter Try.func33, Try.ntmps33
  go_wp2_with (first | (go_at_call 42; refine (made_yes T).mono ?_; rintro e w' ⟨rfl, n1, rfl⟩))
  go_loopw [5, 14] (fun s c wr => ∃ k : Nat, k ≤ L.length ∧ c = .int .i64 (k : Int) ∧ wr.ownsRow w.heap.size 62 2 s (runsN (isV L v) k).length (rcells (runsN (isV L v) k)) ∧ Below w.heap.size w wr) (fun _ c _ => L.length - (intOf c).toNat)
  case atStart => exact ⟨0, by omega, rfl, ⟨rfl, .inl ⟨rfl, rfl⟩⟩, below_drewN (Below.refl _ _) _⟩
  case round =>
    obtain ⟨k, hk, rfl, own, hbel⟩ := hrel
    have T1 := T.below hbel T.g_lt T.h_lt
    have hc1 := T1.cell0
    have HO := hid own
    have HB := hid hbel
    clear own hbel T hc
    by_cases hlt : k < L.length
    · by_cases hv : ((ent L k : Nat) : Int) = v
      · have e := runsN_yes (isV_yes hv)
        have HE := hid e
        have hok := runsN_ok (isV L v) k
        have HK := hid hok
        have hv' : (((ent L k : Nat) : Int) == v) = true := by rw [hv]; exact beq_self_eq_true _
        clear e hv hok
        go_wp2_with (first | (go_at_call 48; refine (load_ok T1 k hlt).mono ?_; rintro e w' ⟨rfl, n5, rfl⟩) | (go_at_call 64; refine (extended_any (w := wr.drewN n5) HO.out HB.out.size (by omega) HK.out.1 HK.out.2.1).mono ?_; rintro e w' ⟨v', rfl, own', hbel'⟩; have HO' := hid own'; have HB' := hid hbel'; clear own' hbel'))
        go_roundw
        case rel => exact ⟨k + 1, by omega, by go_num, by rw [HE.out]; exact HO'.out, (below_drewN HB.out n5).trans HB'.out⟩
        case measure => simp [intOf]; omega
      · have e := runsN_no (isV_no hv)
        have HE := hid e
        have hv' : (((ent L k : Nat) : Int) == v) = false := beq_eq_false_iff_ne.2 hv
        clear e hv
        go_wp2_with (first | (go_at_call 48; refine (load_ok T1 k hlt).mono ?_; rintro e w' ⟨rfl, n5, rfl⟩))
        go_roundw
        case rel => exact ⟨k + 1, by omega, by go_num, by rw [HE.out]; exact HO.out, below_drewN HB.out n5⟩
        case measure => simp [intOf]; omega
    · obtain rfl : k = L.length := by omega
      go_wp2
      go_ret
      exact ⟨_, rfl, HO.out, HB.out⟩
end Go.Proofs.Ythhgcjbmnkdgjaa
