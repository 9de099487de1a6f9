/-
  The contracts of package heap's Objects, All, State, withGap, Gaps, Word, and of the reference's SameRuns. Conditions: those that stand in each theorem.
-/
import Derived.Test.YtkhemendnoeciaaGreatHo
namespace Go.Proofs.YtkhemendnoeciaaGreat
set_option linter.unusedVariables false
set_option linter.unusedSimpArgs false
open Go.RowKit Go.Deep Go.Maps

theorem infoRun : (Tryz.prog.info? 64).map (fun i => (i.zero, i.size, i.bytes)) = some (some (.agg #[.int .i64 0, .int .i64 0]), 2, 16) := by kernel_rfl
def rcells (rs : List (Nat × Nat)) : List Value := rs.flatMap fun r => [.int .i64 (r.1 : Int), .int .i64 (r.2 : Int)]
theorem rcells_length (rs : List (Nat × Nat)) : (rcells rs).length = rs.length * 2 := by
  induction rs with
  | nil => rfl
  | cons r rs ih => simp only [rcells, List.flatMap_cons, List.length_append, List.length_cons, List.length_nil] at ih ⊢; omega
theorem rcells_append (a b : List (Nat × Nat)) : rcells (a ++ b) = rcells a ++ rcells b := by simp [rcells]
/-- A slice of runs of the call's own. -/
def Grows (B : Nat) (w : World) (rs : List (Nat × Nat)) (e : Ending) (w' : World) : Prop :=
  ∃ v', e = .returned v' ∧ w'.ownsRow B 64 2 v' rs.length (rcells rs) ∧ Below B w w'
theorem run_news (w : World) (i z : Int) (n : Nat) : ∀ (j : Nat) (u : Value), ([.int .i64 i, .int .i64 z] : List Value)[j]? = some u → ((w.drewN n).alloc (.cells #[.int .i64 i, .int .i64 z] 64)).cell? ((⟨w.heap.size, 0, none⟩ : Addr).add j) = some u := by
  intro j u hu
  exact blk_read (xs := [.int .i64 i, .int .i64 z]) (sp := []) (Blk.new (w.drewN n) 64 _) j u hu
theorem run_news_one (i z : Int) : ∀ u ∈ ([.int .i64 i, .int .i64 z] : List Value), u.oneCell' = true := by
  intro u hu
  simp at hu
  rcases hu with rfl | rfl <;> rfl
theorem grows_end {B : Nat} {w w1 : World} {rs : List (Nat × Nat)} {i z n k : Nat} {v v' : Value} (hB : B ≤ w.heap.size) (hk : rs.length = k) (own : w.ownsRow B 64 2 v k (rcells rs)) (own' : w1.ownsRow B 64 2 v' (k + 1) (rcells rs ++ [.int .i64 (i : Int), .int .i64 (z : Int)]))
    (g : ((w.drewN n).alloc (.cells #[.int .i64 (i : Int), .int .i64 (z : Int)] 64)).grownBy w1 v.ownBlock) : Grows B w (rs ++ [(i, z)]) (.returned v') w1 := by
  refine ⟨v', rfl, ?_, ?_⟩
  · rw [rcells_append, List.length_append, hk]
    exact own'
  · refine (((Below.refl B w).trans (show Below B w (w.drewN n) from ⟨rfl, rfl, rfl, Nat.le_refl _, fun _ _ => rfl⟩)).alloc hB _).grown g (by simp [World.drewN]; omega) ?_
    intro k hk
    rcases own.2 with ⟨rfl, _⟩ | ⟨g', cap, cur, rfl, hg, _⟩
    · simp [Value.ownBlock] at hk
    · simp [Value.ownBlock] at hk
      omega
/-- A slice of runs that reads as a list. -/
def RunsAt (w : World) (v : Value) (rs : List (Nat × Nat)) : Prop :=
  ∃ A cap, v = .slice A rs.length cap ∧ ∀ i, i < rs.length → ∃ g, A = some ⟨g, 0, none⟩ ∧ w.cell? ⟨g, i * 2, none⟩ = some (.int .i64 ((rs.getD i (0, 0)).1 : Int)) ∧ w.cell? ⟨g, i * 2 + 1, none⟩ = some (.int .i64 ((rs.getD i (0, 0)).2 : Int))
theorem rcells_at (rs : List (Nat × Nat)) (i : Nat) (hi : i < rs.length) : (rcells rs)[i * 2]? = some (.int .i64 ((rs.getD i (0, 0)).1 : Int)) ∧ (rcells rs)[i * 2 + 1]? = some (.int .i64 ((rs.getD i (0, 0)).2 : Int)) := by
  induction rs generalizing i with
  | nil => simp at hi
  | cons r rs ih =>
    have e : rcells (r :: rs) = .int .i64 (r.1 : Int) :: .int .i64 (r.2 : Int) :: rcells rs := rfl
    rcases i with _ | i
    · rw [e]; exact ⟨rfl, rfl⟩
    · have h := ih i (by simpa using hi)
      rw [e]
      have e1 : (i + 1) * 2 = i * 2 + 1 + 1 := by omega
      rw [e1]
      simp only [List.getElem?_cons_succ, List.getD_cons_succ]
      exact h
theorem RunsAt.of_own {w : World} {B : Nat} {v : Value} {rs : List (Nat × Nat)} (own : w.ownsRow B 64 2 v rs.length (rcells rs)) : RunsAt w v rs := by
  rcases own.2 with ⟨rfl, h0⟩ | ⟨g, cap, cur, rfl, _⟩
  · exact ⟨none, 0, by rw [h0], fun i hi => by omega⟩
  · refine ⟨_, cap, rfl, fun i hi => ⟨g, rfl, ?_⟩⟩
    have h := rcells_at rs i hi
    rw [own.cellAt _ (by omega), own.cellAt _ (by omega)]
    exact h
set_option maxHeartbeats 1000000 in
theorem sameRuns_yes {w : World} {v v' : Value} {rs : List (Nat × Nat)} (h : RunsAt w v rs) (h' : RunsAt w v' rs) (hl : rs.length ≤ 4096) :
    Calls Tryz.prog 31 #[v, v'] w fun e w' => e = .returned (.bool true) ∧ ∃ m, w' = w.drewN m := by
  obtain ⟨A, cap, rfl, hA⟩ := h
  obtain ⟨A', cap', rfl, hA'⟩ := h'
  have HA := hid hA
  have HA' := hid hA'
  clear hA hA'
  go_enter Tryz.func31, Tryz.ntmps31
  go_wp2
  go_loopw [5] (fun c wr => ∃ k n : Nat, k ≤ rs.length ∧ c = .int .i64 (k : Int) ∧ wr = w.drewN n) (fun c _ => rs.length - (intOf c).toNat)
  case atStart => exact ⟨0, 0, by omega, rfl, rfl⟩
  case round =>
    obtain ⟨k, n, hk, rfl, rfl⟩ := hrel
    by_cases hlt : k < rs.length
    · obtain ⟨g, rfl, c0, c1⟩ := HA.out k hlt
      obtain ⟨g', rfl, d0, d1⟩ := HA'.out k hlt
      clear HA HA'
      go_wp2
      go_quiet (fail)
      go_wp2
      go_roundw
      case rel => exact ⟨k + 1, _, by omega, by go_num, rfl⟩
      case measure => simp [intOf]; omega
    · obtain rfl : k = rs.length := by omega
      go_wp2
      go_ret
      exact ⟨rfl, _, rfl⟩
section
variable {w w' : World} {b : HB} {r : RM} {m : HM} {q : Nat}
def HM.objL (m : HM) (i : Int) : List Int := if inB m.bl.length i then fpL m (i.toNat * 32) 32 else []
theorem h_state (h : SH w b q m) (i : Int) :
    Calls Tryz.prog 14 #[.pointer (some ⟨b.g, 0, none⟩), .int .i64 i] w fun e w' => e = .returned (.int .i64 (if inB m.bl.length i then (m.st i.toNat : Int) else -1)) ∧ ∃ n, w' = w.drewN n := by
  obtain ⟨r, R, A, _⟩ := h
  have hbl := A.bl
  rcases hb : inB m.bl.length i
  · rw [if_neg (by decide)]
    have HB : Hid (inB r.bl.length i = false) := by rw [hbl]; exact hb
    clear hb
    go_enter Tryz.func14, Tryz.ntmps14
    go_wp2_with (first | (go_at_call 33; refine (h_made R).mono ?_; rintro e w' ⟨rfl, n1, rfl⟩) | (go_at_call 88; refine (h_hasBlock (R.drewN _) _).mono ?_; rintro e w' ⟨rfl, n2, rfl⟩; rw [HB.out]))
    go_ret
    exact ⟨rfl, _, rfl⟩
  · rw [if_pos rfl]
    have h0 := of_decide_eq_true hb
    obtain ⟨k, rfl⟩ : ∃ k : Nat, i = (k : Int) := ⟨i.toNat, by omega⟩
    have HB : Hid (inB r.bl.length (k : Int) = true) := by rw [hbl]; exact hb
    have hk : k < r.bl.length := by rw [hbl]; omega
    have hc := R.c0
    have hs := R.stc hk
    have hl := R.bl64
    rw [hbl] at hs
    have e : ((m.st ((k : Int).toNat) : Nat) : Int) = (((m.bl.getD k (0, 0)).1 : Nat) : Int) := rfl
    rw [e]
    generalize (m.bl.getD k (0, 0)).1 = x at hs ⊢
    clear hb h0 e hbl
    go_enter Tryz.func14, Tryz.ntmps14
    go_wp2_with (first | (go_at_call 33; refine (h_made R).mono ?_; rintro e w' ⟨rfl, n1, rfl⟩) | (go_at_call 88; refine (h_hasBlock (R.drewN _) _).mono ?_; rintro e w' ⟨rfl, n2, rfl⟩; rw [HB.out]))
    go_ret
    exact ⟨rfl, _, rfl⟩
theorem h_objects (h : SH w b q m) (i : Int) :
    Calls Tryz.prog 66 #[.pointer (some ⟨b.g, 0, none⟩), .int .i64 i] w (RowP w.heap.size w (m.objL i)) := by
  have hl := h.inv.len64
  have hst := h
  obtain ⟨r, R, A, _⟩ := h
  have hbl := A.bl
  rcases hb : inB m.bl.length i
  · have e : m.objL i = [] := by simp [HM.objL, hb]
    rw [e]
    have HB : Hid (inB r.bl.length i = false) := by rw [hbl]; exact hb
    clear hb e
    go_enter Tryz.func66, Tryz.ntmps66
    go_wp2_with (first | (go_at_call 33; refine (h_made R).mono ?_; rintro e w' ⟨rfl, n1, rfl⟩) | (go_at_call 88; refine (h_hasBlock (R.drewN _) _).mono ?_; rintro e w' ⟨rfl, n2, rfl⟩; rw [HB.out]))
    go_ret
    exact ⟨_, rfl, ⟨rfl, .inl ⟨rfl, rfl⟩⟩, below_drewN (Below.refl _ _) _⟩
  · have h0 := of_decide_eq_true hb
    obtain ⟨k, rfl⟩ : ∃ k : Nat, i = (k : Int) := ⟨i.toNat, by omega⟩
    have e : m.objL (k : Int) = fpL m (k * 32) 32 := by simp [HM.objL, hb]
    rw [e]
    have HB : Hid (inB r.bl.length (k : Int) = true) := by rw [hbl]; exact hb
    have hk : k ≤ 64 := by omega
    have HFP : Hid (∀ n, Calls Tryz.prog 89 #[.pointer (some ⟨b.g, 0, none⟩), .int .i64 ((k : Int) * 32), .int .i64 (((k : Int) + 1) * 32)] (w.drewN n) (RowP w.heap.size w (fpL m (k * 32) 32))) := fun n => by
      have := h_first (hst.drewN n) (k * 32) 32 (by omega)
      rw [show (((k * 32 : Nat) : Int)) = (k : Int) * 32 by omega, show ((k : Int) * 32 + ((32 : Nat) : Int)) = ((k : Int) + 1) * 32 by omega] at this
      refine this.mono ?_
      rintro e w' ⟨v, h1, h2, h3⟩
      exact ⟨v, h1, h2, (below_drewN (Below.refl _ w) n).trans h3⟩
    clear hb e h0
    go_enter Tryz.func66, Tryz.ntmps66
    go_wp2_with (first | (go_at_call 33; refine (h_made R).mono ?_; rintro e w' ⟨rfl, n1, rfl⟩) | (go_at_call 88; refine (h_hasBlock (R.drewN _) _).mono ?_; rintro e w' ⟨rfl, n2, rfl⟩; rw [HB.out]) | (go_at_call 89; refine (HFP.out _).mono ?_; rintro e w3 ⟨v3, rfl, own, bel⟩; have HO := hid own; have HBE := hid bel; clear own bel))
    go_ret
    exact ⟨_, rfl, HO.out, HBE.out⟩
def HM.allL (m : HM) : List Int := fpL m 0 (32 * m.bl.length)
theorem h_all (h : SH w b q m) :
    Calls Tryz.prog 16 #[.pointer (some ⟨b.g, 0, none⟩)] w (RowP w.heap.size w m.allL) := by
  have hl := h.inv.len64
  have hst := h
  obtain ⟨r, R, A, _⟩ := h
  have hbl := A.bl
  have hpl := R.pl
  have hc2 := R.c2
  have HPL : Hid ((r.ps.length : Int) = 0 + ((32 * m.bl.length : Nat) : Int)) := by show _ = _; rw [← hbl]; omega
  have HFP : Hid (∀ n, Calls Tryz.prog 89 #[.pointer (some ⟨b.g, 0, none⟩), .int .i64 0, .int .i64 (r.ps.length : Int)] (w.drewN n) (RowP w.heap.size w m.allL)) := fun n => by
    have := h_first (hst.drewN n) 0 (32 * m.bl.length) (by omega)
    rw [HPL.out]
    refine this.mono ?_
    rintro e w' ⟨v, h1, h2, h3⟩
    exact ⟨v, h1, h2, (below_drewN (Below.refl _ w) n).trans h3⟩
  clear hpl hbl
  go_enter Tryz.func16, Tryz.ntmps16
  go_wp2_with (first | (go_at_call 33; refine (h_made R).mono ?_; rintro e w' ⟨rfl, n1, rfl⟩) | (go_at_call 90; refine (entries_any (R.drewN _).TP).mono ?_; rintro e w' ⟨rfl, n2, rfl⟩) | (go_at_call 89; refine (HFP.out _).mono ?_; rintro e w3 ⟨v3, rfl, own, bel⟩; have HO := hid own; have HBE := hid bel; clear own bel))
  go_ret
  exact ⟨_, rfl, HO.out, HBE.out⟩
def HM.wordV (m : HM) (a : Int) : Int := if inB m.n a then (match m.ob (m.own a.toNat) with | some o => o.word (a.toNat - m.own a.toNat) | none => 0) else 0
theorem h_word (h : SH w b q m) (a : Int) :
    Calls Tryz.prog 24 #[.pointer (some ⟨b.g, 0, none⟩), .int .i64 a] w fun e w' => e = .returned (.tuple #[.int .i64 (m.wordV a), .int .i64 (if inB m.n a then 0 else 1)]) ∧ ∃ n, w' = w.drewN n := by
  have hnb := h.inv.n_bd
  obtain ⟨r, R, A, _⟩ := h
  have hwl := A.wl R
  rcases hb : inB m.n a
  · have e : m.wordV a = 0 := by simp [HM.wordV, hb]
    rw [e, if_neg (by decide)]
    have HB : Hid (inB r.ws.length a = false) := by rw [hwl]; exact hb
    clear hb e hwl
    go_enter Tryz.func24, Tryz.ntmps24
    go_wp2_with (first | (go_at_call 33; refine (h_made R).mono ?_; rintro e w' ⟨rfl, n1, rfl⟩) | (go_at_call 100; refine (h_hasWord (R.drewN _) _).mono ?_; rintro e w' ⟨rfl, n2, rfl⟩; rw [HB.out]))
    go_ret2
    exact ⟨rfl, _, rfl⟩
  · have h0 := of_decide_eq_true hb
    obtain ⟨k, rfl⟩ : ∃ k : Nat, a = (k : Int) := ⟨a.toNat, by omega⟩
    have hk : k < r.ws.length := by rw [hwl]; omega
    have e : m.wordV (k : Int) = r.ws.getD k 0 := by
      unfold HM.wordV
      rw [hb, if_pos rfl, Int.toNat_natCast]
      rcases own_cases A.inv k with ⟨a0, o, h0, h1, h2, h3⟩ | ⟨h1, h2⟩
      · rw [h3, h0]
        have := A.rep.w_ob _ _ h0 (k - a0) (by omega)
        rw [show a0 + (k - a0) = k by omega] at this
        exact this.symm
      · have := A.rep.w_gap k h1
        rw [this, h2]
        rcases hz : m.ob 0 with _ | o
        · rfl
        · have := A.inv.lo hz
          omega
    rw [e, if_pos rfl]
    have HB : Hid (inB r.ws.length (k : Int) = true) := by rw [hwl]; exact hb
    have hc := R.c1
    have hs := R.word hk
    have hl : r.ws.length ≤ 4096 := by omega
    generalize r.ws.getD k 0 = x at hs ⊢
    clear hb e hwl h0
    go_enter Tryz.func24, Tryz.ntmps24
    go_wp2_with (first | (go_at_call 33; refine (h_made R).mono ?_; rintro e w' ⟨rfl, n1, rfl⟩) | (go_at_call 100; refine (h_hasWord (R.drewN _) _).mono ?_; rintro e w' ⟨rfl, n2, rfl⟩; rw [HB.out]))
    go_ret2
    exact ⟨rfl, _, rfl⟩
end
end Go.Proofs.YtkhemendnoeciaaGreat
