/-
  The contract of package heap's Retag. Conditions: those that stand in the theorem.
-/
import Derived.Test.YtplgbpmldjngoaaHs
namespace Go.Proofs.Ytplgbpmldjngoaa
set_option linter.unusedVariables false
set_option linter.unusedSimpArgs false
open Go.RowKit Go.Deep Go.Maps

def HM.retagE (m : HM) (i s : Int) : Int := if blkB m.bl.length i then (if spcB s then (if clmB (m.st i.toNat) then 0 else 5) else 1) else 1
def HM.retagM (m : HM) (i s : Int) : HM := if m.retagE i s = 0 then m.setBl (spaceL m.bl i.toNat s.toNat (grpEnd m.bl i.toNat - i.toNat)) else m
section
variable {w w' : World} {b : HB} {r : RM} {m : HM} {q : Nat}
set_option maxHeartbeats 2000000 in
theorem h_retag (h : SH w b q m) (i s : Int) :
    Calls Try.prog 91 #[.pointer (some ⟨b.g, 0, none⟩), .int .i64 i, .int .i64 s] w fun e w' => e = .returned (.int .i64 (m.retagE i s)) ∧ SH w' b q (m.retagM i s) ∧ Kp b.all w w' := by
  have h0 := h
  have I := h.inv
  obtain ⟨r, R, A, hq1, hq2⟩ := h
  have hbl := A.bl
  rcases hx : blkB m.bl.length i
  · have e0 : m.retagE i s = 1 := by simp [HM.retagE, hx]
    have e1 : m.retagM i s = m := by simp [HM.retagM, e0]
    rw [e0, e1]
    rw [← hbl] at hx
    have HX := hid hx
    clear e0 e1 hx hbl A
    go_enter Try.func91, Try.ntmps91
    go_wp2_with (first | (go_at_call 62; refine (h_made R).mono ?_; rintro e w' ⟨rfl, n1, rfl⟩) | (go_at_call 120; refine (h_canBeUsed (R.drewN _) _).mono ?_; rintro e w' ⟨rfl, n2, rfl⟩; rw [HX.out]))
    go_ret
    exact ⟨rfl, h0.drewN _, (Kp.draw w _).mono (by simp)⟩
  obtain ⟨k, rfl, hk1, hk2⟩ := blkB_nat hx
  have HX : Hid (blkB r.bl.length (k : Int) = true) := by rw [hbl]; exact hx
  have hk2' : k < r.bl.length := by rw [hbl]; exact hk2
  rcases hs : spcB s
  · have e0 : m.retagE (k : Int) s = 1 := by simp [HM.retagE, hx, hs]
    have e1 : m.retagM (k : Int) s = m := by simp [HM.retagM, e0]
    rw [e0, e1]
    have HS := hid hs
    clear e0 e1 hx hbl A hs
    go_enter Try.func91, Try.ntmps91
    go_wp2_with (first | (go_at_call 62; refine (h_made R).mono ?_; rintro e w' ⟨rfl, n1, rfl⟩) | (go_at_call 120; refine (h_canBeUsed (R.drewN _) _).mono ?_; rintro e w' ⟨rfl, n2, rfl⟩; rw [HX.out]) | (go_at_call 135; refine (h_isSpace _ _).mono ?_; rintro e w' ⟨rfl, n3, rfl⟩; rw [HS.out]))
    go_ret
    exact ⟨rfl, h0.drewN _, (Kp.draw w _).mono (by simp)⟩
  obtain ⟨s, rfl⟩ : ∃ y : Nat, s = (y : Int) := ⟨s.toNat, by have := of_decide_eq_true hs; omega⟩
  have HS := hid hs
  have HC : Hid (∀ n, Calls Try.prog 121 #[.pointer (some ⟨b.g, 0, none⟩), .int .i64 (k : Int)] (w.drewN n) fun e w' => e = .returned (.bool (clmB (m.st k))) ∧ ∃ n2, w' = (w.drewN n).drewN n2) := fun n => by
    have := h_isClaimed (R.drewN n) k hk2'
    rw [hbl] at this
    exact this
  rcases hc : clmB (m.st k)
  · have e0 : m.retagE (k : Int) (s : Int) = 5 := by simp [HM.retagE, hx, hs, hc]
    have e1 : m.retagM (k : Int) (s : Int) = m := by simp [HM.retagM, e0]
    rw [e0, e1]
    rw [hc] at HC
    clear e0 e1 hx hbl A hc hs
    go_enter Try.func91, Try.ntmps91
    go_wp2_with (first | (go_at_call 62; refine (h_made R).mono ?_; rintro e w' ⟨rfl, n1, rfl⟩) | (go_at_call 120; refine (h_canBeUsed (R.drewN _) _).mono ?_; rintro e w' ⟨rfl, n2, rfl⟩; rw [HX.out]) | (go_at_call 135; refine (h_isSpace _ _).mono ?_; rintro e w' ⟨rfl, n3, rfl⟩; rw [HS.out]) | (go_at_call 121; refine (HC.out _).mono ?_; rintro e w' ⟨rfl, n3, rfl⟩))
    go_ret
    exact ⟨rfl, h0.drewN _, (Kp.draw w _).mono (by simp)⟩
  have hcs : m.st k = 1 ∨ m.st k = 2 := of_decide_eq_true hc
  rw [hc] at HC
  have e0 : m.retagE (k : Int) (s : Int) = 0 := by simp [HM.retagE, hx, hs, hc]
  have e1 : m.retagM (k : Int) (s : Int) = m.setBl (spaceL m.bl k s (grpEnd m.bl k - k)) := by unfold HM.retagM; rw [e0]; rfl
  rw [e0, e1]
  obtain ⟨g1, g2, g3, g4⟩ := (grpEnd_iff m.bl k _ hk2).1 rfl
  have A2 := A.setBl (spaceL_length m.bl k s (grpEnd m.bl k - k)) (retag_inv I hk1 (by omega) (fun j hj => by
    rcases j with _ | j
    · show m.st k ≠ 0; omega
    · have h3 := g3 (k + (j + 1)) (by omega) (by omega)
      have : m.st (k + (j + 1)) = 3 := h3
      omega))
  have HA2 := hid A2
  have HGP : Hid (∀ W, Raw W b r → Calls Try.prog 122 #[.pointer (some ⟨b.g, 0, none⟩), .int .i64 (k : Int)] W fun e w' => e = .returned (.slice (some ⟨b.hb, k * 2, none⟩) (grpEnd m.bl k - k) (r.cb - k)) ∧ ∃ n, w' = W.drewN n) := fun W RW => by
    have := h_group RW k hk2'
    rw [hbl] at this
    exact this
  have hgl : k + (grpEnd m.bl k - k) ≤ r.bl.length := by rw [hbl]; omega
  have hg64 : grpEnd m.bl k - k ≤ 64 := by have := R.bl64; omega
  have HBL := hid hbl
  have hcb := R.cb1
  have hcm := R.cb2
  unfold maxLen at hcm
  clear e0 e1 hx hbl A hc A2 hcs g1 g2 g3 g4 hs
  generalize hgn : grpEnd m.bl k - k = gn at HGP hgl hg64
  have HGN := hid hgn
  clear hgn
  go_enter Try.func91, Try.ntmps91
  go_wp2_with (first | (go_at_call 62; refine (h_made R).mono ?_; rintro e w' ⟨rfl, n1, rfl⟩) | (go_at_call 120; refine (h_canBeUsed (R.drewN _) _).mono ?_; rintro e w' ⟨rfl, n2, rfl⟩; rw [HX.out]) | (go_at_call 135; refine (h_isSpace _ _).mono ?_; rintro e w' ⟨rfl, n3, rfl⟩; rw [HS.out]) | (go_at_call 121; refine (HC.out _).mono ?_; rintro e w' ⟨rfl, n3, rfl⟩) | (go_at_call 122; refine (HGP.out _ (R.drewN _)).mono ?_; rintro e w' ⟨rfl, n5, rfl⟩))
  go_loopw [30] (fun c wr => ∃ j : Nat, j ≤ gn ∧ c = .int .i64 (j : Int) ∧ Raw wr b { r with bl := spaceL r.bl k s j } ∧ Kp [b.hb] w wr) (fun c _ => gn - (intOf c).toNat)
  case atStart => exact ⟨0, by omega, rfl, R.drewN _, (Kp.draw w _).mono (by simp)⟩
  case round =>
    obtain ⟨j, hj, rfl, R2, K2⟩ := hrel
    by_cases hlt : j < gn
    · have a2 := R2.spc (k := k + j) (by simp; omega)
      have f2 := R2.Bb.frozen (k * 2 + j * 2 + 1)
      rw [show (k + j) * 2 + 1 = k * 2 + j * 2 + 1 by omega] at a2
      generalize (({ r with bl := spaceL r.bl k s j } : RM).bl.getD (k + j) (0, 0)).2 = x2 at a2
      have HR2 := hid R2
      have HK2 := hid K2
      clear R2 K2
      go_wp2
      go_roundw
      case rel =>
        have hB := HR2.out.Bb.set_ (k * 2 + j * 2 + 1) (.int .i64 (s : Int))
        have hBs := bcells_set1 (spaceL r.bl k s j) r.spb (k + j) s (by simp; omega)
        rw [show (k + j) * 2 + 1 = k * 2 + j * 2 + 1 by omega] at hBs
        have hB2 : Blk (wr.setCell ⟨b.hb, k * 2 + j * 2 + 1, none⟩ (.int .i64 (s : Int))) b.hb 104 (bcells (spaceL r.bl k s (j + 1)) ++ r.spb).toArray := by
          show Blk _ _ _ (bcells ((spaceL r.bl k s j).set (k + j) (((spaceL r.bl k s j).getD (k + j) (0, 0)).1, s)) ++ r.spb).toArray
          rw [← hBs]; exact hB
        have KK : Kp [b.hb] wr _ := Kp.cell wr ⟨b.hb, k * 2 + j * 2 + 1, none⟩ (.int .i64 (s : Int))
        exact ⟨j + 1, by omega, by go_num, HR2.out.setB (bl := spaceL r.bl k s (j + 1)) hB2 (by simp) KK, HK2.out.trans KK (by simp) (by simp)⟩
      case measure => simp [intOf]; omega
    · obtain rfl : j = gn := by omega
      have HR2 := hid R2
      have HK2 := hid K2
      clear R2 K2
      go_wp2
      go_ret
      refine ⟨rfl, ⟨_, HR2.out, ?_, hq1, hq2⟩, HK2.out.all b (by simp [HB.all])⟩
      have := HA2.out
      rw [HGN.out] at this
      rw [HBL.out]
      exact this
end
end Go.Proofs.Ytplgbpmldjngoaa
