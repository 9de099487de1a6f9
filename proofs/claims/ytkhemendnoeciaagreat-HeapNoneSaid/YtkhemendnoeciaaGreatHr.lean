/-
  The contracts of package heap's Gaps and Release. Conditions: those that stand in each theorem.
-/
import Derived.Test.YtkhemendnoeciaaGreatHq
namespace Go.Proofs.YtkhemendnoeciaaGreat
set_option linter.unusedVariables false
set_option linter.unusedSimpArgs false
open Go.RowKit Go.Deep Go.Maps

section
variable {w w' : World} {b : HB} {r : RM} {m : HM} {q : Nat}
theorem SH.size_at (h : SH w b q m) {a : Nat} {o : Ob} (ho : m.ob a = some o) :
    Calls Tryz.prog 92 #[.pointer (some ⟨b.g, 0, none⟩), .int .i64 (a : Int)] w fun e w' => e = .returned (.int .i64 (o.wd : Int)) ∧ Kp [] w w' := by
  obtain ⟨r, R, A, _⟩ := h
  have hok := A.inv.ok _ _ ho
  have hhi := A.inv.hi ho
  have hw := hok.wd_bd
  exact h_size R a o.refs o.data o.kind (by rw [A.wl R]; omega) hok.vld (A.w1 ho)
set_option maxHeartbeats 2000000 in
set_option maxRecDepth 100000 in
theorem h_gaps (h : SH w b q m) (i : Int) :
    Calls Tryz.prog 17 #[.pointer (some ⟨b.g, 0, none⟩), .int .i64 i] w (Grows w.heap.size w (m.gapL i)) := by
  have I := h.inv
  have hl64 := I.len64
  by_cases hb : inB m.bl.length i = true ∧ m.st i.toNat = 1
  · obtain ⟨k, rfl⟩ : ∃ k : Nat, i = (k : Int) := ⟨i.toNat, by have := of_decide_eq_true hb.1; omega⟩
    rw [Int.toNat_natCast] at hb
    have hk : k < m.bl.length := by have := of_decide_eq_true hb.1; omega
    have hst : (if inB m.bl.length (k : Int) = true then (m.st ((k : Int).toNat) : Int) else -1) = 1 := by rw [if_pos hb.1, Int.toNat_natCast, hb.2]; rfl
    have hgl : m.gapL (k : Int) = gapAdd (gpN m (m.objL (k : Int)) (64 * k) (m.objL (k : Int)).length).1 (gpN m (m.objL (k : Int)) (64 * k) (m.objL (k : Int)).length).2 (64 * (k + 1)) := by
      unfold HM.gapL
      rw [Int.toNat_natCast, if_pos ⟨hb.1, hb.2⟩]
    rw [hgl]
    have HSTV := hid hst
    have hend := gpN_end I hk hb.2
    have HEND := hid hend
    have hol : (m.objL (k : Int)).length ≤ 32 := by
      simp only [HM.objL, hb.1, if_true]
      exact fpL_le _ _ _
    have hk64 : k ≤ 64 := by omega
    have HBF := hid (fun i (hi : i < (m.objL (k : Int)).length) => gpN_before I hk hi)
    have HOA := hid (fun i (hi : i < (m.objL (k : Int)).length) => objL_at (m := m) (i := i) hk hi)
    have HLE := hid (fun j => gpN_le m (m.objL (k : Int)) (64 * k) j)
    have HSIZ := hid (fun a o (ho : m.ob a = some o) => (⟨I.hi ho, (I.ok _ _ ho).wd_bd⟩ : a + o.wd ≤ m.n ∧ _))
    have hmn : m.n ≤ 4096 := I.n_bd.2
    have HLT := hid h.lt
    generalize hzs : m.objL (k : Int) = zs at HEND HBF HOA HLE hol ⊢
    have HZS := hid hzs
    clear hb hst hgl hend hzs
    go_enter Tryz.func17, Tryz.ntmps17
    go_wp2_with (go_at_call 14; refine (h_state h _).mono ?_; rintro e w' ⟨rfl, n1, rfl⟩; rw [HSTV.out])
    refine (h_objects (h.drewN _) _).mono ?_
    rintro e w3 ⟨v3, rfl, own3, bel3⟩
    rw [HZS.out] at own3
    have hbel : Below w.heap.size w w3 := (below_drewN (Below.refl _ w) n1).trans bel3
    have HB3 := hid hbel
    have HF3 := hid (FarI.of_own own3)
    obtain ⟨A3, cap3, rfl, hc3a, hc3b, _⟩ := FarI.of_own own3
    clear own3 bel3 hbel
    unfold maxLen at hc3b
    go_wp2
    go_loopw [5, 6, 19] (fun s a c wr => ∃ j : Nat, j ≤ zs.length ∧ c = .int .i64 (j : Int) ∧ a = .int .i64 ((gpN m zs (64 * k) j).2 : Int) ∧ wr.ownsRow w3.heap.size 64 2 s (gpN m zs (64 * k) j).1.length (rcells (gpN m zs (64 * k) j).1) ∧ Below w3.heap.size w3 wr) (fun _ _ c _ => zs.length - (intOf c).toNat)
    case atStart => exact ⟨0, by omega, rfl, by show _ = Value.int _ ((64 * k : Nat) : Int); congr 1; omega, ⟨rfl, .inl ⟨rfl, rfl⟩⟩, Below.refl _ _⟩
    case round =>
      obtain ⟨j, hj, rfl, rfl, own, bel⟩ := hrel
      have HO := hid own
      have HBE := hid bel
      have S4 : SH wr b q m := h.below (HB3.out.trans (below_mono bel HB3.out.size)) HLT.out
      have F4 := HF3.out.below bel
      clear own bel
      by_cases hlt : j < zs.length
      · obtain ⟨g, rfl, hg, hcell⟩ := F4.at_ j hlt
        obtain ⟨a, o, ha, ho, ha1, ha2⟩ := HOA.out j hlt
        have hbf := HBF.out j hlt
        have hle := HLE.out j
        obtain ⟨hs1, hs2⟩ := HSIZ.out a o ho
        rw [ha] at hbf hcell
        rw [Int.toNat_natCast] at hbf
        have hstep : gpN m zs (64 * k) (j + 1) = (gapAdd (gpN m zs (64 * k) j).1 (gpN m zs (64 * k) j).2 a, a + o.wd) := by
          show (gapAdd _ _ (zs.getD j 0).toNat, (zs.getD j 0).toNat + m.wdAt (zs.getD j 0).toNat) = _
          rw [ha, Int.toNat_natCast]
          unfold HM.wdAt
          rw [ho]
        have HSTEP := hid hstep
        have HHO := hid ho
        have HS4 := hid S4
        have hw218 : o.wd ≤ 218 := hs2.2.1
        generalize (gpN m zs (64 * k) j).2 = at1 at hbf HSTEP HO ⊢
        generalize (gpN m zs (64 * k) j).1 = rs1 at hle HSTEP HO
        clear F4 ha hs1 hs2 hstep ho S4
        go_wp2_with (first
          | (go_at_call 91; refine (h_withGap HO.out HBE.out.size hbf (by omega) (by omega)).mono ?_; rintro e w5 ⟨v5, rfl, own5, bel5⟩; have HO5 := hid own5; have HB5 := hid bel5; have S5 := hid (HS4.out.below (below_mono bel5 (Nat.le_trans HB3.out.size (Nat.le_refl _))) HLT.out); clear own5 bel5)
          | (go_at_call 92; refine (S5.out.size_at HHO.out).mono ?_; rintro e w6 ⟨rfl, K6⟩; have HK6 := hid K6; clear K6))
        go_roundw
        case rel =>
          have q1 := HSTEP.out
          have q2 := own_kp0 HO5.out HK6.out
          have q3 := HBE.out.trans (HB5.out.trans (HK6.out.below (HBE.out.trans HB5.out).size (by simp)))
          exact ⟨j + 1, by omega, by go_num, by rw [q1]; go_num, by rw [q1]; exact q2, q3⟩
        case measure => simp [intOf]; omega
      · obtain rfl : j = zs.length := by omega
        have hle := HLE.out zs.length
        have hend := HEND.out
        generalize h1 : (gpN m zs (64 * k) zs.length).2 = at1 at hend HO ⊢
        generalize h2 : (gpN m zs (64 * k) zs.length).1 = rs1 at hle HO ⊢
        have HA1 := hid h1
        have HR1 := hid h2
        clear F4 S4 h1 h2
        go_wp2_with (fail)
        rw [show ((k : Int) + 1) * 64 = ((64 * (k + 1) : Nat) : Int) by omega]
        refine (h_withGap HO.out HBE.out.size hend (by omega) (by omega)).mono ?_
        rintro e w5 ⟨v5, rfl, own5, bel5⟩
        have HO5 := hid own5
        have HB5 := hid bel5
        clear own5 bel5
        go_wp2
        go_ret
        rw [HA1.out, HR1.out]
        exact ⟨_, rfl, own_base HO5.out HB3.out.size, HB3.out.trans (below_mono (HBE.out.trans HB5.out) HB3.out.size)⟩
  · have e : m.gapL i = [] := by unfold HM.gapL; rw [if_neg hb]
    rw [e]
    have hst : ((if inB m.bl.length i = true then (m.st i.toNat : Int) else -1) != 1) = true := by
      rw [bne_iff_ne]
      split
      · rename_i h1
        have : ¬ m.st i.toNat = 1 := fun h2 => hb ⟨h1, h2⟩
        omega
      · omega
    generalize hx : (if inB m.bl.length i = true then (m.st i.toNat : Int) else -1) = x at hst
    have HX := hid hx
    clear hb e hx
    go_enter Tryz.func17, Tryz.ntmps17
    go_wp2_with (go_at_call 14; refine (h_state h _).mono ?_; rintro e w' ⟨rfl, n1, rfl⟩; rw [HX.out])
    go_ret
    exact ⟨_, rfl, ⟨rfl, .inl ⟨rfl, rfl⟩⟩, below_drewN (Below.refl _ _) _⟩
end
end Go.Proofs.YtkhemendnoeciaaGreat
