/-
  The law HeapApart, walked. Conditions: those that stand in each theorem.
-/
import Derived.Test.YtplgbpmldjngoaaIs
import Derived.Test.YtplgbpmldjngoaaIr
import Derived.Test.YtplgbpmldjngoaaHr
namespace Go.Proofs.Ytplgbpmldjngoaa
set_option linter.unusedVariables false
set_option linter.unusedSimpArgs false
open Go.RowKit Go.Deep Go.Maps

def HM.stI (m : HM) (i : Int) : Int := if inB m.bl.length i = true then (m.st i.toNat : Int) else -1
theorem stI_of {m : HM} {k : Nat} (hk : k < m.bl.length) : m.stI (k : Int) = (m.st k : Int) := by
  unfold HM.stI
  rw [if_pos (show inB m.bl.length (k : Int) = true from decide_eq_true ⟨by omega, by omega⟩), Int.toNat_natCast]
theorem RunsAt.kp0 {w W : World} {v : Value} {rs : List (Nat × Nat)} (h : RunsAt w v rs) (k : Kp [] w W) : RunsAt W v rs := by
  obtain ⟨A, cap, rfl, hA⟩ := h
  exact ⟨A, cap, rfl, fun i hi => by obtain ⟨g, e, c0, c1⟩ := hA i hi; exact ⟨g, e, cell_kp k c0, cell_kp k c1⟩⟩
section
variable {w W : World} {b : HB} {m : HM} {q : Nat}
theorem st_k (h : SH w b q m) (K : Kp [] w W) (i : Int) : Calls Try.prog 18 #[.pointer (some ⟨b.g, 0, none⟩), .int .i64 i] W fun e w' => e = .returned (.int .i64 (m.stI i)) ∧ ∃ n, w' = W.drewN n := by
  refine (h_state (h.kp0 K) i).mono ?_
  rintro e w' ⟨rfl, n, rfl⟩
  exact ⟨rfl, n, rfl⟩
theorem h_words_ob (h : SH w b q m) {a : Nat} {o : Ob} (ho : m.ob a = some o) :
    Calls Try.prog 17 #[.pointer (some ⟨b.g, 0, none⟩), .int .i64 (a : Int)] w fun e w' => e = .returned (.int .i64 (o.wd : Int)) ∧ Kp [] w w' := by
  have hok := h.inv.ok _ _ ho
  have HOWD : Hid (wordsI (o.refs : Int) (o.data : Int) (o.kind : Int) = (o.wd : Int)) := by
    show _ = _
    unfold wordsI
    rw [if_pos hok.vld, Int.toNat_natCast, Int.toNat_natCast]
    rfl
  have HO := hid ho
  have HH := hid h
  clear hok ho h
  go_enter Try.func17, Try.ntmps17
  go_wp2_with (first
    | (go_at_call 26; refine (h_shape_ob HH.out HO.out).mono ?_; rintro e w1 ⟨rfl, K1⟩; have HK1 := hid K1; have hb := Blk.new w1 46 #[.int .i64 (o.refs : Int), .int .i64 (o.data : Int), .int .i64 (o.kind : Int)]; have s0 := hb.cell 0; have s1 := hb.cell 1; have s2 := hb.cell 2; clear hb K1)
    | (go_at_call 27; refine (h_words _ _ _ _).mono ?_; rintro e w2 ⟨rfl, K2⟩; rw [HOWD.out]; have HK2 : Hid (Kp [] w w2) := ((HK1.out.chain (Kp.new _ _)).chain K2); clear K2))
  go_ret
  exact ⟨rfl, HK2.out⟩
end
section
variable {w : World}
set_option maxRecDepth 100000 in
set_option maxHeartbeats 4000000 in
theorem apart_ok (n : Int) (A : Option Addr) (len cap : Nat) (hA : ActsAt w A len) :
    Calls Try.prog 3 #[.int .i64 n, .slice A len cap] w (TrueP w) := by
  have HA := hid hA
  clear hA
  go_enter Try.func3, Try.ntmps3
  go_wp2_with (fail)
  refine (h_made_any n A len cap HA.out).mono ?_
  rintro e w2 ⟨K2, rfl | ⟨b, m, q, rfl, S2, hq, N2⟩⟩
  · have HK := hid K2
    clear K2
    go_wp2_with (go_at_call 14; refine (alive_ok _).mono ?_; rintro e w3 ⟨rfl, K3⟩; have HK3 := hid (HK.out.chain K3); clear K3)
    go_ret
    exact ⟨rfl, HK3.out⟩
  · have HK := hid K2
    have HS := hid S2
    have I := S2.inv
    have hal := all_le I
    have HI := hid I
    have hn2 := I.n_bd
    have hl64 := I.len64
    obtain ⟨N, hN⟩ : ∃ N, N = m.n := ⟨_, rfl⟩
    have HNN := hid hN
    have HNB : Hid (N = 64 * m.bl.length) := hN
    have HBN : Hid ((m.bl.length : Int) * 64 = (N : Int)) := by show _ = _; rw [hN]; unfold HM.n; omega
    rw [← hN] at hn2
    have hmk : ∀ W : World, (Instr.makeSlice 26 (.int .i64 (N : Int)) (.int .i64 (N : Int))).run Try.prog W = .ok (.slice (some ⟨W.heap.size, 0, none⟩) N N) (W.alloc (.cells (madeCells #[.int .i64 0] N) 3)) := fun W =>
      run_make_row' (P := Try.prog) 26 3 (.int .i64 0) 8 Try.underlying26 infoInt rfl .i64 .i64 N (by omega) (by omega) W
    rw [← HBN.out] at hmk
    have HML : Hid (madeCells #[.int .i64 0] N = (zcells (m.gl m.vO (m.nxt 0) 0) ++ []).toArray) := by
      show _ = _
      apply Array.toList_inj.1
      rw [toList_madeCells_one, gl_first I, ← hN]
      simp [zcells]
    have HV0 : Hid (∀ k, m.own k = 0 → m.vO k = 0) := fun k hk => by unfold HM.vO; rw [hk]; rfl
    have HNF := hid (nO_first I)
    clear K2 S2 N2 I hN
    go_wp2_with (go_at_call 15; refine (h_blocks HS.out).mono ?_; rintro e w' ⟨rfl, n1, rfl⟩)
    have HBW0 : Hid (Blk ((w2.drewN n1).alloc (.cells (madeCells #[.int .i64 0] N) 3)) w2.heap.size 3 (zcells (m.gl m.vO (m.nxt 0) 0) ++ []).toArray) := by
      show Blk _ _ _ _
      rw [← HML.out]
      exact Blk.new (w2.drewN n1) 3 _
    have HK0 : Hid (Kp [] w2 ((w2.drewN n1).alloc (.cells (madeCells #[.int .i64 0] N) 3))) := (Kp.draw w2 n1).chain (Kp.new _ _)
    clear hmk
    refine (h_all (HS.out.kp0 HK0.out)).mono ?_
    rintro e w3 ⟨v3, rfl, own3, bel3⟩
    have HF3 := hid (FarI.of_own own3)
    obtain ⟨A3, cap3, rfl, hc3a, hc3b, _⟩ := FarI.of_own own3
    unfold maxLen at hc3b
    have hK3 := HK0.out.chain (Kp.of_below bel3)
    have HK3 := hid (HK.out.chain hK3)
    have HS3 := hid (HS.out.kp0 hK3)
    have HBW3 : Hid (Blk w3 w2.heap.size 3 (zcells (m.gl m.vO (m.nxt 0) 0) ++ []).toArray) := HBW0.out.kp (Kp.of_below bel3) (by simp)
    have HGB : Hid (∀ x ∈ b.all, x ≠ w2.heap.size) := fun x hx => by have := HS.out.lt x hx; omega
    have HGA : Hid (∀ i, i < m.allL.length → ∃ g, A3 = some ⟨g, 0, none⟩ ∧ g ≠ w2.heap.size ∧ w3.cell? ⟨g, i, none⟩ = some (.int .i64 (m.allL.getD i 0))) := fun i hi => by
      obtain ⟨g, e1, e2, e3⟩ := HF3.out.at_ i hi
      simp at e2
      exact ⟨g, e1, by omega, e3⟩
    have HGW : Hid (w.heap.size ≤ w2.heap.size) := HK.out.size
    clear own3 bel3 hK3 HK0 HBW0 HML HF3
    go_wp2
    go_loopw [8, 9] (fun u c wr => ∃ j : Nat, j ≤ m.allL.length ∧ c = .int .i64 (j : Int) ∧ u = .int .i64 ((m.nO (m.nxt j) 0 : Nat) : Int) ∧ Blk wr w2.heap.size 3 (zcells (m.gl m.vO (m.nxt j) 0) ++ []).toArray ∧ Kp [w2.heap.size] w3 wr) (fun _ c _ => m.allL.length - (intOf c).toNat)
    case atStart => exact ⟨0, by omega, rfl, by rw [HNF.out]; rfl, HBW3.out, Kp.refl _ _⟩
    case round =>
      obtain ⟨j, hj, rfl, rfl, bw, kp⟩ := hrel
      have HKP := hid kp
      have HBW := hid bw
      have HS4 := hid (HS3.out.kp kp (fun y hy => by have := HGB.out y hy; simpa using this))
      by_cases hlt : j < m.allL.length
      · obtain ⟨g, rfl, hg, hcell0⟩ := HGA.out j hlt
        obtain ⟨t, o, ht, ho⟩ := all_at hlt
        rw [ht] at hcell0
        have hcell : wr.cell? ⟨g, j, none⟩ = some (.int .i64 (t : Int)) := by
          rw [World.cell?_of_block (kp.block g (cell_lt hcell0) (by simpa using hg))]
          exact hcell0
        have hok := HI.out.ok _ _ ho
        have hwd := hok.wd_bd
        have hhi := HI.out.hi ho
        have hlo := HI.out.lo ho
        rw [← HNN.out] at hhi
        have hnn := nO_next HI.out hlt ht ho
        have HNX := hid hnn
        have hle1 : m.nO (m.nxt j) 0 ≤ 4096 := by have := cntN_le (fun k => decide (m.cc (m.nxt j) 0 k)) m.n; have h2 := HI.out.n_bd.2; unfold HM.nO; omega
        obtain ⟨u0, hu0⟩ : ∃ u0, u0 = m.nO (m.nxt j) 0 := ⟨_, rfl⟩
        rw [← hu0] at HNX hle1 ⊢
        have HOB := hid ho
        have HOK := hid hok
        have HT := hid ht
        have hne := hid hg
        clear kp bw ht ho hok hcell0 HBW3 hg hnn hu0
        go_wp2_with (go_at_call 17; refine (h_words_ob HS4.out HOB.out).mono ?_; rintro e w5 ⟨rfl, K5⟩; have HK5 := hid K5; have hcell5 : w5.cell? ⟨g, j, none⟩ = some (.int .i64 (t : Int)) := cell_kp K5 hcell; have HC5 := hid hcell5; clear K5)
        have HB5 : Hid (Blk w5 w2.heap.size 3 (zcells (m.gl m.vO t 0) ++ []).toArray) := by
          have := HBW.out.kp HK5.out (by simp)
          rw [nxt_at hlt HT.out] at this
          exact this
        go_loopw [11] (fun c wr2 => ∃ k : Nat, k ≤ o.wd ∧ c = .int .i64 ((t : Int) + (k : Int)) ∧ Blk wr2 w2.heap.size 3 (zcells (m.gl m.vO t k) ++ []).toArray ∧ Kp [w2.heap.size] w5 wr2) (fun c _ => t + o.wd - (intOf c).toNat)
        case atStart => exact ⟨0, by omega, by simp, HB5.out, Kp.refl _ _⟩
        case round =>
          clear hcell5
          obtain ⟨k, hk, rfl, bw, kp⟩ := hrel
          have HKP2 := hid kp
          have HBW2 := hid bw
          have t0 := cell_kps kp HC5.out (by simpa using hne.out)
          by_cases hkl : k < o.wd
          · have hki : (t : Int) + (k : Int) < (t : Int) + (o.wd : Int) := by omega
            have tw : wr.cell? ⟨w2.heap.size, t + k, none⟩ = some (.int .i64 0) := by
              have := (bw.cell (t + k)).trans (zcells_get (sp := []) (by simp; rw [← HNN.out]; omega))
              rw [gl_get _ _ _ _ _ (by rw [← HNN.out]; omega), if_neg (cc_not HI.out HOB.out hkl)] at this
              exact this
            have tf := bw.frozen (t + k)
            have hti : (t : Int) + (k : Int) < (N : Int) := by omega
            have hB3 := bw.set_ (t + k) (.int .i64 (t : Int))
            have hv : (t : Int) = m.vO (t + k) := by unfold HM.vO; rw [own_cov HI.out HOB.out (by omega) (by omega)]
            rw [zset (by simp; rw [← HNN.out]; omega), hv, gl_step HI.out HOB.out hkl, ← hv] at hB3
            have t0' : (wr.setCell ⟨w2.heap.size, t + k, none⟩ (.int .i64 (t : Int))).cell? ⟨g, j, none⟩ = some (.int .i64 (t : Int)) := cell_kps (Kp.cell wr ⟨w2.heap.size, t + k, none⟩ _) t0 (by simpa using hne.out)
            have HB3 := hid hB3
            have HK3' : Hid (Kp [w2.heap.size] w5 (wr.setCell ⟨w2.heap.size, t + k, none⟩ (.int .i64 (t : Int)))) := HKP2.out.trans (Kp.cell _ ⟨w2.heap.size, t + k, none⟩ _) (fun x hx => .inl hx) (fun x hx => .inl hx)
            clear hv hB3 bw kp
            go_wp2
            go_roundw
            case rel => exact ⟨k + 1, by omega, by go_num, HB3.out, HK3'.out⟩
            case measure => simp [intOf]; omega
          · obtain ⟨z, rfl⟩ : ∃ z, z = k := ⟨_, rfl⟩
            have hze : z = o.wd := by omega
            subst hze
            have HS6 := hid ((HS4.out.kp0 HK5.out).kp HKP2.out (fun y hy => by have := HGB.out y hy; simpa using this))
            obtain ⟨bb, hbb⟩ : ∃ bb : Nat, (t : Int) / 64 = (bb : Int) := ⟨t / 64, by omega⟩
            obtain ⟨lb, hlb⟩ : ∃ lb : Nat, ((t : Int) + (o.wd : Int) - 1) / 64 = (lb : Int) := ⟨(t + o.wd - 1) / 64, by omega⟩
            have hbN : bb = t / 64 := by omega
            have hlN : lb = (t + o.wd - 1) / 64 := by omega
            have hbl1 : bb ≤ lb := by omega
            have hlm : lb < m.bl.length := by have := HNB.out; omega
            have HBL : Hid (bb = t / 64 ∧ lb = (t + o.wd - 1) / 64) := ⟨hbN, hlN⟩
            have HTAIL : Hid (∀ c, bb + 1 ≤ c → c ≤ lb → m.stI (c : Int) = 3) := fun c h1 h2 => by
              rw [stI_of (by omega)]
              by_cases h32 : o.wd ≤ 32
              · have := (lie_small HI.out HOB.out h32).2; omega
              · have := (lie_large HI.out HOB.out h32).2.2 c (by omega) (by omega)
                rw [this]; rfl
            have HBB : Hid (Blk wr w2.heap.size 3 (zcells (m.gl m.vO (m.nxt (j + 1)) 0) ++ []).toArray) := by
              have := gl_next (V := m.vO) HI.out hlt HT.out HOB.out (Nat.le_refl o.wd) (fun x h1 h2 => by omega)
              rw [← this]
              exact bw
            clear bw kp hbN hlN hk hkl
            obtain ⟨wq, hwq⟩ : ∃ x, x = wr := ⟨_, rfl⟩
            subst hwq
            by_cases h32 : o.wd ≤ 32
            · have HST : Hid (m.stI (bb : Int) = 1) := by
                show _ = _
                rw [stI_of (by omega), show bb = t / 64 from HBL.out.1, (lie_small HI.out HOB.out h32).1]; rfl
              have hsm := (lie_small HI.out HOB.out h32).2
              have hble : lb = bb := by have := HBL.out; omega
              have hli : (o.wd : Int) ≤ 32 := by omega
              have hd1 : decide ((o.wd : Int) ≤ 32) = true := decide_eq_true hli
              have hq1 : ((lb : Int) != (bb : Int)) = false := by rw [hble]; simp
              have hq2 : ((lb : Int) == (bb : Int)) = true := by rw [hble]; simp
              clear hsm hble
              go_wp2_with (go_at_call 18; refine (st_k HS6.out (by first | exact Kp.refl _ _ | exact Kp.draw _ _) _).mono ?_; rintro e w' ⟨rfl, n4, rfl⟩; rw [HST.out])
              go_loopw [14] (fun c wr2 => ∃ z : Nat, bb + 1 ≤ z ∧ z ≤ lb + 1 ∧ c = .int .i64 (z : Int) ∧ Kp [] wq wr2) (fun c _ => lb + 1 - (intOf c).toNat)
              case atStart => exact ⟨bb + 1, by omega, by omega, by go_num, by first | exact Kp.refl _ _ | exact Kp.draw _ _⟩
              case round =>
                obtain ⟨z, hz1, hz2, rfl, k7⟩ := hrel
                have HK7 := hid k7
                by_cases hzl : z ≤ lb
                · have HST3 := hid (HTAIL.out z hz1 hzl)
                  have HS7 := hid (HS6.out.kp0 k7)
                  clear k7
                  go_wp2_with (go_at_call 18; refine (st_k HS7.out (Kp.refl _ _) _).mono ?_; rintro e w' ⟨rfl, n5, rfl⟩; rw [HST3.out])
                  go_roundw
                  case rel =>
                    have HF : ∃ z' : Nat, bb + 1 ≤ z' ∧ z' ≤ lb + 1 ∧ (Value.int .i64 ((z : Int) + 1)) = .int .i64 (z' : Int) ∧ Kp [] wq (wr.drewN n5) := ⟨z + 1, by omega, by omega, by go_num, HK7.out.drewN _⟩
                    first | exact HF | ((repeat apply Exists.intro); exact ⟨HF, rfl⟩)
                  case measure => simp [intOf]; omega
                · obtain ⟨y, rfl⟩ : ∃ y, y = z := ⟨_, rfl⟩
                  clear k7
                  go_wp2
                  go_roundw
                  case rel => exact ⟨j + 1, by omega, by go_num, by rw [HNX.out]; go_num, HBB.out.kp HK7.out (by simp), ((HKP.out.trans HK5.out (U := [w2.heap.size]) (fun x hx => .inl hx) (by simp)).trans HKP2.out (fun x hx => .inl hx) (fun x hx => .inl hx)).trans HK7.out (fun x hx => .inl hx) (by simp)⟩
                  case measure => simp [intOf]; omega
            · obtain ⟨q1, q2, q3⟩ := lie_large HI.out HOB.out h32
              have HST : Hid (m.stI (bb : Int) = 2) := by
                show _ = _
                rw [stI_of (by omega), show bb = t / 64 from HBL.out.1, q1]; rfl
              have hli : (32 : Int) < (o.wd : Int) := by omega
              have hd1 : decide ((o.wd : Int) ≤ 32) = false := decide_eq_false (by omega)
              have hd2 : decide ((32 : Int) < (o.wd : Int)) = true := decide_eq_true hli
              have hmod : (t : Int) % 64 = 0 := by omega
              clear q1 q2 q3
              go_wp2_with (go_at_call 18; refine (st_k HS6.out (by first | exact Kp.refl _ _ | exact Kp.draw _ _) _).mono ?_; rintro e w' ⟨rfl, n4, rfl⟩; rw [HST.out])
              rw [hmod]
              clear hmod
              go_loopw [14] (fun c wr2 => ∃ z : Nat, bb + 1 ≤ z ∧ z ≤ lb + 1 ∧ c = .int .i64 (z : Int) ∧ Kp [] wq wr2) (fun c _ => lb + 1 - (intOf c).toNat)
              case atStart => exact ⟨bb + 1, by omega, by omega, by go_num, by first | exact Kp.refl _ _ | exact Kp.draw _ _⟩
              case round =>
                obtain ⟨z, hz1, hz2, rfl, k7⟩ := hrel
                have HK7 := hid k7
                by_cases hzl : z ≤ lb
                · have HST3 := hid (HTAIL.out z hz1 hzl)
                  have HS7 := hid (HS6.out.kp0 k7)
                  clear k7
                  go_wp2_with (go_at_call 18; refine (st_k HS7.out (Kp.refl _ _) _).mono ?_; rintro e w' ⟨rfl, n5, rfl⟩; rw [HST3.out])
                  go_roundw
                  case rel =>
                    have HF : ∃ z' : Nat, bb + 1 ≤ z' ∧ z' ≤ lb + 1 ∧ (Value.int .i64 ((z : Int) + 1)) = .int .i64 (z' : Int) ∧ Kp [] wq (wr.drewN n5) := ⟨z + 1, by omega, by omega, by go_num, HK7.out.drewN _⟩
                    first | exact HF | ((repeat apply Exists.intro); exact ⟨HF, rfl⟩)
                  case measure => simp [intOf]; omega
                · obtain ⟨y, rfl⟩ : ∃ y, y = z := ⟨_, rfl⟩
                  clear k7
                  go_wp2
                  go_roundw
                  case rel => exact ⟨j + 1, by omega, by go_num, by rw [HNX.out]; go_num, HBB.out.kp HK7.out (by simp), ((HKP.out.trans HK5.out (U := [w2.heap.size]) (fun x hx => .inl hx) (by simp)).trans HKP2.out (fun x hx => .inl hx) (fun x hx => .inl hx)).trans HK7.out (fun x hx => .inl hx) (by simp)⟩
                  case measure => simp [intOf]; omega
      · obtain rfl : j = m.allL.length := by omega
        clear kp bw
        have HUV := hid (nO_used HI.out)
        have hle1 : m.nO (m.nxt m.allL.length) 0 ≤ 4096 := by have := cntN_le (fun k => decide (m.cc (m.nxt m.allL.length) 0 k)) m.n; have h2 := HI.out.n_bd.2; unfold HM.nO; omega
        obtain ⟨u0, hu0⟩ : ∃ u0, u0 = m.nO (m.nxt m.allL.length) 0 := ⟨_, rfl⟩
        rw [← hu0] at HUV hle1 ⊢
        have HOWN : Hid (∀ W, Kp [] wr W → ∀ x, x < N → W.cell? ⟨w2.heap.size, x, none⟩ = some (.int .i64 (m.own x : Int))) := fun W k x hx => by
          have := ((HBW.out.kp k (by simp)).cell x).trans (zcells_get (sp := []) (by simp; rw [← HNN.out]; omega))
          rw [gl_last HI.out HV0.out (by rw [← HNN.out]; exact hx)] at this
          exact this
        have HNB1 : 64 * m.bl.length ≤ N := by have := HNB.out; omega
        have HNB2 : N ≤ 64 * m.bl.length := by have := HNB.out; omega
        obtain ⟨wp, hwp⟩ : ∃ x, x = wr := ⟨_, rfl⟩
        subst hwp
        clear hu0
        go_wp2
        go_loopw [15] (fun c wr1 => ∃ k : Nat, k ≤ m.bl.length ∧ c = .int .i64 (k : Int) ∧ Kp [] wp wr1) (fun c _ => m.bl.length - (intOf c).toNat)
        case atStart => exact ⟨0, by omega, rfl, Kp.refl _ _⟩
        case round =>
          obtain ⟨k, hk, rfl, k1⟩ := hrel
          have HK1 := hid k1
          have HS5 := hid (HS4.out.kp0 k1)
          clear k1
          by_cases hkl : k < m.bl.length
          · have hlen := gapL_len HI.out (k := k)
            have hst := stI_of hkl
            go_wp2_with (first
              | (go_at_call 15; refine (h_blocks HS5.out).mono ?_; rintro e w' ⟨rfl, n4, rfl⟩)
              | (go_at_call 19; refine (h_gaps (HS5.out.drewN _) _).mono ?_; rintro e w6 ⟨v6, rfl, own6, bel6⟩; have HR6 := hid (RunsAt.of_own own6); have HK6 := hid ((HK1.out.drewN n4).chain (Kp.of_below bel6)); clear own6 bel6))
            obtain ⟨A6, cap6, hv6, hruns⟩ := HR6.out
            subst hv6
            have HRU := hid hruns
            have HOK : Hid (m.st k = 1 → GapsOk m (64 * k) (64 * (k + 1)) (m.gapL (k : Int))) := gapL_ok HI.out hkl
            have HNO : Hid (m.st k ≠ 1 → m.gapL (k : Int) = []) := gapL_not
            have HSTK := hid hst
            generalize hrs : m.gapL (k : Int) = rs at HRU HOK HNO hlen ⊢
            clear hruns HR6 hrs hst
            go_wp2
            go_loopw [17, 18] (fun s c wr2 => ∃ i : Nat, i ≤ rs.length ∧ c = .int .i64 (i : Int) ∧ s = .int .i64 ((sumR rs i : Nat) : Int) ∧ Kp [] w6 wr2) (fun _ c _ => rs.length - (intOf c).toNat)
            case atStart => exact ⟨0, by omega, rfl, rfl, Kp.refl _ _⟩
            case round =>
              obtain ⟨i, hi, rfl, rfl, k2⟩ := hrel
              have HK2 := hid k2
              clear k2
              obtain ⟨wi, hwi⟩ : ∃ x, x = wr := ⟨_, rfl⟩
              subst hwi
              by_cases hil : i < rs.length
              · have hst1 : m.st k = 1 := Classical.byContradiction fun h => by have := HNO.out h; rw [this] at hil; simp at hil
                have G := HOK.out hst1
                obtain ⟨g6, rfl, c0, c1⟩ := HRU.out i hil
                have c0 := cell_kp HK2.out c0
                have c1 := cell_kp HK2.out c1
                have g1 := G.pos i hil
                have g2 := G.lo i hil
                have g3 := G.hi i hil
                have HFR := hid (G.free i hil)
                have HSU : Hid (sumR rs (i + 1) = sumR rs i + (rs.getD i (0, 0)).2) := rfl
                have hsep : ∀ y, i = y + 1 → (rs.getD y (0, 0)).1 + (rs.getD y (0, 0)).2 < (rs.getD i (0, 0)).1 := fun y hy => by subst hy; exact G.sep y hil
                obtain ⟨r0, hr0⟩ : ∃ r, r = (rs.getD i (0, 0)).1 := ⟨_, rfl⟩
                obtain ⟨z0, hz0⟩ : ∃ z, z = (rs.getD i (0, 0)).2 := ⟨_, rfl⟩
                rw [← hr0] at c0 g2 g3 HFR hsep
                rw [← hz0] at c1 g1 g3 HFR HSU
                have hsb : sumR rs i ≤ 4096 := by have h1 := sumR_mono rs (Nat.le_of_lt hil); have h2 := G.sum; omega
                obtain ⟨S0, hS0⟩ : ∃ S, S = sumR rs i := ⟨_, rfl⟩
                rw [← hS0] at HSU hsb ⊢
                have hb := Blk.new wi 34 #[.int .i64 (r0 : Int), .int .i64 (z0 : Int)]
                have HB0 := hid hb
                have b0 := hb.cell 0
                have b1 := hb.cell 1
                have q15 : IntKind.i64.wrap (k : Int) = (k : Int) := by rw [IntKind.wrap_i64]; omega
                have q1 : decide ((z0 : Int) < 1) = false := decide_eq_false (by omega)
                have q2 : (r0 : Int).tdiv 64 = (k : Int) := by rw [Int.tdiv_eq_ediv_of_nonneg (by omega)]; omega
                have q3 : IntKind.i64.wrap ((r0 : Int) + (z0 : Int)) = (r0 : Int) + (z0 : Int) := by rw [IntKind.wrap_i64]; omega
                have q4 : IntKind.i64.wrap ((r0 : Int) + (z0 : Int) - 1) = (r0 : Int) + (z0 : Int) - 1 := by rw [IntKind.wrap_i64]; omega
                have q5 : ((r0 : Int) + (z0 : Int) - 1).tdiv 64 = (k : Int) := by rw [Int.tdiv_eq_ediv_of_nonneg (by omega)]; omega
                clear hr0 hz0 hS0 hb G
                by_cases hi0 : i = 0
                · subst hi0
                  clear hsep
                  go_wp2
                  go_quiet (fail)
                  all_goals (
                    go_wp2
                    go_loopw [17, 20] (fun s c wr3 => ∃ y : Nat, y ≤ z0 ∧ c = .int .i64 ((r0 : Int) + (y : Int)) ∧ s = .int .i64 ((S0 : Int) + (y : Int)) ∧ Kp [] (wi.alloc (.cells #[.int .i64 (r0 : Int), .int .i64 (z0 : Int)] 34)) wr3) (fun _ c _ => r0 + z0 - (intOf c).toNat)
                    case atStart => exact ⟨0, by omega, by simp, by simp, by first | exact Kp.refl _ _ | exact Kp.draw _ _⟩
                    case round =>
                      clear b0 b1
                      obtain ⟨y9, hy9, rfl, rfl, k3⟩ := hrel
                      have HK3 := hid k3
                      have hbx := HB0.out.kp k3 (by simp)
                      have e0 := hbx.cell 0
                      have e1 := hbx.cell 1
                      have HKA := hid (((HK6.out.chain HK2.out).chain (Kp.new wi (.cells #[.int .i64 (r0 : Int), .int .i64 (z0 : Int)] 34))).chain k3)
                      clear hbx k3
                      by_cases hyl : y9 < z0
                      · have tw := HOWN.out wr HKA.out (r0 + y9) (by omega)
                        rw [HFR.out (r0 + y9) (by omega) (by omega)] at tw
                        have tw : wr.cell? ⟨w2.heap.size, r0 + y9, none⟩ = some (.int .i64 0) := tw
                        have hti : (r0 : Int) + (y9 : Int) < (N : Int) := by omega
                        have hti2 : (r0 : Int) + (y9 : Int) < (r0 : Int) + (z0 : Int) := by omega
                        go_wp2
                        go_roundw
                        case rel => exact ⟨y9 + 1, by omega, by go_num, by go_num, HK3.out⟩
                        case measure => simp [intOf]; omega
                      · obtain ⟨y8, rfl⟩ : ∃ y, y = y9 := ⟨_, rfl⟩
                        have hye : y8 = z0 := by omega
                        subst hye
                        go_wp2
                        go_roundw
                        case rel => exact ⟨0 + 1, by omega, by go_num, by rw [HSU.out]; go_num, (HK2.out.chain (Kp.new wi _)).chain HK3.out⟩
                        case measure => simp [intOf]; omega)
                · obtain ⟨y, rfl⟩ : ∃ y, i = y + 1 := ⟨i - 1, by omega⟩
                  have hs := hsep y rfl
                  obtain ⟨_, e6, d0, d1⟩ := HRU.out y (by omega)
                  cases e6
                  have d0 := cell_kp (HK2.out.chain (Kp.new wi (.cells #[.int .i64 (r0 : Int), .int .i64 (z0 : Int)] 34))) d0
                  have d1 := cell_kp (HK2.out.chain (Kp.new wi (.cells #[.int .i64 (r0 : Int), .int .i64 (z0 : Int)] 34))) d1
                  obtain ⟨pr, hpr⟩ : ∃ r, r = (rs.getD y (0, 0)).1 := ⟨_, rfl⟩
                  obtain ⟨pz, hpz⟩ : ∃ z, z = (rs.getD y (0, 0)).2 := ⟨_, rfl⟩
                  rw [← hpr] at d0 hs
                  rw [← hpz] at d1 hs
                  obtain ⟨i, hiy⟩ : ∃ i, i = y + 1 := ⟨_, rfl⟩
                  rw [← hiy] at c0 c1 hil HSU ⊢
                  have q6 : decide (0 < i) = true := decide_eq_true (by omega)
                  have q17 : decide (r0 ≤ pr + pz) = false := decide_eq_false (by omega)
                  have q18 : 0 < i := by omega
                  have q7 : IntKind.i64.wrap ((i : Int) - 1) = (y : Int) := by rw [IntKind.wrap_i64]; omega
                  have q8 : IntKind.i64.wrap ((pr : Int) + (pz : Int)) = (pr : Int) + (pz : Int) := by rw [IntKind.wrap_i64]; omega
                  have q9 : decide ((r0 : Int) ≤ (pr : Int) + (pz : Int)) = false := decide_eq_false (by omega)
                  have q10 : y < rs.length := by omega
                  have q11 : (y : Int) < (rs.length : Int) := by omega
                  have q12 : (0 : Int) ≤ (y : Int) := by omega
                  have q13 : (i : Int) - 1 = (y : Int) := by omega
                  have HIY := hid hiy
                  clear hsep hpr hpz hs hiy
                  go_wp2
                  go_quiet (fail)
                  all_goals (
                    go_wp2
                    go_loopw [17, 20] (fun s c wr3 => ∃ y : Nat, y ≤ z0 ∧ c = .int .i64 ((r0 : Int) + (y : Int)) ∧ s = .int .i64 ((S0 : Int) + (y : Int)) ∧ Kp [] (wi.alloc (.cells #[.int .i64 (r0 : Int), .int .i64 (z0 : Int)] 34)) wr3) (fun _ c _ => r0 + z0 - (intOf c).toNat)
                    case atStart => exact ⟨0, by omega, by simp, by simp, by first | exact Kp.refl _ _ | exact Kp.draw _ _⟩
                    case round =>
                      clear b0 b1
                      obtain ⟨y9, hy9, rfl, rfl, k3⟩ := hrel
                      have HK3 := hid k3
                      have hbx := HB0.out.kp k3 (by simp)
                      have e0 := hbx.cell 0
                      have e1 := hbx.cell 1
                      have HKA := hid (((HK6.out.chain HK2.out).chain (Kp.new wi (.cells #[.int .i64 (r0 : Int), .int .i64 (z0 : Int)] 34))).chain k3)
                      clear hbx k3
                      by_cases hyl : y9 < z0
                      · have tw := HOWN.out wr HKA.out (r0 + y9) (by omega)
                        rw [HFR.out (r0 + y9) (by omega) (by omega)] at tw
                        have tw : wr.cell? ⟨w2.heap.size, r0 + y9, none⟩ = some (.int .i64 0) := tw
                        have hti : (r0 : Int) + (y9 : Int) < (N : Int) := by omega
                        have hti2 : (r0 : Int) + (y9 : Int) < (r0 : Int) + (z0 : Int) := by omega
                        go_wp2
                        go_roundw
                        case rel => exact ⟨y9 + 1, by omega, by go_num, by go_num, HK3.out⟩
                        case measure => simp [intOf]; omega
                      · obtain ⟨y8, rfl⟩ : ∃ y, y = y9 := ⟨_, rfl⟩
                        have hye : y8 = z0 := by omega
                        subst hye
                        go_wp2
                        go_roundw
                        case rel => exact ⟨i + 1, by omega, by go_num, by rw [HSU.out]; go_num, (HK2.out.chain (Kp.new wi _)).chain HK3.out⟩
                        case measure => simp [intOf]; omega)
              · obtain ⟨i', rfl⟩ : ∃ y, y = i := ⟨_, rfl⟩
                have hie : i' = rs.length := by omega
                subst hie
                have hsb : sumR rs rs.length ≤ 4096 := by
                  by_cases h : m.st k = 1
                  · have := (HOK.out h).sum; omega
                  · rw [HNO.out h]; exact Nat.zero_le _
                have HFU : Hid (m.st k = 1 → sumR rs rs.length + cntN (fun x => decide (m.own (64 * k + x) ≠ 0)) 64 = 64) := fun h => by
                  have := (HOK.out h).sum
                  rw [show 64 * (k + 1) - 64 * k = 64 by omega] at this
                  exact this
                obtain ⟨S0, hS0⟩ : ∃ S, S = sumR rs rs.length := ⟨_, rfl⟩
                rw [← hS0] at HFU hsb ⊢
                clear hS0
                have HNEW := hid HK6.out
                go_wp2
                go_loopw [17, 21] (fun s c wr3 => ∃ y : Nat, y ≤ 64 ∧ c = .int .i64 ((k : Int) * 64 + (y : Int)) ∧ s = .int .i64 ((S0 : Int) + ((cntN (fun x => decide (m.own (64 * k + x) ≠ 0)) y : Nat) : Int)) ∧ Kp [] w6 wr3) (fun _ c _ => (k + 1) * 64 - (intOf c).toNat)
                case atStart => exact ⟨0, by omega, by simp, by simp [cntN], HK2.out⟩
                case round =>
                  obtain ⟨y, hy, rfl, rfl, k3⟩ := hrel
                  have HK3 := hid k3
                  have HKA := hid (HK6.out.chain k3)
                  have hcn := cntN_le (fun x => decide (m.own (64 * k + x) ≠ 0)) y
                  clear k3
                  by_cases hyl : y < 64
                  · have tw := HOWN.out wr HKA.out (k * 64 + y) (by omega)
                    rw [show k * 64 + y = 64 * k + y by omega] at tw
                    rw [show (64 * k + y : Nat) = k * 64 + y by omega] at tw
                    have hti : (k : Int) * 64 + (y : Int) < (N : Int) := by omega
                    have hti2 : (k : Int) * 64 + (y : Int) < ((k : Int) + 1) * 64 := by omega
                    have hti3 : (y : Int) < 64 := by omega
                    by_cases h0 : m.own (k * 64 + y) = 0
                    · have HC : Hid (cntN (fun x => decide (m.own (64 * k + x) ≠ 0)) (y + 1) = cntN (fun x => decide (m.own (64 * k + x) ≠ 0)) y) := cntN_no (decide_eq_false (by rw [show 64 * k + y = k * 64 + y by omega, h0]; simp))
                      rw [h0] at tw
                      have tw : wr.cell? ⟨w2.heap.size, k * 64 + y, none⟩ = some (.int .i64 0) := tw
                      generalize cntN (fun x => decide (m.own (64 * k + x) ≠ 0)) y = C at HC hcn ⊢
                      clear h0
                      go_wp2
                      go_roundw
                      case rel => exact ⟨y + 1, by omega, by go_num, by rw [HC.out], HK3.out⟩
                      case measure => simp [intOf]; omega
                    · have HC : Hid (cntN (fun x => decide (m.own (64 * k + x) ≠ 0)) (y + 1) = cntN (fun x => decide (m.own (64 * k + x) ≠ 0)) y + 1) := cntN_yes (decide_eq_true (by rw [show 64 * k + y = k * 64 + y by omega]; exact h0))
                      generalize cntN (fun x => decide (m.own (64 * k + x) ≠ 0)) y = C at HC hcn ⊢
                      generalize m.own (k * 64 + y) = x0 at tw h0
                      have h1 : ((x0 : Int) != 0) = true := bne_iff_ne.2 (by omega)
                      have h2 : ((x0 : Int) == 0) = false := beq_eq_false_iff_ne.2 (by omega)
                      clear h0
                      go_wp2
                      go_roundw
                      case rel => exact ⟨y + 1, by omega, by go_num, by rw [HC.out]; go_num, HK3.out⟩
                      case measure => simp [intOf]; omega
                  · obtain rfl : y = 64 := by omega
                    have HS7 := hid (HS4.out.kp0 HKA.out)
                    by_cases hst1 : m.st k = 1
                    · have HST : Hid (m.stI (k : Int) = 1) := by show _ = _; rw [HSTK.out, hst1]; rfl
                      have hT : (S0 : Int) + ((cntN (fun x => decide (m.own (64 * k + x) ≠ 0)) 64 : Nat) : Int) = 64 := by have := HFU.out hst1; omega
                      rw [hT]
                      clear hT hst1
                      go_wp2_with (go_at_call 18; refine (st_k HS7.out (by first | exact Kp.refl _ _ | exact Kp.draw _ _) _).mono ?_; rintro e w' ⟨rfl, n7, rfl⟩; rw [HST.out])
                      go_roundw
                      case rel => exact ⟨k + 1, by omega, by go_num, HKA.out.drewN _⟩
                      case measure => simp [intOf]; omega
                    · have hrs0 := HNO.out hst1
                      have hq1 : ((m.stI (k : Int)) == 1) = false := beq_eq_false_iff_ne.2 (by rw [HSTK.out]; omega)
                      have hq2 : ((m.stI (k : Int)) != 1) = true := bne_iff_ne.2 (by rw [HSTK.out]; omega)
                      obtain ⟨sv, hsv⟩ : ∃ x, x = m.stI (k : Int) := ⟨_, rfl⟩
                      rw [← hsv] at hq1 hq2
                      have HSV := hid hsv
                      have hlen0 : rs.length = 0 := by rw [hrs0]; rfl
                      have hlen1 : ((rs.length : Nat) : Int) = 0 := by omega
                      clear hsv hst1 hrs0
                      generalize cntN (fun x => decide (m.own (64 * k + x) ≠ 0)) 64 = C at hcn ⊢
                      go_wp2_with (go_at_call 18; refine (st_k HS7.out (by first | exact Kp.refl _ _ | exact Kp.draw _ _) _).mono ?_; rintro e w' ⟨rfl, n7, rfl⟩; rw [← HSV.out])
                      go_roundw
                      case rel => exact ⟨k + 1, by omega, by go_num, HKA.out.drewN _⟩
                      case measure => simp [intOf]; omega
          · obtain ⟨z, rfl⟩ : ∃ z, z = k := ⟨_, rfl⟩
            have hze : z = m.bl.length := by omega
            subst hze
            have HK9 := hid (HK3.out.trans (HKP.out.chain HK1.out) (U := []) (by simp) (fun x hx => .inr (by rw [List.mem_singleton] at hx; rw [hx]; exact HGW.out)))
            go_wp2_with (first
              | (go_at_call 15; refine (h_blocks HS5.out).mono ?_; rintro e w' ⟨rfl, n4, rfl⟩)
              | (go_at_call 20; refine (h_used (HS5.out.drewN _)).mono ?_; rintro e w8 ⟨rfl, K8⟩; rw [← HUV.out]; have HK8 := hid (HK9.out.chain K8.from_drewN); clear K8)
              | (go_at_call 14; refine (alive_ok _).mono ?_; rintro e w9 ⟨rfl, K9⟩; have HKA := hid (HK8.out.chain K9); clear K9))
            go_ret
            exact ⟨rfl, HKA.out⟩
end
end Go.Proofs.Ytplgbpmldjngoaa
