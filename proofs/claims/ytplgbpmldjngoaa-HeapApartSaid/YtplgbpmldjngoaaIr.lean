/-
  The law HeapWords, walked. Conditions: those that stand in each theorem.
-/
import Derived.Test.YtplgbpmldjngoaaIm
namespace Go.Proofs.Ytplgbpmldjngoaa
set_option linter.unusedVariables false
set_option linter.unusedSimpArgs false
open Go.RowKit Go.Deep Go.Maps

theorem conts_field {o : Ob} (h : o.Ok) {k : Nat} (hk : k < o.refs + o.data) : o.conts.getD (4 + k) 0 = o.word (2 + k) := by
  have hl := h.len
  unfold Ob.conts Ob.all Ob.word
  rw [if_neg (show ¬ 2 + k = 0 by omega), if_neg (show ¬ 2 + k = 1 by omega), show 2 + k - 2 = k by omega]
  have e1 : o.head.length = 4 := rfl
  simp only [List.getD_eq_getElem?_getD]
  rw [List.append_assoc, List.getElem?_append_right (by omega), e1, show 4 + k - 4 = k by omega, List.getElem?_append_left (by omega)]
theorem conts_first (o : Ob) : o.conts.getD 0 0 = o.word 0 := rfl
theorem word_sh (o : Ob) : o.word 1 = (o.refs : Int) + 16 * (o.data : Int) + 4096 * (o.kind : Int) := by
  show ((shN o.refs o.data o.kind : Nat) : Int) = _
  unfold shN
  omega
def HM.vW (m : HM) (k : Nat) : Int := m.wordV (k : Int)
/-- What is carried through the head of the loop over an object's words. -/
structure WH (w W : World) (g j s t r d k : Nat) : Prop where
  c : W.cell? ⟨g, j, none⟩ = some (.int .i64 (t : Int))
  s0 : W.cell? ⟨s, 0, none⟩ = some (.int .i64 (r : Int))
  s1 : W.cell? ⟨s, 1, none⟩ = some (.int .i64 (d : Int))
  s2 : W.cell? ⟨s, 2, none⟩ = some (.int .i64 (k : Int))
  dr : Kp [] w W
theorem WH.stepK {w W V : World} {g j s t r d k : Nat} (u : WH w W g j s t r d k) (K : Kp [] W V) : WH w V g j s t r d k := ⟨cell_kp K u.c, cell_kp K u.s0, cell_kp K u.s1, cell_kp K u.s2, u.dr.chain K⟩
theorem cell_kps {w W : World} {S : List Nat} {g i : Nat} {u : Value} (k : Kp S w W) (h : w.cell? ⟨g, i, none⟩ = some u) (hn : g ∉ S) : W.cell? ⟨g, i, none⟩ = some u :=
  (World.cell?_of_block (k.block g (cell_lt h) hn)).trans h
theorem zset {L : List Int} {q : Nat} {y : Int} (hq : q < L.length) : ((zcells L ++ []).toArray).setIfInBounds q (.int .i64 y) = (zcells (L.set q y) ++ []).toArray := zcells_set hq
theorem words_k {w W : World} {g j s t r d k n : Nat} (u : WH w W g j s t r d k) (h : wordsI (r : Int) (d : Int) (k : Int) = (n : Int)) : Calls Try.prog 27 #[.agg #[.int .i64 (r : Int), .int .i64 (d : Int), .int .i64 (k : Int)]] W fun e w' => e = .returned (.int .i64 (n : Int)) ∧ Kp [] W w' := by
  refine (h_words (r : Int) (d : Int) (k : Int) W).mono ?_
  rintro e w' ⟨rfl, K⟩
  rw [h]
  exact ⟨rfl, K⟩
section
variable {w : World}
set_option maxRecDepth 100000 in
set_option maxHeartbeats 3000000 in
theorem words_ok (n : Int) (A : Option Addr) (len cap : Nat) (hA : ActsAt w A len) :
    Calls Try.prog 5 #[.int .i64 n, .slice A len cap] w (TrueP w) := by
  have HA := hid hA
  clear hA
  go_enter Try.func5, Try.ntmps5
  go_wp2_with (fail)
  refine (h_made_any n A len cap HA.out).mono ?_
  rintro e w2 ⟨K2, rfl | ⟨b, m, q, rfl, S2, hq, N2⟩⟩
  · have HK := hid K2
    clear K2
    go_wp2_with (go_at_call 14; refine (alive_ok _).mono ?_; rintro e w3 ⟨rfl, K3⟩; have HK3 := hid (HK.out.chain K3); clear K3)
    go_ret
    exact ⟨rfl, HK3.out⟩
  · have HK := hid K2
    have HS := hid S2
    have I := S2.inv
    have hal := all_le I
    have HI := hid I
    have hn2 := I.n_bd
    have hl64 := I.len64
    obtain ⟨N, hN⟩ : ∃ N, N = m.n := ⟨_, rfl⟩
    have HNN := hid hN
    have HBN : Hid ((m.bl.length : Int) * 64 = (N : Int)) := by show _ = _; rw [hN]; unfold HM.n; omega
    rw [← hN] at hn2
    have hmk : ∀ W : World, (Instr.makeSlice 26 (.int .i64 (N : Int)) (.int .i64 (N : Int))).run Try.prog W = .ok (.slice (some ⟨W.heap.size, 0, none⟩) N N) (W.alloc (.cells (madeCells #[.int .i64 0] N) 3)) := fun W =>
      run_make_row' (P := Try.prog) 26 3 (.int .i64 0) 8 Try.underlying26 infoInt rfl .i64 .i64 N (by omega) (by omega) W
    rw [← HBN.out] at hmk
    have HML : Hid (madeCells #[.int .i64 0] N = (zcells (m.gl m.vW (m.nxt 0) 0) ++ []).toArray) := by
      show _ = _
      apply Array.toList_inj.1
      rw [toList_madeCells_one, gl_first I, ← hN]
      simp [zcells]
    have HV0 : Hid (∀ k, m.own k = 0 → m.vW k = 0) := fun k hk => wordV_out HI.out hk
    clear K2 S2 N2 I hN
    go_wp2_with (go_at_call 15; refine (h_blocks HS.out).mono ?_; rintro e w' ⟨rfl, n1, rfl⟩)
    have HBW0 : Hid (Blk ((w2.drewN n1).alloc (.cells (madeCells #[.int .i64 0] N) 3)) w2.heap.size 3 (zcells (m.gl m.vW (m.nxt 0) 0) ++ []).toArray) := by
      show Blk _ _ _ _
      rw [← HML.out]
      exact Blk.new (w2.drewN n1) 3 _
    have HK0 : Hid (Kp [] w2 ((w2.drewN n1).alloc (.cells (madeCells #[.int .i64 0] N) 3))) := (Kp.draw w2 n1).chain (Kp.new _ _)
    clear hmk
    refine (h_all (HS.out.kp0 HK0.out)).mono ?_
    rintro e w3 ⟨v3, rfl, own3, bel3⟩
    have HF3 := hid (FarI.of_own own3)
    obtain ⟨A3, cap3, rfl, hc3a, hc3b, _⟩ := FarI.of_own own3
    unfold maxLen at hc3b
    have hK3 := HK0.out.chain (Kp.of_below bel3)
    have HK3 := hid (HK.out.chain hK3)
    have HS3 := hid (HS.out.kp0 hK3)
    have HBW3 : Hid (Blk w3 w2.heap.size 3 (zcells (m.gl m.vW (m.nxt 0) 0) ++ []).toArray) := HBW0.out.kp (Kp.of_below bel3) (by simp)
    have HGB : Hid (∀ x ∈ b.all, x ≠ w2.heap.size) := fun x hx => by have := HS.out.lt x hx; omega
    have HGA : Hid (∀ i, i < m.allL.length → ∃ g, A3 = some ⟨g, 0, none⟩ ∧ g ≠ w2.heap.size ∧ w3.cell? ⟨g, i, none⟩ = some (.int .i64 (m.allL.getD i 0))) := fun i hi => by
      obtain ⟨g, e1, e2, e3⟩ := HF3.out.at_ i hi
      simp at e2
      exact ⟨g, e1, by omega, e3⟩
    have HGW : Hid (w.heap.size ≤ w2.heap.size) := HK.out.size
    clear own3 bel3 hK3 HK0 HBW0 HML HF3
    go_wp2
    go_loopw [8] (fun c wr => ∃ j : Nat, j ≤ m.allL.length ∧ c = .int .i64 (j : Int) ∧ Blk wr w2.heap.size 3 (zcells (m.gl m.vW (m.nxt j) 0) ++ []).toArray ∧ Kp [w2.heap.size] w3 wr) (fun c _ => m.allL.length - (intOf c).toNat)
    case atStart => exact ⟨0, by omega, rfl, HBW3.out, Kp.refl _ _⟩
    case round =>
      obtain ⟨j, hj, rfl, bw, kp⟩ := hrel
      have HKP := hid kp
      have HBW := hid bw
      have HS4 := hid (HS3.out.kp kp (fun y hy => by have := HGB.out y hy; simpa using this))
      by_cases hlt : j < m.allL.length
      · obtain ⟨g, rfl, hg, hcell0⟩ := HGA.out j hlt
        obtain ⟨t, o, ht, ho⟩ := all_at hlt
        rw [ht] at hcell0
        have hcell : wr.cell? ⟨g, j, none⟩ = some (.int .i64 (t : Int)) := by
          rw [World.cell?_of_block (kp.block g (cell_lt hcell0) (by simpa using hg))]
          exact hcell0
        have hok := HI.out.ok _ _ ho
        have hwd := hok.wd_bd
        have hbd := hok.bd
        have hhi := HI.out.hi ho
        rw [← HNN.out] at hhi
        have HC4 := hid (conts_len hok).2
        have HOB := hid ho
        have HOK := hid hok
        have HT := hid ht
        have hne := hid hg
        clear kp bw ht ho hok hcell0 HBW3 hg
        go_wp2_with (go_at_call 26; refine (h_shape_ob HS4.out HOB.out).mono ?_; rintro e w5 ⟨rfl, K5⟩; have HK5 := hid K5; have hcell5 : w5.cell? ⟨g, j, none⟩ = some (.int .i64 (t : Int)) := cell_kp K5 hcell; have hcell6 : (w5.alloc (.cells #[.int .i64 (o.refs : Int), .int .i64 (o.data : Int), .int .i64 (o.kind : Int)] 46)).cell? ⟨g, j, none⟩ = some (.int .i64 (t : Int)) := cell_kp (Kp.new _ _) hcell5; clear K5)
        obtain ⟨s, hs⟩ : ∃ s, s = w5.heap.size := ⟨_, rfl⟩
        have hB6 : Blk (w5.alloc (.cells #[.int .i64 (o.refs : Int), .int .i64 (o.data : Int), .int .i64 (o.kind : Int)] 46)) s 46 #[.int .i64 (o.refs : Int), .int .i64 (o.data : Int), .int .i64 (o.kind : Int)] := by rw [hs]; exact Blk.new w5 _ _
        have hK6 : Kp [] wr (w5.alloc (.cells #[.int .i64 (o.refs : Int), .int .i64 (o.data : Int), .int .i64 (o.kind : Int)] 46)) := HK5.out.chain (Kp.new _ _)
        have hsw : s ≠ w2.heap.size := by have := HBW.out.lt; have := HK5.out.size; omega
        rw [← hs]
        clear hs
        generalize w5.alloc (.cells #[.int .i64 (o.refs : Int), .int .i64 (o.data : Int), .int .i64 (o.kind : Int)] 46) = W6 at hB6 hK6 ⊢
        refine (h_contents (HS4.out.kp0 hK6) HOB.out).mono ?_
        rintro e w10 ⟨v10, rfl, own10, bel10⟩
        obtain ⟨A10, cap10, rfl, hc10a, hc10b, _⟩ := FarI.of_own own10
        have HF10 : Hid (FarI w10 W6.heap.size (.slice A10 o.conts.length cap10) o.conts) := FarI.of_own own10
        unfold maxLen at hc10b
        obtain ⟨g10, rfl, hg10, hx10⟩ := HF10.out.at_ 0 (by have := HC4.out; omega)
        have hcl4 := HC4.out
        have hK10 := hK6.chain (Kp.of_below bel10)
        have hB10 := hB6.kp (Kp.of_below bel10) (by simp)
        have hW10 := HBW.out.kp hK10 (by simp)
        have hg10w : g10 ≠ w2.heap.size := by have := HBW.out.lt; have := hK6.size; omega
        obtain ⟨x0, hx0⟩ : ∃ x, x = o.word 0 := ⟨_, rfl⟩
        rw [conts_first, ← hx0] at hx10
        have t0 : w10.cell? ⟨g, j, none⟩ = some (.int .i64 (t : Int)) := cell_kp hK10 hcell
        have hl0 : (m.gl m.vW (m.nxt j) 0).length = N := by rw [gl_length]; exact HNN.out.symm
        have tw : w10.cell? ⟨w2.heap.size, t, none⟩ = some (.int .i64 ((m.gl m.vW (m.nxt j) 0).getD t 0)) := (hW10.cell t).trans (zcells_get (by rw [hl0]; omega))
        have tf : w10.frozen? ⟨w2.heap.size, t, none⟩ = false := hW10.frozen t
        have HT0 := hid t0
        have HS10 := hid (HS4.out.kp0 hK10)
        have HKPA := hid (HKP.out.trans hK10 (U := [w2.heap.size]) (fun x hx => .inl hx) (by simp))
        have HW10 := hid hW10
        have HB10 := hid hB10
        have HK10 := hid hK10
        have HL0 := hid hl0
        have HX0 := hid hx0
        have htN : t + 1 < N := by omega
        have htN0 : t < N := by omega
        have hti : (t : Int) < (N : Int) := by omega
        clear hx0 hl0 hW10 hB10 hK10 hB6 hK6 own10 bel10
        go_wp2
        go_region
        clear tw tf hx10 t0
        have K11 : Kp [w2.heap.size] w10 (w10.setCell ⟨w2.heap.size, t, none⟩ (.int .i64 x0)) := Kp.cell w10 ⟨w2.heap.size, t, none⟩ (.int .i64 x0)
        have hB11 := HW10.out.set_ t (.int .i64 x0)
        rw [zset (by rw [HL0.out]; omega)] at hB11
        have HB11 := hid hB11
        have HK11 := hid K11
        have t0 := cell_kps K11 HT0.out (by simpa using hne.out)
        have hs10 := HB10.out.kp K11 (by simpa using hsw)
        have s0 := hs10.cell 0
        have s1 := hs10.cell 1
        have s2 := hs10.cell 2
        have tw := (hB11.cell (t + 1)).trans (zcells_get (sp := []) (by simp; rw [← HNN.out]; omega))
        have tf := hB11.frozen (t + 1)
        obtain ⟨y1, hy1⟩ : ∃ y, y = ((m.gl m.vW (m.nxt j) 0).set t x0).getD (t + 1) 0 := ⟨_, rfl⟩
        rw [← hy1] at tw
        clear hy1 K11 hB11 hs10
        go_wp2
        go_region
        have hL12 : ((m.gl m.vW (m.nxt j) 0).set t x0).set (t + 1) (o.word 1) = m.gl m.vW t 2 := by
          have e0 : m.gl m.vW (m.nxt j) 0 = m.gl m.vW t 0 := by rw [nxt_at hlt HT.out]
          have v0 : x0 = m.vW (t + 0) := by rw [HX0.out]; exact (wordV_in HI.out HOB.out (by omega)).symm
          have v1 : o.word 1 = m.vW (t + 1) := (wordV_in HI.out HOB.out (by omega)).symm
          rw [e0, v0, v1]
          have g1 := gl_step (V := m.vW) HI.out HOB.out (c := 0) (by omega)
          rw [Nat.add_zero] at g1 ⊢
          rw [g1]
          exact gl_step (V := m.vW) HI.out HOB.out (c := 1) (by omega)
        have hB12 := HB11.out.set_ (t + 1) (.int .i64 (o.word 1))
        rw [zset (by simp; rw [← HNN.out]; omega), hL12, word_sh] at hB12
        have HB12 := hid hB12
        have hK12 : Kp [w2.heap.size] w10 ((w10.setCell ⟨w2.heap.size, t, none⟩ (.int .i64 x0)).setCell ⟨w2.heap.size, t + 1, none⟩ (.int .i64 ((o.refs : Int) + 16 * (o.data : Int) + 4096 * (o.kind : Int)))) := HK11.out.trans (Kp.cell _ ⟨w2.heap.size, t + 1, none⟩ _) (fun x hx => .inl hx) (fun x hx => .inl hx)
        have HK12 := hid hK12
        clear tw tf s0 s1 s2 t0 hL12 hB12 hK12
        go_wp2
        go_loopw [12] (fun c wr2 => ∃ k : Nat, k ≤ o.refs + o.data ∧ c = .int .i64 (k : Int) ∧ Blk wr2 w2.heap.size 3 (zcells (m.gl m.vW t (2 + k)) ++ []).toArray ∧ Kp [w2.heap.size] w10 wr2) (fun c _ => o.refs + o.data - (intOf c).toNat)
        case atStart => exact ⟨0, by omega, rfl, HB12.out, HK12.out.drewN 2⟩
        case round =>
          clear HB12 HK12 HB11 HK11
          obtain ⟨k, hk, rfl, bw, kp⟩ := hrel
          have HKP2 := hid kp
          have HBW2 := hid bw
          have t0 := cell_kps kp HT0.out (by simpa using hne.out)
          have hs10 := HB10.out.kp kp (by simpa using hsw)
          have s0 := hs10.cell 0
          have s1 := hs10.cell 1
          have s2 := hs10.cell 2
          have HT2 := hid t0
          by_cases hkl : k < o.refs + o.data
          · have hki : (k : Int) < (o.refs : Int) + (o.data : Int) := by omega
            have hx4 : wr.cell? ⟨g10, 4 + k, none⟩ = some (.int .i64 (o.word (2 + k))) := by
              obtain ⟨g', e1, _, e3⟩ := HF10.out.at_ (4 + k) (by have := HOK.out.len; unfold Ob.conts Ob.all Ob.head; simp; omega)
              cases e1
              rw [conts_field HOK.out hkl] at e3
              exact cell_kps kp e3 (by simpa using hg10w)
            have hlen4 : ((4 : Nat) : Int) + (k : Int) < (o.conts.length : Int) := by have := HOK.out.len; unfold Ob.conts Ob.all Ob.head; simp; omega
            obtain ⟨x2, hx2⟩ : ∃ x, x = o.word (2 + k) := ⟨_, rfl⟩
            rw [← hx2] at hx4
            have tw := (bw.cell (t + 2 + k)).trans (zcells_get (sp := []) (by simp; rw [← HNN.out]; omega))
            have tf := bw.frozen (t + 2 + k)
            obtain ⟨y1, hy1⟩ : ∃ y, y = (m.gl m.vW t (2 + k)).getD (t + 2 + k) 0 := ⟨_, rfl⟩
            rw [← hy1] at tw
            have hL : (m.gl m.vW t (2 + k)).set (t + 2 + k) x2 = m.gl m.vW t (2 + (k + 1)) := by
              have v1 : x2 = m.vW (t + (2 + k)) := by rw [hx2]; exact (wordV_in HI.out HOB.out (by omega)).symm
              rw [v1, Nat.add_assoc t 2 k]
              exact gl_step (V := m.vW) HI.out HOB.out (c := 2 + k) (by omega)
            have hB3 := bw.set_ (t + 2 + k) (.int .i64 x2)
            rw [zset (by simp; rw [← HNN.out]; omega), hL] at hB3
            have HB3 := hid hB3
            have HK3' : Hid (Kp [w2.heap.size] w10 (wr.setCell ⟨w2.heap.size, t + 2 + k, none⟩ (.int .i64 x2))) := HKP2.out.trans (Kp.cell _ ⟨w2.heap.size, t + 2 + k, none⟩ _) (fun x hx => .inl hx) (fun x hx => .inl hx)
            have htk : (t : Int) + 2 + (k : Int) < (N : Int) := by omega
            clear hx2 hy1 hL hB3 bw kp hs10
            go_wp2
            go_region
            go_wp2
            go_roundw
            case rel => exact ⟨k + 1, by omega, by go_num, HB3.out, HK3'.out.drewN 1⟩
            case measure => simp [intOf]; omega
          · obtain ⟨z, rfl⟩ : ∃ z, z = k := ⟨_, rfl⟩
            have hze : z = o.refs + o.data := by omega
            have HZE := hid hze
            have hzn : ¬ ((z : Int) < (o.refs : Int) + (o.data : Int)) := by omega
            clear bw kp hs10 hze hkl hk
            have HOWD : Hid (wordsI (o.refs : Int) (o.data : Int) (o.kind : Int) = (o.wd : Int)) := by
              show _ = _
              unfold wordsI
              rw [if_pos HOK.out.vld, Int.toNat_natCast, Int.toNat_natCast]
              rfl
            have HWH0 : Hid (∀ W, Kp [] wr W → WH wr W g j s t o.refs o.data o.kind) := fun W k => ⟨cell_kp k t0, cell_kp k s0, cell_kp k s1, cell_kp k s2, k⟩
            have HS7 := hid (HS10.out.kp HKP2.out (fun y hy => by have := HGB.out y hy; simpa using this))
            have hwr : IntKind.i64.wrap ((t : Int) + (o.wd : Int)) = (t : Int) + (o.wd : Int) := by rw [IntKind.wrap_i64]; omega
            have HOW : Hid (∀ k : Nat, k < o.wd → m.ownI ((t : Int) + (k : Int)) = t) := fun k hk => by
              unfold HM.ownI
              rw [if_pos (by omega), show ((t : Int) + (k : Int)).toNat = t + k by omega]
              exact own_cov HI.out HOB.out (by omega) (by omega)
            have hlo := HI.out.lo HOB.out
            go_wp2
            clear t0 s0 s1 s2
            go_loopw [13] (fun c wr3 => ∃ k : Nat, k ≤ o.wd ∧ c = .int .i64 ((t : Int) + (k : Int)) ∧ Kp [] wr wr3) (fun c _ => t + o.wd - (intOf c).toNat)
            case atStart => exact ⟨0, by omega, by simp, Kp.refl _ _⟩
            case round =>
              have HWH := hid HWH0.out
              obtain ⟨k, hk, rfl, k3⟩ := hrel
              have HK3 := hid k3
              have HWX : Hid (W64 ((t : Int) + (k : Int))) := ⟨by omega, by omega⟩
              by_cases hkw : k < o.wd
              · have hki : (t : Int) + (k : Int) < (t : Int) + (o.wd : Int) := by omega
                have HO1 := hid (HOW.out k hkw)
                have HF1 : Hid (m.findE ((t : Int) + (k : Int)) = 0) := by show _ = _; unfold HM.findE; rw [HOW.out k hkw, if_neg (by omega)]
                go_wp2
                have U9 := HWH.out wr.drew (k3.drewN 1)
                have t9 := U9.c
                have a9 := U9.s0
                have b9 := U9.s1
                have d9 := U9.s2
                clear HWH k3
                go_region_held3 (fun W => W.cell? ⟨g, j, none⟩ = some (.int .i64 (t : Int)) ∧ W.cell? ⟨s, 0, none⟩ = some (.int .i64 (o.refs : Int)) ∧ W.cell? ⟨s, 1, none⟩ = some (.int .i64 (o.data : Int)) ∧ W.cell? ⟨s, 2, none⟩ = some (.int .i64 (o.kind : Int))) (go_keep)
                  (first
                    | (go_at_call 27; refine (words_k U9 HOWD.out).mono ?_; rintro e w20 ⟨rfl, K20⟩; have U1 := U9.stepK K20; have t1 := U1.c; have a1 := U1.s0; have b1 := U1.s1; have d1 := U1.s2; clear K20))
                have HS20 := hid (HS7.out.kp0 U1.dr)
                have HK20 := hid U1.dr
                go_wp2_with (go_at_call 28; refine (h_find HS20.out _ HWX.out).mono ?_; rintro e w' ⟨rfl, n7, rfl⟩; rw [HO1.out, HF1.out])
                go_roundw
                case rel => exact ⟨k + 1, by omega, by go_num, HK20.out.drewN _⟩
                case measure => simp [intOf]; omega
              · obtain rfl : k = o.wd := by omega
                go_wp2
                have U9 := HWH.out wr.drew (k3.drewN 1)
                have t9 := U9.c
                have a9 := U9.s0
                have b9 := U9.s1
                have d9 := U9.s2
                clear HWH k3
                go_region_held3 (fun W => W.cell? ⟨g, j, none⟩ = some (.int .i64 (t : Int)) ∧ W.cell? ⟨s, 0, none⟩ = some (.int .i64 (o.refs : Int)) ∧ W.cell? ⟨s, 1, none⟩ = some (.int .i64 (o.data : Int)) ∧ W.cell? ⟨s, 2, none⟩ = some (.int .i64 (o.kind : Int))) (go_keep)
                  (first
                    | (go_at_call 27; refine (words_k U9 HOWD.out).mono ?_; rintro e w20 ⟨rfl, K20⟩; have U1 := U9.stepK K20; have t1 := U1.c; have a1 := U1.s0; have b1 := U1.s1; have d1 := U1.s2; clear K20))
                have HK20 := hid U1.dr
                have hgn : m.gl m.vW t (2 + z) = m.gl m.vW (m.nxt (j + 1)) 0 := gl_next HI.out hlt HT.out HOB.out (by have := HOK.out.wd_bd; have := HZE.out; omega) (fun x h1 h2 => by
                  have hze := HZE.out
                  have hx := wordV_in HI.out HOB.out (c := x - t) (by omega)
                  rw [show t + (x - t) = x by omega] at hx
                  show m.wordV (x : Int) = 0
                  rw [hx]
                  exact word_pad HOK.out (by omega))
                have HGN := hid hgn
                clear hgn
                go_wp2
                go_roundw
                case rel =>
                  have hB := HBW2.out.kp HK20.out (by simp)
                  rw [HGN.out] at hB
                  exact ⟨j + 1, by omega, by go_num, hB, (HKPA.out.trans HKP2.out (U := [w2.heap.size]) (fun x hx => .inl hx) (fun x hx => .inl hx)).trans HK20.out (fun x hx => .inl hx) (by simp)⟩
                case measure => simp [intOf]; omega
      · obtain rfl : j = m.allL.length := by omega
        clear kp bw
        go_wp2
        go_loopw [16] (fun c wr4 => ∃ k : Nat, k ≤ N ∧ c = .int .i64 (k : Int) ∧ Kp [] wr wr4) (fun c _ => N - (intOf c).toNat)
        case atStart => exact ⟨0, by omega, rfl, Kp.refl _ _⟩
        case round =>
          obtain ⟨k, hk, rfl, k4⟩ := hrel
          have HK4 := hid k4
          have HS5 := hid (HS4.out.kp0 k4)
          by_cases hkl : k < N
          · have hc := ((HBW.out.kp k4 (by simp)).cell k).trans (zcells_get (sp := []) (by simp; rw [← HNN.out]; omega))
            rw [gl_last HI.out HV0.out (by rw [← HNN.out]; exact hkl)] at hc
            have HIN : Hid (inB m.n (k : Int) = true) := decide_eq_true ⟨by omega, by rw [← HNN.out]; omega⟩
            obtain ⟨x, hx⟩ : ∃ x, x = m.wordV (k : Int) := ⟨_, rfl⟩
            rw [show m.vW k = m.wordV (k : Int) from rfl, ← hx] at hc
            have HX := hid hx
            clear hx k4
            go_wp2_with (go_at_call 29; refine (h_word HS5.out _).mono ?_; rintro e w' ⟨rfl, n7, rfl⟩; rw [HIN.out, if_pos rfl, ← HX.out])
            go_roundw
            case rel => exact ⟨k + 1, by omega, by go_num, HK4.out.drewN _⟩
            case measure => simp [intOf]; omega
          · obtain rfl : k = N := by omega
            have HK9 := hid (HK3.out.trans (HKP.out.chain HK4.out) (U := []) (by simp) (fun x hx => .inr (by rw [List.mem_singleton] at hx; rw [hx]; exact HGW.out)))
            clear k4
            go_wp2_with (go_at_call 14; refine (alive_ok _).mono ?_; rintro e w9 ⟨rfl, K9⟩; have HKA := hid (HK9.out.chain K9); clear K9)
            go_ret
            exact ⟨rfl, HKA.out⟩
end
end Go.Proofs.Ytplgbpmldjngoaa
