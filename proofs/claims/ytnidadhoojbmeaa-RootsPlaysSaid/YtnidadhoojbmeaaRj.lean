/-
  Package roots' filled keeps what an iterator owes. Conditions: those that stand in each theorem.
-/
import Derived.Test.YtnidadhoojbmeaaRi
import Derived.Stop.RegionWithIn
namespace Go.Proofs.Ytnidadhoojbmeaa
set_option linter.unusedVariables false
set_option linter.unusedSimpArgs false
open Go.RowKit Go.Deep Go.Maps Go.Shelf
attribute [local go_sem] Oper.semAt_some

theorem row_like {b : RB} {t t' : RT} (h : t.like t') (k m : Int) : b.row t' k m = b.row t k m := by
  unfold RB.row
  rw [h.1]
theorem rowUp_pre (t : RT) (p : Pl) {i j : Nat} (h : i ≤ j) : t.rowUp p i <+: t.rowUp p j := by
  induction j with
  | zero => obtain rfl : i = 0 := (by omega); exact List.prefix_refl _
  | succ j ih =>
    by_cases hi : i = j + 1
    · subst hi; exact List.prefix_refl _
    · exact (ih (by omega)).trans (List.prefix_append _ _)
theorem xsUp_pre (t : RT) {i j : Nat} (h : i ≤ j) : t.xsUp i <+: t.xsUp j := by
  induction j with
  | zero => obtain rfl : i = 0 := (by omega); exact List.prefix_refl _
  | succ j ih =>
    by_cases hi : i = j + 1
    · subst hi; exact List.prefix_refl _
    · exact (ih (by omega)).trans (List.prefix_append _ _)
theorem xs_pre {t : RT} {j i : Nat} {p : Pl} (hj : j < t.n + 2) (hp : (firstsL t.n).getD j ⟨0, 0, 0⟩ = p) (hi : i < (t.row p).length) (h0 : (t.row p).getD i 0 ≠ 0) : (t.xsUp j ++ t.rowUp p i) ++ [⟨p.k, p.m, i⟩] <+: t.xs := by
  have h1 : t.rowUp p i ++ [⟨p.k, p.m, i⟩] = t.rowUp p (i + 1) := by
    show _ = t.rowUp p i ++ (if (t.row p).getD i 0 ≠ 0 then _ else _)
    rw [if_pos h0]
  rw [List.append_assoc, h1]
  have h2 := rowUp_pre t p (show i + 1 ≤ (t.row p).length by omega)
  have h3 : t.xsUp (j + 1) = t.xsUp j ++ t.rowUp p (t.row p).length := by rw [← hp]; rfl
  refine List.IsPrefix.trans ?_ (xsUp_pre t (show j + 1 ≤ t.n + 2 by omega))
  rw [h3]
  exact (List.prefix_append_right_inj _).2 h2
section
variable {b : RB} {t : RT} {n : Nat}
set_option maxRecDepth 100000 in
set_option maxHeartbeats 4000000 in
theorem filled_iter (ok : t.Ok) (Br : Nat) : Iter Fence.wide n Try.prog 49 #[.pointer (some ⟨Br, 0, none⟩)] b.encs (PatR b t Br) t.xs := by
  intro l J W hAb hP hY h0
  have HAB := hid hAb
  have HP := hid hP
  have HY := hid hY
  have hJ0 := hid h0
  obtain ⟨hBr, t0, hl0, hR0⟩ := hP _ _ _ h0
  have hn0 := hl0.1
  have br0 := hBr.cell 0
  have HR0 := hid hR0
  have HN0 := hid hn0
  have h4 := ok.n4
  have h1 := ok.n1
  have HOK := hid ok
  clear hAb hP hY h0 hBr hl0 hR0 hn0
  refine callsIn_of_wp Try.func49 rfl trivial ?_ rfl
  simp only [Try.ntmps49, List.size_toArray, List.length_cons, List.length_nil, Nat.reduceAdd, Nat.reduceSub, Array.replicate_succ, Array.replicate_zero, List.push_toArray, List.append_toArray, List.nil_append, List.cons_append]
  gi_wp2
  refine ⟨trivial, (fun h => by cases h), ?_⟩
  refine (callsIn_wide.2 (r_firsts HR0.out)).mono ?_
  rintro e w1 ⟨v1, rfl, own1, bel1⟩
  rcases own1.2 with ⟨_, hz⟩ | ⟨gF, capF, cur, rfl, hgF, hbF, hcF1, hcF2, hcF3, hcF4⟩
  · simp [firstsL] at hz
  rw [HN0.out] at hcF4 hcF1
  have hll : (firstsL t.n).length = t.n + 2 := by simp [firstsL]
  have HBF : Hid (Blk w1 gF 33 cur) := hbF
  have HCE : Hid (∀ j, j < t.n + 2 → cur[j * 3]? = some (.int .i64 (((firstsL t.n).getD j ⟨0, 0, 0⟩).k : Int)) ∧ cur[j * 3 + 1]? = some (.int .i64 (((firstsL t.n).getD j ⟨0, 0, 0⟩).m : Int)) ∧ cur[j * 3 + 2]? = some (.int .i64 (((firstsL t.n).getD j ⟨0, 0, 0⟩).i : Int))) := fun j hj => by
    obtain ⟨a1, a2, a3⟩ := plcells_at (firstsL t.n) j (by omega)
    rw [← hcF4] at a1 a2 a3
    rw [List.getElem?_take_of_lt (by rw [hll]; omega)] at a1 a2 a3
    exact ⟨by simpa using a1, by simpa using a2, by simpa using a3⟩
  have HJ1 := hid (HAB.out _ _ _ _ hJ0.out (Kp.of_below bel1 |>.mono (by simp)))
  have HF1 : Hid (gF ∈ newBl W w1 ++ []) := by
    show gF ∈ newBl W w1 ++ []
    rw [List.append_nil, mem_newBl]; exact ⟨hgF, (Blk.lt (cs := cur) (t := 33) hbF)⟩
  have hcap : t.n + 2 ≤ capF := by rw [← hll]; exact hcF1
  unfold maxLen at hcF2
  rw [HN0.out, hll]
  clear own1 bel1 hgF hbF hcF3 hcF4 hcF1 br0
  gi_wp2
  gi_loopw [10] (fun c wr => ∃ (j : Nat) (S : List Nat), j ≤ t.n + 2 ∧ c = .int .i64 (j : Int) ∧ J (t.xsUp j) S wr ∧ gF ∈ S ∧ Blk wr gF 33 cur) (fun c _ => t.n + 2 - (intOf c).toNat)
  case atStart => exact ⟨0, _, by omega, rfl, HJ1.out, HF1.out, HBF.out⟩
  case round =>
    obtain ⟨j, S, hj, rfl, hJ, hgS, hbF⟩ := hrel
    have HJ := hid hJ
    have HGS := hid hgS
    have HBF2 := hid hbF
    by_cases hlt : j < t.n + 2
    · obtain ⟨p, hp, hpi, hlen⟩ := row_lens HOK.out hlt
      obtain ⟨e0, e1, e2⟩ := HCE.out j hlt
      rw [hp] at e0 e1 e2
      have c0 := (hbF.cell (j * 3)).trans e0
      have c1 := (hbF.cell (j * 3 + 1)).trans e1
      have c2 := (hbF.cell (j * 3 + 2)).trans e2
      have hpk : (p.k = 0 ∧ p.m < t.n) ∨ (p.k = 1 ∧ p.m = 0) ∨ (p.k = 2 ∧ p.m = 0) := by
        rcases hlen with ⟨h1, h2, h3, _⟩ | ⟨rfl, _⟩ | ⟨rfl, _⟩
        · exact .inl ⟨h1, by omega⟩
        · exact .inr (.inl ⟨rfl, rfl⟩)
        · exact .inr (.inr ⟨rfl, rfl⟩)
      have hl64 : (t.row p).length ≤ 64 := by
        have := HOK.out.qu
        rcases hlen with ⟨_, _, _, h⟩ | ⟨_, h⟩ | ⟨_, h⟩ <;> omega
      obtain ⟨pk, pm, pi⟩ := p
      simp only at hpi c0 c1 c2
      subst hpi
      have HPP := hid hp
      have HPK := hid hpk
      have KA := Kp.new wr (.cells #[.int .i64 (pk : Int), .int .i64 (pm : Int), .int .i64 0] 33)
      have HJA := hid (HAB.out _ _ _ _ hJ (KA.mono (by simp)))
      have hbP := Blk.new wr 33 #[.int .i64 (pk : Int), .int .i64 (pm : Int), .int .i64 0]
      have HBP := hid hbP
      have p0 := hbP.cell 0
      have p1 := hbP.cell 1
      have p2 := hbP.cell 2
      obtain ⟨hBr1, t1, hl1, hR1⟩ := HP.out _ _ _ HJA.out
      have br1 := hBr1.cell 0
      have HR1 := hid hR1
      have HL1 := hid hl1
      have HKA := hid KA
      clear hJ hgS hbF e0 e1 e2 hlen hp hpk KA hbP hBr1 hl1 hR1
      gi_wp2
      refine ⟨trivial, (fun h => by cases h), ?_⟩
      refine (callsIn_wide.2 (r_row HR1.out (pk : Int) (pm : Int) 0)).mono ?_
      rintro e w2 ⟨rfl, K2⟩
      have HJ2 := hid (HAB.out _ _ _ _ HJA.out (K2.mono (by simp)))
      obtain ⟨A, o, cap, hrow, hcells⟩ := row_mem HOK.out HL1.out HR1.out (p := ⟨pk, pm, 0⟩) HPK.out
      rw [hrow]
      have hrowt : b.row t (pk : Int) (pm : Int) = .slice A (t.row ⟨pk, pm, 0⟩).length cap := by rw [← row_like HL1.out]; exact hrow
      have HRT := hid hrowt
      have HB2 := hid (HBF2.out.kp (HKA.out.chain K2) (by simp))
      have HP2 := hid (HBP.out.kp K2 (by simp))
      obtain ⟨S2, hS2⟩ : ∃ S2, S2 = newBl (wr.alloc (.cells #[.int .i64 (pk : Int), .int .i64 (pm : Int), .int .i64 0] 33)) w2 ++ (newBl wr (wr.alloc (.cells #[.int .i64 (pk : Int), .int .i64 (pm : Int), .int .i64 0] 33)) ++ S) := ⟨_, rfl⟩
      have hgS2 : gF ∈ S2 := by rw [hS2]; exact List.mem_append.2 (.inr (List.mem_append.2 (.inr HGS.out)))
      have hpS2 : wr.heap.size ∈ S2 := by rw [hS2]; exact List.mem_append.2 (.inr (List.mem_append.2 (.inl (mem_newBl.2 ⟨Nat.le_refl _, by simp⟩))))
      rw [← hS2] at HJ2
      have HG2 := hid hgS2
      have HPS2 := hid hpS2
      obtain ⟨L, hL⟩ : ∃ L, L = (t.row ⟨pk, pm, 0⟩).length := ⟨_, rfl⟩
      have HLL := hid hL
      rw [← hL] at hl64 ⊢
      obtain ⟨wo, hwo⟩ : ∃ x, x = wr := ⟨_, rfl⟩
      subst hwo
      clear hrow hcells hrowt hS2 hgS2 hpS2 hL K2 p0 p1 p2 br1 c0 c1 c2
      gi_wp2
      gi_loopw [19] (fun c wr2 => ∃ (i : Nat) (S : List Nat) (z : Value), i ≤ L ∧ c = .int .i64 (i : Int) ∧ J (t.xsUp j ++ t.rowUp ⟨pk, pm, 0⟩ i) S wr2 ∧ gF ∈ S ∧ Blk wr2 gF 33 cur ∧ wo.heap.size ∈ S ∧ Blk wr2 wo.heap.size 33 #[.int .i64 (pk : Int), .int .i64 (pm : Int), z]) (fun c _ => L - (intOf c).toNat)
      case atStart => exact ⟨0, S2, _, by omega, rfl, by simpa [RT.rowUp] using HJ2.out, HG2.out, HB2.out, HPS2.out, HP2.out⟩
      case round =>
        clear HJ2 HG2 HB2 HPS2 HP2
        obtain ⟨i, S3, z, hi, rfl, hJ, hgS, hbF, hpS, hbP⟩ := hrel
        by_cases hil : i < L
        · have hz2 := hbP.cell 2
          have hf2 := hbP.frozen 2
          have K3 : Kp [wo.heap.size] wr (wr.setCell ⟨wo.heap.size, 2, none⟩ (.int .i64 (i : Int))) := Kp.cell wr ⟨wo.heap.size, 2, none⟩ _
          have HJ3 := hid (HAB.out _ _ _ _ hJ (K3.mono (fun x hx => .inl (by simp at hx; rw [hx]; exact hpS))))
          have hne : gF ≠ wo.heap.size := by have := HBF2.out.lt; omega
          have hb3 := hbP.set_ 2 (.int .i64 (i : Int))
          have HB3 : Hid (Blk (wr.setCell ⟨wo.heap.size, 2, none⟩ (.int .i64 (i : Int))) wo.heap.size 33 #[.int .i64 (pk : Int), .int .i64 (pm : Int), .int .i64 (i : Int)]) := hb3
          have HF3 := hid (hbF.kp K3 (by simpa using hne))
          have HJ4 := hid (HAB.out _ _ _ _ HJ3.out ((Kp.draw _ 1).mono (by simp)))
          obtain ⟨hBr4, t4, hl4, hR4⟩ := HP.out _ _ _ HJ4.out
          obtain ⟨A4, o4, cap4, hrow4, hcells4⟩ := row_mem HOK.out hl4 hR4 (p := ⟨pk, pm, 0⟩) HPK.out
          rw [row_like hl4, HRT.out] at hrow4
          cases hrow4
          obtain ⟨g, x, rfl, hadr, hcx, hx0⟩ := hcells4 i (by have := HLL.out; omega)
          have q0 := HB3.out.cell 0
          have q1 := HB3.out.cell 1
          have q2 := HB3.out.cell 2
          have hcx : (wr.setCell ⟨wo.heap.size, 2, none⟩ (.int .i64 (i : Int))).cell? ⟨g, o4 + i, none⟩ = some (.int .i64 x) := hcx
          have hil2 : (i : Int) < (L : Int) := by omega
          have HGS3 := hid hgS
          have HPS3 := hid hpS
          have HADR := hid hadr
          by_cases hx : x = 0
          · subst hx
            have HUP : Hid (t.rowUp ⟨pk, pm, 0⟩ (i + 1) = t.rowUp ⟨pk, pm, 0⟩ i) := by
              show t.rowUp ⟨pk, pm, 0⟩ i ++ (if (t.row ⟨pk, pm, 0⟩).getD i 0 ≠ 0 then _ else _) = _
              rw [if_neg (by simpa using hx0.1 rfl), List.append_nil]
            clear hJ hgS hbF hpS hbP K3 hb3 hBr4 hl4 hR4 hcells4 hadr hx0
            gi_wp2
            refine wpIn_region_quiet_lit rfl (by kernel_rfl) (by kernel_rfl) ?_
            repeat (gi_big_quiet_step (fail))
            refine wpQuietIn_step (by simp [Oper.askedIn, Fence.wide]) (fun K hK => ?_)
            go_simp
            refine hK _ ?_
            clear hK K
            repeat (gi_big_quiet_step (fail))
            refine wpQuietIn_nil ?_
            intro _ hw'
            obtain ⟨nq, hw''⟩ := hw'
            subst hw''
            gi_wp2
            go_roundw
            case rel => exact ⟨i + 1, _, _, by omega, by go_num, by rw [HUP.out]; exact HAB.out _ _ _ _ HJ3.out ((Kp.draw _ _).mono (by simp)), List.mem_append.2 (.inr (List.mem_append.2 (.inr HGS3.out))), HF3.out, List.mem_append.2 (.inr (List.mem_append.2 (.inr HPS3.out))), HB3.out⟩
            case measure => simp [intOf]; omega
          · have hr0 : (t.row ⟨pk, pm, 0⟩).getD i 0 ≠ 0 := fun h => hx (hx0.2 h)
            have HUP : Hid (t.rowUp ⟨pk, pm, 0⟩ (i + 1) = t.rowUp ⟨pk, pm, 0⟩ i ++ [⟨pk, pm, i⟩]) := by
              show t.rowUp ⟨pk, pm, 0⟩ i ++ (if (t.row ⟨pk, pm, 0⟩).getD i 0 ≠ 0 then _ else _) = _
              rw [if_pos hr0]
            have hpre := xs_pre (t := t) hlt HPP.out (i := i) (by have := HLL.out; omega) hr0
            have hxn : (x != 0) = true := bne_iff_ne.2 hx
            have hxe : (x == 0) = false := beq_eq_false_iff_ne.2 hx
            obtain ⟨fn, tmps, assign, body, hy, hR⟩ := HY.out _ ⟨pk, pm, i⟩ _ _ (show J _ _ (wr.setCell ⟨wo.heap.size, 2, none⟩ (.int .i64 (i : Int))).drew from HJ4.out) hpre
            have henc : b.encs ⟨pk, pm, i⟩ = #[.agg #[.int .i64 (pk : Int), .int .i64 (pm : Int), .int .i64 (i : Int)], .pointer (some ⟨g, o4 + i, none⟩)] := by
              show #[_, Value.pointer (some (b.adr ⟨pk, pm, i⟩))] = _
              rw [show b.adr ⟨pk, pm, i⟩ = ⟨g, o4 + i, none⟩ from HADR.out]
              rfl
            rw [henc] at hy
            have HR := hid hR
            clear hJ hgS hbF hpS hbP K3 hb3 hBr4 hl4 hR4 hcells4 hadr hx0 hr0 hpre henc hR
            gi_wp2
            gi_region_with (refine ⟨(fun h => by cases h), ?_⟩; refine HR.out.mono ?_; rintro e W5 ⟨rfl, hJ5, hK5⟩; have HJ5 := hid hJ5; have HK5 := hid hK5; clear hJ5 hK5)
            all_goals (
              gi_wp2
              go_roundw
              case rel =>
                have hg9 : gF ∈ newBl (wr.setCell ⟨wo.heap.size, 2, none⟩ (.int .i64 (i : Int))) ((wr.setCell ⟨wo.heap.size, 2, none⟩ (.int .i64 (i : Int))).drewN 1) ++ (newBl wr (wr.setCell ⟨wo.heap.size, 2, none⟩ (.int .i64 (i : Int))) ++ S3) := List.mem_append.2 (.inr (List.mem_append.2 (.inr HGS3.out)))
                have hp9 : wo.heap.size ∈ newBl (wr.setCell ⟨wo.heap.size, 2, none⟩ (.int .i64 (i : Int))) ((wr.setCell ⟨wo.heap.size, 2, none⟩ (.int .i64 (i : Int))).drewN 1) ++ (newBl wr (wr.setCell ⟨wo.heap.size, 2, none⟩ (.int .i64 (i : Int))) ++ S3) := List.mem_append.2 (.inr (List.mem_append.2 (.inr HPS3.out)))
                have hj9 := HJ5.out
                rw [List.append_assoc, ← HUP.out] at hj9
                exact ⟨i + 1, _, _, by omega, by go_num, hj9, hg9, (HK5.out.2 gF hg9 HF3.out.lt).trans HF3.out, hp9, (HK5.out.2 _ hp9 HB3.out.lt).trans HB3.out⟩
              case measure => simp [intOf]; omega)
        · obtain ⟨i9, rfl⟩ : ∃ x, x = i := ⟨_, rfl⟩
          have hie : i9 = L := by omega
          subst hie
          have hx9 : t.xsUp (j + 1) = t.xsUp j ++ t.rowUp ⟨pk, pm, 0⟩ i9 := by
            show t.xsUp j ++ t.rowUp ((firstsL t.n).getD j ⟨0, 0, 0⟩) (t.row ((firstsL t.n).getD j ⟨0, 0, 0⟩)).length = _
            rw [HPP.out, ← HLL.out]
          rw [← hx9] at hJ
          have HJ9 := hid hJ
          have HG9 := hid hgS
          have HF9 := hid hbF
          clear hx9 hJ hgS hbF hpS hbP
          gi_wp2
          go_roundw
          case rel => exact ⟨j + 1, _, by omega, by go_num, HJ9.out, HG9.out, HF9.out⟩
          case measure => simp [intOf]; omega
    · obtain ⟨j9, rfl⟩ : ∃ x, x = j := ⟨_, rfl⟩
      have hje : j9 = t.n + 2 := by omega
      subst hje
      have HJ9 := hid hJ
      clear hJ hgS hbF
      gi_wp2
      go_end0
      exact ⟨⟨_, rfl⟩, _, HJ9.out⟩
end
end Go.Proofs.Ytnidadhoojbmeaa
