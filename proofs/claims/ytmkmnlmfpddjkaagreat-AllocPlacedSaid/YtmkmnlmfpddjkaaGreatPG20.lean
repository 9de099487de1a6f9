/-
  The law's bools, and Lines on both sides. Conditions: those that stand in each theorem.
-/
import Derived.BigQuiet
import Derived.Test.YtmkmnlmfpddjkaaGreatPG19
import Derived.Test.YtmkmnlmfpddjkaaGreatPG8
import Derived.Deep.RegionHeld3
import Derived.Test.YtmkmnlmfpddjkaaGreatPG16
import Derived.Test.YtmkmnlmfpddjkaaGreatPGE
namespace Go.Proofs.YtmkmnlmfpddjkaaGreat
set_option linter.unusedVariables false
set_option linter.unusedSimpArgs false
open Go.RowKit Go.Deep Go.Maps

/-- A slice of booleans that reads as a list. -/
def BoolsAt (w : World) (v : Value) (l : List Bool) : Prop :=
  ∃ A cap, v = .slice A l.length cap ∧ ∀ i, i < l.length → ∃ g, A = some ⟨g, 0, none⟩ ∧ w.cell? ⟨g, i, none⟩ = some (.bool (l.getD i false))
theorem BoolsAt.kp0 {w W : World} {v : Value} {l : List Bool} (h : BoolsAt w v l) (k : Kp [] w W) : BoolsAt W v l := by
  obtain ⟨A, cap, hv, hc⟩ := h
  exact ⟨A, cap, hv, fun i hi => by obtain ⟨g, h1, h2⟩ := hc i hi; exact ⟨g, h1, cell_kp k h2⟩⟩
theorem BoolsAt.of_own {w : World} {B n : Nat} {v : Value} {l : List Bool} (own : w.ownsRow B 4 1 v n (lcells l)) (hn : n = l.length) : BoolsAt w v l := by
  subst hn
  rcases own.2 with ⟨rfl, h0⟩ | ⟨g, cap, cur, rfl, _⟩
  · exact ⟨none, 0, by rw [h0], fun i hi => by omega⟩
  · refine ⟨_, cap, rfl, fun i hi => ⟨g, rfl, ?_⟩⟩
    rw [own.cellAt _ (by omega)]
    have := lcells_get (L := l) hi
    simpa using this
theorem BoolsAt.of_blk {w : World} {g n c : Nat} {l : List Bool} (B : Blk w g 4 (lcells l).toArray) (hn : n = l.length) : BoolsAt w (.slice (some ⟨g, 0, none⟩) n c) l := by
  subst hn
  exact ⟨_, c, rfl, fun i hi => ⟨g, rfl, by rw [B.cell]; exact lcells_get hi⟩⟩
section
variable {w w' : World} {b : HB} {d : DB} {m : HM} {q p : Nat}
/-- What Lines returns. -/
def HM.lineL (m : HM) (i : Int) : List Bool := if inB m.bl.length i = true ∧ m.st i.toNat = 1 then m.lnL i.toNat else []
theorem lnL_len (m : HM) (k : Nat) : (m.lnL k).length = 8 := by unfold HM.lnL; exact lnN_length _ _ _
theorem lineL_len (m : HM) (i : Int) : (m.lineL i).length ≤ 8 := by
  unfold HM.lineL
  split
  · rw [lnL_len]; omega
  · simp
def LineP (w : World) (l : List Bool) (e : Ending) (w' : World) : Prop := ∃ v, e = .returned v ∧ BoolsAt w' v l ∧ Kp [] w w'
theorem boolsNone (w : World) : BoolsAt w (.slice none 0 0) [] := ⟨none, 0, rfl, fun i hi => by simp at hi⟩
theorem h_linesP (h : SH w b q m) (i : Int) :
    Calls Tryz.prog 39 #[.pointer (some ⟨b.g, 0, none⟩), .int .i64 i] w (LineP w (m.lineL i)) := by
  by_cases hb : inB m.bl.length i = true ∧ m.st i.toNat = 1
  · have e : m.lineL i = m.lnL i.toNat := by unfold HM.lineL; rw [if_pos hb]
    have hi := of_decide_eq_true hb.1
    obtain ⟨k, rfl⟩ : ∃ k : Nat, i = (k : Int) := ⟨i.toNat, by omega⟩
    rw [Int.toNat_natCast] at hb e
    rw [e]
    refine (h_lines h k (by omega) hb.2).mono ?_
    rintro e w' ⟨g, rfl, B, _, K⟩
    exact ⟨_, rfl, BoolsAt.of_blk B (lnL_len m k).symm, K⟩
  · have e : m.lineL i = [] := by unfold HM.lineL; rw [if_neg hb]
    have e0 : ((if inB m.bl.length i = true then (m.st i.toNat : Int) else -1) != 1) = true := by
      rw [bne_iff_ne]
      split
      · rename_i h1
        have : ¬ m.st i.toNat = 1 := fun h2 => hb ⟨h1, h2⟩
        omega
      · omega
    rw [e]
    generalize hx : (if inB m.bl.length i = true then (m.st i.toNat : Int) else -1) = x at e0
    have HX := hid hx
    clear hb e hx
    go_enter Tryz.func39, Tryz.ntmps39
    go_wp2_with (go_at_call 41; refine (h_state h _).mono ?_; rintro e w' ⟨rfl, n1, rfl⟩; rw [HX.out])
    go_ret
    exact ⟨_, rfl, boolsNone _, Kp.draw _ _⟩
end
end Go.Proofs.YtmkmnlmfpddjkaaGreat
/-
  The words of all objects of the document's heap: Used. Conditions: those that stand in each theorem.
-/
namespace Go.Proofs.YtmkmnlmfpddjkaaGreat
set_option linter.unusedVariables false
set_option linter.unusedSimpArgs false
open Go.RowKit Go.Deep Go.Maps

section
variable {w w' W : World} {d : DB} {q : Nat} {m : HM}
end
end Go.Proofs.YtmkmnlmfpddjkaaGreat
/-
  The contracts of the document's heap's Gaps, Lines. Conditions: those that stand in each theorem.
-/
namespace Go.Proofs.YtmkmnlmfpddjkaaGreat
set_option linter.unusedVariables false
set_option linter.unusedSimpArgs false
open Go.RowKit Go.Deep Go.Maps

section
variable {w w' W : World} {d : DB} {q : Nat} {m : HM}
set_option maxRecDepth 100000 in
set_option maxHeartbeats 4000000 in
theorem d_gaps (T : DR w d q m) (i : Int) :
    Calls Tryz.prog 92 #[.pointer (some ⟨d.g, 0, none⟩), .int .i64 i] w (Grows w.heap.size w (m.gapL i)) := by
  have I := T.inv
  have hl64 := I.len64
  by_cases hb : inB m.bl.length i = true ∧ m.st i.toNat = 1
  · obtain ⟨k, rfl⟩ : ∃ k : Nat, i = (k : Int) := ⟨i.toNat, by have := of_decide_eq_true hb.1; omega⟩
    rw [Int.toNat_natCast] at hb
    have hk : k < m.bl.length := by have := of_decide_eq_true hb.1; omega
    have hst : (if inB m.bl.length (k : Int) = true then (m.st ((k : Int).toNat) : Int) else -1) = 1 := by rw [if_pos hb.1, Int.toNat_natCast, hb.2]; rfl
    have hgl : m.gapL (k : Int) = gapAdd (gpN m (m.objL (k : Int)) (64 * k) (m.objL (k : Int)).length).1 (gpN m (m.objL (k : Int)) (64 * k) (m.objL (k : Int)).length).2 (64 * (k + 1)) := by
      unfold HM.gapL
      rw [Int.toNat_natCast, if_pos ⟨hb.1, hb.2⟩]
    rw [hgl]
    obtain ⟨i0, hi0, hz0, hz1, hz2⟩ := info_parts infoRun
    have HSTV := hid hst
    have hend := gpN_end I hk hb.2
    have HEND := hid hend
    have hol : (m.objL (k : Int)).length ≤ 32 := by
      simp only [HM.objL, hb.1, if_true]
      exact fpL_le _ _ _
    have hk64 : k ≤ 64 := by omega
    have HBF := hid (fun i (hi : i < (m.objL (k : Int)).length) => gpN_before I hk hi)
    have HOA := hid (fun i (hi : i < (m.objL (k : Int)).length) => objL_at (m := m) (i := i) hk hi)
    have HLE := hid (fun j => gpN_le m (m.objL (k : Int)) (64 * k) j)
    have HSIZ := hid (fun a o (ho : m.ob a = some o) => (⟨I.hi ho, (I.ok _ _ ho).wd_bd⟩ : a + o.wd ≤ m.n ∧ _))
    have hmn : m.n ≤ 4096 := I.n_bd.2
    have hlen := T.len
    obtain ⟨A, cap, hov⟩ := T.o_len
    have HT := hid T
    have HOV := hid hov
    generalize hzs : m.objL (k : Int) = zs at HEND HBF HOA HLE hol ⊢
    have HZS := hid hzs
    clear hb hst hgl hend hzs T hov I
    go_enter Tryz.func92, Tryz.ntmps92
    go_wp2_with (go_at_call 88; refine (d_state HT.out _).mono ?_; rintro e w' ⟨rfl, n1, rfl⟩; rw [HSTV.out])
    refine (d_objects (HT.out.drewN _) _).mono ?_
    rintro e w3 ⟨v3, rfl, own3, bel3⟩
    rw [HZS.out] at own3
    have hbel : Below w.heap.size w w3 := (below_drewN (Below.refl _ w) n1).trans bel3
    have HB3 := hid hbel
    have HF3 := hid (FarI.of_own own3)
    obtain ⟨A3, cap3, rfl, hc3a, hc3b, _⟩ := FarI.of_own own3
    clear own3 bel3 hbel
    unfold maxLen at hc3b
    go_wp2
    go_loopw [5, 6, 8] (fun s a c wr => ∃ j : Nat, j ≤ zs.length ∧ c = .int .i64 (j : Int) ∧ a = .int .i64 ((gpN m zs (64 * k) j).2 : Int) ∧ wr.ownsRow w3.heap.size 76 2 s (gpN m zs (64 * k) j).1.length (rcells (gpN m zs (64 * k) j).1) ∧ Below w3.heap.size w3 wr) (fun _ _ c _ => zs.length - (intOf c).toNat)
    case atStart => exact ⟨0, by omega, rfl, by show _ = Value.int _ ((64 * k : Nat) : Int); congr 1; omega, ⟨rfl, .inl ⟨rfl, rfl⟩⟩, Below.refl _ _⟩
    case round =>
      obtain ⟨j, hj, rfl, rfl, own, bel⟩ := hrel
      have HO := hid own
      have HBE := hid bel
      clear own bel
      by_cases hlt : j < zs.length
      · have HTD : Hid (∀ V, Below w3.heap.size w3 V → DR V d q m) := fun V b => HT.out.kp0 (Kp.of_below (HB3.out.trans (below_mono b HB3.out.size)))
        obtain ⟨g3, rfl, hg3, hcell⟩ := (HF3.out.below HBE.out).at_ j hlt
        obtain ⟨a, o, ha, ho, ha1, ha2⟩ := HOA.out j hlt
        obtain ⟨ix, x, hix, hxa, hxo⟩ := HT.out.lst.get ho
        subst hxa hxo
        have hbf := HBF.out j hlt
        have hle := HLE.out j
        obtain ⟨hs1, hs2⟩ := HSIZ.out x.a x.o ho
        rw [ha] at hbf hcell
        rw [Int.toNat_natCast] at hbf
        have HZC : Hid (∀ V, Below w3.heap.size w3 V → V.cell? ⟨g3, j, none⟩ = some (.int .i64 (x.a : Int))) := fun V b => by
          obtain ⟨g', e1, _, h1⟩ := (HF3.out.below b).at_ j hlt
          injection e1 with e1; injection e1 with e1; subst e1
          rw [ha] at h1
          exact h1
        have hstep : gpN m zs (64 * k) (j + 1) = (gapAdd (gpN m zs (64 * k) j).1 (gpN m zs (64 * k) j).2 x.a, x.a + x.o.wd) := by
          show (gapAdd _ _ (zs.getD j 0).toNat, (zs.getD j 0).toNat + m.wdAt (zs.getD j 0).toNat) = _
          rw [ha, Int.toNat_natCast]
          unfold HM.wdAt
          rw [ho]
        have HSTEP := hid hstep
        have HWR : Hid (IntKind.i64.wrap ((x.a : Int) + (x.o.wd : Int)) = ((x.a + x.o.wd : Nat) : Int)) := by show _ = _; rw [IntKind.wrap_i64]; omega
        have HE := hid (HT.out.lst.ix_at hix)
        have HIX := hid hix
        have hil := (List.getElem?_eq_some_iff.1 hix).1
        have hw218 : x.o.wd ≤ 218 := hs2.2.1
        have HWD := hid (wordsI_ok (HT.out.ok hix))
        generalize (gpN m zs (64 * k) j).2 = at1 at hbf HSTEP HO ⊢
        generalize (gpN m zs (64 * k) j).1 = rs1 at hle HSTEP HO
        clear ha hs1 hs2 hstep ho hix
        by_cases hgp : at1 < x.a
        · have e1 : decide (at1 < x.a) = true := decide_eq_true (by omega)
          have HN : Hid _ := run_news wr (at1 : Int) ((x.a : Int) - (at1 : Int)) 0
          have NONE := run_news_one (at1 : Int) ((x.a : Int) - (at1 : Int))
          have HZ : Hid ((x.a : Int) - (at1 : Int) = ((x.a - at1 : Nat) : Int)) := by show _ = _; omega
          have HSZ : Hid (w3.heap.size ≤ wr.heap.size) := HBE.out.size
          have HGA : Hid (gapAdd rs1 at1 x.a = rs1 ++ [(at1, x.a - at1)]) := by show _ = _; unfold gapAdd; rw [if_neg (by omega)]
          have hga : ∀ V : World, wr.heap.size < V.heap.size → Below w3.heap.size w3 V → True := fun _ _ _ => trivial
          have hcell2 : ∀ n : Nat, ((wr.drewN n).alloc (.cells #[.int .i64 (at1 : Int), .int .i64 ((x.a : Int) - (at1 : Int))] 76)).cell? ⟨g3, j, none⟩ = some (.int .i64 (x.a : Int)) := fun n => kp_cellD ((Kp.draw wr n).chain (Kp.new _ _)) hcell
          clear hgp hga
          go_wp2_with (at_builtin; refine wpList_append_own _ rfl (.tmp 32) (.tmp 41) 73 rfl w3.heap.size 76 i0 (.agg #[.int .i64 0, .int .i64 0]) 2 16 Tryz.underlying73 hi0 hz0 hz1 hz2 rfl (by decide) _ _ _ rfl (HO.out.alloc _) ⟨wr.heap.size, 0, none⟩ 1 1 [.int .i64 (at1 : Int), .int .i64 ((x.a : Int) - (at1 : Int))] rfl rfl HN.out NONE (by unfold maxLen; omega) (by omega) (by have := HSZ.out; simp; omega) ?_; intro v' w5 hown' hgr hnil; have HO5' := hid hown'; have HG5 := hid hgr; clear hown' hgr hnil)
          obtain ⟨v5, e5, own5, bel5⟩ : Grows w3.heap.size wr (rs1 ++ [(at1, x.a - at1)]) (.returned v') w5 := by
            have h1 := HO5'.out
            have h2 := HG5.out
            rw [HZ.out] at h1 h2
            exact grows_end (n := 0) HSZ.out rfl HO.out h1 h2
          cases e5
          rw [← HGA.out] at own5
          have HO5 := hid own5
          have HB5 := hid (HBE.out.trans bel5)
          clear own5 bel5 hcell hcell2 HO5' HG5 HN NONE
          have HT5 := hid (HTD.out _ HB5.out)
          obtain ⟨go, cap', hov', _, _, _, hO, _⟩ := HT5.out.ocell HIX.out
          rw [HOV.out] at hov'
          cases hov'
          have hc1 := HT5.out.c1
          rw [HOV.out] at hc1
          have hz0 := HZC.out w5 HB5.out
          have o2 := hO.c2
          have o3 := hO.c3
          have o4 := hO.c4
          have s0 := kp_cellD (Kp.draw w5 1) hz0
          have s1 := kp_cellD (Kp.draw w5 1) hc1
          have s2 := kp_cellD (Kp.draw w5 1) o2
          have s3 := kp_cellD (Kp.draw w5 1) o3
          have s4 := kp_cellD (Kp.draw w5 1) o4
          clear hO
          go_wp2_with (fail)
          go_region_held3 (fun W => W.cell? ⟨g3, j, none⟩ = some (.int .i64 (x.a : Int)) ∧ W.cell? ⟨d.g, 1, none⟩ = some (.slice (some ⟨go, 0, none⟩) d.os.length cap) ∧ W.cell? ⟨go, ix * 8 + 2, none⟩ = some (.int .i64 (x.o.refs : Int)) ∧ W.cell? ⟨go, ix * 8 + 3, none⟩ = some (.int .i64 (x.o.data : Int)) ∧ W.cell? ⟨go, ix * 8 + 4, none⟩ = some (.int .i64 (x.o.kind : Int))) (go_keep)
            (first
              | (go_at_call 153; refine (r_words _ _ _ _).mono ?_; rintro e w7 ⟨rfl, K7⟩; rw [HWD.out]; have hk7 : Kp [] w5 w7 := (Kp.chain (by first | exact Kp.draw _ _ | exact (Kp.draw w5 1).drewN _ | exact kp_drew_n (Kp.refl _ _)) K7); have HK7 := hid hk7; clear hk7; have u0 := kp_cellD K7 (by first | exact s0 | exact kp_cellD (Kp.draw _ _) s0); have u1 := kp_cellD K7 (by first | exact s1 | exact kp_cellD (Kp.draw _ _) s1); have u2 := kp_cellD K7 (by first | exact s2 | exact kp_cellD (Kp.draw _ _) s2); have u3 := kp_cellD K7 (by first | exact s3 | exact kp_cellD (Kp.draw _ _) s3); have u4 := kp_cellD K7 (by first | exact s4 | exact kp_cellD (Kp.draw _ _) s4); clear K7)
              | (go_at_call 141; refine (d_index (HT5.out.kp0 (Kp.draw _ 1)) _).mono ?_; rintro e w6 ⟨rfl, n6, rfl⟩; rw [HE.out]))
          all_goals (
            go_wp2
            go_roundw
            case rel => exact ⟨j + 1, by omega, by go_num, by rw [HSTEP.out, HWR.out], by rw [HSTEP.out]; exact own_kp0 HO5.out HK7.out, HB5.out.trans (HK7.out.below HB5.out.size (by simp))⟩
            case measure => simp [intOf]; omega)
        · obtain rfl : at1 = x.a := by omega
          have e1 : decide ((x.a : Int) < (x.a : Int)) = false := decide_eq_false (by omega)
          have HGA : Hid (gapAdd rs1 x.a x.a = rs1) := by show _ = _; unfold gapAdd; rw [if_pos rfl]
          have ho5 := HO.out
          rw [← HGA.out] at ho5
          have HO5 := hid ho5
          clear ho5
          have HB5 := hid HBE.out
          clear hgp hcell
          have hcell := HZC.out wr HBE.out
          go_wp2_with (fail)
          clear hcell
          have HT5 := hid (HTD.out _ HB5.out)
          obtain ⟨go, cap', hov', _, _, _, hO, _⟩ := HT5.out.ocell HIX.out
          rw [HOV.out] at hov'
          cases hov'
          have hc1 := HT5.out.c1
          rw [HOV.out] at hc1
          have hz0 := HZC.out wr HB5.out
          have o2 := hO.c2
          have o3 := hO.c3
          have o4 := hO.c4
          have s0 := kp_cellD (Kp.draw wr 1) hz0
          have s1 := kp_cellD (Kp.draw wr 1) hc1
          have s2 := kp_cellD (Kp.draw wr 1) o2
          have s3 := kp_cellD (Kp.draw wr 1) o3
          have s4 := kp_cellD (Kp.draw wr 1) o4
          clear hO
          go_region_held3 (fun W => W.cell? ⟨g3, j, none⟩ = some (.int .i64 (x.a : Int)) ∧ W.cell? ⟨d.g, 1, none⟩ = some (.slice (some ⟨go, 0, none⟩) d.os.length cap) ∧ W.cell? ⟨go, ix * 8 + 2, none⟩ = some (.int .i64 (x.o.refs : Int)) ∧ W.cell? ⟨go, ix * 8 + 3, none⟩ = some (.int .i64 (x.o.data : Int)) ∧ W.cell? ⟨go, ix * 8 + 4, none⟩ = some (.int .i64 (x.o.kind : Int))) (go_keep)
            (first
              | (go_at_call 153; refine (r_words _ _ _ _).mono ?_; rintro e w7 ⟨rfl, K7⟩; rw [HWD.out]; have hk7 : Kp [] wr w7 := (Kp.chain (by first | exact Kp.draw _ _ | exact (Kp.draw wr 1).drewN _ | exact kp_drew_n (Kp.refl _ _)) K7); have HK7 := hid hk7; clear hk7; have u0 := kp_cellD K7 (by first | exact s0 | exact kp_cellD (Kp.draw _ _) s0); have u1 := kp_cellD K7 (by first | exact s1 | exact kp_cellD (Kp.draw _ _) s1); have u2 := kp_cellD K7 (by first | exact s2 | exact kp_cellD (Kp.draw _ _) s2); have u3 := kp_cellD K7 (by first | exact s3 | exact kp_cellD (Kp.draw _ _) s3); have u4 := kp_cellD K7 (by first | exact s4 | exact kp_cellD (Kp.draw _ _) s4); clear K7)
              | (go_at_call 141; refine (d_index (HT5.out.kp0 (Kp.draw _ 1)) _).mono ?_; rintro e w6 ⟨rfl, n6, rfl⟩; rw [HE.out]))
          all_goals (
            go_wp2
            go_roundw
            case rel => exact ⟨j + 1, by omega, by go_num, by rw [HSTEP.out, HWR.out], by rw [HSTEP.out]; exact own_kp0 HO5.out HK7.out, HB5.out.trans (HK7.out.below HB5.out.size (by simp))⟩
            case measure => simp [intOf]; omega)
      · obtain rfl : j = zs.length := by omega
        have hle := HLE.out zs.length
        have hend := HEND.out
        generalize h1 : (gpN m zs (64 * k) zs.length).2 = at1 at hend HO ⊢
        generalize h2 : (gpN m zs (64 * k) zs.length).1 = rs1 at hle HO ⊢
        have HA1 := hid h1
        have HR1 := hid h2
        have HSZ : Hid (w3.heap.size ≤ wr.heap.size) := HBE.out.size
        have hcast : ((k : Int) + 1) * 64 = ((64 * (k + 1) : Nat) : Int) := by omega
        clear h1 h2
        by_cases hgp : at1 < 64 * (k + 1)
        · have e1 : decide ((at1 : Int) < ((k : Int) + 1) * 64) = true := decide_eq_true (by omega)
          have HN : Hid _ := run_news wr (at1 : Int) (((k : Int) + 1) * 64 - (at1 : Int)) 0
          have NONE := run_news_one (at1 : Int) (((k : Int) + 1) * 64 - (at1 : Int))
          have HZ : Hid (((k : Int) + 1) * 64 - (at1 : Int) = ((64 * (k + 1) - at1 : Nat) : Int)) := by show _ = _; omega
          have HGA : Hid (gapAdd rs1 at1 (64 * (k + 1)) = rs1 ++ [(at1, 64 * (k + 1) - at1)]) := by show _ = _; unfold gapAdd; rw [if_neg (by omega)]
          clear hgp hcast
          go_wp2_with (at_builtin; refine wpList_append_own _ rfl (.tmp 68) (.tmp 74) 73 rfl w3.heap.size 76 i0 (.agg #[.int .i64 0, .int .i64 0]) 2 16 Tryz.underlying73 hi0 hz0 hz1 hz2 rfl (by decide) _ _ _ rfl (HO.out.alloc _) ⟨wr.heap.size, 0, none⟩ 1 1 [.int .i64 (at1 : Int), .int .i64 (((k : Int) + 1) * 64 - (at1 : Int))] rfl rfl HN.out NONE (by unfold maxLen; omega) (by omega) (by have := HSZ.out; simp; omega) ?_; intro v' w5 hown' hgr hnil; have HO5' := hid hown'; have HG5 := hid hgr; clear hown' hgr hnil)
          go_ret
          obtain ⟨v5, e5, own5, bel5⟩ : Grows w3.heap.size wr (rs1 ++ [(at1, 64 * (k + 1) - at1)]) (.returned v') w5 := by
            have h1 := HO5'.out
            have h2 := HG5.out
            rw [HZ.out] at h1 h2
            exact grows_end (n := 0) HSZ.out rfl HO.out h1 h2
          cases e5
          rw [HA1.out, HR1.out, HGA.out]
          exact ⟨_, rfl, own_base own5 HB3.out.size, HB3.out.trans (below_mono (HBE.out.trans bel5) HB3.out.size)⟩
        · obtain hat : at1 = 64 * (k + 1) := by omega
          have e1 : decide ((at1 : Int) < ((k : Int) + 1) * 64) = false := decide_eq_false (by omega)
          have HGA : Hid (gapAdd rs1 at1 (64 * (k + 1)) = rs1) := by show _ = _; unfold gapAdd; rw [if_pos hat]
          clear hgp hat hcast
          go_wp2
          go_ret
          rw [HA1.out, HR1.out, HGA.out]
          exact ⟨_, rfl, own_base HO.out HB3.out.size, HB3.out.trans (below_mono HBE.out HB3.out.size)⟩
  · have e : m.gapL i = [] := by unfold HM.gapL; rw [if_neg hb]
    rw [e]
    have hst : ((if inB m.bl.length i = true then (m.st i.toNat : Int) else -1) != 1) = true := by
      rw [bne_iff_ne]
      split
      · rename_i h1
        have : ¬ m.st i.toNat = 1 := fun h2 => hb ⟨h1, h2⟩
        omega
      · omega
    generalize hx : (if inB m.bl.length i = true then (m.st i.toNat : Int) else -1) = x at hst
    have HX := hid hx
    have HT := hid T
    clear hb e hx T I
    go_enter Tryz.func92, Tryz.ntmps92
    go_wp2_with (go_at_call 88; refine (d_state HT.out _).mono ?_; rintro e w' ⟨rfl, n1, rfl⟩; rw [HX.out])
    go_ret
    exact ⟨_, rfl, ⟨rfl, .inl ⟨rfl, rfl⟩⟩, below_drewN (Below.refl _ _) _⟩
end
end Go.Proofs.YtmkmnlmfpddjkaaGreat
