/-
  The contract of the document's roots' Clone. Conditions: those that stand in each theorem.
-/
import Derived.Test.YtnidadhoojbmeaaUd
import Derived.Test.YtnidadhoojbmeaaSa
import Derived.Test.YtnidadhoojbmeaaUf
import Derived.Deep.DeepCutAuto
import Derived.Deep.AppendLies
namespace Go.Proofs.Ytnidadhoojbmeaa
set_option linter.unusedVariables false
set_option linter.unusedSimpArgs false
open Go.RowKit Go.Deep Go.Maps

/-- A new one, as the old one is. -/
def ClonedT (w : World) (t : RT) (e : Ending) (w' : World) : Prop :=
  ∃ c : TB, e = .returned (.pointer (some ⟨c.g, 0, none⟩)) ∧ TR w' c t ∧ Kp [] w w' ∧ ∀ x ∈ c.all, w.heap.size ≤ x
section
variable {w w' W V : World} {b : TB} {t : RT} {o1 o2 : Option (Nat ⊕ (Value × List Int))}
theorem TR.isG (T : TR W b t) : IsI W (.slice (some ⟨b.gb, 0, none⟩) 16 b.gc) t.gl :=
  ⟨_, b.gc, by rw [T.ok.gl], by rw [T.ok.gl]; unfold maxLen; omega, fun i hi => ⟨b.gb, 0, rfl, by rw [Nat.zero_add]; exact T.cg (by rw [T.ok.gl] at hi; exact hi)⟩⟩
theorem TR.isQ (T : TR W b t) : IsI W b.wv t.qu := IsI.of_own T.Q
theorem TR.nilQ (T : TR W b t) : ∀ n c, b.wv = .slice none n c → n = 0 ∧ c = 0 := fun n c e => by
  rcases T.q_form with ⟨hv, _⟩ | ⟨g, cap, hv, _⟩
  · rw [hv] at e; cases e; exact ⟨rfl, rfl⟩
  · rw [hv] at e; cases e
set_option maxRecDepth 100000 in
set_option maxHeartbeats 8000000 in
theorem t_clone (T : TR w b t) :
    Calls Try.prog 10 #[.pointer (some ⟨b.g, 0, none⟩)] w (ClonedT w t) := by
  have HT := hid T
  have U0 : FC w b t none none w := ⟨T, Kp.refl _ _, T.lt, (fun p hp => by cases hp), (fun p hp => by cases hp), (fun p hp => by cases hp), (fun p hp => by cases hp), (fun p q x hp => by cases hp)⟩
  have HU0 := hid U0
  have hgl : t.gl.length = 16 := T.ok.gl
  have hql := T.ok.qu
  have HGL := hid hgl
  have HQL := hid hql
  obtain ⟨j0, hj0, hy0, hy1, hy2⟩ := info_parts infoRow
  have h4 := T.ok.n4
  clear T U0 hgl hql
  go_enter Try.func10, Try.ntmps10
  go_upto_region 3 with (go_at_call 26; refine (t_made HT.out).mono ?_; rintro e w' ⟨rfl, n1, rfl⟩)
  have U1 := HU0.out.drewN n1
  revert U1
  generalize w.drewN n1 = W1
  intro U1
  go_cut [3] (fun s3 wx => ∃ (g : Nat) (gv qv : Value), s3 = .pointer (some ⟨g, 0, none⟩) ∧ CRow w b t g gv qv [] (.slice none 0 0) wx)
  case first =>
    have c1 : W1.drew.cell? ⟨b.g, 1, none⟩ = some (.slice (some ⟨b.gb, 0, none⟩) 16 b.gc) := U1.tr.c1
    have c2 : W1.drew.cell? ⟨b.g, 2, none⟩ = some b.wv := U1.tr.c2
    have x1 : W1.cell? ⟨b.g, 1, none⟩ = some (.slice (some ⟨b.gb, 0, none⟩) 16 b.gc) := U1.tr.c1
    have x2 : W1.cell? ⟨b.g, 2, none⟩ = some b.wv := U1.tr.c2
    go_region_held3 (fun W => W.cell? ⟨b.g, 1, none⟩ = some (.slice (some ⟨b.gb, 0, none⟩) 16 b.gc) ∧ W.cell? ⟨b.g, 2, none⟩ = some b.wv)
      (((try dsimp only); (repeat' apply And.intro) <;> first | assumption | exact cell_kp (Kp.new _ _) (by assumption) | exact cell_kp ((Kp.new _ _).drewN 1) (by assumption) | exact cell_kp (((Kp.new _ _).chain (Kp.new _ _)).drewN 1) (by assumption) | go_keep))
      (first
        | ((refine FC.step (by rfl) (.tmp 8) (.tmp 12) (by rfl) ((U1.new rfl).drewN 1) (by rfl) (by rfl) (TR.isG (FC.tr ((U1.new rfl).drewN 1))) (fun n c e => by cases e) (by rw [HGL.out]; omega) ?_); intro g5 c5 V5 hf; have P5 := hid hf; have d1 := hf.tr.c1; have d2 := hf.tr.c2; clear hf)
        | ((refine FC.step (by rfl) (.tmp 8) (.tmp 12) (by rfl) (((U1.new rfl).sw.new (g := W1.heap.size + 1) (by simp)).sw.drewN 1) (by rfl) (by rfl) (TR.isG (FC.tr (((U1.new rfl).sw.new (g := W1.heap.size + 1) (by simp)).sw.drewN 1))) (fun n c e => by cases e) (by rw [HGL.out]; omega) ?_); intro g5 c5 V5 hf; have P5 := hid hf; have d1 := hf.tr.c1; have d2 := hf.tr.c2; clear hf)
        | ((refine FC.step (by rfl) (.tmp 8) (.tmp 12) (by rfl) (((U1.sw.new rfl).sw.new (g := W1.heap.size + 1) (by simp)).drewN 1) (by rfl) (by rfl) (TR.isG (FC.tr (((U1.sw.new rfl).sw.new (g := W1.heap.size + 1) (by simp)).drewN 1))) (fun n c e => by cases e) (by rw [HGL.out]; omega) ?_); intro g5 c5 V5 hf; have P5 := hid hf; have d1 := hf.tr.c1; have d2 := hf.tr.c2; clear hf)
        | ((refine FC.step (by rfl) (.tmp 14) (.tmp 18) (by rfl) P5.out.sw (by rfl) (by rfl) (TR.isQ (FC.tr P5.out.sw)) (TR.nilQ (FC.tr P5.out.sw)) HQL.out ?_); intro g6 c6 V6 hf; have P6 := hid hf; have e1 := hf.tr.c1; have e2 := hf.tr.c2; clear hf)
        | ((refine FC.step (by rfl) (.tmp 14) (.tmp 18) (by rfl) (P5.out.sw.new rfl) (by rfl) (by rfl) (TR.isQ (FC.tr (P5.out.sw.new rfl))) (TR.nilQ (FC.tr (P5.out.sw.new rfl))) HQL.out ?_); intro g6 c6 V6 hf; have P6 := hid hf; have e1 := hf.tr.c1; have e2 := hf.tr.c2; clear hf))
    all_goals (
      have hN := FC.start P6.out rfl
      go_wp2_with fail
      go_meet
      exact ⟨_, _, _, rfl, hN⟩)
  case rest =>
    obtain ⟨g, gv, qv, rfl, N0⟩ := hcut
    have HN0 := hid N0
    clear N0 U1
    go_wp2
    go_loopw [4] (fun c wr => ∃ (k : Nat) (rows : List (Nat × Nat)) (sv : Value), k ≤ t.n ∧ c = .int .i64 (k : Int) ∧ rows.length = k ∧ CRow w b t g gv qv rows sv wr) (fun c _ => t.n - (intOf c).toNat)
    case atStart => exact ⟨0, [], .slice none 0 0, by omega, rfl, rfl, HN0.out⟩
    case round =>
      obtain ⟨k, rows, sv, hk, rfl, hlen, N⟩ := hrel
      subst hlen
      have HN := hid N
      have e0 : wr.cell? ⟨b.g, 0, none⟩ = some (.slice (some ⟨b.sb, 0, none⟩) t.n b.sc) := N.tr.c0
      by_cases hlt : rows.length < t.n
      · have c0 := N.G.cell 0
        have c0' : wr.cell? ⟨g, 0, none⟩ = some sv := c0
        have es := N.tr.cs hlt
        obtain ⟨rb, hrb⟩ : ∃ rb, rb = b.rows.getD rows.length 0 := ⟨_, rfl⟩
        obtain ⟨rc, hrc⟩ : ∃ rc, rc = b.caps rows.length := ⟨_, rfl⟩
        rw [← hrb, ← hrc] at es
        have h16 : (t.mrow rows.length).length = 16 := (mrow_get (i := 0) N.tr.ok hlt (by omega)).1
        have HIS : Hid (IsI wr (.slice (some ⟨rb, 0, none⟩) 16 rc) (t.mrow rows.length)) := by
          show IsI _ _ _
          rw [hrb, hrc]
          exact ⟨_, b.caps rows.length, by rw [h16], by rw [h16]; unfold maxLen; omega, fun i hi => ⟨b.rows.getD rows.length 0, 0, rfl, by rw [h16] at hi; rw [Nat.zero_add, N.tr.cr hlt hi, (mrow_get N.tr.ok hlt hi).2]⟩⟩
        have H16 := hid h16
        have HNE : Hid (b.g ≠ g ∧ b.sb ≠ g) := by
          have := N.lo b.g (by simp [TB.all])
          have := N.lo b.sb (by simp [TB.all])
          have := N.lg
          exact ⟨by omega, by omega⟩
        have HBS : Hid (w.heap.size ≤ wr.heap.size) := N.kp.size
        have HSV : Hid (∀ V, Kp [] wr V → V.ownsRow w.heap.size 34 1 sv rows.length (rows.map fun r => rowv r.1 r.2)) := fun V kk => own_kp0 HN.out.own kk
        have HGK : Hid (∀ V, Kp sv.ownBlock.toList wr V → V.cell? ⟨g, 0, none⟩ = some sv ∧ V.frozen? ⟨g, 0, none⟩ = false) := fun V kk => by
          have G2 := HN.out.G.kp kk (fun hm => HN.out.n1 g (by simpa using hm) (by simp [CL]))
          exact ⟨G2.cell 0, G2.frozen 0⟩
        have HEK : Hid (∀ V, Kp sv.ownBlock.toList wr V → V.cell? ⟨b.g, 0, none⟩ = some (.slice (some ⟨b.sb, 0, none⟩) t.n b.sc) ∧ V.cell? ⟨b.sb, rows.length, none⟩ = some (.slice (some ⟨rb, 0, none⟩) 16 rc)) := fun V kk => by
          have hno : ∀ x ∈ b.all, x ∉ sv.ownBlock.toList := fun x hx hm => by
            have := HN.out.lo x hx
            have := own_lo HN.out.own x (by simpa using hm)
            omega
          exact ⟨cell_kps kk e0 (hno _ (by simp [TB.all])), cell_kps kk es (hno _ (by simp [TB.all]))⟩
        clear N hrb hrc h16 c0
        go_wp2
        have hsz := HBS.out
        have HLIT : Hid (∀ V : World, Kp [] wr V → w.heap.size ≤ V.heap.size) := fun V k => Nat.le_trans HBS.out k.size
        have b1 : (wr.alloc (.cells #[] 3)).cell? ⟨g, 0, none⟩ = some sv := cell_kp (Kp.new _ _) c0'
        have b2 : (wr.alloc (.cells #[] 3)).cell? ⟨b.g, 0, none⟩ = some (.slice (some ⟨b.sb, 0, none⟩) t.n b.sc) := cell_kp (Kp.new _ _) e0
        have b3 : (wr.alloc (.cells #[] 3)).cell? ⟨b.sb, rows.length, none⟩ = some (.slice (some ⟨rb, 0, none⟩) 16 rc) := cell_kp (Kp.new _ _) es
        have HISL : Hid (IsI (wr.alloc (.cells #[] 3)).drew (.slice (some ⟨rb, 0, none⟩) 16 rc) (t.mrow rows.length)) := HIS.out.kp0 ((Kp.new _ _).drewN 1)
        have HBL : Hid (Blk (wr.alloc (.cells #[] 3)).drew wr.heap.size 3 #[]) := (Blk.new wr 3 #[]).kp (Kp.draw _ 1) (by simp)
        have NONE : ∀ g5 c5, ∀ u ∈ ([rowv g5 c5] : List Value), u.oneCell' = true := fun g5 c5 u hu => by
          simp at hu; subst hu; rfl
        have HNONE := hid NONE
        clear NONE
        go_region_law (first
          | (refine step_app_lit (by rfl) (.tmp 36) (.tmp 43) (by rfl) (g := wr.heap.size) (B := w.heap.size) (by rfl) (by rfl) HBL.out HBS.out HISL.out (fun n c e => by cases e) (by rw [H16.out]; omega) ?_; intro g5 c5 V5 own5 k5 hat5; rw [H16.out] at own5 ⊢; have h5 : wr.heap.size ≤ g5 := (by rcases hat5 with e | e; (· omega); (· simp [World.drew] at e; omega)); have k25 : Kp [] wr V5 := ((Kp.new wr (.cells #[] 3)).drewN 1).trans k5 (by simp) (fun x hx => .inr (by simp at hx; omega)); obtain ⟨z0, z1⟩ := HGK.out V5 (k25.mono (by simp)); obtain ⟨z2, z3⟩ := HEK.out V5 (k25.mono (by simp)); have y0 : (V5.alloc (.cells #[.slice (some ⟨g5, 0, none⟩) 16 c5] 34)).cell? ⟨g, 0, none⟩ = some sv := cell_kp (Kp.new _ _) z0; have H5 := hid (And.intro k25 (And.intro own5 h5)); have HN5 := hid (one_newV V5 (rowv g5 c5) 34); clear own5 k5 hat5 k25 h5)
          | (refine step_append_lies _ (by rfl) (.tmp 35) (.tmp 45) 60 (by rfl) w.heap.size 34 j0 (.slice none 0 0) 1 24 Try.underlying60 hj0 hy0 hy1 hy2 rfl (by omega) sv rows.length (rows.map fun r => rowv r.1 r.2) (by rfl) (HSV.out _ (H5.out.1.chain (Kp.new _ _))) ⟨V5.heap.size, 0, none⟩ 1 1 [rowv g5 c5] (by rfl) rfl HN5.out (HNONE.out _ _) (by omega) (by unfold maxLen; omega) (by omega) (by have := HLIT.out V5 H5.out.1; simp; omega) (V5.heap.size + 1) (by simp) ?_; intro g9 c9 w9 hown hgr hat hlt9; have k4 := Kp.of_grown hgr; obtain ⟨q0, q1⟩ := HGK.out w9 ((H5.out.1.chain (Kp.new _ _)).trans k4 (by simp) (fun x hx => .inl hx)); have HF := hid (HN.out.step H5.out.1 H5.out.2.1 H5.out.2.2 hown k4 hat); clear hown hgr hat hlt9 k4))
        all_goals (
          go_wp2
          go_roundw
          case rel => exact ⟨rows.length + 1, rows ++ [(g5, c5)], _, by omega, by go_num, by simp, HF.out⟩
          case measure => simp [intOf]; omega)
      · have hl : rows.length = t.n := by omega
        have HL := hid hl
        clear N
        have hl2 : ¬ (rows.length < t.n) := hlt
        clear hl
        go_wp2
        go_ret
        obtain ⟨tb, hg, T, lo⟩ := HN.out.done HL.out
        exact ⟨tb, by rw [hg]; rfl, T, HN.out.kp, lo⟩
end
end Go.Proofs.Ytnidadhoojbmeaa
