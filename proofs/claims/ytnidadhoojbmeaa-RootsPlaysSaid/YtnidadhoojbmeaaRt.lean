/-
  The contract of package roots' Leads: its walk, put together. Conditions: those that stand in each theorem.
-/
import Derived.Test.YtnidadhoojbmeaaRs
namespace Go.Proofs.Ytnidadhoojbmeaa
set_option linter.unusedVariables false
set_option linter.unusedSimpArgs false
open Go.RowKit Go.Deep Go.Maps Go.Shelf
attribute [local go_sem] Oper.semAt_some

section
variable {w w' W : World} {b : RB} {t : RT}
set_option maxRecDepth 100000 in
set_option maxHeartbeats 4000000 in
theorem r_leads (R : RR w b t) (hw : ∀ p ∈ t.xs, W64 (t.get (p.k : Int) (p.m : Int) (p.i : Int))) :
    Calls Try.prog 19 #[.pointer (some ⟨b.g, 0, none⟩)] w (RowP w.heap.size w (t.leads t.xs)) := by
  have HR := hid R
  have HW := hid hw
  clear R hw
  have hmm := @run_makeMap Try.prog
  refine (callsIn_wide (n := 3)).1 ?_
  refine callsIn_of_wp_marks Try.func19 rfl trivial ?_ rfl
  simp only [Try.ntmps19, List.size_toArray, List.length_cons, List.length_nil, Nat.reduceAdd, Nat.reduceSub, Array.replicate_succ, Array.replicate_zero, List.push_toArray, List.append_toArray, List.nil_append, List.cons_append]
  gi_wp2
  refine ⟨trivial, ?_⟩
  refine (callsIn_wide.2 (r_made HR.out)).mono ?_
  rintro e w1 ⟨rfl, n1, rfl⟩
  gi_wp2
  refine ⟨trivial, ?_⟩
  refine (callsIn_wide.2 (r_filled _ b)).mono ?_
  rintro e w2 ⟨rfl, rfl⟩
  clear hmm
  gi_wp2
  have HX := hid (xs_le HR.out.ok)
  have HOK := hid HR.out.ok
  obtain ⟨w0, hw0⟩ : ∃ w0, w0 = ((((w.drewN n1).alloc (.cells #[.slice none 0 0] 34)).alloc (.map #[] 0)).alloc (.cells #[.map (some (w.heap.size + 1))] 71)).alloc (.cells #[.pointer (some ⟨b.g, 0, none⟩)] 25) := ⟨_, rfl⟩
  have hI0 : ILd w b t w.heap.size (w.heap.size + 1) (w.heap.size + 2) (w.heap.size + 3) [] [] w0 := by
    have e1 := Blk.new (w.drewN n1) 34 #[.slice none 0 0]
    have e2 := bset_fresh ((w.drewN n1).alloc (.cells #[.slice none 0 0] 34))
    have e3 := Blk.new (((w.drewN n1).alloc (.cells #[.slice none 0 0] 34)).alloc (.map #[] 0)) 71 #[.map (some (w.heap.size + 1))]
    have e4 := Blk.new ((((w.drewN n1).alloc (.cells #[.slice none 0 0] 34)).alloc (.map #[] 0)).alloc (.cells #[.map (some (w.heap.size + 1))] 71)) 25 #[.pointer (some ⟨b.g, 0, none⟩)]
    have z1 : ((w.drewN n1).alloc (.cells #[.slice none 0 0] 34)).heap.size = w.heap.size + 1 := World.size_alloc ..
    have z2 : (((w.drewN n1).alloc (.cells #[.slice none 0 0] 34)).alloc (.map #[] 0)).heap.size = w.heap.size + 2 := by rw [World.size_alloc, z1]
    have z3 : ((((w.drewN n1).alloc (.cells #[.slice none 0 0] 34)).alloc (.map #[] 0)).alloc (.cells #[.map (some (w.heap.size + 1))] 71)).heap.size = w.heap.size + 3 := by rw [World.size_alloc, z2]
    rw [z1] at e2
    rw [z2] at e3
    rw [z3] at e4
    have k : Kp [] w w0 := by rw [hw0]; exact ((((Kp.draw w n1).chain (Kp.new _ _)).chain (Kp.new _ _)).chain (Kp.new _ _)).chain (Kp.new _ _)
    rw [hw0] at k ⊢
    exact ⟨⟨.slice none 0 0, 0, ((e1.kp (Kp.new _ _) (by simp)).kp (Kp.new _ _) (by simp)).kp (Kp.new _ _) (by simp), ⟨rfl, .inl ⟨rfl, rfl⟩⟩, (e2.kp (Kp.new _ _) (by simp)).kp (Kp.new _ _) (by simp), Nat.le_refl _, ⟨by simp, by simp, by simp⟩⟩, e3.kp (Kp.new _ _) (by simp), e4, HR.out.kp0 k, k⟩
  have hbm : w.heap.size + 1 < w0.heap.size := by rw [hw0]; simp [World.size_alloc, World.drewN]
  have hlo : w.heap.size ≤ w0.heap.size := by omega
  have HBM := hid hbm
  have HLO := hid hlo
  have HI0 := hid hI0
  rw [← hw0]
  clear hw0 hI0 hbm hlo
  refine range_iter rfl (by omega) (gf := 49) (lb := #[.pointer (some ⟨w.heap.size + 3, 0, none⟩)]) rfl trivial (enters_of Try.func49 (by kernel_rfl) rfl)
    (filled_iter HOK.out (w.heap.size + 3)) (fun _ => rfl) (ILd w b t w.heap.size (w.heap.size + 1) (w.heap.size + 2) (w.heap.size + 3)) (fun pre S W h => ⟨h.br, t, t.like_refl, h.rr⟩) (ILd.ab w b t _ _ _ _) (ILd.own_ HLO.out HBM.out) HI0.out
    (fun x a' W => a' = { tmps := #[.pointer (some ⟨b.g, 0, none⟩), undef, .slice none 0 0, .pointer (some ⟨w.heap.size, 0, none⟩), .pointer (some ⟨w.heap.size + 2, 0, none⟩), undef, .pointer (some (b.adr x)), .pointer (some ⟨b.g, 0, none⟩), .bool true, .bool false, .map (some (w.heap.size + 1)), .pointer (some ⟨b.g, 0, none⟩), .func (.func 49) #[] #[.pointer (some ⟨w.heap.size + 3, 0, none⟩)], x.val, .pointer (some (b.adr x)), undef, undef, undef, undef, undef, undef, undef, undef, undef, undef, undef, undef, undef, undef, undef, undef, undef], defers := [] }) ?ax ?assign ?body ?done
  case ax =>
    rintro x a' _ X Y row rfl hg hr
    rfl
  case assign =>
    intro l pre x S W K hI hK
    have HI := hid hI
    have HK := hid hK
    clear hI hK
    dsimp only [RB.encs]
    gi_wp2
    exact HK.out _ _ (keepsFrom_kp (Kp.refl [] _) (by simp)) (keepS_kp (Kp.refl [] _) (by simp)) HI.out rfl
  case body =>
    rintro l pre x S a' W hI rfl hpre
    have hxm : x ∈ t.xs := hpre.subset (by simp)
    obtain ⟨hhas, hget⟩ := mem_xs HOK.out hxm
    have hwy := HW.out x hxm
    have hsp := spot_adr hI.rr hhas
    have hca := hsp.cell W hI.rr
    obtain ⟨v, q, h1, h2, h3, h4, h5⟩ := hI.ex
    have cb := hI.bx.cell 0
    obtain ⟨y, hy⟩ : ∃ y, y = t.get (x.k : Int) (x.m : Int) (x.i : Int) := ⟨_, rfl⟩
    rw [← hy] at hca hwy
    obtain ⟨ad, had⟩ : ∃ ad, ad = b.adr x := ⟨_, rfl⟩
    rw [← had] at hca
    rw [← had]
    have HY := hid hy
    have HI := hid hI
    have H1 := hid h1
    have H2 := hid h2
    have H3 := hid h3
    have H4 := hid h4
    have H5 := hid h5
    have HWY := hid hwy
    have hlk := fun n => bset_look h3 hwy n
    have HLK := hid hlk
    have HXM := hid (hpre.length_le)
    rcases hcon : (t.leads pre).contains y
    · rw [hcon] at hlk
      have hlk1 : (Instr.lookup 71 (.map (some (w.heap.size + 1))) (.int .i64 y) false).run Try.prog W.drew = .ok (.bool false) W.drew := hlk 1
      obtain ⟨F, hF⟩ := bset_put h3 (show q < maxLen by have := HX.out; unfold maxLen; simp at HXM; have := HXM.out; omega) hwy
      obtain ⟨W2, hW2⟩ : ∃ W2, W2 = F 2 := ⟨_, rfl⟩
      have hrun : (Instr.mapUpdate 71 (.map (some (w.heap.size + 1))) (.int .i64 y) (.bool true)).run Try.prog W.drew.drew = .ok () W2 := by rw [hW2]; exact (hF 2).1
      have hrun' : (Instr.mapUpdate 71 (.map (some (w.heap.size + 1))) (.int .i64 y) (.bool true)).run Try.prog (W.drewN 2) = .ok () W2 := by rw [hW2]; exact (hF 2).1
      have hs2 : BSet W2 (w.heap.size + 1) (q + 1) (t.leads pre ++ [y]) := by rw [hW2]; exact (hF 2).2.1
      have hk2 : Kp [w.heap.size + 1] W W2 := by rw [hW2]; exact (hF 2).2.2
      have hab : ad.block ∉ [w.heap.size + 1] := fun hm => by
        have h9 := HR.out.lt ad.block (by rw [had]; exact hsp.blk)
        rw [List.mem_singleton] at hm
        omega
      have hne1 : w.heap.size ∉ [w.heap.size + 1] := by simp
      have hbl2 := h1.kp hk2 hne1
      have cl2 := hbl2.cell 0
      have fl2 := hbl2.frozen 0
      have hg2 : ∀ g ∈ v.ownBlock.toList, g ∉ [w.heap.size + 1] := fun g hg hm => by
        have e := own_isC h2 g hg
        simp at hm
        subst hm
        obtain ⟨D, ⟨es, clock, hb, _⟩, _⟩ := h3.own_
        have := e _ hb
        cases this
      have ho2 := own_kps h2 hk2 (fun g hg => hg2 g (by simp [hg]))
      have hca2 : W2.cell? ad = some (.int .i64 y) := by
        have := hsp.cell W2 (HI.out.rr.kp hk2 (fun z hz hm => by have := HR.out.lt z hz; simp at hm; omega))
        rw [had, this, hy]
      have HFIN : Hid (∀ g9 c9 w9, w9.ownsRow w.heap.size 3 1 (.slice (some ⟨g9, 0, none⟩) ((t.leads pre).length + 1) c9) ((t.leads pre).length + 1) (zcells (t.leads pre) ++ [.int .i64 y]) → Kp v.ownBlock.toList W2 w9 → ((Value.slice (some ⟨g9, 0, none⟩) ((t.leads pre).length + 1) c9).ownBlock = v.ownBlock ∨ (Value.slice (some ⟨g9, 0, none⟩) ((t.leads pre).length + 1) c9).ownBlock = some (W2.heap.size + 1)) →
          KeepsFrom w0.heap.size W (w9.setCell ⟨w.heap.size, 0, none⟩ (.slice (some ⟨g9, 0, none⟩) ((t.leads pre).length + 1) c9)) ∧ KeepS S W (w9.setCell ⟨w.heap.size, 0, none⟩ (.slice (some ⟨g9, 0, none⟩) ((t.leads pre).length + 1) c9)) ∧
          ILd w b t w.heap.size (w.heap.size + 1) (w.heap.size + 2) (w.heap.size + 3) (pre ++ [x]) S (w9.setCell ⟨w.heap.size, 0, none⟩ (.slice (some ⟨g9, 0, none⟩) ((t.leads pre).length + 1) c9))) := by
        intro g9 c9 w9 hown' hk9 hat
        have e : t.leads (pre ++ [x]) = t.leads pre ++ [y] := by rw [leads_snoc, ← hy, if_neg (by rw [hcon]; simp)]
        have kc : Kp [w.heap.size] w9 (w9.setCell ⟨w.heap.size, 0, none⟩ (.slice (some ⟨g9, 0, none⟩) ((t.leads pre).length + 1) c9)) := Kp.cell w9 ⟨w.heap.size, 0, none⟩ _
        have hvb : ∀ g ∈ v.ownBlock.toList, g ≠ w.heap.size := fun g hg e => by
          rcases h2.2 with ⟨hv, _⟩ | ⟨g', c', cur', hv, _, hb', _⟩
          · rw [hv] at hg; simp [Value.ownBlock] at hg
          · rw [hv] at hg; simp [Value.ownBlock] at hg; subst hg; exact Blk.ne_ (show Blk W g _ cur' from hb') h1 (by decide) e
        have kA : Kp ((w.heap.size + 1) :: w.heap.size :: v.ownBlock.toList) W (w9.setCell ⟨w.heap.size, 0, none⟩ (.slice (some ⟨g9, 0, none⟩) ((t.leads pre).length + 1) c9)) :=
          (hk2.trans hk9 (U := (w.heap.size + 1) :: w.heap.size :: v.ownBlock.toList) (fun z hz => .inl (by simp at hz; simp [hz])) (fun z hz => .inl (by simp [hz]))).trans kc (fun z hz => .inl hz) (fun z hz => .inl (by simp at hz; simp [hz]))
        have hge : ∀ z ∈ (w.heap.size + 1) :: w.heap.size :: v.ownBlock.toList, w.heap.size ≤ z := fun z hz => by
          simp only [List.mem_cons] at hz
          rcases hz with rfl | rfl | hz
          · omega
          · exact Nat.le_refl _
          · rcases h2.2 with ⟨hv, _⟩ | ⟨g', c', cur', hv, hle, hb', _⟩
            · rw [hv] at hz; simp [Value.ownBlock] at hz
            · rw [hv] at hz; simp [Value.ownBlock] at hz; subst hz; omega
        have hbl9 := hbl2.kp hk9 (fun hm => hvb _ hm rfl)
        have hlt2 := hs2.lt
        have hne9 : g9 ≠ w.heap.size := by
          rcases hown'.2 with ⟨hv, _⟩ | ⟨g', c', cur', hv, _, hb', _⟩
          · cases hv
          · cases hv
            exact Blk.ne_ (show Blk w9 _ _ cur' from hb') hbl9 (by decide)
        have hs9 := (hs2.kp hk9 (fun hm => hg2 _ hm (by simp))).kp kc (by simp)
        refine ⟨keepsFrom_kp2 kA (fun z hz => ?_), keepS_kp kA (fun z hz => h5.ne_ z ?_), ⟨⟨.slice (some ⟨g9, 0, none⟩) ((t.leads pre).length + 1) c9, q + 1, ?_, ?_, ?_, ?_, ?_⟩, ?_, ?_, ?_, ?_⟩⟩
        · simp only [List.mem_cons] at hz
          rcases hz with rfl | rfl | hz
          · exact .inl HBM.out
          · exact .inr h1.isC
          · exact .inr (own_isC h2 z hz)
        · simp only [List.mem_cons] at hz
          simp only [List.mem_cons, List.mem_append]
          rcases hz with rfl | rfl | hz
          · exact .inr (.inr (.inr (.inl rfl)))
          · exact .inl rfl
          · exact .inr (.inr (.inr (.inr (.inl hz))))
        · exact hbl9.set_ 0 _
        · rw [e, List.length_append]
          have := own_kps hown' kc (fun g hg => by simp [Value.ownBlock] at hg; subst hg; simpa using hne9)
          simpa [zcells] using this
        · rw [e]; exact hs9
        · rw [List.length_append]; simp; omega
        · refine h5.more kA.size (fun z hz => ?_)
          simp only [List.mem_cons, List.mem_append] at hz ⊢
          rcases hz with h | h | h | h | h | h
          · exact .inl (.inl h)
          · exact .inl (.inr (.inl h))
          · exact .inl (.inr (.inr (.inl h)))
          · exact .inl (.inr (.inr (.inr (.inl h))))
          · rcases hat with e | e
            · exact .inl (.inr (.inr (.inr (.inr (.inl (by rw [← e]; exact h))))))
            · rw [e] at h; simp at h; have := hk2.size; exact .inr (by omega)
          · exact .inl (.inr (.inr (.inr (.inr (.inr h)))))
        · exact hI.bx.kp kA (fun hm => by
            simp only [List.mem_cons] at hm
            rcases hm with h | h | h
            · omega
            · omega
            · rcases h2.2 with ⟨hv, _⟩ | ⟨g', c', cur', hv, _, hb', _⟩
              · rw [hv] at h; simp [Value.ownBlock] at h
              · rw [hv] at h; simp [Value.ownBlock] at h
                exact Blk.ne_ hI.bx (show Blk W g' _ cur' from hb') (by decide) h)
        · exact hI.br.kp kA (fun hm => by
            simp only [List.mem_cons] at hm
            rcases hm with h | h | h
            · omega
            · omega
            · rcases h2.2 with ⟨hv, _⟩ | ⟨g', c', cur', hv, _, hb', _⟩
              · rw [hv] at h; simp [Value.ownBlock] at h
              · rw [hv] at h; simp [Value.ownBlock] at h
                exact Blk.ne_ hI.br (show Blk W g' _ cur' from hb') (by decide) h)
        · exact hI.rr.kp kA (fun z hz hm => by have := HR.out.lt z hz; have := hge z hm; omega)
        · exact hI.kp.trans kA (U := []) (by simp) (fun z hz => .inr (hge z hz))
      have HLL : Hid ((t.leads pre).length ≤ 384) := by
        have h8 := leads_le t pre
        have h9 := HXM.out
        have h10 := HX.out
        simp at h9
        show _ ≤ _
        omega
      have HSZ := hid (Nat.le_trans HI.out.kp.size hk2.size)
      have HC := hid hcon
      have HS2 := hid hs2
      have HK2 := hid hk2
      have HBL2 := hid hbl2
      have HO2 := hid ho2
      have HG2 := hid hg2
      clear hcon hI h1 h2 h3 h4 h5 hy had hsp hhas hget hxm hpre hwy hF hW2 hs2 hk2 hab hne1 hbl2 hg2 ho2
      gi_wp2
      gi_region_with (fail)
      all_goals (
        gi_wp2
        gi_region_with (fail))
      all_goals gi_wp2
      all_goals (
        refine leads9 HBL2.out HO2.out HLL.out HSZ.out hca2 ?_
        intro g9 c9 w9 z26 z27 hown' hk9 hat
        gi_wp2
        exact HFIN.out g9 c9 w9 hown' hk9 hat)
    · rw [hcon] at hlk
      have hlk1 : (Instr.lookup 71 (.map (some (w.heap.size + 1))) (.int .i64 y) false).run Try.prog W.drew = .ok (.bool true) W.drew := hlk 1
      have HE : Hid (∀ n, ILd w b t w.heap.size (w.heap.size + 1) (w.heap.size + 2) (w.heap.size + 3) (pre ++ [x]) S (W.drewN n)) := fun n => by
        have k := Kp.draw W n
        have e : t.leads (pre ++ [x]) = t.leads pre := by rw [leads_snoc, ← HY.out, if_pos hcon]
        exact ⟨⟨v, q, h1.kp k (by simp), by rw [e]; exact own_kp0 h2 k, by rw [e]; exact h3.kp k (by simp), by rw [List.length_append]; omega, h5.more k.size (fun x hx => .inl hx)⟩, HI.out.bx.kp k (by simp), HI.out.br.kp k (by simp), HI.out.rr.kp0 k, HI.out.kp.chain k⟩
      clear hcon hI h1 h2 h3 h4 h5 hy had hsp hhas hget hxm hpre hwy HLK
      gi_wp2
      gi_region_with (fail)
      all_goals (
        gi_wp2
        exact ⟨keepsFrom_kp (Kp.draw W _) (by simp), keepS_kp (Kp.draw W _) (by simp), HE.out _⟩)
  case done =>
    rintro D S W hD h hDK
    obtain ⟨v, q, h1, h2, h3, h4, h5⟩ := h.ex
    have cl := h1.cell 0
    have H2 := hid h2
    have HKP := hid h.kp
    clear h h1 h2 h3 h5
    gi_wp2
    refine ⟨by simp, .inl ⟨_, _, rfl, run_takeDeferred hDK, ?_⟩⟩
    exact ⟨_, results_tmp rfl _ _ _, v, rfl, Go.ownsRow_putObj H2.out _ hDK rfl, (HKP.out.trans (Kp.put W D _) (U := [D]) (by simp) (fun x hx => .inl hx)).below (Nat.le_refl _) (fun x hx => by simp at hx; have := HLO.out; omega)⟩
end
end Go.Proofs.Ytnidadhoojbmeaa
