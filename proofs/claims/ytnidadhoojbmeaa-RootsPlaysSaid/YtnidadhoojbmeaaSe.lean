/-
  The contracts of the document's roots' Set, Push, Pop, Queue. Conditions: those that stand in each theorem.
-/
import Derived.Test.YtnidadhoojbmeaaSd
import Derived.Laws.AppendOwnNone
namespace Go.Proofs.Ytnidadhoojbmeaa
set_option linter.unusedVariables false
set_option linter.unusedSimpArgs false
open Go.RowKit Go.Deep Go.Maps

/-- What a call that changes the document's roots leaves. -/
def TChg (w : World) (b : TB) (M : RT) (w' : World) : Prop := ∃ b' : TB, b'.g = b.g ∧ TR w' b' M ∧ Kp b.all w w' ∧ ∀ x ∈ b'.all, x ∈ b.all ∨ w.heap.size ≤ x
section
variable {w w' W : World} {b : TB} {t : RT}
theorem TChg.same (T : TR w b t) (k : Kp [] w w') : TChg w b t w' := ⟨b, rfl, T.kp0 k, k.mono (by simp), fun x hx => .inl hx⟩
theorem TB.nd_mk (n1 : b.g ≠ b.sb) (n2 : b.g ≠ b.gb) (n3 : b.sb ≠ b.gb) (n4 : ∀ g, b.wv.ownBlock = some g → g ≠ b.g ∧ g ≠ b.sb ∧ g ≠ b.gb ∧ g ∉ b.rows) (n5 : b.g ∉ b.rows) (n6 : b.sb ∉ b.rows) (n7 : b.gb ∉ b.rows) (n8 : b.rows.Nodup) : b.all.Nodup := by
  simp only [TB.all, List.nodup_cons, List.mem_cons, List.mem_append, Option.mem_toList, not_or, List.nodup_append]
  refine ⟨⟨n1, n2, fun h => (n4 _ h).1 rfl, n5⟩, ⟨n3, fun h => (n4 _ h).2.1 rfl, n6⟩, ⟨fun h => (n4 _ h).2.2.1 rfl, n7⟩, ?_, n8, fun a ha c hc e => (n4 a (by simpa using ha)).2.2.2 (e ▸ hc)⟩
  cases b.wv.ownBlock <;> simp
theorem TR.setQ {v : Value} {q : List Int} (T : TR w b t) (hq : q.length ≤ 64) (k : Kp b.wv.ownBlock.toList w w') (own : w'.ownsRow 0 3 1 v q.length (zcells q)) (hn : ∀ g, v.ownBlock = some g → b.wv.ownBlock = some g ∨ w.heap.size ≤ g) :
    TR (w'.setCell ⟨b.g, 2, none⟩ v) { b with wv := v } { t with qu := q } := by
  obtain ⟨n1, n2, n3, n4, n5, n6, n7, n8⟩ := T.nd'
  obtain ⟨sp, h1, h2, B⟩ := T.S
  have ok := T.ok
  have hlt := T.lt
  have g4 : ∀ g, v.ownBlock = some g → g ≠ b.g ∧ g ≠ b.sb ∧ g ≠ b.gb ∧ g ∉ b.rows := fun g hg => by
    rcases hn g hg with h | h
    · exact n4 g h
    · have a1 := hlt b.g (by simp [TB.all])
      have a2 := hlt b.sb (by simp [TB.all])
      have a3 := hlt b.gb (by simp [TB.all])
      refine ⟨by omega, by omega, by omega, fun hm => ?_⟩
      have := hlt g (by simp [TB.all, hm])
      omega
  have kS : ∀ x, (∀ g, b.wv.ownBlock = some g → x ≠ g) → x ∉ b.wv.ownBlock.toList := fun x h hm => h x (by simpa using hm) rfl
  have k2 : Kp [b.g] w' (w'.setCell ⟨b.g, 2, none⟩ v) := Kp.cell w' ⟨b.g, 2, none⟩ v
  have G3 := (T.G.kp k (kS _ fun g hg e => (n4 g hg).1 e.symm)).set_ 2 v
  refine ⟨⟨ok.n1, ok.n4, ok.sl, ok.gl, hq⟩, TB.nd_mk n1 n2 n3 g4 n5 n6 n7 n8, T.rl, G3, ⟨sp, h1, h2, (B.kp k (kS _ fun g hg e => (n4 g hg).2.1 e.symm)).kp k2 (by simpa using n1.symm)⟩, fun i hi => (T.R i hi).imp fun sp B => (B.kp k (kS _ fun g hg e => (n4 g hg).2.2.2 (e ▸ T.mem_row hi))).kp k2 (by simp; intro e; exact n5 (e ▸ T.mem_row hi)), T.GL.imp fun sp B => (B.kp k (kS _ fun g hg e => (n4 g hg).2.2.1 e.symm)).kp k2 (by simpa using n2.symm), own_kps own k2 (fun g hg => by simpa using (g4 g hg).1)⟩
theorem TR.chgQ {v : Value} {q : List Int} (T : TR w b t) (hq : q.length ≤ 64) (k : Kp b.wv.ownBlock.toList w w') (own : w'.ownsRow 0 3 1 v q.length (zcells q)) (hn : ∀ g, v.ownBlock = some g → b.wv.ownBlock = some g ∨ w.heap.size ≤ g) :
    TChg w b { t with qu := q } (w'.setCell ⟨b.g, 2, none⟩ v) := by
  refine ⟨{ b with wv := v }, rfl, T.setQ hq k own hn, ?_, ?_⟩
  · exact k.trans (Kp.cell _ ⟨b.g, 2, none⟩ _) (fun x hx => .inl (by simp only [TB.all, List.mem_cons, List.mem_append]; exact .inr (.inr (.inr (.inl hx))))) (by simp [TB.all])
  · intro x hx
    simp only [TB.all, List.mem_cons, List.mem_append, Option.mem_toList] at hx ⊢
    rcases hx with h | h | h | h | h
    · exact .inl (.inl h)
    · exact .inl (.inr (.inl h))
    · exact .inl (.inr (.inr (.inl h)))
    · rcases hn x h with h | h
      · exact .inl (.inr (.inr (.inr (.inl h))))
      · exact .inr h
    · exact .inl (.inr (.inr (.inr (.inr h))))
set_option maxHeartbeats 2000000 in
set_option maxRecDepth 100000 in
theorem t_setp (T : TR w b t) (k m i v : Int) :
    Calls Try.prog 27 #[.pointer (some ⟨b.g, 0, none⟩), .agg #[.int .i64 k, .int .i64 m, .int .i64 i], .int .i64 v] w fun e w' => e = .returned (.int .i64 (t.setE k m i v)) ∧ TR w' b (t.setM k m i v) ∧ Kp b.all w w' := by
  have K0 := Kp.new w (.cells #[.int .i64 k, .int .i64 m, .int .i64 i] 33)
  have hb := Blk.new w 33 #[.int .i64 k, .int .i64 m, .int .i64 i]
  have HB := hid hb
  have HT := hid (T.kp0 K0)
  have HT0 := hid T
  have HK := hid K0
  have b0 := hb.cell 0
  have b1 := hb.cell 1
  have b2 := hb.cell 2
  rcases h : t.has k m i
  · have e2 : t.setE k m i v = 1 := by simp [RT.setE, h]
    have e1 : t.setM k m i v = t := by simp [RT.setM, e2]
    rw [e1, e2]
    have H := hid h
    clear h e1 e2 K0 hb T
    go_enter Try.func27, Try.ntmps27
    go_wp2_with (first
      | (go_at_call 26; refine (t_made HT.out).mono ?_; rintro e w' ⟨rfl, n1, rfl⟩; have HT2 := hid (HT.out.kp0 (Kp.draw _ n1)))
      | (go_at_call 45; refine (t_has HT2.out k m i).mono ?_; rintro e w2 ⟨rfl, K2⟩; rw [H.out]; have HK2 := hid ((HK.out.drewN n1).chain K2); clear K2))
    go_ret
    exact ⟨rfl, HT0.out.kp0 HK2.out, HK2.out.mono (by simp)⟩
  · have H := hid h
    by_cases hv : v < 0
    · have e2 : t.setE k m i v = 1 := by simp [RT.setE, h, hv]
      have e1 : t.setM k m i v = t := by simp [RT.setM, e2]
      rw [e1, e2]
      have hd : decide (v < 0) = true := decide_eq_true hv
      clear h e1 e2 K0 hb T
      go_enter Try.func27, Try.ntmps27
      go_wp2_with (first
        | (go_at_call 26; refine (t_made HT.out).mono ?_; rintro e w' ⟨rfl, n1, rfl⟩; have HT2 := hid (HT.out.kp0 (Kp.draw _ n1)))
        | (go_at_call 45; refine (t_has HT2.out k m i).mono ?_; rintro e w2 ⟨rfl, K2⟩; rw [H.out]; have HK2 := hid ((HK.out.drewN n1).chain K2); clear K2))
      go_ret
      exact ⟨rfl, HT0.out.kp0 HK2.out, HK2.out.mono (by simp)⟩
    · have hd : decide (v < 0) = false := decide_eq_false hv
      by_cases hz : v = 0 ∧ k = 2
      · have e2 : t.setE k m i v = 1 := by simp [RT.setE, h, hz]
        have e1 : t.setM k m i v = t := by simp [RT.setM, e2]
        rw [e1, e2]
        obtain ⟨rfl, rfl⟩ := hz
        clear h e1 e2 K0 hb T hv hd
        go_enter Try.func27, Try.ntmps27
        go_wp2_with (first
          | (go_at_call 26; refine (t_made HT.out).mono ?_; rintro e w' ⟨rfl, n1, rfl⟩; have HT2 := hid (HT.out.kp0 (Kp.draw _ n1)))
          | (go_at_call 45; refine (t_has HT2.out 2 m i).mono ?_; rintro e w2 ⟨rfl, K2⟩; rw [H.out]; have hb2 := (HB.out.kp (Kp.draw _ n1) (by simp)).kp K2 (by simp); have d0 := hb2.cell 0; have HK2 := hid ((HK.out.drewN n1).chain K2); clear K2 hb2))
        go_ret
        exact ⟨rfl, HT0.out.kp0 HK2.out, HK2.out.mono (by simp)⟩
      · have e2 : t.setE k m i v = 0 := by simp only [RT.setE, h, if_true]; rw [if_neg hv, if_neg hz]
        have e1 : t.setM k m i v = t.set k m i v := by simp [RT.setM, e2]
        rw [e1, e2]
        by_cases hv0 : v = 0
        · subst hv0
          have hk2 : (k == 2) = false := beq_eq_false_iff_ne.2 fun h2 => hz ⟨rfl, h2⟩
          clear h e1 e2 K0 hb T hv hz hd
          go_enter Try.func27, Try.ntmps27
          go_wp2_with (first
            | (go_at_call 26; refine (t_made HT.out).mono ?_; rintro e w' ⟨rfl, n1, rfl⟩; have HT2 := hid (HT.out.kp0 (Kp.draw _ n1)))
            | (go_at_call 45; refine (t_has HT2.out k m i).mono ?_; rintro e w2 ⟨rfl, K2⟩; rw [H.out]; have hb2 := (HB.out.kp (Kp.draw _ n1) (by simp)).kp K2 (by simp); have d0 := hb2.cell 0; have d1 := hb2.cell 1; have d2 := hb2.cell 2; have HT3 := hid (HT2.out.kp0 K2); have HK2 := hid ((HK.out.drewN n1).chain K2); clear K2 hb2)
            | (go_at_call 46; refine (t_set HT3.out k m i 0 H.out).mono ?_; rintro e w3 ⟨rfl, T3, K3⟩; have HT4 := hid T3; have HK3 := hid (HK2.out.chain0 K3); clear T3 K3))
          go_ret
          exact ⟨rfl, HT4.out, HK3.out⟩
        · have hv1 : (v == 0) = false := beq_eq_false_iff_ne.2 hv0
          clear h e1 e2 K0 hb T hv hz hv0
          go_enter Try.func27, Try.ntmps27
          go_wp2_with (first
            | (go_at_call 26; refine (t_made HT.out).mono ?_; rintro e w' ⟨rfl, n1, rfl⟩; have HT2 := hid (HT.out.kp0 (Kp.draw _ n1)))
            | (go_at_call 45; refine (t_has HT2.out k m i).mono ?_; rintro e w2 ⟨rfl, K2⟩; rw [H.out]; have hb2 := (HB.out.kp (Kp.draw _ n1) (by simp)).kp K2 (by simp); have d0 := hb2.cell 0; have d1 := hb2.cell 1; have d2 := hb2.cell 2; have HT3 := hid (HT2.out.kp0 K2); have HK2 := hid ((HK.out.drewN n1).chain K2); clear K2 hb2)
            | (go_at_call 46; refine (t_set HT3.out k m i v H.out).mono ?_; rintro e w3 ⟨rfl, T3, K3⟩; have HT4 := hid T3; have HK3 := hid (HK2.out.chain0 K3); clear T3 K3))
          go_ret
          exact ⟨rfl, HT4.out, HK3.out⟩
end
end Go.Proofs.Ytnidadhoojbmeaa
