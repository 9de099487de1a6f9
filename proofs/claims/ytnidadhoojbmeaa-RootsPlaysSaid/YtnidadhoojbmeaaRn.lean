/-
  The contract of package roots' Replace where it replaces. Conditions: those that stand in each theorem.
-/
import Derived.Test.YtnidadhoojbmeaaRm
namespace Go.Proofs.Ytnidadhoojbmeaa
set_option linter.unusedVariables false
set_option linter.unusedSimpArgs false
open Go.RowKit Go.Deep Go.Maps Go.Shelf
attribute [local go_sem] Oper.semAt_some

section
variable {w w' : World} {b : RB} {t : RT}
set_option maxRecDepth 100000 in
set_option maxHeartbeats 4000000 in
theorem r_replace (R : RR w b t) {f tt : List Int} {vf vt : Value} (hf : IsO b.all w vf f) (ht : IsO b.all w vt tt) (hl : f.length = tt.length) (hpf : posB f = true) (hpt : posB tt = true) (hri : risB f = true) (hb : f.length < 4611686018427387904) :
    Calls Try.prog 20 #[.pointer (some ⟨b.g, 0, none⟩), vf, vt] w fun e w' => e = .returned (.tuple #[.int .i64 ((t.reps f tt t.xs).2 : Int), .int .i64 0]) ∧ RR w' b (t.reps f tt t.xs).1 ∧ Kp b.all w w' := by
  have HR := hid R
  have HF := hid hf
  have HT := hid ht
  have HL := hid hl
  have HPF := hid hpf
  have HPT := hid hpt
  have HRI := hid hri
  have HBD := hid hb
  have HX := hid (xs_le R.ok)
  have HOK := hid R.ok
  obtain ⟨Af, cf, rfl, hf1, _⟩ := hf
  obtain ⟨At, ct, rfl, ht1, _⟩ := ht
  unfold maxLen at hf1 ht1
  have hne : (f.length != tt.length) = false := bne_eq_false_iff_eq.2 hl
  have hne2 : ((f.length : Int) != (tt.length : Int)) = false := bne_eq_false_iff_eq.2 (by omega)
  clear R hl hpf hpt hri
  refine (callsIn_wide (n := 4)).1 ?_
  refine callsIn_of_wp_marks Try.func20 rfl trivial ?_ rfl
  simp only [Try.ntmps20, List.size_toArray, List.length_cons, List.length_nil, Nat.reduceAdd, Nat.reduceSub, Array.replicate_succ, Array.replicate_zero, List.push_toArray, List.append_toArray, List.nil_append, List.cons_append]
  have K2 : Kp [] w ((w.alloc (.cells #[.slice Af f.length cf] 34)).alloc (.cells #[.slice At tt.length ct] 34)) := (Kp.new _ _).chain (Kp.new _ _)
  have hbf2 : Blk ((w.alloc (.cells #[.slice Af f.length cf] 34)).alloc (.cells #[.slice At tt.length ct] 34)) w.heap.size 34 #[.slice Af f.length cf] := (Blk.new w 34 _).kp (Kp.new _ _) (by simp)
  have hbt2 : Blk ((w.alloc (.cells #[.slice Af f.length cf] 34)).alloc (.cells #[.slice At tt.length ct] 34)) (w.heap.size + 1) 34 #[.slice At tt.length ct] := by
    have := Blk.new (w.alloc (.cells #[.slice Af f.length cf] 34)) 34 #[.slice At tt.length ct]
    simpa using this
  have HK2 := hid K2
  have HBF2 := hid hbf2
  have HBT2 := hid hbt2
  have hsz2 : ((w.alloc (.cells #[.slice Af f.length cf] 34)).alloc (.cells #[.slice At tt.length ct] 34)).heap.size = w.heap.size + 2 := by simp
  have HSZ2 := hid hsz2
  clear K2 hbf2 hbt2 hsz2
  gi_wp2
  generalize ((w.alloc (.cells #[.slice Af f.length cf] 34)).alloc (.cells #[.slice At tt.length ct] 34)) = w2 at *
  refine ⟨trivial, ?_⟩
  refine (callsIn_wide.2 (r_made (HR.out.kp0 HK2.out))).mono ?_
  rintro e w3 ⟨rfl, n1, rfl⟩
  have K3 := hid (HK2.out.drewN n1)
  have BF3 := hid (HBF2.out.kp (Kp.draw _ n1) (by simp))
  have BT3 := hid (HBT2.out.kp (Kp.draw _ n1) (by simp))
  have SZ3 : Hid ((w2.drewN n1).heap.size = w.heap.size + 2) := HSZ2.out
  have c3 := BF3.out.cell 0
  have d3 := BT3.out.cell 0
  generalize w2.drewN n1 = w3 at *
  gi_wp2
  refine ⟨trivial, ?_⟩
  refine (callsIn_wide.2 (r_addresses ((HF.out.kp (K3.out.mono (by simp)))))).mono ?_
  rintro e w4 ⟨rfl, KN⟩
  rw [HPF.out]
  have K4 := hid (K3.out.chain KN)
  have BF4 := hid (BF3.out.kp KN (by simp))
  have BT4 := hid (BT3.out.kp KN (by simp))
  have c4 := BF4.out.cell 0
  have d4 := BT4.out.cell 0
  clear KN c3 d3
  gi_wp2
  refine ⟨trivial, ?_⟩
  refine (callsIn_wide.2 (r_addresses ((HT.out.kp (K4.out.mono (by simp)))))).mono ?_
  rintro e w5 ⟨rfl, KN⟩
  rw [HPT.out]
  have K5 := hid (K4.out.chain KN)
  have BF5 := hid (BF4.out.kp KN (by simp))
  have BT5 := hid (BT4.out.kp KN (by simp))
  have c5 := BF5.out.cell 0
  have d5 := BT5.out.cell 0
  clear KN c4 d4
  gi_wp2
  refine ⟨trivial, ?_⟩
  refine (callsIn_wide.2 (r_rising ((HF.out.kp (K5.out.mono (by simp)))))).mono ?_
  rintro e w6 ⟨rfl, KN⟩
  rw [HRI.out]
  have K6 := hid (K5.out.chain KN)
  have BF6 := hid (BF5.out.kp KN (by simp))
  have BT6 := hid (BT5.out.kp KN (by simp))
  have c6 := BF6.out.cell 0
  have d6 := BT6.out.cell 0
  clear KN c5 d5
  gi_wp2
  refine ⟨trivial, ?_⟩
  have KN : Kp [] w6 (w6.alloc (.cells #[.int .i64 0] 3)) := Kp.new _ _
  have K7 := hid (K6.out.chain KN)
  have BF7 := hid (BF6.out.kp KN (by simp))
  have BT7 := hid (BT6.out.kp KN (by simp))
  have BC7 := hid (Blk.new w6 3 #[.int .i64 0])
  have Z7 : Hid ((w6.alloc (.cells #[.int .i64 0] 3)).heap.size = w6.heap.size + 1) := World.size_alloc ..
  clear KN
  generalize w6.alloc (.cells #[.int .i64 0] 3) = w7 at *
  refine (callsIn_wide.2 (r_filled _ b)).mono ?_
  rintro e w8 ⟨rfl, rfl⟩
  have KN : Kp [] w7 (w7.alloc (.cells #[.pointer (some ⟨b.g, 0, none⟩)] 25)) := Kp.new _ _
  have K8 := hid (K7.out.chain KN)
  have BF8 := hid (BF7.out.kp KN (by simp))
  have BT8 := hid (BT7.out.kp KN (by simp))
  have BC8 := hid (BC7.out.kp KN (by simp))
  have BR8 := hid (Blk.new w7 25 #[.pointer (some ⟨b.g, 0, none⟩)])
  clear KN
  obtain ⟨w8, hw8⟩ : ∃ w8, w8 = w7.alloc (.cells #[.pointer (some ⟨b.g, 0, none⟩)] 25) := ⟨_, rfl⟩
  rw [← hw8] at K8 BF8 BT8 BC8 BR8
  have hlo : w.heap.size ≤ w6.heap.size := K6.out.size
  have N6 : Hid (w.heap.size + 1 < w6.heap.size) := BT6.out.lt
  have hlo7 : w.heap.size ≤ w7.heap.size := K7.out.size
  have HLO := hid hlo
  have HLO7 := hid hlo7
  have hI0 : IRp w b t f tt (.slice Af f.length cf) (.slice At tt.length ct) w6.heap.size w7.heap.size [] [] w8 := ⟨BF8.out, BT8.out, BC8.out, BR8.out, HR.out.kp0 K8.out, t.like_refl, K8.out.mono (by simp), ⟨by simp, by simp, by simp⟩⟩
  have hw8s : w.heap.size ≤ w8.heap.size := K8.out.size
  have HW8S := hid hw8s
  have HI0 := hid hI0
  rw [← hw8]
  clear hw8 hI0 hw8s hlo hlo7 c6 d6
  gi_wp2
  refine range_iter rfl (by omega) (gf := 49) (lb := #[.pointer (some ⟨w7.heap.size, 0, none⟩)]) rfl trivial (enters_of Try.func49 (by kernel_rfl) rfl)
    (filled_iter HOK.out w7.heap.size) (fun _ => rfl) (IRp w b t f tt (.slice Af f.length cf) (.slice At tt.length ct) w6.heap.size w7.heap.size) (fun pre S W h => ⟨h.br, _, h.lk, h.rr⟩) (IRp.ab w b t _ _ _ _ _ _) (IRp.own_ HW8S.out) HI0.out
    (fun x a' W => a' = { tmps := #[.pointer (some ⟨b.g, 0, none⟩), .slice Af f.length cf, .slice At tt.length ct, undef, .pointer (some ⟨w.heap.size, 0, none⟩), .pointer (some ⟨w.heap.size + 1, 0, none⟩), .int .i64 0, .int .i64 0, .pointer (some ⟨w6.heap.size, 0, none⟩), undef, .pointer (some (b.adr x)), undef, undef, .pointer (some ⟨b.g, 0, none⟩), .bool true, .bool false, .slice Af f.length cf, .int .i64 (f.length : Int), .slice At tt.length ct, .int .i64 (tt.length : Int), .bool false, .bool false, .slice Af f.length cf, .bool true, .bool false, .bool false, .bool false, .slice At tt.length ct, .bool true, .bool false, .bool false, .bool false, .slice Af f.length cf, .bool true, .bool false, .bool false, .pointer (some ⟨b.g, 0, none⟩), .func (.func 49) #[] #[.pointer (some ⟨w7.heap.size, 0, none⟩)], x.val, .pointer (some (b.adr x)), undef, undef, undef, undef, undef, undef, undef, undef, undef, undef, undef, undef, undef, undef, undef, undef, undef, undef], defers := [] }) ?ax ?assign ?body ?done
  case ax =>
    rintro x a' _ X Y row rfl hg hr
    rfl
  case assign =>
    intro l pre x S W K hI hK
    have HI := hid hI
    have HK := hid hK
    clear hI hK
    dsimp only [RB.encs]
    gi_wp2
    exact HK.out _ _ (keepsFrom_kp (Kp.refl [] _) (by simp)) (keepS_kp (Kp.refl [] _) (by simp)) HI.out rfl
  case body =>
    rintro l pre x S a' W hI rfl hpre
    have hxm : x ∈ t.xs := hpre.subset (by simp)
    have hn0 := List.Nodup.sublist hpre.sublist (nodup_xs t)
    obtain ⟨hhas, hget⟩ := mem_xs HOK.out hxm
    have hsp := spot_adr hI.rr (by rw [like_has hI.lk]; exact hhas)
    have hca := hsp.cell W hI.rr
    have hfa := hsp.frz W hI.rr
    have hbl := hsp.blk
    have HSP := hid hsp
    have HI := hid hI
    have cb := hI.bf.cell 0
    have ct' := hI.bt.cell 0
    have cc := hI.bc.cell 0
    have fc := hI.bc.frozen 0
    obtain ⟨y, hy⟩ : ∃ y, y = (t.reps f tt pre).1.get (x.k : Int) (x.m : Int) (x.i : Int) := ⟨_, rfl⟩
    rw [← hy] at hca
    have HY := hid hy
    have HLEN : Hid ((t.reps f tt pre).2 ≤ 384) := Nat.le_trans (reps_le _ _ _ _) (by
      have := hpre.length_le
      have := HX.out
      simp at *
      omega)
    obtain ⟨q, hq⟩ : ∃ q, q = (t.reps f tt pre).2 := ⟨_, rfl⟩
    rw [← hq] at cc
    have HQ := hid hq
    obtain ⟨ad, had⟩ : ∃ ad, ad = b.adr x := ⟨_, rfl⟩
    rw [← had] at hca hfa hbl
    rw [← had]
    have HAD := hid had
    have HHAS := hid hhas
    have HGET := hid hget
    clear hI hsp hy hq had hhas hget hpre hxm hn0
    have HBS : Hid (∀ W', Kp [] W W' → Calls Try.prog 43 #[.slice Af f.length cf, .int .i64 y] W' fun e w' => e = .returned (.tuple #[.int .i64 (f.countP (· < y) : Nat), .bool (f.contains y)]) ∧ ∃ q, w' = W'.drewN q) := fun W' k =>
      (bs_int (HF.out.kp (HI.out.kp.trans k (U := b.all) (fun x hx => .inl hx) (by simp))) HRI.out HBD.out y).mono (by rintro e w' ⟨rfl, q, rfl⟩; exact ⟨rfl, q, rfl⟩)
    rcases hcon : f.contains y
    · rw [hcon] at HBS
      have HE : Hid (∀ nq, IRp w b t f tt (.slice Af f.length cf) (.slice At tt.length ct) w6.heap.size w7.heap.size (pre ++ [x]) S (W.drewN nq)) := fun nq => by
        have k := Kp.draw W nq
        have h := HI.out.kps (S' := S) k (by simp) (by simp) (HI.out.ap.more k.size (fun x hx => .inl hx))
        have e : t.reps f tt (pre ++ [x]) = t.reps f tt pre := by
          rw [reps_snoc]
          unfold RT.rep1
          rw [← HY.out, if_neg (by rw [hcon]; decide)]
        exact ⟨h.bf, h.bt, by rw [e]; exact h.bc, h.br, by rw [e]; exact h.rr, by rw [e]; exact h.lk, h.kp, h.ap⟩
      clear hcon
      gi_wp2
      gi_region_with (refine ⟨trivial, ?_⟩; refine ((callsIn_wide.2 (HBS.out _ (Kp.draw _ 1))).inRound l).mono ?_; rintro e W5 ⟨rfl, nq, rfl⟩)
      all_goals (
        gi_wp2
        exact ⟨keepsFrom_kp (Kp.draw W _) (by simp), keepS_kp (Kp.draw W _) (by simp), HE.out _⟩)
    · rw [hcon] at HBS
      have hck := countP_lt hcon
      obtain ⟨kk, hkk⟩ : ∃ kk, kk = f.countP (· < y) := ⟨_, rfl⟩
      rw [← hkk] at HBS hck
      have HCON := hid hcon
      have HKK := hid hkk
      have hkt : kk < tt.length := by have := HL.out; omega
      have hkt2 : (kk : Int) < (tt.length : Int) := by omega
      obtain ⟨z, hz⟩ : ∃ z, z = tt.getD kk 0 := ⟨_, rfl⟩
      have HZ := hid hz
      have HTC : Hid (∃ g o, At = some ⟨g, o, none⟩ ∧ ∀ W', Kp b.all w W' → W'.cell? ⟨g, o + kk, none⟩ = some (.int .i64 z)) := by
        obtain ⟨A, c, he, h1, h2⟩ := HT.out
        cases he
        obtain ⟨g, o, e, hn, c⟩ := h2 kk hkt
        exact ⟨g, o, e, fun W' k => by rw [hz]; exact cell_kps k c hn⟩
      obtain ⟨g, o, rfl, htc⟩ := HTC.out
      have hcz := fun nq => htc (W.drewN nq) (HI.out.kp.trans (Kp.draw W nq) (U := b.all) (fun x hx => .inl hx) (by simp))
      have hbne : w6.heap.size ≠ ad.block := fun e => by
        have := HR.out.lt _ hbl
        have := HLO.out
        omega
      have hcc : ∀ nq, ((W.drewN nq).setCell ad (.int .i64 z)).cell? ⟨w6.heap.size, 0, none⟩ = some (.int .i64 (q : Int)) := fun nq => by
        have := (HI.out.bc.kp (Kp.draw W nq) (by simp)).kp (Kp.cell (W.drewN nq) ad (.int .i64 z)) (by simpa using hbne)
        rw [this.cell 0, HQ.out]; rfl
      have hq384 : q ≤ 384 := by rw [HQ.out]; exact HLEN.out
      have hff : ∀ nq, ((W.drewN nq).setCell ad (.int .i64 z)).frozen? ⟨w6.heap.size, 0, none⟩ = false := fun nq => by
        have := (HI.out.bc.kp (Kp.draw W nq) (by simp)).kp (Kp.cell (W.drewN nq) ad (.int .i64 z)) (by simpa using hbne)
        exact this.frozen 0
      have HE : Hid (∀ nq, IRp w b t f tt (.slice Af f.length cf) (.slice (some ⟨g, o, none⟩) tt.length ct) w6.heap.size w7.heap.size (pre ++ [x]) S (((W.drewN nq).setCell ad (.int .i64 z)).setCell ⟨w6.heap.size, 0, none⟩ (.int .i64 ((q : Int) + 1))) ∧ Kp (w6.heap.size :: b.all) W (((W.drewN nq).setCell ad (.int .i64 z)).setCell ⟨w6.heap.size, 0, none⟩ (.int .i64 ((q : Int) + 1)))) := fun nq => by
        have e : t.reps f tt (pre ++ [x]) = ((t.reps f tt pre).1.set (x.k : Int) (x.m : Int) (x.i : Int) z, q + 1) := by
          rw [reps_snoc]
          unfold RT.rep1
          rw [← HY.out, if_pos HCON.out, ← HKK.out, ← HZ.out, ← HQ.out]
        have k0 := Kp.draw W nq
        have h := HI.out.kps (S' := S) k0 (by simp) (by simp) (HI.out.ap.more k0.size (fun x hx => .inl hx))
        have k1 := Kp.cell (W.drewN nq) ad (.int .i64 z)
        have k2 := Kp.cell ((W.drewN nq).setCell ad (.int .i64 z)) ⟨w6.heap.size, 0, none⟩ (.int .i64 ((q : Int) + 1))
        have hR := HSP.out.set_ (W.drewN nq) z h.rr
        rw [← HAD.out] at hR
        have hall : ∀ x ∈ b.all, x < w.heap.size := HR.out.lt
        have hlo := HLO.out
        have hlo7 := HLO7.out
        have h6 : ∀ x ∈ b.all, x ∉ [w6.heap.size] := fun x hx hm => by
          have := hall x hx; simp at hm; omega
        have ha : ad.block < w.heap.size := hall _ hbl
        have n1 : w.heap.size ∉ [ad.block] := by simp; omega
        have n2 : w.heap.size + 1 ∉ [ad.block] := by simp; omega
        have n3 : w6.heap.size ∉ [ad.block] := by simp; omega
        have n4 : w7.heap.size ∉ [ad.block] := by simp; omega
        have m1 : w.heap.size ∉ [w6.heap.size] := by have := N6.out; simp; omega
        have m2 : w.heap.size + 1 ∉ [w6.heap.size] := by have := N6.out; simp; omega
        have m4 : w7.heap.size ∉ [w6.heap.size] := by have := Z7.out; simp; omega
        have kk : Kp (w6.heap.size :: b.all) W (((W.drewN nq).setCell ad (.int .i64 z)).setCell ⟨w6.heap.size, 0, none⟩ (.int .i64 ((q : Int) + 1))) :=
          (k0.trans k1 (U := b.all) (by simp) (fun x hx => .inl (by simp at hx; rw [hx]; exact hbl))).trans k2 (fun x hx => .inl (List.mem_cons_of_mem _ hx)) (fun x hx => .inl (by simp at hx; simp [hx]))
        have hbc := ((h.bc.kp k1 n3).set_ 0 (.int .i64 ((q : Int) + 1)))
        refine ⟨⟨(h.bf.kp k1 n1).kp k2 m1, (h.bt.kp k1 n2).kp k2 m2, ?_, (h.br.kp k1 n4).kp k2 m4, ?_, ?_, ?_, HI.out.ap.more kk.size (fun x hx => .inl hx)⟩, kk⟩
        · rw [e]; exact hbc
        · rw [e]; exact hR.kp k2 h6
        · rw [e]
          have := like_set (v := z) HI.out.lk (fun e => HGET.out ((like_get HI.out.lk _ _ _).1 e)) (by rw [HZ.out]; exact to_pos HPT.out hkt)
          exact this
        · exact HI.out.kp.trans kk (fun x hx => .inl hx) (fun x hx => (List.mem_cons.1 hx).elim (fun h => .inr (by omega)) .inl)
      have HDJ : Hid (∀ x ∈ w6.heap.size :: b.all, x ∉ S) := fun x hx => HI.out.ap.ne_ x (by
        simp only [List.mem_cons] at hx ⊢
        rcases hx with h | h
        · exact .inr (.inr (.inl h))
        · exact .inr (.inr (.inr (.inr h))))
      have HIC : Hid (∀ x ∈ w6.heap.size :: b.all, ∀ o, W.heap[x]? = some o → o.isCells = true) := fun x hx => HI.out.isC x (by
        simp only [List.mem_cons] at hx ⊢
        rcases hx with h | h
        · exact .inr (.inr (.inl h))
        · exact .inr (.inr (.inr (.inr h))))
      clear hcon hkk hz htc HTC hck hbne
      gi_wp2
      gi_region_with (refine ⟨trivial, ?_⟩; refine ((callsIn_wide.2 (HBS.out _ (Kp.draw _ 1))).inRound l).mono ?_; rintro e W5 ⟨rfl, nq, rfl⟩)
      all_goals (
        gi_wp2
        exact ⟨keepsFrom_kp (HE.out _).2 HIC.out, keepS_kp (HE.out _).2 HDJ.out, (HE.out _).1⟩)
  case done =>
    rintro D S W hD h hDK
    have cc := h.bc.cell 0
    have HH := hid h
    clear h
    gi_wp2
    refine ⟨by simp, .inl ⟨_, _, rfl, run_takeDeferred hDK, ?_⟩⟩
    have kp := Kp.put W D (.deferred none)
    have hD2 : w.heap.size ≤ D := Nat.le_trans HW8S.out hD
    have hall := HR.out.lt
    exact ⟨_, results_tmp2 rfl _ _ _, rfl, HH.out.rr.kp kp (fun x hx hm => by have := hall x hx; simp at hm; omega), HH.out.kp.trans kp (fun x hx => .inl hx) (fun x hx => .inr (by simp at hx; omega))⟩
end
end Go.Proofs.Ytnidadhoojbmeaa
