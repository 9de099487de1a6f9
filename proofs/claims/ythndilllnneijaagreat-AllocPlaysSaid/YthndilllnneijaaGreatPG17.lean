/-
  The contract of package heap's Retag. Conditions: those that stand in the theorem.
-/
import Derived.Test.YthndilllnneijaaGreatPG9
import Derived.BigQuiet
import Derived.Test.YthndilllnneijaaGreatPG16
import Derived.Test.YthndilllnneijaaGreatPG11
import Derived.Test.YthndilllnneijaaGreatPG7
set_option linter.unusedSimpArgs false
set_option linter.unusedVariables false
set_option maxHeartbeats 2000000
namespace Go.Proofs.YthndilllnneijaaGreat
open Go.RowKit Go.Deep Go.Maps
def HM.retagE (m : HM) (i s : Int) : Int := if blkB m.bl.length i then (if spcB s then (if clmB (m.st i.toNat) then 0 else 5) else 1) else 1
def HM.retagM (m : HM) (i s : Int) : HM := if m.retagE i s = 0 then m.setBl (spaceL m.bl i.toNat s.toNat (grpEnd m.bl i.toNat - i.toNat)) else m
section
variable {w w' : World} {b : HB} {r : RM} {m : HM} {q : Nat}
theorem h_retag (h : SH w b q m) (i s : Int) :
   Calls Tryz.prog 64 #[.pointer (some ⟨b.g, 0, none⟩), .int .i64 i, .int .i64 s] w fun e w' => e = .returned (.int .i64 (m.retagE i s)) ∧ SH w' b q (m.retagM i s) ∧ Kp b.all w w' := by
 have h0 := h
 have I := h.inv
 obtain ⟨r, R, A, hq1, hq2⟩ := h
 have hbl := A.bl
 rcases hx : blkB m.bl.length i
 · have e0 : m.retagE i s = 1 := by simp [HM.retagE, hx]
   have e1 : m.retagM i s = m := by simp [HM.retagM, e0]
   rw [e0, e1]
   rw [← hbl] at hx
   have HX := hid hx
   clear e0 e1 hx hbl A
   go_enter Tryz.func64, Tryz.ntmps64
   go_wp2_with (first | (go_at_call 55; refine (h_made R).mono ?_; rintro e w' ⟨rfl, n1, rfl⟩) | (go_at_call 125; refine (h_canBeUsed (R.drewN _) _).mono ?_; rintro e w' ⟨rfl, n2, rfl⟩; rw [HX.out]))
   go_ret
   exact ⟨rfl, h0.drewN _, (Kp.draw w _).mono (by simp)⟩
 obtain ⟨k, rfl, hk1, hk2⟩ := blkB_nat hx
 have HX : Hid (blkB r.bl.length (k : Int) = true) := by rw [hbl]; exact hx
 have hk2' : k < r.bl.length := by rw [hbl]; exact hk2
 rcases hs : spcB s
 · have e0 : m.retagE (k : Int) s = 1 := by simp [HM.retagE, hx, hs]
   have e1 : m.retagM (k : Int) s = m := by simp [HM.retagM, e0]
   rw [e0, e1]
   have HS := hid hs
   clear e0 e1 hx hbl A hs
   go_enter Tryz.func64, Tryz.ntmps64
   go_wp2_with (first | (go_at_call 55; refine (h_made R).mono ?_; rintro e w' ⟨rfl, n1, rfl⟩) | (go_at_call 125; refine (h_canBeUsed (R.drewN _) _).mono ?_; rintro e w' ⟨rfl, n2, rfl⟩; rw [HX.out]) | (go_at_call 135; refine (h_isSpace _ _).mono ?_; rintro e w' ⟨rfl, n3, rfl⟩; rw [HS.out]))
   go_ret
   exact ⟨rfl, h0.drewN _, (Kp.draw w _).mono (by simp)⟩
 obtain ⟨s, rfl⟩ : ∃ y : Nat, s = (y : Int) := ⟨s.toNat, by have := of_decide_eq_true hs; omega⟩
 have HS := hid hs
 have HC : Hid (∀ n, Calls Tryz.prog 126 #[.pointer (some ⟨b.g, 0, none⟩), .int .i64 (k : Int)] (w.drewN n) fun e w' => e = .returned (.bool (clmB (m.st k))) ∧ ∃ n2, w' = (w.drewN n).drewN n2) := fun n => by
   have := h_isClaimed (R.drewN n) k hk2'
   rw [hbl] at this
   exact this
 rcases hc : clmB (m.st k)
 · have e0 : m.retagE (k : Int) (s : Int) = 5 := by simp [HM.retagE, hx, hs, hc]
   have e1 : m.retagM (k : Int) (s : Int) = m := by simp [HM.retagM, e0]
   rw [e0, e1]
   rw [hc] at HC
   clear e0 e1 hx hbl A hc hs
   go_enter Tryz.func64, Tryz.ntmps64
   go_wp2_with (first | (go_at_call 55; refine (h_made R).mono ?_; rintro e w' ⟨rfl, n1, rfl⟩) | (go_at_call 125; refine (h_canBeUsed (R.drewN _) _).mono ?_; rintro e w' ⟨rfl, n2, rfl⟩; rw [HX.out]) | (go_at_call 135; refine (h_isSpace _ _).mono ?_; rintro e w' ⟨rfl, n3, rfl⟩; rw [HS.out]) | (go_at_call 126; refine (HC.out _).mono ?_; rintro e w' ⟨rfl, n3, rfl⟩))
   go_ret
   exact ⟨rfl, h0.drewN _, (Kp.draw w _).mono (by simp)⟩
 have hcs : m.st k = 1 ∨ m.st k = 2 := of_decide_eq_true hc
 rw [hc] at HC
 have e0 : m.retagE (k : Int) (s : Int) = 0 := by simp [HM.retagE, hx, hs, hc]
 have e1 : m.retagM (k : Int) (s : Int) = m.setBl (spaceL m.bl k s (grpEnd m.bl k - k)) := by unfold HM.retagM; rw [e0]; rfl
 rw [e0, e1]
 obtain ⟨g1, g2, g3, g4⟩ := (grpEnd_iff m.bl k _ hk2).1 rfl
 have A2 := A.setBl (spaceL_length m.bl k s (grpEnd m.bl k - k)) (retag_inv I hk1 (by omega) (fun j hj => by
   rcases j with _ | j
   · show m.st k ≠ 0; omega
   · have h3 := g3 (k + (j + 1)) (by omega) (by omega)
     have : m.st (k + (j + 1)) = 3 := h3
     omega))
 have HA2 := hid A2
 have HGP : Hid (∀ W, Raw W b r → Calls Tryz.prog 127 #[.pointer (some ⟨b.g, 0, none⟩), .int .i64 (k : Int)] W fun e w' => e = .returned (.slice (some ⟨b.hb, k * 2, none⟩) (grpEnd m.bl k - k) (r.cb - k)) ∧ ∃ n, w' = W.drewN n) := fun W RW => by
   have := h_group RW k hk2'
   rw [hbl] at this
   exact this
 have hgl : k + (grpEnd m.bl k - k) ≤ r.bl.length := by rw [hbl]; omega
 have hg64 : grpEnd m.bl k - k ≤ 64 := by have := R.bl64; omega
 have HBL := hid hbl
 have hcb := R.cb1
 have hcm := R.cb2
 unfold maxLen at hcm
 clear e0 e1 hx hbl A hc A2 hcs g1 g2 g3 g4 hs
 generalize hgn : grpEnd m.bl k - k = gn at HGP hgl hg64
 have HGN := hid hgn
 clear hgn
 go_enter Tryz.func64, Tryz.ntmps64
 go_wp2_with (first | (go_at_call 55; refine (h_made R).mono ?_; rintro e w' ⟨rfl, n1, rfl⟩) | (go_at_call 125; refine (h_canBeUsed (R.drewN _) _).mono ?_; rintro e w' ⟨rfl, n2, rfl⟩; rw [HX.out]) | (go_at_call 135; refine (h_isSpace _ _).mono ?_; rintro e w' ⟨rfl, n3, rfl⟩; rw [HS.out]) | (go_at_call 126; refine (HC.out _).mono ?_; rintro e w' ⟨rfl, n3, rfl⟩) | (go_at_call 127; refine (HGP.out _ (R.drewN _)).mono ?_; rintro e w' ⟨rfl, n5, rfl⟩))
 go_loopw [30] (fun c wr => ∃ j : Nat, j ≤ gn ∧ c = .int .i64 (j : Int) ∧ Raw wr b { r with bl := spaceL r.bl k s j } ∧ Kp [b.hb] w wr) (fun c _ => gn - (intOf c).toNat)
 case atStart => exact ⟨0, by omega, rfl, R.drewN _, (Kp.draw w _).mono (by simp)⟩
 case round =>
   obtain ⟨j, hj, rfl, R2, K2⟩ := hrel
   by_cases hlt : j < gn
   · have a2 := R2.spc (k := k + j) (by simp; omega)
     have f2 := R2.Bb.frozen (k * 2 + j * 2 + 1)
     rw [show (k + j) * 2 + 1 = k * 2 + j * 2 + 1 by omega] at a2
     generalize (({ r with bl := spaceL r.bl k s j } : RM).bl.getD (k + j) (0, 0)).2 = x2 at a2
     have HR2 := hid R2
     have HK2 := hid K2
     clear R2 K2
     go_wp2
     go_roundw
     case rel =>
       have hB := HR2.out.Bb.set_ (k * 2 + j * 2 + 1) (.int .i64 (s : Int))
       have hBs := bcells_set1 (spaceL r.bl k s j) r.spb (k + j) s (by simp; omega)
       rw [show (k + j) * 2 + 1 = k * 2 + j * 2 + 1 by omega] at hBs
       have hB2 : Blk (wr.setCell ⟨b.hb, k * 2 + j * 2 + 1, none⟩ (.int .i64 (s : Int))) b.hb 104 (bcells (spaceL r.bl k s (j + 1)) ++ r.spb).toArray := by
         show Blk _ _ _ (bcells ((spaceL r.bl k s j).set (k + j) (((spaceL r.bl k s j).getD (k + j) (0, 0)).1, s)) ++ r.spb).toArray
         rw [← hBs]; exact hB
       have KK : Kp [b.hb] wr _ := Kp.cell wr ⟨b.hb, k * 2 + j * 2 + 1, none⟩ (.int .i64 (s : Int))
       exact ⟨j + 1, by omega, by go_num, HR2.out.setB (bl := spaceL r.bl k s (j + 1)) hB2 (by simp) KK, HK2.out.trans KK (by simp) (by simp)⟩
     case measure => simp [intOf]; omega
   · obtain rfl : j = gn := by omega
     have HR2 := hid R2
     have HK2 := hid K2
     clear R2 K2
     go_wp2
     go_ret
     refine ⟨rfl, ⟨_, HR2.out, ?_, hq1, hq2⟩, HK2.out.all b (by simp [HB.all])⟩
     have := HA2.out
     rw [HGN.out] at this
     rw [HBL.out]
     exact this
end
section
variable {w w' : World} {b : HB} {r : RM} {m : HM} {q : Nat}
end
def HM.Tl (m : HM) : Prop := ∀ b, m.st (b + 1) = 3 → m.st b = 2 ∨ m.st b = 3
structure BW (w wr : World) (d : DB) (bl : List (Nat × Nat)) : Prop where
 B : ∃ sp, (bcells bl ++ sp).length = 2 * d.bc ∧ Blk wr d.bb 146 (bcells bl ++ sp).toArray
 kp : Kp [d.bb] w wr
section
variable {w w' W wr : World} {d : DB} {q : Nat} {m : HM} {bl : List (Nat × Nat)}
theorem BW.start (T : DR w d q m) (k : Kp [] w W) : BW w W d m.bl := by
 obtain ⟨sp, h1, h2, h3, B⟩ := T.B
 exact ⟨⟨sp, h3, B.kp k (by simp)⟩, k.mono (by simp)⟩
theorem BW.next (h : BW w wr d bl) (k : Kp [] wr W) : BW w W d bl := ⟨h.B.imp fun sp B => ⟨B.1, B.2.kp k (by simp)⟩, h.kp.chain k⟩
theorem kp_in {S : List Nat} {a b c : World} (h : Kp S a b) (k : Kp S b c) : Kp S a c := h.trans k (fun x hx => .inl hx) (fun x hx => .inl hx)
theorem BW.set (h : BW w wr d bl) {i : Nat} (hi : i < bl.length) (x y : Nat) : BW w ((wr.setCell ⟨d.bb, i * 2, none⟩ (.int .i64 (x : Int))).setCell ⟨d.bb, i * 2 + 1, none⟩ (.int .i64 (y : Int))) d (bl.set i (x, y)) := by
 obtain ⟨sp, h3, B⟩ := h.B
 refine ⟨⟨sp, ?_, ?_⟩, kp_in (kp_in h.kp (Kp.cell wr ⟨d.bb, i * 2, none⟩ _)) (Kp.cell _ ⟨d.bb, i * 2 + 1, none⟩ _)⟩
 · rw [← h3]; simp [bcells_length]
 · have := (B.set_ (i * 2) (.int .i64 (x : Int))).set_ (i * 2 + 1) (.int .i64 (y : Int))
   rw [bcells_set bl sp i x y hi] at this
   exact this
theorem BW.set0 (h : BW w wr d bl) {i : Nat} (hi : i < bl.length) (x : Nat) : BW w (wr.setCell ⟨d.bb, i * 2, none⟩ (.int .i64 (x : Int))) d (bl.set i (x, (bl.getD i (0, 0)).2)) := by
 obtain ⟨sp, h3, B⟩ := h.B
 refine ⟨⟨sp, ?_, ?_⟩, kp_in h.kp (Kp.cell wr ⟨d.bb, i * 2, none⟩ _)⟩
 · rw [← h3]; simp [bcells_length]
 · have := B.set_ (i * 2) (.int .i64 (x : Int))
   rw [bcells_set0 bl sp i x hi] at this
   exact this
theorem BW.set1 (h : BW w wr d bl) {i : Nat} (hi : i < bl.length) (y : Nat) : BW w (wr.setCell ⟨d.bb, i * 2 + 1, none⟩ (.int .i64 (y : Int))) d (bl.set i ((bl.getD i (0, 0)).1, y)) := by
 obtain ⟨sp, h3, B⟩ := h.B
 refine ⟨⟨sp, ?_, ?_⟩, kp_in h.kp (Kp.cell wr ⟨d.bb, i * 2 + 1, none⟩ _)⟩
 · rw [← h3]; simp [bcells_length]
 · have := B.set_ (i * 2 + 1) (.int .i64 (y : Int))
   rw [bcells_set1 bl sp i y hi] at this
   exact this
theorem BW.done (h : BW w wr d bl) (T : DR w d q m) (hl : bl.length = m.bl.length) (I : (m.setBl bl).Inv) : DChg w d q (m.setBl bl) wr := by
 obtain ⟨n1, n2, n3, n4, n5, n6⟩ := T.nd'
 obtain ⟨sp, h3, B⟩ := h.B
 obtain ⟨sp0, g1, g2, g3, B0⟩ := T.B
 have k := h.kp
 refine ⟨d, rfl, ⟨I, ⟨T.lst.up, T.lst.mem⟩, ⟨T.fws.nd, T.fws.mem, T.fws.len⟩, T.nd, T.fq, T.bq, ?_, ⟨sp, ?_, g2, h3, B⟩, own_kpS T.O k (fun y hy => by simpa using (n2 y hy).2.1), own_kpS T.F k (fun y hy => by simpa using (n3 y hy).2.1), fun x hx => ?_⟩, k.mono (fun y hy => .inl (by simp at hy; subst hy; simp [DB.all])), fun x hx => .inl hx⟩
 · have := T.G.kp k (by simpa using n1)
   show Blk _ _ _ #[.slice (some ⟨d.bb, 0, none⟩) bl.length d.bc, _, _, _]
   rw [hl]
   exact this
 · show bl.length ≤ _
   rw [hl]; exact g1
 · have h := T.R x hx
   have e1 : x.rb ≠ d.bb := fun e => n5 (rowsOf_mem.2 ⟨x, hx, .inl e.symm⟩)
   have e2 : x.db ≠ d.bb := fun e => n5 (rowsOf_mem.2 ⟨x, hx, .inr e.symm⟩)
   exact ⟨h.1.imp fun sp B => B.kp k (by simpa using e1), h.2.imp fun sp B => B.kp k (by simpa using e2)⟩
theorem BW.c0 (h : BW w wr d bl) (T : DR w d q m) : wr.cell? ⟨d.g, 0, none⟩ = some (.slice (some ⟨d.bb, 0, none⟩) m.bl.length d.bc) := cell_kps h.kp T.c0 (by simpa using T.nd'.1)
theorem BW.s (h : BW w wr d bl) {i : Nat} (hi : i < bl.length) : wr.cell? ⟨d.bb, i * 2, none⟩ = some (.int .i64 ((bl.getD i (0, 0)).1 : Int)) := by
 obtain ⟨sp, h3, B⟩ := h.B
 exact (B.cell _).trans (bcells_get0 hi)
theorem BW.p (h : BW w wr d bl) {i : Nat} (hi : i < bl.length) : wr.cell? ⟨d.bb, i * 2 + 1, none⟩ = some (.int .i64 ((bl.getD i (0, 0)).2 : Int)) := by
 obtain ⟨sp, h3, B⟩ := h.B
 exact (B.cell _).trans (bcells_get1 hi)
theorem BW.f (h : BW w wr d bl) (j : Nat) : wr.frozen? ⟨d.bb, j, none⟩ = false := by
 obtain ⟨sp, h3, B⟩ := h.B
 exact B.frozen j
theorem claimL_one (bl : List (Nat × Nat)) (b s st : Nat) : claimL bl b 1 s st = bl.set b (st, s) := by
 simp [claimL, rangeL]
theorem Tl.grp (t : m.Tl) {k : Nat} (hk : k < m.bl.length) (h : m.st k = 1) : grpEnd m.bl k = k + 1 :=
 (grpEnd_iff m.bl k (k + 1) hk).2 ⟨Nat.le_refl _, by omega, fun i h1 h2 => by omega, fun h1 h2 => by
   have := t k h2
   omega⟩
theorem whole_grp (t : m.Tl) {k : Nat} (hk : k < m.bl.length) (h : m.st k = 1 ∨ m.st k = 2) : wholeN m.bl k = grpEnd m.bl k - k := by
 rcases h with h | h
 · have h' : (m.bl.getD k (0, 0)).1 = 1 := h
   unfold wholeN
   rw [if_pos h', Tl.grp t hk h]
   omega
 · have h' : (m.bl.getD k (0, 0)).1 = 2 := h
   unfold wholeN
   rw [if_neg (by rw [h']; decide), if_pos h']
theorem d_Claim (T : DR w d q m) (x s : Int) :
   Calls Tryz.prog 61 #[.pointer (some ⟨d.g, 0, none⟩), .int .i64 x, .int .i64 s] w fun e w' => e = .returned (.int .i64 (m.claimE x 1 s)) ∧ DChg w d q (m.claimM x 1 s 1) w' := by
 have HT := hid T
 obtain ⟨l1, l2, l3, l4⟩ := T.n_bd
 unfold maxLen at l4
 rcases hb : blkB m.bl.length x
 · have e1 : m.claimE x 1 s = 1 := by simp [HM.claimE, claimOk, hb]
   have e2 : m.claimM x 1 s 1 = m := by simp [HM.claimM, e1]
   rw [e1, e2]
   have HB := hid hb
   clear T hb e1 e2
   go_enter Tryz.func61, Tryz.ntmps61
   go_wp2_with (first
     | (go_at_call 60; refine (d_made HT.out).mono ?_; rintro e w' ⟨rfl, n1, rfl⟩)
     | (go_at_call 132; refine (d_block (HT.out.drewN n1) x).mono ?_; rintro e w' ⟨rfl, n2, rfl⟩; rw [HB.out]))
   go_ret
   exact ⟨rfl, DChg.same HT.out (by first | exact Kp.draw _ _ | exact (Kp.draw _ _).drewN _ | exact ((Kp.draw _ _).drewN _).drewN _ | exact (((Kp.draw _ _).drewN _).drewN _).drewN _)⟩
 · rcases hs : spcB s
   · have e1 : m.claimE x 1 s = 1 := by simp [HM.claimE, claimOk, hs]
     have e2 : m.claimM x 1 s 1 = m := by simp [HM.claimM, e1]
     rw [e1, e2]
     have HB := hid hb
     have HS := hid hs
     clear T hb hs e1 e2
     go_enter Tryz.func61, Tryz.ntmps61
     go_wp2_with (first
       | (go_at_call 60; refine (d_made HT.out).mono ?_; rintro e w' ⟨rfl, n1, rfl⟩)
       | (go_at_call 132; refine (d_block (HT.out.drewN n1) x).mono ?_; rintro e w' ⟨rfl, n2, rfl⟩; rw [HB.out])
       | (go_at_call 133; refine (d_space _ s).mono ?_; rintro e w' ⟨rfl, n3, rfl⟩; rw [HS.out]))
     go_ret
     exact ⟨rfl, DChg.same HT.out (by first | exact Kp.draw _ _ | exact (Kp.draw _ _).drewN _ | exact ((Kp.draw _ _).drewN _).drewN _ | exact (((Kp.draw _ _).drewN _).drewN _).drewN _)⟩
   · obtain ⟨k, rfl, hk1, hk2⟩ := blkB_nat hb
     obtain ⟨s, rfl⟩ : ∃ z : Nat, s = (z : Int) := ⟨s.toNat, by have := of_decide_eq_true hs; omega⟩
     have hcl : m.claimE (k : Int) 1 (s : Int) = takenE m k 1 := by
       unfold HM.claimE claimOk
       rw [hb, hs, decide_eq_true (by omega)]
       rfl
     have HB := hid hb
     have HS := hid hs
     have hc := T.c0
     have hst := T.stc hk2
     have BS := BW.start T (Kp.refl [] w)
     have hsp := BS.p hk2
     have hf0 := BS.f (k * 2)
     have hf1 := BS.f (k * 2 + 1)
     have HBS := hid (fun n => (BS.next (Kp.draw w n)).set hk2 1 s)
     by_cases h0 : m.st k = 0
     · have ht : takenE m k 1 = 0 := by
         unfold takenE
         rw [freeB_true.2 (fun i hi => by rw [show k + i = k by omega]; exact h0), if_pos rfl]
       have e2 : m.claimM (k : Int) 1 (s : Int) 1 = m.setBl (m.bl.set k (1, s)) := by
         unfold HM.claimM
         rw [hcl, if_pos ht]
         show m.setBl (claimL m.bl (k : Int).toNat (1 : Int).toNat (s : Int).toNat 1) = _
         rw [Int.toNat_natCast, Int.toNat_natCast, show (1 : Int).toNat = 1 from rfl, claimL_one]
       have HI : Hid ((m.setBl (m.bl.set k (1, s))).Inv) := by
         have := claim_inv T.inv (b := k) (n := 1) (s := s) (st := 1) hk1 (Nat.le_refl _) (by omega) (fun i hi => by rw [show k + i = k by omega]; exact h0) (.inl rfl)
         rw [claimL_one] at this
         exact this
       rw [hcl, ht, e2]
       have h0' : (m.bl.getD k (0, 0)).1 = 0 := h0
       rw [h0'] at hst
       generalize (m.bl.getD k (0, 0)).2 = spk at hsp
       clear T hb hs hcl ht e2 h0 h0' BS
       go_enter Tryz.func61, Tryz.ntmps61
       go_wp2_with (first
         | (go_at_call 60; refine (d_made HT.out).mono ?_; rintro e w' ⟨rfl, n1, rfl⟩)
         | (go_at_call 132; refine (d_block (HT.out.drewN n1) _).mono ?_; rintro e w' ⟨rfl, n2, rfl⟩; rw [HB.out])
         | (go_at_call 133; refine (d_space _ _).mono ?_; rintro e w' ⟨rfl, n3, rfl⟩; rw [HS.out]))
       go_ret
       exact ⟨rfl, (HBS.out _).done HT.out (by simp) HI.out⟩
     · have ht : takenE m k 1 = 8 := by
         unfold takenE
         rw [freeB_false (i := 0) (by omega) h0]
         rfl
       have e2 : m.claimM (k : Int) 1 (s : Int) 1 = m := by
         unfold HM.claimM
         rw [hcl, if_neg (by rw [ht]; decide)]
       rw [hcl, ht, e2]
       have h0' : (m.bl.getD k (0, 0)).1 ≠ 0 := h0
       generalize (m.bl.getD k (0, 0)).1 = st at hst h0'
       have e6 : ((st : Int) != 0) = true := bne_iff_ne.2 (by omega)
       clear T hb hs hcl ht e2 h0 h0' BS hsp
       go_enter Tryz.func61, Tryz.ntmps61
       go_wp2_with (first
         | (go_at_call 60; refine (d_made HT.out).mono ?_; rintro e w' ⟨rfl, n1, rfl⟩)
         | (go_at_call 132; refine (d_block (HT.out.drewN n1) _).mono ?_; rintro e w' ⟨rfl, n2, rfl⟩; rw [HB.out])
         | (go_at_call 133; refine (d_space _ _).mono ?_; rintro e w' ⟨rfl, n3, rfl⟩; rw [HS.out]))
       go_ret
       exact ⟨rfl, DChg.same HT.out (by first | exact Kp.draw _ _ | exact (Kp.draw _ _).drewN _ | exact ((Kp.draw _ _).drewN _).drewN _ | exact (((Kp.draw _ _).drewN _).drewN _).drewN _)⟩
theorem d_release (T : DR w d q m) (t : m.Tl) (i : Int) :
   Calls Tryz.prog 63 #[.pointer (some ⟨d.g, 0, none⟩), .int .i64 i] w fun e w' => e = .returned (.int .i64 (m.releaseE i)) ∧ DChg w d q (m.releaseM i) w' := by
 have HT := hid T
 obtain ⟨l1, l2, l3, l4⟩ := T.n_bd
 unfold maxLen at l4
 rcases hb : blkB m.bl.length i
 · have e1 : m.releaseE i = 1 := by simp [HM.releaseE, hb]
   have e2 : m.releaseM i = m := by simp [HM.releaseM, e1]
   rw [e1, e2]
   have HB := hid hb
   clear T hb e1 e2
   go_enter Tryz.func63, Tryz.ntmps63
   go_wp2_with (first
     | (go_at_call 60; refine (d_made HT.out).mono ?_; rintro e w' ⟨rfl, n1, rfl⟩)
     | (go_at_call 132; refine (d_block (HT.out.drewN n1) _).mono ?_; rintro e w' ⟨rfl, n2, rfl⟩; rw [HB.out]))
   go_ret
   exact ⟨rfl, DChg.same HT.out (by first | exact Kp.draw _ _ | exact (Kp.draw _ _).drewN _ | exact ((Kp.draw _ _).drewN _).drewN _ | exact (((Kp.draw _ _).drewN _).drewN _).drewN _)⟩
 · obtain ⟨k, rfl, hk1, hk2⟩ := blkB_nat hb
   have HB := hid hb
   have HK2 := hid hk2
   by_cases hc : m.st k = 1 ∨ m.st k = 2
   · have hcb : clmB (m.st k) = true := decide_eq_true hc
     have hwn := whole_grp t hk2 hc
     obtain ⟨ge1, ge2, ge3, ge4⟩ := (grpEnd_iff m.bl k _ hk2).1 rfl
     by_cases ho : (m.objL (k : Int)).length = 0
     · have e1 : m.releaseE (k : Int) = 0 := by simp only [HM.releaseE, hb, if_true, Int.toNat_natCast, hcb, ho]
       have e2 : m.releaseM (k : Int) = m.setBl (rangeL m.bl k (0, 0) (grpEnd m.bl k - k)) := by unfold HM.releaseM; rw [if_pos e1, Int.toNat_natCast]
       have HI : Hid ((m.setBl (rangeL m.bl k (0, 0) (grpEnd m.bl k - k))).Inv) := release_inv T.inv hk1 hk2 hc (objL_none hk2 ho T.inv)
       rw [e1, e2]
       generalize hgn : grpEnd m.bl k - k = n at HI hwn ⊢
       have hnp : 1 ≤ n := by omega
       have hnl : k + n ≤ m.bl.length := by omega
       have HWN := hid hwn
       have HO0 := hid ho
       clear T hb hc hcb hwn ge1 ge2 ge3 ge4 ho e1 e2 hgn
       go_enter Tryz.func63, Tryz.ntmps63
       go_wp2_with (first
         | (go_at_call 60; refine (d_made HT.out).mono ?_; rintro e w' ⟨rfl, n1, rfl⟩)
         | (go_at_call 132; refine (d_block (HT.out.drewN n1) _).mono ?_; rintro e w' ⟨rfl, n2, rfl⟩; rw [HB.out])
         | (go_at_call 134; refine (d_whole (HT.out.drewN _) k HK2.out).mono ?_; rintro e w' ⟨rfl, n3, rfl⟩; rw [HWN.out])
         | (go_at_call 91; refine (d_objects (HT.out.drewN _) _).mono ?_; rintro e w4 ⟨v4, rfl, own4, bel4⟩; rw [HO0.out] at own4; obtain ⟨A4, c4, rfl⟩ : ∃ A c, v4 = .slice A 0 c := (by rcases own4.2 with ⟨rfl, _⟩ | ⟨g, c, cur, rfl, _⟩ <;> exact ⟨_, _, rfl⟩); have HK4 : Hid (Kp [] w w4) := ((Kp.draw w _).chain (Kp.of_below bel4)); clear own4 bel4))
       go_loopw [6] (fun c wr => ∃ j : Nat, j ≤ n ∧ c = .int .i64 ((k + j : Nat) : Int) ∧ BW w wr d (rangeL m.bl k (0, 0) j)) (fun c _ => k + n - (intOf c).toNat)
       case atStart => exact ⟨0, by omega, by simp, BW.start HT.out HK4.out⟩
       case round =>
         obtain ⟨j, hj, rfl, BB⟩ := hrel
         have HBB := hid BB
         have hc0 := BB.c0 HT.out
         by_cases hlt : j < n
         · have hl : k + j < (rangeL m.bl k (0, 0) j).length := by simp; omega
           have hs := BB.s hl
           have hp := BB.p hl
           have hf0 := BB.f ((k + j) * 2)
           have hf1 := BB.f ((k + j) * 2 + 1)
           have HN := hid (BB.set hl 0 0)
           generalize (rangeL m.bl k (0, 0) j).getD (k + j) (0, 0) = y at hs hp
           have d1 : decide (k + j < k + n) = true := decide_eq_true (by omega)
           clear BB hl
           go_wp2
           go_roundw
           case rel => exact ⟨j + 1, by omega, by go_num, HN.out⟩
           case measure => simp [intOf]; omega
         · obtain rfl : j = n := by omega
           clear BB
           go_wp2
           go_ret
           exact ⟨rfl, HBB.out.done HT.out (by simp) HI.out⟩
     · have e1 : m.releaseE (k : Int) = 8 := by simp only [HM.releaseE, hb, if_true, Int.toNat_natCast, hcb]; rw [if_neg ho]
       have e2 : m.releaseM (k : Int) = m := by unfold HM.releaseM; rw [if_neg (by rw [e1]; decide)]
       rw [e1, e2]
       have hle : (m.objL (k : Int)).length ≤ 32 := by unfold HM.objL; split; (· exact fpL_le _ _ _); (· simp)
       generalize hgn : grpEnd m.bl k - k = n at hwn
       have hnp : 1 ≤ n := by omega
       have hn0 : ((n : Int) == 0) = false := beq_eq_false_iff_ne.2 (by omega)
       have HWN := hid hwn
       generalize hol : (m.objL (k : Int)).length = ol at ho hle
       have HOL := hid hol
       have hop : 0 < ol := by omega
       clear T hb hc hcb hwn ge1 ge2 ge3 ge4 ho e1 e2 hgn hol
       go_enter Tryz.func63, Tryz.ntmps63
       go_wp2_with (first
         | (go_at_call 60; refine (d_made HT.out).mono ?_; rintro e w' ⟨rfl, n1, rfl⟩)
         | (go_at_call 132; refine (d_block (HT.out.drewN n1) _).mono ?_; rintro e w' ⟨rfl, n2, rfl⟩; rw [HB.out])
         | (go_at_call 134; refine (d_whole (HT.out.drewN _) k HK2.out).mono ?_; rintro e w' ⟨rfl, n3, rfl⟩; rw [HWN.out])
         | (go_at_call 91; refine (d_objects (HT.out.drewN _) _).mono ?_; rintro e w4 ⟨v4, rfl, own4, bel4⟩; rw [HOL.out] at own4; obtain ⟨A4, c4, rfl⟩ : ∃ A c, v4 = .slice A ol c := (by rcases own4.2 with ⟨rfl, h⟩ | ⟨g, c, cur, rfl, _⟩; (· exact ⟨none, 0, by rw [h]⟩); (· exact ⟨_, _, rfl⟩)); have HK4 : Hid (Kp [] w w4) := ((Kp.draw w _).chain (Kp.of_below bel4)); clear own4 bel4))
       go_ret
       exact ⟨rfl, DChg.same HT.out HK4.out⟩
   · have hcb : clmB (m.st k) = false := decide_eq_false hc
     have e1 : m.releaseE (k : Int) = 5 := by simp only [HM.releaseE, hb, if_true, Int.toNat_natCast, hcb]; rfl
     have e2 : m.releaseM (k : Int) = m := by unfold HM.releaseM; rw [if_neg (by rw [e1]; decide)]
     have HWN : Hid (wholeN m.bl k = 0) := by
       show _ = _
       unfold wholeN
       have h1 : ¬ (m.bl.getD k (0, 0)).1 = 1 := fun h => hc (.inl h)
       have h2 : ¬ (m.bl.getD k (0, 0)).1 = 2 := fun h => hc (.inr h)
       rw [if_neg h1, if_neg h2]
     rw [e1, e2]
     clear T hb hc hcb e1 e2
     go_enter Tryz.func63, Tryz.ntmps63
     go_wp2_with (first
       | (go_at_call 60; refine (d_made HT.out).mono ?_; rintro e w' ⟨rfl, n1, rfl⟩)
       | (go_at_call 132; refine (d_block (HT.out.drewN n1) _).mono ?_; rintro e w' ⟨rfl, n2, rfl⟩; rw [HB.out])
       | (go_at_call 134; refine (d_whole (HT.out.drewN _) k HK2.out).mono ?_; rintro e w' ⟨rfl, n3, rfl⟩; rw [HWN.out]))
     go_ret
     exact ⟨rfl, DChg.same HT.out (by first | exact Kp.draw _ _ | exact (Kp.draw _ _).drewN _ | exact ((Kp.draw _ _).drewN _).drewN _ | exact (((Kp.draw _ _).drewN _).drewN _).drewN _)⟩
end
end Go.Proofs.YthndilllnneijaaGreat
