/-
  The contract of package heap's Lines. Conditions: those that stand in each theorem.
-/
import Derived.Test.YthndilllnneijaaGreatPG11
import Derived.BigQuiet
import Derived.Test.YthndilllnneijaaGreatPGE
set_option linter.unusedSimpArgs false
set_option linter.unusedVariables false
set_option maxRecDepth 100000
set_option maxHeartbeats 4000000
namespace Go.Proofs.YthndilllnneijaaGreat
open Go.RowKit Go.Deep Go.Maps
def lcells (L : List Bool) : List Value := L.map fun x => .bool x
theorem lcells_get {L : List Bool} {i : Nat} (hi : i < L.length) : (lcells L).toArray[i]? = some (.bool (L.getD i false)) := by
 simp [lcells, hi]
theorem lcells_set (L : List Bool) (i : Nat) (v : Bool) : (lcells L).toArray.setIfInBounds i (.bool v) = (lcells (L.set i v)).toArray := by
 simp [lcells, List.map_set]
def lnS (L : List Bool) (a : Nat) : Nat → List Bool
 | 0 => L
 | n + 1 => (lnS L a n).set (a + n) true
@[simp] theorem lnS_length (L : List Bool) (a n : Nat) : (lnS L a n).length = L.length := by
 induction n with
 | zero => rfl
 | succ n ih => simp [lnS, ih]
theorem lnS_get (L : List Bool) (a n j : Nat) (h : a + n ≤ L.length) : (lnS L a n).getD j false = if a ≤ j ∧ j < a + n then true else L.getD j false := by
 induction n with
 | zero => rw [if_neg (by omega)]; rfl
 | succ n ih =>
   unfold lnS
   rw [List.getD_eq_getElem?_getD, List.getElem?_set]
   by_cases h1 : a + n = j
   · rw [if_pos h1, if_pos (by simp; omega), if_pos (by omega)]; rfl
   · rw [if_neg h1, ← List.getD_eq_getElem?_getD, ih (by omega)]
     by_cases h2 : a ≤ j ∧ j < a + n
     · rw [if_pos h2, if_pos (by omega)]
     · rw [if_neg h2, if_neg (by omega)]
def HM.lnN (m : HM) (zs : List Int) : Nat → List Bool
 | 0 => List.replicate 8 false
 | j + 1 => lnS (m.lnN zs j) ((zs.getD j 0).toNat % 64 / 8) (((zs.getD j 0).toNat % 64 + m.wdAt (zs.getD j 0).toNat - 1) / 8 + 1 - (zs.getD j 0).toNat % 64 / 8)
@[simp] theorem lnN_length (m : HM) (zs : List Int) (j : Nat) : (m.lnN zs j).length = 8 := by
 induction j with
 | zero => rfl
 | succ j ih => simp [HM.lnN, ih]
def HM.lnL (m : HM) (k : Nat) : List Bool := m.lnN (m.objL (k : Int)) (m.objL (k : Int)).length
section
variable {w w' : World} {b : HB} {r : RM} {m : HM} {q : Nat}
theorem used_fit (I : m.Inv) {a k : Nat} {o : Ob} (ho : m.ob a = some o) (hk : a / 64 = k) (hst : m.st k = 1) : o.wd ≤ 32 ∧ a % 64 + o.wd ≤ 64 := by
 have hs := I.lie _ _ ho
 unfold suitB at hs
 rw [hk] at hs
 unfold HM.st at hst
 split at hs
 · have := of_decide_eq_true hs
   omega
 · have := of_decide_eq_true hs
   omega
theorem lnN_get (I : m.Inv) {k : Nat} (hk : k < m.bl.length) (hst : m.st k = 1) : ∀ j, j ≤ (m.objL (k : Int)).length → ∀ i, i < 8 → ((m.lnN (m.objL (k : Int)) j).getD i false = true ↔
   ∃ y a o, y < j ∧ (m.objL (k : Int)).getD y 0 = ((a : Nat) : Int) ∧ m.ob a = some o ∧ a % 64 / 8 ≤ i ∧ i ≤ (a % 64 + o.wd - 1) / 8) := by
 intro j
 induction j with
 | zero =>
   intro _ i hi
   constructor
   · intro h
     have : (m.lnN (m.objL (k : Int)) 0).getD i false = false := by
       show (List.replicate 8 false).getD i false = false
       rw [List.getD_eq_getElem?_getD, List.getElem?_replicate]; split <;> rfl
     rw [this] at h; cases h
   · rintro ⟨y, _, _, h, _⟩; omega
 | succ j ih =>
   intro hj i hi
   obtain ⟨a, o, ha, ho, h1, h2⟩ := objL_at (i := j) hk (by omega)
   obtain ⟨f1, f2⟩ := used_fit I ho (k := k) (by omega) hst
   have hw := (I.ok _ _ ho).wd_bd
   have e : m.lnN (m.objL (k : Int)) (j + 1) = lnS (m.lnN (m.objL (k : Int)) j) (a % 64 / 8) ((a % 64 + o.wd - 1) / 8 + 1 - a % 64 / 8) := by
     show lnS _ _ _ = _
     rw [ha, Int.toNat_natCast]
     unfold HM.wdAt
     rw [ho]
   rw [e, lnS_get _ _ _ _ (by simp; omega)]
   by_cases hc : a % 64 / 8 ≤ i ∧ i < a % 64 / 8 + ((a % 64 + o.wd - 1) / 8 + 1 - a % 64 / 8)
   · rw [if_pos hc]
     exact ⟨fun _ => ⟨j, a, o, by omega, ha, ho, hc.1, by omega⟩, fun _ => rfl⟩
   · rw [if_neg hc, ih (by omega) i hi]
     constructor
     · rintro ⟨y, a', o', hy, r⟩
       exact ⟨y, a', o', by omega, r⟩
     · rintro ⟨y, a', o', hy, e1, e2, e3, e4⟩
       by_cases hyj : y = j
       · subst hyj
         rw [ha] at e1
         obtain rfl : a = a' := by omega
         rw [ho] at e2
         cases e2
         omega
       · exact ⟨y, a', o', by omega, e1, e2, e3, e4⟩
theorem lnL_iff (I : m.Inv) {k i : Nat} (hk : k < m.bl.length) (hst : m.st k = 1) (hi : i < 8) : (m.lnL k).getD i false = true ↔ ∃ x, x < 8 ∧ m.own (k * 64 + i * 8 + x) ≠ 0 := by
 unfold HM.lnL
 rw [lnN_get I hk hst _ (Nat.le_refl _) i hi]
 constructor
 · rintro ⟨y, a, o, hy, ha, ho, h1, h2⟩
   obtain ⟨a', o', ha', ho', g1, g2⟩ := objL_at hk hy
   rw [ha] at ha'
   obtain rfl : a = a' := by omega
   have hw := (I.ok _ _ ho).wd_bd
   by_cases hc : a % 64 / 8 = i
   · refine ⟨a % 64 % 8, by omega, ?_⟩
     rw [own_cov I ho (by omega) (by omega)]
     have := I.lo ho
     omega
   · refine ⟨0, by omega, ?_⟩
     rw [own_cov I ho (by omega) (by omega)]
     have := I.lo ho
     omega
 · rintro ⟨x, hx, hne⟩
   rcases own_cases I (k * 64 + i * 8 + x) with ⟨a, o, ho, h1, h2, h3⟩ | ⟨_, h4⟩
   · have hs := I.lie _ _ ho
     have hak : a / 64 = k := by
       have hw := (I.ok _ _ ho).wd_bd
       have hsd := suit_bd hs
       unfold suitB at hs
       split at hs
       · have := of_decide_eq_true hs
         omega
       · have hq := of_decide_eq_true hs
         obtain ⟨q1, q2, q3⟩ := hq
         have hg := (grpEnd_iff m.bl (a / 64) _ hsd.1).1 rfl
         rcases Nat.lt_or_ge (a / 64) k with hlt | hge
         · have h3' := hg.2.2.1 k (by omega) (by omega)
           unfold HM.st at hst
           omega
         · omega
     obtain ⟨f1, f2⟩ := used_fit I ho hak hst
     have hev := I.even _ _ ho
     have hw := (I.ok _ _ ho).wd_bd
     have hb : inB m.bl.length (k : Int) = true := decide_eq_true ⟨by omega, by omega⟩
     have e : m.objL (k : Int) = fpL m (k * 32) 32 := by simp [HM.objL, hb]
     have hm : ((a : Nat) : Int) ∈ m.objL (k : Int) := by
       rw [e]
       exact (fpL_mem _ _ _ _).2 ⟨a / 2 - k * 32, by omega, by congr 1; omega, by rw [show 2 * (k * 32 + (a / 2 - k * 32)) = a by omega, ho]; rfl⟩
     obtain ⟨y, hy, hg⟩ := List.mem_iff_getElem.1 hm
     refine ⟨y, a, o, hy, ?_, ho, by omega, by omega⟩
     rw [List.getD_eq_getElem?_getD, List.getElem?_eq_getElem hy, hg]
     rfl
   · exact absurd h4 hne
end
section
variable {w w' : World} {b : HB} {r : RM} {m : HM} {q : Nat}
theorem h_lines (h : SH w b q m) (k : Nat) (hk : k < m.bl.length) (hst : m.st k = 1) :
   Calls Tryz.prog 39 #[.pointer (some ⟨b.g, 0, none⟩), .int .i64 (k : Int)] w fun e w' => ∃ g, e = .returned (.slice (some ⟨g, 0, none⟩) 8 8) ∧ Blk w' g 4 (lcells (m.lnL k)).toArray ∧ w.heap.size ≤ g ∧ Kp [] w w' := by
 have I := h.inv
 have hb : inB m.bl.length (k : Int) = true := decide_eq_true ⟨by omega, by omega⟩
 have hx : (if inB m.bl.length (k : Int) = true then (m.st ((k : Int).toNat) : Int) else -1) = 1 := by rw [if_pos hb, Int.toNat_natCast, hst]; rfl
 have HX := hid hx
 have hmk : ∀ W : World, (Instr.makeSlice 78 (.int .i64 8) (.int .i64 8)).run Tryz.prog W = .ok (.slice (some ⟨W.heap.size, 0, none⟩) 8 8) (W.alloc (.cells (madeCells #[.bool false] 8) 4)) := fun W =>
   run_make_row' (P := Tryz.prog) 78 4 (.bool false) 1 Tryz.underlying78 (by kernel_rfl) rfl .i64 .i64 8 (by omega) (by omega) W
 have HML : Hid (madeCells #[.bool false] 8 = (lcells (List.replicate 8 false)).toArray) := by
   show _ = _
   apply Array.toList_inj.1
   rw [toList_madeCells_one]
   simp [lcells]
 have hol : (m.objL (k : Int)).length ≤ 32 := by
   simp only [HM.objL, hb, if_true]
   exact fpL_le _ _ _
 have HOA := hid (fun i (hi : i < (m.objL (k : Int)).length) => objL_at (m := m) (i := i) hk hi)
 have HFIT := hid (fun a o (ho : m.ob a = some o) (ha : a / 64 = k) => (⟨used_fit I ho ha hst, (I.ok _ _ ho).wd_bd, I.hi ho⟩ : (o.wd ≤ 32 ∧ a % 64 + o.wd ≤ 64) ∧ _ ∧ a + o.wd ≤ m.n))
 have hmn := I.n_bd.2
 have HLT := hid h.lt
 have HDEF : Hid (m.lnL k = m.lnN (m.objL (k : Int)) (m.objL (k : Int)).length) := rfl
 generalize hzs : m.objL (k : Int) = zs at HOA hol HDEF
 have HZS := hid hzs
 clear hb hx hzs hst
 go_enter Tryz.func39, Tryz.ntmps39
 go_wp2_with (go_at_call 41; refine (h_state h _).mono ?_; rintro e w' ⟨rfl, n1, rfl⟩; rw [HX.out])
 refine (h_objects (h.kp0 (by first | exact (Kp.draw w _).chain (Kp.new _ _) | exact ((Kp.draw w _).chain (Kp.new _ _)).drewN _)) _).mono ?_
 rintro e w3 ⟨v3, rfl, own3, bel3⟩
 rw [HZS.out] at own3
 have hK3 : Kp [] w w3 := ((Kp.draw w _).chain (Kp.new _ _)).chain (Kp.of_below bel3)
 have hB3 := (Blk.new (w.drewN n1) 4 (madeCells #[.bool false] 8)).kp (Kp.of_below bel3) (by simp)
 rw [HML.out] at hB3
 have HK3 := hid hK3
 have HB3 := hid hB3
 have HF3 := hid (FarI.of_own own3)
 obtain ⟨A3, cap3, rfl, hc3a, hc3b, _⟩ := FarI.of_own own3
 clear own3 bel3 hK3 hB3
 unfold maxLen at hc3b
 go_wp2
 go_loopw [20] (fun c wr => ∃ j : Nat, j ≤ zs.length ∧ c = .int .i64 (j : Int) ∧ Blk wr w.heap.size 4 (lcells (m.lnN zs j)).toArray ∧ Kp [w.heap.size] w3 wr) (fun c _ => zs.length - (intOf c).toNat)
 case atStart => exact ⟨0, by omega, rfl, HB3.out, (Kp.refl [] _).mono (by simp)⟩
 case round =>
   obtain ⟨j, hj, rfl, hbk, kp⟩ := hrel
   have HBK := hid hbk
   have HKP := hid kp
   have F4 := HF3.out.kp kp (by simp [World.alloc])
   have S4 := hid ((h.kp0 HK3.out).kp kp (fun x hx => by have := HLT.out x hx; simp; omega))
   clear hbk kp
   by_cases hlt : j < zs.length
   · obtain ⟨g, rfl, hg, hcell⟩ := F4.at_ j hlt
     obtain ⟨a, o, ha, ho, ha1, ha2⟩ := HOA.out j hlt
     obtain ⟨⟨f1, f2⟩, f3, f4⟩ := HFIT.out a o ho (by omega)
     have f5 : 4 ≤ o.wd + 2 := by omega
     have f6 : 2 ≤ o.wd := f3.1
     have hstep : m.lnN zs (j + 1) = lnS (m.lnN zs j) (a % 64 / 8) ((a % 64 + o.wd - 1) / 8 + 1 - a % 64 / 8) := by
       show lnS _ _ _ = _
       rw [ha, Int.toNat_natCast]
       unfold HM.wdAt
       rw [ho]
     rw [ha] at hcell
     have HSTEP := hid hstep
     have HO := hid ho
     clear F4 ha hstep ho f3
     go_wp2_with (go_at_call 116; refine (S4.out.size_at HO.out).mono ?_; rintro e w5 ⟨rfl, K5⟩; have HK5 := hid K5; clear K5)
     go_loopw [10] (fun c wr2 => ∃ z : Nat, a % 64 / 8 ≤ z ∧ z ≤ (a % 64 + o.wd - 1) / 8 + 1 ∧ c = .int .i64 (z : Int) ∧ Blk wr2 w.heap.size 4 (lcells (lnS (m.lnN zs j) (a % 64 / 8) (z - a % 64 / 8))).toArray ∧ Kp [w.heap.size] w3 wr2) (fun c _ => 64 - (intOf c).toNat)
     case atStart => exact ⟨a % 64 / 8, by omega, by omega, by congr 1, by rw [Nat.sub_self]; exact HBK.out.kp HK5.out (by simp), HKP.out.chain HK5.out⟩
     case round =>
       obtain ⟨z, hz1, hz2, rfl, hbk2, kp2⟩ := hrel
       have HBK2 := hid hbk2
       have HKP2 := hid kp2
       by_cases hz : z ≤ (a % 64 + o.wd - 1) / 8
       · have t : (z : Int) ≤ ((a : Int) % 64 + (o.wd : Int) - 1) / 8 := by omega
         have hz8 : z < 8 := by omega
         have hc0 := hbk2.cell z
         rw [lcells_get (by simp; omega)] at hc0
         have hf0 := hbk2.frozen z
         generalize (lnS (m.lnN zs j) (a % 64 / 8) (z - a % 64 / 8)).getD z false = y at hc0
         clear hbk2 kp2
         go_wp2
         go_roundw
         case rel =>
           have hB := HBK2.out.set_ z (.bool true)
           rw [lcells_set] at hB
           refine ⟨z + 1, by omega, by omega, by go_num, ?_, HKP2.out.trans (Kp.cell _ ⟨w.heap.size, z, none⟩ (.bool true)) (by simp) (by simp)⟩
           rw [show z + 1 - a % 64 / 8 = (z - a % 64 / 8) + 1 by omega]
           unfold lnS
           rw [show a % 64 / 8 + (z - a % 64 / 8) = z by omega]
           exact hB
         case measure => simp [intOf]; omega
       · have t : ((a : Int) % 64 + (o.wd : Int) - 1) / 8 < (z : Int) := by omega
         have hze : z - a % 64 / 8 = (a % 64 + o.wd - 1) / 8 + 1 - a % 64 / 8 := by omega
         have HZE := hid hze
         clear hbk2 kp2 hze
         go_wp2
         go_roundw
         case rel =>
           have := HBK2.out
           rw [HZE.out, ← HSTEP.out] at this
           exact ⟨j + 1, by omega, by go_num, this, HKP2.out⟩
         case measure => simp [intOf]; omega
   · obtain rfl : j = zs.length := by omega
     clear F4
     go_wp2
     go_ret
     rw [HDEF.out]
     refine ⟨_, rfl, HBK.out, Nat.le_refl _, HK3.out.trans HKP.out (by simp) (by simp)⟩
end
theorem infoBoolD : (Tryz.prog.info? 4).map (fun i => (i.zero, i.size, i.bytes)) = some (some (.bool false), 1, 1) := by kernel_rfl
def HM.isBn (m : HM) (p : Nat) : Nat → Bool
 | 0 => false
 | n + 1 => m.isBn p n || decide (m.own (p + n) ≠ 0)
theorem isBn_iff (m : HM) (p n : Nat) : m.isBn p n = true ↔ ∃ x, x < n ∧ m.own (p + x) ≠ 0 := by
 induction n with
 | zero => simp [HM.isBn]
 | succ n ih =>
   simp only [HM.isBn, Bool.or_eq_true, ih, decide_eq_true_eq]
   constructor
   · rintro (⟨x, h1, h2⟩ | h)
     · exact ⟨x, by omega, h2⟩
     · exact ⟨n, by omega, h⟩
   · rintro ⟨x, h1, h2⟩
     by_cases hx : x < n
     · exact .inl ⟨x, hx, h2⟩
     · obtain rfl : x = n := by omega
       exact .inr h2
theorem line_isD {m : HM} (I : m.Inv) {k i : Nat} (hk : k < m.bl.length) (hst : m.st k = 1) (hi : i < 8) : (m.lnL k).getD i false = m.isBn (k * 64 + i * 8) 8 := by
 have h1 := lnL_iff I hk hst hi
 have h2 := isBn_iff m (k * 64 + i * 8) 8
 rcases h3 : (m.lnL k).getD i false <;> rcases h4 : m.isBn (k * 64 + i * 8) 8
 · rfl
 · rw [h3] at h1; exact absurd (h1.2 (h2.1 h4)) (by simp)
 · rw [h4] at h2; exact absurd (h2.2 (h1.1 h3)) (by simp)
 · rfl
theorem lcells_take (L : List Bool) (i : Nat) (h : i < L.length) : lcells (L.take (i + 1)) = lcells (L.take i) ++ [.bool (L.getD i false)] := by
 rw [List.take_add_one, List.getElem?_eq_getElem h, List.getD_eq_getElem?_getD, List.getElem?_eq_getElem h]
 simp only [lcells, List.map_append, List.map_cons, List.map_nil, Option.toList_some, Option.getD_some]
section
variable {w w' W : World} {d : DB} {q : Nat} {m : HM}
theorem d_lines_not (T : DR w d q m) (i : Int) (hb : ¬ (inB m.bl.length i = true ∧ m.st i.toNat = 1)) :
   Calls Tryz.prog 94 #[.pointer (some ⟨d.g, 0, none⟩), .int .i64 i] w fun e w' => e = .returned (.slice none 0 0) ∧ Kp [] w w' := by
 have hst : ((if inB m.bl.length i = true then (m.st i.toNat : Int) else -1) != 1) = true := by
   rw [bne_iff_ne]
   split
   · rename_i h1
     have : ¬ m.st i.toNat = 1 := fun h2 => hb ⟨h1, h2⟩
     omega
   · omega
 generalize hx : (if inB m.bl.length i = true then (m.st i.toNat : Int) else -1) = x at hst
 have HX := hid hx
 have HT := hid T
 clear hb hx T
 go_enter Tryz.func94, Tryz.ntmps94
 go_wp2_with (go_at_call 88; refine (d_state HT.out _).mono ?_; rintro e w' ⟨rfl, n1, rfl⟩; rw [HX.out])
 go_ret
 exact ⟨rfl, Kp.draw _ _⟩
theorem d_lines (T : DR w d q m) (k : Nat) (hk : k < m.bl.length) (hst1 : m.st k = 1) :
   Calls Tryz.prog 94 #[.pointer (some ⟨d.g, 0, none⟩), .int .i64 (k : Int)] w fun e w' => ∃ v, e = .returned v ∧ w'.ownsRow w.heap.size 4 1 v 8 (lcells (m.lnL k)) ∧ Kp [] w w' := by
 obtain ⟨i0, hi0, hz0, hz1, hz2⟩ := info_parts infoBoolD
 have hst : (if inB m.bl.length (k : Int) = true then (m.st ((k : Int).toNat) : Int) else -1) = 1 := by rw [if_pos (show inB m.bl.length (k : Int) = true from decide_eq_true ⟨by omega, by omega⟩), Int.toNat_natCast, hst1]; rfl
 have hl64 := T.inv.len64
 have hk64 : k ≤ 64 := by omega
 have HT := hid T
 have HSTV := hid hst
 have HLI := hid (fun i (hi : i < 8) => line_isD T.inv hk hst1 hi)
 have HLL : Hid ((m.lnL k).length = 8) := by show _ = _; simp [HM.lnL]
 have HLT := hid (fun i (hi : i < 8) => lcells_take (m.lnL k) i (by rw [HLL.out]; exact hi))
 have HL0 : Hid (lcells ((m.lnL k).take 8) = lcells (m.lnL k)) := by show _ = _; rw [List.take_of_length_le (by rw [HLL.out]; omega)]
 have HON : Hid (∀ p z, m.isBn p (z + 1) = (m.isBn p z || decide (m.own (p + z) ≠ 0))) := fun p z => rfl
 clear T hst hst1 hk hl64
 go_enter Tryz.func94, Tryz.ntmps94
 go_wp2_with (go_at_call 88; refine (d_state HT.out _).mono ?_; rintro e w' ⟨rfl, n1, rfl⟩; rw [HSTV.out])
 go_loopw [5, 6, 7, 8, 9, 10] (fun s c _ _ _ _ wr => ∃ i : Nat, i ≤ 8 ∧ c = .int .i64 (i : Int) ∧ wr.ownsRow w.heap.size 4 1 s i (lcells ((m.lnL k).take i)) ∧ Below w.heap.size w wr) (fun _ c _ _ _ _ _ => 8 - (intOf c).toNat)
 case atStart => exact ⟨0, by omega, by go_num, ⟨rfl, .inl ⟨rfl, rfl⟩⟩, below_drewN (Below.refl _ _) _⟩
 case round =>
   rename World => w8
   obtain ⟨i, hi, rfl, own, bel⟩ := hrel
   have HO := hid own
   have HB := hid bel
   clear own bel
   by_cases hlt : i < 8
   · go_wp2
     rw [show decide ((i : Int) < 8) = true from decide_eq_true (by omega)]
     go_loopw [7, 8, 9, 10] (fun is c _ _ wq => ∃ z : Nat, z ≤ 8 ∧ c = .int .i64 (z : Int) ∧ is = .bool (m.isBn (k * 64 + i * 8) z) ∧ Kp [] w8 wq) (fun _ c _ _ _ => 8 - (intOf c).toNat)
     case atStart => exact ⟨0, by omega, by go_num, rfl, Kp.refl _ _⟩
     case round =>
       obtain ⟨z, hz, rfl, rfl, K⟩ := hrel
       have HK := hid K
       have HTQ := hid (HT.out.kp0 ((Kp.of_below HB.out).chain K))
       clear K
       by_cases hlz : z < 8
       · have HP9 := hid (HON.out (k * 64 + i * 8) z)
         have hcast : (k : Int) * 64 + (i : Int) * 8 + (z : Int) = ((k * 64 + i * 8 + z : Nat) : Int) := by omega
         have HC := hid hcast
         have hfe : m.findE ((k * 64 + i * 8 + z : Nat) : Int) = if m.own (k * 64 + i * 8 + z) = 0 then 4 else 0 := by
           have hown : m.ownI ((k * 64 + i * 8 + z : Nat) : Int) = m.own (k * 64 + i * 8 + z) := by
             unfold HM.ownI
             rw [if_pos (by omega), Int.toNat_natCast]
           unfold HM.findE
           rw [hown]
         generalize m.isBn (k * 64 + i * 8) z = b1 at HP9 ⊢
         by_cases h0 : m.own (k * 64 + i * 8 + z) = 0
         · rw [if_pos h0] at hfe
           have HFE := hid hfe
           have HP8 : Hid (m.isBn (k * 64 + i * 8) (z + 1) = b1) := by show _ = _; rw [HP9.out]; simp [h0]
           clear hfe h0 hcast
           go_wp2_with (fail)
           rw [HC.out]
           refine (d_find HTQ.out _ ⟨by omega, by omega⟩).mono ?_
           rintro e w7 ⟨rfl, K7⟩
           rw [HFE.out]
           have HK7 := hid (HK.out.chain K7)
           clear K7
           rcases b1
           · go_wp2
             go_roundw
             case rel =>
               have HF : ∃ z1 : Nat, z1 ≤ 8 ∧ Value.int .i64 ((z : Int) + 1) = .int .i64 (z1 : Int) ∧ Value.bool false = .bool (m.isBn (k * 64 + i * 8) z1) ∧ Kp [] w8 w7 := ⟨z + 1, by omega, by go_num, by rw [HP8.out], HK7.out⟩
               first | exact HF | ((repeat apply Exists.intro); exact ⟨HF, rfl⟩)
             case measure => simp [intOf]; omega
           · go_wp2
             go_roundw
             case rel =>
               have HF : ∃ z1 : Nat, z1 ≤ 8 ∧ Value.int .i64 ((z : Int) + 1) = .int .i64 (z1 : Int) ∧ Value.bool true = .bool (m.isBn (k * 64 + i * 8) z1) ∧ Kp [] w8 w7 := ⟨z + 1, by omega, by go_num, by rw [HP8.out], HK7.out⟩
               first | exact HF | ((repeat apply Exists.intro); exact ⟨HF, rfl⟩)
             case measure => simp [intOf]; omega
         · rw [if_neg h0] at hfe
           have HFE := hid hfe
           have HP8 : Hid (m.isBn (k * 64 + i * 8) (z + 1) = true) := by show _ = _; rw [HP9.out]; simp [h0]
           clear hfe h0 hcast
           go_wp2_with (fail)
           rw [HC.out]
           refine (d_find HTQ.out _ ⟨by omega, by omega⟩).mono ?_
           rintro e w7 ⟨rfl, K7⟩
           rw [HFE.out]
           have HK7 := hid (HK.out.chain K7)
           clear K7
           rcases b1
           · go_wp2
             go_roundw
             case rel =>
               have HF : ∃ z1 : Nat, z1 ≤ 8 ∧ Value.int .i64 ((z : Int) + 1) = .int .i64 (z1 : Int) ∧ Value.bool true = .bool (m.isBn (k * 64 + i * 8) z1) ∧ Kp [] w8 w7 := ⟨z + 1, by omega, by go_num, by rw [HP8.out], HK7.out⟩
               first | exact HF | ((repeat apply Exists.intro); exact ⟨HF, rfl⟩)
             case measure => simp [intOf]; omega
           · go_wp2
             go_roundw
             case rel =>
               have HF : ∃ z1 : Nat, z1 ≤ 8 ∧ Value.int .i64 ((z : Int) + 1) = .int .i64 (z1 : Int) ∧ Value.bool true = .bool (m.isBn (k * 64 + i * 8) z1) ∧ Kp [] w8 w7 := ⟨z + 1, by omega, by go_num, by rw [HP8.out], HK7.out⟩
               first | exact HF | ((repeat apply Exists.intro); exact ⟨HF, rfl⟩)
             case measure => simp [intOf]; omega
       · obtain rfl : z = 8 := by omega
         have HE := hid (HLI.out i hlt)
         have HT9 := hid (HLT.out i hlt)
         rw [HE.out] at HT9
         generalize m.isBn (k * 64 + i * 8) 8 = b1 at HT9 ⊢
         have HQ := hid (own_kp0 HO.out HK.out)
         have HBQ : Hid (Below w.heap.size w wr) := HB.out.trans (HK.out.below HB.out.size (by simp))
         have HN := hid (one_newV wr (.bool b1) 4)
         have NONE : ∀ u ∈ ([.bool b1] : List Value), u.oneCell' = true := fun u hu => by simp at hu; subst hu; rfl
         have HSZ : Hid (w.heap.size ≤ wr.heap.size) := HBQ.out.size
         have HIL := hid hlt
         go_wp2_with (at_builtin; refine wpList_append_own _ rfl (.tmp 40) (.tmp 42) 78 rfl w.heap.size 4 i0 (.bool false) 1 1 Tryz.underlying78 hi0 hz0 hz1 hz2 rfl (by decide) _ _ _ rfl (HQ.out.alloc _) ⟨wr.heap.size, 0, none⟩ 1 1 [.bool b1] rfl rfl HN.out NONE (by unfold maxLen; omega) (by omega) (by have := HSZ.out; simp; omega) ?_; intro v' w1 hown' hgr hnil; have HO' := hid hown'; have HG := hid hgr; clear hown' hgr hnil)
         go_roundw
         case rel =>
           have z2 : Below w.heap.size wr w1 := row_endV (k' := 0) ((Below.refl _ wr).alloc HSZ.out _) HSZ.out (HQ.out.alloc _) HG.out
           exact ⟨i + 1, by omega, by go_num, by rw [HT9.out]; exact HO'.out, HBQ.out.trans z2⟩
         case measure => simp [intOf]; omega
   · obtain rfl : i = 8 := by omega
     rw [HL0.out] at HO
     go_wp2
     go_ret
     exact ⟨_, rfl, HO.out, Kp.of_below HB.out⟩
end
end Go.Proofs.YthndilllnneijaaGreat
