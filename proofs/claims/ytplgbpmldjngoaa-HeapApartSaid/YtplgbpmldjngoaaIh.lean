/-
  The contracts of package heap's Shape, at an object, and of the laws' contents. Conditions: those that stand in each theorem.
-/
import Derived.Test.YtplgbpmldjngoaaIg
namespace Go.Proofs.Ytplgbpmldjngoaa
set_option linter.unusedVariables false
set_option linter.unusedSimpArgs false
open Go.RowKit Go.Deep Go.Maps

def Ob.head (o : Ob) : List Int := [(o.id : Int), (o.refs : Int), (o.data : Int), (o.kind : Int)]
def Ob.all (o : Ob) : List Int := o.head ++ o.fs
def Ob.conts (o : Ob) : List Int := o.all ++ (if o.pin then [1] else [])
theorem take_step (hd fs : List Int) (i : Nat) (hi : i < fs.length) : hd ++ fs.take (i + 1) = (hd ++ fs.take i) ++ [fs.getD i 0] := by
  rw [List.take_add_one, List.getElem?_eq_getElem hi, List.getD_eq_getElem?_getD, List.getElem?_eq_getElem hi]
  simp
section
variable {w w' : World} {b : HB} {r : RM} {m : HM} {q : Nat}
theorem h_shape_ob (h : SH w b q m) {a : Nat} {o : Ob} (ho : m.ob a = some o) :
    Calls Try.prog 26 #[.pointer (some ⟨b.g, 0, none⟩), .int .i64 (a : Int)] w fun e w' => e = .returned (.tuple #[.agg #[.int .i64 (o.refs : Int), .int .i64 (o.data : Int), .int .i64 (o.kind : Int)], .int .i64 0]) ∧ Kp [] w w' := by
  have hhi := h.inv.hi ho
  have hnb := h.inv.n_bd
  have HE : Hid (m.lackE (a : Int) = 0) := by show _ = _; simp [HM.lackE, has_of ho]
  have HW : Hid (W64 (a : Int)) := ⟨by omega, by omega⟩
  have HO := hid ho
  clear ho
  have K0 := hid (Kp.new w (.cells #[.int .i64 0, .int .i64 0, .int .i64 0] 46))
  have B0 := hid (Blk.new w 46 #[.int .i64 0, .int .i64 0, .int .i64 0])
  go_enter Try.func26, Try.ntmps26
  go_wp2_with (first
    | (go_at_call 74; refine (h_check (h.kp0 K0.out) _ HW.out).mono ?_; rintro e w' ⟨rfl, n1, rfl⟩; rw [HE.out])
    | (go_at_call 81; refine (((h.kp0 K0.out).drewN _).shape_at HO.out).mono ?_; rintro e w2 ⟨rfl, K2⟩; have HK := hid (K0.out.chain K2.from_drewN); have B2 := B0.out.kp K2.from_drewN (by simp); have c0 := B2.cell 0; have c1 := B2.cell 1; have c2 := B2.cell 2; have f0 := B2.frozen 0; have f1 := B2.frozen 1; have f2 := B2.frozen 2; have HB2 := hid B2; clear B2 K2))
  have hB9 := ((HB2.out.set_ 0 (.int .i64 (o.refs : Int))).set_ 1 (.int .i64 (o.data : Int))).set_ 2 (.int .i64 (o.kind : Int))
  have hK9 : Kp [] w (((w2.setCell ⟨w.heap.size, 0, none⟩ (.int .i64 (o.refs : Int))).setCell ⟨w.heap.size, 1, none⟩ (.int .i64 (o.data : Int))).setCell ⟨w.heap.size, 2, none⟩ (.int .i64 (o.kind : Int))) :=
    (((HK.out.trans (Kp.cell _ ⟨w.heap.size, 0, none⟩ _) (U := []) (by simp) (by simp)).trans (Kp.cell _ ⟨w.heap.size, 1, none⟩ _) (U := []) (by simp) (by simp)).trans (Kp.cell _ ⟨w.heap.size, 2, none⟩ _) (U := []) (by simp) (by simp))
  generalize (((w2.setCell ⟨w.heap.size, 0, none⟩ (.int .i64 (o.refs : Int))).setCell ⟨w.heap.size, 1, none⟩ (.int .i64 (o.data : Int))).setCell ⟨w.heap.size, 2, none⟩ (.int .i64 (o.kind : Int))) = W9 at hB9 hK9 ⊢
  have q0 : W9.cell? ⟨w.heap.size, 0, none⟩ = some (.int .i64 (o.refs : Int)) := hB9.cell 0
  have q1 : W9.cell? ⟨w.heap.size, 1, none⟩ = some (.int .i64 (o.data : Int)) := hB9.cell 1
  have q2 : W9.cell? ⟨w.heap.size, 2, none⟩ = some (.int .i64 (o.kind : Int)) := hB9.cell 2
  refine bodyPost_ret (v := .tuple #[.agg #[.int .i64 (o.refs : Int), .int .i64 (o.data : Int), .int .i64 (o.kind : Int)], .int .i64 0]) ?_ rfl ⟨rfl, hK9⟩
  simp [results, Try.results26, q0, q1, q2, go_sem]
theorem one_new0 (w : World) (x : Int) : ∀ (j : Nat) (u : Value), ([.int .i64 x] : List Value)[j]? = some u → (w.alloc (.cells #[.int .i64 x] 3)).cell? ((⟨w.heap.size, 0, none⟩ : Addr).add j) = some u := by
  intro j u hu
  exact blk_read (xs := [.int .i64 x]) (sp := []) (Blk.new w 3 _) j u hu
theorem row_end0 {B : Nat} {w w1 : World} {zs : List Int} {x : Int} {k : Nat} {v v' : Value} (hB : B ≤ w.heap.size) (hk : zs.length = k) (own : w.ownsRow B 3 1 v k (zcells zs)) (own' : w1.ownsRow B 3 1 v' (k + 1) (zcells zs ++ [.int .i64 x]))
    (g : (w.alloc (.cells #[.int .i64 x] 3)).grownBy w1 v.ownBlock) : w1.ownsRow B 3 1 v' (zs ++ [x]).length (zcells (zs ++ [x])) ∧ Below B w w1 :=
  row_end (n := 0) hB hk own own' g
theorem size_alloc_drew (w : World) (o : Obj) (n : Nat) : ((w.alloc o).drewN n).heap.size = w.heap.size + 1 := by simp [World.drewN]
set_option maxRecDepth 100000 in
set_option maxHeartbeats 4000000 in
theorem h_contents (h : SH w b q m) {t : Nat} {o : Ob} (ho : m.ob t = some o) :
    Calls Try.prog 21 #[.pointer (some ⟨b.g, 0, none⟩), .int .i64 (t : Int)] w (RowP w.heap.size w o.conts) := by
  obtain ⟨i0, hi0, hz0, hz1, hz2⟩ := info_parts infoInt
  have hok := h.inv.ok _ _ ho
  have hbd := hok.bd
  have hlen := hok.len
  have hhi := h.inv.hi ho
  have hnb := h.inv.n_bd
  have hwd := hok.wd_bd
  have HH := hid h
  have HLT := hid h.lt
  have HO := hid ho
  have HW : Hid (W64 (t : Int)) := ⟨by omega, by omega⟩
  have hhas := has_of ho
  have HRG : Hid (∀ i : Nat, i < o.refs → m.refG (t : Int) (i : Int) = o.fs.getD i 0) := fun i hi => by
    have e : m.refE (t : Int) (i : Int) = 0 := by simp [HM.refE, hhas, ho, show inB o.refs (i : Int) = true from decide_eq_true ⟨by omega, by omega⟩]
    unfold HM.refG
    rw [if_pos e, Int.toNat_natCast, Int.toNat_natCast]
    simp only [HM.fget, ho]
  have HDG : Hid (∀ i : Nat, i < o.data → m.datG (t : Int) (i : Int) = o.fs.getD (o.refs + i) 0) := fun i hi => by
    have e : m.datE (t : Int) (i : Int) = 0 := by simp [HM.datE, hhas, ho, show inB o.data (i : Int) = true from decide_eq_true ⟨by omega, by omega⟩]
    unfold HM.datG
    rw [if_pos e, Int.toNat_natCast, Int.toNat_natCast]
    simp only [HM.fget, HM.datOff, ho, Int.toNat_natCast]
  have HPN : Hid (m.pinned (t : Int) = o.pin) := by show _ = _; simp [HM.pinned, ho]
  have HLEN := hid hlen
  clear h ho hhas hok
  go_enter Try.func21, Try.ntmps21
  go_wp2_with (first
    | (go_at_call 26; refine (h_shape_ob HH.out HO.out).mono ?_; rintro e w1 ⟨rfl, K1⟩; have HK1 := hid K1; have HB1 := hid (Blk.new w1 46 #[.int .i64 (o.refs : Int), .int .i64 (o.data : Int), .int .i64 (o.kind : Int)]); clear K1)
    | (go_at_call 70; refine (h_ident_ob (HH.out.kp0 (HK1.out.chain (Kp.new _ _))) HO.out).mono ?_; rintro e w' ⟨rfl, n2, rfl⟩))
  have hs1 : SH ((w1.alloc (.cells #[.int .i64 (o.refs : Int), .int .i64 (o.data : Int), .int .i64 (o.kind : Int)] 46)).drewN n2) b q m := (HH.out.kp0 (HK1.out.chain (Kp.new _ _))).drewN n2
  have hb1 : Blk ((w1.alloc (.cells #[.int .i64 (o.refs : Int), .int .i64 (o.data : Int), .int .i64 (o.kind : Int)] 46)).drewN n2) w1.heap.size 46 #[.int .i64 (o.refs : Int), .int .i64 (o.data : Int), .int .i64 (o.kind : Int)] := HB1.out
  have hk1 : Kp [] w ((w1.alloc (.cells #[.int .i64 (o.refs : Int), .int .i64 (o.data : Int), .int .i64 (o.kind : Int)] 46)).drewN n2) := (HK1.out.chain (Kp.new _ _)).drewN n2
  have es := size_alloc_drew w1 (.cells #[.int .i64 (o.refs : Int), .int .i64 (o.data : Int), .int .i64 (o.kind : Int)] 46) n2
  clear HB1
  rw [← es]
  clear es
  generalize hW1 : (w1.alloc (.cells #[.int .i64 (o.refs : Int), .int .i64 (o.data : Int), .int .i64 (o.kind : Int)] 46)).drewN n2 = W1 at hs1 hb1 hk1 ⊢
  have own0 := World.ownsRow_lit (base := W1.heap.size) (e := 3) (size := 1) W1 #[.int .i64 (o.id : Int), .int .i64 (o.refs : Int), .int .i64 (o.data : Int), .int .i64 (o.kind : Int)] 4 (Nat.le_refl _) (by unfold maxLen; omega) rfl
  have HOW0 := hid own0
  have HS1 := hid hs1
  have HB1 := hid hb1
  have HKW := hid hk1
  have HFL : Hid (∀ j, j ≤ o.fs.length → (o.head ++ o.fs.take j).length = 4 + j) := fun j hj => by simp [Ob.head, List.length_take]; omega
  have HTS := hid (take_step o.head o.fs)
  clear own0 hs1 hb1 hk1 hW1 HK1 HH
  go_loopw [9, 10] (fun s c wr => ∃ j : Nat, j ≤ o.refs ∧ c = .int .i64 (j : Int) ∧ wr.ownsRow W1.heap.size 3 1 s (o.head ++ o.fs.take j).length (zcells (o.head ++ o.fs.take j)) ∧ Below W1.heap.size W1 wr) (fun _ c _ => o.refs - (intOf c).toNat)
  case atStart => exact ⟨0, by omega, rfl, HOW0.out, (Kp.new W1 _).below (Nat.le_refl _) (by simp)⟩
  case round =>
    obtain ⟨j, hj, rfl, own, bel⟩ := hrel
    have HO1 := hid own
    have HBE := hid bel
    have HK4 := hid (Kp.of_below bel)
    have HS4 := hid (HS1.out.kp0 (Kp.of_below bel))
    have hbb := HB1.out.kp (Kp.of_below bel) (by simp)
    have q0 := hbb.cell 0
    have q1 := hbb.cell 1
    have q2 := hbb.cell 2
    clear hbb own bel
    by_cases hlt : j < o.refs
    · have HX := hid (HRG.out j hlt)
      have HE := hid (HTS.out j (by omega))
      have hle : (o.head ++ o.fs.take j).length ≤ 300 := by rw [HFL.out j (by omega)]; omega
      generalize o.fs.getD j 0 = y at HX HE
      generalize o.head ++ o.fs.take j = zs at HO1 HE hle
      have NONE := one_cell y
      go_wp2_with (first
        | (go_at_call 71; refine (h_ref HS4.out (t : Int) (j : Int) HW.out).mono ?_; rintro e w2 ⟨rfl, K2⟩; rw [HX.out]; have HK2 := hid K2; have HO2 := hid (own_kp0 HO1.out K2); have HSZ : Hid (W1.heap.size ≤ w2.heap.size) := (Nat.le_trans HBE.out.size K2.size); have HN := hid (one_new0 w2 y); clear K2)
        | (at_builtin; refine wpList_append_own _ rfl (.tmp 49) (.tmp 51) 26 rfl W1.heap.size 3 i0 (.int .i64 0) 1 8 Try.underlying26 hi0 hz0 hz1 hz2 rfl (by decide) _ _ _ rfl (HO2.out.alloc _) ⟨w2.heap.size, 0, none⟩ 1 1 [.int .i64 y] rfl rfl HN.out NONE (by unfold maxLen; omega) (by omega) (by have := HSZ.out; simp; omega) ?_; intro v' w9 hown' hgr _; have HO' := hid hown'; have HG := hid hgr; clear hown' hgr))
      go_roundw
      case rel =>
        obtain ⟨z1, z2⟩ := row_end0 HSZ.out rfl HO2.out HO'.out HG.out
        exact ⟨j + 1, by omega, by go_num, by rw [HE.out]; exact z1, HBE.out.trans ((HK2.out.below HBE.out.size (by simp)).trans z2)⟩
      case measure => simp [intOf]; omega
    · obtain rfl : j = o.refs := by omega
      go_wp2
      go_loopw [9, 13] (fun s c wr => ∃ j : Nat, j ≤ o.data ∧ c = .int .i64 (j : Int) ∧ wr.ownsRow W1.heap.size 3 1 s (o.head ++ o.fs.take (o.refs + j)).length (zcells (o.head ++ o.fs.take (o.refs + j))) ∧ Below W1.heap.size W1 wr) (fun _ c _ => o.data - (intOf c).toNat)
      case atStart => exact ⟨0, by omega, rfl, HO1.out, HBE.out⟩
      case round =>
        clear q0 q1 q2 HO1 HBE HK4 HS4
        obtain ⟨j, hj, rfl, own, bel⟩ := hrel
        have HO1 := hid own
        have HBE := hid bel
        have HK4 := hid (Kp.of_below bel)
        have HS4 := hid (HS1.out.kp0 (Kp.of_below bel))
        have hbb := HB1.out.kp (Kp.of_below bel) (by simp)
        have q0 := hbb.cell 0
        have q1 := hbb.cell 1
        have q2 := hbb.cell 2
        clear hbb own bel
        by_cases hlt : j < o.data
        · have HX := hid (HDG.out j hlt)
          have HE := hid (HTS.out (o.refs + j) (by omega))
          have hle : (o.head ++ o.fs.take (o.refs + j)).length ≤ 300 := by rw [HFL.out (o.refs + j) (by omega)]; omega
          generalize o.fs.getD (o.refs + j) 0 = y at HX HE
          generalize o.head ++ o.fs.take (o.refs + j) = zs at HO1 HE hle
          have NONE := one_cell y
          go_wp2_with (first
            | (go_at_call 72; refine (h_data HS4.out (t : Int) (j : Int) HW.out).mono ?_; rintro e w2 ⟨rfl, K2⟩; rw [HX.out]; have HK2 := hid K2; have HO2 := hid (own_kp0 HO1.out K2); have HSZ : Hid (W1.heap.size ≤ w2.heap.size) := (Nat.le_trans HBE.out.size K2.size); have HN := hid (one_new0 w2 y); clear K2)
            | (at_builtin; refine wpList_append_own _ rfl (.tmp 66) (.tmp 68) 26 rfl W1.heap.size 3 i0 (.int .i64 0) 1 8 Try.underlying26 hi0 hz0 hz1 hz2 rfl (by decide) _ _ _ rfl (HO2.out.alloc _) ⟨w2.heap.size, 0, none⟩ 1 1 [.int .i64 y] rfl rfl HN.out NONE (by unfold maxLen; omega) (by omega) (by have := HSZ.out; simp; omega) ?_; intro v' w9 hown' hgr _; have HO' := hid hown'; have HG := hid hgr; clear hown' hgr))
          go_roundw
          case rel =>
            obtain ⟨z1, z2⟩ := row_end0 HSZ.out rfl HO2.out HO'.out HG.out
            exact ⟨j + 1, by omega, by go_num, by rw [show o.refs + (j + 1) = o.refs + j + 1 by omega, HE.out]; exact z1, HBE.out.trans ((HK2.out.below HBE.out.size (by simp)).trans z2)⟩
          case measure => simp [intOf]; omega
        · obtain rfl : j = o.data := by omega
          have HAL : Hid (o.head ++ o.fs.take (o.refs + o.data) = o.all) := by
            show _ = _
            unfold Ob.all
            rw [List.take_of_length_le (by omega)]
          have hle : (o.head ++ o.fs.take (o.refs + o.data)).length ≤ 300 := by rw [HFL.out (o.refs + o.data) (by omega)]; omega
          rw [HAL.out] at HO1 hle
          have HBF := hid ((HKW.out.below (Nat.le_refl _) (by simp)).trans (below_mono HBE.out HKW.out.size))
          have HWS : Hid (w.heap.size ≤ W1.heap.size) := HKW.out.size
          rcases hp : o.pin
          · rw [hp] at HPN
            have HC : Hid (o.conts = o.all) := by show _ = _; simp [Ob.conts, hp]
            clear hp
            go_wp2_with (go_at_call 73; refine (h_pinned HS4.out _ HW.out).mono ?_; rintro e w' ⟨rfl, n3, rfl⟩; rw [HPN.out])
            go_ret
            rw [HC.out]
            exact ⟨_, rfl, own_base (own_kp0 HO1.out (Kp.draw _ _)) HWS.out, below_drewN HBF.out _⟩
          · rw [hp] at HPN
            have HC : Hid (o.conts = o.all ++ [1]) := by show _ = _; simp [Ob.conts, hp]
            clear hp
            have NONE := one_cell 1
            have HSZ : Hid (W1.heap.size ≤ wr.heap.size) := HBE.out.size
            have HN : Hid _ := one_new wr 1
            go_wp2_with (first
              | (go_at_call 73; refine (h_pinned HS4.out _ HW.out).mono ?_; rintro e w' ⟨rfl, n3, rfl⟩; rw [HPN.out])
              | (at_builtin; refine wpList_append_own _ rfl (.tmp 73) (.tmp 74) 26 rfl W1.heap.size 3 i0 (.int .i64 0) 1 8 Try.underlying26 hi0 hz0 hz1 hz2 rfl (by decide) _ _ _ rfl ((show (wr.drewN n3).ownsRow _ _ _ _ _ _ from HO1.out).alloc _) ⟨wr.heap.size, 0, none⟩ 1 1 [.int .i64 1] rfl rfl (HN.out n3) NONE (by unfold maxLen; omega) (by omega) (by have := HSZ.out; simp; omega) ?_; intro v' w9 hown' hgr _; have HO' := hid hown'; have HG := hid hgr; clear hown' hgr))
            go_ret
            obtain ⟨z1, z2⟩ := row_end HSZ.out rfl HO1.out HO'.out HG.out
            rw [HC.out]
            exact ⟨_, rfl, own_base z1 HWS.out, HBF.out.trans (below_mono z2 HWS.out)⟩
end
end Go.Proofs.Ytplgbpmldjngoaa
