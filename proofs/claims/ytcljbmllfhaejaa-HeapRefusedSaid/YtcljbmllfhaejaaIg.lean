/-
  The contract of package heap's Ident, at an object; and the law HeapIdents, walked. Conditions: those that stand in each theorem.
-/
import Derived.Test.YtcljbmllfhaejaaIf
namespace Go.Proofs.Ytcljbmllfhaejaa
set_option linter.unusedVariables false
set_option linter.unusedSimpArgs false
open Go.RowKit Go.Deep Go.Maps

section
variable {w w' : World} {b : HB} {r : RM} {m : HM} {q : Nat}
theorem h_ident_ob (h : SH w b q m) {a : Nat} {o : Ob} (ho : m.ob a = some o) :
    Calls Try.prog 24 #[.pointer (some ⟨b.g, 0, none⟩), .int .i64 (a : Int)] w fun e w' => e = .returned (.tuple #[.int .i64 (o.id : Int), .int .i64 0]) ∧ ∃ n, w' = w.drewN n := by
  have h0 := h
  obtain ⟨r, R, A, _⟩ := h
  have hhi := A.inv.hi ho
  have hw := (A.inv.ok _ _ ho).wd_bd
  have hwl := A.wl R
  have hnb := A.inv.n_bd
  have hc1 := R.c1
  have hx := R.word (k := a) (by omega)
  rw [A.w0 ho] at hx
  have hal : (a : Int) < (r.ws.length : Int) := by omega
  have HE : Hid (m.lackE (a : Int) = 0) := by show _ = _; simp [HM.lackE, has_of ho]
  have HW : Hid (W64 (a : Int)) := ⟨by omega, by omega⟩
  clear A ho hw
  go_enter Try.func24, Try.ntmps24
  go_wp2_with (go_at_call 55; refine (h_check h0 _ HW.out).mono ?_; rintro e w' ⟨rfl, n1, rfl⟩; rw [HE.out])
  go_ret2
  exact ⟨rfl, _, rfl⟩
theorem all_at {i : Nat} (hi : i < m.allL.length) : ∃ (a : Nat) (o : Ob), m.allL.getD i 0 = (a : Int) ∧ m.ob a = some o := by
  have hm : m.allL.getD i 0 ∈ m.allL := by
    rw [List.getD_eq_getElem?_getD, List.getElem?_eq_getElem hi]
    exact List.getElem_mem hi
  obtain ⟨j, h1, h2, h3⟩ := (fpL_mem _ _ _ _).1 hm
  obtain ⟨o, ho⟩ := Option.isSome_iff_exists.1 h3
  exact ⟨_, o, h2, ho⟩
theorem all_lt {i j : Nat} (hi : i < j) (hj : j < m.allL.length) : m.allL.getD i 0 < m.allL.getD j 0 := by
  have := List.pairwise_iff_getElem.1 (fpL_sorted m 0 (32 * m.bl.length)) i j (by unfold HM.allL at hj; omega) hj hi
  rw [List.getD_eq_getElem?_getD, List.getD_eq_getElem?_getD, List.getElem?_eq_getElem (by omega), List.getElem?_eq_getElem hj]
  exact this
theorem all_mem (I : m.Inv) {a : Nat} {o : Ob} (ho : m.ob a = some o) : ∃ i, i < m.allL.length ∧ m.allL.getD i 0 = (a : Int) := by
  have he := I.even _ _ ho
  have hh := I.hi ho
  have hw := (I.ok _ _ ho).wd_bd
  have hn : m.n = 64 * m.bl.length := rfl
  have hm : ((a : Nat) : Int) ∈ m.allL := (fpL_mem _ _ _ _).2 ⟨a / 2, by omega, by congr 1; omega, by rw [show 2 * (0 + a / 2) = a by omega, ho]; rfl⟩
  obtain ⟨y, hy, hg⟩ := List.mem_iff_getElem.1 hm
  refine ⟨y, hy, ?_⟩
  rw [List.getD_eq_getElem?_getD, List.getElem?_eq_getElem hy, hg]
  rfl
theorem all_le (I : m.Inv) : m.allL.length ≤ 2048 := by
  have := fpL_le m 0 (32 * m.bl.length)
  have := I.len64
  unfold HM.allL
  omega
def HM.idL (m : HM) (j : Nat) : Nat := match m.ob (m.allL.getD j 0).toNat with | some o => o.id | none => 0
theorem idL_of {j a : Nat} {o : Ob} (h1 : m.allL.getD j 0 = (a : Int)) (h2 : m.ob a = some o) : m.idL j = o.id := by
  unfold HM.idL
  rw [h1, Int.toNat_natCast, h2]
def HM.seenL (m : HM) : Nat → List Bool
  | 0 => List.replicate (m.born + 1) false
  | j + 1 => (m.seenL j).set (m.idL j) true
@[simp] theorem seenL_length (m : HM) (j : Nat) : (m.seenL j).length = m.born + 1 := by
  induction j with
  | zero => simp [HM.seenL]
  | succ j ih => simp [HM.seenL, ih]
theorem seenL_get (m : HM) (j n : Nat) (hn : n ≤ m.born) : (m.seenL j).getD n false = true ↔ ∃ y, y < j ∧ m.idL y = n := by
  induction j with
  | zero =>
    have : (m.seenL 0).getD n false = false := by
      show (List.replicate (m.born + 1) false).getD n false = false
      rw [List.getD_eq_getElem?_getD, List.getElem?_replicate]; split <;> rfl
    rw [this]
    constructor
    · intro h; cases h
    · rintro ⟨y, h, _⟩; omega
  | succ j ih =>
    unfold HM.seenL
    rw [List.getD_eq_getElem?_getD, List.getElem?_set]
    by_cases h1 : m.idL j = n
    · rw [if_pos h1, if_pos (by simp; omega)]
      exact ⟨fun _ => ⟨j, by omega, h1⟩, fun _ => rfl⟩
    · rw [if_neg h1, ← List.getD_eq_getElem?_getD, ih]
      constructor
      · rintro ⟨y, h2, h3⟩; exact ⟨y, by omega, h3⟩
      · rintro ⟨y, h2, h3⟩
        by_cases h4 : y = j
        · subst h4; exact absurd h3 h1
        · exact ⟨y, by omega, h3⟩
theorem seen_not (I : m.Inv) {j a : Nat} {o : Ob} (hj : j < m.allL.length) (h1 : m.allL.getD j 0 = (a : Int)) (h2 : m.ob a = some o) : (m.seenL j).getD o.id false = false := by
  rcases hb : (m.seenL j).getD o.id false
  · rfl
  · obtain ⟨y, hy, he⟩ := (seenL_get m j o.id (I.idb _ _ h2)).1 hb
    obtain ⟨a', o', g1, g2⟩ := all_at (m := m) (i := y) (by omega)
    rw [idL_of g1 g2] at he
    have := I.ids _ _ _ _ g2 h2 he
    subst this
    have := all_lt hy hj
    omega
theorem seen_all (I : m.Inv) {n : Nat} (hn : n ≤ m.born) : (m.seenL m.allL.length).getD n false = (m.at_ (n : Int)).isSome := by
  rw [Bool.eq_iff_iff, seenL_get _ _ _ hn, Option.isSome_iff_exists]
  constructor
  · rintro ⟨y, hy, he⟩
    obtain ⟨a, o, g1, g2⟩ := all_at hy
    rw [idL_of g1 g2] at he
    exact ⟨a, (at_iff I _ _).2 ⟨o, g2, by rw [he]⟩⟩
  · rintro ⟨a, ha⟩
    obtain ⟨o, h1, h2⟩ := (at_iff I _ _).1 ha
    obtain ⟨y, hy, he⟩ := all_mem I h1
    exact ⟨y, hy, by rw [idL_of he h1]; omega⟩
theorem FarI.kp' {w W : World} {B : Nat} {S : List Nat} {v : Value} {zs : List Int} (h : FarI w B v zs) (k : Kp S w W) (hS : ∀ x ∈ S, w.heap.size ≤ x) : FarI W B v zs := by
  obtain ⟨A, cap, rfl, h1, h2, hA⟩ := h
  refine ⟨A, cap, rfl, h1, h2, fun i hi => ?_⟩
  obtain ⟨g, e1, hB, e2⟩ := hA i hi
  have hn : g ∉ S := fun hm => by have := hS g hm; have := cell_lt e2; omega
  exact ⟨g, e1, hB, by rw [World.cell?_of_block (k.block g (cell_lt e2) hn)]; exact e2⟩
theorem SH.born_le (h : SH w b q m) : m.born ≤ q := by
  obtain ⟨r, R, A, _, h2⟩ := h
  rw [← A.born]; exact h2
set_option maxRecDepth 100000 in
set_option maxHeartbeats 8000000 in
theorem idents_ok (n : Int) (A : Option Addr) (len cap : Nat) (a x d k : Int) (hA : ActsAt w A len) (ha : W64 a) :
    Calls Try.prog 5 #[.int .i64 n, .slice A len cap, .int .i64 a, .agg #[.int .i64 x, .int .i64 d, .int .i64 k]] w (TrueP w) := by
  have HA := hid hA
  have HAD := hid ha
  clear hA ha
  have K0 := hid (Kp.new w (.cells #[.int .i64 x, .int .i64 d, .int .i64 k] 23))
  have B0 := hid (Blk.new w 23 #[.int .i64 x, .int .i64 d, .int .i64 k])
  go_enter Try.func5, Try.ntmps5
  go_wp2_with (fail)
  refine (h_made_any n A len cap (HA.out.kp K0.out)).mono ?_
  rintro e w2 ⟨K2, rfl | ⟨b, m, q, rfl, S2, hq, N2⟩⟩
  · have HK := hid (K0.out.chain K2)
    clear K2
    go_wp2_with (go_at_call 15; refine (alive_ok _).mono ?_; rintro e w3 ⟨rfl, K3⟩; have HK3 := hid (HK.out.chain K3); clear K3)
    go_ret
    exact ⟨rfl, HK3.out⟩
  · have HK := hid (K0.out.chain K2)
    have HB2 := hid (B0.out.kp K2 (by simp))
    have HN : Hid (∀ y ∈ b.all, w.heap.size < y) := fun y hy => Nat.lt_of_lt_of_le B0.out.lt (N2 y hy)
    have HS := hid S2
    have I := S2.inv
    have hbq := S2.born_le
    have hal := all_le I
    have HI := hid I
    have hmk : ∀ W : World, (Instr.makeSlice 40 (.int .i64 ((m.born : Int) + 1)) (.int .i64 ((m.born : Int) + 1))).run Try.prog W = .ok (.slice (some ⟨W.heap.size, 0, none⟩) (m.born + 1) (m.born + 1)) (W.alloc (.cells (madeCells #[.bool false] (m.born + 1)) 4)) := fun W => by
      rw [show ((m.born : Int) + 1) = ((m.born + 1 : Nat) : Int) by omega]
      exact run_make_row' (P := Try.prog) 40 4 (.bool false) 1 Try.underlying40 (by kernel_rfl) rfl .i64 .i64 (m.born + 1) (by omega) (by omega) W
    have HML : Hid (madeCells #[.bool false] (m.born + 1) = (lcells (m.seenL 0)).toArray) := by
      show _ = _
      apply Array.toList_inj.1
      rw [toList_madeCells_one]
      simp [lcells, HM.seenL]
    have HAA := hid (fun i (hi : i < m.allL.length) => all_at (m := m) hi)
    have HSN := hid (fun j a o (hj : j < m.allL.length) h1 h2 => (⟨seen_not I (a := a) (o := o) hj h1 h2, idL_of h1 h2, (I.ok _ _ h2).pos, I.idb _ _ h2, (at_iff I (o.id : Int) a).2 ⟨o, h2, rfl⟩, I.hi h2⟩ : _ ∧ _ ∧ _ ∧ _ ∧ _ ∧ a + o.wd ≤ m.n))
    have hmn := I.n_bd.2
    have HSA := hid (fun j (hj : j ≤ m.born) => seen_all I hj)
    clear K2 S2 N2 I
    go_wp2_with (go_at_call 23; refine (h_births HS.out).mono ?_; rintro e w' ⟨rfl, n1, rfl⟩)
    refine (h_all (HS.out.drewN _)).mono ?_
    rintro e w3 ⟨v3, rfl, own3, bel3⟩
    have hK3 : Kp [] w2 w3 := (Kp.of_below bel3).from_drewN
    have HF3 := hid (FarI.of_own own3)
    obtain ⟨A3, cap3, rfl, hc3a, hc3b, _⟩ := FarI.of_own own3
    unfold maxLen at hc3b
    have HK3 := hid hK3
    have HS3 := hid (HS.out.kp0 hK3)
    have HB3 := hid (HB2.out.kp hK3 (by simp))
    clear own3 bel3 hK3
    go_wp2
    go_loopw [13] (fun c wr => ∃ j : Nat, j ≤ m.allL.length ∧ c = .int .i64 (j : Int) ∧ Blk wr w3.heap.size 4 (lcells (m.seenL j)).toArray ∧ Kp [w3.heap.size] w3 wr) (fun c _ => m.allL.length - (intOf c).toNat)
    case atStart => exact ⟨0, by omega, rfl, by rw [← HML.out]; exact Blk.new _ _ _, (Kp.new w3 _).mono (by simp)⟩
    case round =>
      obtain ⟨j, hj, rfl, hbk, kp⟩ := hrel
      have HBK := hid hbk
      have HKP := hid kp
      have HS4 := hid (HS3.out.kp kp (fun y hy => by have := HS3.out.lt y hy; simp; omega))
      by_cases hlt : j < m.allL.length
      · obtain ⟨g, rfl, hg, hcell⟩ := (HF3.out.kp' kp (by simp)).at_ j hlt
        obtain ⟨t, o, ht, ho⟩ := HAA.out j hlt
        obtain ⟨s1, s2, s3, s4, s5, s6⟩ := HSN.out j t o hlt ht ho
        rw [ht] at hcell
        have hne : g ≠ w3.heap.size := fun hc => by
          obtain ⟨_, e3, _, e4⟩ := HF3.out.at_ j hlt
          cases e3
          have := cell_lt e4
          omega
        have hc0 := hbk.cell o.id
        rw [lcells_get (by simp; omega), s1] at hc0
        have hf0 := hbk.frozen o.id
        have K5 : Kp [w3.heap.size] wr (wr.setCell ⟨w3.heap.size, o.id, none⟩ (.bool true)) := Kp.cell wr ⟨w3.heap.size, o.id, none⟩ (.bool true)
        have hcell2 : (wr.setCell ⟨w3.heap.size, o.id, none⟩ (.bool true)).cell? ⟨g, j, none⟩ = some (.int .i64 (t : Int)) := by
          rw [World.cell?_of_block (K5.block g (cell_lt hcell) (by simpa using hne))]
          exact hcell
        have HS5 := hid (HS4.out.kp K5 (fun y hy => by have := HS3.out.lt y hy; simp; omega))
        have HO := hid ho
        have HK5 := hid (HKP.out.trans K5 (U := [w3.heap.size]) (by simp) (by simp))
        have HB5 : Hid (Blk (wr.setCell ⟨w3.heap.size, o.id, none⟩ (.bool true)) w3.heap.size 4 (lcells (m.seenL (j + 1))).toArray) := by
          have hB := HBK.out.set_ o.id (.bool true)
          rw [lcells_set] at hB
          show Blk _ _ _ (lcells ((m.seenL j).set (m.idL j) true)).toArray
          rw [s2]
          exact hB
        have HV : Hid (optV (m.atI (o.id : Int)) = (t : Int)) := by show _ = _; unfold HM.atI; rw [s5]; rfl
        have HE : Hid (optE (m.atI (o.id : Int)) = 0) := by show _ = _; unfold HM.atI; rw [s5]; rfl
        have HW : Hid (W64 (o.id : Int)) := ⟨by omega, by omega⟩
        have p1 : (1 : Int) ≤ (o.id : Int) := by omega
        have p2 : (o.id : Int) ≤ (m.born : Int) := by omega
        have p3 : (o.id : Int) < (m.born : Int) + 1 := by omega
        have p4 : o.id < m.born + 1 := by omega
        clear hbk kp K5 ho ht s1 s2 s5 hg
        go_wp2_with (first
          | (go_at_call 24; refine (h_ident_ob HS4.out HO.out).mono ?_; rintro e w' ⟨rfl, n2, rfl⟩)
          | (go_at_call 25; refine (h_at (HS5.out.drewN _) _ HW.out).mono ?_; rintro e w' ⟨rfl, n3, rfl⟩; rw [HV.out, HE.out])
          | (go_at_call 25; refine (h_at HS5.out _ HW.out).mono ?_; rintro e w' ⟨rfl, n3, rfl⟩; rw [HV.out, HE.out]))
        go_roundw
        case rel => exact ⟨j + 1, by omega, by go_num, HB5.out, HK5.out.drewN _⟩
        case measure => simp [intOf]; omega
      · obtain rfl : j = m.allL.length := by omega
        clear hbk kp
        go_wp2
        go_loopw [18] (fun c wr2 => ∃ z : Nat, 1 ≤ z ∧ z ≤ m.born + 1 ∧ c = .int .i64 (z : Int) ∧ Kp [] wr wr2) (fun c _ => m.born + 1 - (intOf c).toNat)
        case atStart => exact ⟨1, by omega, by omega, rfl, Kp.refl _ _⟩
        case round =>
          obtain ⟨z, hz1, hz2, rfl, k6⟩ := hrel
          have HK6 := hid k6
          have HS6 := hid (HS4.out.kp0 k6)
          by_cases hzl : z ≤ m.born
          · have hc0 := (HBK.out.kp k6 (by simp)).cell z
            rw [lcells_get (by simp; omega), HSA.out z hzl] at hc0
            have HW : Hid (W64 (z : Int)) := ⟨by omega, by omega⟩
            rcases hat : m.at_ (z : Int) with _ | t
            · rw [hat] at hc0
              simp only [Option.isSome_none] at hc0
              have HE : Hid (optE (m.atI (z : Int)) = 4) := by show _ = _; unfold HM.atI; rw [hat]; rfl
              clear k6 hat
              go_wp2_with (go_at_call 25; refine (h_at HS6.out _ HW.out).mono ?_; rintro e w' ⟨rfl, n3, rfl⟩; rw [HE.out])
              go_roundw
              case rel => exact ⟨z + 1, by omega, by omega, by go_num, HK6.out.drewN _⟩
              case measure => simp [intOf]; omega
            · rw [hat] at hc0
              simp only [Option.isSome_some] at hc0
              have HE : Hid (optE (m.atI (z : Int)) = 0) := by show _ = _; unfold HM.atI; rw [hat]; rfl
              clear k6 hat
              go_wp2_with (go_at_call 25; refine (h_at HS6.out _ HW.out).mono ?_; rintro e w' ⟨rfl, n3, rfl⟩; rw [HE.out])
              go_roundw
              case rel => exact ⟨z + 1, by omega, by omega, by go_num, HK6.out.drewN _⟩
              case measure => simp [intOf]; omega
          · obtain rfl : z = m.born + 1 := by omega
            have HK7 := hid (HK.out.chain (HK3.out.trans (HKP.out.chain k6) (U := []) (by simp) (fun y hy => .inr (by rw [List.mem_singleton] at hy; rw [hy]; exact HK3.out.size))))
            have hne : w.heap.size ≠ w3.heap.size := by
              have := HB3.out.lt
              omega
            have HB7 := (HB3.out.kp HKP.out (by simpa using hne)).kp k6 (by simp)
            have q0 := HB7.cell 0
            have q1 := HB7.cell 1
            have q2 := HB7.cell 2
            have HQ : Hid (q ≤ 900000000) := by show _ ≤ _; omega
            clear k6
            by_cases hp : m.placeE a x d k = 0
            · have HE := hid hp
              have HV : Hid (m.placeV a x d k = (m.born : Int) + 1) := by show _ = _; unfold HM.placeV; rw [if_pos hp]; omega
              have HBN : Hid (((m.placeM a x d k).born : Int) = (m.born : Int) + 1) := by
                show _ = _
                unfold HM.placeM
                rw [if_pos hp]
                show ((m.born + 1 : Nat) : Int) = (m.born : Int) + 1
                omega
              clear hp HB7
              go_wp2_with (first
                | (go_at_call 26; refine (h_place HS6.out a x d k HAD.out HQ.out).mono ?_; rintro e w8 ⟨rfl, S8, K8⟩; rw [HE.out, HV.out]; have HS8 := hid S8; have HK8 := hid (HK7.out.trans K8 (U := []) (by simp) (fun y hy => .inr (Nat.le_of_lt (HN.out y hy)))); clear S8 K8)
                | (go_at_call 23; refine (h_births HS8.out).mono ?_; rintro e w' ⟨rfl, n4, rfl⟩; rw [HBN.out])
                | (go_at_call 15; refine (alive_ok _).mono ?_; rintro e w9 ⟨rfl, K9⟩; have HK9 := hid (HK8.out.chain K9.from_drewN); clear K9))
              go_ret
              exact ⟨rfl, HK9.out⟩
            · have f1 : (m.placeE a x d k == 0) = false := beq_eq_false_iff_ne.2 hp
              have f2 : (m.placeE a x d k != 0) = true := bne_iff_ne.2 hp
              have HV : Hid (m.placeV a x d k = 0) := by show _ = _; unfold HM.placeV; rw [if_neg hp]
              have HBN : Hid (((m.placeM a x d k).born : Int) = (m.born : Int)) := by
                show _ = _
                unfold HM.placeM
                rw [if_neg hp]
              clear hp HB7
              go_wp2_with (first
                | (go_at_call 26; refine (h_place HS6.out a x d k HAD.out HQ.out).mono ?_; rintro e w8 ⟨rfl, S8, K8⟩; rw [HV.out]; have HS8 := hid S8; have HK8 := hid (HK7.out.trans K8 (U := []) (by simp) (fun y hy => .inr (Nat.le_of_lt (HN.out y hy)))); clear S8 K8)
                | (go_at_call 23; refine (h_births HS8.out).mono ?_; rintro e w' ⟨rfl, n4, rfl⟩; rw [HBN.out])
                | (go_at_call 15; refine (alive_ok _).mono ?_; rintro e w9 ⟨rfl, K9⟩; have HK9 := hid (HK8.out.chain K9.from_drewN); clear K9))
              go_ret
              exact ⟨rfl, HK9.out⟩
end
end Go.Proofs.Ytcljbmllfhaejaa
