/-
  RootsPlaces' walk. Conditions: those that stand in each theorem.
-/
import Derived.Test.YtkepgcpogblfaaaSx
namespace Go.Proofs.Ytkepgcpogblfaaa
set_option linter.unusedVariables false
set_option linter.unusedSimpArgs false
open Go.RowKit Go.Deep Go.Maps

theorem setM_dims (t : RT) (k m i v : Int) : (t.setM k m i v).n = t.n ∧ (t.setM k m i v).qu.length = t.qu.length := by
  unfold RT.setM
  split
  · exact set_dims t k m i v
  · exact ⟨rfl, rfl⟩
theorem setM_at {t : RT} (ok : t.Ok) {pk pm pi v : Int} (hE : t.setE pk pm pi v = 0) {q : Pl} (hq : q ∈ t.every) :
    (t.setM pk pm pi v).at_ q = if (q.k : Int) = pk ∧ (q.m : Int) = pm ∧ (q.i : Int) = pi then v else t.at_ q := by
  have hh : t.has pk pm pi = true := by
    unfold RT.setE at hE
    rcases h : t.has pk pm pi
    · rw [h] at hE; simp at hE
    · rfl
  unfold RT.setM
  rw [if_pos hE]
  have h0 : 0 ≤ pk ∧ 0 ≤ pm ∧ 0 ≤ pi := by
    rcases of_decide_eq_true hh with ⟨a, b, c, d, e⟩ | ⟨a, b, c, d⟩ | ⟨a, b, c, d⟩ <;> omega
  obtain ⟨a, rfl⟩ : ∃ a : Nat, pk = (a : Int) := ⟨pk.toNat, by omega⟩
  obtain ⟨b, rfl⟩ : ∃ a : Nat, pm = (a : Int) := ⟨pm.toNat, by omega⟩
  obtain ⟨c, rfl⟩ : ∃ a : Nat, pi = (a : Int) := ⟨pi.toNat, by omega⟩
  have := at_set ok (p := ⟨a, b, c⟩) hh (mem_every hq) v
  show (t.setP ⟨a, b, c⟩ v).at_ q = _
  rw [this]
  obtain ⟨x, y, z⟩ := q
  by_cases h : (⟨x, y, z⟩ : Pl) = ⟨a, b, c⟩
  · injection h with h1 h2 h3
    subst h1 h2 h3
    rw [if_pos rfl, if_pos ⟨rfl, rfl, rfl⟩]
  · rw [if_neg h, if_neg]
    rintro ⟨h1, h2, h3⟩
    simp only at h1 h2 h3
    exact h (by rw [show x = a by omega, show y = b by omega, show z = c by omega])
theorem filt_at {l : List Pl} {f : Pl → Bool} {i : Nat} (hi : i < l.length) (h : f (l.getD i ⟨0, 0, 0⟩) = true) : ((l.take i).filter f).length < (l.filter f).length ∧ (l.filter f).getD ((l.take i).filter f).length ⟨0, 0, 0⟩ = l.getD i ⟨0, 0, 0⟩ ∧ ((l.take (i + 1)).filter f).length = ((l.take i).filter f).length + 1 := by
  have e1 : l.filter f = (l.take i).filter f ++ (l.getD i ⟨0, 0, 0⟩ :: (l.drop (i + 1)).filter f) := by
    have e := List.take_append_drop i l
    have e2 : l.drop i = l.getD i ⟨0, 0, 0⟩ :: l.drop (i + 1) := by
      rw [List.drop_eq_getElem_cons hi, List.getD_eq_getElem?_getD, List.getElem?_eq_getElem hi]; rfl
    conv => lhs; rw [← e, List.filter_append, e2, List.filter_cons_of_pos h]
  refine ⟨?_, ?_, ?_⟩
  · rw [e1, List.length_append]; simp
  · rw [e1, List.getD_eq_getElem?_getD, List.getElem?_append_right (Nat.le_refl _), Nat.sub_self]
    rfl
  · rw [take_getD hi, List.filter_append, List.filter_cons_of_pos h]
    simp
theorem filt_not {l : List Pl} {f : Pl → Bool} {i : Nat} (hi : i < l.length) (h : f (l.getD i ⟨0, 0, 0⟩) = false) : ((l.take (i + 1)).filter f).length = ((l.take i).filter f).length := by
  rw [take_getD hi, List.filter_append, List.filter_cons_of_neg (by rw [h]; simp)]
  simp
theorem vals_getD {t : RT} {i : Nat} (h : i < t.every.length) : t.vals.getD i 0 = t.at_ (t.every.getD i ⟨0, 0, 0⟩) := by
  unfold RT.vals
  rw [List.getD_eq_getElem?_getD, List.getElem?_map, List.getElem?_eq_getElem h, List.getD_eq_getElem?_getD, List.getElem?_eq_getElem h]
  rfl
section
variable {w0 w w' : World} {b : RB} {tb : TB} {t : RT}
set_option maxRecDepth 100000 in
set_option maxHeartbeats 8000000 in
theorem places_ok (mu : Int) {A : Option Addr} {n c : Nat} {X : Nat → ActR} (h : ActsR w A n X) (pk pm pi v : Int) :
    Calls Try.prog 5 #[.int .i64 mu, .slice A n c, .agg #[.int .i64 pk, .int .i64 pm, .int .i64 pi], .int .i64 v] w (TrueP w) := by
  have KN := Kp.new w (.cells #[.int .i64 pk, .int .i64 pm, .int .i64 pi] 33)
  have HKN := hid KN
  have H : Hid (ActsR (w.alloc (.cells #[.int .i64 pk, .int .i64 pm, .int .i64 pi] 33)) A n X) := ⟨h.le, fun i hi => ⟨(h.ok i hi).a, (h.ok i hi).f.kp0 KN, (h.ok i hi).tt.kp0 KN, (h.ok i hi).w⟩, fun i hi => by
    obtain ⟨g, o, e, c0, c1, c2, c3, c4, c5, c6⟩ := h.at_ i hi
    exact ⟨g, o, e, cell_kp KN c0, cell_kp KN c1, cell_kp KN c2, cell_kp KN c3, cell_kp KN c4, cell_kp KN c5, cell_kp KN c6⟩⟩
  have HB := hid (Blk.new w 33 #[.int .i64 pk, .int .i64 pm, .int .i64 pi])
  clear h KN
  go_enter Try.func5, Try.ntmps5
  go_wp2_with (fail)
  generalize (w.alloc (.cells #[.int .i64 pk, .int .i64 pm, .int .i64 pi] 33)) = w0 at *
  refine (made_ok mu H.out).mono ?_
  rintro e w1 (⟨rfl, k1⟩ | ⟨b, tb, t, rfl, P, D⟩)
  · have HK := hid (HKN.out.chain k1)
    clear k1
    go_wp2_with (fail)
    refine (alive_ok _).mono ?_
    rintro e w2 ⟨rfl, k2⟩
    have HK2 := hid (HK.out.chain k2)
    clear k2
    go_wp2
    go_ret
    exact ⟨rfl, HK2.out⟩
  · have HP := hid P
    clear P D
    go_wp2_with (fail)
    refine (all_ok HP.out).mono ?_
    rintro e w2 ⟨v2, rfl, own2, bel2⟩
    have HP2 := hid (HP.out.kp0 (Kp.of_below bel2))
    have HI2 := hid (IsI.of_own own2)
    have HN2 : Hid (∀ A' n' c' g' o', v2 = .slice (some ⟨g', o', A'⟩) n' c' → g' ∉ b.all) := fun A' n' c' g' o' e' hm => by
      have h1 := HP.out.rr.lt g' hm
      rcases own2.2 with ⟨hv, _⟩ | ⟨g2, c2, cur, hv, hle, _⟩
      · rw [hv] at e'; cases e'
      · rw [hv] at e'; injection e' with e'; injection e' with e'; injection e' with e'; omega
    have bb := HB.out.kp HP2.out.kp (by simp)
    have c0 := bb.cell 0
    have c1 := bb.cell 1
    have c2 := bb.cell 2
    clear own2 bel2 bb
    have HSE := hid (r_set (b := b) HP2.out.rr pk pm pi v)
    have HDIM := hid (setM_dims t pk pm pi v)
    obtain ⟨E, hE⟩ : ∃ E, E = t.setE pk pm pi v := ⟨_, rfl⟩
    rw [← hE] at HSE
    have HAT : Hid (∀ q ∈ t.every, (t.setM pk pm pi v).at_ q = if E = 0 ∧ (q.k : Int) = pk ∧ (q.m : Int) = pm ∧ (q.i : Int) = pi then v else t.at_ q) := fun q hq => by
      by_cases h0 : E = 0
      · rw [setM_at HP.out.rr.ok (by rw [← hE]; exact h0) hq]
        by_cases h1 : (q.k : Int) = pk ∧ (q.m : Int) = pm ∧ (q.i : Int) = pi
        · rw [if_pos h1, if_pos ⟨h0, h1⟩]
        · rw [if_neg h1, if_neg (fun h => h1 h.2)]
      · rw [if_neg (fun h => h0 h.1)]
        unfold RT.setM
        rw [if_neg (by rw [← hE]; exact h0)]
    clear hE
    go_wp2_with (fail)
    refine HSE.out.mono ?_
    rintro e w3 ⟨rfl, R3, K3⟩
    have HP3 := hid (HP2.out.stepR R3 K3)
    have HI3 := hid (HI2.out.kps K3 HN2.out)
    have HEV := hid (every_of HDIM.out.1 HDIM.out.2)
    generalize t.setM pk pm pi v = s at HP3 HEV HAT R3
    have HSOK := hid R3.ok
    clear R3 K3 c0 c1 c2
    go_wp2_with (fail)
    refine (all_ok2 HP3.out HEV.out).mono ?_
    rintro e w4 ⟨v4, rfl, own4, bel4⟩
    have HP4 := hid (HP3.out.kp0 (Kp.of_below bel4))
    have HI4 := hid (HI3.out.kp0 (Kp.of_below bel4))
    have HI5 := hid (IsI.of_own own4)
    clear own4 bel4
    go_wp2_with (fail)
    refine (t_every HP4.out.tr).mono ?_
    rintro e w5 ⟨v5, rfl, own5, bel5⟩
    have HP5 := hid (HP4.out.kp0 (Kp.of_below bel5))
    have HI6 := hid (HI4.out.kp0 (Kp.of_below bel5))
    have HI7 := hid (HI5.out.kp0 (Kp.of_below bel5))
    have HL5 := hid (IsPl.of_own own5)
    clear own5 bel5
    go_wp2_with (fail)
    refine (r_places HP5.out.rr).mono ?_
    rintro e w6 ⟨v6, rfl, own6, bel6⟩
    have HP6 := hid (HP5.out.kp0 (Kp.of_below bel6))
    have bb := HB.out.kp HP6.out.kp (by simp)
    have c0 := bb.cell 0
    have c1 := bb.cell 1
    have c2 := bb.cell 2
    have hl6 := IsPl.of_own own6
    obtain ⟨A2, cc2, h2, _, hA2⟩ := HI6.out.kp0 (Kp.of_below bel6)
    obtain ⟨A4, cc4, h4, _, hA4⟩ := HI7.out.kp0 (Kp.of_below bel6)
    obtain ⟨A5, cc5, h5, _, hA5⟩ := HL5.out.kp0 (Kp.of_below bel6)
    obtain ⟨A6, cc6, h6, _, hA6⟩ := hl6
    have hv1 : t.vals.length = t.every.length := by unfold RT.vals; rw [List.length_map]
    have hv2 : s.vals.length = t.every.length := by unfold RT.vals; rw [List.length_map, HEV.out]
    rw [hv1] at h2 hA2
    rw [hv2] at h4 hA4
    have HA2 := hid hA2
    have HA4 := hid hA4
    have HA5 := hid hA5
    have HA6 := hid hA6
    subst h2 h4 h5 h6
    have hel := every_le HP.out.rr.ok
    have hxl := xs_le HSOK.out
    have HXE : Hid (s.xs = t.every.filter s.nz) := by show _ = _; rw [xs_every HSOK.out, HEV.out]
    clear hA2 hA4 hA5 hA6 hv1 hv2 own6 bel6 bb
    rcases hE0 : (E == 0)
    · have hEq : ¬ E = 0 := by simpa using hE0
      have hE1 : (E != 0) = true := by simp only [bne, hE0]; rfl
      go_wp2
      go_loopw [15, 17] (fun s15 s17 wr => ∃ i m : Nat, i ≤ t.every.length ∧ s17 = .int .i64 (i : Int) ∧ s15 = .int .i64 ((((t.every.take i).filter s.nz).length : Nat) : Int) ∧ wr = w6.drewN m) (fun _ s17 _ => t.every.length - (intOf s17).toNat)
      case atStart => exact ⟨0, 0, by omega, rfl, by simp, rfl⟩
      case round =>
        obtain ⟨i, m, hi, rfl, rfl, rfl⟩ := hrel
        by_cases hlt : i < t.every.length
        · obtain ⟨g2, o2, rfl, q0⟩ := HA2.out i hlt
          obtain ⟨g4, o4, rfl, q1⟩ := HA4.out i hlt
          obtain ⟨g5, rfl, r0, r1, r2⟩ := HA5.out i hlt
          rw [vals_getD hlt] at q0
          rw [vals_getD (by rw [HEV.out]; exact hlt), HEV.out, HAT.out _ (by rw [List.getD_eq_getElem?_getD, List.getElem?_eq_getElem hlt]; exact List.getElem_mem hlt)] at q1
          have HNZ : Hid (s.nz (t.every.getD i ⟨0, 0, 0⟩) = decide ((if E = 0 ∧ ((t.every.getD i ⟨0, 0, 0⟩).k : Int) = pk ∧ ((t.every.getD i ⟨0, 0, 0⟩).m : Int) = pm ∧ ((t.every.getD i ⟨0, 0, 0⟩).i : Int) = pi then v else t.at_ (t.every.getD i ⟨0, 0, 0⟩)) ≠ 0)) := by
            show _ = _
            unfold RT.nz
            rw [HAT.out _ (by rw [List.getD_eq_getElem?_getD, List.getElem?_eq_getElem hlt]; exact List.getElem_mem hlt)]
          have HFA : Hid (s.nz (t.every.getD i ⟨0, 0, 0⟩) = true → ((t.every.take i).filter s.nz).length < s.xs.length ∧ s.xs.getD ((t.every.take i).filter s.nz).length ⟨0, 0, 0⟩ = t.every.getD i ⟨0, 0, 0⟩ ∧ ((t.every.take (i + 1)).filter s.nz).length = ((t.every.take i).filter s.nz).length + 1) := fun h => by
            rw [HXE.out]; exact filt_at hlt h
          have HFN : Hid (s.nz (t.every.getD i ⟨0, 0, 0⟩) = false → ((t.every.take (i + 1)).filter s.nz).length = ((t.every.take i).filter s.nz).length) := fun h => filt_not hlt h
          have HA6i := hid (HA6.out ((t.every.take i).filter s.nz).length)
          have hai : ((t.every.take i).filter s.nz).length ≤ 144 := by
            have h1 := List.length_filter_le s.nz (t.every.take i)
            have h2 : (t.every.take i).length ≤ i := List.length_take_le _ _
            omega
          generalize ((t.every.take i).filter s.nz).length = a at HFA HFN HA6i hai
          generalize t.every.getD i ⟨0, 0, 0⟩ = q at q0 q1 r0 r1 r2 HNZ HFA HFN
          generalize t.at_ q = y at q0 q1 HNZ
          by_cases e0 : (q.k : Int) = pk ∧ (q.m : Int) = pm ∧ (q.i : Int) = pi
          · obtain ⟨e1, e2, e3⟩ := e0
            rw [e1] at r0
            rw [e2] at r1
            rw [e3] at r2
            rw [if_neg (fun h => hEq h.1)] at q1
            have HNZ2 := HNZ.out
            rw [if_neg (fun h => hEq h.1)] at HNZ2
            clear HNZ
            have HNZ := hid HNZ2
            clear HNZ2
            by_cases hz : y = 0
            · have hz1 : (y != 0) = false := by rw [hz]; rfl
              have hz2 : (y == 0) = true := by rw [hz]; rfl
              have HF := hid (HFN.out (by rw [HNZ.out]; exact decide_eq_false (by simp [hz])))
              clear hz HFA HFN HA6i HNZ e1 e2 e3
              go_wp2
              go_quiet (fail)
              go_wp2
              go_roundw
              case rel => exact ⟨i + 1, _, by omega, by go_num, by rw [HF.out], rfl⟩
              case measure => simp [intOf]; omega
            · have hz1 : (y != 0) = true := bne_iff_ne.2 hz
              have hz2 : (y == 0) = false := beq_eq_false_iff_ne.2 hz
              obtain ⟨f1, f2, f3⟩ := HFA.out (by rw [HNZ.out]; exact decide_eq_true hz)
              obtain ⟨g6, rfl, p0, p1, p2⟩ := HA6i.out f1
              rw [f2] at p0 p1 p2
              rw [e1] at p0
              rw [e2] at p1
              rw [e3] at p2
              clear e1 e2 e3
              have HF := hid f3
              have hle : decide (s.xs.length ≤ a) = false := decide_eq_false (by omega)
              clear hz HFA HFN HA6i HNZ f2 f3
              go_wp2
              go_quiet (fail)
              go_wp2
              go_quiet (fail)
              go_wp2
              go_roundw
              case rel => exact ⟨i + 1, _, by omega, by go_num, by rw [HF.out]; go_num, rfl⟩
              case measure => simp [intOf]; omega
          · rw [if_neg (fun h => e0 h.2)] at q1
            have HNZ2 := HNZ.out
            rw [if_neg (fun h => e0 h.2)] at HNZ2
            clear HNZ
            have HNZ := hid HNZ2
            clear HNZ2
            by_cases e1 : (q.k : Int) = pk
            · rw [e1] at r0
              by_cases e2 : (q.m : Int) = pm
              · rw [e2] at r1
                have z1 : ((q.i : Int) == pi) = false := beq_eq_false_iff_ne.2 (fun h => e0 ⟨e1, e2, h⟩)
                by_cases hz : y = 0
                · have hz1 : (y != 0) = false := by rw [hz]; rfl
                  have hz2 : (y == 0) = true := by rw [hz]; rfl
                  have HF := hid (HFN.out (by rw [HNZ.out]; exact decide_eq_false (by simp [hz])))
                  clear hz HFA HFN HA6i HNZ e1 e2 e0
                  go_wp2
                  go_quiet (fail)
                  go_wp2
                  go_roundw
                  case rel => exact ⟨i + 1, _, by omega, by go_num, by rw [HF.out], rfl⟩
                  case measure => simp [intOf]; omega
                · have hz1 : (y != 0) = true := bne_iff_ne.2 hz
                  have hz2 : (y == 0) = false := beq_eq_false_iff_ne.2 hz
                  obtain ⟨f1, f2, f3⟩ := HFA.out (by rw [HNZ.out]; exact decide_eq_true hz)
                  obtain ⟨g6, rfl, p0, p1, p2⟩ := HA6i.out f1
                  rw [f2] at p0 p1 p2
                  rw [e1] at p0
                  rw [e2] at p1
                  clear e1 e2 e0
                  have HF := hid f3
                  have hle : decide (s.xs.length ≤ a) = false := decide_eq_false (by omega)
                  clear hz HFA HFN HA6i HNZ f2 f3
                  go_wp2
                  go_quiet (fail)
                  go_wp2
                  go_quiet (fail)
                  go_wp2
                  go_roundw
                  case rel => exact ⟨i + 1, _, by omega, by go_num, by rw [HF.out]; go_num, rfl⟩
                  case measure => simp [intOf]; omega
              · have z1 : ((q.m : Int) == pm) = false := beq_eq_false_iff_ne.2 e2
                by_cases hz : y = 0
                · have hz1 : (y != 0) = false := by rw [hz]; rfl
                  have hz2 : (y == 0) = true := by rw [hz]; rfl
                  have HF := hid (HFN.out (by rw [HNZ.out]; exact decide_eq_false (by simp [hz])))
                  clear hz HFA HFN HA6i HNZ e1 e2 e0
                  go_wp2
                  go_quiet (fail)
                  go_wp2
                  go_roundw
                  case rel => exact ⟨i + 1, _, by omega, by go_num, by rw [HF.out], rfl⟩
                  case measure => simp [intOf]; omega
                · have hz1 : (y != 0) = true := bne_iff_ne.2 hz
                  have hz2 : (y == 0) = false := beq_eq_false_iff_ne.2 hz
                  obtain ⟨f1, f2, f3⟩ := HFA.out (by rw [HNZ.out]; exact decide_eq_true hz)
                  obtain ⟨g6, rfl, p0, p1, p2⟩ := HA6i.out f1
                  rw [f2] at p0 p1 p2
                  rw [e1] at p0
                  clear e1 e2 e0
                  have HF := hid f3
                  have hle : decide (s.xs.length ≤ a) = false := decide_eq_false (by omega)
                  clear hz HFA HFN HA6i HNZ f2 f3
                  go_wp2
                  go_quiet (fail)
                  go_wp2
                  go_quiet (fail)
                  go_wp2
                  go_roundw
                  case rel => exact ⟨i + 1, _, by omega, by go_num, by rw [HF.out]; go_num, rfl⟩
                  case measure => simp [intOf]; omega
            · have z1 : ((q.k : Int) == pk) = false := beq_eq_false_iff_ne.2 e1
              by_cases hz : y = 0
              · have hz1 : (y != 0) = false := by rw [hz]; rfl
                have hz2 : (y == 0) = true := by rw [hz]; rfl
                have HF := hid (HFN.out (by rw [HNZ.out]; exact decide_eq_false (by simp [hz])))
                clear hz HFA HFN HA6i HNZ e1 e0
                go_wp2
                go_quiet (fail)
                go_wp2
                go_roundw
                case rel => exact ⟨i + 1, _, by omega, by go_num, by rw [HF.out], rfl⟩
                case measure => simp [intOf]; omega
              · have hz1 : (y != 0) = true := bne_iff_ne.2 hz
                have hz2 : (y == 0) = false := beq_eq_false_iff_ne.2 hz
                obtain ⟨f1, f2, f3⟩ := HFA.out (by rw [HNZ.out]; exact decide_eq_true hz)
                obtain ⟨g6, rfl, p0, p1, p2⟩ := HA6i.out f1
                rw [f2] at p0 p1 p2
                clear e1 e0
                have HF := hid f3
                have hle : decide (s.xs.length ≤ a) = false := decide_eq_false (by omega)
                clear hz HFA HFN HA6i HNZ f2 f3
                go_wp2
                go_quiet (fail)
                go_wp2
                go_quiet (fail)
                go_wp2
                go_roundw
                case rel => exact ⟨i + 1, _, by omega, by go_num, by rw [HF.out]; go_num, rfl⟩
                case measure => simp [intOf]; omega
        · obtain rfl : i = t.every.length := by omega
          rw [List.take_length, ← HXE.out]
          have HK6 := hid (HKN.out.chain (HP6.out.kp.drewN m))
          clear hlt hi
          go_wp2_with (fail)
          refine (alive_ok _).mono ?_
          rintro e w7 ⟨rfl, k7⟩
          have HK7 := hid (HK6.out.chain k7)
          clear k7
          go_wp2
          go_ret
          exact ⟨rfl, HK7.out⟩
    · have hEq : E = 0 := by simpa using hE0
      have hE1 : (E != 0) = false := by simp only [bne, hE0]; rfl
      have HEQ := hid hEq
      clear hEq
      go_wp2
      go_loopw [15, 17] (fun s15 s17 wr => ∃ i m : Nat, i ≤ t.every.length ∧ s17 = .int .i64 (i : Int) ∧ s15 = .int .i64 ((((t.every.take i).filter s.nz).length : Nat) : Int) ∧ wr = w6.drewN m) (fun _ s17 _ => t.every.length - (intOf s17).toNat)
      case atStart => exact ⟨0, 0, by omega, rfl, by simp, rfl⟩
      case round =>
        obtain ⟨i, m, hi, rfl, rfl, rfl⟩ := hrel
        by_cases hlt : i < t.every.length
        · obtain ⟨g2, o2, rfl, q0⟩ := HA2.out i hlt
          obtain ⟨g4, o4, rfl, q1⟩ := HA4.out i hlt
          obtain ⟨g5, rfl, r0, r1, r2⟩ := HA5.out i hlt
          rw [vals_getD hlt] at q0
          rw [vals_getD (by rw [HEV.out]; exact hlt), HEV.out, HAT.out _ (by rw [List.getD_eq_getElem?_getD, List.getElem?_eq_getElem hlt]; exact List.getElem_mem hlt)] at q1
          have HNZ : Hid (s.nz (t.every.getD i ⟨0, 0, 0⟩) = decide ((if E = 0 ∧ ((t.every.getD i ⟨0, 0, 0⟩).k : Int) = pk ∧ ((t.every.getD i ⟨0, 0, 0⟩).m : Int) = pm ∧ ((t.every.getD i ⟨0, 0, 0⟩).i : Int) = pi then v else t.at_ (t.every.getD i ⟨0, 0, 0⟩)) ≠ 0)) := by
            show _ = _
            unfold RT.nz
            rw [HAT.out _ (by rw [List.getD_eq_getElem?_getD, List.getElem?_eq_getElem hlt]; exact List.getElem_mem hlt)]
          have HFA : Hid (s.nz (t.every.getD i ⟨0, 0, 0⟩) = true → ((t.every.take i).filter s.nz).length < s.xs.length ∧ s.xs.getD ((t.every.take i).filter s.nz).length ⟨0, 0, 0⟩ = t.every.getD i ⟨0, 0, 0⟩ ∧ ((t.every.take (i + 1)).filter s.nz).length = ((t.every.take i).filter s.nz).length + 1) := fun h => by
            rw [HXE.out]; exact filt_at hlt h
          have HFN : Hid (s.nz (t.every.getD i ⟨0, 0, 0⟩) = false → ((t.every.take (i + 1)).filter s.nz).length = ((t.every.take i).filter s.nz).length) := fun h => filt_not hlt h
          have HA6i := hid (HA6.out ((t.every.take i).filter s.nz).length)
          have hai : ((t.every.take i).filter s.nz).length ≤ 144 := by
            have h1 := List.length_filter_le s.nz (t.every.take i)
            have h2 : (t.every.take i).length ≤ i := List.length_take_le _ _
            omega
          generalize ((t.every.take i).filter s.nz).length = a at HFA HFN HA6i hai
          generalize t.every.getD i ⟨0, 0, 0⟩ = q at q0 q1 r0 r1 r2 HNZ HFA HFN
          generalize t.at_ q = y at q0 q1 HNZ
          by_cases e0 : (q.k : Int) = pk ∧ (q.m : Int) = pm ∧ (q.i : Int) = pi
          · obtain ⟨e1, e2, e3⟩ := e0
            rw [e1] at r0
            rw [e2] at r1
            rw [e3] at r2
            rw [if_pos ⟨HEQ.out, e1, e2, e3⟩] at q1
            have HNZ2 := HNZ.out
            rw [if_pos ⟨HEQ.out, e1, e2, e3⟩] at HNZ2
            clear HNZ
            have HNZ := hid HNZ2
            clear HNZ2
            rcases hvy : (v == y)
            · have hvy2 : (v != y) = true := by simp only [bne, hvy]; rfl
              by_cases hz : v = 0
              · have hz1 : (v != 0) = false := by rw [hz]; rfl
                have hz2 : (v == 0) = true := by rw [hz]; rfl
                have HF := hid (HFN.out (by rw [HNZ.out]; exact decide_eq_false (by simp [hz])))
                clear hz HFA HFN HA6i HNZ e1 e2 e3
                go_wp2
                go_quiet (fail)
                go_wp2
                go_roundw
                case rel => exact ⟨i + 1, _, by omega, by go_num, by rw [HF.out], rfl⟩
                case measure => simp [intOf]; omega
              · have hz1 : (v != 0) = true := bne_iff_ne.2 hz
                have hz2 : (v == 0) = false := beq_eq_false_iff_ne.2 hz
                obtain ⟨f1, f2, f3⟩ := HFA.out (by rw [HNZ.out]; exact decide_eq_true hz)
                obtain ⟨g6, rfl, p0, p1, p2⟩ := HA6i.out f1
                rw [f2] at p0 p1 p2
                rw [e1] at p0
                rw [e2] at p1
                rw [e3] at p2
                clear e1 e2 e3
                have HF := hid f3
                have hle : decide (s.xs.length ≤ a) = false := decide_eq_false (by omega)
                clear hz HFA HFN HA6i HNZ f2 f3
                go_wp2
                go_quiet (fail)
                go_wp2
                go_quiet (fail)
                go_wp2
                go_roundw
                case rel => exact ⟨i + 1, _, by omega, by go_num, by rw [HF.out]; go_num, rfl⟩
                case measure => simp [intOf]; omega
            · have hvy2 : (v != y) = false := by simp only [bne, hvy]; rfl
              by_cases hz : v = 0
              · have hz1 : (v != 0) = false := by rw [hz]; rfl
                have hz2 : (v == 0) = true := by rw [hz]; rfl
                have HF := hid (HFN.out (by rw [HNZ.out]; exact decide_eq_false (by simp [hz])))
                clear hz HFA HFN HA6i HNZ e1 e2 e3
                go_wp2
                go_quiet (fail)
                go_wp2
                go_roundw
                case rel => exact ⟨i + 1, _, by omega, by go_num, by rw [HF.out], rfl⟩
                case measure => simp [intOf]; omega
              · have hz1 : (v != 0) = true := bne_iff_ne.2 hz
                have hz2 : (v == 0) = false := beq_eq_false_iff_ne.2 hz
                obtain ⟨f1, f2, f3⟩ := HFA.out (by rw [HNZ.out]; exact decide_eq_true hz)
                obtain ⟨g6, rfl, p0, p1, p2⟩ := HA6i.out f1
                rw [f2] at p0 p1 p2
                rw [e1] at p0
                rw [e2] at p1
                rw [e3] at p2
                clear e1 e2 e3
                have HF := hid f3
                have hle : decide (s.xs.length ≤ a) = false := decide_eq_false (by omega)
                clear hz HFA HFN HA6i HNZ f2 f3
                go_wp2
                go_quiet (fail)
                go_wp2
                go_quiet (fail)
                go_wp2
                go_roundw
                case rel => exact ⟨i + 1, _, by omega, by go_num, by rw [HF.out]; go_num, rfl⟩
                case measure => simp [intOf]; omega
          · rw [if_neg (fun h => e0 h.2)] at q1
            have HNZ2 := HNZ.out
            rw [if_neg (fun h => e0 h.2)] at HNZ2
            clear HNZ
            have HNZ := hid HNZ2
            clear HNZ2
            by_cases e1 : (q.k : Int) = pk
            · rw [e1] at r0
              by_cases e2 : (q.m : Int) = pm
              · rw [e2] at r1
                have z1 : ((q.i : Int) == pi) = false := beq_eq_false_iff_ne.2 (fun h => e0 ⟨e1, e2, h⟩)
                by_cases hz : y = 0
                · have hz1 : (y != 0) = false := by rw [hz]; rfl
                  have hz2 : (y == 0) = true := by rw [hz]; rfl
                  have HF := hid (HFN.out (by rw [HNZ.out]; exact decide_eq_false (by simp [hz])))
                  clear hz HFA HFN HA6i HNZ e1 e2 e0
                  go_wp2
                  go_quiet (fail)
                  go_wp2
                  go_roundw
                  case rel => exact ⟨i + 1, _, by omega, by go_num, by rw [HF.out], rfl⟩
                  case measure => simp [intOf]; omega
                · have hz1 : (y != 0) = true := bne_iff_ne.2 hz
                  have hz2 : (y == 0) = false := beq_eq_false_iff_ne.2 hz
                  obtain ⟨f1, f2, f3⟩ := HFA.out (by rw [HNZ.out]; exact decide_eq_true hz)
                  obtain ⟨g6, rfl, p0, p1, p2⟩ := HA6i.out f1
                  rw [f2] at p0 p1 p2
                  rw [e1] at p0
                  rw [e2] at p1
                  clear e1 e2 e0
                  have HF := hid f3
                  have hle : decide (s.xs.length ≤ a) = false := decide_eq_false (by omega)
                  clear hz HFA HFN HA6i HNZ f2 f3
                  go_wp2
                  go_quiet (fail)
                  go_wp2
                  go_quiet (fail)
                  go_wp2
                  go_roundw
                  case rel => exact ⟨i + 1, _, by omega, by go_num, by rw [HF.out]; go_num, rfl⟩
                  case measure => simp [intOf]; omega
              · have z1 : ((q.m : Int) == pm) = false := beq_eq_false_iff_ne.2 e2
                by_cases hz : y = 0
                · have hz1 : (y != 0) = false := by rw [hz]; rfl
                  have hz2 : (y == 0) = true := by rw [hz]; rfl
                  have HF := hid (HFN.out (by rw [HNZ.out]; exact decide_eq_false (by simp [hz])))
                  clear hz HFA HFN HA6i HNZ e1 e2 e0
                  go_wp2
                  go_quiet (fail)
                  go_wp2
                  go_roundw
                  case rel => exact ⟨i + 1, _, by omega, by go_num, by rw [HF.out], rfl⟩
                  case measure => simp [intOf]; omega
                · have hz1 : (y != 0) = true := bne_iff_ne.2 hz
                  have hz2 : (y == 0) = false := beq_eq_false_iff_ne.2 hz
                  obtain ⟨f1, f2, f3⟩ := HFA.out (by rw [HNZ.out]; exact decide_eq_true hz)
                  obtain ⟨g6, rfl, p0, p1, p2⟩ := HA6i.out f1
                  rw [f2] at p0 p1 p2
                  rw [e1] at p0
                  clear e1 e2 e0
                  have HF := hid f3
                  have hle : decide (s.xs.length ≤ a) = false := decide_eq_false (by omega)
                  clear hz HFA HFN HA6i HNZ f2 f3
                  go_wp2
                  go_quiet (fail)
                  go_wp2
                  go_quiet (fail)
                  go_wp2
                  go_roundw
                  case rel => exact ⟨i + 1, _, by omega, by go_num, by rw [HF.out]; go_num, rfl⟩
                  case measure => simp [intOf]; omega
            · have z1 : ((q.k : Int) == pk) = false := beq_eq_false_iff_ne.2 e1
              by_cases hz : y = 0
              · have hz1 : (y != 0) = false := by rw [hz]; rfl
                have hz2 : (y == 0) = true := by rw [hz]; rfl
                have HF := hid (HFN.out (by rw [HNZ.out]; exact decide_eq_false (by simp [hz])))
                clear hz HFA HFN HA6i HNZ e1 e0
                go_wp2
                go_quiet (fail)
                go_wp2
                go_roundw
                case rel => exact ⟨i + 1, _, by omega, by go_num, by rw [HF.out], rfl⟩
                case measure => simp [intOf]; omega
              · have hz1 : (y != 0) = true := bne_iff_ne.2 hz
                have hz2 : (y == 0) = false := beq_eq_false_iff_ne.2 hz
                obtain ⟨f1, f2, f3⟩ := HFA.out (by rw [HNZ.out]; exact decide_eq_true hz)
                obtain ⟨g6, rfl, p0, p1, p2⟩ := HA6i.out f1
                rw [f2] at p0 p1 p2
                clear e1 e0
                have HF := hid f3
                have hle : decide (s.xs.length ≤ a) = false := decide_eq_false (by omega)
                clear hz HFA HFN HA6i HNZ f2 f3
                go_wp2
                go_quiet (fail)
                go_wp2
                go_quiet (fail)
                go_wp2
                go_roundw
                case rel => exact ⟨i + 1, _, by omega, by go_num, by rw [HF.out]; go_num, rfl⟩
                case measure => simp [intOf]; omega
        · obtain rfl : i = t.every.length := by omega
          rw [List.take_length, ← HXE.out]
          have HK6 := hid (HKN.out.chain (HP6.out.kp.drewN m))
          clear hlt hi
          go_wp2_with (fail)
          refine (alive_ok _).mono ?_
          rintro e w7 ⟨rfl, k7⟩
          have HK7 := hid (HK6.out.chain k7)
          clear k7
          go_wp2
          go_ret
          exact ⟨rfl, HK7.out⟩
end
end Go.Proofs.Ytkepgcpogblfaaa
