/-
  The law's readers: same, states, objects, gaps, cursors of the program's side. Conditions: those that stand in each theorem.
-/
import Derived.Test.YtmkmnlmfpddjkaaGreatPGOK
import Derived.Test.YtmkmnlmfpddjkaaGreatPG18
import Derived.Test.YtmkmnlmfpddjkaaGreatPG21
import Derived.Test.YtmkmnlmfpddjkaaGreatPGOH
import Derived.Test.YtmkmnlmfpddjkaaGreatPG4
import Derived.Test.YtmkmnlmfpddjkaaGreatPGJI
import Derived.Deep.Grids
namespace Go.Proofs.YtmkmnlmfpddjkaaGreat
set_option linter.unusedVariables false
set_option linter.unusedSimpArgs false
open Go.RowKit Go.Deep Go.Maps

/-- The state and the space of the first blocks. -/
def stsL (m : HM) : Nat → List Int
  | 0 => []
  | i + 1 => stsL m i ++ [(m.st i : Int), (m.sp i : Int)]
/-- The identity of an object with a number. -/
def HM.idN (m : HM) (j : Nat) : Nat := match m.ob (m.allL.getD j 0).toNat with | some o => o.id | none => 0
/-- The addresses and identities of the first objects. -/
def objsL (m : HM) : Nat → List Int
  | 0 => []
  | i + 1 => objsL m i ++ [m.allL.getD i 0, (m.idN i : Int)]
theorem stsL_len (m : HM) (i : Nat) : (stsL m i).length = 2 * i := by
  induction i with
  | zero => rfl
  | succ i ih => unfold stsL; rw [List.length_append, ih]; simp; omega
theorem objsL_len (m : HM) (i : Nat) : (objsL m i).length = 2 * i := by
  induction i with
  | zero => rfl
  | succ i ih => unfold objsL; rw [List.length_append, ih]; simp; omega
theorem idN_of {m : HM} {j a : Nat} {o : Ob} (h1 : m.allL.getD j 0 = (a : Int)) (h2 : m.ob a = some o) : m.idN j = o.id := by
  unfold HM.idN
  rw [h1, Int.toNat_natCast, h2]
section
variable {w W V : World} {b : HB} {d d2 : DB} {m m' m2 : HM} {q p q2 p2 g g' gb B B' : Nat} {A A' A2 : AS} {cs : Array Value}
theorem two_newsK (w : World) (x y : Int) : ∀ (j : Nat) (u : Value), ([.int .i64 x, .int .i64 y] : List Value)[j]? = some u → (w.alloc (.cells #[.int .i64 x, .int .i64 y] 3)).cell? ((⟨w.heap.size, 0, none⟩ : Addr).add j) = some u := by
  intro j u hu
  exact blk_read (xs := [.int .i64 x, .int .i64 y]) (sp := []) (Blk.new w 3 #[.int .i64 x, .int .i64 y]) j u hu
theorem FarI.kp0 {v : Value} {zs : List Int} (h : FarI w B v zs) (k : Kp [] w W) : FarI W B v zs := by
  obtain ⟨Ad, cap, rfl, h1, h2, hA⟩ := h
  exact ⟨Ad, cap, rfl, h1, h2, fun i hi => by obtain ⟨gg, e, hb, c⟩ := hA i hi; exact ⟨gg, e, hb, cell_kp k c⟩⟩
set_option maxHeartbeats 1000000 in
theorem l_same {v v' : Value} {xs ys : List Int} (h : FarI w B v xs) (h' : FarI w B' v' ys) {r : Bool} (hr : decide (xs = ys) = r) :
    Calls Tryz.prog 33 #[v, v'] w fun e w' => e = .returned (.bool r) ∧ Kp [] w w' := by
  obtain ⟨Ad, cap, rfl, hc1, hc2, hA⟩ := h
  obtain ⟨Ad', cap', rfl, hd1, hd2, hA'⟩ := h'
  unfold maxLen at hc2 hd2
  by_cases hl : xs.length = ys.length
  · have HA := hid hA
    have HA' := hid hA'
    have HLL := hid hl
    have HRT : Hid ((∀ j, j < xs.length → xs.getD j 0 = ys.getD j 0) → r = true) := fun hh => by
      rw [← hr]
      refine decide_eq_true (List.ext_getElem hl fun i h1 h2 => ?_)
      have := hh i h1
      rw [List.getD_eq_getElem?_getD, List.getD_eq_getElem?_getD, List.getElem?_eq_getElem h1, List.getElem?_eq_getElem h2] at this
      exact this
    have HRF : Hid (∀ j, xs.getD j 0 ≠ ys.getD j 0 → r = false) := fun j hj => by
      rw [← hr]
      exact decide_eq_false (fun h => hj (by rw [h]))
    obtain ⟨nx, hnx⟩ : ∃ k, xs.length = k := ⟨_, rfl⟩
    have hny : ys.length = nx := by omega
    rw [hnx] at hc1 ⊢
    rw [hny] at hd1 ⊢
    have HNX := hid hnx
    clear hr hA hA' hl hnx hny
    go_enter Tryz.func33, Tryz.ntmps33
    go_wp2
    go_loopw [5] (fun c wr => ∃ k : Nat, k ≤ nx ∧ c = .int .i64 (k : Int) ∧ Hid (∀ j, j < k → xs.getD j 0 = ys.getD j 0) ∧ Kp [] w wr) (fun c _ => nx - (intOf c).toNat)
    case atStart => exact ⟨0, by omega, rfl, (fun j hj => absurd hj (by omega)), Kp.refl _ _⟩
    case round =>
      rename World => wr
      obtain ⟨k, hk, rfl, heq, K⟩ := hrel
      have HEQ := hid heq
      have HK := hid K
      clear heq K
      by_cases hlt : k < nx
      · have hlt2 : decide ((k : Int) < (nx : Int)) = true := decide_eq_true (by omega)
        have hltn : decide (k < nx) = true := decide_eq_true hlt
        obtain ⟨ga, rfl, _, s0⟩ := HA.out k (by rw [HNX.out]; exact hlt)
        obtain ⟨gc, rfl, _, s1⟩ := HA'.out k (by rw [← HLL.out, HNX.out]; exact hlt)
        have t0 := cell_kp HK.out s0
        have t1 := cell_kp HK.out s1
        obtain ⟨x, hx⟩ : ∃ x, xs.getD k 0 = x := ⟨_, rfl⟩
        obtain ⟨y, hy⟩ : ∃ y, ys.getD k 0 = y := ⟨_, rfl⟩
        rw [hx] at t0
        rw [hy] at t1
        have HX := hid hx
        have HY := hid hy
        clear s0 s1 hx hy
        by_cases hxy : x = y
        · have txy : (x != y) = false := by simp [hxy]
          have HN : Hid (∀ j, j < k + 1 → xs.getD j 0 = ys.getD j 0) := fun j hj => by
            by_cases hjk : j = k
            · subst hjk; rw [HX.out, HY.out]; exact hxy
            · exact HEQ.out j (by omega)
          clear hxy
          go_wp2
          go_quiet (fail)
          go_wp2
          go_roundw
          case rel => exact ⟨k + 1, by omega, by go_num, HN, HK.out.chain (Kp.draw _ _)⟩
          case measure => simp [intOf]; omega
        · have txy : (x != y) = true := bne_iff_ne.2 hxy
          have HR : Hid (r = false) := HRF.out k (by rw [HX.out, HY.out]; exact hxy)
          clear hxy
          go_wp2
          go_quiet (fail)
          go_wp2
          go_ret
          exact ⟨by rw [HR.out]; rfl, HK.out.chain (Kp.draw _ _)⟩
      · obtain rfl : k = nx := by omega
        have hlt2 : decide ((k : Int) < (k : Int)) = false := decide_eq_false (by omega)
        have hltn : decide (k < k) = false := decide_eq_false (by omega)
        have HR : Hid (r = true) := HRT.out (by rw [HNX.out]; exact HEQ.out)
        go_wp2
        go_ret
        exact ⟨by rw [HR.out]; rfl, HK.out⟩
  · have hrf : r = false := by rw [← hr]; exact decide_eq_false (fun h => hl (by rw [h]))
    subst hrf
    have tl : ((xs.length : Int) != (ys.length : Int)) = true := bne_iff_ne.2 (by omega)
    have tln : (xs.length != ys.length) = true := bne_iff_ne.2 hl
    clear hr hA hA'
    go_enter Tryz.func33, Tryz.ntmps33
    go_wp2
    go_ret
    exact ⟨rfl, Kp.refl _ _⟩
set_option maxRecDepth 100000 in
set_option maxHeartbeats 2000000 in
theorem l_states (h : SH w b q m) :
    Calls Tryz.prog 29 #[.pointer (some ⟨b.g, 0, none⟩)] w (RowP w.heap.size w (stsL m m.bl.length)) := by
  obtain ⟨i0, hi0, hz0, hz1, hz2⟩ := info_parts infoInt
  have HS := hid h
  have hl64 := h.inv.len64
  generalize hN : m.bl.length = N at hl64 ⊢
  have HN := hid hN
  clear h hN
  go_enter Tryz.func29, Tryz.ntmps29
  go_wp2
  go_loopw [3, 4] (fun s c wr => ∃ k : Nat, k ≤ N ∧ c = .int .i64 (k : Int) ∧ wr.ownsRow w.heap.size 3 1 s (stsL m k).length (zcells (stsL m k)) ∧ Below w.heap.size w wr) (fun _ c _ => N - (intOf c).toNat)
  case atStart => exact ⟨0, by omega, rfl, ⟨rfl, .inl ⟨rfl, rfl⟩⟩, Below.refl _ _⟩
  case round =>
    rename World => wr
    obtain ⟨k, hk, rfl, own, hbel⟩ := hrel
    have HO := hid own
    have HB := hid hbel
    have HSR := hid (HS.out.kp0 (Kp.of_below hbel))
    clear own hbel
    by_cases hlt : k < N
    · have hlt2 : decide ((k : Int) < (N : Int)) = true := decide_eq_true (by omega)
      have hltn : decide (k < N) = true := decide_eq_true hlt
      obtain ⟨x, hx⟩ : ∃ x, m.st k = x := ⟨_, rfl⟩
      obtain ⟨y, hy⟩ : ∃ y, m.sp k = y := ⟨_, rfl⟩
      have HX : Hid ((if inB m.bl.length (k : Int) then (m.st (k : Int).toNat : Int) else -1) = (x : Int)) := by show _ = _; rw [stV_eq, if_pos (by rw [HN.out]; exact hlt), hx]
      have HY : Hid ((if inB m.bl.length (k : Int) then (m.sp (k : Int).toNat : Int) else -1) = (y : Int)) := by show _ = _; rw [spV_eq, if_pos (by rw [HN.out]; exact hlt), hy]
      have HE : Hid (stsL m (k + 1) = stsL m k ++ [(x : Int), (y : Int)]) := by show _ = _; rw [← hx, ← hy]; rfl
      have hle : (stsL m k).length ≤ 200 := by rw [stsL_len]; omega
      have NONE := two_cell (x : Int) (y : Int)
      clear hx hy
      go_wp2_with (first
        | (go_at_call 40; refine (nb_k HSR.out).mono ?_; rintro e w5 ⟨rfl, K5⟩; rw [HN.out]; have HS5 := hid (HSR.out.kp0 K5); have HO5 := hid (own_kp0 HO.out K5); have HB5 := hid (HB.out.trans (K5.below HB.out.size (by simp))); clear K5)
        | (go_at_call 41; refine (st_k HS5.out _ HX).mono ?_; rintro e w6 ⟨rfl, K6⟩; have HS6 := hid (HS5.out.kp0 K6); have HO6 := hid (own_kp0 HO5.out K6); have HB6 := hid (HB5.out.trans (K6.below HB5.out.size (by simp))); clear K6)
        | (go_at_call 36; refine (sp_k HS6.out _ HY).mono ?_; rintro e w7 ⟨rfl, K7⟩; have HO7 := hid (own_kp0 HO6.out K7); have HB7 := hid (HB6.out.trans (K7.below HB6.out.size (by simp))); have hsz7 := HB7.out.size; clear K7)
        | (at_builtin; refine wpList_append_own _ rfl (.tmp 11) (.tmp 18) 59 rfl w.heap.size 3 i0 (.int .i64 0) 1 8 Tryz.underlying59 hi0 hz0 hz1 hz2 rfl (by decide) _ _ _ rfl (HO7.out.alloc _) ⟨w7.heap.size, 0, none⟩ 2 2 [.int .i64 (x : Int), .int .i64 (y : Int)] rfl rfl (two_newsK w7 _ _) NONE (by unfold maxLen; omega) (by omega) (by simp; omega) ?_; intro v' w1 hown' hgr _; have HO' := hid hown'; have HG := hid hgr; clear hown' hgr))
      go_roundw
      case rel =>
        obtain ⟨z1, z2⟩ := row_endG (B := w.heap.size) (w := w7) (zs := stsL m k) [(x : Int), (y : Int)] ((Below.refl _ _).alloc HB7.out.size _) HB7.out.size rfl (HO7.out.alloc _) HO'.out HG.out
        exact ⟨k + 1, by omega, by go_num, by rw [HE.out]; exact z1, HB7.out.trans z2⟩
      case measure => simp [intOf]; omega
    · obtain rfl : k = N := by omega
      have hlt2 : decide ((k : Int) < (k : Int)) = false := decide_eq_false (by omega)
      have hltn : decide (k < k) = false := decide_eq_false (by omega)
      go_wp2_with (go_at_call 40; refine (nb_k HSR.out).mono ?_; rintro e w5 ⟨rfl, K5⟩; rw [HN.out]; have HO5 := hid (own_kp0 HO.out K5); have HB5 := hid (HB.out.trans (K5.below HB.out.size (by simp))); clear K5)
      go_ret
      exact ⟨_, rfl, HO5.out, HB5.out⟩
set_option maxRecDepth 100000 in
set_option maxHeartbeats 2000000 in
theorem l_objects (h : SH w b q m) :
    Calls Tryz.prog 28 #[.pointer (some ⟨b.g, 0, none⟩)] w (RowP w.heap.size w (objsL m m.allL.length)) := by
  obtain ⟨i0, hi0, hz0, hz1, hz2⟩ := info_parts infoInt
  have HS := hid h
  have hl64 := all_le h.inv
  have HAL := hid (h_all h)
  have HAT : Hid (∀ i, i < m.allL.length → ∃ (a : Nat) (o : Ob), m.allL.getD i 0 = (a : Int) ∧ m.ob a = some o) := fun i hi => all_at hi
  generalize hN : m.allL.length = N at hl64 HAT ⊢
  have HN := hid hN
  clear h hN
  go_enter Tryz.func28, Tryz.ntmps28
  go_wp2_with (go_at_call 86; refine HAL.out.mono ?_; rintro e w1 ⟨v, rfl, own, bel⟩; obtain ⟨Ad, cap, rfl, hc1, hc2, hA⟩ := FarI.of_own own; have HA := hid hA; have HB1 := hid bel; rw [HN.out] at hc1 ⊢; clear own bel hA)
  unfold maxLen at hc2
  go_loopw [3, 5] (fun s c wr => ∃ k : Nat, k ≤ N ∧ c = .int .i64 (k : Int) ∧ wr.ownsRow w1.heap.size 3 1 s (objsL m k).length (zcells (objsL m k)) ∧ Below w1.heap.size w1 wr) (fun _ c _ => N - (intOf c).toNat)
  case atStart => exact ⟨0, by omega, rfl, ⟨rfl, .inl ⟨rfl, rfl⟩⟩, Below.refl _ _⟩
  case round =>
    rename World => wr
    obtain ⟨k, hk, rfl, own, hbel⟩ := hrel
    have HO := hid own
    have HB := hid hbel
    have HSR := hid (HS.out.kp0 ((Kp.of_below HB1.out).chain (Kp.of_below hbel)))
    clear own hbel
    by_cases hlt : k < N
    · have hlt2 : decide ((k : Int) < (N : Int)) = true := decide_eq_true (by omega)
      have hltn : decide (k < N) = true := decide_eq_true hlt
      obtain ⟨a, ob, ha, hob⟩ := HAT.out k hlt
      obtain ⟨ga, rfl, _, s0⟩ := HA.out k (by rw [HN.out]; exact hlt)
      have t0 := cell_kp (Kp.of_below HB.out) s0
      rw [ha] at t0
      have HOB := hid hob
      have HE : Hid (objsL m (k + 1) = objsL m k ++ [(a : Int), (ob.id : Int)]) := by show _ = _; rw [← ha, ← idN_of ha hob]; rfl
      have hle : (objsL m k).length ≤ 5000 := by rw [objsL_len]; omega
      have NONE := two_cell (a : Int) (ob.id : Int)
      clear ha hob s0
      go_wp2_with (first
        | (go_at_call 34; refine (h_ident_ob HSR.out HOB.out).mono ?_; rintro e w7 ⟨rfl, nd, hw7⟩; have K7 := Kp.of_drewN ⟨nd, hw7⟩; have HO7 := hid (own_kp0 HO.out K7); have HB7 := hid (HB.out.trans (K7.below HB.out.size (by simp))); have hsz7 := HB7.out.size; have t7 := cell_kp K7 t0; clear K7 hw7)
        | (at_builtin; refine wpList_append_own _ rfl (.tmp 25) (.tmp 31) 59 rfl w1.heap.size 3 i0 (.int .i64 0) 1 8 Tryz.underlying59 hi0 hz0 hz1 hz2 rfl (by decide) _ _ _ rfl (HO7.out.alloc _) ⟨w7.heap.size, 0, none⟩ 2 2 [.int .i64 (a : Int), .int .i64 (ob.id : Int)] rfl rfl (two_newsK w7 _ _) NONE (by unfold maxLen; omega) (by omega) (by simp; omega) ?_; intro v' w2 hown' hgr _; have HO' := hid hown'; have HG := hid hgr; clear hown' hgr))
      go_roundw
      case rel =>
        obtain ⟨z1, z2⟩ := row_endG (B := w1.heap.size) (w := w7) (zs := objsL m k) [(a : Int), (ob.id : Int)] ((Below.refl _ _).alloc HB7.out.size _) HB7.out.size rfl (HO7.out.alloc _) HO'.out HG.out
        exact ⟨k + 1, by omega, by go_num, by rw [HE.out]; exact z1, HB7.out.trans z2⟩
      case measure => simp [intOf]; omega
    · obtain rfl : k = N := by omega
      have hlt2 : decide ((k : Int) < (k : Int)) = false := decide_eq_false (by omega)
      have hltn : decide (k < k) = false := decide_eq_false (by omega)
      go_wp2
      go_ret
      exact ⟨_, rfl, own_low HO.out HB1.out.size, HB1.out.trans (HB.out.mono HB1.out.size)⟩
end
end Go.Proofs.YtmkmnlmfpddjkaaGreat
/-
  The law's gaps; plain mathematics of runs of free blocks and of gaps that are large enough. Conditions: those that stand in each theorem.
-/
namespace Go.Proofs.YtmkmnlmfpddjkaaGreat
set_option linter.unusedVariables false
set_option linter.unusedSimpArgs false
open Go.RowKit Go.Deep Go.Maps

/-- The longest run of free blocks that ends before a block. -/
def mostN (m : HM) : Nat → Nat
  | 0 => 0
  | i + 1 => max (mostN m i) (frun m (i + 1))
theorem mostN_one (m : HM) : mostN m 1 = 0 := by
  unfold mostN mostN
  rfl
theorem mostN_ge (m : HM) {k n : Nat} (h : k < n) : frun m (k + 1) ≤ mostN m n := by
  induction n with
  | zero => omega
  | succ n ih =>
    unfold mostN
    by_cases hk : k = n
    · subst hk; omega
    · have := ih (by omega); omega
theorem mostN_at (m : HM) (n : Nat) (h : mostN m n ≠ 0) : ∃ k, k < n ∧ frun m (k + 1) = mostN m n := by
  induction n with
  | zero => exact absurd rfl h
  | succ n ih =>
    unfold mostN at h ⊢
    by_cases h1 : mostN m n ≤ frun m (n + 1)
    · exact ⟨n, by omega, by omega⟩
    · obtain ⟨k, hk, he⟩ := ih (by omega)
      exact ⟨k, by omega, by omega⟩
theorem frun_down (m : HM) {c : Nat} (hc : 1 ≤ c) : ∀ k, c ≤ frun m (k + 1) → ∃ j, 1 ≤ j ∧ j ≤ k ∧ m.st j = 0 ∧ frun m (j + 1) = c := by
  intro k
  induction k with
  | zero => intro h; have := frun_le m 0; omega
  | succ k ih =>
    intro h
    by_cases h0 : m.st (k + 1) = 0
    · by_cases he : frun m (k + 1 + 1) = c
      · exact ⟨k + 1, by omega, by omega, h0, he⟩
      · have := frun_free (k := k + 1) (by omega) h0
        obtain ⟨j, h1, h2, h3, h4⟩ := ih (by omega)
        exact ⟨j, h1, by omega, h3, h4⟩
    · rw [frun_used h0] at h; omega
theorem freeB_iff {m : HM} {c : Nat} (hc : 1 ≤ c) : m.freeB c = 0 ↔ mostN m m.bl.length < c := by
  constructor
  · intro h
    rcases Nat.lt_or_ge (mostN m m.bl.length) c with h1 | h1
    · exact h1
    · exfalso
      obtain ⟨k, hk, he⟩ := mostN_at m m.bl.length (by omega)
      obtain ⟨j, h2, h3, h4, h5⟩ := frun_down m hc k (by omega)
      have hle := frun_le m j
      unfold HM.freeB at h
      rcases hl : leastN (fun k => decide (1 ≤ k) && decide (m.st k = 0) && decide (frun m (k + 1) = c)) m.bl.length with _ | i
      · have := leastN_none_iff.1 hl j (by omega)
        simp [h2, h4, h5] at this
      · rw [hl] at h
        obtain ⟨g1, g2, g3⟩ := leastN_iff.1 hl
        simp only [Bool.and_eq_true, decide_eq_true_eq] at g2
        have hle := frun_le m i
        have h' : (i + 1 - c) * 64 = 0 := h
        omega
  · intro h
    rcases Nat.eq_zero_or_pos (m.freeB c) with h0 | h0
    · exact h0
    · exfalso
      obtain ⟨k, h1, h2, h3, h4, h5, h6⟩ := freeB_some hc (Nat.ne_of_gt h0)
      have := mostN_ge m h2
      omega
/-- Whether a gap is large enough. -/
def anyF (L : List (Nat × Nat)) (n : Nat) : Bool := L.any (fun g => decide (n ≤ g.2))
theorem anyF_more {L : List (Nat × Nat)} {n k : Nat} (h : k < L.length) : anyF (L.take (k + 1)) n = (anyF (L.take k) n || decide (n ≤ (L.getD k (0, 0)).2)) := by
  unfold anyF
  rw [take_getD L h, List.any_append]
  simp
theorem fit0 {g : Nat × Nat} {n : Nat} : fitA (areaOf 0 g) n = decide (n ≤ g.2) := by
  unfold fitA areaOf
  rw [Nat.max_zero]
  by_cases h : n ≤ g.2
  · rw [decide_eq_true h, decide_eq_true (by omega)]
  · rw [decide_eq_false h, decide_eq_false (by omega)]
theorem lowG_iff {m : HM} (I : m.Inv) {s n : Nat} : m.lowG s 0 n = 0 ↔ anyF (rgL m s m.bl.length) n = false := by
  unfold HM.lowG firstFit
  rw [ars_map, List.find?_map]
  constructor
  · intro h
    unfold anyF
    rw [List.any_eq_false]
    intro g hg
    rcases hf : (rgL m s m.bl.length).find? ((fun a => fitA a n) ∘ areaOf 0) with _ | a
    · have := List.find?_eq_none.1 hf g hg
      simp only [Function.comp, fit0] at this
      exact this
    · rw [hf] at h
      have h1 := rgL_bd I (List.mem_of_find?_eq_some hf)
      have h2 : (areaOf 0 a).1 = 0 := h
      unfold areaOf at h2
      simp at h2
      omega
  · intro h
    unfold anyF at h
    rw [List.any_eq_false] at h
    rw [List.find?_eq_none.2 (fun g hg => by simp only [Function.comp, fit0]; exact h g hg)]
    rfl
theorem lowG_any {m : HM} (I : m.Inv) {s f n : Nat} (h : m.lowG s f n ≠ 0) : anyF (rgL m s m.bl.length) n = true := by
  unfold HM.lowG firstFit at h
  rw [ars_map, List.find?_map] at h
  rcases hf : (rgL m s m.bl.length).find? ((fun a => fitA a n) ∘ areaOf f) with _ | a
  · rw [hf] at h; exact absurd rfl h
  · have h1 := List.find?_some hf
    simp only [Function.comp] at h1
    unfold anyF
    rw [List.any_eq_true]
    refine ⟨a, List.mem_of_find?_eq_some hf, decide_eq_true ?_⟩
    unfold fitA areaOf at h1
    have := of_decide_eq_true h1
    simp only at this
    omega
theorem rgL_small {m : HM} (I : m.Inv) {s n : Nat} {a : Nat × Nat} (h : a ∈ rgL m s n) : ∃ k, k < n ∧ m.st k = 1 ∧ m.sp k = s ∧ 64 * k ≤ a.1 ∧ a.1 + a.2 ≤ 64 * (k + 1) ∧ 1 ≤ a.2 ∧ 64 ≤ a.1 := by
  unfold rgL at h
  obtain ⟨k, hk, ha⟩ := List.mem_flatMap.1 h
  obtain ⟨hk1, hk2⟩ := mem_blkS.1 hk
  have hk3 := of_decide_eq_true hk2
  obtain ⟨i, hi, rfl⟩ := List.getElem_of_mem ha
  have hb := gap_bd I hi
  rw [List.getD_eq_getElem?_getD, List.getElem?_eq_getElem hi] at hb
  simp only [Option.getD_some] at hb
  exact ⟨k, hk1, hk3.1, hk3.2, by omega, by omega, by omega, by omega⟩
theorem least_fold {n : Nat} : ∀ (L : List (Nat × Nat)) (x : Nat × Nat), (∀ a ∈ L, 64 ≤ a.1 ∧ a.2 ≤ 64) → ((L.map (areaOf 0)).foldl (leastStep n) x = x ∧ (∀ a ∈ L, n ≤ a.2 → x.2 ≤ a.2)) ∨ (∃ a ∈ L, (L.map (areaOf 0)).foldl (leastStep n) x = a ∧ n ≤ a.2 ∧ a.2 < x.2 ∧ ∀ c ∈ L, n ≤ c.2 → a.2 ≤ c.2) := by
  intro L
  induction L with
  | nil => intro x _; exact .inl ⟨rfl, fun a ha => absurd ha (by simp)⟩
  | cons b L ih =>
    intro x hL
    have hb := hL b (List.mem_cons_self ..)
    rw [List.map_cons, List.foldl_cons]
    have hstep : leastStep n x (areaOf 0 b) = if n ≤ b.2 ∧ b.2 < x.2 then b else x := by
      unfold leastStep
      rw [fit0]
      unfold areaOf
      simp only [Nat.max_zero, decide_eq_true_eq, show b.1 + b.2 - b.1 = b.2 by omega]
    rw [hstep]
    by_cases h : n ≤ b.2 ∧ b.2 < x.2
    · rw [if_pos h]
      rcases ih b (fun a ha => hL a (List.mem_cons_of_mem _ ha)) with ⟨h1, h2⟩ | ⟨a, ha, h1, h2, h3, h4⟩
      · refine .inr ⟨b, List.mem_cons_self .., h1, h.1, h.2, fun c hc hn => ?_⟩
        rcases List.mem_cons.1 hc with rfl | hc
        · exact Nat.le_refl _
        · exact h2 c hc hn
      · refine .inr ⟨a, List.mem_cons_of_mem _ ha, h1, h2, by omega, fun c hc hn => ?_⟩
        rcases List.mem_cons.1 hc with rfl | hc
        · omega
        · exact h4 c hc hn
    · rw [if_neg h]
      rcases ih x (fun a ha => hL a (List.mem_cons_of_mem _ ha)) with ⟨h1, h2⟩ | ⟨a, ha, h1, h2, h3, h4⟩
      · refine .inl ⟨h1, fun c hc hn => ?_⟩
        rcases List.mem_cons.1 hc with rfl | hc
        · omega
        · exact h2 c hc hn
      · refine .inr ⟨a, List.mem_cons_of_mem _ ha, h1, h2, h3, fun c hc hn => ?_⟩
        rcases List.mem_cons.1 hc with rfl | hc
        · omega
        · exact h4 c hc hn
/-- The least gap that is large enough. -/
theorem leastG_spec {m : HM} (I : m.Inv) (s n : Nat) : (m.leastG s n = 0 ∧ anyF (rgL m s m.bl.length) n = false) ∨ (∃ a ∈ rgL m s m.bl.length, m.leastG s n = a.1 ∧ 64 ≤ a.1 ∧ n ≤ a.2 ∧ anyF (rgL m s m.bl.length) n = true ∧ ∀ c ∈ rgL m s m.bl.length, n ≤ c.2 → a.2 ≤ c.2) := by
  have hL : ∀ a ∈ rgL m s m.bl.length, 64 ≤ a.1 ∧ a.2 ≤ 64 := fun a ha => by
    obtain ⟨k, _, _, _, _, _, _, _⟩ := rgL_small I ha
    omega
  unfold HM.leastG
  rw [ars_map]
  rcases least_fold (n := n) _ (0, 65) hL with ⟨h1, h2⟩ | ⟨a, ha, h1, h2, h3, h4⟩
  · refine .inl ⟨by rw [h1], ?_⟩
    unfold anyF
    rw [List.any_eq_false]
    intro g hg hn
    have := h2 g hg (of_decide_eq_true hn)
    have := hL g hg
    simp only at *
    omega
  · refine .inr ⟨a, ha, by rw [h1], (hL a ha).1, h2, ?_, h4⟩
    unfold anyF
    rw [List.any_eq_true]
    exact ⟨a, ha, decide_eq_true h2⟩
section
variable {w W V : World} {b : HB} {m : HM} {q g B : Nat} {A : AS}
set_option maxRecDepth 100000 in
set_option maxHeartbeats 2000000 in
theorem l_gaps (h : SH w b q m) (s : Nat) :
    Calls Tryz.prog 38 #[.pointer (some ⟨b.g, 0, none⟩), .int .i64 (s : Int)] w (Grows w.heap.size w (rgL m s m.bl.length)) := by
  have HS := hid h
  have hl := h.inv.len64
  have hl2 := h.inv.len2
  have HIN := hid h.inv
  generalize hN : m.bl.length = N at hl hl2 ⊢
  have HN := hid hN
  clear h hN
  go_enter Tryz.func38, Tryz.ntmps38
  go_wp2
  go_loopw [5, 6] (fun r c wr => ∃ i : Nat, 1 ≤ i ∧ i ≤ N ∧ c = .int .i64 (i : Int) ∧ wr.ownsRow w.heap.size 76 2 r (rgL m s i).length (rcells (rgL m s i)) ∧ Below w.heap.size w wr) (fun _ c _ => N - (intOf c).toNat)
  case atStart => exact ⟨1, by omega, by omega, rfl, by rw [rgL_one HIN.out]; exact ⟨rfl, .inl ⟨rfl, rfl⟩⟩, Below.refl _ _⟩
  case round =>
    rename World => wr
    obtain ⟨i, hi1, hi, rfl, own, bel⟩ := hrel
    have HO := hid own
    have HB := hid bel
    have HSR := hid (HS.out.kp0 (Kp.of_below bel))
    clear own bel
    by_cases hlt : i < N
    · have hlt2 : decide ((i : Int) < (N : Int)) = true := decide_eq_true (by omega)
      have hltn : decide (i < N) = true := decide_eq_true hlt
      obtain ⟨x, hx⟩ : ∃ x, m.st i = x := ⟨_, rfl⟩
      obtain ⟨y, hy⟩ : ∃ y, m.sp i = y := ⟨_, rfl⟩
      have HX : Hid ((if inB m.bl.length (i : Int) then (m.st (i : Int).toNat : Int) else -1) = (x : Int)) := by show _ = _; rw [stV_eq, if_pos (by rw [HN.out]; exact hlt), hx]
      have HY : Hid ((if inB m.bl.length (i : Int) then (m.sp (i : Int).toNat : Int) else -1) = (y : Int)) := by show _ = _; rw [spV_eq, if_pos (by rw [HN.out]; exact hlt), hy]
      by_cases hx1 : x = 1
      · have tx : ((x : Int) == 1) = true := beq_iff_eq.2 (by omega)
        by_cases hys : y = s
        · have ty : ((y : Int) == (s : Int)) = true := beq_iff_eq.2 (by omega)
          have HR : Hid (rgL m s (i + 1) = rgL m s i ++ m.gapL (i : Int)) := rgL_yes (by omega) (by omega)
          have HLN : Hid ((rgL m s i).length + (m.gapL (i : Int)).length ≤ 100000) := by
            have h1 := rgL_len HIN.out s i
            have h2 := gaps_len HIN.out (k := i)
            show _ ≤ _
            omega
          clear hx hx1 hy hys
          go_wp2_with (first
            | (go_at_call 40; refine (nb_k HSR.out).mono ?_; rintro e w5 ⟨rfl, K5⟩; rw [HN.out]; have HS5 := hid (HSR.out.kp0 K5); have HO5 := hid (own_kp0 HO.out K5); have HB5 := hid (HB.out.trans (K5.below HB.out.size (by simp))); clear K5)
            | (go_at_call 41; refine (st_k HS5.out _ HX).mono ?_; rintro e w6 ⟨rfl, K6⟩; have HS6 := hid (HS5.out.kp0 K6); have HO6 := hid (own_kp0 HO5.out K6); have HB6 := hid (HB5.out.trans (K6.below HB5.out.size (by simp))); clear K6)
            | (go_at_call 36; refine (sp_k HS6.out _ HY).mono ?_; rintro e w7 ⟨rfl, K7⟩; have HS7 := hid (HS6.out.kp0 K7); have HO7 := hid (own_kp0 HO6.out K7); have HB7 := hid (HB6.out.trans (K7.below HB6.out.size (by simp))); clear K7)
            | (go_at_call 45; refine (h_gaps HS7.out _).mono ?_; rintro e w8 ⟨v8, rfl, own8, bel8⟩; have HG8 := hid own8; have HP8 := hid (own_kp0 HO7.out (Kp.of_below bel8)); have HB8 := hid (HB7.out.trans ((Kp.of_below bel8).below HB7.out.size (by simp))); clear own8 bel8)
            | (at_builtin; refine wpList_app_runs rfl (.tmp 24) (.tmp 27) rfl rfl rfl HP8.out HB8.out.size HG8.out HLN.out ?_; intro v' w9 hown' hkp; have HO9 := hid hown'; have HK9 := hid hkp; clear hown' hkp))
          go_roundw
          case rel =>
            have hb9 : Below w.heap.size w w9 := HB8.out.trans (HK9.out.below HB8.out.size (fun y hy => own_geD HP8.out y (by exact Option.mem_toList.1 hy)))
            have HF := (⟨i + 1, by omega, by omega, by go_num, by rw [HR.out]; exact HO9.out, hb9⟩ : ∃ j1 : Nat, 1 ≤ j1 ∧ j1 ≤ N ∧ Value.int .i64 ((i : Int) + 1) = .int .i64 (j1 : Int) ∧ w9.ownsRow w.heap.size 76 2 _ (rgL m s j1).length (rcells (rgL m s j1)) ∧ Below w.heap.size w w9)
            first | exact HF | ((repeat apply Exists.intro); exact ⟨HF, rfl⟩)
          case measure => simp [intOf]; omega
        · have ty : ((y : Int) == (s : Int)) = false := beq_eq_false_iff_ne.2 (by omega)
          have HR : Hid (rgL m s (i + 1) = rgL m s i) := rgL_no (by omega)
          clear hx hx1 hy hys
          go_wp2_with (first
            | (go_at_call 40; refine (nb_k HSR.out).mono ?_; rintro e w5 ⟨rfl, K5⟩; rw [HN.out]; have HS5 := hid (HSR.out.kp0 K5); have HO5 := hid (own_kp0 HO.out K5); have HB5 := hid (HB.out.trans (K5.below HB.out.size (by simp))); clear K5)
            | (go_at_call 41; refine (st_k HS5.out _ HX).mono ?_; rintro e w6 ⟨rfl, K6⟩; have HS6 := hid (HS5.out.kp0 K6); have HO6 := hid (own_kp0 HO5.out K6); have HB6 := hid (HB5.out.trans (K6.below HB5.out.size (by simp))); clear K6)
            | (go_at_call 36; refine (sp_k HS6.out _ HY).mono ?_; rintro e w7 ⟨rfl, K7⟩; have HO7 := hid (own_kp0 HO6.out K7); have HB7 := hid (HB6.out.trans (K7.below HB6.out.size (by simp))); clear K7))
          go_roundw
          case rel => exact ⟨i + 1, by omega, by omega, by go_num, by rw [HR.out]; exact HO7.out, HB7.out⟩
          case measure => simp [intOf]; omega
      · have tx : ((x : Int) == 1) = false := beq_eq_false_iff_ne.2 (by omega)
        have HR : Hid (rgL m s (i + 1) = rgL m s i) := rgL_no (by omega)
        clear hx hx1 hy
        go_wp2_with (first
          | (go_at_call 40; refine (nb_k HSR.out).mono ?_; rintro e w5 ⟨rfl, K5⟩; rw [HN.out]; have HS5 := hid (HSR.out.kp0 K5); have HO5 := hid (own_kp0 HO.out K5); have HB5 := hid (HB.out.trans (K5.below HB.out.size (by simp))); clear K5)
          | (go_at_call 41; refine (st_k HS5.out _ HX).mono ?_; rintro e w6 ⟨rfl, K6⟩; have HO6 := hid (own_kp0 HO5.out K6); have HB6 := hid (HB5.out.trans (K6.below HB5.out.size (by simp))); clear K6))
        go_roundw
        case rel => exact ⟨i + 1, by omega, by omega, by go_num, by rw [HR.out]; exact HO6.out, HB6.out⟩
        case measure => simp [intOf]; omega
    · obtain rfl : i = N := by omega
      have hlt2 : decide ((i : Int) < (i : Int)) = false := decide_eq_false (by omega)
      have hltn : decide (i < i) = false := decide_eq_false (by omega)
      go_wp2_with (go_at_call 40; refine (nb_k HSR.out).mono ?_; rintro e w5 ⟨rfl, K5⟩; rw [HN.out]; have HO5 := hid (own_kp0 HO.out K5); have HB5 := hid (HB.out.trans (K5.below HB.out.size (by simp))); clear K5)
      go_ret
      exact ⟨_, rfl, HO5.out, HB5.out⟩
end
end Go.Proofs.YtmkmnlmfpddjkaaGreat
/-
  What slices of shapes and of bools that came in read as, cell by cell. Conditions: those that stand in each theorem.
-/
namespace Go.Proofs.YtmkmnlmfpddjkaaGreat
set_option linter.unusedVariables false
set_option linter.unusedSimpArgs false
open Go.ChangeShapes Go.WideShapes Go.ChangeAt Go.RowKit Go.Joins Go.Deep

/-- A slice of shapes. -/
def IsSh (w : World) (v : Value) : Prop := ∃ A n cap, v = .slice A n cap ∧ n ≤ maxLen ∧ ∀ i, i < n → ∃ g o, ∃ x d k : Int, A = some ⟨g, o, none⟩ ∧ w.cell? ⟨g, o + i * 3, none⟩ = some (.int .i64 x) ∧ w.cell? ⟨g, o + i * 3 + 1, none⟩ = some (.int .i64 d) ∧ w.cell? ⟨g, o + i * 3 + 2, none⟩ = some (.int .i64 k)
theorem IsSh.kp0 {w W : World} {v : Value} (h : IsSh w v) (k : Kp [] w W) : IsSh W v := by
  obtain ⟨A, n, cap, rfl, hn, hA⟩ := h
  exact ⟨A, n, cap, rfl, hn, fun i hi => by obtain ⟨g, o, x, d, kk, h1, h2, h3, h4⟩ := hA i hi; exact ⟨g, o, x, d, kk, h1, cell_kp k h2, cell_kp k h3, cell_kp k h4⟩⟩
section
variable {H : Type} {enc : TypeId × Value → H} {W : World} {base : Nat} {spare : Nat → Bool} {held : Bool} {r : Reach} {b0 : Nat}
set_option maxRecDepth 100000 in
theorem shp_cells {cs : List Value} {n : Nat} {x : DataW H × List MemPlace} (h : DataW.trod enc Tryz.prog W base spare held n 33 cs = some x) :
    ∃ a b c : Int, cs = [.int .i64 a, .int .i64 b, .int .i64 c] ∧ W64 a ∧ W64 b ∧ W64 c := by
  obtain ⟨y0, y1, y2, m, _, hlen, h0, h1, h2⟩ := trod_struct3 Tryz.underlying33 h
  obtain ⟨v0, v1, v2, rfl⟩ := three_of (hlen.trans cellsShape)
  simp only [cellsInt] at h0 h1 h2
  obtain ⟨a, rfl, wa⟩ := int_of (show DataW.trod enc Tryz.prog W base spare held m 3 [v0] = some y0 from h0) rfl
  obtain ⟨b, rfl, wb⟩ := int_of (show DataW.trod enc Tryz.prog W base spare held m 3 [v1] = some y1 from h1) rfl
  obtain ⟨c, rfl, wc⟩ := int_of (show DataW.trod enc Tryz.prog W base spare held m 3 [v2] = some y2 from h2) rfl
  exact ⟨a, b, c, rfl, wa, wb, wc⟩
set_option maxRecDepth 100000 in
theorem shps_shape {v : Value} {d : DataW H} {p : List MemPlace} (hv : Value.okWide Tryz.prog W r b0 82 v) (h : DataW.Trod enc Tryz.prog W base spare held 82 v d p) :
    IsSh W v := by
  obtain ⟨A, len, cap, rfl⟩ := okWide_slice Tryz.underlying82 hv
  obtain ⟨fuel, hf⟩ := h
  rcases open_slice Tryz.underlying82 hf with ⟨hcs, _⟩ | ⟨a, len', cap', m, n, D, Pl, hcs, _, hl, hcm, hm, _, hi⟩
  · simp [Value.cells] at hcs
    obtain ⟨rfl, rfl, rfl⟩ := hcs
    exact ⟨_, _, _, rfl, Nat.zero_le _, fun i hi => absurd hi (by omega)⟩
  · simp [Value.cells] at hcs
    obtain ⟨rfl, rfl, rfl⟩ := hcs
    have hlm : len ≤ m := by rw [hm]; split <;> omega
    obtain ⟨g, o, spot⟩ := a
    refine ⟨_, _, _, rfl, Nat.le_trans hl hcm, fun i hlt => ?_⟩
    have hspot : spot = none := by
      obtain ⟨cs0, hc0, ht0⟩ := hi 0 (by omega)
      obtain ⟨_, _, _, rfl, _⟩ := shp_cells ht0
      rw [cellsShape] at hc0
      have hs := World.cell?_spot ((World.cells?_some hc0).2.2 0 (by omega))
      simpa [Addr.add] using hs
    subst hspot
    obtain ⟨cs', hc, ht⟩ := hi i (by omega)
    obtain ⟨x, dd, k, rfl, _⟩ := shp_cells ht
    rw [cellsShape] at hc
    obtain ⟨_, _, hat⟩ := World.cells?_some hc
    refine ⟨g, o, x, dd, k, rfl, ?_, ?_, ?_⟩
    · have := hat 0 (by omega); rw [cell_off, cell_off] at this; simpa using this
    · have := hat 1 (by omega); rw [cell_off, cell_off] at this; simpa using this
    · have := hat 2 (by omega); rw [cell_off, cell_off] at this; simpa using this
end
end Go.Proofs.YtmkmnlmfpddjkaaGreat
/-
  What a slice of acts of alloc's law that came in reads as, cell by cell. Conditions: those that stand in each theorem.
-/
namespace Go.Proofs.YtmkmnlmfpddjkaaGreat
set_option linter.unusedVariables false
set_option linter.unusedSimpArgs false
open Go.ChangeShapes Go.WideShapes Go.ChangeAt Go.RowKit Go.Joins Go.Deep

section
variable {H : Type} {enc : TypeId × Value → H} {W : World} {base : Nat} {spare : Nat → Bool} {held : Bool} {r : Reach} {b0 : Nat}
set_option maxRecDepth 100000 in
theorem cellsQAct : Tryz.prog.cellsOf 51 = 6 := by kernel_rfl
theorem six_of {α : Type} {l : List α} (h : l.length = 6) : ∃ a b c d e f, l = [a, b, c, d, e, f] := by
  match l, h with
  | [a, b, c, d, e, f], _ => exact ⟨a, b, c, d, e, f, rfl⟩
set_option maxRecDepth 100000 in
theorem qact_cells {cs : List Value} {n : Nat} {x : DataW H × List MemPlace} (h : DataW.trod enc Tryz.prog W base spare held n 51 cs = some x) :
    ∃ y : QAct, W64 y.a ∧ cs = [.int .i64 y.k, .int .i64 y.a, .int .i64 y.s, .int .i64 y.x, .int .i64 y.y, .int .i64 y.z] := by
  obtain ⟨xs, m, _, _, hlen, hx, hf⟩ := DataW.trod_struct Tryz.underlying51 h
  obtain ⟨v0, v1, v2, v4, v5, v6, rfl⟩ := six_of (hlen.trans cellsQAct)
  have e0 : DataW.trod enc Tryz.prog W base spare held m 3 (([v0, v1, v2, v4, v5, v6].drop 0).take (Tryz.prog.cellsOf 3)) = xs[0]? := hf 0 _ rfl
  have e1 : DataW.trod enc Tryz.prog W base spare held m 3 (([v0, v1, v2, v4, v5, v6].drop 1).take (Tryz.prog.cellsOf 3)) = xs[1]? := hf 1 _ rfl
  have e2 : DataW.trod enc Tryz.prog W base spare held m 3 (([v0, v1, v2, v4, v5, v6].drop 2).take (Tryz.prog.cellsOf 3)) = xs[2]? := hf 2 _ rfl
  have e4 : DataW.trod enc Tryz.prog W base spare held m 33 (([v0, v1, v2, v4, v5, v6].drop 3).take (Tryz.prog.cellsOf 33)) = xs[3]? := hf 3 _ rfl
  rw [cellsInt] at e0 e1 e2
  rw [cellsShape] at e4
  have hx5 : xs.length = 4 := hx
  have g : ∀ i, i < 4 → ∃ y, xs[i]? = some y := fun i hi => ⟨xs[i]'(by omega), List.getElem?_eq_getElem (by omega)⟩
  obtain ⟨y0, q0⟩ := g 0 (by omega)
  obtain ⟨y1, q1⟩ := g 1 (by omega)
  obtain ⟨y2, q2⟩ := g 2 (by omega)
  obtain ⟨y4, q4⟩ := g 3 (by omega)
  obtain ⟨k, rfl, wk⟩ := int_of (show DataW.trod enc Tryz.prog W base spare held m 3 [v0] = _ from e0) q0
  obtain ⟨a, rfl, wa⟩ := int_of (show DataW.trod enc Tryz.prog W base spare held m 3 [v1] = _ from e1) q1
  obtain ⟨b, rfl, wb⟩ := int_of (show DataW.trod enc Tryz.prog W base spare held m 3 [v2] = _ from e2) q2
  rw [q4] at e4
  obtain ⟨s0, s1, s2, he, _⟩ := shp_cells (show DataW.trod enc Tryz.prog W base spare held m 33 [v4, v5, v6] = _ from e4)
  simp only [List.cons.injEq, and_true] at he
  obtain ⟨rfl, rfl, rfl⟩ := he
  exact ⟨⟨k, a, b, s0, s1, s2⟩, wa, rfl⟩
set_option maxRecDepth 100000 in
theorem qacts_shape {v : Value} {d : DataW H} {p : List MemPlace} (hv : Value.okWide Tryz.prog W r b0 41 v) (h : DataW.Trod enc Tryz.prog W base spare held 41 v d p) :
    ∃ A len cap, v = .slice A len cap ∧ QActs W A len := by
  obtain ⟨A, len, cap, rfl⟩ := okWide_slice Tryz.underlying41 hv
  refine ⟨A, len, cap, rfl, ?_⟩
  obtain ⟨fuel, hf⟩ := h
  rcases open_slice Tryz.underlying41 hf with ⟨hcs, _⟩ | ⟨a, len', cap', m, n, D, Pl, hcs, _, hl, _, hm, _, hi⟩
  · simp [Value.cells] at hcs
    obtain ⟨rfl, rfl, rfl⟩ := hcs
    exact fun i hi => absurd hi (by omega)
  · simp [Value.cells] at hcs
    obtain ⟨rfl, rfl, rfl⟩ := hcs
    have hlm : len ≤ m := by rw [hm]; split <;> omega
    intro i hlt
    obtain ⟨g, o, spot⟩ := a
    have hspot : spot = none := by
      obtain ⟨cs0, hc0, ht0⟩ := hi 0 (by omega)
      obtain ⟨y, _, rfl⟩ := qact_cells ht0
      rw [cellsQAct] at hc0
      have hs := World.cell?_spot ((World.cells?_some hc0).2.2 0 (by omega))
      simpa [Addr.add] using hs
    subst hspot
    obtain ⟨cs', hc, ht⟩ := hi i (by omega)
    obtain ⟨y, hy, rfl⟩ := qact_cells ht
    rw [cellsQAct] at hc
    obtain ⟨_, _, hat⟩ := World.cells?_some hc
    refine ⟨g, o, y, hy, rfl, ?_, ?_, ?_, ?_, ?_, ?_⟩
    · have := hat 0 (by omega); rw [cell_off, cell_off] at this; simpa using this
    · have := hat 1 (by omega); rw [cell_off, cell_off] at this; simpa using this
    · have := hat 2 (by omega); rw [cell_off, cell_off] at this; simpa using this
    · have := hat 3 (by omega); rw [cell_off, cell_off] at this; simpa using this
    · have := hat 4 (by omega); rw [cell_off, cell_off] at this; simpa using this
    · have := hat 5 (by omega); rw [cell_off, cell_off] at this; simpa using this
end
end Go.Proofs.YtmkmnlmfpddjkaaGreat
