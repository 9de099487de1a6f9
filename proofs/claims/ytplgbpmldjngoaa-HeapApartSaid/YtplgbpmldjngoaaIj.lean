/-
  The contract of the laws' state. Conditions: those that stand in each theorem.
-/
import Derived.Test.YtplgbpmldjngoaaIi
import Derived.Maps.AppendAt
namespace Go.Proofs.Ytplgbpmldjngoaa
set_option linter.unusedVariables false
set_option linter.unusedSimpArgs false
open Go.RowKit Go.Deep Go.Maps

def HM.stv (m : HM) (k : Nat) : Int := if inB m.bl.length (k : Int) = true then (m.st ((k : Int).toNat) : Int) else -1
def HM.spv (m : HM) (k : Nat) : Int := if inB m.bl.length (k : Int) = true then (m.sp ((k : Int).toNat) : Int) else -1
def HM.stB (m : HM) : Nat → List Int
  | 0 => [(m.born : Int), m.usedV]
  | k + 1 => m.stB k ++ [m.stv k, m.spv k]
def HM.stW (m : HM) : Nat → List Int
  | 0 => m.stB m.bl.length
  | n + 1 => m.stW n ++ [m.wordV (n : Int), optV (m.fwI (n : Int))]
def HM.contI (m : HM) (i : Nat) : List Int := match m.ob (m.allL.getD i 0).toNat with | some o => o.conts | none => []
def HM.stA (m : HM) : Nat → List Int
  | 0 => m.stW (64 * m.bl.length)
  | i + 1 => (m.stA i ++ [m.allL.getD i 0]) ++ m.contI i
def HM.stL (m : HM) : List Int := m.stA m.allL.length
theorem stB_len (m : HM) (k : Nat) : (m.stB k).length = 2 + 2 * k := by
  induction k with
  | zero => rfl
  | succ k ih => simp [HM.stB, ih]; omega
theorem stW_len (m : HM) (k : Nat) : (m.stW k).length = 2 + 2 * m.bl.length + 2 * k := by
  induction k with
  | zero => simp [HM.stW, stB_len]
  | succ k ih => simp [HM.stW, ih]; omega
theorem conts_len {o : Ob} (h : o.Ok) : o.conts.length ≤ 220 ∧ 4 ≤ o.conts.length := by
  have h1 := h.bd
  have h2 := h.len
  unfold Ob.conts Ob.all Ob.head
  split <;> simp <;> omega
theorem contI_len {m : HM} (I : m.Inv) (i : Nat) : (m.contI i).length ≤ 220 := by
  unfold HM.contI
  split
  · rename_i o h
    exact (conts_len (I.ok _ _ h)).1
  · simp
theorem stA_len {m : HM} (I : m.Inv) (k : Nat) : (m.stA k).length ≤ 10000 + 221 * k := by
  induction k with
  | zero => have := stW_len m (64 * m.bl.length); have := I.len64; show (m.stW (64 * m.bl.length)).length ≤ _; omega
  | succ k ih => have := contI_len I k; simp [HM.stA]; omega
section
variable {w w' : World} {b : HB} {r : RM} {m : HM} {q : Nat}
theorem two_new (w : World) (x y : Int) (n : Nat) : ∀ (j : Nat) (u : Value), ([.int .i64 x, .int .i64 y] : List Value)[j]? = some u → ((w.drewN n).alloc (.cells #[.int .i64 x, .int .i64 y] 3)).cell? ((⟨w.heap.size, 0, none⟩ : Addr).add j) = some u := by
  intro j u hu
  exact blk_read (xs := [.int .i64 x, .int .i64 y]) (sp := []) (Blk.new (w.drewN n) 3 _) j u hu
theorem two_cell (x y : Int) : ∀ u ∈ ([.int .i64 x, .int .i64 y] : List Value), u.oneCell' = true := by
  intro u hu
  simp at hu
  rcases hu with rfl | rfl <;> rfl
theorem row_endG {B : Nat} {w W w1 : World} {zs : List Int} (ys : List Int) {k : Nat} {v v' : Value} (hW : Below B w W) (hB : B ≤ w.heap.size) (hk : zs.length = k) (own : W.ownsRow B 3 1 v k (zcells zs)) (own' : w1.ownsRow B 3 1 v' (k + ys.length) (zcells zs ++ zcells ys))
    (g : W.grownBy w1 v.ownBlock) : w1.ownsRow B 3 1 v' (zs ++ ys).length (zcells (zs ++ ys)) ∧ Below B w w1 := by
  refine ⟨?_, ?_⟩
  · rw [List.length_append, hk]
    simpa [zcells] using own'
  · refine hW.grown g (Nat.le_trans hB hW.size) ?_
    intro k hk
    rcases own.2 with ⟨rfl, _⟩ | ⟨g', cap, cur, rfl, hg, _⟩
    · simp [Value.ownBlock] at hk
    · simp [Value.ownBlock] at hk
      omega
theorem own_lt {w : World} {B n z : Nat} {e : TypeId} {v : Value} {xs : List Value} (own : w.ownsRow B e z v n xs) : ∀ g, v.ownBlock = some g → g < w.heap.size := by
  intro g hg
  rcases own.2 with ⟨rfl, _⟩ | ⟨g', cap, cur, rfl, _, h, _⟩
  · simp [Value.ownBlock] at hg
  · simp [Value.ownBlock] at hg
    subst hg
    rcases Nat.lt_or_ge g' w.heap.size with h1 | h1
    · exact h1
    · rw [Array.getElem?_eq_none h1] at h; cases h
theorem far_grow {w w1 : World} {B n c : Nat} {A : Option Addr} {zs : List Int} {row : Option Nat} (F : FarI w B (.slice A n c) zs) (g : w.grownBy w1 row) (hA : ∀ a, A = some a → row ≠ some a.block) : FarI w1 B (.slice A n c) zs := by
  obtain ⟨A', cap, e, h1, h2, hc⟩ := F
  injection e with e1 e2 e3
  subst e1 e2 e3
  refine ⟨A, c, rfl, h1, h2, fun i hi => ?_⟩
  obtain ⟨g', rfl, hB, hcell⟩ := hc i hi
  refine ⟨g', rfl, hB, ?_⟩
  rw [World.cell?_of_block (g.block g' (cell_lt hcell) (fun hx => hA _ rfl hx.symm))]
  exact hcell
theorem src_of {w : World} {B : Nat} {v : Value} {zs : List Int} (own : w.ownsRow B 3 1 v zs.length (zcells zs)) (hp : 4 ≤ zs.length) : ∃ g cap, v = .slice (some ⟨g, 0, none⟩) zs.length cap ∧ ∀ (j : Nat) (u : Value), (zcells zs)[j]? = some u → w.cell? ((⟨g, 0, none⟩ : Addr).add j) = some u := by
  rcases own.2 with ⟨rfl, h0⟩ | ⟨g, cap, cur, rfl, hg, _, h1, h2, _⟩
  · omega
  · refine ⟨g, cap, rfl, fun j u hu => ?_⟩
    have e : ((⟨g, 0, none⟩ : Addr).add j) = ⟨g, j, none⟩ := by unfold Addr.add; by_cases hj : j = 0 <;> simp [hj]
    have hj := (List.getElem?_eq_some_iff.1 hu).1
    rw [zcells_length] at hj
    rw [e, own.cellAt _ (by omega), hu]
theorem row_disj {w w3 : World} {B C n n3 z z3 : Nat} {e e3 : TypeId} {v v3 : Value} {xs ys : List Value} (own : w.ownsRow B e z v n xs) (own3 : w3.ownsRow C e3 z3 v3 n3 ys) (hC : w.heap.size ≤ C) {A : Option Addr} {l c : Nat} (hv : v3 = .slice A l c) : ∀ a, A = some a → v.ownBlock ≠ some a.block := by
  intro a ha hx
  have h1 := own_lt own _ hx
  subst hv ha
  rcases own3.2 with ⟨h2, _⟩ | ⟨g, cap, cur, h2, hg, _⟩
  · cases h2
  · injection h2 with h2
    injection h2 with h2
    subst h2
    have : g < w.heap.size := h1
    omega
set_option maxRecDepth 100000 in
set_option maxHeartbeats 8000000 in
theorem h_stateL (h : SH w b q m) :
    Calls Try.prog 32 #[.pointer (some ⟨b.g, 0, none⟩)] w (RowP w.heap.size w m.stL) := by
  obtain ⟨i0, hi0, hz0, hz1, hz2⟩ := info_parts infoInt
  have I := h.inv
  have hl64 := I.len64
  have hal := all_le I
  have HH := hid h
  have HLT := hid h.lt
  have HI := hid I
  have HU : Hid (∀ W, SH W b q m → _) := fun W S => h_used S
  clear h I
  go_enter Try.func32, Try.ntmps32
  go_wp2_with (first
    | (go_at_call 89; refine (h_births HH.out).mono ?_; rintro e w' ⟨rfl, n1, rfl⟩)
    | (go_at_call 20; refine (HU.out _ (HH.out.drewN _)).mono ?_; rintro e w5 ⟨rfl, K5⟩; have HK5 := hid K5.from_drewN; clear K5))
  have hB0 : w.heap.size ≤ w5.heap.size := HK5.out.size
  have HB0 := hid hB0
  have own0 := World.ownsRow_lit (base := w.heap.size) (e := 3) (size := 1) w5 #[.int .i64 (m.born : Int), .int .i64 m.usedV] 2 hB0 (by unfold maxLen; omega) rfl
  have HO0 := hid own0
  clear own0 hB0
  go_loopw [3, 4] (fun s c wr => ∃ k : Nat, k ≤ m.bl.length ∧ c = .int .i64 (k : Int) ∧ wr.ownsRow w.heap.size 3 1 s (m.stB k).length (zcells (m.stB k)) ∧ Below w.heap.size w wr) (fun _ c _ => 64 - (intOf c).toNat)
  case atStart => exact ⟨0, by omega, rfl, HO0.out, (HK5.out.chain (Kp.new _ _)).below (Nat.le_refl _) (by simp)⟩
  case round =>
    obtain ⟨k, hk, rfl, own, bel⟩ := hrel
    have HO := hid own
    have HBE := hid bel
    have HS := hid (HH.out.below bel HLT.out)
    have HSZ : Hid (w.heap.size ≤ wr.heap.size) := bel.size
    clear own bel
    by_cases hlt : k < m.bl.length
    · have HE : Hid (m.stB (k + 1) = m.stB k ++ [m.stv k, m.spv k]) := rfl
      have HX : Hid ((if inB m.bl.length (k : Int) = true then (m.st ((k : Int).toNat) : Int) else -1) = m.stv k) := rfl
      have HY : Hid ((if inB m.bl.length (k : Int) = true then (m.sp ((k : Int).toNat) : Int) else -1) = m.spv k) := rfl
      have hle : (m.stB k).length ≤ 1000 := by rw [stB_len]; omega
      generalize m.stv k = x at HE HX
      generalize m.spv k = y at HE HY
      generalize hzs : m.stB k = zs at HO HE hle
      have NONE := two_cell x y
      go_wp2_with (first
        | (go_at_call 15; refine (h_blocks HS.out).mono ?_; rintro e w' ⟨rfl, n1, rfl⟩)
        | (go_at_call 18; refine (h_state (HS.out.drewN _) _).mono ?_; rintro e w' ⟨rfl, n2, rfl⟩; rw [HX.out])
        | (go_at_call 90; refine (h_space (HS.out.drewN _) _).mono ?_; rintro e w' ⟨rfl, n3, rfl⟩; rw [HY.out])
        | (at_builtin; refine wpList_append_own _ rfl (.tmp 23) (.tmp 30) 26 rfl w.heap.size 3 i0 (.int .i64 0) 1 8 Try.underlying26 hi0 hz0 hz1 hz2 rfl (by decide) _ _ _ rfl ((own_kp0 HO.out (Kp.draw wr _)).alloc _) ⟨wr.heap.size, 0, none⟩ 2 2 [.int .i64 x, .int .i64 y] rfl rfl (two_new wr x y _) NONE (by unfold maxLen; omega) (by omega) (by have := HSZ.out; simp; omega) ?_; intro v' w9 hown' hgr _; have HO' := hid hown'; have HG := hid hgr; clear hown' hgr))
      go_roundw
      case rel =>
        obtain ⟨z1, z2⟩ := row_endG [x, y] (((Kp.draw wr _).chain (Kp.new _ _)).below HSZ.out (by simp)) HSZ.out rfl ((own_kp0 HO.out (Kp.draw wr _)).alloc _) HO'.out HG.out
        exact ⟨k + 1, by omega, by go_num, by rw [HE.out]; exact z1, HBE.out.trans z2⟩
      case measure => simp [intOf]; omega
    · obtain rfl : k = m.bl.length := by omega
      go_wp2_with (go_at_call 15; refine (h_blocks HS.out).mono ?_; rintro e w' ⟨rfl, n1, rfl⟩)
      go_loopw [3, 5] (fun s c wr => ∃ k : Nat, k ≤ 64 * m.bl.length ∧ c = .int .i64 (k : Int) ∧ wr.ownsRow w.heap.size 3 1 s (m.stW k).length (zcells (m.stW k)) ∧ Below w.heap.size w wr) (fun _ c _ => 4096 - (intOf c).toNat)
      case atStart => exact ⟨0, by omega, rfl, own_kp0 HO.out (Kp.draw _ _), below_drewN HBE.out _⟩
      case round =>
        clear HO HBE HS HSZ
        obtain ⟨k, hk, rfl, own, bel⟩ := hrel
        have HO := hid own
        have HBE := hid bel
        have HS := hid (HH.out.below bel HLT.out)
        have HSZ : Hid (w.heap.size ≤ wr.heap.size) := bel.size
        clear own bel
        by_cases hlt : k < 64 * m.bl.length
        · have HE : Hid (m.stW (k + 1) = m.stW k ++ [m.wordV (k : Int), optV (m.fwI (k : Int))]) := rfl
          have hle : (m.stW k).length ≤ 10000 := by rw [stW_len]; omega
          have HW : Hid (W64 (k : Int)) := ⟨by omega, by omega⟩
          generalize hx : m.wordV (k : Int) = x at HE
          generalize hy : optV (m.fwI (k : Int)) = y at HE
          have HX := hid hx
          have HY := hid hy
          generalize hzs : m.stW k = zs at HO HE hle
          have NONE := two_cell x y
          clear hx hy
          go_wp2_with (first
            | (go_at_call 15; refine (h_blocks HS.out).mono ?_; rintro e w' ⟨rfl, n1, rfl⟩)
            | (go_at_call 29; refine (h_word (HS.out.drewN _) _).mono ?_; rintro e w' ⟨rfl, n2, rfl⟩; rw [HX.out])
            | (go_at_call 25; refine (h_forward (HS.out.drewN _) _ HW.out).mono ?_; rintro e w' ⟨rfl, n3, rfl⟩; rw [HY.out])
            | (at_builtin; refine wpList_append_own _ rfl (.tmp 51) (.tmp 54) 26 rfl w.heap.size 3 i0 (.int .i64 0) 1 8 Try.underlying26 hi0 hz0 hz1 hz2 rfl (by decide) _ _ _ rfl ((own_kp0 HO.out (Kp.draw wr _)).alloc _) ⟨wr.heap.size, 0, none⟩ 2 2 [.int .i64 x, .int .i64 y] rfl rfl (two_new wr x y _) NONE (by unfold maxLen; omega) (by omega) (by have := HSZ.out; simp; omega) ?_; intro v' w9 hown' hgr _; have HO' := hid hown'; have HG := hid hgr; clear hown' hgr))
          go_roundw
          case rel =>
            obtain ⟨z1, z2⟩ := row_endG [x, y] (((Kp.draw wr _).chain (Kp.new _ _)).below HSZ.out (by simp)) HSZ.out rfl ((own_kp0 HO.out (Kp.draw wr _)).alloc _) HO'.out HG.out
            exact ⟨k + 1, by omega, by go_num, by rw [HE.out]; exact z1, HBE.out.trans z2⟩
          case measure => simp [intOf]; omega
        · obtain rfl : k = 64 * m.bl.length := by omega
          go_wp2_with (go_at_call 15; refine (h_blocks HS.out).mono ?_; rintro e w' ⟨rfl, n1, rfl⟩)
          refine (h_all (HS.out.drewN n1)).mono ?_
          rintro e w3 ⟨v3, rfl, own3, bel3⟩
          have HO3 := hid (own_kp0 (own_kp0 HO.out (Kp.draw wr n1)) (Kp.of_below bel3))
          have HB3 := hid ((below_drewN HBE.out n1).trans (below_mono bel3 HSZ.out))
          have HF3 := hid (FarI.of_own own3)
          obtain ⟨A3, cap3, hv3, hc3a, hc3b, _⟩ := FarI.of_own own3
          have HD3 := hid (row_disj HO.out own3 (Nat.le_refl _) hv3)
          subst hv3
          unfold maxLen at hc3b
          clear own3 bel3 HO HBE HS HSZ
          go_wp2
          go_loopw [3, 11] (fun s c wr2 => ∃ i : Nat, i ≤ m.allL.length ∧ c = .int .i64 (i : Int) ∧ wr2.ownsRow w.heap.size 3 1 s (m.stA i).length (zcells (m.stA i)) ∧ Below w.heap.size w wr2 ∧ FarI wr2 (wr.drewN n1).heap.size (.slice A3 m.allL.length cap3) m.allL ∧ ∀ a, A3 = some a → s.ownBlock ≠ some a.block) (fun _ c _ => m.allL.length - (intOf c).toNat)
          case atStart => exact ⟨0, by omega, rfl, HO3.out, HB3.out, HF3.out, HD3.out⟩
          case round =>
            clear HO3 HB3 HF3 HD3
            obtain ⟨i, hi, rfl, own, bel, far, dis⟩ := hrel
            have HO := hid own
            have HBE := hid bel
            have HSZ : Hid (w.heap.size ≤ wr.heap.size) := bel.size
            have HFA := hid far
            by_cases hlt : i < m.allL.length
            · obtain ⟨g, rfl, hg, hcell⟩ := far.at_ i hlt
              obtain ⟨t, o, ht, ho⟩ := all_at hlt
              have hok := HI.out.ok _ _ ho
              obtain ⟨hc1, hc2⟩ := conts_len hok
              have HEA : Hid (m.stA (i + 1) = (m.stA i ++ [(t : Int)]) ++ o.conts) := by
                show (m.stA i ++ [m.allL.getD i 0]) ++ m.contI i = _
                unfold HM.contI
                rw [ht, Int.toNat_natCast, ho]
              have hle : (m.stA i).length ≤ 500000 := by have := stA_len HI.out i; omega
              rw [ht] at hcell
              have HOB := hid ho
              have HDG := hid (dis _ rfl)
              have hcA : (wr.alloc (.cells #[.int .i64 (t : Int)] 3)).cell? ⟨g, i, none⟩ = some (.int .i64 (t : Int)) := cell_kp (Kp.new _ _) hcell
              have HCA := hid hcA
              have HGL : Hid (g < wr.heap.size) := cell_lt hcell
              have NONE := one_cell (t : Int)
              have HC4 := hid hc2
              generalize hzs : m.stA i = zs at HO HEA hle
              clear own bel far dis ht ho hok hcA hzs
              go_wp2_with (first
                | (at_builtin; refine wpList_append_own_at _ rfl (.tmp 64) (.tmp 69) 26 rfl w.heap.size 3 i0 (.int .i64 0) 1 8 Try.underlying26 hi0 hz0 hz1 hz2 rfl (by decide) _ _ _ rfl (HO.out.alloc _) ⟨wr.heap.size, 0, none⟩ 1 1 [.int .i64 (t : Int)] rfl rfl (one_new0 wr (t : Int)) NONE (by unfold maxLen; omega) (by omega) (by have := HSZ.out; simp; omega) ?_; intro v8 w8 own8 g8 _ at8; have H8 := hid own8; have HG8 := hid g8; have HA8 := hid at8; have hcell8 : w8.cell? ⟨g, i, none⟩ = some (.int .i64 (t : Int)) := (by rw [World.cell?_of_block (g8.block g (cell_lt HCA.out) (fun hx => HDG.out hx.symm))]; exact HCA.out); have HZ := hid (row_endG [(t : Int)] ((Kp.new wr _).below HSZ.out (by simp)) HSZ.out rfl (HO.out.alloc _) own8 g8); have HS8 := hid (HH.out.below (HBE.out.trans HZ.out.2) HLT.out); clear own8 g8 at8)
                | (go_at_call 21; refine (h_contents HS8.out HOB.out).mono ?_; rintro e w10 ⟨v10, rfl, own10, bel10⟩; obtain ⟨g10, cap10, rfl, hsrc⟩ := src_of own10 HC4.out; have HK10 := hid (Kp.of_below bel10); have HSRC := hid hsrc; have HSZ10 : Hid (w.heap.size ≤ w10.heap.size) := Nat.le_trans (Nat.le_trans HSZ.out HZ.out.2.size) bel10.size; clear own10 bel10 hsrc)
                | (at_builtin; refine wpList_append_own_at _ rfl (.tmp 71) (.tmp 77) 26 rfl w.heap.size 3 i0 (.int .i64 0) 1 8 Try.underlying26 hi0 hz0 hz1 hz2 rfl (by decide) _ _ _ rfl (own_kp0 HZ.out.1 HK10.out) ⟨g10, 0, none⟩ o.conts.length cap10 (zcells o.conts) rfl (by simp [zcells_length]) HSRC.out zcells_one (by unfold maxLen; simp; omega) (by simp; omega) HSZ10.out ?_; intro v11 w11 own11 g11 _ at11; have H11 := hid own11; have HG11 := hid g11; have HA11 := hid at11; clear own11 g11 at11))
              go_roundw
              case rel =>
                obtain ⟨z3, z4⟩ := row_endG o.conts (HK10.out.below (Nat.le_trans HSZ.out HZ.out.2.size) (by simp)) (Nat.le_trans HSZ.out HZ.out.2.size) rfl (own_kp0 HZ.out.1 HK10.out) H11.out HG11.out
                have d8 : v8.ownBlock ≠ some g := by
                  rcases HA8.out with e | e
                  · rw [e]; exact HDG.out
                  · rw [e]
                    intro hx
                    injection hx with hx
                    have h1 := (Kp.new wr (.cells #[.int .i64 (t : Int)] 3)).size
                    have h2 := HGL.out
                    omega
                have d11 : v11.ownBlock ≠ some g := by
                  rcases HA11.out with e | e
                  · rw [e]; exact d8
                  · rw [e]
                    intro hx
                    injection hx with hx
                    have h1 := HK10.out.size
                    have h2 := cell_lt hcell8
                    omega
                have F8 := far_grow (HFA.out.kp (Kp.new wr (.cells #[.int .i64 (t : Int)] 3)) (by simp)) HG8.out (fun a ha => by cases ha; exact HDG.out)
                have F11 := far_grow (F8.kp HK10.out (by simp)) HG11.out (fun a ha => by cases ha; exact d8)
                exact ⟨i + 1, by omega, by go_num, by rw [HEA.out]; exact z3, HBE.out.trans (HZ.out.2.trans z4), F11, fun a ha => by cases ha; exact d11⟩
              case measure => simp [intOf]; omega
            · obtain rfl : i = m.allL.length := by omega
              clear own bel far dis
              go_wp2
              go_ret
              exact ⟨_, rfl, HO.out, HBE.out⟩
end
end Go.Proofs.Ytplgbpmldjngoaa
