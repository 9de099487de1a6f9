/-
  The contracts of the document's heap's pin, Pin, Unpin, SetRef, SetData, Shape, Find. Conditions: those that stand in each theorem.
-/
import Derived.BigQuiet
import Derived.Deep.RegionHeld3
import Derived.Test.YtmkmnlmfpddjkaaGreatPG13
namespace Go.Proofs.YtmkmnlmfpddjkaaGreat
set_option linter.unusedVariables false
set_option linter.unusedSimpArgs false
open Go.RowKit Go.Deep Go.Maps

section
variable {w w' W : World} {d : DB} {q : Nat} {m : HM}
end
end Go.Proofs.YtmkmnlmfpddjkaaGreat
/-
  The contracts of the document's heap's Shape, Find. Conditions: those that stand in each theorem.
-/
namespace Go.Proofs.YtmkmnlmfpddjkaaGreat
set_option linter.unusedVariables false
set_option linter.unusedSimpArgs false
open Go.RowKit Go.Deep Go.Maps

theorem wordsI_ok {o : Ob} (h : o.Ok) : wordsI (o.refs : Int) (o.data : Int) (o.kind : Int) = (o.wd : Int) := by
  unfold wordsI
  rw [h.vld]
  simp [Ob.wd]
theorem obox_any {w W : World} {g : Nat} {T : TypeId} {cs : Array Value} (hB : Blk W g T cs) (hk : Kp [] w W) (hg : w.heap.size ≤ g) (vs : Array Value) (hv : cs.size = vs.size) : W.there g 0 vs.size ∧ Kp [] w (W.setCells g 0 vs.toList) ∧ ∀ j v, vs.toList[j]? = some v → (W.setCells g 0 vs.toList).cell? ⟨g, j, none⟩ = some v := by
  have ht : W.there g 0 vs.size := fun j hj => by
    refine ⟨?_, ?_⟩
    · rw [Nat.zero_add, hB.cell j, Array.getElem?_eq_getElem (by omega)]; rfl
    · rw [Nat.zero_add]; exact hB.frozen j
  exact ⟨ht, hk.trans (Kp.setCells _ _ _ _) (by simp) (by simp; exact hg), fun j v hj => by have := World.rangeAt_setCells_same W g 0 vs.toList (by simpa using ht) j v hj; rwa [Nat.zero_add] at this⟩
def HM.shR (m : HM) (a : Int) : Int := if m.has a then (match m.ob a.toNat with | some o => (o.refs : Int) | none => 0) else 0
def HM.shD (m : HM) (a : Int) : Int := if m.has a then (match m.ob a.toNat with | some o => (o.data : Int) | none => 0) else 0
def HM.shK (m : HM) (a : Int) : Int := if m.has a then (match m.ob a.toNat with | some o => (o.kind : Int) | none => 0) else 0
section
variable {w w' W : World} {d : DB} {q : Nat} {m : HM}
set_option maxRecDepth 100000 in
set_option maxHeartbeats 2000000 in
theorem d_find (T : DR w d q m) (a : Int) (ha : W64 a) :
    Calls Tryz.prog 148 #[.pointer (some ⟨d.g, 0, none⟩), .int .i64 a] w fun e w' => e = .returned (.tuple #[.int .i64 ((m.ownI a : Nat) : Int), .int .i64 (m.findE a)]) ∧ Kp [] w w' := by
  obtain ⟨A, cap, hov⟩ := T.o_len
  have hlen := T.len
  have hnb := T.inv.n_bd
  have HT := hid T
  have HOV := hid hov
  have HIN := hid T.inv
  obtain ⟨ha1, ha2⟩ := ha
  clear T hov
  go_enter Tryz.func148, Tryz.ntmps148
  go_wp2_with (go_at_call 60; refine (d_made HT.out).mono ?_; rintro e w1 ⟨rfl, h1⟩; have HK1 := hid (Kp.of_drewN h1); clear h1)
  go_loopw [6] (fun c wr => ∃ k : Nat, k ≤ d.os.length ∧ Hid (∀ j, j < k → ∀ y, d.os[j]? = some y → ¬ ((y.a : Int) ≤ a ∧ a < (y.a : Int) + (y.o.wd : Int))) ∧ c = .int .i64 (k : Int) ∧ Kp [] w wr) (fun c _ => d.os.length - (intOf c).toNat)
  case atStart => exact ⟨0, by omega, (fun j h1 => absurd h1 (by omega)), by go_num, HK1.out⟩
  case round =>
    obtain ⟨k, hk, HK, rfl, K⟩ := hrel
    have HKR := hid K
    have HTR := hid (HT.out.kp0 K)
    have hc1 := HTR.out.c1
    rw [HOV.out] at hc1
    clear K
    by_cases hlt : k < d.os.length
    · obtain ⟨x, hx⟩ := get_some hlt
      obtain ⟨g, cap', hov', _, _, _, hO, _⟩ := HTR.out.ocell hx
      rw [HOV.out] at hov'
      cases hov'
      have o0 := hO.c0
      have o2 := hO.c2
      have o3 := hO.c3
      have o4 := hO.c4
      have hob := HTR.out.lst.ob hx
      have hhi := HIN.out.hi hob
      have hok := HIN.out.ok _ _ hob
      have hwd := hok.wd_bd
      have HWD := hid (wordsI_ok hok)
      have HX := hid hx
      have HOB := hid hob
      clear hO hob hok
      have q1 : IntKind.i64.wrap ((x.a : Int) + (x.o.wd : Int)) = (x.a : Int) + (x.o.wd : Int) := by rw [IntKind.wrap_i64]; omega
      have s1 := kp_cellD (Kp.draw wr 1) hc1
      have s2 := kp_cellD (Kp.draw wr 1) o0
      have s3 := kp_cellD (Kp.draw wr 1) o2
      have s4 := kp_cellD (Kp.draw wr 1) o3
      have s5 := kp_cellD (Kp.draw wr 1) o4
      by_cases c1 : (x.a : Int) ≤ a
      · have e1 : decide ((x.a : Int) ≤ a) = true := decide_eq_true c1
        by_cases c2 : a < (x.a : Int) + (x.o.wd : Int)
        · have e2 : decide (a < (x.a : Int) + (x.o.wd : Int)) = true := decide_eq_true c2
          have HZ : Hid (m.ownI a = x.a ∧ m.findE a = 0) := by
            obtain ⟨a, rfl⟩ : ∃ k : Nat, a = (k : Int) := ⟨a.toNat, by omega⟩
            have h := own_cov HIN.out HOB.out (k := a) (by omega) (by omega)
            have h2 : m.ownI (a : Int) = x.a := by unfold HM.ownI; rw [if_pos (by omega), Int.toNat_natCast, h]
            have h3 := HIN.out.lo HOB.out
            exact ⟨h2, by unfold HM.findE; rw [if_neg (by omega)]⟩
          clear c1 c2
          go_wp2_with (fail)
          go_region_held3 (fun W => W.cell? ⟨d.g, 1, none⟩ = some (.slice (some ⟨g, 0, none⟩) d.os.length cap) ∧ W.cell? ⟨g, k * 8, none⟩ = some (.int .i64 (x.a : Int)) ∧ W.cell? ⟨g, k * 8 + 2, none⟩ = some (.int .i64 (x.o.refs : Int)) ∧ W.cell? ⟨g, k * 8 + 3, none⟩ = some (.int .i64 (x.o.data : Int)) ∧ W.cell? ⟨g, k * 8 + 4, none⟩ = some (.int .i64 (x.o.kind : Int))) (go_keep)
            (first | (go_at_call 153; refine (r_words _ _ _ _).mono ?_; rintro e w5 ⟨rfl, K5⟩; rw [HWD.out]; have HK5 := hid ((Kp.draw wr 1).chain K5); have u1 := kp_cellD K5 s1; have u2 := kp_cellD K5 s2; have u3 := kp_cellD K5 s3; have u4 := kp_cellD K5 s4; have u5 := kp_cellD K5 s5; clear K5))
          all_goals (
            go_wp2
            go_ret2
            rw [HZ.out.1, HZ.out.2]
            exact ⟨rfl, by first | exact HKR.out.chain HK5.out | exact HKR.out⟩)
        · have e2 : decide (a < (x.a : Int) + (x.o.wd : Int)) = false := decide_eq_false c2
          have HK' : Hid (∀ j, j < k + 1 → ∀ y, d.os[j]? = some y → ¬ ((y.a : Int) ≤ a ∧ a < (y.a : Int) + (y.o.wd : Int))) := fun j h1 y hy => by
            by_cases hj : j < k
            · exact HK.out j hj y hy
            · obtain rfl : j = k := by omega
              rw [HX.out] at hy
              cases hy
              omega
          clear c1 c2
          go_wp2_with (fail)
          go_region_held3 (fun W => W.cell? ⟨d.g, 1, none⟩ = some (.slice (some ⟨g, 0, none⟩) d.os.length cap) ∧ W.cell? ⟨g, k * 8, none⟩ = some (.int .i64 (x.a : Int)) ∧ W.cell? ⟨g, k * 8 + 2, none⟩ = some (.int .i64 (x.o.refs : Int)) ∧ W.cell? ⟨g, k * 8 + 3, none⟩ = some (.int .i64 (x.o.data : Int)) ∧ W.cell? ⟨g, k * 8 + 4, none⟩ = some (.int .i64 (x.o.kind : Int))) (go_keep)
            (first | (go_at_call 153; refine (r_words _ _ _ _).mono ?_; rintro e w5 ⟨rfl, K5⟩; rw [HWD.out]; have HK5 := hid ((Kp.draw wr 1).chain K5); have u1 := kp_cellD K5 s1; have u2 := kp_cellD K5 s2; have u3 := kp_cellD K5 s3; have u4 := kp_cellD K5 s4; have u5 := kp_cellD K5 s5; clear K5))
          all_goals (
            go_wp2
            go_roundw
            case rel => exact ⟨k + 1, by omega, HK', by go_num, by first | exact HKR.out.chain HK5.out | exact HKR.out⟩
            case measure => simp [intOf]; omega)
      · have e1 : decide ((x.a : Int) ≤ a) = false := decide_eq_false c1
        have HK' : Hid (∀ j, j < k + 1 → ∀ y, d.os[j]? = some y → ¬ ((y.a : Int) ≤ a ∧ a < (y.a : Int) + (y.o.wd : Int))) := fun j h1 y hy => by
          by_cases hj : j < k
          · exact HK.out j hj y hy
          · obtain rfl : j = k := by omega
            rw [HX.out] at hy
            cases hy
            omega
        clear c1
        go_wp2_with (fail)
        go_quiet (fail)
        go_wp2
        go_roundw
        case rel => exact ⟨k + 1, by omega, HK', by go_num, by first | exact HKR.out | exact HKR.out.chain (Kp.draw _ _)⟩
        case measure => simp [intOf]; omega
    · obtain rfl : k = d.os.length := by omega
      have HZ : Hid (m.ownI a = 0 ∧ m.findE a = 4) := by
        have h2 : m.ownI a = 0 := by
          unfold HM.ownI
          split
          · refine own_gap ?_
            rintro ⟨b, o, h3, h4, h5⟩
            obtain ⟨i, x, hi, h6, h7⟩ := HT.out.lst.get h3
            subst h6 h7
            exact HK.out i (List.getElem?_eq_some_iff.1 hi).1 x hi ⟨by omega, by omega⟩
          · rfl
        exact ⟨h2, by unfold HM.findE; rw [if_pos h2]⟩
      go_wp2
      go_ret2
      rw [HZ.out.1, HZ.out.2]
      exact ⟨rfl, HKR.out⟩
end
end Go.Proofs.YtmkmnlmfpddjkaaGreat
/-
  The contracts of the document's heap's Word, Poke. Conditions: those that stand in each theorem.
-/
namespace Go.Proofs.YtmkmnlmfpddjkaaGreat
set_option linter.unusedVariables false
set_option linter.unusedSimpArgs false
open Go.RowKit Go.Deep Go.Maps

section
variable {w w' W : World} {d : DB} {q : Nat} {m : HM}
end
end Go.Proofs.YtmkmnlmfpddjkaaGreat
/-
  The contract of the document's heap's Poke. Conditions: those that stand in each theorem.
-/
namespace Go.Proofs.YtmkmnlmfpddjkaaGreat
set_option linter.unusedVariables false
set_option linter.unusedSimpArgs false
open Go.RowKit Go.Deep Go.Maps

section
variable {w w' W : World} {d : DB} {q : Nat} {m : HM}
end
end Go.Proofs.YtmkmnlmfpddjkaaGreat
