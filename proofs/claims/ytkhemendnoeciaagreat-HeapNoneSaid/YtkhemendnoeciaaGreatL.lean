/-
  The contracts of slices.Clone at words, of the two Clones. Conditions: those that stand in each theorem.
-/
import Derived.Test.YtkhemendnoeciaaGreatK
import Derived.OwnWalk
import Derived.Deep.AppendLies
import Derived.Deep.RegionHeld3
namespace Go.Proofs.YtkhemendnoeciaaGreat
set_option linter.unusedVariables false
set_option linter.unusedSimpArgs false
open Go.RowKit Go.Deep

theorem wcells_one {ws : List Nat} : ∀ u ∈ wcells ws, u.oneCell' = true := by
  intro u hu
  obtain ⟨x, _, rfl⟩ := List.mem_map.1 hu
  rfl
theorem icells_one {ws : List Nat} : ∀ u ∈ icells ws, u.oneCell' = true := by
  intro u hu
  obtain ⟨x, _, rfl⟩ := List.mem_map.1 hu
  rfl


def ClonedW (w : World) (ws : List Nat) (e : Ending) (w' : World) : Prop :=
  ∃ g c sp, e = .returned (.slice (some ⟨g, 0, none⟩) ws.length c) ∧ w.heap.size ≤ g ∧ Blk w' g 100 (wcells ws ++ sp).toArray ∧ ws.length ≤ c ∧ c ≤ maxLen ∧ (wcells ws ++ sp).length = c ∧ Kp [] w w'

theorem clone_words {w : World} {h c : Nat} {ws : List Nat} {sp : List Value} (b : Blk w h 100 (wcells ws ++ sp).toArray) (hn : 0 < ws.length) (hl : ws.length ≤ 4096) :
    Calls Tryz.prog 108 #[.slice (some ⟨h, 0, none⟩) ws.length c] w (ClonedW w ws) := by
  obtain ⟨i0, hi0, hz0, hz1, hz2⟩ := info_parts infoU64
  have HC : Hid (∀ j u, (wcells ws)[j]? = some u → (w.alloc (.cells #[] 100)).cell? ((⟨h, 0, none⟩ : Addr).add j) = some u) := fun j u hu => by
    rw [← blk_read b j u hu]
    refine World.cell?_of_block ((Kp.new w _).block _ ?_ (by simp))
    have := b.lt
    unfold Addr.add
    split <;> exact this
  have hnil : ∀ W : World, (binOp .eql 96 (.slice (some ⟨h, 0, none⟩) ws.length c) (.slice none 0 0)).run Tryz.prog W = .ok (.bool false) W := fun W => Lib.run_eql_slice_nil W 96 100 (some ⟨h, 0, none⟩) ws.length c 0 0 Tryz.underlying96
  clear b
  go_enter Tryz.func108, Tryz.ntmps108
  go_wp2_with (at_builtin; (refine wpList_append_lies _ rfl (.tmp 5) (.tmp 6) 96 rfl w.heap.size 100 i0 (.int .u64 0) 1 8 Tryz.underlying96 hi0 hz0 hz1 hz2 rfl (by decide) (.slice (some ⟨w.heap.size, 0, none⟩) 0 0) 0 [] rfl (own_empty w 100) ⟨h, 0, none⟩ ws.length c (wcells ws) rfl (by simp [wcells]) HC.out wcells_one hn (by unfold maxLen; omega) (by omega) (by simp) (w.heap.size + 1) (by simp) ?_); intro g cap w' hown hgr hat hlt)
  have HO := hid hown
  have HG := hid hgr
  clear hown hgr hnil
  go_wp2
  go_ret
  have hO := HO.out
  rw [Nat.zero_add, List.nil_append] at hO
  obtain ⟨g', c', sp', hv, hB, hb, h1, h2, h3⟩ := own_form hO hn
  injection hv with e1 e2 e3
  injection e1 with e1
  injection e1 with e1
  subst e1 e3
  refine ⟨g, cap, sp', by simp, hB, hb, h1, h2, h3, ?_⟩
  exact (Kp.new w _).trans (Kp.of_grown HG.out) (by simp) (by simp [Value.ownBlock])

/-- A new table with the same entries. -/
def Cloned (w : World) (wd : Nat) (L : List Nat) (e : Ending) (w' : World) : Prop :=
  ∃ g h, e = .returned (.pointer (some ⟨g, 0, none⟩)) ∧ STab w' g h wd L ∧ Kp [] w w' ∧ w.heap.size ≤ g ∧ w.heap.size ≤ h

set_option maxHeartbeats 1000000 in
theorem clone_any {g h wd : Nat} {L : List Nat} {w : World} (T : STab w g h wd L) :
    Calls Tryz.prog 36 #[.pointer (some ⟨g, 0, none⟩)] w (Cloned w wd L) := by
  have T0 := T
  obtain ⟨ws, c, sp, E, l1, l2, l3, l4, l5, b1, b2⟩ := T
  have hlen : 0 < ws.length := Nat.lt_of_le_of_lt (Nat.zero_le _) (E.inside (i := 0) (by omega))
  have hlen2 : ws.length ≤ 4096 := by rw [E.len]; have := Nat.mul_le_mul l2 E.wd_ok.le; omega
  have c0 : w.cell? ⟨g, 0, none⟩ = some (.int .i64 (L.length : Int)) := b1.cell 0
  have c1 : w.cell? ⟨g, 1, none⟩ = some (.int .i64 (wd : Int)) := b1.cell 1
  have c2 : w.cell? ⟨g, 2, none⟩ = some (.slice (some ⟨h, 0, none⟩) ws.length c) := b1.cell 2
  have HB2 := hid b2
  have HB1 := hid b1
  have HE := hid E
  clear b1 b2 E l5
  go_enter Tryz.func36, Tryz.ntmps36
  go_wp2_with (go_at_call 107; refine (made_yes T0).mono ?_; rintro e w' ⟨rfl, n1, rfl⟩)
  go_region_held3 (fun W => W.cell? ⟨g, 0, none⟩ = some (.int .i64 (L.length : Int)) ∧ W.cell? ⟨g, 1, none⟩ = some (.int .i64 (wd : Int)) ∧ W.cell? ⟨g, 2, none⟩ = some (.slice (some ⟨h, 0, none⟩) ws.length c)) (go_keep)
    (first | (go_at_call 108; refine (clone_words (w := (w.drewN n1).drew) HB2.out hlen hlen2).mono ?_; rintro e w' ⟨g', c', sp', rfl, hge, hb', hc1', hc2', hc3', hk'⟩; have hbg := (show Blk ((w.drewN n1).drew) g _ _ from HB1.out).kp hk' (by simp); have q0 := hbg.cell 0; have q1 := hbg.cell 1; have q2 := hbg.cell 2; have q3 := World.new_ne w' ⟨g, 0, none⟩ q0; have HB' := hid hb'; have HK' := hid hk'; have HBG := hid hbg; have HGE := hid hge; clear hb' hk' hbg hge))
  go_wp2
  go_ret
  have hge := HGE.out
  have hsz : w.heap.size ≤ w'.heap.size := HK'.out.size
  refine ⟨w'.heap.size, g', rfl, ?_, ?_, hsz, hge⟩
  · exact ⟨ws, c', sp', HE.out, l1, l2, hc1', hc2', hc3', Blk.new w' 98 _, HB'.out.kp (Kp.new _ _) (by simp)⟩
  · exact ((Kp.draw w n1).trans ((Kp.draw _ 1).trans (HK'.out.trans (Kp.new _ _) (U := []) (by simp) (by simp)) (U := []) (by simp) (by simp)) (by simp) (by simp))

end Go.Proofs.YtkhemendnoeciaaGreat
