/-
  The contract of the law's entries: all entries, in new memory; of ints at two such lists. Conditions: those that stand in each theorem.
-/
import Derived.Test.YthhgcjbmnkdgjaaMa
namespace Go.Proofs.Ythhgcjbmnkdgjaa
set_option linter.unusedVariables false
set_option linter.unusedSimpArgs false
open Go.RowKit Go.Deep

section
variable {w W W' : World} {g h g' h' wd : Nat} {L M : List Nat}
/-- A slice of numbers in blocks from B on. -/
def IntsFar (w : World) (B : Nat) (v : Value) (L : List Nat) : Prop :=
  ∃ A cap, v = .slice A L.length cap ∧ ∀ i, i < L.length → ∃ g, A = some ⟨g, 0, none⟩ ∧ B ≤ g ∧ w.cell? ⟨g, i, none⟩ = some (.int .i64 ((ent L i : Nat) : Int))
theorem IntsFar.at_ {B : Nat} {v : Value} (h : IntsFar w B v L) : IntsAt w v L := by
  obtain ⟨A, cap, rfl, hA⟩ := h
  exact ⟨A, cap, rfl, fun i hi => by obtain ⟨g, h1, _, h2⟩ := hA i hi; exact ⟨g, h1, h2⟩⟩
theorem icells_at (L : List Nat) (i : Nat) (hi : i < L.length) : (icells L)[i]? = some (.int .i64 ((ent L i : Nat) : Int)) := by
  simp [icells, ent, hi]
theorem IntsFar.of_own {B : Nat} {v : Value} (own : w.ownsRow B 3 1 v L.length (icells L)) : IntsFar w B v L := by
  rcases own.2 with ⟨rfl, h0⟩ | ⟨g, cap, cur, rfl, hg, _⟩
  · exact ⟨none, 0, by rw [h0], fun i hi => by omega⟩
  · refine ⟨_, cap, rfl, fun i hi => ⟨g, rfl, hg, ?_⟩⟩
    rw [own.cellAt _ (by omega)]
    exact icells_at L i hi
theorem IntsFar.kp {B : Nat} {S : List Nat} {v : Value} (h : IntsFar w B v L) (k : Kp S w W) (hS : ∀ x ∈ S, x < B) : IntsFar W B v L := by
  obtain ⟨A, cap, rfl, hA⟩ := h
  refine ⟨A, cap, rfl, fun i hi => ?_⟩
  obtain ⟨g, h1, hB, h2⟩ := hA i hi
  have hn : g ∉ S := fun hm => by have := hS g hm; omega
  exact ⟨g, h1, hB, by rw [World.cell?_of_block (k.block g (cell_lt h2) hn)]; exact h2⟩
/-- A new list of all entries. -/
def EntP (w : World) (L : List Nat) (e : Ending) (w' : World) : Prop := ∃ v, e = .returned v ∧ IntsFar w' w.heap.size v L ∧ Kp [] w w'
theorem icells_append (a b : List Nat) : icells (a ++ b) = icells a ++ icells b := by simp [icells]
theorem take_ent {k : Nat} (hk : k < L.length) : L.take (k + 1) = L.take k ++ [ent L k] := by
  rw [List.take_succ_eq_append_getElem hk]
  simp [ent, hk]
theorem getS_at {k : Nat} (hk : k < L.length) : getS L (k : Int) = ((ent L k : Nat) : Int) := by
  unfold getS
  rw [hasB_of hk]
  rfl
theorem one_int (W : World) (x : Nat) : ∀ (j : Nat) (u : Value), ([.int .i64 (x : Int)] : List Value)[j]? = some u → (W.alloc (.cells #[.int .i64 (x : Int)] 3)).cell? ((⟨W.heap.size, 0, none⟩ : Addr).add j) = some u := by
  intro j u hu
  exact blk_read (xs := [.int .i64 (x : Int)]) (sp := []) (Blk.new W 3 _) j u hu
theorem one_int_one (x : Nat) : ∀ u ∈ ([.int .i64 (x : Int)] : List Value), u.oneCell' = true := by
  intro u hu
  simp at hu
  subst hu
  rfl
def EntR (w W : World) (L : List Nat) (k : Nat) (v : Value) : Prop := W.ownsRow w.heap.size 3 1 v k (icells (L.take k)) ∧ Below w.heap.size w W
theorem EntR.next {k n : Nat} {v v' : Value} (hk : k < L.length) (r : EntR w W L k v) (own : W'.ownsRow w.heap.size 3 1 v' (k + 1) (icells (L.take k) ++ [.int .i64 ((ent L k : Nat) : Int)])) (hg : ((W.drewN n).alloc (.cells #[.int .i64 ((ent L k : Nat) : Int)] 3)).grownBy W' v.ownBlock) : EntR w W' L (k + 1) v' := by
  obtain ⟨o, b⟩ := r
  refine ⟨by rw [take_ent hk, icells_append]; exact own, ?_⟩
  refine ((b.trans (below_drewN (Below.refl _ _) n)).alloc b.size _).grown hg (by have := b.size; simp [World.drewN]; omega) ?_
  intro x hx
  rcases o.2 with ⟨rfl, _⟩ | ⟨g', cap, cur, rfl, hg, _⟩
  · simp [Value.ownBlock] at hx
  · simp [Value.ownBlock] at hx
    omega
set_option maxHeartbeats 1000000 in
theorem law_entries (T : STab w g h wd L) : Calls Try.prog 30 #[.pointer (some ⟨g, 0, none⟩)] w (EntP w L) := by
  obtain ⟨i0, hi0, hz0, hz1, hz2⟩ := info_parts info3
  have hle := T.le
  have HT := hid T
  have hgl := T.g_lt
  have hhl := T.h_lt
  clear T
  go_enter Try.func30, Try.ntmps30
  go_wp2
  go_loopw [3, 4] (fun s c wr => ∃ k : Nat, k ≤ L.length ∧ c = .int .i64 (k : Int) ∧ EntR w wr L k s) (fun _ c _ => L.length - (intOf c).toNat)
  case atStart => exact ⟨0, by omega, rfl, ⟨rfl, .inl ⟨rfl, rfl⟩⟩, Below.refl _ _⟩
  case round =>
    obtain ⟨k, hk, rfl, R⟩ := hrel
    have T1 := hid (HT.out.below R.2 hgl hhl)
    have HR := hid R
    by_cases hlt : k < L.length
    · have ge := hid (getS_at hlt)
      have HO := hid R.1
      have HB : Hid (w.heap.size ≤ wr.heap.size) := R.2.size
      have HN : Hid _ := fun n => one_int (wr.drewN n) (ent L k)
      have NONE := hid (one_int_one (ent L k))
      clear R HT
      go_wp2_with (first | (go_at_call 25; refine (entries_any T1.out).mono ?_; rintro e w' ⟨rfl, n5, rfl⟩) | (go_at_call 24; refine (get_any (w := wr.drewN _) T1.out _).mono ?_; rw [ge.out]; rintro e w' ⟨rfl, n6, rfl⟩) | (at_builtin; refine wpList_append_own _ rfl (.tmp 11) (.tmp 15) 53 rfl w.heap.size 3 i0 (.int .i64 0) 1 8 Try.underlying53 hi0 hz0 hz1 hz2 rfl (by decide) _ _ _ rfl ((show (wr.drewN (n5 + n6)).ownsRow _ _ _ _ _ _ from HO.out).alloc _) ⟨wr.heap.size, 0, none⟩ 1 1 [.int .i64 ((ent L k : Nat) : Int)] rfl rfl (HN.out (n5 + n6)) NONE.out (by unfold maxLen; omega) (by omega) (by have := HB.out; simp [World.drewN]; omega) ?_; intro v' w1 hown' hgr _; have HOW := hid hown'; have HG := hid hgr; clear hown' hgr))
      go_roundw
      case rel => exact ⟨k + 1, by omega, by go_num, HR.out.next hlt HOW.out HG.out⟩
      case measure => simp [intOf]; omega
    · obtain rfl : k = L.length := by omega
      clear R HT
      go_wp2_with (first | (go_at_call 25; refine (entries_any T1.out).mono ?_; rintro e w' ⟨rfl, n5, rfl⟩))
      go_ret
      have o := HR.out.1
      rw [List.take_length] at o
      exact ⟨_, rfl, (IntsFar.of_own o).kp (Kp.draw _ _) (by simp), (Kp.of_below HR.out.2).drewN _⟩
end
end Go.Proofs.Ythhgcjbmnkdgjaa
