/-
  The contracts of package heap's firstPairs, Objects, All, Word. Conditions: those that stand in each theorem.
-/
import Derived.Test.YthndilllnneijaaGreatPG7
set_option linter.unusedSimpArgs false
set_option linter.unusedVariables false
set_option maxRecDepth 100000
set_option maxHeartbeats 2000000
namespace Go.Proofs.YthndilllnneijaaGreat
open Go.RowKit Go.Deep Go.Maps
def fpL (m : HM) (f : Nat) : Nat → List Int
 | 0 => []
 | n + 1 => if (m.ob (2 * (f + n))).isSome then fpL m f n ++ [((2 * (f + n) : Nat) : Int)] else fpL m f n
theorem fpL_le (m : HM) (f n : Nat) : (fpL m f n).length ≤ n := by
 induction n with
 | zero => exact Nat.le_refl _
 | succ n ih =>
   unfold fpL
   split
   · rw [List.length_append]; simp; omega
   · omega
theorem fpL_mem (m : HM) (f n : Nat) (z : Int) : z ∈ fpL m f n ↔ ∃ i, i < n ∧ z = ((2 * (f + i) : Nat) : Int) ∧ (m.ob (2 * (f + i))).isSome = true := by
 induction n with
 | zero => simp [fpL]
 | succ n ih =>
   unfold fpL
   split
   · rename_i h
     rw [List.mem_append, ih]
     constructor
     · rintro (⟨i, h1, h2, h3⟩ | h1)
       · exact ⟨i, by omega, h2, h3⟩
       · exact ⟨n, by omega, by simpa using h1, h⟩
     · rintro ⟨i, h1, h2, h3⟩
       by_cases hi : i < n
       · exact .inl ⟨i, hi, h2, h3⟩
       · obtain rfl : i = n := by omega
         exact .inr (by simpa using h2)
   · rename_i h
     rw [ih]
     constructor
     · rintro ⟨i, h1, h2, h3⟩
       exact ⟨i, by omega, h2, h3⟩
     · rintro ⟨i, h1, h2, h3⟩
       by_cases hi : i < n
       · exact ⟨i, hi, h2, h3⟩
       · obtain rfl : i = n := by omega
         exact absurd h3 h
theorem fpL_sorted (m : HM) (f n : Nat) : (fpL m f n).Pairwise (· < ·) := by
 induction n with
 | zero => exact List.Pairwise.nil
 | succ n ih =>
   unfold fpL
   split
   · rw [List.pairwise_append]
     refine ⟨ih, List.pairwise_singleton _ _, fun a ha b hb => ?_⟩
     obtain ⟨i, h1, h2, _⟩ := (fpL_mem m f n a).1 ha
     simp at hb
     subst hb h2
     show ((2 * (f + i) : Nat) : Int) < _
     omega
   · exact ih
section
variable {w w' : World} {b : HB} {r : RM} {m : HM} {q : Nat}
theorem SH.below {B : Nat} (h : SH w b q m) (k : Below B w w') (hb : ∀ x ∈ b.all, x < B) : SH w' b q m := by
 obtain ⟨r, R, A⟩ := h
 refine ⟨r, R.kp (S := (List.range w.heap.size).filter (fun x => decide (B ≤ x))) ⟨k.os, k.tape, k.output, k.size, fun i hi hn => k.block i (by
   rcases Nat.lt_or_ge i B with h1 | h1
   · exact h1
   · exact absurd (List.mem_filter.2 ⟨List.mem_range.2 hi, by simpa using h1⟩) hn)⟩ (fun x hx hc => ?_), A⟩
 have := (List.mem_filter.1 hc).2
 have := hb x hx
 simp at *
 omega
theorem Abs.pairN (A : Abs r m) (R : Raw w b r) (k : Nat) : (getS r.ps (k : Int) == 1) = (m.ob (2 * k)).isSome := by
 have := A.pair1 R (2 * k) (by omega)
 rw [show (((2 * k : Nat) : Int) / 2) = (k : Int) by omega] at this
 exact this
theorem h_first (h : SH w b q m) (f n : Nat) (hf : f + n ≤ 100000) :
   Calls Tryz.prog 154 #[.pointer (some ⟨b.g, 0, none⟩), .int .i64 (f : Int), .int .i64 ((f : Int) + (n : Int))] w (RowP w.heap.size w (fpL m f n)) := by
 obtain ⟨i0, hi0, hz0, hz1, hz2⟩ := info_parts infoInt
 have hlt := h.lt
 have HH := hid h
 have HLT := hid hlt
 clear h hlt
 go_enter Tryz.func154, Tryz.ntmps154
 go_wp2
 go_loopw [7, 8] (fun s c wr => ∃ k : Nat, k ≤ n ∧ c = .int .i64 ((f : Int) + (k : Int)) ∧ wr.ownsRow w.heap.size 3 1 s (fpL m f k).length (zcells (fpL m f k)) ∧ Below w.heap.size w wr) (fun _ c _ => f + n - (intOf c).toNat)
 case atStart => exact ⟨0, by omega, by simp, ⟨rfl, .inl ⟨rfl, rfl⟩⟩, Below.refl _ _⟩
 case round =>
   obtain ⟨k, hk, rfl, own, hbel⟩ := hrel
   have S1 := HH.out.below hbel HLT.out
   obtain ⟨r, R, A, _⟩ := S1
   have hc2 := R.c2
   have hp := A.pairN R (f + k)
   rw [show (((f + k : Nat) : Int)) = (f : Int) + (k : Int) by omega] at hp
   have HO := hid own
   have HB := hid hbel
   have hle := fpL_le m f k
   clear own hbel A
   by_cases hlt : k < n
   · rcases hs : (m.ob (2 * (f + k))).isSome
     · have e : fpL m f (k + 1) = fpL m f k := by simp [fpL, hs]
       have HE := hid e
       rw [hs] at hp
       clear e hs
       go_wp2_with (go_at_call 178; refine (get_any R.TP _).mono ?_; rintro e w' ⟨rfl, n1, rfl⟩)
       go_roundw
       case rel => exact ⟨k + 1, by omega, by go_num, by rw [HE.out]; exact HO.out, below_drewN HB.out n1⟩
       case measure => simp [intOf]; omega
     · have e : fpL m f (k + 1) = fpL m f k ++ [((f : Int) + (k : Int)) * 2] := by
         simp only [fpL, hs, if_true]
         congr 2
         omega
       have HE := hid e
       rw [hs] at hp
       clear e hs
       have HN : Hid _ := one_new wr (((f : Int) + (k : Int)) * 2)
       have NONE := one_cell (((f : Int) + (k : Int)) * 2)
       have HSZ : Hid (w.heap.size ≤ wr.heap.size) := HB.out.size
       go_wp2_with (first
         | (go_at_call 178; refine (get_any R.TP _).mono ?_; rintro e w' ⟨rfl, n1, rfl⟩)
         | (at_builtin; refine wpList_append_own _ rfl (.tmp 22) (.tmp 25) 59 rfl w.heap.size 3 i0 (.int .i64 0) 1 8 Tryz.underlying59 hi0 hz0 hz1 hz2 rfl (by decide) _ _ _ rfl ((show (wr.drewN n1).ownsRow _ _ _ _ _ _ from HO.out).alloc _) ⟨wr.heap.size, 0, none⟩ 1 1 [.int .i64 (((f : Int) + (k : Int)) * 2)] rfl rfl (HN.out n1) NONE (by unfold maxLen; omega) (by omega) (by have := HSZ.out; simp; omega) ?_; intro v' w1 hown' hgr _; have HO' := hid hown'; have HG := hid hgr; clear hown' hgr))
       go_roundw
       case rel =>
         obtain ⟨z1, z2⟩ := row_end HSZ.out rfl HO.out HO'.out HG.out
         exact ⟨k + 1, by omega, by go_num, by rw [HE.out]; exact z1, HB.out.trans z2⟩
       case measure => simp [intOf]; omega
   · obtain rfl : k = n := by omega
     go_wp2
     go_ret
     exact ⟨_, rfl, HO.out, HB.out⟩
end
theorem infoRun : (Tryz.prog.info? 76).map (fun i => (i.zero, i.size, i.bytes)) = some (some (.agg #[.int .i64 0, .int .i64 0]), 2, 16) := by kernel_rfl
def rcells (rs : List (Nat × Nat)) : List Value := rs.flatMap fun r => [.int .i64 (r.1 : Int), .int .i64 (r.2 : Int)]
theorem rcells_length (rs : List (Nat × Nat)) : (rcells rs).length = rs.length * 2 := by
 induction rs with
 | nil => rfl
 | cons r rs ih => simp only [rcells, List.flatMap_cons, List.length_append, List.length_cons, List.length_nil] at ih ⊢; omega
theorem rcells_append (a b : List (Nat × Nat)) : rcells (a ++ b) = rcells a ++ rcells b := by simp [rcells]
def Grows (B : Nat) (w : World) (rs : List (Nat × Nat)) (e : Ending) (w' : World) : Prop :=
 ∃ v', e = .returned v' ∧ w'.ownsRow B 76 2 v' rs.length (rcells rs) ∧ Below B w w'
theorem run_news (w : World) (i z : Int) (n : Nat) : ∀ (j : Nat) (u : Value), ([.int .i64 i, .int .i64 z] : List Value)[j]? = some u → ((w.drewN n).alloc (.cells #[.int .i64 i, .int .i64 z] 76)).cell? ((⟨w.heap.size, 0, none⟩ : Addr).add j) = some u := by
 intro j u hu
 exact blk_read (xs := [.int .i64 i, .int .i64 z]) (sp := []) (Blk.new (w.drewN n) 76 _) j u hu
theorem run_news_one (i z : Int) : ∀ u ∈ ([.int .i64 i, .int .i64 z] : List Value), u.oneCell' = true := by
 intro u hu
 simp at hu
 rcases hu with rfl | rfl <;> rfl
theorem grows_end {B : Nat} {w w1 : World} {rs : List (Nat × Nat)} {i z n k : Nat} {v v' : Value} (hB : B ≤ w.heap.size) (hk : rs.length = k) (own : w.ownsRow B 76 2 v k (rcells rs)) (own' : w1.ownsRow B 76 2 v' (k + 1) (rcells rs ++ [.int .i64 (i : Int), .int .i64 (z : Int)]))
   (g : ((w.drewN n).alloc (.cells #[.int .i64 (i : Int), .int .i64 (z : Int)] 76)).grownBy w1 v.ownBlock) : Grows B w (rs ++ [(i, z)]) (.returned v') w1 := by
 refine ⟨v', rfl, ?_, ?_⟩
 · rw [rcells_append, List.length_append, hk]
   exact own'
 · refine (((Below.refl B w).trans (show Below B w (w.drewN n) from ⟨rfl, rfl, rfl, Nat.le_refl _, fun _ _ => rfl⟩)).alloc hB _).grown g (by simp [World.drewN]; omega) ?_
   intro k hk
   rcases own.2 with ⟨rfl, _⟩ | ⟨g', cap, cur, rfl, hg, _⟩
   · simp [Value.ownBlock] at hk
   · simp [Value.ownBlock] at hk
     omega
def RunsAt (w : World) (v : Value) (rs : List (Nat × Nat)) : Prop :=
 ∃ A cap, v = .slice A rs.length cap ∧ ∀ i, i < rs.length → ∃ g, A = some ⟨g, 0, none⟩ ∧ w.cell? ⟨g, i * 2, none⟩ = some (.int .i64 ((rs.getD i (0, 0)).1 : Int)) ∧ w.cell? ⟨g, i * 2 + 1, none⟩ = some (.int .i64 ((rs.getD i (0, 0)).2 : Int))
theorem rcells_at (rs : List (Nat × Nat)) (i : Nat) (hi : i < rs.length) : (rcells rs)[i * 2]? = some (.int .i64 ((rs.getD i (0, 0)).1 : Int)) ∧ (rcells rs)[i * 2 + 1]? = some (.int .i64 ((rs.getD i (0, 0)).2 : Int)) := by
 induction rs generalizing i with
 | nil => simp at hi
 | cons r rs ih =>
   have e : rcells (r :: rs) = .int .i64 (r.1 : Int) :: .int .i64 (r.2 : Int) :: rcells rs := rfl
   rcases i with _ | i
   · rw [e]; exact ⟨rfl, rfl⟩
   · have h := ih i (by simpa using hi)
     rw [e]
     have e1 : (i + 1) * 2 = i * 2 + 1 + 1 := by omega
     rw [e1]
     simp only [List.getElem?_cons_succ, List.getD_cons_succ]
     exact h
theorem RunsAt.of_own {w : World} {B : Nat} {v : Value} {rs : List (Nat × Nat)} (own : w.ownsRow B 76 2 v rs.length (rcells rs)) : RunsAt w v rs := by
 rcases own.2 with ⟨rfl, h0⟩ | ⟨g, cap, cur, rfl, _⟩
 · exact ⟨none, 0, by rw [h0], fun i hi => by omega⟩
 · refine ⟨_, cap, rfl, fun i hi => ⟨g, rfl, ?_⟩⟩
   have h := rcells_at rs i hi
   rw [own.cellAt _ (by omega), own.cellAt _ (by omega)]
   exact h
theorem sameRuns_yes {w : World} {v v' : Value} {rs : List (Nat × Nat)} (h : RunsAt w v rs) (h' : RunsAt w v' rs) (hl : rs.length ≤ 4096) :
   Calls Tryz.prog 53 #[v, v'] w fun e w' => e = .returned (.bool true) ∧ ∃ m, w' = w.drewN m := by
 obtain ⟨A, cap, rfl, hA⟩ := h
 obtain ⟨A', cap', rfl, hA'⟩ := h'
 have HA := hid hA
 have HA' := hid hA'
 clear hA hA'
 go_enter Tryz.func53, Tryz.ntmps53
 go_wp2
 go_loopw [5] (fun c wr => ∃ k n : Nat, k ≤ rs.length ∧ c = .int .i64 (k : Int) ∧ wr = w.drewN n) (fun c _ => rs.length - (intOf c).toNat)
 case atStart => exact ⟨0, 0, by omega, rfl, rfl⟩
 case round =>
   obtain ⟨k, n, hk, rfl, rfl⟩ := hrel
   by_cases hlt : k < rs.length
   · obtain ⟨g, rfl, c0, c1⟩ := HA.out k hlt
     obtain ⟨g', rfl, d0, d1⟩ := HA'.out k hlt
     clear HA HA'
     go_wp2
     go_quiet (fail)
     go_wp2
     go_roundw
     case rel => exact ⟨k + 1, _, by omega, by go_num, rfl⟩
     case measure => simp [intOf]; omega
   · obtain rfl : k = rs.length := by omega
     go_wp2
     go_ret
     exact ⟨rfl, _, rfl⟩
section
variable {w w' : World} {b : HB} {r : RM} {m : HM} {q : Nat}
def HM.objL (m : HM) (i : Int) : List Int := if inB m.bl.length i then fpL m (i.toNat * 32) 32 else []
theorem h_state (h : SH w b q m) (i : Int) :
   Calls Tryz.prog 41 #[.pointer (some ⟨b.g, 0, none⟩), .int .i64 i] w fun e w' => e = .returned (.int .i64 (if inB m.bl.length i then (m.st i.toNat : Int) else -1)) ∧ ∃ n, w' = w.drewN n := by
 obtain ⟨r, R, A, _⟩ := h
 have hbl := A.bl
 rcases hb : inB m.bl.length i
 · rw [if_neg (by decide)]
   have HB : Hid (inB r.bl.length i = false) := by rw [hbl]; exact hb
   clear hb
   go_enter Tryz.func41, Tryz.ntmps41
   go_wp2_with (first | (go_at_call 55; refine (h_made R).mono ?_; rintro e w' ⟨rfl, n1, rfl⟩) | (go_at_call 114; refine (h_hasBlock (R.drewN _) _).mono ?_; rintro e w' ⟨rfl, n2, rfl⟩; rw [HB.out]))
   go_ret
   exact ⟨rfl, _, rfl⟩
 · rw [if_pos rfl]
   have h0 := of_decide_eq_true hb
   obtain ⟨k, rfl⟩ : ∃ k : Nat, i = (k : Int) := ⟨i.toNat, by omega⟩
   have HB : Hid (inB r.bl.length (k : Int) = true) := by rw [hbl]; exact hb
   have hk : k < r.bl.length := by rw [hbl]; omega
   have hc := R.c0
   have hs := R.stc hk
   have hl := R.bl64
   rw [hbl] at hs
   have e : ((m.st ((k : Int).toNat) : Nat) : Int) = (((m.bl.getD k (0, 0)).1 : Nat) : Int) := rfl
   rw [e]
   generalize (m.bl.getD k (0, 0)).1 = x at hs ⊢
   clear hb h0 e hbl
   go_enter Tryz.func41, Tryz.ntmps41
   go_wp2_with (first | (go_at_call 55; refine (h_made R).mono ?_; rintro e w' ⟨rfl, n1, rfl⟩) | (go_at_call 114; refine (h_hasBlock (R.drewN _) _).mono ?_; rintro e w' ⟨rfl, n2, rfl⟩; rw [HB.out]))
   go_ret
   exact ⟨rfl, _, rfl⟩
theorem h_objects (h : SH w b q m) (i : Int) :
   Calls Tryz.prog 90 #[.pointer (some ⟨b.g, 0, none⟩), .int .i64 i] w (RowP w.heap.size w (m.objL i)) := by
 have hl := h.inv.len64
 have hst := h
 obtain ⟨r, R, A, _⟩ := h
 have hbl := A.bl
 rcases hb : inB m.bl.length i
 · have e : m.objL i = [] := by simp [HM.objL, hb]
   rw [e]
   have HB : Hid (inB r.bl.length i = false) := by rw [hbl]; exact hb
   clear hb e
   go_enter Tryz.func90, Tryz.ntmps90
   go_wp2_with (first | (go_at_call 55; refine (h_made R).mono ?_; rintro e w' ⟨rfl, n1, rfl⟩) | (go_at_call 114; refine (h_hasBlock (R.drewN _) _).mono ?_; rintro e w' ⟨rfl, n2, rfl⟩; rw [HB.out]))
   go_ret
   exact ⟨_, rfl, ⟨rfl, .inl ⟨rfl, rfl⟩⟩, below_drewN (Below.refl _ _) _⟩
 · have h0 := of_decide_eq_true hb
   obtain ⟨k, rfl⟩ : ∃ k : Nat, i = (k : Int) := ⟨i.toNat, by omega⟩
   have e : m.objL (k : Int) = fpL m (k * 32) 32 := by simp [HM.objL, hb]
   rw [e]
   have HB : Hid (inB r.bl.length (k : Int) = true) := by rw [hbl]; exact hb
   have hk : k ≤ 64 := by omega
   have HFP : Hid (∀ n, Calls Tryz.prog 154 #[.pointer (some ⟨b.g, 0, none⟩), .int .i64 ((k : Int) * 32), .int .i64 (((k : Int) + 1) * 32)] (w.drewN n) (RowP w.heap.size w (fpL m (k * 32) 32))) := fun n => by
     have := h_first (hst.drewN n) (k * 32) 32 (by omega)
     rw [show (((k * 32 : Nat) : Int)) = (k : Int) * 32 by omega, show ((k : Int) * 32 + ((32 : Nat) : Int)) = ((k : Int) + 1) * 32 by omega] at this
     refine this.mono ?_
     rintro e w' ⟨v, h1, h2, h3⟩
     exact ⟨v, h1, h2, (below_drewN (Below.refl _ w) n).trans h3⟩
   clear hb e h0
   go_enter Tryz.func90, Tryz.ntmps90
   go_wp2_with (first | (go_at_call 55; refine (h_made R).mono ?_; rintro e w' ⟨rfl, n1, rfl⟩) | (go_at_call 114; refine (h_hasBlock (R.drewN _) _).mono ?_; rintro e w' ⟨rfl, n2, rfl⟩; rw [HB.out]) | (go_at_call 154; refine (HFP.out _).mono ?_; rintro e w3 ⟨v3, rfl, own, bel⟩; have HO := hid own; have HBE := hid bel; clear own bel))
   go_ret
   exact ⟨_, rfl, HO.out, HBE.out⟩
def HM.allL (m : HM) : List Int := fpL m 0 (32 * m.bl.length)
theorem h_all (h : SH w b q m) :
   Calls Tryz.prog 86 #[.pointer (some ⟨b.g, 0, none⟩)] w (RowP w.heap.size w m.allL) := by
 have hl := h.inv.len64
 have hst := h
 obtain ⟨r, R, A, _⟩ := h
 have hbl := A.bl
 have hpl := R.pl
 have hc2 := R.c2
 have HPL : Hid ((r.ps.length : Int) = 0 + ((32 * m.bl.length : Nat) : Int)) := by show _ = _; rw [← hbl]; omega
 have HFP : Hid (∀ n, Calls Tryz.prog 154 #[.pointer (some ⟨b.g, 0, none⟩), .int .i64 0, .int .i64 (r.ps.length : Int)] (w.drewN n) (RowP w.heap.size w m.allL)) := fun n => by
   have := h_first (hst.drewN n) 0 (32 * m.bl.length) (by omega)
   rw [HPL.out]
   refine this.mono ?_
   rintro e w' ⟨v, h1, h2, h3⟩
   exact ⟨v, h1, h2, (below_drewN (Below.refl _ w) n).trans h3⟩
 clear hpl hbl
 go_enter Tryz.func86, Tryz.ntmps86
 go_wp2_with (first | (go_at_call 55; refine (h_made R).mono ?_; rintro e w' ⟨rfl, n1, rfl⟩) | (go_at_call 151; refine (entries_any (R.drewN _).TP).mono ?_; rintro e w' ⟨rfl, n2, rfl⟩) | (go_at_call 154; refine (HFP.out _).mono ?_; rintro e w3 ⟨v3, rfl, own, bel⟩; have HO := hid own; have HBE := hid bel; clear own bel))
 go_ret
 exact ⟨_, rfl, HO.out, HBE.out⟩
def HM.wordV (m : HM) (a : Int) : Int := if inB m.n a then (match m.ob (m.own a.toNat) with | some o => o.word (a.toNat - m.own a.toNat) | none => 0) else 0
theorem h_word (h : SH w b q m) (a : Int) :
   Calls Tryz.prog 46 #[.pointer (some ⟨b.g, 0, none⟩), .int .i64 a] w fun e w' => e = .returned (.tuple #[.int .i64 (m.wordV a), .int .i64 (if inB m.n a then 0 else 1)]) ∧ ∃ n, w' = w.drewN n := by
 have hnb := h.inv.n_bd
 obtain ⟨r, R, A, _⟩ := h
 have hwl := A.wl R
 rcases hb : inB m.n a
 · have e : m.wordV a = 0 := by simp [HM.wordV, hb]
   rw [e, if_neg (by decide)]
   have HB : Hid (inB r.ws.length a = false) := by rw [hwl]; exact hb
   clear hb e hwl
   go_enter Tryz.func46, Tryz.ntmps46
   go_wp2_with (first | (go_at_call 55; refine (h_made R).mono ?_; rintro e w' ⟨rfl, n1, rfl⟩) | (go_at_call 122; refine (h_hasWord (R.drewN _) _).mono ?_; rintro e w' ⟨rfl, n2, rfl⟩; rw [HB.out]))
   go_ret2
   exact ⟨rfl, _, rfl⟩
 · have h0 := of_decide_eq_true hb
   obtain ⟨k, rfl⟩ : ∃ k : Nat, a = (k : Int) := ⟨a.toNat, by omega⟩
   have hk : k < r.ws.length := by rw [hwl]; omega
   have e : m.wordV (k : Int) = r.ws.getD k 0 := by
     unfold HM.wordV
     rw [hb, if_pos rfl, Int.toNat_natCast]
     rcases own_cases A.inv k with ⟨a0, o, h0, h1, h2, h3⟩ | ⟨h1, h2⟩
     · rw [h3, h0]
       have := A.rep.w_ob _ _ h0 (k - a0) (by omega)
       rw [show a0 + (k - a0) = k by omega] at this
       exact this.symm
     · have := A.rep.w_gap k h1
       rw [this, h2]
       rcases hz : m.ob 0 with _ | o
       · rfl
       · have := A.inv.lo hz
         omega
   rw [e, if_pos rfl]
   have HB : Hid (inB r.ws.length (k : Int) = true) := by rw [hwl]; exact hb
   have hc := R.c1
   have hs := R.word hk
   have hl : r.ws.length ≤ 4096 := by omega
   generalize r.ws.getD k 0 = x at hs ⊢
   clear hb e hwl h0
   go_enter Tryz.func46, Tryz.ntmps46
   go_wp2_with (first | (go_at_call 55; refine (h_made R).mono ?_; rintro e w' ⟨rfl, n1, rfl⟩) | (go_at_call 122; refine (h_hasWord (R.drewN _) _).mono ?_; rintro e w' ⟨rfl, n2, rfl⟩; rw [HB.out]))
   go_ret2
   exact ⟨rfl, _, rfl⟩
end
def gapAdd (rs : List (Nat × Nat)) (f e : Nat) : List (Nat × Nat) := if f = e then rs else rs ++ [(f, e - f)]
theorem gapAdd_le (rs : List (Nat × Nat)) (f e : Nat) : (gapAdd rs f e).length ≤ rs.length + 1 := by unfold gapAdd; split <;> simp
def HM.wdAt (m : HM) (a : Nat) : Nat := match m.ob a with | some o => o.wd | none => 0
def gpN (m : HM) (l : List Int) (at0 : Nat) : Nat → List (Nat × Nat) × Nat
 | 0 => ([], at0)
 | k + 1 => (gapAdd (gpN m l at0 k).1 (gpN m l at0 k).2 (l.getD k 0).toNat, (l.getD k 0).toNat + m.wdAt (l.getD k 0).toNat)
theorem gpN_le (m : HM) (l : List Int) (at0 k : Nat) : (gpN m l at0 k).1.length ≤ k := by
 induction k with
 | zero => exact Nat.le_refl _
 | succ k ih => have := gapAdd_le (gpN m l at0 k).1 (gpN m l at0 k).2 (l.getD k 0).toNat; show (gapAdd _ _ _).length ≤ _; omega
def HM.gapL (m : HM) (i : Int) : List (Nat × Nat) :=
 if inB m.bl.length i = true ∧ m.st i.toNat = 1 then gapAdd (gpN m (m.objL i) (64 * i.toNat) (m.objL i).length).1 (gpN m (m.objL i) (64 * i.toNat) (m.objL i).length).2 (64 * (i.toNat + 1)) else []
section
variable {w w' : World} {b : HB} {r : RM} {m : HM} {q : Nat}
theorem objL_at {k i : Nat} (hk : k < m.bl.length) (hi : i < (m.objL (k : Int)).length) : ∃ (a : Nat) (o : Ob), (m.objL (k : Int)).getD i 0 = (a : Int) ∧ m.ob a = some o ∧ 64 * k ≤ a ∧ a < 64 * (k + 1) := by
 have hb : inB m.bl.length (k : Int) = true := decide_eq_true ⟨by omega, by omega⟩
 have e : m.objL (k : Int) = fpL m (k * 32) 32 := by simp [HM.objL, hb]
 rw [e] at hi ⊢
 have hm : (fpL m (k * 32) 32).getD i 0 ∈ fpL m (k * 32) 32 := by
   rw [List.getD_eq_getElem?_getD, List.getElem?_eq_getElem hi]
   exact List.getElem_mem hi
 obtain ⟨j, h1, h2, h3⟩ := (fpL_mem _ _ _ _).1 hm
 obtain ⟨o, ho⟩ := Option.isSome_iff_exists.1 h3
 exact ⟨2 * (k * 32 + j), o, h2, ho, by omega, by omega⟩
theorem objL_lt {k i j : Nat} (hk : k < m.bl.length) (hi : i < j) (hj : j < (m.objL (k : Int)).length) : (m.objL (k : Int)).getD i 0 < (m.objL (k : Int)).getD j 0 := by
 have hb : inB m.bl.length (k : Int) = true := decide_eq_true ⟨by omega, by omega⟩
 have e : m.objL (k : Int) = fpL m (k * 32) 32 := by simp [HM.objL, hb]
 rw [e] at hj ⊢
 have := List.pairwise_iff_getElem.1 (fpL_sorted m (k * 32) 32) i j (by omega) hj hi
 rw [List.getD_eq_getElem?_getD, List.getD_eq_getElem?_getD, List.getElem?_eq_getElem (by omega), List.getElem?_eq_getElem hj]
 exact this
theorem gpN_before (I : m.Inv) {k i : Nat} (hk : k < m.bl.length) (hi : i < (m.objL (k : Int)).length) : (gpN m (m.objL (k : Int)) (64 * k) i).2 ≤ ((m.objL (k : Int)).getD i 0).toNat := by
 obtain ⟨a, o, e, ho, h1, h2⟩ := objL_at hk hi
 rcases i with _ | i
 · show 64 * k ≤ _
   rw [e]; simp; omega
 · obtain ⟨a', o', e', ho', h1', h2'⟩ := objL_at (i := i) hk (by omega)
   have hlt := objL_lt hk (Nat.lt_succ_self i) hi
   show ((m.objL (k : Int)).getD i 0).toNat + m.wdAt ((m.objL (k : Int)).getD i 0).toNat ≤ _
   rw [e, e'] at *
   simp only [Int.toNat_natCast]
   have := I.apart _ _ _ _ ho' ho (by omega)
   unfold HM.wdAt
   rw [ho']
   exact this
theorem gpN_end (I : m.Inv) {k : Nat} (hk : k < m.bl.length) (hst : m.st k = 1) : (gpN m (m.objL (k : Int)) (64 * k) (m.objL (k : Int)).length).2 ≤ 64 * (k + 1) := by
 rcases hn : (m.objL (k : Int)).length with _ | n
 · show 64 * k ≤ _
   omega
 · obtain ⟨a, o, e, ho, h1, h2⟩ := objL_at (i := n) hk (by omega)
   show ((m.objL (k : Int)).getD n 0).toNat + m.wdAt ((m.objL (k : Int)).getD n 0).toNat ≤ _
   rw [e]
   simp only [Int.toNat_natCast]
   unfold HM.wdAt
   rw [ho]
   simp only
   have hs := I.lie _ _ ho
   unfold suitB at hs
   have hak : a / 64 = k := by omega
   rw [hak] at hs
   unfold HM.st at hst
   split at hs
   · have := of_decide_eq_true hs
     omega
   · have := of_decide_eq_true hs
     omega
theorem h_withGap {B : Nat} {v : Value} {rs : List (Nat × Nat)} {f e : Nat} (own : w.ownsRow B 76 2 v rs.length (rcells rs)) (hB : B ≤ w.heap.size) (hf : f ≤ e) (he : e ≤ 100000) (hl : rs.length ≤ 10000) :
   Calls Tryz.prog 121 #[v, .int .i64 (f : Int), .int .i64 (e : Int)] w (Grows B w (gapAdd rs f e)) := by
 by_cases hfe : f = e
 · have e1 : gapAdd rs f e = rs := by simp [gapAdd, hfe]
   rw [e1]
   have t : ((f : Int) == (e : Int)) = true := beq_iff_eq.2 (by omega)
   have HO := hid own
   clear hfe e1 own
   go_enter Tryz.func121, Tryz.ntmps121
   go_wp2
   go_ret
   exact ⟨_, rfl, HO.out, Below.refl _ _⟩
 · have e1 : gapAdd rs f e = rs ++ [(f, e - f)] := by simp [gapAdd, hfe]
   rw [e1]
   obtain ⟨i0, hi0, hz0, hz1, hz2⟩ := info_parts infoRun
   have t : ((f : Int) == (e : Int)) = false := beq_eq_false_iff_ne.2 (by omega)
   have OWN := hid own
   have HN : Hid _ := run_news w (f : Int) ((e : Int) - (f : Int)) 0
   have NONE := run_news_one (f : Int) ((e : Int) - (f : Int))
   have HZ : Hid ((e : Int) - (f : Int) = ((e - f : Nat) : Int)) := by show _ = _; omega
   clear own hfe e1
   go_enter Tryz.func121, Tryz.ntmps121
   go_wp2_with (at_builtin; refine wpList_append_own _ rfl (.tmp 11) (.tmp 17) 73 rfl B 76 i0 (.agg #[.int .i64 0, .int .i64 0]) 2 16 Tryz.underlying73 hi0 hz0 hz1 hz2 rfl (by decide) _ _ _ rfl (OWN.out.alloc _) ⟨w.heap.size, 0, none⟩ 1 1 [.int .i64 (f : Int), .int .i64 ((e : Int) - (f : Int))] rfl rfl HN.out NONE (by unfold maxLen; omega) (by omega) (by simp; omega) ?_; intro v' w1 hown' hgr _)
   have HO := hid hown'
   have HG := hid hgr
   clear hown' hgr
   go_wp2
   go_ret
   have h1 := HO.out
   have h2 := HG.out
   rw [HZ.out] at h1 h2
   exact grows_end (n := 0) hB rfl OWN.out h1 h2
end
section
variable {w w' : World} {b : HB} {r : RM} {m : HM} {q : Nat}
theorem SH.size_at (h : SH w b q m) {a : Nat} {o : Ob} (ho : m.ob a = some o) :
   Calls Tryz.prog 116 #[.pointer (some ⟨b.g, 0, none⟩), .int .i64 (a : Int)] w fun e w' => e = .returned (.int .i64 (o.wd : Int)) ∧ Kp [] w w' := by
 obtain ⟨r, R, A, _⟩ := h
 have hok := A.inv.ok _ _ ho
 have hhi := A.inv.hi ho
 have hw := hok.wd_bd
 exact h_size R a o.refs o.data o.kind (by rw [A.wl R]; omega) hok.vld (A.w1 ho)
theorem h_gaps (h : SH w b q m) (i : Int) :
   Calls Tryz.prog 45 #[.pointer (some ⟨b.g, 0, none⟩), .int .i64 i] w (Grows w.heap.size w (m.gapL i)) := by
 have I := h.inv
 have hl64 := I.len64
 by_cases hb : inB m.bl.length i = true ∧ m.st i.toNat = 1
 · obtain ⟨k, rfl⟩ : ∃ k : Nat, i = (k : Int) := ⟨i.toNat, by have := of_decide_eq_true hb.1; omega⟩
   rw [Int.toNat_natCast] at hb
   have hk : k < m.bl.length := by have := of_decide_eq_true hb.1; omega
   have hst : (if inB m.bl.length (k : Int) = true then (m.st ((k : Int).toNat) : Int) else -1) = 1 := by rw [if_pos hb.1, Int.toNat_natCast, hb.2]; rfl
   have hgl : m.gapL (k : Int) = gapAdd (gpN m (m.objL (k : Int)) (64 * k) (m.objL (k : Int)).length).1 (gpN m (m.objL (k : Int)) (64 * k) (m.objL (k : Int)).length).2 (64 * (k + 1)) := by
     unfold HM.gapL
     rw [Int.toNat_natCast, if_pos ⟨hb.1, hb.2⟩]
   rw [hgl]
   have HSTV := hid hst
   have hend := gpN_end I hk hb.2
   have HEND := hid hend
   have hol : (m.objL (k : Int)).length ≤ 32 := by
     simp only [HM.objL, hb.1, if_true]
     exact fpL_le _ _ _
   have hk64 : k ≤ 64 := by omega
   have HBF := hid (fun i (hi : i < (m.objL (k : Int)).length) => gpN_before I hk hi)
   have HOA := hid (fun i (hi : i < (m.objL (k : Int)).length) => objL_at (m := m) (i := i) hk hi)
   have HLE := hid (fun j => gpN_le m (m.objL (k : Int)) (64 * k) j)
   have HSIZ := hid (fun a o (ho : m.ob a = some o) => (⟨I.hi ho, (I.ok _ _ ho).wd_bd⟩ : a + o.wd ≤ m.n ∧ _))
   have hmn : m.n ≤ 4096 := I.n_bd.2
   have HLT := hid h.lt
   generalize hzs : m.objL (k : Int) = zs at HEND HBF HOA HLE hol ⊢
   have HZS := hid hzs
   clear hb hst hgl hend hzs
   go_enter Tryz.func45, Tryz.ntmps45
   go_wp2_with (go_at_call 41; refine (h_state h _).mono ?_; rintro e w' ⟨rfl, n1, rfl⟩; rw [HSTV.out])
   refine (h_objects (h.drewN _) _).mono ?_
   rintro e w3 ⟨v3, rfl, own3, bel3⟩
   rw [HZS.out] at own3
   have hbel : Below w.heap.size w w3 := (below_drewN (Below.refl _ w) n1).trans bel3
   have HB3 := hid hbel
   have HF3 := hid (FarI.of_own own3)
   obtain ⟨A3, cap3, rfl, hc3a, hc3b, _⟩ := FarI.of_own own3
   clear own3 bel3 hbel
   unfold maxLen at hc3b
   go_wp2
   go_loopw [5, 6, 19] (fun s a c wr => ∃ j : Nat, j ≤ zs.length ∧ c = .int .i64 (j : Int) ∧ a = .int .i64 ((gpN m zs (64 * k) j).2 : Int) ∧ wr.ownsRow w3.heap.size 76 2 s (gpN m zs (64 * k) j).1.length (rcells (gpN m zs (64 * k) j).1) ∧ Below w3.heap.size w3 wr) (fun _ _ c _ => zs.length - (intOf c).toNat)
   case atStart => exact ⟨0, by omega, rfl, by show _ = Value.int _ ((64 * k : Nat) : Int); congr 1; omega, ⟨rfl, .inl ⟨rfl, rfl⟩⟩, Below.refl _ _⟩
   case round =>
     obtain ⟨j, hj, rfl, rfl, own, bel⟩ := hrel
     have HO := hid own
     have HBE := hid bel
     have S4 : SH wr b q m := h.below (HB3.out.trans (below_mono bel HB3.out.size)) HLT.out
     have F4 := HF3.out.below bel
     clear own bel
     by_cases hlt : j < zs.length
     · obtain ⟨g, rfl, hg, hcell⟩ := F4.at_ j hlt
       obtain ⟨a, o, ha, ho, ha1, ha2⟩ := HOA.out j hlt
       have hbf := HBF.out j hlt
       have hle := HLE.out j
       obtain ⟨hs1, hs2⟩ := HSIZ.out a o ho
       rw [ha] at hbf hcell
       rw [Int.toNat_natCast] at hbf
       have hstep : gpN m zs (64 * k) (j + 1) = (gapAdd (gpN m zs (64 * k) j).1 (gpN m zs (64 * k) j).2 a, a + o.wd) := by
         show (gapAdd _ _ (zs.getD j 0).toNat, (zs.getD j 0).toNat + m.wdAt (zs.getD j 0).toNat) = _
         rw [ha, Int.toNat_natCast]
         unfold HM.wdAt
         rw [ho]
       have HSTEP := hid hstep
       have HHO := hid ho
       have HS4 := hid S4
       have hw218 : o.wd ≤ 218 := hs2.2.1
       generalize (gpN m zs (64 * k) j).2 = at1 at hbf HSTEP HO ⊢
       generalize (gpN m zs (64 * k) j).1 = rs1 at hle HSTEP HO
       clear F4 ha hs1 hs2 hstep ho S4
       go_wp2_with (first
         | (go_at_call 121; refine (h_withGap HO.out HBE.out.size hbf (by omega) (by omega)).mono ?_; rintro e w5 ⟨v5, rfl, own5, bel5⟩; have HO5 := hid own5; have HB5 := hid bel5; have S5 := hid (HS4.out.below (below_mono bel5 (Nat.le_trans HB3.out.size (Nat.le_refl _))) HLT.out); clear own5 bel5)
         | (go_at_call 116; refine (S5.out.size_at HHO.out).mono ?_; rintro e w6 ⟨rfl, K6⟩; have HK6 := hid K6; clear K6))
       go_roundw
       case rel =>
         have q1 := HSTEP.out
         have q2 := own_kp0 HO5.out HK6.out
         have q3 := HBE.out.trans (HB5.out.trans (HK6.out.below (HBE.out.trans HB5.out).size (by simp)))
         exact ⟨j + 1, by omega, by go_num, by rw [q1]; go_num, by rw [q1]; exact q2, q3⟩
       case measure => simp [intOf]; omega
     · obtain rfl : j = zs.length := by omega
       have hle := HLE.out zs.length
       have hend := HEND.out
       generalize h1 : (gpN m zs (64 * k) zs.length).2 = at1 at hend HO ⊢
       generalize h2 : (gpN m zs (64 * k) zs.length).1 = rs1 at hle HO ⊢
       have HA1 := hid h1
       have HR1 := hid h2
       clear F4 S4 h1 h2
       go_wp2_with (fail)
       rw [show ((k : Int) + 1) * 64 = ((64 * (k + 1) : Nat) : Int) by omega]
       refine (h_withGap HO.out HBE.out.size hend (by omega) (by omega)).mono ?_
       rintro e w5 ⟨v5, rfl, own5, bel5⟩
       have HO5 := hid own5
       have HB5 := hid bel5
       clear own5 bel5
       go_wp2
       go_ret
       rw [HA1.out, HR1.out]
       exact ⟨_, rfl, own_base HO5.out HB3.out.size, HB3.out.trans (below_mono (HBE.out.trans HB5.out) HB3.out.size)⟩
 · have e : m.gapL i = [] := by unfold HM.gapL; rw [if_neg hb]
   rw [e]
   have hst : ((if inB m.bl.length i = true then (m.st i.toNat : Int) else -1) != 1) = true := by
     rw [bne_iff_ne]
     split
     · rename_i h1
       have : ¬ m.st i.toNat = 1 := fun h2 => hb ⟨h1, h2⟩
       omega
     · omega
   generalize hx : (if inB m.bl.length i = true then (m.st i.toNat : Int) else -1) = x at hst
   have HX := hid hx
   clear hb e hx
   go_enter Tryz.func45, Tryz.ntmps45
   go_wp2_with (go_at_call 41; refine (h_state h _).mono ?_; rintro e w' ⟨rfl, n1, rfl⟩; rw [HX.out])
   go_ret
   exact ⟨_, rfl, ⟨rfl, .inl ⟨rfl, rfl⟩⟩, below_drewN (Below.refl _ _) _⟩
end
end Go.Proofs.YthndilllnneijaaGreat
