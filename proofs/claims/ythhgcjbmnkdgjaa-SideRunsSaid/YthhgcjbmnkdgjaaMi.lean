/-
  The walk of the law SideRuns. Conditions: its slice reads as calls.
-/
import Derived.Test.YthhgcjbmnkdgjaaMb
import Derived.Test.YthhgcjbmnkdgjaaSa
import Derived.Test.YthhgcjbmnkdgjaaMh
namespace Go.Proofs.Ythhgcjbmnkdgjaa
set_option linter.unusedVariables false
set_option linter.unusedSimpArgs false
open Go.RowKit Go.Deep

theorem info4 : (Try.prog.info? 4).map (fun i => (i.zero, i.size, i.bytes)) = some (some (.bool false), 1, 1) := by kernel_rfl
/-- Bools, one for each number below some one. -/
def bcells (f : Nat → Bool) (n : Nat) : Array Value := ((List.range n).map fun i => Value.bool (f i)).toArray
theorem bcells_get {f : Nat → Bool} {n i : Nat} (h : i < n) : (bcells f n)[i]? = some (.bool (f i)) := by
  unfold bcells
  simp [h]
theorem bcells_set {f : Nat → Bool} {n i : Nat} : (bcells f n).setIfInBounds i (.bool true) = bcells (fun j => f j || decide (j = i)) n := by
  unfold bcells
  rw [List.setIfInBounds_toArray]
  congr 1
  apply List.ext_getElem (by simp)
  intro j h1 h2
  simp only [List.getElem_set, List.getElem_map, List.getElem_range]
  by_cases h : i = j
  · subst h; simp
  · rw [if_neg h, decide_eq_false (show ¬ j = i from fun e => h e.symm), Bool.or_false]
theorem made_b (m : Nat) : madeCells #[.bool false] m = bcells (fun _ => false) m := by
  apply Array.toList_inj.1
  rw [toList_madeCells_one]
  unfold bcells
  simp
  apply List.ext_getElem (by simp)
  intro j h1 h2
  simp
theorem bcells_congr {f f' : Nat → Bool} {n : Nat} (h : ∀ i, i < n → f i = f' i) : bcells f n = bcells f' n := by
  unfold bcells
  congr 1
  apply List.ext_getElem (by simp)
  intro j h1 h2
  simp at h1
  simp [h j h1]

section
variable {w W W' : World} {g h g' h' wd gi n : Nat} {L M : List Nat} {rs : List (Nat × Nat)} {f : Nat → Bool} {v : Value}
structure Rn (w W : World) (g h gi wd : Nat) (L : List Nat) (v : Value) (rs : List (Nat × Nat)) (f : Nat → Bool) (n : Nat) : Prop where
  tab : STab W g h wd L
  runs : RunsFar W (gi + 1) v rs
  inb : Blk W gi 4 (bcells f n)
  kp : Kp [] w W
  new : w.heap.size ≤ gi
theorem Rn.next (r : Rn w W g h gi wd L v rs f n) (k : Kp [] W W') : Rn w W' g h gi wd L v rs f n :=
  ⟨r.tab.kp k (by simp) (by simp), r.runs.kp k (by simp), r.inb.kp k (by simp), r.kp.chain k, r.new⟩
theorem Rn.drewN (r : Rn w W g h gi wd L v rs f n) (m : Nat) : Rn w (W.drewN m) g h gi wd L v rs f n := r.next (Kp.draw _ _)
theorem Rn.mark (r : Rn w W g h gi wd L v rs f n) (i : Nat) : Rn w (W.setCell ⟨gi, i, none⟩ (.bool true)) g h gi wd L v rs (fun j => f j || decide (j = i)) n := by
  have k : Kp [gi] W (W.setCell ⟨gi, i, none⟩ (.bool true)) := Kp.cell W ⟨gi, i, none⟩ (.bool true)
  have t1 := r.tab.blks
  refine ⟨r.tab.kp k ?_ ?_, r.runs.kp k (by simp), ?_, r.kp.trans k (by simp) (by simpa using r.new), r.new⟩
  · simpa using blk_ne t1.1 ⟨_, r.inb⟩ (by decide)
  · simpa using blk_ne t1.2 ⟨_, r.inb⟩ (by decide)
  · rw [← bcells_set]
    exact r.inb.set_ i _
theorem Rn.start {w1 W : World} (T : STab w1 g h wd L) (K : Kp [] w w1) (gr : Grows (w1.alloc (.cells (madeCells #[.bool false] n) 4)).heap.size (w1.alloc (.cells (madeCells #[.bool false] n) 4)) rs (.returned v) W) :
    Rn w W g h w1.heap.size wd L v rs (fun _ => false) n := by
  obtain ⟨v', e, own, bel⟩ := gr
  injection e with e
  subst e
  have k : Kp [] (w1.alloc (.cells (madeCells #[.bool false] n) 4)) W := Kp.of_below bel
  have hb := (Blk.new w1 4 (madeCells #[.bool false] n)).kp k (by simp)
  rw [made_b] at hb
  refine ⟨(T.kp (Kp.new _ _) (by simp) (by simp)).kp k (by simp) (by simp), ?_, hb, (K.chain (Kp.new _ _)).chain k, K.size⟩
  have := RunsFar.of_own own
  simpa using this

theorem quiet_more {P : Program} {k : FuncId} {xs : Array Value} {U : World} {a b : Nat} {r : Value} (c : Calls P k xs (U.drewN (a + b)) fun e U' => e = .returned r ∧ ∃ j, U' = (U.drewN (a + b)).drewN j) :
    Calls P k xs (U.drewN (a + b)) fun e U' => e = .returned r ∧ ∃ j, U' = U.drewN (a + j) := by
  refine c.mono ?_
  rintro e U' ⟨he, j, rfl⟩
  exact ⟨he, b + j, by rw [World.drewN_drewN, Nat.add_assoc]⟩
theorem Rn.congr {f' : Nat → Bool} (r : Rn w W g h gi wd L v rs f n) (e : ∀ i, i < n → f i = f' i) : Rn w W g h gi wd L v rs f' n :=
  ⟨r.tab, r.runs, by rw [← bcells_congr e]; exact r.inb, r.kp, r.new⟩
/-- The entries up to some one of a run, beside those before. -/
def upF (f : Nat → Bool) (s q : Nat) : Nat → Bool := fun j => f j || decide (s ≤ j ∧ j < q)
/-- What is known inside a run: the list, and the box of the run. -/
structure Rx (w W : World) (g h gi wd : Nat) (L : List Nat) (v : Value) (rs : List (Nat × Nat)) (f : Nat → Bool) (n b s z : Nat) : Prop where
  r : Rn w W g h gi wd L v rs f n
  box : Blk W b 62 #[.int .i64 (s : Int), .int .i64 (z : Int)]
theorem Rx.drewN {b s z : Nat} (x : Rx w W g h gi wd L v rs f n b s z) (m : Nat) : Rx w (W.drewN m) g h gi wd L v rs f n b s z := ⟨x.r.drewN m, x.box⟩
theorem Rx.start {s z : Nat} (r : Rn w W g h gi wd L v rs f n) : Rx w (W.alloc (.cells #[.int .i64 (s : Int), .int .i64 (z : Int)] 62)) g h gi wd L v rs (upF f s s) n W.heap.size s z :=
  ⟨(r.next (Kp.new W _)).congr fun i _ => by unfold upF; rw [decide_eq_false (by omega), Bool.or_false], Blk.new W 62 _⟩
theorem Rx.mark {b s z q : Nat} (x : Rx w W g h gi wd L v rs (upF f s q) n b s z) (hq : s ≤ q) : Rx w (W.setCell ⟨gi, q, none⟩ (.bool true)) g h gi wd L v rs (upF f s (q + 1)) n b s z := by
  refine ⟨(x.r.mark q).congr fun i _ => ?_, ?_⟩
  · unfold upF
    rw [Bool.or_assoc]
    congr 1
    rw [← Bool.decide_or, decide_eq_decide]
    omega
  · have k : Kp [gi] W (W.setCell ⟨gi, q, none⟩ (.bool true)) := Kp.cell W ⟨gi, q, none⟩ (.bool true)
    exact x.box.kp k (by simpa using x.box.ne_ x.r.inb (by decide))
theorem take_snoc' {k s z : Nat} (h : rs[k]? = some (s, z)) : rs.take (k + 1) = rs.take k ++ [(s, z)] := by
  rw [List.take_add_one, h]; rfl
theorem cov_next {k s z : Nat} (h : rs[k]? = some (s, z)) (i : Nat) : upF (cov (rs.take k)) s (s + z) i = cov (rs.take (k + 1)) i := by
  rw [take_snoc' h, cov_append, cov_one]
  rfl
theorem sizes_next {k s z : Nat} (h : rs[k]? = some (s, z)) : sizes (rs.take (k + 1)) = sizes (rs.take k) + z := by
  rw [take_snoc' h, sizes_append]
  simp [sizes]
theorem sizes_take (rs : List (Nat × Nat)) (k : Nat) : sizes (rs.take k) ≤ sizes rs := by
  have := sizes_append (rs.take k) (rs.drop k)
  rw [List.take_append_drop] at this
  omega
set_option maxRecDepth 100000 in
set_option maxHeartbeats 1000000 in
theorem runs_great (n wd : Int) (A : Option Addr) (len cap : Nat) (v : Int) (hg : 80 < len) :
    Calls Try.prog 7 #[.int .i64 n, .int .i64 wd, .slice A len cap, .int .i64 v] w (TrueP w) := by
  go_enter Try.func7, Try.ntmps7
  go_wp2_with (first | (go_at_call 28; refine (made_nil_great _ _ _ _ _ hg).mono ?_; rintro e w1 ⟨rfl, K1⟩; have HK := hid K1; clear K1) | (go_at_call 13; refine (great_yes _ _ _ _ hg).mono ?_; rintro e w' ⟨rfl, n1, rfl⟩) | (go_at_call 14; refine (alive_ok _).mono ?_; rintro e w6 ⟨rfl, k6⟩; have HK6 := hid k6; clear k6))
  go_ret
  exact ⟨rfl, (HK.out.drewN _).chain HK6.out⟩
set_option maxRecDepth 100000 in
set_option maxHeartbeats 4000000 in
theorem runs_rest (n wd : Int) (A : Option Addr) (len cap : Nat) (v : Int) (hg : len ≤ 80) (hA : ActsAt w A len) :
    Calls Try.prog 7 #[.int .i64 n, .int .i64 wd, .slice A len cap, .int .i64 v] w (TrueP w) := by
  have HA := hid hA
  clear hA
  go_enter Try.func7, Try.ntmps7
  go_wp2_with (fail)
  refine (made_any _ _ _ _ _ HA.out).mono ?_
  rintro e w1 ⟨K1, rfl | ⟨g, h, g', h', wd', L, rfl, B, rfl, rfl, q1, q2, q3, q4⟩⟩
  · have HK := hid K1
    clear K1
    go_wp2_with (first | (go_at_call 13; refine (great_no _ _ _ _ hg).mono ?_; rintro e w' ⟨rfl, n1, rfl⟩) | (go_at_call 14; refine (alive_ok _).mono ?_; rintro e w6 ⟨rfl, k6⟩; have HK6 := hid k6; clear k6))
    go_ret
    exact ⟨rfl, (HK.out.drewN _).chain HK6.out⟩
  · have HT := hid B.1
    have HK := hid K1
    have hle := B.1.le
    clear K1 B q1 q2 q3 q4
    have hmk : ∀ W : World, (Instr.makeSlice 58 (.int .i64 (L.length : Int)) (.int .i64 (L.length : Int))).run Try.prog W =
        .ok (.slice (some ⟨W.heap.size, 0, none⟩) L.length L.length) (W.alloc (.cells (madeCells #[.bool false] L.length) 4)) := fun W =>
      run_make_row' (P := Try.prog) 58 4 (.bool false) 1 Try.underlying58 info4 rfl .i64 .i64 L.length (by omega) (by omega) W
    obtain ⟨rs, hrs⟩ : ∃ rs, rs = runsN (isV L v) L.length := ⟨_, rfl⟩
    have HRS := hid hrs
    clear hrs
    go_wp2_with (first | (go_at_call 13; refine (great_no _ _ _ _ hg).mono ?_; rintro e w' ⟨rfl, n1, rfl⟩) | (go_at_call 25; refine (entries_any (HT.out.drewN _)).mono ?_; rintro e w' ⟨rfl, n2, rfl⟩) | (go_at_call 33; refine (runs_any ((HT.out.drewN _).kp (Kp.new _ _) (by simp) (by simp)) v).mono ?_; rw [← HRS.out]; rintro e w3 gr; obtain ⟨v3, rfl, _⟩ := id gr; have HR := hid (Rn.start (HT.out.drewN _) (HK.out.drewN _) gr); clear gr))
    have hok := runsN_ok (isV L v) L.length
    rw [← HRS.out] at hok
    have hfc := runs_facts (isV L v) L.length
    rw [← HRS.out] at hfc
    have hrl : rs.length ≤ 4096 := Nat.le_trans hok.1 hle
    have FA := hid hok.2.1
    have FC := hid hfc
    have hsz : sizes rs ≤ 4096 := by
      rw [hfc.2.2]
      exact Nat.le_trans (cntN_le _ _) hle
    clear hok hfc HRS hmk
    obtain ⟨A3, c3, rfl, hA3⟩ := HR.out.runs
    clear hA3
    go_loopw [13, 14] (fun s c wr => ∃ (k : Nat) (q : Int), q = (k : Int) ∧ k ≤ rs.length ∧ c = .int .i64 q ∧ s = .int .i64 ((sizes (rs.take k) : Nat) : Int) ∧ Rn w wr g h w1.heap.size wd' L (.slice A3 rs.length c3) rs (cov (rs.take k)) L.length) (fun _ c _ => rs.length - (intOf c).toNat)
    case atStart => exact ⟨0, 0, rfl, by omega, rfl, rfl, HR.out⟩
    case round =>
      obtain ⟨k, q, hq, hk, rfl, rfl, R⟩ := hrel
      have HRk := hid R
      by_cases hlt : k < rs.length
      · obtain ⟨A4, c4, e4, hA4⟩ := R.runs
        injection e4 with e4 e5 e6
        subst e4 e6
        obtain ⟨gr, rfl, hB, b0, b1⟩ := hA4 k hlt
        have hmem : rs.getD k (0, 0) ∈ rs := by rw [List.getD_eq_getElem?_getD, List.getElem?_eq_getElem hlt]; exact List.getElem_mem hlt
        have hf := FA.out _ hmem
        have hgt : rs[k]? = some (rs.getD k (0, 0)) := by rw [List.getD_eq_getElem?_getD, List.getElem?_eq_getElem hlt]; rfl
        rcases hsz : rs.getD k (0, 0) with ⟨s, z⟩
        rw [hsz] at hf b0 b1 hgt
        simp only at hf b0 b1
        have HGT := hid hgt
        clear hsz hmem hgt R HR e5
        rcases k with _ | m
        · obtain rfl : q = 0 := by omega
          clear hA4 hq
          have HZ := hid (sizes_next HGT.out)
          have hs1 : sizes ([] : List (Nat × Nat)) ≤ 4096 := by decide
          have HB := hid (Rx.start (s := s) (z := z) HRk.out)
          have x1 : decide ((z : Int) < 1) = false := decide_eq_false (by omega)
          have x2 : decide ((s : Int) < 0) = false := decide_eq_false (by omega)
          have x3 : IntKind.i64.wrap ((s : Int) + (z : Int)) = (s : Int) + (z : Int) := IntWalk.i64_in _ (by omega)
          have x4 : decide ((L.length : Int) < (s : Int) + (z : Int)) = false := decide_eq_false (by omega)
          have n1 := cell_lt b0
          go_wp2
          go_quiet ((go_at_call 25; exact Calls.quiet_of (entries_any (HB.out.drewN _).r.tab)))
          clear x1 x2 x3 x4 b0 b1
          go_wp2
          go_loopw [16] (fun c w2 => ∃ q2 : Nat, s ≤ q2 ∧ q2 ≤ s + z ∧ c = .int .i64 (q2 : Int) ∧ Rx w w2 g h w1.heap.size wd' L (.slice (some ⟨gr, 0, none⟩) rs.length c3) rs (upF (cov (rs.take (0))) s q2) L.length wr.heap.size s z) (fun c _ => s + z - (intOf c).toNat)
          case atStart => exact ⟨s, by omega, by omega, rfl, HB.out.drewN _⟩
          case round =>
            obtain ⟨q2, i1, i2, rfl, X⟩ := hrel
            have HX := hid X
            have c0 := X.box.cell 0
            have c1 := X.box.cell 1
            by_cases hq2 : q2 < s + z
            · have m0 := X.r.inb.cell q2
              rw [bcells_get (show q2 < L.length by omega)] at m0
              have m1 := X.r.inb.frozen q2
              clear X
              go_wp2
              go_roundw
              case rel => exact ⟨q2 + 1, by omega, by omega, by go_num, HX.out.mark i1⟩
              case measure => simp [intOf]; omega
            · obtain rfl : q2 = s + z := by omega
              have HE := hid (HX.out.r.congr fun i _ => cov_next HGT.out i)
              clear X
              go_wp2
              go_roundw
              case rel => exact ⟨(0) + 1, _, by omega, by omega, rfl, by rw [HZ.out]; rw [List.take_zero]; go_num, HE.out⟩
              case measure => simp [intOf]; omega
        · obtain ⟨gr', e7, hB', d0, d1⟩ := hA4 m (by omega)
          injection e7 with e7
          injection e7 with e7
          subst e7
          obtain rfl : q = (m : Int) + 1 := by omega
          have hgm : rs[m]? = some (rs.getD m (0, 0)) := by rw [List.getD_eq_getElem?_getD, List.getElem?_eq_getElem (Nat.lt_of_succ_lt hlt)]; rfl
          have hsep := FC.out.1 m _ _ hgm HGT.out
          have hf0 := FA.out _ (List.mem_of_getElem? hgm)
          rcases hsz0 : rs.getD m (0, 0) with ⟨s0, z0⟩
          rw [hsz0] at hsep d0 d1 hf0
          simp only at hsep d0 d1 hf0
          clear hsz0 hgm hA4 hq
          have y1 : IntKind.i64.wrap ((s0 : Int) + (z0 : Int)) = (s0 : Int) + (z0 : Int) := IntWalk.i64_in _ (by omega)
          have y2 : decide ((s : Int) ≤ (s0 : Int) + (z0 : Int)) = false := decide_eq_false (by omega)
          have y3 : decide (0 < (m : Int) + 1) = true := decide_eq_true (by omega)
          have HZ := hid (sizes_next HGT.out)
          have hs1 : sizes (rs.take (m + 1)) ≤ 4096 := Nat.le_trans (sizes_take rs (m + 1)) hsz
          have HB := hid (Rx.start (s := s) (z := z) HRk.out)
          have x1 : decide ((z : Int) < 1) = false := decide_eq_false (by omega)
          have x2 : decide ((s : Int) < 0) = false := decide_eq_false (by omega)
          have x3 : IntKind.i64.wrap ((s : Int) + (z : Int)) = (s : Int) + (z : Int) := IntWalk.i64_in _ (by omega)
          have x4 : decide ((L.length : Int) < (s : Int) + (z : Int)) = false := decide_eq_false (by omega)
          have n1 := cell_lt b0
          go_wp2
          go_quiet ((go_at_call 25; exact Calls.quiet_of (entries_any (HB.out.drewN _).r.tab)))
          clear x1 x2 x3 x4 b0 b1 y1 y2 y3 d0 d1
          go_wp2
          go_loopw [16] (fun c w2 => ∃ q2 : Nat, s ≤ q2 ∧ q2 ≤ s + z ∧ c = .int .i64 (q2 : Int) ∧ Rx w w2 g h w1.heap.size wd' L (.slice (some ⟨gr, 0, none⟩) rs.length c3) rs (upF (cov (rs.take (m + 1))) s q2) L.length wr.heap.size s z) (fun c _ => s + z - (intOf c).toNat)
          case atStart => exact ⟨s, by omega, by omega, rfl, HB.out.drewN _⟩
          case round =>
            obtain ⟨q2, i1, i2, rfl, X⟩ := hrel
            have HX := hid X
            have c0 := X.box.cell 0
            have c1 := X.box.cell 1
            by_cases hq2 : q2 < s + z
            · have m0 := X.r.inb.cell q2
              rw [bcells_get (show q2 < L.length by omega)] at m0
              have m1 := X.r.inb.frozen q2
              clear X
              go_wp2
              go_roundw
              case rel => exact ⟨q2 + 1, by omega, by omega, by go_num, HX.out.mark i1⟩
              case measure => simp [intOf]; omega
            · obtain rfl : q2 = s + z := by omega
              have HE := hid (HX.out.r.congr fun i _ => cov_next HGT.out i)
              clear X
              go_wp2
              go_roundw
              case rel => exact ⟨(m + 1) + 1, _, by omega, by omega, rfl, by rw [HZ.out]; go_num, HE.out⟩
              case measure => simp [intOf]; omega
      · obtain rfl : k = rs.length := by omega
        clear HR R
        rw [List.take_length] at HRk ⊢
        have HS := hid FC.out.2.2
        have HC := hid FC.out.2.1
        obtain rfl : q = (rs.length : Int) := hq
        go_wp2
        go_loopw [17] (fun c w2 => ∃ (j m : Nat), j ≤ L.length ∧ c = .int .i64 (j : Int) ∧ w2 = wr.drewN m) (fun c _ => L.length - (intOf c).toNat)
        case atStart => exact ⟨0, 0, by omega, rfl, rfl⟩
        case round =>
          obtain ⟨j, m, hj, rfl, rfl⟩ := hrel
          by_cases hlt2 : j < L.length
          · have m0 := HRk.out.inb.cell j
            have hc := HC.out j
            rw [decide_eq_true hlt2, Bool.true_and] at hc
            rw [bcells_get hlt2, hc] at m0
            clear hc
            by_cases hv : ((ent L j : Nat) : Int) = v
            · rw [isV_yes hv] at m0
              have EK := hid ((getS_at (L := L) hlt2).trans hv)
              clear hv
              go_wp2
              go_quiet ((go_at_call 24; exact quiet_more (get_is EK.out (HRk.out.drewN _).tab)))
              go_wp2
              go_roundw
              case rel => exact ⟨j + 1, _, by omega, by go_num, rfl⟩
              case measure => simp [intOf]; omega
            · rw [isV_no hv] at m0
              have EK := hid (getS_at (L := L) hlt2)
              have hne : (((ent L j : Nat) : Int) == v) = false := beq_eq_false_iff_ne.2 hv
              clear hv
              go_wp2
              go_quiet ((go_at_call 24; exact quiet_more (get_is EK.out (HRk.out.drewN _).tab)))
              go_wp2
              go_roundw
              case rel => exact ⟨j + 1, _, by omega, by go_num, rfl⟩
              case measure => simp [intOf]; omega
          · obtain rfl : j = L.length := by omega
            go_wp2
            go_loopw [18, 19] (fun s c w2 => ∃ (u m : Nat), u ≤ 256 ∧ c = .int .i64 (u : Int) ∧ s = .int .i64 ((allN L u : Nat) : Int) ∧ w2 = wr.drewN m) (fun _ c _ => 256 - (intOf c).toNat)
            case atStart => exact ⟨0, _, by omega, rfl, rfl, rfl⟩
            case round =>
              obtain ⟨u, m2, hu, rfl, rfl, rfl⟩ := hrel
              have l1 := allN_le (L := L) u
              have l2 := cntN_le (isV L (u : Int)) L.length
              by_cases hlt3 : u < 256
              · have HN : Hid (allN L (u + 1) = allN L u + cntN (isV L (u : Int)) L.length) := rfl
                generalize allN L u = x at *
                go_wp2_with (go_at_call 34; refine (count_any (HRk.out.drewN _).tab _).mono ?_; rintro e w' ⟨rfl, n9, rfl⟩)
                go_roundw
                case rel => exact ⟨u + 1, _, by omega, by go_num, by rw [HN.out]; go_num, rfl⟩
                case measure => simp [intOf]; omega
              · obtain rfl : u = 256 := by omega
                have ha : allN L 256 = L.length := allN_all fun k => Nat.lt_of_lt_of_le (HRk.out.tab.lt k) HRk.out.tab.wd_ok.pow_le
                rw [ha]
                rw [HS.out]
                clear ha l1 l2
                go_wp2_with (first | (go_at_call 34; refine (count_any (HRk.out.drewN _).tab _).mono ?_; rintro e w' ⟨rfl, n9, rfl⟩) | (go_at_call 25; refine (entries_any (HRk.out.drewN _).tab).mono ?_; rintro e w' ⟨rfl, n10, rfl⟩) | (go_at_call 14; refine (alive_ok _).mono ?_; rintro e w6 ⟨rfl, k6⟩; have HK6 := hid k6; clear k6))
                go_ret
                exact ⟨rfl, (HRk.out.drewN _).kp.chain HK6.out⟩
theorem runs_ok (n wd : Int) (A : Option Addr) (len cap : Nat) (v : Int) (hA : ActsAt w A len) :
    Calls Try.prog 7 #[.int .i64 n, .int .i64 wd, .slice A len cap, .int .i64 v] w (TrueP w) := by
  by_cases hg : 80 < len
  · exact runs_great n wd A len cap v hg
  · exact runs_rest n wd A len cap v (by omega) hA
end
end Go.Proofs.Ythhgcjbmnkdgjaa
