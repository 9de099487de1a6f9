/-
  ModelTold's walk. Conditions: those that stand in each theorem.
-/
import Derived.Test.YtbiompmklijgoaaDoorPZi
namespace Go.Proofs.YtbiompmklijgoaaDoor
set_option linter.unusedVariables false
set_option linter.unusedSimpArgs false
open Go.RowKit Go.Deep Go.Maps

theorem act_sl (t : MT) (mu : Int) (x : MA) : (t.act mu x).1.sl = t.sl ∨ ∃ (m a : Nat) (y : Int), mu = (m : Int) ∧ x.a = (a : Int) ∧ m < t.n ∧ a < 16 ∧ (t.act mu x).1.sl = t.sl.set (m * 16 + a) y := by
  by_cases he : t.err mu x = 0
  · have e : t.act mu x = ((t.done mu.toNat x).1, (t.done mu.toNat x).2, 0) := by unfold MT.act; rw [if_pos he]
    have hM : t.hasM mu = true ∧ slotB x.a = true := by
      refine ⟨?_, ?_⟩
      · cases h : t.hasM mu
        · unfold MT.err at he; rw [if_pos h] at he; cases he
        · rfl
      · cases h : slotB x.a
        · unfold MT.err at he
          by_cases h1 : t.hasM mu = false
          · rw [if_pos h1] at he; cases he
          · rw [if_neg h1] at he
            by_cases h2 : x.k < 0
            · rw [if_pos h2] at he; cases he
            · rw [if_neg h2] at he
              by_cases h3 : 12 ≤ x.k
              · rw [if_pos h3] at he; cases he
              · rw [if_neg h3, if_pos h] at he; cases he
        · rfl
    have h1 := of_decide_eq_true hM.1
    have h2 := of_decide_eq_true hM.2
    obtain ⟨m, rfl⟩ : ∃ m : Nat, mu = (m : Int) := ⟨mu.toNat, by omega⟩
    obtain ⟨a, ha⟩ : ∃ a : Nat, x.a = (a : Int) := ⟨x.a.toNat, by omega⟩
    have key : (t.done m x).1.sl = t.sl ∨ ∃ y, (t.done m x).1.sl = t.sl.set (m * 16 + a) y := by
      unfold MT.done
      rw [ha, Int.toNat_natCast]
      have P : ∀ {c : Prop} [Decidable c] {p q : MT × ET}, (p.1.sl = t.sl ∨ ∃ y, p.1.sl = t.sl.set (m * 16 + a) y) → (q.1.sl = t.sl ∨ ∃ y, q.1.sl = t.sl.set (m * 16 + a) y) → ((if c then p else q).1.sl = t.sl ∨ ∃ y, (if c then p else q).1.sl = t.sl.set (m * 16 + a) y) := fun {c} _ {p q} hp hq => by
        by_cases h : c
        · rw [if_pos h]; exact hp
        · rw [if_neg h]; exact hq
      exact P (.inr ⟨_, rfl⟩) (P (.inr ⟨_, rfl⟩) (P (.inl rfl) (P (.inl rfl) (P (.inl rfl) (P (.inr ⟨_, rfl⟩) (P (.inr ⟨_, rfl⟩) (P (.inl rfl) (P (.inl rfl) (P (.inl rfl) (P (.inr ⟨_, rfl⟩) (.inl rfl)))))))))))
    rw [e]
    show (t.done ((m : Nat) : Int).toNat x).1.sl = _ ∨ _
    rw [Int.toNat_natCast]
    rcases key with h | ⟨y, h⟩
    · exact .inl h
    · exact .inr ⟨m, a, y, rfl, ha, by omega, by omega, h⟩
  · left
    unfold MT.act
    rw [if_neg he]
/-- A slot that an act changes is the one that it names. -/
theorem told_diff {t : MT} (ok : t.Ok) (mu : Int) (x : MA) (ok' : (t.act mu x).1.Ok) (hn : (t.act mu x).1.n = t.n) {i : Nat} (hi : i < 16 * t.n) (hd : (t.act mu x).1.roots.getD i 0 ≠ t.roots.getD i 0) :
    ((i / 16 : Nat) : Int) = mu ∧ ((i % 16 : Nat) : Int) = x.a ∧ i = mu.toNat * 16 + x.a.toNat := by
  have r1 : t.roots.getD i 0 = t.sl.getD i 0 := by
    unfold MT.roots
    rw [List.append_assoc]
    exact getD_app (by rw [ok.sl]; exact hi)
  have r2 : (t.act mu x).1.roots.getD i 0 = (t.act mu x).1.sl.getD i 0 := by
    unfold MT.roots
    rw [List.append_assoc]
    exact getD_app (by rw [ok'.sl, hn]; exact hi)
  rw [r1, r2] at hd
  rcases act_sl t mu x with h | ⟨m, a, y, rfl, ha, hm, ha16, h⟩
  · rw [h] at hd; exact absurd rfl hd
  · rw [h, getD_set] at hd
    by_cases hc : m * 16 + a = i ∧ i < t.sl.length
    · rw [ha]
      obtain ⟨rfl, _⟩ := hc
      refine ⟨by omega, by omega, by simp⟩
    · rw [if_neg hc] at hd
      exact absurd rfl hd
theorem act_n (t : MT) (mu : Int) (x : MA) : (t.act mu x).1.n = t.n := by
  unfold MT.act
  by_cases he : t.err mu x = 0
  · rw [if_pos he]
    show (t.done mu.toNat x).1.n = t.n
    unfold MT.done
    have P : ∀ {c : Prop} [Decidable c] {p q : MT × ET}, p.1.n = t.n → q.1.n = t.n → (if c then p else q).1.n = t.n := fun {c} _ {p q} hp hq => by
      by_cases h : c
      · rw [if_pos h]; exact hp
      · rw [if_neg h]; exact hq
    exact P rfl (P rfl (P rfl (P rfl (P rfl (P rfl (P rfl (P rfl (P rfl (P rfl (P rfl rfl))))))))))
  · rw [if_neg he]
section
variable {w w' W V : World} {g : Nat} {t t' : MT} {L : List Nat}
theorem Live.poke (h : Live W g t L) {x : Nat} (hx : x ∈ L) (h0 : 0 ≠ x) (k : Kp [x] W V) : Live V g t L := by
  obtain ⟨b, e, R, n⟩ := h.mr
  exact ⟨⟨b, e, R.kp k (fun y hy hm => by simp at hm; subst hm; exact n _ hx hy) (by simpa using h0), n⟩, fun y hy => Nat.lt_of_lt_of_le (h.lt y hy) k.size⟩
theorem KI.poke {v : Value} {zs : List Int} (h : KI v zs L W) {x : Nat} {T : TypeId} {cs : Array Value} (hb : Blk W x T cs) (hT : T ≠ 3) (k : Kp [x] W V) : KI v zs L V := by
  refine ⟨col_own_kp h.1 k (fun y hy hm => ?_), h.2⟩
  simp at hm
  subst hm
  rcases h.1.2 with ⟨hv, _⟩ | ⟨g', cap, cur, hv, _, hb', _⟩
  · rw [hv] at hy; cases hy
  · rw [hv] at hy
    simp [Value.ownBlock] at hy
    subst hy
    have hB : Blk W g' 3 cur := hb'
    exact hb.ne_ hB hT rfl
theorem l_mutators (h : Live W g t L) : Calls Tryd.prog 25 #[.pointer (some ⟨g, 0, none⟩)] W fun e w' => e = .returned (.int .i64 (t.n : Int)) ∧ Kp [] W w' := by
  obtain ⟨b, rfl, R, n⟩ := h.mr
  exact m_mutators R
theorem LZ.pos (h : LZ W) : 0 < W.heap.size := by
  rcases Nat.eq_zero_or_pos W.heap.size with h0 | h0
  · have := h.1
    unfold World.cell? at this
    have h1 : W.heap[0]? = none := Array.getElem?_eq_none (by omega)
    simp only [h1] at this
    cases this
  · exact h0
set_option maxRecDepth 100000 in
set_option maxHeartbeats 1000000 in
theorem model_told (hlz : LZ w) {mu : Int} {A : Option Addr} {len cap : Nat} {X : Nat → SP} (HX : StepsR w A len X) {s : SP} (hs : s.Ok) :
    Calls Tryd.prog 9 #[.int .i64 mu, .slice A len cap, .agg s.cells] w (TrueP w) := by
  have hbx := Blk.new w 37 #[.int .i64 s.k, .int .i64 s.mu, .int .i64 s.act.k, .int .i64 s.act.a, .int .i64 s.act.b, .int .i64 s.act.i, .int .i64 s.act.n, .int .i64 s.act.r, .int .i64 s.act.d, .int .i64 s.act.s, .int .i64 s.a, .int .i64 s.b, .int .i64 s.c]
  have hk1 := Kp.new w (.cells #[.int .i64 s.k, .int .i64 s.mu, .int .i64 s.act.k, .int .i64 s.act.a, .int .i64 s.act.b, .int .i64 s.act.i, .int .i64 s.act.n, .int .i64 s.act.r, .int .i64 s.act.d, .int .i64 s.act.s, .int .i64 s.a, .int .i64 s.b, .int .i64 s.c] 37)
  have HKB := hid hk1
  have HSO := hid hs
  have HLZ1 := hid (hlz.kp0 hk1)
  have HST1 := hid (HX.kp0 hk1)
  have HBX := hid hbx
  have HPOS := hid hlz.pos
  have HLZ0 := hid hlz
  clear hlz HX hs hbx hk1
  unfold SP.cells
  by_cases hbad : ¬ (1 ≤ mu ∧ mu ≤ 4) ∨ 120 < len
  · have HBAD := hid hbad
    clear hbad
    go_enter Tryd.func9, Tryd.ntmps9
    go_wp2_with (fail)
    refine (m_made_no HLZ1.out mu HBAD.out).mono ?_
    rintro e w2 ⟨rfl, k2⟩
    have HK2 := hid (HKB.out.chain k2)
    have HL2 := hid (HLZ1.out.kp0 k2)
    clear k2
    go_wp2_with (fail)
    refine (m_alive HL2.out).mono ?_
    rintro e w3 ⟨rfl, k3⟩
    have HK3 := hid (HK2.out.chain k3)
    clear k3
    go_wp2
    go_ret
    exact ⟨rfl, HK3.out⟩
  · obtain ⟨n, rfl⟩ : ∃ n : Nat, mu = (n : Int) := ⟨mu.toNat, by omega⟩
    have hn1 : 1 ≤ n := by omega
    have hn4 : n ≤ 4 := by omega
    have hl : len ≤ 120 := by omega
    clear hbad
    have HOB0 : Hid ((madeT n X len).ob.length < 100000) := by
      have := madeT_ob n X len
      show _ < _
      omega
    go_enter Tryd.func9, Tryd.ntmps9
    go_wp2_with (fail)
    generalize w.alloc (.cells #[.int .i64 s.k, .int .i64 s.mu, .int .i64 s.act.k, .int .i64 s.act.a, .int .i64 s.act.b, .int .i64 s.act.i, .int .i64 s.act.n, .int .i64 s.act.r, .int .i64 s.act.d, .int .i64 s.act.s, .int .i64 s.a, .int .i64 s.b, .int .i64 s.c] 37) = w1 at HKB HLZ1 HST1 HBX ⊢
    generalize hgbe : w.heap.size = gb at HBX HPOS ⊢
    have HGBE := hid hgbe
    clear hgbe
    refine (m_made_ok HLZ1.out n hn1 hn4 HST1.out hl).mono ?_
    rintro e w2 ⟨g, rfl, v2, k2⟩
    have HV2 := hid v2
    have HK2 := hid k2
    have HB2 := hid (HBX.out.kp k2 (by simp))
    have HL0 : Hid (∀ x, x < w1.heap.size → x ∈ List.range w1.heap.size) := fun x hx => List.mem_range.2 hx
    have HBM : Hid (gb ∈ List.range w1.heap.size) := List.mem_range.2 HBX.out.lt
    clear v2 k2
    generalize List.range w1.heap.size = L0 at HV2 HL0 HBM
    generalize madeT n X len = t at HV2 HOB0
    go_wp2_with (fail)
    refine (l_roots HV2.out).mono ?_
    rintro e w3 ⟨vs, M, rfl, ki3, hsub, v3, s3, k3⟩
    have HB3 := HB2.out.kp k3 (by simp)
    have kp4 : Kp [gb] w3 (w3.setCell ⟨gb, 0, none⟩ (.int .i64 0)) := Kp.cell w3 ⟨gb, 0, none⟩ _
    have hb4 := HB3.set_ 0 (.int .i64 0)
    have hb5 : Blk (w3.setCell ⟨gb, 0, none⟩ (.int .i64 0)) gb 37 #[.int .i64 0, .int .i64 s.mu, .int .i64 s.act.k, .int .i64 s.act.a, .int .i64 s.act.b, .int .i64 s.act.i, .int .i64 s.act.n, .int .i64 s.act.r, .int .i64 s.act.d, .int .i64 s.act.s, .int .i64 s.a, .int .i64 s.b, .int .i64 s.c] := hb4
    have HKI4 := hid (ki3.poke HB3 (by decide) kp4)
    have HV4 := hid (v3.poke (hsub _ HBM.out) (Nat.ne_of_lt HPOS.out) kp4)
    have HKW4 : Hid (Kp [] w (w3.setCell ⟨gb, 0, none⟩ (.int .i64 0))) := ((HKB.out.chain HK2.out).chain k3).trans kp4 (by simp) (fun x hx => .inr (by simp at hx; rw [hx, HGBE.out]; exact Nat.le_refl _))
    have HSUB := hid hsub
    have HKP4 := hid kp4
    have HB5 := hid hb5
    have f0 := HB3.frozen 0
    have e0 := HB3.cell 0
    have HGB : Hid (gb < w1.heap.size) := HBX.out.lt
    clear ki3 hsub v3 s3 k3 HB3 kp4 hb4 hb5
    go_upto_region 6 with (fail)
    generalize hw4 : w3.setCell ⟨gb, 0, none⟩ (.int .i64 0) = w4 at HKI4 HV4 HKP4 HB5 HKW4 ⊢
    have HW4 := hid hw4
    clear e0 f0 hw4
    have d0 := HB5.out.cell 0
    have d1 := HB5.out.cell 1
    have d2 := HB5.out.cell 2
    have d3 := HB5.out.cell 3
    have d4 := HB5.out.cell 4
    have d5 := HB5.out.cell 5
    have d6 := HB5.out.cell 6
    have d7 := HB5.out.cell 7
    have d8 := HB5.out.cell 8
    have d9 := HB5.out.cell 9
    have d10 := HB5.out.cell 10
    have d11 := HB5.out.cell 11
    have d12 := HB5.out.cell 12
    go_wp2_with (fail)
    have hob4 : t.ob.length < 100000 := HOB0.out
    have hso : (⟨0, s.mu, s.act, s.a, s.b, s.c⟩ : SP).Ok := ⟨w640, HSO.out.mu, HSO.out.n, HSO.out.a, HSO.out.b, HSO.out.c⟩
    have HDS : Hid ((t.dos ⟨0, s.mu, s.act, s.a, s.b, s.c⟩).1 = (t.act s.mu s.act).1) := by
      show (t.dos _).1 = _
      unfold MT.dos
      rw [if_pos rfl]
    refine (l_do HV4.out hob4 ⟨0, s.mu, s.act, s.a, s.b, s.c⟩ hso).mono ?_
    rintro e w5 ⟨rfl, v5, s5⟩
    rw [HDS.out] at v5
    have HV5 := hid v5
    have HKI5 := hid (HKI4.out.stay s5)
    have HB6 := hid (s5.blk (HSUB.out _ HBM.out) HB5.out)
    have HKW5 : Hid (Kp [] w w5) := (s5.sub HSUB.out).kp0 HKW4.out (fun x hx => HL0.out x (Nat.lt_of_lt_of_le hx HKB.out.size))
    have HDF : Hid (∀ i, i < 16 * t.n → (t.act s.mu s.act).1.roots.getD i 0 ≠ t.roots.getD i 0 → ((i / 16 : Nat) : Int) = s.mu ∧ ((i % 16 : Nat) : Int) = s.act.a ∧ i = s.mu.toNat * 16 + s.act.a.toNat) := fun i hi hd => told_diff HV4.out.ok s.mu s.act v5.ok (act_n t s.mu s.act) hi hd
    have HNN : Hid ((t.act s.mu s.act).1.n = t.n) := act_n t s.mu s.act
    have HRL : Hid (16 * t.n ≤ t.roots.length ∧ t.roots.length ≤ 1000 ∧ 16 * t.n ≤ (t.act s.mu s.act).1.roots.length ∧ (t.act s.mu s.act).1.roots.length ≤ 1000) := by
      have h1 := HV4.out.roots_len
      have h2 := v5.roots_len
      rw [act_n] at h2
      exact ⟨by omega, h1.2, by omega, h2.2⟩
    have htn4 := HV4.out.ok.n4
    clear v5 s5 d0 d1 d2 d3 d4 d5 d6 d7 d8 d9 d10 d11 d12 hob4 hso
    generalize (t.act s.mu s.act).1 = t' at HV5 HDF HNN HRL
    go_wp2_with (fail)
    refine (l_roots HV5.out).mono ?_
    rintro e w6 ⟨vn, M6, rfl, ki6, hsub6, v6, s6, k6⟩
    have HN1 := hid ((HKI5.out.stay s6).isN (by have := HRL.out; omega))
    have HN2 := hid (ki6.isN (by have := HRL.out; omega))
    have HV6 := hid v6
    have HB7 := hid (HB6.out.kp k6 (by simp))
    have HKX : Hid (Kp [] w w6) := HKW5.out.chain k6
    clear ki6 hsub6 v6 s6 k6
    generalize t'.roots = lnew at HN2 HDF HRL
    generalize t.roots = lold at HN1 HDF HRL
    obtain ⟨Ao, co, rfl, ho1, hoat⟩ := id HN1.out
    obtain ⟨An, cn, rfl, hm1, hnat⟩ := id HN2.out
    have HOA := hid hoat
    have HNA := hid hnat
    obtain ⟨lo, hlo⟩ : ∃ k, k = lold.length := ⟨_, rfl⟩
    obtain ⟨ln, hln⟩ : ∃ k, k = lnew.length := ⟨_, rfl⟩
    have HRL2 : Hid (16 * t.n ≤ lo ∧ lo ≤ 1000 ∧ 16 * t.n ≤ ln ∧ ln ≤ 1000) := by show _ ∧ _; rw [hlo, hln]; exact HRL.out
    rw [← hlo] at ho1 ⊢
    rw [← hln] at hm1 ⊢
    have HLO := hid hlo
    have HLN := hid hln
    obtain ⟨tn, htn⟩ : ∃ k, k = t.n := ⟨_, rfl⟩
    rw [← htn] at htn4 HRL2 HDF HNN
    have HPP : Hid (∃ p, p = s.mu.toNat * 16 + s.act.a.toNat) := ⟨_, rfl⟩
    obtain ⟨p, hp⟩ := HPP.out
    rw [← hp] at HDF
    have hr1 := HRL2.out.1
    have hr2 := HRL2.out.2.1
    have hr3 := HRL2.out.2.2.1
    have hr4 := HRL2.out.2.2.2
    clear hoat hnat hlo hln htn hp HN1 HN2 HRL HPP
    go_wp2_with (fail)
    go_loopw [10, 11] (fun ct cl wr => ∃ i cc : Nat, i ≤ 16 * tn ∧ cl = .int .i64 (i : Int) ∧ ct = .int .i64 (cc : Int) ∧ cc ≤ 1 ∧ (cc = 1 → p < i) ∧ Kp [] w6 wr) (fun _ cl _ => 16 * tn - (intOf cl).toNat)
    case atStart => exact ⟨0, 0, by omega, rfl, rfl, by omega, by omega, Kp.refl _ _⟩
    case round =>
      obtain ⟨i, cc, hi, rfl, rfl, hcc, hcp, hkr⟩ := hrel
      have HKR := hid hkr
      have HCP := hid hcp
      clear hkr hcp
      by_cases hlt : i < 16 * tn
      · have hlti : (i : Int) < (tn : Int) * 16 := by omega
        go_wp2_with (fail)
        refine (l_mutators (HV6.out.kp0 HKR.out).1).mono ?_
        rintro e w7 ⟨rfl, k7⟩
        rw [HNN.out]
        obtain ⟨go_, oo, rfl, oc⟩ := HOA.out i (by rw [← HLO.out]; omega)
        obtain ⟨gn, no, rfl, nc⟩ := HNA.out i (by rw [← HLN.out]; omega)
        have oc7 := cell_kp (HKR.out.chain k7) oc
        have nc7 := cell_kp (HKR.out.chain k7) nc
        have HB8 := HB7.out.kp (HKR.out.chain k7) (by simp)
        have b1 := HB8.cell 1
        have b3 := HB8.cell 3
        have HK7 := hid (HKR.out.chain k7)
        have hio : (i : Int) < (lo : Int) := by omega
        have hin : (i : Int) < (ln : Int) := by omega
        by_cases hq : lnew.getD i 0 = lold.getD i 0
        · have hq2 : (lnew.getD i 0 != lold.getD i 0) = false := by simpa using hq
          clear oc nc k7 HB8 HOA HNA hq
          generalize lnew.getD i 0 = z1 at nc7 hq2
          generalize lold.getD i 0 = z2 at oc7 hq2
          go_wp2_with (fail)
          go_quiet (fail)
          have HK8 := hid (HK7.out.drewN nq)
          clear oc7 nc7 b1 b3
          generalize w7.drewN nq = w8 at HK8 ⊢
          go_wp2_with (fail)
          go_roundw
          case rel => exact ⟨i + 1, cc, by omega, by go_num, rfl, hcc, fun h => by have := HCP.out h; omega, HK8.out⟩
          case measure => simp [intOf]; omega
        · obtain ⟨hd1, hd2, hd3⟩ := HDF.out i hlt hq
          have hq2 : (lnew.getD i 0 != lold.getD i 0) = true := by simpa using hq
          have e1 : (((i / 16 : Nat) : Int) != s.mu) = false := by simpa using hd1
          have e2 : (((i % 16 : Nat) : Int) != s.act.a) = false := by simpa using hd2
          have e3 : ((i : Int) / 16 != s.mu) = false := by simpa using hd1
          have e4 : ((i : Int) % 16 != s.act.a) = false := by simpa using hd2
          have hc0 : cc = 0 := by
            rcases Nat.eq_zero_or_pos cc with h | h
            · exact h
            · have := HCP.out (by omega); omega
          subst hc0
          have HD3 := hid hd3
          clear oc nc k7 HB8 HOA HNA hq hd1 hd2 hd3
          generalize lnew.getD i 0 = z1 at nc7 hq2
          generalize lold.getD i 0 = z2 at oc7 hq2
          go_wp2_with (fail)
          go_quiet (fail)
          have HK8 := hid (HK7.out.drewN nq)
          have HBB := HB7.out.kp HK8.out (by simp)
          clear oc7 nc7 b1 b3
          have b1 := HBB.cell 1
          have b3 := HBB.cell 3
          clear HBB
          generalize w7.drewN nq = w8 at HK8 b1 b3 ⊢
          go_wp2_with (fail)

          go_roundw
          case rel => exact ⟨i + 1, 1, by omega, by go_num, by go_num, by omega, fun _ => by have := HD3.out; omega, HK8.out⟩
          case measure => simp [intOf]; omega
      · obtain rfl : i = 16 * tn := by omega
        have hlti : ¬ (((16 * tn : Nat) : Int) < (tn : Int) * 16) := by omega
        have hcci : (cc : Int) ≤ 1 := by omega
        go_wp2_with (fail)
        refine (l_mutators (HV6.out.kp0 HKR.out).1).mono ?_
        rintro e w7 ⟨rfl, k7⟩
        rw [HNN.out]
        have HK7 := hid (HKX.out.chain (HKR.out.chain k7))
        clear k7
        go_wp2_with (fail)
        refine (m_alive (HLZ0.out.kp0 HK7.out)).mono ?_
        rintro e wz ⟨rfl, kz⟩
        have HKZ := hid (HK7.out.chain kz)
        clear kz
        go_wp2
        go_ret
        exact ⟨rfl, HKZ.out⟩
end
end Go.Proofs.YtbiompmklijgoaaDoor
