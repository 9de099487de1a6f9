/-
  A model's lists, kept beside it; ModelRefused's walk. Conditions: those that stand in each theorem.
-/
import Derived.Test.YtbiompmklijgoaaDoorPGS
import Derived.Test.YtbiompmklijgoaaDoorPGG
namespace Go.Proofs.YtbiompmklijgoaaDoor
set_option linter.unusedVariables false
set_option linter.unusedSimpArgs false
open Go.RowKit Go.Deep Go.Maps

section
variable {w w' W V : World} {g : Nat} {t t' : MT} {L : List Nat}
def KI (v : Value) (zs : List Int) (L : List Nat) (W : World) : Prop := W.ownsRow 0 3 1 v zs.length (zcells zs) ∧ ∀ x, v.ownBlock = some x → x ∈ L
theorem KI.stay {v : Value} {zs : List Int} (h : KI v zs L W) (s : Stay L W V) : KI v zs L V := by
  obtain ⟨⟨hl, h2 | ⟨g, cap, cur, hv, hg, hb, r⟩⟩, hm⟩ := h
  · exact ⟨⟨hl, .inl h2⟩, hm⟩
  · subst hv
    exact ⟨⟨hl, .inr ⟨g, cap, cur, rfl, hg, (s.block g (hm g rfl)).trans hb, r⟩⟩, hm⟩
theorem KI.sub {v : Value} {zs : List Int} {M : List Nat} (h : KI v zs L W) (hs : ∀ x ∈ L, x ∈ M) : KI v zs M W := ⟨h.1, fun x hx => hs x (h.2 x hx)⟩
theorem KI.isN {v : Value} {zs : List Int} (h : KI v zs L W) (hl : zs.length ≤ 1000000000) : IsN W v zs := IsN.of_own h.1 hl
/-- A list of a model's, which stays beside it. -/
def LK (W : World) (g : Nat) (t : MT) (l : List Int) (L : List Nat) (e : Ending) (w' : World) : Prop := ∃ (v : Value) (M : List Nat), e = .returned v ∧ KI v l M w' ∧ (∀ x ∈ L, x ∈ M) ∧ Live w' g t M ∧ Stay L W w' ∧ Kp [] W w'
theorem LK.mk {l : List Int} {e : Ending} (h : Live W g t L) (hp : IntsP W l e w') : LK W g t l L e w' := by
  obtain ⟨v, h1, own, k⟩ := hp
  refine ⟨v, v.ownBlock.toList ++ L, h1, ⟨own_base own (Nat.zero_le _), fun x hx => List.mem_append_left _ (by simp [hx])⟩, fun x hx => List.mem_append_right _ hx, h.add (fun x hx => ?_) (fun x hx => ?_) k, .of_kp k (by simp) h.lt, k⟩
  · rcases List.mem_append.1 hx with h1 | h1
    · refine .inr ?_
      rcases own.2 with ⟨hv, _⟩ | ⟨g', cap, cur, hv, hg, _⟩
      · rw [hv] at h1; cases h1
      · rw [hv] at h1; simp [Value.ownBlock] at h1; omega
    · exact .inl h1
  · rcases List.mem_append.1 hx with h1 | h1
    · exact own_lt own _ (by simpa using h1)
    · exact Nat.lt_of_lt_of_le (h.lt x h1) k.size
theorem l_state (h : Live W g t L) : Calls Tryd.prog 38 #[.pointer (some ⟨g, 0, none⟩)] W (LK W g t t.stateL L) := by
  obtain ⟨b, rfl, R, n⟩ := id h.mr
  exact (m_state R).mono fun _ _ hp => LK.mk h hp
theorem l_roots (h : Live W g t L) : Calls Tryd.prog 32 #[.pointer (some ⟨g, 0, none⟩)] W (LK W g t t.roots L) := by
  obtain ⟨b, rfl, R, n⟩ := id h.mr
  exact (m_roots R).mono fun _ _ hp => LK.mk h hp
theorem l_kept (h : Live W g t L) : Calls Tryd.prog 23 #[.pointer (some ⟨g, 0, none⟩)] W (LK W g t t.kept L) := by
  obtain ⟨b, rfl, R, n⟩ := id h.mr
  exact (m_Kept R).mono fun _ _ hp => LK.mk h hp
theorem l_contents (h : Live W g t L) {x : Int} (hx : t.has x = true) : Calls Tryd.prog 28 #[.pointer (some ⟨g, 0, none⟩), .int .i64 x] W (LK W g t (t.cont x) L) := by
  obtain ⟨b, rfl, R, n⟩ := id h.mr
  exact (m_contents R hx).mono fun _ _ hp => LK.mk h hp
theorem Live.ok (h : Live W g t L) : t.Ok := by
  obtain ⟨b, _, R, _⟩ := h.mr
  exact R.ok
theorem Live.state_len (h : Live W g t L) : t.stateL.length ≤ 1000000000 := by
  obtain ⟨b, _, R, _⟩ := h.mr
  have h1 := MT.conts_len R (k := t.ob.length) (Nat.le_refl _)
  have h2 := R.ok.sl
  have h3 := R.ok.gl
  have h4 := R.ok.qu
  have h5 := R.ok.n4
  have h6 := R.ok.small.1
  unfold MT.stateL MT.roots
  simp only [List.length_append, List.length_cons, List.length_nil]
  omega
theorem Live.roots_len (h : Live W g t L) : t.roots.length = 16 * t.n + 16 + t.qu.length ∧ t.roots.length ≤ 1000 := by
  have ok := h.ok
  have h2 := ok.sl
  have h3 := ok.gl
  have h4 := ok.qu
  have h5 := ok.n4
  unfold MT.roots
  simp only [List.length_append]
  omega
theorem eqL_same (l : List Int) : eqL l l = true := decide_eq_true rfl
/-- What is refused changes nothing. -/
theorem MT.act_no {t : MT} {mu : Int} {x : MA} (h : (t.act mu x).2.2 ≠ 0) : (t.act mu x).1 = t := by
  unfold MT.act at h ⊢
  by_cases he : t.err mu x = 0
  · rw [if_pos he] at h; exact absurd rfl h
  · rw [if_neg he]
theorem MT.dos_no {t : MT} {s : SP} (h1 : s.k ≠ 1) (h : (t.dos s).2 ≠ 0) : (t.dos s).1 = t := by
  unfold MT.dos at h ⊢
  by_cases h0 : s.k = 0
  · rw [if_pos h0] at h ⊢
    exact MT.act_no h
  · rw [if_neg h0, if_neg h1] at h ⊢
    by_cases h2 : s.k = 2
    · rw [if_pos h2] at h ⊢
      show t.pushM s.a = t
      unfold MT.pushM
      rw [if_neg h]
    · rw [if_neg h2] at h ⊢
      by_cases h3 : s.k = 3
      · rw [if_pos h3] at h ⊢
        have h' : t.popE ≠ 0 := h
        show t.popM = t
        unfold MT.popE at h'
        by_cases hq : t.qu = []
        · unfold MT.popM
          rw [hq]
          cases t
          simp at hq ⊢
          exact hq
        · rw [if_neg hq] at h'; exact absurd rfl h'
      · rw [if_neg h3] at h ⊢
        by_cases h4 : s.k = 4
        · rw [if_pos h4] at h ⊢
          show t.srM s.a s.b s.c = t
          unfold MT.srM
          rw [if_neg h]
        · rw [if_neg h4]
theorem madeT_ob (n : Nat) (X : Nat → SP) (len : Nat) : (madeT n X len).ob.length ≤ len := by
  have := (MT.new n).plays_ob X len
  have h0 : (MT.new n).ob.length = 0 := rfl
  unfold madeT
  omega
set_option maxRecDepth 100000 in
set_option maxHeartbeats 1000000 in
theorem model_refused (hlz : LZ w) {mu : Int} {A : Option Addr} {len cap : Nat} {X : Nat → SP} (HX : StepsR w A len X) {s : SP} (hs : s.Ok) :
    Calls Tryd.prog 10 #[.int .i64 mu, .slice A len cap, .agg s.cells] w (TrueP w) := by
  have hbx := Blk.new w 37 #[.int .i64 s.k, .int .i64 s.mu, .int .i64 s.act.k, .int .i64 s.act.a, .int .i64 s.act.b, .int .i64 s.act.i, .int .i64 s.act.n, .int .i64 s.act.r, .int .i64 s.act.d, .int .i64 s.act.s, .int .i64 s.a, .int .i64 s.b, .int .i64 s.c]
  have hk1 := Kp.new w (.cells #[.int .i64 s.k, .int .i64 s.mu, .int .i64 s.act.k, .int .i64 s.act.a, .int .i64 s.act.b, .int .i64 s.act.i, .int .i64 s.act.n, .int .i64 s.act.r, .int .i64 s.act.d, .int .i64 s.act.s, .int .i64 s.a, .int .i64 s.b, .int .i64 s.c] 37)
  have HKB := hid hk1
  have HSO := hid hs
  have HLZ1 := hid (hlz.kp0 hk1)
  have HST1 := hid (HX.kp0 hk1)
  have HBX := hid hbx
  clear hlz HX hs hbx hk1
  unfold SP.cells
  by_cases hbad : ¬ (1 ≤ mu ∧ mu ≤ 4) ∨ 120 < len
  · have HBAD := hid hbad
    clear hbad
    go_enter Tryd.func10, Tryd.ntmps10
    go_wp2_with (fail)
    refine (m_made_no HLZ1.out mu HBAD.out).mono ?_
    rintro e w2 ⟨rfl, k2⟩
    have HK2 := hid (HKB.out.chain k2)
    have HL2 := hid (HLZ1.out.kp0 k2)
    clear k2
    go_wp2_with (fail)
    refine (m_alive HL2.out).mono ?_
    rintro e w3 ⟨rfl, k3⟩
    have HK3 := hid (HK2.out.chain k3)
    clear k3
    go_wp2
    go_ret
    exact ⟨rfl, HK3.out⟩
  · obtain ⟨n, rfl⟩ : ∃ n : Nat, mu = (n : Int) := ⟨mu.toNat, by omega⟩
    have hn1 : 1 ≤ n := by omega
    have hn4 : n ≤ 4 := by omega
    have hl : len ≤ 120 := by omega
    clear hbad
    have HOB0 : Hid ((madeT n X len).ob.length < 100000) := by
      have := madeT_ob n X len
      show _ < _
      omega
    by_cases hk : s.k = 1
    · have hkb : (s.k == 1) = true := by simpa using hk
      clear hk
      go_enter Tryd.func10, Tryd.ntmps10
      go_wp2_with (fail)
      generalize w.alloc (.cells #[.int .i64 s.k, .int .i64 s.mu, .int .i64 s.act.k, .int .i64 s.act.a, .int .i64 s.act.b, .int .i64 s.act.i, .int .i64 s.act.n, .int .i64 s.act.r, .int .i64 s.act.d, .int .i64 s.act.s, .int .i64 s.a, .int .i64 s.b, .int .i64 s.c] 37) = w1 at HKB HLZ1 HST1 HBX ⊢
      generalize w.heap.size = gb at HBX ⊢
      refine (m_made_ok HLZ1.out n hn1 hn4 HST1.out hl).mono ?_
      rintro e w2 ⟨g, rfl, v2, k2⟩
      have HV2 := hid v2
      have HK2 := hid k2
      have HB2 := hid (HBX.out.kp k2 (by simp))
      have c0 := HB2.out.cell 0
      have HL0 : Hid (∀ x, x < w1.heap.size → x ∈ List.range w1.heap.size) := fun x hx => List.mem_range.2 hx
      have HBM : Hid (gb ∈ List.range w1.heap.size) := List.mem_range.2 HBX.out.lt
      clear v2 k2
      generalize List.range w1.heap.size = L0 at HV2 HL0 HBM
      generalize madeT n X len = t at HV2 HOB0
      go_wp2_with (fail)
      refine (m_alive (HLZ1.out.kp0 HK2.out)).mono ?_
      rintro e wz ⟨rfl, kz⟩
      have HKZ := hid ((HKB.out.chain HK2.out).chain kz)
      clear kz
      go_wp2
      go_ret
      exact ⟨rfl, HKZ.out⟩
    · have hkb : (s.k == 1) = false := by simpa using hk
      have HK := hid hk
      clear hk
      go_enter Tryd.func10, Tryd.ntmps10
      go_wp2_with (fail)
      generalize w.alloc (.cells #[.int .i64 s.k, .int .i64 s.mu, .int .i64 s.act.k, .int .i64 s.act.a, .int .i64 s.act.b, .int .i64 s.act.i, .int .i64 s.act.n, .int .i64 s.act.r, .int .i64 s.act.d, .int .i64 s.act.s, .int .i64 s.a, .int .i64 s.b, .int .i64 s.c] 37) = w1 at HKB HLZ1 HST1 HBX ⊢
      generalize w.heap.size = gb at HBX ⊢
      refine (m_made_ok HLZ1.out n hn1 hn4 HST1.out hl).mono ?_
      rintro e w2 ⟨g, rfl, v2, k2⟩
      have HV2 := hid v2
      have HK2 := hid k2
      have HB2 := hid (HBX.out.kp k2 (by simp))
      have c0 := HB2.out.cell 0
      have HL0 : Hid (∀ x, x < w1.heap.size → x ∈ List.range w1.heap.size) := fun x hx => List.mem_range.2 hx
      have HBM : Hid (gb ∈ List.range w1.heap.size) := List.mem_range.2 HBX.out.lt
      clear v2 k2
      generalize List.range w1.heap.size = L0 at HV2 HL0 HBM
      generalize madeT n X len = t at HV2 HOB0
      go_wp2_with (fail)
      refine (l_state HV2.out).mono ?_
      rintro e w3 ⟨vs, M, rfl, ki3, hsub, v3, s3, k3⟩
      have HKI3 := hid ki3
      have HSUB := hid hsub
      have HV3 := hid v3
      have HK3 := hid (HK2.out.chain k3)
      have HB3 := HB2.out.kp k3 (by simp)
      have d0 := HB3.cell 0
      have d1 := HB3.cell 1
      have d2 := HB3.cell 2
      have d3 := HB3.cell 3
      have d4 := HB3.cell 4
      have d5 := HB3.cell 5
      have d6 := HB3.cell 6
      have d7 := HB3.cell 7
      have d8 := HB3.cell 8
      have d9 := HB3.cell 9
      have d10 := HB3.cell 10
      have d11 := HB3.cell 11
      have d12 := HB3.cell 12
      clear ki3 hsub v3 s3 k3 HB3 c0
      go_wp2_with (fail)
      refine (l_do HV3.out HOB0.out s HSO.out).mono ?_
      rintro e w4 ⟨rfl, v4, s4⟩
      have HV4 := hid v4
      have HKI4 := hid (HKI3.out.stay s4)
      have HK4 := hid ((s4.sub HSUB.out).kp0 HK3.out HL0.out)
      clear v4 s4 d0 d1 d2 d3 d4 d5 d6 d7 d8 d9 d10 d11 d12
      have HNO : Hid ((t.dos s).2 ≠ 0 → (t.dos s).1 = t) := fun h => MT.dos_no HK.out h
      rcases hdo : t.dos s with ⟨t', er⟩
      rw [hdo] at HV4 HNO
      by_cases he : er = 0
      · have heb : (er == 0) = true := by simpa using he
        clear he
        go_wp2_with (fail)
        refine (m_alive (HLZ1.out.kp0 HK4.out)).mono ?_
        rintro e wz ⟨rfl, kz⟩
        have HKZ := hid ((HKB.out.chain HK4.out).chain kz)
        clear kz
        go_wp2
        go_ret
        exact ⟨rfl, HKZ.out⟩
      · have heb : (er == 0) = false := by simpa using he
        obtain rfl : t' = t := HNO.out he
        clear he
        go_wp2_with (fail)
        refine (l_state HV4.out).mono ?_
        rintro e w5 ⟨vs5, M5, rfl, ki5, hsub5, v5, s5, k5⟩
        have hi := m_ints (ki5.isN v5.state_len) ((HKI4.out.stay s5).isN v5.state_len)
        rw [eqL_same] at hi
        have HI := hid hi
        have HK5 := hid (HK4.out.chain k5)
        clear ki5 hsub5 v5 s5 k5 hi
        go_wp2_with (fail)
        refine HI.out.mono ?_
        rintro e w6 ⟨rfl, k6⟩
        have HK6 := hid (HK5.out.chain k6)
        clear k6
        go_wp2_with (fail)
        refine (m_alive (HLZ1.out.kp0 HK6.out)).mono ?_
        rintro e wz ⟨rfl, kz⟩
        have HKZ := hid ((HKB.out.chain HK6.out).chain kz)
        clear kz
        go_wp2
        go_ret
        exact ⟨rfl, HKZ.out⟩
end
end Go.Proofs.YtbiompmklijgoaaDoor
