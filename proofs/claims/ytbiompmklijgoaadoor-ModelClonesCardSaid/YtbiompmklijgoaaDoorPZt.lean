/-
  ModelClones' walk. Conditions: those that stand in each theorem.
-/
import Derived.Test.YtbiompmklijgoaaDoorPZq
namespace Go.Proofs.YtbiompmklijgoaaDoor
set_option linter.unusedVariables false
set_option linter.unusedSimpArgs false
open Go.RowKit Go.Deep Go.Maps

section
variable {w w' W V : World} {g : Nat} {t t' : MT} {L : List Nat}
theorem MR.stay {b : MB} (R : MR W b t) (s : Stay L W V) (hs : ∀ x ∈ b.all, x ∈ L) (h0 : 0 ∈ L) : MR V b t := by
  have lt0 : ∀ x ∈ b.all, x < W.heap.size := fun x hx => R.lt x hx
  have k : Kp ((List.range W.heap.size).filter (fun x => decide (x ∉ L))) W V := ⟨s.os, s.tape, s.output, s.size, fun x hx hn => by
    by_cases hm : x ∈ L
    · exact s.block x hm
    · exact absurd (List.mem_filter.2 ⟨List.mem_range.2 hx, decide_eq_true hm⟩) hn⟩
  have off : ∀ x ∈ L, x ∉ ((List.range W.heap.size).filter (fun x => decide (x ∉ L))) := fun x hx hm => by
    have := of_decide_eq_true (List.mem_filter.1 hm).2
    exact this hx
  obtain ⟨c, sp, m1, m2, m3, G, B⟩ := R.mem
  have ig : b.g ∈ b.all := by simp [MB.all]
  have is_ : b.sb ∈ b.all := by simp [MB.all]
  have iq : ∀ x, b.qv.ownBlock = some x → x ∈ b.all := fun x hx => by simp [MB.all, hx]
  have io : ∀ x, b.ov.ownBlock = some x → x ∈ b.all := fun x hx => by simp [MB.all, hx]
  have iw : ∀ x, b.wv.ownBlock = some x → x ∈ b.all := fun x hx => by simp [MB.all, hx]
  exact ⟨R.ok, R.lz.kp k (off 0 h0), R.z0, ⟨c, sp, m1, m2, m3, s.blk (hs _ ig) G, s.blk (hs _ is_) B⟩, own_kpx R.Q k (fun x hx => off x (hs x (iq x hx))), own_kpx R.O k (fun x hx => off x (hs x (io x hx))), own_kpx R.D k (fun x hx => off x (hs x (iw x hx))), R.ne⟩
/-- Two models that lie apart, the one to be changed, the other to stay, and a list that stays. -/
structure Duo (W : World) (ga gb : Nat) (v : Value) (t : MT) (L0 La : List Nat) : Prop where
  a : Live W ga t La
  b : ∃ bb : MB, bb.g = gb ∧ MR W bb t ∧ ∀ x ∈ bb.all, x ∈ La
  l : ∀ x ∈ L0, x ∈ La
  z : 0 ∈ La
  k : KI v t.stateL La W
theorem Duo.mk2 {ba bb : MB} {v : Value} {L0 : List Nat} {B : Nat} (Ra : MR W ba t) (Rb : MR W bb t) (hab : ∀ x ∈ bb.all, x ∉ ba.all) (hL : ∀ x ∈ L0, x ∉ ba.all ∧ x < W.heap.size) (h0 : 0 ∈ L0) (own : W.ownsRow B 3 1 v t.stateL.length (zcells t.stateL)) (hB : ∀ x ∈ ba.all, x < B) : Duo W ba.g bb.g v t L0 (L0 ++ v.ownBlock.toList ++ bb.all) := by
  refine ⟨⟨⟨ba, rfl, Ra, fun x hx => ?_⟩, fun x hx => ?_⟩, ⟨bb, rfl, Rb, fun x hx => List.mem_append_right _ hx⟩, fun x hx => List.mem_append_left _ (List.mem_append_left _ hx), List.mem_append_left _ (List.mem_append_left _ h0), own_base own (Nat.zero_le _), fun x hx => List.mem_append_left _ (List.mem_append_right _ (by simp [hx]))⟩
  · rcases List.mem_append.1 hx with h | h
    · rcases List.mem_append.1 h with h | h
      · exact (hL x h).1
      · intro hm
        have h1 := own_new own (x := x) (by simpa using h)
        have h2 := hB x hm
        omega
    · exact hab x h
  · rcases List.mem_append.1 hx with h | h
    · rcases List.mem_append.1 h with h | h
      · exact (hL x h).2
      · exact own_lt own x (by simpa using h)
    · exact Rb.lt x h
set_option maxRecDepth 100000 in
set_option maxHeartbeats 1000000 in
theorem model_clones (hlz : LZ w) {mu : Int} {A : Option Addr} {len cap : Nat} {X : Nat → SP} (HX : StepsR w A len X) {A2 : Option Addr} {len2 cap2 : Nat} {X2 : Nat → SP} (HX2 : StepsR w A2 len2 X2) (cl : Bool) :
    Calls Tryd.prog 11 #[.int .i64 mu, .slice A len cap, .slice A2 len2 cap2, .bool cl] w (TrueP w) := by
  have HLZ0 := hid hlz
  have HST1 := hid HX
  have HST2 := hid HX2
  clear hlz HX HX2
  by_cases hbad : ¬ (1 ≤ mu ∧ mu ≤ 4) ∨ 120 < len
  · have HBAD := hid hbad
    clear hbad
    go_enter Tryd.func11, Tryd.ntmps11
    go_wp2_with (fail)
    refine (m_made_no HLZ0.out mu HBAD.out).mono ?_
    rintro e w2 ⟨rfl, k2⟩
    have HK2 := hid k2
    clear k2
    go_wp2_with (fail)
    refine (m_alive (HLZ0.out.kp0 HK2.out)).mono ?_
    rintro e w3 ⟨rfl, k3⟩
    have HK3 := hid (HK2.out.chain k3)
    clear k3
    go_wp2
    go_ret
    exact ⟨rfl, HK3.out⟩
  · obtain ⟨n, rfl⟩ : ∃ n : Nat, mu = (n : Int) := ⟨mu.toNat, by omega⟩
    have hn1 : 1 ≤ n := by omega
    have hn4 : n ≤ 4 := by omega
    have hl : len ≤ 120 := by omega
    clear hbad
    have hob := madeT_ob n X len
    go_enter Tryd.func11, Tryd.ntmps11
    go_wp2_with (fail)
    refine (m_made_ok HLZ0.out n hn1 hn4 HST1.out hl).mono ?_
    rintro e w2 ⟨g, rfl, v2, k2⟩
    obtain ⟨bm, hbg, Rm, nm⟩ := v2.mr
    have HLT0 := hid v2.lt
    have HRM := hid Rm
    have HNM := hid nm
    have HK2 := hid k2
    have HL0 : Hid (∀ x, x < w.heap.size → x ∈ List.range w.heap.size) := fun x hx => List.mem_range.2 hx
    have HZ0 : Hid (0 ∈ List.range w.heap.size) := List.mem_range.2 (cell_lt HLZ0.out.1)
    clear v2 k2 Rm nm
    subst hbg
    generalize List.range w.heap.size = L0 at HLT0 HNM HL0 HZ0
    generalize madeT n X len = t at HRM hob
    by_cases hgr : 120 < len2
    · go_wp2_with (fail)
      refine (m_great_yes w2 hgr).mono ?_
      rintro e w' ⟨rfl, rfl⟩
      go_wp2_with (fail)
      refine (m_alive (HLZ0.out.kp0 HK2.out)).mono ?_
      rintro e w3 ⟨rfl, k3⟩
      have HK3 := hid (HK2.out.chain k3)
      clear k3
      go_wp2
      go_ret
      exact ⟨rfl, HK3.out⟩
    · have hl2 : len2 ≤ 120 := by omega
      clear hgr
      go_wp2_with (fail)
      refine (m_great_no w2 hl2).mono ?_
      rintro e w' ⟨rfl, rfl⟩
      go_wp2_with (fail)
      refine (m_clone HRM.out).mono ?_
      rintro e w3 ⟨bc, rfl, Rc, k3, nc⟩
      have HRM3 := hid (HRM.out.kp0 k3)
      have HRC3 := hid Rc
      have HK3 := hid (HK2.out.chain k3)
      have HAP : Hid (∀ x ∈ bm.all, x < w2.heap.size) := fun x hx => HRM.out.lt x hx
      have HNC := hid nc
      have HS3 := hid k3.size
      clear Rc k3 nc
      go_wp2_with (fail)
      refine (m_state HRM3.out).mono ?_
      rintro e w4 ⟨vo, rfl, own4, k4⟩
      have HRM4 := hid (HRM3.out.kp0 k4)
      have HRC4 := hid (HRC3.out.kp0 k4)
      have HK4 := hid (HK3.out.chain k4)
      have HO4 := hid own4
      have HS4 := hid k4.size
      clear own4 k4
      go_wp2_with (fail)
      refine (m_state HRC4.out).mono ?_
      rintro e w5 ⟨vc, rfl, own5, k5⟩
      have HRM5 := hid (HRM4.out.kp0 k5)
      have HRC5 := hid (HRC4.out.kp0 k5)
      have HK5 := hid (HK4.out.chain k5)
      have ho5 := own_kp0 HO4.out k5
      have HS5 := hid k5.size
      have HLEN : Hid (t.stateL.length ≤ 1000000000) := Live.state_len (L := []) ⟨⟨bm, rfl, HRM.out, fun x hx => by cases hx⟩, fun x hx => by cases hx⟩
      have hi := m_ints (IsN.of_own own5 HLEN.out) (IsN.of_own ho5 HLEN.out)
      rw [eqL_same] at hi
      have HI := hid hi
      have HO5 := hid ho5
      clear own5 k5 hi ho5
      go_wp2_with (fail)
      refine HI.out.mono ?_
      rintro e w6 ⟨rfl, k6⟩
      have HK6 := hid (HK5.out.chain k6)
      have HRM6 := hid (HRM5.out.kp0 k6)
      have HRC6 := hid (HRC5.out.kp0 k6)
      have HO6 := hid (own_kp0 HO5.out k6)
      have HS6 := hid k6.size
      have HC3 : Hid (∀ x ∈ bc.all, x < w3.heap.size) := fun x hx => HRC3.out.lt x hx
      clear k6 HI
      cases cl
      · have HD : Hid (∃ La, Duo w6 bm.g bc.g vo t L0 La) := ⟨_, Duo.mk2 HRM6.out HRC6.out (fun x hx hm => by have := HNC.out x hx; have := HAP.out x hm; omega) (fun x hx => ⟨HNM.out x hx, by have := HLT0.out x hx; have := HS3.out; have := HS4.out; have := HS5.out; have := HS6.out; omega⟩) HZ0.out HO6.out (fun x hx => by have := HAP.out x hx; have := HS3.out; omega)⟩
        clear HRM HRM3 HRM4 HRM5 HRM6 HRC3 HRC4 HRC5 HRC6 HO4 HO5 HO6 HS3 HS4 HS5 HS6 HNC HNM HAP HC3 HLT0
        generalize bm.g = ga at HD ⊢
        generalize bc.g = gb at HD ⊢
        obtain ⟨La, D⟩ := HD.out
        have HDA := hid D.a
        have HDB := hid D.b
        have HDL := hid D.l
        have HDZ := hid D.z
        have HDK := hid D.k
        clear D HD
        go_wp2_with (fail)
        go_loopw [14] (fun ct wr => ∃ i : Nat, i ≤ len2 ∧ ct = .int .i64 (i : Int) ∧ Live wr ga (t.plays X2 i) La ∧ Stay La w6 wr) (fun ct _ => len2 - (intOf ct).toNat)
        case atStart => exact ⟨0, by omega, rfl, HDA.out, Stay.refl _ _⟩
        case round =>
          obtain ⟨i, hi, rfl, hv, hs⟩ := hrel
          have HV := hid hv
          have HS := hid hs
          have HKW := hid ((hs.sub HDL.out).kp0 HK6.out HL0.out)
          clear hv hs
          by_cases hlt : i < len2
          · obtain ⟨ag, ao, rfl, hat⟩ := (HST2.out.kp0 HKW.out).at_ i hlt
            have hok := HST2.out.ok i hlt
            have HPL : Hid (t.plays X2 (i + 1) = ((t.plays X2 i).dos (X2 i)).1) := rfl
            have hobi := t.plays_ob X2 i
            have HOB : Hid ((t.plays X2 i).ob.length < 100000) := by show _ < _; omega
            obtain ⟨s, hs⟩ : ∃ s, s = X2 i := ⟨_, rfl⟩
            rw [← hs] at hat hok HPL
            have HOK := hid hok
            have hli : (i : Int) < (len2 : Int) := by omega
            have ce0 : wr.cell? ⟨ag, ao + i * 13, none⟩ = some (.int .i64 s.k) := hat 0 _ rfl
            have ce1 : wr.cell? ⟨ag, ao + i * 13 + 1, none⟩ = some (.int .i64 s.mu) := hat 1 _ rfl
            have ce2 : wr.cell? ⟨ag, ao + i * 13 + 2, none⟩ = some (.int .i64 s.act.k) := hat 2 _ rfl
            have ce3 : wr.cell? ⟨ag, ao + i * 13 + 3, none⟩ = some (.int .i64 s.act.a) := hat 3 _ rfl
            have ce4 : wr.cell? ⟨ag, ao + i * 13 + 4, none⟩ = some (.int .i64 s.act.b) := hat 4 _ rfl
            have ce5 : wr.cell? ⟨ag, ao + i * 13 + 5, none⟩ = some (.int .i64 s.act.i) := hat 5 _ rfl
            have ce6 : wr.cell? ⟨ag, ao + i * 13 + 6, none⟩ = some (.int .i64 s.act.n) := hat 6 _ rfl
            have ce7 : wr.cell? ⟨ag, ao + i * 13 + 7, none⟩ = some (.int .i64 s.act.r) := hat 7 _ rfl
            have ce8 : wr.cell? ⟨ag, ao + i * 13 + 8, none⟩ = some (.int .i64 s.act.d) := hat 8 _ rfl
            have ce9 : wr.cell? ⟨ag, ao + i * 13 + 9, none⟩ = some (.int .i64 s.act.s) := hat 9 _ rfl
            have ce10 : wr.cell? ⟨ag, ao + i * 13 + 10, none⟩ = some (.int .i64 s.a) := hat 10 _ rfl
            have ce11 : wr.cell? ⟨ag, ao + i * 13 + 11, none⟩ = some (.int .i64 s.b) := hat 11 _ rfl
            have ce12 : wr.cell? ⟨ag, ao + i * 13 + 12, none⟩ = some (.int .i64 s.c) := hat 12 _ rfl
            clear hat hok hs hobi
            go_wp2_with (fail)
            refine (l_do HV.out HOB.out s HOK.out).mono ?_
            rintro e w7 ⟨rfl, v7, s7⟩
            have HV7 := hid v7
            have HS7 := hid (HS.out.trans s7)
            clear v7 s7
            go_wp2_with (fail)
            go_roundw
            case rel => exact ⟨i + 1, by omega, by go_num, by rw [HPL.out]; exact HV7.out, HS7.out⟩
            case measure => simp [intOf]; omega
          · obtain rfl : i = len2 := by omega
            clear hlt
            obtain ⟨bb, rfl, Rb, hbb⟩ := HDB.out
            have HRB := hid (Rb.stay HS.out hbb HDZ.out)
            have HKI := hid (HDK.out.stay HS.out)
            clear Rb hbb
            go_wp2_with (fail)
            refine (m_state HRB.out).mono ?_
            rintro e w8 ⟨vz, rfl, own8, k8⟩
            have hi2 := m_ints (IsN.of_own own8 HLEN.out) ((HKI.out.isN HLEN.out).kp0 k8)
            rw [eqL_same] at hi2
            have HI2 := hid hi2
            have HK8 := hid (HKW.out.chain k8)
            clear own8 k8 hi2
            go_wp2_with (fail)
            refine HI2.out.mono ?_
            rintro e w9 ⟨rfl, k9⟩
            have HK9 := hid (HK8.out.chain k9)
            clear k9
            go_wp2_with (fail)
            refine (m_alive (HLZ0.out.kp0 HK9.out)).mono ?_
            rintro e wz ⟨rfl, kz⟩
            have HKZ := hid (HK9.out.chain kz)
            clear kz
            go_wp2
            go_ret
            exact ⟨rfl, HKZ.out⟩
      · have HD : Hid (∃ La, Duo w6 bc.g bm.g vo t L0 La) := ⟨_, Duo.mk2 HRC6.out HRM6.out (fun x hx hm => by have := HNC.out x hm; have := HAP.out x hx; omega) (fun x hx => ⟨fun hm => by have := HNC.out x hm; have := HLT0.out x hx; omega, by have := HLT0.out x hx; have := HS3.out; have := HS4.out; have := HS5.out; have := HS6.out; omega⟩) HZ0.out HO6.out (fun x hx => HC3.out x hx)⟩
        clear HRM HRM3 HRM4 HRM5 HRM6 HRC3 HRC4 HRC5 HRC6 HO4 HO5 HO6 HS3 HS4 HS5 HS6 HNC HNM HAP HC3 HLT0
        generalize bc.g = ga at HD ⊢
        generalize bm.g = gb at HD ⊢
        obtain ⟨La, D⟩ := HD.out
        have HDA := hid D.a
        have HDB := hid D.b
        have HDL := hid D.l
        have HDZ := hid D.z
        have HDK := hid D.k
        clear D HD
        go_wp2_with (fail)
        go_loopw [14] (fun ct wr => ∃ i : Nat, i ≤ len2 ∧ ct = .int .i64 (i : Int) ∧ Live wr ga (t.plays X2 i) La ∧ Stay La w6 wr) (fun ct _ => len2 - (intOf ct).toNat)
        case atStart => exact ⟨0, by omega, rfl, HDA.out, Stay.refl _ _⟩
        case round =>
          obtain ⟨i, hi, rfl, hv, hs⟩ := hrel
          have HV := hid hv
          have HS := hid hs
          have HKW := hid ((hs.sub HDL.out).kp0 HK6.out HL0.out)
          clear hv hs
          by_cases hlt : i < len2
          · obtain ⟨ag, ao, rfl, hat⟩ := (HST2.out.kp0 HKW.out).at_ i hlt
            have hok := HST2.out.ok i hlt
            have HPL : Hid (t.plays X2 (i + 1) = ((t.plays X2 i).dos (X2 i)).1) := rfl
            have hobi := t.plays_ob X2 i
            have HOB : Hid ((t.plays X2 i).ob.length < 100000) := by show _ < _; omega
            obtain ⟨s, hs⟩ : ∃ s, s = X2 i := ⟨_, rfl⟩
            rw [← hs] at hat hok HPL
            have HOK := hid hok
            have hli : (i : Int) < (len2 : Int) := by omega
            have ce0 : wr.cell? ⟨ag, ao + i * 13, none⟩ = some (.int .i64 s.k) := hat 0 _ rfl
            have ce1 : wr.cell? ⟨ag, ao + i * 13 + 1, none⟩ = some (.int .i64 s.mu) := hat 1 _ rfl
            have ce2 : wr.cell? ⟨ag, ao + i * 13 + 2, none⟩ = some (.int .i64 s.act.k) := hat 2 _ rfl
            have ce3 : wr.cell? ⟨ag, ao + i * 13 + 3, none⟩ = some (.int .i64 s.act.a) := hat 3 _ rfl
            have ce4 : wr.cell? ⟨ag, ao + i * 13 + 4, none⟩ = some (.int .i64 s.act.b) := hat 4 _ rfl
            have ce5 : wr.cell? ⟨ag, ao + i * 13 + 5, none⟩ = some (.int .i64 s.act.i) := hat 5 _ rfl
            have ce6 : wr.cell? ⟨ag, ao + i * 13 + 6, none⟩ = some (.int .i64 s.act.n) := hat 6 _ rfl
            have ce7 : wr.cell? ⟨ag, ao + i * 13 + 7, none⟩ = some (.int .i64 s.act.r) := hat 7 _ rfl
            have ce8 : wr.cell? ⟨ag, ao + i * 13 + 8, none⟩ = some (.int .i64 s.act.d) := hat 8 _ rfl
            have ce9 : wr.cell? ⟨ag, ao + i * 13 + 9, none⟩ = some (.int .i64 s.act.s) := hat 9 _ rfl
            have ce10 : wr.cell? ⟨ag, ao + i * 13 + 10, none⟩ = some (.int .i64 s.a) := hat 10 _ rfl
            have ce11 : wr.cell? ⟨ag, ao + i * 13 + 11, none⟩ = some (.int .i64 s.b) := hat 11 _ rfl
            have ce12 : wr.cell? ⟨ag, ao + i * 13 + 12, none⟩ = some (.int .i64 s.c) := hat 12 _ rfl
            clear hat hok hs hobi
            go_wp2_with (fail)
            refine (l_do HV.out HOB.out s HOK.out).mono ?_
            rintro e w7 ⟨rfl, v7, s7⟩
            have HV7 := hid v7
            have HS7 := hid (HS.out.trans s7)
            clear v7 s7
            go_wp2_with (fail)
            go_roundw
            case rel => exact ⟨i + 1, by omega, by go_num, by rw [HPL.out]; exact HV7.out, HS7.out⟩
            case measure => simp [intOf]; omega
          · obtain rfl : i = len2 := by omega
            clear hlt
            obtain ⟨bb, rfl, Rb, hbb⟩ := HDB.out
            have HRB := hid (Rb.stay HS.out hbb HDZ.out)
            have HKI := hid (HDK.out.stay HS.out)
            clear Rb hbb
            go_wp2_with (fail)
            refine (m_state HRB.out).mono ?_
            rintro e w8 ⟨vz, rfl, own8, k8⟩
            have hi2 := m_ints (IsN.of_own own8 HLEN.out) ((HKI.out.isN HLEN.out).kp0 k8)
            rw [eqL_same] at hi2
            have HI2 := hid hi2
            have HK8 := hid (HKW.out.chain k8)
            clear own8 k8 hi2
            go_wp2_with (fail)
            refine HI2.out.mono ?_
            rintro e w9 ⟨rfl, k9⟩
            have HK9 := hid (HK8.out.chain k9)
            clear k9
            go_wp2_with (fail)
            refine (m_alive (HLZ0.out.kp0 HK9.out)).mono ?_
            rintro e wz ⟨rfl, kz⟩
            have HKZ := hid (HK9.out.chain kz)
            clear kz
            go_wp2
            go_ret
            exact ⟨rfl, HKZ.out⟩
end
end Go.Proofs.YtbiompmklijgoaaDoor
