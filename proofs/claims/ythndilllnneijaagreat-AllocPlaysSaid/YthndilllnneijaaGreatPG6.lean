/-
  The contracts of package heap's Kill, Pin, Unpin, Word, At, Forward, and of slices.Clone at numbers. Conditions: those that stand in each theorem.
-/
import Derived.Test.YthndilllnneijaaGreatPG5
set_option linter.unusedSimpArgs false
set_option linter.unusedVariables false
set_option maxHeartbeats 1000000
namespace Go.Proofs.YthndilllnneijaaGreat
open Go.RowKit Go.Deep Go.Maps
def HM.killM (m : HM) (a : Int) : HM := if m.has a then m.del a.toNat else m
def HM.pinM (m : HM) (a : Int) (p : Bool) : HM := if m.has a then (match m.ob a.toNat with | some o => m.add a.toNat (o.setPin p) | none => m) else m
section
variable {w w' : World} {b : HB} {r : RM} {m : HM} {q : Nat}
theorem Kp.all {a c : World} {S : List Nat} (k : Kp S a c) (b : HB) (hS : ∀ x ∈ S, x ∈ b.all) : Kp b.all a c := k.mono (fun x hx => .inl (hS x hx))
theorem Abs.w0 (A : Abs r m) {a : Nat} {o : Ob} (h : m.ob a = some o) : r.ws.getD a 0 = (o.id : Int) := by
 have := A.rep.w_ob _ _ h 0 (by have := (A.inv.ok _ _ h).wd_bd; omega)
 exact this
theorem Abs.w1 (A : Abs r m) {a : Nat} {o : Ob} (h : m.ob a = some o) : r.ws.getD (a + 1) 0 = ((shN o.refs o.data o.kind : Nat) : Int) := by
 have := A.rep.w_ob _ _ h 1 (by have := (A.inv.ok _ _ h).wd_bd; omega)
 exact this
theorem h_uncover_ob (R : Raw w b r) (A : Abs r m) {k : Nat} {o : Ob} (h : m.ob k = some o) (hq : r.born ≤ 1000000000) :
   Calls Tryz.prog 124 #[.pointer (some ⟨b.g, 0, none⟩), .int .i64 (k : Int)] w fun e w' => e = .returned (.tuple #[]) ∧ Raw w' b (r.uncover k o.wd o.id) ∧ Abs (r.uncover k o.wd o.id) (m.del k) ∧ Kp b.all w w' := by
 have ho := A.inv.ok _ _ h
 have hi := A.inv.idb _ _ h
 have hb := A.born
 refine (h_uncover R k o.refs o.data o.kind o.id (by rw [A.wl R]; exact A.inv.hi h) (A.inv.even _ _ h) ho.vld (A.w0 h) (A.w1 h) ⟨by omega, by omega⟩).mono ?_
 rintro e w1 ⟨rfl, R1, K1⟩
 exact ⟨rfl, R1, A.uncover R h, K1.all b (by simp [HB.all])⟩
theorem h_kill (h : SH w b q m) (a : Int) (ha : W64 a) (hq : q ≤ 1000000000) :
   Calls Tryz.prog 51 #[.pointer (some ⟨b.g, 0, none⟩), .int .i64 a] w fun e w' => e = .returned (.int .i64 (m.lackE a)) ∧ SH w' b q (m.killM a) ∧ Kp b.all w w' := by
 have HA := hid ha
 clear ha
 rcases hb : m.has a
 · have e : m.lackE a = 4 := by simp [HM.lackE, hb]
   have e1 : m.killM a = m := by simp [HM.killM, hb]
   have HE := hid e
   rw [e1]; clear e e1
   go_enter Tryz.func51, Tryz.ntmps51
   go_wp2_with (go_at_call 112; refine (h_check h _ HA.out).mono ?_; rintro e w' ⟨rfl, n1, rfl⟩; rw [HE.out])
   go_ret
   rw [HE.out]
   exact ⟨rfl, h.drewN _, (Kp.draw w _).mono (by simp)⟩
 · obtain ⟨k, o, rfl, ho⟩ := has_nat hb
   have e : m.lackE (k : Int) = 0 := by simp [HM.lackE, hb]
   have e1 : m.killM (k : Int) = m.del k := by simp [HM.killM, hb]
   have HE := hid e
   rw [e1]; clear e e1
   have h0 := h
   obtain ⟨r, R, A, hq1, hq2⟩ := h
   have HO := hid ho
   clear ho
   go_enter Tryz.func51, Tryz.ntmps51
   go_wp2_with (first | (go_at_call 112; refine (h_check h0 _ HA.out).mono ?_; rintro e w' ⟨rfl, n1, rfl⟩; rw [HE.out]) | (go_at_call 124; refine (h_uncover_ob (R.drewN _) A HO.out (by omega)).mono ?_; rintro e w2 ⟨rfl, R2, A2, K2⟩; have HR := hid R2; have HA2 := hid A2; have HK := hid K2; clear R2 A2 K2))
   go_ret
   rw [HE.out]
   exact ⟨rfl, ⟨_, HR.out, HA2.out, hq1, hq2⟩, HK.out.from_drewN⟩
theorem lit_inj {c v : Int} (h : (DataW.lit (.int .i64 c) : DataW Unit) = .lit (.int .i64 v)) : c = v := by
 cases h
 rfl
def optV : Option Int → Int
 | some v => v
 | none => 0
def optE : Option Int → Int
 | some _ => 0
 | none => 4
theorem h_at (h : SH w b q m) (i : Int) (hi : W64 i) :
   Calls Tryz.prog 49 #[.pointer (some ⟨b.g, 0, none⟩), .int .i64 i] w fun e w' => e = .returned (.tuple #[.int .i64 (optV (m.atI i)), .int .i64 (optE (m.atI i))]) ∧ ∃ n, w' = w.drewN n := by
 have h0 := h
 obtain ⟨r, R, A, hq1, hq2⟩ := h
 obtain ⟨d1, d2⟩ := A.dp i hi.1 hi.2
 have hkey := keyOf_int_mk (P := Tryz.prog) (k := 3) Tryz.underlying3 (wf64 hi.1 hi.2)
 have HKEY := hid hkey
 have HO : Hid (∀ n, (w.drewN n).ownsMap Tryz.prog 3 (plainElem Tryz.prog 3) b.mp r.q r.Dp) := fun n => R.MP
 have hc := R.c4
 rcases hf : m.atI i with _ | v
 · rw [hf] at d1
   simp only [Option.isSome_none] at d1
   clear d2 hf hkey hi A
   go_enter Tryz.func49, Tryz.ntmps49
   go_wp2_with (first
     | (go_at_call 55; refine h0.made.mono ?_; rintro e w' ⟨rfl, n1, rfl⟩)
     | (at_lookup; refine wpList_lookup_own_ok_int _ rfl _ _ 94 rfl 3 3 .i64 lawInt Tryz.underlying94 Tryz.underlying3 (zeroInt _) b.mp r.q r.Dp rfl (HO.out _) _ _ rfl HKEY.out ?_; intro c hat hwc))
   go_ret2
   exact ⟨rfl, _, rfl⟩
 · rw [hf] at d1
   have d3 := d2 v hf
   have HD := hid d3
   simp only [Option.isSome_some] at d1
   clear d2 hf hkey hi A d3
   go_enter Tryz.func49, Tryz.ntmps49
   go_wp2_with (first
     | (go_at_call 55; refine h0.made.mono ?_; rintro e w' ⟨rfl, n1, rfl⟩)
     | (at_lookup; refine wpList_lookup_own_ok_int _ rfl _ _ 94 rfl 3 3 .i64 lawInt Tryz.underlying94 Tryz.underlying3 (zeroInt _) b.mp r.q r.Dp rfl (HO.out _) _ _ rfl HKEY.out ?_; intro c hat hwc; have HC := hid hat; clear hat))
   go_ret2
   have e : c = v := by
     exact lit_inj (HC.out.symm.trans HD.out)
   rw [e]
   exact ⟨rfl, _, rfl⟩
theorem h_forward (h : SH w b q m) (i : Int) (hi : W64 i) :
   Calls Tryz.prog 48 #[.pointer (some ⟨b.g, 0, none⟩), .int .i64 i] w fun e w' => e = .returned (.tuple #[.int .i64 (optV (m.fwI i)), .int .i64 (optE (m.fwI i))]) ∧ ∃ n, w' = w.drewN n := by
 have h0 := h
 obtain ⟨r, R, A, hq1, hq2⟩ := h
 obtain ⟨d1, d2⟩ := A.df i hi.1 hi.2
 have hkey := keyOf_int_mk (P := Tryz.prog) (k := 3) Tryz.underlying3 (wf64 hi.1 hi.2)
 have HKEY := hid hkey
 have HO : Hid (∀ n, (w.drewN n).ownsMap Tryz.prog 3 (plainElem Tryz.prog 3) b.mf r.q r.Df) := fun n => R.MF
 have hc := R.c5
 rcases hf : m.fwI i with _ | v
 · rw [hf] at d1
   simp only [Option.isSome_none] at d1
   clear d2 hf hkey hi A
   go_enter Tryz.func48, Tryz.ntmps48
   go_wp2_with (first
     | (go_at_call 55; refine h0.made.mono ?_; rintro e w' ⟨rfl, n1, rfl⟩)
     | (at_lookup; refine wpList_lookup_own_ok_int _ rfl _ _ 94 rfl 3 3 .i64 lawInt Tryz.underlying94 Tryz.underlying3 (zeroInt _) b.mf r.q r.Df rfl (HO.out _) _ _ rfl HKEY.out ?_; intro c hat hwc))
   go_ret2
   exact ⟨rfl, _, rfl⟩
 · rw [hf] at d1
   have d3 := d2 v hf
   have HD := hid d3
   simp only [Option.isSome_some] at d1
   clear d2 hf hkey hi A d3
   go_enter Tryz.func48, Tryz.ntmps48
   go_wp2_with (first
     | (go_at_call 55; refine h0.made.mono ?_; rintro e w' ⟨rfl, n1, rfl⟩)
     | (at_lookup; refine wpList_lookup_own_ok_int _ rfl _ _ 94 rfl 3 3 .i64 lawInt Tryz.underlying94 Tryz.underlying3 (zeroInt _) b.mf r.q r.Df rfl (HO.out _) _ _ rfl HKEY.out ?_; intro c hat hwc; have HC := hid hat; clear hat))
   go_ret2
   have e : c = v := by
     exact lit_inj (HC.out.symm.trans HD.out)
   rw [e]
   exact ⟨rfl, _, rfl⟩
end
theorem clone_ints {w : World} {h k c : Nat} {gs : List Int} (hn : 0 < gs.length) (hl : gs.length ≤ 4096) (hh : h < w.heap.size) (hr : ∀ j, j < gs.length → w.cell? ⟨h, k + j, none⟩ = some (.int .i64 (gs.getD j 0))) :
   Calls Tryz.prog 57 #[.slice (some ⟨h, k, none⟩) gs.length c] w (ClonedI w gs) := by
 obtain ⟨i0, hi0, hz0, hz1, hz2⟩ := info_parts infoInt
 have HC : Hid (∀ j u, (zcells gs)[j]? = some u → (w.alloc (.cells #[] 3)).cell? ((⟨h, k, none⟩ : Addr).add j) = some u) := fun j u hu => by
   have hj : j < gs.length := by have := (List.getElem?_eq_some_iff.1 hu).1; simpa [zcells] using this
   have e : u = .int .i64 (gs.getD j 0) := by
     simp [zcells, hj] at hu
     rw [← hu, List.getD_eq_getElem?_getD, List.getElem?_eq_getElem hj]
     rfl
   rw [addr_off, e, ← hr j hj]
   exact World.cell?_of_block ((Kp.new w _).block _ hh (by simp))
 have hnil : ∀ W : World, (binOp .eql 59 (.slice (some ⟨h, k, none⟩) gs.length c) (.slice none 0 0)).run Tryz.prog W = .ok (.bool false) W := fun W => Lib.run_eql_slice_nil W 59 3 (some ⟨h, k, none⟩) gs.length c 0 0 Tryz.underlying59
 clear hr
 go_enter Tryz.func57, Tryz.ntmps57
 go_wp2_with (at_builtin; (refine wpList_append_lies _ rfl (.tmp 5) (.tmp 6) 59 rfl w.heap.size 3 i0 (.int .i64 0) 1 8 Tryz.underlying59 hi0 hz0 hz1 hz2 rfl (by decide) (.slice (some ⟨w.heap.size, 0, none⟩) 0 0) 0 [] rfl (own_empty w 3) ⟨h, k, none⟩ gs.length c (zcells gs) rfl (by simp [zcells]) HC.out zcells_one hn (by unfold maxLen; omega) (by omega) (by simp) (w.heap.size + 1) (by simp) ?_); intro g cap w' hown hgr hat hlt)
 have HO := hid hown
 have HG := hid hgr
 clear hown hgr hnil
 go_wp2
 go_ret
 have hO := HO.out
 rw [Nat.zero_add, List.nil_append] at hO
 obtain ⟨g', c', sp', hv, hB, hb, h1, h2, h3⟩ := own_form hO hn
 injection hv with e1 e2 e3
 injection e1 with e1
 injection e1 with e1
 subst e1 e3
 refine ⟨g, cap, sp', by simp, hB, hb, h1, h2, h3, ?_⟩
 exact (Kp.new w _).trans (Kp.of_grown HG.out) (by simp) (by simp [Value.ownBlock])
section
variable {w w' : World} {b : HB} {r : RM} {m : HM} {q : Nat}
theorem free_of (I : m.Inv) {own k wd : Nat} (he : k % 2 = 0) (hw : wd % 2 = 0) (h : tkB m own k (wd / 2) = false) {x a : Nat} {o : Ob} (h1 : k ≤ x) (h2 : x < k + wd) (ho : m.ob a = some o) (h3 : a ≤ x) (h4 : x < a + o.wd) : a = own := by
 have hae := I.even _ _ ho
 have hwd := (I.ok _ _ ho).wd_bd
 have hlo := I.lo ho
 have h5 := tkB_false.1 h ((x - k) / 2) (by omega)
 rw [own_cov I ho (by omega) (by omega)] at h5
 omega
theorem SH.c5 (h : SH w b q m) : w.cell? ⟨b.g, 5, none⟩ = some (.map (some b.mf)) := by
 obtain ⟨r, R, _⟩ := h
 exact R.c5
end
end Go.Proofs.YthndilllnneijaaGreat
