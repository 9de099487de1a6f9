/-
  The contract of package roots' filled and Places. Conditions: those that stand in each theorem.
-/
import Derived.Test.YtnidadhoojbmeaaRj
import Derived.Maps.OwnIn
namespace Go.Proofs.Ytnidadhoojbmeaa
set_option linter.unusedVariables false
set_option linter.unusedSimpArgs false
open Go.RowKit Go.Deep Go.Maps Go.Shelf
attribute [local go_sem] Oper.semAt_some

section
variable {w w' : World} {b : RB} {t : RT}
theorem r_filled (w : World) (b : RB) :
    Calls Try.prog 40 #[.pointer (some ⟨b.g, 0, none⟩)] w fun e w' => e = .returned (.func (.func 49) #[] #[.pointer (some ⟨w.heap.size, 0, none⟩)]) ∧ w' = w.alloc (.cells #[.pointer (some ⟨b.g, 0, none⟩)] 25) := by
  go_enter Try.func40, Try.ntmps40
  go_wp2
  go_ret
  exact ⟨rfl, rfl⟩
/-- Blocks of the iterator's: apart from these, laid since n₀, there. -/
structure Apart (S : List Nat) (n₀ : Nat) (W : World) (T : List Nat) : Prop where
  lo : ∀ x ∈ S, n₀ ≤ x
  hi : ∀ x ∈ S, x < W.heap.size
  ne_ : ∀ x ∈ T, x ∉ S
theorem Apart.step {S T : List Nat} {n₀ : Nat} {W W' : World} (h : Apart S n₀ W T) (hn : n₀ ≤ W.heap.size) (hT : ∀ x ∈ T, x < W.heap.size) (k : Kp S W W') : Apart (newBl W W' ++ S) n₀ W' T := by
  refine ⟨fun x hx => ?_, fun x hx => ?_, fun x hx hc => ?_⟩
  · rcases List.mem_append.1 hx with h1 | h1
    · have := (mem_newBl.1 h1).1; omega
    · exact h.lo x h1
  · rcases List.mem_append.1 hx with h1 | h1
    · exact (mem_newBl.1 h1).2
    · exact Nat.lt_of_lt_of_le (h.hi x h1) k.size
  · rcases List.mem_append.1 hc with h1 | h1
    · have := (mem_newBl.1 h1).1; have := hT x hx; omega
    · exact h.ne_ x hx h1
theorem Apart.more {S T T' : List Nat} {n₀ : Nat} {W W' : World} (h : Apart S n₀ W T) (hs : W.heap.size ≤ W'.heap.size) (hT : ∀ x ∈ T', x ∈ T ∨ W.heap.size ≤ x) : Apart S n₀ W' T' :=
  ⟨h.lo, fun x hx => Nat.lt_of_lt_of_le (h.hi x hx) hs, fun x hx hc => (hT x hx).elim (fun h1 => h.ne_ x h1 hc) (fun h1 => by have := h.hi x hc; omega)⟩
/-- What holds between two rounds of a loop that collects places. -/
structure IPl (w : World) (b : RB) (t : RT) (Bl Br : Nat) (pre : List Pl) (S : List Nat) (W : World) : Prop where
  ex : ∃ v, Blk W Bl 47 #[v] ∧ W.ownsRow w.heap.size 33 3 v pre.length (plcells pre) ∧ Apart S w.heap.size W (Bl :: Br :: (v.ownBlock.toList ++ b.all))
  br : Blk W Br 25 #[.pointer (some ⟨b.g, 0, none⟩)]
  rr : RR W b t
  kp : Kp [] w W
theorem blk_of_own {W : World} {B : Nat} {e : TypeId} {z n : Nat} {v : Value} {xs : List Value} (h : W.ownsRow B e z v n xs) : ∀ g ∈ v.ownBlock.toList, g < W.heap.size := fun g hg => own_lt h g (by simpa using hg)
theorem IPl.ab (w : World) (b : RB) (t : RT) (Bl Br : Nat) : AbOwn (IPl w b t Bl Br) := by
  intro pre S W W' h k
  obtain ⟨v, h1, h2, h3⟩ := h.ex
  have hbl := h3.ne_ Bl (by simp)
  have hbr := h3.ne_ Br (by simp)
  have hv : ∀ g ∈ v.ownBlock.toList, g ∉ S := fun g hg => h3.ne_ g (by simp only [List.mem_cons, List.mem_append]; exact .inr (.inr (.inl hg)))
  have hb : ∀ x ∈ b.all, x ∉ S := fun x hx => h3.ne_ x (by simp only [List.mem_cons, List.mem_append]; exact .inr (.inr (.inr hx)))
  refine ⟨⟨v, h1.kp k hbl, own_kps h2 k (fun g hg => hv g (by simpa using hg)), h3.step h.kp.size (fun x hx => ?_) k⟩, h.br.kp k hbr, h.rr.kp k hb, h.kp.trans k (U := []) (by simp) (fun x hx => .inr (h3.lo x hx))⟩
  simp only [List.mem_cons, List.mem_append] at hx
  rcases hx with rfl | rfl | hx | hx
  · exact h1.lt
  · exact h.br.lt
  · exact blk_of_own h2 x hx
  · exact h.rr.lt x hx
theorem Kp.put (W : World) (l : Nat) (o : Obj) : Kp [l] W (W.putObj l o) := ⟨rfl, rfl, rfl, by simp, fun k _ hn => World.putObj_heap_other (fun e => hn (by simp [e]))⟩
theorem rowUp_le (t : RT) (p : Pl) (i : Nat) : (t.rowUp p i).length ≤ i := by
  induction i with
  | zero => exact Nat.le_refl _
  | succ i ih =>
    show (t.rowUp p i ++ (if (t.row p).getD i 0 ≠ 0 then _ else _)).length ≤ _
    rw [List.length_append]
    split <;> simp <;> omega
theorem xsUp_le {t : RT} (ok : t.Ok) (j : Nat) : (t.xsUp j).length ≤ 64 * j := by
  induction j with
  | zero => exact Nat.le_refl _
  | succ j ih =>
    show (t.xsUp j ++ t.rowUp _ _).length ≤ _
    rw [List.length_append]
    have h1 := rowUp_le t ((firstsL t.n).getD j ⟨0, 0, 0⟩) (t.row ((firstsL t.n).getD j ⟨0, 0, 0⟩)).length
    have h2 : (t.row ((firstsL t.n).getD j ⟨0, 0, 0⟩)).length ≤ 64 := by
      have a1 := ok.gl
      have a2 := ok.qu
      unfold RT.row
      split
      · simp; omega
      · split
        · omega
        · omega
    omega
theorem xs_le {t : RT} (ok : t.Ok) : t.xs.length ≤ 384 := by
  have := xsUp_le ok (t.n + 2)
  have := ok.n4
  unfold RT.xs
  omega
theorem keepsFrom_kp {T : List Nat} {B : Nat} {W W' : World} (k : Kp T W W') (hT : ∀ x ∈ T, ∀ o, W.heap[x]? = some o → o.isCells = true) : KeepsFrom B W W' :=
  ⟨k.size, fun i o _ hi ho => (k.block i (Array.getElem?_eq_some_iff.1 hi).1 (fun hm => by have := hT i hm o hi; rw [this] at ho; cases ho)).trans hi⟩
theorem keepS_kp {S T : List Nat} {W W' : World} (k : Kp T W W') (h : ∀ x ∈ T, x ∉ S) : KeepS S W W' := ⟨k.size, fun i hi hl => k.block i hl (fun hm => h i hm hi)⟩
theorem Blk.isC {W : World} {g : Nat} {ty : TypeId} {cs : Array Value} (h : Blk W g ty cs) : ∀ o, W.heap[g]? = some o → o.isCells = true := fun o ho => by
  unfold Blk at h; rw [h] at ho; cases ho; rfl
theorem own_isC {W : World} {B : Nat} {e : TypeId} {z n : Nat} {v : Value} {xs : List Value} (h : W.ownsRow B e z v n xs) : ∀ g ∈ v.ownBlock.toList, ∀ o, W.heap[g]? = some o → o.isCells = true := fun g hg o ho => by
  rcases h.2 with ⟨rfl, _⟩ | ⟨g', cap, cur, rfl, _, hb, _⟩
  · simp [Value.ownBlock] at hg
  · simp [Value.ownBlock] at hg; subst hg; rw [hb] at ho; cases ho; rfl
theorem RR.isC {W : World} {b : RB} {t : RT} (R : RR W b t) : ∀ g ∈ b.all, ∀ o, W.heap[g]? = some o → o.isCells = true := fun g hg => by
  obtain ⟨c, sp, _, _, _, G, B⟩ := R.mem
  simp only [RB.all, List.mem_cons] at hg
  rcases hg with rfl | rfl | hg
  · exact G.isC
  · exact B.isC
  · exact own_isC R.Q g hg
theorem IPl.own_ {w w0 : World} {b : RB} {t : RT} {Bl Br : Nat} (hw : w.heap.size ≤ w0.heap.size) (S : List Nat) : OwnFrom w0.heap.size (fun pre W => IPl w b t Bl Br pre S W) := by
  intro pre X Y row h hg hr
  obtain ⟨v, h1, h2, h3⟩ := h.ex
  have k : Kp row.toList X Y := Kp.of_grown hg
  have hne : ∀ g, (∀ o, X.heap[g]? = some o → o.isCells = true) → g ∉ row.toList := fun g hc hm => by
    obtain ⟨_, o, ho, hoc⟩ := hr g (by simpa using hm)
    rw [hc o ho] at hoc; cases hoc
  refine ⟨⟨v, h1.kp k (hne _ h1.isC), own_kps h2 k (fun g hg => hne g (own_isC h2 g (by simpa using hg))), h3.more k.size (fun x hx => .inl hx)⟩, h.br.kp k (hne _ h.br.isC), h.rr.kp k (fun x hx => hne x (h.rr.isC x hx)), h.kp.trans k (U := []) (by simp) (fun x hx => .inr ?_)⟩
  have := (hr x (by simpa using hx)).1
  omega
set_option maxRecDepth 100000 in
set_option maxHeartbeats 4000000 in
theorem r_places (R : RR w b t) :
    Calls Try.prog 16 #[.pointer (some ⟨b.g, 0, none⟩)] w (RowPl w.heap.size w t.xs) := by
  have HR := hid R
  clear R
  refine (callsIn_wide (n := 3)).1 ?_
  refine callsIn_of_wp_marks Try.func16 rfl trivial ?_ rfl
  simp only [Try.ntmps16, List.size_toArray, List.length_cons, List.length_nil, Nat.reduceAdd, Nat.reduceSub, Array.replicate_succ, Array.replicate_zero, List.push_toArray, List.append_toArray, List.nil_append, List.cons_append]
  gi_wp2
  refine ⟨trivial, ?_⟩
  refine (callsIn_wide.2 (r_made HR.out)).mono ?_
  rintro e w1 ⟨rfl, n1, rfl⟩
  gi_wp2
  refine ⟨trivial, ?_⟩
  refine (callsIn_wide.2 (r_filled _ b)).mono ?_
  rintro e w2 ⟨rfl, rfl⟩
  gi_wp2
  have HX := hid (xs_le HR.out.ok)
  have HOK := hid HR.out.ok
  obtain ⟨i0, hi0, hz0, hz1, hz2⟩ := info_parts infoPlace
  obtain ⟨w0, hw0⟩ : ∃ w0, w0 = (((w.drewN n1).alloc (.cells #[.slice none 0 0] 47)).alloc (.cells #[.pointer (some ⟨b.g, 0, none⟩)] 25)) := ⟨_, rfl⟩
  have kw0 : Kp [] w w0 := by rw [hw0]; exact ((Kp.draw w n1).chain (Kp.new _ _)).chain (Kp.new _ _)
  have hbl0 : Blk w0 w.heap.size 47 #[.slice none 0 0] := by rw [hw0]; exact (Blk.new (w.drewN n1) 47 _).kp (Kp.new _ _) (by simp)
  have hbr0 : Blk w0 (w.heap.size + 1) 25 #[.pointer (some ⟨b.g, 0, none⟩)] := by
    rw [hw0]
    have := Blk.new ((w.drewN n1).alloc (.cells #[.slice none 0 0] 47)) 25 #[.pointer (some ⟨b.g, 0, none⟩)]
    simpa [World.drewN] using this
  have hw0s : w.heap.size ≤ w0.heap.size := kw0.size
  have hI0 : IPl w b t w.heap.size (w.heap.size + 1) [] [] w0 := ⟨⟨.slice none 0 0, hbl0, ⟨rfl, .inl ⟨rfl, rfl⟩⟩, ⟨by simp, by simp, by simp⟩⟩, hbr0, HR.out.kp0 kw0, kw0⟩
  rw [← hw0]
  have HW0S := hid hw0s
  have HI0 := hid hI0
  clear hw0 kw0 hbl0 hbr0 hw0s hI0
  refine range_iter rfl (by omega) (gf := 49) (lb := #[.pointer (some ⟨w.heap.size + 1, 0, none⟩)]) rfl trivial (enters_of Try.func49 (by kernel_rfl) rfl)
    (filled_iter HOK.out (w.heap.size + 1)) (fun _ => rfl) (IPl w b t w.heap.size (w.heap.size + 1)) (fun pre S W h => ⟨h.br, t, t.like_refl, h.rr⟩) (IPl.ab w b t _ _) (IPl.own_ HW0S.out) HI0.out
    (fun x a' W => ∃ Bx, Blk W Bx 33 #[.int .i64 (x.k : Int), .int .i64 (x.m : Int), .int .i64 (x.i : Int)] ∧ a' = { tmps := #[.pointer (some ⟨b.g, 0, none⟩), undef, .slice none 0 0, .pointer (some ⟨w.heap.size, 0, none⟩), .pointer (some ⟨Bx, 0, none⟩), .pointer (some ⟨b.g, 0, none⟩), .bool true, .bool false, .pointer (some ⟨b.g, 0, none⟩), .func (.func 49) #[] #[.pointer (some ⟨w.heap.size + 1, 0, none⟩)], x.val, .pointer (some (b.adr x)), undef, undef, undef, undef, undef], defers := [] }) ?ax ?assign ?body ?done
  case ax =>
    rintro x a' _ X Y row ⟨Bx, hb, rfl⟩ hg hr
    exact ⟨Bx, hb.kp (Kp.of_grown hg) (fun hm => by
      obtain ⟨_, o, ho, hoc⟩ := hr Bx (by simpa using hm)
      rw [hb.isC o ho] at hoc; cases hoc), rfl⟩
  case assign =>
    intro l pre x S W K hI hK
    obtain ⟨pk, pm, pi⟩ := x
    have HI := hid hI
    have HK := hid hK
    clear hI hK
    dsimp only [RB.encs, Pl.val]
    gi_wp2
    have kn : Kp [] W (W.alloc (.cells #[.int .i64 (pk : Int), .int .i64 (pm : Int), .int .i64 (pi : Int)] 33)) := Kp.new _ _
    obtain ⟨v, h1, h2, h3⟩ := HI.out.ex
    exact HK.out _ _ (keepsFrom_kp kn (by simp)) (keepS_kp kn (by simp)) ⟨⟨v, h1.kp kn (by simp), own_kp0 h2 kn, h3.more kn.size (fun x hx => .inl hx)⟩, HI.out.br.kp kn (by simp), HI.out.rr.kp0 kn, HI.out.kp.chain kn⟩ ⟨W.heap.size, Blk.new _ _ _, rfl⟩
  case body =>
    rintro l pre x S a' W hI ⟨Bx, hbx, rfl⟩ hpre
    obtain ⟨pk, pm, pi⟩ := x
    obtain ⟨v, h1, h2, h3⟩ := hI.ex
    have hlen : pre.length < 384 := by
      have := hpre.length_le
      have := HX.out
      simp at *
      omega
    have cl := h1.cell 0
    have fl := h1.frozen 0
    have c0 := hbx.cell 0
    have c1 := hbx.cell 1
    have c2 := hbx.cell 2
    simp only at c0 c1 c2
    have HI := hid hI
    have H1 := hid h1
    have H2 := hid h2
    have H3 := hid h3
    have HSZ := hid hI.kp.size
    have HN := hid (blk_newV W [.int .i64 (pk : Int), .int .i64 (pm : Int), .int .i64 (pi : Int)] 33)
    have NONE : ∀ u ∈ ([.int .i64 (pk : Int), .int .i64 (pm : Int), .int .i64 (pi : Int)] : List Value), u.oneCell' = true := by
      intro u hu; simp only [List.mem_cons, List.not_mem_nil, or_false] at hu; rcases hu with rfl | rfl | rfl <;> rfl
    clear hI h1 h2 h3 hbx
    dsimp only [Pl.val]
    gi_wp2_with (first
      | (gi_at_builtin; refine wpListIn_append_own_at _ rfl (.tmp 12) (.tmp 14) 47 rfl w.heap.size 33 i0 (.agg #[.int .i64 0, .int .i64 0, .int .i64 0]) 3 24 Try.underlying47 hi0 hz0 hz1 hz2 rfl (by decide) _ _ _ rfl (H2.out.alloc _) ⟨W.heap.size, 0, none⟩ 1 1 [.int .i64 (pk : Int), .int .i64 (pm : Int), .int .i64 (pi : Int)] rfl rfl HN.out NONE (by unfold maxLen; omega) (by omega) (by have := HSZ.out; simp; omega) ?_; intro v' w9 hown' hgr _ hat; have hk9 : Kp v.ownBlock.toList W w9 := (Kp.new _ _).trans (Kp.of_grown hgr) (by simp) (fun x hx => .inl hx); have HAT : Hid (v'.ownBlock = v.ownBlock ∨ v'.ownBlock = some (W.heap.size + 1)) := (by first | exact hat | (simp at hat; exact hat)); have hbl9 := H1.out.kp hk9 (fun hm => by rcases H2.out.2 with ⟨hv, _⟩ | ⟨g', c', cur', hv, _, hb', _⟩; (· rw [hv] at hm; simp [Value.ownBlock] at hm); (· rw [hv] at hm; simp [Value.ownBlock] at hm; exact Blk.ne_ H1.out (show Blk W g' _ cur' from hb') (by decide) hm)); have cl9 := hbl9.cell 0; have fl9 := hbl9.frozen 0; have HBL9 := hid hbl9; have HK9 := hid hk9; have HO' := hid hown'; obtain ⟨g9, c9, rfl⟩ : ∃ g c, v' = .slice (some ⟨g, 0, none⟩) (pre.length + 1) c := (by rcases hown'.2 with ⟨_, hz⟩ | ⟨g', c', cur', hv, _⟩; (· omega); (· exact ⟨g', c', hv⟩)); clear hown' hgr hat hk9 hbl9))
    have kc : Kp [w.heap.size] w9 (w9.setCell ⟨w.heap.size, 0, none⟩ (.slice (some ⟨g9, 0, none⟩) (pre.length + 1) c9)) := Kp.cell w9 ⟨w.heap.size, 0, none⟩ _
    have kA : Kp (w.heap.size :: v.ownBlock.toList) W (w9.setCell ⟨w.heap.size, 0, none⟩ (.slice (some ⟨g9, 0, none⟩) (pre.length + 1) c9)) := HK9.out.trans kc (fun x hx => .inl (List.mem_cons_of_mem _ hx)) (fun x hx => .inl (by simp at hx; simp [hx]))
    have hdisj : ∀ x ∈ w.heap.size :: v.ownBlock.toList, x ∉ S := fun x hx => H3.out.ne_ x (by
      simp only [List.mem_cons, List.mem_append] at hx ⊢
      rcases hx with h | h
      · exact .inl h
      · exact .inr (.inr (.inl h)))
    have hge : ∀ x ∈ w.heap.size :: v.ownBlock.toList, w.heap.size ≤ x := fun x hx => by
      rcases List.mem_cons.1 hx with rfl | h
      · exact Nat.le_refl _
      · rcases H2.out.2 with ⟨hv, _⟩ | ⟨g', c', cur', hv, hle, hb', _⟩
        · rw [hv] at h; simp [Value.ownBlock] at h
        · rw [hv] at h; simp [Value.ownBlock] at h; subst h; omega
    have hne9 : ∀ g ∈ (Value.slice (some ⟨g9, 0, none⟩) (pre.length + 1) c9).ownBlock.toList, g ≠ w.heap.size := fun g hg => by
      rcases HO'.out.2 with ⟨hv, _⟩ | ⟨g', c', cur', hv, _, hb', _⟩
      · cases hv
      · cases hv
        simp [Value.ownBlock] at hg
        rw [hg]
        exact (Blk.ne_ HBL9.out (show Blk w9 _ _ cur' from hb') (by decide)).symm
    refine ⟨keepsFrom_kp kA (fun x hx => ?_), keepS_kp kA hdisj, ⟨⟨.slice (some ⟨g9, 0, none⟩) (pre.length + 1) c9, ?_, ?_, ?_⟩, ?_, ?_, ?_⟩⟩
    · rcases List.mem_cons.1 hx with rfl | h
      · exact H1.out.isC
      · exact own_isC H2.out x h
    · exact HBL9.out.set_ 0 _
    · have := own_kps HO'.out kc (fun g hg => by simpa using hne9 g (by simpa using hg))
      rw [List.length_append, plcells_append]
      exact this
    · refine H3.out.more kA.size (fun x hx => ?_)
      simp only [List.mem_cons, List.mem_append] at hx ⊢
      rcases hx with h | h | h | h
      · exact .inl (.inl h)
      · exact .inl (.inr (.inl h))
      · rcases HAT.out with e | e
        · exact .inl (.inr (.inr (.inl (by rw [← e]; exact h))))
        · rw [e] at h; simp at h; exact .inr (by omega)
      · exact .inl (.inr (.inr (.inr h)))
    · refine HI.out.br.kp kA (fun hm => ?_)
      rcases List.mem_cons.1 hm with h | h
      · omega
      · rcases H2.out.2 with ⟨hv, _⟩ | ⟨g', c', cur', hv, _, hb', _⟩
        · rw [hv] at h; simp [Value.ownBlock] at h
        · rw [hv] at h; simp [Value.ownBlock] at h
          exact Blk.ne_ HI.out.br (show Blk W g' _ cur' from hb') (by decide) h
    · refine HI.out.rr.kp kA (fun x hx hm => ?_)
      have := HR.out.lt x hx
      have := hge x hm
      omega
    · exact HI.out.kp.trans kA (U := []) (by simp) (fun x hx => .inr (hge x hx))
  case done =>
    rintro D S W hD h hDK
    obtain ⟨v, h1, h2, h3⟩ := h.ex
    have cl := h1.cell 0
    have fl := h1.frozen 0
    have H2 := hid h2
    have HKP := hid h.kp
    clear h h1 h2
    gi_wp2
    refine ⟨by simp, .inl ⟨_, _, rfl, run_takeDeferred hDK, ?_⟩⟩
    exact ⟨_, results_tmp rfl _ _ _, v, rfl, Go.ownsRow_putObj H2.out _ hDK rfl, (HKP.out.trans (Kp.put W D _) (U := [D]) (by simp) (fun x hx => .inl hx)).below (Nat.le_refl _) (fun x hx => by simp at hx; have := HW0S.out; omega)⟩
end
end Go.Proofs.Ytnidadhoojbmeaa
