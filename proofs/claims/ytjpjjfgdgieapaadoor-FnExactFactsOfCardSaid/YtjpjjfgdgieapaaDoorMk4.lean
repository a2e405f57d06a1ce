import Derived.Test.YtjpjjfgdgieapaaDoorMk2
/-! Marks: Prods, plain rules. -/
namespace Go.Proofs.YtjpjjfgdgieapaaDoor
open Go.RowKit Go.Deep
set_option linter.unusedVariables false
set_option maxRecDepth 100000
set_option linter.unusedSimpArgs false

set_option maxHeartbeats 800000 in
theorem markRow_any (l b n : Nat) (w : World) (h : ∃ f, w.rowIs b 3 l f) (hl : l ≤ 1048576) (hn : n + l ≤ 1125899906842624) :
    Calls Tryd.prog 38 #[.slice (some ⟨b, 0, none⟩) l l, .int .i64 n] w fun e w' => e = .returned (.int .i64 (n + l : Nat)) ∧ Out b (b + 1) w w' ∧ ∃ f, w'.rowIs b 3 l f := by
  have HR0 := (show Hid _ from h); clear h
  go_enter Tryd.func38, Tryd.ntmps38
  go_wp2_with fail
  go_loopw [1, 5] (fun u i wr => ∃ (j : Nat), j ≤ l ∧ i = .int .i64 j ∧ u = .int .i64 (n + j : Nat) ∧ Out b (b + 1) w wr ∧ Hid (∃ f, wr.rowIs b 3 l f)) (fun _ i _ => l - (intOf i).toNat)
  case atStart => exact ⟨0, Nat.zero_le _, rfl, rfl, Out.refl _ _ _, HR0⟩
  case round =>
    obtain ⟨j, hj, rfl, rfl, hout, HM⟩ := hrel
    by_cases hlt : j < l
    · obtain ⟨f, hrow⟩ := HM.out
      have e0 := hrow.cell (i := j) (by omega)
      have z0 := hrow.frozen j
      have HR := (show Hid _ from hrow); clear hrow
      go_wp2_with fail
      exact ⟨⟨j + 1, by omega, by go_num, by go_num, hout.trans (Out.set _ _ (Nat.le_refl _) (by omega)), _, World.rowIs.set HR.out j _⟩, by simp [intOf]; omega⟩
    · obtain rfl : j = l := by omega
      go_wp2_with fail
      go_ret
      exact ⟨rfl, hout, HM.out⟩
/-- Prods that may be marked. -/
structure PM (w : World) (lo hi b l : Nat) : Prop where
  ex : ∃ f, w.rowIs b 82 (l * 5) f ∧ ∀ i, i < l → ∃ c m g, f (i * 5 + 1) = .slice (some ⟨c, 0, none⟩) m m ∧ m ≤ 1048576 ∧ lo ≤ c ∧ c < hi ∧ w.rowIs c 3 m g
theorem row_ne {w : World} {b c t t' n m : Nat} {f g : Nat → Value} (h : w.rowIs b t n f) (h' : w.rowIs c t' m g) (ht : t ≠ t') : b ≠ c := by
  rintro rfl
  obtain ⟨x, h1, _⟩ := h
  obtain ⟨y, h2, _⟩ := h'
  rw [h1] at h2
  simp only [Option.some.injEq, Obj.cells.injEq] at h2
  exact ht h2.2.1
theorem row_len {w : World} {b t n m : Nat} {f g : Nat → Value} (h : w.rowIs b t n f) (h' : w.rowIs b t m g) : n = m := by
  obtain ⟨x, h1, k1, _⟩ := h
  obtain ⟨y, h2, k2, _⟩ := h'
  rw [h1] at h2
  simp only [Option.some.injEq, Obj.cells.injEq] at h2
  rw [← k1, ← k2, h2.1]
theorem PM.still {w w' : World} {lo hi b l : Nat} (h : PM w lo hi b l) (hb : Below w.heap.size w w') : PM w' lo hi b l := by
  obtain ⟨f, hr, hf⟩ := h
  refine ⟨f, World.rowIs.of_block hr (hb.block b (World.rowIs.lt hr)), fun i hi => ?_⟩
  obtain ⟨c, m, g, h1, h2, h3, h4, h5⟩ := hf i hi
  exact ⟨c, m, g, h1, h2, h3, h4, World.rowIs.of_block h5 (hb.block c (World.rowIs.lt h5))⟩
theorem PM.set {w : World} {lo hi b l : Nat} (h : PM w lo hi b l) (o : Nat) (u : Value) (ho : o % 5 ≠ 1) : PM (w.setCell ⟨b, o, none⟩ u) lo hi b l := by
  obtain ⟨f, hr, hf⟩ := h
  refine ⟨_, World.rowIs.set hr o u, fun i hi => ?_⟩
  obtain ⟨c, m, g, h1, h2, h3, h4, h5⟩ := hf i hi
  have hne := row_ne hr h5 (by decide)
  exact ⟨c, m, g, by rw [if_neg (by omega)]; exact h1, h2, h3, h4, World.rowIs.of_block h5 (blk_setCell_other _ _ _ _ (by show c ≠ b; exact fun e => hne e.symm))⟩
theorem PM.marked {w w' : World} {lo hi b l c m : Nat} {g : Nat → Value} (h : PM w lo hi b l) (hc : w.rowIs c 3 m g) (ho : Out c (c + 1) w w') (hc' : ∃ f, w'.rowIs c 3 m f) : PM w' lo hi b l := by
  obtain ⟨f, hr, hf⟩ := h
  have hne := row_ne hr hc (by decide)
  refine ⟨f, World.rowIs.of_block hr (ho.2.2.2.2 b (World.rowIs.lt hr) (by omega)), fun i hi => ?_⟩
  obtain ⟨c', m', g', h1, h2, h3, h4, h5⟩ := hf i hi
  by_cases e : c' = c
  · subst e
    have := row_len h5 hc
    subst this
    obtain ⟨g2, h6⟩ := hc'
    exact ⟨c', m', g2, h1, h2, h3, h4, h6⟩
  · exact ⟨c', m', g', h1, h2, h3, h4, World.rowIs.of_block h5 (ho.2.2.2.2 c' (World.rowIs.lt h5) (by omega))⟩
set_option maxHeartbeats 3200000 in
theorem markPds_any (l b lo hi n : Nat) (w : World) (h : PM w lo hi b l) (hlo : lo ≤ b) (hhi : b < hi) (hl : l ≤ 1048576) (h0 : 0 < n) (hn : n + l * 1048580 ≤ 1125899906842624) :
    Calls Tryd.prog 36 #[.slice (some ⟨b, 0, none⟩) l l, .int .i64 n] w fun e w' => ∃ k : Nat, e = .returned (.int .i64 k) ∧ n ≤ k ∧ k ≤ n + l * 1048580 ∧ Out lo hi w w' := by
  have HR0 := (show Hid _ from h); clear h
  go_enter Tryd.func36, Tryd.ntmps36
  go_wp2_with fail
  go_loopw [1, 5] (fun u i wr => ∃ (j k : Nat), j ≤ l ∧ i = .int .i64 j ∧ u = .int .i64 k ∧ n ≤ k ∧ k ≤ n + j * 1048580 ∧ Hid (Out lo hi w wr ∧ PM wr lo hi b l)) (fun _ i _ => l - (intOf i).toNat)
  case atStart => exact ⟨0, n, Nat.zero_le _, rfl, rfl, Nat.le_refl _, by simp, Out.refl _ _ _, HR0.out⟩
  case round =>
    obtain ⟨j, k, hj, rfl, rfl, hk1, hk2, HM⟩ := hrel
    by_cases hlt : j < l
    · have hP := HM.out.2
      obtain ⟨f, hrow, hf⟩ := hP
      obtain ⟨c, m, g, h1, h2, h3, h4, h5⟩ := hf j hlt
      have e0 := World.rowIs.cell hrow (i := j * 5) (by omega)
      have z0 := World.rowIs.frozen hrow (j * 5)
      have e1 := World.rowIs.cell hrow (i := j * 5 + 1) (by omega)
      rw [h1] at e1
      have hcb := row_ne hrow h5 (by decide)
      have HRc := (show Hid (∀ u, (wr.setCell ⟨b, j * 5, none⟩ u).rowIs c 3 m g) from fun u => World.rowIs.of_block h5 (blk_setCell_other _ _ _ _ (by show c ≠ b; omega)))
      have HP0 := (show Hid _ from fun u => PM.set HM.out.2 (j * 5) u (by omega))
      have HO0 := (show Hid _ from fun (u : Value) => Out.trans HM.out.1 (Out.set (o := j * 5) wr u hlo hhi))
      have HT := (show Hid _ from fun (k : Int) (w : World) (h0 : 0 < k) (hk : k ≤ 1125899906842624) => markText_any k w h0 hk)
      have HI := (show Hid _ from fun (u : Value) => markRow_any m c (k + 1) (wr.setCell ⟨b, j * 5, none⟩ u) ⟨_, HRc.out u⟩ h2 (by omega))
      have hkk : ((k + 1 : Nat) : Int) = (k : Int) + 1 := by omega
      rw [hkk] at HI
      clear hrow hf h1 h5 hcb
      have hkm : k + 1 + m ≤ 1125899906842624 := by omega
      clear hkk
      go_wp2_with fail
      refine Calls.mono (HI.out _) ?_
      rintro e w1 ⟨rfl, ho1, hr1⟩
      have HP1 := (show Hid _ from PM.marked (HP0.out _) (HRc.out _) ho1 hr1)
      have HO1 := (show Hid _ from Out.trans (HO0.out _) (Out.mono ho1 h3 (by omega)))
      clear ho1 hr1 e0 z0 e1
      generalize hkq : k + 1 + m = k2 at *
      have hk3 : k + 1 ≤ k2 ∧ k2 ≤ k + 1 + 1048576 := by omega
      clear hkq
      go_wp2_with fail
      refine Calls.mono (HT.out _ _ (by omega) (by omega)) ?_
      rintro e w2 ⟨s0, rfl, _, hb2⟩
      have HP2 := (show Hid _ from PM.still HP1.out hb2)
      have HO2 := (show Hid _ from Out.trans HO1.out (Out.of_below hb2)); clear hb2
      obtain ⟨f2, hrow2, _⟩ := HP2.out
      have e2 := World.rowIs.cell hrow2 (i := j * 5 + 2) (by omega)
      have z2 := World.rowIs.frozen hrow2 (j * 5 + 2)
      have e3 := World.rowIs.cell hrow2 (i := j * 5 + 3) (by omega)
      have z3 := World.rowIs.frozen hrow2 (j * 5 + 3)
      have e4 := World.rowIs.cell hrow2 (i := j * 5 + 4) (by omega)
      have z4 := World.rowIs.frozen hrow2 (j * 5 + 4)
      clear hrow2
      go_wp2_with fail
      refine ⟨⟨j + 1, k2 + 3, by omega, by go_num, by go_num, by omega, by omega, ?_, ?_⟩, by simp [intOf]; omega⟩
      · exact Out.trans (Out.trans (Out.trans HO2.out (Out.set _ _ hlo hhi)) (Out.set _ _ hlo hhi)) (Out.set _ _ hlo hhi)
      · exact PM.set (PM.set (PM.set HP2.out (j * 5 + 2) _ (by omega)) (j * 5 + 3) _ (by omega)) (j * 5 + 4) _ (by omega)
    · obtain rfl : j = l := by omega
      go_wp2_with fail
      go_ret
      exact ⟨k, rfl, hk1, hk2, HM.out.1⟩
end Go.Proofs.YtjpjjfgdgieapaaDoor

/-! Marks: plain rules. -/
namespace Go.Proofs.YtjpjjfgdgieapaaDoor
open Go.RowKit Go.Deep
set_option linter.unusedVariables false
set_option maxRecDepth 100000
set_option linter.unusedSimpArgs false

theorem TmsO.row {w : World} {S : Nat → Prop} {l : List Tm} {v : Value} (h : TmsO w S l v) : ∃ b, v = .slice (some ⟨b, 0, none⟩) l.length l.length ∧ S b ∧ l.length ≤ 1048576 ∧ ∃ f, w.rowIs b 80 (l.length * 3) f := by
  obtain ⟨b, f, hv, h1, hn, hr, _⟩ := h
  exact ⟨b, hv, h1, hn, f, hr⟩
theorem StrsO.row {w : World} {S : Nat → Prop} {l : List ByteArray} {v : Value} (h : StrsO w S l v) : ∃ b, v = .slice (some ⟨b, 0, none⟩) l.length l.length ∧ S b ∧ l.length ≤ 1048576 ∧ ∃ f, w.rowIs b 9 l.length f := by
  obtain ⟨b, f, hv, h1, hn, hr, _⟩ := h
  exact ⟨b, hv, h1, hn, f, hr⟩
theorem PdsO.row {w : World} {lo hi : Nat} {l : List Pd} {v : Value} (h : PdsO w (fun b => lo ≤ b ∧ b < hi) l v) : ∃ b, v = .slice (some ⟨b, 0, none⟩) l.length l.length ∧ (lo ≤ b ∧ b < hi) ∧ l.length ≤ 1048576 ∧ PM w lo hi b l.length := by
  obtain ⟨b, f, hv, h1, hn, hr, hf⟩ := h
  refine ⟨b, hv, h1, hn, f, hr, fun i hi => ?_⟩
  obtain ⟨h2, c, h3, h4, h5⟩ := hf i hi
  exact ⟨c, _, _, h3, h2.2.2.2.2.2, h4.1, h4.2, h5⟩
theorem Four.out {w w' : World} {g lo hi : Nat} {c0 c1 c2 c3 : Value} (h : Four w g c0 c1 c2 c3) (ho : Out lo hi w w') (hg : g < lo ∨ hi ≤ g) : Four w' g c0 c1 c2 c3 := by
  have hb := ho.2.2.2.2 g (lt_of_cell h.1) hg
  exact ⟨(World.cell?_of_block (w := w) hb).trans h.1, (World.cell?_of_block (w := w) hb).trans h.2.1, (World.cell?_of_block (w := w) hb).trans h.2.2.1, (World.cell?_of_block (w := w) hb).trans h.2.2.2⟩
/-- A row of one type stays when a row of another type's block is written. -/
theorem row_out {w w' : World} {b c t t' n m : Nat} {f g : Nat → Value} (h : w.rowIs b t n f) (h' : w.rowIs c t' m g) (ht : t ≠ t') (ho : Out c (c + 1) w w') : w'.rowIs b t n f :=
  World.rowIs.of_block h (ho.2.2.2.2 b (World.rowIs.lt h) (by have := row_ne h h' ht; omega))
theorem PM.past {w w' : World} {lo hi b l c t m : Nat} {g : Nat → Value} (h : PM w lo hi b l) (hc : w.rowIs c t m g) (ht : t ≠ 82) (ht' : t ≠ 3) (ho : Out c (c + 1) w w') : PM w' lo hi b l := by
  obtain ⟨f, hr, hf⟩ := h
  refine ⟨f, row_out hr hc (fun e => ht e.symm) ho, fun i hi => ?_⟩
  obtain ⟨c', m', g', h1, h2, h3, h4, h5⟩ := hf i hi
  exact ⟨c', m', g', h1, h2, h3, h4, row_out h5 hc (fun e => ht' e.symm) ho⟩
set_option maxHeartbeats 3200000 in
theorem markBnf_any (d : Bn) (u0 u1 u3 : Value) (w : World) (lo hi : Nat) (h : BOwn w (fun b => lo ≤ b ∧ b < hi) d u0 u1 u3) (hhi : hi ≤ w.heap.size) :
    Calls Tryd.prog 10 #[.agg #[u0, u1, .int .i64 d.own, u3], .int .i64 1] w fun e w' => ∃ k : Nat, e = .returned (.int .i64 k) ∧ 1 ≤ k ∧ k ≤ 35184372088832 ∧ Out lo hi w w' := by
  obtain ⟨b0, rfl, hb0, hn0, r0⟩ := h.terms.row
  obtain ⟨b1, rfl, hb1, hn1, r1⟩ := h.nons.row
  obtain ⟨b3, rfl, hb3, hn3, r3⟩ := h.prods.row
  clear h
  generalize d.terms.length = l0 at *
  generalize d.nons.length = l1 at *
  generalize d.prods.length = l3 at *
  have hba := bel_alloc w (.cells #[.slice (some ⟨b0, 0, none⟩) l0 l0, .slice (some ⟨b1, 0, none⟩) l1 l1, .int .i64 d.own, .slice (some ⟨b3, 0, none⟩) l3 l3] 38)
  have hq := four_box w (.slice (some ⟨b0, 0, none⟩) l0 l0) (.slice (some ⟨b1, 0, none⟩) l1 l1) (.int .i64 d.own) (.slice (some ⟨b3, 0, none⟩) l3 l3) 38
  obtain ⟨f0, r0⟩ := r0
  obtain ⟨f1, r1⟩ := r1
  have q0 := World.rowIs.of_block r0 (hba.block _ (World.rowIs.lt r0))
  have q1 := World.rowIs.of_block r1 (hba.block _ (World.rowIs.lt r1))
  have q3 := r3.still hba
  have H0 := (show Hid _ from markTms_any l0 b0 1 _ ⟨_, q0⟩ hn0 (by omega) (by omega))
  have HQ := (show Hid _ from (⟨q0, q1, q3, hba, hq⟩ : _ ∧ _ ∧ _ ∧ _ ∧ _))
  obtain ⟨x0, x1, x2, x3⟩ := hq
  clear r0 r1 r3 q0 q1 q3 hba
  go_enter Tryd.func10, Tryd.ntmps10
  go_wp2_with fail
  refine Calls.mono H0.out ?_
  rintro e w1 ⟨rfl, ho1⟩
  obtain ⟨q0, q1, q3, hba, hq⟩ := HQ.out
  have p1 := row_out q1 q0 (by decide) ho1
  have p3 := q3.past q0 (by decide) (by decide) ho1
  have o1 := Out.trans (Out.of_below hba) (Out.mono ho1 hb0.1 (by omega) : Out lo hi _ w1)
  have pq := hq.out ho1 (by omega)
  have H1 := (show Hid _ from markStrs_any l1 b1 (1 + l0 * 3) w1 ⟨_, p1⟩ hn1 (by omega) (by omega))
  clear x0 x1 x2 x3 HQ q0 q1 q3 hba hq ho1 H0
  have HQ := (show Hid _ from (⟨p1, p3, o1, pq⟩ : _ ∧ _ ∧ _ ∧ _))
  obtain ⟨x0, x1, x2, x3⟩ := pq
  clear p1 p3 o1
  generalize hk1 : 1 + l0 * 3 = k1 at *
  have hk1' : 1 ≤ k1 ∧ k1 ≤ 3145729 := by omega
  clear hk1
  go_wp2_with fail
  refine Calls.mono H1.out ?_
  rintro e w2 ⟨rfl, ho2⟩
  obtain ⟨p1, p3, o1, pq⟩ := HQ.out
  have s3 := p3.past p1 (by decide) (by decide) ho2
  have o2 := Out.trans o1 (Out.mono ho2 hb1.1 (by omega) : Out lo hi _ w2)
  have sq := pq.out ho2 (by omega)
  have H2 := (show Hid _ from markPds_any l3 b3 lo hi (k1 + l1) w2 s3 hb3.1 hb3.2 hn3 (by omega) (by omega))
  clear x0 x1 x2 x3 HQ p1 p3 o1 pq ho2 H1 s3
  have HO := (show Hid _ from o2); clear o2
  obtain ⟨x0, x1, x2, x3⟩ := sq
  generalize hk2 : k1 + l1 = k2 at *
  have hk2' : 1 ≤ k2 ∧ k2 ≤ 4194305 := by omega
  clear hk2
  go_wp2_with fail
  refine Calls.mono H2.out ?_
  rintro e w3 ⟨k3, rfl, hk3, hk3', ho3⟩
  have HO3 := (show Hid _ from Out.trans HO.out ho3); clear ho3 x0 x1 x2 x3
  go_wp2_with fail
  go_ret
  exact ⟨k3, rfl, by omega, by omega, HO3.out⟩
end Go.Proofs.YtjpjjfgdgieapaaDoor
