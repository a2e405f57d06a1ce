import Derived.Test.YtaimlmjgicmbeaaMk2
/-! Marks: Prods, plain rules. -/
namespace Go.Proofs.Ytaimlmjgicmbeaa
open Go.RowKit Go.Deep
set_option linter.unusedVariables false
set_option maxRecDepth 100000
set_option linter.unusedSimpArgs false

set_option maxHeartbeats 800000 in
theorem markRow_any (l b n : Nat) (w : World) (h : ∃ f, w.rowIs b 3 l f) (hl : l ≤ 1048576) (hn : n + l ≤ 1125899906842624) :
    Calls Try.prog 13 #[.slice (some ⟨b, 0, none⟩) l l, .int .i64 n] w fun e w' => e = .returned (.int .i64 (n + l : Nat)) ∧ Out b (b + 1) w w' ∧ ∃ f, w'.rowIs b 3 l f := by
  have HR0 := (show Hid _ from h); clear h
  go_enter Try.func13, Try.ntmps13
  go_wp2_with fail
  go_loopw [1, 5] (fun u i wr => ∃ (j : Nat), j ≤ l ∧ i = .int .i64 j ∧ u = .int .i64 (n + j : Nat) ∧ Out b (b + 1) w wr ∧ Hid (∃ f, wr.rowIs b 3 l f)) (fun _ i _ => l - (intOf i).toNat)
  case atStart => exact ⟨0, Nat.zero_le _, rfl, rfl, Out.refl _ _ _, HR0⟩
  case round =>
    obtain ⟨j, hj, rfl, rfl, hout, HM⟩ := hrel
    by_cases hlt : j < l
    · obtain ⟨f, hrow⟩ := HM.out
      have e0 := hrow.cell (i := j) (by omega)
      have z0 := hrow.frozen j
      have HR := (show Hid _ from hrow); clear hrow
      go_wp2_with fail
      exact ⟨⟨j + 1, by omega, by go_num, by go_num, hout.trans (Out.set _ _ (Nat.le_refl _) (by omega)), _, World.rowIs.set HR.out j _⟩, by simp [intOf]; omega⟩
    · obtain rfl : j = l := by omega
      go_wp2_with fail
      go_ret
      exact ⟨rfl, hout, HM.out⟩
/-- Prods that may be marked. -/
structure PM (w : World) (lo hi b l : Nat) : Prop where
  ex : ∃ f, w.rowIs b 66 (l * 5) f ∧ ∀ i, i < l → ∃ c m g, f (i * 5 + 1) = .slice (some ⟨c, 0, none⟩) m m ∧ m ≤ 1048576 ∧ lo ≤ c ∧ c < hi ∧ w.rowIs c 3 m g
theorem row_ne {w : World} {b c t t' n m : Nat} {f g : Nat → Value} (h : w.rowIs b t n f) (h' : w.rowIs c t' m g) (ht : t ≠ t') : b ≠ c := by
  rintro rfl
  obtain ⟨x, h1, _⟩ := h
  obtain ⟨y, h2, _⟩ := h'
  rw [h1] at h2
  simp only [Option.some.injEq, Obj.cells.injEq] at h2
  exact ht h2.2.1
theorem row_len {w : World} {b t n m : Nat} {f g : Nat → Value} (h : w.rowIs b t n f) (h' : w.rowIs b t m g) : n = m := by
  obtain ⟨x, h1, k1, _⟩ := h
  obtain ⟨y, h2, k2, _⟩ := h'
  rw [h1] at h2
  simp only [Option.some.injEq, Obj.cells.injEq] at h2
  rw [← k1, ← k2, h2.1]
theorem PM.still {w w' : World} {lo hi b l : Nat} (h : PM w lo hi b l) (hb : Below w.heap.size w w') : PM w' lo hi b l := by
  obtain ⟨f, hr, hf⟩ := h
  refine ⟨f, World.rowIs.of_block hr (hb.block b (World.rowIs.lt hr)), fun i hi => ?_⟩
  obtain ⟨c, m, g, h1, h2, h3, h4, h5⟩ := hf i hi
  exact ⟨c, m, g, h1, h2, h3, h4, World.rowIs.of_block h5 (hb.block c (World.rowIs.lt h5))⟩
theorem PM.set {w : World} {lo hi b l : Nat} (h : PM w lo hi b l) (o : Nat) (u : Value) (ho : o % 5 ≠ 1) : PM (w.setCell ⟨b, o, none⟩ u) lo hi b l := by
  obtain ⟨f, hr, hf⟩ := h
  refine ⟨_, World.rowIs.set hr o u, fun i hi => ?_⟩
  obtain ⟨c, m, g, h1, h2, h3, h4, h5⟩ := hf i hi
  have hne := row_ne hr h5 (by decide)
  exact ⟨c, m, g, by rw [if_neg (by omega)]; exact h1, h2, h3, h4, World.rowIs.of_block h5 (blk_setCell_other _ _ _ _ (by show c ≠ b; exact fun e => hne e.symm))⟩
theorem PM.marked {w w' : World} {lo hi b l c m : Nat} {g : Nat → Value} (h : PM w lo hi b l) (hc : w.rowIs c 3 m g) (ho : Out c (c + 1) w w') (hc' : ∃ f, w'.rowIs c 3 m f) : PM w' lo hi b l := by
  obtain ⟨f, hr, hf⟩ := h
  have hne := row_ne hr hc (by decide)
  refine ⟨f, World.rowIs.of_block hr (ho.2.2.2.2 b (World.rowIs.lt hr) (by omega)), fun i hi => ?_⟩
  obtain ⟨c', m', g', h1, h2, h3, h4, h5⟩ := hf i hi
  by_cases e : c' = c
  · subst e
    have := row_len h5 hc
    subst this
    obtain ⟨g2, h6⟩ := hc'
    exact ⟨c', m', g2, h1, h2, h3, h4, h6⟩
  · exact ⟨c', m', g', h1, h2, h3, h4, World.rowIs.of_block h5 (ho.2.2.2.2 c' (World.rowIs.lt h5) (by omega))⟩
set_option maxHeartbeats 3200000 in
theorem markPds_any (l b lo hi n : Nat) (w : World) (h : PM w lo hi b l) (hlo : lo ≤ b) (hhi : b < hi) (hl : l ≤ 1048576) (h0 : 0 < n) (hn : n + l * 1048580 ≤ 1125899906842624) :
    Calls Try.prog 33 #[.slice (some ⟨b, 0, none⟩) l l, .int .i64 n] w fun e w' => ∃ k : Nat, e = .returned (.int .i64 k) ∧ n ≤ k ∧ k ≤ n + l * 1048580 ∧ Out lo hi w w' := by
  have HR0 := (show Hid _ from h); clear h
  go_enter Try.func33, Try.ntmps33
  go_wp2_with fail
  go_loopw [1, 5] (fun u i wr => ∃ (j k : Nat), j ≤ l ∧ i = .int .i64 j ∧ u = .int .i64 k ∧ n ≤ k ∧ k ≤ n + j * 1048580 ∧ Hid (Out lo hi w wr ∧ PM wr lo hi b l)) (fun _ i _ => l - (intOf i).toNat)
  case atStart => exact ⟨0, n, Nat.zero_le _, rfl, rfl, Nat.le_refl _, by simp, Out.refl _ _ _, HR0.out⟩
  case round =>
    obtain ⟨j, k, hj, rfl, rfl, hk1, hk2, HM⟩ := hrel
    by_cases hlt : j < l
    · have hP := HM.out.2
      obtain ⟨f, hrow, hf⟩ := hP
      obtain ⟨c, m, g, h1, h2, h3, h4, h5⟩ := hf j hlt
      have e0 := World.rowIs.cell hrow (i := j * 5) (by omega)
      have z0 := World.rowIs.frozen hrow (j * 5)
      have e1 := World.rowIs.cell hrow (i := j * 5 + 1) (by omega)
      rw [h1] at e1
      have hcb := row_ne hrow h5 (by decide)
      have HRc := (show Hid (∀ u, (wr.setCell ⟨b, j * 5, none⟩ u).rowIs c 3 m g) from fun u => World.rowIs.of_block h5 (blk_setCell_other _ _ _ _ (by show c ≠ b; omega)))
      have HP0 := (show Hid _ from fun u => PM.set HM.out.2 (j * 5) u (by omega))
      have HO0 := (show Hid _ from fun (u : Value) => Out.trans HM.out.1 (Out.set (o := j * 5) wr u hlo hhi))
      have HT := (show Hid _ from fun (k : Int) (w : World) (h0 : 0 < k) (hk : k ≤ 1125899906842624) => markText_any k w h0 hk)
      have HI := (show Hid _ from fun (u : Value) => markRow_any m c (k + 1) (wr.setCell ⟨b, j * 5, none⟩ u) ⟨_, HRc.out u⟩ h2 (by omega))
      have hkk : ((k + 1 : Nat) : Int) = (k : Int) + 1 := by omega
      rw [hkk] at HI
      clear hrow hf h1 h5 hcb
      have hkm : k + 1 + m ≤ 1125899906842624 := by omega
      clear hkk
      go_wp2_with fail
      refine Calls.mono (HI.out _) ?_
      rintro e w1 ⟨rfl, ho1, hr1⟩
      have HP1 := (show Hid _ from PM.marked (HP0.out _) (HRc.out _) ho1 hr1)
      have HO1 := (show Hid _ from Out.trans (HO0.out _) (Out.mono ho1 h3 (by omega)))
      clear ho1 hr1 e0 z0 e1
      generalize hkq : k + 1 + m = k2 at *
      have hk3 : k + 1 ≤ k2 ∧ k2 ≤ k + 1 + 1048576 := by omega
      clear hkq
      go_wp2_with fail
      refine Calls.mono (HT.out _ _ (by omega) (by omega)) ?_
      rintro e w2 ⟨s0, rfl, _, hb2⟩
      have HP2 := (show Hid _ from PM.still HP1.out hb2)
      have HO2 := (show Hid _ from Out.trans HO1.out (Out.of_below hb2)); clear hb2
      obtain ⟨f2, hrow2, _⟩ := HP2.out
      have e2 := World.rowIs.cell hrow2 (i := j * 5 + 2) (by omega)
      have z2 := World.rowIs.frozen hrow2 (j * 5 + 2)
      have e3 := World.rowIs.cell hrow2 (i := j * 5 + 3) (by omega)
      have z3 := World.rowIs.frozen hrow2 (j * 5 + 3)
      have e4 := World.rowIs.cell hrow2 (i := j * 5 + 4) (by omega)
      have z4 := World.rowIs.frozen hrow2 (j * 5 + 4)
      clear hrow2
      go_wp2_with fail
      refine ⟨⟨j + 1, k2 + 3, by omega, by go_num, by go_num, by omega, by omega, ?_, ?_⟩, by simp [intOf]; omega⟩
      · exact Out.trans (Out.trans (Out.trans HO2.out (Out.set _ _ hlo hhi)) (Out.set _ _ hlo hhi)) (Out.set _ _ hlo hhi)
      · exact PM.set (PM.set (PM.set HP2.out (j * 5 + 2) _ (by omega)) (j * 5 + 3) _ (by omega)) (j * 5 + 4) _ (by omega)
    · obtain rfl : j = l := by omega
      go_wp2_with fail
      go_ret
      exact ⟨k, rfl, hk1, hk2, HM.out.1⟩
end Go.Proofs.Ytaimlmjgicmbeaa
