import Derived.Test.YthmdoplickpmaajRun2
import Derived.Deep.RegionWith
/-! The law's helpers over a machine. -/
namespace Go.Proofs.Ythmdoplickpmaaj
open Go.RowKit Go.Deep
set_option linter.unusedVariables false
set_option linter.unusedSimpArgs false

set_option maxHeartbeats 800000 in
theorem eqRows_any {S S' : Nat → Prop} (ls : List (List Int)) (v v' : Value) (w : World) (h : IRows w S ls v) (h' : IRows w S' ls v') :
    Calls Try.prog 24 #[v, v'] w fun e w' => e = .returned (.bool true) ∧ Below w.heap.size w w' := by
  obtain ⟨a, cap, b, off, sv, rfl, hc, hm, ha, hcell, hr⟩ := h
  obtain ⟨a', cap', b', off', sv', rfl, hc', hm', ha', hcell', hr'⟩ := h'
  have HC := (show Hid _ from hcell); clear hcell
  have HA := (show Hid _ from ha); clear ha
  have HR := (show Hid _ from hr); clear hr
  have HC' := (show Hid _ from hcell'); clear hcell'
  have HA' := (show Hid _ from ha'); clear ha'
  have HR' := (show Hid _ from hr'); clear hr'
  unfold maxLen at hm hm'
  go_enter Try.func24, Try.ntmps24
  go_wp2_with fail
  go_loopw [5] (fun i wr => ∃ j : Nat, j ≤ ls.length ∧ i = .int .i64 j ∧ Below w.heap.size w wr) (fun i _ => ls.length - (intOf i).toNat)
  case atStart => exact ⟨0, Nat.zero_le _, rfl, Below.refl _ _⟩
  case round =>
    obtain ⟨j, hj, rfl, hbel⟩ := hrel
    by_cases hlt : j < ls.length
    · obtain ⟨rfl, _⟩ := HA.out (by omega)
      obtain ⟨rfl, _⟩ := HA'.out (by omega)
      have c0 := HC.out j hlt
      rw [← hbel.cell (lt_of_cell c0)] at c0
      have c1 := HC'.out j hlt
      rw [← hbel.cell (lt_of_cell c1)] at c1
      have hcl : Calls Try.prog 23 #[sv j, sv' j] wr.drew fun e w' => e = .returned (.bool true) ∧ Below wr.drew.heap.size wr.drew w' := eqInts_any ls[j] _ _ _ ((HR.out j hlt).still hbel.drew) ((HR'.out j hlt).still hbel.drew)
      have HCL := (show Hid _ from hcl); clear hcl
      obtain ⟨a2, cap2, e2, hm2⟩ := (HR.out j hlt).form
      obtain ⟨a3, cap3, e3, hm3⟩ := (HR'.out j hlt).form
      rw [e2] at c0 HCL
      rw [e3] at c1 HCL
      clear e2 e3
      generalize ls[j].length = n at *
      go_wp2_with fail
      go_region_with (go_at_call 23; refine Calls.mono HCL.out ?_; rintro e w1 ⟨rfl, hb1⟩)
      all_goals
        have hbw : Below w.heap.size w w1 := bel_trans hbel.drew hb1
        go_wp2_with fail
        exact ⟨⟨j + 1, by omega, by go_num, hbw⟩, by simp [intOf]; omega⟩
    · go_wp2_with fail
      go_ret
      exact ⟨rfl, hbel⟩

/-- How much a machine may hold. -/
structure Df.Small (d : Df) : Prop where
  cls : d.cls.length ≤ 1048576
  nxt : d.nxt.length ≤ 1048576
  row : ∀ i (hi : i < d.nxt.length), d.nxt[i].length ≤ 1048576
  acc : d.acc.length ≤ 1048576

set_option maxHeartbeats 800000 in
theorem szDfa_any {S : Nat → Prop} (d : Df) (v0 v1 v2 : Value) (w : World) (h : DLies w S d v0 v1 v2) :
    Calls Try.prog 5 #[.agg #[v0, v1, v2], .int .i64 1048576] w fun e w' => (e = .returned (.int .i64 (-1)) ∨ ∃ m : Nat, e = .returned (.int .i64 m) ∧ d.Small) ∧ Below w.heap.size w w' := by
  have hb0 := bel_alloc w (.cells #[v0, v1, v2] 25)
  have TH := (show Hid _ from three_box w v0 v1 v2 25)
  have HL := (show Hid _ from h)
  have HS := (show Hid _ from szInts_any d.cls v0 _ 1048576 (h.cls.still hb0) (Nat.le_refl _))
  obtain ⟨a1, cap1, rfl, hm1⟩ := h.nxt.form
  obtain ⟨a2, cap2, rfl, hm2⟩ := h.acc.form
  obtain ⟨a0, cap0, rfl, hm0⟩ := h.cls.form
  clear h
  obtain ⟨T0, T1, T2⟩ := Three.still TH.out (Below.refl _ _)
  go_enter Try.func5, Try.ntmps5
  go_wp2_with fail
  refine Calls.mono HS.out ?_
  rintro e w1 ⟨rfl | ⟨m1, rfl, hm1', hl1⟩, hb1⟩
  · have hbw := bel_trans hb0 hb1
    go_wp2_with fail
    go_ret
    exact ⟨.inl rfl, hbw⟩
  have hbw := bel_trans hb0 hb1
  have H2 := (show Hid _ from szRows_any d.nxt _ w1 m1 (DLies.nxt HL.out |>.still hbw) hm1')
  have HL1 := (show Hid _ from hl1); clear hl1 T0 T1 T2
  obtain ⟨T0, T1, T2⟩ := Three.still TH.out hb1
  go_wp2_with fail
  refine Calls.mono H2.out ?_
  rintro e w2 ⟨rfl | ⟨m2, rfl, hm2', hl2, hl2'⟩, hb2⟩
  · have hbw2 := bel_trans hbw hb2
    go_wp2_with fail
    go_ret
    exact ⟨.inl rfl, hbw2⟩
  have hbw2 := bel_trans hbw hb2
  have H3 := (show Hid _ from szInts_any d.acc _ w2 m2 (DLies.acc HL.out |>.still hbw2) (by omega))
  have HL2 := (show Hid _ from (⟨hl2, hl2'⟩ : _ ∧ _)); clear hl2 hl2' T0 T1 T2
  obtain ⟨T0, T1, T2⟩ := Three.still TH.out (bel_trans hb1 hb2)
  go_wp2_with fail
  refine Calls.mono H3.out ?_
  rintro e w3 ⟨rfl | ⟨m3, rfl, hm3', hl3⟩, hb3⟩
  · have hbw3 := bel_trans hbw2 hb3
    go_wp2_with fail
    go_ret
    exact ⟨.inl rfl, hbw3⟩
  have hbw3 := bel_trans hbw2 hb3
  have HSM := (show Hid d.Small from ⟨HL1.out, HL2.out.1, HL2.out.2, hl3⟩); clear hl3
  go_wp2_with fail
  go_ret
  exact ⟨.inr ⟨m3, rfl, HSM.out⟩, hbw3⟩

set_option maxHeartbeats 800000 in
theorem eqDfa_any {S S' : Nat → Prop} (d : Df) (v0 v1 v2 u0 u1 u2 : Value) (w : World) (h : DLies w S d v0 v1 v2) (h' : DLies w S' d u0 u1 u2) :
    Calls Try.prog 9 #[.agg #[v0, v1, v2], .agg #[u0, u1, u2]] w fun e w' => e = .returned (.bool true) ∧ Below w.heap.size w w' := by
  have hb0 := bel_trans (bel_alloc w (.cells #[v0, v1, v2] 29)) (bel_alloc _ (.cells #[u0, u1, u2] 29))
  have TH := (show Hid _ from (three_box w v0 v1 v2 29).still (bel_alloc _ (.cells #[u0, u1, u2] 29)))
  have UH := (show Hid _ from three_box (w.alloc (.cells #[v0, v1, v2] 29)) u0 u1 u2 29)
  have H1 := (show Hid _ from eqInts_any d.cls v0 u0 _ (h.cls.still hb0) (h'.cls.still hb0))
  have H2 := (show Hid _ from fun w' (hb : Below w.heap.size w w') => eqRows_any d.nxt v1 u1 w' (h.nxt.still hb) (h'.nxt.still hb))
  have H3 := (show Hid _ from fun w' (hb : Below w.heap.size w w') => eqInts_any d.acc v2 u2 w' (h.acc.still hb) (h'.acc.still hb))
  obtain ⟨a1, cap1, rfl, hm1⟩ := h.nxt.form
  obtain ⟨a2, cap2, rfl, hm2⟩ := h.acc.form
  obtain ⟨a0, cap0, rfl, hm0⟩ := h.cls.form
  obtain ⟨a4, cap4, rfl, hm4⟩ := h'.nxt.form
  obtain ⟨a5, cap5, rfl, hm5⟩ := h'.acc.form
  obtain ⟨a3, cap3, rfl, hm3⟩ := h'.cls.form
  clear h h'
  obtain ⟨T0, T1, T2⟩ := Three.still TH.out (Below.refl _ _)
  obtain ⟨U0, U1, U2⟩ := Three.still UH.out (Below.refl _ _)
  simp only [World.size_alloc] at U0 U1 U2
  go_enter Try.func9, Try.ntmps9
  go_wp2_with fail
  refine Calls.mono H1.out ?_
  rintro e w1 ⟨rfl, hb1⟩
  have hbw1 := bel_trans hb0 hb1
  clear T0 T1 T2 U0 U1 U2
  obtain ⟨T0, T1, T2⟩ := Three.still TH.out hb1
  obtain ⟨U0, U1, U2⟩ := Three.still UH.out hb1
  simp only [World.size_alloc] at U0 U1 U2
  go_wp2_with fail
  refine Calls.mono (H2.out _ hbw1) ?_
  rintro e w2 ⟨rfl, hb2⟩
  have hbw2 := bel_trans hbw1 hb2
  clear T0 T1 T2 U0 U1 U2
  obtain ⟨T0, T1, T2⟩ := Three.still TH.out (bel_trans hb1 hb2)
  obtain ⟨U0, U1, U2⟩ := Three.still UH.out (bel_trans hb1 hb2)
  simp only [World.size_alloc] at U0 U1 U2
  go_wp2_with fail
  refine Calls.mono (H3.out _ hbw2) ?_
  rintro e w3 ⟨rfl, hb3⟩
  have hbw3 := bel_trans hbw2 hb3
  go_wp2_with fail
  go_ret
  exact ⟨rfl, hbw3⟩
end Go.Proofs.Ythmdoplickpmaaj
