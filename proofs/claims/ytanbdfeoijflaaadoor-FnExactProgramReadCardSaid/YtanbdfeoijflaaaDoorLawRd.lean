import Derived.Test.YtanbdfeoijflaaaDoorMp
import Derived.Test.YtanbdfeoijflaaaDoorMs
import Derived.Test.YtanbdfeoijflaaaDoorMt
import Derived.Test.YtanbdfeoijflaaaDoorMx
import Derived.Test.YtanbdfeoijflaaaDoorTop
import Derived.Deep.RegionWith
/-! The law FnExactProgramRead, walked. -/
namespace Go.Proofs.YtanbdfeoijflaaaDoor
open Go.RowKit Go.Deep
set_option linter.unusedVariables false
set_option maxRecDepth 100000
set_option linter.unusedSimpArgs false

theorem sRead10 (s : List UInt8) (w : World) (hs : s.length ≤ 1048576) : Calls Tryd.prog 10 #[.string (bs s)] w (PrA (rdR s) w) :=
  sRead10A s (bs s) (bs_size s) (fun a b w' h1 h2 => slice_str s a b h1 h2 w') (fun i w' h1 h2 => until21 s i h1 h2 w') (fun x w' hx => readLine22 x hx w') w
/-- What ProgramRead leaves, by its answer. -/
def PrB (R : List DIns) (C P : Int) (w : World) (e : Ending) (w' : World) : Prop :=
  ∃ (v : Value) (b : Nat), e = .returned (.tuple #[v, .int .i64 C, .int .i64 P]) ∧ Below w.heap.size w w' ∧ OwnX w' b R v ∧ (0 < R.length → w.heap.size ≤ b)
theorem PrA.b {R : List DIns × Int × Nat} {w w' : World} {e : Ending} (h : PrA R w e w') : PrB R.1 R.2.1 (R.2.2 : Nat) w e w' := by
  obtain ⟨v, he, hb, ho⟩ := h
  obtain ⟨b, hx, hB⟩ := own_X ho
  exact ⟨v, b, he, hb, hx, hB⟩
theorem PrB.high {R : List DIns} {C P : Int} {w w' : World} {e : Ending} (h : PrB R C P w e w') : ∃ v0 b0, e = .returned (.tuple #[v0, .int .i64 C, .int .i64 P]) ∧ Below w.heap.size w w' ∧ OwnX w' b0 R v0 ∧ w.heap.size ≤ b0 := by
  obtain ⟨v, b, he, hb, ho, hw⟩ := h
  by_cases c0 : 0 < R.length
  · exact ⟨v, b, he, hb, ho, hw c0⟩
  · exact ⟨v, w.heap.size, he, hb, ho.any c0 _, Nat.le_refl _⟩
theorem PrB.low {R : List DIns} {C P : Int} {w w' : World} {e : Ending} (h : PrB R C P w e w') (c : Nat) (hc : c < w'.heap.size) : ∃ v0 b0, e = .returned (.tuple #[v0, .int .i64 C, .int .i64 P]) ∧ Below w.heap.size w w' ∧ OwnX w' b0 R v0 ∧ b0 < w'.heap.size := by
  obtain ⟨v, b, he, hb, ho, hw⟩ := h
  by_cases c0 : 0 < R.length
  · exact ⟨v, b, he, hb, ho, ho.lt c0⟩
  · exact ⟨v, c, he, hb, ho.any c0 _, hc⟩
set_option maxHeartbeats 12800000 in
theorem lawRd (s : List UInt8) (w : World) (hm : MxL w) :
    Calls Tryd.prog 4 #[.string (bs s)] w fun e w' => e = .returned (.bool true) ∧ Below w.heap.size w w' := by
  have hsz : (bs s).size = s.length := bs_size s
  have h0 : 0 < w.heap.size := by
    obtain ⟨m, hm⟩ := hm
    exact lt_of_cell hm
  by_cases hbig : 1048576 < s.length
  · have hd : decide ((1048576 : Int) < ((bs s).size : Int)) = true := by rw [hsz]; simp; omega
    clear hbig hsz
    generalize bs s = sX at *
    go_enter Tryd.func4, Tryd.ntmps4
    go_wp2_with fail
    go_ret
    exact ⟨rfl, Below.refl _ _⟩
  have hd : decide ((1048576 : Int) < ((bs s).size : Int)) = false := by rw [hsz]; simp; omega
  have hRl : (rdR s).1.length ≤ 50000 := rdR_len s
  have HSP : Hid (∀ w', Calls Tryd.prog 10 #[.string (bs s)] w' (PrB (rdR s).1 (rdR s).2.1 ((rdR s).2.2 : Nat) w')) := fun w' => (sRead10 s w' (by omega)).mono (fun e w2 h => h.b)
  have HIM : Hid (∀ w', Below w.heap.size w w' → Calls Tryd.prog 11 #[.string (bs s)] w' (PrB (rdR s).1 (rdR s).2.1 ((rdR s).2.2 : Nat) w')) := fun w' hb => (iRead11 s (by omega) w' (hm.still hb)).mono (fun e w2 h => h.b)
  have H00 := (show Hid (0 < w.heap.size) from h0)
  clear hbig hsz hm h0
  generalize (rdR s).1 = R1 at *
  generalize (rdR s).2.1 = C at *
  generalize (((rdR s).2.2 : Nat) : Int) = P at *
  have HRL := (show Hid (R1.length ≤ 50000) from hRl); clear hRl
  have hneC : ((C : Int) != C) = false := by simp
  have hneP : ((P : Int) != P) = false := by simp
  generalize bs s = sX at *
  go_enter Tryd.func4, Tryd.ntmps4
  go_wp2_with fail
  refine Calls.mono (HSP.out w) ?_
  rintro e w1 h1
  obtain ⟨q0, b0, rfl, hb1, o0, k0⟩ := h1.low 0 (by
    obtain ⟨_, _, _, hb, _⟩ := h1
    have h1 := hb.size
    have h2 := H00.out
    omega)
  obtain ⟨aq0, cq0, rfl, _⟩ := o0.form
  have HB1 := (show Hid (Below w.heap.size w w1) from hb1)
  have HQ1 := (show Hid (OwnX w1 b0 R1 (.slice aq0 R1.length cq0) ∧ b0 < w1.heap.size) from ⟨o0, k0⟩)
  clear h1 hb1 o0 k0 HSP hd
  dsimp only
  go_wp2_with fail
  refine Calls.mono (HIM.out w1 HB1.out) ?_
  rintro e w2 h2
  obtain ⟨g0, c0, rfl, hb2, o2, k2⟩ := h2.high
  obtain ⟨ag0, cg0, rfl, _⟩ := o2.form
  have HP2 := (show Hid (OwnX w2 b0 R1 (.slice aq0 R1.length cq0) ∧ OwnX w2 c0 R1 (.slice ag0 R1.length cg0) ∧ Below w.heap.size w w2 ∧ b0 < c0 ∧ w.heap.size ≤ c0) from ⟨HQ1.out.1.still hb2, o2, bel_trans HB1.out hb2, by have := HQ1.out.2; omega, by have := HB1.out.size; omega⟩)
  clear h2 hb2 o2 k2 HQ1 HB1
  dsimp only
  go_wp2_with fail
  refine Calls.mono (eqInsR_any R1 _ _ _ HP2.out.2.1.ins HP2.out.1.ins) ?_
  rintro e w3 ⟨rfl, hb3⟩
  have HP3 := (show Hid (OwnX w3 b0 R1 (.slice aq0 R1.length cq0) ∧ OwnX w3 c0 R1 (.slice ag0 R1.length cg0) ∧ Below w.heap.size w w3) from ⟨HP2.out.1.still hb3, HP2.out.2.1.still hb3, bel_trans HP2.out.2.2.1 hb3⟩)
  have HN := (show Hid (b0 < c0 ∧ w.heap.size ≤ c0) from HP2.out.2.2.2)
  clear hb3 HP2
  have hRl : R1.length ≤ 50000 := HRL.out
  have HM0 : Hid (Calls Tryd.prog 12 #[.slice ag0 R1.length cg0, .int .i64 1] w3 fun e w' => e = .returned (.int .i64 (1 + R1.length * 3 : Nat)) ∧ Out c0 (c0 + 1) w3 w' ∧ OwnX w' c0 (cntX 1 R1.length) (.slice ag0 R1.length cg0)) := markX_any R1 c0 1 _ w3 HP3.out.2.1 (by omega) (by omega)
  have HH0 := (show Hid (∀ (Z : World), OwnX Z c0 (cntX 1 R1.length) (.slice ag0 R1.length cg0) → Calls Tryd.prog 13 #[.slice ag0 R1.length cg0, .int .i64 1] Z fun e w' => e = .returned (.int .i64 (1 + R1.length * 3 : Nat)) ∧ Below Z.heap.size Z w') from fun Z hZ => heldX_any c0 1 R1.length _ Z hZ (by omega) (by omega))
  generalize hN1 : 1 + R1.length * 3 = N1 at *
  have hN10 : ¬ ((N1 : Int) < 0) := by omega
  have hN1n : ((N1 : Int) != N1) = false := by simp
  have hN1' : N1 ≤ 1048577 := by omega
  clear hN1 hRl
  go_wp2_with fail
  refine Calls.mono HM0.out ?_
  rintro e w20 ⟨rfl, ho20, hg20⟩
  have HP20 := (show Hid (OwnX w20 b0 R1 (.slice aq0 R1.length cq0) ∧ OwnX w20 c0 (cntX 1 R1.length) (.slice ag0 R1.length cg0) ∧ Below w.heap.size w w20) from ⟨HP3.out.1.out ho20 (by have := HN.out; omega), hg20, out_below HP3.out.2.2 ho20 (by have := HN.out; omega) HP3.out.2.2.size⟩)
  clear ho20 hg20 HP3 HM0
  go_wp2_with fail
  refine Calls.mono (HH0.out _ HP20.out.2.1) ?_
  rintro e w22 ⟨rfl, hb22⟩
  have HX22 := (show Hid (Below w20.heap.size w20 w22) from hb22); clear hb22
  go_wp2_with fail
  refine Calls.mono (HIM.out _ (bel_trans HP20.out.2.2 HX22.out)) ?_
  rintro e w25 h25
  obtain ⟨z0, s0, rfl, hb25, o0, _⟩ := h25.high
  obtain ⟨_, _, rfl, _⟩ := o0.form
  have HX25 := (show Hid (Below w20.heap.size w20 w25) from bel_trans HX22.out hb25)
  have HO25 := (show Hid _ from o0)
  clear o0 hb25 h25 HX22
  dsimp only
  go_wp2_with fail
  refine Calls.mono (eqInsR_any R1 _ _ _ (OwnX.ins HO25.out) (OwnX.ins (OwnX.still HP20.out.1 HX25.out))) ?_
  rintro e w27 ⟨rfl, hb27⟩
  have HX27 := (show Hid (Below w20.heap.size w20 w27) from bel_trans HX25.out hb27); clear hb27 HX25 HO25
  go_wp2_with fail
  refine Calls.mono (HH0.out _ (OwnX.still HP20.out.2.1 HX27.out)) ?_
  rintro e w29 ⟨rfl, hb29⟩
  have HX29 := (show Hid (Below w.heap.size w w29) from bel_trans HP20.out.2.2 (bel_trans HX27.out hb29)); clear hb29 HX27
  go_wp2_with fail
  go_ret
  exact ⟨rfl, HX29.out⟩
end Go.Proofs.YtanbdfeoijflaaaDoor
