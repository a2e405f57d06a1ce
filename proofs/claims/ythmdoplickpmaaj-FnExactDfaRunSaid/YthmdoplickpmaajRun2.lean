import Derived.Test.YthmdoplickpmaajRun
/-! What a machine reads: the specification's walk. -/
namespace Go.Proofs.Ythmdoplickpmaaj
open Go.RowKit Go.Deep
set_option linter.unusedVariables false
set_option linter.unusedSimpArgs false

set_option maxHeartbeats 1600000 in
set_option maxRecDepth 100000 in
/-- spec.DfaRun. -/
theorem sRun_any {S : Nat → Prop} (d : Df) (v0 v1 v2 : Value) (s : ByteArray) (frm : Int) (w : World) (h : DLies w S d v0 v1 v2) (hsm : s.size ≤ maxLen) :
    Calls Try.prog 6 #[.agg #[v0, v1, v2], .string s, .int .i64 frm] w fun e w' => Ans d s frm e ∧ Below w.heap.size w w' := by
  have hb0 := bel_alloc w (.cells #[v0, v1, v2] 29)
  have h' := h.still hb0
  have HI := (show Hid _ from dfaOK_any d v0 v1 v2 _ h')
  have TH := (show Hid _ from three_box w v0 v1 v2 29)
  obtain ⟨T0, T1, T2⟩ := three_box w v0 v1 v2 29
  obtain ⟨a1, cap1, b1, off1, sv, rfl, hc1, hm1, ha1, hcell1, hr1⟩ := h'.nxt
  obtain ⟨a2, cap2, b2, off2, rfl, hc2, hm2, ha2, hcell2⟩ := h'.acc
  obtain ⟨a0, cap0, b0, off0, rfl, hc0, hm0, ha0, hcell0⟩ := h'.cls
  have HC1 := (show Hid _ from hcell1)
  have HC2 := (show Hid _ from hcell2)
  have HC0 := (show Hid _ from hcell0)
  have HR1 := (show Hid _ from hr1)
  have HAA := (show Hid _ from (⟨ha0, ha1, ha2⟩ : _ ∧ _ ∧ _))
  clear h h' hcell0 hcell1 hcell2 ha0 ha1 ha2 hr1
  unfold maxLen at hm0 hm1 hm2 hsm
  go_enter Try.func6, Try.ntmps6
  go_wp2_with fail
  refine Calls.mono HI.out ?_
  rintro e w1 ⟨hs, hb1⟩
  have hbw := bel_trans hb0 hb1
  obtain ⟨T0, T1, T2⟩ := Three.still TH.out hb1
  rcases hs.cases with ⟨rfl, HOK⟩ | ⟨rfl, HC⟩
  case inr =>
    have HN := (show Hid (¬ Right d s frm) from fun hh => HC.out hh.1)
    clear hs
    go_wp2_with fail
    refine bodyPost_ret (v := .tuple #[.int .i64 0, .int .i64 0, .int .i64 0, .int .i64 1]) (by simp [results, Try.results6, go_sem]) rfl ⟨.inr ⟨HN.out, rfl⟩, hbw⟩
  clear hs
  by_cases c1 : 4000 < s.size
  · have HN := (show Hid (¬ Right d s frm) from fun hh => by have q := hh.2.1; omega)
    go_wp2_with fail
    refine bodyPost_ret (v := .tuple #[.int .i64 0, .int .i64 0, .int .i64 0, .int .i64 1]) (by simp [results, Try.results6, go_sem]) rfl ⟨.inr ⟨HN.out, rfl⟩, hbw⟩
  by_cases c2 : 0 ≤ frm ∧ frm ≤ (s.size : Int)
  case neg =>
    have HN := (show Hid (¬ Right d s frm) from fun hh => c2 ⟨hh.2.2.1, hh.2.2.2⟩)
    have HB := (show Hid _ from fun w => between_no c2 w); clear c2
    go_wp2_with fail
    refine Calls.mono (HB.out _) ?_
    rintro e w2 ⟨rfl, rfl⟩
    go_wp2_with fail
    refine bodyPost_ret (v := .tuple #[.int .i64 0, .int .i64 0, .int .i64 0, .int .i64 1]) (by simp [results, Try.results6, go_sem]) rfl ⟨.inr ⟨HN.out, rfl⟩, hbw⟩
  have HB := (show Hid _ from fun w => between_yes c2 w)
  have HR := (show Hid (Right d s frm) from ⟨HOK.out, by omega, c2.1, c2.2⟩)
  obtain ⟨f, rfl⟩ : ∃ n : Nat, frm = n := ⟨_, (Int.toNat_of_nonneg c2.1).symm⟩
  have hf : f ≤ s.size := by omega
  have hs : s.size ≤ 4000 := by omega
  clear c1 c2
  have hN := HOK.out.2.1
  have hN' := HOK.out.2.2.1
  have hpa : 0 < d.acc.length := by have := HOK.out.2.2.2.1; omega
  obtain ⟨rfl, _⟩ := HAA.out.1 (by have := HOK.out.1; omega)
  obtain ⟨rfl, _⟩ := HAA.out.2.1 (by omega)
  obtain ⟨rfl, _⟩ := HAA.out.2.2 hpa
  have z0 := (hb1.cell (lt_of_cell (HC2.out 0 hpa))).trans (HC2.out 0 hpa)
  rw [Nat.add_zero] at z0
  have hst0 : Far d s f f 0 0 d.acc[0] := ⟨by unfold Df.all; rw [getD_lt _ _ hpa], by omega, hf, Nat.le_refl _, Int.le_refl _, by omega⟩
  generalize d.acc[0] = x0 at *
  have HF0 := (show Hid _ from hst0); clear hst0
  go_wp2_with fail
  refine Calls.mono (HB.out _) ?_
  rintro e w2 ⟨rfl, rfl⟩
  go_wp2_with fail
  go_loopw [10, 11, 12, 13] (fun len wh st at_ wr => ∃ (k q : Nat) (l c : Int), at_ = .int .i64 k ∧ st = .int .i64 q ∧ len = .int .i64 l ∧ wh = .int .i64 c ∧ Hid (Far d s f k q l c) ∧ Below w.heap.size w wr ∧ Below (w.alloc (.cells #[.slice (some ⟨b0, off0, none⟩) d.cls.length cap0, .slice (some ⟨b1, off1, none⟩) d.nxt.length cap1, .slice (some ⟨b2, off2, none⟩) d.acc.length cap2] 29)).heap.size (w.alloc (.cells #[.slice (some ⟨b0, off0, none⟩) d.cls.length cap0, .slice (some ⟨b1, off1, none⟩) d.nxt.length cap1, .slice (some ⟨b2, off2, none⟩) d.acc.length cap2] 29)) wr) (fun _ _ _ at_ _ => s.size - (intOf at_).toNat)
  case atStart => exact ⟨f, 0, 0, x0, rfl, rfl, rfl, rfl, HF0, hbw, hb1⟩
  case round =>
    clear T0 T1 T2 z0
    obtain ⟨k, q, l, c, rfl, rfl, rfl, rfl, HF, hbw1, hbW⟩ := hrel
    by_cases hlt : k < s.size
    case neg =>
      have HE := (show Hid (d.all s f = (l, c, (s.size : Int) + 1)) from HF.out.same.symm.trans (Df.run_end (by omega)))
      go_wp2_with fail
      refine bodyPost_ret (v := .tuple #[.int .i64 l, .int .i64 c, .int .i64 ((s.size : Int) + 1), .int .i64 0]) (by simp [results, Try.results6, go_sem]) rfl ⟨.inl ⟨HR.out, ?_⟩, hbw1⟩
      rw [Int.toNat_natCast, HE.out]
    have hq := HF.out.st
    obtain ⟨T0, T1, T2⟩ := Three.still TH.out hbW
    obtain ⟨yn, p1, p2, p3, p4, p5, p6⟩ := Df.step_at HOK.out hq s[k]
    have k1 := (hbW.cell (lt_of_cell (HC1.out q hq))).trans (HC1.out q hq)
    have k0 := (hbW.cell (lt_of_cell (HC0.out _ p1))).trans (HC0.out _ p1)
    obtain ⟨a4, cap4, b4, off4, e4, hc4, hm4, ha4, hcell4⟩ := HR1.out q hq
    obtain ⟨rfl, _⟩ := ha4 (by omega)
    have k4 := (hbW.cell (lt_of_cell (hcell4 _ p2))).trans (hcell4 _ p2)
    rw [e4] at k1
    rw [p3] at k0
    rw [← p4] at k4
    unfold maxLen at hm4
    have hrl : ∃ rl, d.nxt[q].length = rl := ⟨_, rfl⟩
    obtain ⟨rl, hrl⟩ := hrl
    rw [hrl] at k1 p2 hc4
    clear hcell4 ha4 e4 p4 p3 hrl
    have hz : ∃ z, d.step q s[k] = z := ⟨_, rfl⟩
    obtain ⟨z, hz⟩ := hz
    rw [hz] at k4 p5 p6
    have HZ := (show Hid _ from hz); clear hz
    have hbb : ∀ m, Below w.heap.size w (wr.drewN m) := fun m => bel_drewN hbw1 m
    have hbb' : ∀ m, Below _ _ (wr.drewN m) := fun m => bel_drewN hbW m
    have hl0 := HF.out.low
    by_cases hneg : z < 0
    · have HE := (show Hid (d.all s f = (l, c, (k : Int) + 1)) from HF.out.stop hlt (by rw [HZ.out]; exact hneg))
      go_wp2_with fail
      go_quiet (fail)
      go_wp2_with fail
      refine bodyPost_ret (v := .tuple #[.int .i64 l, .int .i64 c, .int .i64 ((k : Int) + 1), .int .i64 0]) (by simp [results, Try.results6, go_sem]) rfl ⟨.inl ⟨HR.out, ?_⟩, hbb _⟩
      rw [Int.toNat_natCast, HE.out]
    obtain ⟨zn, rfl⟩ : ∃ n : Nat, z = n := ⟨_, (Int.toNat_of_nonneg (by omega)).symm⟩
    have hza : zn < d.acc.length := by have := HOK.out.2.2.2.1; omega
    have k2 := (hbW.cell (lt_of_cell (HC2.out zn hza))).trans (HC2.out zn hza)
    have hx : ∃ x, d.acc[zn] = x := ⟨_, rfl⟩
    obtain ⟨x, hx⟩ := hx
    rw [hx] at k2
    have hxg : d.acc.getD zn 0 = x := by rw [getD_lt _ _ hza]; exact hx
    have HXG := (show Hid _ from hxg); clear hxg hx
    by_cases hxp : 0 ≤ x
    · have HN := (show Hid _ from HF.out.acc hlt HZ.out (by omega) HXG.out hxp)
      go_wp2_with fail
      go_quiet (fail)
      go_wp2_with fail
      exact ⟨⟨k + 1, zn, _, x, by go_num, rfl, by go_num, rfl, HN, hbb _, hbb' _⟩, by simp [intOf]; omega⟩
    · have HN := (show Hid _ from HF.out.go hlt HZ.out (by omega) HXG.out hxp)
      go_wp2_with fail
      go_quiet (fail)
      go_wp2_with fail
      exact ⟨⟨k + 1, zn, l, c, by go_num, rfl, rfl, rfl, HN, hbb _, hbb' _⟩, by simp [intOf]; omega⟩
end Go.Proofs.Ythmdoplickpmaaj
