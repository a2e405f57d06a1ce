import Derived.Test.YtboffildchoelaaYi
/-! The law of SemOK. -/
namespace Go.Proofs.Ytboffildchoelaa
open Go.RowKit Go.Deep Go.Lib Go.ChangeShapes Go.WideShapes
set_option linter.unusedVariables false
set_option maxRecDepth 100000
set_option linter.unusedSimpArgs false

set_option maxHeartbeats 3200000 in
theorem lawSm (s : Se) (r1 v1 c1 h1 : Option Addr) (r2 v2 c2 h2 : Nat) (w : World) (h : SLy w s r1 v1 c1 h1 r2 v2 c2 h2) :
    Calls Try.prog 3 #[.agg #[.slice r1 s.rl.length r2, .slice v1 s.vs.length v2, .slice c1 s.cs.length c2, .slice h1 s.hs.length h2]] w fun e w' => e = .returned (.bool true) ∧ Below w.heap.size w w' := by
  have HB0 := (show Hid (Below w.heap.size w (w.alloc (.cells #[.slice r1 s.rl.length r2, .slice v1 s.vs.length v2, .slice c1 s.cs.length c2, .slice h1 s.hs.length h2] 26))) from bel_alloc _ _)
  have HBX := (show Hid (∀ wq : World, Below (w.alloc (.cells #[.slice r1 s.rl.length r2, .slice v1 s.vs.length v2, .slice c1 s.cs.length c2, .slice h1 s.hs.length h2] 26)).heap.size (w.alloc (.cells #[.slice r1 s.rl.length r2, .slice v1 s.vs.length v2, .slice c1 s.cs.length c2, .slice h1 s.hs.length h2] 26)) wq → Box wq w.heap.size 26 [.slice r1 s.rl.length r2, .slice v1 s.vs.length v2, .slice c1 s.cs.length c2, .slice h1 s.hs.length h2]) from fun wq hq => (Box.new w 26 _).still hq)
  have HSZ := (show Hid (∀ wq, Below w.heap.size w wq → Calls Try.prog 4 #[.agg #[.slice r1 s.rl.length r2, .slice v1 s.vs.length v2, .slice c1 s.cs.length c2, .slice h1 s.hs.length h2], .int .i64 1048576] wq fun e w' => e = .returned (.int .i64 (szR (seW s) 1048576)) ∧ Below wq.heap.size wq w') from fun wq hb => szSem4 s r1 v1 c1 h1 r2 v2 c2 h2 wq (h.still hb))
  have HTO := (show Hid (seW s ≤ 1048576 → ∀ wq, Below w.heap.size w wq → Calls Try.prog 6 #[.agg #[.slice r1 s.rl.length r2, .slice v1 s.vs.length v2, .slice c1 s.cs.length c2, .slice h1 s.hs.length h2]] wq fun e w' => ∃ (r3 v3 c3 h3 : Option Addr) (r4 v4 c4 h4 : Nat), e = .returned (.agg #[.slice r3 s.rl.length r4, .slice v3 s.vs.length v4, .slice c3 s.cs.length c4, .slice h3 s.hs.length h4]) ∧ Below wq.heap.size wq w' ∧ SLy w' s r3 v3 c3 h3 r4 v4 c4 h4) from fun hw wq hb => toSem6 s r1 v1 c1 h1 r2 v2 c2 h2 wq (h.still hb) hw)
  have HSP := (show Hid (∀ (r3 v3 c3 h3 : Option Addr) (r4 v4 c4 h4 : Nat) (wq : World), SLy wq s r3 v3 c3 h3 r4 v4 c4 h4 → Calls Try.prog 5 #[.agg #[.slice r3 s.rl.length r4, .slice v3 s.vs.length v4, .slice c3 s.cs.length c4, .slice h3 s.hs.length h4]] wq fun e w' => e = .returned (.bool (seB s)) ∧ Below wq.heap.size wq w') from fun r3 v3 c3 h3 r4 v4 c4 h4 wq hq => sSem5 s r3 v3 c3 h3 r4 v4 c4 h4 wq hq)
  have HIP := (show Hid (∀ (r3 v3 c3 h3 : Option Addr) (r4 v4 c4 h4 : Nat) (wq : World), SLy wq s r3 v3 c3 h3 r4 v4 c4 h4 → Calls Try.prog 7 #[.agg #[.slice r3 s.rl.length r4, .slice v3 s.vs.length v4, .slice c3 s.cs.length c4, .slice h3 s.hs.length h4]] wq fun e w' => e = .returned (.bool (seB s)) ∧ Below wq.heap.size wq w') from fun r3 v3 c3 h3 r4 v4 c4 h4 wq hq => iSem7 s r3 v3 c3 h3 r4 v4 c4 h4 wq hq)
  have HEQ := (show Hid (∀ (r3 v3 c3 h3 r5 v5 c5 h5 : Option Addr) (r4 v4 c4 h4 r6 v6 c6 h6 : Nat) (wq : World), SLy wq s r3 v3 c3 h3 r4 v4 c4 h4 → SLy wq s r5 v5 c5 h5 r6 v6 c6 h6 → Calls Try.prog 8 #[.agg #[.slice r3 s.rl.length r4, .slice v3 s.vs.length v4, .slice c3 s.cs.length c4, .slice h3 s.hs.length h4], .agg #[.slice r5 s.rl.length r6, .slice v5 s.vs.length v6, .slice c5 s.cs.length c6, .slice h5 s.hs.length h6]] wq fun e w' => e = .returned (.bool true) ∧ Below wq.heap.size wq w') from fun r3 v3 c3 h3 r5 v5 c5 h5 r4 v4 c4 h4 r6 v6 c6 h6 wq q1 q2 => eqSem8 s r3 v3 c3 h3 r5 v5 c5 h5 r4 v4 c4 h4 r6 v6 c6 h6 wq q1 q2)
  clear h
  generalize seB s = RB at *
  by_cases hw : (seW s : Int) ≤ 1048576
  case neg =>
    rw [szR_no (by omega)] at HSZ
    clear HTO HSP HIP HEQ hw
    generalize s.rl.length = n1 at *
    generalize s.vs.length = n2 at *
    generalize s.cs.length = n3 at *
    generalize s.hs.length = n4 at *
    go_enter Try.func3, Try.ntmps3
    go_wp2_with fail
    refine Calls.mono (HSZ.out _ HB0.out) ?_
    rintro e w1 ⟨rfl, hb1⟩
    have HE := (show Hid (Below w.heap.size w w1) from bel_box hb1); clear hb1
    go_wp2_with fail
    go_ret
    exact ⟨rfl, HE.out⟩
  rw [szR_yes hw] at HSZ
  generalize hlf : (1048576 : Int) - (seW s : Int) = lf at *
  have hlfd : decide (lf < 0) = false := by simp; omega
  have HT2 := (show Hid _ from HTO.out (by omega))
  clear hlf hw HTO
  have HST := (show Hid (∀ (r3 v3 c3 h3 : Option Addr) (r4 v4 c4 h4 : Nat) (wa wb : World), SLy wa s r3 v3 c3 h3 r4 v4 c4 h4 → Below wa.heap.size wa wb → SLy wb s r3 v3 c3 h3 r4 v4 c4 h4) from fun r3 v3 c3 h3 r4 v4 c4 h4 wa wb q1 q2 => q1.still q2)
  generalize s.rl.length = n1 at *
  generalize s.vs.length = n2 at *
  generalize s.cs.length = n3 at *
  generalize s.hs.length = n4 at *
  have hbb : (RB != RB) = false := by simp
  go_enter Try.func3, Try.ntmps3
  go_wp2_with fail
  refine Calls.mono (HSZ.out _ HB0.out) ?_
  rintro e w1 ⟨rfl, hb1⟩
  have B1 := (show Hid _ from hb1)
  have bxx := HBX.out w1 hb1
  have a0 : w1.cell? ⟨w.heap.size, 0, none⟩ = some (.slice r1 n1 r2) := bxx.cell 0 (by simp)
  have a1 : w1.cell? ⟨w.heap.size, 1, none⟩ = some (.slice v1 n2 v2) := bxx.cell 1 (by simp)
  have a2 : w1.cell? ⟨w.heap.size, 2, none⟩ = some (.slice c1 n3 c2) := bxx.cell 2 (by simp)
  have a3 : w1.cell? ⟨w.heap.size, 3, none⟩ = some (.slice h1 n4 h2) := bxx.cell 3 (by simp)
  clear hb1 bxx HSZ
  go_wp2_with fail
  refine Calls.mono (HT2.out _ (bel_box B1.out)) ?_
  rintro e w2 ⟨r3, v3, c3, h3, r4, v4, c4, h4, rfl, hb2, hs2⟩
  have B2 := (show Hid _ from bel_trans B1.out hb2)
  have HC2 := (show Hid _ from HSP.out r3 v3 c3 h3 r4 v4 c4 h4 w2 hs2)
  clear hb2 hs2 B1 a0 a1 a2 a3 HSP
  go_wp2_with fail
  refine Calls.mono HC2.out ?_
  rintro e w3 ⟨rfl, hb3⟩
  have B3 := (show Hid _ from bel_trans B2.out hb3)
  have bxx := HBX.out w3 B3.out
  have a0 : w3.cell? ⟨w.heap.size, 0, none⟩ = some (.slice r1 n1 r2) := bxx.cell 0 (by simp)
  have a1 : w3.cell? ⟨w.heap.size, 1, none⟩ = some (.slice v1 n2 v2) := bxx.cell 1 (by simp)
  have a2 : w3.cell? ⟨w.heap.size, 2, none⟩ = some (.slice c1 n3 c2) := bxx.cell 2 (by simp)
  have a3 : w3.cell? ⟨w.heap.size, 3, none⟩ = some (.slice h1 n4 h2) := bxx.cell 3 (by simp)
  clear hb3 bxx B2 HC2
  go_wp2_with fail
  refine Calls.mono (HT2.out _ (bel_box B3.out)) ?_
  rintro e w4 ⟨r5, v5, c5, h5, r6, v6, c6, h6, rfl, hb4, hs4⟩
  have B4 := (show Hid _ from bel_trans B3.out hb4)
  have bA := bel_alloc w4 (.cells #[.slice r5 n1 r6, .slice v5 n2 v6, .slice c5 n3 c6, .slice h5 n4 h6] 33)
  have BA := (show Hid _ from bel_trans B4.out bA)
  have HC4 := (show Hid _ from HIP.out r5 v5 c5 h5 r6 v6 c6 h6 _ (HST.out _ _ _ _ _ _ _ _ _ _ hs4 bA))
  have HS4 := (show Hid _ from HST.out _ _ _ _ _ _ _ _ _ _ hs4 bA)
  have GP := (show Hid _ from Box.new w4 33 [.slice r5 n1 r6, .slice v5 n2 v6, .slice c5 n3 c6, .slice h5 n4 h6])
  clear hb4 hs4 B3 a0 a1 a2 a3 HIP bA
  go_wp2_with fail
  refine Calls.mono HC4.out ?_
  rintro e w5 ⟨rfl, hb5⟩
  have B5 := (show Hid _ from bel_trans BA.out hb5)
  have HS5 := (show Hid _ from HST.out _ _ _ _ _ _ _ _ _ _ HS4.out hb5)
  have g5 := GP.out.still hb5
  have HSK := (show Hid (∀ wq : World, Below w5.heap.size w5 wq → (wq.cell? ⟨w.heap.size, 0, none⟩ = some (.slice r1 n1 r2) ∧ wq.cell? ⟨w.heap.size, 1, none⟩ = some (.slice v1 n2 v2) ∧ wq.cell? ⟨w.heap.size, 2, none⟩ = some (.slice c1 n3 c2) ∧ wq.cell? ⟨w.heap.size, 3, none⟩ = some (.slice h1 n4 h2)) ∧ (wq.cell? ⟨w4.heap.size, 0, none⟩ = some (.slice r5 n1 r6) ∧ wq.cell? ⟨w4.heap.size, 1, none⟩ = some (.slice v5 n2 v6) ∧ wq.cell? ⟨w4.heap.size, 2, none⟩ = some (.slice c5 n3 c6) ∧ wq.cell? ⟨w4.heap.size, 3, none⟩ = some (.slice h5 n4 h6))) from fun wq hq => by
    have e1 := HBX.out wq (bel_trans B5.out hq)
    have e2 := g5.still hq
    exact ⟨⟨e1.cell 0 (by simp), e1.cell 1 (by simp), e1.cell 2 (by simp), e1.cell 3 (by simp)⟩, ⟨e2.cell 0 (by simp), e2.cell 1 (by simp), e2.cell 2 (by simp), e2.cell 3 (by simp)⟩⟩)
  have hd0 : Below w5.heap.size w5 w5.drew := (Below.refl _ _).drew
  have hS0 := HSK.out _ hd0
  have HD0 := (show Hid _ from hd0)
  have HC6 := (show Hid _ from HT2.out w5.drew (bel_trans (bel_box B5.out) hd0))
  have HC8 := (show Hid (∀ (r7 v7 c7 h7 : Option Addr) (r8 v8 c8 h8 : Nat) (wq : World), Below w5.heap.size w5 wq → SLy wq s r7 v7 c7 h7 r8 v8 c8 h8 → Calls Try.prog 8 #[.agg #[.slice r5 n1 r6, .slice v5 n2 v6, .slice c5 n3 c6, .slice h5 n4 h6], .agg #[.slice r7 n1 r8, .slice v7 n2 v8, .slice c7 n3 c8, .slice h7 n4 h8]] wq fun e w' => e = .returned (.bool true) ∧ Below wq.heap.size wq w') from fun r7 v7 c7 h7 r8 v8 c8 h8 wq hq hs => HEQ.out r5 v5 c5 h5 r7 v7 c7 h7 r6 v6 c6 h6 r8 v8 c8 h8 wq (HST.out _ _ _ _ _ _ _ _ _ _ HS5.out hq) hs)
  clear hb5 hd0 HC4 HS4 GP g5 BA B4 HEQ HT2 HST HS5 HBX
  go_wp2_with fail
  go_region_held3 (fun wq => (wq.cell? ⟨w.heap.size, 0, none⟩ = some (.slice r1 n1 r2) ∧ wq.cell? ⟨w.heap.size, 1, none⟩ = some (.slice v1 n2 v2) ∧ wq.cell? ⟨w.heap.size, 2, none⟩ = some (.slice c1 n3 c2) ∧ wq.cell? ⟨w.heap.size, 3, none⟩ = some (.slice h1 n4 h2)) ∧ (wq.cell? ⟨w4.heap.size, 0, none⟩ = some (.slice r5 n1 r6) ∧ wq.cell? ⟨w4.heap.size, 1, none⟩ = some (.slice v5 n2 v6) ∧ wq.cell? ⟨w4.heap.size, 2, none⟩ = some (.slice c5 n3 c6) ∧ wq.cell? ⟨w4.heap.size, 3, none⟩ = some (.slice h5 n4 h6))) (first | with_reducible exact hS0 | with_reducible exact hS1 | with_reducible exact hS2) ((first | (go_at_call 6; refine Calls.mono HC6.out ?_; rintro e w6 ⟨r7, v7, c7, h7, r8, v8, c8, h8, rfl, hb6, hs6⟩; have hx6 := bel_trans HD0.out hb6; have hS1 := HSK.out w6 hx6) | (go_at_call 8; refine Calls.mono (HC8.out r7 v7 c7 h7 r8 v8 c8 h8 w6 hx6 hs6) ?_; rintro e w7 ⟨rfl, hb7⟩; have hx7 := bel_trans hx6 hb7; have hS2 := HSK.out w7 hx7)))
  have HE := (show Hid (Below w.heap.size w w7) from bel_box (bel_trans B5.out hx7))
  clear hS0 hS1 hS2 hb6 hb7 hx6 hx7 hs6
  go_wp2_with fail
  go_ret
  exact ⟨rfl, HE.out⟩
end Go.Proofs.Ytboffildchoelaa
