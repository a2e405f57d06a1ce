import Derived.Test.YtboffildchoelaaYh
import Derived.Test.YtboffildchoelaaKj
/-! The program: meaningOf and SemOK. -/
namespace Go.Proofs.Ytboffildchoelaa
open Go.RowKit Go.Deep Go.Lib Go.ChangeShapes Go.WideShapes
set_option linter.unusedVariables false
set_option maxRecDepth 100000
set_option linter.unusedSimpArgs false

set_option maxHeartbeats 6400000 in
theorem mean21 (s : Se) (r1 v1 c1 h1 : Option Addr) (r2 v2 c2 h2 : Nat) (w : World) (h : SLy w s r1 v1 c1 h1 r2 v2 c2 h2) :
    Calls Try.prog 21 #[.agg #[.slice r1 s.rl.length r2, .slice v1 s.vs.length v2, .slice c1 s.cs.length c2, .slice h1 s.hs.length h2]] w fun e w' => ∃ pa : Option Addr, e = .returned (.tuple #[.pointer pa, .bool (seB s)]) ∧ Below w.heap.size w w' := by
  have HBL := (show Hid (Below w.heap.size w (w.alloc (.cells #[.slice r1 s.rl.length r2, .slice v1 s.vs.length v2, .slice c1 s.cs.length c2, .slice h1 s.hs.length h2] 33))) from bel_alloc _ _)
  have HBX := (show Hid (∀ wq : World, Below (w.alloc (.cells #[.slice r1 s.rl.length r2, .slice v1 s.vs.length v2, .slice c1 s.cs.length c2, .slice h1 s.hs.length h2] 33)).heap.size (w.alloc (.cells #[.slice r1 s.rl.length r2, .slice v1 s.vs.length v2, .slice c1 s.cs.length c2, .slice h1 s.hs.length h2] 33)) wq → Box wq w.heap.size 33 [.slice r1 s.rl.length r2, .slice v1 s.vs.length v2, .slice c1 s.cs.length c2, .slice h1 s.hs.length h2]) from fun wq hq => (Box.new w 33 _).still hq)
  have HSL := (show Hid _ from h)
  have m1 : s.rl.length ≤ maxLen := by obtain ⟨_, _, _, _, _, _, _, _, _, _⟩ := h.r; omega
  have m2 : s.vs.length ≤ maxLen := by obtain ⟨_, _, _, hm⟩ := h.v.form; exact hm
  have m3 : s.cs.length ≤ maxLen := by obtain ⟨_, _, _, hm⟩ := h.c.form; exact hm
  have m4 : s.hs.length ≤ maxLen := by obtain ⟨_, _, _, _, _, _, _, _⟩ := h.h; omega
  unfold maxLen at m1 m2 m3 m4
  have HAL := (show Hid (∀ wq, Below w.heap.size w wq → Calls Try.prog 38 #[.slice h1 s.hs.length h2, .func (.func 39) #[] #[]] wq fun e w' => e = .returned (.bool (s.hs.all shB)) ∧ Below wq.heap.size wq w') from fun wq hb => all38 _ _ _ (h.h.still hb))
  have H1 := (show Hid (s.rl.length ≤ 20 → ∀ wq, Below w.heap.size w wq → Calls Try.prog 40 #[.slice r1 s.rl.length r2, .func (.func 41) #[] #[]] wq fun e w' => ∃ (la : Option Addr) (ln lc : Nat), e = .returned (.tuple #[.slice la ln lc, .bool (s.rl.all r6B)]) ∧ Below wq.heap.size wq w') from fun hl wq hb => each40 _ _ _ (h.r.still hb) hl)
  have H2 := (show Hid (s.vs.length ≤ 20 → ∀ wq, Below w.heap.size w wq → Calls Try.prog 42 #[.slice v1 s.vs.length v2, .func (.func 43) #[] #[]] wq fun e w' => ∃ (la : Option Addr) (ln lc : Nat), e = .returned (.tuple #[.slice la ln lc, .bool (s.vs.all vaB)]) ∧ Below wq.heap.size wq w') from fun hl wq hb => each42 _ _ _ (h.v.still hb) hl)
  have H3 := (show Hid (s.cs.length ≤ 20 → ∀ wq, Below w.heap.size w wq → Calls Try.prog 44 #[.slice c1 s.cs.length c2, .func (.func 45) #[] #[]] wq fun e w' => ∃ (la : Option Addr) (ln lc : Nat), e = .returned (.tuple #[.slice la ln lc, .bool (s.cs.all cxB)]) ∧ Below wq.heap.size wq w') from fun hl wq hb => each44 _ _ _ (h.c.still hb) hl)
  have HNA := (show Hid (s.rl.length ≤ 20 → ∀ wq, Below w.heap.size w wq → Calls Try.prog 46 #[.slice r1 s.rl.length r2] wq fun e w' => e = .returned (.bool (onJ s.rl s.rl.length)) ∧ Below wq.heap.size wq w') from fun hl wq hb => named103 _ _ _ (h.r.still hb) hl)
  clear h
  have HSR := (show Hid (¬ s.rl.length ≤ 20 → seB s = false) from se_r)
  have HSV := (show Hid (¬ s.vs.length ≤ 20 → seB s = false) from se_v)
  have HSC := (show Hid (¬ s.cs.length ≤ 20 → seB s = false) from se_c)
  have HSH := (show Hid (¬ s.hs.length ≤ 12 → seB s = false) from se_h)
  have HR0 := (show Hid (s.rl.all r6B = false → seB s = false) from se_r0)
  have HON := (show Hid (onJ s.rl s.rl.length = false → seB s = false) from se_on)
  have HV0 := (show Hid (s.vs.all vaB = false → seB s = false) from se_v0)
  have HC0 := (show Hid (s.cs.all cxB = false → seB s = false) from se_c0)
  have HH0 := (show Hid (s.hs.all shB = false → seB s = false) from se_h0)
  have HYS := (show Hid (s.rl.length ≤ 20 → s.vs.length ≤ 20 → s.cs.length ≤ 20 → s.hs.length ≤ 12 → s.rl.all r6B = true → onJ s.rl s.rl.length = true → s.vs.all vaB = true → s.cs.all cxB = true → s.hs.all shB = true → seB s = true) from se_yes)
  generalize seB s = R at *
  by_cases z1 : s.rl.length ≤ 20
  case neg =>
    have q1 : (20 : Int) < (s.rl.length : Int) := by omega
    have HF := (show Hid (R = false) from HSR.out z1)
    clear HSL HBX HSR HSV HSC HSH HR0 HON HV0 HC0 HH0 HYS HAL H1 H2 H3 HNA
    go_enter Try.func21, Try.ntmps21
    go_wp2_with fail
    go_ret2
    first | exact ⟨⟨_, by rw [HF.out]; rfl⟩, HBL.out⟩ | exact ⟨_, by rw [HF.out]; rfl, HBL.out⟩ | exact ⟨by rw [HF.out]; rfl, HBL.out⟩
  have q1 : ¬ ((20 : Int) < (s.rl.length : Int)) := by omega
  by_cases z2 : s.vs.length ≤ 20
  case neg =>
    have q2 : (20 : Int) < (s.vs.length : Int) := by omega
    have HF := (show Hid (R = false) from HSV.out z2)
    clear HSL HBX HSR HSV HSC HSH HR0 HON HV0 HC0 HH0 HYS HAL H1 H2 H3 HNA
    go_enter Try.func21, Try.ntmps21
    go_wp2_with fail
    go_ret2
    first | exact ⟨⟨_, by rw [HF.out]; rfl⟩, HBL.out⟩ | exact ⟨_, by rw [HF.out]; rfl, HBL.out⟩ | exact ⟨by rw [HF.out]; rfl, HBL.out⟩
  have q2 : ¬ ((20 : Int) < (s.vs.length : Int)) := by omega
  by_cases z3 : s.cs.length ≤ 20
  case neg =>
    have q3 : (20 : Int) < (s.cs.length : Int) := by omega
    have HF := (show Hid (R = false) from HSC.out z3)
    clear HSL HBX HSR HSV HSC HSH HR0 HON HV0 HC0 HH0 HYS HAL H1 H2 H3 HNA
    go_enter Try.func21, Try.ntmps21
    go_wp2_with fail
    go_ret2
    first | exact ⟨⟨_, by rw [HF.out]; rfl⟩, HBL.out⟩ | exact ⟨_, by rw [HF.out]; rfl, HBL.out⟩ | exact ⟨by rw [HF.out]; rfl, HBL.out⟩
  have q3 : ¬ ((20 : Int) < (s.cs.length : Int)) := by omega
  by_cases z4 : s.hs.length ≤ 12
  case neg =>
    have q4 : (12 : Int) < (s.hs.length : Int) := by omega
    have HF := (show Hid (R = false) from HSH.out z4)
    clear HSL HBX HSR HSV HSC HSH HR0 HON HV0 HC0 HH0 HYS HAL H1 H2 H3 HNA
    go_enter Try.func21, Try.ntmps21
    go_wp2_with fail
    go_ret2
    first | exact ⟨⟨_, by rw [HF.out]; rfl⟩, HBL.out⟩ | exact ⟨_, by rw [HF.out]; rfl, HBL.out⟩ | exact ⟨by rw [HF.out]; rfl, HBL.out⟩
  have q4 : ¬ ((12 : Int) < (s.hs.length : Int)) := by omega
  have J1 := (show Hid _ from H1.out z1)
  have J2 := (show Hid _ from H2.out z2)
  have J3 := (show Hid _ from H3.out z3)
  have J4 := (show Hid _ from HNA.out z1)
  have HY2 := (show Hid _ from HYS.out z1 z2 z3 z4)
  clear HSR HSV HSC HSH H1 H2 H3 HNA HYS HSL
  generalize s.hs.all shB = A4 at *
  generalize s.rl.all r6B = A1 at *
  generalize s.vs.all vaB = A2 at *
  generalize s.cs.all cxB = A3 at *
  generalize onJ s.rl s.rl.length = ON at *
  generalize s.rl.length = n1 at *
  generalize s.vs.length = n2 at *
  generalize s.cs.length = n3 at *
  generalize s.hs.length = n4 at *
  cases A4
  case false =>
    have HF := (show Hid (R = false) from HH0.out rfl)
    clear HY2 J1 J2 J3 J4 HR0 HON HV0 HC0 HH0
    go_enter Try.func21, Try.ntmps21
    go_wp2_with fail
    refine Calls.mono (HAL.out _ HBL.out) ?_
    rintro e w1 ⟨rfl, hb1⟩
    have HE := (show Hid (Below w.heap.size w w1) from bel_box hb1)
    clear hb1
    go_wp2_with fail
    go_ret2
    first | exact ⟨⟨_, by rw [HF.out]; rfl⟩, HE.out⟩ | exact ⟨_, by rw [HF.out]; rfl, HE.out⟩ | exact ⟨by rw [HF.out]; rfl, HE.out⟩
  clear HH0
  go_enter Try.func21, Try.ntmps21
  go_wp2_with fail
  refine Calls.mono (HAL.out _ HBL.out) ?_
  rintro e w1 ⟨rfl, hb1⟩
  have B1 := (show Hid _ from hb1)
  have x1 : w1.cell? ⟨w.heap.size, 0, none⟩ = some (.slice r1 n1 r2) := (HBX.out w1 hb1).cell 0 (by simp)
  clear hb1 HAL
  go_wp2_with fail
  refine Calls.mono (J1.out _ (bel_box B1.out)) ?_
  rintro e w2 ⟨la1, ln1, lc1, rfl, hb2⟩
  have B2 := (show Hid _ from bel_trans B1.out hb2)
  have x2 : w2.cell? ⟨w.heap.size, 1, none⟩ = some (.slice v1 n2 v2) := (HBX.out w2 B2.out).cell 1 (by simp)
  clear hb2 x1 B1 J1
  go_wp2_with fail
  refine Calls.mono (J2.out _ (bel_box B2.out)) ?_
  rintro e w3 ⟨la2, ln2, lc2, rfl, hb3⟩
  have B3 := (show Hid _ from bel_trans B2.out hb3)
  have x3 : w3.cell? ⟨w.heap.size, 2, none⟩ = some (.slice c1 n3 c2) := (HBX.out w3 B3.out).cell 2 (by simp)
  clear hb3 x2 B2 J2
  go_wp2_with fail
  refine Calls.mono (J3.out _ (bel_box B3.out)) ?_
  rintro e w4 ⟨la3, ln3, lc3, rfl, hb4⟩
  have B4 := (show Hid _ from bel_trans B3.out hb4)
  have x4 : w4.cell? ⟨w.heap.size, 0, none⟩ = some (.slice r1 n1 r2) := (HBX.out w4 B4.out).cell 0 (by simp)
  have HE := (show Hid (Below w.heap.size w w4) from bel_box B4.out)
  clear hb4 x3 B3 J3 HBX
  cases A1
  case false =>
    have HF := (show Hid (R = false) from HR0.out rfl)
    clear HY2 J4 HR0 HON HV0 HC0
    go_wp2_with fail
    go_ret2
    first | exact ⟨⟨_, by rw [HF.out]; rfl⟩, HE.out⟩ | exact ⟨_, by rw [HF.out]; rfl, HE.out⟩ | exact ⟨by rw [HF.out]; rfl, HE.out⟩
  cases A2
  case false =>
    have HF := (show Hid (R = false) from HV0.out rfl)
    clear HY2 J4 HR0 HON HV0 HC0
    go_wp2_with fail
    go_ret2
    first | exact ⟨⟨_, by rw [HF.out]; rfl⟩, HE.out⟩ | exact ⟨_, by rw [HF.out]; rfl, HE.out⟩ | exact ⟨by rw [HF.out]; rfl, HE.out⟩
  cases A3
  case false =>
    have HF := (show Hid (R = false) from HC0.out rfl)
    clear HY2 J4 HR0 HON HV0 HC0
    go_wp2_with fail
    go_ret2
    first | exact ⟨⟨_, by rw [HF.out]; rfl⟩, HE.out⟩ | exact ⟨_, by rw [HF.out]; rfl, HE.out⟩ | exact ⟨by rw [HF.out]; rfl, HE.out⟩
  go_wp2_with fail
  refine Calls.mono (J4.out _ HE.out) ?_
  rintro e w5 ⟨rfl, hb5⟩
  have HE5 := (show Hid (Below w.heap.size w w5) from bel_trans HE.out hb5)
  clear hb5 x4 B4 J4 HE
  cases ON
  case false =>
    have HF := (show Hid (R = false) from HON.out rfl)
    have HE := (show Hid _ from HE5.out)
    clear HY2 HR0 HON HV0 HC0
    go_wp2_with fail
    go_ret2
    first | exact ⟨⟨_, by rw [HF.out]; rfl⟩, HE.out⟩ | exact ⟨_, by rw [HF.out]; rfl, HE.out⟩ | exact ⟨by rw [HF.out]; rfl, HE.out⟩
  have HF := (show Hid (R = true) from HY2.out (by first | rfl | trivial) (by first | rfl | trivial) (by first | rfl | trivial) (by first | rfl | trivial) (by first | rfl | trivial))
  have HE := (show Hid (Below w.heap.size w (w5.alloc (.cells #[.slice la1 ln1 lc1, .slice la2 ln2 lc2, .slice la3 ln3 lc3] 104))) from bel_trans HE5.out (bel_alloc _ _))
  clear HY2 HR0 HON HV0 HC0 HE5
  go_wp2_with fail
  go_ret2
  first | exact ⟨⟨_, by rw [HF.out]; rfl⟩, HE.out⟩ | exact ⟨_, by rw [HF.out]; rfl, HE.out⟩ | exact ⟨by rw [HF.out]; rfl, HE.out⟩
set_option maxHeartbeats 800000 in
theorem iSem7 (s : Se) (r1 v1 c1 h1 : Option Addr) (r2 v2 c2 h2 : Nat) (w : World) (h : SLy w s r1 v1 c1 h1 r2 v2 c2 h2) :
    Calls Try.prog 7 #[.agg #[.slice r1 s.rl.length r2, .slice v1 s.vs.length v2, .slice c1 s.cs.length c2, .slice h1 s.hs.length h2]] w fun e w' => e = .returned (.bool (seB s)) ∧ Below w.heap.size w w' := by
  have HBL := (show Hid (Below w.heap.size w (w.alloc (.cells #[.slice r1 s.rl.length r2, .slice v1 s.vs.length v2, .slice c1 s.cs.length c2, .slice h1 s.hs.length h2] 33))) from bel_alloc _ _)
  have HC := (show Hid _ from mean21 s r1 v1 c1 h1 r2 v2 c2 h2 (w.alloc (.cells #[.slice r1 s.rl.length r2, .slice v1 s.vs.length v2, .slice c1 s.cs.length c2, .slice h1 s.hs.length h2] 33)) (h.still (bel_alloc _ _)))
  clear h
  generalize seB s = R at *
  generalize s.rl.length = n1 at *
  generalize s.vs.length = n2 at *
  generalize s.cs.length = n3 at *
  generalize s.hs.length = n4 at *
  go_enter Try.func7, Try.ntmps7
  go_wp2_with fail
  refine Calls.mono HC.out ?_
  rintro e w1 ⟨pa, rfl, hb1⟩
  have HE := (show Hid (Below w.heap.size w w1) from bel_box hb1)
  clear hb1 HC HBL
  go_wp2_with fail
  go_ret
  exact ⟨rfl, HE.out⟩
end Go.Proofs.Ytboffildchoelaa
