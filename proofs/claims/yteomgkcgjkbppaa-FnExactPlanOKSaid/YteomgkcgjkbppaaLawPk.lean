import Derived.Test.YteomgkcgjkbppaaKc
import Derived.Test.YteomgkcgjkbppaaKx
/-! The law: rules are compared. -/
namespace Go.Proofs.Yteomgkcgjkbppaa
open Go.RowKit Go.Deep Go.Lib Go.ChangeShapes Go.WideShapes
set_option linter.unusedVariables false
set_option maxRecDepth 100000
set_option linter.unusedSimpArgs false

set_option maxHeartbeats 1600000 in
theorem eqRule67 (r : Rw) (q1 r1 q4 r4 : Option Addr) (q2 q3 r2 r3 q5 q6 r5 r6 : Nat) (w : World) (h1 : Lies w (fun _ => True) r.left (.slice q1 q2 q3)) (h2 : Lies w (fun _ => True) r.left (.slice r1 r2 r3)) (h3 : Lies w (fun _ => True) r.right (.slice q4 q5 q6)) (h4 : Lies w (fun _ => True) r.right (.slice r4 r5 r6)) :
    Calls Try.prog 67 #[.agg #[.string r.name, .string r.left.name, .string r.left.text, .bool r.left.leaf, (.slice q1 q2 q3), .string r.right.name, .string r.right.text, .bool r.right.leaf, (.slice q4 q5 q6)], .agg #[.string r.name, .string r.left.name, .string r.left.text, .bool r.left.leaf, (.slice r1 r2 r3), .string r.right.name, .string r.right.text, .bool r.right.leaf, (.slice r4 r5 r6)]] w fun e w' => e = .returned (.bool true) ∧ Below w.heap.size w w' := by
  have hb2 : Below w.heap.size w ((w.alloc (.cells #[.string r.name, .string r.left.name, .string r.left.text, .bool r.left.leaf, (.slice q1 q2 q3), .string r.right.name, .string r.right.text, .bool r.right.leaf, (.slice q4 q5 q6)] 98)).alloc (.cells #[.string r.name, .string r.left.name, .string r.left.text, .bool r.left.leaf, (.slice r1 r2 r3), .string r.right.name, .string r.right.text, .bool r.right.leaf, (.slice r4 r5 r6)] 98)) := (bel_alloc _ _).alloc (by simp) _
  have HCL := (show Hid _ from eq_any r.left _ _ _ (h1.still hb2) (h2.still hb2))
  have HCR := (show Hid (∀ w' : World, Below w.heap.size w w' → Calls Try.prog 12 #[r.right.val (.slice q4 q5 q6), r.right.val (.slice r4 r5 r6)] w' fun e w'' => e = .returned (.bool true) ∧ Below w'.heap.size w' w'') from fun w' hb => eq_any r.right _ _ _ (h3.still hb) (h4.still hb))
  simp only [Tr.val] at HCL HCR
  have HB2 := (show Hid _ from hb2)
  clear h1 h2 h3 h4 hb2
  generalize r.name = x at *
  generalize r.left.name = n0 at *
  generalize r.left.text = x0 at *
  generalize r.left.leaf = l0 at *
  generalize r.right.name = n1 at *
  generalize r.right.text = x1 at *
  generalize r.right.leaf = l1 at *
  go_enter Try.func67, Try.ntmps67
  go_wp2_with fail
  refine Calls.mono HCL.out ?_
  rintro e w1 ⟨rfl, hb1⟩
  have HE := (show Hid _ from bel_trans HB2.out hb1)
  obtain ⟨hcc, hff⟩ := bcell hb1
  clear hb1 HCL HB2
  go_wp2_with fail
  refine Calls.mono (HCR.out _ HE.out) ?_
  rintro e w2 ⟨rfl, hb2⟩
  have HE2 := (show Hid _ from bel_trans HE.out hb2)
  clear hb2 HCR HE hcc hff
  go_wp2_with fail
  go_ret
  exact ⟨rfl, HE2.out⟩
set_option maxHeartbeats 1600000 in
theorem eqRules30 (rl : List Rw) (v v' : Value) (w : World) (h : RLy w rl v) (h' : RLy w rl v') :
    Calls Try.prog 30 #[v, v'] w fun e w' => e = .returned (.bool true) ∧ Below w.heap.size w w' := by
  obtain ⟨a1, cap1, b1, o1, sv1, tv1, rfl, hm0, hm, ha1, _, hc1, hl1, hr1⟩ := h
  obtain ⟨a2, cap2, b2, o2, sv2, tv2, rfl, _, _, ha2, _, hc2, hl2, hr2⟩ := h'
  have hm : rl.length ≤ 9223372036854775807 := by unfold maxLen at hm; omega
  have HD := (show Hid _ from (⟨ha1, hc1, hl1, hr1⟩ : _ ∧ _ ∧ _ ∧ _)); clear ha1 hc1 hl1 hr1
  have HD' := (show Hid _ from (⟨ha2, hc2, hl2, hr2⟩ : _ ∧ _ ∧ _ ∧ _)); clear ha2 hc2 hl2 hr2 hm0
  go_enter Try.func30, Try.ntmps30
  go_wp2_with fail
  go_loopw [5] (fun i wr => ∃ j : Nat, i = .int .i64 j ∧ j ≤ rl.length ∧ Hid (Below w.heap.size w wr)) (fun i _ => rl.length - (intOf i).toNat)
  case atStart => exact ⟨0, rfl, Nat.zero_le _, Below.refl _ _⟩
  case round =>
    obtain ⟨j, rfl, hj, HJ⟩ := hrel
    by_cases hlt : j < rl.length
    · obtain rfl := HD.out.1 (by omega)
      obtain rfl := HD'.out.1 (by omega)
      obtain ⟨d0, d1, d2, d3, d4, d5, d6, d7, d8⟩ := HD.out.2.1 j hlt
      obtain ⟨f0, f1, f2, f3, f4, f5, f6, f7, f8⟩ := HD'.out.2.1 j hlt
      have hl1 := HD.out.2.2.1 j hlt
      have hl2 := HD'.out.2.2.1 j hlt
      have hr1 := HD.out.2.2.2 j hlt
      have hr2 := HD'.out.2.2.2 j hlt
      obtain ⟨q1, q2, q3, hq⟩ := hl1.form
      obtain ⟨r1, r2, r3, hr⟩ := hl2.form
      obtain ⟨q4, q5, q6, hq'⟩ := hr1.form
      obtain ⟨r4, r5, r6, hr'⟩ := hr2.form
      rw [hq] at d4 hl1
      rw [hr] at f4 hl2
      rw [hq'] at d8 hr1
      rw [hr'] at f8 hr2
      have HSK := (show Hid (∀ w' : World, Below wr.heap.size wr w' → w'.cell? ⟨b1, o1 + j * 9, none⟩ = some (.string rl[j].name) ∧ w'.cell? ⟨b1, o1 + j * 9 + 1, none⟩ = some (.string rl[j].left.name) ∧ w'.cell? ⟨b1, o1 + j * 9 + 2, none⟩ = some (.string rl[j].left.text) ∧ w'.cell? ⟨b1, o1 + j * 9 + 3, none⟩ = some (.bool rl[j].left.leaf) ∧ w'.cell? ⟨b1, o1 + j * 9 + 4, none⟩ = some (.slice q1 q2 q3) ∧ w'.cell? ⟨b1, o1 + j * 9 + 5, none⟩ = some (.string rl[j].right.name) ∧ w'.cell? ⟨b1, o1 + j * 9 + 6, none⟩ = some (.string rl[j].right.text) ∧ w'.cell? ⟨b1, o1 + j * 9 + 7, none⟩ = some (.bool rl[j].right.leaf) ∧ w'.cell? ⟨b1, o1 + j * 9 + 8, none⟩ = some (.slice q4 q5 q6) ∧ w'.cell? ⟨b2, o2 + j * 9, none⟩ = some (.string rl[j].name) ∧ w'.cell? ⟨b2, o2 + j * 9 + 1, none⟩ = some (.string rl[j].left.name) ∧ w'.cell? ⟨b2, o2 + j * 9 + 2, none⟩ = some (.string rl[j].left.text) ∧ w'.cell? ⟨b2, o2 + j * 9 + 3, none⟩ = some (.bool rl[j].left.leaf) ∧ w'.cell? ⟨b2, o2 + j * 9 + 4, none⟩ = some (.slice r1 r2 r3) ∧ w'.cell? ⟨b2, o2 + j * 9 + 5, none⟩ = some (.string rl[j].right.name) ∧ w'.cell? ⟨b2, o2 + j * 9 + 6, none⟩ = some (.string rl[j].right.text) ∧ w'.cell? ⟨b2, o2 + j * 9 + 7, none⟩ = some (.bool rl[j].right.leaf) ∧ w'.cell? ⟨b2, o2 + j * 9 + 8, none⟩ = some (.slice r4 r5 r6)) from fun w' hb => by
        have hbw := bel_trans HJ.out hb
        have mv : ∀ {b o : Nat} {v : Value}, w.cell? ⟨b, o, none⟩ = some v → w'.cell? ⟨b, o, none⟩ = some v := fun h => (hbw.cell (lt_of_cell h)).trans h
        exact ⟨mv d0, mv d1, mv d2, mv d3, mv d4, mv d5, mv d6, mv d7, mv d8, mv f0, mv f1, mv f2, mv f3, mv f4, mv f5, mv f6, mv f7, mv f8⟩)
      have hd0 : Below wr.heap.size wr wr.drew := (Below.refl _ _).drew
      have HCL := (show Hid _ from eqRule67 rl[j] q1 r1 q4 r4 q2 q3 r2 r3 q5 q6 r5 r6 wr.drew (hl1.still (bel_trans HJ.out hd0)) (hl2.still (bel_trans HJ.out hd0)) (hr1.still (bel_trans HJ.out hd0)) (hr2.still (bel_trans HJ.out hd0)))
      have hS0 := HSK.out _ hd0
      have HD0 := (show Hid _ from hd0)
      have i1 : (0 : Int) ≤ (j : Int) := by omega
      have i2 : (j : Int) < (rl.length : Int) := by omega
      clear d0 f0 d1 f1 d2 f2 d3 f3 d4 f4 d5 f5 d6 f6 d7 f7 d8 f8 hl1 hl2 hr1 hr2 hq hr hq' hr' hd0
      generalize rl[j].name = m0 at *
      generalize rl[j].left.name = m1 at *
      generalize rl[j].left.text = m2 at *
      generalize rl[j].left.leaf = m3 at *
      generalize rl[j].right.name = m5 at *
      generalize rl[j].right.text = m6 at *
      generalize rl[j].right.leaf = m7 at *
      go_wp2_with fail
      go_region_held3 (fun wq => wq.cell? ⟨b1, o1 + j * 9, none⟩ = some (.string m0) ∧ wq.cell? ⟨b1, o1 + j * 9 + 1, none⟩ = some (.string m1) ∧ wq.cell? ⟨b1, o1 + j * 9 + 2, none⟩ = some (.string m2) ∧ wq.cell? ⟨b1, o1 + j * 9 + 3, none⟩ = some (.bool m3) ∧ wq.cell? ⟨b1, o1 + j * 9 + 4, none⟩ = some (.slice q1 q2 q3) ∧ wq.cell? ⟨b1, o1 + j * 9 + 5, none⟩ = some (.string m5) ∧ wq.cell? ⟨b1, o1 + j * 9 + 6, none⟩ = some (.string m6) ∧ wq.cell? ⟨b1, o1 + j * 9 + 7, none⟩ = some (.bool m7) ∧ wq.cell? ⟨b1, o1 + j * 9 + 8, none⟩ = some (.slice q4 q5 q6) ∧ wq.cell? ⟨b2, o2 + j * 9, none⟩ = some (.string m0) ∧ wq.cell? ⟨b2, o2 + j * 9 + 1, none⟩ = some (.string m1) ∧ wq.cell? ⟨b2, o2 + j * 9 + 2, none⟩ = some (.string m2) ∧ wq.cell? ⟨b2, o2 + j * 9 + 3, none⟩ = some (.bool m3) ∧ wq.cell? ⟨b2, o2 + j * 9 + 4, none⟩ = some (.slice r1 r2 r3) ∧ wq.cell? ⟨b2, o2 + j * 9 + 5, none⟩ = some (.string m5) ∧ wq.cell? ⟨b2, o2 + j * 9 + 6, none⟩ = some (.string m6) ∧ wq.cell? ⟨b2, o2 + j * 9 + 7, none⟩ = some (.bool m7) ∧ wq.cell? ⟨b2, o2 + j * 9 + 8, none⟩ = some (.slice r4 r5 r6)) (first | with_reducible exact hS0 | with_reducible exact hS1) ((first | (go_at_call 67; refine Calls.mono HCL.out ?_; rintro e w3 ⟨rfl, hb3⟩; have hx1 : Below wr.heap.size wr w3 := HD0.out.trans (hb3.mono (Nat.le_refl _)); have hS1 := HSK.out w3 hx1)))
      have HE := (show Hid _ from bel_trans HJ.out hx1)
      clear hS0 hS1 hb3 hx1
      go_wp2_with fail
      exact ⟨⟨j + 1, by go_num, by omega, HE⟩, by simp [intOf]; omega⟩
    · have q1 : ¬ ((j : Int) < (rl.length : Int)) := by omega
      have HE := (show Hid _ from HJ.out)
      go_wp2_with fail
      go_ret
      exact ⟨rfl, HE.out⟩
end Go.Proofs.Yteomgkcgjkbppaa

/-! The law of PlanOK. -/
namespace Go.Proofs.Yteomgkcgjkbppaa
open Go.RowKit Go.Deep Go.Lib Go.ChangeShapes Go.WideShapes
set_option linter.unusedVariables false
set_option maxRecDepth 100000
set_option linter.unusedSimpArgs false

set_option maxHeartbeats 3200000 in
theorem lawPk (rl : List Rw) (v : Value) (s : ByteArray) (w : World) (h : RLy w rl v) (hs : s.size ≤ maxLen) :
    Calls Try.prog 6 #[v, .string s] w fun e w' => e = .returned (.bool true) ∧ Below w.heap.size w w' := by
  have HSZ := (show Hid _ from szRules26 rl v w 1048576 h (by omega) (Int.le_refl _))
  have HTO := (show Hid (∀ wq, Below w.heap.size w wq → rwt rl ≤ 1048576 → Calls Try.prog 28 #[v] wq fun e w' => ∃ (a : Option Addr) (c : Nat), e = .returned (.slice a rl.length c) ∧ Below wq.heap.size wq w' ∧ RLy w' rl (.slice a rl.length c)) from fun wq hq hw => by
    refine Calls.mono (toRules28 rl v wq (h.still hq) hw) ?_
    rintro e w' ⟨u, rfl, h1, h2⟩
    obtain ⟨a, c, rfl⟩ := h2.form
    exact ⟨a, c, rfl, h1, h2⟩)
  have HSP := (show Hid (∀ (a : Option Addr) (c : Nat) (wq : World), RLy wq rl (.slice a rl.length c) → Calls Try.prog 27 #[.slice a rl.length c, .string s] wq fun e w' => e = .returned (.tuple #[.int .i64 (pkR rl s).1, .int .i64 (pkR rl s).2]) ∧ Below wq.heap.size wq w') from fun a c wq hq => sPlan27 rl s _ wq hq hs)
  have HIP := (show Hid (∀ (a : Option Addr) (c : Nat) (wq : World), RLy wq rl (.slice a rl.length c) → Calls Try.prog 29 #[.slice a rl.length c, .string s] wq fun e w' => e = .returned (.tuple #[.int .i64 (pkR rl s).1, .int .i64 (pkR rl s).2]) ∧ Below wq.heap.size wq w') from fun a c wq hq => iPlan29 rl s _ wq hq hs)
  have HEQ := (show Hid (∀ (a a' : Option Addr) (c c' : Nat) (wq : World), RLy wq rl (.slice a rl.length c) → RLy wq rl (.slice a' rl.length c') → Calls Try.prog 30 #[.slice a rl.length c, .slice a' rl.length c'] wq fun e w' => e = .returned (.bool true) ∧ Below wq.heap.size wq w') from fun a a' c c' wq h1 h2 => eqRules30 rl _ _ wq h1 h2)
  obtain ⟨ra, rc, rfl⟩ := h.form
  unfold maxLen at hs
  generalize (pkR rl s).1 = P1 at *
  generalize (pkR rl s).2 = P2 at *
  clear h
  by_cases hl : s.size ≤ 1048576
  case neg =>
    have hl' : (1048576 : Int) < (s.size : Int) := by omega
    clear HSZ HTO HSP HIP HEQ
    go_enter Try.func6, Try.ntmps6
    go_wp2_with fail
    go_ret
    exact ⟨rfl, Below.refl _ _⟩
  have hl' : ¬ ((1048576 : Int) < (s.size : Int)) := by omega
  by_cases hw : (rwt rl : Int) ≤ 1048576
  case neg =>
    rw [szR_no (by omega)] at HSZ
    clear HTO HSP HIP HEQ hw
    go_enter Try.func6, Try.ntmps6
    go_wp2_with fail
    refine Calls.mono HSZ.out ?_
    rintro e w1 ⟨rfl, hb1⟩
    have HE := (show Hid _ from hb1); clear hb1
    go_wp2_with fail
    go_ret
    exact ⟨rfl, HE.out⟩
  rw [szR_yes hw] at HSZ
  generalize hlf : (1048576 : Int) - (rwt rl : Int) = lf at *
  have hlfd : decide (lf < 0) = false := by simp; omega
  have hwn : rwt rl ≤ 1048576 := by omega
  clear hlf hw
  go_enter Try.func6, Try.ntmps6
  go_wp2_with fail
  refine Calls.mono HSZ.out ?_
  rintro e w1 ⟨rfl, hb1⟩
  have HB1 := (show Hid (Below w.heap.size w w1) from hb1)
  have HC1 := (show Hid _ from HTO.out w1 hb1 hwn)
  clear hb1 HSZ
  go_wp2_with fail
  refine Calls.mono HC1.out ?_
  rintro e w2 ⟨a2, c2, rfl, hb2, hr2⟩
  have HB2 := (show Hid (Below w.heap.size w w2) from bel_trans HB1.out hb2)
  have HC2 := (show Hid _ from HSP.out a2 c2 w2 hr2)
  clear hb2 hr2 HB1 HC1 HSP
  go_wp2_with fail
  refine Calls.mono HC2.out ?_
  rintro e w3 ⟨rfl, hb3⟩
  have HB3 := (show Hid (Below w.heap.size w w3) from bel_trans HB2.out hb3)
  have HC3 := (show Hid _ from HTO.out w3 HB3.out hwn)
  clear hb3 HB2 HC2
  go_wp2_with fail
  refine Calls.mono HC3.out ?_
  rintro e w4 ⟨a4, c4, rfl, hb4, hr4⟩
  have HB4 := (show Hid (Below w.heap.size w w4) from bel_trans HB3.out hb4)
  have HC4 := (show Hid _ from HIP.out a4 c4 w4 hr4)
  have HR4 := (show Hid (RLy w4 rl (.slice a4 rl.length c4)) from hr4)
  clear hb4 hr4 HB3 HC3 HIP
  go_wp2_with fail
  refine Calls.mono HC4.out ?_
  rintro e w5 ⟨rfl, hb5⟩
  have HB5 := (show Hid (Below w.heap.size w w5) from bel_trans HB4.out hb5)
  have HR5 := (show Hid (RLy w5 rl (.slice a4 rl.length c4)) from RLy.still HR4.out hb5)
  have HC5 := (show Hid _ from HTO.out w5 HB5.out hwn)
  clear hb5 HB4 HC4 HR4 HTO
  go_wp2_with fail
  refine Calls.mono HC5.out ?_
  rintro e w6 ⟨a6, c6, rfl, hb6, hr6⟩
  have HB6 := (show Hid (Below w.heap.size w w6) from bel_trans HB5.out hb6)
  have HC6 := (show Hid _ from HEQ.out a4 a6 c4 c6 w6 (RLy.still HR5.out hb6) hr6)
  clear hb6 hr6 HB5 HC5 HR5 HEQ
  go_wp2_with fail
  refine Calls.mono HC6.out ?_
  rintro e w7 ⟨rfl, hb7⟩
  have HB7 := (show Hid (Below w.heap.size w w7) from bel_trans HB6.out hb7)
  clear hb7 HB6 HC6
  go_wp2_with fail
  go_ret
  exact ⟨rfl, HB7.out⟩
end Go.Proofs.Yteomgkcgjkbppaa
