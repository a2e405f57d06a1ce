import Derived.Test.YtboffildchoelaaKc
import Derived.Deep.RegionHeld3
/-! The law: rules are compared. -/
namespace Go.Proofs.Ytboffildchoelaa
open Go.RowKit Go.Deep Go.Lib Go.ChangeShapes Go.WideShapes
set_option linter.unusedVariables false
set_option maxRecDepth 100000
set_option linter.unusedSimpArgs false

set_option maxHeartbeats 1600000 in
theorem eqRule67 (r : Rw) (q1 r1 q4 r4 : Option Addr) (q2 q3 r2 r3 q5 q6 r5 r6 : Nat) (w : World) (h1 : Lies w (fun _ => True) r.left (.slice q1 q2 q3)) (h2 : Lies w (fun _ => True) r.left (.slice r1 r2 r3)) (h3 : Lies w (fun _ => True) r.right (.slice q4 q5 q6)) (h4 : Lies w (fun _ => True) r.right (.slice r4 r5 r6)) :
    Calls Try.prog 47 #[.agg #[.string r.name, .string r.left.name, .string r.left.text, .bool r.left.leaf, (.slice q1 q2 q3), .string r.right.name, .string r.right.text, .bool r.right.leaf, (.slice q4 q5 q6)], .agg #[.string r.name, .string r.left.name, .string r.left.text, .bool r.left.leaf, (.slice r1 r2 r3), .string r.right.name, .string r.right.text, .bool r.right.leaf, (.slice r4 r5 r6)]] w fun e w' => e = .returned (.bool true) ∧ Below w.heap.size w w' := by
  have hb2 : Below w.heap.size w ((w.alloc (.cells #[.string r.name, .string r.left.name, .string r.left.text, .bool r.left.leaf, (.slice q1 q2 q3), .string r.right.name, .string r.right.text, .bool r.right.leaf, (.slice q4 q5 q6)] 44)).alloc (.cells #[.string r.name, .string r.left.name, .string r.left.text, .bool r.left.leaf, (.slice r1 r2 r3), .string r.right.name, .string r.right.text, .bool r.right.leaf, (.slice r4 r5 r6)] 44)) := (bel_alloc _ _).alloc (by simp) _
  have HCL := (show Hid _ from eq_any r.left _ _ _ (h1.still hb2) (h2.still hb2))
  have HCR := (show Hid (∀ w' : World, Below w.heap.size w w' → Calls Try.prog 48 #[r.right.val (.slice q4 q5 q6), r.right.val (.slice r4 r5 r6)] w' fun e w'' => e = .returned (.bool true) ∧ Below w'.heap.size w' w'') from fun w' hb => eq_any r.right _ _ _ (h3.still hb) (h4.still hb))
  simp only [Tr.val] at HCL HCR
  have HB2 := (show Hid _ from hb2)
  clear h1 h2 h3 h4 hb2
  generalize r.name = x at *
  generalize r.left.name = n0 at *
  generalize r.left.text = x0 at *
  generalize r.left.leaf = l0 at *
  generalize r.right.name = n1 at *
  generalize r.right.text = x1 at *
  generalize r.right.leaf = l1 at *
  go_enter Try.func47, Try.ntmps47
  go_wp2_with fail
  refine Calls.mono HCL.out ?_
  rintro e w1 ⟨rfl, hb1⟩
  have HE := (show Hid _ from bel_trans HB2.out hb1)
  obtain ⟨hcc, hff⟩ := bcell hb1
  clear hb1 HCL HB2
  go_wp2_with fail
  refine Calls.mono (HCR.out _ HE.out) ?_
  rintro e w2 ⟨rfl, hb2⟩
  have HE2 := (show Hid _ from bel_trans HE.out hb2)
  clear hb2 HCR HE hcc hff
  go_wp2_with fail
  go_ret
  exact ⟨rfl, HE2.out⟩
set_option maxHeartbeats 1600000 in
theorem eqRules30 (rl : List Rw) (v v' : Value) (w : World) (h : RLy w rl v) (h' : RLy w rl v') :
    Calls Try.prog 22 #[v, v'] w fun e w' => e = .returned (.bool true) ∧ Below w.heap.size w w' := by
  obtain ⟨a1, cap1, b1, o1, sv1, tv1, rfl, hm0, hm, ha1, _, hc1, hl1, hr1⟩ := h
  obtain ⟨a2, cap2, b2, o2, sv2, tv2, rfl, _, _, ha2, _, hc2, hl2, hr2⟩ := h'
  have hm : rl.length ≤ 9223372036854775807 := by unfold maxLen at hm; omega
  have HD := (show Hid _ from (⟨ha1, hc1, hl1, hr1⟩ : _ ∧ _ ∧ _ ∧ _)); clear ha1 hc1 hl1 hr1
  have HD' := (show Hid _ from (⟨ha2, hc2, hl2, hr2⟩ : _ ∧ _ ∧ _ ∧ _)); clear ha2 hc2 hl2 hr2 hm0
  go_enter Try.func22, Try.ntmps22
  go_wp2_with fail
  go_loopw [5] (fun i wr => ∃ j : Nat, i = .int .i64 j ∧ j ≤ rl.length ∧ Hid (Below w.heap.size w wr)) (fun i _ => rl.length - (intOf i).toNat)
  case atStart => exact ⟨0, rfl, Nat.zero_le _, Below.refl _ _⟩
  case round =>
    obtain ⟨j, rfl, hj, HJ⟩ := hrel
    by_cases hlt : j < rl.length
    · obtain rfl := HD.out.1 (by omega)
      obtain rfl := HD'.out.1 (by omega)
      obtain ⟨d0, d1, d2, d3, d4, d5, d6, d7, d8⟩ := HD.out.2.1 j hlt
      obtain ⟨f0, f1, f2, f3, f4, f5, f6, f7, f8⟩ := HD'.out.2.1 j hlt
      have hl1 := HD.out.2.2.1 j hlt
      have hl2 := HD'.out.2.2.1 j hlt
      have hr1 := HD.out.2.2.2 j hlt
      have hr2 := HD'.out.2.2.2 j hlt
      obtain ⟨q1, q2, q3, hq⟩ := hl1.form
      obtain ⟨r1, r2, r3, hr⟩ := hl2.form
      obtain ⟨q4, q5, q6, hq'⟩ := hr1.form
      obtain ⟨r4, r5, r6, hr'⟩ := hr2.form
      rw [hq] at d4 hl1
      rw [hr] at f4 hl2
      rw [hq'] at d8 hr1
      rw [hr'] at f8 hr2
      have HSK := (show Hid (∀ w' : World, Below wr.heap.size wr w' → w'.cell? ⟨b1, o1 + j * 9, none⟩ = some (.string rl[j].name) ∧ w'.cell? ⟨b1, o1 + j * 9 + 1, none⟩ = some (.string rl[j].left.name) ∧ w'.cell? ⟨b1, o1 + j * 9 + 2, none⟩ = some (.string rl[j].left.text) ∧ w'.cell? ⟨b1, o1 + j * 9 + 3, none⟩ = some (.bool rl[j].left.leaf) ∧ w'.cell? ⟨b1, o1 + j * 9 + 4, none⟩ = some (.slice q1 q2 q3) ∧ w'.cell? ⟨b1, o1 + j * 9 + 5, none⟩ = some (.string rl[j].right.name) ∧ w'.cell? ⟨b1, o1 + j * 9 + 6, none⟩ = some (.string rl[j].right.text) ∧ w'.cell? ⟨b1, o1 + j * 9 + 7, none⟩ = some (.bool rl[j].right.leaf) ∧ w'.cell? ⟨b1, o1 + j * 9 + 8, none⟩ = some (.slice q4 q5 q6) ∧ w'.cell? ⟨b2, o2 + j * 9, none⟩ = some (.string rl[j].name) ∧ w'.cell? ⟨b2, o2 + j * 9 + 1, none⟩ = some (.string rl[j].left.name) ∧ w'.cell? ⟨b2, o2 + j * 9 + 2, none⟩ = some (.string rl[j].left.text) ∧ w'.cell? ⟨b2, o2 + j * 9 + 3, none⟩ = some (.bool rl[j].left.leaf) ∧ w'.cell? ⟨b2, o2 + j * 9 + 4, none⟩ = some (.slice r1 r2 r3) ∧ w'.cell? ⟨b2, o2 + j * 9 + 5, none⟩ = some (.string rl[j].right.name) ∧ w'.cell? ⟨b2, o2 + j * 9 + 6, none⟩ = some (.string rl[j].right.text) ∧ w'.cell? ⟨b2, o2 + j * 9 + 7, none⟩ = some (.bool rl[j].right.leaf) ∧ w'.cell? ⟨b2, o2 + j * 9 + 8, none⟩ = some (.slice r4 r5 r6)) from fun w' hb => by
        have hbw := bel_trans HJ.out hb
        have mv : ∀ {b o : Nat} {v : Value}, w.cell? ⟨b, o, none⟩ = some v → w'.cell? ⟨b, o, none⟩ = some v := fun h => (hbw.cell (lt_of_cell h)).trans h
        exact ⟨mv d0, mv d1, mv d2, mv d3, mv d4, mv d5, mv d6, mv d7, mv d8, mv f0, mv f1, mv f2, mv f3, mv f4, mv f5, mv f6, mv f7, mv f8⟩)
      have hd0 : Below wr.heap.size wr wr.drew := (Below.refl _ _).drew
      have HCL := (show Hid _ from eqRule67 rl[j] q1 r1 q4 r4 q2 q3 r2 r3 q5 q6 r5 r6 wr.drew (hl1.still (bel_trans HJ.out hd0)) (hl2.still (bel_trans HJ.out hd0)) (hr1.still (bel_trans HJ.out hd0)) (hr2.still (bel_trans HJ.out hd0)))
      have hS0 := HSK.out _ hd0
      have HD0 := (show Hid _ from hd0)
      have i1 : (0 : Int) ≤ (j : Int) := by omega
      have i2 : (j : Int) < (rl.length : Int) := by omega
      clear d0 f0 d1 f1 d2 f2 d3 f3 d4 f4 d5 f5 d6 f6 d7 f7 d8 f8 hl1 hl2 hr1 hr2 hq hr hq' hr' hd0
      generalize rl[j].name = m0 at *
      generalize rl[j].left.name = m1 at *
      generalize rl[j].left.text = m2 at *
      generalize rl[j].left.leaf = m3 at *
      generalize rl[j].right.name = m5 at *
      generalize rl[j].right.text = m6 at *
      generalize rl[j].right.leaf = m7 at *
      go_wp2_with fail
      go_region_held3 (fun wq => wq.cell? ⟨b1, o1 + j * 9, none⟩ = some (.string m0) ∧ wq.cell? ⟨b1, o1 + j * 9 + 1, none⟩ = some (.string m1) ∧ wq.cell? ⟨b1, o1 + j * 9 + 2, none⟩ = some (.string m2) ∧ wq.cell? ⟨b1, o1 + j * 9 + 3, none⟩ = some (.bool m3) ∧ wq.cell? ⟨b1, o1 + j * 9 + 4, none⟩ = some (.slice q1 q2 q3) ∧ wq.cell? ⟨b1, o1 + j * 9 + 5, none⟩ = some (.string m5) ∧ wq.cell? ⟨b1, o1 + j * 9 + 6, none⟩ = some (.string m6) ∧ wq.cell? ⟨b1, o1 + j * 9 + 7, none⟩ = some (.bool m7) ∧ wq.cell? ⟨b1, o1 + j * 9 + 8, none⟩ = some (.slice q4 q5 q6) ∧ wq.cell? ⟨b2, o2 + j * 9, none⟩ = some (.string m0) ∧ wq.cell? ⟨b2, o2 + j * 9 + 1, none⟩ = some (.string m1) ∧ wq.cell? ⟨b2, o2 + j * 9 + 2, none⟩ = some (.string m2) ∧ wq.cell? ⟨b2, o2 + j * 9 + 3, none⟩ = some (.bool m3) ∧ wq.cell? ⟨b2, o2 + j * 9 + 4, none⟩ = some (.slice r1 r2 r3) ∧ wq.cell? ⟨b2, o2 + j * 9 + 5, none⟩ = some (.string m5) ∧ wq.cell? ⟨b2, o2 + j * 9 + 6, none⟩ = some (.string m6) ∧ wq.cell? ⟨b2, o2 + j * 9 + 7, none⟩ = some (.bool m7) ∧ wq.cell? ⟨b2, o2 + j * 9 + 8, none⟩ = some (.slice r4 r5 r6)) (first | with_reducible exact hS0 | with_reducible exact hS1) ((first | (go_at_call 47; refine Calls.mono HCL.out ?_; rintro e w3 ⟨rfl, hb3⟩; have hx1 : Below wr.heap.size wr w3 := HD0.out.trans (hb3.mono (Nat.le_refl _)); have hS1 := HSK.out w3 hx1)))
      have HE := (show Hid _ from bel_trans HJ.out hx1)
      clear hS0 hS1 hb3 hx1
      go_wp2_with fail
      exact ⟨⟨j + 1, by go_num, by omega, HE⟩, by simp [intOf]; omega⟩
    · have q1 : ¬ ((j : Int) < (rl.length : Int)) := by omega
      have HE := (show Hid _ from HJ.out)
      go_wp2_with fail
      go_ret
      exact ⟨rfl, HE.out⟩
end Go.Proofs.Ytboffildchoelaa
