import Derived.Test.YtaimlmjgicmbeaaBok
/-! The program's BnfOK. -/
namespace Go.Proofs.Ytaimlmjgicmbeaa
open Go.RowKit Go.Deep
set_option linter.unusedVariables false
set_option maxRecDepth 100000
set_option linter.unusedSimpArgs false

theorem bel2 (w : World) (o o' : Obj) : Below w.heap.size w ((w.alloc o).alloc o') := (bel_alloc _ _).alloc (by simp) _
set_option maxHeartbeats 1600000 in
theorem prodRight_any {S : Nat → Prop} (d : Bn) (p : Pd) (v0 v1 v3 vr : Value) (w : World) (h : BLies w S d v0 v1 v3) (hr : Ints w S p.right vr) (hl : p.label.size ≤ maxLen) (hT : d.terms.length ≤ 60) (hN : d.nons.length ≤ 100) :
    Calls Try.prog 64 #[.agg #[v0, v1, .int .i64 d.own, v3], .agg #[.int .i64 p.left, vr, .string p.label, .int .i64 p.lev, .int .i64 p.asc]] w fun e w' => e = .returned (.bool (pdB d.terms.length d.nons.length p)) ∧ Below w.heap.size w w' := by
  obtain ⟨a0, p0, a1, p1, a3, p3, rfl, rfl, rfl⟩ := h.form
  obtain ⟨ar, cr, rfl, hm⟩ := hr.form
  have HW := (show Hid _ from fun (w' : World) (hb : Below w.heap.size w w') => within_any p.right 0 ((d.terms.length : Int) + d.nons.length - 1) _ w' (hr.still hb))
  have HM := (show Hid _ from fun (w' : World) => iName p.label hl w')
  have HS := (show Hid _ from fun (w' : World) => strength_i p.lev p.asc w')
  clear h hr
  unfold maxLen at hm
  have hE := isEmpty_iff p.label
  unfold pdB
  generalize p.right.all (fun x => wiB x 0 ((d.terms.length : Int) + d.nons.length - 1)) = B4 at *
  generalize nmB p.label = B6 at *
  generalize stB p.lev p.asc = B7 at *
  generalize d.terms.length = T at *
  generalize d.nons.length = N at *
  generalize p.right.length = R at *
  by_cases c1 : (T : Int) ≤ p.left
  · by_cases c2 : p.left ≤ (T : Int) + N - 1
    · have e1 : wiB p.left T ((T : Int) + N - 1) = true := by simp [wiB]; omega
      rw [e1]
      by_cases c3 : R ≤ 12
      · cases B4
        · go_enter Try.func64, Try.ntmps64
          go_wp2_with fail
          refine Calls.mono (HW.out _ (bel2 _ _ _)) ?_
          rintro e w1 ⟨rfl, rfl⟩
          go_wp2_with fail
          go_ret
          exact ⟨ret_bool (by simp), bel2 _ _ _⟩
        · by_cases c5 : p.label.size = 0
          · rw [decide_eq_true c5] at hE
            rw [decide_eq_true c5]
            go_enter Try.func64, Try.ntmps64
            go_wp2_with fail
            refine Calls.mono (HW.out _ (bel2 _ _ _)) ?_
            rintro e w1 ⟨rfl, rfl⟩
            go_wp2_with fail
            refine Calls.mono (HS.out _) ?_
            rintro e w1 ⟨rfl, rfl⟩
            go_wp2_with fail
            go_ret
            exact ⟨ret_bool (by simp [c3]), bel2 _ _ _⟩
          · rw [decide_eq_false c5] at hE
            rw [decide_eq_false c5]
            cases B6
            · go_enter Try.func64, Try.ntmps64
              go_wp2_with fail
              refine Calls.mono (HW.out _ (bel2 _ _ _)) ?_
              rintro e w1 ⟨rfl, rfl⟩
              go_wp2_with fail
              refine Calls.mono (HM.out _) ?_
              rintro e w1 ⟨rfl, rfl⟩
              go_wp2_with fail
              go_ret
              exact ⟨ret_bool (by simp), bel2 _ _ _⟩
            · go_enter Try.func64, Try.ntmps64
              go_wp2_with fail
              refine Calls.mono (HW.out _ (bel2 _ _ _)) ?_
              rintro e w1 ⟨rfl, rfl⟩
              go_wp2_with fail
              refine Calls.mono (HM.out _) ?_
              rintro e w1 ⟨rfl, rfl⟩
              go_wp2_with fail
              refine Calls.mono (HS.out _) ?_
              rintro e w1 ⟨rfl, rfl⟩
              go_wp2_with fail
              go_ret
              exact ⟨ret_bool (by simp [c3]), bel2 _ _ _⟩
      · go_enter Try.func64, Try.ntmps64
        go_wp2_with fail
        go_ret
        exact ⟨ret_bool (by simp [c3]), bel2 _ _ _⟩
    · have e1 : wiB p.left T ((T : Int) + N - 1) = false := by simp [wiB]; omega
      rw [e1]
      go_enter Try.func64, Try.ntmps64
      go_wp2_with fail
      go_ret
      exact ⟨ret_bool (by simp), bel2 _ _ _⟩
  · have e1 : wiB p.left T ((T : Int) + N - 1) = false := by simp [wiB]; omega
    rw [e1]
    go_enter Try.func64, Try.ntmps64
    go_wp2_with fail
    go_ret
    exact ⟨ret_bool (by simp), bel2 _ _ _⟩
end Go.Proofs.Ytaimlmjgicmbeaa
