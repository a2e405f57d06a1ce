import Derived.Test.YtnmdgbnbnpibhaaBa
import Derived.BigQuiet
import Derived.Deep.QuietTactic
/-! The specification: the symbol at a Pos, what an attribute is of, how many Args, how many Eqs. -/
namespace Go.Proofs.Ytnmdgbnbnpibhaa
open Go.RowKit Go.Deep
set_option linter.unusedVariables false
set_option maxRecDepth 100000
set_option linter.unusedSimpArgs false

set_option maxHeartbeats 1600000 in
theorem sym47 {S : Nat → Prop} (d : Bn) (v0 v1 v3 : Value) (p pos : Int) (w : World) (h : BLies w S d v0 v1 v3) :
    Calls Try.prog 47 #[.agg #[v0, v1, .int .i64 d.own, v3], .int .i64 p, .int .i64 pos] w fun e w' => e = .returned (.int .i64 (symB d p pos)) ∧ Below w.heap.size w w' := by
  obtain ⟨x0, x1, x2, x3, x4, x5, rfl, rfl, hv3⟩ := h.form
  obtain ⟨a, cap, b, off, sv, hv, hc, hm, ha, hcell, hr⟩ := h.prods
  rw [hv3] at hv
  simp only [Value.slice.injEq] at hv
  obtain ⟨rfl, _, rfl⟩ := hv
  subst hv3
  have HA := (show Hid _ from ha); clear ha
  have HC := (show Hid _ from hcell); clear hcell
  have HR := (show Hid _ from hr); clear hr h
  unfold maxLen at hm
  have hbl := bel_alloc w (.cells #[.slice x0 d.terms.length x1, .slice x2 d.nons.length x3, .int .i64 d.own, .slice x4 d.prods.length x5] 37)
  have HBT := (show Hid (∀ (x y z : Int) (wq : World), Calls Try.prog 18 #[.int .i64 x, .int .i64 y, .int .i64 z] wq fun e w' => e = .returned (.bool (wiB x y z)) ∧ w' = wq) from fun x y z wq => between_any x y z wq)
  have HE := (show Hid (symB d p pos = if (wiB p 0 ((d.prods.length : Int) - 1) && wiB pos 0 ((pdN d p).right.length : Int)) = true then (if pos = 0 then (pdN d p).left else inN (pdN d p).right (pos - 1)) else -1) from rfl)
  have HB1 := (show Hid _ from HBT.out p 0 ((d.prods.length : Int) - 1))
  cases h1 : wiB p 0 ((d.prods.length : Int) - 1)
  · rw [h1] at HE HB1
    simp only [Bool.false_and] at HE
    go_enter Try.func47, Try.ntmps47
    go_wp2_with fail
    refine Calls.mono (HB1.out _) ?_
    rintro e w1 ⟨rfl, rfl⟩
    go_wp2_with fail
    go_ret
    rw [HE.out]
    exact ⟨rfl, hbl⟩
  · have h2 : 0 ≤ p ∧ p ≤ (d.prods.length : Int) - 1 := by unfold wiB at h1; simpa using h1
    obtain ⟨i, rfl⟩ : ∃ i : Nat, p = (i : Int) := ⟨p.toNat, by omega⟩
    have hi : i < d.prods.length := by omega
    obtain ⟨rfl, _⟩ := HA.out (by omega)
    obtain ⟨c0, c1, _, _, _, _⟩ := HC.out i hi
    rw [← hbl.cell (lt_of_cell c0)] at c0
    rw [← hbl.cell (lt_of_cell c1)] at c1
    obtain ⟨ia, icap, ib, ioff, hiv, hic, him, hia, hicell⟩ := HR.out i hi
    rw [hiv] at c1
    rw [pdN_eq hi] at HE
    rw [h1, Bool.true_and] at HE
    rw [h1] at HB1
    have i1 : (0 : Int) ≤ (i : Int) := by omega
    have i2 : (i : Int) < (d.prods.length : Int) := by omega
    have HIA := (show Hid _ from hia)
    have HIC := (show Hid _ from hicell)
    unfold maxLen at him
    clear h1 h2 hia hicell hiv HC HR
    generalize d.prods[i].left = lf at *
    generalize d.prods[i].right = rr at *
    have HB2 := (show Hid _ from HBT.out pos 0 (rr.length : Int))
    cases h3 : wiB pos 0 (rr.length : Int)
    · rw [h3] at HE HB2
      simp only [Bool.false_eq_true, if_false] at HE
      go_enter Try.func47, Try.ntmps47
      go_wp2_with fail
      refine Calls.mono (HB1.out _) ?_
      rintro e w1 ⟨rfl, rfl⟩
      go_wp2_with fail
      refine Calls.mono (HB2.out _) ?_
      rintro e w2 ⟨rfl, rfl⟩
      go_wp2_with fail
      go_ret
      rw [HE.out]
      exact ⟨rfl, hbl⟩
    · have h4 : 0 ≤ pos ∧ pos ≤ (rr.length : Int) := by unfold wiB at h3; simpa using h3
      obtain ⟨q, rfl⟩ : ∃ q : Nat, pos = (q : Int) := ⟨pos.toNat, by omega⟩
      rw [h3] at HE HB2
      simp only [if_true] at HE
      by_cases h5 : q = 0
      · subst h5
        rw [if_pos (show ((0 : Nat) : Int) = 0 from rfl)] at HE
        go_enter Try.func47, Try.ntmps47
        go_wp2_with fail
        refine Calls.mono (HB1.out _) ?_
        rintro e w1 ⟨rfl, rfl⟩
        go_wp2_with fail
        refine Calls.mono (HB2.out _) ?_
        rintro e w2 ⟨rfl, rfl⟩
        go_wp2_with fail
        go_ret
        exact ⟨by rw [HE.out]; rfl, hbl⟩
      · have h6 : q - 1 < rr.length := by omega
        have hsb : ((q : Int) - 1) = ((q - 1 : Nat) : Int) := by omega
        have hq0 : ((q : Int) == 0) = false := by simp; omega
        rw [if_neg (by omega), hsb, inN_eq h6] at HE
        obtain ⟨rfl, _⟩ := HIA.out (by omega)
        have d1 := HIC.out (q - 1) h6
        rw [← hbl.cell (lt_of_cell d1)] at d1
        have j1 : (0 : Int) ≤ ((q - 1 : Nat) : Int) := by omega
        have j2 : ((q - 1 : Nat) : Int) < (rr.length : Int) := by omega
        generalize rr[q - 1] = y at *
        generalize hq1 : q - 1 = q1 at *
        go_enter Try.func47, Try.ntmps47
        go_wp2_with fail
        refine Calls.mono (HB1.out _) ?_
        rintro e w1 ⟨rfl, rfl⟩
        go_wp2_with fail
        refine Calls.mono (HB2.out _) ?_
        rintro e w2 ⟨rfl, rfl⟩
        go_wp2_with fail
        go_ret
        exact ⟨by rw [HE.out]; rfl, hbl⟩
theorem args21 (op : Int) (w : World) : Calls Try.prog 21 #[.int .i64 op] w fun e w' => e = .returned (.int .i64 (argN op)) ∧ w' = w := by
  by_cases h1 : op = 1
  · subst h1
    go_enter Try.func21, Try.ntmps21
    go_wp2_with fail
    go_ret
    exact ⟨rfl, rfl⟩
  by_cases h2 : op = 2
  · subst h2
    go_enter Try.func21, Try.ntmps21
    go_wp2_with fail
    go_ret
    exact ⟨rfl, rfl⟩
  by_cases h3 : op = 3
  · subst h3
    go_enter Try.func21, Try.ntmps21
    go_wp2_with fail
    go_ret
    exact ⟨rfl, rfl⟩
  by_cases h4 : op = 4
  · subst h4
    go_enter Try.func21, Try.ntmps21
    go_wp2_with fail
    go_ret
    exact ⟨rfl, rfl⟩
  by_cases h5 : op = 5
  · subst h5
    go_enter Try.func21, Try.ntmps21
    go_wp2_with fail
    go_ret
    exact ⟨rfl, rfl⟩
  by_cases h6 : op = 6
  · subst h6
    go_enter Try.func21, Try.ntmps21
    go_wp2_with fail
    go_ret
    exact ⟨rfl, rfl⟩
  have e : argN op = -1 := by unfold argN; rw [if_neg h1, if_neg (by omega), if_neg h6]
  have k1 : (op == 1) = false := by simpa using h1
  have k2 : (op == 2) = false := by simpa using h2
  have k3 : (op == 3) = false := by simpa using h3
  have k4 : (op == 4) = false := by simpa using h4
  have k5 : (op == 5) = false := by simpa using h5
  have k6 : (op == 6) = false := by simpa using h6
  rw [e]
  clear e h1 h2 h3 h4 h5 h6
  go_enter Try.func21, Try.ntmps21
  go_wp2_with fail
  go_ret
  exact ⟨rfl, rfl⟩
end Go.Proofs.Ytnmdgbnbnpibhaa
