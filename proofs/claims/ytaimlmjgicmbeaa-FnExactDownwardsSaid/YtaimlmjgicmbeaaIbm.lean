import Derived.Test.YtaimlmjgicmbeaaIbn
namespace Go.Proofs.Ytaimlmjgicmbeaa
open Go.RowKit Go.Deep
set_option linter.unusedVariables false
set_option maxRecDepth 100000
set_option linter.unusedSimpArgs false

set_option maxHeartbeats 1600000 in
theorem dollar_any {S : Nat → Prop} (d : Bn) (p : Pd) (v0 v1 v3 vr : Value) (w : World) (g : Nat) (h : BLies w S d v0 v1 v3) (hg : Box4 w g 34 v0 v1 (.int .i64 d.own) v3) (hr : Ints w S p.right vr) (hl : p.label.size ≤ maxLen) (hT : d.terms.length ≤ 60) (hN : d.nons.length ≤ 100) :
    Calls Try.prog 63 #[.agg #[.int .i64 p.left, vr, .string p.label, .int .i64 p.lev, .int .i64 p.asc], .pointer (some ⟨g, 0, none⟩)] w fun e w' => e = .returned (.bool (pdB d.terms.length d.nons.length p)) ∧ Below w.heap.size w w' := by
  have HP := (show Hid _ from fun (w' : World) (hb : Below w.heap.size w w') => prodRight_any d p v0 v1 v3 vr w' (h.still hb) (hr.still hb) hl hT hN)
  have q := hg.still (bel_alloc w (.cells #[.int .i64 p.left, vr, .string p.label, .int .i64 p.lev, .int .i64 p.asc] 66))
  obtain ⟨a0, p0, a1, p1, a3, p3, rfl, rfl, rfl⟩ := h.form
  obtain ⟨ar, cr, rfl, hm⟩ := hr.form
  obtain ⟨x0, x1, x2, x3⟩ := q.cells
  clear q h hr hg
  generalize pdB d.terms.length d.nons.length p = R at *
  go_enter Try.func63, Try.ntmps63
  go_wp2_with fail
  refine Calls.mono (HP.out _ (bel_alloc _ _)) ?_
  rintro e w1 ⟨rfl, hb⟩
  have HB := (show Hid _ from bel_trans (bel_alloc _ _) hb); clear hb x0 x1 x2 x3
  go_wp2_with fail
  go_ret
  exact ⟨rfl, HB.out⟩
set_option maxHeartbeats 1600000 in
theorem all_any {S : Nat → Prop} (d : Bn) (v0 v1 v3 : Value) (w : World) (g : Nat) (h : BLies w S d v0 v1 v3) (hg : Box4 w g 34 v0 v1 (.int .i64 d.own) v3) (hT : d.terms.length ≤ 60) (hN : d.nons.length ≤ 100) :
    Calls Try.prog 62 #[v3, .func (.func 63) #[] #[.pointer (some ⟨g, 0, none⟩)]] w fun e w' => e = .returned (.bool (d.prods.all (pdB d.terms.length d.nons.length))) ∧ Below w.heap.size w w' := by
  have HD := (show Hid _ from fun (j : Nat) (hj : j < d.prods.length) (sv : Value) (hs : Ints w S d.prods[j].right sv) (hl : d.prods[j].label.size ≤ maxLen) (w' : World) (hb : Below w.heap.size w w') => dollar_any d d.prods[j] v0 v1 v3 sv w' g (h.still hb) (hg.still hb) (hs.still hb) hl hT hN)
  obtain ⟨a, cap, b, off, sv, rfl, hc, hm, ha, hcell, hr⟩ := h.prods
  have HC := (show Hid _ from hcell); clear hcell
  have HA := (show Hid _ from ha); clear ha
  have HR := (show Hid _ from hr); clear hr
  unfold maxLen at hm
  clear h hg
  generalize hRes : d.prods.all (pdB d.terms.length d.nons.length) = R
  have HRes := (show Hid _ from hRes); clear hRes
  go_enter Try.func62, Try.ntmps62
  go_wp2_with fail
  go_loopw [9] (fun i wr => ∃ j : Nat, i = .int .i64 j ∧ j ≤ d.prods.length ∧ Hid (∀ i (hi : i < d.prods.length), i < j → pdB d.terms.length d.nons.length d.prods[i] = true) ∧ Below w.heap.size w wr) (fun i _ => d.prods.length - (intOf i).toNat)
  case atStart => exact ⟨0, rfl, Nat.zero_le _, fun i hi h0 => absurd h0 (Nat.not_lt_zero _), Below.refl _ _⟩
  case round =>
    obtain ⟨j, rfl, hj, HJ, hbel⟩ := hrel
    by_cases hjl : j < d.prods.length
    · have hjl' := hjl
      obtain ⟨rfl, _⟩ := HA.out (by omega)
      obtain ⟨c0, c1, c2, c3, c4, hs⟩ := HC.out j hjl'
      rw [← hbel.cell (lt_of_cell c0)] at c0
      rw [← hbel.cell (lt_of_cell c1)] at c1
      rw [← hbel.cell (lt_of_cell c2)] at c2
      rw [← hbel.cell (lt_of_cell c3)] at c3
      rw [← hbel.cell (lt_of_cell c4)] at c4
      have hcl := HD.out j hjl' (sv j) (HR.out j hjl') hs
      obtain ⟨a2, cap2, e2, _⟩ := (HR.out j hjl').form
      rw [e2] at c1 hcl
      have HCL := (show Hid _ from hcl); clear hcl e2
      generalize hB : pdB d.terms.length d.nons.length d.prods[j] = B at HCL
      have HB := (show Hid _ from hB); clear hB
      cases B
      · have HF : Hid (R = false) := by
          show R = false
          rw [← HRes.out, List.all_eq_false]
          exact ⟨d.prods[j], List.getElem_mem hjl', by rw [HB.out]; simp⟩
        go_wp2_with fail
        go_at_call 63
        refine Calls.mono (HCL.out _ (hbel.alloc hbel.size _)) ?_
        rintro e w1 ⟨rfl, hb1⟩
        have HE := (show Hid _ from bel_trans (hbel.alloc hbel.size _) hb1); clear hb1 c0 c1 c2 c3 c4 hbel
        go_wp2_with fail
        go_ret
        exact ⟨by rw [HF.out]; rfl, HE.out⟩
      · have HN : Hid (∀ i (hi : i < d.prods.length), i < j + 1 → pdB d.terms.length d.nons.length d.prods[i] = true) := fun i hi hij => by
          by_cases e : i = j
          · subst e; exact HB.out
          · exact HJ.out i hi (by omega)
        go_wp2_with fail
        go_at_call 63
        refine Calls.mono (HCL.out _ (hbel.alloc hbel.size _)) ?_
        rintro e w1 ⟨rfl, hb1⟩
        have HE := (show Hid _ from bel_trans (hbel.alloc hbel.size _) hb1); clear hb1 c0 c1 c2 c3 c4 hbel
        go_wp2_with fail
        exact ⟨⟨j + 1, by go_num, by omega, HN, HE.out⟩, by simp [intOf]; omega⟩
    · have HF : Hid (R = true) := by
        show R = true
        rw [← HRes.out, List.all_eq_true]
        intro x hx
        obtain ⟨i, hi, rfl⟩ := List.mem_iff_getElem.1 hx
        exact HJ.out i hi (by omega)
      go_wp2_with fail
      go_ret
      exact ⟨by rw [HF.out]; rfl, hbel⟩
end Go.Proofs.Ytaimlmjgicmbeaa
