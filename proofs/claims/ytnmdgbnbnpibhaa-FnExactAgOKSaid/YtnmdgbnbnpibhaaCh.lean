import Derived.Test.YtnmdgbnbnpibhaaCg
/-! The program: all Eqs. -/
namespace Go.Proofs.Ytnmdgbnbnpibhaa
open Go.RowKit Go.Deep
set_option linter.unusedVariables false
set_option maxRecDepth 100000
set_option linter.unusedSimpArgs false

set_option maxHeartbeats 1600000 in
theorem all31 {S S' : Nat → Prop} (d : Bn) (g : DAg) (v0 v1 v3 u0 u1 : Value) (w : World) (h : BLies w S d v0 v1 v3) (hg : DAgL w S' g u0 u1) (hsm : ∀ i (hi : i < g.attrs.length), 0 ≤ g.attrs[i].non ∧ g.attrs[i].non ≤ 1000) (hT : d.terms.length ≤ 1000000) :
    Calls Try.prog 31 #[u1, .func (.func 32) #[.agg #[v0, v1, .int .i64 d.own, v3, u0, u1]] #[]] w fun e w' => e = .returned (.bool (g.eqs.all (erB d g))) ∧ Below w.heap.size w w' := by
  have HCL : Hid (∀ (E : DEq) (av : Value) (wq : World), Below w.heap.size w wq → RefR wq S' E.args av → Calls Try.prog 32 #[.agg #[v0, v1, .int .i64 d.own, v3, u0, u1], .agg #[.int .i64 E.prod, .int .i64 E.pos, .int .i64 E.attr, .int .i64 E.op, av]] wq fun e w' => e = .returned (.bool (erB d g E)) ∧ Below wq.heap.size wq w') :=
    fun E av wq hb hr => eqr32 d g E v0 v1 v3 u0 u1 av wq (h.still hb) (hg.still hb) hr hsm hT
  have hl := hg.eqs
  obtain ⟨x0, x1, x2, x3, x4, x5, rfl, rfl, rfl⟩ := h.form
  obtain ⟨y0, y1, y2, y3, rfl, rfl⟩ := hg.form
  clear h hg hsm hT
  obtain ⟨a, cap, b, off, s4, hv, hc, hm, ha, hcell, r4⟩ := hl
  have hv1 : y2 = a := by injection hv
  have hv2 : y3 = cap := by injection hv
  subst hv1 hv2
  clear hv
  have HC := (show Hid _ from hcell); clear hcell
  have HA := (show Hid _ from ha); clear ha
  have HR := (show Hid _ from r4); clear r4
  unfold maxLen at hm
  generalize hRes : g.eqs.all (erB d g) = R
  have HRes := (show Hid _ from hRes); clear hRes
  go_enter Try.func31, Try.ntmps31
  go_wp2_with fail
  go_loopw [9] (fun i wr => ∃ j : Nat, i = .int .i64 j ∧ j ≤ g.eqs.length ∧ Hid (∀ i (hi : i < g.eqs.length), i < j → erB d g g.eqs[i] = true) ∧ Below w.heap.size w wr) (fun i _ => g.eqs.length - (intOf i).toNat)
  case atStart => exact ⟨0, rfl, Nat.zero_le _, fun i hi h0 => absurd h0 (Nat.not_lt_zero _), Below.refl _ _⟩
  case round =>
    obtain ⟨j, rfl, hj, HJ, hbel⟩ := hrel
    by_cases hjl : j < g.eqs.length
    · obtain ⟨ea, _⟩ := HA.out (by omega)
      have HEA := (show Hid _ from ea)
      obtain ⟨c0, c1, c2, c3, c4⟩ := HC.out j hjl
      rw [← hbel.cell (lt_of_cell c0)] at c0
      rw [← hbel.cell (lt_of_cell c1)] at c1
      rw [← hbel.cell (lt_of_cell c2)] at c2
      rw [← hbel.cell (lt_of_cell c3)] at c3
      rw [← hbel.cell (lt_of_cell c4)] at c4
      have hr4 := HR.out j hjl
      obtain ⟨pa, pc, hpe, _⟩ := hr4.form
      rw [hpe] at c4 hr4
      clear hpe
      have HNX := (show Hid (erB d g g.eqs[j] = true → ∀ i (hi : i < g.eqs.length), i < j + 1 → erB d g g.eqs[i] = true) from fun h i hi hij => by
        by_cases e : i = j
        · subst e; exact h
        · exact HJ.out i hi (by omega))
      have HFX := (show Hid (erB d g g.eqs[j] = false → R = false) from fun h => by
        rw [← HRes.out, List.all_eq_false]
        exact ⟨g.eqs[j], List.getElem_mem hjl, by rw [h]; simp⟩)
      have HC3 : Hid (∀ (wq : World), Below w.heap.size w wq → Calls Try.prog 32 #[.agg #[.slice x0 d.terms.length x1, .slice x2 d.nons.length x3, .int .i64 d.own, .slice x4 d.prods.length x5, .slice y0 g.attrs.length y1, .slice y2 g.eqs.length y3], .agg #[.int .i64 g.eqs[j].prod, .int .i64 g.eqs[j].pos, .int .i64 g.eqs[j].attr, .int .i64 g.eqs[j].op, .slice pa g.eqs[j].args.length pc]] wq fun e w' => e = .returned (.bool (erB d g g.eqs[j])) ∧ Below wq.heap.size wq w') := fun wq hb => HCL.out g.eqs[j] _ wq hb (hr4.still hb)
      clear hr4
      generalize erB d g g.eqs[j] = B at *
      generalize g.eqs[j].prod = z0 at *
      generalize g.eqs[j].pos = z1 at *
      generalize g.eqs[j].attr = z2 at *
      generalize g.eqs[j].op = z3 at *
      generalize g.eqs[j].args.length = z4 at *
      have HBE := (show Hid _ from hbel.alloc hbel.size (.cells #[.int .i64 z0, .int .i64 z1, .int .i64 z2, .int .i64 z3, .slice pa z4 pc] 59))
      subst ea
      cases B
      · have HF := (show Hid (R = false) from HFX.out rfl)
        go_wp2_with fail
        go_at_call 32
        refine Calls.mono (HC3.out _ HBE.out) ?_
        rintro e w1 ⟨rfl, hb1⟩
        have HE := (show Hid _ from bel_trans HBE.out hb1); clear hb1 c0 c1 c2 c3 c4 hbel
        go_wp2_with fail
        go_ret
        exact ⟨by rw [HF.out]; rfl, HE.out⟩
      · have HN := (show Hid _ from HNX.out rfl)
        go_wp2_with fail
        go_at_call 32
        refine Calls.mono (HC3.out _ HBE.out) ?_
        rintro e w1 ⟨rfl, hb1⟩
        have HE := (show Hid _ from bel_trans HBE.out hb1); clear hb1 c0 c1 c2 c3 c4 hbel
        go_wp2_with fail
        exact ⟨⟨j + 1, by go_num, by omega, HN, HE.out⟩, by simp [intOf]; omega⟩
    · have HF := (show Hid (R = true) from by
        show R = true
        rw [← HRes.out, List.all_eq_true]
        intro x hx
        obtain ⟨i, hi, rfl⟩ := List.mem_iff_getElem.1 hx
        exact HJ.out i hi (by omega))
      go_wp2_with fail
      go_ret
      exact ⟨by rw [HF.out]; rfl, hbel⟩
end Go.Proofs.Ytnmdgbnbnpibhaa
