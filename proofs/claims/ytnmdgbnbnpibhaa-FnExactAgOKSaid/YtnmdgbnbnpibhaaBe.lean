import Derived.Test.YtnmdgbnbnpibhaaBd
import Derived.BigQuiet
import Derived.Deep.QuietTactic
/-! The specification: how many Eqs an attribute at a Pos has. -/
namespace Go.Proofs.Ytnmdgbnbnpibhaa
open Go.RowKit Go.Deep
set_option linter.unusedVariables false
set_option maxRecDepth 100000
set_option linter.unusedSimpArgs false

theorem cnt_step {l : List DEq} {f : DEq → Bool} {j : Nat} (h : j < l.length) : ((l.take (j + 1)).filter f).length = ((l.take j).filter f).length + (if f l[j] = true then 1 else 0) := by
  rw [List.take_succ_eq_append_getElem h, List.filter_append, List.length_append, List.filter_cons]
  cases f l[j] <;> simp
theorem hit_no {p pos a : Int} {e : DEq} (h : ¬ (e.prod = p ∧ e.pos = pos ∧ e.attr = a)) : hitB p pos a e = false := by
  unfold hitB
  rw [Bool.eq_false_iff]
  intro hh
  simp only [Bool.and_eq_true, decide_eq_true_eq] at hh
  exact h hh
theorem hit_yes {p pos a : Int} {e : DEq} (h : e.prod = p ∧ e.pos = pos ∧ e.attr = a) : hitB p pos a e = true := by
  unfold hitB
  simp [h.1, h.2.1, h.2.2]
set_option maxHeartbeats 3200000 in
theorem eq23 {S : Nat → Prop} (g : DAg) (u0 u1 : Value) (p pos a : Int) (w : World) (hg : DAgL w S g u0 u1) :
    Calls Try.prog 23 #[.agg #[u0, u1], .int .i64 p, .int .i64 pos, .int .i64 a] w fun e w' => (∃ z : Int, e = .returned (.tuple #[.int .i64 z, .int .i64 (cntE g p pos a : Nat)])) ∧ Below w.heap.size w w' := by
  obtain ⟨y0, y1, y2, y3, rfl, rfl⟩ := hg.form
  obtain ⟨aa, cap, b, off, s4, hv, hc, hm, ha, hcell, hrr⟩ := hg.eqs
  simp only [Value.slice.injEq] at hv
  obtain ⟨rfl, _, rfl⟩ := hv
  have HA := (show Hid _ from ha)
  have HC := (show Hid _ from hcell)
  unfold maxLen at hm
  have HBB := (show Hid (Below w.heap.size w (w.alloc (.cells #[.slice y0 g.attrs.length y1, .slice y2 g.eqs.length y3] 42))) from bel_alloc _ _)
  have HBX := (show Hid (Box (w.alloc (.cells #[.slice y0 g.attrs.length y1, .slice y2 g.eqs.length y3] 42)) w.heap.size 42 [.slice y0 g.attrs.length y1, .slice y2 g.eqs.length y3]) from Box.new w 42 [.slice y0 g.attrs.length y1, .slice y2 g.eqs.length y3])
  have HE := (show Hid (cntE g p pos a = (g.eqs.filter (hitB p pos a)).length) from rfl)
  have HR := (show Hid (∀ i (hi : i < g.eqs.length), ∃ a cap, s4 i = .slice a g.eqs[i].args.length cap) from fun i hi => by obtain ⟨a, c, e, _⟩ := (hrr i hi).form; exact ⟨a, c, e⟩)
  clear ha hcell hg hrr
  go_enter Try.func23, Try.ntmps23
  go_wp2_with fail
  generalize hW : (w.alloc (.cells #[.slice y0 g.attrs.length y1, .slice y2 g.eqs.length y3] 42)) = W at *
  have HW := (show Hid _ from hW); clear hW
  go_loopw [10, 11, 12] (fun u n i wr => ∃ (z : Int) (m j : Nat), u = .int .i64 z ∧ n = .int .i64 m ∧ i = .int .i64 j ∧ j ≤ g.eqs.length ∧ m ≤ j ∧ Hid (((g.eqs.take j).filter (hitB p pos a)).length = m) ∧ Below W.heap.size W wr) (fun _ _ i _ => g.eqs.length - (intOf i).toNat)
  case atStart => exact ⟨-1, 0, 0, rfl, rfl, rfl, Nat.zero_le _, Nat.le_refl _, rfl, Below.refl _ _⟩
  case round =>
    obtain ⟨z, m, j, rfl, rfl, rfl, hj, hmj, HM, hbel⟩ := hrel
    have q0 : wr.cell? ⟨w.heap.size, 0, none⟩ = some (.slice y0 g.attrs.length y1) := (HBX.out.still hbel).cell 0 (by simp)
    have q1 : wr.cell? ⟨w.heap.size, 1, none⟩ = some (.slice y2 g.eqs.length y3) := (HBX.out.still hbel).cell 1 (by simp)
    have HB2 := (show Hid (Below w.heap.size w wr) from bel_trans HBB.out hbel)
    by_cases hlt : j < g.eqs.length
    · obtain ⟨rfl, _⟩ := HA.out (by omega)
      obtain ⟨c0, c1, c2, c3, c4⟩ := HC.out j hlt
      rw [← HB2.out.cell (lt_of_cell c0)] at c0
      rw [← HB2.out.cell (lt_of_cell c1)] at c1
      rw [← HB2.out.cell (lt_of_cell c2)] at c2
      rw [← HB2.out.cell (lt_of_cell c3)] at c3
      rw [← HB2.out.cell (lt_of_cell c4)] at c4
      obtain ⟨ra, rc, er⟩ := HR.out j hlt
      rw [er] at c4
      clear er
      have HST := (show Hid _ from cnt_step (f := hitB p pos a) hlt)
      have HNO := (show Hid _ from hit_no (p := p) (pos := pos) (a := a) (e := g.eqs[j]))
      have HYE := (show Hid _ from hit_yes (p := p) (pos := pos) (a := a) (e := g.eqs[j]))
      generalize hitB p pos a g.eqs[j] = hb at *
      generalize g.eqs[j].prod = ep at *
      generalize g.eqs[j].pos = eo at *
      generalize g.eqs[j].attr = ea at *
      generalize g.eqs[j].op = eop at *
      have HBW := (show Hid (∀ o, Below W.heap.size W (wr.alloc o)) from fun o => bel_trans hbel (bel_alloc _ _))
      have i1 : (0 : Int) ≤ (j : Int) := by omega
      have i2 : (j : Int) < (g.eqs.length : Int) := by omega
      have wj : IntKind.i64.wrap ((j : Int) + 1) = ((j + 1 : Nat) : Int) := by rw [IntKind.wrap_i64]; omega
      have wm : IntKind.i64.wrap ((m : Int) + 1) = ((m + 1 : Nat) : Int) := by rw [IntKind.wrap_i64]; omega
      clear hbel
      by_cases h1 : ep = p
      · by_cases h2 : eo = pos
        · by_cases h3 : ea = a
          · have HN : Hid (((g.eqs.take (j + 1)).filter (hitB p pos a)).length = m + 1) := by
              show _ = _
              rw [HST.out, HM.out, HYE.out ⟨h1, h2, h3⟩]; rfl
            subst h1; subst h2; subst h3
            clear HNO HYE HST
            go_wp2_with fail
            exact ⟨⟨_, m + 1, j + 1, rfl, by go_num, by go_num, by omega, by omega, HN, HBW.out _⟩, by simp [intOf]; omega⟩
          · have HN : Hid (((g.eqs.take (j + 1)).filter (hitB p pos a)).length = m) := by
              show _ = _
              rw [HST.out, HM.out, HNO.out (fun h => h3 h.2.2)]; rfl
            subst h1; subst h2
            have k3 : (ea == a) = false := by simpa using h3
            clear HNO HYE HST h3
            go_wp2_with fail
            exact ⟨⟨_, m, j + 1, rfl, rfl, by go_num, by omega, by omega, HN, HBW.out _⟩, by simp [intOf]; omega⟩
        · have HN : Hid (((g.eqs.take (j + 1)).filter (hitB p pos a)).length = m) := by
            show _ = _
            rw [HST.out, HM.out, HNO.out (fun h => h2 h.2.1)]; rfl
          subst h1
          have k2 : (eo == pos) = false := by simpa using h2
          clear HNO HYE HST h2
          go_wp2_with fail
          exact ⟨⟨_, m, j + 1, rfl, rfl, by go_num, by omega, by omega, HN, HBW.out _⟩, by simp [intOf]; omega⟩
      · have HN : Hid (((g.eqs.take (j + 1)).filter (hitB p pos a)).length = m) := by
          show _ = _
          rw [HST.out, HM.out, HNO.out (fun h => h1 h.1)]; rfl
        have k1 : (ep == p) = false := by simpa using h1
        clear HNO HYE HST h1
        go_wp2_with fail
        exact ⟨⟨_, m, j + 1, rfl, rfl, by go_num, by omega, by omega, HN, HBW.out _⟩, by simp [intOf]; omega⟩
    · have hje : j = g.eqs.length := by omega
      subst hje
      rw [List.take_length] at HM
      go_wp2_with fail
      go_ret2
      exact ⟨⟨z, by rw [HE.out, HM.out]; rfl⟩, HB2.out⟩
end Go.Proofs.Ytnmdgbnbnpibhaa
