import Derived.Test.YtgjnlhidbjpdkajGreatG5
import Derived.Test.YtgjnlhidbjpdkajGreatTop
/-! All parts; the parts' order: the program. -/
namespace Go.Proofs.YtgjnlhidbjpdkajGreat
open Go.RowKit Go.Deep
set_option linter.unusedVariables false
set_option maxRecDepth 100000
set_option linter.unusedSimpArgs false

set_option maxHeartbeats 1600000 in
theorem allPart {S : Nat → Prop} (l : List DPart) (v : Value) (w : World) (h : PartR w S l v) :
    Calls Tryz.prog 49 #[v, .func (.func 50) #[] #[]] w fun e w' => e = .returned (.bool (l.all parB)) ∧ Below w.heap.size w w' := by
  obtain ⟨a, cap, b, off, s2, rfl, hc, hm, ha, hcell, r2⟩ := h
  have HC := (show Hid _ from hcell); clear hcell
  have HA := (show Hid _ from ha); clear ha
  have HR2 := (show Hid _ from r2); clear r2
  unfold maxLen at hm
  generalize hRes : l.all parB = R
  have HRes := (show Hid _ from hRes); clear hRes
  go_enter Tryz.func49, Tryz.ntmps49
  go_wp2_with fail
  go_loopw [9] (fun i wr => ∃ j : Nat, i = .int .i64 j ∧ j ≤ l.length ∧ Hid (∀ i (hi : i < l.length), i < j → parB l[i] = true) ∧ Below w.heap.size w wr) (fun i _ => l.length - (intOf i).toNat)
  case atStart => exact ⟨0, rfl, Nat.zero_le _, fun i hi h0 => absurd h0 (Nat.not_lt_zero _), Below.refl _ _⟩
  case round =>
    obtain ⟨j, rfl, hj, HJ, hbel⟩ := hrel
    by_cases hjl : j < l.length
    · have hjl' := hjl
      obtain ⟨rfl, _⟩ := HA.out (by omega)
      obtain ⟨c0, c1, c2, z0⟩ := HC.out j hjl'
      rw [← hbel.cell (lt_of_cell c0)] at c0
      rw [← hbel.cell (lt_of_cell c1)] at c1
      rw [← hbel.cell (lt_of_cell c2)] at c2
      obtain ⟨a2x, cap2x, e2x, hm2⟩ := (HR2.out j hjl').form
      have hcl := fun (w' : World) (hb : Below w.heap.size w w') => isPart_any l[j] a2x l[j].alts.length cap2x w' z0 rfl hm2
      rw [e2x] at c2
      clear e2x hm2
      have HCL := (show Hid _ from hcl); clear hcl
      generalize hB : parB l[j] = B at HCL
      have HB := (show Hid _ from hB); clear hB
      cases B
      · have HF : Hid (R = false) := by
          show R = false
          rw [← HRes.out, List.all_eq_false]
          exact ⟨l[j], List.getElem_mem hjl', by rw [HB.out]; simp⟩
        go_wp2_with fail
        go_at_call 50
        refine Calls.mono (HCL.out _ (hbel.alloc hbel.size _)) ?_
        rintro e w1 ⟨rfl, hb1⟩
        have HE := (show Hid _ from bel_trans (hbel.alloc hbel.size _) hb1); clear hb1 c0 c1 c2 hbel
        go_wp2_with fail
        go_ret
        exact ⟨by rw [HF.out]; rfl, HE.out⟩
      · have HN : Hid (∀ i (hi : i < l.length), i < j + 1 → parB l[i] = true) := fun i hi hij => by
          by_cases e : i = j
          · subst e; exact HB.out
          · exact HJ.out i hi (by omega)
        go_wp2_with fail
        go_at_call 50
        refine Calls.mono (HCL.out _ (hbel.alloc hbel.size _)) ?_
        rintro e w1 ⟨rfl, hb1⟩
        have HE := (show Hid _ from bel_trans (hbel.alloc hbel.size _) hb1); clear hb1 c0 c1 c2 hbel
        go_wp2_with fail
        exact ⟨⟨j + 1, by go_num, by omega, HN, HE.out⟩, by simp [intOf]; omega⟩
    · have HF : Hid (R = true) := by
        show R = true
        rw [← HRes.out, List.all_eq_true]
        intro x hx
        obtain ⟨i, hi, rfl⟩ := List.mem_iff_getElem.1 hx
        exact HJ.out i hi (by omega)
      go_wp2_with fail
      go_ret
      exact ⟨by rw [HF.out]; rfl, hbel⟩

/-- Rule by rule, alternative by alternative. -/
def wAlts (parts : List DPart) : List DGAlt → Nat → Option Nat
  | [], e => some e
  | a :: r, e => match thr parts parts.length a.items parts.length e with
    | none => none
    | some e' => wAlts parts r e'
def wRules (parts : List DPart) : List DGRule → Nat → Option Nat
  | [], e => some e
  | a :: r, e => match wAlts parts a.alts e with
    | none => none
    | some e' => wRules parts r e'
def ordB (d : DGrammar) : Bool := decide (wRules d.parts d.rules 0 = some d.parts.length)
theorem wAlts_end {parts : List DPart} {l : List DGAlt} {k e : Nat} (h : l.length ≤ k) : wAlts parts (l.drop k) e = some e := by
  rw [List.drop_eq_nil_of_le h, wAlts]
theorem wAlts_none {parts : List DPart} {l : List DGAlt} {k e : Nat} (h : k < l.length) (hr : thr parts parts.length l[k].items parts.length e = none) : wAlts parts (l.drop k) e = none := by
  rw [List.drop_eq_getElem_cons h, wAlts, hr]
theorem wAlts_some {parts : List DPart} {l : List DGAlt} {k e e' : Nat} (h : k < l.length) (hr : thr parts parts.length l[k].items parts.length e = some e') : wAlts parts (l.drop k) e = wAlts parts (l.drop (k + 1)) e' := by
  rw [List.drop_eq_getElem_cons h, wAlts, hr]
theorem wRules_end {parts : List DPart} {l : List DGRule} {k e : Nat} (h : l.length ≤ k) : wRules parts (l.drop k) e = some e := by
  rw [List.drop_eq_nil_of_le h, wRules]
theorem wRules_none {parts : List DPart} {l : List DGRule} {k e : Nat} (h : k < l.length) (hr : wAlts parts l[k].alts e = none) : wRules parts (l.drop k) e = none := by
  rw [List.drop_eq_getElem_cons h, wRules, hr]
theorem wRules_some {parts : List DPart} {l : List DGRule} {k e e' : Nat} (h : k < l.length) (hr : wAlts parts l[k].alts e = some e') : wRules parts (l.drop k) e = wRules parts (l.drop (k + 1)) e' := by
  rw [List.drop_eq_getElem_cons h, wRules, hr]
theorem bel_bt {B g : Nat} {w a b : World} (h : Below B w a) (k : Bt g a b) (hg : B ≤ g) (hz : B ≤ a.heap.size) : Below B w b :=
  ⟨k.os.trans h.os, k.tape.trans h.tape, k.output.trans h.output, Nat.le_trans h.size k.size, fun z hzz => (k.block z (by omega) (by omega)).trans (h.block z hzz)⟩
set_option maxHeartbeats 3200000 in
theorem order_any {S : Nat → Prop} (d : DGrammar) (v1 v2 v3 v4 : Value) (w : World) (h : DGrammarL w S d v1 v2 v3 v4) (hpl : d.parts.length ≤ 200) :
    Calls Tryz.prog 51 #[.agg #[.string d.name, v1, v2, v3, v4]] w fun e w' => e = .returned (.bool (ordB d)) ∧ Below w.heap.size w w' := by
  have h' := h.top
  obtain ⟨a1, p1, rfl, _⟩ := h.tokens.form
  obtain ⟨a2, p2, rfl, _⟩ := h.levels.form
  have HP := (show Hid _ from h'.parts)
  obtain ⟨a4, p4, rfl, _⟩ := h.parts.form
  obtain ⟨a, cap, b, off, s1, rfl, hc, hm, ha, hcell, r1⟩ := h'.rules
  have HC := (show Hid _ from hcell); clear hcell
  have HA := (show Hid _ from ha); clear ha
  have HR1 := (show Hid _ from r1); clear r1
  clear h h'
  have hb46 := Box.new w 36 [.string d.name, .slice a1 d.tokens.length p1, .slice a2 d.levels.length p2, .slice a d.rules.length cap, .slice a4 d.parts.length p4]
  have hb119 := Box.new (w.alloc (.cells ([.string d.name, .slice a1 d.tokens.length p1, .slice a2 d.levels.length p2, .slice a d.rules.length cap, .slice a4 d.parts.length p4] : List Value).toArray 36)) 125 [.slice a4 d.parts.length p4, .int .i64 0]
  simp only [World.size_alloc] at hb119
  obtain ⟨W0, HW⟩ : ∃ W0, Hid (W0 = (w.alloc (.cells #[.string d.name, .slice a1 d.tokens.length p1, .slice a2 d.levels.length p2, .slice a d.rules.length cap, .slice a4 d.parts.length p4] 36)).alloc (.cells #[.slice a4 d.parts.length p4, .int .i64 0] 125)) := ⟨_, rfl⟩
  have HB0 := (show Hid (Box W0 w.heap.size 36 [.string d.name, .slice a1 d.tokens.length p1, .slice a2 d.levels.length p2, .slice a d.rules.length cap, .slice a4 d.parts.length p4] ∧ Box W0 (w.heap.size + 1) 125 [.slice a4 d.parts.length p4, .int .i64 ((0 : Nat) : Int)] ∧ Below w.heap.size w W0 ∧ W0.heap.size = w.heap.size + 2) from by
    rw [HW.out]
    exact ⟨hb46.still (bel_alloc _ _), hb119, bel2 w _ _, by simp⟩)
  clear hb46 hb119
  unfold maxLen at hm
  have HO := (show Hid (decide (wRules d.parts d.rules 0 = some d.parts.length) = ordB d) from rfl)
  generalize ordB d = R at *
  go_enter Tryz.func51, Tryz.ntmps51
  go_wp2_with fail
  go_loopw [14] (fun i wr => ∃ (j e1 : Nat), i = .int .i64 j ∧ j ≤ d.rules.length ∧ e1 ≤ 200 ∧ Hid (Bt (w.heap.size + 1) W0 wr ∧ Box wr (w.heap.size + 1) 125 [.slice a4 d.parts.length p4, .int .i64 e1] ∧ wRules d.parts (d.rules.drop j) e1 = wRules d.parts d.rules 0)) (fun i _ => d.rules.length - (intOf i).toNat)
  case atStart =>
    refine ⟨0, 0, rfl, Nat.zero_le _, Nat.zero_le _, ?_⟩
    have h1 := HB0.out.2.1
    have h2 : Bt (w.heap.size + 1) W0 W0 := Bt.refl _ _
    rw [HW.out] at h1 h2
    rw [HW.out]
    exact ⟨h2, h1, by rw [List.drop_zero]⟩
  case round =>
    obtain ⟨j, e1, rfl, hj, he1, HX⟩ := hrel
    have hB46 := HB0.out.1.keep (HX.out.1.block w.heap.size HB0.out.1.lt (by omega))
    by_cases hjl : j < d.rules.length
    · have hjl' := hjl
      obtain ⟨rfl, hSb⟩ := HA.out (by omega)
      obtain ⟨c0, c1, _⟩ := HC.out j hjl'
      have hkb : wr.heap[b]? = w.heap[b]? := (HX.out.1.block b (by have := HB0.out.2.2.2; have := hSb.2; omega) (by have := hSb.2; omega)).trans (HB0.out.2.2.1.block b hSb.2)
      rw [← World.cell?_of_block (w := w) hkb] at c0 c1
      have hGR := HR1.out j hjl'
      obtain ⟨a5, c5, b5, o5, s0, e5, hc5, hm5, ha5, hcell5, r5⟩ := hGR
      rw [e5] at c1
      have HC5 := (show Hid _ from hcell5); clear hcell5
      have HA5 := (show Hid _ from ha5); clear ha5
      have HR5 := (show Hid _ from r5); clear r5
      have HT0 : Hid (∀ e', wAlts d.parts d.rules[j].alts e1 = some e' → wRules d.parts (d.rules.drop (j + 1)) e' = wRules d.parts d.rules 0) := fun e' h => (wRules_some hjl' h).symm.trans HX.out.2.2
      have HTN : Hid (wAlts d.parts d.rules[j].alts e1 = none → wRules d.parts d.rules 0 = none) := fun h => HX.out.2.2.symm.trans (wRules_none hjl' h)
      generalize d.rules[j].alts = AL at *
      generalize d.rules[j].name = NM at *
      clear e5 hkb hB46
      unfold maxLen at hm5
      have HXa := (show Hid (∀ o, Bt (w.heap.size + 1) W0 (wr.alloc o) ∧ Box (wr.alloc o) (w.heap.size + 1) 125 [.slice a4 d.parts.length p4, .int .i64 e1]) from fun o => ⟨HX.out.1.trans (Bt.of_below (bel_alloc _ _)), HX.out.2.1.still (bel_alloc _ _)⟩)
      clear HX
      go_wp2_with fail
      clear c0 c1
      go_loopw [21] (fun i wq => ∃ (k e2 : Nat), i = .int .i64 k ∧ k ≤ AL.length ∧ e2 ≤ 200 ∧ Hid (Bt (w.heap.size + 1) W0 wq ∧ Box wq (w.heap.size + 1) 125 [.slice a4 d.parts.length p4, .int .i64 e2] ∧ wAlts d.parts (AL.drop k) e2 = wAlts d.parts AL e1)) (fun i _ => AL.length - (intOf i).toNat)
      case atStart => exact ⟨0, e1, rfl, Nat.zero_le _, he1, (HXa.out _).1, (HXa.out _).2, by rw [List.drop_zero]⟩
      case round =>
        clear HXa
        obtain ⟨k, e2, rfl, hk, he2, HX⟩ := hrel
        by_cases hkl : k < AL.length
        · have hkl' := hkl
          obtain ⟨rfl, hS5⟩ := HA5.out (by omega)
          obtain ⟨f0, f1, _⟩ := HC5.out k hkl'
          have hk5 : wr.heap[b5]? = w.heap[b5]? := (HX.out.1.block b5 (by have := HB0.out.2.2.2; have := hS5.2; omega) (by have := hS5.2; omega)).trans (HB0.out.2.2.1.block b5 hS5.2)
          rw [← World.cell?_of_block (w := w) hk5] at f0 f1
          have hkp : ∀ (wz : World), Below wr.heap.size wr wz → ∀ q, (S q ∧ q < w.heap.size) → q < w.heap.size → wz.heap[q]? = w.heap[q]? := fun wz hz q hq hlt => (hz.block q (by have := HX.out.1.size; have := HB0.out.2.2.2; omega)).trans ((HX.out.1.block q (by have := HB0.out.2.2.2; omega) (by omega)).trans (HB0.out.2.2.1.block q hlt))
          have hcl := fun (o : Obj) => through_any d.parts _ (w.heap.size + 1) (S := fun b => S b ∧ b < w.heap.size) (fun b hb => by have := hb.2; omega) hpl d.parts.length AL[k].items (s0 k) d.parts.length e2 (wr.alloc o) (by omega) (by omega) ((HR5.out k hkl').keep (hkp _ (bel_alloc _ _))) (PartR.keep HP.out (hkp _ (bel_alloc _ _))) (HX.out.2.1.still (bel_alloc _ _)) he2
          obtain ⟨a6, c6, e6, _⟩ := (HR5.out k hkl').form
          rw [e6] at f0 hcl
          have HCL := (show Hid _ from hcl); clear hcl e6 hk5 hS5
          have y0 := HB0.out.1.keep (HX.out.1.block w.heap.size HB0.out.1.lt (by omega))
          have x4 : ∀ o, (wr.alloc o).cell? ⟨w.heap.size, 4, none⟩ = some (.slice a4 d.parts.length p4) := fun o => (y0.still (bel_alloc wr o)).cell 4 (by simp)
          have X4 := (show Hid _ from x4)
          have hx4 := x4 (.cells #[.slice a6 AL[k].items.length c6, .string AL[k].label] 85)
          clear y0 x4
          go_wp2_with fail
          refine Calls.mono (HCL.out _) ?_
          rintro en w1 ⟨⟨e3, hr3, rfl, hb3⟩ | ⟨hr3, rfl, z, hb3⟩, ht3, hl3⟩
          · have HN := (show Hid (Bt (w.heap.size + 1) W0 w1 ∧ Box w1 (w.heap.size + 1) 125 [.slice a4 d.parts.length p4, .int .i64 e3] ∧ wAlts d.parts (AL.drop (k + 1)) e3 = wAlts d.parts AL e1) from ⟨(HX.out.1.trans (Bt.of_below (bel_alloc _ _))).trans ht3, hb3, (wAlts_some hkl' hr3).symm.trans HX.out.2.2⟩)
            have he3 := hl3 e3 hr3
            clear hr3 hb3 ht3 hl3 f0 f1 hx4
            go_wp2_with fail
            exact ⟨⟨k + 1, e3, by go_num, by omega, he3, HN⟩, by simp [intOf]; omega⟩
          · have hno : wRules d.parts d.rules 0 = none := HTN.out (HX.out.2.2.symm.trans (wAlts_none hkl' hr3))
            have HN := (show Hid (R = false ∧ Below w.heap.size w w1) from ⟨by rw [← HO.out, hno]; rfl, bel_bt HB0.out.2.2.1 ((HX.out.1.trans (Bt.of_below (bel_alloc _ _))).trans ht3) (by omega) (by have := HB0.out.2.2.2; omega)⟩)
            clear hr3 hb3 ht3 hl3 f0 f1 hx4 hno
            go_wp2_with fail
            go_ret
            exact ⟨by rw [HN.out.1]; rfl, HN.out.2⟩
        · have hae : wAlts d.parts AL e1 = some e2 := HX.out.2.2.symm.trans (wAlts_end (by omega))
          have HN := (show Hid (Bt (w.heap.size + 1) W0 wr ∧ Box wr (w.heap.size + 1) 125 [.slice a4 d.parts.length p4, .int .i64 e2] ∧ wRules d.parts (d.rules.drop (j + 1)) e2 = wRules d.parts d.rules 0) from ⟨HX.out.1, HX.out.2.1, HT0.out e2 hae⟩)
          clear hae
          go_wp2_with fail
          exact ⟨⟨j + 1, e2, by go_num, by omega, he2, HN⟩, by simp [intOf]; omega⟩
    · have HE : Hid (((e1 : Int) == d.parts.length) = R ∧ Below w.heap.size w wr) := by
        refine ⟨?_, bel_bt HB0.out.2.2.1 HX.out.1 (by omega) (by have := HB0.out.2.2.2; omega)⟩
        have h1 : some e1 = wRules d.parts d.rules 0 := (wRules_end (by omega)).symm.trans HX.out.2.2
        rw [← HO.out, ← h1]
        by_cases h2 : e1 = d.parts.length
        · subst h2; simp
        · have h3 : ¬ (e1 : Int) = d.parts.length := by omega
          simp [h2, h3]
      have x1 : wr.cell? ⟨w.heap.size + 1, 1, none⟩ = some (.int .i64 e1) := HX.out.2.1.cell 1 (by simp)
      have x4 : wr.cell? ⟨w.heap.size, 4, none⟩ = some (.slice a4 d.parts.length p4) := hB46.cell 4 (by simp)
      clear hB46
      go_wp2_with fail
      go_ret
      exact ⟨ret_bool HE.out.1, HE.out.2⟩
end Go.Proofs.YtgjnlhidbjpdkajGreat
