import Derived.Test.YtpmlagenakcdfaaDk
import Derived.Test.YtpmlagenakcdfaaDl
/-! The program: Good. -/
namespace Go.Proofs.Ytpmlagenakcdfaa
open Go.RowKit Go.Deep
set_option linter.unusedVariables false
set_option maxRecDepth 100000
set_option linter.unusedSimpArgs false

theorem goodR_cd {d : Bn} {non : Int} {L : List Int} (h : cdR d non L.length ≠ 0) : goodR d non L = (false, cdR d non L.length) := by
  unfold cdR at h ⊢
  unfold goodR
  split
  · rfl
  · rename_i h1
    rw [if_neg h1] at h
    split
    · rfl
    · rename_i h2
      rw [if_neg h2] at h
      exact absurd rfl h
theorem goodR_rd {d : Bn} {non : Int} {L : List Int} (h : cdR d non L.length = 0) : bnB d = true ∧ L.length ≤ 4000 ∧ 0 ≤ non ∧ non < (d.nons.length : Int) ∧ goodR d non L = (if rd d L (L.length + 1) (d.terms.length + non) 0 = some L.length then (gd d L (L.length + 1) 0, 0) else (false, 2)) := by
  unfold cdR at h
  unfold goodR
  split at h
  · cases h
  · rename_i h1
    split at h
    · cases h
    · rename_i h2
      rw [if_neg h1, if_neg h2]
      have h3 : wiB non 0 ((d.nons.length : Int) - 1) = true := by cases e : wiB non 0 ((d.nons.length : Int) - 1); (exact absurd e h2); rfl
      unfold wiB at h3
      simp only [decide_eq_true_eq] at h3
      refine ⟨by cases e : bnB d; (exact absurd (.inl e) h1); rfl, by omega, h3.1, by omega, rfl⟩
set_option maxHeartbeats 3200000 in
theorem iGood {S : Nat → Prop} (d : Bn) (L : List Int) (v0 v1 v3 vd : Value) (non : Int) (w : World) (h : BLies w S d v0 v1 v3) (hd : Ints w S L vd) (hS : ∀ b, S b → b < w.heap.size) :
    Calls Try.prog 17 #[.agg #[v0, v1, .int .i64 d.own, v3], .int .i64 non, vd] w fun e w' => e = .returned (.tuple #[.bool (goodR d non L).1, .int .i64 (goodR d non L).2]) ∧ Below w.heap.size w w' := by
  obtain ⟨r, hr⟩ : ∃ r, goodR d non L = r := ⟨_, rfl⟩
  rw [hr]
  have HGR := (show Hid _ from hr)
  clear hr
  have hb0 := bel_alloc w (.cells #[v0, v1, .int .i64 d.own, v3] 34)
  have HCL := (show Hid _ from iReadD d L v0 v1 v3 vd non _ (h.still hb0) (hd.still hb0) (fun b hb => Nat.lt_of_lt_of_le (hS b hb) hb0.size))
  have hx := Box.new w 34 [v0, v1, .int .i64 d.own, v3]
  obtain ⟨a0, c0, a1, c1, a3, c3, rfl, rfl, rfl⟩ := h.form
  obtain ⟨ad, cd, rfl, _⟩ := hd.form
  have HX := (show Hid _ from hx)
  have HB0 := (show Hid _ from hb0)
  have HLB := (show Hid _ from h)
  have x0 := hx.cell 0 (by simp)
  have x1 := hx.cell 1 (by simp)
  have x2 := hx.cell 2 (by simp)
  have x3 := hx.cell 3 (by simp)
  simp only [List.getD_cons_zero, List.getD_cons_succ] at x0 x1 x2 x3
  clear hx h hd hS hb0
  go_enter Try.func17, Try.ntmps17
  go_wp2_with fail
  refine Calls.mono HCL.out ?_
  rintro e w1 ⟨hb1, hc1, hc2⟩
  have HB1 := (show Hid _ from bel_trans HB0.out hb1)
  have HX1 := (show Hid _ from Box.still HX.out hb1)
  clear x0 x1 x2 x3
  by_cases hcd : cdR d non L.length = 0
  · obtain ⟨g1, g2, g3, g4, g5⟩ := goodR_rd hcd
    by_cases hrd : rd d L (L.length + 1) (d.terms.length + non) 0 = some L.length
    · obtain ⟨pv, rfl, hdp⟩ := (hc2 hcd).1 hrd
      rw [if_pos hrd] at g5
      have HR5 := (show Hid _ from HGR.out.symm.trans g5)
      have HGD := (show Hid _ from good_i d L g1 (L.length + 1) 0 L.length (d.terms.length + non) _ _ _ _ w1 (HLB.out.still HB1.out) hdp hrd)
      have x0 := HX1.out.cell 0 (by simp)
      have x1 := HX1.out.cell 1 (by simp)
      have x2 := HX1.out.cell 2 (by simp)
      have x3 := HX1.out.cell 3 (by simp)
      simp only [List.getD_cons_zero, List.getD_cons_succ] at x0 x1 x2 x3
      clear hc1 hc2 hcd hrd hdp g1 g2 g3 g4 g5 hb1 HCL
      go_wp2_with fail
      refine Calls.mono HGD.out ?_
      rintro e w2 ⟨rfl, hb2⟩
      have HB2 := (show Hid _ from bel_trans HB1.out hb2)
      clear hb2 x0 x1 x2 x3
      go_wp2_with fail
      refine bodyPost_ret (v := .tuple #[.bool (gd d L (L.length + 1) 0), .int .i64 0]) (by simp [results, Try.results17, go_sem]) rfl ?_
      exact ⟨by rw [HR5.out], HB2.out⟩
    · obtain rfl := (hc2 hcd).2 hrd
      rw [if_neg hrd] at g5
      have HR5 := (show Hid _ from HGR.out.symm.trans g5)
      clear hc1 hc2 hcd hrd g1 g2 g3 g4 g5 hb1 HCL
      go_wp2_with fail
      refine bodyPost_ret (v := .tuple #[.bool false, .int .i64 2]) (by simp [results, Try.results17, go_sem]) rfl ?_
      exact ⟨by rw [HR5.out], HB1.out⟩
  · obtain rfl := hc1 hcd
    have HR5 := (show Hid _ from HGR.out.symm.trans (goodR_cd hcd))
    have i0 : (cdR d non L.length != 0) = true := by simp [hcd]
    clear hc1 hc2 hb1 HCL
    generalize cdR d non L.length = C at *
    go_wp2_with fail
    refine bodyPost_ret (v := .tuple #[.bool false, .int .i64 C]) (by simp [results, Try.results17, go_sem]) rfl ?_
    exact ⟨by rw [HR5.out], HB1.out⟩
end Go.Proofs.Ytpmlagenakcdfaa
