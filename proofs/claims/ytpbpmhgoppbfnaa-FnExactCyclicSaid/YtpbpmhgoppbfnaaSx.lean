import Derived.Test.YtpbpmhgoppbfnaaSy
/-! The specification's Cyclic, where l04Leads does what it should. -/
namespace Go.Proofs.Ytpbpmhgoppbfnaa
open Go.RowKit Go.Deep
set_option linter.unusedVariables false
set_option maxRecDepth 100000
set_option linter.unusedSimpArgs false

theorem sBnf_all {S : Nat → Prop} (d : Bn) (v0 v1 v3 : Value) (w : World) (h : BLies w S d v0 v1 v3) :
    Calls Try.prog 23 #[.agg #[v0, v1, .int .i64 d.own, v3]] w fun e w' => e = .returned (.bool (bnB d)) ∧ Below w.heap.size w w' := by
  cases hz : szB d
  · have : bnB d = false := by unfold bnB; rw [hz]; rfl
    rw [this]
    exact sBnf_no d v0 v1 v3 w h (by rw [hz]; simp)
  · exact sBnf_yes d v0 v1 v3 w h hz
set_option maxHeartbeats 3200000 in
theorem sCyc_any {S : Nat → Prop} (d : Bn) (i : Decidable (Cyc d)) (hLd : Bok d → LdS d) (v0 v1 v3 : Value) (w : World) (h : BLies w S d v0 v1 v3) :
    Calls Try.prog 15 #[.agg #[v0, v1, .int .i64 d.own, v3]] w fun e w' => e = .returned (.tuple #[.bool (cyR d i).1, .int .i64 (cyR d i).2]) ∧ Below w.heap.size w w' := by
  obtain ⟨a0, c0, a1, c1, a3, c3, rfl, rfl, rfl⟩ := h.form
  have hb0 := bel_alloc w (.cells #[.slice a0 d.terms.length c0, .slice a1 d.nons.length c1, .int .i64 d.own, .slice a3 d.prods.length c3] 34)
  have HG := (show Hid _ from sBnf_all d _ _ _ _ (h.still hb0))
  have HX := (show Hid _ from Box.new w 34 [.slice a0 d.terms.length c0, .slice a1 d.nons.length c1, .int .i64 d.own, .slice a3 d.prods.length c3])
  have HB0 := (show Hid _ from hb0)
  have HL := (show Hid _ from h)
  clear h hb0
  cases hbn : bnB d
  · have hR : cyR d i = (false, 1) := by unfold cyR; rw [hbn]; rfl
    rw [hR]
    rw [hbn] at HG
    clear hR hbn hLd
    go_enter Try.func15, Try.ntmps15
    go_wp2_with fail
    refine Calls.mono HG.out ?_
    rintro e w1 ⟨rfl, hb1⟩
    have HN := (show Hid _ from bel_trans HB0.out hb1); clear hb1
    go_wp2_with fail
    refine bodyPost_ret (v := .tuple #[.bool false, .int .i64 1]) (by simp [results, Try.results15, go_sem]) rfl ?_
    exact ⟨rfl, HN.out⟩
  · have hR : cyR d i = (cyB d i, 0) := by unfold cyR; rw [hbn]; rfl
    rw [hR]
    rw [hbn] at HG
    have hok := bnB_ok hbn
    have HCY := (show Hid _ from fun (w' : World) (hb : Below w.heap.size w w') => cycS_any d i hok (hLd hok) _ _ _ w' (BLies.still HL.out hb))
    clear hR hbn hok hLd
    generalize cyB d i = B at *
    go_enter Try.func15, Try.ntmps15
    go_wp2_with fail
    refine Calls.mono HG.out ?_
    rintro e w1 ⟨rfl, hb1⟩
    have T0 : w1.cell? ⟨w.heap.size, 0, none⟩ = some (.slice a0 d.terms.length c0) := (HX.out.still hb1).cell 0 (by simp)
    have T1 : w1.cell? ⟨w.heap.size, 1, none⟩ = some (.slice a1 d.nons.length c1) := (HX.out.still hb1).cell 1 (by simp)
    have T2 : w1.cell? ⟨w.heap.size, 2, none⟩ = some (.int .i64 d.own) := (HX.out.still hb1).cell 2 (by simp)
    have T3 : w1.cell? ⟨w.heap.size, 3, none⟩ = some (.slice a3 d.prods.length c3) := (HX.out.still hb1).cell 3 (by simp)
    have HB1 := (show Hid _ from bel_trans HB0.out hb1); clear hb1 HG
    have HS1 := (show Hid _ from HCY.out w1 HB1.out)
    go_wp2_with fail
    refine Calls.mono HS1.out ?_
    rintro e w2 ⟨rfl, hb2⟩
    have HN := (show Hid _ from bel_trans HB1.out hb2); clear hb2 HS1 T0 T1 T2 T3
    go_wp2_with fail
    refine bodyPost_ret (v := .tuple #[.bool B, .int .i64 0]) (by simp [results, Try.results15, go_sem]) rfl ?_
    exact ⟨rfl, HN.out⟩
end Go.Proofs.Ytpbpmhgoppbfnaa
