import Derived.Test.YtpbpmhgoppbfnaaIbo
import Derived.Test.YtpbpmhgoppbfnaaPc
/-! The program: whether there is a Non (as in Hg, without what Hg imports). -/
namespace Go.Proofs.Ytpbpmhgoppbfnaa
open Go.RowKit Go.Deep
set_option linter.unusedVariables false
set_option maxRecDepth 100000
set_option linter.unusedSimpArgs false

theorem hasNonC (d : Bn) (v0 v3 : Value) (a1 : Option Addr) (c1 : Nat) (non : Int) (w : World) :
    Calls Try.prog 33 #[.agg #[v0, .slice a1 d.nons.length c1, .int .i64 d.own, v3], .int .i64 non] w fun e w' => e = .returned (.bool (decide (0 ≤ non ∧ non < d.nons.length))) ∧ Below w.heap.size w w' := by
  have HB := (show Hid _ from bel_alloc w (.cells #[v0, .slice a1 d.nons.length c1, .int .i64 d.own, v3] 34))
  by_cases h1 : 0 ≤ non
  · by_cases h2 : non < d.nons.length
    · have e : decide (0 ≤ non ∧ non < d.nons.length) = true := decide_eq_true ⟨h1, h2⟩
      rw [e]
      clear e
      go_enter Try.func33, Try.ntmps33
      go_wp2_with fail
      go_ret
      exact ⟨by simp [h2], HB.out⟩
    · have e : decide (0 ≤ non ∧ non < d.nons.length) = false := decide_eq_false (fun h => h2 h.2)
      rw [e]
      clear e
      go_enter Try.func33, Try.ntmps33
      go_wp2_with fail
      go_ret
      exact ⟨by simp [h2], HB.out⟩
  · have e : decide (0 ≤ non ∧ non < d.nons.length) = false := decide_eq_false (fun h => h1 h.1)
    rw [e]
    clear e
    go_enter Try.func33, Try.ntmps33
    go_wp2_with fail
    go_ret
    exact ⟨rfl, HB.out⟩
end Go.Proofs.Ytpbpmhgoppbfnaa

/-! The program's Cyclic. -/
namespace Go.Proofs.Ytpbpmhgoppbfnaa
open Go.RowKit Go.Deep
set_option linter.unusedVariables false
set_option maxRecDepth 100000
set_option linter.unusedSimpArgs false

set_option maxHeartbeats 3200000 in
theorem iCyc_any {S : Nat → Prop} (d : Bn) (i : Decidable (Cyc d)) (v0 v1 v3 : Value) (w : World) (h : BLies w S d v0 v1 v3) :
    Calls Try.prog 16 #[.agg #[v0, v1, .int .i64 d.own, v3]] w fun e w' => e = .returned (.tuple #[.bool (cyR d i).1, .int .i64 (cyR d i).2]) ∧ Below w.heap.size w w' := by
  obtain ⟨a0, c0, a1, c1, a3, c3, rfl, rfl, rfl⟩ := h.form
  have hb0 := bel_alloc w (.cells #[.slice a0 d.terms.length c0, .slice a1 d.nons.length c1, .int .i64 d.own, .slice a3 d.prods.length c3] 34)
  have HG := (show Hid _ from iBnf_any d _ _ _ _ (h.still hb0))
  have HX := (show Hid _ from Box.new w 34 [.slice a0 d.terms.length c0, .slice a1 d.nons.length c1, .int .i64 d.own, .slice a3 d.prods.length c3])
  have HB0 := (show Hid _ from hb0)
  have HL := (show Hid _ from h)
  clear h hb0
  cases hbn : bnB d
  · have hR : cyR d i = (false, 1) := by unfold cyR; rw [hbn]; rfl
    rw [hR]
    rw [hbn] at HG
    clear hR hbn
    go_enter Try.func16, Try.ntmps16
    go_wp2_with fail
    refine Calls.mono HG.out ?_
    rintro e w1 ⟨rfl, hb1⟩
    have HN := (show Hid _ from bel_trans HB0.out hb1); clear hb1
    go_wp2_with fail
    refine bodyPost_ret (v := .tuple #[.bool false, .int .i64 1]) (by simp [results, Try.results16, go_sem]) rfl ?_
    exact ⟨rfl, HN.out⟩
  · have hR : cyR d i = (cyB d i, 0) := by unfold cyR; rw [hbn]; rfl
    rw [hR]
    rw [hbn] at HG
    have hok := bnB_ok hbn
    have HST := (show Hid _ from fun (w' : World) (hb : Below w.heap.size w w') => study_any d hok _ _ _ w' (BLies.still HL.out hb))
    have HCY := (show Hid _ from fun (w2 : World) (hb : Below w.heap.size w w2) (gs bs : Nat) (L : List Int) (w' : World) (hI : InvL w2 gs bs (.slice a0 d.terms.length c0) (.slice a1 d.nons.length c1) (.int .i64 d.own) (.slice a3 d.prods.length c3) d.terms.length (d.terms.length + d.nons.length) (bps d) L w') => cyclic_any d hok w2 (d.terms.length + d.nons.length) gs bs _ _ _ _ (BLies.still HL.out hb).prods L w' hI.1 hI.2.1 hI.2.2.1 rfl)
    clear hR hbn hok
    go_enter Try.func16, Try.ntmps16
    go_wp2_with fail
    refine Calls.mono HG.out ?_
    rintro e w1 ⟨rfl, hb1⟩
    have T0 : w1.cell? ⟨w.heap.size, 0, none⟩ = some (.slice a0 d.terms.length c0) := (HX.out.still hb1).cell 0 (by simp)
    have T1 : w1.cell? ⟨w.heap.size, 1, none⟩ = some (.slice a1 d.nons.length c1) := (HX.out.still hb1).cell 1 (by simp)
    have T2 : w1.cell? ⟨w.heap.size, 2, none⟩ = some (.int .i64 d.own) := (HX.out.still hb1).cell 2 (by simp)
    have T3 : w1.cell? ⟨w.heap.size, 3, none⟩ = some (.slice a3 d.prods.length c3) := (HX.out.still hb1).cell 3 (by simp)
    have HB1 := (show Hid _ from bel_trans HB0.out hb1); clear hb1 HG
    have HS1 := (show Hid _ from HST.out w1 HB1.out)
    go_wp2_with fail
    refine Calls.mono HS1.out ?_
    rintro e w2 ⟨gs, bs, L, rfl, hg1, hg2, hI, hq⟩
    have HB2 := (show Hid _ from bel_trans HB1.out hI.1)
    have HC := (show Hid _ from HCY.out w1 HB1.out gs bs L w2 hI)
    have HZ : Hid (∀ x, Lf L x = 0 ↔ Lens d.terms.length (bps d) [x] 0) := fun x => hI.2.2.2.zero hq x
    clear hI hq HS1 T0 T1 T2 T3
    go_wp2_with fail
    refine Calls.mono HC.out ?_
    rintro e w3 ⟨B, rfl, hb3, hB⟩
    have HE : Hid (B = cyB d i) := cyB_iff (by
      rw [hB]
      unfold Cyc
      constructor
      · rintro ⟨x, hx⟩
        exact ⟨x, hx.mono fun a b h => (Ed_Es HZ.out a b).1 h⟩
      · rintro ⟨x, hx⟩
        exact ⟨x, hx.mono fun a b h => (Ed_Es HZ.out a b).2 h⟩)
    have HB3 := (show Hid _ from bel_trans HB2.out hb3)
    clear hb3 hB HC
    go_wp2_with fail
    refine bodyPost_ret (v := .tuple #[.bool B, .int .i64 0]) (by simp [results, Try.results16, go_sem]) rfl ?_
    exact ⟨by rw [HE.out], HB3.out⟩
end Go.Proofs.Ytpbpmhgoppbfnaa
