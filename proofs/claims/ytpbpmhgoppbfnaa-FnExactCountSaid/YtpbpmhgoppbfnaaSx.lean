import Derived.Test.YtpbpmhgoppbfnaaSp
import Derived.Test.YtpbpmhgoppbfnaaSbq
/-! The specification: l04Cyclic and Cyclic, where l04Leads does what it should. -/
namespace Go.Proofs.Ytpbpmhgoppbfnaa
open Go.RowKit Go.Deep
set_option linter.unusedVariables false
set_option maxRecDepth 100000
set_option linter.unusedSimpArgs false

/-- l04Leads does what it should. -/
def LdS (d : Bn) : Prop := ∀ (S : Nat → Prop) (v0 v1 v3 : Value) (w : World), BLies w S d v0 v1 v3 → Calls Try.prog 73 #[.agg #[v0, v1, .int .i64 d.own, v3], .bool true, .bool true] w fun e w' => ∃ T F, e = .returned (.slice (some ⟨T, 0, none⟩) d.nons.length d.nons.length) ∧ Below w.heap.size w w' ∧ MxF w' T d.nons.length F ∧ ∀ a b, (F a b = true ↔ Tc (En d) a b)
set_option maxHeartbeats 3200000 in
theorem cycS_any {S : Nat → Prop} (d : Bn) (i : Decidable (Cyc d)) (hok : Bok d) (hLd : LdS d) (v0 v1 v3 : Value) (w : World) (h : BLies w S d v0 v1 v3) :
    Calls Try.prog 43 #[.agg #[v0, v1, .int .i64 d.own, v3]] w fun e w' => e = .returned (.bool (cyB d i)) ∧ Below w.heap.size w w' := by
  obtain ⟨a0, c0, a1, c1, a3, c3, rfl, rfl, rfl⟩ := h.form
  have hb0 := bel_alloc w (.cells #[.slice a0 d.terms.length c0, .slice a1 d.nons.length c1, .int .i64 d.own, .slice a3 d.prods.length c3] 34)
  have HL := (show Hid _ from hLd _ _ _ _ _ (h.still hb0))
  have HB0 := (show Hid _ from hb0)
  have hn100 := hok.nn.2
  have HC := (show Hid _ from Cyc_iff hok)
  clear h hb0 hLd hok
  go_enter Try.func43, Try.ntmps43
  go_wp2_with fail
  refine Calls.mono HL.out ?_
  rintro e w1 ⟨T, F, rfl, hb1, hM, hF⟩
  have HM := (show Hid _ from (⟨bel_trans HB0.out hb1, hM, hF⟩ : _ ∧ _ ∧ _))
  clear hb1 hM hF HL
  go_wp2_with fail
  go_loopw [4] (fun i wr => ∃ j : Nat, i = .int .i64 j ∧ j ≤ d.nons.length ∧ wr = w1 ∧ Hid (∀ x, x < j → F x x = false)) (fun i _ => d.nons.length - (intOf i).toNat)
  case atStart => exact ⟨0, rfl, Nat.zero_le _, rfl, fun x hx => absurd hx (Nat.not_lt_zero _)⟩
  case round =>
    obtain ⟨j, rfl, hj, rfl, HJ⟩ := hrel
    by_cases hlt : j < d.nons.length
    · have hlt' := hlt
      have h0 := HM.out.2.1.hcell hlt'
      have h1 := HM.out.2.1.cell hlt' hlt'
      cases hB : F j j
      · rw [hB] at h1
        have HN : Hid (∀ x, x < j + 1 → F x x = false) := fun x hx => by
          by_cases e : x = j
          · subst e; exact hB
          · exact HJ.out x (by omega)
        clear hB HJ
        go_wp2_with fail
        exact ⟨⟨j + 1, by go_num, by omega, by trivial, HN⟩, by simp [intOf]; omega⟩
      · rw [hB] at h1
        have HE : Hid (true = cyB d i) := cyB_iff (by
          simp only [true_iff]
          exact HC.out.2 ⟨j, hlt', (HM.out.2.2 j j).1 hB⟩)
        clear hB HJ
        go_wp2_with fail
        go_ret
        exact ⟨by rw [← HE.out]; rfl, HM.out.1⟩
    · have HE : Hid (false = cyB d i) := cyB_iff (by
        constructor
        · intro hf; cases hf
        · intro hc
          obtain ⟨a, ha, ht⟩ := HC.out.1 hc
          have := HJ.out a (by omega)
          rw [(HM.out.2.2 a a).2 ht] at this
          cases this)
      clear HJ
      go_wp2_with fail
      go_ret
      exact ⟨by rw [← HE.out]; rfl, HM.out.1⟩
end Go.Proofs.Ytpbpmhgoppbfnaa

/-! The specification's Cyclic, where l04Leads does what it should. -/
namespace Go.Proofs.Ytpbpmhgoppbfnaa
open Go.RowKit Go.Deep
set_option linter.unusedVariables false
set_option maxRecDepth 100000
set_option linter.unusedSimpArgs false

theorem sBnf_all {S : Nat → Prop} (d : Bn) (v0 v1 v3 : Value) (w : World) (h : BLies w S d v0 v1 v3) :
    Calls Try.prog 23 #[.agg #[v0, v1, .int .i64 d.own, v3]] w fun e w' => e = .returned (.bool (bnB d)) ∧ Below w.heap.size w w' := by
  cases hz : szB d
  · have : bnB d = false := by unfold bnB; rw [hz]; rfl
    rw [this]
    exact sBnf_no d v0 v1 v3 w h (by rw [hz]; simp)
  · exact sBnf_yes d v0 v1 v3 w h hz
set_option maxHeartbeats 3200000 in
theorem sCyc_any {S : Nat → Prop} (d : Bn) (i : Decidable (Cyc d)) (hLd : Bok d → LdS d) (v0 v1 v3 : Value) (w : World) (h : BLies w S d v0 v1 v3) :
    Calls Try.prog 15 #[.agg #[v0, v1, .int .i64 d.own, v3]] w fun e w' => e = .returned (.tuple #[.bool (cyR d i).1, .int .i64 (cyR d i).2]) ∧ Below w.heap.size w w' := by
  obtain ⟨a0, c0, a1, c1, a3, c3, rfl, rfl, rfl⟩ := h.form
  have hb0 := bel_alloc w (.cells #[.slice a0 d.terms.length c0, .slice a1 d.nons.length c1, .int .i64 d.own, .slice a3 d.prods.length c3] 34)
  have HG := (show Hid _ from sBnf_all d _ _ _ _ (h.still hb0))
  have HX := (show Hid _ from Box.new w 34 [.slice a0 d.terms.length c0, .slice a1 d.nons.length c1, .int .i64 d.own, .slice a3 d.prods.length c3])
  have HB0 := (show Hid _ from hb0)
  have HL := (show Hid _ from h)
  clear h hb0
  cases hbn : bnB d
  · have hR : cyR d i = (false, 1) := by unfold cyR; rw [hbn]; rfl
    rw [hR]
    rw [hbn] at HG
    clear hR hbn hLd
    go_enter Try.func15, Try.ntmps15
    go_wp2_with fail
    refine Calls.mono HG.out ?_
    rintro e w1 ⟨rfl, hb1⟩
    have HN := (show Hid _ from bel_trans HB0.out hb1); clear hb1
    go_wp2_with fail
    refine bodyPost_ret (v := .tuple #[.bool false, .int .i64 1]) (by simp [results, Try.results15, go_sem]) rfl ?_
    exact ⟨rfl, HN.out⟩
  · have hR : cyR d i = (cyB d i, 0) := by unfold cyR; rw [hbn]; rfl
    rw [hR]
    rw [hbn] at HG
    have hok := bnB_ok hbn
    have HCY := (show Hid _ from fun (w' : World) (hb : Below w.heap.size w w') => cycS_any d i hok (hLd hok) _ _ _ w' (BLies.still HL.out hb))
    clear hR hbn hok hLd
    generalize cyB d i = B at *
    go_enter Try.func15, Try.ntmps15
    go_wp2_with fail
    refine Calls.mono HG.out ?_
    rintro e w1 ⟨rfl, hb1⟩
    have T0 : w1.cell? ⟨w.heap.size, 0, none⟩ = some (.slice a0 d.terms.length c0) := (HX.out.still hb1).cell 0 (by simp)
    have T1 : w1.cell? ⟨w.heap.size, 1, none⟩ = some (.slice a1 d.nons.length c1) := (HX.out.still hb1).cell 1 (by simp)
    have T2 : w1.cell? ⟨w.heap.size, 2, none⟩ = some (.int .i64 d.own) := (HX.out.still hb1).cell 2 (by simp)
    have T3 : w1.cell? ⟨w.heap.size, 3, none⟩ = some (.slice a3 d.prods.length c3) := (HX.out.still hb1).cell 3 (by simp)
    have HB1 := (show Hid _ from bel_trans HB0.out hb1); clear hb1 HG
    have HS1 := (show Hid _ from HCY.out w1 HB1.out)
    go_wp2_with fail
    refine Calls.mono HS1.out ?_
    rintro e w2 ⟨rfl, hb2⟩
    have HN := (show Hid _ from bel_trans HB1.out hb2); clear hb2 HS1 T0 T1 T2 T3
    go_wp2_with fail
    refine bodyPost_ret (v := .tuple #[.bool B, .int .i64 0]) (by simp [results, Try.results15, go_sem]) rfl ?_
    exact ⟨rfl, HN.out⟩
end Go.Proofs.Ytpbpmhgoppbfnaa
