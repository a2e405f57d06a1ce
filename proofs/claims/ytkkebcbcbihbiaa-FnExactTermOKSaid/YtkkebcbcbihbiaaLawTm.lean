import Derived.Test.YtkkebcbcbihbiaaSz
import Derived.Test.YtkkebcbcbihbiaaTo
import Derived.Test.YtkkebcbcbihbiaaEq
import Derived.Test.YtkkebcbcbihbiaaTs
import Derived.Test.YtkkebcbcbihbiaaTh
import Derived.Deep.RegionWith
namespace Go.Proofs.Ytkkebcbcbihbiaa
open Go.RowKit Go.Deep
set_option linter.unusedVariables false
set_option maxRecDepth 100000
set_option linter.unusedSimpArgs false

set_option maxHeartbeats 800000 in
theorem lawTm {S : Nat → Prop} (t : Tr) (v : Value) (w : World) (hlies : Lies w S t v) :
    Calls Try.prog 7 #[t.val v] w fun e w' => e = .returned (.bool true) ∧ Below w.heap.size w w' := by
  have hsz := fun (w' : World) (hw : Below w.heap.size w w') => sz_any t v w' 1048576 (hlies.still hw) (by omega) (by omega)
  have hto := fun (w' : World) (hw : Below w.heap.size w w') => to_any t v w' (hlies.still hw)
  obtain ⟨a, len, cap, rfl⟩ := hlies.form
  have HS := (show Hid _ from hsz); clear hsz
  have HT := (show Hid _ from hto); clear hto
  simp only [Tr.val]
  go_enter Try.func7, Try.ntmps7
  go_wp2_with fail
  refine Calls.mono (HS.out _ (bel_alloc _ _)) ?_
  rintro e w1 ⟨rfl, hb1⟩
  have hbw1 := bel_box hb1
  obtain ⟨hcc1, _⟩ := bcell hb1
  by_cases hwt : (t.wt : Int) ≤ 1048576
  · rw [szR_yes hwt]
    have hwt' : t.wt ≤ 1048576 := by omega
    have hz : (0 : Int) ≤ 1048576 - t.wt := by omega
    go_wp2_with fail
    refine Calls.mono (HT.out _ hbw1 hwt') ?_
    rintro e w2 ⟨v2, rfl, hb2, hl2⟩
    go_wp2_with fail
    refine Calls.mono (sTerm26 t v2 w2 hl2) ?_
    rintro e w3 ⟨rfl, hb3⟩
    have hbw3 := bel_trans (bel_trans hbw1 hb2) hb3
    have hb13 := bel_trans (bel_trans hb1 hb2) hb3
    obtain ⟨hcc3, _⟩ := bcell hb13
    clear hcc1
    go_wp2_with fail
    refine Calls.mono (HT.out _ hbw3 hwt') ?_
    rintro e w4 ⟨v4, rfl, hb4, hl4⟩
    obtain ⟨a4, l4, p4, rfl⟩ := hl4.form
    have hb14 := bel_trans hb13 hb4
    obtain ⟨hcc4, _⟩ := bcell hb14
    clear hcc3
    go_wp2_with fail
    refine Calls.mono (iTerm28 t _ _ (hl4.still (bel_alloc _ _))) ?_
    rintro e w5 ⟨rfl, hb5⟩
    have hb45 := bel_box hb5
    have hb15 := bel_trans hb14 hb45
    have hne : ((t.ok && tm t) != (t.ok && tm t)) = false := by simp
    have fA := (four_box w (.string t.name) (.string t.text) (.bool t.leaf) (.slice a len cap) 48).still hb15
    have fX := (four_box w4 (.string t.name) (.string t.text) (.bool t.leaf) (.slice a4 l4 p4) 53).still hb5
    obtain ⟨A0, A1, A2, A3⟩ := fA
    obtain ⟨X0, X1, X2, X3⟩ := fX
    have FX := (show Hid _ from (four_box w4 (.string t.name) (.string t.text) (.bool t.leaf) (.slice a4 l4 p4) 53).still hb5)
    clear hcc4
    have hbw5 : Below w.heap.size w w5 := bel_box hb15
    have h10 := HT.out w5.drew hbw5.drew hwt'
    have h12 : ∀ (w6 : World) (v6 : Value), Below w5.drew.heap.size w5.drew w6 → Lies w6 (fun b => w5.drew.heap.size ≤ b) t v6 →
        Calls Try.prog 29 #[t.val (.slice a4 l4 p4), t.val v6] w6 fun e w' => e = .returned (.bool true) ∧ Below w6.heap.size w6 w' :=
      fun w6 v6 hb hl => eq_any t _ _ w6 ((hl4.still hb45).still (((Below.refl _ _).drew).trans hb)) hl
    have H10 := (show Hid _ from h10); clear h10
    have H12 := (show Hid _ from h12); clear h12
    go_wp2_with fail
    go_region_with (first
      | (go_at_call 27; refine Calls.mono (H10.out) ?_; rintro e w6 ⟨v6, rfl, hb6, hl6⟩; obtain ⟨a6, l6, p6, rfl⟩ := hl6.form; obtain ⟨Y0, Y1, Y2, Y3⟩ := Four.still FX.out (Below.trans ((Below.refl _ _).drew) hb6))
      | (go_at_call 29; refine Calls.mono (H12.out _ _ hb6 hl6) ?_; rintro e w7 ⟨rfl, hb7⟩))
    all_goals
      go_wp2_with fail
      go_ret
      exact ⟨rfl, bel_trans (bel_trans hbw5.drew hb6) hb7⟩
  · rw [szR_no (by omega)]
    go_wp2_with fail
    go_ret
    exact ⟨rfl, hbw1⟩
end Go.Proofs.Ytkkebcbcbihbiaa
