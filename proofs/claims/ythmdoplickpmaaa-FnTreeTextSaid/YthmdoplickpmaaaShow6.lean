import Derived.Test.YthmdoplickpmaaaShow5
namespace Go.Proofs.Ythmdoplickpmaaa
set_option maxRecDepth 100000
open Go.RowKit Go.Deep Go.Lib
set_option linter.unusedVariables false
set_option linter.unusedSimpArgs false

set_option maxHeartbeats 800000 in
theorem iShow_no {S : Nat → Prop} (t : Tr) (v : Value) (w : World) (hlies : Lies w S t v) (hok : t.ok = false) :
    Calls Try.prog 8 #[t.val v] w fun e w' => e = .returned (.tuple #[.string (bs []), .int .i64 1]) ∧ Below w.heap.size w w' := by
  have h11 := fun (w' : World) (hw : Below w.heap.size w w') => iOK_any t v w' (hlies.still hw)
  obtain ⟨a, len, cap, rfl⟩ := hlies.form
  have H11 := (show Hid _ from h11); clear h11
  have HO := (show Hid _ from hok); clear hok
  simp only [Tr.val]
  go_enter Try.func8, Try.ntmps8
  go_wp2_with fail
  refine Calls.mono (H11.out _ (bel_alloc _ _)) ?_
  rintro e w1 ⟨rfl, hb1⟩
  rw [HO.out]
  go_wp2_with fail
  go_ret2
  exact ⟨rfl, bel_box hb1⟩

set_option maxHeartbeats 1600000 in
theorem iShow_yes {S : Nat → Prop} (t : Tr) (v : Value) (w : World) (hlies : Lies w S t v) (hok : t.ok = true) (hwt : t.wt ≤ 1048576) :
    Calls Try.prog 8 #[t.val v] w fun e w' => e = .returned (.tuple #[.string (bs (shTxt t)), .int .i64 (shCode t)]) ∧ Below w.heap.size w w' := by
  have h11 := fun (w' : World) (hw : Below w.heap.size w w') => iOK_any t v w' (hlies.still hw)
  have h34 := fun (w' : World) (hw : Below w.heap.size w w') => inward_any t v w' (hlies.still hw) hwt
  have hbd := sh_bd hwt hok
  obtain ⟨a, len, cap, rfl⟩ := hlies.form
  have H11 := (show Hid _ from h11); clear h11
  have H34 := (show Hid _ from h34); clear h34
  have HO := (show Hid _ from hok); clear hok
  simp only [Tr.val]
  go_enter Try.func8, Try.ntmps8
  go_wp2_with fail
  refine Calls.mono (H11.out _ (bel_alloc _ _)) ?_
  rintro e w1 ⟨rfl, hb1⟩
  rw [HO.out]
  have hbw1 := bel_box hb1
  obtain ⟨X0, X1, X2, X3⟩ := (four_box w (.string t.name) (.string t.text) (.bool t.leaf) (.slice a len cap) 28).still hb1
  go_wp2_with fail
  refine Calls.mono (H34.out _ hbw1) ?_
  rintro e w2 ⟨u, rfl, hb2, hf2⟩
  have hbw2 := bel_trans hbw1 hb2
  have hy := show_any w2.heap.size t u (.slice none 0 0) 0 [] w2 (hf2.mono (fun b _ hlt => hlt)) (Nat.le_refl _) (World.ownsRow_nil _ _ _ _) (by omega)
  by_cases hbig : 20000 < t.sh.length
  · have HQ := (show Hid _ from shTxt_no hbig)
    rcases hy with ⟨X, rfl, hcl⟩ | ⟨X, rfl, hcl⟩
    · have HCL := (show Hid _ from hcl); clear hcl hf2
      have hme := method_showL X
      go_wp2_with fail
      refine Calls.mono HCL.out ?_
      rintro e w3 ⟨⟨v', rfl, hown, hb3⟩, _⟩
      simp only [Nat.zero_add, List.nil_append] at hown
      obtain ⟨a3, c3, rfl⟩ := own_slice hown
      clear hown
      generalize t.sh.length = m at *
      go_wp2_with fail
      go_ret2
      exact ⟨ret_si HQ.out.1.symm HQ.out.2.symm, bel_trans hbw2 hb3⟩
    · have HCL := (show Hid _ from hcl); clear hcl hf2
      have hme := method_showN X
      go_wp2_with fail
      refine Calls.mono HCL.out ?_
      rintro e w3 ⟨⟨v', rfl, hown, hb3⟩, _⟩
      simp only [Nat.zero_add, List.nil_append] at hown
      obtain ⟨a3, c3, rfl⟩ := own_slice hown
      clear hown
      generalize t.sh.length = m at *
      go_wp2_with fail
      go_ret2
      exact ⟨ret_si HQ.out.1.symm HQ.out.2.symm, bel_trans hbw2 hb3⟩
  · have HQ := (show Hid _ from shTxt_yes hbig)
    rcases hy with ⟨X, rfl, hcl⟩ | ⟨X, rfl, hcl⟩
    · have HCL := (show Hid _ from hcl); clear hcl hf2
      have hme := method_showL X
      go_wp2_with fail
      refine Calls.mono HCL.out ?_
      rintro e w3 ⟨⟨v', rfl, hown, hb3⟩, _⟩
      simp only [Nat.zero_add, List.nil_append] at hown
      have hcv := conv_own hown
      obtain ⟨a3, c3, rfl⟩ := own_slice hown
      clear hown
      go_wp2_with fail
      go_ret2
      exact ⟨ret_si HQ.out.1.symm HQ.out.2.symm, bel_trans hbw2 hb3⟩
    · have HCL := (show Hid _ from hcl); clear hcl hf2
      have hme := method_showN X
      go_wp2_with fail
      refine Calls.mono HCL.out ?_
      rintro e w3 ⟨⟨v', rfl, hown, hb3⟩, _⟩
      simp only [Nat.zero_add, List.nil_append] at hown
      have hcv := conv_own hown
      obtain ⟨a3, c3, rfl⟩ := own_slice hown
      clear hown
      go_wp2_with fail
      go_ret2
      exact ⟨ret_si HQ.out.1.symm HQ.out.2.symm, bel_trans hbw2 hb3⟩

set_option maxHeartbeats 800000 in
theorem sShow_no {S : Nat → Prop} (t : Tr) (v : Value) (w : World) (hlies : Lies w S t v) (hok : t.ok = false) :
    Calls Try.prog 6 #[t.val v] w fun e w' => e = .returned (.tuple #[.string (bs []), .int .i64 1]) ∧ Below w.heap.size w w' := by
  have h9 := fun (w' : World) (hw : Below w.heap.size w w') => sOK_any t v w' (hlies.still hw)
  obtain ⟨a, len, cap, rfl⟩ := hlies.form
  have H9 := (show Hid _ from h9); clear h9
  have HO := (show Hid _ from hok); clear hok
  simp only [Tr.val]
  go_enter Try.func6, Try.ntmps6
  go_wp2_with fail
  refine Calls.mono (H9.out _ (bel_alloc _ _)) ?_
  rintro e w1 ⟨rfl, hb1⟩
  rw [HO.out]
  go_wp2_with fail
  go_ret2
  exact ⟨rfl, bel_box hb1⟩

set_option maxHeartbeats 800000 in
theorem sShow_yes {S : Nat → Prop} (t : Tr) (v : Value) (w : World) (hlies : Lies w S t v) (hok : t.ok = true) (hwt : t.wt ≤ 1048576) :
    Calls Try.prog 6 #[t.val v] w fun e w' => e = .returned (.tuple #[.string (bs (shTxt t)), .int .i64 (shCode t)]) ∧ Below w.heap.size w w' := by
  have hbd := sh_bd hwt hok
  have hcb := (ok_right hok).2.1
  have h9 := fun (w' : World) (hw : Below w.heap.size w w') => sOK_any t v w' (hlies.still hw)
  have h33 := fun (w' : World) (hw : Below w.heap.size w w') => sShowOf t v w' (hlies.still hw) hwt (by omega)
  obtain ⟨a, len, cap, rfl⟩ := hlies.form
  have H9 := (show Hid _ from h9); clear h9
  have H33 := (show Hid _ from h33); clear h33
  have HO := (show Hid _ from hok); clear hok
  have hsz : (bs t.sh).size = t.sh.length := bs_size _
  simp only [Tr.val]
  go_enter Try.func6, Try.ntmps6
  go_wp2_with fail
  refine Calls.mono (H9.out _ (bel_alloc _ _)) ?_
  rintro e w1 ⟨rfl, hb1⟩
  rw [HO.out]
  have hbw1 := bel_box hb1
  obtain ⟨X0, X1, X2, X3⟩ := (four_box w (.string t.name) (.string t.text) (.bool t.leaf) (.slice a len cap) 28).still hb1
  have HSZ := (show Hid _ from hsz); clear hsz
  go_wp2_with fail
  refine Calls.mono (H33.out _ hbw1) ?_
  rintro e w2 ⟨rfl, hb2⟩
  by_cases hbig : 20000 < t.sh.length
  · have HQ := (show Hid _ from shTxt_no hbig)
    have hbig2 : 20000 < (bs t.sh).size := by rw [HSZ.out]; exact hbig
    go_wp2_with fail
    go_ret2
    exact ⟨ret_si HQ.out.1.symm HQ.out.2.symm, bel_trans hbw1 hb2⟩
  · have HQ := (show Hid _ from shTxt_yes hbig)
    have hbig2 : ¬ 20000 < (bs t.sh).size := by rw [HSZ.out]; exact hbig
    go_wp2_with fail
    go_ret2
    exact ⟨ret_si HQ.out.1.symm HQ.out.2.symm, bel_trans hbw1 hb2⟩
end Go.Proofs.Ythmdoplickpmaaa
