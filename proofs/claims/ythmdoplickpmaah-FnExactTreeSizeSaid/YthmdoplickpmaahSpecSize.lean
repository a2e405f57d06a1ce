import Derived.Test.YthmdoplickpmaahRight
import Derived.Deep.RegionWith
namespace Go.Proofs.Ythmdoplickpmaah
open Go.RowKit Go.Deep
set_option linter.unusedVariables false
set_option linter.unusedSimpArgs false

set_option maxHeartbeats 800000 in
theorem count_any {S : Nat → Prop} (t : Tr) : ∀ (v : Value) (w : World), Lies w S t v → t.cnt ≤ 1048577 →
    Calls Try.prog 28 #[t.val v] w fun e w' => e = .returned (.int .i64 t.cnt) ∧ Below w.heap.size w w' := by
  refine Tr.ind (P := fun t => ∀ (v : Value) (w : World), Lies w S t v → t.cnt ≤ 1048577 →
    Calls Try.prog 28 #[t.val v] w fun e w' => e = .returned (.int .i64 t.cnt) ∧ Below w.heap.size w w') ?_ t
  intro n x l k ih v w hlies hcnt
  obtain ⟨a, cap, b, off, sv, rfl, hn, hx, hc, hm, ha, hcell, hk⟩ := hlies.out
  dsimp only at hn hx hc ha hcell hk ⊢
  rw [Tr.cnt_mk] at hcnt ⊢
  unfold maxLen at hm hx hn
  have HI := (show Hid _ from ih); clear ih
  have HC := (show Hid _ from hcell); clear hcell
  have HK := (show Hid _ from hk); clear hk
  have HA := (show Hid _ from ha); clear ha
  simp only [Tr.val]
  go_enter Try.func28, Try.ntmps28
  go_wp2_with fail
  go_loopw [3, 4] (fun u i wr => ∃ j : Nat, j ≤ k.length ∧ i = .int .i64 j ∧ u = .int .i64 (1 + Tr.cntL (k.take j)) ∧ wr.cell? ⟨w.heap.size, 3, none⟩ = some (.slice a k.length cap) ∧ Below w.heap.size w wr) (fun _ i _ => k.length - (intOf i).toNat)
  case atStart => exact ⟨0, Nat.zero_le _, rfl, by simp [Tr.cntL], by simp [go_sem], bel_alloc _ _⟩
  case round =>
    obtain ⟨j, hj, rfl, rfl, cK, hbw⟩ := hrel
    by_cases hlt : j < k.length
    · obtain ⟨rfl, _⟩ := HA.out (by omega)
      obtain ⟨c0, c1, c2, c3⟩ := HC.out j hlt
      rw [← hbw.cell (lt_of_cell c0)] at c0
      rw [← hbw.cell (lt_of_cell c1)] at c1
      rw [← hbw.cell (lt_of_cell c2)] at c2
      rw [← hbw.cell (lt_of_cell c3)] at c3
      have g1 := Tr.cntL_take_succ k j hlt
      have g2 := Tr.cntL_take_le k (j + 1)
      have hb9 : Tr.cntL (k.take j) + k[j].cnt ≤ 1048577 := by omega
      have HG := (show Hid _ from g1); clear g1 g2
      have hcl := lt_of_cell cK
      go_wp2_with fail
      refine Calls.mono (HI.out j hlt _ wr ((HK.out j hlt).still hbw) (by omega)) ?_
      rintro e w2 ⟨rfl, hb1⟩
      have cK2 : w2.cell? ⟨w.heap.size, 3, none⟩ = some (.slice (some ⟨b, off, none⟩) k.length cap) := by rw [hb1.cell hcl]; exact cK
      have hb2 := bel_trans hbw hb1
      go_wp2_with fail
      refine ⟨⟨j + 1, by omega, by go_num, ?_, cK2, hb2⟩, by simp [intOf]; omega⟩
      rw [HG.out]; exact val_int (by omega)
    · go_wp2_with fail
      go_ret
      have : j = k.length := by omega
      subst this
      rw [List.take_length]
      exact ⟨ret_int (by omega), hbw⟩

set_option maxHeartbeats 800000 in
theorem deep_any {S : Nat → Prop} (t : Tr) : ∀ (v : Value) (w : World), Lies w S t v → t.deep ≤ 1048577 →
    Calls Try.prog 29 #[t.val v] w fun e w' => e = .returned (.int .i64 t.deep) ∧ Below w.heap.size w w' := by
  refine Tr.ind (P := fun t => ∀ (v : Value) (w : World), Lies w S t v → t.deep ≤ 1048577 →
    Calls Try.prog 29 #[t.val v] w fun e w' => e = .returned (.int .i64 t.deep) ∧ Below w.heap.size w w') ?_ t
  intro n x l k ih v w hlies hcnt
  obtain ⟨a, cap, b, off, sv, rfl, hn, hx, hc, hm, ha, hcell, hk⟩ := hlies.out
  dsimp only at hn hx hc ha hcell hk ⊢
  rw [Tr.deep_mk] at hcnt ⊢
  unfold maxLen at hm hx hn
  have HI := (show Hid _ from ih); clear ih
  have HC := (show Hid _ from hcell); clear hcell
  have HK := (show Hid _ from hk); clear hk
  have HA := (show Hid _ from ha); clear ha
  simp only [Tr.val]
  go_enter Try.func29, Try.ntmps29
  go_wp2_with fail
  go_loopw [3, 4] (fun u i wr => ∃ j : Nat, j ≤ k.length ∧ i = .int .i64 j ∧ u = .int .i64 (Tr.deepL (k.take j)) ∧ wr.cell? ⟨w.heap.size, 3, none⟩ = some (.slice a k.length cap) ∧ Below w.heap.size w wr) (fun _ i _ => k.length - (intOf i).toNat)
  case atStart => exact ⟨0, Nat.zero_le _, rfl, by simp [Tr.deepL], by simp [go_sem], bel_alloc _ _⟩
  case round =>
    obtain ⟨j, hj, rfl, rfl, cK, hbw⟩ := hrel
    by_cases hlt : j < k.length
    · obtain ⟨rfl, _⟩ := HA.out (by omega)
      obtain ⟨c0, c1, c2, c3⟩ := HC.out j hlt
      rw [← hbw.cell (lt_of_cell c0)] at c0
      rw [← hbw.cell (lt_of_cell c1)] at c1
      rw [← hbw.cell (lt_of_cell c2)] at c2
      rw [← hbw.cell (lt_of_cell c3)] at c3
      have g1 := Tr.deepL_take_succ k j hlt
      have g2 := Tr.deepL_take_le k (j + 1)
      have hb9 : k[j].deep ≤ 1048577 := by omega
      have HG := (show Hid _ from g1); clear g1 g2
      have hcl := lt_of_cell cK
      go_wp2_with fail
      refine Calls.mono (HI.out j hlt _ wr ((HK.out j hlt).still hbw) hb9) ?_
      rintro e w2 ⟨rfl, hb1⟩
      have cK2 : w2.cell? ⟨w.heap.size, 3, none⟩ = some (.slice (some ⟨b, off, none⟩) k.length cap) := by rw [hb1.cell hcl]; exact cK
      have hb2 := bel_trans hbw hb1
      by_cases hgt : (Tr.deepL (k.take j) : Int) < k[j].deep
      · go_wp2_with fail
        refine ⟨⟨j + 1, by omega, by go_num, ?_, cK2, hb2⟩, by simp [intOf]; omega⟩
        rw [HG.out]; exact val_int (by omega)
      · go_wp2_with fail
        refine ⟨⟨j + 1, by omega, by go_num, ?_, cK2, hb2⟩, by simp [intOf]; omega⟩
        rw [HG.out]; exact val_int (by omega)
    · have hdl := Tr.deepL_take_le k j
      go_wp2_with fail
      go_ret
      have : j = k.length := by omega
      subst this
      rw [List.take_length]
      exact ⟨ret_int (by omega), hbw⟩

/-- A world in which a call's box stands and nothing older than N has turned. -/
def Ctx (w0 : World) (g : Nat) (c0 c1 c2 c3 : Value) (w : World) : Prop := Below w0.heap.size w0 w ∧ Four w g c0 c1 c2 c3
theorem Ctx.next {w0 w w' : World} {g : Nat} {c0 c1 c2 c3 : Value} (h : Ctx w0 g c0 c1 c2 c3 w) (hb : Below w.heap.size w w') : Ctx w0 g c0 c1 c2 c3 w' := ⟨bel_trans h.1 hb, h.2.still hb⟩
theorem Ctx.drew {w0 w : World} {g : Nat} {c0 c1 c2 c3 : Value} (h : Ctx w0 g c0 c1 c2 c3 w) : Ctx w0 g c0 c1 c2 c3 w.drew := ⟨h.1.drew, h.2⟩

set_option maxHeartbeats 800000 in
theorem sSize_no {S : Nat → Prop} (t : Tr) (v : Value) (w : World) (hlies : Lies w S t v) (hok : t.ok = false) :
    Calls Try.prog 13 #[t.val v] w fun e w' => e = .returned (.tuple #[.int .i64 0, .int .i64 0, .int .i64 1]) ∧ Below w.heap.size w w' := by
  have h9 := fun (w' : World) (hw : Below w.heap.size w w') => sOK_any t v w' (hlies.still hw)
  obtain ⟨a, len, cap, rfl⟩ := hlies.form
  have H9 := (show Hid _ from h9); clear h9
  have HO := (show Hid _ from hok); clear hok
  simp only [Tr.val]
  go_enter Try.func13, Try.ntmps13
  go_wp2_with fail
  refine Calls.mono (H9.out _ (bel_alloc _ _)) ?_
  rintro e w1 ⟨rfl, hb1⟩
  rw [HO.out]
  go_wp2_with fail
  go_ret3
  exact ⟨rfl, bel_box hb1⟩

set_option maxHeartbeats 800000 in
theorem sSize_yes {S : Nat → Prop} (t : Tr) (v : Value) (w : World) (hlies : Lies w S t v) (hok : t.ok = true) :
    Calls Try.prog 13 #[t.val v] w fun e w' => e = .returned (.tuple #[.int .i64 t.cnt, .int .i64 t.deep, .int .i64 0]) ∧ Below w.heap.size w w' := by
  have hbd : t.cnt ≤ 1000 ∧ t.deep ≤ 60 := by
    unfold Tr.ok at hok
    simp at hok
    exact ⟨hok.1.1, hok.1.2⟩
  have h9 := fun (w' : World) (hw : Below w.heap.size w w') => sOK_any t v w' (hlies.still hw)
  obtain ⟨a, len, cap, rfl⟩ := hlies.form
  have h28 : ∀ w', Ctx w w.heap.size (.string t.name) (.string t.text) (.bool t.leaf) (.slice a len cap) w' → Calls Try.prog 28 #[t.val (.slice a len cap)] w' fun e w'' => e = .returned (.int .i64 t.cnt) ∧ Ctx w w.heap.size (.string t.name) (.string t.text) (.bool t.leaf) (.slice a len cap) w'' :=
    fun w' hx => (count_any t _ w' (hlies.still hx.1) (by omega)).mono fun e w'' ⟨he, hb⟩ => ⟨he, hx.next hb⟩
  have h29 : ∀ w', Ctx w w.heap.size (.string t.name) (.string t.text) (.bool t.leaf) (.slice a len cap) w' → Calls Try.prog 29 #[t.val (.slice a len cap)] w' fun e w'' => e = .returned (.int .i64 t.deep) ∧ Ctx w w.heap.size (.string t.name) (.string t.text) (.bool t.leaf) (.slice a len cap) w'' :=
    fun w' hx => (deep_any t _ w' (hlies.still hx.1) (by omega)).mono fun e w'' ⟨he, hb⟩ => ⟨he, hx.next hb⟩
  have H9 := (show Hid _ from h9); clear h9
  have H28 := (show Hid _ from h28); clear h28
  have H29 := (show Hid _ from h29); clear h29
  have HO := (show Hid _ from hok); clear hok
  simp only [Tr.val]
  go_enter Try.func13, Try.ntmps13
  go_wp2_with fail
  refine Calls.mono (H9.out _ (bel_alloc _ _)) ?_
  rintro e w1 ⟨rfl, hb1⟩
  rw [HO.out]
  have hx1 : Ctx w w.heap.size (.string t.name) (.string t.text) (.bool t.leaf) (.slice a len cap) w1.drew := Ctx.drew ⟨bel_box hb1, (four_box _ _ _ _ _ _).still hb1⟩
  obtain ⟨X0, X1, X2, X3⟩ := (four_box w (.string t.name) (.string t.text) (.bool t.leaf) (.slice a len cap) 29).still hb1
  go_wp2_with fail
  go_region_with (first
    | (go_at_call 28; refine Calls.mono (H28.out _ ?_) ?_; assumption; rintro e w6 ⟨rfl, hx6⟩; obtain ⟨Y0, Y1, Y2, Y3⟩ := hx6.2)
    | (go_at_call 29; refine Calls.mono (H29.out _ ?_) ?_; assumption; rintro e w7 ⟨rfl, hx7⟩; obtain ⟨Z0, Z1, Z2, Z3⟩ := hx7.2))
  all_goals
    go_wp2_with fail
    go_ret3
    first
      | exact ⟨rfl, hx6.1⟩
      | exact ⟨rfl, hx7.1⟩
end Go.Proofs.Ythmdoplickpmaah
