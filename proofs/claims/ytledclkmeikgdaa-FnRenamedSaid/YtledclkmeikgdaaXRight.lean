import Derived.Test.YtledclkmeikgdaaXNm
namespace Go.Proofs.Ytledclkmeikgdaa.T
open Go.RowKit
set_option linter.unusedVariables false
set_option linter.unusedSimpArgs false

theorem rmR_step {c p c' p' : Nat} {r d rm : Int} (h : rm = rmR c p r d) (h0 : 0 ≤ rm) (hp : 1 ≤ p) : rmR c' p' rm (d - 1) = rmR (c + c') (max p (p' + 1)) r d := by
  unfold rmR at h ⊢
  split at h <;> split <;> split <;> omega
theorem rmR_bd {c p : Nat} {r d : Int} (h0 : 0 ≤ r) : -1 ≤ rmR c p r d ∧ rmR c p r d ≤ r := by
  unfold rmR; split <;> omega
theorem rmR_neg {c p c' p' : Nat} {r d : Int} (h : rmR c p r d < 0) (hc : c ≤ c') (hp : p ≤ p') (h0 : 0 ≤ r) : rmR c' p' r d = rmR c p r d := by
  unfold rmR at h ⊢
  split at h <;> split <;> first | omega | (rw [if_neg (by omega)])

set_option maxHeartbeats 800000 in
theorem room_any {S : Nat → Prop} (t : Tr) : ∀ (v : Value) (w : World) (r d : Int), Lies w S t v → 0 ≤ r → r ≤ 1048576 → 0 ≤ d → d ≤ 1048576 →
    Calls Try.prog 110 #[t.val v, .int .i64 r, .int .i64 d] w fun e w' => e = .returned (.int .i64 (rmR t.cnt t.deep r d)) ∧ Below w.heap.size w w' := by
  refine Tr.ind (P := fun t => ∀ (v : Value) (w : World) (r d : Int), Lies w S t v → 0 ≤ r → r ≤ 1048576 → 0 ≤ d → d ≤ 1048576 →
    Calls Try.prog 110 #[t.val v, .int .i64 r, .int .i64 d] w fun e w' => e = .returned (.int .i64 (rmR t.cnt t.deep r d)) ∧ Below w.heap.size w w') ?_ t
  intro n x l k ih v w r d hlies h0 h1 h2 h3
  obtain ⟨a, cap, b, off, sv, rfl, hn, hx, hc, hm, ha, hcell, hk⟩ := hlies.out
  dsimp only at hn hx hc ha hcell hk ⊢
  rw [Tr.cnt_mk, Tr.deep_mk]
  unfold maxLen at hm
  have HI := (show Hid _ from ih); clear ih
  have HC := (show Hid _ from hcell); clear hcell
  have HK := (show Hid _ from hk); clear hk
  have HA := (show Hid _ from ha); clear ha
  simp only [Tr.val]
  by_cases hd : d < 1
  · go_enter Try.func110, Try.ntmps110
    go_wp2_with fail
    go_ret
    exact ⟨ret_int (by rw [rmR_no (by omega)]), bel_alloc _ _⟩
  · go_enter Try.func110, Try.ntmps110
    go_wp2_with fail
    go_loopw [1, 7] (fun u i wr => ∃ (j : Nat) (rm : Int), j ≤ k.length ∧ i = .int .i64 j ∧ u = .int .i64 rm ∧ -1 ≤ rm ∧ rm ≤ r ∧ Hid (rm = rmR (1 + Tr.cntL (k.take j)) (1 + Tr.deepL (k.take j)) r d) ∧ Below (w.heap.size + 1) (w.alloc (.cells #[.string n, .string x, .bool l, .slice a k.length cap] 40)) wr) (fun _ i _ => k.length - (intOf i).toNat)
    case atStart =>
      refine ⟨0, r - 1, Nat.zero_le _, rfl, rfl, by omega, by omega, ?_, Below.refl _ _⟩
      show r - 1 = _
      simp only [List.take_zero, Tr.cntL, Tr.deepL, rmR, List.map_nil, List.sum_nil, List.foldr_nil]
      split <;> omega
    case round =>
      obtain ⟨j, rm, hj, rfl, rfl, hr1, hr2, HR, hbel⟩ := hrel
      have hbw : Below w.heap.size w wr := (bel_alloc _ _).trans (hbel.mono (by omega))
      have cK : wr.cell? ⟨w.heap.size, 3, none⟩ = some (.slice a k.length cap) := by rw [hbel.cell (by show w.heap.size < _; omega)]; simp [go_sem]
      by_cases hlt : j < k.length
      · by_cases hr : 0 ≤ rm
        · obtain ⟨rfl, _⟩ := HA.out (by omega)
          obtain ⟨c0, c1, c2, c3⟩ := HC.out j hlt
          rw [← hbw.cell (lt_of_cell c0)] at c0
          rw [← hbw.cell (lt_of_cell c1)] at c1
          rw [← hbw.cell (lt_of_cell c2)] at c2
          rw [← hbw.cell (lt_of_cell c3)] at c3
          go_wp2_with fail
          refine (HI.out j hlt _ wr _ _ ((HK.out j hlt).still hbw) hr (by omega) (by omega) (by omega)).mono ?_
          rintro e w1 ⟨rfl, hb1⟩
          rw [rmR_step HR.out hr (by omega)]
          have e1 : 1 + Tr.cntL (k.take j) + k[j].cnt = 1 + Tr.cntL (k.take (j + 1)) := by rw [Tr.cntL_take_succ k j hlt]; omega
          have e2 : max (1 + Tr.deepL (k.take j)) (k[j].deep + 1) = 1 + Tr.deepL (k.take (j + 1)) := by rw [Tr.deepL_take_succ k j hlt]; omega
          rw [e1, e2]
          clear e1 e2
          have hbd := rmR_bd (c := 1 + Tr.cntL (k.take (j + 1))) (p := 1 + Tr.deepL (k.take (j + 1))) (d := d) h0
          obtain ⟨rm', hrm⟩ : ∃ rm', rm' = rmR (1 + Tr.cntL (k.take (j + 1))) (1 + Tr.deepL (k.take (j + 1))) r d := ⟨_, rfl⟩
          rw [← hrm] at hbd ⊢
          have HR2 := (show Hid _ from hrm); clear hrm
          go_wp2_with fail
          refine ⟨⟨j + 1, rm', by omega, by go_num, rfl, hbd.1, hbd.2, HR2, hbel.trans (hb1.mono ?_)⟩, by simp [intOf]; omega⟩
          have := hbel.size; simp at this; omega
        · go_wp2_with fail
          go_ret
          refine ⟨ret_int ?_, hbw⟩
          have h := HR.out
          have g1 := Tr.cntL_take_le k j
          have g2 := Tr.deepL_take_le k j
          rw [h]
          exact (rmR_neg (by omega) (by omega) (by omega) h0).symm
      · go_wp2_with fail
        go_ret
        have : j = k.length := by omega
        subst this
        refine ⟨ret_int ?_, hbw⟩
        have h := HR.out
        rw [List.take_length] at h
        exact h
end Go.Proofs.Ytledclkmeikgdaa.T

namespace Go.Proofs.Ytledclkmeikgdaa.T
open Go.RowKit
set_option linter.unusedVariables false
set_option linter.unusedSimpArgs false

set_option maxHeartbeats 800000 in
theorem right_any {S : Nat → Prop} (t : Tr) : ∀ (v : Value) (w : World), Lies w S t v →
    Calls Try.prog 111 #[t.val v] w fun e w' => e = .returned (.bool t.right) ∧ Below w.heap.size w w' := by
  refine Tr.ind (P := fun t => ∀ (v : Value) (w : World), Lies w S t v →
    Calls Try.prog 111 #[t.val v] w fun e w' => e = .returned (.bool t.right) ∧ Below w.heap.size w w') ?_ t
  intro n x l k ih v w hlies
  obtain ⟨a, cap, b, off, sv, rfl, hn, hx, hc, hm, ha, hcell, hk⟩ := hlies.out
  dsimp only at hn hx hc ha hcell hk ⊢
  rw [Tr.right_mk]
  have hname := sName n hn
  have HN := (show Hid _ from hname); clear hname
  unfold maxLen at hm hx hn
  have HI := (show Hid _ from ih); clear ih
  have HC := (show Hid _ from hcell); clear hcell
  have HK := (show Hid _ from hk); clear hk
  have HA := (show Hid _ from ha); clear ha
  simp only [Tr.val]
  cases hnm : nmB n
  · have H1 := (show Hid _ from hnm); clear hnm
    go_enter Try.func111, Try.ntmps111
    go_wp2_with fail
    refine (HN.out _).mono ?_
    rintro e w1 ⟨rfl, rfl⟩
    rw [H1.out]
    go_wp2_with fail
    go_ret
    exact ⟨ret_bool (by simp [Tr.alone, H1.out]), bel_alloc _ _⟩
  · have H1 := (show Hid _ from hnm); clear hnm
    cases hal : Tr.alone n x l k.length
    · have HL := (show Hid _ from hal); clear hal
      have hcase := Tr.alone_no H1.out HL.out
      rcases hcase with ⟨rfl, h2⟩ | ⟨rfl, h2, h3⟩ | ⟨rfl, h2⟩
      all_goals
        go_enter Try.func111, Try.ntmps111
        go_wp2_with fail
        refine (HN.out _).mono ?_
        rintro e w1 ⟨rfl, rfl⟩
        rw [H1.out]
        go_wp2_with fail
        go_ret
        exact ⟨ret_bool (by simp), bel_alloc _ _⟩
    · have HL := (show Hid _ from hal); clear hal
      have hcase := Tr.alone_yes HL.out
      rw [Bool.true_and]
      rcases hcase with ⟨rfl, h2, h3⟩ | ⟨rfl, h2⟩
      · go_enter Try.func111, Try.ntmps111
        go_wp2_with fail
        refine (HN.out _).mono ?_
        rintro e w1 ⟨rfl, rfl⟩
        rw [H1.out]
        go_wp2_with fail
        go_loopw [3] (fun i wr => ∃ j : Nat, j ≤ k.length ∧ i = .int .i64 j ∧ Hid (Tr.rightL (k.take j) = true) ∧ wr.cell? ⟨w.heap.size, 3, none⟩ = some (.slice a k.length cap) ∧ Below w.heap.size w wr) (fun i _ => k.length - (intOf i).toNat)
        case atStart => exact ⟨0, Nat.zero_le _, rfl, rfl, by simp [go_sem], bel_alloc _ _⟩
        case round =>
          obtain ⟨j, hj, rfl, HR, cK, hbw⟩ := hrel
          by_cases hlt : j < k.length
          · exact absurd hlt (by omega)
          · go_wp2_with fail
            go_ret
            have : j = k.length := by omega
            subst this
            refine ⟨ret_bool ?_, hbw⟩
            have h := HR.out
            rw [List.take_length] at h
            exact h.symm
      · go_enter Try.func111, Try.ntmps111
        go_wp2_with fail
        refine (HN.out _).mono ?_
        rintro e w1 ⟨rfl, rfl⟩
        rw [H1.out]
        go_wp2_with fail
        go_loopw [3] (fun i wr => ∃ j : Nat, j ≤ k.length ∧ i = .int .i64 j ∧ Hid (Tr.rightL (k.take j) = true) ∧ wr.cell? ⟨w.heap.size, 3, none⟩ = some (.slice a k.length cap) ∧ Below w.heap.size w wr) (fun i _ => k.length - (intOf i).toNat)
        case atStart => exact ⟨0, Nat.zero_le _, rfl, rfl, by simp [go_sem], bel_alloc _ _⟩
        case round =>
          obtain ⟨j, hj, rfl, HR, cK, hbw⟩ := hrel
          by_cases hlt : j < k.length
          · obtain ⟨rfl, _⟩ := HA.out (by omega)
            obtain ⟨c0, c1, c2, c3⟩ := HC.out j hlt
            rw [← hbw.cell (lt_of_cell c0)] at c0
            rw [← hbw.cell (lt_of_cell c1)] at c1
            rw [← hbw.cell (lt_of_cell c2)] at c2
            rw [← hbw.cell (lt_of_cell c3)] at c3
            have hts := Tr.rightL_take_succ k j hlt
            have HT := (show Hid _ from hts); clear hts
            have hcl := lt_of_cell cK
            go_wp2_with fail
            refine (HI.out j hlt _ wr ((HK.out j hlt).still hbw)).mono ?_
            rintro e w2 ⟨rfl, hb1⟩
            have cK2 : w2.cell? ⟨w.heap.size, 3, none⟩ = some (.slice (some ⟨b, off, none⟩) k.length cap) := by rw [hb1.cell hcl]; exact cK
            have hb2 := bel_trans hbw hb1
            cases hrk : k[j].right
            · have HRK := (show Hid _ from hrk); clear hrk
              go_wp2_with fail
              go_ret
              refine ⟨ret_bool ?_, hb2⟩
              cases e : Tr.rightL k
              · rfl
              · have e2 := Tr.rightL_take k (j + 1) e
                rw [HT.out, HRK.out] at e2
                simp at e2
            · have HRK := (show Hid _ from hrk); clear hrk
              go_wp2_with fail
              refine ⟨⟨j + 1, by omega, by go_num, ?_, cK2, hb2⟩, by simp [intOf]; omega⟩
              show Tr.rightL (k.take (j + 1)) = true
              rw [HT.out, HRK.out, HR.out]; rfl
          · go_wp2_with fail
            go_ret
            have : j = k.length := by omega
            subst this
            refine ⟨ret_bool ?_, hbw⟩
            have h := HR.out
            rw [List.take_length] at h
            exact h.symm

set_option maxHeartbeats 400000 in
theorem sOK_any {S : Nat → Prop} (t : Tr) (v : Value) (w : World) (hlies : Lies w S t v) :
    Calls Try.prog 93 #[t.val v] w fun e w' => e = .returned (.bool t.ok) ∧ Below w.heap.size w w' := by
  have hroom := fun (w' : World) (hw : Below w.heap.size w w') => room_any t v w' 1000 60 (hlies.still hw) (by omega) (by omega) (by omega) (by omega)
  have hright := fun (w' : World) (hw : Below w.heap.size w w') => right_any t v w' (hlies.still hw)
  obtain ⟨a, len, cap, rfl⟩ := hlies.form
  have HR := (show Hid _ from hroom); clear hroom
  have HG := (show Hid _ from hright); clear hright
  simp only [Tr.val]
  go_enter Try.func93, Try.ntmps93
  go_wp2_with fail
  refine (HR.out _ (bel_alloc _ _)).mono ?_
  rintro e w1 ⟨rfl, hb1⟩
  have hb2 := bel_box hb1
  obtain ⟨hcc, hff⟩ := bcell hb1
  by_cases hr : t.cnt ≤ 1000 ∧ t.deep ≤ 60
  · rw [rmR_yes (by omega) (by omega)]
    have hr2 : (0 : Int) ≤ 1000 - t.cnt := by omega
    go_wp2_with fail
    refine (HG.out _ hb2).mono ?_
    rintro e w2 ⟨rfl, hb3⟩
    go_wp2_with fail
    go_ret
    exact ⟨ret_bool (by simp [Tr.ok, hr.1, hr.2]), bel_trans hb2 hb3⟩
  · rw [rmR_no (by omega)]
    go_wp2_with fail
    go_ret
    refine ⟨ret_bool ?_, hb2⟩
    unfold Tr.ok
    by_cases h1 : t.cnt ≤ 1000
    · rw [decide_eq_false (p := t.deep ≤ 60) (by omega)]; simp
    · rw [decide_eq_false (p := t.cnt ≤ 1000) h1]; simp
end Go.Proofs.Ytledclkmeikgdaa.T
