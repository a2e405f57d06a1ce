import Derived.Test.YtflhfimgeladaaaQg
/-! The program: whether rows are the same. -/
namespace Go.Proofs.Ytflhfimgeladaaa
open Go.RowKit Go.Deep
set_option linter.unusedVariables false
set_option maxRecDepth 100000
set_option linter.unusedSimpArgs false

set_option maxHeartbeats 800000 in
theorem eqRowA {S S' : Nat → Prop} (l m : List (Int × Int)) (v u : Value) (w : World) (h : Acs w S l v) (h' : Acs w S' m u) :
    Calls Try.prog 103 #[v, u] w fun e w' => e = .returned (.bool (decide (l = m))) ∧ Below w.heap.size w w' := by
  have HC := (show Hid _ from sameA_i l m v u w h h')
  obtain ⟨a, cap, rfl, _⟩ := h.form
  obtain ⟨a', cap', rfl, _⟩ := h'.form
  clear h h'
  generalize decide (l = m) = R at *
  go_enter Try.func103, Try.ntmps103
  go_wp2_with fail
  refine Calls.mono HC.out ?_
  rintro e w1 ⟨rfl, hb⟩
  have HB := (show Hid _ from hb); clear hb
  go_wp2_with fail
  go_ret
  exact ⟨rfl, HB.out⟩
set_option maxHeartbeats 1600000 in
theorem eqFunA {S S' : Nat → Prop} (ls ms : List (List (Int × Int))) (v u : Value) (w : World) (h : ARows w S ls v) (h' : ARows w S' ms u) :
    Calls Try.prog 102 #[v, u, .func (.func 103) #[] #[]] w fun e w' => e = .returned (.bool (decide (ls = ms))) ∧ Below w.heap.size w w' := by
  obtain ⟨a, cap, b, off, sv, rfl, hc, hm, ha, hcell, hr⟩ := h
  obtain ⟨a', cap', b', off', sv', rfl, hc', hm', ha', hcell', hr'⟩ := h'
  have HD := (show Hid _ from fun (j : Nat) (hj : j < ls.length) (hj' : j < ms.length) (w' : World) (hb : Below w.heap.size w w') => eqRowA ls[j] ms[j] (sv j) (sv' j) w' ((hr j hj).still hb) ((hr' j hj').still hb))
  have HC := (show Hid _ from hcell); clear hcell
  have HA := (show Hid _ from ha); clear ha
  have HF1 := (show Hid _ from fun (j : Nat) (hj : j < ls.length) => (hr j hj).form); clear hr
  have HC' := (show Hid _ from hcell'); clear hcell'
  have HA' := (show Hid _ from ha'); clear ha'
  have HF2 := (show Hid _ from fun (j : Nat) (hj : j < ms.length) => (hr' j hj).form); clear hr'
  unfold maxLen at hm hm'
  generalize hRes : decide (ls = ms) = R
  have HRes := (show Hid _ from hRes); clear hRes
  by_cases hl : ls.length = ms.length
  case neg =>
    have HF : Hid (R = false) := by
      show R = false
      rw [← HRes.out]
      exact decide_eq_false (fun e => hl (by rw [e]))
    have i1 : ((ls.length : Int) != (ms.length : Int)) = true := by simp; omega
    clear hl
    go_enter Try.func102, Try.ntmps102
    go_wp2_with fail
    go_ret
    exact ⟨by rw [HF.out]; rfl, Below.refl _ _⟩
  have i1 : ((ls.length : Int) != (ms.length : Int)) = false := by simp; omega
  have HL := (show Hid _ from hl); clear hl
  go_enter Try.func102, Try.ntmps102
  go_wp2_with fail
  clear i1
  go_loopw [17] (fun i wr => ∃ j : Nat, i = .int .i64 j ∧ j ≤ ls.length ∧ Hid (∀ i (hi : i < ls.length) (hi' : i < ms.length), i < j → ls[i] = ms[i]) ∧ Below w.heap.size w wr) (fun i _ => ls.length - (intOf i).toNat)
  case atStart => exact ⟨0, rfl, Nat.zero_le _, fun i hi _ h0 => absurd h0 (Nat.not_lt_zero _), Below.refl _ _⟩
  case round =>
    obtain ⟨j, rfl, hj, HJ, hbel⟩ := hrel
    by_cases hjl : j < ls.length
    · have hjl' := hjl
      have hjm : j < ms.length := by have := HL.out; omega
      obtain ⟨rfl, _⟩ := HA.out (by omega)
      obtain ⟨rfl, _⟩ := HA'.out (by omega)
      have k0 := HC.out j hjl'
      rw [← hbel.cell (lt_of_cell k0)] at k0
      have k1 := HC'.out j hjm
      rw [← hbel.cell (lt_of_cell k1)] at k1
      have hcl := HD.out j hjl' hjm wr hbel
      obtain ⟨a2, cap2, e2, _⟩ := HF1.out j hjl'
      obtain ⟨a3, cap3, e3, _⟩ := HF2.out j hjm
      rw [e2] at k0 hcl
      rw [e3] at k1 hcl
      have HCL := (show Hid _ from hcl); clear hcl e2 e3
      by_cases he : ls[j] = ms[j]
      · rw [decide_eq_true he] at HCL
        have HN : Hid (∀ i (hi : i < ls.length) (hi' : i < ms.length), i < j + 1 → ls[i] = ms[i]) := fun i hi hi' hij => by
          by_cases e : i = j
          · subst e; exact he
          · exact HJ.out i hi hi' (by omega)
        clear he
        go_wp2_with fail
        go_at_call 103
        refine Calls.mono HCL.out ?_
        rintro e w1 ⟨rfl, hb1⟩
        have HE := (show Hid _ from bel_trans hbel hb1); clear hb1 k0 k1 hbel
        go_wp2_with fail
        exact ⟨⟨j + 1, by go_num, by omega, HN, HE.out⟩, by simp [intOf]; omega⟩
      · rw [decide_eq_false he] at HCL
        have HF : Hid (R = false) := by
          show R = false
          rw [← HRes.out]
          exact decide_eq_false (fun e => he (by simp [e]))
        clear he
        go_wp2_with fail
        go_at_call 103
        refine Calls.mono HCL.out ?_
        rintro e w1 ⟨rfl, hb1⟩
        have HE := (show Hid _ from bel_trans hbel hb1); clear hb1 k0 k1 hbel
        go_wp2_with fail
        go_ret
        exact ⟨by rw [HF.out]; rfl, HE.out⟩
    · have HF : Hid (R = true) := by
        show R = true
        rw [← HRes.out]
        exact decide_eq_true (List.ext_getElem HL.out (fun i h1 h2 => HJ.out i h1 h2 (by omega)))
      go_wp2_with fail
      go_ret
      exact ⟨by rw [HF.out]; rfl, hbel⟩
set_option maxHeartbeats 800000 in
theorem sameRowsA_any {S S' : Nat → Prop} (ls ms : List (List (Int × Int))) (v u : Value) (w : World) (h : ARows w S ls v) (h' : ARows w S' ms u) :
    Calls Try.prog 70 #[v, u] w fun e w' => e = .returned (.bool (decide (ls = ms))) ∧ Below w.heap.size w w' := by
  have HC := (show Hid _ from eqFunA ls ms v u w h h')
  obtain ⟨a, cap, rfl, _⟩ := h.form
  obtain ⟨a', cap', rfl, _⟩ := h'.form
  clear h h'
  generalize decide (ls = ms) = R at *
  go_enter Try.func70, Try.ntmps70
  go_wp2_with fail
  refine Calls.mono HC.out ?_
  rintro e w1 ⟨rfl, hb⟩
  have HB := (show Hid _ from hb); clear hb
  go_wp2_with fail
  go_ret
  exact ⟨rfl, HB.out⟩
set_option maxHeartbeats 800000 in
theorem eqRowI {S S' : Nat → Prop} (l m : List Int) (v u : Value) (w : World) (h : Ints w S l v) (h' : Ints w S' m u) :
    Calls Try.prog 105 #[v, u] w fun e w' => e = .returned (.bool (decide (l = m))) ∧ Below w.heap.size w w' := by
  have HC := (show Hid _ from sameI_i l m v u w h h')
  obtain ⟨a, cap, rfl, _⟩ := h.form
  obtain ⟨a', cap', rfl, _⟩ := h'.form
  clear h h'
  generalize decide (l = m) = R at *
  go_enter Try.func105, Try.ntmps105
  go_wp2_with fail
  refine Calls.mono HC.out ?_
  rintro e w1 ⟨rfl, hb⟩
  have HB := (show Hid _ from hb); clear hb
  go_wp2_with fail
  go_ret
  exact ⟨rfl, HB.out⟩
set_option maxHeartbeats 1600000 in
theorem eqFunI {S S' : Nat → Prop} (ls ms : List (List Int)) (v u : Value) (w : World) (h : IRows w S ls v) (h' : IRows w S' ms u) :
    Calls Try.prog 104 #[v, u, .func (.func 105) #[] #[]] w fun e w' => e = .returned (.bool (decide (ls = ms))) ∧ Below w.heap.size w w' := by
  obtain ⟨a, cap, b, off, sv, rfl, hc, hm, ha, hcell, hr⟩ := h
  obtain ⟨a', cap', b', off', sv', rfl, hc', hm', ha', hcell', hr'⟩ := h'
  have HD := (show Hid _ from fun (j : Nat) (hj : j < ls.length) (hj' : j < ms.length) (w' : World) (hb : Below w.heap.size w w') => eqRowI ls[j] ms[j] (sv j) (sv' j) w' ((hr j hj).still hb) ((hr' j hj').still hb))
  have HC := (show Hid _ from hcell); clear hcell
  have HA := (show Hid _ from ha); clear ha
  have HF1 := (show Hid _ from fun (j : Nat) (hj : j < ls.length) => (hr j hj).form); clear hr
  have HC' := (show Hid _ from hcell'); clear hcell'
  have HA' := (show Hid _ from ha'); clear ha'
  have HF2 := (show Hid _ from fun (j : Nat) (hj : j < ms.length) => (hr' j hj).form); clear hr'
  unfold maxLen at hm hm'
  generalize hRes : decide (ls = ms) = R
  have HRes := (show Hid _ from hRes); clear hRes
  by_cases hl : ls.length = ms.length
  case neg =>
    have HF : Hid (R = false) := by
      show R = false
      rw [← HRes.out]
      exact decide_eq_false (fun e => hl (by rw [e]))
    have i1 : ((ls.length : Int) != (ms.length : Int)) = true := by simp; omega
    clear hl
    go_enter Try.func104, Try.ntmps104
    go_wp2_with fail
    go_ret
    exact ⟨by rw [HF.out]; rfl, Below.refl _ _⟩
  have i1 : ((ls.length : Int) != (ms.length : Int)) = false := by simp; omega
  have HL := (show Hid _ from hl); clear hl
  go_enter Try.func104, Try.ntmps104
  go_wp2_with fail
  clear i1
  go_loopw [17] (fun i wr => ∃ j : Nat, i = .int .i64 j ∧ j ≤ ls.length ∧ Hid (∀ i (hi : i < ls.length) (hi' : i < ms.length), i < j → ls[i] = ms[i]) ∧ Below w.heap.size w wr) (fun i _ => ls.length - (intOf i).toNat)
  case atStart => exact ⟨0, rfl, Nat.zero_le _, fun i hi _ h0 => absurd h0 (Nat.not_lt_zero _), Below.refl _ _⟩
  case round =>
    obtain ⟨j, rfl, hj, HJ, hbel⟩ := hrel
    by_cases hjl : j < ls.length
    · have hjl' := hjl
      have hjm : j < ms.length := by have := HL.out; omega
      obtain ⟨rfl, _⟩ := HA.out (by omega)
      obtain ⟨rfl, _⟩ := HA'.out (by omega)
      have k0 := HC.out j hjl'
      rw [← hbel.cell (lt_of_cell k0)] at k0
      have k1 := HC'.out j hjm
      rw [← hbel.cell (lt_of_cell k1)] at k1
      have hcl := HD.out j hjl' hjm wr hbel
      obtain ⟨a2, cap2, e2, _⟩ := HF1.out j hjl'
      obtain ⟨a3, cap3, e3, _⟩ := HF2.out j hjm
      rw [e2] at k0 hcl
      rw [e3] at k1 hcl
      have HCL := (show Hid _ from hcl); clear hcl e2 e3
      by_cases he : ls[j] = ms[j]
      · rw [decide_eq_true he] at HCL
        have HN : Hid (∀ i (hi : i < ls.length) (hi' : i < ms.length), i < j + 1 → ls[i] = ms[i]) := fun i hi hi' hij => by
          by_cases e : i = j
          · subst e; exact he
          · exact HJ.out i hi hi' (by omega)
        clear he
        go_wp2_with fail
        go_at_call 105
        refine Calls.mono HCL.out ?_
        rintro e w1 ⟨rfl, hb1⟩
        have HE := (show Hid _ from bel_trans hbel hb1); clear hb1 k0 k1 hbel
        go_wp2_with fail
        exact ⟨⟨j + 1, by go_num, by omega, HN, HE.out⟩, by simp [intOf]; omega⟩
      · rw [decide_eq_false he] at HCL
        have HF : Hid (R = false) := by
          show R = false
          rw [← HRes.out]
          exact decide_eq_false (fun e => he (by simp [e]))
        clear he
        go_wp2_with fail
        go_at_call 105
        refine Calls.mono HCL.out ?_
        rintro e w1 ⟨rfl, hb1⟩
        have HE := (show Hid _ from bel_trans hbel hb1); clear hb1 k0 k1 hbel
        go_wp2_with fail
        go_ret
        exact ⟨by rw [HF.out]; rfl, HE.out⟩
    · have HF : Hid (R = true) := by
        show R = true
        rw [← HRes.out]
        exact decide_eq_true (List.ext_getElem HL.out (fun i h1 h2 => HJ.out i h1 h2 (by omega)))
      go_wp2_with fail
      go_ret
      exact ⟨by rw [HF.out]; rfl, hbel⟩
set_option maxHeartbeats 800000 in
theorem sameRowsI_any {S S' : Nat → Prop} (ls ms : List (List Int)) (v u : Value) (w : World) (h : IRows w S ls v) (h' : IRows w S' ms u) :
    Calls Try.prog 71 #[v, u] w fun e w' => e = .returned (.bool (decide (ls = ms))) ∧ Below w.heap.size w w' := by
  have HC := (show Hid _ from eqFunI ls ms v u w h h')
  obtain ⟨a, cap, rfl, _⟩ := h.form
  obtain ⟨a', cap', rfl, _⟩ := h'.form
  clear h h'
  generalize decide (ls = ms) = R at *
  go_enter Try.func71, Try.ntmps71
  go_wp2_with fail
  refine Calls.mono HC.out ?_
  rintro e w1 ⟨rfl, hb⟩
  have HB := (show Hid _ from hb); clear hb
  go_wp2_with fail
  go_ret
  exact ⟨rfl, HB.out⟩
end Go.Proofs.Ytflhfimgeladaaa
