import Derived.Test.YtflhfimgeladaaaTb
import Derived.Test.YtflhfimgeladaaaSbq
/-! Whether two rows are the same. -/
namespace Go.Proofs.Ytflhfimgeladaaa
open Go.RowKit Go.Deep
set_option linter.unusedVariables false
set_option maxRecDepth 100000
set_option linter.unusedSimpArgs false

set_option maxHeartbeats 1600000 in
theorem sameA_s {S S' : Nat → Prop} (l m : List (Int × Int)) (v u : Value) (w : World) (h : Acs w S l v) (h' : Acs w S' m u) :
    Calls Try.prog 89 #[v, u] w fun e w' => e = .returned (.bool (decide (l = m))) ∧ Below w.heap.size w w' := by
  obtain ⟨a, cap, b, off, rfl, hc, hm, ha, hcell⟩ := h
  obtain ⟨a', cap', b', off', rfl, hc', hm', ha', hcell'⟩ := h'
  have HC := (show Hid _ from hcell); clear hcell
  have HA := (show Hid _ from ha); clear ha
  have HC' := (show Hid _ from hcell'); clear hcell'
  have HA' := (show Hid _ from ha'); clear ha'
  unfold maxLen at hm hm'
  generalize hRes : decide (l = m) = R
  have HRes := (show Hid _ from hRes); clear hRes
  by_cases hlen : l.length = m.length
  case neg =>
    have HF : Hid (R = false) := by
      show R = false
      rw [← HRes.out]
      exact decide_eq_false (fun e => hlen (by rw [e]))
    have j1 : ((l.length : Int) != (m.length : Int)) = true := by simp; omega
    clear hlen
    go_enter Try.func89, Try.ntmps89
    go_wp2_with fail
    go_ret
    exact ⟨by rw [HF.out]; rfl, Below.refl _ _⟩
  have j1 : ((l.length : Int) != (m.length : Int)) = false := by simp; omega
  have HLN := (show Hid _ from hlen); clear hlen
  go_enter Try.func89, Try.ntmps89
  go_wp2_with fail
  clear j1
  go_loopw [5] (fun i wr => ∃ j : Nat, i = .int .i64 j ∧ j ≤ l.length ∧ Hid (∀ i (hi : i < l.length) (hi' : i < m.length), i < j → l[i] = m[i]) ∧ Below w.heap.size w wr) (fun i _ => l.length - (intOf i).toNat)
  case atStart => exact ⟨0, rfl, Nat.zero_le _, fun i hi hi' h0 => absurd h0 (Nat.not_lt_zero _), Below.refl _ _⟩
  case round =>
    obtain ⟨j, rfl, hj, HJ, hbel⟩ := hrel
    by_cases hjl : j < l.length
    · have hjl' := hjl
      have hjm : j < m.length := by have := HLN.out; omega
      obtain ⟨rfl, _⟩ := HA.out (by omega)
      obtain ⟨rfl, _⟩ := HA'.out (by omega)
      obtain ⟨k0, k1⟩ := HC.out j hjl'
      rw [← hbel.cell (lt_of_cell k0)] at k0
      rw [← hbel.cell (lt_of_cell k1)] at k1
      obtain ⟨m0, m1⟩ := HC'.out j hjm
      rw [← hbel.cell (lt_of_cell m0)] at m0
      rw [← hbel.cell (lt_of_cell m1)] at m1
      have HX : Hid (l[j] ≠ m[j] → R = false) := fun hne => by
        show R = false
        rw [← HRes.out]
        exact decide_eq_false (fun e => hne (by subst e; rfl))
      have HY : Hid (l[j] = m[j] → ∀ i (hi : i < l.length) (hi' : i < m.length), i < j + 1 → l[i] = m[i]) := fun e0 i hi hi' hij => by
        by_cases e : i = j
        · subst e; exact e0
        · exact HJ.out i hi hi' (by omega)
      clear HJ
      generalize l[j] = x at *
      generalize m[j] = y at *
      by_cases hxy : x = y
      · subst hxy
        have HN := (show Hid _ from HY.out rfl)
        clear HX HY
        go_wp2_with fail
        go_region
        all_goals
          have hbd := bel_drewS hbel 1
          go_wp2_with fail
          exact ⟨⟨j + 1, by go_num, by omega, HN, by first | exact hbel.drew | exact hbd⟩, by simp [intOf]; omega⟩
      · have HF : Hid (R = false) := HX.out hxy
        by_cases hx1 : x.1 = y.1
        · have hx2 : ¬ x.2 = y.2 := fun e => hxy (Prod.ext hx1 e)
          clear HX HY
          go_wp2_with fail
          go_region
          all_goals
            have hbd := hbel.drew
            go_wp2_with fail
            go_ret
            exact ⟨by rw [HF.out]; rfl, hbd⟩
        · clear HX HY
          go_wp2_with fail
          go_region
          all_goals
            have hbd := hbel.drew
            go_wp2_with fail
            go_ret
            exact ⟨by rw [HF.out]; rfl, hbd⟩
    · have HF : Hid (R = true) := by
        show R = true
        rw [← HRes.out]
        refine decide_eq_true (List.ext_getElem HLN.out (fun i hi hi' => HJ.out i hi hi' (by omega)))
      go_wp2_with fail
      go_ret
      exact ⟨by rw [HF.out]; rfl, hbel⟩
set_option maxHeartbeats 1600000 in
theorem sameI_s {S S' : Nat → Prop} (l m : List Int) (v u : Value) (w : World) (h : Ints w S l v) (h' : Ints w S' m u) :
    Calls Try.prog 65 #[v, u] w fun e w' => e = .returned (.bool (decide (l = m))) ∧ Below w.heap.size w w' := by
  obtain ⟨a, cap, b, off, rfl, hc, hm, ha, hcell⟩ := h
  obtain ⟨a', cap', b', off', rfl, hc', hm', ha', hcell'⟩ := h'
  have HC := (show Hid _ from hcell); clear hcell
  have HA := (show Hid _ from ha); clear ha
  have HC' := (show Hid _ from hcell'); clear hcell'
  have HA' := (show Hid _ from ha'); clear ha'
  unfold maxLen at hm hm'
  generalize hRes : decide (l = m) = R
  have HRes := (show Hid _ from hRes); clear hRes
  by_cases hlen : l.length = m.length
  case neg =>
    have HF : Hid (R = false) := by
      show R = false
      rw [← HRes.out]
      exact decide_eq_false (fun e => hlen (by rw [e]))
    have j1 : ((l.length : Int) != (m.length : Int)) = true := by simp; omega
    clear hlen
    go_enter Try.func65, Try.ntmps65
    go_wp2_with fail
    go_ret
    exact ⟨by rw [HF.out]; rfl, Below.refl _ _⟩
  have j1 : ((l.length : Int) != (m.length : Int)) = false := by simp; omega
  have HLN := (show Hid _ from hlen); clear hlen
  go_enter Try.func65, Try.ntmps65
  go_wp2_with fail
  clear j1
  go_loopw [5] (fun i wr => ∃ j : Nat, i = .int .i64 j ∧ j ≤ l.length ∧ Hid (∀ i (hi : i < l.length) (hi' : i < m.length), i < j → l[i] = m[i]) ∧ Below w.heap.size w wr) (fun i _ => l.length - (intOf i).toNat)
  case atStart => exact ⟨0, rfl, Nat.zero_le _, fun i hi hi' h0 => absurd h0 (Nat.not_lt_zero _), Below.refl _ _⟩
  case round =>
    obtain ⟨j, rfl, hj, HJ, hbel⟩ := hrel
    by_cases hjl : j < l.length
    · have hjl' := hjl
      have hjm : j < m.length := by have := HLN.out; omega
      obtain ⟨rfl, _⟩ := HA.out (by omega)
      obtain ⟨rfl, _⟩ := HA'.out (by omega)
      have k0 := HC.out j hjl'
      rw [← hbel.cell (lt_of_cell k0)] at k0
      have m0 := HC'.out j hjm
      rw [← hbel.cell (lt_of_cell m0)] at m0
      have HX : Hid (l[j] ≠ m[j] → R = false) := fun hne => by
        show R = false
        rw [← HRes.out]
        exact decide_eq_false (fun e => hne (by subst e; rfl))
      have HY : Hid (l[j] = m[j] → ∀ i (hi : i < l.length) (hi' : i < m.length), i < j + 1 → l[i] = m[i]) := fun e0 i hi hi' hij => by
        by_cases e : i = j
        · subst e; exact e0
        · exact HJ.out i hi hi' (by omega)
      clear HJ
      generalize l[j] = x at *
      generalize m[j] = y at *
      by_cases hxy : x = y
      · subst hxy
        have HN := (show Hid _ from HY.out rfl)
        clear HX HY
        go_wp2_with fail
        go_region
        all_goals
          have hbd := bel_drewS hbel 1
          go_wp2_with fail
          exact ⟨⟨j + 1, by go_num, by omega, HN, by first | exact hbel.drew | exact hbd⟩, by simp [intOf]; omega⟩
      · have HF : Hid (R = false) := HX.out hxy
        have b1 : (x != y) = true := by simp [hxy]
        clear HX HY
        go_wp2_with fail
        go_region
        all_goals
          have hbd := hbel.drew
          go_wp2_with fail
          go_ret
          exact ⟨by rw [HF.out]; rfl, hbd⟩
    · have HF : Hid (R = true) := by
        show R = true
        rw [← HRes.out]
        refine decide_eq_true (List.ext_getElem HLN.out (fun i hi hi' => HJ.out i hi hi' (by omega)))
      go_wp2_with fail
      go_ret
      exact ⟨by rw [HF.out]; rfl, hbel⟩
set_option maxHeartbeats 1600000 in
theorem sameA_i {S S' : Nat → Prop} (l m : List (Int × Int)) (v u : Value) (w : World) (h : Acs w S l v) (h' : Acs w S' m u) :
    Calls Try.prog 94 #[v, u] w fun e w' => e = .returned (.bool (decide (l = m))) ∧ Below w.heap.size w w' := by
  obtain ⟨a, cap, b, off, rfl, hc, hm, ha, hcell⟩ := h
  obtain ⟨a', cap', b', off', rfl, hc', hm', ha', hcell'⟩ := h'
  have HC := (show Hid _ from hcell); clear hcell
  have HA := (show Hid _ from ha); clear ha
  have HC' := (show Hid _ from hcell'); clear hcell'
  have HA' := (show Hid _ from ha'); clear ha'
  unfold maxLen at hm hm'
  generalize hRes : decide (l = m) = R
  have HRes := (show Hid _ from hRes); clear hRes
  by_cases hlen : l.length = m.length
  case neg =>
    have HF : Hid (R = false) := by
      show R = false
      rw [← HRes.out]
      exact decide_eq_false (fun e => hlen (by rw [e]))
    have j1 : ((l.length : Int) != (m.length : Int)) = true := by simp; omega
    clear hlen
    go_enter Try.func94, Try.ntmps94
    go_wp2_with fail
    go_ret
    exact ⟨by rw [HF.out]; rfl, Below.refl _ _⟩
  have j1 : ((l.length : Int) != (m.length : Int)) = false := by simp; omega
  have HLN := (show Hid _ from hlen); clear hlen
  go_enter Try.func94, Try.ntmps94
  go_wp2_with fail
  clear j1
  go_loopw [13] (fun i wr => ∃ j : Nat, i = .int .i64 j ∧ j ≤ l.length ∧ Hid (∀ i (hi : i < l.length) (hi' : i < m.length), i < j → l[i] = m[i]) ∧ Below w.heap.size w wr) (fun i _ => l.length - (intOf i).toNat)
  case atStart => exact ⟨0, rfl, Nat.zero_le _, fun i hi hi' h0 => absurd h0 (Nat.not_lt_zero _), Below.refl _ _⟩
  case round =>
    obtain ⟨j, rfl, hj, HJ, hbel⟩ := hrel
    by_cases hjl : j < l.length
    · have hjl' := hjl
      have hjm : j < m.length := by have := HLN.out; omega
      obtain ⟨rfl, _⟩ := HA.out (by omega)
      obtain ⟨rfl, _⟩ := HA'.out (by omega)
      obtain ⟨k0, k1⟩ := HC.out j hjl'
      rw [← hbel.cell (lt_of_cell k0)] at k0
      rw [← hbel.cell (lt_of_cell k1)] at k1
      obtain ⟨m0, m1⟩ := HC'.out j hjm
      rw [← hbel.cell (lt_of_cell m0)] at m0
      rw [← hbel.cell (lt_of_cell m1)] at m1
      have HX : Hid (l[j] ≠ m[j] → R = false) := fun hne => by
        show R = false
        rw [← HRes.out]
        exact decide_eq_false (fun e => hne (by subst e; rfl))
      have HY : Hid (l[j] = m[j] → ∀ i (hi : i < l.length) (hi' : i < m.length), i < j + 1 → l[i] = m[i]) := fun e0 i hi hi' hij => by
        by_cases e : i = j
        · subst e; exact e0
        · exact HJ.out i hi hi' (by omega)
      clear HJ
      generalize l[j] = x at *
      generalize m[j] = y at *
      by_cases hxy : x = y
      · subst hxy
        have HN := (show Hid _ from HY.out rfl)
        clear HX HY
        go_wp2_with fail
        go_region
        all_goals
          have hbd := bel_drewS hbel 1
          go_wp2_with fail
          exact ⟨⟨j + 1, by go_num, by omega, HN, by first | exact hbel.drew | exact hbd⟩, by simp [intOf]; omega⟩
      · have HF : Hid (R = false) := HX.out hxy
        by_cases hx1 : x.1 = y.1
        · have hx2 : ¬ x.2 = y.2 := fun e => hxy (Prod.ext hx1 e)
          clear HX HY
          go_wp2_with fail
          go_region
          all_goals
            have hbd := hbel.drew
            go_wp2_with fail
            go_ret
            exact ⟨by rw [HF.out]; rfl, hbd⟩
        · clear HX HY
          go_wp2_with fail
          go_region
          all_goals
            have hbd := hbel.drew
            go_wp2_with fail
            go_ret
            exact ⟨by rw [HF.out]; rfl, hbd⟩
    · have HF : Hid (R = true) := by
        show R = true
        rw [← HRes.out]
        refine decide_eq_true (List.ext_getElem HLN.out (fun i hi hi' => HJ.out i hi hi' (by omega)))
      go_wp2_with fail
      go_ret
      exact ⟨by rw [HF.out]; rfl, hbel⟩
set_option maxHeartbeats 1600000 in
theorem sameI_i {S S' : Nat → Prop} (l m : List Int) (v u : Value) (w : World) (h : Ints w S l v) (h' : Ints w S' m u) :
    Calls Try.prog 98 #[v, u] w fun e w' => e = .returned (.bool (decide (l = m))) ∧ Below w.heap.size w w' := by
  obtain ⟨a, cap, b, off, rfl, hc, hm, ha, hcell⟩ := h
  obtain ⟨a', cap', b', off', rfl, hc', hm', ha', hcell'⟩ := h'
  have HC := (show Hid _ from hcell); clear hcell
  have HA := (show Hid _ from ha); clear ha
  have HC' := (show Hid _ from hcell'); clear hcell'
  have HA' := (show Hid _ from ha'); clear ha'
  unfold maxLen at hm hm'
  generalize hRes : decide (l = m) = R
  have HRes := (show Hid _ from hRes); clear hRes
  by_cases hlen : l.length = m.length
  case neg =>
    have HF : Hid (R = false) := by
      show R = false
      rw [← HRes.out]
      exact decide_eq_false (fun e => hlen (by rw [e]))
    have j1 : ((l.length : Int) != (m.length : Int)) = true := by simp; omega
    clear hlen
    go_enter Try.func98, Try.ntmps98
    go_wp2_with fail
    go_ret
    exact ⟨by rw [HF.out]; rfl, Below.refl _ _⟩
  have j1 : ((l.length : Int) != (m.length : Int)) = false := by simp; omega
  have HLN := (show Hid _ from hlen); clear hlen
  go_enter Try.func98, Try.ntmps98
  go_wp2_with fail
  clear j1
  go_loopw [13] (fun i wr => ∃ j : Nat, i = .int .i64 j ∧ j ≤ l.length ∧ Hid (∀ i (hi : i < l.length) (hi' : i < m.length), i < j → l[i] = m[i]) ∧ Below w.heap.size w wr) (fun i _ => l.length - (intOf i).toNat)
  case atStart => exact ⟨0, rfl, Nat.zero_le _, fun i hi hi' h0 => absurd h0 (Nat.not_lt_zero _), Below.refl _ _⟩
  case round =>
    obtain ⟨j, rfl, hj, HJ, hbel⟩ := hrel
    by_cases hjl : j < l.length
    · have hjl' := hjl
      have hjm : j < m.length := by have := HLN.out; omega
      obtain ⟨rfl, _⟩ := HA.out (by omega)
      obtain ⟨rfl, _⟩ := HA'.out (by omega)
      have k0 := HC.out j hjl'
      rw [← hbel.cell (lt_of_cell k0)] at k0
      have m0 := HC'.out j hjm
      rw [← hbel.cell (lt_of_cell m0)] at m0
      have HX : Hid (l[j] ≠ m[j] → R = false) := fun hne => by
        show R = false
        rw [← HRes.out]
        exact decide_eq_false (fun e => hne (by subst e; rfl))
      have HY : Hid (l[j] = m[j] → ∀ i (hi : i < l.length) (hi' : i < m.length), i < j + 1 → l[i] = m[i]) := fun e0 i hi hi' hij => by
        by_cases e : i = j
        · subst e; exact e0
        · exact HJ.out i hi hi' (by omega)
      clear HJ
      generalize l[j] = x at *
      generalize m[j] = y at *
      by_cases hxy : x = y
      · subst hxy
        have HN := (show Hid _ from HY.out rfl)
        clear HX HY
        go_wp2_with fail
        go_region
        all_goals
          have hbd := bel_drewS hbel 1
          go_wp2_with fail
          exact ⟨⟨j + 1, by go_num, by omega, HN, by first | exact hbel.drew | exact hbd⟩, by simp [intOf]; omega⟩
      · have HF : Hid (R = false) := HX.out hxy
        have b1 : (x != y) = true := by simp [hxy]
        clear HX HY
        go_wp2_with fail
        go_region
        all_goals
          have hbd := hbel.drew
          go_wp2_with fail
          go_ret
          exact ⟨by rw [HF.out]; rfl, hbd⟩
    · have HF : Hid (R = true) := by
        show R = true
        rw [← HRes.out]
        refine decide_eq_true (List.ext_getElem HLN.out (fun i hi hi' => HJ.out i hi hi' (by omega)))
      go_wp2_with fail
      go_ret
      exact ⟨by rw [HF.out]; rfl, hbel⟩
end Go.Proofs.Ytflhfimgeladaaa
