import Derived.Test.YtgjnlhidbjpdkajGreatG2
/-! Literals and patterns: both sides. -/
namespace Go.Proofs.YtgjnlhidbjpdkajGreat
open Go.RowKit Go.Deep
set_option linter.unusedVariables false
set_option maxRecDepth 100000
set_option linter.unusedSimpArgs false

theorem eqB_of {r n : Nat} {K : Bool} (hr : r ≤ n) (hk : r = n ↔ K = true) : ((r : Int) == n) = K := by
  cases K
  · simp at hk ⊢; omega
  · simp at hk ⊢; omega
set_option maxHeartbeats 800000 in
theorem isLit_any (s : ByteArray) (hs : s.size ≤ maxLen) (w : World) : Calls Tryz.prog 80 #[.string s] w fun e w' => e = .returned (.bool (litB s)) ∧ Below w.heap.size w w' := by
  have HS := (show Hid _ from fun w => span_lit s hs w)
  have hE := isEmpty_iff s
  unfold maxLen at hs
  unfold litB
  by_cases h0 : s.size = 0
  · rw [decide_eq_true h0] at hE
    rw [decide_eq_false (by omega : ¬ 1 ≤ s.size)]
    clear h0
    go_enter Tryz.func80, Tryz.ntmps80
    go_wp2_with fail
    go_ret
    exact ⟨rfl, Below.refl _ _⟩
  rw [decide_eq_false h0] at hE
  rw [decide_eq_true (by omega : 1 ≤ s.size)]
  by_cases h1 : s.size ≤ 16
  · rw [decide_eq_true h1]
    generalize alB ltP s = K at *
    go_enter Tryz.func80, Tryz.ntmps80
    go_wp2_with fail
    refine Calls.mono (HS.out _) ?_
    rintro e w2 ⟨⟨r, rfl, hr, hk⟩, hb2⟩
    have HB := (show Hid _ from hb2); clear hb2
    have HK := (show Hid _ from eqB_of hr hk); clear hk
    go_wp2_with fail
    go_ret
    exact ⟨ret_bool (by rw [HK.out]; cases K <;> rfl), HB.out⟩
  · rw [decide_eq_false h1]
    go_enter Tryz.func80, Tryz.ntmps80
    go_wp2_with fail
    go_ret
    exact ⟨rfl, Below.refl _ _⟩
set_option maxHeartbeats 800000 in
theorem bytes_any (s : ByteArray) (a b : Int) (hs : s.size ≤ maxLen) (w : World) : Calls Tryz.prog 70 #[.string s, .int .u8 a, .int .u8 b] w fun e w' => e = .returned (.bool (alB (inP a b) s)) ∧ w' = w := by
  unfold maxLen at hs
  go_enter Tryz.func70, Tryz.ntmps70
  go_wp2_with fail
  go_loopw [7] (fun i wr => ∃ j : Nat, i = .int .i64 j ∧ j ≤ s.size ∧ Hid (∀ i (hi : i < s.size), i < j → inP a b s[i].toNat = true) ∧ wr = w) (fun i _ => s.size - (intOf i).toNat)
  case atStart => exact ⟨0, rfl, Nat.zero_le _, fun i hi h0 => absurd h0 (Nat.not_lt_zero _), rfl⟩
  case round =>
    obtain ⟨j, rfl, hj, HJ, rfl⟩ := hrel
    by_cases hlt : j < s.size
    · by_cases h1 : (s[j].toNat : Int) < a
      · have HF : Hid (alB (inP a b) s = false) := alB_no hlt (by simp [inP]; omega)
        go_wp2_with fail
        go_ret
        exact ⟨by rw [HF.out]; rfl, rfl⟩
      · by_cases h2 : b < (s[j].toNat : Int)
        · have HF : Hid (alB (inP a b) s = false) := alB_no hlt (by simp [inP]; omega)
          go_wp2_with fail
          go_ret
          exact ⟨by rw [HF.out]; rfl, rfl⟩
        · have HN : Hid (∀ i (hi : i < s.size), i < j + 1 → inP a b s[i].toNat = true) := fun i hi hij => by
            by_cases e : i = j
            · subst e; simp [inP]; omega
            · exact HJ.out i hi (by omega)
          go_wp2_with fail
          exact ⟨⟨j + 1, by go_num, by omega, HN, trivial⟩, by simp [intOf]; omega⟩
    · have HF : Hid (alB (inP a b) s = true) := alB_iff.2 (fun i hi => HJ.out i hi (by omega))
      go_wp2_with fail
      go_ret
      exact ⟨by rw [HF.out]; rfl, rfl⟩
def neP (b c : Int) : Bool := decide (c ≠ b)
set_option maxHeartbeats 800000 in
theorem in_any (s : ByteArray) (b : Int) (hs : s.size ≤ maxLen) (w : World) : Calls Tryz.prog 71 #[.string s, .int .u8 b] w fun e w' => e = .returned (.bool (!alB (neP b) s)) ∧ w' = w := by
  unfold maxLen at hs
  go_enter Tryz.func71, Tryz.ntmps71
  go_wp2_with fail
  go_loopw [5] (fun i wr => ∃ j : Nat, i = .int .i64 j ∧ j ≤ s.size ∧ Hid (∀ i (hi : i < s.size), i < j → neP b s[i].toNat = true) ∧ wr = w) (fun i _ => s.size - (intOf i).toNat)
  case atStart => exact ⟨0, rfl, Nat.zero_le _, fun i hi h0 => absurd h0 (Nat.not_lt_zero _), rfl⟩
  case round =>
    obtain ⟨j, rfl, hj, HJ, rfl⟩ := hrel
    by_cases hlt : j < s.size
    · by_cases h1 : (s[j].toNat : Int) = b
      · have HF : Hid (alB (neP b) s = false) := alB_no hlt (by simp [neP, h1])
        have h2 : ((s[j].toNat : Int) == b) = true := by simpa using h1
        clear h1
        go_wp2_with fail
        go_ret
        exact ⟨by rw [HF.out]; rfl, rfl⟩
      · have HN : Hid (∀ i (hi : i < s.size), i < j + 1 → neP b s[i].toNat = true) := fun i hi hij => by
          by_cases e : i = j
          · subst e; simp [neP, h1]
          · exact HJ.out i hi (by omega)
        have h2 : ((s[j].toNat : Int) == b) = false := by simpa using h1
        clear h1
        go_wp2_with fail
        exact ⟨⟨j + 1, by go_num, by omega, HN, trivial⟩, by simp [intOf]; omega⟩
    · have HF : Hid (alB (neP b) s = true) := alB_iff.2 (fun i hi => HJ.out i hi (by omega))
      go_wp2_with fail
      go_ret
      exact ⟨by rw [HF.out]; rfl, rfl⟩
theorem alB_lt (s : ByteArray) : (alB (inP 33 126) s && alB (neP 39) s) = alB ltP s := by
  have e : (alB (inP 33 126) s && alB (neP 39) s) = true ↔ alB ltP s = true := by
    rw [Bool.and_eq_true, alB_iff, alB_iff, alB_iff]
    constructor
    · rintro ⟨h1, h2⟩ j hj
      have a := h1 j hj
      have b := h2 j hj
      simp [inP, neP, ltP] at a b ⊢
      omega
    · intro h
      refine ⟨fun j hj => ?_, fun j hj => ?_⟩ <;> have a := h j hj <;> simp [inP, neP, ltP] at a ⊢ <;> omega
  cases h1 : (alB (inP 33 126) s && alB (neP 39) s) <;> cases h2 : alB ltP s <;> simp_all
theorem sRx_any (s : ByteArray) (hs : s.size ≤ maxLen) (w : World) : Calls Tryz.prog 32 #[.string s] w fun e w' => e = .returned (.bool (patB s)) ∧ w' = w := by
  have HS := (show Hid _ from fun w => bytes_any s 32 125 hs w)
  unfold maxLen at hs
  unfold patB
  by_cases h1 : s.size ≤ 100
  · rw [decide_eq_true h1]
    generalize alB (inP 32 125) s = K at *
    go_enter Tryz.func32, Tryz.ntmps32
    go_wp2_with fail
    refine Calls.mono (HS.out _) ?_
    rintro e w2 ⟨rfl, rfl⟩
    go_wp2_with fail
    go_ret
    exact ⟨by cases K <;> rfl, rfl⟩
  · rw [decide_eq_false h1]
    go_enter Tryz.func32, Tryz.ntmps32
    go_wp2_with fail
    go_ret
    exact ⟨rfl, rfl⟩
set_option maxHeartbeats 800000 in
theorem sLit_any (s : ByteArray) (hs : s.size ≤ maxLen) (w : World) : Calls Tryz.prog 34 #[.string s] w fun e w' => e = .returned (.bool (litB s)) ∧ w' = w := by
  have HB := (show Hid _ from fun w => between_any s.size 1 16 w)
  have HS := (show Hid _ from fun w => bytes_any s 33 126 hs w)
  have HI := (show Hid _ from fun w => in_any s 39 hs w)
  unfold maxLen at hs
  unfold litB
  rw [← alB_lt]
  by_cases h1 : 1 ≤ s.size ∧ s.size ≤ 16
  · have e1 : wiB s.size 1 16 = true := by simp [wiB]; omega
    rw [e1] at HB
    rw [decide_eq_true h1.1, decide_eq_true h1.2]
    clear e1
    cases hK : alB (inP 33 126) s
    · rw [hK] at HS
      clear hK
      go_enter Tryz.func34, Tryz.ntmps34
      go_wp2_with fail
      refine Calls.mono (HB.out _) ?_
      rintro e w2 ⟨rfl, rfl⟩
      go_wp2_with fail
      refine Calls.mono (HS.out _) ?_
      rintro e w2 ⟨rfl, rfl⟩
      go_wp2_with fail
      go_ret
      exact ⟨rfl, rfl⟩
    · rw [hK] at HS
      clear hK
      generalize alB (neP 39) s = K at *
      go_enter Tryz.func34, Tryz.ntmps34
      go_wp2_with fail
      refine Calls.mono (HB.out _) ?_
      rintro e w2 ⟨rfl, rfl⟩
      go_wp2_with fail
      refine Calls.mono (HS.out _) ?_
      rintro e w2 ⟨rfl, rfl⟩
      go_wp2_with fail
      refine Calls.mono (HI.out _) ?_
      rintro e w2 ⟨rfl, rfl⟩
      go_wp2_with fail
      go_ret
      exact ⟨by cases K <;> rfl, rfl⟩
  · have e1 : wiB s.size 1 16 = false := by simp [wiB]; omega
    rw [e1] at HB
    have e2 : (decide (1 ≤ s.size) && (decide (s.size ≤ 16) && (alB (inP 33 126) s && alB (neP 39) s))) = false := by
      by_cases h2 : 1 ≤ s.size
      · rw [decide_eq_false (fun h3 => h1 ⟨h2, h3⟩)]; simp
      · rw [decide_eq_false h2]; rfl
    rw [e2]
    clear e1 e2
    go_enter Tryz.func34, Tryz.ntmps34
    go_wp2_with fail
    refine Calls.mono (HB.out _) ?_
    rintro e w2 ⟨rfl, rfl⟩
    go_wp2_with fail
    go_ret
    exact ⟨rfl, rfl⟩
end Go.Proofs.YtgjnlhidbjpdkajGreat
