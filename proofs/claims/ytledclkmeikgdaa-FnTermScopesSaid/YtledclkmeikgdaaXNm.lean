import Derived.Test.YtledclkmeikgdaaChecked
import Derived.Test.YtledclkmeikgdaaXTree
import Derived.Outline
namespace Go.Proofs.Ytledclkmeikgdaa.T
open Go.RowKit
set_option linter.unusedVariables false
set_option linter.unusedSimpArgs false


theorem sLetter (c : Int) (w : World) : Calls Try.prog 78 #[.int .u8 c] w fun e w' => e = .returned (.bool (letB c)) ∧ w' = w := by
  by_cases h1 : 97 ≤ c <;> by_cases h2 : c ≤ 122 <;> by_cases h3 : 65 ≤ c <;> by_cases h4 : c ≤ 90 <;> first | (exfalso; omega) | skip
  all_goals
    go_enter Try.func78, Try.ntmps78
    go_wp2_with fail
    go_ret
    exact ⟨ret_bool (by simp [letB]; try omega), rfl⟩

theorem iLetter (c : Int) (w : World) : Calls Try.prog 82 #[.int .u8 c] w fun e w' => e = .returned (.bool (letB c)) ∧ w' = w := by
  by_cases h1 : 97 ≤ c <;> by_cases h2 : c ≤ 122 <;> by_cases h3 : 65 ≤ c <;> by_cases h4 : c ≤ 90 <;> first | (exfalso; omega) | skip
  all_goals
    go_enter Try.func82, Try.ntmps82
    go_wp2_with fail
    go_ret
    exact ⟨ret_bool (by simp [letB]; try omega), rfl⟩

theorem sDigit (c : Int) (w : World) : Calls Try.prog 107 #[.int .u8 c] w fun e w' => e = .returned (.bool (digB c)) ∧ w' = w := by
  by_cases h1 : 48 ≤ c <;> by_cases h2 : c ≤ 57 <;> first | (exfalso; omega) | skip
  all_goals
    go_enter Try.func107, Try.ntmps107
    go_wp2_with fail
    go_ret
    exact ⟨ret_bool (by simp [digB]; try omega), rfl⟩

theorem iDigit (c : Int) (w : World) : Calls Try.prog 108 #[.int .u8 c] w fun e w' => e = .returned (.bool (digB c)) ∧ w' = w := by
  by_cases h1 : 48 ≤ c <;> by_cases h2 : c ≤ 57 <;> first | (exfalso; omega) | skip
  all_goals
    go_enter Try.func108, Try.ntmps108
    go_wp2_with fail
    go_ret
    exact ⟨ret_bool (by simp [digB]; try omega), rfl⟩

theorem sNameByte (c : Int) (w : World) : Calls Try.prog 79 #[.int .u8 c] w fun e w' => e = .returned (.bool (nbB c)) ∧ w' = w := by
  go_enter Try.func79, Try.ntmps79
  go_wp2_with fail
  refine (sLetter c _).mono ?_
  rintro e w' ⟨rfl, rfl⟩
  cases h1 : letB c
  · go_wp2_with fail
    refine (sDigit c _).mono ?_
    rintro e w' ⟨rfl, rfl⟩
    cases h2 : digB c
    · by_cases h3 : c = 95
      · go_wp2_with fail
        go_ret
        exact ⟨ret_bool (by simp [nbB, h3]), rfl⟩
      · go_wp2_with fail
        go_ret
        exact ⟨ret_bool (by simp [nbB, h1, h2, h3]), rfl⟩
    · go_wp2_with fail
      go_ret
      exact ⟨ret_bool (by simp [nbB, h1, h2]), rfl⟩
  · go_wp2_with fail
    go_ret
    exact ⟨ret_bool (by simp [nbB, h1]), rfl⟩
theorem iNameByte (c : Int) (w : World) : Calls Try.prog 83 #[.int .u8 c] w fun e w' => e = .returned (.bool (nbB c)) ∧ w' = w := by
  go_enter Try.func83, Try.ntmps83
  go_wp2_with fail
  refine (iLetter c _).mono ?_
  rintro e w' ⟨rfl, rfl⟩
  cases h1 : letB c
  · go_wp2_with fail
    refine (iDigit c _).mono ?_
    rintro e w' ⟨rfl, rfl⟩
    cases h2 : digB c
    · by_cases h3 : c = 95
      · go_wp2_with fail
        go_ret
        exact ⟨ret_bool (by simp [nbB, h3]), rfl⟩
      · go_wp2_with fail
        go_ret
        exact ⟨ret_bool (by simp [nbB, h1, h2, h3]), rfl⟩
    · go_wp2_with fail
      go_ret
      exact ⟨ret_bool (by simp [nbB, h1, h2]), rfl⟩
  · go_wp2_with fail
    go_ret
    exact ⟨ret_bool (by simp [nbB, h1]), rfl⟩

set_option maxHeartbeats 400000 in
theorem sName (s : ByteArray) (hs : s.size ≤ maxLen) (w : World) : Calls Try.prog 33 #[.string s] w fun e w' => e = .returned (.bool (nmB s)) ∧ w' = w := by
  unfold maxLen at hs
  by_cases h1 : s.size < 1
  · go_enter Try.func33, Try.ntmps33
    go_wp2_with fail
    go_ret
    exact ⟨ret_bool (nmB_no (fun ⟨h, _⟩ => by omega)).symm, rfl⟩
  · by_cases h2 : 24 < s.size
    · go_enter Try.func33, Try.ntmps33
      go_wp2_with fail
      go_ret
      exact ⟨ret_bool (nmB_no (fun ⟨h, h', _⟩ => by omega)).symm, rfl⟩
    · have hp : 0 < s.size := by omega
      go_enter Try.func33, Try.ntmps33
      go_wp2_with fail
      refine (sLetter _ _).mono ?_
      rintro e w' ⟨rfl, rfl⟩
      cases h3 : letB (s[0].toNat : Int)
      · go_wp2_with fail
        go_ret
        refine ⟨ret_bool (nmB_no (fun ⟨h, h', h4, _⟩ => ?_)).symm, rfl⟩
        rw [h3] at h4
        exact absurd h4 (by simp)
      · have H3 := (show Hid _ from h3); clear h3
        go_wp2_with fail
        go_loop [3] (fun i => ∃ j : Nat, 1 ≤ j ∧ j ≤ s.size ∧ i = .int .i64 j ∧ ∀ q (hq : q < s.size), 1 ≤ q → q < j → nbB s[q].toNat = true) (fun i => s.size - (intOf i).toNat)
        case atStart => exact ⟨1, Nat.le_refl _, by omega, rfl, fun q _ h1 h2 => by omega⟩
        case round =>
          obtain ⟨j, hj1, hj, rfl, hq⟩ := hrel
          have HQ := (show Hid _ from hq); clear hq
          by_cases hlt : j < s.size
          · go_wp2_with fail
            refine (sNameByte _ _).mono ?_
            rintro e w' ⟨rfl, rfl⟩
            cases h5 : nbB (s[j].toNat : Int)
            · have H5 := (show Hid _ from h5); clear h5
              go_wp2_with fail
              go_ret
              refine ⟨ret_bool (nmB_no (fun ⟨h, h', h4, h6⟩ => ?_)).symm, rfl⟩
              have := h6 j hlt hj1
              rw [H5.out] at this
              exact absurd this (by simp)
            · have H5 := (show Hid _ from h5); clear h5
              go_wp2_with fail
              refine ⟨⟨j + 1, by omega, by omega, by go_num, fun q hq h1 h2 => ?_⟩, by simp [intOf]; omega⟩
              by_cases e : q = j
              · subst e; exact H5.out
              · exact HQ.out q hq h1 (by omega)
          · go_wp2_with fail
            go_ret
            exact ⟨ret_bool (nmB_yes ⟨by omega, by omega, H3.out, fun q hq h1 => HQ.out q hq h1 (by omega)⟩).symm, rfl⟩

set_option maxHeartbeats 400000 in
theorem iName (s : ByteArray) (hs : s.size ≤ maxLen) (w : World) : Calls Try.prog 38 #[.string s] w fun e w' => e = .returned (.bool (nmB s)) ∧ w' = w := by
  unfold maxLen at hs
  by_cases h1 : s.size < 1
  · go_enter Try.func38, Try.ntmps38
    go_wp2_with fail
    go_ret
    exact ⟨ret_bool (nmB_no (fun ⟨h, _⟩ => by omega)).symm, rfl⟩
  · by_cases h2 : 24 < s.size
    · go_enter Try.func38, Try.ntmps38
      go_wp2_with fail
      go_ret
      exact ⟨ret_bool (nmB_no (fun ⟨h, h', _⟩ => by omega)).symm, rfl⟩
    · have hp : 0 < s.size := by omega
      go_enter Try.func38, Try.ntmps38
      go_wp2_with fail
      refine (iLetter _ _).mono ?_
      rintro e w' ⟨rfl, rfl⟩
      cases h3 : letB (s[0].toNat : Int)
      · go_wp2_with fail
        go_ret
        refine ⟨ret_bool (nmB_no (fun ⟨h, h', h4, _⟩ => ?_)).symm, rfl⟩
        rw [h3] at h4
        exact absurd h4 (by simp)
      · have H3 := (show Hid _ from h3); clear h3
        go_wp2_with fail
        go_loop [3] (fun i => ∃ j : Nat, 1 ≤ j ∧ j ≤ s.size ∧ i = .int .i64 j ∧ ∀ q (hq : q < s.size), 1 ≤ q → q < j → nbB s[q].toNat = true) (fun i => s.size - (intOf i).toNat)
        case atStart => exact ⟨1, Nat.le_refl _, by omega, rfl, fun q _ h1 h2 => by omega⟩
        case round =>
          obtain ⟨j, hj1, hj, rfl, hq⟩ := hrel
          have HQ := (show Hid _ from hq); clear hq
          by_cases hlt : j < s.size
          · go_wp2_with fail
            refine (iNameByte _ _).mono ?_
            rintro e w' ⟨rfl, rfl⟩
            cases h5 : nbB (s[j].toNat : Int)
            · have H5 := (show Hid _ from h5); clear h5
              go_wp2_with fail
              go_ret
              refine ⟨ret_bool (nmB_no (fun ⟨h, h', h4, h6⟩ => ?_)).symm, rfl⟩
              have := h6 j hlt hj1
              rw [H5.out] at this
              exact absurd this (by simp)
            · have H5 := (show Hid _ from h5); clear h5
              go_wp2_with fail
              refine ⟨⟨j + 1, by omega, by omega, by go_num, fun q hq h1 h2 => ?_⟩, by simp [intOf]; omega⟩
              by_cases e : q = j
              · subst e; exact H5.out
              · exact HQ.out q hq h1 (by omega)
          · go_wp2_with fail
            go_ret
            exact ⟨ret_bool (nmB_yes ⟨by omega, by omega, H3.out, fun q hq h1 => HQ.out q hq h1 (by omega)⟩).symm, rfl⟩
end Go.Proofs.Ytledclkmeikgdaa.T
