import Derived.Test.YtgjnlhidbjpdkajGreatG1
/-! Names that are no words of the language, literals, patterns: both sides. -/
namespace Go.Proofs.YtgjnlhidbjpdkajGreat
open Go.RowKit Go.Deep
set_option linter.unusedVariables false
set_option maxRecDepth 100000
set_option linter.unusedSimpArgs false

def wiB (x a b : Int) : Bool := decide (a ≤ x ∧ x ≤ b)
theorem between_any (x a b : Int) (w : World) : Calls Tryz.prog 33 #[.int .i64 x, .int .i64 a, .int .i64 b] w fun e w' => e = .returned (.bool (wiB x a b)) ∧ w' = w := by
  by_cases h1 : a ≤ x <;> by_cases h2 : x ≤ b
  all_goals
    go_enter Tryz.func33, Tryz.ntmps33
    go_wp2_with fail
    go_ret
    exact ⟨ret_bool (by simp [wiB]; try omega), rfl⟩
theorem kw0_list : (⟨#[108, 97, 110, 103, 117, 97, 103, 101]⟩ : ByteArray).toList = [108, 97, 110, 103, 117, 97, 103, 101] := by rw [ByteArray.toList_eq]
theorem kw1_list : (⟨#[116, 111, 107, 101, 110]⟩ : ByteArray).toList = [116, 111, 107, 101, 110] := by rw [ByteArray.toList_eq]
theorem kw2_list : (⟨#[115, 107, 105, 112]⟩ : ByteArray).toList = [115, 107, 105, 112] := by rw [ByteArray.toList_eq]
theorem kw3_list : (⟨#[108, 101, 102, 116]⟩ : ByteArray).toList = [108, 101, 102, 116] := by rw [ByteArray.toList_eq]
theorem kw4_list : (⟨#[114, 105, 103, 104, 116]⟩ : ByteArray).toList = [114, 105, 103, 104, 116] := by rw [ByteArray.toList_eq]
theorem kw5_list : (⟨#[110, 111, 110, 101]⟩ : ByteArray).toList = [110, 111, 110, 101] := by rw [ByteArray.toList_eq]
theorem kw_yes {s : ByteArray} (h : s ∈ kwL) : kwB s = true := by
  unfold kwB
  rw [List.any_eq_true]
  exact ⟨s, h, by simp⟩
theorem kw_no {s : ByteArray} (h : s ∉ kwL) : kwB s = false := by
  unfold kwB
  rw [List.any_eq_false]
  intro k hk e
  have hne : k ≠ s := fun e2 => h (e2 ▸ hk)
  rw [ne_bytes hne] at e
  exact absurd e (by simp)
set_option maxHeartbeats 1600000 in
theorem isKey_any (s : ByteArray) (w : World) : Calls Tryz.prog 77 #[.string s] w fun e w' => e = .returned (.bool (kwB s)) ∧ w' = w := by
  by_cases e0 : s = ⟨#[108, 97, 110, 103, 117, 97, 103, 101]⟩
  · rw [kw_yes (s := s) (by rw [e0]; simp [kwL])]
    subst e0
    go_enter Tryz.func77, Tryz.ntmps77
    go_wp2_with fail
    go_ret
    exact ⟨rfl, rfl⟩
  have h0 := ne_bytes e0
  rw [kw0_list] at h0
  by_cases e1 : s = ⟨#[116, 111, 107, 101, 110]⟩
  · rw [kw_yes (s := s) (by rw [e1]; simp [kwL])]
    subst e1
    go_enter Tryz.func77, Tryz.ntmps77
    go_wp2_with fail
    go_ret
    exact ⟨rfl, rfl⟩
  have h1 := ne_bytes e1
  rw [kw1_list] at h1
  by_cases e2 : s = ⟨#[115, 107, 105, 112]⟩
  · rw [kw_yes (s := s) (by rw [e2]; simp [kwL])]
    subst e2
    go_enter Tryz.func77, Tryz.ntmps77
    go_wp2_with fail
    go_ret
    exact ⟨rfl, rfl⟩
  have h2 := ne_bytes e2
  rw [kw2_list] at h2
  by_cases e3 : s = ⟨#[108, 101, 102, 116]⟩
  · rw [kw_yes (s := s) (by rw [e3]; simp [kwL])]
    subst e3
    go_enter Tryz.func77, Tryz.ntmps77
    go_wp2_with fail
    go_ret
    exact ⟨rfl, rfl⟩
  have h3 := ne_bytes e3
  rw [kw3_list] at h3
  by_cases e4 : s = ⟨#[114, 105, 103, 104, 116]⟩
  · rw [kw_yes (s := s) (by rw [e4]; simp [kwL])]
    subst e4
    go_enter Tryz.func77, Tryz.ntmps77
    go_wp2_with fail
    go_ret
    exact ⟨rfl, rfl⟩
  have h4 := ne_bytes e4
  rw [kw4_list] at h4
  by_cases e5 : s = ⟨#[110, 111, 110, 101]⟩
  · rw [kw_yes (s := s) (by rw [e5]; simp [kwL])]
    subst e5
    go_enter Tryz.func77, Tryz.ntmps77
    go_wp2_with fail
    go_ret
    exact ⟨rfl, rfl⟩
  have h5 := ne_bytes e5
  rw [kw5_list] at h5
  rw [kw_no (s := s) (by simp only [kwL, List.mem_cons, List.not_mem_nil, or_false]; rintro (h | h | h | h | h | h) <;> contradiction)]
  clear e0 e1 e2 e3 e4 e5
  go_enter Tryz.func77, Tryz.ntmps77
  go_wp2_with fail
  go_ret
  exact ⟨rfl, rfl⟩
theorem isOwn_any (s : ByteArray) (hs : s.size ≤ maxLen) (w : World) : Calls Tryz.prog 42 #[.string s] w fun e w' => e = .returned (.bool (ownB s)) ∧ w' = w := by
  have HN := (show Hid _ from fun w => iName s hs w)
  have HK := (show Hid _ from fun w => isKey_any s w)
  unfold ownB
  cases h1 : nmB s
  · rw [h1] at HN
    clear h1
    go_enter Tryz.func42, Tryz.ntmps42
    go_wp2_with fail
    refine Calls.mono (HN.out _) ?_
    rintro e w1 ⟨rfl, rfl⟩
    go_wp2_with fail
    go_ret
    exact ⟨rfl, rfl⟩
  · rw [h1] at HN
    clear h1
    generalize kwB s = K at *
    go_enter Tryz.func42, Tryz.ntmps42
    go_wp2_with fail
    refine Calls.mono (HN.out _) ?_
    rintro e w1 ⟨rfl, rfl⟩
    go_wp2_with fail
    refine Calls.mono (HK.out _) ?_
    rintro e w1 ⟨rfl, rfl⟩
    go_wp2_with fail
    go_ret
    exact ⟨by cases K <;> rfl, rfl⟩
set_option maxHeartbeats 1600000 in
theorem keyword_any (s : ByteArray) (w : World) : Calls Tryz.prog 69 #[.string s] w fun e w' => e = .returned (.bool (kwB s)) ∧ Below w.heap.size w w' := by
  have hB := Box.new w 9 (kwL.map .string)
  have HB := (show Hid _ from hB); clear hB
  have hW : (w.alloc (.cells ((kwL.map Value.string).toArray) 9)) = w.alloc (.cells #[.string ⟨#[108, 97, 110, 103, 117, 97, 103, 101]⟩, .string ⟨#[116, 111, 107, 101, 110]⟩, .string ⟨#[115, 107, 105, 112]⟩, .string ⟨#[108, 101, 102, 116]⟩, .string ⟨#[114, 105, 103, 104, 116]⟩, .string ⟨#[110, 111, 110, 101]⟩] 9) := rfl
  rw [hW] at HB
  have HE := (show Hid _ from bel_alloc w (.cells #[.string ⟨#[108, 97, 110, 103, 117, 97, 103, 101]⟩, .string ⟨#[116, 111, 107, 101, 110]⟩, .string ⟨#[115, 107, 105, 112]⟩, .string ⟨#[108, 101, 102, 116]⟩, .string ⟨#[114, 105, 103, 104, 116]⟩, .string ⟨#[110, 111, 110, 101]⟩] 9))
  clear hW
  go_enter Tryz.func69, Tryz.ntmps69
  go_wp2_with fail
  go_loopw [4] (fun i wr => ∃ j : Nat, i = .int .i64 j ∧ j ≤ 6 ∧ Hid (∀ i (hi : i < kwL.length), i < j → kwL[i] ≠ s) ∧ wr = w.alloc (.cells #[.string ⟨#[108, 97, 110, 103, 117, 97, 103, 101]⟩, .string ⟨#[116, 111, 107, 101, 110]⟩, .string ⟨#[115, 107, 105, 112]⟩, .string ⟨#[108, 101, 102, 116]⟩, .string ⟨#[114, 105, 103, 104, 116]⟩, .string ⟨#[110, 111, 110, 101]⟩] 9)) (fun i _ => 6 - (intOf i).toNat)
  case atStart => exact ⟨0, rfl, Nat.zero_le _, fun i hi h0 => absurd h0 (Nat.not_lt_zero _), by trivial⟩
  case round =>
    obtain ⟨j, rfl, hj, HJ, rfl⟩ := hrel
    by_cases hlt : j < 6
    · have hjl : j < kwL.length := hlt
      have c0 := Box.cell HB.out j (by simp [kwL]; omega)
      have e0 : (kwL.map Value.string).getD j .nilFunc = .string kwL[j] := by simp [List.getD_eq_getElem?_getD, hjl]
      rw [e0] at c0
      clear e0
      by_cases he : kwL[j] = s
      · have HK : Hid (kwB s = true) := kw_yes (by rw [← he]; exact List.getElem_mem hjl)
        rw [he] at c0
        clear he
        go_wp2_with fail
        go_ret
        exact ⟨by rw [HK.out]; rfl, HE.out⟩
      · have HN : Hid (∀ i (hi : i < kwL.length), i < j + 1 → kwL[i] ≠ s) := fun i hi hij => by
          by_cases e : i = j
          · subst e; exact he
          · exact HJ.out i hi (by omega)
        have hbe := ne_bytes he
        generalize kwL[j] = K at *
        clear he
        go_wp2_with fail
        exact ⟨⟨j + 1, by go_num, by omega, HN, by trivial⟩, by simp [intOf]; omega⟩
    · have HK : Hid (kwB s = false) := kw_no (fun hm => by
        obtain ⟨i, hi, e⟩ := List.mem_iff_getElem.1 hm
        have h6 : i < 6 := hi
        exact HJ.out i hi (by omega) e)
      go_wp2_with fail
      go_ret
      exact ⟨by rw [HK.out]; rfl, HE.out⟩
theorem plain_any (s : ByteArray) (hs : s.size ≤ maxLen) (w : World) : Calls Tryz.prog 31 #[.string s] w fun e w' => e = .returned (.bool (ownB s)) ∧ Below w.heap.size w w' := by
  have HN := (show Hid _ from fun w => sName s hs w)
  have HK := (show Hid _ from fun w => keyword_any s w)
  unfold ownB
  cases h1 : nmB s
  · rw [h1] at HN
    clear h1
    go_enter Tryz.func31, Tryz.ntmps31
    go_wp2_with fail
    refine Calls.mono (HN.out _) ?_
    rintro e w1 ⟨rfl, rfl⟩
    go_wp2_with fail
    go_ret
    exact ⟨rfl, Below.refl _ _⟩
  · rw [h1] at HN
    clear h1
    generalize kwB s = K at *
    go_enter Tryz.func31, Tryz.ntmps31
    go_wp2_with fail
    refine Calls.mono (HN.out _) ?_
    rintro e w1 ⟨rfl, rfl⟩
    go_wp2_with fail
    refine Calls.mono (HK.out _) ?_
    rintro e w2 ⟨rfl, hb2⟩
    have HB := (show Hid _ from hb2); clear hb2
    go_wp2_with fail
    go_ret
    exact ⟨by cases K <;> rfl, HB.out⟩
set_option maxHeartbeats 800000 in
theorem isPattern_any (s : ByteArray) (hs : s.size ≤ maxLen) (w : World) : Calls Tryz.prog 78 #[.string s] w fun e w' => e = .returned (.bool (patB s)) ∧ Below w.heap.size w w' := by
  have HS := (show Hid _ from fun w => span_pat s hs w)
  unfold maxLen at hs
  unfold patB
  by_cases h1 : s.size ≤ 100
  · rw [decide_eq_true h1]
    generalize alB (inP 32 125) s = K at *
    go_enter Tryz.func78, Tryz.ntmps78
    go_wp2_with fail
    refine Calls.mono (HS.out _) ?_
    rintro e w2 ⟨⟨r, rfl, hr, hk⟩, hb2⟩
    have HB := (show Hid _ from hb2); clear hb2
    have HK : Hid (decide ((r : Int) = s.size) = K) := by
      show decide _ = K
      cases K
      · simp at hk ⊢; omega
      · simp at hk ⊢; omega
    have HK2 := (show Hid (((r : Int) == s.size) = K) from by
      show ((r : Int) == s.size) = K
      rw [← HK.out]; rfl)
    clear hk
    go_wp2_with fail
    go_ret
    exact ⟨ret_bool (by first | (rw [HK2.out]; cases K <;> rfl) | (rw [HK.out]; cases K <;> rfl) | (cases K <;> simp_all)), HB.out⟩
  · rw [decide_eq_false h1]
    go_enter Tryz.func78, Tryz.ntmps78
    go_wp2_with fail
    go_ret
    exact ⟨rfl, Below.refl _ _⟩
end Go.Proofs.YtgjnlhidbjpdkajGreat
