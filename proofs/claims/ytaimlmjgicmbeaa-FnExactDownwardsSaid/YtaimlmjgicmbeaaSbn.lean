import Derived.Test.YtaimlmjgicmbeaaBok
/-! The specification's BnfOK: the place of a text. -/
namespace Go.Proofs.Ytaimlmjgicmbeaa
open Go.RowKit Go.Deep
set_option linter.unusedVariables false
set_option maxRecDepth 100000
set_option linter.unusedSimpArgs false

theorem ne_bytes {a b : ByteArray} (h : ¬ a = b) : (a.toList == b.toList) = false := by
  rw [beq_eq_false_iff_ne]
  intro e
  rw [ByteArray.toList_eq, ByteArray.toList_eq] at e
  exact h (ByteArray.ext (Array.toList_inj.mp e))
theorem eq_bytes {a b : ByteArray} (h : a = b) : (a.toList == b.toList) = true := by subst h; simp
set_option maxHeartbeats 800000 in
theorem l03At_any {S : Nat → Prop} (l : List ByteArray) (v : Value) (w : World) (h : Strs w S l v) (j : Nat) (hj : j < l.length) :
    Calls Try.prog 58 #[v, .string l[j]] w fun e w' => (∃ r : Nat, e = .returned (.int .i64 r) ∧ r ≤ j ∧ (r = j ↔ l[j] ∉ l.take j)) ∧ w' = w := by
  obtain ⟨a, cap, b, off, rfl, hc, hm, ha, hcell⟩ := h
  have HC := (show Hid _ from hcell); clear hcell
  have HA := (show Hid _ from ha); clear ha
  unfold maxLen at hm
  go_enter Try.func58, Try.ntmps58
  go_wp2_with fail
  go_loopw [5] (fun i wr => ∃ k : Nat, i = .int .i64 k ∧ k ≤ j ∧ Hid (∀ i (hi : i < l.length), i < k → l[i] ≠ l[j]) ∧ wr = w) (fun i _ => l.length - (intOf i).toNat)
  case atStart => exact ⟨0, rfl, Nat.zero_le _, fun i hi h0 => absurd h0 (Nat.not_lt_zero _), rfl⟩
  case round =>
    obtain ⟨k, rfl, hk, HK, rfl⟩ := hrel
    have hkl : k < l.length := by omega
    obtain ⟨rfl, _⟩ := HA.out (by omega)
    have c0 := (HC.out k hkl).1
    by_cases he : l[k] = l[j]
    · have HP : Hid (k = j ↔ l[j] ∉ l.take j) := by
        show k = j ↔ l[j] ∉ l.take j
        constructor
        · rintro rfl hmem
          obtain ⟨i, hi, e⟩ := List.mem_iff_getElem.1 hmem
          rw [List.length_take] at hi
          rw [List.getElem_take] at e
          exact HK.out i (by omega) (by omega) e
        · intro hno
          refine Decidable.byContradiction fun hne => hno ?_
          rw [← he]
          exact List.mem_iff_getElem.2 ⟨k, by rw [List.length_take]; omega, by rw [List.getElem_take]⟩
      rw [he] at c0
      clear he
      go_wp2_with fail
      go_ret
      exact ⟨⟨k, rfl, hk, HP.out⟩, rfl⟩
    · have hkj : k < j := by
        refine Nat.lt_of_le_of_ne hk fun e => he ?_
        subst e; rfl
      have HN : Hid (∀ i (hi : i < l.length), i < k + 1 → l[i] ≠ l[j]) := fun i hi hik => by
        by_cases e : i = k
        · subst e; exact he
        · exact HK.out i hi (by omega)
      have hbe := ne_bytes he
      clear he
      go_wp2_with fail
      exact ⟨⟨k + 1, by go_num, by omega, HN, trivial⟩, by simp [intOf]; omega⟩
end Go.Proofs.Ytaimlmjgicmbeaa
