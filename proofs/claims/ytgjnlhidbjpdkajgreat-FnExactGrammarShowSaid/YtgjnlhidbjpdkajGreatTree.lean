import Derived.Test.YtgjnlhidbjpdkajGreatBase
/-! What is counted and asked of a tree: plain mathematics. -/
namespace Go.Proofs.YtgjnlhidbjpdkajGreat
set_option linter.unusedVariables false
set_option maxRecDepth 100000
set_option linter.unusedSimpArgs false
open Go.RowKit

def letB (c : Int) : Bool := decide (97 ≤ c ∧ c ≤ 122 ∨ 65 ≤ c ∧ c ≤ 90)
def digB (c : Int) : Bool := decide (48 ≤ c ∧ c ≤ 57)
def nbB (c : Int) : Bool := letB c || digB c || decide (c = 95)

/-- A name, as the document has it. -/
def NmP (s : ByteArray) : Prop := ∃ h : 1 ≤ s.size, s.size ≤ 24 ∧ letB (s[0]'h).toNat = true ∧ ∀ j (hj : j < s.size), 1 ≤ j → nbB s[j].toNat = true
def nmB (s : ByteArray) : Bool := decide (1 ≤ s.size) && decide (s.size ≤ 24) && letB (s.get! 0).toNat && (List.range s.size).all fun j => j == 0 || nbB (s.get! j).toNat
theorem get!_eq (s : ByteArray) (j : Nat) (h : j < s.size) : s.get! j = s[j] := by
  have h' : j < s.data.size := h
  show s.data[j]! = s.data[j]
  exact getElem!_pos s.data j h'
theorem nmB_iff {s : ByteArray} : nmB s = true ↔ NmP s := by
  unfold nmB NmP
  constructor
  · intro h
    simp at h
    obtain ⟨⟨⟨h1, h2⟩, h3⟩, h4⟩ := h
    refine ⟨h1, h2, ?_, fun j hj h5 => ?_⟩
    · rw [← get!_eq s 0 h1]; exact h3
    · rcases h4 j hj with h | h
      · omega
      · rw [← get!_eq s j hj]; exact h
  · rintro ⟨h1, h2, h3, h4⟩
    simp
    refine ⟨⟨⟨h1, h2⟩, ?_⟩, fun j hj => ?_⟩
    · rw [get!_eq s 0 h1]; exact h3
    · by_cases h5 : j = 0
      · exact .inl h5
      · right; rw [get!_eq s j hj]; exact h4 j hj (by omega)
theorem nmB_yes {s : ByteArray} (h : NmP s) : nmB s = true := nmB_iff.2 h
theorem nmB_no {s : ByteArray} (h : ¬ NmP s) : nmB s = false := by
  cases e : nmB s
  · rfl
  · exact absurd (nmB_iff.1 e) h

theorem isEmpty_iff (x : ByteArray) : x.toList.isEmpty = decide (x.size = 0) := by
  rw [ByteArray.toList_eq]
  have h : x.data.toList.length = x.size := rfl
  cases e : x.data.toList with
  | nil =>
    rw [e] at h
    have h' : x.size = 0 := h.symm
    rw [h']; rfl
  | cons c r =>
    rw [e] at h
    have h' : ¬ x.size = 0 := by rw [← h]; simp
    rw [decide_eq_false h']; rfl

end Go.Proofs.YtgjnlhidbjpdkajGreat
