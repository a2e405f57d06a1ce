import Derived.Test.YtgjnlhidbjpdkajGreatW1
/-! The program's isEnding: a word that stands right behind the one ahead of it. -/
namespace Go.Proofs.YtgjnlhidbjpdkajGreat
open Go.RowKit Go.Deep
set_option linter.unusedVariables false
set_option maxRecDepth 100000
set_option linter.unusedSimpArgs false

def endL : List ByteArray := [⟨#[59]⟩, ⟨#[41]⟩, ⟨#[93]⟩, ⟨#[125]⟩]
/-- It stands right behind the one ahead of it. -/
def endB (s : ByteArray) : Bool := endL.any fun x => decide (x.data = s.data)
theorem end_yes {s : ByteArray} (h : s ∈ endL) : endB s = true := List.any_eq_true.2 ⟨s, h, decide_eq_true rfl⟩
theorem data_eq {a b : ByteArray} (h : a.data = b.data) : a = b := by
  cases a
  cases b
  cases h
  rfl
theorem end_no {s : ByteArray} (h : ¬ s ∈ endL) : endB s = false := by
  cases e : endB s
  · rfl
  · obtain ⟨x, hx, hd⟩ := List.any_eq_true.1 e
    rw [data_eq (of_decide_eq_true hd)] at hx
    exact absurd hx h
theorem end0_list : (ByteArray.mk #[59]).toList = [59] := by rw [ByteArray.toList_eq]
theorem end1_list : (ByteArray.mk #[41]).toList = [41] := by rw [ByteArray.toList_eq]
theorem end2_list : (ByteArray.mk #[93]).toList = [93] := by rw [ByteArray.toList_eq]
theorem end3_list : (ByteArray.mk #[125]).toList = [125] := by rw [ByteArray.toList_eq]
set_option maxHeartbeats 1600000 in
theorem ending_any (s : ByteArray) (w : World) : Calls Tryz.prog 104 #[.string s] w fun e w' => e = .returned (.bool (endB s)) ∧ w' = w := by
  by_cases e0 : s = ⟨#[59]⟩
  · rw [end_yes (s := s) (by rw [e0]; simp [endL])]
    subst e0
    go_enter Tryz.func104, Tryz.ntmps104
    go_wp2_with fail
    go_ret
    exact ⟨rfl, rfl⟩
  have h0 := ne_bytes e0
  rw [end0_list] at h0
  by_cases e1 : s = ⟨#[41]⟩
  · rw [end_yes (s := s) (by rw [e1]; simp [endL])]
    subst e1
    go_enter Tryz.func104, Tryz.ntmps104
    go_wp2_with fail
    go_ret
    exact ⟨rfl, rfl⟩
  have h1 := ne_bytes e1
  rw [end1_list] at h1
  by_cases e2 : s = ⟨#[93]⟩
  · rw [end_yes (s := s) (by rw [e2]; simp [endL])]
    subst e2
    go_enter Tryz.func104, Tryz.ntmps104
    go_wp2_with fail
    go_ret
    exact ⟨rfl, rfl⟩
  have h2 := ne_bytes e2
  rw [end2_list] at h2
  by_cases e3 : s = ⟨#[125]⟩
  · rw [end_yes (s := s) (by rw [e3]; simp [endL])]
    subst e3
    go_enter Tryz.func104, Tryz.ntmps104
    go_wp2_with fail
    go_ret
    exact ⟨rfl, rfl⟩
  have h3 := ne_bytes e3
  rw [end3_list] at h3
  rw [end_no (s := s) (by simp [endL, e0, e1, e2, e3])]
  clear e0 e1 e2 e3
  go_enter Tryz.func104, Tryz.ntmps104
  go_wp2_with fail
  go_ret
  exact ⟨rfl, rfl⟩
end Go.Proofs.YtgjnlhidbjpdkajGreat
