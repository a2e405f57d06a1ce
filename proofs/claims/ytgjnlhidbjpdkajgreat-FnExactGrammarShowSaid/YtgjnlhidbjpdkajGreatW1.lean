import Derived.Test.YtgjnlhidbjpdkajGreatS2
/-! The program's small words: a literal in its quotes, the signs of brackets. -/
namespace Go.Proofs.YtgjnlhidbjpdkajGreat
open Go.RowKit Go.Deep
set_option linter.unusedVariables false
set_option maxRecDepth 100000
set_option linter.unusedSimpArgs false

theorem quoted_any (s : ByteArray) (hs : s.size ≤ 1048576) (w : World) :
    Calls Tryz.prog 86 #[.string s] w fun e w' => e = .returned (.string (⟨#[39]⟩ ++ s ++ ⟨#[39]⟩)) ∧ w' = w := by
  have q1 : (ByteArray.mk #[39]).size = 1 := rfl
  go_enter Tryz.func86, Tryz.ntmps86
  go_wp2_with fail
  go_ret
  exact ⟨rfl, rfl⟩
/-- The sign that opens, and the one that shuts. -/
def opn (k : Int) : ByteArray := if k = 3 then ⟨#[40]⟩ else if k = 4 then ⟨#[91]⟩ else if k = 5 then ⟨#[123]⟩ else ⟨#[]⟩
def sht (k : Int) : ByteArray := if k = 3 then ⟨#[41]⟩ else if k = 4 then ⟨#[93]⟩ else if k = 5 then ⟨#[125]⟩ else ⟨#[]⟩
set_option maxHeartbeats 800000 in
theorem brackets_any (k : Int) (w : World) :
    Calls Tryz.prog 111 #[.int .i64 k] w fun e w' => e = .returned (.tuple #[.string (opn k), .string (sht k)]) ∧ w' = w := by
  unfold opn sht
  go_enter Tryz.func111, Tryz.ntmps111
  by_cases h3 : k = 3
  · subst h3
    go_wp2_with fail
    refine bodyPost_ret (v := .tuple #[.string ⟨#[40]⟩, .string ⟨#[41]⟩]) (by simp [results, Tryz.results111, go_sem]) rfl ?_
    exact ⟨rfl, rfl⟩
  rw [if_neg h3, if_neg h3]
  have g3 : (k == 3) = false := by simp [h3]
  by_cases h4 : k = 4
  · subst h4
    go_wp2_with fail
    refine bodyPost_ret (v := .tuple #[.string ⟨#[91]⟩, .string ⟨#[93]⟩]) (by simp [results, Tryz.results111, go_sem]) rfl ?_
    exact ⟨rfl, rfl⟩
  rw [if_neg h4, if_neg h4]
  have g4 : (k == 4) = false := by simp [h4]
  by_cases h5 : k = 5
  · subst h5
    go_wp2_with fail
    refine bodyPost_ret (v := .tuple #[.string ⟨#[123]⟩, .string ⟨#[125]⟩]) (by simp [results, Tryz.results111, go_sem]) rfl ?_
    exact ⟨rfl, rfl⟩
  rw [if_neg h5, if_neg h5]
  have g5 : (k == 5) = false := by simp [h5]
  clear h3 h4 h5
  go_wp2_with fail
  refine bodyPost_ret (v := .tuple #[.string ⟨#[]⟩, .string ⟨#[]⟩]) (by simp [results, Tryz.results111, go_sem]) rfl ?_
  exact ⟨rfl, rfl⟩
end Go.Proofs.YtgjnlhidbjpdkajGreat
