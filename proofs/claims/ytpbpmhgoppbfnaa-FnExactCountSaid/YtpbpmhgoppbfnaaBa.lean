import Derived.Test.YtpbpmhgoppbfnaaSv
import Derived.ChangeKeysEq
/-! Three words compared. -/
namespace Go.Proofs.Ytpbpmhgoppbfnaa
open Go.RowKit Go.Deep
set_option linter.unusedVariables false
set_option maxRecDepth 100000
set_option linter.unusedSimpArgs false

theorem eqi (a a' : Int) (w : World) : (Op.equalIn 9999 110 (.int .u64 a) (.int .u64 a')).run Try.prog w = .ok (a == a') w := by kernel_rfl
theorem info110 : ∃ i, Try.prog.info? 110 = some i := Option.isSome_iff_exists.1 (by kernel_rfl)
theorem cellsOf130 : Try.prog.cellsOf 110 = 1 := by kernel_rfl
theorem plain130 : Try.prog.plainKey 110 = true := by kernel_rfl
theorem eq3 (a b c a' b' c' : Int) (w : World) : (Op.equalIn 10000 112 (.agg #[.int .u64 a, .int .u64 b, .int .u64 c]) (.agg #[.int .u64 a', .int .u64 b', .int .u64 c'])).run Try.prog w = .ok (a == a' && (b == b' && c == c')) w := by
  obtain ⟨i, hi⟩ := info110
  rw [run_equalIn_array (d := 9999) (w := w) _ _ Try.underlying112 hi, cellsOf130]
  have hr : List.range 3 = [0, 1, 2] := rfl
  rw [hr]
  simp only [Op.eqItems, Sem.run_bind, Nat.mul_one]
  rw [run_part_plain (w := w) plain130 (v := .int .u64 a) rfl]
  simp only [Result.andThen_ok]
  rw [run_part_plain (w := w) plain130 (v := .int .u64 a') rfl]
  simp only [Result.andThen_ok, eqi]
  cases h1 : a == a'
  · simp
  · simp only [Bool.not_true, Bool.false_eq_true, if_false, Sem.run_bind]
    rw [run_part_plain (w := w) plain130 (v := .int .u64 b) rfl]
    simp only [Result.andThen_ok]
    rw [run_part_plain (w := w) plain130 (v := .int .u64 b') rfl]
    simp only [Result.andThen_ok, eqi]
    cases h2 : b == b'
    · simp
    · simp only [Bool.not_true, Bool.false_eq_true, if_false, Sem.run_bind]
      rw [run_part_plain (w := w) plain130 (v := .int .u64 c) rfl]
      simp only [Result.andThen_ok]
      rw [run_part_plain (w := w) plain130 (v := .int .u64 c') rfl]
      simp only [Result.andThen_ok, eqi]
      cases h3 : c == c' <;> simp
end Go.Proofs.Ytpbpmhgoppbfnaa
