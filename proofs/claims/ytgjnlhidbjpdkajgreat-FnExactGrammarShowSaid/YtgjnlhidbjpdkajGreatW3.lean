import Derived.Test.YtgjnlhidbjpdkajGreatW2
/-! The program's bracketBegin: the kind of the brackets that a word opens. -/
namespace Go.Proofs.YtgjnlhidbjpdkajGreat
open Go.RowKit Go.Deep
set_option linter.unusedVariables false
set_option maxRecDepth 100000
set_option linter.unusedSimpArgs false

/-- The kind of the brackets that it opens; 0: none. -/
def begK (s : ByteArray) : Int := if s.data = #[40] then 3 else if s.data = #[91] then 4 else if s.data = #[123] then 5 else 0
theorem beg_hit {s : ByteArray} {k : Nat} (h3 : 3 ≤ k) (h5 : k ≤ 5) (he : opn k = s) : begK s = k := by
  have h : k = 3 ∨ k = 4 ∨ k = 5 := by omega
  rcases h with rfl | rfl | rfl <;> subst he <;> simp [begK, opn]
theorem beg_none {s : ByteArray} (h : ∀ q : Nat, 3 ≤ q → q < 6 → ¬ opn q = s) : begK s = 0 := by
  have h3 : ¬ s = ⟨#[40]⟩ := fun e => h 3 (by omega) (by omega) (by rw [e]; rfl)
  have h4 : ¬ s = ⟨#[91]⟩ := fun e => h 4 (by omega) (by omega) (by rw [e]; rfl)
  have h5 : ¬ s = ⟨#[123]⟩ := fun e => h 5 (by omega) (by omega) (by rw [e]; rfl)
  have d3 : ¬ s.data = #[40] := fun e => h3 (data_eq e)
  have d4 : ¬ s.data = #[91] := fun e => h4 (data_eq e)
  have d5 : ¬ s.data = #[123] := fun e => h5 (data_eq e)
  simp [begK, d3, d4, d5]
theorem eq_bytes {a b : ByteArray} (h : a = b) : (a.toList == b.toList) = true := by rw [h]; simp
set_option maxHeartbeats 1600000 in
theorem begin_any (s : ByteArray) (w : World) : Calls Tryz.prog 105 #[.string s] w fun e w' => e = .returned (.int .i64 (begK s)) ∧ w' = w := by
  go_enter Tryz.func105, Tryz.ntmps105
  go_wp2_with fail
  go_loopw [3] (fun i wr => ∃ k : Nat, i = .int .i64 k ∧ 3 ≤ k ∧ k ≤ 6 ∧ wr = w ∧ Hid (∀ q : Nat, 3 ≤ q → q < k → ¬ opn q = s)) (fun i _ => 6 - (intOf i).toNat)
  case atStart => exact ⟨3, rfl, Nat.le_refl _, by omega, rfl, fun q h1 h2 => absurd h2 (by omega)⟩
  case round =>
    obtain ⟨k, rfl, h3, h6, rfl, HK⟩ := hrel
    by_cases h5 : k ≤ 5
    · have HB := (show Hid _ from brackets_any k wr)
      have hd : decide ((k : Int) ≤ 5) = true := by simp; omega
      by_cases he : opn k = s
      · have hR := beg_hit h3 h5 he
        have hE := eq_bytes he
        have HR := (show Hid _ from hR); clear hR he
        generalize opn (k : Int) = O at *
        generalize sht (k : Int) = H at *
        go_wp2_with fail
        refine Calls.mono HB.out ?_
        rintro e w1 ⟨rfl, rfl⟩
        go_wp2_with fail
        go_ret
        exact ⟨by rw [HR.out]; rfl, rfl⟩
      · have hE := ne_bytes he
        have HN : Hid (∀ q : Nat, 3 ≤ q → q < k + 1 → ¬ opn q = s) := fun q h1 h2 => by
          by_cases e : q = k
          · subst e; exact he
          · exact HK.out q h1 (by omega)
        clear he
        generalize opn (k : Int) = O at HB hE
        generalize sht (k : Int) = H at HB
        go_wp2_with fail
        refine Calls.mono HB.out ?_
        rintro e w1 ⟨rfl, rfl⟩
        go_wp2_with fail
        exact ⟨⟨k + 1, by go_num, by omega, by omega, by trivial, HN⟩, by simp [intOf]; omega⟩
    · have hk : k = 6 := by omega
      have HR := (show Hid _ from beg_none (s := s) (fun q h1 h2 => HK.out q h1 (by omega)))
      have hd : decide ((k : Int) ≤ 5) = false := by simp; omega
      go_wp2_with fail
      go_ret
      exact ⟨by rw [HR.out]; rfl, rfl⟩
end Go.Proofs.YtgjnlhidbjpdkajGreat
