import Derived.Test.YtgjnlhidbjpdkajGreatDat
/-! Words with a blank between each two: the specification's l03Words. -/
namespace Go.Proofs.YtgjnlhidbjpdkajGreat
open Go.RowKit Go.Deep
set_option linter.unusedVariables false
set_option maxRecDepth 100000
set_option linter.unusedSimpArgs false

/-- Each with a blank ahead. -/
def jr : List ByteArray → ByteArray
  | [] => ByteArray.empty
  | x :: r => ⟨#[32]⟩ ++ (x ++ jr r)
/-- A blank between each two. -/
def jn : List ByteArray → ByteArray
  | [] => ByteArray.empty
  | x :: r => x ++ jr r
/-- What is still to come behind k of them. -/
def jk (l : List ByteArray) (k : Nat) : ByteArray := if k = 0 then jn l else jr (l.drop k)
theorem jk_zero (l : List ByteArray) : jk l 0 = jn l := rfl
theorem jk_end {l : List ByteArray} {k : Nat} (h : l.length ≤ k) : jk l k = ByteArray.empty := by
  unfold jk
  split
  · subst_vars
    have : l = [] := List.length_eq_zero_iff.1 (by omega)
    subst this
    rfl
  · rw [List.drop_eq_nil_of_le h]
    rfl
theorem jk_first {l : List ByteArray} (h : 0 < l.length) : jk l 0 = l[0] ++ jk l 1 := by
  match l, h with
  | x :: r, _ => simp [jk, jn]
theorem jk_next {l : List ByteArray} {k : Nat} (h : k < l.length) (h0 : 0 < k) : jk l k = ⟨#[32]⟩ ++ (l[k] ++ jk l (k + 1)) := by
  unfold jk
  rw [if_neg (by omega), if_neg (by omega), List.drop_eq_getElem_cons h]
  rfl

set_option maxHeartbeats 800000 in
theorem words_any {S : Nat → Prop} (l : List ByteArray) (v : Value) (w : World) (h : Strs w S l v) (hm : (jn l).size ≤ maxLen) :
    Calls Tryz.prog 14 #[v] w fun e w' => e = .returned (.string (jn l)) ∧ w' = w := by
  obtain ⟨a, cap, b, off, rfl, hc, hcm, ha, hcell⟩ := h
  have HC := (show Hid _ from hcell); clear hcell
  unfold maxLen at hm hcm
  go_enter Tryz.func14, Tryz.ntmps14
  go_wp2_with fail
  go_loopw [3, 4] (fun s i wr => ∃ (k : Nat) (t : ByteArray), s = .string t ∧ i = .int .i64 k ∧ k ≤ l.length ∧ wr = w ∧ Hid (t ++ jk l k = jn l)) (fun _ i _ => l.length - (intOf i).toNat)
  case atStart => exact ⟨0, _, rfl, rfl, Nat.zero_le _, rfl, by show _ ++ jk l 0 = jn l; rw [jk_zero]; exact ByteArray.empty_append⟩
  case round =>
    obtain ⟨k, t, rfl, rfl, hk, rfl, HT⟩ := hrel
    by_cases hkl : k < l.length
    · have hkl' := hkl
      obtain ⟨rfl, _⟩ := ha (by omega)
      obtain ⟨f0, _⟩ := HC.out k hkl'
      have hs : t.size + (jk l k).size = (jn l).size := by rw [← HT.out]; simp
      by_cases h0 : 0 < k
      · have HN : Hid (t ++ ⟨#[32]⟩ ++ l[k] ++ jk l (k + 1) = jn l) := by show _ = _; rw [← HT.out, jk_next hkl' h0, ByteArray.append_assoc, ByteArray.append_assoc]
        have hs1 : (jk l k).size = 1 + (l[k].size + (jk l (k + 1)).size) := by rw [jk_next hkl' h0]; simp; rfl
        have h02 : decide ((0 : Int) < k) = true := by simp; omega
        go_wp2_with fail
        exact ⟨⟨k + 1, _, rfl, by go_num, by omega, by trivial, HN⟩, by simp [intOf]; omega⟩
      · obtain rfl : k = 0 := by omega
        rw [Nat.add_zero] at f0
        have HN : Hid (t ++ l[0] ++ jk l (0 + 1) = jn l) := by show _ = _; rw [← HT.out, jk_first hkl', ByteArray.append_assoc]
        have hs1 : (jk l 0).size = l[0].size + (jk l (0 + 1)).size := by rw [jk_first hkl']; simp
        go_wp2_with fail
        exact ⟨⟨0 + 1, _, rfl, by go_num, by omega, by trivial, HN⟩, by simp [intOf]; omega⟩
    · have ht : t = jn l := by rw [← HT.out, jk_end (by omega)]; exact ByteArray.append_empty.symm
      go_wp2_with fail
      go_ret
      exact ⟨by subst ht; rfl, rfl⟩
end Go.Proofs.YtgjnlhidbjpdkajGreat
