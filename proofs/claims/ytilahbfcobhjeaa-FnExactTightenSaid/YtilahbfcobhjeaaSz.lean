import Derived.Test.YtilahbfcobhjeaaDat
namespace Go.Proofs.Ytilahbfcobhjeaa
open Go.RowKit Go.Deep
set_option linter.unusedVariables false
set_option maxRecDepth 100000
set_option linter.unusedSimpArgs false

theorem szInts_any {S : Nat → Prop} (l : List Int) (v : Value) (w : World) (n : Nat) (h : Ints w S l v) (hn : n ≤ 1048576) :
    Calls Try.prog 111 #[v, .int .i64 n] w fun e w' => Left n (Ints.Sm l) e ∧ Below w.heap.size w w' := by
  obtain ⟨a, cap, rfl, hm⟩ := h.form
  unfold maxLen at hm
  clear h
  unfold Ints.Sm
  generalize l.length = len at *
  by_cases hlt : (n : Int) - len < 0
  · go_enter Try.func111, Try.ntmps111
    go_wp2_with fail
    go_ret
    exact ⟨.inl rfl, Below.refl _ _⟩
  · go_enter Try.func111, Try.ntmps111
    go_wp2_with fail
    go_ret
    exact ⟨.inr ⟨n - len, by rw [show ((n - len : Nat) : Int) = (n : Int) - len by omega]; rfl, by omega, by omega⟩, Below.refl _ _⟩
set_option maxHeartbeats 1600000 in
theorem szStrs_any {S : Nat → Prop} (l : List ByteArray) (v : Value) (w : World) (n : Nat) (h : Strs w S l v) (hn : n ≤ 1048576) :
    Calls Try.prog 47 #[v, .int .i64 n] w fun e w' => Left n (Strs.Sm l) e ∧ Below w.heap.size w w' := by
  obtain ⟨a, cap, b, off, rfl, hc, hm, ha, hcell⟩ := h
  have HC := (show Hid _ from hcell); clear hcell
  have HA := (show Hid _ from ha); clear ha
  unfold maxLen at hm
  by_cases hlt : (n : Int) - l.length < 0
  · go_enter Try.func47, Try.ntmps47
    go_wp2_with fail
    go_ret
    exact ⟨.inl rfl, Below.refl _ _⟩
  · go_enter Try.func47, Try.ntmps47
    go_wp2_with fail
    go_loopw [1, 5] (fun u i wr => ∃ (j m : Nat), j ≤ l.length ∧ i = .int .i64 j ∧ u = .int .i64 m ∧ m ≤ n ∧ Below w.heap.size w wr ∧ Hid (∀ i (hi : i < l.length), i < j → l[i].size ≤ 1048576)) (fun _ i _ => l.length - (intOf i).toNat)
    case atStart => exact ⟨0, n - l.length, Nat.zero_le _, rfl, by go_num, by omega, Below.refl _ _, fun i hi h0 => absurd h0 (Nat.not_lt_zero _)⟩
    case round =>
      obtain ⟨j, m, hj, rfl, rfl, hmn, hbel, HX⟩ := hrel
      by_cases hjl : j < l.length
      · obtain ⟨rfl, _⟩ := HA.out (by omega)
        obtain ⟨c0, zc0⟩ := HC.out j (by omega)
        rw [← hbel.cell (lt_of_cell c0)] at c0
        unfold maxLen at zc0
        by_cases hlt2 : (m : Int) - l[j].size < 0
        · go_wp2_with fail
          go_ret
          exact ⟨.inl rfl, hbel⟩
        · have HN := (show Hid (∀ i (hi : i < l.length), i < j + 1 → l[i].size ≤ 1048576) from fun i hi hij => by
            by_cases e : i = j
            · subst e; omega
            · exact HX.out i hi (by omega))
          go_wp2_with fail
          exact ⟨⟨j + 1, m - l[j].size, by omega, by go_num, by go_num, by omega, hbel, HN⟩, by simp [intOf]; omega⟩
      · have hle : l.length ≤ 1048576 := by omega
        obtain rfl : j = l.length := by omega
        go_wp2_with fail
        go_ret
        exact ⟨.inr ⟨m, rfl, hmn, hle, fun i hi => HX.out i hi hi⟩, hbel⟩
theorem szInsR_any {S : Nat → Prop} (l : List DIns) (v : Value) (w : World) (n : Nat) (h : InsR w S l v) (hn : n ≤ 1048576) :
    Calls Try.prog 8 #[v, .int .i64 n] w fun e w' => Left n (InsR.Sm l) e ∧ Below w.heap.size w w' := by
  obtain ⟨a, cap, rfl, hm⟩ := h.form
  unfold maxLen at hm
  clear h
  have hS : l.length ≤ 1048576 → InsR.Sm l := fun h => ⟨h, fun i hi => ⟨⟩⟩
  generalize InsR.Sm l = P at *
  generalize l.length = len at *
  by_cases hlt : (n : Int) - len < 0
  · go_enter Try.func8, Try.ntmps8
    go_wp2_with fail
    go_ret
    exact ⟨.inl rfl, Below.refl _ _⟩
  · go_enter Try.func8, Try.ntmps8
    go_wp2_with fail
    go_ret
    exact ⟨.inr ⟨n - len, by rw [show ((n - len : Nat) : Int) = (n : Int) - len by omega]; rfl, by omega, hS (by omega)⟩, Below.refl _ _⟩
end Go.Proofs.Ytilahbfcobhjeaa
