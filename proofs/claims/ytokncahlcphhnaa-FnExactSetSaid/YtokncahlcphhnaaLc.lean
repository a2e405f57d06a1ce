import Derived.Test.YtokncahlcphhnaaLb
/-! Layouts that are right: the program's small functions. -/
namespace Go.Proofs.Ytokncahlcphhnaa
open Go.RowKit Go.Deep
set_option linter.unusedVariables false
set_option maxRecDepth 100000
set_option linter.unusedSimpArgs false

set_option maxHeartbeats 1600000 in
theorem index73 (s : ByteArray) (w : World) :
    Calls Try.prog 73 #[.string s, .string { data := #[10] }] w fun e w' => e = .returned (.int .i64 (Lib.indexByte s.data.toList 10)) ∧ w' = w := by
  have H82 := (show Hid _ from byte82 s 10 w)
  generalize hR : Lib.indexByte s.data.toList 10 = R
  have e10 : (10 : Int).toNat.toUInt8 = 10 := rfl
  rw [e10, hR] at H82
  clear e10
  by_cases hs : s = { data := #[10] }
  · subst hs
    obtain rfl : (0 : Int) = R := hR
    clear H82
    go_enter Try.func73, Try.ntmps73
    go_wp2_with fail
    go_ret
    exact ⟨rfl, rfl⟩
  clear hR
  have hs1 : (([10] : List UInt8) == s.toList) = false := by
    rw [beq_eq_false_iff_ne]
    intro e
    rw [ByteArray.toList_eq] at e
    apply hs
    obtain ⟨⟨l⟩⟩ := s
    have e2 : [10] = l := e
    rw [← e2]
  clear hs
  go_enter Try.func73, Try.ntmps73
  go_wp2_with fail
  refine Calls.mono H82.out ?_
  rintro e w1 ⟨rfl, rfl⟩
  go_wp2_with fail
  go_ret
  exact ⟨rfl, rfl⟩
theorem index48 (s : ByteArray) (w : World) :
    Calls Try.prog 48 #[.string s, .string { data := #[10] }] w fun e w' => e = .returned (.int .i64 (Lib.indexByte s.data.toList 10)) ∧ w' = w := by
  have H := (show Hid _ from index73 s w)
  generalize Lib.indexByte s.data.toList 10 = R at *
  go_enter Try.func48, Try.ntmps48
  go_wp2_with fail
  refine Calls.mono H.out ?_
  rintro e w1 ⟨rfl, rfl⟩
  go_wp2_with fail
  go_ret
  exact ⟨rfl, rfl⟩
theorem cont35 (s : ByteArray) (w : World) :
    Calls Try.prog 35 #[.string s, .string { data := #[10] }] w fun e w' => e = .returned (.bool (in10 s)) ∧ w' = w := by
  have H := (show Hid _ from index48 s w)
  have HI := (show Hid (decide (0 ≤ Lib.indexByte s.data.toList 10) = in10 s) from index_in s.data.toList 10)
  generalize in10 s = B at *
  generalize Lib.indexByte s.data.toList 10 = R at *
  by_cases hR : 0 ≤ R
  · have HB := (show Hid (B = true) from by show B = true; rw [← HI.out, decide_eq_true hR])
    go_enter Try.func35, Try.ntmps35
    go_wp2_with fail
    refine Calls.mono H.out ?_
    rintro e w1 ⟨rfl, rfl⟩
    go_wp2_with fail
    go_ret
    exact ⟨ret_bool HB.out.symm, rfl⟩
  · have HB := (show Hid (B = false) from by show B = false; rw [← HI.out, decide_eq_false hR])
    go_enter Try.func35, Try.ntmps35
    go_wp2_with fail
    refine Calls.mono H.out ?_
    rintro e w1 ⟨rfl, rfl⟩
    go_wp2_with fail
    go_ret
    exact ⟨ret_bool (by rw [HB.out]; simp [hR]), rfl⟩
/-- A row of truth values. -/
def BRow (w : World) (b : Nat) (l : List Bool) : Prop := w.rowIs b 4 l.length (fun i => .bool (l.getD i false))
set_option maxHeartbeats 800000 in
theorem index36 (b n cap : Nat) (l : List Bool) (hn : n ≤ l.length) (hl : l.length ≤ 1000) (w : World) (h : BRow w b l) :
    Calls Try.prog 36 #[.slice (some ⟨b, 0, none⟩) n cap, .bool false] w fun e w' => ∃ r : Int, e = .returned (.int .i64 r) ∧ (0 ≤ r ↔ ∃ i, i < n ∧ l.getD i false = false) ∧ w' = w := by
  have HC := (show Hid (∀ i, i < n → w.cell? ⟨b, i, none⟩ = some (.bool (l.getD i false))) from fun i hi => by
    have := World.rowIs.cell h (i := i) (by omega)
    simpa using this)
  go_enter Try.func36, Try.ntmps36
  go_wp2_with fail
  go_loopw [8] (fun i wr => ∃ j : Nat, i = .int .i64 j ∧ j ≤ n ∧ Hid (∀ i, i < j → l.getD i false = true) ∧ wr = w) (fun i _ => n - (intOf i).toNat)
  case atStart => exact ⟨0, rfl, Nat.zero_le _, fun i hi => absurd hi (Nat.not_lt_zero _), rfl⟩
  case round =>
    obtain ⟨j, rfl, hj, HJ, rfl⟩ := hrel
    by_cases hjl : j < n
    · have c0 := HC.out j hjl
      have HX := (show Hid (l.getD j false = true → ∀ i, i < j + 1 → l.getD i false = true) from fun h i hi => by
        by_cases e : i = j
        · subst e; exact h
        · exact HJ.out i (by omega))
      have HY := (show Hid (l.getD j false = false → ∃ i, i < n ∧ l.getD i false = false) from fun h => ⟨j, hjl, h⟩)
      generalize l.getD j false = B at *
      cases B
      · have HZ := (show Hid _ from HY.out rfl)
        go_wp2_with fail
        go_ret
        exact ⟨_, rfl, ⟨fun _ => HZ.out, fun _ => by omega⟩, rfl⟩
      · have HZ := (show Hid _ from HX.out rfl)
        go_wp2_with fail
        exact ⟨⟨j + 1, by go_num, by omega, HZ, trivial⟩, by simp [intOf]; omega⟩
    · obtain rfl : j = n := by omega
      go_wp2_with fail
      go_ret
      refine ⟨_, rfl, ⟨fun h => absurd h (by omega), fun ⟨i, hi, h⟩ => ?_⟩, rfl⟩
      rw [HJ.out i hi] at h
      cases h
def allT (l : List Bool) (n : Nat) : Bool := (List.range n).all fun i => l.getD i false
theorem cont25 (b n cap : Nat) (l : List Bool) (hn : n ≤ l.length) (hl : l.length ≤ 1000) (w : World) (h : BRow w b l) :
    Calls Try.prog 25 #[.slice (some ⟨b, 0, none⟩) n cap, .bool false] w fun e w' => e = .returned (.bool (!allT l n)) ∧ w' = w := by
  have H := (show Hid _ from index36 b n cap l hn hl w h)
  have HA := (show Hid (allT l n = false ↔ ∃ i, i < n ∧ l.getD i false = false) from by
    unfold allT
    rw [List.all_eq_false]
    constructor
    · rintro ⟨i, hi, h⟩
      exact ⟨i, List.mem_range.1 hi, by simpa using h⟩
    · rintro ⟨i, hi, h⟩
      exact ⟨i, List.mem_range.2 hi, by rw [h]; simp⟩)
  generalize allT l n = A at *
  go_enter Try.func25, Try.ntmps25
  go_wp2_with fail
  refine Calls.mono H.out ?_
  rintro e w1 ⟨r, rfl, hr, rfl⟩
  by_cases h0 : 0 ≤ r
  · have HE := (show Hid (A = false) from HA.out.2 (hr.1 h0))
    clear hr
    go_wp2_with fail
    go_ret
    exact ⟨ret_bool (by rw [HE.out]; simp [h0]), rfl⟩
  · have HE := (show Hid (A = true) from by
      cases A
      · exact absurd (hr.2 (HA.out.1 rfl)) h0
      · rfl)
    clear hr
    go_wp2_with fail
    go_ret
    exact ⟨ret_bool (by rw [HE.out]; simp [h0]), rfl⟩
end Go.Proofs.Ytokncahlcphhnaa
