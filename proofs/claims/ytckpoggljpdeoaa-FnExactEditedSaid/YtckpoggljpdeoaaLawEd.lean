import Derived.Test.YtckpoggljpdeoaaEs
/-! The law FnExactEdited, walked. -/
namespace Go.Proofs.Ytckpoggljpdeoaa
set_option linter.unusedVariables false
set_option maxRecDepth 100000
set_option linter.unusedSimpArgs false
open Go.RowKit Go.Deep
theorem bel_trans' {a b c : World} (h : Below a.heap.size a b) (k : Below b.heap.size b c) : Below a.heap.size a c := h.trans (k.mono h.size)

set_option maxHeartbeats 3200000 in
theorem lawEd (t : ByteArray) (a d : Int) (s : ByteArray) (w : World) (ht : t.size ≤ maxLen) (hs : s.size ≤ maxLen) (ha : -9223372036854775808 ≤ a ∧ a ≤ 9223372036854775807) (hd : -9223372036854775808 ≤ d ∧ d ≤ 9223372036854775807) :
    Calls Try.prog 3 #[.string t, edV a d s] w fun e w' => e = .returned (.bool true) ∧ Below w.heap.size w w' := by
  have HZ := (show Hid _ from fun w' => szEd_any a d s hs w')
  have HT := (show Hid _ from fun w' => toEd_any a d s w')
  have HS := (show Hid _ from fun w' (h1 : t.size ≤ 1048576) (h2 : s.size ≤ 1048576) => sEd t a d s w' h1 h2 ha hd)
  have HI := (show Hid _ from fun w' (h1 : t.size ≤ 1048576) (h2 : s.size ≤ 1048576) => iEd t a d s w' h1 h2 ha hd)
  have HB := (show Hid _ from ((Below.refl w.heap.size w).alloc (Nat.le_refl _) (.cells #[.int .i64 a, .int .i64 d, .string s] 23)))
  have h0 : (w.alloc (.cells #[.int .i64 a, .int .i64 d, .string s] 23)).cell? ⟨w.heap.size, 0, none⟩ = some (.int .i64 a) := by simp [go_sem]
  have h1 : (w.alloc (.cells #[.int .i64 a, .int .i64 d, .string s] 23)).cell? ⟨w.heap.size, 1, none⟩ = some (.int .i64 d) := by simp [go_sem]
  have h2 : (w.alloc (.cells #[.int .i64 a, .int .i64 d, .string s] 23)).cell? ⟨w.heap.size, 2, none⟩ = some (.string s) := by simp [go_sem]
  unfold maxLen at ht hs
  clear ha hd
  generalize edR t a d s = R at *
  obtain ⟨r, c⟩ := R
  have hc : (c != c) = false := by simp
  unfold EdPost at *
  unfold edV at *
  by_cases hbig : 1048576 < t.size
  · go_enter Try.func3, Try.ntmps3
    go_wp2_with fail
    go_ret
    exact ⟨rfl, HB.out⟩
  go_enter Try.func3, Try.ntmps3
  go_wp2_with fail
  refine Calls.mono (HZ.out _) ?_
  rintro e w1 ⟨hz, hb1⟩
  have q0 := (hb1.cell (by simp)).trans h0
  have q1 := (hb1.cell (by simp)).trans h1
  have q2 := (hb1.cell (by simp)).trans h2
  have HB1 := (show Hid _ from bel_box' hb1)
  have hlt1 : w.heap.size < w1.heap.size := by have := hb1.size; simp at this; omega
  clear hb1 h0 h1 h2 HB
  rcases hz with ⟨rfl, _⟩ | ⟨rfl, hsm⟩
  · go_wp2_with fail
    go_ret
    exact ⟨rfl, HB1.out⟩
  go_wp2_with fail
  refine Calls.mono (HT.out _) ?_
  rintro e w2 ⟨rfl, hb2⟩
  have HB2 := (show Hid _ from bel_trans' HB1.out hb2)
  have p0 := (hb2.cell hlt1).trans q0
  have p1 := (hb2.cell hlt1).trans q1
  have p2 := (hb2.cell hlt1).trans q2
  have hlt2 : w.heap.size < w2.heap.size := Nat.lt_of_lt_of_le hlt1 hb2.size
  clear hb2 q0 q1 q2 HB1 hlt1
  go_wp2_with fail
  refine Calls.mono (HS.out _ (by omega) hsm) ?_
  rintro e w3 ⟨rfl, hb3⟩
  have HB3 := (show Hid _ from bel_trans' HB2.out hb3)
  have q0 := (hb3.cell hlt2).trans p0
  have q1 := (hb3.cell hlt2).trans p1
  have q2 := (hb3.cell hlt2).trans p2
  clear hb3 p0 p1 p2 HB2 hlt2
  go_wp2_with fail
  refine Calls.mono (HT.out _) ?_
  rintro e w4 ⟨rfl, hb4⟩
  have HB4 := (show Hid _ from bel_trans' HB3.out hb4)
  clear hb4 HB3 q0 q1 q2
  go_wp2_with fail
  refine Calls.mono (HI.out _ (by omega) hsm) ?_
  rintro e w5 ⟨rfl, hb5⟩
  have HB5 := (show Hid _ from bel_trans' HB4.out hb5)
  clear hb5 HB4
  go_wp2_with fail
  go_ret
  exact ⟨rfl, HB5.out⟩
end Go.Proofs.Ytckpoggljpdeoaa
