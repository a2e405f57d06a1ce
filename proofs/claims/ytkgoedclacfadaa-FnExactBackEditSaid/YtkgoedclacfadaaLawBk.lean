import Derived.Test.YtkgoedclacfadaaBk
/-! The law FnExactBackEdit, walked. -/
namespace Go.Proofs.Ytkgoedclacfadaa
set_option linter.unusedVariables false
set_option maxRecDepth 100000
set_option linter.unusedSimpArgs false
open Go.RowKit Go.Deep

set_option maxHeartbeats 3200000 in
theorem lawBk (t : ByteArray) (a d : Int) (s : ByteArray) (w : World) (ht : t.size ≤ maxLen) (hs : s.size ≤ maxLen) (ha : -9223372036854775808 ≤ a ∧ a ≤ 9223372036854775807) (hd : -9223372036854775808 ≤ d ∧ d ≤ 9223372036854775807) :
    Calls Try.prog 4 #[.string t, edV a d s] w fun e w' => e = .returned (.bool true) ∧ Below w.heap.size w w' := by
  have HZ := (show Hid _ from fun w' => sz5 a d s 1048576 hs (by omega) (by omega) w')
  have HT := (show Hid _ from fun w' => toEd_any a d s w')
  have HS := (show Hid _ from fun w' (h1 : t.size ≤ 1048576) (h2 : s.size ≤ 1048576) => sBack10 t a d s h1 h2 ha hd w')
  have HI := (show Hid _ from fun w' (h1 : t.size ≤ 1048576) (h2 : s.size ≤ 1048576) => iBack11 t a d s h1 h2 ha hd w')
  have HB := (show Hid _ from bel_alloc w (.cells #[.int .i64 a, .int .i64 d, .string s] 23))
  have HX := (show Hid _ from Box.new w 23 (edC a d s))
  unfold maxLen at ht hs
  clear ha hd
  generalize bkR t a d s = R at *
  obtain ⟨ra, rd, rs, rc⟩ := R
  have HQ := (show Hid _ from fun w' => eq9 ra rd rs w')
  have hc : (rc != rc) = false := by simp
  unfold TwoP at *
  unfold edV at *
  simp only at HS HI
  by_cases hbig : 1048576 < t.size
  · go_enter Try.func4, Try.ntmps4
    go_wp2_with fail
    go_ret
    exact ⟨rfl, HB.out⟩
  go_enter Try.func4, Try.ntmps4
  go_wp2_with fail
  refine Calls.mono (HZ.out _) ?_
  rintro e w1 ⟨hz, hb1⟩
  have H1 := (show Hid (Below w.heap.size w w1 ∧ Box w1 w.heap.size 23 (edC a d s)) from ⟨bel_trans HB.out hb1, HX.out.still hb1⟩)
  clear hb1 HB HX HZ
  rcases hz with rfl | ⟨rfl, hsm⟩
  · go_wp2_with fail
    go_ret
    exact ⟨rfl, H1.out.1⟩
  have hsm' : s.size ≤ 1048576 := by omega
  have hlf : ¬ (1048576 - (s.size : Int)) < 0 := by omega
  have c0 : w1.cell? ⟨w.heap.size, 0, none⟩ = some (.int .i64 a) := H1.out.2.cell 0 (by simp)
  have c1 : w1.cell? ⟨w.heap.size, 1, none⟩ = some (.int .i64 d) := H1.out.2.cell 1 (by simp)
  have c2 : w1.cell? ⟨w.heap.size, 2, none⟩ = some (.string s) := H1.out.2.cell 2 (by simp)
  go_wp2_with fail
  refine Calls.mono (HT.out _) ?_
  rintro e w2 ⟨rfl, hb2⟩
  have H2 := (show Hid (Below w.heap.size w w2 ∧ Box w2 w.heap.size 23 (edC a d s)) from ⟨bel_trans H1.out.1 hb2, H1.out.2.still hb2⟩)
  clear hb2 H1 c0 c1 c2
  go_wp2_with fail
  refine Calls.mono (HS.out _ (by omega) hsm') ?_
  rintro e w3 ⟨rfl, hb3⟩
  have H3 := (show Hid (Below w.heap.size w (w3.alloc (.cells #[.int .i64 ra, .int .i64 rd, .string rs] 25)) ∧ Box (w3.alloc (.cells #[.int .i64 ra, .int .i64 rd, .string rs] 25)) w.heap.size 23 (edC a d s) ∧ Box (w3.alloc (.cells #[.int .i64 ra, .int .i64 rd, .string rs] 25)) w3.heap.size 25 (edC ra rd rs)) from ⟨bel_trans (bel_trans H2.out.1 hb3) (bel_alloc _ _), (H2.out.2.still hb3).still (bel_alloc _ _), Box.new w3 25 (edC ra rd rs)⟩)
  have hlt : w.heap.size < w3.heap.size := Nat.lt_of_lt_of_le H2.out.2.lt hb3.size
  clear hb3 H2
  have c0 : (w3.alloc (.cells #[.int .i64 ra, .int .i64 rd, .string rs] 25)).cell? ⟨w.heap.size, 0, none⟩ = some (.int .i64 a) := H3.out.2.1.cell 0 (by simp)
  have c1 : (w3.alloc (.cells #[.int .i64 ra, .int .i64 rd, .string rs] 25)).cell? ⟨w.heap.size, 1, none⟩ = some (.int .i64 d) := H3.out.2.1.cell 1 (by simp)
  have c2 : (w3.alloc (.cells #[.int .i64 ra, .int .i64 rd, .string rs] 25)).cell? ⟨w.heap.size, 2, none⟩ = some (.string s) := H3.out.2.1.cell 2 (by simp)
  go_wp2_with fail
  refine Calls.mono (HT.out _) ?_
  rintro e w4 ⟨rfl, hb4⟩
  have H4 := (show Hid (Below w.heap.size w w4 ∧ Box w4 w3.heap.size 25 (edC ra rd rs)) from ⟨bel_trans H3.out.1 hb4, H3.out.2.2.still hb4⟩)
  clear hb4 H3 c0 c1 c2 hlt
  generalize w3.heap.size = p3 at *
  go_wp2_with fail
  refine Calls.mono (HI.out _ (by omega) hsm') ?_
  rintro e w5 ⟨rfl, hb5⟩
  have H5 := (show Hid (Below w.heap.size w (w5.alloc (.cells #[.int .i64 ra, .int .i64 rd, .string rs] 25)) ∧ Box (w5.alloc (.cells #[.int .i64 ra, .int .i64 rd, .string rs] 25)) p3 25 (edC ra rd rs) ∧ Box (w5.alloc (.cells #[.int .i64 ra, .int .i64 rd, .string rs] 25)) w5.heap.size 25 (edC ra rd rs)) from ⟨bel_trans (bel_trans H4.out.1 hb5) (bel_alloc _ _), (H4.out.2.still hb5).still (bel_alloc _ _), Box.new w5 25 (edC ra rd rs)⟩)
  clear hb5 H4
  have c0 : (w5.alloc (.cells #[.int .i64 ra, .int .i64 rd, .string rs] 25)).cell? ⟨p3, 0, none⟩ = some (.int .i64 ra) := H5.out.2.1.cell 0 (by simp)
  have c1 : (w5.alloc (.cells #[.int .i64 ra, .int .i64 rd, .string rs] 25)).cell? ⟨p3, 1, none⟩ = some (.int .i64 rd) := H5.out.2.1.cell 1 (by simp)
  have c2 : (w5.alloc (.cells #[.int .i64 ra, .int .i64 rd, .string rs] 25)).cell? ⟨p3, 2, none⟩ = some (.string rs) := H5.out.2.1.cell 2 (by simp)
  go_wp2_with fail
  refine Calls.mono (HQ.out _) ?_
  rintro e w6 ⟨rfl, hb6⟩
  have HB6 := (show Hid _ from bel_trans H5.out.1 hb6)
  clear hb6 H5
  go_wp2_with fail
  go_ret
  exact ⟨rfl, HB6.out⟩
end Go.Proofs.Ytkgoedclacfadaa
