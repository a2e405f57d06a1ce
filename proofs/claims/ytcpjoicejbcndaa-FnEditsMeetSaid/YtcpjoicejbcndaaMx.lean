import Derived.Test.YtcpjoicejbcndaaMw
/-! MoveEdit, of both sides. -/
namespace Go.Proofs.Ytcpjoicejbcndaa
set_option linter.unusedVariables false
set_option maxRecDepth 100000
set_option linter.unusedSimpArgs false
open Go.RowKit Go.Deep

set_option maxHeartbeats 3200000 in
theorem move13 (a d : Int) (s : ByteArray) (B D : Int) (t : ByteArray) (hs : s.size ≤ 1048576) (ht : t.size ≤ 1048576) (hB : 0 ≤ B) (hB2 : B ≤ 4000) (hD : 0 ≤ D) (hD2 : D ≤ 4000)
    (ha : 0 ≤ a) (ha2 : a ≤ 4000) (hd : 0 ≤ d) (hd2 : d ≤ 4000) (w : World) :
    Calls Try.prog 13 #[edV a d s, edV B D t] w fun e w' => e = .returned (edV (mvA a B D t.size) (mvD a d B D t.size) s) ∧ Below w.heap.size w w' := by
  have HB := (show Hid _ from (b3_new w a d s B D t).1)
  have k1 : IntKind.i64.wrap (B + D) = B + D := by rw [IntKind.wrap_i64]; omega
  have k2 : IntKind.i64.wrap ((t.size : Int) - D) = (t.size : Int) - D := by rw [IntKind.wrap_i64]; omega
  have k3 : IntKind.i64.wrap (a + d) = a + d := by rw [IntKind.wrap_i64]; omega
  have k4 : IntKind.i64.wrap (a + ((t.size : Int) - D)) = a + ((t.size : Int) - D) := by rw [IntKind.wrap_i64]; omega
  have k5 : IntKind.i64.wrap (B + (t.size : Int)) = B + (t.size : Int) := by rw [IntKind.wrap_i64]; omega
  have k6 : IntKind.i64.wrap (a + d + ((t.size : Int) - D)) = a + d + ((t.size : Int) - D) := by rw [IntKind.wrap_i64]; omega
  unfold mvD mvA
  unfold edV
  by_cases f1 : B + D < a
  · have g1 : ¬ a + d ≤ B := by omega
    have g2 : ¬ a + d < B + D := by omega
    have g3 : ¬ (a + d + ((t.size : Int) - D)) < (a + ((t.size : Int) - D)) := by omega
    have HX := (show Hid (mvB B D (t.size : Int) a = (a + ((t.size : Int) - D))) from (by show _ = _; unfold mvB; split <;> (try split) <;> omega))
    have HY := (show Hid (mvE B D (t.size : Int) (a + d) = (a + d + ((t.size : Int) - D))) from (by show _ = _; unfold mvE; split <;> (try split) <;> omega))
    generalize mvB B D (t.size : Int) a = x at *
    generalize mvE B D (t.size : Int) (a + d) = y at *
    have k7 : IntKind.i64.wrap ((a + d + ((t.size : Int) - D)) - (a + ((t.size : Int) - D))) = (a + d + ((t.size : Int) - D)) - (a + ((t.size : Int) - D)) := by rw [IntKind.wrap_i64]; omega
    have HM := (show Hid (max x y - x = (a + d + ((t.size : Int) - D)) - (a + ((t.size : Int) - D))) from (by show _ = _; rw [HX.out, HY.out]; omega))
    clear hs ht hB hB2 hD hD2 ha ha2 hd hd2
    go_enter Try.func13, Try.ntmps13
    go_wp2_with fail
    refine bodyPost_ret (v := .agg #[.int .i64 x, .int .i64 (max x y - x), .string s]) (by rw [HM.out, HX.out]; simp [results, Try.results13, go_sem]) rfl ?_
    exact ⟨rfl, by first | exact HB.out | exact ((HB.out.setCell (by simp; omega) _).setCell (by simp; omega) _).setCell (by simp; omega) _ | exact (((bel_alloc w _).alloc (by simp) _).alloc (by simp; omega) _)⟩
  by_cases f2 : B ≤ a
  · by_cases g1 : a + d ≤ B
    · by_cases g3 : (a + d) < (B + (t.size : Int))
      have HX := (show Hid (mvB B D (t.size : Int) a = (B + (t.size : Int))) from (by show _ = _; unfold mvB; split <;> (try split) <;> omega))
      have HY := (show Hid (mvE B D (t.size : Int) (a + d) = (a + d)) from (by show _ = _; unfold mvE; split <;> (try split) <;> omega))
      generalize mvB B D (t.size : Int) a = x at *
      generalize mvE B D (t.size : Int) (a + d) = y at *
      have k7 : IntKind.i64.wrap ((B + (t.size : Int)) - (B + (t.size : Int))) = (B + (t.size : Int)) - (B + (t.size : Int)) := by rw [IntKind.wrap_i64]; omega
      have HM := (show Hid (max x y - x = (B + (t.size : Int)) - (B + (t.size : Int))) from (by show _ = _; rw [HX.out, HY.out]; omega))
      clear hs ht hB hB2 hD hD2 ha ha2 hd hd2
      go_enter Try.func13, Try.ntmps13
      go_wp2_with fail
      refine bodyPost_ret (v := .agg #[.int .i64 x, .int .i64 (max x y - x), .string s]) (by rw [HM.out, HX.out]; simp [results, Try.results13, go_sem]) rfl ?_
      exact ⟨rfl, by first | exact HB.out | exact ((HB.out.setCell (by simp; omega) _).setCell (by simp; omega) _).setCell (by simp; omega) _ | exact (((bel_alloc w _).alloc (by simp) _).alloc (by simp; omega) _)⟩
      · skip
        have HX := (show Hid (mvB B D (t.size : Int) a = (B + (t.size : Int))) from (by show _ = _; unfold mvB; split <;> (try split) <;> omega))
        have HY := (show Hid (mvE B D (t.size : Int) (a + d) = (a + d)) from (by show _ = _; unfold mvE; split <;> (try split) <;> omega))
        generalize mvB B D (t.size : Int) a = x at *
        generalize mvE B D (t.size : Int) (a + d) = y at *
        have k7 : IntKind.i64.wrap ((a + d) - (B + (t.size : Int))) = (a + d) - (B + (t.size : Int)) := by rw [IntKind.wrap_i64]; omega
        have HM := (show Hid (max x y - x = (a + d) - (B + (t.size : Int))) from (by show _ = _; rw [HX.out, HY.out]; omega))
        clear hs ht hB hB2 hD hD2 ha ha2 hd hd2
        go_enter Try.func13, Try.ntmps13
        go_wp2_with fail
        refine bodyPost_ret (v := .agg #[.int .i64 x, .int .i64 (max x y - x), .string s]) (by rw [HM.out, HX.out]; simp [results, Try.results13, go_sem]) rfl ?_
        exact ⟨rfl, by first | exact HB.out | exact ((HB.out.setCell (by simp; omega) _).setCell (by simp; omega) _).setCell (by simp; omega) _ | exact (((bel_alloc w _).alloc (by simp) _).alloc (by simp; omega) _)⟩
    by_cases g2 : a + d < B + D
    · by_cases g3 : B < (B + (t.size : Int))
      have HX := (show Hid (mvB B D (t.size : Int) a = (B + (t.size : Int))) from (by show _ = _; unfold mvB; split <;> (try split) <;> omega))
      have HY := (show Hid (mvE B D (t.size : Int) (a + d) = B) from (by show _ = _; unfold mvE; split <;> (try split) <;> omega))
      generalize mvB B D (t.size : Int) a = x at *
      generalize mvE B D (t.size : Int) (a + d) = y at *
      have k7 : IntKind.i64.wrap ((B + (t.size : Int)) - (B + (t.size : Int))) = (B + (t.size : Int)) - (B + (t.size : Int)) := by rw [IntKind.wrap_i64]; omega
      have HM := (show Hid (max x y - x = (B + (t.size : Int)) - (B + (t.size : Int))) from (by show _ = _; rw [HX.out, HY.out]; omega))
      clear hs ht hB hB2 hD hD2 ha ha2 hd hd2
      go_enter Try.func13, Try.ntmps13
      go_wp2_with fail
      refine bodyPost_ret (v := .agg #[.int .i64 x, .int .i64 (max x y - x), .string s]) (by rw [HM.out, HX.out]; simp [results, Try.results13, go_sem]) rfl ?_
      exact ⟨rfl, by first | exact HB.out | exact ((HB.out.setCell (by simp; omega) _).setCell (by simp; omega) _).setCell (by simp; omega) _ | exact (((bel_alloc w _).alloc (by simp) _).alloc (by simp; omega) _)⟩
      · skip
        have HX := (show Hid (mvB B D (t.size : Int) a = (B + (t.size : Int))) from (by show _ = _; unfold mvB; split <;> (try split) <;> omega))
        have HY := (show Hid (mvE B D (t.size : Int) (a + d) = B) from (by show _ = _; unfold mvE; split <;> (try split) <;> omega))
        generalize mvB B D (t.size : Int) a = x at *
        generalize mvE B D (t.size : Int) (a + d) = y at *
        have k7 : IntKind.i64.wrap (B - (B + (t.size : Int))) = B - (B + (t.size : Int)) := by rw [IntKind.wrap_i64]; omega
        have HM := (show Hid (max x y - x = B - (B + (t.size : Int))) from (by show _ = _; rw [HX.out, HY.out]; omega))
        clear hs ht hB hB2 hD hD2 ha ha2 hd hd2
        go_enter Try.func13, Try.ntmps13
        go_wp2_with fail
        refine bodyPost_ret (v := .agg #[.int .i64 x, .int .i64 (max x y - x), .string s]) (by rw [HM.out, HX.out]; simp [results, Try.results13, go_sem]) rfl ?_
        exact ⟨rfl, by first | exact HB.out | exact ((HB.out.setCell (by simp; omega) _).setCell (by simp; omega) _).setCell (by simp; omega) _ | exact (((bel_alloc w _).alloc (by simp) _).alloc (by simp; omega) _)⟩
    have g3 : ¬ (a + d + ((t.size : Int) - D)) < (B + (t.size : Int)) := by omega
    have HX := (show Hid (mvB B D (t.size : Int) a = (B + (t.size : Int))) from (by show _ = _; unfold mvB; split <;> (try split) <;> omega))
    have HY := (show Hid (mvE B D (t.size : Int) (a + d) = (a + d + ((t.size : Int) - D))) from (by show _ = _; unfold mvE; split <;> (try split) <;> omega))
    generalize mvB B D (t.size : Int) a = x at *
    generalize mvE B D (t.size : Int) (a + d) = y at *
    have k7 : IntKind.i64.wrap ((a + d + ((t.size : Int) - D)) - (B + (t.size : Int))) = (a + d + ((t.size : Int) - D)) - (B + (t.size : Int)) := by rw [IntKind.wrap_i64]; omega
    have HM := (show Hid (max x y - x = (a + d + ((t.size : Int) - D)) - (B + (t.size : Int))) from (by show _ = _; rw [HX.out, HY.out]; omega))
    clear hs ht hB hB2 hD hD2 ha ha2 hd hd2
    go_enter Try.func13, Try.ntmps13
    go_wp2_with fail
    refine bodyPost_ret (v := .agg #[.int .i64 x, .int .i64 (max x y - x), .string s]) (by rw [HM.out, HX.out]; simp [results, Try.results13, go_sem]) rfl ?_
    exact ⟨rfl, by first | exact HB.out | exact ((HB.out.setCell (by simp; omega) _).setCell (by simp; omega) _).setCell (by simp; omega) _ | exact (((bel_alloc w _).alloc (by simp) _).alloc (by simp; omega) _)⟩
  by_cases g1 : a + d ≤ B
  · have g3 : ¬ (a + d) < a := by omega
    have HX := (show Hid (mvB B D (t.size : Int) a = a) from (by show _ = _; unfold mvB; split <;> (try split) <;> omega))
    have HY := (show Hid (mvE B D (t.size : Int) (a + d) = (a + d)) from (by show _ = _; unfold mvE; split <;> (try split) <;> omega))
    generalize mvB B D (t.size : Int) a = x at *
    generalize mvE B D (t.size : Int) (a + d) = y at *
    have k7 : IntKind.i64.wrap ((a + d) - a) = (a + d) - a := by rw [IntKind.wrap_i64]; omega
    have HM := (show Hid (max x y - x = (a + d) - a) from (by show _ = _; rw [HX.out, HY.out]; omega))
    clear hs ht hB hB2 hD hD2 ha ha2 hd hd2
    go_enter Try.func13, Try.ntmps13
    go_wp2_with fail
    refine bodyPost_ret (v := .agg #[.int .i64 x, .int .i64 (max x y - x), .string s]) (by rw [HM.out, HX.out]; simp [results, Try.results13, go_sem]) rfl ?_
    exact ⟨rfl, by first | exact HB.out | exact ((HB.out.setCell (by simp; omega) _).setCell (by simp; omega) _).setCell (by simp; omega) _ | exact (((bel_alloc w _).alloc (by simp) _).alloc (by simp; omega) _)⟩
  by_cases g2 : a + d < B + D
  · have g3 : ¬ B < a := by omega
    have HX := (show Hid (mvB B D (t.size : Int) a = a) from (by show _ = _; unfold mvB; split <;> (try split) <;> omega))
    have HY := (show Hid (mvE B D (t.size : Int) (a + d) = B) from (by show _ = _; unfold mvE; split <;> (try split) <;> omega))
    generalize mvB B D (t.size : Int) a = x at *
    generalize mvE B D (t.size : Int) (a + d) = y at *
    have k7 : IntKind.i64.wrap (B - a) = B - a := by rw [IntKind.wrap_i64]; omega
    have HM := (show Hid (max x y - x = B - a) from (by show _ = _; rw [HX.out, HY.out]; omega))
    clear hs ht hB hB2 hD hD2 ha ha2 hd hd2
    go_enter Try.func13, Try.ntmps13
    go_wp2_with fail
    refine bodyPost_ret (v := .agg #[.int .i64 x, .int .i64 (max x y - x), .string s]) (by rw [HM.out, HX.out]; simp [results, Try.results13, go_sem]) rfl ?_
    exact ⟨rfl, by first | exact HB.out | exact ((HB.out.setCell (by simp; omega) _).setCell (by simp; omega) _).setCell (by simp; omega) _ | exact (((bel_alloc w _).alloc (by simp) _).alloc (by simp; omega) _)⟩
  have g3 : ¬ (a + d + ((t.size : Int) - D)) < a := by omega
  have HX := (show Hid (mvB B D (t.size : Int) a = a) from (by show _ = _; unfold mvB; split <;> (try split) <;> omega))
  have HY := (show Hid (mvE B D (t.size : Int) (a + d) = (a + d + ((t.size : Int) - D))) from (by show _ = _; unfold mvE; split <;> (try split) <;> omega))
  generalize mvB B D (t.size : Int) a = x at *
  generalize mvE B D (t.size : Int) (a + d) = y at *
  have k7 : IntKind.i64.wrap ((a + d + ((t.size : Int) - D)) - a) = (a + d + ((t.size : Int) - D)) - a := by rw [IntKind.wrap_i64]; omega
  have HM := (show Hid (max x y - x = (a + d + ((t.size : Int) - D)) - a) from (by show _ = _; rw [HX.out, HY.out]; omega))
  clear hs ht hB hB2 hD hD2 ha ha2 hd hd2
  go_enter Try.func13, Try.ntmps13
  go_wp2_with fail
  refine bodyPost_ret (v := .agg #[.int .i64 x, .int .i64 (max x y - x), .string s]) (by rw [HM.out, HX.out]; simp [results, Try.results13, go_sem]) rfl ?_
  exact ⟨rfl, by first | exact HB.out | exact ((HB.out.setCell (by simp; omega) _).setCell (by simp; omega) _).setCell (by simp; omega) _ | exact (((bel_alloc w _).alloc (by simp) _).alloc (by simp; omega) _)⟩
end Go.Proofs.Ytcpjoicejbcndaa
