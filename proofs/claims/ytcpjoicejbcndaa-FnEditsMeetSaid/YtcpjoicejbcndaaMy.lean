import Derived.Test.YtcpjoicejbcndaaMx
/-! MoveEdit, of both sides, whole; edits are compared. -/
namespace Go.Proofs.Ytcpjoicejbcndaa
set_option linter.unusedVariables false
set_option maxRecDepth 100000
set_option linter.unusedSimpArgs false
open Go.RowKit Go.Deep

/-- What is answered: an edit and a code. -/
structure EdA where
  a : Int
  d : Int
  s : ByteArray
  c : Int
def EdA.no (c : Int) : EdA := ⟨0, 0, ⟨#[]⟩, c⟩
def mvR (a d : Int) (s : ByteArray) (B D : Int) (t : ByteArray) : EdA :=
  if (fitB a d s.size && fitB B D t.size) = true then ⟨mvA a B D t.size, mvD a d B D t.size, s, 0⟩ else EdA.no 1
def TwoP (w : World) (R : EdA) (e : Ending) (w' : World) : Prop := e = .returned (.tuple #[.agg #[.int .i64 R.a, .int .i64 R.d, .string R.s], .int .i64 R.c]) ∧ Below w.heap.size w w'
theorem fit_parts {a d : Int} {n : Nat} (h : fitB a d n = true) : (0 ≤ a ∧ a ≤ 4000) ∧ (0 ≤ d ∧ d ≤ 4000) := by
  unfold fitB wiB at h
  simp at h
  omega

set_option maxHeartbeats 3200000 in
theorem iMove8 (a d : Int) (s : ByteArray) (B D : Int) (t : ByteArray) (hs : s.size ≤ 1048576) (ht : t.size ≤ 1048576) (w : World) :
    Calls Try.prog 7 #[edV a d s, edV B D t] w (TwoP w (mvR a d s B D t)) := by
  have HF1 := (show Hid _ from fun w' => fits14 a d s hs w')
  have HF2 := (show Hid _ from fun w' => fits14 B D t ht w')
  have HM := (show Hid _ from fun (h1 : (0 ≤ a ∧ a ≤ 4000) ∧ (0 ≤ d ∧ d ≤ 4000)) (h2 : (0 ≤ B ∧ B ≤ 4000) ∧ (0 ≤ D ∧ D ≤ 4000)) w' => moved15 a d s B D t hs ht h2.1.1 h2.1.2 h2.2.1 h2.2.2 h1.1.1 h1.1.2 h1.2.1 h1.2.2 w')
  have H3 := (show Hid _ from b3_new w a d s B D t)
  clear hs ht
  unfold mvR TwoP
  generalize mvA a B D t.size = x at *
  generalize mvD a d B D t.size = y at *
  cases h1 : fitB a d s.size
  · rw [h1] at HF1
    simp only [Bool.false_and, Bool.false_eq_true, if_false, EdA.no]
    clear h1 HM
    unfold edV at *
    go_enter Try.func7, Try.ntmps7
    go_wp2_with fail
    refine Calls.mono (HF1.out _) ?_
    rintro e w1 ⟨rfl, hb1⟩
    have H4 := (show Hid (Below w.heap.size w w1 ∧ B3 w.heap.size a d s B D t w1) from ⟨bel_trans H3.out.1 hb1, H3.out.2.still hb1⟩)
    clear hb1 H3 HF1
    have q := H4.out.2
    have r0 : w1.cell? ⟨w.heap.size + 1 + 1, 0, none⟩ = some (.int .i64 0) := q.r.cell 0 (by simp)
    have r1 : w1.cell? ⟨w.heap.size + 1 + 1, 1, none⟩ = some (.int .i64 0) := q.r.cell 1 (by simp)
    have r2 : w1.cell? ⟨w.heap.size + 1 + 1, 2, none⟩ = some (.string ⟨#[]⟩) := q.r.cell 2 (by simp)
    have f0 := q.r.frozen 0
    have f1 := q.r.frozen 1
    have f2 := q.r.frozen 2
    have HB := (show Hid _ from H4.out.1)
    clear q H4 HF2
    go_wp2_with fail
    refine bodyPost_ret (v := .tuple #[.agg #[.int .i64 0, .int .i64 0, .string ⟨#[]⟩], .int .i64 1]) (by simp [results, Try.results7, go_sem, r0, r1, r2]) rfl ?_
    exact ⟨rfl, ((HB.out.setCell (by simp; omega) _).setCell (by simp; omega) _).setCell (by simp; omega) _⟩
  cases h2 : fitB B D t.size
  · rw [h1] at HF1
    rw [h2] at HF2
    simp only [Bool.and_false, Bool.false_eq_true, if_false, EdA.no]
    clear h1 h2 HM
    unfold edV at *
    go_enter Try.func7, Try.ntmps7
    go_wp2_with fail
    refine Calls.mono (HF1.out _) ?_
    rintro e w1 ⟨rfl, hb1⟩
    have H4 := (show Hid (Below w.heap.size w w1 ∧ B3 w.heap.size a d s B D t w1) from ⟨bel_trans H3.out.1 hb1, H3.out.2.still hb1⟩)
    clear hb1 H3 HF1
    have c0 : w1.cell? ⟨w.heap.size + 1, 0, none⟩ = some (.int .i64 B) := H4.out.2.y.cell 0 (by simp)
    have c1 : w1.cell? ⟨w.heap.size + 1, 1, none⟩ = some (.int .i64 D) := H4.out.2.y.cell 1 (by simp)
    have c2 : w1.cell? ⟨w.heap.size + 1, 2, none⟩ = some (.string t) := H4.out.2.y.cell 2 (by simp)
    go_wp2_with fail
    refine Calls.mono (HF2.out _) ?_
    rintro e w2 ⟨rfl, hb2⟩
    have H4 := (show Hid (Below w.heap.size w w2 ∧ B3 w.heap.size a d s B D t w2) from ⟨bel_trans H4.out.1 hb2, H4.out.2.still hb2⟩)
    clear hb2 HF2 c0 c1 c2
    have q := H4.out.2
    have r0 : w2.cell? ⟨w.heap.size + 1 + 1, 0, none⟩ = some (.int .i64 0) := q.r.cell 0 (by simp)
    have r1 : w2.cell? ⟨w.heap.size + 1 + 1, 1, none⟩ = some (.int .i64 0) := q.r.cell 1 (by simp)
    have r2 : w2.cell? ⟨w.heap.size + 1 + 1, 2, none⟩ = some (.string ⟨#[]⟩) := q.r.cell 2 (by simp)
    have f0 := q.r.frozen 0
    have f1 := q.r.frozen 1
    have f2 := q.r.frozen 2
    have HB := (show Hid _ from H4.out.1)
    clear q H4
    go_wp2_with fail
    refine bodyPost_ret (v := .tuple #[.agg #[.int .i64 0, .int .i64 0, .string ⟨#[]⟩], .int .i64 1]) (by simp [results, Try.results7, go_sem, r0, r1, r2]) rfl ?_
    exact ⟨rfl, ((HB.out.setCell (by simp; omega) _).setCell (by simp; omega) _).setCell (by simp; omega) _⟩
  rw [h1] at HF1
  rw [h2] at HF2
  have HP := (show Hid _ from HM.out (fit_parts h1) (fit_parts h2))
  simp only [Bool.and_true, if_true]
  clear h1 h2 HM
  unfold edV at *
  go_enter Try.func7, Try.ntmps7
  go_wp2_with fail
  refine Calls.mono (HF1.out _) ?_
  rintro e w1 ⟨rfl, hb1⟩
  have H4 := (show Hid (Below w.heap.size w w1 ∧ B3 w.heap.size a d s B D t w1) from ⟨bel_trans H3.out.1 hb1, H3.out.2.still hb1⟩)
  clear hb1 H3 HF1
  have c0 : w1.cell? ⟨w.heap.size + 1, 0, none⟩ = some (.int .i64 B) := H4.out.2.y.cell 0 (by simp)
  have c1 : w1.cell? ⟨w.heap.size + 1, 1, none⟩ = some (.int .i64 D) := H4.out.2.y.cell 1 (by simp)
  have c2 : w1.cell? ⟨w.heap.size + 1, 2, none⟩ = some (.string t) := H4.out.2.y.cell 2 (by simp)
  go_wp2_with fail
  refine Calls.mono (HF2.out _) ?_
  rintro e w2 ⟨rfl, hb2⟩
  have H4 := (show Hid (Below w.heap.size w w2 ∧ B3 w.heap.size a d s B D t w2) from ⟨bel_trans H4.out.1 hb2, H4.out.2.still hb2⟩)
  clear hb2 HF2 c0 c1 c2
  have c0 : w2.cell? ⟨w.heap.size, 0, none⟩ = some (.int .i64 a) := H4.out.2.e.cell 0 (by simp)
  have c1 : w2.cell? ⟨w.heap.size, 1, none⟩ = some (.int .i64 d) := H4.out.2.e.cell 1 (by simp)
  have c2 : w2.cell? ⟨w.heap.size, 2, none⟩ = some (.string s) := H4.out.2.e.cell 2 (by simp)
  have d0 : w2.cell? ⟨w.heap.size + 1, 0, none⟩ = some (.int .i64 B) := H4.out.2.y.cell 0 (by simp)
  have d1 : w2.cell? ⟨w.heap.size + 1, 1, none⟩ = some (.int .i64 D) := H4.out.2.y.cell 1 (by simp)
  have d2 : w2.cell? ⟨w.heap.size + 1, 2, none⟩ = some (.string t) := H4.out.2.y.cell 2 (by simp)
  go_wp2_with fail
  refine Calls.mono (HP.out _) ?_
  rintro e w3 ⟨rfl, hb3⟩
  have H4 := (show Hid (Below w.heap.size w w3 ∧ B3 w.heap.size a d s B D t w3) from ⟨bel_trans H4.out.1 hb3, H4.out.2.still hb3⟩)
  clear hb3 HP c0 c1 c2 d0 d1 d2
  have q := H4.out.2
  have r0 : w3.cell? ⟨w.heap.size + 1 + 1, 0, none⟩ = some (.int .i64 0) := q.r.cell 0 (by simp)
  have r1 : w3.cell? ⟨w.heap.size + 1 + 1, 1, none⟩ = some (.int .i64 0) := q.r.cell 1 (by simp)
  have r2 : w3.cell? ⟨w.heap.size + 1 + 1, 2, none⟩ = some (.string ⟨#[]⟩) := q.r.cell 2 (by simp)
  have f0 := q.r.frozen 0
  have f1 := q.r.frozen 1
  have f2 := q.r.frozen 2
  have HB := (show Hid _ from H4.out.1)
  clear q H4
  go_wp2_with fail
  refine bodyPost_ret (v := .tuple #[.agg #[.int .i64 x, .int .i64 y, .string s], .int .i64 0]) (by simp [results, Try.results7, go_sem, r0, r1, r2]) rfl ?_
  exact ⟨rfl, ((HB.out.setCell (by simp; omega) _).setCell (by simp; omega) _).setCell (by simp; omega) _⟩
set_option maxHeartbeats 3200000 in
theorem sMove6 (a d : Int) (s : ByteArray) (B D : Int) (t : ByteArray) (hs : s.size ≤ 1048576) (ht : t.size ≤ 1048576) (w : World) :
    Calls Try.prog 6 #[edV a d s, edV B D t] w (TwoP w (mvR a d s B D t)) := by
  have HF1 := (show Hid _ from fun w' => fits12 a d s hs w')
  have HF2 := (show Hid _ from fun w' => fits12 B D t ht w')
  have HM := (show Hid _ from fun (h1 : (0 ≤ a ∧ a ≤ 4000) ∧ (0 ≤ d ∧ d ≤ 4000)) (h2 : (0 ≤ B ∧ B ≤ 4000) ∧ (0 ≤ D ∧ D ≤ 4000)) w' => move13 a d s B D t hs ht h2.1.1 h2.1.2 h2.2.1 h2.2.2 h1.1.1 h1.1.2 h1.2.1 h1.2.2 w')
  have H3 := (show Hid _ from b3_new w a d s B D t)
  clear hs ht
  unfold mvR TwoP
  generalize mvA a B D t.size = x at *
  generalize mvD a d B D t.size = y at *
  cases h1 : fitB a d s.size
  · rw [h1] at HF1
    simp only [Bool.false_and, Bool.false_eq_true, if_false, EdA.no]
    clear h1 HM
    unfold edV at *
    go_enter Try.func6, Try.ntmps6
    go_wp2_with fail
    refine Calls.mono (HF1.out _) ?_
    rintro e w1 ⟨rfl, hb1⟩
    have H4 := (show Hid (Below w.heap.size w w1 ∧ B3 w.heap.size a d s B D t w1) from ⟨bel_trans H3.out.1 hb1, H3.out.2.still hb1⟩)
    clear hb1 H3 HF1
    have q := H4.out.2
    have r0 : w1.cell? ⟨w.heap.size + 1 + 1, 0, none⟩ = some (.int .i64 0) := q.r.cell 0 (by simp)
    have r1 : w1.cell? ⟨w.heap.size + 1 + 1, 1, none⟩ = some (.int .i64 0) := q.r.cell 1 (by simp)
    have r2 : w1.cell? ⟨w.heap.size + 1 + 1, 2, none⟩ = some (.string ⟨#[]⟩) := q.r.cell 2 (by simp)
    have f0 := q.r.frozen 0
    have f1 := q.r.frozen 1
    have f2 := q.r.frozen 2
    have HB := (show Hid _ from H4.out.1)
    clear q H4 HF2
    go_wp2_with fail
    refine bodyPost_ret (v := .tuple #[.agg #[.int .i64 0, .int .i64 0, .string ⟨#[]⟩], .int .i64 1]) (by simp [results, Try.results6, go_sem, r0, r1, r2]) rfl ?_
    exact ⟨rfl, ((HB.out.setCell (by simp; omega) _).setCell (by simp; omega) _).setCell (by simp; omega) _⟩
  cases h2 : fitB B D t.size
  · rw [h1] at HF1
    rw [h2] at HF2
    simp only [Bool.and_false, Bool.false_eq_true, if_false, EdA.no]
    clear h1 h2 HM
    unfold edV at *
    go_enter Try.func6, Try.ntmps6
    go_wp2_with fail
    refine Calls.mono (HF1.out _) ?_
    rintro e w1 ⟨rfl, hb1⟩
    have H4 := (show Hid (Below w.heap.size w w1 ∧ B3 w.heap.size a d s B D t w1) from ⟨bel_trans H3.out.1 hb1, H3.out.2.still hb1⟩)
    clear hb1 H3 HF1
    have c0 : w1.cell? ⟨w.heap.size + 1, 0, none⟩ = some (.int .i64 B) := H4.out.2.y.cell 0 (by simp)
    have c1 : w1.cell? ⟨w.heap.size + 1, 1, none⟩ = some (.int .i64 D) := H4.out.2.y.cell 1 (by simp)
    have c2 : w1.cell? ⟨w.heap.size + 1, 2, none⟩ = some (.string t) := H4.out.2.y.cell 2 (by simp)
    go_wp2_with fail
    refine Calls.mono (HF2.out _) ?_
    rintro e w2 ⟨rfl, hb2⟩
    have H4 := (show Hid (Below w.heap.size w w2 ∧ B3 w.heap.size a d s B D t w2) from ⟨bel_trans H4.out.1 hb2, H4.out.2.still hb2⟩)
    clear hb2 HF2 c0 c1 c2
    have q := H4.out.2
    have r0 : w2.cell? ⟨w.heap.size + 1 + 1, 0, none⟩ = some (.int .i64 0) := q.r.cell 0 (by simp)
    have r1 : w2.cell? ⟨w.heap.size + 1 + 1, 1, none⟩ = some (.int .i64 0) := q.r.cell 1 (by simp)
    have r2 : w2.cell? ⟨w.heap.size + 1 + 1, 2, none⟩ = some (.string ⟨#[]⟩) := q.r.cell 2 (by simp)
    have f0 := q.r.frozen 0
    have f1 := q.r.frozen 1
    have f2 := q.r.frozen 2
    have HB := (show Hid _ from H4.out.1)
    clear q H4
    go_wp2_with fail
    refine bodyPost_ret (v := .tuple #[.agg #[.int .i64 0, .int .i64 0, .string ⟨#[]⟩], .int .i64 1]) (by simp [results, Try.results6, go_sem, r0, r1, r2]) rfl ?_
    exact ⟨rfl, ((HB.out.setCell (by simp; omega) _).setCell (by simp; omega) _).setCell (by simp; omega) _⟩
  rw [h1] at HF1
  rw [h2] at HF2
  have HP := (show Hid _ from HM.out (fit_parts h1) (fit_parts h2))
  simp only [Bool.and_true, if_true]
  clear h1 h2 HM
  unfold edV at *
  go_enter Try.func6, Try.ntmps6
  go_wp2_with fail
  refine Calls.mono (HF1.out _) ?_
  rintro e w1 ⟨rfl, hb1⟩
  have H4 := (show Hid (Below w.heap.size w w1 ∧ B3 w.heap.size a d s B D t w1) from ⟨bel_trans H3.out.1 hb1, H3.out.2.still hb1⟩)
  clear hb1 H3 HF1
  have c0 : w1.cell? ⟨w.heap.size + 1, 0, none⟩ = some (.int .i64 B) := H4.out.2.y.cell 0 (by simp)
  have c1 : w1.cell? ⟨w.heap.size + 1, 1, none⟩ = some (.int .i64 D) := H4.out.2.y.cell 1 (by simp)
  have c2 : w1.cell? ⟨w.heap.size + 1, 2, none⟩ = some (.string t) := H4.out.2.y.cell 2 (by simp)
  go_wp2_with fail
  refine Calls.mono (HF2.out _) ?_
  rintro e w2 ⟨rfl, hb2⟩
  have H4 := (show Hid (Below w.heap.size w w2 ∧ B3 w.heap.size a d s B D t w2) from ⟨bel_trans H4.out.1 hb2, H4.out.2.still hb2⟩)
  clear hb2 HF2 c0 c1 c2
  have c0 : w2.cell? ⟨w.heap.size, 0, none⟩ = some (.int .i64 a) := H4.out.2.e.cell 0 (by simp)
  have c1 : w2.cell? ⟨w.heap.size, 1, none⟩ = some (.int .i64 d) := H4.out.2.e.cell 1 (by simp)
  have c2 : w2.cell? ⟨w.heap.size, 2, none⟩ = some (.string s) := H4.out.2.e.cell 2 (by simp)
  have d0 : w2.cell? ⟨w.heap.size + 1, 0, none⟩ = some (.int .i64 B) := H4.out.2.y.cell 0 (by simp)
  have d1 : w2.cell? ⟨w.heap.size + 1, 1, none⟩ = some (.int .i64 D) := H4.out.2.y.cell 1 (by simp)
  have d2 : w2.cell? ⟨w.heap.size + 1, 2, none⟩ = some (.string t) := H4.out.2.y.cell 2 (by simp)
  go_wp2_with fail
  refine Calls.mono (HP.out _) ?_
  rintro e w3 ⟨rfl, hb3⟩
  have H4 := (show Hid (Below w.heap.size w w3 ∧ B3 w.heap.size a d s B D t w3) from ⟨bel_trans H4.out.1 hb3, H4.out.2.still hb3⟩)
  clear hb3 HP c0 c1 c2 d0 d1 d2
  have q := H4.out.2
  have r0 : w3.cell? ⟨w.heap.size + 1 + 1, 0, none⟩ = some (.int .i64 0) := q.r.cell 0 (by simp)
  have r1 : w3.cell? ⟨w.heap.size + 1 + 1, 1, none⟩ = some (.int .i64 0) := q.r.cell 1 (by simp)
  have r2 : w3.cell? ⟨w.heap.size + 1 + 1, 2, none⟩ = some (.string ⟨#[]⟩) := q.r.cell 2 (by simp)
  have f0 := q.r.frozen 0
  have f1 := q.r.frozen 1
  have f2 := q.r.frozen 2
  have HB := (show Hid _ from H4.out.1)
  clear q H4
  go_wp2_with fail
  refine bodyPost_ret (v := .tuple #[.agg #[.int .i64 x, .int .i64 y, .string s], .int .i64 0]) (by simp [results, Try.results6, go_sem, r0, r1, r2]) rfl ?_
  exact ⟨rfl, ((HB.out.setCell (by simp; omega) _).setCell (by simp; omega) _).setCell (by simp; omega) _⟩
end Go.Proofs.Ytcpjoicejbcndaa
