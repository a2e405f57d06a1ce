import Derived.Test.YtkgoedclacfadaaMy
/-! BackEdit, of both sides. -/
namespace Go.Proofs.Ytkgoedclacfadaa
set_option linter.unusedVariables false
set_option maxRecDepth 100000
set_option linter.unusedSimpArgs false
open Go.RowKit Go.Deep

def bkR (t : ByteArray) (a d : Int) (s : ByteArray) : EdA :=
  if (edR t a d s).2 = 0 then ⟨a, (s.size : Int), t.extract a.toNat (a + d).toNat, 0⟩ else EdA.no (edR t a d s).2
/-- What is known where an edit fits. -/
theorem ed_ok {t : ByteArray} {a d : Int} {s : ByteArray} (h : (edR t a d s).2 = 0) : 0 ≤ a ∧ 0 ≤ d ∧ a + d ≤ (t.size : Int) ∧ t.size ≤ 4000 := by
  unfold edR at h
  split at h
  · simp at h
  · split at h
    · simp at h
    · omega
/-- An edit in its box, and the answer's. -/
structure B2 (p : Nat) (a d : Int) (s : ByteArray) (w : World) : Prop where
  e : Box w p 25 (edC a d s)
  r : Box w (p + 1) 25 (edC 0 0 ⟨#[]⟩)
theorem B2.still {p : Nat} {a d : Int} {s : ByteArray} {w w' : World} (h : B2 p a d s w) (hb : Below w.heap.size w w') : B2 p a d s w' :=
  ⟨h.e.still hb, h.r.still hb⟩
theorem b2_new (w : World) (a d : Int) (s : ByteArray) :
    Below w.heap.size w ((w.alloc (.cells #[.int .i64 a, .int .i64 d, .string s] 25)).alloc (.cells #[.int .i64 0, .int .i64 0, .string ⟨#[]⟩] 25)) ∧ B2 w.heap.size a d s ((w.alloc (.cells #[.int .i64 a, .int .i64 d, .string s] 25)).alloc (.cells #[.int .i64 0, .int .i64 0, .string ⟨#[]⟩] 25)) := by
  have h1 := Box.new w 25 (edC a d s)
  have h2 := Box.new (w.alloc (.cells #[.int .i64 a, .int .i64 d, .string s] 25)) 25 (edC 0 0 ⟨#[]⟩)
  refine ⟨(bel_alloc _ _).alloc (by simp) _, h1.still (bel_alloc _ _), ?_⟩
  simpa using h2

set_option maxHeartbeats 6400000 in
theorem sBack10 (t : ByteArray) (a d : Int) (s : ByteArray) (ht : t.size ≤ 1048576) (hs : s.size ≤ 1048576) (ha : -9223372036854775808 ≤ a ∧ a ≤ 9223372036854775807) (hd : -9223372036854775808 ≤ d ∧ d ≤ 9223372036854775807) (w : World) :
    Calls Try.prog 10 #[.string t, edV a d s] w (TwoP w (bkR t a d s)) := by
  have HE := (show Hid _ from fun w' => sEd t a d s w' ht hs ha hd)
  have H3 := (show Hid _ from b2_new w a d s)
  have HOK := (show Hid ((edR t a d s).2 = 0 → _) from fun h => ed_ok h)
  have HN := (show Hid (0 ≤ a → d ≤ 4000 → 0 ≤ d → a ≤ 4000 → _) from fun h1 h2 h3 h4 => fun w' => end18 a d s (by omega) w')
  clear ha hd
  unfold bkR TwoP
  unfold EdPost at HE
  generalize edR t a d s = R at *
  obtain ⟨R1, R2⟩ := R
  simp only at HE HOK ⊢
  by_cases h0 : R2 = 0
  · subst h0
    rw [if_pos rfl]
    obtain ⟨z1, z2, z3, z4⟩ := HOK.out rfl
    have HN2 := (show Hid _ from HN.out z1 (by omega) z2 (by omega))
    have z5 : 0 ≤ a + d := by omega
    have z6 : a ≤ a + d := by omega
    have z7 : a ≤ (t.size : Int) := by omega
    have kw : IntKind.i64.wrap (a + d) = a + d := by rw [IntKind.wrap_i64]; omega
    clear HOK HN
    unfold edV at *
    go_enter Try.func10, Try.ntmps10
    go_wp2_with fail
    refine Calls.mono (HE.out _) ?_
    rintro e w1 ⟨rfl, hb1⟩
    have H4 := (show Hid (Below w.heap.size w w1 ∧ B2 w.heap.size a d s w1) from ⟨bel_trans H3.out.1 hb1, H3.out.2.still hb1⟩)
    clear hb1 H3 HE
    have HC := (show Hid (∀ wq, Below w1.heap.size w1 wq → (wq.cell? ⟨w.heap.size, 0, none⟩ = some (.int .i64 a) ∧ wq.cell? ⟨w.heap.size, 1, none⟩ = some (.int .i64 d) ∧ wq.cell? ⟨w.heap.size, 2, none⟩ = some (.string s))) from fun wq h => by
      have q := H4.out.2.still h
      exact ⟨q.e.cell 0 (by simp), q.e.cell 1 (by simp), q.e.cell 2 (by simp)⟩)
    go_wp2_with fail
    have hbd := (Below.refl w1.heap.size w1).drew
    have hS0 := HC.out _ hbd
    have HBR := (show Hid (∀ wq, Below w1.heap.size w1 wq → Box wq (w.heap.size + 1) 25 (edC 0 0 ⟨#[]⟩)) from fun wq h => H4.out.2.r.still h)

    have q := HBR.out _ (Below.refl _ _)
    have r0 : World.cell? w1 ⟨w.heap.size + 1, 0, none⟩ = some (.int .i64 0) := q.cell 0 (by simp)
    have r1 : World.cell? w1 ⟨w.heap.size + 1, 1, none⟩ = some (.int .i64 0) := q.cell 1 (by simp)
    have r2 : World.cell? w1 ⟨w.heap.size + 1, 2, none⟩ = some (.string ⟨#[]⟩) := q.cell 2 (by simp)
    have f0 := q.frozen 0
    have f1 := q.frozen 1
    have f2 := q.frozen 2
    have HSE := (show Hid (∀ wq, Box wq w.heap.size 25 (edC a d s) → (wq.cell? ⟨w.heap.size, 0, none⟩ = some (.int .i64 a) ∧ wq.cell? ⟨w.heap.size, 1, none⟩ = some (.int .i64 d) ∧ wq.cell? ⟨w.heap.size, 2, none⟩ = some (.string s))) from fun wq q => ⟨q.cell 0 (by simp), q.cell 1 (by simp), q.cell 2 (by simp)⟩)
    have HEB := (show Hid (∀ wq, Below w1.heap.size w1 wq → Box wq w.heap.size 25 (edC a d s)) from fun wq h => H4.out.2.e.still h)
    have HGE := (show Hid (w.heap.size ≤ w1.heap.size) from H4.out.1.size)
    go_region_held3 (fun wq => (wq.cell? ⟨w.heap.size, 0, none⟩ = some (.int .i64 a) ∧ wq.cell? ⟨w.heap.size, 1, none⟩ = some (.int .i64 d) ∧ wq.cell? ⟨w.heap.size, 2, none⟩ = some (.string s))) (first | with_reducible exact hS0 | with_reducible exact hS1 | exact HSE.out _ (Box.keep (((((HEB.out _ (Below.refl _ _)).past (by simp)).past (by simp)).past (by simp))) rfl)) (fail)
    have HB := (show Hid _ from bel_trans H4.out.1 hbd)
    go_wp2_with fail
    refine bodyPost_ret (v := .tuple #[.agg #[.int .i64 a, .int .i64 (s.size : Int), .string (t.extract a.toNat (a + d).toNat)], .int .i64 0]) (by simp [results, Try.results10, go_sem, r0, r1, r2]) rfl ?_
    exact ⟨rfl, by first | exact ((HB.out.setCell (by simp) _).setCell (by simp) _).setCell (by simp) _ | exact (((H4.out.1.setCell (by simp) _).setCell (by simp) _).setCell (by simp) _).drew⟩
  · rw [if_neg h0]
    simp only [EdA.no]
    have hne : (R2 != 0) = true := by simpa using h0
    clear HOK HN h0
    unfold edV at *
    go_enter Try.func10, Try.ntmps10
    go_wp2_with fail
    refine Calls.mono (HE.out _) ?_
    rintro e w1 ⟨rfl, hb1⟩
    have H4 := (show Hid (Below w.heap.size w w1 ∧ B2 w.heap.size a d s w1) from ⟨bel_trans H3.out.1 hb1, H3.out.2.still hb1⟩)
    clear hb1 H3 HE
    have q := H4.out.2
    have r0 : w1.cell? ⟨w.heap.size + 1, 0, none⟩ = some (.int .i64 0) := q.r.cell 0 (by simp)
    have r1 : w1.cell? ⟨w.heap.size + 1, 1, none⟩ = some (.int .i64 0) := q.r.cell 1 (by simp)
    have r2 : w1.cell? ⟨w.heap.size + 1, 2, none⟩ = some (.string ⟨#[]⟩) := q.r.cell 2 (by simp)
    have f0 := q.r.frozen 0
    have f1 := q.r.frozen 1
    have f2 := q.r.frozen 2
    have HB := (show Hid _ from H4.out.1)
    clear q H4
    go_wp2_with fail
    refine bodyPost_ret (v := .tuple #[.agg #[.int .i64 0, .int .i64 0, .string ⟨#[]⟩], .int .i64 R2]) (by simp [results, Try.results10, go_sem, r0, r1, r2]) rfl ?_
    exact ⟨rfl, ((HB.out.setCell (by simp) _).setCell (by simp) _).setCell (by simp) _⟩
set_option maxHeartbeats 6400000 in
theorem iBack11 (t : ByteArray) (a d : Int) (s : ByteArray) (ht : t.size ≤ 1048576) (hs : s.size ≤ 1048576) (ha : -9223372036854775808 ≤ a ∧ a ≤ 9223372036854775807) (hd : -9223372036854775808 ≤ d ∧ d ≤ 9223372036854775807) (w : World) :
    Calls Try.prog 11 #[.string t, edV a d s] w (TwoP w (bkR t a d s)) := by
  have HE := (show Hid _ from fun w' => iEd t a d s w' ht hs ha hd)
  have H3 := (show Hid _ from b2_new w a d s)
  have HOK := (show Hid ((edR t a d s).2 = 0 → _) from fun h => ed_ok h)
  have HN := (show Hid (0 ≤ a → d ≤ 4000 → 0 ≤ d → a ≤ 4000 → _) from fun h1 h2 h3 h4 => fun w' => end18 a d s (by omega) w')
  clear ha hd
  unfold bkR TwoP
  unfold EdPost at HE
  generalize edR t a d s = R at *
  obtain ⟨R1, R2⟩ := R
  simp only at HE HOK ⊢
  by_cases h0 : R2 = 0
  · subst h0
    rw [if_pos rfl]
    obtain ⟨z1, z2, z3, z4⟩ := HOK.out rfl
    have HN2 := (show Hid _ from HN.out z1 (by omega) z2 (by omega))
    have z5 : 0 ≤ a + d := by omega
    have z6 : a ≤ a + d := by omega
    have z7 : a ≤ (t.size : Int) := by omega
    have kw : IntKind.i64.wrap (a + d) = a + d := by rw [IntKind.wrap_i64]; omega
    clear HOK HN
    unfold edV at *
    go_enter Try.func11, Try.ntmps11
    go_wp2_with fail
    refine Calls.mono (HE.out _) ?_
    rintro e w1 ⟨rfl, hb1⟩
    have H4 := (show Hid (Below w.heap.size w w1 ∧ B2 w.heap.size a d s w1) from ⟨bel_trans H3.out.1 hb1, H3.out.2.still hb1⟩)
    clear hb1 H3 HE
    have HC := (show Hid (∀ wq, Below w1.heap.size w1 wq → (wq.cell? ⟨w.heap.size, 0, none⟩ = some (.int .i64 a) ∧ wq.cell? ⟨w.heap.size, 1, none⟩ = some (.int .i64 d) ∧ wq.cell? ⟨w.heap.size, 2, none⟩ = some (.string s))) from fun wq h => by
      have q := H4.out.2.still h
      exact ⟨q.e.cell 0 (by simp), q.e.cell 1 (by simp), q.e.cell 2 (by simp)⟩)
    go_wp2_with fail
    have hbd := (Below.refl w1.heap.size w1).drew
    have hS0 := HC.out _ hbd
    have HBR := (show Hid (∀ wq, Below w1.heap.size w1 wq → Box wq (w.heap.size + 1) 25 (edC 0 0 ⟨#[]⟩)) from fun wq h => H4.out.2.r.still h)

    have HSE := (show Hid (∀ wq, Box wq w.heap.size 25 (edC a d s) → (wq.cell? ⟨w.heap.size, 0, none⟩ = some (.int .i64 a) ∧ wq.cell? ⟨w.heap.size, 1, none⟩ = some (.int .i64 d) ∧ wq.cell? ⟨w.heap.size, 2, none⟩ = some (.string s))) from fun wq q => ⟨q.cell 0 (by simp), q.cell 1 (by simp), q.cell 2 (by simp)⟩)
    have HEB := (show Hid (∀ wq, Below w1.heap.size w1 wq → Box wq w.heap.size 25 (edC a d s)) from fun wq h => H4.out.2.e.still h)
    have HGE := (show Hid (w.heap.size ≤ w1.heap.size) from H4.out.1.size)
    go_region_held3 (fun wq => (wq.cell? ⟨w.heap.size, 0, none⟩ = some (.int .i64 a) ∧ wq.cell? ⟨w.heap.size, 1, none⟩ = some (.int .i64 d) ∧ wq.cell? ⟨w.heap.size, 2, none⟩ = some (.string s))) (first | with_reducible exact hS0 | with_reducible exact hS1 | exact HSE.out _ (((((HEB.out _ hF1).past (by simp)).past (by simp)).past (by simp)))) ((go_at_call 18; refine Calls.mono (HN2.out _) ?_; rintro e wb ⟨rfl, hbb⟩; have hF1 := bel_trans hbd hbb; have hS1 := HC.out _ hF1; have q := HBR.out _ hF1; have r0 : World.cell? wb ⟨w.heap.size + 1, 0, none⟩ = some (.int .i64 0) := q.cell 0 (by simp); have r1 : World.cell? wb ⟨w.heap.size + 1, 1, none⟩ = some (.int .i64 0) := q.cell 1 (by simp); have r2 : World.cell? wb ⟨w.heap.size + 1, 2, none⟩ = some (.string ⟨#[]⟩) := q.cell 2 (by simp); have f0 := q.frozen 0; have f1 := q.frozen 1; have f2 := q.frozen 2))
    have HB := (show Hid _ from bel_trans H4.out.1 hF1)
    go_wp2_with fail
    refine bodyPost_ret (v := .tuple #[.agg #[.int .i64 a, .int .i64 (s.size : Int), .string (t.extract a.toNat (a + d).toNat)], .int .i64 0]) (by simp [results, Try.results11, go_sem, r0, r1, r2]) rfl ?_
    exact ⟨rfl, by first | exact ((HB.out.setCell (by simp) _).setCell (by simp) _).setCell (by simp) _ | exact (((H4.out.1.setCell (by simp) _).setCell (by simp) _).setCell (by simp) _).drew⟩
  · rw [if_neg h0]
    simp only [EdA.no]
    have hne : (R2 != 0) = true := by simpa using h0
    clear HOK HN h0
    unfold edV at *
    go_enter Try.func11, Try.ntmps11
    go_wp2_with fail
    refine Calls.mono (HE.out _) ?_
    rintro e w1 ⟨rfl, hb1⟩
    have H4 := (show Hid (Below w.heap.size w w1 ∧ B2 w.heap.size a d s w1) from ⟨bel_trans H3.out.1 hb1, H3.out.2.still hb1⟩)
    clear hb1 H3 HE
    have q := H4.out.2
    have r0 : w1.cell? ⟨w.heap.size + 1, 0, none⟩ = some (.int .i64 0) := q.r.cell 0 (by simp)
    have r1 : w1.cell? ⟨w.heap.size + 1, 1, none⟩ = some (.int .i64 0) := q.r.cell 1 (by simp)
    have r2 : w1.cell? ⟨w.heap.size + 1, 2, none⟩ = some (.string ⟨#[]⟩) := q.r.cell 2 (by simp)
    have f0 := q.r.frozen 0
    have f1 := q.r.frozen 1
    have f2 := q.r.frozen 2
    have HB := (show Hid _ from H4.out.1)
    clear q H4
    go_wp2_with fail
    refine bodyPost_ret (v := .tuple #[.agg #[.int .i64 0, .int .i64 0, .string ⟨#[]⟩], .int .i64 R2]) (by simp [results, Try.results11, go_sem, r0, r1, r2]) rfl ?_
    exact ⟨rfl, ((HB.out.setCell (by simp) _).setCell (by simp) _).setCell (by simp) _⟩
end Go.Proofs.Ytkgoedclacfadaa
