import Derived.Test.YthmdoplickpmaajLaw
/-! The law FnExactDfaRun, walked. -/
namespace Go.Proofs.Ythmdoplickpmaaj
open Go.RowKit Go.Deep
set_option linter.unusedVariables false
set_option linter.unusedSimpArgs false

set_option maxHeartbeats 1600000 in
set_option maxRecDepth 100000 in
theorem toDfa_any {S : Nat → Prop} (d : Df) (v0 v1 v2 : Value) (w : World) (h : DLies w S d v0 v1 v2) (hs : d.Small) :
    Calls Try.prog 7 #[.agg #[v0, v1, v2]] w fun e w' => ∃ u0 u1 u2, e = .returned (.agg #[u0, u1, u2]) ∧ Below w.heap.size w w' ∧ DLies w' (fun _ => True) d u0 u1 u2 := by
  have H1 := (show Hid _ from fun w' (hb : Below w.heap.size w w') => toInts_any d.cls v0 w' (h.cls.still hb) hs.cls)
  have H2 := (show Hid _ from fun w' (hb : Below w.heap.size w w') => toRows_any d.nxt v1 w' (h.nxt.still hb) hs.nxt hs.row)
  have H3 := (show Hid _ from fun w' (hb : Below w.heap.size w w') => toInts_any d.acc v2 w' (h.acc.still hb) hs.acc)
  have HSM := (show Hid _ from hs); clear hs
  obtain ⟨a1, cap1, rfl, hm1⟩ := h.nxt.form
  obtain ⟨a2, cap2, rfl, hm2⟩ := h.acc.form
  obtain ⟨a0, cap0, rfl, hm0⟩ := h.cls.form
  clear h
  have hb0 := bel_alloc w (.cells #[.slice a0 d.cls.length cap0, .slice a1 d.nxt.length cap1, .slice a2 d.acc.length cap2] 25)
  have TB := (show Hid _ from box3_alloc w 25 (.slice a0 d.cls.length cap0) (.slice a1 d.nxt.length cap1) (.slice a2 d.acc.length cap2))
  have hb1 := bel_trans hb0 (bel_alloc _ (.cells #[.slice none 0 0, .slice none 0 0, .slice none 0 0] 29))
  have TB1 := Box3.still TB.out (bel_alloc _ (.cells #[.slice none 0 0, .slice none 0 0, .slice none 0 0] 29))
  have RB1 := box3_alloc (w.alloc (.cells #[.slice a0 d.cls.length cap0, .slice a1 d.nxt.length cap1, .slice a2 d.acc.length cap2] 25)) 29 (.slice none 0 0) (.slice none 0 0) (.slice none 0 0)
  have hb2 := bel_trans hb1 (bel_alloc _ (.cells #[.slice none 0 0, .slice none 0 0, .slice none 0 0] 29))
  have TB2 := TB1.still (bel_alloc _ (.cells #[.slice none 0 0, .slice none 0 0, .slice none 0 0] 29))
  have RB2 := RB1.still (bel_alloc _ (.cells #[.slice none 0 0, .slice none 0 0, .slice none 0 0] 29))
  have OB2 := box3_alloc ((w.alloc (.cells #[.slice a0 d.cls.length cap0, .slice a1 d.nxt.length cap1, .slice a2 d.acc.length cap2] 25)).alloc (.cells #[.slice none 0 0, .slice none 0 0, .slice none 0 0] 29)) 29 (.slice none 0 0) (.slice none 0 0) (.slice none 0 0)
  have hsz : (((w.alloc (.cells #[.slice a0 d.cls.length cap0, .slice a1 d.nxt.length cap1, .slice a2 d.acc.length cap2] 25)).alloc (.cells #[.slice none 0 0, .slice none 0 0, .slice none 0 0] 29)).alloc (.cells #[.slice none 0 0, .slice none 0 0, .slice none 0 0] 29)).heap.size = w.heap.size + 3 := by simp
  simp only [World.size_alloc] at RB2 OB2
  have HB := (show Hid _ from (⟨TB2, RB2, OB2, hsz⟩ : _ ∧ _ ∧ _ ∧ _))
  clear TB TB1 RB1 TB2 RB2 OB2 hsz hb0 hb1
  go_enter Try.func7, Try.ntmps7
  go_wp2_with fail
  generalize (((w.alloc (.cells #[.slice a0 d.cls.length cap0, .slice a1 d.nxt.length cap1, .slice a2 d.acc.length cap2] 25)).alloc (.cells #[.slice none 0 0, .slice none 0 0, .slice none 0 0] 29)).alloc (.cells #[.slice none 0 0, .slice none 0 0, .slice none 0 0] 29)) = W3 at *
  refine Calls.mono (H1.out _ hb2) ?_
  rintro e w4 ⟨rfl, hb4, i4⟩
  have hbw4 := bel_trans hb2 hb4
  have I4 := (show Hid _ from (Ints.mono (IRow.ints i4 (by have := HSM.out.cls; unfold maxLen; omega)) (S' := fun b => w.heap.size + 1 + 1 < b) (fun b hb => by subst hb; rw [HB.out.2.2.2]; omega)))
  clear i4
  obtain ⟨TB4, RB4, OB4⟩ := (⟨Box3.still HB.out.1 hb4, Box3.still HB.out.2.1 hb4, Box3.still HB.out.2.2.1 hb4⟩ : _ ∧ _ ∧ _)
  obtain ⟨⟨O0, O1, O2⟩, y0, y1, y2⟩ := Box3.cells OB4
  have TB5 := (TB4.keep (w' := w4.setCell ⟨w.heap.size + 1 + 1, 0, none⟩ (.slice (some ⟨W3.heap.size, 0, none⟩) d.cls.length d.cls.length)) (blk_setCell_other _ _ _ _ (by show w.heap.size ≠ w.heap.size + 1 + 1; omega)))
  have RB5 := (RB4.keep (w' := w4.setCell ⟨w.heap.size + 1 + 1, 0, none⟩ (.slice (some ⟨W3.heap.size, 0, none⟩) d.cls.length d.cls.length)) (blk_setCell_other _ _ _ _ (by show w.heap.size + 1 ≠ w.heap.size + 1 + 1; omega)))
  have OB5 := OB4.set0 (.slice (some ⟨W3.heap.size, 0, none⟩) d.cls.length d.cls.length)
  have I5 := (show Hid _ from Ints.keep (w' := w4.setCell ⟨w.heap.size + 1 + 1, 0, none⟩ (.slice (some ⟨W3.heap.size, 0, none⟩) d.cls.length d.cls.length)) I4.out (fun b hb _ => blk_setCell_other _ _ _ _ (by show b ≠ w.heap.size + 1 + 1; omega)))
  have hbw5 := hbw4.setCell (p := ⟨w.heap.size + 1 + 1, 0, none⟩) (by show w.heap.size ≤ w.heap.size + 1 + 1; omega) (.slice (some ⟨W3.heap.size, 0, none⟩) d.cls.length d.cls.length)
  have hs5 : w.heap.size + 3 ≤ (w4.setCell ⟨w.heap.size + 1 + 1, 0, none⟩ (.slice (some ⟨W3.heap.size, 0, none⟩) d.cls.length d.cls.length)).heap.size := by have q := HB.out.2.2.2; have := hb4.size; simp; omega
  obtain ⟨⟨T0, T1, T2⟩, _⟩ := Box3.cells TB5
  have HB5 := (show Hid _ from (⟨TB5, RB5, OB5, hs5⟩ : _ ∧ _ ∧ _ ∧ _))
  clear TB4 RB4 OB4 TB5 RB5 OB5 hs5 I4 HB hb4 hb2 hbw4
  go_wp2_with fail
  generalize w4.setCell ⟨w.heap.size + 1 + 1, 0, none⟩ (.slice (some ⟨W3.heap.size, 0, none⟩) d.cls.length d.cls.length) = w5 at *
  clear O0 O1 O2 y0 y1 y2 T0 T1 T2
  refine Calls.mono (H2.out _ hbw5) ?_
  rintro e w6 ⟨u1, rfl, hb6, r6⟩
  have hbw6 := bel_trans hbw5 hb6
  have R6 := (show Hid _ from IRows.mono r6 (S' := fun b => w.heap.size + 1 + 1 < b) (fun b hb => by have q := HB5.out.2.2.2; omega))
  obtain ⟨a6, cap6, rfl, hm6⟩ := r6.form
  clear r6
  have I6 := (show Hid _ from Ints.still I5.out hb6)
  obtain ⟨TB6, RB6, OB6⟩ := (⟨Box3.still HB5.out.1 hb6, Box3.still HB5.out.2.1 hb6, Box3.still HB5.out.2.2.1 hb6⟩ : _ ∧ _ ∧ _)
  obtain ⟨⟨O0, O1, O2⟩, y0, y1, y2⟩ := Box3.cells OB6
  have TB7 := (TB6.keep (w' := w6.setCell ⟨w.heap.size + 1 + 1, 1, none⟩ (.slice a6 d.nxt.length cap6)) (blk_setCell_other _ _ _ _ (by show w.heap.size ≠ w.heap.size + 1 + 1; omega)))
  have RB7 := (RB6.keep (w' := w6.setCell ⟨w.heap.size + 1 + 1, 1, none⟩ (.slice a6 d.nxt.length cap6)) (blk_setCell_other _ _ _ _ (by show w.heap.size + 1 ≠ w.heap.size + 1 + 1; omega)))
  have OB7 := OB6.set1 (.slice a6 d.nxt.length cap6)
  have I7 := (show Hid _ from Ints.keep (w' := w6.setCell ⟨w.heap.size + 1 + 1, 1, none⟩ (.slice a6 d.nxt.length cap6)) I6.out (fun b hb _ => blk_setCell_other _ _ _ _ (by show b ≠ w.heap.size + 1 + 1; omega)))
  have R7 := (show Hid _ from IRows.keep (w' := w6.setCell ⟨w.heap.size + 1 + 1, 1, none⟩ (.slice a6 d.nxt.length cap6)) R6.out (fun b hb _ => blk_setCell_other _ _ _ _ (by show b ≠ w.heap.size + 1 + 1; omega)))
  have hbw7 := hbw6.setCell (p := ⟨w.heap.size + 1 + 1, 1, none⟩) (by show w.heap.size ≤ w.heap.size + 1 + 1; omega) (.slice a6 d.nxt.length cap6)
  have hs7 : w.heap.size + 3 ≤ (w6.setCell ⟨w.heap.size + 1 + 1, 1, none⟩ (.slice a6 d.nxt.length cap6)).heap.size := by have q := HB5.out.2.2.2; have := hb6.size; simp; omega
  obtain ⟨⟨T0, T1, T2⟩, _⟩ := Box3.cells TB7
  have HB7 := (show Hid _ from (⟨TB7, RB7, OB7, hs7⟩ : _ ∧ _ ∧ _ ∧ _))
  clear TB6 RB6 OB6 TB7 RB7 OB7 hs7 I5 I6 R6 HB5 hb6 hbw5 hbw6
  go_wp2_with fail
  generalize w6.setCell ⟨w.heap.size + 1 + 1, 1, none⟩ (.slice a6 d.nxt.length cap6) = w7 at *
  clear O0 O1 O2 y0 y1 y2 T0 T1 T2
  refine Calls.mono (H3.out _ hbw7) ?_
  rintro e w8 ⟨rfl, hb8, i8⟩
  have hbw8 := bel_trans hbw7 hb8
  have J8 := (show Hid _ from (Ints.mono (IRow.ints i8 (by have := HSM.out.acc; unfold maxLen; omega)) (S' := fun b => w.heap.size + 1 + 1 < b) (fun b hb => by subst hb; have := HB7.out.2.2.2; omega)))
  clear i8
  have D8 := (show Hid _ from (⟨Ints.still I7.out hb8, IRows.still R7.out hb8, J8.out⟩ : DLies w8 (fun b => w.heap.size + 1 + 1 < b) d (.slice (some ⟨W3.heap.size, 0, none⟩) d.cls.length d.cls.length) (.slice a6 d.nxt.length cap6) (.slice (some ⟨w7.heap.size, 0, none⟩) d.acc.length d.acc.length)))
  obtain ⟨TB8, RB8, OB8⟩ := (⟨Box3.still HB7.out.1 hb8, Box3.still HB7.out.2.1 hb8, Box3.still HB7.out.2.2.1 hb8⟩ : _ ∧ _ ∧ _)
  obtain ⟨⟨O0, O1, O2⟩, y0, y1, y2⟩ := Box3.cells OB8
  obtain ⟨⟨P0, P1, P2⟩, _⟩ := Box3.cells (OB8.set2 (.slice (some ⟨w7.heap.size, 0, none⟩) d.acc.length d.acc.length))
  have RB9 := (RB8.keep (w' := w8.setCell ⟨w.heap.size + 1 + 1, 2, none⟩ (.slice (some ⟨w7.heap.size, 0, none⟩) d.acc.length d.acc.length)) (blk_setCell_other _ _ _ _ (by show w.heap.size + 1 ≠ w.heap.size + 1 + 1; omega)))
  obtain ⟨⟨R0, R1, R2⟩, x0, x1, x2⟩ := Box3.cells RB9
  have RB10 := ((RB9.set0 (.slice (some ⟨W3.heap.size, 0, none⟩) d.cls.length d.cls.length)).set1 (.slice a6 d.nxt.length cap6)).set2 (.slice (some ⟨w7.heap.size, 0, none⟩) d.acc.length d.acc.length)
  obtain ⟨⟨Z0, Z1, Z2⟩, _⟩ := Box3.cells RB10
  clear TB8 RB8 OB8 RB9 RB10 I7 R7 J8 HB7
  have hbw9 := (((hbw8.setCell (p := ⟨w.heap.size + 1 + 1, 2, none⟩) (by show w.heap.size ≤ w.heap.size + 1 + 1; omega) (.slice (some ⟨w7.heap.size, 0, none⟩) d.acc.length d.acc.length)).setCell (p := ⟨w.heap.size + 1, 0, none⟩) (by show w.heap.size ≤ w.heap.size + 1; omega) (.slice (some ⟨W3.heap.size, 0, none⟩) d.cls.length d.cls.length)).setCell (p := ⟨w.heap.size + 1, 1, none⟩) (by show w.heap.size ≤ w.heap.size + 1; omega) (.slice a6 d.nxt.length cap6)).setCell (p := ⟨w.heap.size + 1, 2, none⟩) (by show w.heap.size ≤ w.heap.size + 1; omega) (.slice (some ⟨w7.heap.size, 0, none⟩) d.acc.length d.acc.length)
  have D9 : DLies ((((w8.setCell ⟨w.heap.size + 1 + 1, 2, none⟩ (.slice (some ⟨w7.heap.size, 0, none⟩) d.acc.length d.acc.length)).setCell ⟨w.heap.size + 1, 0, none⟩ (.slice (some ⟨W3.heap.size, 0, none⟩) d.cls.length d.cls.length)).setCell ⟨w.heap.size + 1, 1, none⟩ (.slice a6 d.nxt.length cap6)).setCell ⟨w.heap.size + 1, 2, none⟩ (.slice (some ⟨w7.heap.size, 0, none⟩) d.acc.length d.acc.length)) (fun b => w.heap.size + 1 + 1 < b) d (.slice (some ⟨W3.heap.size, 0, none⟩) d.cls.length d.cls.length) (.slice a6 d.nxt.length cap6) (.slice (some ⟨w7.heap.size, 0, none⟩) d.acc.length d.acc.length) := by
    have hk : ∀ b, w.heap.size + 1 + 1 < b → b < w8.heap.size → ((((w8.setCell ⟨w.heap.size + 1 + 1, 2, none⟩ (.slice (some ⟨w7.heap.size, 0, none⟩) d.acc.length d.acc.length)).setCell ⟨w.heap.size + 1, 0, none⟩ (.slice (some ⟨W3.heap.size, 0, none⟩) d.cls.length d.cls.length)).setCell ⟨w.heap.size + 1, 1, none⟩ (.slice a6 d.nxt.length cap6)).setCell ⟨w.heap.size + 1, 2, none⟩ (.slice (some ⟨w7.heap.size, 0, none⟩) d.acc.length d.acc.length)).heap[b]? = w8.heap[b]? := fun b hb _ => by
      rw [blk_setCell_other _ _ _ _ (by show b ≠ w.heap.size + 1; omega), blk_setCell_other _ _ _ _ (by show b ≠ w.heap.size + 1; omega), blk_setCell_other _ _ _ _ (by show b ≠ w.heap.size + 1; omega), blk_setCell_other _ _ _ _ (by show b ≠ w.heap.size + 1 + 1; omega)]
    exact ⟨Ints.keep (DLies.cls D8.out) hk, IRows.keep (DLies.nxt D8.out) hk, Ints.keep (DLies.acc D8.out) hk⟩
  have HD9 := (show Hid _ from D9); clear D9 D8
  go_wp2_with fail
  refine bodyPost_ret (v := .agg #[(.slice (some ⟨W3.heap.size, 0, none⟩) d.cls.length d.cls.length), (.slice a6 d.nxt.length cap6), (.slice (some ⟨w7.heap.size, 0, none⟩) d.acc.length d.acc.length)]) (by simp [results, Try.results7, go_sem, Z0, Z1, Z2]) rfl ⟨(.slice (some ⟨W3.heap.size, 0, none⟩) d.cls.length d.cls.length), (.slice a6 d.nxt.length cap6), (.slice (some ⟨w7.heap.size, 0, none⟩) d.acc.length d.acc.length), rfl, hbw9, ?_⟩
  exact ⟨Ints.mono (DLies.cls HD9.out) (fun _ _ => trivial), IRows.mono (DLies.nxt HD9.out) (fun _ _ => trivial), Ints.mono (DLies.acc HD9.out) (fun _ _ => trivial)⟩
end Go.Proofs.Ythmdoplickpmaaj
