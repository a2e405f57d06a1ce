import Derived.Test.YtaimlmjgicmbeaaTo
namespace Go.Proofs.Ytaimlmjgicmbeaa
open Go.RowKit Go.Deep
set_option linter.unusedVariables false
set_option maxRecDepth 100000
set_option linter.unusedSimpArgs false

/-- What toProd lays ahead. -/
abbrev WP (w : World) (t : Pd) (v : Value) : World := ((w.alloc (.cells #[.int .i64 t.left, v, .string t.label, .int .i64 t.lev, .int .i64 t.asc] 73)).alloc (.cells #[.int .i64 0, .slice none 0 0, .string ByteArray.empty, .int .i64 0, .int .i64 0] 66)).alloc (.cells #[.int .i64 t.left, .slice none 0 0, .string ByteArray.empty, .int .i64 0, .int .i64 0] 66)
set_option maxHeartbeats 800000 in
theorem toProd_any {S : Nat → Prop} (t : Pd) (v : Value) (w : World) (h : Ints w S t.right v) (hl : t.right.length ≤ 1048576) :
    Calls Try.prog 45 #[.agg #[.int .i64 t.left, v, .string t.label, .int .i64 t.lev, .int .i64 t.asc]] w fun e w' => ∃ v', e = .returned (.agg #[.int .i64 t.left, v', .string t.label, .int .i64 t.lev, .int .i64 t.asc]) ∧ Below w.heap.size w w' ∧ Ints w' (fun b => w.heap.size ≤ b) t.right v' := by
  obtain ⟨a, cap, rfl, _⟩ := h.form
  have hbw : Below w.heap.size w (WP w t (.slice a t.right.length cap)) := ((bel_alloc _ _).alloc (by simp) _).alloc (by simp; omega) _
  have HI := (show Hid _ from toInts_any t.right _ _ (h.still hbw) hl)
  have HB := (show Hid _ from hbw); clear h hbw
  go_enter Try.func45, Try.ntmps45
  go_wp2_with fail
  refine Calls.mono HI.out ?_
  rintro e w1 ⟨rfl, hb1, hi1⟩
  have hz : (WP w t (.slice a t.right.length cap)).heap.size = w.heap.size + 3 := by simp
  have A2 : w1.cell? ⟨w.heap.size, 2, none⟩ = some (.string t.label) := by rw [hb1.cell (by show w.heap.size < (WP w t _).heap.size; rw [hz]; omega)]; simp [go_sem]
  have A3 : w1.cell? ⟨w.heap.size, 3, none⟩ = some (.int .i64 t.lev) := by rw [hb1.cell (by show w.heap.size < (WP w t _).heap.size; rw [hz]; omega)]; simp [go_sem]
  have A4 : w1.cell? ⟨w.heap.size, 4, none⟩ = some (.int .i64 t.asc) := by rw [hb1.cell (by show w.heap.size < (WP w t _).heap.size; rw [hz]; omega)]; simp [go_sem]
  have hr1 : ∃ f, w1.rowIs (w.heap.size + 1) 66 5 f := by
    refine ⟨fun i => (#[.int .i64 0, .slice none 0 0, .string ByteArray.empty, .int .i64 0, .int .i64 0][i]?).getD .nilFunc, _, (hb1.block _ (by rw [hz]; omega)).trans ((blk_alloc_lt _ _ _ (by simp)).trans (by have := blk_alloc_new (w.alloc (.cells #[.int .i64 t.left, .slice a t.right.length cap, .string t.label, .int .i64 t.lev, .int .i64 t.asc] 73)) (.cells #[.int .i64 0, .slice none 0 0, .string ByteArray.empty, .int .i64 0, .int .i64 0] 66); simpa using this)), rfl, fun i hi => ?_⟩
    have : i = 0 ∨ i = 1 ∨ i = 2 ∨ i = 3 ∨ i = 4 := by omega
    rcases this with rfl | rfl | rfl | rfl | rfl <;> rfl
  have hr2 : ∃ f, w1.rowIs (w.heap.size + 1 + 1) 66 5 f ∧ f 0 = .int .i64 t.left := by
    refine ⟨fun i => (#[.int .i64 t.left, .slice none 0 0, .string ByteArray.empty, .int .i64 0, .int .i64 0][i]?).getD .nilFunc, ⟨_, (hb1.block _ (by rw [hz]; omega)).trans (by have := blk_alloc_new ((w.alloc (.cells #[.int .i64 t.left, .slice a t.right.length cap, .string t.label, .int .i64 t.lev, .int .i64 t.asc] 73)).alloc (.cells #[.int .i64 0, .slice none 0 0, .string ByteArray.empty, .int .i64 0, .int .i64 0] 66)) (.cells #[.int .i64 t.left, .slice none 0 0, .string ByteArray.empty, .int .i64 0, .int .i64 0] 66); simpa using this), rfl, fun i hi => ?_⟩, rfl⟩
    have : i = 0 ∨ i = 1 ∨ i = 2 ∨ i = 3 ∨ i = 4 := by omega
    rcases this with rfl | rfl | rfl | rfl | rfl <;> rfl
  obtain ⟨f1, r1⟩ := hr1
  obtain ⟨f2, r2, r20⟩ := hr2
  have B0 := r1.cell (i := 0) (by omega)
  have B1 := r1.cell (i := 1) (by omega)
  have B2 := r1.cell (i := 2) (by omega)
  have B3 := r1.cell (i := 3) (by omega)
  have B4 := r1.cell (i := 4) (by omega)
  have y0 := r1.frozen 0
  have y1 := r1.frozen 1
  have y2 := r1.frozen 2
  have y3 := r1.frozen 3
  have y4 := r1.frozen 4
  have C0 := r2.cell (i := 0) (by omega)
  rw [r20] at C0
  have C1 := r2.cell (i := 1) (by omega)
  have C2 := r2.cell (i := 2) (by omega)
  have C3 := r2.cell (i := 3) (by omega)
  have C4 := r2.cell (i := 4) (by omega)
  have x1 := r2.frozen 1
  have x2 := r2.frozen 2
  have x3 := r2.frozen 3
  have x4 := r2.frozen 4
  rw [hz] at hi1
  have HX := (show Hid _ from (⟨HB.out.trans (hb1.mono (by rw [hz]; omega)), hi1⟩ : Below w.heap.size w w1 ∧ IRow w1 (w.heap.size + 3) t.right)); clear hb1 hi1 hz r1 r2 r20 HI HB
  go_wp2_with fail
  refine bodyPost_ret (v := .agg #[.int .i64 t.left, .slice (some ⟨w.heap.size + 1 + 1 + 1, 0, none⟩) t.right.length t.right.length, .string t.label, .int .i64 t.lev, .int .i64 t.asc]) (by simp [results, Try.results45, go_sem, B0, B1, B2, B3, B4]) rfl ⟨_, rfl, ?_, ?_⟩
  · repeat (refine Below.setCell ?_ (by dsimp only; omega) _)
    exact HX.out.1
  · refine (Ints.keep (HX.out.2.ints (by unfold maxLen; omega)) (fun b hb _ => ?_)).mono (fun b hb => by show w.heap.size ≤ b; omega)
    have hb' : b = w.heap.size + 3 := hb
    subst hb'
    repeat rw [blk_setCell_other _ _ _ _ (by dsimp only; omega)]
set_option maxHeartbeats 800000 in
theorem toProds_any {S : Nat → Prop} (l : List Pd) (v : Value) (w : World) (h : Pds w S l v) (hlen : l.length ≤ 1048576) (hls : ∀ i (hi : i < l.length), l[i].right.length ≤ 1048576) :
    Calls Try.prog 25 #[v] w fun e w' => ∃ v', e = .returned v' ∧ Below w.heap.size w w' ∧ Pds w' (fun b => w.heap.size ≤ b) l v' := by
  obtain ⟨a, cap, b, off, sv, rfl, hc, hm, ha, hcell, hr⟩ := h
  have HC := (show Hid _ from hcell); clear hcell
  have HA := (show Hid _ from ha); clear ha
  have HR := (show Hid _ from hr); clear hr
  have HS := (show Hid _ from hls); clear hls
  unfold maxLen at hm
  have hmk := run_makePds l.length hlen
  go_enter Try.func25, Try.ntmps25
  go_wp2_with fail
  go_loopw [4] (fun i wr => ∃ j : Nat, j ≤ l.length ∧ i = .int .i64 j ∧ Below w.heap.size w wr ∧ Hid (∃ f, wr.rowIs w.heap.size 66 (l.length * 5) f ∧ ∀ i (_ : i < j) (hi : i < l.length), (f (i * 5) = .int .i64 l[i].left ∧ f (i * 5 + 2) = .string l[i].label ∧ f (i * 5 + 3) = .int .i64 l[i].lev ∧ f (i * 5 + 4) = .int .i64 l[i].asc) ∧ Ints wr (fun b => w.heap.size < b) l[i].right (f (i * 5 + 1)))) (fun i _ => l.length - (intOf i).toNat)
  case atStart =>
    obtain ⟨f, hf⟩ := row_made w #[.int .i64 0, .slice none 0 0, .string ByteArray.empty, .int .i64 0, .int .i64 0] (l.length * 5) 66
    exact ⟨0, Nat.zero_le _, rfl, bel_alloc _ _, f, hf, fun i hi => absurd hi (Nat.not_lt_zero _)⟩
  case round =>
    obtain ⟨j, hj, rfl, hbel, HM⟩ := hrel
    by_cases hlt : j < l.length
    · obtain ⟨rfl, _⟩ := HA.out (by omega)
      obtain ⟨c0, c1, c2, c3, c4, _⟩ := HC.out j hlt
      rw [← hbel.cell (lt_of_cell c0)] at c0
      rw [← hbel.cell (lt_of_cell c1)] at c1
      rw [← hbel.cell (lt_of_cell c2)] at c2
      rw [← hbel.cell (lt_of_cell c3)] at c3
      rw [← hbel.cell (lt_of_cell c4)] at c4
      have hcl := toProd_any l[j] _ wr ((HR.out j hlt).still hbel) (HS.out j hlt)
      obtain ⟨a2, cap2, e2, _⟩ := (HR.out j hlt).form
      rw [e2] at c1 hcl
      have HCL := (show Hid _ from hcl); clear hcl e2
      go_wp2_with fail
      refine Calls.mono HCL.out ?_
      rintro e w1 ⟨v1, rfl, hb1, hi1⟩
      obtain ⟨a3, cap3, rfl, _⟩ := hi1.form
      obtain ⟨f, hrow, hf⟩ := HM.out
      have hg := World.rowIs.lt hrow
      have hrow1 := World.rowIs.of_block hrow (hb1.block _ hg)
      have hf1 : ∀ i (_ : i < j) (hi : i < l.length), (f (i * 5) = .int .i64 l[i].left ∧ f (i * 5 + 2) = .string l[i].label ∧ f (i * 5 + 3) = .int .i64 l[i].lev ∧ f (i * 5 + 4) = .int .i64 l[i].asc) ∧ Ints w1 (fun b => w.heap.size < b) l[i].right (f (i * 5 + 1)) := fun i h1 h2 => ⟨(hf i h1 h2).1, (hf i h1 h2).2.still hb1⟩
      have hnew : Ints w1 (fun b => w.heap.size < b) l[j].right (.slice a3 l[j].right.length cap3) := hi1.mono (fun b hb => Nat.lt_of_lt_of_le hg hb)
      have hbw := bel_trans hbel hb1
      have e0 := hrow1.cell (i := j * 5) (by omega)
      have e1 := hrow1.cell (i := j * 5 + 1) (by omega)
      have e2 := hrow1.cell (i := j * 5 + 2) (by omega)
      have e3 := hrow1.cell (i := j * 5 + 3) (by omega)
      have e4 := hrow1.cell (i := j * 5 + 4) (by omega)
      have z0 := hrow1.frozen (j * 5)
      have z1 := hrow1.frozen (j * 5 + 1)
      have z2 := hrow1.frozen (j * 5 + 2)
      have z3 := hrow1.frozen (j * 5 + 3)
      have z4 := hrow1.frozen (j * 5 + 4)
      have HN := (show Hid _ from (⟨hrow1, hf1, hnew⟩ : _ ∧ _ ∧ _)); clear hrow hf hrow1 hf1 hnew hi1 hg HM c0 c1 c2 c3 c4
      go_wp2_with fail
      have hkeep : ∀ (x : List Int) (u : Value), Ints w1 (fun b => w.heap.size < b) x u → Ints (((((w1.setCell ⟨w.heap.size, j * 5, none⟩ (.int .i64 l[j].left)).setCell ⟨w.heap.size, j * 5 + 1, none⟩ (.slice a3 l[j].right.length cap3)).setCell ⟨w.heap.size, j * 5 + 2, none⟩ (.string l[j].label)).setCell ⟨w.heap.size, j * 5 + 3, none⟩ (.int .i64 l[j].lev)).setCell ⟨w.heap.size, j * 5 + 4, none⟩ (.int .i64 l[j].asc)) (fun b => w.heap.size < b) x u := fun x u hx => hx.keep (fun b hb _ => by
        have hb' : w.heap.size < b := hb
        repeat rw [blk_setCell_other _ _ _ _ (by dsimp only; omega)])
      refine ⟨⟨j + 1, by omega, by go_num, ((((hbw.setCell (Nat.le_refl _) _).setCell (Nat.le_refl _) _).setCell (Nat.le_refl _) _).setCell (Nat.le_refl _) _).setCell (Nat.le_refl _) _, _, World.rowIs.set (World.rowIs.set (World.rowIs.set (World.rowIs.set (World.rowIs.set HN.out.1 (j * 5) _) (j * 5 + 1) _) (j * 5 + 2) _) (j * 5 + 3) _) (j * 5 + 4) _, fun i hi hl => ?_⟩, by simp [intOf]; omega⟩
      by_cases e : i = j
      · subst e
        refine ⟨by simp, ?_⟩
        simp
        exact hkeep _ _ HN.out.2.2
      · obtain ⟨⟨g0, g2, g3, g4⟩, g1⟩ := HN.out.2.1 i (by omega) hl
        refine ⟨⟨?_, ?_, ?_, ?_⟩, ?_⟩
        · rw [if_neg (by omega), if_neg (by omega), if_neg (by omega), if_neg (by omega), if_neg (by omega)]; exact g0
        · rw [if_neg (by omega), if_neg (by omega), if_neg (by omega), if_neg (by omega), if_neg (by omega)]; exact g2
        · rw [if_neg (by omega), if_neg (by omega), if_neg (by omega), if_neg (by omega), if_neg (by omega)]; exact g3
        · rw [if_neg (by omega), if_neg (by omega), if_neg (by omega), if_neg (by omega), if_neg (by omega)]; exact g4
        · rw [if_neg (by omega), if_neg (by omega), if_neg (by omega), if_neg (by omega), if_neg (by omega)]; exact hkeep _ _ g1
    · go_wp2_with fail
      go_ret
      obtain ⟨f, hrow, hf⟩ := HM.out
      refine ⟨_, rfl, hbel, _, _, w.heap.size, 0, fun i => f (i * 5 + 1), rfl, Nat.le_refl _, by unfold maxLen; omega, fun _ => ⟨rfl, Nat.le_refl _⟩, fun i hi => ?_, fun i hi => (hf i (by omega) hi).2.mono (fun _ hb => Nat.le_of_lt hb)⟩
      obtain ⟨⟨g0, g2, g3, g4⟩, g1⟩ := hf i (by omega) hi
      exact ⟨by rw [Nat.zero_add, hrow.cell (by omega), g0], by rw [Nat.zero_add, hrow.cell (by omega)], by rw [Nat.zero_add, hrow.cell (by omega), g2], by rw [Nat.zero_add, hrow.cell (by omega), g3], by rw [Nat.zero_add, hrow.cell (by omega), g4], (HC.out i hi).2.2.2.2.2⟩
end Go.Proofs.Ytaimlmjgicmbeaa
