import Derived.Test.YtjpjjfgdgieapaaDoorTo
import Derived.Deep.CutRange
namespace Go.Proofs.YtjpjjfgdgieapaaDoor
open Go.RowKit Go.Deep
set_option linter.unusedVariables false
set_option maxRecDepth 100000
set_option linter.unusedSimpArgs false

/-- What toProd lays ahead. -/
abbrev WP (w : World) (t : Pd) (v : Value) : World := ((w.alloc (.cells #[.int .i64 t.left, v, .string t.label, .int .i64 t.lev, .int .i64 t.asc] 77)).alloc (.cells #[.int .i64 0, .slice none 0 0, .string ByteArray.empty, .int .i64 0, .int .i64 0] 82)).alloc (.cells #[.int .i64 t.left, .slice none 0 0, .string ByteArray.empty, .int .i64 0, .int .i64 0] 82)
set_option maxHeartbeats 800000 in
theorem toProd_any {S : Nat → Prop} (t : Pd) (v : Value) (w : World) (h : Ints w S t.right v) (hl : t.right.length ≤ 1048576) :
    Calls Tryd.prog 55 #[.agg #[.int .i64 t.left, v, .string t.label, .int .i64 t.lev, .int .i64 t.asc]] w fun e w' => ∃ v', e = .returned (.agg #[.int .i64 t.left, v', .string t.label, .int .i64 t.lev, .int .i64 t.asc]) ∧ Below w.heap.size w w' ∧ Ints w' (fun b => w.heap.size ≤ b) t.right v' := by
  obtain ⟨a, cap, rfl, _⟩ := h.form
  have hbw : Below w.heap.size w (WP w t (.slice a t.right.length cap)) := ((bel_alloc _ _).alloc (by simp) _).alloc (by simp; omega) _
  have HI := (show Hid _ from toInts_any t.right _ _ (h.still hbw) hl)
  have HB := (show Hid _ from hbw); clear h hbw
  go_enter Tryd.func55, Tryd.ntmps55
  go_wp2_with fail
  refine Calls.mono HI.out ?_
  rintro e w1 ⟨rfl, hb1, hi1⟩
  have hz : (WP w t (.slice a t.right.length cap)).heap.size = w.heap.size + 3 := by simp
  have A2 : w1.cell? ⟨w.heap.size, 2, none⟩ = some (.string t.label) := by rw [hb1.cell (by show w.heap.size < (WP w t _).heap.size; rw [hz]; omega)]; simp [go_sem]
  have A3 : w1.cell? ⟨w.heap.size, 3, none⟩ = some (.int .i64 t.lev) := by rw [hb1.cell (by show w.heap.size < (WP w t _).heap.size; rw [hz]; omega)]; simp [go_sem]
  have A4 : w1.cell? ⟨w.heap.size, 4, none⟩ = some (.int .i64 t.asc) := by rw [hb1.cell (by show w.heap.size < (WP w t _).heap.size; rw [hz]; omega)]; simp [go_sem]
  have hr1 : ∃ f, w1.rowIs (w.heap.size + 1) 82 5 f := by
    refine ⟨fun i => (#[.int .i64 0, .slice none 0 0, .string ByteArray.empty, .int .i64 0, .int .i64 0][i]?).getD .nilFunc, _, (hb1.block _ (by rw [hz]; omega)).trans ((blk_alloc_lt _ _ _ (by simp)).trans (by have := blk_alloc_new (w.alloc (.cells #[.int .i64 t.left, .slice a t.right.length cap, .string t.label, .int .i64 t.lev, .int .i64 t.asc] 77)) (.cells #[.int .i64 0, .slice none 0 0, .string ByteArray.empty, .int .i64 0, .int .i64 0] 82); simpa using this)), rfl, fun i hi => ?_⟩
    have : i = 0 ∨ i = 1 ∨ i = 2 ∨ i = 3 ∨ i = 4 := by omega
    rcases this with rfl | rfl | rfl | rfl | rfl <;> rfl
  have hr2 : ∃ f, w1.rowIs (w.heap.size + 1 + 1) 82 5 f ∧ f 0 = .int .i64 t.left := by
    refine ⟨fun i => (#[.int .i64 t.left, .slice none 0 0, .string ByteArray.empty, .int .i64 0, .int .i64 0][i]?).getD .nilFunc, ⟨_, (hb1.block _ (by rw [hz]; omega)).trans (by have := blk_alloc_new ((w.alloc (.cells #[.int .i64 t.left, .slice a t.right.length cap, .string t.label, .int .i64 t.lev, .int .i64 t.asc] 77)).alloc (.cells #[.int .i64 0, .slice none 0 0, .string ByteArray.empty, .int .i64 0, .int .i64 0] 82)) (.cells #[.int .i64 t.left, .slice none 0 0, .string ByteArray.empty, .int .i64 0, .int .i64 0] 82); simpa using this), rfl, fun i hi => ?_⟩, rfl⟩
    have : i = 0 ∨ i = 1 ∨ i = 2 ∨ i = 3 ∨ i = 4 := by omega
    rcases this with rfl | rfl | rfl | rfl | rfl <;> rfl
  obtain ⟨f1, r1⟩ := hr1
  obtain ⟨f2, r2, r20⟩ := hr2
  have B0 := r1.cell (i := 0) (by omega)
  have B1 := r1.cell (i := 1) (by omega)
  have B2 := r1.cell (i := 2) (by omega)
  have B3 := r1.cell (i := 3) (by omega)
  have B4 := r1.cell (i := 4) (by omega)
  have y0 := r1.frozen 0
  have y1 := r1.frozen 1
  have y2 := r1.frozen 2
  have y3 := r1.frozen 3
  have y4 := r1.frozen 4
  have C0 := r2.cell (i := 0) (by omega)
  rw [r20] at C0
  have C1 := r2.cell (i := 1) (by omega)
  have C2 := r2.cell (i := 2) (by omega)
  have C3 := r2.cell (i := 3) (by omega)
  have C4 := r2.cell (i := 4) (by omega)
  have x1 := r2.frozen 1
  have x2 := r2.frozen 2
  have x3 := r2.frozen 3
  have x4 := r2.frozen 4
  rw [hz] at hi1
  have HX := (show Hid _ from (⟨HB.out.trans (hb1.mono (by rw [hz]; omega)), hi1⟩ : Below w.heap.size w w1 ∧ IRow w1 (w.heap.size + 3) t.right)); clear hb1 hi1 hz r1 r2 r20 HI HB
  go_wp2_with fail
  refine bodyPost_ret (v := .agg #[.int .i64 t.left, .slice (some ⟨w.heap.size + 1 + 1 + 1, 0, none⟩) t.right.length t.right.length, .string t.label, .int .i64 t.lev, .int .i64 t.asc]) (by simp [results, Tryd.results55, go_sem, B0, B1, B2, B3, B4]) rfl ⟨_, rfl, ?_, ?_⟩
  · repeat (refine Below.setCell ?_ (by dsimp only; omega) _)
    exact HX.out.1
  · refine (Ints.keep (HX.out.2.ints (by unfold maxLen; omega)) (fun b hb _ => ?_)).mono (fun b hb => by show w.heap.size ≤ b; omega)
    have hb' : b = w.heap.size + 3 := hb
    subst hb'
    repeat rw [blk_setCell_other _ _ _ _ (by dsimp only; omega)]
set_option maxHeartbeats 800000 in
theorem toProds_any {S : Nat → Prop} (l : List Pd) (v : Value) (w : World) (h : Pds w S l v) (hlen : l.length ≤ 1048576) (hls : ∀ i (hi : i < l.length), l[i].right.length ≤ 1048576) :
    Calls Tryd.prog 24 #[v] w fun e w' => ∃ v', e = .returned v' ∧ Below w.heap.size w w' ∧ Pds w' (fun b => w.heap.size ≤ b) l v' := by
  obtain ⟨a, cap, b, off, sv, rfl, hc, hm, ha, hcell, hr⟩ := h
  have HC := (show Hid _ from hcell); clear hcell
  have HA := (show Hid _ from ha); clear ha
  have HR := (show Hid _ from hr); clear hr
  have HS := (show Hid _ from hls); clear hls
  unfold maxLen at hm
  have hmk := run_makePds l.length hlen
  go_enter Tryd.func24, Tryd.ntmps24
  go_wp2_with fail
  go_loopw [4] (fun i wr => ∃ j : Nat, j ≤ l.length ∧ i = .int .i64 j ∧ Below w.heap.size w wr ∧ Hid (∃ f, wr.rowIs w.heap.size 82 (l.length * 5) f ∧ ∀ i (_ : i < j) (hi : i < l.length), (f (i * 5) = .int .i64 l[i].left ∧ f (i * 5 + 2) = .string l[i].label ∧ f (i * 5 + 3) = .int .i64 l[i].lev ∧ f (i * 5 + 4) = .int .i64 l[i].asc) ∧ Ints wr (fun b => w.heap.size < b) l[i].right (f (i * 5 + 1)))) (fun i _ => l.length - (intOf i).toNat)
  case atStart =>
    obtain ⟨f, hf⟩ := row_made w #[.int .i64 0, .slice none 0 0, .string ByteArray.empty, .int .i64 0, .int .i64 0] (l.length * 5) 82
    exact ⟨0, Nat.zero_le _, rfl, bel_alloc _ _, f, hf, fun i hi => absurd hi (Nat.not_lt_zero _)⟩
  case round =>
    obtain ⟨j, hj, rfl, hbel, HM⟩ := hrel
    by_cases hlt : j < l.length
    · obtain ⟨rfl, _⟩ := HA.out (by omega)
      obtain ⟨c0, c1, c2, c3, c4, _⟩ := HC.out j hlt
      rw [← hbel.cell (lt_of_cell c0)] at c0
      rw [← hbel.cell (lt_of_cell c1)] at c1
      rw [← hbel.cell (lt_of_cell c2)] at c2
      rw [← hbel.cell (lt_of_cell c3)] at c3
      rw [← hbel.cell (lt_of_cell c4)] at c4
      have hcl := toProd_any l[j] _ wr ((HR.out j hlt).still hbel) (HS.out j hlt)
      obtain ⟨a2, cap2, e2, _⟩ := (HR.out j hlt).form
      rw [e2] at c1 hcl
      have HCL := (show Hid _ from hcl); clear hcl e2
      go_wp2_with fail
      refine Calls.mono HCL.out ?_
      rintro e w1 ⟨v1, rfl, hb1, hi1⟩
      obtain ⟨a3, cap3, rfl, _⟩ := hi1.form
      obtain ⟨f, hrow, hf⟩ := HM.out
      have hg := World.rowIs.lt hrow
      have hrow1 := World.rowIs.of_block hrow (hb1.block _ hg)
      have hf1 : ∀ i (_ : i < j) (hi : i < l.length), (f (i * 5) = .int .i64 l[i].left ∧ f (i * 5 + 2) = .string l[i].label ∧ f (i * 5 + 3) = .int .i64 l[i].lev ∧ f (i * 5 + 4) = .int .i64 l[i].asc) ∧ Ints w1 (fun b => w.heap.size < b) l[i].right (f (i * 5 + 1)) := fun i h1 h2 => ⟨(hf i h1 h2).1, (hf i h1 h2).2.still hb1⟩
      have hnew : Ints w1 (fun b => w.heap.size < b) l[j].right (.slice a3 l[j].right.length cap3) := hi1.mono (fun b hb => Nat.lt_of_lt_of_le hg hb)
      have hbw := bel_trans hbel hb1
      have e0 := hrow1.cell (i := j * 5) (by omega)
      have e1 := hrow1.cell (i := j * 5 + 1) (by omega)
      have e2 := hrow1.cell (i := j * 5 + 2) (by omega)
      have e3 := hrow1.cell (i := j * 5 + 3) (by omega)
      have e4 := hrow1.cell (i := j * 5 + 4) (by omega)
      have z0 := hrow1.frozen (j * 5)
      have z1 := hrow1.frozen (j * 5 + 1)
      have z2 := hrow1.frozen (j * 5 + 2)
      have z3 := hrow1.frozen (j * 5 + 3)
      have z4 := hrow1.frozen (j * 5 + 4)
      have HN := (show Hid _ from (⟨hrow1, hf1, hnew⟩ : _ ∧ _ ∧ _)); clear hrow hf hrow1 hf1 hnew hi1 hg HM c0 c1 c2 c3 c4
      go_wp2_with fail
      have hkeep : ∀ (x : List Int) (u : Value), Ints w1 (fun b => w.heap.size < b) x u → Ints (((((w1.setCell ⟨w.heap.size, j * 5, none⟩ (.int .i64 l[j].left)).setCell ⟨w.heap.size, j * 5 + 1, none⟩ (.slice a3 l[j].right.length cap3)).setCell ⟨w.heap.size, j * 5 + 2, none⟩ (.string l[j].label)).setCell ⟨w.heap.size, j * 5 + 3, none⟩ (.int .i64 l[j].lev)).setCell ⟨w.heap.size, j * 5 + 4, none⟩ (.int .i64 l[j].asc)) (fun b => w.heap.size < b) x u := fun x u hx => hx.keep (fun b hb _ => by
        have hb' : w.heap.size < b := hb
        repeat rw [blk_setCell_other _ _ _ _ (by dsimp only; omega)])
      refine ⟨⟨j + 1, by omega, by go_num, ((((hbw.setCell (Nat.le_refl _) _).setCell (Nat.le_refl _) _).setCell (Nat.le_refl _) _).setCell (Nat.le_refl _) _).setCell (Nat.le_refl _) _, _, World.rowIs.set (World.rowIs.set (World.rowIs.set (World.rowIs.set (World.rowIs.set HN.out.1 (j * 5) _) (j * 5 + 1) _) (j * 5 + 2) _) (j * 5 + 3) _) (j * 5 + 4) _, fun i hi hl => ?_⟩, by simp [intOf]; omega⟩
      by_cases e : i = j
      · subst e
        refine ⟨by simp, ?_⟩
        simp
        exact hkeep _ _ HN.out.2.2
      · obtain ⟨⟨g0, g2, g3, g4⟩, g1⟩ := HN.out.2.1 i (by omega) hl
        refine ⟨⟨?_, ?_, ?_, ?_⟩, ?_⟩
        · rw [if_neg (by omega), if_neg (by omega), if_neg (by omega), if_neg (by omega), if_neg (by omega)]; exact g0
        · rw [if_neg (by omega), if_neg (by omega), if_neg (by omega), if_neg (by omega), if_neg (by omega)]; exact g2
        · rw [if_neg (by omega), if_neg (by omega), if_neg (by omega), if_neg (by omega), if_neg (by omega)]; exact g3
        · rw [if_neg (by omega), if_neg (by omega), if_neg (by omega), if_neg (by omega), if_neg (by omega)]; exact g4
        · rw [if_neg (by omega), if_neg (by omega), if_neg (by omega), if_neg (by omega), if_neg (by omega)]; exact hkeep _ _ g1
    · go_wp2_with fail
      go_ret
      obtain ⟨f, hrow, hf⟩ := HM.out
      refine ⟨_, rfl, hbel, _, _, w.heap.size, 0, fun i => f (i * 5 + 1), rfl, Nat.le_refl _, by unfold maxLen; omega, fun _ => ⟨rfl, Nat.le_refl _⟩, fun i hi => ?_, fun i hi => (hf i (by omega) hi).2.mono (fun _ hb => Nat.le_of_lt hb)⟩
      obtain ⟨⟨g0, g2, g3, g4⟩, g1⟩ := hf i (by omega) hi
      exact ⟨by rw [Nat.zero_add, hrow.cell (by omega), g0], by rw [Nat.zero_add, hrow.cell (by omega)], by rw [Nat.zero_add, hrow.cell (by omega), g2], by rw [Nat.zero_add, hrow.cell (by omega), g3], by rw [Nat.zero_add, hrow.cell (by omega), g4], (HC.out i hi).2.2.2.2.2⟩
end Go.Proofs.YtjpjjfgdgieapaaDoor

namespace Go.Proofs.YtjpjjfgdgieapaaDoor
open Go.RowKit Go.Deep
set_option linter.unusedVariables false
set_option maxRecDepth 100000
set_option linter.unusedSimpArgs false

/-- A box of four cells that may be written. -/
structure Box4 (w : World) (g T : Nat) (c0 c1 c2 c3 : Value) : Prop where
  ex : ∃ f, w.rowIs g T 4 f ∧ f 0 = c0 ∧ f 1 = c1 ∧ f 2 = c2 ∧ f 3 = c3
theorem Box4.new (w : World) (T : Nat) (c0 c1 c2 c3 : Value) : Box4 (w.alloc (.cells #[c0, c1, c2, c3] T)) w.heap.size T c0 c1 c2 c3 :=
  ⟨fun i => #[c0, c1, c2, c3].getD i c0, ⟨#[c0, c1, c2, c3], blk_alloc_new _ _, rfl, fun i hi => by
    match i, hi with
    | 0, _ => rfl
    | 1, _ => rfl
    | 2, _ => rfl
    | 3, _ => rfl⟩, rfl, rfl, rfl, rfl⟩
theorem Box4.lt {w : World} {g T : Nat} {c0 c1 c2 c3 : Value} (h : Box4 w g T c0 c1 c2 c3) : g < w.heap.size := by obtain ⟨f, h, _⟩ := h; exact World.rowIs.lt h
theorem Box4.keep {w w' : World} {g T : Nat} {c0 c1 c2 c3 : Value} (h : Box4 w g T c0 c1 c2 c3) (hb : w'.heap[g]? = w.heap[g]?) : Box4 w' g T c0 c1 c2 c3 := by
  obtain ⟨f, h, e⟩ := h; exact ⟨f, World.rowIs.of_block h hb, e⟩
theorem Box4.still {w w' : World} {g T : Nat} {c0 c1 c2 c3 : Value} (h : Box4 w g T c0 c1 c2 c3) (hb : Below w.heap.size w w') : Box4 w' g T c0 c1 c2 c3 := h.keep (hb.block g h.lt)
theorem Box4.cells {w : World} {g T : Nat} {c0 c1 c2 c3 : Value} (h : Box4 w g T c0 c1 c2 c3) : Four w g c0 c1 c2 c3 := by
  obtain ⟨f, h, rfl, rfl, rfl, rfl⟩ := h
  exact ⟨h.cell (by omega), h.cell (by omega), h.cell (by omega), h.cell (by omega)⟩
theorem Box4.frozen {w : World} {g T : Nat} {c0 c1 c2 c3 : Value} (h : Box4 w g T c0 c1 c2 c3) (i : Nat) : w.frozen? ⟨g, i, none⟩ = false := by obtain ⟨f, h, _⟩ := h; exact h.frozen i
theorem Box4.set0 {w : World} {g T : Nat} {c0 c1 c2 c3 : Value} (h : Box4 w g T c0 c1 c2 c3) (u : Value) : Box4 (w.setCell ⟨g, 0, none⟩ u) g T u c1 c2 c3 := by
  obtain ⟨f, h, e0, e1, e2, e3⟩ := h
  exact ⟨_, h.set 0 u, if_pos rfl, by rw [if_neg (by omega)]; exact e1, by rw [if_neg (by omega)]; exact e2, by rw [if_neg (by omega)]; exact e3⟩
theorem Box4.set1 {w : World} {g T : Nat} {c0 c1 c2 c3 : Value} (h : Box4 w g T c0 c1 c2 c3) (u : Value) : Box4 (w.setCell ⟨g, 1, none⟩ u) g T c0 u c2 c3 := by
  obtain ⟨f, h, e0, e1, e2, e3⟩ := h
  exact ⟨_, h.set 1 u, by rw [if_neg (by omega)]; exact e0, if_pos rfl, by rw [if_neg (by omega)]; exact e2, by rw [if_neg (by omega)]; exact e3⟩
theorem Box4.set2 {w : World} {g T : Nat} {c0 c1 c2 c3 : Value} (h : Box4 w g T c0 c1 c2 c3) (u : Value) : Box4 (w.setCell ⟨g, 2, none⟩ u) g T c0 c1 u c3 := by
  obtain ⟨f, h, e0, e1, e2, e3⟩ := h
  exact ⟨_, h.set 2 u, by rw [if_neg (by omega)]; exact e0, by rw [if_neg (by omega)]; exact e1, if_pos rfl, by rw [if_neg (by omega)]; exact e3⟩
theorem Box4.past {w : World} {g T q o : Nat} {c0 c1 c2 c3 u : Value} (h : Box4 w g T c0 c1 c2 c3) (hq : g ≠ q) : Box4 (w.setCell ⟨q, o, none⟩ u) g T c0 c1 c2 c3 := h.keep (blk_setCell_other _ _ _ _ (by exact hq))

/-- What toBnf lays ahead. -/
abbrev WB (w : World) (v0 v1 v2 v3 : Value) : World := ((w.alloc (.cells #[v0, v1, v2, v3] 26)).alloc (.cells #[.slice none 0 0, .slice none 0 0, .int .i64 0, .slice none 0 0] 38)).alloc (.cells #[.slice none 0 0, .slice none 0 0, .int .i64 0, .slice none 0 0] 38)
theorem wb_boxes (w : World) (v0 v1 v2 v3 : Value) : Below w.heap.size w (WB w v0 v1 v2 v3) ∧ (WB w v0 v1 v2 v3).heap.size = w.heap.size + 3 ∧ Box4 (WB w v0 v1 v2 v3) w.heap.size 26 v0 v1 v2 v3 ∧ Box4 (WB w v0 v1 v2 v3) (w.heap.size + 1) 38 (.slice none 0 0) (.slice none 0 0) (.int .i64 0) (.slice none 0 0) ∧ Box4 (WB w v0 v1 v2 v3) (w.heap.size + 1 + 1) 38 (.slice none 0 0) (.slice none 0 0) (.int .i64 0) (.slice none 0 0) := by
  refine ⟨((bel_alloc _ _).alloc (by simp) _).alloc (by simp; omega) _, by simp, ((Box4.new w 26 v0 v1 v2 v3).still (bel_alloc _ _)).still (bel_alloc _ _), ?_, ?_⟩
  · have h := (Box4.new (w.alloc (.cells #[v0, v1, v2, v3] 26)) 38 (.slice none 0 0) (.slice none 0 0) (.int .i64 0) (.slice none 0 0)).still (bel_alloc _ (.cells #[.slice none 0 0, .slice none 0 0, .int .i64 0, .slice none 0 0] 38))
    simp only [World.size_alloc] at h
    exact h
  · have h := Box4.new ((w.alloc (.cells #[v0, v1, v2, v3] 26)).alloc (.cells #[.slice none 0 0, .slice none 0 0, .int .i64 0, .slice none 0 0] 38)) 38 (.slice none 0 0) (.slice none 0 0) (.int .i64 0) (.slice none 0 0)
    simp only [World.size_alloc] at h
    exact h

set_option maxHeartbeats 1600000 in
theorem toBnf_any {S : Nat → Prop} (d : Bn) (v0 v1 v3 : Value) (w : World) (h : BLies w S d v0 v1 v3) (hs : d.Small) :
    Calls Tryd.prog 6 #[.agg #[v0, v1, .int .i64 d.own, v3]] w fun e w' => ∃ u0 u1 u3, e = .returned (.agg #[u0, u1, .int .i64 d.own, u3]) ∧ Below w.heap.size w w' ∧ BLies w' (fun b => w.heap.size ≤ b) d u0 u1 u3 := by
  obtain ⟨a0, p0, a1, p1, a3, p3, rfl, rfl, rfl⟩ := h.form
  obtain ⟨hbw, hz, q1, q2, q3⟩ := wb_boxes w (.slice a0 d.terms.length p0) (.slice a1 d.nons.length p1) (.int .i64 d.own) (.slice a3 d.prods.length p3)
  have hL := h.still hbw
  have HT := (show Hid _ from toTerms_any d.terms _ _ hL.terms hs.terms)
  obtain ⟨x0, x1, x2, x3⟩ := q1.cells
  have H0 := (show Hid _ from (⟨hbw, hz, q1, q2, q3, h, hs⟩ : Below w.heap.size w (WB w (.slice a0 d.terms.length p0) (.slice a1 d.nons.length p1) (.int .i64 d.own) (.slice a3 d.prods.length p3)) ∧ (WB w (.slice a0 d.terms.length p0) (.slice a1 d.nons.length p1) (.int .i64 d.own) (.slice a3 d.prods.length p3)).heap.size = w.heap.size + 3 ∧ Box4 (WB w (.slice a0 d.terms.length p0) (.slice a1 d.nons.length p1) (.int .i64 d.own) (.slice a3 d.prods.length p3)) w.heap.size 26 _ _ _ _ ∧ Box4 (WB w (.slice a0 d.terms.length p0) (.slice a1 d.nons.length p1) (.int .i64 d.own) (.slice a3 d.prods.length p3)) (w.heap.size + 1) 38 _ _ _ _ ∧ Box4 (WB w (.slice a0 d.terms.length p0) (.slice a1 d.nons.length p1) (.int .i64 d.own) (.slice a3 d.prods.length p3)) (w.heap.size + 1 + 1) 38 _ _ _ _ ∧ BLies w S d (.slice a0 d.terms.length p0) (.slice a1 d.nons.length p1) (.slice a3 d.prods.length p3) ∧ d.Small)); clear hbw hz q1 q2 q3 hL h hs
  go_enter Tryd.func6, Tryd.ntmps6
  go_wp2_with fail
  refine Calls.mono HT.out ?_
  rintro e w1 ⟨u0, rfl, hb1, ht1⟩
  obtain ⟨b0, r0, rfl, _⟩ := ht1.form
  obtain ⟨hbw, hz, q1, q2, q3, h, hs⟩ := H0.out
  rw [hz] at ht1
  have hz1 : w.heap.size + 3 ≤ w1.heap.size := by have := hb1.size; omega
  have q1' := q1.still hb1
  have q2' := q2.still hb1
  have q3' := q3.still hb1
  have y0 := q3'.frozen 0
  have t0 := q3'.cells.1
  have hb4 : Below w.heap.size w (w1.setCell ⟨w.heap.size + 1 + 1, 0, none⟩ (.slice b0 d.terms.length r0)) := (hbw.trans (hb1.mono (by rw [hz]; omega))).setCell (by dsimp only; omega) _
  have HN := (show Hid _ from (⟨q1'.past (by omega), q2'.past (by omega), q3'.set0 (.slice b0 d.terms.length r0), ht1.keep (fun b hb _ => blk_setCell_other _ _ _ _ (by have hb' : w.heap.size + 3 ≤ b := hb; show b ≠ w.heap.size + 1 + 1; omega)), hb4, by simpa using hz1⟩ : Box4 (w1.setCell ⟨w.heap.size + 1 + 1, 0, none⟩ (.slice b0 d.terms.length r0)) w.heap.size 26 (.slice a0 d.terms.length p0) (.slice a1 d.nons.length p1) (.int .i64 d.own) (.slice a3 d.prods.length p3) ∧ Box4 (w1.setCell ⟨w.heap.size + 1 + 1, 0, none⟩ (.slice b0 d.terms.length r0)) (w.heap.size + 1) 38 (.slice none 0 0) (.slice none 0 0) (.int .i64 0) (.slice none 0 0) ∧ Box4 (w1.setCell ⟨w.heap.size + 1 + 1, 0, none⟩ (.slice b0 d.terms.length r0)) (w.heap.size + 1 + 1) 38 (.slice b0 d.terms.length r0) (.slice none 0 0) (.int .i64 0) (.slice none 0 0) ∧ Tms (w1.setCell ⟨w.heap.size + 1 + 1, 0, none⟩ (.slice b0 d.terms.length r0)) (fun b => w.heap.size + 3 ≤ b) d.terms (.slice b0 d.terms.length r0) ∧ Below w.heap.size w (w1.setCell ⟨w.heap.size + 1 + 1, 0, none⟩ (.slice b0 d.terms.length r0)) ∧ w.heap.size + 3 ≤ (w1.setCell ⟨w.heap.size + 1 + 1, 0, none⟩ (.slice b0 d.terms.length r0)).heap.size))
  have HT2 := (show Hid _ from toStrs_any d.nons _ _ (h.nons.still hb4) hs.nons)
  have HS := (show Hid _ from (⟨h, hs⟩ : BLies w S d (.slice a0 d.terms.length p0) (.slice a1 d.nons.length p1) (.slice a3 d.prods.length p3) ∧ d.Small))
  clear hbw hz q1 q2 q3 h hs ht1 hz1 q1' q2' q3' hb1 hb4 x0 x1 x2 x3 H0 HT
  have x1 := HN.out.1.cells.2.1
  go_upto_region 3 with fail
  clear y0 t0
  generalize w1.setCell ⟨w.heap.size + 1 + 1, 0, none⟩ (.slice b0 d.terms.length r0) = W4 at *
  go_wp2_with fail
  refine Calls.mono HT2.out ?_
  rintro e w2 ⟨u1, rfl, hb2, ht2⟩
  obtain ⟨b1, r1, rfl, _⟩ := ht2.form
  obtain ⟨q1, q2, q3, tt, hb4, hz4⟩ := HN.out
  have hz2 : w.heap.size + 3 ≤ w2.heap.size := by have := hb2.size; omega
  have q1' := q1.still hb2
  have q2' := q2.still hb2
  have q3' := q3.still hb2
  have y1 := q3'.frozen 1
  have y2 := q3'.frozen 2
  have t1 := q3'.cells.2.1
  have t2 := q3'.cells.2.2.1
  have x2 := q1'.cells.2.2.1
  have hkp : ∀ b, w.heap.size + 3 ≤ b → ((w2.setCell ⟨w.heap.size + 1 + 1, 1, none⟩ (.slice b1 d.nons.length r1)).setCell ⟨w.heap.size + 1 + 1, 2, none⟩ (.int .i64 d.own)).heap[b]? = w2.heap[b]? := fun b hb => (blk_setCell_other _ _ _ _ (by show b ≠ w.heap.size + 1 + 1; omega)).trans (blk_setCell_other _ _ _ _ (by show b ≠ w.heap.size + 1 + 1; omega))
  have hb5 : Below w.heap.size w ((w2.setCell ⟨w.heap.size + 1 + 1, 1, none⟩ (.slice b1 d.nons.length r1)).setCell ⟨w.heap.size + 1 + 1, 2, none⟩ (.int .i64 d.own)) := ((hb4.trans (hb2.mono (by omega))).setCell (by dsimp only; omega) _).setCell (by dsimp only; omega) _
  have HN2 := (show Hid _ from (⟨(q1'.past (by omega)).past (by omega), (q2'.past (by omega)).past (by omega), (q3'.set1 (.slice b1 d.nons.length r1)).set2 (.int .i64 d.own), (tt.still hb2).keep (fun b hb _ => hkp b hb), (ht2.mono (fun b hb => Nat.le_trans hz4 hb)).keep (fun b hb _ => hkp b hb), hb5, by simpa using hz2⟩ : Box4 ((w2.setCell ⟨w.heap.size + 1 + 1, 1, none⟩ (.slice b1 d.nons.length r1)).setCell ⟨w.heap.size + 1 + 1, 2, none⟩ (.int .i64 d.own)) w.heap.size 26 (.slice a0 d.terms.length p0) (.slice a1 d.nons.length p1) (.int .i64 d.own) (.slice a3 d.prods.length p3) ∧ Box4 ((w2.setCell ⟨w.heap.size + 1 + 1, 1, none⟩ (.slice b1 d.nons.length r1)).setCell ⟨w.heap.size + 1 + 1, 2, none⟩ (.int .i64 d.own)) (w.heap.size + 1) 38 (.slice none 0 0) (.slice none 0 0) (.int .i64 0) (.slice none 0 0) ∧ Box4 ((w2.setCell ⟨w.heap.size + 1 + 1, 1, none⟩ (.slice b1 d.nons.length r1)).setCell ⟨w.heap.size + 1 + 1, 2, none⟩ (.int .i64 d.own)) (w.heap.size + 1 + 1) 38 (.slice b0 d.terms.length r0) (.slice b1 d.nons.length r1) (.int .i64 d.own) (.slice none 0 0) ∧ Tms ((w2.setCell ⟨w.heap.size + 1 + 1, 1, none⟩ (.slice b1 d.nons.length r1)).setCell ⟨w.heap.size + 1 + 1, 2, none⟩ (.int .i64 d.own)) (fun b => w.heap.size + 3 ≤ b) d.terms (.slice b0 d.terms.length r0) ∧ Strs ((w2.setCell ⟨w.heap.size + 1 + 1, 1, none⟩ (.slice b1 d.nons.length r1)).setCell ⟨w.heap.size + 1 + 1, 2, none⟩ (.int .i64 d.own)) (fun b => w.heap.size + 3 ≤ b) d.nons (.slice b1 d.nons.length r1) ∧ Below w.heap.size w ((w2.setCell ⟨w.heap.size + 1 + 1, 1, none⟩ (.slice b1 d.nons.length r1)).setCell ⟨w.heap.size + 1 + 1, 2, none⟩ (.int .i64 d.own)) ∧ w.heap.size + 3 ≤ ((w2.setCell ⟨w.heap.size + 1 + 1, 1, none⟩ (.slice b1 d.nons.length r1)).setCell ⟨w.heap.size + 1 + 1, 2, none⟩ (.int .i64 d.own)).heap.size))
  have HT3 := (show Hid _ from toProds_any d.prods _ _ (HS.out.1.prods.still hb5) HS.out.2.prods HS.out.2.right)
  clear q1 q2 q3 tt hb4 hz4 hz2 q1' q2' q3' hkp hb5 hb2 ht2 x1 HN HT2
  have x3 := HN2.out.1.cells.2.2.2
  go_upto_region 5 with fail
  clear y1 y2 t1 t2 x2
  generalize (w2.setCell ⟨w.heap.size + 1 + 1, 1, none⟩ (.slice b1 d.nons.length r1)).setCell ⟨w.heap.size + 1 + 1, 2, none⟩ (.int .i64 d.own) = W5 at *
  go_wp2_with fail
  refine Calls.mono HT3.out ?_
  rintro e w3 ⟨u3, rfl, hb3, ht3⟩
  obtain ⟨b3, r3, rfl, _⟩ := ht3.form
  obtain ⟨q1, q2, q3, tt, ts, hb5, hz5⟩ := HN2.out
  have q2' := q2.still hb3
  have q3' := q3.still hb3
  obtain ⟨z0, z1, z2, z3⟩ := q3'.cells
  obtain ⟨s0, s1, s2, s3⟩ := q2'.cells
  have y3 := q3'.frozen 3
  have g0 := q2'.frozen 0
  have g1 := q2'.frozen 1
  have g2 := q2'.frozen 2
  have g3 := q2'.frozen 3
  have HE := (show Hid _ from (⟨tt.still hb3, ts.still hb3, ht3.mono (fun b hb => Nat.le_trans hz5 hb), hb5.trans (hb3.mono (by omega))⟩ : Tms w3 (fun b => w.heap.size + 3 ≤ b) d.terms (.slice b0 d.terms.length r0) ∧ Strs w3 (fun b => w.heap.size + 3 ≤ b) d.nons (.slice b1 d.nons.length r1) ∧ Pds w3 (fun b => w.heap.size + 3 ≤ b) d.prods (.slice b3 d.prods.length r3) ∧ Below w.heap.size w w3))
  clear q1 q2 q3 tt ts hb5 hz5 q2' q3' hb3 ht3 x3 HN2 HT3
  go_wp2_with fail
  refine bodyPost_ret (v := .agg #[.slice b0 d.terms.length r0, .slice b1 d.nons.length r1, .int .i64 d.own, .slice b3 d.prods.length r3]) (by simp [results, Tryd.results6, go_sem, s0, s1, s2, s3]) rfl ⟨_, _, _, rfl, ?_, ?_, ?_, ?_⟩
  · repeat (refine Below.setCell ?_ (by dsimp only; omega) _)
    exact HE.out.2.2.2
  · refine (Tms.keep HE.out.1 (fun b hb _ => ?_)).mono (fun b hb => by have hb' : w.heap.size + 3 ≤ b := hb; show w.heap.size ≤ b; omega)
    have hb' : w.heap.size + 3 ≤ b := hb
    repeat rw [blk_setCell_other _ _ _ _ (by dsimp only; omega)]
  · refine (Strs.keep HE.out.2.1 (fun b hb _ => ?_)).mono (fun b hb => by have hb' : w.heap.size + 3 ≤ b := hb; show w.heap.size ≤ b; omega)
    have hb' : w.heap.size + 3 ≤ b := hb
    repeat rw [blk_setCell_other _ _ _ _ (by dsimp only; omega)]
  · refine (Pds.keep HE.out.2.2.1 (fun b hb _ => ?_)).mono (fun b hb => by have hb' : w.heap.size + 3 ≤ b := hb; show w.heap.size ≤ b; omega)
    have hb' : w.heap.size + 3 ≤ b := hb
    repeat rw [blk_setCell_other _ _ _ _ (by dsimp only; omega)]
end Go.Proofs.YtjpjjfgdgieapaaDoor
