import Derived.Test.YtjpjjfgdgieapaaDoorTo3
/-! Copies that own what they lie in. -/
namespace Go.Proofs.YtjpjjfgdgieapaaDoor
open Go.RowKit Go.Deep
set_option linter.unusedVariables false
set_option maxRecDepth 100000
set_option linter.unusedSimpArgs false

/-- A row of its own, in a block of S. -/
def StrsO (w : World) (S : Nat → Prop) (l : List ByteArray) (v : Value) : Prop :=
  ∃ (b : Nat) (f : Nat → Value), v = .slice (some ⟨b, 0, none⟩) l.length l.length ∧ S b ∧ l.length ≤ 1048576 ∧ w.rowIs b 9 (l.length) f ∧ ∀ i (hi : i < l.length), f (i) = .string l[i] ∧ l[i].size ≤ maxLen
theorem StrsO.keep {w w' : World} {S : Nat → Prop} {l : List ByteArray} {v : Value} (h : StrsO w S l v) (hb : ∀ b, S b → b < w.heap.size → w'.heap[b]? = w.heap[b]?) : StrsO w' S l v := by
  obtain ⟨b, f, hv, hS, hn, hr, hf⟩ := h
  exact ⟨b, f, hv, hS, hn, World.rowIs.of_block hr (hb b hS (World.rowIs.lt hr)), hf⟩
theorem StrsO.still {w w' : World} {S : Nat → Prop} {l : List ByteArray} {v : Value} (h : StrsO w S l v) (hb : Below w.heap.size w w') : StrsO w' S l v := h.keep (fun b _ hlt => hb.block b hlt)
theorem StrsO.mono {w : World} {S S' : Nat → Prop} {l : List ByteArray} {v : Value} (h : StrsO w S l v) (hS : ∀ b, S b → S' b) : StrsO w S' l v := by
  obtain ⟨b, f, hv, h1, r⟩ := h
  exact ⟨b, f, hv, hS _ h1, r⟩
theorem StrsO.form {w : World} {S : Nat → Prop} {l : List ByteArray} {v : Value} (h : StrsO w S l v) : ∃ a cap, v = .slice a l.length cap ∧ l.length ≤ maxLen := by
  obtain ⟨b, f, hv, h1, hn, _⟩ := h
  exact ⟨_, _, hv, by unfold maxLen; omega⟩
theorem StrsO.top {w : World} {S : Nat → Prop} {l : List ByteArray} {v : Value} (h : StrsO w S l v) : StrsO w (fun b => S b ∧ b < w.heap.size) l v := by
  obtain ⟨b, f, hv, h1, hn, hr, hf⟩ := h
  exact ⟨b, f, hv, ⟨h1, World.rowIs.lt hr⟩, hn, hr, hf⟩
theorem StrsO.lies {w : World} {S : Nat → Prop} {l : List ByteArray} {v : Value} (h : StrsO w S l v) : Strs w S l v := by
  obtain ⟨b, f, hv, h1, hn, hr, hf⟩ := h
  refine ⟨_, _, b, 0, hv, Nat.le_refl _, by unfold maxLen; omega, fun _ => ⟨rfl, h1⟩, fun i hi => ?_⟩
  obtain ⟨c0, s0⟩ := hf i hi
  exact ⟨by rw [Nat.zero_add, hr.cell (by omega), c0], s0⟩
/-- A row of its own, in a block of S. -/
def TmsO (w : World) (S : Nat → Prop) (l : List Tm) (v : Value) : Prop :=
  ∃ (b : Nat) (f : Nat → Value), v = .slice (some ⟨b, 0, none⟩) l.length l.length ∧ S b ∧ l.length ≤ 1048576 ∧ w.rowIs b 80 (l.length * 3) f ∧ ∀ i (hi : i < l.length), f (i * 3) = .string l[i].name ∧ f (i * 3 + 1) = .int .i64 l[i].lev ∧ f (i * 3 + 2) = .int .i64 l[i].asc ∧ l[i].name.size ≤ maxLen
theorem TmsO.keep {w w' : World} {S : Nat → Prop} {l : List Tm} {v : Value} (h : TmsO w S l v) (hb : ∀ b, S b → b < w.heap.size → w'.heap[b]? = w.heap[b]?) : TmsO w' S l v := by
  obtain ⟨b, f, hv, hS, hn, hr, hf⟩ := h
  exact ⟨b, f, hv, hS, hn, World.rowIs.of_block hr (hb b hS (World.rowIs.lt hr)), hf⟩
theorem TmsO.still {w w' : World} {S : Nat → Prop} {l : List Tm} {v : Value} (h : TmsO w S l v) (hb : Below w.heap.size w w') : TmsO w' S l v := h.keep (fun b _ hlt => hb.block b hlt)
theorem TmsO.mono {w : World} {S S' : Nat → Prop} {l : List Tm} {v : Value} (h : TmsO w S l v) (hS : ∀ b, S b → S' b) : TmsO w S' l v := by
  obtain ⟨b, f, hv, h1, r⟩ := h
  exact ⟨b, f, hv, hS _ h1, r⟩
theorem TmsO.form {w : World} {S : Nat → Prop} {l : List Tm} {v : Value} (h : TmsO w S l v) : ∃ a cap, v = .slice a l.length cap ∧ l.length ≤ maxLen := by
  obtain ⟨b, f, hv, h1, hn, _⟩ := h
  exact ⟨_, _, hv, by unfold maxLen; omega⟩
theorem TmsO.top {w : World} {S : Nat → Prop} {l : List Tm} {v : Value} (h : TmsO w S l v) : TmsO w (fun b => S b ∧ b < w.heap.size) l v := by
  obtain ⟨b, f, hv, h1, hn, hr, hf⟩ := h
  exact ⟨b, f, hv, ⟨h1, World.rowIs.lt hr⟩, hn, hr, hf⟩
theorem TmsO.lies {w : World} {S : Nat → Prop} {l : List Tm} {v : Value} (h : TmsO w S l v) : Tms w S l v := by
  obtain ⟨b, f, hv, h1, hn, hr, hf⟩ := h
  refine ⟨_, _, b, 0, hv, Nat.le_refl _, by unfold maxLen; omega, fun _ => ⟨rfl, h1⟩, fun i hi => ?_⟩
  obtain ⟨c0, c1, c2, s0⟩ := hf i hi
  exact ⟨by rw [Nat.zero_add, hr.cell (by omega), c0], by rw [Nat.zero_add, hr.cell (by omega), c1], by rw [Nat.zero_add, hr.cell (by omega), c2], s0⟩
/-- Prods in a row of their own, their Rights too. -/
def PdsO (w : World) (S : Nat → Prop) (l : List Pd) (v : Value) : Prop :=
  ∃ (b : Nat) (f : Nat → Value), v = .slice (some ⟨b, 0, none⟩) l.length l.length ∧ S b ∧ l.length ≤ 1048576 ∧ w.rowIs b 82 (l.length * 5) f ∧ ∀ i (hi : i < l.length), (f (i * 5) = .int .i64 l[i].left ∧ f (i * 5 + 2) = .string l[i].label ∧ f (i * 5 + 3) = .int .i64 l[i].lev ∧ f (i * 5 + 4) = .int .i64 l[i].asc ∧ l[i].label.size ≤ maxLen ∧ l[i].right.length ≤ 1048576) ∧ ∃ c, f (i * 5 + 1) = .slice (some ⟨c, 0, none⟩) l[i].right.length l[i].right.length ∧ S c ∧ IRow w c l[i].right
theorem PdsO.keep {w w' : World} {S : Nat → Prop} {l : List Pd} {v : Value} (h : PdsO w S l v) (hb : ∀ b, S b → b < w.heap.size → w'.heap[b]? = w.heap[b]?) : PdsO w' S l v := by
  obtain ⟨b, f, hv, hS, hn, hr, hf⟩ := h
  refine ⟨b, f, hv, hS, hn, World.rowIs.of_block hr (hb b hS (World.rowIs.lt hr)), fun i hi => ?_⟩
  obtain ⟨h1, c, h2, h3, h4⟩ := hf i hi
  exact ⟨h1, c, h2, h3, World.rowIs.of_block h4 (hb c h3 (World.rowIs.lt h4))⟩
theorem PdsO.still {w w' : World} {S : Nat → Prop} {l : List Pd} {v : Value} (h : PdsO w S l v) (hb : Below w.heap.size w w') : PdsO w' S l v := h.keep (fun b _ hlt => hb.block b hlt)
theorem PdsO.mono {w : World} {S S' : Nat → Prop} {l : List Pd} {v : Value} (h : PdsO w S l v) (hS : ∀ b, S b → S' b) : PdsO w S' l v := by
  obtain ⟨b, f, hv, h1, hn, hr, hf⟩ := h
  refine ⟨b, f, hv, hS _ h1, hn, hr, fun i hi => ?_⟩
  obtain ⟨h1, c, h2, h3, h4⟩ := hf i hi
  exact ⟨h1, c, h2, hS _ h3, h4⟩
theorem PdsO.form {w : World} {S : Nat → Prop} {l : List Pd} {v : Value} (h : PdsO w S l v) : ∃ a cap, v = .slice a l.length cap ∧ l.length ≤ maxLen := by
  obtain ⟨b, f, hv, h1, hn, _⟩ := h
  exact ⟨_, _, hv, by unfold maxLen; omega⟩
theorem PdsO.top {w : World} {S : Nat → Prop} {l : List Pd} {v : Value} (h : PdsO w S l v) : PdsO w (fun b => S b ∧ b < w.heap.size) l v := by
  obtain ⟨b, f, hv, h1, hn, hr, hf⟩ := h
  refine ⟨b, f, hv, ⟨h1, World.rowIs.lt hr⟩, hn, hr, fun i hi => ?_⟩
  obtain ⟨h1, c, h2, h3, h4⟩ := hf i hi
  exact ⟨h1, c, h2, ⟨h3, World.rowIs.lt h4⟩, h4⟩
theorem PdsO.lies {w : World} {S : Nat → Prop} {l : List Pd} {v : Value} (h : PdsO w S l v) : Pds w S l v := by
  obtain ⟨b, f, hv, h1, hn, hr, hf⟩ := h
  refine ⟨_, _, b, 0, fun i => f (i * 5 + 1), hv, Nat.le_refl _, by unfold maxLen; omega, fun _ => ⟨rfl, h1⟩, fun i hi => ?_, fun i hi => ?_⟩
  · obtain ⟨⟨c0, c2, c3, c4, s, _⟩, _⟩ := hf i hi
    exact ⟨by rw [Nat.zero_add, hr.cell (by omega), c0], by rw [Nat.zero_add, hr.cell (by omega)], by rw [Nat.zero_add, hr.cell (by omega), c2], by rw [Nat.zero_add, hr.cell (by omega), c3], by rw [Nat.zero_add, hr.cell (by omega), c4], s⟩
  · obtain ⟨⟨_, _, _, _, _, s⟩, c, h2, h3, h4⟩ := hf i hi
    have := h4.ints (by unfold maxLen; omega)
    simp only [h2]
    exact this.mono (fun b hb => by have hb' : b = c := hb; rw [hb']; exact h3)
set_option maxHeartbeats 400000 in
theorem toStrsO_any {S : Nat → Prop} (l : List ByteArray) (v : Value) (w : World) (h : Strs w S l v) (hlen : l.length ≤ 1048576) :
    Calls Tryd.prog 23 #[v] w fun e w' => ∃ v', e = .returned v' ∧ Below w.heap.size w w' ∧ StrsO w' (fun b => w.heap.size ≤ b) l v' := by
  obtain ⟨a, cap, b, off, rfl, hc, hm, ha, hcell⟩ := h
  have HC := (show Hid _ from hcell); clear hcell
  have HA := (show Hid _ from ha); clear ha
  unfold maxLen at hm
  have hmk := run_makeStrs l.length hlen
  go_enter Tryd.func23, Tryd.ntmps23
  go_wp2_with fail
  go_loopw [4] (fun i wr => ∃ j : Nat, j ≤ l.length ∧ i = .int .i64 j ∧ Below w.heap.size w wr ∧ Hid (∃ f, wr.rowIs w.heap.size 9 l.length f ∧ ∀ i (_ : i < j) (hi : i < l.length), f i = .string l[i])) (fun i _ => l.length - (intOf i).toNat)
  case atStart =>
    obtain ⟨f, hf⟩ := row_made w #[.string ByteArray.empty] l.length 9
    exact ⟨0, Nat.zero_le _, rfl, bel_alloc _ _, f, hf, fun i hi => absurd hi (Nat.not_lt_zero _)⟩
  case round =>
    obtain ⟨j, hj, rfl, hbel, HM⟩ := hrel
    obtain ⟨f, hrow, hf⟩ := HM.out
    by_cases hlt : j < l.length
    · obtain ⟨rfl, _⟩ := HA.out (by omega)
      have c0 := (HC.out j hlt).1
      rw [← hbel.cell (lt_of_cell c0)] at c0
      have e0 := hrow.cell (i := j) (by omega)
      have z0 := hrow.frozen j
      have HR := (show Hid _ from (⟨hrow, hf⟩ : _ ∧ _)); clear hrow hf
      go_wp2_with fail
      refine ⟨⟨j + 1, by omega, by go_num, hbel.setCell (Nat.le_refl _) _, _, World.rowIs.set HR.out.1 j (.string l[j]), fun i hi hl => ?_⟩, by simp [intOf]; omega⟩
      by_cases e : i = j
      · subst e; simp
      · rw [if_neg e]; exact HR.out.2 i (by omega) hl
    · go_wp2_with fail
      go_ret
      exact ⟨_, rfl, hbel, w.heap.size, f, rfl, Nat.le_refl _, hlen, hrow, fun i hi => ⟨hf i (by omega) hi, (HC.out i hi).2⟩⟩
set_option maxHeartbeats 800000 in
theorem toTermsO_any {S : Nat → Prop} (l : List Tm) (v : Value) (w : World) (h : Tms w S l v) (hlen : l.length ≤ 1048576) :
    Calls Tryd.prog 22 #[v] w fun e w' => ∃ v', e = .returned v' ∧ Below w.heap.size w w' ∧ TmsO w' (fun b => w.heap.size ≤ b) l v' := by
  obtain ⟨a, cap, b, off, rfl, hc, hm, ha, hcell⟩ := h
  have HC := (show Hid _ from hcell); clear hcell
  have HA := (show Hid _ from ha); clear ha
  unfold maxLen at hm
  have hmk := run_makeTms l.length hlen
  go_enter Tryd.func22, Tryd.ntmps22
  go_wp2_with fail
  go_loopw [4] (fun i wr => ∃ j : Nat, j ≤ l.length ∧ i = .int .i64 j ∧ Below w.heap.size w wr ∧ Hid (∃ f, wr.rowIs w.heap.size 80 (l.length * 3) f ∧ ∀ i (_ : i < j) (hi : i < l.length), f (i * 3) = .string l[i].name ∧ f (i * 3 + 1) = .int .i64 l[i].lev ∧ f (i * 3 + 2) = .int .i64 l[i].asc)) (fun i _ => l.length - (intOf i).toNat)
  case atStart =>
    obtain ⟨f, hf⟩ := row_made w #[.string ByteArray.empty, .int .i64 0, .int .i64 0] (l.length * 3) 80
    exact ⟨0, Nat.zero_le _, rfl, bel_alloc _ _, f, hf, fun i hi => absurd hi (Nat.not_lt_zero _)⟩
  case round =>
    obtain ⟨j, hj, rfl, hbel, HM⟩ := hrel
    by_cases hlt : j < l.length
    · obtain ⟨rfl, _⟩ := HA.out (by omega)
      obtain ⟨c0, c1, c2, _⟩ := HC.out j hlt
      rw [← hbel.cell (lt_of_cell c0)] at c0
      rw [← hbel.cell (lt_of_cell c1)] at c1
      rw [← hbel.cell (lt_of_cell c2)] at c2
      have HCL := (show Hid _ from toTerm_any l[j] wr)
      go_wp2_with fail
      refine Calls.mono HCL.out ?_
      rintro e w1 ⟨rfl, hb1⟩
      obtain ⟨f, hrow, hf⟩ := HM.out
      have hrow1 := World.rowIs.of_block hrow (hb1.block _ (World.rowIs.lt hrow))
      have hbw := bel_trans hbel hb1
      have e0 := hrow1.cell (i := j * 3) (by omega)
      have e1 := hrow1.cell (i := j * 3 + 1) (by omega)
      have e2 := hrow1.cell (i := j * 3 + 2) (by omega)
      have z0 := hrow1.frozen (j * 3)
      have z1 := hrow1.frozen (j * 3 + 1)
      have z2 := hrow1.frozen (j * 3 + 2)
      have HN := (show Hid _ from (⟨hrow1, hf⟩ : _ ∧ _)); clear hrow hf hrow1 HM c0 c1 c2
      go_wp2_with fail
      refine ⟨⟨j + 1, by omega, by go_num, ((hbw.setCell (Nat.le_refl _) _).setCell (Nat.le_refl _) _).setCell (Nat.le_refl _) _, _, World.rowIs.set (World.rowIs.set (World.rowIs.set HN.out.1 (j * 3) _) (j * 3 + 1) _) (j * 3 + 2) _, fun i hi hl => ?_⟩, by simp [intOf]; omega⟩
      by_cases e : i = j
      · subst e; simp
      · obtain ⟨g0, g1, g2⟩ := HN.out.2 i (by omega) hl
        refine ⟨?_, ?_, ?_⟩
        · rw [if_neg (by omega), if_neg (by omega), if_neg (by omega)]; exact g0
        · rw [if_neg (by omega), if_neg (by omega), if_neg (by omega)]; exact g1
        · rw [if_neg (by omega), if_neg (by omega), if_neg (by omega)]; exact g2
    · go_wp2_with fail
      go_ret
      obtain ⟨f, hrow, hf⟩ := HM.out
      refine ⟨_, rfl, hbel, w.heap.size, f, rfl, Nat.le_refl _, hlen, hrow, fun i hi => ?_⟩
      obtain ⟨g0, g1, g2⟩ := hf i (by omega) hi
      exact ⟨g0, g1, g2, (HC.out i hi).2.2.2⟩
set_option maxHeartbeats 800000 in
theorem toProdO_any {S : Nat → Prop} (t : Pd) (v : Value) (w : World) (h : Ints w S t.right v) (hl : t.right.length ≤ 1048576) :
    Calls Tryd.prog 55 #[.agg #[.int .i64 t.left, v, .string t.label, .int .i64 t.lev, .int .i64 t.asc]] w fun e w' => ∃ c, e = .returned (.agg #[.int .i64 t.left, .slice (some ⟨c, 0, none⟩) t.right.length t.right.length, .string t.label, .int .i64 t.lev, .int .i64 t.asc]) ∧ Below w.heap.size w w' ∧ w.heap.size ≤ c ∧ IRow w' c t.right := by
  obtain ⟨a, cap, rfl, _⟩ := h.form
  have hbw : Below w.heap.size w (WP w t (.slice a t.right.length cap)) := ((bel_alloc _ _).alloc (by simp) _).alloc (by simp; omega) _
  have HI := (show Hid _ from toInts_any t.right _ _ (h.still hbw) hl)
  have HB := (show Hid _ from hbw); clear h hbw
  go_enter Tryd.func55, Tryd.ntmps55
  go_wp2_with fail
  refine Calls.mono HI.out ?_
  rintro e w1 ⟨rfl, hb1, hi1⟩
  have hz : (WP w t (.slice a t.right.length cap)).heap.size = w.heap.size + 3 := by simp
  have A2 : w1.cell? ⟨w.heap.size, 2, none⟩ = some (.string t.label) := by rw [hb1.cell (by show w.heap.size < (WP w t _).heap.size; rw [hz]; omega)]; simp [go_sem]
  have A3 : w1.cell? ⟨w.heap.size, 3, none⟩ = some (.int .i64 t.lev) := by rw [hb1.cell (by show w.heap.size < (WP w t _).heap.size; rw [hz]; omega)]; simp [go_sem]
  have A4 : w1.cell? ⟨w.heap.size, 4, none⟩ = some (.int .i64 t.asc) := by rw [hb1.cell (by show w.heap.size < (WP w t _).heap.size; rw [hz]; omega)]; simp [go_sem]
  have hr1 : ∃ f, w1.rowIs (w.heap.size + 1) 82 5 f := by
    refine ⟨fun i => (#[.int .i64 0, .slice none 0 0, .string ByteArray.empty, .int .i64 0, .int .i64 0][i]?).getD .nilFunc, _, (hb1.block _ (by rw [hz]; omega)).trans ((blk_alloc_lt _ _ _ (by simp)).trans (by have := blk_alloc_new (w.alloc (.cells #[.int .i64 t.left, .slice a t.right.length cap, .string t.label, .int .i64 t.lev, .int .i64 t.asc] 77)) (.cells #[.int .i64 0, .slice none 0 0, .string ByteArray.empty, .int .i64 0, .int .i64 0] 82); simpa using this)), rfl, fun i hi => ?_⟩
    have : i = 0 ∨ i = 1 ∨ i = 2 ∨ i = 3 ∨ i = 4 := by omega
    rcases this with rfl | rfl | rfl | rfl | rfl <;> rfl
  have hr2 : ∃ f, w1.rowIs (w.heap.size + 1 + 1) 82 5 f ∧ f 0 = .int .i64 t.left := by
    refine ⟨fun i => (#[.int .i64 t.left, .slice none 0 0, .string ByteArray.empty, .int .i64 0, .int .i64 0][i]?).getD .nilFunc, ⟨_, (hb1.block _ (by rw [hz]; omega)).trans (by have := blk_alloc_new ((w.alloc (.cells #[.int .i64 t.left, .slice a t.right.length cap, .string t.label, .int .i64 t.lev, .int .i64 t.asc] 77)).alloc (.cells #[.int .i64 0, .slice none 0 0, .string ByteArray.empty, .int .i64 0, .int .i64 0] 82)) (.cells #[.int .i64 t.left, .slice none 0 0, .string ByteArray.empty, .int .i64 0, .int .i64 0] 82); simpa using this), rfl, fun i hi => ?_⟩, rfl⟩
    have : i = 0 ∨ i = 1 ∨ i = 2 ∨ i = 3 ∨ i = 4 := by omega
    rcases this with rfl | rfl | rfl | rfl | rfl <;> rfl
  obtain ⟨f1, r1⟩ := hr1
  obtain ⟨f2, r2, r20⟩ := hr2
  have B0 := r1.cell (i := 0) (by omega)
  have B1 := r1.cell (i := 1) (by omega)
  have B2 := r1.cell (i := 2) (by omega)
  have B3 := r1.cell (i := 3) (by omega)
  have B4 := r1.cell (i := 4) (by omega)
  have y0 := r1.frozen 0
  have y1 := r1.frozen 1
  have y2 := r1.frozen 2
  have y3 := r1.frozen 3
  have y4 := r1.frozen 4
  have C0 := r2.cell (i := 0) (by omega)
  rw [r20] at C0
  have C1 := r2.cell (i := 1) (by omega)
  have C2 := r2.cell (i := 2) (by omega)
  have C3 := r2.cell (i := 3) (by omega)
  have C4 := r2.cell (i := 4) (by omega)
  have x1 := r2.frozen 1
  have x2 := r2.frozen 2
  have x3 := r2.frozen 3
  have x4 := r2.frozen 4
  rw [hz] at hi1
  have HX := (show Hid _ from (⟨HB.out.trans (hb1.mono (by rw [hz]; omega)), hi1⟩ : Below w.heap.size w w1 ∧ IRow w1 (w.heap.size + 3) t.right)); clear hb1 hi1 hz r1 r2 r20 HI HB
  go_wp2_with fail
  refine bodyPost_ret (v := .agg #[.int .i64 t.left, .slice (some ⟨w.heap.size + 1 + 1 + 1, 0, none⟩) t.right.length t.right.length, .string t.label, .int .i64 t.lev, .int .i64 t.asc]) (by simp [results, Tryd.results55, go_sem, B0, B1, B2, B3, B4]) rfl ⟨_, rfl, ?_, by omega, ?_⟩
  · repeat (refine Below.setCell ?_ (by dsimp only; omega) _)
    exact HX.out.1
  · refine World.rowIs.of_block HX.out.2 ?_
    repeat rw [blk_setCell_other _ _ _ _ (by dsimp only; omega)]
set_option maxHeartbeats 800000 in
theorem toProdsO_any {S : Nat → Prop} (l : List Pd) (v : Value) (w : World) (h : Pds w S l v) (hlen : l.length ≤ 1048576) (hls : ∀ i (hi : i < l.length), l[i].right.length ≤ 1048576) :
    Calls Tryd.prog 24 #[v] w fun e w' => ∃ v', e = .returned v' ∧ Below w.heap.size w w' ∧ PdsO w' (fun b => w.heap.size ≤ b) l v' := by
  obtain ⟨a, cap, b, off, sv, rfl, hc, hm, ha, hcell, hr⟩ := h
  have HC := (show Hid _ from hcell); clear hcell
  have HA := (show Hid _ from ha); clear ha
  have HR := (show Hid _ from hr); clear hr
  have HS := (show Hid _ from hls); clear hls
  unfold maxLen at hm
  have hmk := run_makePds l.length hlen
  go_enter Tryd.func24, Tryd.ntmps24
  go_wp2_with fail
  go_loopw [4] (fun i wr => ∃ j : Nat, j ≤ l.length ∧ i = .int .i64 j ∧ Below w.heap.size w wr ∧ Hid (∃ f, wr.rowIs w.heap.size 82 (l.length * 5) f ∧ ∀ i (_ : i < j) (hi : i < l.length), (f (i * 5) = .int .i64 l[i].left ∧ f (i * 5 + 2) = .string l[i].label ∧ f (i * 5 + 3) = .int .i64 l[i].lev ∧ f (i * 5 + 4) = .int .i64 l[i].asc) ∧ ∃ c, f (i * 5 + 1) = .slice (some ⟨c, 0, none⟩) l[i].right.length l[i].right.length ∧ w.heap.size < c ∧ IRow wr c l[i].right)) (fun i _ => l.length - (intOf i).toNat)
  case atStart =>
    obtain ⟨f, hf⟩ := row_made w #[.int .i64 0, .slice none 0 0, .string ByteArray.empty, .int .i64 0, .int .i64 0] (l.length * 5) 82
    exact ⟨0, Nat.zero_le _, rfl, bel_alloc _ _, f, hf, fun i hi => absurd hi (Nat.not_lt_zero _)⟩
  case round =>
    obtain ⟨j, hj, rfl, hbel, HM⟩ := hrel
    by_cases hlt : j < l.length
    · obtain ⟨rfl, _⟩ := HA.out (by omega)
      obtain ⟨c0, c1, c2, c3, c4, _⟩ := HC.out j hlt
      rw [← hbel.cell (lt_of_cell c0)] at c0
      rw [← hbel.cell (lt_of_cell c1)] at c1
      rw [← hbel.cell (lt_of_cell c2)] at c2
      rw [← hbel.cell (lt_of_cell c3)] at c3
      rw [← hbel.cell (lt_of_cell c4)] at c4
      have hcl := toProdO_any l[j] _ wr ((HR.out j hlt).still hbel) (HS.out j hlt)
      obtain ⟨a2, cap2, e2, _⟩ := (HR.out j hlt).form
      rw [e2] at c1 hcl
      have HCL := (show Hid _ from hcl); clear hcl e2
      go_wp2_with fail
      refine Calls.mono HCL.out ?_
      rintro e w1 ⟨cc, rfl, hb1, hcc, hi1⟩
      obtain ⟨f, hrow, hf⟩ := HM.out
      have hg := World.rowIs.lt hrow
      have hrow1 := World.rowIs.of_block hrow (hb1.block _ hg)
      have hf1 : ∀ i (_ : i < j) (hi : i < l.length), (f (i * 5) = .int .i64 l[i].left ∧ f (i * 5 + 2) = .string l[i].label ∧ f (i * 5 + 3) = .int .i64 l[i].lev ∧ f (i * 5 + 4) = .int .i64 l[i].asc) ∧ ∃ c, f (i * 5 + 1) = .slice (some ⟨c, 0, none⟩) l[i].right.length l[i].right.length ∧ w.heap.size < c ∧ IRow w1 c l[i].right := fun i h1 h2 => ⟨(hf i h1 h2).1, by obtain ⟨c, k1, k2, k3⟩ := (hf i h1 h2).2; exact ⟨c, k1, k2, World.rowIs.of_block k3 (hb1.block c (World.rowIs.lt k3))⟩⟩
      have hnew : w.heap.size < cc ∧ IRow w1 cc l[j].right := ⟨Nat.lt_of_lt_of_le hg hcc, hi1⟩
      have hbw := bel_trans hbel hb1
      have e0 := hrow1.cell (i := j * 5) (by omega)
      have e1 := hrow1.cell (i := j * 5 + 1) (by omega)
      have e2 := hrow1.cell (i := j * 5 + 2) (by omega)
      have e3 := hrow1.cell (i := j * 5 + 3) (by omega)
      have e4 := hrow1.cell (i := j * 5 + 4) (by omega)
      have z0 := hrow1.frozen (j * 5)
      have z1 := hrow1.frozen (j * 5 + 1)
      have z2 := hrow1.frozen (j * 5 + 2)
      have z3 := hrow1.frozen (j * 5 + 3)
      have z4 := hrow1.frozen (j * 5 + 4)
      have HN := (show Hid _ from (⟨hrow1, hf1, hnew⟩ : _ ∧ _ ∧ _)); clear hrow hf hrow1 hf1 hnew hi1 hg HM c0 c1 c2 c3 c4
      go_wp2_with fail
      have hkeep : ∀ (x : List Int) (c : Nat), w.heap.size < c → IRow w1 c x → IRow (((((w1.setCell ⟨w.heap.size, j * 5, none⟩ (.int .i64 l[j].left)).setCell ⟨w.heap.size, j * 5 + 1, none⟩ (.slice (some ⟨cc, 0, none⟩) l[j].right.length l[j].right.length)).setCell ⟨w.heap.size, j * 5 + 2, none⟩ (.string l[j].label)).setCell ⟨w.heap.size, j * 5 + 3, none⟩ (.int .i64 l[j].lev)).setCell ⟨w.heap.size, j * 5 + 4, none⟩ (.int .i64 l[j].asc)) c x := fun x c hc hx => World.rowIs.of_block hx (by
        repeat rw [blk_setCell_other _ _ _ _ (by dsimp only; omega)])
      refine ⟨⟨j + 1, by omega, by go_num, ((((hbw.setCell (Nat.le_refl _) _).setCell (Nat.le_refl _) _).setCell (Nat.le_refl _) _).setCell (Nat.le_refl _) _).setCell (Nat.le_refl _) _, _, World.rowIs.set (World.rowIs.set (World.rowIs.set (World.rowIs.set (World.rowIs.set HN.out.1 (j * 5) _) (j * 5 + 1) _) (j * 5 + 2) _) (j * 5 + 3) _) (j * 5 + 4) _, fun i hi hl => ?_⟩, by simp [intOf]; omega⟩
      by_cases e : i = j
      · subst e
        refine ⟨by simp, cc, by simp, HN.out.2.2.1, ?_⟩
        exact hkeep _ _ HN.out.2.2.1 HN.out.2.2.2
      · obtain ⟨⟨g0, g2, g3, g4⟩, g1⟩ := HN.out.2.1 i (by omega) hl
        refine ⟨⟨?_, ?_, ?_, ?_⟩, ?_⟩
        · rw [if_neg (by omega), if_neg (by omega), if_neg (by omega), if_neg (by omega), if_neg (by omega)]; exact g0
        · rw [if_neg (by omega), if_neg (by omega), if_neg (by omega), if_neg (by omega), if_neg (by omega)]; exact g2
        · rw [if_neg (by omega), if_neg (by omega), if_neg (by omega), if_neg (by omega), if_neg (by omega)]; exact g3
        · rw [if_neg (by omega), if_neg (by omega), if_neg (by omega), if_neg (by omega), if_neg (by omega)]; exact g4
        · obtain ⟨c, k1, k2, k3⟩ := g1
          exact ⟨c, by rw [if_neg (by omega), if_neg (by omega), if_neg (by omega), if_neg (by omega), if_neg (by omega)]; exact k1, k2, hkeep _ _ k2 k3⟩
    · go_wp2_with fail
      go_ret
      obtain ⟨f, hrow, hf⟩ := HM.out
      refine ⟨_, rfl, hbel, w.heap.size, f, rfl, Nat.le_refl _, hlen, hrow, fun i hi => ?_⟩
      obtain ⟨⟨g0, g2, g3, g4⟩, c, k1, k2, k3⟩ := hf i (by omega) hi
      exact ⟨⟨g0, g2, g3, g4, (HC.out i hi).2.2.2.2.2, HS.out i hi⟩, c, k1, Nat.le_of_lt k2, k3⟩
end Go.Proofs.YtjpjjfgdgieapaaDoor
