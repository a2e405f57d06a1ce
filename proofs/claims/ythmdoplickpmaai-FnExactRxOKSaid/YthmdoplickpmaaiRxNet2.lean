import Derived.Test.YthmdoplickpmaaiRxNet
namespace Go.Proofs.Ythmdoplickpmaai
open Go.RowKit Go.Deep Go.Lib
set_option linter.unusedVariables false
set_option maxRecDepth 100000
set_option linter.unusedSimpArgs false

/-- A function value. -/
def FnV (v : Value) : Prop := ∃ f c, v = .func (.func f) #[] c
/-- The net has grown by one place. -/
def Grew (L q n g : Nat) (e : Ending) (w w' : World) : Prop := (∃ v, e = .returned v ∧ FnV v) ∧ ∃ g', Net w' L q (n + 1) g' ∧ (g' = g ∨ w.heap.size ≤ g') ∧ Out2 q g w w'
theorem Out2.of_below {p b : Nat} {w w' : World} (h : Below w.heap.size w w') : Out2 p b w w' := ⟨h.os, h.tape, h.output, h.size, fun k hk _ _ => h.block k hk⟩
theorem Out2.drewN {p b : Nat} {w w' : World} (h : Out2 p b w w') (n : Nat) : Out2 p b w (w'.drewN n) := ⟨h.1, h.2.1, h.2.2.1, h.2.2.2.1, h.2.2.2.2⟩
theorem Out2.drew {p b : Nat} {w w' : World} (h : Out2 p b w w') : Out2 p b w w'.drew := ⟨h.1, h.2.1, h.2.2.1, h.2.2.2.1, h.2.2.2.2⟩

set_option maxHeartbeats 800000 in
theorem either_any {L q n g f1 f2 : Nat} {c1 c2 : Array Value} (w : World) (h : Net w L q n g) (hn : n ≤ 1000000) :
    Calls Try.prog 66 #[.pointer (some ⟨q, 0, none⟩), .func (.func f1) #[] c1, .func (.func f2) #[] c2] w fun e w' => Grew L q n g e w w' := by
  have hlt := h.lt
  have hb : Below w.heap.size w ((w.alloc (.cells #[.func (.func f1) #[] c1] 74)).alloc (.cells #[.func (.func f2) #[] c2] 74)) := (bel_alloc _ _).alloc (by simp) _
  have hp := newPlace_any _ (h.still hb) hn
  have HP := (show Hid _ from hp); clear hp
  have HB := (show Hid _ from hb); clear hb h
  go_enter Try.func66, Try.ntmps66
  go_wp2_with fail
  refine Calls.mono HP.out ?_
  rintro e w1 ⟨rfl, g', hN, hg, ho⟩
  have HX := (show Hid _ from (⟨hN, hg, ho⟩ : _ ∧ _ ∧ _)); clear hN hg ho
  go_wp2_with fail
  go_ret
  obtain ⟨hN, hg, ho⟩ := HX.out
  simp only [World.size_alloc] at hg
  exact ⟨⟨_, rfl, _, _, rfl⟩, g', hN.still (bel_alloc _ _), by omega, ((Out2.of_below HB.out).trans ho).trans (Out2.of_below (bel_alloc _ _))⟩

set_option maxHeartbeats 800000 in
theorem anyTimes_any {L q n g f1 : Nat} {c1 : Array Value} (w : World) (h : Net w L q n g) (hn : n ≤ 1000000) :
    Calls Try.prog 83 #[.pointer (some ⟨q, 0, none⟩), .func (.func f1) #[] c1] w fun e w' => Grew L q n g e w w' := by
  have hlt := h.lt
  have hb : Below w.heap.size w (w.alloc (.cells #[.func (.func f1) #[] c1] 74)) := bel_alloc _ _
  have hp := newPlace_any _ (h.still hb) hn
  have HP := (show Hid _ from hp); clear hp
  have HB := (show Hid _ from hb); clear hb h
  go_enter Try.func83, Try.ntmps83
  go_wp2_with fail
  refine Calls.mono HP.out ?_
  rintro e w1 ⟨rfl, g', hN, hg, ho⟩
  have HX := (show Hid _ from (⟨hN, hg, ho⟩ : _ ∧ _ ∧ _)); clear hN hg ho
  go_wp2_with fail
  go_ret
  obtain ⟨hN, hg, ho⟩ := HX.out
  simp only [World.size_alloc] at hg
  exact ⟨⟨_, rfl, _, _, rfl⟩, g', hN.still (bel_alloc _ _), by omega, ((Out2.of_below HB.out).trans ho).trans (Out2.of_below (bel_alloc _ _))⟩

set_option maxHeartbeats 800000 in
theorem onceOrMore_any {L q n g f1 : Nat} {c1 : Array Value} (w : World) (h : Net w L q n g) (hn : n ≤ 1000000) :
    Calls Try.prog 84 #[.pointer (some ⟨q, 0, none⟩), .func (.func f1) #[] c1] w fun e w' => Grew L q n g e w w' := by
  have hlt := h.lt
  have hb : Below w.heap.size w (w.alloc (.cells #[.func (.func f1) #[] c1] 74)) := bel_alloc _ _
  have hp := newPlace_any _ (h.still hb) hn
  have HP := (show Hid _ from hp); clear hp
  have HB := (show Hid _ from hb); clear hb h
  go_enter Try.func84, Try.ntmps84
  go_wp2_with fail
  refine Calls.mono HP.out ?_
  rintro e w1 ⟨rfl, g', hN, hg, ho⟩
  have HX := (show Hid _ from (⟨hN, hg, ho⟩ : _ ∧ _ ∧ _)); clear hN hg ho
  go_wp2_with fail
  go_ret
  obtain ⟨hN, hg, ho⟩ := HX.out
  simp only [World.size_alloc] at hg
  exact ⟨⟨_, rfl, _, _, rfl⟩, g', hN.still (bel_alloc _ _), by omega, ((Out2.of_below HB.out).trans ho).trans (Out2.of_below (bel_alloc _ _))⟩

theorem sequence_any {f1 f2 : Nat} {c1 c2 : Array Value} (w : World) :
    Calls Try.prog 72 #[.func (.func f1) #[] c1, .func (.func f2) #[] c2] w fun e w' => (∃ v, e = .returned v ∧ FnV v) ∧ Below w.heap.size w w' := by
  go_enter Try.func72, Try.ntmps72
  go_wp2_with fail
  go_ret
  exact ⟨⟨_, rfl, _, _, rfl⟩, (bel_alloc _ _).alloc (by simp) _⟩

theorem Out2.setIn {p b g o : Nat} {x : Value} {w w' : World} (h : Out2 p b w w') (hg : g = b ∨ w.heap.size ≤ g) : Out2 p b w (w'.setCell ⟨g, o, none⟩ x) :=
  ⟨h.1, h.2.1, h.2.2.1, by simpa using h.2.2.2.1, fun k hk h1 h2 => (blk_setCell_other _ _ _ _ (by show k ≠ g; omega)).trans (h.2.2.2.2 k hk h1 h2)⟩
theorem Net.slot {w : World} {L q n g : Nat} (h : Net w L q n g) : ∃ cap, w.cell? ⟨q, 32, none⟩ = some (.slice (some ⟨g, 0, none⟩) n cap) ∧ n ≤ cap := by
  obtain ⟨f, cap, xs, h1, h2, h3, h4, h5, h6⟩ := h
  refine ⟨cap, by rw [h1.cell (by omega), h2], ?_⟩
  obtain ⟨_, h⟩ := h3
  rcases h with ⟨_, h0⟩ | ⟨g', cap', cur, e, hb, hc, hnc, _⟩
  · omega
  · cases e
    exact hnc

set_option maxHeartbeats 1600000 in
theorem oneOf_any {L q n g : Nat} (n0 n1 n2 n3 : Int) (w : World) (h : Net w L q n g) (hn : n ≤ 1000000) :
    Calls Try.prog 94 #[.pointer (some ⟨q, 0, none⟩), .agg #[.int .u64 n0, .int .u64 n1, .int .u64 n2, .int .u64 n3]] w fun e w' => Grew L q n g e w w' := by
  have hlt := h.lt
  have hb : Below w.heap.size w ((w.alloc (.cells #[.pointer (some ⟨q, 0, none⟩)] 75)).alloc (.cells #[.int .u64 n0, .int .u64 n1, .int .u64 n2, .int .u64 n3] 129)) := (bel_alloc _ _).alloc (by simp) _
  have hp := newPlace_any _ (h.still hb) hn
  have HP := (show Hid _ from hp); clear hp
  have HB := (show Hid _ from hb); clear hb h
  go_enter Try.func94, Try.ntmps94
  go_wp2_with fail
  refine Calls.mono HP.out ?_
  rintro e w1 ⟨rfl, g', hN, hg, ho⟩
  have hz := ho.2.2.2.1
  simp only [World.size_alloc] at hz hg
  have hbk : ∀ i, i < w.heap.size + 2 → i ≠ q → i ≠ g → w1.heap[i]? = ((w.alloc (.cells #[.pointer (some ⟨q, 0, none⟩)] 75)).alloc (.cells #[.int .u64 n0, .int .u64 n1, .int .u64 n2, .int .u64 n3] 129)).heap[i]? := fun i hi h1 h2 => ho.2.2.2.2 i (by simp; omega) h1 h2
  have k0 : w1.heap[w.heap.size]? = some (.cells #[.pointer (some ⟨q, 0, none⟩)] 75 (0, 0)) := (hbk _ (by omega) (by omega) (by omega)).trans ((blk_alloc_lt _ _ _ (by simp)).trans (blk_alloc_new _ _))
  have k1 : w1.heap[w.heap.size + 1]? = some (.cells #[.int .u64 n0, .int .u64 n1, .int .u64 n2, .int .u64 n3] 129 (0, 0)) := (hbk _ (by omega) (by omega) (by omega)).trans (by
    have := blk_alloc_new (w.alloc (.cells #[.pointer (some ⟨q, 0, none⟩)] 75)) (.cells #[.int .u64 n0, .int .u64 n1, .int .u64 n2, .int .u64 n3] 129)
    simpa using this)
  have B0 : w1.cell? ⟨w.heap.size, 0, none⟩ = some (.pointer (some ⟨q, 0, none⟩)) := by simp [World.cell?, k0]
  have B1 : w1.cell? ⟨w.heap.size + 1, 0, none⟩ = some (.int .u64 n0) := by simp [World.cell?, k1]
  have B2 : w1.cell? ⟨w.heap.size + 1, 1, none⟩ = some (.int .u64 n1) := by simp [World.cell?, k1]
  have B3 : w1.cell? ⟨w.heap.size + 1, 2, none⟩ = some (.int .u64 n2) := by simp [World.cell?, k1]
  have B4 : w1.cell? ⟨w.heap.size + 1, 3, none⟩ = some (.int .u64 n3) := by simp [World.cell?, k1]
  have hbW := bel_alloc w1 (.cells #[.int .i64 n] 3)
  rw [← hbW.cell (lt_of_cell B0)] at B0
  rw [← hbW.cell (lt_of_cell B1)] at B1
  rw [← hbW.cell (lt_of_cell B2)] at B2
  rw [← hbW.cell (lt_of_cell B3)] at B3
  rw [← hbW.cell (lt_of_cell B4)] at B4
  have B5 : (w1.alloc (.cells #[.int .i64 n] 3)).cell? ⟨w1.heap.size, 0, none⟩ = some (.int .i64 n) := by simp [go_sem]
  have hNW := hN.still hbW
  obtain ⟨cap, Q0, hcap⟩ := hNW.slot
  obtain ⟨hrow, hfr⟩ := hNW.row
  obtain ⟨x0, r0⟩ := hrow (n * 5) (by omega)
  obtain ⟨x1, r1⟩ := hrow (n * 5 + 1) (by omega)
  obtain ⟨x2, r2⟩ := hrow (n * 5 + 2) (by omega)
  obtain ⟨x3, r3⟩ := hrow (n * 5 + 3) (by omega)
  have y0 := hfr (n * 5)
  have y1 := hfr (n * 5 + 1)
  have y2 := hfr (n * 5 + 2)
  have y3 := hfr (n * 5 + 3)
  have HX := (show Hid _ from (⟨hNW, hg, ((Out2.of_below HB.out).trans ho).trans (Out2.of_below hbW), hz⟩ : _ ∧ _ ∧ _ ∧ _)); clear hN hNW hg ho hbk k0 k1 hbW hrow hfr HB hz
  go_wp2_with fail
  generalize w1.alloc (.cells #[.int .i64 n] 3) = W at *
  go_region
  all_goals
    go_wp2_with fail
    go_ret
    obtain ⟨hNW, hg, ho, hz⟩ := HX.out
    have hg' : g' = g ∨ w.heap.size ≤ g' := by omega
    exact ⟨⟨_, rfl, _, _, rfl⟩, g', Net.keep (Net.setRow (Net.setRow (Net.setRow (Net.setRow hNW _ _) _ _) _ _) _ _) rfl rfl, hg', Out2.drew (Out2.setIn (Out2.setIn (Out2.setIn (Out2.setIn ho hg') hg') hg') hg')⟩
end Go.Proofs.Ythmdoplickpmaai
