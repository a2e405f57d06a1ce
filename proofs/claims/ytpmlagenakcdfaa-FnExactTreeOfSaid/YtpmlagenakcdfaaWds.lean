import Derived.Test.YtpmlagenakcdfaaMk
/-! Words of a text, as data and in memory; counted, copied, compared, marked, read. -/
namespace Go.Proofs.Ytpmlagenakcdfaa
open Go.RowKit Go.Deep
set_option linter.unusedVariables false
set_option maxRecDepth 100000
set_option linter.unusedSimpArgs false

structure Wd where
  name : ByteArray
  text : ByteArray
  at_ : Int
  reach : Int
  skip : Bool
  modes : ByteArray
/-- .. behind a slice. -/
def Wds (w : World) (S : Nat → Prop) (l : List Wd) (v : Value) : Prop :=
  ∃ (a : Option Addr) (cap b off : Nat), v = .slice a l.length cap ∧ l.length ≤ cap ∧ cap ≤ maxLen ∧ (0 < l.length → a = some ⟨b, off, none⟩ ∧ S b) ∧ ∀ i (hi : i < l.length), w.cell? ⟨b, off + i * 6, none⟩ = some (.string l[i].name) ∧ w.cell? ⟨b, off + i * 6 + 1, none⟩ = some (.string l[i].text) ∧ w.cell? ⟨b, off + i * 6 + 2, none⟩ = some (.int .i64 l[i].at_) ∧ w.cell? ⟨b, off + i * 6 + 3, none⟩ = some (.int .i64 l[i].reach) ∧ w.cell? ⟨b, off + i * 6 + 4, none⟩ = some (.bool l[i].skip) ∧ w.cell? ⟨b, off + i * 6 + 5, none⟩ = some (.string l[i].modes) ∧ l[i].name.size ≤ maxLen ∧ l[i].text.size ≤ maxLen ∧ l[i].modes.size ≤ maxLen
theorem Wds.keep {w w' : World} {S : Nat → Prop} {l : List Wd} {v : Value} (h : Wds w S l v) (hb : ∀ b, S b → b < w.heap.size → w'.heap[b]? = w.heap[b]?) : Wds w' S l v := by
  obtain ⟨a, cap, b, off, hv, hc, hm, ha, hcell⟩ := h
  refine ⟨a, cap, b, off, hv, hc, hm, ha, fun i hi => ?_⟩
  obtain ⟨c0, c1, c2, c3, c4, c5, s0, s1, s2⟩ := hcell i hi
  have hbk := hb b (ha (by omega)).2 (lt_of_cell c0)
  exact ⟨(World.cell?_of_block (w := w) hbk).trans c0, (World.cell?_of_block (w := w) hbk).trans c1, (World.cell?_of_block (w := w) hbk).trans c2, (World.cell?_of_block (w := w) hbk).trans c3, (World.cell?_of_block (w := w) hbk).trans c4, (World.cell?_of_block (w := w) hbk).trans c5, s0, s1, s2⟩
theorem Wds.still {w w' : World} {S : Nat → Prop} {l : List Wd} {v : Value} (h : Wds w S l v) (hb : Below w.heap.size w w') : Wds w' S l v := h.keep (fun b _ hlt => hb.block b hlt)
theorem Wds.mono {w : World} {S S' : Nat → Prop} {l : List Wd} {v : Value} (h : Wds w S l v) (hS : ∀ b, S b → S' b) : Wds w S' l v := by
  obtain ⟨a, cap, b, off, hv, hc, hm, ha, hcell⟩ := h
  exact ⟨a, cap, b, off, hv, hc, hm, fun h0 => ⟨(ha h0).1, hS _ (ha h0).2⟩, hcell⟩
theorem Wds.form {w : World} {S : Nat → Prop} {l : List Wd} {v : Value} (h : Wds w S l v) : ∃ a cap, v = .slice a l.length cap ∧ l.length ≤ maxLen := by
  obtain ⟨a, cap, b, off, hv, hc, hm, _⟩ := h
  exact ⟨_, _, hv, by omega⟩
/-- .. in a row of its own. -/
structure WdsR (w : World) (b : Nat) (l : List Wd) : Prop where
  ex : ∃ f, w.rowIs b 93 (l.length * 6) f ∧ ∀ i (hi : i < l.length), f (i * 6) = .string l[i].name ∧ f (i * 6 + 1) = .string l[i].text ∧ f (i * 6 + 2) = .int .i64 l[i].at_ ∧ f (i * 6 + 3) = .int .i64 l[i].reach ∧ f (i * 6 + 4) = .bool l[i].skip ∧ f (i * 6 + 5) = .string l[i].modes ∧ l[i].name.size ≤ maxLen ∧ l[i].text.size ≤ maxLen ∧ l[i].modes.size ≤ maxLen
theorem WdsR.lies {w : World} {b : Nat} {l : List Wd} (h : WdsR w b l) (hl : l.length ≤ maxLen) : Wds w (fun c => c = b) l (.slice (some ⟨b, 0, none⟩) l.length l.length) := by
  obtain ⟨f, hrow, hf⟩ := h
  refine ⟨_, _, b, 0, rfl, Nat.le_refl _, hl, fun _ => ⟨rfl, rfl⟩, fun i hi => ?_⟩
  obtain ⟨c0, c1, c2, c3, c4, c5, s0, s1, s2⟩ := hf i hi
  exact ⟨by rw [Nat.zero_add, hrow.cell (by omega), c0], by rw [Nat.zero_add, hrow.cell (by omega), c1], by rw [Nat.zero_add, hrow.cell (by omega), c2], by rw [Nat.zero_add, hrow.cell (by omega), c3], by rw [Nat.zero_add, hrow.cell (by omega), c4], by rw [Nat.zero_add, hrow.cell (by omega), c5], s0, s1, s2⟩
theorem WdsR.lt {w : World} {b : Nat} {l : List Wd} (h : WdsR w b l) : b < w.heap.size := by obtain ⟨f, h, _⟩ := h; exact World.rowIs.lt h
theorem WdsR.keep {w w' : World} {b : Nat} {l : List Wd} (h : WdsR w b l) (hb : w'.heap[b]? = w.heap[b]?) : WdsR w' b l := by obtain ⟨f, h, e⟩ := h; exact ⟨f, World.rowIs.of_block h hb, e⟩
theorem WdsR.still {w w' : World} {b : Nat} {l : List Wd} (h : WdsR w b l) (hb : Below w.heap.size w w') : WdsR w' b l := h.keep (hb.block b h.lt)
set_option maxHeartbeats 800000 in
theorem szWd_any (t : Wd) (w : World) (n : Nat) (hs0 : t.name.size ≤ maxLen) (hs1 : t.text.size ≤ maxLen) (hs2 : t.modes.size ≤ maxLen) (hn : n ≤ 1048576) :
    Calls Try.prog 46 #[.agg #[.string t.name, .string t.text, .int .i64 t.at_, .int .i64 t.reach, .bool t.skip, .string t.modes], .int .i64 n] w fun e w' => Left n (t.name.size ≤ 1048576 ∧ t.text.size ≤ 1048576 ∧ t.modes.size ≤ 1048576) e ∧ Below w.heap.size w w' := by
  unfold maxLen at hs0 hs1 hs2
  by_cases h0 : (n : Int) - t.name.size < 0
  · go_enter Try.func46, Try.ntmps46
    go_wp2_with fail
    go_ret
    exact ⟨.inl rfl, bel_alloc _ _⟩
  by_cases h1 : (n : Int) - t.name.size - t.text.size < 0
  · go_enter Try.func46, Try.ntmps46
    go_wp2_with fail
    go_ret
    exact ⟨.inl rfl, bel_alloc _ _⟩
  by_cases h2 : (n : Int) - t.name.size - t.text.size - t.modes.size < 0
  · go_enter Try.func46, Try.ntmps46
    go_wp2_with fail
    go_ret
    exact ⟨.inl rfl, bel_alloc _ _⟩
  go_enter Try.func46, Try.ntmps46
  go_wp2_with fail
  go_ret
  exact ⟨.inr ⟨n - t.name.size - t.text.size - t.modes.size, by rw [show ((n - t.name.size - t.text.size - t.modes.size : Nat) : Int) = (n : Int) - t.name.size - t.text.size - t.modes.size by omega]; rfl, by omega, ⟨by omega, by omega, by omega⟩⟩, bel_alloc _ _⟩
set_option maxHeartbeats 800000 in
theorem szWds_any {S : Nat → Prop} (l : List Wd) (v : Value) (w : World) (n : Nat) (h : Wds w S l v) (hn : n ≤ 1048576) :
    Calls Try.prog 18 #[v, .int .i64 n] w fun e w' => Left n (l.length ≤ 1048576 ∧ ∀ i (hi : i < l.length), l[i].name.size ≤ 1048576 ∧ l[i].text.size ≤ 1048576 ∧ l[i].modes.size ≤ 1048576) e ∧ Below w.heap.size w w' := by
  obtain ⟨a, cap, b, off, rfl, hc, hm, ha, hcell⟩ := h
  have HC := (show Hid _ from hcell); clear hcell
  have HA := (show Hid _ from ha); clear ha
  unfold maxLen at hm
  by_cases hlt : (n : Int) - l.length < 0
  · go_enter Try.func18, Try.ntmps18
    go_wp2_with fail
    go_ret
    exact ⟨.inl rfl, Below.refl _ _⟩
  · go_enter Try.func18, Try.ntmps18
    go_wp2_with fail
    go_loopw [1, 5] (fun u i wr => ∃ (j m : Nat), j ≤ l.length ∧ i = .int .i64 j ∧ u = .int .i64 m ∧ m ≤ n ∧ Below w.heap.size w wr ∧ Hid (∀ i (hi : i < l.length), i < j → l[i].name.size ≤ 1048576 ∧ l[i].text.size ≤ 1048576 ∧ l[i].modes.size ≤ 1048576)) (fun _ i _ => l.length - (intOf i).toNat)
    case atStart => exact ⟨0, n - l.length, Nat.zero_le _, rfl, by go_num, by omega, Below.refl _ _, fun i hi h0 => absurd h0 (Nat.not_lt_zero _)⟩
    case round =>
      obtain ⟨j, m, hj, rfl, rfl, hmn, hbel, HX⟩ := hrel
      by_cases hjl : j < l.length
      · obtain ⟨rfl, _⟩ := HA.out (by omega)
        obtain ⟨c0, c1, c2, c3, c4, c5, s0, s1, s2⟩ := HC.out j (by omega)
        rw [← hbel.cell (lt_of_cell c0)] at c0
        rw [← hbel.cell (lt_of_cell c1)] at c1
        rw [← hbel.cell (lt_of_cell c2)] at c2
        rw [← hbel.cell (lt_of_cell c3)] at c3
        rw [← hbel.cell (lt_of_cell c4)] at c4
        rw [← hbel.cell (lt_of_cell c5)] at c5
        have HCL := (show Hid _ from szWd_any l[j] wr m s0 s1 s2 (by omega))
        go_wp2_with fail
        refine Calls.mono HCL.out ?_
        rintro e w1 ⟨rfl | ⟨m1, rfl, hm1, hl1⟩, hb1⟩
        · have hbw := bel_trans hbel hb1
          clear c0 c1 c2 c3 c4 c5
          go_wp2_with fail
          go_ret
          exact ⟨.inl rfl, hbw⟩
        · have hbw := bel_trans hbel hb1
          have HN := (show Hid (∀ i (hi : i < l.length), i < j + 1 → l[i].name.size ≤ 1048576 ∧ l[i].text.size ≤ 1048576 ∧ l[i].modes.size ≤ 1048576) from fun i hi hij => by
            by_cases e : i = j
            · subst e; exact hl1
            · exact HX.out i hi (by omega))
          clear hl1 c0 c1 c2 c3 c4 c5
          go_wp2_with fail
          exact ⟨⟨j + 1, m1, by omega, by go_num, rfl, by omega, hbw, HN⟩, by simp [intOf]; omega⟩
      · have hle : l.length ≤ 1048576 := by omega
        obtain rfl : j = l.length := by omega
        go_wp2_with fail
        go_ret
        exact ⟨.inr ⟨m, rfl, hmn, hle, fun i hi => HX.out i hi hi⟩, hbel⟩
set_option maxHeartbeats 800000 in
theorem toWd_any (t : Wd) (w : World) :
    Calls Try.prog 52 #[.agg #[.string t.name, .string t.text, .int .i64 t.at_, .int .i64 t.reach, .bool t.skip, .string t.modes]] w fun e w' => e = .returned (.agg #[.string t.name, .string t.text, .int .i64 t.at_, .int .i64 t.reach, .bool t.skip, .string t.modes]) ∧ Below w.heap.size w w' := by
  go_enter Try.func52, Try.ntmps52
  go_wp2_with fail
  exact bodyPost_ret (v := .agg #[.string t.name, .string t.text, .int .i64 t.at_, .int .i64 t.reach, .bool t.skip, .string t.modes]) (by simp [results, Try.results52, go_sem]) rfl ⟨rfl, ((bel_alloc _ _).alloc (by simp) _).alloc (by simp; omega) _⟩
theorem info64w : (Try.prog.info? 93).map (fun i => (i.zero, i.size, i.bytes)) = some (some (.agg #[.string ByteArray.empty, .string ByteArray.empty, .int .i64 0, .int .i64 0, .bool false, .string ByteArray.empty]), 6, 72) := by kernel_rfl
theorem run_makeWds (n : Nat) (hn : n ≤ 1048576) (w : World) :
    (Instr.makeSlice 51 (.int .i64 (n : Int)) (.int .i64 (n : Int))).run Try.prog w = .ok (.slice (some ⟨w.heap.size, 0, none⟩) n n) (w.alloc (.cells (madeCells #[.string ByteArray.empty, .string ByteArray.empty, .int .i64 0, .int .i64 0, .bool false, .string ByteArray.empty] (n * 6)) 93)) := by
  obtain ⟨i, hi, hzz⟩ := Option.map_eq_some_iff.1 info64w
  simp only [Prod.mk.injEq] at hzz
  obtain ⟨hz, hs, hb⟩ := hzz
  have hr := run_make (P := Try.prog) w 51 93 i _ Try.underlying51 hi hz .i64 .i64 n n (by omega) (Int.le_refl _) (by rw [hb]; omega) (by omega)
  simp only [Int.toNat_natCast, hs] at hr
  exact hr
set_option maxHeartbeats 1600000 in
theorem toWds_any {S : Nat → Prop} (l : List Wd) (v : Value) (w : World) (h : Wds w S l v) (hlen : l.length ≤ 1048576) :
    Calls Try.prog 20 #[v] w fun e w' => e = .returned (.slice (some ⟨w.heap.size, 0, none⟩) l.length l.length) ∧ Below w.heap.size w w' ∧ WdsR w' w.heap.size l := by
  obtain ⟨a, cap, b, off, rfl, hc, hm, ha, hcell⟩ := h
  have HC := (show Hid _ from hcell); clear hcell
  have HA := (show Hid _ from ha); clear ha
  unfold maxLen at hm
  have hmk := run_makeWds l.length hlen
  go_enter Try.func20, Try.ntmps20
  go_wp2_with fail
  go_loopw [4] (fun i wr => ∃ j : Nat, j ≤ l.length ∧ i = .int .i64 j ∧ Below w.heap.size w wr ∧ Hid (∃ f, wr.rowIs w.heap.size 93 (l.length * 6) f ∧ ∀ i (_ : i < j) (hi : i < l.length), f (i * 6) = .string l[i].name ∧ f (i * 6 + 1) = .string l[i].text ∧ f (i * 6 + 2) = .int .i64 l[i].at_ ∧ f (i * 6 + 3) = .int .i64 l[i].reach ∧ f (i * 6 + 4) = .bool l[i].skip ∧ f (i * 6 + 5) = .string l[i].modes)) (fun i _ => l.length - (intOf i).toNat)
  case atStart =>
    obtain ⟨f, hf⟩ := row_made w #[.string ByteArray.empty, .string ByteArray.empty, .int .i64 0, .int .i64 0, .bool false, .string ByteArray.empty] (l.length * 6) 93
    exact ⟨0, Nat.zero_le _, rfl, bel_alloc _ _, f, hf, fun i hi => absurd hi (Nat.not_lt_zero _)⟩
  case round =>
    obtain ⟨j, hj, rfl, hbel, HM⟩ := hrel
    by_cases hlt : j < l.length
    · obtain ⟨rfl, _⟩ := HA.out (by omega)
      obtain ⟨c0, c1, c2, c3, c4, c5, _, _, _⟩ := HC.out j hlt
      rw [← hbel.cell (lt_of_cell c0)] at c0
      rw [← hbel.cell (lt_of_cell c1)] at c1
      rw [← hbel.cell (lt_of_cell c2)] at c2
      rw [← hbel.cell (lt_of_cell c3)] at c3
      rw [← hbel.cell (lt_of_cell c4)] at c4
      rw [← hbel.cell (lt_of_cell c5)] at c5
      have HCL := (show Hid _ from toWd_any l[j] wr)
      go_wp2_with fail
      refine Calls.mono HCL.out ?_
      rintro e w1 ⟨rfl, hb1⟩
      obtain ⟨f, hrow, hf⟩ := HM.out
      have hrow1 := World.rowIs.of_block hrow (hb1.block _ (World.rowIs.lt hrow))
      have hbw := bel_trans hbel hb1
      have e0 := hrow1.cell (i := j * 6) (by omega)
      have z0 := hrow1.frozen (j * 6)
      have e1 := hrow1.cell (i := j * 6 + 1) (by omega)
      have z1 := hrow1.frozen (j * 6 + 1)
      have e2 := hrow1.cell (i := j * 6 + 2) (by omega)
      have z2 := hrow1.frozen (j * 6 + 2)
      have e3 := hrow1.cell (i := j * 6 + 3) (by omega)
      have z3 := hrow1.frozen (j * 6 + 3)
      have e4 := hrow1.cell (i := j * 6 + 4) (by omega)
      have z4 := hrow1.frozen (j * 6 + 4)
      have e5 := hrow1.cell (i := j * 6 + 5) (by omega)
      have z5 := hrow1.frozen (j * 6 + 5)
      have HN := (show Hid _ from (⟨hrow1, hf⟩ : _ ∧ _)); clear hrow hf hrow1 HM c0 c1 c2 c3 c4 c5
      go_wp2_with fail
      refine ⟨⟨j + 1, by omega, by go_num, ((((((hbw.setCell (Nat.le_refl _) _).setCell (Nat.le_refl _) _).setCell (Nat.le_refl _) _).setCell (Nat.le_refl _) _).setCell (Nat.le_refl _) _).setCell (Nat.le_refl _) _), _, (World.rowIs.set (World.rowIs.set (World.rowIs.set (World.rowIs.set (World.rowIs.set (World.rowIs.set HN.out.1 (j * 6) _) (j * 6 + 1) _) (j * 6 + 2) _) (j * 6 + 3) _) (j * 6 + 4) _) (j * 6 + 5) _), fun i hi hl => ?_⟩, by simp [intOf]; omega⟩
      by_cases e : i = j
      · subst e; simp
      · obtain ⟨g0, g1, g2, g3, g4, g5⟩ := HN.out.2 i (by omega) hl
        refine ⟨?_, ?_, ?_, ?_, ?_, ?_⟩
        · rw [if_neg (by omega), if_neg (by omega), if_neg (by omega), if_neg (by omega), if_neg (by omega), if_neg (by omega)]; exact g0
        · rw [if_neg (by omega), if_neg (by omega), if_neg (by omega), if_neg (by omega), if_neg (by omega), if_neg (by omega)]; exact g1
        · rw [if_neg (by omega), if_neg (by omega), if_neg (by omega), if_neg (by omega), if_neg (by omega), if_neg (by omega)]; exact g2
        · rw [if_neg (by omega), if_neg (by omega), if_neg (by omega), if_neg (by omega), if_neg (by omega), if_neg (by omega)]; exact g3
        · rw [if_neg (by omega), if_neg (by omega), if_neg (by omega), if_neg (by omega), if_neg (by omega), if_neg (by omega)]; exact g4
        · rw [if_neg (by omega), if_neg (by omega), if_neg (by omega), if_neg (by omega), if_neg (by omega), if_neg (by omega)]; exact g5
    · go_wp2_with fail
      go_ret
      obtain ⟨f, hrow, hf⟩ := HM.out
      refine ⟨rfl, hbel, f, hrow, fun i hi => ?_⟩
      obtain ⟨g0, g1, g2, g3, g4, g5⟩ := hf i (by omega) hi
      obtain ⟨_, _, _, _, _, _, s0, s1, s2⟩ := HC.out i hi
      exact ⟨g0, g1, g2, g3, g4, g5, s0, s1, s2⟩
set_option maxHeartbeats 800000 in
theorem eqWd_any (t : Wd) (w : World) :
    Calls Try.prog 59 #[.agg #[.string t.name, .string t.text, .int .i64 t.at_, .int .i64 t.reach, .bool t.skip, .string t.modes], .agg #[.string t.name, .string t.text, .int .i64 t.at_, .int .i64 t.reach, .bool t.skip, .string t.modes]] w fun e w' => e = .returned (.bool true) ∧ Below w.heap.size w w' := by
  have hbskip : (t.skip != t.skip) = false := by simp
  go_enter Try.func59, Try.ntmps59
  go_wp2_with fail
  go_ret
  exact ⟨rfl, (bel_alloc _ _).alloc (by simp) _⟩
set_option maxHeartbeats 1600000 in
theorem eqWds_any {S S' : Nat → Prop} (l : List Wd) (v v' : Value) (w : World) (h : Wds w S l v) (h' : Wds w S' l v') :
    Calls Try.prog 23 #[v, v'] w fun e w' => e = .returned (.bool true) ∧ Below w.heap.size w w' := by
  obtain ⟨a, cap, b, off, rfl, hc, hm, ha, hcell⟩ := h
  obtain ⟨a', cap', b', off', rfl, hc', hm', ha', hcell'⟩ := h'
  have HC := (show Hid _ from hcell); clear hcell
  have HA := (show Hid _ from ha); clear ha
  have HC' := (show Hid _ from hcell'); clear hcell'
  have HA' := (show Hid _ from ha'); clear ha'
  unfold maxLen at hm hm'
  go_enter Try.func23, Try.ntmps23
  go_wp2_with fail
  go_loopw [5] (fun i wr => ∃ j : Nat, j ≤ l.length ∧ i = .int .i64 j ∧ Below w.heap.size w wr) (fun i _ => l.length - (intOf i).toNat)
  case atStart => exact ⟨0, Nat.zero_le _, rfl, Below.refl _ _⟩
  case round =>
    obtain ⟨j, hj, rfl, hbel⟩ := hrel
    by_cases hlt : j < l.length
    · obtain ⟨rfl, _⟩ := HA.out (by omega)
      obtain ⟨rfl, _⟩ := HA'.out (by omega)
      obtain ⟨c0, c1, c2, c3, c4, c5, _, _, _⟩ := HC.out j hlt
      rw [← hbel.cell (lt_of_cell c0)] at c0
      rw [← hbel.cell (lt_of_cell c1)] at c1
      rw [← hbel.cell (lt_of_cell c2)] at c2
      rw [← hbel.cell (lt_of_cell c3)] at c3
      rw [← hbel.cell (lt_of_cell c4)] at c4
      rw [← hbel.cell (lt_of_cell c5)] at c5
      obtain ⟨d0, d1, d2, d3, d4, d5, _, _, _⟩ := HC'.out j hlt
      rw [← hbel.cell (lt_of_cell d0)] at d0
      rw [← hbel.cell (lt_of_cell d1)] at d1
      rw [← hbel.cell (lt_of_cell d2)] at d2
      rw [← hbel.cell (lt_of_cell d3)] at d3
      rw [← hbel.cell (lt_of_cell d4)] at d4
      rw [← hbel.cell (lt_of_cell d5)] at d5
      have HCL := (show Hid _ from fun W => eqWd_any l[j] W)
      go_wp2_with fail
      go_region_with (go_at_call 59; refine Calls.mono (HCL.out _) ?_; rintro e w1 ⟨rfl, hb1⟩)
      all_goals
        have hbw : Below w.heap.size w w1 := bel_trans hbel.drew hb1
        clear c0 c1 c2 c3 c4 c5 d0 d1 d2 d3 d4 d5
        go_wp2_with fail
        exact ⟨⟨j + 1, by omega, by go_num, hbw⟩, by simp [intOf]; omega⟩
    · go_wp2_with fail
      go_ret
      exact ⟨rfl, hbel⟩
set_option maxHeartbeats 3200000 in
theorem markWds_any (l b n : Nat) (w : World) (h : ∃ f, w.rowIs b 93 (l * 6) f) (hl : l ≤ 1048576) (h0 : 0 < n) (hn : n + l * 6 ≤ 1125899906842624) :
    Calls Try.prog 24 #[.slice (some ⟨b, 0, none⟩) l l, .int .i64 n] w fun e w' => e = .returned (.int .i64 (n + l * 6 : Nat)) ∧ Out b (b + 1) w w' := by
  have HR0 := (show Hid _ from h); clear h
  go_enter Try.func24, Try.ntmps24
  go_wp2_with fail
  go_loopw [1, 5] (fun u i wr => ∃ (j : Nat), j ≤ l ∧ i = .int .i64 j ∧ u = .int .i64 (n + j * 6 : Nat) ∧ Out b (b + 1) w wr ∧ Hid (∃ f, wr.rowIs b 93 (l * 6) f)) (fun _ i _ => l - (intOf i).toNat)
  case atStart => exact ⟨0, Nat.zero_le _, rfl, by simp, Out.refl _ _ _, HR0⟩
  case round =>
    obtain ⟨j, hj, rfl, rfl, hout, HM⟩ := hrel
    by_cases hlt : j < l
    · obtain ⟨f, hrow⟩ := HM.out
      clear HM
      have HR := (show Hid _ from hrow); clear hrow
      have HT := (show Hid _ from fun (k : Int) (w : World) (h0 : 0 < k) (hk : k ≤ 1125899906842624) => markText_any k w h0 hk)
      go_wp2_with fail
      refine Calls.mono (HT.out _ _ (by omega) (by omega)) ?_
      rintro e x0 ⟨s0, rfl, _, hb0⟩
      have HR0 := (show Hid _ from World.rowIs.of_block HR.out (hb0.block b (by (try simp only [World.size_setCell]); exact World.rowIs.lt HR.out)))
      have HO0 := (show Hid _ from Out.trans hout (Out.of_below hb0)); clear hb0
      have e0 := World.rowIs.cell HR0.out (i := j * 6) (by omega)
      have z0 := World.rowIs.frozen HR0.out (j * 6)
      go_wp2_with fail
      refine Calls.mono (HT.out _ _ (by omega) (by omega)) ?_
      rintro e x1 ⟨s1, rfl, _, hb1⟩
      clear  e0 z0
      have HR1 := (show Hid _ from World.rowIs.of_block (World.rowIs.set HR0.out (j * 6) _) (hb1.block b (by (try simp only [World.size_setCell]); exact World.rowIs.lt HR0.out)))
      have HO1 := (show Hid _ from Out.trans (Out.trans HO0.out (Out.set _ _ (Nat.le_refl _) (by omega))) (Out.of_below hb1)); clear hb1
      have e1 := World.rowIs.cell HR1.out (i := j * 6 + 1) (by omega)
      have z1 := World.rowIs.frozen HR1.out (j * 6 + 1)
      have e2 := World.rowIs.cell HR1.out (i := j * 6 + 2) (by omega)
      have z2 := World.rowIs.frozen HR1.out (j * 6 + 2)
      have e3 := World.rowIs.cell HR1.out (i := j * 6 + 3) (by omega)
      have z3 := World.rowIs.frozen HR1.out (j * 6 + 3)
      have e4 := World.rowIs.cell HR1.out (i := j * 6 + 4) (by omega)
      have z4 := World.rowIs.frozen HR1.out (j * 6 + 4)
      go_wp2_with fail
      refine Calls.mono (HT.out _ _ (by omega) (by omega)) ?_
      rintro e x2 ⟨s2, rfl, _, hb2⟩
      clear  e1 z1 e2 z2 e3 z3 e4 z4
      have HR2 := (show Hid _ from World.rowIs.of_block (World.rowIs.set (World.rowIs.set (World.rowIs.set (World.rowIs.set HR1.out (j * 6 + 1) _) (j * 6 + 2) _) (j * 6 + 3) _) (j * 6 + 4) _) (hb2.block b (by (try simp only [World.size_setCell]); exact World.rowIs.lt HR1.out)))
      have HO2 := (show Hid _ from Out.trans (Out.trans (Out.trans (Out.trans (Out.trans HO1.out (Out.set _ _ (Nat.le_refl _) (by omega))) (Out.set _ _ (Nat.le_refl _) (by omega))) (Out.set _ _ (Nat.le_refl _) (by omega))) (Out.set _ _ (Nat.le_refl _) (by omega))) (Out.of_below hb2)); clear hb2
      have e5 := World.rowIs.cell HR2.out (i := j * 6 + 5) (by omega)
      have z5 := World.rowIs.frozen HR2.out (j * 6 + 5)
      go_wp2_with fail
      exact ⟨⟨j + 1, by omega, by go_num, by go_num, (Out.trans HO2.out (Out.set _ _ (Nat.le_refl _) (by omega))), _, (World.rowIs.set HR2.out (j * 6 + 5) _)⟩, by simp [intOf]; omega⟩
    · obtain rfl : j = l := by omega
      go_wp2_with fail
      go_ret
      exact ⟨rfl, hout⟩
end Go.Proofs.Ytpmlagenakcdfaa
