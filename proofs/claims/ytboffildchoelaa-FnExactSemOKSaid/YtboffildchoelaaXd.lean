import Derived.Test.YtboffildchoelaaKd
import Derived.Test.YtboffildchoelaaXa
/-! Shapes as they lie: size, copy, comparison, and how they are read. -/
namespace Go.Proofs.Ytboffildchoelaa
open Go.RowKit Go.Deep Go.Lib Go.ChangeShapes Go.WideShapes
set_option linter.unusedVariables false
set_option maxRecDepth 100000
set_option linter.unusedSimpArgs false

/-- A shape. -/
structure Shp where
  name : ByteArray
  text : ByteArray
  leaf : Bool
  kids : Int
/-- Shapes that lie behind a slice: four cells each. -/
def ShLy (w : World) (l : List Shp) (v : Value) : Prop :=
  ∃ (a : Option Addr) (cap b off : Nat), v = .slice a l.length cap ∧ l.length ≤ cap ∧ cap ≤ maxLen ∧ (0 < l.length → a = some ⟨b, off, none⟩) ∧ (∀ i (hi : i < l.length), l[i].name.size ≤ maxLen ∧ l[i].text.size ≤ maxLen) ∧
    ∀ i (hi : i < l.length), w.cell? ⟨b, off + i * 4, none⟩ = some (.string l[i].name) ∧ w.cell? ⟨b, off + i * 4 + 1, none⟩ = some (.string l[i].text) ∧ w.cell? ⟨b, off + i * 4 + 2, none⟩ = some (.bool l[i].leaf) ∧ w.cell? ⟨b, off + i * 4 + 3, none⟩ = some (.int .i64 l[i].kids)
theorem ShLy.still {w w' : World} {l : List Shp} {v : Value} (h : ShLy w l v) (hb : Below w.heap.size w w') : ShLy w' l v := by
  obtain ⟨a, cap, b, off, h1, h2, h3, h4, h5, h6⟩ := h
  have mv : ∀ {b o : Nat} {v : Value}, w.cell? ⟨b, o, none⟩ = some v → w'.cell? ⟨b, o, none⟩ = some v := fun h => (hb.cell (lt_of_cell h)).trans h
  refine ⟨a, cap, b, off, h1, h2, h3, h4, h5, fun i hi => ?_⟩
  obtain ⟨c0, c1, c2, c3⟩ := h6 i hi
  exact ⟨mv c0, mv c1, mv c2, mv c3⟩
theorem ShLy.form {w : World} {l : List Shp} {v : Value} (h : ShLy w l v) : ∃ a cap, v = .slice a l.length cap := by
  obtain ⟨a, cap, b, off, h1, _⟩ := h
  exact ⟨a, cap, h1⟩
theorem cells68 : Try.prog.cellsOf 68 = 4 := by kernel_rfl
theorem cells3 : Try.prog.cellsOf 3 = 1 := by kernel_rfl
theorem read_shape {H : Type} {enc : TypeId × Value → H} {w : World} {base : Nat} {spare : Nat → Bool} {held : Bool} (fuel : Nat) (cs : List Value) (x : DataW H × List MemPlace) (h : DataW.trod enc Try.prog w base spare held fuel 68 cs = some x) :
    ∃ (s : Shp), cs = [.string s.name, .string s.text, .bool s.leaf, .int .i64 s.kids] ∧ s.name.size ≤ maxLen ∧ s.text.size ≤ maxLen := by
  obtain ⟨xs, n, rfl, rfl, hl, hlen, hf⟩ := DataW.trod_struct Try.underlying68 h
  rw [cells68] at hl
  obtain ⟨c0, c1, c2, c3, rfl⟩ := list4 hl
  obtain ⟨y0, y1, y2, y3, rfl⟩ := list4 (l := xs) hlen
  have f0 := hf 0 _ rfl
  have f1 := hf 1 _ rfl
  have f2 := hf 2 _ rfl
  have f3 := hf 3 _ rfl
  simp [cells9, cells4, cells3] at f0 f1 f2 f3
  obtain ⟨s0, e0, _, hs0⟩ := DataW.trod_string Try.underlying9 f0
  obtain ⟨s1, e1, _, hs1⟩ := DataW.trod_string Try.underlying9 f1
  obtain ⟨b2, e2, _⟩ := DataW.trod_bool Try.underlying4 f2
  obtain ⟨n3, e3, _⟩ := DataW.trod_int Try.underlying3 f3
  simp at e0 e1 e2 e3
  subst e0 e1 e2 e3
  exact ⟨⟨s0, s1, b2, n3⟩, rfl, hs0, hs1⟩
theorem read_shapes {H : Type} {enc : TypeId × Value → H} {w : World} {base : Nat} {spare : Nat → Bool} {held : Bool} (fuel : Nat) (cs : List Value) (x : DataW H × List MemPlace) (h : DataW.trod enc Try.prog w base spare held fuel 24 cs = some x) :
    ∃ (l : List Shp) (v : Value), cs = [v] ∧ ShLy w l v := by
  rcases DataW.trod_slice Try.underlying24 h with ⟨e3, _⟩ | ⟨a, len, cap, elems, rest, m, rfl, e3, _, hb, hlc, hcm, hel, hels, _, _⟩
  · exact ⟨[], _, e3, none, 0, 0, 0, rfl, Nat.le_refl _, Nat.zero_le _, fun h => absurd h (by simp), fun i hi => absurd hi (by simp), fun i hi => absurd hi (by simp)⟩
  · rw [cells68] at hels
    have hall : ∀ i, i < len → ∃ p : Shp, (w.cell? ((a.add (i * 4)).add 0) = some (.string p.name) ∧ w.cell? ((a.add (i * 4)).add 1) = some (.string p.text) ∧ w.cell? ((a.add (i * 4)).add 2) = some (.bool p.leaf) ∧ w.cell? ((a.add (i * 4)).add 3) = some (.int .i64 p.kids)) ∧ p.name.size ≤ maxLen ∧ p.text.size ≤ maxLen := by
      intro i hi
      have h1 := hels i hi
      rw [List.getElem?_eq_getElem (by omega)] at h1
      obtain ⟨cs', h2, h3⟩ := Option.bind_eq_some_iff.1 h1
      obtain ⟨s, rfl, hs1, hs2⟩ := read_shape m cs' _ h3
      obtain ⟨_, _, hc⟩ := World.cells?_some h2
      exact ⟨s, ⟨hc 0 (by omega), hc 1 (by omega), hc 2 (by omega), hc 3 (by omega)⟩, hs1, hs2⟩
    obtain ⟨F, hF⟩ := @choose_lt Shp ⟨⟨ByteArray.empty, ByteArray.empty, false, 0⟩⟩ len _ hall
    obtain ⟨bb, off, spot⟩ := a
    have hsp : 0 < len → spot = none := fun h0 => by
      have := World.cell?_spot (hF 0 h0).1.1
      simpa [Addr.add] using this
    have hlk : ((List.range len).map F).length = len := by simp
    refine ⟨(List.range len).map F, _, e3, some ⟨bb, off, spot⟩, cap, bb, off, by rw [hlk], by rw [hlk]; exact hlc, hcm, fun h0 => ?_, fun i hi => ?_, fun i hi => ?_⟩
    · rw [hlk] at h0
      rw [hsp h0]
    · rw [hlk] at hi
      simp only [List.getElem_map, List.getElem_range]
      exact (hF i hi).2
    · rw [hlk] at hi
      obtain ⟨⟨q0, q1, q2, q3⟩, _⟩ := hF i hi
      rw [hsp (by omega)] at q0 q1 q2 q3
      simp only [add_plain] at q0 q1 q2 q3
      simp only [List.getElem_map, List.getElem_range]
      exact ⟨q0, q1, q2, q3⟩
/-- How much shapes hold. -/
def sw1 (s : Shp) : Nat := s.name.size + s.text.size
def swL (l : List Shp) : Nat := (l.map sw1).sum
def swt (l : List Shp) : Nat := l.length + swL l
theorem swL_append (a b : List Shp) : swL (a ++ b) = swL a + swL b := by simp [swL]
theorem swL_take_succ (l : List Shp) (i : Nat) (h : i < l.length) : swL (l.take (i + 1)) = swL (l.take i) + sw1 l[i] := by
  rw [List.take_succ_eq_append_getElem h, swL_append]; simp [swL]
theorem swL_take_le (l : List Shp) (i : Nat) : swL (l.take i) ≤ swL l := by
  have h := swL_append (l.take i) (l.drop i)
  rw [List.take_append_drop] at h; omega
set_option maxHeartbeats 800000 in
theorem szShape27 (s : Shp) (w : World) (left : Int) (hx : s.name.size ≤ maxLen) (hy : s.text.size ≤ maxLen) (h0 : 0 ≤ left) (h1 : left ≤ 1048576) :
    Calls Try.prog 27 #[.agg #[.string s.name, .string s.text, .bool s.leaf, .int .i64 s.kids], .int .i64 left] w fun e w' => e = .returned (.int .i64 (szR (sw1 s) left)) ∧ Below w.heap.size w w' := by
  unfold sw1
  unfold maxLen at hx hy
  generalize s.name = x at *
  generalize s.text = y at *
  by_cases h2 : (x.size : Int) ≤ left
  · by_cases h3 : (y.size : Int) ≤ left - x.size
    · go_enter Try.func27, Try.ntmps27
      go_wp2_with fail
      go_ret
      exact ⟨ret_int (by rw [szR_yes (by omega)]; omega), (Below.refl _ _).alloc (Nat.le_refl _) _⟩
    · go_enter Try.func27, Try.ntmps27
      go_wp2_with fail
      go_ret
      exact ⟨ret_int (by rw [szR_no (by omega)]), (Below.refl _ _).alloc (Nat.le_refl _) _⟩
  · go_enter Try.func27, Try.ntmps27
    go_wp2_with fail
    go_ret
    exact ⟨ret_int (by rw [szR_no (by omega)]), (Below.refl _ _).alloc (Nat.le_refl _) _⟩
set_option maxHeartbeats 1600000 in
theorem szShapes11 (l : List Shp) (v : Value) (w : World) (left : Int) (h : ShLy w l v) (h0 : 0 ≤ left) (h1 : left ≤ 1048576) :
    Calls Try.prog 11 #[v, .int .i64 left] w fun e w' => e = .returned (.int .i64 (szR (swt l) left)) ∧ Below w.heap.size w w' := by
  obtain ⟨a, cap, b, off, rfl, hc, hm, ha, hx, hcell⟩ := h
  have HX := (show Hid _ from hx); clear hx
  unfold maxLen at hm
  have HC := (show Hid _ from hcell); clear hcell
  have HA := (show Hid _ from ha); clear ha
  by_cases hl : (l.length : Int) ≤ left
  · go_enter Try.func11, Try.ntmps11
    go_wp2_with fail
    go_loopw [1, 5] (fun lf i wr => ∃ j : Nat, j ≤ l.length ∧ i = .int .i64 j ∧ 0 ≤ left - l.length - swL (l.take j) ∧ lf = .int .i64 (left - l.length - swL (l.take j)) ∧ Hid (Below w.heap.size w wr)) (fun _ i _ => l.length - (intOf i).toNat)
    case atStart => exact ⟨0, Nat.zero_le _, rfl, by simp [swL]; omega, by simp [swL], Below.refl _ _⟩
    case round =>
      obtain ⟨j, hj, rfl, hp, rfl, HB⟩ := hrel
      by_cases hlt : j < l.length
      · have hbel := HB.out
        obtain rfl := HA.out (by omega)
        obtain ⟨c0, c1, c2, c3⟩ := HC.out j hlt
        rw [← hbel.cell (lt_of_cell c0)] at c0
        rw [← hbel.cell (lt_of_cell c1)] at c1
        rw [← hbel.cell (lt_of_cell c2)] at c2
        rw [← hbel.cell (lt_of_cell c3)] at c3
        have HT := (show Hid _ from swL_take_succ l j hlt)
        have hle := swL_take_le l (j + 1)
        rw [HT.out] at hle
        have HCL := (show Hid _ from szShape27 l[j] wr (left - l.length - swL (l.take j)) (HX.out j hlt).1 (HX.out j hlt).2 hp (by omega))
        have q1 : (j : Int) < (l.length : Int) := by omega
        clear hbel
        generalize sw1 l[j] = W at *
        generalize l[j].name = y0 at *
        generalize l[j].text = y1 at *
        generalize l[j].leaf = y2 at *
        generalize l[j].kids = y3 at *
        generalize hD : swL (l.take j) = D at *
        clear hD
        go_wp2_with fail
        refine Calls.mono HCL.out ?_
        rintro e w1 ⟨rfl, hb1⟩
        have HB2 := (show Hid _ from bel_trans HB.out hb1)
        clear hb1 HCL c0 c1 c2 c3
        by_cases hw : (W : Int) ≤ left - l.length - D
        · rw [szR_yes hw]
          go_wp2_with fail
          refine ⟨⟨j + 1, by omega, by go_num, ?_, ?_, HB2⟩, by simp [intOf]; omega⟩
          · rw [HT.out]; omega
          · rw [HT.out]; exact val_int (by omega)
        · rw [szR_no (by omega)]
          go_wp2_with fail
          go_ret
          exact ⟨ret_int (by unfold swt; rw [szR_no (by omega)]), HB2.out⟩
      · have q1 : ¬ ((j : Int) < (l.length : Int)) := by omega
        go_wp2_with fail
        go_ret
        have : j = l.length := by omega
        subst this
        rw [List.take_length] at hp ⊢
        exact ⟨ret_int (by unfold swt; rw [szR_yes (by omega)]; omega), HB.out⟩
  · go_enter Try.func11, Try.ntmps11
    go_wp2_with fail
    go_ret
    exact ⟨ret_int (by unfold swt; rw [szR_no (by omega)]), Below.refl _ _⟩
set_option maxHeartbeats 800000 in
theorem toShape37 (s : Shp) (w : World) :
    Calls Try.prog 37 #[.agg #[.string s.name, .string s.text, .bool s.leaf, .int .i64 s.kids]] w fun e w' => e = .returned (.agg #[.string s.name, .string s.text, .bool s.leaf, .int .i64 s.kids]) ∧ Below w.heap.size w w' := by
  generalize s.name = x at *
  generalize s.text = y at *
  generalize s.leaf = l at *
  generalize s.kids = k at *
  go_enter Try.func37, Try.ntmps37
  go_wp2_with fail
  refine bodyPost_ret (v := .agg #[.string x, .string y, .bool l, .int .i64 k]) (by simp [results, Try.results37, go_sem]) rfl ⟨rfl, ?_⟩
  exact ((bel_alloc _ _).alloc (by simp) _).alloc (by simp; omega) _
/-- What the loop of toShapeS has made of the first j. -/
def MadeH (l : List Shp) (g : Nat) (j : Nat) (wr : World) : Prop :=
  ∃ (f : Nat → Value), wr.rowIs g 49 (l.length * 4) f ∧
    ∀ i (_ : i < j) (hi : i < l.length), f (i * 4) = .string l[i].name ∧ f (i * 4 + 1) = .string l[i].text ∧ f (i * 4 + 2) = .bool l[i].leaf ∧ f (i * 4 + 3) = .int .i64 l[i].kids
theorem madeH_step {l : List Shp} {g j : Nat} {wr w1 : World} (hj : j < l.length) (hM : MadeH l g j wr) (hg : g < wr.heap.size) (hb1 : Below wr.heap.size wr w1) :
    MadeH l g (j + 1) ((((w1.setCell ⟨g, j * 4, none⟩ (.string l[j].name)).setCell ⟨g, j * 4 + 1, none⟩ (.string l[j].text)).setCell ⟨g, j * 4 + 2, none⟩ (.bool l[j].leaf)).setCell ⟨g, j * 4 + 3, none⟩ (.int .i64 l[j].kids)) := by
  obtain ⟨f, hrow, hcs⟩ := hM
  have hrow1 := hrow.of_block (hb1.block _ hrow.lt)
  refine ⟨_, (((hrow1.set _ _).set _ _).set _ _).set _ _, fun i hi hk => ?_⟩
  by_cases e : i = j
  · subst e; simp
  · obtain ⟨q0, q1, q2, q3⟩ := hcs i (by omega) hk
    refine ⟨?_, ?_, ?_, ?_⟩
    · rw [if_neg (by omega), if_neg (by omega), if_neg (by omega), if_neg (by omega)]; exact q0
    · rw [if_neg (by omega), if_neg (by omega), if_neg (by omega), if_neg (by omega)]; exact q1
    · rw [if_neg (by omega), if_neg (by omega), if_neg (by omega), if_neg (by omega)]; exact q2
    · rw [if_neg (by omega), if_neg (by omega), if_neg (by omega), if_neg (by omega)]; exact q3
theorem madeH_ly {l : List Shp} {g : Nat} {w : World} (h : MadeH l g l.length w) (hk : l.length ≤ maxLen) (hx : ∀ i (hi : i < l.length), l[i].name.size ≤ maxLen ∧ l[i].text.size ≤ maxLen) : ShLy w l (.slice (some ⟨g, 0, none⟩) l.length l.length) := by
  obtain ⟨f, hrow, hcs⟩ := h
  refine ⟨_, _, g, 0, rfl, Nat.le_refl _, hk, fun _ => rfl, hx, fun i hi => ?_⟩
  obtain ⟨q0, q1, q2, q3⟩ := hcs i hi hi
  rw [Nat.zero_add]
  exact ⟨by rw [hrow.cell (by omega), q0], by rw [hrow.cell (by omega), q1], by rw [hrow.cell (by omega), q2], by rw [hrow.cell (by omega), q3]⟩
theorem info49s : (Try.prog.info? 49).map (fun i => (i.zero, i.size, i.bytes)) = some (some (.agg #[.string ByteArray.empty, .string ByteArray.empty, .bool false, .int .i64 0]), 4, 48) := by kernel_rfl
theorem run_makeShapes (n : Nat) (hn : n ≤ 1048576) (w : World) :
    (Instr.makeSlice 31 (.int .i64 (n : Int)) (.int .i64 (n : Int))).run Try.prog w = .ok (.slice (some ⟨w.heap.size, 0, none⟩) n n) (w.alloc (.cells (madeCells #[.string ByteArray.empty, .string ByteArray.empty, .bool false, .int .i64 0] (n * 4)) 49)) := by
  obtain ⟨i, hi, hz, hs, hb⟩ := info_parts info49s
  have hr := run_make (P := Try.prog) w 31 49 i _ Try.underlying31 hi hz .i64 .i64 n n (by omega) (Int.le_refl _) (by rw [hb]; omega) (by omega)
  simp only [Int.toNat_natCast, hs] at hr
  exact hr
set_option maxHeartbeats 1600000 in
theorem toShapes20 (l : List Shp) (v : Value) (w : World) (h : ShLy w l v) (hwt : swt l ≤ 1048576) :
    Calls Try.prog 20 #[v] w fun e w' => ∃ u, e = .returned u ∧ Below w.heap.size w w' ∧ ShLy w' l u := by
  obtain ⟨a, cap, b, off, rfl, hc, hm, ha, hx, hcell⟩ := h
  have hlen : l.length ≤ 1048576 := by unfold swt at hwt; omega
  have HX := (show Hid _ from hx)
  clear hx hwt
  unfold maxLen at hm
  have HC := (show Hid _ from hcell); clear hcell
  have HA := (show Hid _ from ha); clear ha
  have hmk := run_makeShapes l.length hlen
  go_enter Try.func20, Try.ntmps20
  go_wp2_with fail
  go_loopw [4] (fun i wr => ∃ j : Nat, j ≤ l.length ∧ i = .int .i64 j ∧ Hid (Below w.heap.size w wr) ∧ Hid (MadeH l w.heap.size j wr)) (fun i _ => l.length - (intOf i).toNat)
  case atStart =>
    obtain ⟨f, hf⟩ := row_made w #[.string ByteArray.empty, .string ByteArray.empty, .bool false, .int .i64 0] (l.length * 4) 49
    exact ⟨0, Nat.zero_le _, rfl, bel_alloc _ _, f, hf, fun i hi => absurd hi (Nat.not_lt_zero _)⟩
  case round =>
    obtain ⟨j, hj, rfl, HB, HM⟩ := hrel
    by_cases hlt : j < l.length
    · have hbel := HB.out
      obtain rfl := HA.out (by omega)
      obtain ⟨c0, c1, c2, c3⟩ := HC.out j hlt
      rw [← hbel.cell (lt_of_cell c0)] at c0
      rw [← hbel.cell (lt_of_cell c1)] at c1
      rw [← hbel.cell (lt_of_cell c2)] at c2
      rw [← hbel.cell (lt_of_cell c3)] at c3
      have HCL := (show Hid _ from toShape37 l[j] wr)
      have q1 : (j : Int) < (l.length : Int) := by omega
      clear hbel
      go_wp2_with fail
      refine Calls.mono HCL.out ?_
      rintro e w1 ⟨rfl, hb1⟩
      clear c0 c1 c2 c3
      obtain ⟨f, hrow, _⟩ := HM.out
      have hg := hrow.lt
      have hrow1 := hrow.of_block (hb1.block _ hrow.lt)
      have e0 := hrow1.cell (i := j * 4) (by omega)
      have z0 := hrow1.frozen (j * 4)
      have e1 := hrow1.cell (i := j * 4 + 1) (by omega)
      have z1 := hrow1.frozen (j * 4 + 1)
      have e2 := hrow1.cell (i := j * 4 + 2) (by omega)
      have z2 := hrow1.frozen (j * 4 + 2)
      have e3 := hrow1.cell (i := j * 4 + 3) (by omega)
      have z3 := hrow1.frozen (j * 4 + 3)
      have H1 := (show Hid _ from madeH_step hlt HM.out hg hb1)
      have HB2 := (show Hid _ from bel_trans HB.out hb1)
      clear hrow hrow1 hb1 HCL HB HM
      go_wp2_with fail
      refine ⟨⟨j + 1, by omega, by go_num, ?_, H1⟩, by simp [intOf]; omega⟩
      exact (((HB2.out.setCell (Nat.le_refl _) _).setCell (Nat.le_refl _) _).setCell (Nat.le_refl _) _).setCell (Nat.le_refl _) _
    · have q1 : ¬ ((j : Int) < (l.length : Int)) := by omega
      go_wp2_with fail
      go_ret
      have : j = l.length := by omega
      subst this
      exact ⟨_, rfl, HB.out, madeH_ly HM.out (by unfold maxLen; omega) HX.out⟩
set_option maxHeartbeats 800000 in
theorem eqShape49 (s : Shp) (w : World) :
    Calls Try.prog 49 #[.agg #[.string s.name, .string s.text, .bool s.leaf, .int .i64 s.kids], .agg #[.string s.name, .string s.text, .bool s.leaf, .int .i64 s.kids]] w fun e w' => e = .returned (.bool true) ∧ Below w.heap.size w w' := by
  generalize s.name = x at *
  generalize s.text = y at *
  generalize s.leaf = l at *
  generalize s.kids = k at *
  go_enter Try.func49, Try.ntmps49
  go_wp2_with fail
  go_ret
  exact ⟨rfl, (bel_alloc _ _).alloc (by simp) _⟩
set_option maxHeartbeats 1600000 in
theorem eqShapes24 (l : List Shp) (v v' : Value) (w : World) (h : ShLy w l v) (h' : ShLy w l v') :
    Calls Try.prog 24 #[v, v'] w fun e w' => e = .returned (.bool true) ∧ Below w.heap.size w w' := by
  obtain ⟨a1, cap1, b1, o1, rfl, hm0, hm, ha1, _, hc1⟩ := h
  obtain ⟨a2, cap2, b2, o2, rfl, _, _, ha2, _, hc2⟩ := h'
  have hm : l.length ≤ 9223372036854775807 := by unfold maxLen at hm; omega
  have HD := (show Hid _ from (⟨ha1, hc1⟩ : _ ∧ _)); clear ha1 hc1
  have HD' := (show Hid _ from (⟨ha2, hc2⟩ : _ ∧ _)); clear ha2 hc2 hm0
  go_enter Try.func24, Try.ntmps24
  go_wp2_with fail
  go_loopw [5] (fun i wr => ∃ j : Nat, i = .int .i64 j ∧ j ≤ l.length ∧ Hid (Below w.heap.size w wr)) (fun i _ => l.length - (intOf i).toNat)
  case atStart => exact ⟨0, rfl, Nat.zero_le _, Below.refl _ _⟩
  case round =>
    obtain ⟨j, rfl, hj, HJ⟩ := hrel
    by_cases hlt : j < l.length
    · obtain rfl := HD.out.1 (by omega)
      obtain rfl := HD'.out.1 (by omega)
      obtain ⟨d0, d1, d2, d3⟩ := HD.out.2 j hlt
      obtain ⟨f0, f1, f2, f3⟩ := HD'.out.2 j hlt
      have HSK := (show Hid (∀ w' : World, Below wr.heap.size wr w' → w'.cell? ⟨b1, o1 + j * 4, none⟩ = some (.string l[j].name) ∧ w'.cell? ⟨b1, o1 + j * 4 + 1, none⟩ = some (.string l[j].text) ∧ w'.cell? ⟨b1, o1 + j * 4 + 2, none⟩ = some (.bool l[j].leaf) ∧ w'.cell? ⟨b1, o1 + j * 4 + 3, none⟩ = some (.int .i64 l[j].kids) ∧ w'.cell? ⟨b2, o2 + j * 4, none⟩ = some (.string l[j].name) ∧ w'.cell? ⟨b2, o2 + j * 4 + 1, none⟩ = some (.string l[j].text) ∧ w'.cell? ⟨b2, o2 + j * 4 + 2, none⟩ = some (.bool l[j].leaf) ∧ w'.cell? ⟨b2, o2 + j * 4 + 3, none⟩ = some (.int .i64 l[j].kids)) from fun w' hb => by
        have hbw := bel_trans HJ.out hb
        have mv : ∀ {b o : Nat} {v : Value}, w.cell? ⟨b, o, none⟩ = some v → w'.cell? ⟨b, o, none⟩ = some v := fun h => (hbw.cell (lt_of_cell h)).trans h
        exact ⟨mv d0, mv d1, mv d2, mv d3, mv f0, mv f1, mv f2, mv f3⟩)
      have hd0 : Below wr.heap.size wr wr.drew := (Below.refl _ _).drew
      have HCL := (show Hid _ from eqShape49 l[j] wr.drew)
      have hS0 := HSK.out _ hd0
      have HD0 := (show Hid _ from hd0)
      have i1 : (0 : Int) ≤ (j : Int) := by omega
      have i2 : (j : Int) < (l.length : Int) := by omega
      clear d0 f0 d1 f1 d2 f2 d3 f3 hd0
      generalize l[j].name = m0 at *
      generalize l[j].text = m1 at *
      generalize l[j].leaf = m2 at *
      generalize l[j].kids = m3 at *
      go_wp2_with fail
      go_region_held3 (fun wq => wq.cell? ⟨b1, o1 + j * 4, none⟩ = some (.string m0) ∧ wq.cell? ⟨b1, o1 + j * 4 + 1, none⟩ = some (.string m1) ∧ wq.cell? ⟨b1, o1 + j * 4 + 2, none⟩ = some (.bool m2) ∧ wq.cell? ⟨b1, o1 + j * 4 + 3, none⟩ = some (.int .i64 m3) ∧ wq.cell? ⟨b2, o2 + j * 4, none⟩ = some (.string m0) ∧ wq.cell? ⟨b2, o2 + j * 4 + 1, none⟩ = some (.string m1) ∧ wq.cell? ⟨b2, o2 + j * 4 + 2, none⟩ = some (.bool m2) ∧ wq.cell? ⟨b2, o2 + j * 4 + 3, none⟩ = some (.int .i64 m3)) (first | with_reducible exact hS0 | with_reducible exact hS1) ((first | (go_at_call 49; refine Calls.mono HCL.out ?_; rintro e w3 ⟨rfl, hb3⟩; have hx1 : Below wr.heap.size wr w3 := HD0.out.trans (hb3.mono (Nat.le_refl _)); have hS1 := HSK.out w3 hx1)))
      have HE := (show Hid _ from bel_trans HJ.out hx1)
      clear hS0 hS1 hb3 hx1
      go_wp2_with fail
      exact ⟨⟨j + 1, by go_num, by omega, HE⟩, by simp [intOf]; omega⟩
    · have q1 : ¬ ((j : Int) < (l.length : Int)) := by omega
      have HE := (show Hid _ from HJ.out)
      go_wp2_with fail
      go_ret
      exact ⟨rfl, HE.out⟩
/-- A shape is right. -/
def shB (s : Shp) : Bool := nmB s.name && (if s.leaf = true then decide (s.kids = 0) && decide (s.text.size ≤ 200) else emB s.text && (decide (0 ≤ s.kids) && decide (s.kids ≤ 3)))
end Go.Proofs.Ytboffildchoelaa
