import Derived.Test.YthmdoplickpmaahRead2
namespace Go.Proofs.Ythmdoplickpmaah
open Go.RowKit Go.Deep Go.Lib
set_option linter.unusedVariables false
set_option maxRecDepth 100000
set_option linter.unusedSimpArgs false

/-- The tree of nothing. -/
def zt : Tr := ⟨ByteArray.empty, ByteArray.empty, false, []⟩
theorem zt_own (w : World) (lo hi : Nat) : Own w lo hi zt (.slice none 0 0) :=
  Own.shut ⟨none, 0, 0, fun _ => .bool false, fun _ => 0, fun _ => 0, rfl, Nat.zero_le _, Nat.zero_le _, Nat.le_refl _, Nat.zero_le _, fun h => absurd h (Nat.not_lt_zero _), fun i hi => absurd hi (Nat.not_lt_zero _), fun i hi => absurd hi (Nat.not_lt_zero _), fun i hi => absurd hi (Nat.not_lt_zero _), fun i j hi hj => absurd hj (Nat.not_lt_zero _)⟩
/-- What TreeRead answers. -/
def rd (s : ByteArray) : Tr × Int × Int := if 20000 < s.size then (zt, 1, 0) else match pAll s with
  | .error j => (zt, 2, j)
  | .ok t => if t.ok then (t, 0, 0) else (zt, 3, 0)
def RAns (r : Tr × Int × Int) (w : World) (e : Ending) (w' : World) : Prop :=
  ∃ a m c, e = .returned (.tuple #[r.1.val (.slice a m c), .int .i64 r.2.1, .int .i64 r.2.2]) ∧ Below w.heap.size w w' ∧ Own w' w.heap.size w'.heap.size r.1 (.slice a m c)
/-- A box of one number. -/
def Box1 (w : World) (g : Nat) (v : Value) : Prop := ∃ f, w.rowIs g 3 1 f ∧ f 0 = v
theorem Box1.new (w : World) (v : Value) : Box1 (w.alloc (.cells #[v] 3)) w.heap.size v :=
  ⟨fun _ => v, ⟨#[v], blk_alloc_new _ _, rfl, fun i hi => by
    have : i = 0 := by omega
    subst this; rfl⟩, rfl⟩
theorem Box1.keep {w w' : World} {g : Nat} {v : Value} (h : Box1 w g v) (hb : w'.heap[g]? = w.heap[g]?) : Box1 w' g v := by obtain ⟨f, h, e⟩ := h; exact ⟨f, h.of_block hb, e⟩
theorem Box1.lt {w : World} {g : Nat} {v : Value} (h : Box1 w g v) : g < w.heap.size := by obtain ⟨f, h, e⟩ := h; exact h.lt
theorem Box1.still {w w' : World} {g : Nat} {v : Value} (h : Box1 w g v) (hb : Below w.heap.size w w') : Box1 w' g v := h.keep (hb.block g h.lt)
theorem Box1.cell {w : World} {g : Nat} {v : Value} (h : Box1 w g v) : w.cell? ⟨g, 0, none⟩ = some v ∧ w.frozen? ⟨g, 0, none⟩ = false := by
  obtain ⟨f, h, rfl⟩ := h; exact ⟨h.cell (by omega), h.frozen 0⟩

/-- What TreeRead lays ahead: its three results. -/
abbrev W3 (w : World) : World := ((w.alloc (.cells #[.string ByteArray.empty, .string ByteArray.empty, .bool false, .slice none 0 0] 29)).alloc (.cells #[.int .i64 0] 3)).alloc (.cells #[.int .i64 0] 3)
structure Laid (w w' : World) : Prop where
  below : Below w.heap.size w w'
  size : w.heap.size + 3 ≤ w'.heap.size
  b0 : ∃ c0 c1 c2 c3, Box4 w' w.heap.size c0 c1 c2 c3
  b1 : ∃ v, Box1 w' (w.heap.size + 1) v
  b2 : ∃ v, Box1 w' (w.heap.size + 1 + 1) v
theorem laid_w3 (w : World) : Laid w (W3 w) := by
  refine ⟨((bel_alloc _ _).alloc (by simp) _).alloc (by simp; omega) _, by simp, ⟨_, _, _, _, ((Box4.new w _ _ _ _).still (bel_alloc _ _)).still (bel_alloc _ _)⟩, ?_, ?_⟩
  · have h := (Box1.new (w.alloc (.cells #[.string ByteArray.empty, .string ByteArray.empty, .bool false, .slice none 0 0] 29)) (.int .i64 0)).still (bel_alloc _ (.cells #[.int .i64 0] 3))
    simp only [World.size_alloc] at h
    exact ⟨_, h⟩
  · have h := Box1.new ((w.alloc (.cells #[.string ByteArray.empty, .string ByteArray.empty, .bool false, .slice none 0 0] 29)).alloc (.cells #[.int .i64 0] 3)) (.int .i64 0)
    simp only [World.size_alloc] at h
    exact ⟨_, h⟩
theorem Laid.still {w w' w'' : World} (h : Laid w w') (hb : Below w'.heap.size w' w'') : Laid w w'' := by
  obtain ⟨h1, h2, ⟨c0, c1, c2, c3, h3⟩, ⟨v1, h4⟩, ⟨v2, h5⟩⟩ := h
  exact ⟨bel_trans h1 hb, Nat.le_trans h2 hb.size, ⟨_, _, _, _, h3.still hb⟩, ⟨_, h4.still hb⟩, ⟨_, h5.still hb⟩⟩
theorem Laid.out {w w' w'' : World} {p : Nat} (h : Laid w w') (ho : Out p (p + 1) w' w'') (hp : w.heap.size + 3 ≤ p) : Laid w w'' := by
  obtain ⟨h1, h2, ⟨c0, c1, c2, c3, h3⟩, ⟨v1, h4⟩, ⟨v2, h5⟩⟩ := h
  exact ⟨h1.trans ⟨ho.1, ho.2.1, ho.2.2.1, ho.2.2.2.1, fun k hk => ho.2.2.2.2 k (by have := h1.size; omega) (by omega)⟩, Nat.le_trans h2 ho.2.2.2.1, ⟨_, _, _, _, h3.keep (ho.2.2.2.2 _ h3.lt (by omega))⟩, ⟨_, h4.keep (ho.2.2.2.2 _ h4.lt (by omega))⟩, ⟨_, h5.keep (ho.2.2.2.2 _ h5.lt (by omega))⟩⟩

/-- The three results written: what is answered. -/
theorem laid_done {w w' : World} (h : Laid w w') (t : Tr) (a : Option Addr) (m c : Nat) (x y : Int) (hown : Own w' (w.heap.size + 3) w'.heap.size t (.slice a m c)) :
    Below w.heap.size w ((((((w'.setCell ⟨w.heap.size, 0, none⟩ (.string t.name)).setCell ⟨w.heap.size, 1, none⟩ (.string t.text)).setCell ⟨w.heap.size, 2, none⟩ (.bool t.leaf)).setCell ⟨w.heap.size, 3, none⟩ (.slice a m c)).setCell ⟨w.heap.size + 1, 0, none⟩ (.int .i64 x)).setCell ⟨w.heap.size + 1 + 1, 0, none⟩ (.int .i64 y)) ∧
    Own ((((((w'.setCell ⟨w.heap.size, 0, none⟩ (.string t.name)).setCell ⟨w.heap.size, 1, none⟩ (.string t.text)).setCell ⟨w.heap.size, 2, none⟩ (.bool t.leaf)).setCell ⟨w.heap.size, 3, none⟩ (.slice a m c)).setCell ⟨w.heap.size + 1, 0, none⟩ (.int .i64 x)).setCell ⟨w.heap.size + 1 + 1, 0, none⟩ (.int .i64 y)) w.heap.size ((((((w'.setCell ⟨w.heap.size, 0, none⟩ (.string t.name)).setCell ⟨w.heap.size, 1, none⟩ (.string t.text)).setCell ⟨w.heap.size, 2, none⟩ (.bool t.leaf)).setCell ⟨w.heap.size, 3, none⟩ (.slice a m c)).setCell ⟨w.heap.size + 1, 0, none⟩ (.int .i64 x)).setCell ⟨w.heap.size + 1 + 1, 0, none⟩ (.int .i64 y)).heap.size t (.slice a m c) := by
  refine ⟨(((((h.below.setCell (by show w.heap.size ≤ w.heap.size; omega) _).setCell (by show w.heap.size ≤ w.heap.size; omega) _).setCell (by show w.heap.size ≤ w.heap.size; omega) _).setCell (by show w.heap.size ≤ w.heap.size; omega) _).setCell (by show w.heap.size ≤ w.heap.size + 1; omega) _).setCell (by show w.heap.size ≤ w.heap.size + 1 + 1; omega) _, ?_⟩
  exact ((((((hown.past (.inl (by omega))).past (.inl (by omega))).past (.inl (by omega))).past (.inl (by omega))).past (.inl (by omega))).past (.inl (by omega))).keep (by omega) (by simp) (fun _ _ _ _ => rfl)

set_option maxHeartbeats 3200000 in
theorem iRead_any (s : ByteArray) (w : World) (hsm : s.size ≤ 1048576) :
    Calls Try.prog 18 #[.string s] w fun e w' => RAns (rd s) w e w' := by
  have hmf := make_func
  by_cases hbig : 20000 < s.size
  · have hr : rd s = (zt, 1, 0) := if_pos hbig
    rw [hr]
    clear hr
    have HL := (show Hid _ from laid_w3 w)
    go_enter_defers Try.func18, Try.ntmps18
    go_wp2_with fail
    refine leaves_cons (f := 38) (args := #[.pointer (some ⟨w.heap.size, 0, none⟩), .pointer (some ⟨w.heap.size + 1, 0, none⟩), .pointer (some ⟨w.heap.size + 1 + 1, 0, none⟩)]) (by simp) (by simp [go_sem]) ?_
    refine (catch2_idle _ _ _ _).mono ?_
    rintro e u' w'' ⟨rfl, rfl, rfl⟩
    exact ⟨.tuple #[zt.val (.slice none 0 0), .int .i64 1, .int .i64 0], by simp [results, Try.results18, go_sem, zt]; rfl, none, 0, 0, rfl, ((bel_alloc _ _).alloc (by simp) _).alloc (by simp; omega) _, zt_own _ _ _⟩
  have hr : rd s = (match pAll s with
    | .error j => (zt, 2, (j : Int))
    | .ok t => if t.ok then (t, 0, 0) else (zt, 3, 0)) := if_neg hbig
  rw [hr]
  clear hr
  have HL3 := (show Hid _ from laid_w3 w)
  have hL4 := Laid.still (laid_w3 w) (bel_alloc (W3 w) (.cells #[.string s, .int .i64 0] 66))
  have hs4 : (W3 w).heap.size = w.heap.size + 3 := by simp
  have hsc : Scn ((W3 w).alloc (.cells #[.string s, .int .i64 0] 66)) (w.heap.size + 1 + 1 + 1) s 0 := by
    refine ⟨Nat.zero_le _, hsm, fun i => if i = 0 then .string s else .int .i64 0, ⟨#[.string s, .int .i64 0], ?_, rfl, fun i hi => ?_⟩, rfl, rfl⟩
    · have h := blk_alloc_new (W3 w) (.cells #[.string s, .int .i64 0] 66)
      rw [hs4] at h
      exact h
    · match i, hi with
      | 0, _ => rfl
      | 1, _ => rfl
  have hsz4 : ((W3 w).alloc (.cells #[.string s, .int .i64 0] 66)).heap.size = w.heap.size + 4 := by simp
  have HW := (show Hid _ from whole_any _ hsc)
  have HL := (show Hid _ from (⟨hL4, hsz4⟩ : _ ∧ _)); clear hL4 hsc hs4 hsz4
  generalize pAll s = R at *
  cases R with
  | error j =>
    dsimp only
    go_enter_defers Try.func18, Try.ntmps18
    go_wp2_with fail
    refine Calls.mono HW.out ?_
    rintro e w5 ⟨ho5, hg5⟩
    obtain rfl : e = .panicked [flt j] := hg5
    have HL5 := (show Hid _ from HL.out.1.out ho5 (by omega)); clear ho5
    go_wp2_with fail
    obtain ⟨q1, q2, ⟨c0, c1, c2, c3, B0⟩, ⟨v1, B1⟩, ⟨v2, B2⟩⟩ := HL5.out
    refine leaves_cons (f := 38) (args := #[.pointer (some ⟨w.heap.size, 0, none⟩), .pointer (some ⟨w.heap.size + 1, 0, none⟩), .pointer (some ⟨w.heap.size + 1 + 1, 0, none⟩)]) (by simp) (by simp [go_sem]) ?_
    refine (catch2_panicking _ _ _ 2 j [] w5 _ _ _ _ _ _ B0 B1.cell.1 B2.cell.1 B1.cell.2 B2.cell.2 (by omega) (by omega) (by omega)).mono ?_
    rintro e u' w'' ⟨rfl, rfl, w6, hb6, rfl⟩
    have hL6 := HL5.out.still hb6
    have hd := laid_done hL6 zt none 0 0 2 j (zt_own _ _ _)
    obtain ⟨_, _, ⟨d0, d1, d2, d3, C0⟩, ⟨x1, C1⟩, ⟨x2, C2⟩⟩ := hL6
    obtain ⟨y0, y1, y2, y3⟩ := C0.cells
    obtain ⟨z1, _⟩ := C1.cell
    obtain ⟨z2, _⟩ := C2.cell
    refine ⟨.tuple #[zt.val (.slice none 0 0), .int .i64 2, .int .i64 j], by simp [results, Try.results18, go_sem, zt, y0, y1, y2, y3, z1, z2], none, 0, 0, rfl, hd.1.drew, zt_own _ _ _⟩
  | ok t =>
    dsimp only
    have HOU := (show Hid _ from fun (S : Nat → Prop) (u : Value) (w1 : World) (h1 : Frm w1 S t u) => outf_any t u w1 h1)
    have HIO := (show Hid _ from fun (S : Nat → Prop) (v : Value) (w1 : World) (h1 : Lies w1 S t v) => iOK_any t v w1 h1)
    cases hok : t.ok
    · simp only [Bool.false_eq_true, if_false]
      rw [hok] at HIO
      clear hok
      go_enter_defers Try.func18, Try.ntmps18
      go_wp2_with fail
      refine Calls.mono HW.out ?_
      rintro e w5 ⟨ho5, u, rfl, hf5⟩
      have HC := (show Hid _ from HOU.out _ u w5 hf5)
      obtain ⟨TT, XX, rfl⟩ := hf5.iface
      have HL5 := (show Hid _ from HL.out.1.out ho5 (by omega)); clear ho5 hf5
      go_wp2_with fail
      refine Calls.mono HC.out ?_
      rintro e w6 ⟨v6, rfl, hb6, ho6⟩
      obtain ⟨a6, m6, c6, rfl⟩ := ho6.form
      have hbx := bel_alloc w6 (.cells #[.string t.name, .string t.text, .bool t.leaf, .slice a6 m6 c6] 29)
      have HI := (show Hid _ from HIO.out _ _ _ ((Own.lies ho6).still hbx))
      have HL6 := (show Hid _ from (Laid.still HL5.out hb6).still hbx)
      obtain ⟨x0, x1, x2, x3⟩ := four_box w6 (.string t.name) (.string t.text) (.bool t.leaf) (.slice a6 m6 c6) 29
      clear hb6 ho6 hbx
      go_wp2_with fail
      refine Calls.mono HI.out ?_
      rintro e w7 ⟨rfl, hb7⟩
      have HL7 := (show Hid _ from Laid.still HL6.out hb7); clear hb7 x0 x1 x2 x3
      obtain ⟨q1, q2, ⟨c0, c1, c2, c3, B0⟩, ⟨v1, B1⟩, ⟨v2, B2⟩⟩ := HL7.out
      obtain ⟨y0, y1, y2, y3⟩ := B0.cells
      have f0 := B0.frozen 0
      have f1 := B0.frozen 1
      have f2 := B0.frozen 2
      have f3 := B0.frozen 3
      obtain ⟨z1, g1⟩ := B1.cell
      obtain ⟨z2, g2⟩ := B2.cell
      have HQ := (show Hid _ from q1)
      clear q1 q2 B0 B1 B2
      go_wp2_with fail
      refine leaves_cons (f := 38) (args := #[.pointer (some ⟨w.heap.size, 0, none⟩), .pointer (some ⟨w.heap.size + 1, 0, none⟩), .pointer (some ⟨w.heap.size + 1 + 1, 0, none⟩)]) (by simp) (by simp [go_sem]) ?_
      refine (catch2_idle _ _ _ _).mono ?_
      rintro e u' w'' ⟨rfl, rfl, rfl⟩
      refine ⟨.tuple #[zt.val (.slice none 0 0), .int .i64 3, .int .i64 0], by simp [results, Try.results18, go_sem, zt, y0, y1, y2, y3, z1, z2]; rfl, none, 0, 0, rfl, ?_, zt_own _ _ _⟩
      exact (((((Below.setCell HQ.out (by show w.heap.size ≤ w.heap.size; omega) _).setCell (by show w.heap.size ≤ w.heap.size; omega) _).setCell (by show w.heap.size ≤ w.heap.size; omega) _).setCell (by show w.heap.size ≤ w.heap.size; omega) _).setCell (by show w.heap.size ≤ w.heap.size + 1; omega) _).setCell (by show w.heap.size ≤ w.heap.size + 1 + 1; omega) _
    · simp only [if_true]
      rw [hok] at HIO
      clear hok
      go_enter_defers Try.func18, Try.ntmps18
      go_wp2_with fail
      refine Calls.mono HW.out ?_
      rintro e w5 ⟨ho5, u, rfl, hf5⟩
      have HC := (show Hid _ from HOU.out _ u w5 hf5)
      obtain ⟨TT, XX, rfl⟩ := hf5.iface
      have HL5 := (show Hid _ from HL.out.1.out ho5 (by omega)); clear ho5 hf5
      go_wp2_with fail
      refine Calls.mono HC.out ?_
      rintro e w6 ⟨v6, rfl, hb6, ho6⟩
      obtain ⟨a6, m6, c6, rfl⟩ := ho6.form
      have hbx := bel_alloc w6 (.cells #[.string t.name, .string t.text, .bool t.leaf, .slice a6 m6 c6] 29)
      have HI := (show Hid _ from HIO.out _ _ _ ((Own.lies ho6).still hbx))
      have HL6 := (show Hid _ from (Laid.still HL5.out hb6).still hbx)
      have HO6 := (show Hid _ from Own.still ho6 hbx)
      have HF6 := (show Hid _ from four_box w6 (.string t.name) (.string t.text) (.bool t.leaf) (.slice a6 m6 c6) 29)
      have hsz5 := HL5.out.size
      have hs6 := hb6.size
      obtain ⟨x0, x1, x2, x3⟩ := four_box w6 (.string t.name) (.string t.text) (.bool t.leaf) (.slice a6 m6 c6) 29
      clear hb6 ho6 hbx
      go_wp2_with fail
      refine Calls.mono HI.out ?_
      rintro e w7 ⟨rfl, hb7⟩
      have HL7 := (show Hid _ from Laid.still HL6.out hb7)
      have hs7 := hb7.size
      simp only [World.size_alloc] at hs7
      have hown7 : Own w7 (w.heap.size + 3) w7.heap.size t (.slice a6 m6 c6) := (Own.still HO6.out hb7).keep (by omega) (by omega) (fun _ _ _ _ => rfl)
      have HO7 := (show Hid _ from hown7)
      clear x0 x1 x2 x3 hown7
      obtain ⟨x0, x1, x2, x3⟩ := Four.still HF6.out hb7
      clear hb7
      obtain ⟨q1, q2, ⟨c0, c1, c2, c3, B0⟩, ⟨v1, B1⟩, ⟨v2, B2⟩⟩ := HL7.out
      obtain ⟨y0, y1, y2, y3⟩ := B0.cells
      have f0 := B0.frozen 0
      have f1 := B0.frozen 1
      have f2 := B0.frozen 2
      have f3 := B0.frozen 3
      obtain ⟨z1, g1⟩ := B1.cell
      obtain ⟨z2, g2⟩ := B2.cell
      clear q1 q2 B0 B1 B2
      have HD := (show Hid _ from laid_done HL7.out t a6 m6 c6 0 0 HO7.out)
      go_wp2_with fail
      refine leaves_cons (f := 38) (args := #[.pointer (some ⟨w.heap.size, 0, none⟩), .pointer (some ⟨w.heap.size + 1, 0, none⟩), .pointer (some ⟨w.heap.size + 1 + 1, 0, none⟩)]) (by simp) (by simp [go_sem]) ?_
      refine (catch2_idle _ _ _ _).mono ?_
      rintro e u' w'' ⟨rfl, rfl, rfl⟩
      exact ⟨.tuple #[t.val (.slice a6 m6 c6), .int .i64 0, .int .i64 0], by simp [results, Try.results18, go_sem, y0, y1, y2, y3, z1, z2], a6, m6, c6, rfl, HD.out.1, HD.out.2⟩
end Go.Proofs.Ythmdoplickpmaah
