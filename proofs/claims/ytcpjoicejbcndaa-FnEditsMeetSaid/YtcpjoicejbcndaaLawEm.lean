import Derived.Test.YtcpjoicejbcndaaDn
import Derived.Test.YtcpjoicejbcndaaPe
import Derived.BigQuiet
/-! The law FnEditsMeet, walked. -/
namespace Go.Proofs.Ytcpjoicejbcndaa
open Go.RowKit Go.Deep Go.Lib
set_option linter.unusedVariables false
set_option maxRecDepth 100000
set_option linter.unusedSimpArgs false

theorem big_any (a : Option Addr) (n cap : Nat) (w : World) (hn : n ≤ 2 ^ 63 - 1) : Calls Try.prog 4 #[.slice a n cap] w fun e w' => e = .returned (.bool (decide (1048576 < n))) ∧ w' = w := by
  by_cases h : 1048576 < n
  · have h' : (1048576 : Int) < n := by omega
    go_enter Try.func4, Try.ntmps4
    go_wp2_with fail
    go_ret
    exact ⟨by simp [h], rfl⟩
  · have h' : (n : Int) ≤ 1048576 := by omega
    go_enter Try.func4, Try.ntmps4
    go_wp2_with fail
    go_ret
    exact ⟨by simp [h]; omega, rfl⟩
def txT : ByteArray := ⟨#[97, 98, 99, 100, 101, 102, 103, 104, 105, 106, 107, 108, 109, 110, 111, 112, 113, 114, 115, 116]⟩
/-- Of two edits of one text: what MoveEdit and Edited answer. -/
structure MeetS (x y : Ed3) (m n : EdA) (R1 R2 R3 R4 : ByteArray × Int) : Prop where
  n0 : n.c = 0
  b3 : R3.2 ≠ 1
  b4 : R4.2 ≠ 1
  eq : (x.a + x.d < y.a ∨ y.a + y.d < x.a) → R3 = R4
theorem mv_fit {a d : Int} {s : ByteArray} {B D : Int} {t : ByteArray} (h : (mvR a d s B D t).c = 0) : fitB a d s.size = true ∧ fitB B D t.size = true ∧ mvR a d s B D t = ⟨mvA a B D t.size, mvD a d B D t.size, s, 0⟩ := by
  unfold mvR at h ⊢
  split at h
  · rename_i h1
    rw [if_pos h1]
    simp only [Bool.and_eq_true] at h1
    exact ⟨h1.1, h1.2, rfl⟩
  · simp [EdA.no] at h
theorem mv_back {a d : Int} {s : ByteArray} {B D : Int} {t : ByteArray} (h : (mvR a d s B D t).c = 0) : mvR B D t a d s = ⟨mvA B a d s.size, mvD B D a d s.size, t, 0⟩ := by
  obtain ⟨h1, h2, _⟩ := mv_fit h
  unfold mvR
  rw [if_pos (by simp [h1, h2])]
theorem meetS {x y : Ed3} (h0 : (mvR x.a x.d x.s y.a y.d y.s).c = 0) (h1 : (edR txT x.a x.d x.s).2 = 0) (h2 : (edR txT y.a y.d y.s).2 = 0) :
    MeetS x y (mvR x.a x.d x.s y.a y.d y.s) (mvR y.a y.d y.s x.a x.d x.s) (edR txT x.a x.d x.s) (edR txT y.a y.d y.s)
      (edR (edR txT y.a y.d y.s).1 (mvR x.a x.d x.s y.a y.d y.s).a (mvR x.a x.d x.s y.a y.d y.s).d (mvR x.a x.d x.s y.a y.d y.s).s)
      (edR (edR txT x.a x.d x.s).1 (mvR y.a y.d y.s x.a x.d x.s).a (mvR y.a y.d y.s x.a x.d x.s).d (mvR y.a y.d y.s x.a x.d x.s).s) := by
  obtain ⟨_, _, e1⟩ := mv_fit h0
  have e2 := mv_back h0
  rw [e1, e2]
  obtain ⟨g1, g2, g3⟩ := meets h1 h2
  exact ⟨rfl, g1, g2, g3⟩
/-- What is asked where Edited is called with a moved one. -/
structure Fit (T : ByteArray) (m : EdA) : Prop where
  t : T.size ≤ 1048576
  s : m.s.size ≤ 1048576
  a : -9223372036854775808 ≤ m.a ∧ m.a ≤ 9223372036854775807
  d : -9223372036854775808 ≤ m.d ∧ m.d ≤ 9223372036854775807
theorem fit_of {x y : Ed3} (hx : x.Sm) (h0 : (mvR x.a x.d x.s y.a y.d y.s).c = 0) (h1 : (edR txT x.a x.d x.s).2 = 0) (h2 : (edR txT y.a y.d y.s).2 = 0) : Fit (edR txT y.a y.d y.s).1 (mvR x.a x.d x.s y.a y.d y.s) := by
  obtain ⟨_, _, e1⟩ := mv_fit h0
  obtain ⟨a1, a2, a3, a4, a5, a6⟩ := ed_parts h1
  obtain ⟨b1, b2, b3, b4, b5, b6⟩ := ed_parts h2
  obtain ⟨f1, f2, f3⟩ := moved_fits (n := (txT.size : Int)) (L := (y.s.size : Int)) a1 a2 a3 b1 b2 b3 (by omega)
  rw [e1, b6]
  have hs := hx.s
  refine ⟨?_, by show x.s.size ≤ _; omega, by show _ ∧ _; dsimp only; omega, by show _ ∧ _; dsimp only; omega⟩
  rw [put_size _ _ _ _ (by omega)]
  omega

set_option maxHeartbeats 12800000 in
theorem lawEm {cs : List UInt8} {a : Option Addr} {cap b off : Nat} (w : World) (h3 : cs.length ≤ cap) (h4 : cap ≤ 2 ^ 63 - 1) (h6 : 0 < cs.length → a = some ⟨b, off, none⟩) (h7 : Byts w cs b off) :
    Calls Try.prog 3 #[.slice a cs.length cap] w fun e w' => e = .returned (.bool true) ∧ Below w.heap.size w w' := by
  have HBG := (show Hid _ from big_any a cs.length cap w (by omega))
  by_cases h2 : cs.length ≤ 1048576
  case neg =>
    have hd : decide (1048576 < cs.length) = true := by simp; omega
    rw [hd] at HBG
    clear h2 h3 h4 h6 h7 hd
    go_enter Try.func3, Try.ntmps3
    go_wp2_with fail
    refine Calls.mono HBG.out ?_
    rintro e w1 ⟨rfl, rfl⟩
    go_wp2_with fail
    go_ret
    exact ⟨rfl, Below.refl _ _⟩
  have hd : decide (1048576 < cs.length) = false := by simp; omega
  rw [hd] at HBG
  have HDR : Hid (∀ wq, Below w.heap.size w wq → Calls Try.prog 5 #[.slice a cs.length cap] wq fun e w' => e = .returned (.tuple #[edV (cMe cs).1.a (cMe cs).1.d (cMe cs).1.s, edV (cMe cs).2.a (cMe cs).2.d (cMe cs).2.s]) ∧ Below wq.heap.size wq w') :=
    fun wq hb => draw5 wq h2 h3 h4 (fun h => by have := lt_of_cell (h7 0 h); have := hb.size; dsimp only at *; omega) h6 (fun i hi => (hb.cell (lt_of_cell (h7 i hi))).trans (h7 i hi))
  obtain ⟨hsx, hsy⟩ := cMe_sm cs
  generalize (cMe cs).1 = x at *
  generalize (cMe cs).2 = y at *
  generalize cs.length = len at *
  clear h2 h3 h4 h6 h7 hd
  have sx := hsx.s
  have sy := hsy.s
  have ax := hsx.a
  have dx := hsx.d
  have ay := hsy.a
  have dy := hsy.d
  have HS6 := (show Hid _ from fun w' => sMove6 x.a x.d x.s y.a y.d y.s (by omega) (by omega) w')
  have HI7 := (show Hid _ from fun w' => iMove8 x.a x.d x.s y.a y.d y.s (by omega) (by omega) w')
  have HI7b := (show Hid _ from fun w' => iMove8 y.a y.d y.s x.a x.d x.s (by omega) (by omega) w')
  have HE1 := (show Hid _ from fun w' => iEd txT x.a x.d x.s w' (by decide) (by omega) (by omega) (by omega))
  have HE2 := (show Hid _ from fun w' => iEd txT y.a y.d y.s w' (by decide) (by omega) (by omega) (by omega))
  have HG1 := (show Hid _ from fun w' => sEd txT x.a x.d x.s w' (by decide) (by omega) (by omega) (by omega))
  have HG2 := (show Hid _ from fun w' => sEd txT y.a y.d y.s w' (by decide) (by omega) (by omega) (by omega))
  have HMT := (show Hid _ from fun h0 h1 h2 => meetS (x := x) (y := y) h0 h1 h2)
  have HF1 := (show Hid _ from fun h0 h1 h2 => fit_of (x := x) (y := y) hsx h0 h1 h2)
  have HF2 := (show Hid (∀ h0 : (mvR x.a x.d x.s y.a y.d y.s).c = 0, _) from fun h0 h1 h2 => fit_of (x := y) (y := x) hsy (by rw [mv_back h0]) h1 h2)
  have HWX := (show Hid (IntKind.i64.wrap (x.a + x.d) = x.a + x.d) from (by show _ = _; rw [IntKind.wrap_i64]; omega))
  have HWY := (show Hid (IntKind.i64.wrap (y.a + y.d) = y.a + y.d) from (by show _ = _; rw [IntKind.wrap_i64]; omega))
  clear hsx hsy sx sy ax dx ay dy
  generalize mvR x.a x.d x.s y.a y.d y.s = m at *
  generalize mvR y.a y.d y.s x.a x.d x.s = n at *
  generalize edR txT x.a x.d x.s = R1 at *
  generalize edR txT y.a y.d y.s = R2 at *
  have HE3 := (show Hid (Fit R2.1 m → ∀ w', _) from fun hf w' => iEd R2.1 m.a m.d m.s w' hf.t hf.s hf.a hf.d)
  have HE4 := (show Hid (Fit R1.1 n → ∀ w', _) from fun hf w' => iEd R1.1 n.a n.d n.s w' hf.t hf.s hf.a hf.d)
  generalize edR R2.1 m.a m.d m.s = R3 at *
  generalize edR R1.1 n.a n.d n.s = R4 at *
  obtain ⟨R1s, R1c⟩ := R1
  obtain ⟨R2s, R2c⟩ := R2
  obtain ⟨R3s, R3c⟩ := R3
  obtain ⟨R4s, R4c⟩ := R4
  unfold EdPost TwoP at *
  unfold edV at *
  unfold txT at *
  simp only at HE1 HE2 HG1 HG2 HE3 HE4 HMT HF1 HF2 HS6 HI7 HI7b
  have hcm : (m.c != m.c) = false := by simp
  have hc1 : (R1c != R1c) = false := by simp
  have hc2 : (R2c != R2c) = false := by simp
  go_enter Try.func3, Try.ntmps3
  go_wp2_with fail
  refine Calls.mono HBG.out ?_
  rintro e w1 ⟨rfl, rfl⟩
  have HD1 := (show Hid _ from HDR.out w1 (Below.refl _ _))
  go_wp2_with fail
  refine Calls.mono HD1.out ?_
  rintro e w2 ⟨rfl, hb2⟩
  have H2 := (show Hid (Below w1.heap.size w1 ((w2.alloc (.cells #[.int .i64 x.a, .int .i64 x.d, .string x.s] 25)).alloc (.cells #[.int .i64 y.a, .int .i64 y.d, .string y.s] 25)) ∧ Box ((w2.alloc (.cells #[.int .i64 x.a, .int .i64 x.d, .string x.s] 25)).alloc (.cells #[.int .i64 y.a, .int .i64 y.d, .string y.s] 25)) w2.heap.size 25 (edC x.a x.d x.s) ∧ Box ((w2.alloc (.cells #[.int .i64 x.a, .int .i64 x.d, .string x.s] 25)).alloc (.cells #[.int .i64 y.a, .int .i64 y.d, .string y.s] 25)) (w2.heap.size + 1) 25 (edC y.a y.d y.s)) from ⟨bel_trans hb2 ((bel_alloc _ _).alloc (by simp) _), (Box.new w2 25 (edC x.a x.d x.s)).still (bel_alloc _ _), (by have := Box.new (w2.alloc (.cells #[.int .i64 x.a, .int .i64 x.d, .string x.s] 25)) 25 (edC y.a y.d y.s); simpa using this)⟩)
  have HD2 := (show Hid _ from HDR.out _ H2.out.1)
  clear hb2 HD1 HDR HBG
  go_wp2_with fail
  refine Calls.mono HD2.out ?_
  rintro e w3 ⟨rfl, hb3⟩
  have H3 := (show Hid (Below w1.heap.size w1 w3 ∧ Box w3 w2.heap.size 25 (edC x.a x.d x.s) ∧ Box w3 (w2.heap.size + 1) 25 (edC y.a y.d y.s)) from ⟨bel_trans H2.out.1 hb3, H2.out.2.1.still hb3, H2.out.2.2.still hb3⟩)
  clear hb3 HD2 H2
  go_wp2_with fail
  refine Calls.mono (HS6.out _) ?_
  rintro e w4 ⟨rfl, hb4⟩
  have H4 := (show Hid (Below w1.heap.size w1 (w4.alloc (.cells #[.int .i64 m.a, .int .i64 m.d, .string m.s] 25)) ∧ Box (w4.alloc (.cells #[.int .i64 m.a, .int .i64 m.d, .string m.s] 25)) w2.heap.size 25 (edC x.a x.d x.s) ∧ Box (w4.alloc (.cells #[.int .i64 m.a, .int .i64 m.d, .string m.s] 25)) (w2.heap.size + 1) 25 (edC y.a y.d y.s) ∧ Box (w4.alloc (.cells #[.int .i64 m.a, .int .i64 m.d, .string m.s] 25)) w4.heap.size 25 (edC m.a m.d m.s)) from ⟨bel_trans (bel_trans H3.out.1 hb4) (bel_alloc _ _), (H3.out.2.1.still hb4).still (bel_alloc _ _), (H3.out.2.2.still hb4).still (bel_alloc _ _), Box.new w4 25 _⟩)
  clear hb4 H3 HS6
  generalize hp2 : w2.heap.size = p2 at *
  clear hp2
  have x0 : (w4.alloc (.cells #[.int .i64 m.a, .int .i64 m.d, .string m.s] 25)).cell? ⟨p2, 0, none⟩ = some (.int .i64 x.a) := H4.out.2.1.cell 0 (by simp)
  have x1 : (w4.alloc (.cells #[.int .i64 m.a, .int .i64 m.d, .string m.s] 25)).cell? ⟨p2, 1, none⟩ = some (.int .i64 x.d) := H4.out.2.1.cell 1 (by simp)
  have x2 : (w4.alloc (.cells #[.int .i64 m.a, .int .i64 m.d, .string m.s] 25)).cell? ⟨p2, 2, none⟩ = some (.string x.s) := H4.out.2.1.cell 2 (by simp)
  have y0 : (w4.alloc (.cells #[.int .i64 m.a, .int .i64 m.d, .string m.s] 25)).cell? ⟨p2 + 1, 0, none⟩ = some (.int .i64 y.a) := H4.out.2.2.1.cell 0 (by simp)
  have y1 : (w4.alloc (.cells #[.int .i64 m.a, .int .i64 m.d, .string m.s] 25)).cell? ⟨p2 + 1, 1, none⟩ = some (.int .i64 y.d) := H4.out.2.2.1.cell 1 (by simp)
  have y2 : (w4.alloc (.cells #[.int .i64 m.a, .int .i64 m.d, .string m.s] 25)).cell? ⟨p2 + 1, 2, none⟩ = some (.string y.s) := H4.out.2.2.1.cell 2 (by simp)
  go_wp2_with fail
  refine Calls.mono (HI7.out _) ?_
  rintro e w5 ⟨rfl, hb5⟩
  clear x0 x1 x2 y0 y1 y2
  have H5 := (show Hid (Below w1.heap.size w1 (w5.alloc (.cells #[.int .i64 m.a, .int .i64 m.d, .string m.s] 25)) ∧ Box (w5.alloc (.cells #[.int .i64 m.a, .int .i64 m.d, .string m.s] 25)) p2 25 (edC x.a x.d x.s) ∧ Box (w5.alloc (.cells #[.int .i64 m.a, .int .i64 m.d, .string m.s] 25)) (p2 + 1) 25 (edC y.a y.d y.s) ∧ Box (w5.alloc (.cells #[.int .i64 m.a, .int .i64 m.d, .string m.s] 25)) w4.heap.size 25 (edC m.a m.d m.s) ∧ Box (w5.alloc (.cells #[.int .i64 m.a, .int .i64 m.d, .string m.s] 25)) w5.heap.size 25 (edC m.a m.d m.s)) from ⟨bel_trans (bel_trans H4.out.1 hb5) (bel_alloc _ _), (H4.out.2.1.still hb5).still (bel_alloc _ _), (H4.out.2.2.1.still hb5).still (bel_alloc _ _), (H4.out.2.2.2.still hb5).still (bel_alloc _ _), Box.new w5 25 _⟩)
  clear hb5 H4 HI7
  generalize hp4 : w4.heap.size = p4 at *
  clear hp4
  have m0 : (w5.alloc (.cells #[.int .i64 m.a, .int .i64 m.d, .string m.s] 25)).cell? ⟨p4, 0, none⟩ = some (.int .i64 m.a) := H5.out.2.2.2.1.cell 0 (by simp)
  have m1 : (w5.alloc (.cells #[.int .i64 m.a, .int .i64 m.d, .string m.s] 25)).cell? ⟨p4, 1, none⟩ = some (.int .i64 m.d) := H5.out.2.2.2.1.cell 1 (by simp)
  have m2 : (w5.alloc (.cells #[.int .i64 m.a, .int .i64 m.d, .string m.s] 25)).cell? ⟨p4, 2, none⟩ = some (.string m.s) := H5.out.2.2.2.1.cell 2 (by simp)
  have x0 : (w5.alloc (.cells #[.int .i64 m.a, .int .i64 m.d, .string m.s] 25)).cell? ⟨p2, 0, none⟩ = some (.int .i64 x.a) := H5.out.2.1.cell 0 (by simp)
  have x1 : (w5.alloc (.cells #[.int .i64 m.a, .int .i64 m.d, .string m.s] 25)).cell? ⟨p2, 1, none⟩ = some (.int .i64 x.d) := H5.out.2.1.cell 1 (by simp)
  have x2 : (w5.alloc (.cells #[.int .i64 m.a, .int .i64 m.d, .string m.s] 25)).cell? ⟨p2, 2, none⟩ = some (.string x.s) := H5.out.2.1.cell 2 (by simp)
  go_wp2_with fail
  refine Calls.mono (HE1.out _) ?_
  rintro e w6 ⟨rfl, hb6⟩
  clear m0 m1 m2 x0 x1 x2
  have H6 := (show Hid (Below w1.heap.size w1 w6 ∧ Box w6 p2 25 (edC x.a x.d x.s) ∧ Box w6 (p2 + 1) 25 (edC y.a y.d y.s) ∧ Box w6 w5.heap.size 25 (edC m.a m.d m.s)) from ⟨bel_trans H5.out.1 hb6, H5.out.2.1.still hb6, H5.out.2.2.1.still hb6, H5.out.2.2.2.2.still hb6⟩)
  clear hb6 H5 HE1
  generalize hp5 : w5.heap.size = p5 at *
  clear hp5
  have c0 : w6.cell? ⟨p2 + 1, 0, none⟩ = some (.int .i64 y.a) := H6.out.2.2.1.cell 0 (by simp)
  have c1 : w6.cell? ⟨p2 + 1, 1, none⟩ = some (.int .i64 y.d) := H6.out.2.2.1.cell 1 (by simp)
  have c2 : w6.cell? ⟨p2 + 1, 2, none⟩ = some (.string y.s) := H6.out.2.2.1.cell 2 (by simp)
  go_wp2_with fail
  refine Calls.mono (HE2.out _) ?_
  rintro e w7 ⟨rfl, hbb⟩
  have H7 := (show Hid (Below w1.heap.size w1 w7 ∧ Box w7 p2 25 (edC x.a x.d x.s) ∧ Box w7 (p2 + 1) 25 (edC y.a y.d y.s) ∧ Box w7 p5 25 (edC m.a m.d m.s)) from ⟨bel_trans H6.out.1 hbb, H6.out.2.1.still hbb, H6.out.2.2.1.still hbb, H6.out.2.2.2.still hbb⟩)
  clear hbb H6 HE2 c0 c1 c2
  have c0 : w7.cell? ⟨p2, 0, none⟩ = some (.int .i64 x.a) := H7.out.2.1.cell 0 (by simp)
  have c1 : w7.cell? ⟨p2, 1, none⟩ = some (.int .i64 x.d) := H7.out.2.1.cell 1 (by simp)
  have c2 : w7.cell? ⟨p2, 2, none⟩ = some (.string x.s) := H7.out.2.1.cell 2 (by simp)
  go_wp2_with fail
  refine Calls.mono (HG1.out _) ?_
  rintro e w8 ⟨rfl, hbb⟩
  have H8 := (show Hid (Below w1.heap.size w1 w8 ∧ Box w8 p2 25 (edC x.a x.d x.s) ∧ Box w8 (p2 + 1) 25 (edC y.a y.d y.s) ∧ Box w8 p5 25 (edC m.a m.d m.s)) from ⟨bel_trans H7.out.1 hbb, H7.out.2.1.still hbb, H7.out.2.2.1.still hbb, H7.out.2.2.2.still hbb⟩)
  clear hbb H7 HG1 c0 c1 c2
  have c0 : w8.cell? ⟨p2 + 1, 0, none⟩ = some (.int .i64 y.a) := H8.out.2.2.1.cell 0 (by simp)
  have c1 : w8.cell? ⟨p2 + 1, 1, none⟩ = some (.int .i64 y.d) := H8.out.2.2.1.cell 1 (by simp)
  have c2 : w8.cell? ⟨p2 + 1, 2, none⟩ = some (.string y.s) := H8.out.2.2.1.cell 2 (by simp)
  go_wp2_with fail
  refine Calls.mono (HG2.out _) ?_
  rintro e w9 ⟨rfl, hbb⟩
  have H9 := (show Hid (Below w1.heap.size w1 w9 ∧ Box w9 p2 25 (edC x.a x.d x.s) ∧ Box w9 (p2 + 1) 25 (edC y.a y.d y.s) ∧ Box w9 p5 25 (edC m.a m.d m.s)) from ⟨bel_trans H8.out.1 hbb, H8.out.2.1.still hbb, H8.out.2.2.1.still hbb, H8.out.2.2.2.still hbb⟩)
  clear hbb H8 HG2 c0 c1 c2
  by_cases k0 : m.c = 0
  rotate_left
  · have kb : (m.c != 0) = true := by simpa using k0
    clear k0 HMT HF1 HF2 HE3 HE4 HI7b
    go_wp2_with fail
    go_ret
    exact ⟨rfl, H9.out.1⟩
  by_cases k1 : R1c = 0
  rotate_left
  · have ka : (m.c != 0) = false := by simpa using k0
    have kb : (R1c != 0) = true := by simpa using k1
    clear k0 k1 HMT HF1 HF2 HE3 HE4 HI7b
    go_wp2_with fail
    go_ret
    exact ⟨rfl, H9.out.1⟩
  by_cases k2 : R2c = 0
  rotate_left
  · have ka : (m.c != 0) = false := by simpa using k0
    have kb : (R1c != 0) = false := by simpa using k1
    have kc : (R2c != 0) = true := by simpa using k2
    clear k0 k1 k2 HMT HF1 HF2 HE3 HE4 HI7b
    go_wp2_with fail
    go_ret
    exact ⟨rfl, H9.out.1⟩
  have HM := (show Hid _ from HMT.out k0 k1 k2)
  have C3 := (show Hid _ from HE3.out (HF1.out k0 k1 k2))
  have C4 := (show Hid _ from HE4.out (HF2.out k0 k2 k1))
  have ka : (m.c != 0) = false := by simpa using k0
  have kb : (R1c != 0) = false := by simpa using k1
  have kc : (R2c != 0) = false := by simpa using k2
  have kn : (n.c != 0) = false := by simpa using HM.out.n0
  clear k0 k1 k2 HMT HF1 HF2 HE3 HE4
  have x0 : w9.cell? ⟨p2, 0, none⟩ = some (.int .i64 x.a) := H9.out.2.1.cell 0 (by simp)
  have x1 : w9.cell? ⟨p2, 1, none⟩ = some (.int .i64 x.d) := H9.out.2.1.cell 1 (by simp)
  have x2 : w9.cell? ⟨p2, 2, none⟩ = some (.string x.s) := H9.out.2.1.cell 2 (by simp)
  have y0 : w9.cell? ⟨p2 + 1, 0, none⟩ = some (.int .i64 y.a) := H9.out.2.2.1.cell 0 (by simp)
  have y1 : w9.cell? ⟨p2 + 1, 1, none⟩ = some (.int .i64 y.d) := H9.out.2.2.1.cell 1 (by simp)
  have y2 : w9.cell? ⟨p2 + 1, 2, none⟩ = some (.string y.s) := H9.out.2.2.1.cell 2 (by simp)
  go_wp2_with fail
  refine Calls.mono (HI7b.out _) ?_
  rintro e wa ⟨rfl, hbb⟩
  have HA := (show Hid (Below w1.heap.size w1 (wa.alloc (.cells #[.int .i64 n.a, .int .i64 n.d, .string n.s] 25)) ∧ Box (wa.alloc (.cells #[.int .i64 n.a, .int .i64 n.d, .string n.s] 25)) p2 25 (edC x.a x.d x.s) ∧ Box (wa.alloc (.cells #[.int .i64 n.a, .int .i64 n.d, .string n.s] 25)) (p2 + 1) 25 (edC y.a y.d y.s) ∧ Box (wa.alloc (.cells #[.int .i64 n.a, .int .i64 n.d, .string n.s] 25)) p5 25 (edC m.a m.d m.s) ∧ Box (wa.alloc (.cells #[.int .i64 n.a, .int .i64 n.d, .string n.s] 25)) wa.heap.size 25 (edC n.a n.d n.s)) from ⟨bel_trans (bel_trans H9.out.1 hbb) (bel_alloc _ _), (H9.out.2.1.still hbb).still (bel_alloc _ _), (H9.out.2.2.1.still hbb).still (bel_alloc _ _), (H9.out.2.2.2.still hbb).still (bel_alloc _ _), Box.new wa 25 _⟩)
  clear hbb H9 HI7b x0 x1 x2 y0 y1 y2
  have m0 : (wa.alloc (.cells #[.int .i64 n.a, .int .i64 n.d, .string n.s] 25)).cell? ⟨p5, 0, none⟩ = some (.int .i64 m.a) := HA.out.2.2.2.1.cell 0 (by simp)
  have m1 : (wa.alloc (.cells #[.int .i64 n.a, .int .i64 n.d, .string n.s] 25)).cell? ⟨p5, 1, none⟩ = some (.int .i64 m.d) := HA.out.2.2.2.1.cell 1 (by simp)
  have m2 : (wa.alloc (.cells #[.int .i64 n.a, .int .i64 n.d, .string n.s] 25)).cell? ⟨p5, 2, none⟩ = some (.string m.s) := HA.out.2.2.2.1.cell 2 (by simp)
  go_wp2_with fail
  refine Calls.mono (C3.out _) ?_
  rintro e wb ⟨rfl, hbb⟩
  have HBb := (show Hid (Below w1.heap.size w1 wb ∧ Box wb p2 25 (edC x.a x.d x.s) ∧ Box wb (p2 + 1) 25 (edC y.a y.d y.s) ∧ Box wb wa.heap.size 25 (edC n.a n.d n.s)) from ⟨bel_trans HA.out.1 hbb, HA.out.2.1.still hbb, HA.out.2.2.1.still hbb, HA.out.2.2.2.2.still hbb⟩)
  clear hbb HA C3 m0 m1 m2
  generalize hpa : wa.heap.size = pa at *
  clear hpa
  have n0 : wb.cell? ⟨pa, 0, none⟩ = some (.int .i64 n.a) := HBb.out.2.2.2.cell 0 (by simp)
  have n1 : wb.cell? ⟨pa, 1, none⟩ = some (.int .i64 n.d) := HBb.out.2.2.2.cell 1 (by simp)
  have n2 : wb.cell? ⟨pa, 2, none⟩ = some (.string n.s) := HBb.out.2.2.2.cell 2 (by simp)
  go_wp2_with fail
  refine Calls.mono (C4.out _) ?_
  rintro e wc ⟨rfl, hbb⟩
  have HCc := (show Hid (Below w1.heap.size w1 wc ∧ Box wc p2 25 (edC x.a x.d x.s) ∧ Box wc (p2 + 1) 25 (edC y.a y.d y.s)) from ⟨bel_trans HBb.out.1 hbb, HBb.out.2.1.still hbb, HBb.out.2.2.1.still hbb⟩)
  clear hbb HBb C4 n0 n1 n2
  have e3 : (R3c == 1) = false := by have := HM.out.b3; simpa using this
  have e4 : (R4c == 1) = false := by have := HM.out.b4; simpa using this
  have x0 : wc.cell? ⟨p2, 0, none⟩ = some (.int .i64 x.a) := HCc.out.2.1.cell 0 (by simp)
  have x1 : wc.cell? ⟨p2, 1, none⟩ = some (.int .i64 x.d) := HCc.out.2.1.cell 1 (by simp)
  have x2 : wc.cell? ⟨p2, 2, none⟩ = some (.string x.s) := HCc.out.2.1.cell 2 (by simp)
  have y0 : wc.cell? ⟨p2 + 1, 0, none⟩ = some (.int .i64 y.a) := HCc.out.2.2.cell 0 (by simp)
  have y1 : wc.cell? ⟨p2 + 1, 1, none⟩ = some (.int .i64 y.d) := HCc.out.2.2.cell 1 (by simp)
  have y2 : wc.cell? ⟨p2 + 1, 2, none⟩ = some (.string y.s) := HCc.out.2.2.cell 2 (by simp)
  have kx : IntKind.i64.wrap (x.a + x.d) = x.a + x.d := HWX.out
  have ky : IntKind.i64.wrap (y.a + y.d) = y.a + y.d := HWY.out
  by_cases t1 : x.a + x.d < y.a
  · obtain ⟨rfl, rfl⟩ : R3s = R4s ∧ R3c = R4c := by have h := HM.out.eq (.inl t1); exact Prod.mk.injEq _ _ _ _ ▸ h
    have hcc : (R3c == R3c) = true := by simp
    go_wp2_with fail
    go_ret
    exact ⟨rfl, HCc.out.1⟩
  by_cases t2 : y.a + y.d < x.a
  · obtain ⟨rfl, rfl⟩ : R3s = R4s ∧ R3c = R4c := by have h := HM.out.eq (.inr t2); exact Prod.mk.injEq _ _ _ _ ▸ h
    have hcc : (R3c == R3c) = true := by simp
    go_wp2_with fail
    go_ret
    exact ⟨rfl, HCc.out.1⟩
  go_wp2_with fail
  go_ret
  exact ⟨rfl, HCc.out.1⟩
end Go.Proofs.Ytcpjoicejbcndaa
