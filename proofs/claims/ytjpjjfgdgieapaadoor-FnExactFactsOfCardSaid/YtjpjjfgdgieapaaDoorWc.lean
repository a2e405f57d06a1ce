import Derived.Test.YtjpjjfgdgieapaaDoorWb
/-! The law's comparison of what is known. -/
namespace Go.Proofs.YtjpjjfgdgieapaaDoor
open Go.RowKit Go.Deep
set_option linter.unusedVariables false
set_option maxRecDepth 100000
set_option linter.unusedSimpArgs false

/-- What is known of rules, as data. -/
structure FaD where
  nl : List Bool
  ma : List Bool
  re : List Bool
  lr : List Bool
  le : List Int
  fi : List (List Int)
  fo : List (List Int)
structure FaL (w : World) (D : FaD) (u0 u1 u2 u3 u4 u5 u6 : Value) : Prop where
  nl : Bls w D.nl u0
  ma : Bls w D.ma u1
  re : Bls w D.re u2
  lr : Bls w D.lr u3
  le : Ints w (fun _ => True) D.le u4
  fi : IRows w (fun _ => True) D.fi u5
  fo : IRows w (fun _ => True) D.fo u6
theorem FaL.still {w w' : World} {D : FaD} {u0 u1 u2 u3 u4 u5 u6 : Value} (h : FaL w D u0 u1 u2 u3 u4 u5 u6) (hb : Below w.heap.size w w') : FaL w' D u0 u1 u2 u3 u4 u5 u6 :=
  ⟨h.nl.still hb, h.ma.still hb, h.re.still hb, h.lr.still hb, h.le.still hb, h.fi.still hb, h.fo.still hb⟩
theorem FaL.form {w : World} {D : FaD} {u0 u1 u2 u3 u4 u5 u6 : Value} (h : FaL w D u0 u1 u2 u3 u4 u5 u6) : (∃ a n c, u0 = .slice a n c ∧ n ≤ maxLen) ∧ (∃ a n c, u1 = .slice a n c ∧ n ≤ maxLen) ∧ (∃ a n c, u2 = .slice a n c ∧ n ≤ maxLen) ∧ (∃ a n c, u3 = .slice a n c ∧ n ≤ maxLen) ∧ (∃ a n c, u4 = .slice a n c ∧ n ≤ maxLen) ∧ (∃ a n c, u5 = .slice a n c ∧ n ≤ maxLen) ∧ (∃ a n c, u6 = .slice a n c ∧ n ≤ maxLen) := by
  refine ⟨?_, ?_, ?_, ?_, ?_, ?_, ?_⟩
  · obtain ⟨a, cap, b, off, e, h1, h2, _⟩ := h.nl; exact ⟨_, _, _, e, by omega⟩
  · obtain ⟨a, cap, b, off, e, h1, h2, _⟩ := h.ma; exact ⟨_, _, _, e, by omega⟩
  · obtain ⟨a, cap, b, off, e, h1, h2, _⟩ := h.re; exact ⟨_, _, _, e, by omega⟩
  · obtain ⟨a, cap, b, off, e, h1, h2, _⟩ := h.lr; exact ⟨_, _, _, e, by omega⟩
  · obtain ⟨a, cap, b, off, e, h1, h2, _⟩ := h.le; exact ⟨_, _, _, e, by omega⟩
  · obtain ⟨a, cap, b, off, sv, e, h1, h2, _⟩ := h.fi; exact ⟨_, _, _, e, by omega⟩
  · obtain ⟨a, cap, b, off, sv, e, h1, h2, _⟩ := h.fo; exact ⟨_, _, _, e, by omega⟩
set_option maxHeartbeats 6400000 in
theorem eqFacts_any (D : FaD) (u0 u1 u2 u3 u4 u5 u6 v0 v1 v2 v3 v4 v5 v6 : Value) (w : World) (h : FaL w D u0 u1 u2 u3 u4 u5 u6) (h' : FaL w D v0 v1 v2 v3 v4 v5 v6) :
    Calls Tryd.prog 8 #[.agg #[u0, u1, u2, u3, u4, u5, u6], .agg #[v0, v1, v2, v3, v4, v5, v6]] w fun e w' => e = .returned (.bool true) ∧ Below w.heap.size w w' := by
  obtain ⟨⟨a0, n0, c0, rfl, _⟩, ⟨a1, n1, c1, rfl, _⟩, ⟨a2, n2, c2, rfl, _⟩, ⟨a3, n3, c3, rfl, _⟩, ⟨a4, n4, c4, rfl, _⟩, ⟨a5, n5, c5, rfl, _⟩, ⟨a6, n6, c6, rfl, _⟩⟩ := h.form
  obtain ⟨⟨b0, m0, d0, rfl, _⟩, ⟨b1, m1, d1, rfl, _⟩, ⟨b2, m2, d2, rfl, _⟩, ⟨b3, m3, d3, rfl, _⟩, ⟨b4, m4, d4, rfl, _⟩, ⟨b5, m5, d5, rfl, _⟩, ⟨b6, m6, d6, rfl, _⟩⟩ := h'.form
  have hb0 := bel_alloc w (.cells #[.slice a0 n0 c0, .slice a1 n1 c1, .slice a2 n2 c2, .slice a3 n3 c3, .slice a4 n4 c4, .slice a5 n5 c5, .slice a6 n6 c6] 32)
  have hb01 := bel_alloc (w.alloc (.cells #[.slice a0 n0 c0, .slice a1 n1 c1, .slice a2 n2 c2, .slice a3 n3 c3, .slice a4 n4 c4, .slice a5 n5 c5, .slice a6 n6 c6] 32)) (.cells #[.slice b0 m0 d0, .slice b1 m1 d1, .slice b2 m2 d2, .slice b3 m3 d3, .slice b4 m4 d4, .slice b5 m5 d5, .slice b6 m6 d6] 32)
  have hbw : Below w.heap.size w ((w.alloc (.cells #[.slice a0 n0 c0, .slice a1 n1 c1, .slice a2 n2 c2, .slice a3 n3 c3, .slice a4 n4 c4, .slice a5 n5 c5, .slice a6 n6 c6] 32)).alloc (.cells #[.slice b0 m0 d0, .slice b1 m1 d1, .slice b2 m2 d2, .slice b3 m3 d3, .slice b4 m4 d4, .slice b5 m5 d5, .slice b6 m6 d6] 32)) := bel_trans hb0 hb01
  have hx1 := (Box.new w 32 [.slice a0 n0 c0, .slice a1 n1 c1, .slice a2 n2 c2, .slice a3 n3 c3, .slice a4 n4 c4, .slice a5 n5 c5, .slice a6 n6 c6]).still hb01
  have hx2 := Box.new (w.alloc (.cells #[.slice a0 n0 c0, .slice a1 n1 c1, .slice a2 n2 c2, .slice a3 n3 c3, .slice a4 n4 c4, .slice a5 n5 c5, .slice a6 n6 c6] 32)) 32 [.slice b0 m0 d0, .slice b1 m1 d1, .slice b2 m2 d2, .slice b3 m3 d3, .slice b4 m4 d4, .slice b5 m5 d5, .slice b6 m6 d6]
  have hsz : (w.alloc (.cells #[.slice a0 n0 c0, .slice a1 n1 c1, .slice a2 n2 c2, .slice a3 n3 c3, .slice a4 n4 c4, .slice a5 n5 c5, .slice a6 n6 c6] 32)).heap.size = w.heap.size + 1 := by simp
  rw [hsz] at hx2
  have HX := (show Hid _ from (⟨hx1, hx2, hbw⟩ : _ ∧ _ ∧ _))
  have HC0 := (show Hid (∀ w', Below ((w.alloc (.cells #[.slice a0 n0 c0, .slice a1 n1 c1, .slice a2 n2 c2, .slice a3 n3 c3, .slice a4 n4 c4, .slice a5 n5 c5, .slice a6 n6 c6] 32)).alloc (.cells #[.slice b0 m0 d0, .slice b1 m1 d1, .slice b2 m2 d2, .slice b3 m3 d3, .slice b4 m4 d4, .slice b5 m5 d5, .slice b6 m6 d6] 32)).heap.size ((w.alloc (.cells #[.slice a0 n0 c0, .slice a1 n1 c1, .slice a2 n2 c2, .slice a3 n3 c3, .slice a4 n4 c4, .slice a5 n5 c5, .slice a6 n6 c6] 32)).alloc (.cells #[.slice b0 m0 d0, .slice b1 m1 d1, .slice b2 m2 d2, .slice b3 m3 d3, .slice b4 m4 d4, .slice b5 m5 d5, .slice b6 m6 d6] 32)) w' → Calls Tryd.prog 28 #[.slice a0 n0 c0, .slice b0 m0 d0] w' fun e w'' => e = .returned (.bool true) ∧ Below w'.heap.size w' w'') from fun w' hb => eqBls_any D.nl _ _ w' ((h.nl.still hbw).still hb) ((h'.nl.still hbw).still hb))
  have HC1 := (show Hid (∀ w', Below ((w.alloc (.cells #[.slice a0 n0 c0, .slice a1 n1 c1, .slice a2 n2 c2, .slice a3 n3 c3, .slice a4 n4 c4, .slice a5 n5 c5, .slice a6 n6 c6] 32)).alloc (.cells #[.slice b0 m0 d0, .slice b1 m1 d1, .slice b2 m2 d2, .slice b3 m3 d3, .slice b4 m4 d4, .slice b5 m5 d5, .slice b6 m6 d6] 32)).heap.size ((w.alloc (.cells #[.slice a0 n0 c0, .slice a1 n1 c1, .slice a2 n2 c2, .slice a3 n3 c3, .slice a4 n4 c4, .slice a5 n5 c5, .slice a6 n6 c6] 32)).alloc (.cells #[.slice b0 m0 d0, .slice b1 m1 d1, .slice b2 m2 d2, .slice b3 m3 d3, .slice b4 m4 d4, .slice b5 m5 d5, .slice b6 m6 d6] 32)) w' → Calls Tryd.prog 28 #[.slice a1 n1 c1, .slice b1 m1 d1] w' fun e w'' => e = .returned (.bool true) ∧ Below w'.heap.size w' w'') from fun w' hb => eqBls_any D.ma _ _ w' ((h.ma.still hbw).still hb) ((h'.ma.still hbw).still hb))
  have HC2 := (show Hid (∀ w', Below ((w.alloc (.cells #[.slice a0 n0 c0, .slice a1 n1 c1, .slice a2 n2 c2, .slice a3 n3 c3, .slice a4 n4 c4, .slice a5 n5 c5, .slice a6 n6 c6] 32)).alloc (.cells #[.slice b0 m0 d0, .slice b1 m1 d1, .slice b2 m2 d2, .slice b3 m3 d3, .slice b4 m4 d4, .slice b5 m5 d5, .slice b6 m6 d6] 32)).heap.size ((w.alloc (.cells #[.slice a0 n0 c0, .slice a1 n1 c1, .slice a2 n2 c2, .slice a3 n3 c3, .slice a4 n4 c4, .slice a5 n5 c5, .slice a6 n6 c6] 32)).alloc (.cells #[.slice b0 m0 d0, .slice b1 m1 d1, .slice b2 m2 d2, .slice b3 m3 d3, .slice b4 m4 d4, .slice b5 m5 d5, .slice b6 m6 d6] 32)) w' → Calls Tryd.prog 28 #[.slice a2 n2 c2, .slice b2 m2 d2] w' fun e w'' => e = .returned (.bool true) ∧ Below w'.heap.size w' w'') from fun w' hb => eqBls_any D.re _ _ w' ((h.re.still hbw).still hb) ((h'.re.still hbw).still hb))
  have HC3 := (show Hid (∀ w', Below ((w.alloc (.cells #[.slice a0 n0 c0, .slice a1 n1 c1, .slice a2 n2 c2, .slice a3 n3 c3, .slice a4 n4 c4, .slice a5 n5 c5, .slice a6 n6 c6] 32)).alloc (.cells #[.slice b0 m0 d0, .slice b1 m1 d1, .slice b2 m2 d2, .slice b3 m3 d3, .slice b4 m4 d4, .slice b5 m5 d5, .slice b6 m6 d6] 32)).heap.size ((w.alloc (.cells #[.slice a0 n0 c0, .slice a1 n1 c1, .slice a2 n2 c2, .slice a3 n3 c3, .slice a4 n4 c4, .slice a5 n5 c5, .slice a6 n6 c6] 32)).alloc (.cells #[.slice b0 m0 d0, .slice b1 m1 d1, .slice b2 m2 d2, .slice b3 m3 d3, .slice b4 m4 d4, .slice b5 m5 d5, .slice b6 m6 d6] 32)) w' → Calls Tryd.prog 28 #[.slice a3 n3 c3, .slice b3 m3 d3] w' fun e w'' => e = .returned (.bool true) ∧ Below w'.heap.size w' w'') from fun w' hb => eqBls_any D.lr _ _ w' ((h.lr.still hbw).still hb) ((h'.lr.still hbw).still hb))
  have HC4 := (show Hid (∀ w', Below ((w.alloc (.cells #[.slice a0 n0 c0, .slice a1 n1 c1, .slice a2 n2 c2, .slice a3 n3 c3, .slice a4 n4 c4, .slice a5 n5 c5, .slice a6 n6 c6] 32)).alloc (.cells #[.slice b0 m0 d0, .slice b1 m1 d1, .slice b2 m2 d2, .slice b3 m3 d3, .slice b4 m4 d4, .slice b5 m5 d5, .slice b6 m6 d6] 32)).heap.size ((w.alloc (.cells #[.slice a0 n0 c0, .slice a1 n1 c1, .slice a2 n2 c2, .slice a3 n3 c3, .slice a4 n4 c4, .slice a5 n5 c5, .slice a6 n6 c6] 32)).alloc (.cells #[.slice b0 m0 d0, .slice b1 m1 d1, .slice b2 m2 d2, .slice b3 m3 d3, .slice b4 m4 d4, .slice b5 m5 d5, .slice b6 m6 d6] 32)) w' → Calls Tryd.prog 29 #[.slice a4 n4 c4, .slice b4 m4 d4] w' fun e w'' => e = .returned (.bool true) ∧ Below w'.heap.size w' w'') from fun w' hb => eqInts_any D.le _ _ w' ((h.le.still hbw).still hb) ((h'.le.still hbw).still hb))
  have HC5 := (show Hid (∀ w', Below ((w.alloc (.cells #[.slice a0 n0 c0, .slice a1 n1 c1, .slice a2 n2 c2, .slice a3 n3 c3, .slice a4 n4 c4, .slice a5 n5 c5, .slice a6 n6 c6] 32)).alloc (.cells #[.slice b0 m0 d0, .slice b1 m1 d1, .slice b2 m2 d2, .slice b3 m3 d3, .slice b4 m4 d4, .slice b5 m5 d5, .slice b6 m6 d6] 32)).heap.size ((w.alloc (.cells #[.slice a0 n0 c0, .slice a1 n1 c1, .slice a2 n2 c2, .slice a3 n3 c3, .slice a4 n4 c4, .slice a5 n5 c5, .slice a6 n6 c6] 32)).alloc (.cells #[.slice b0 m0 d0, .slice b1 m1 d1, .slice b2 m2 d2, .slice b3 m3 d3, .slice b4 m4 d4, .slice b5 m5 d5, .slice b6 m6 d6] 32)) w' → Calls Tryd.prog 30 #[.slice a5 n5 c5, .slice b5 m5 d5] w' fun e w'' => e = .returned (.bool true) ∧ Below w'.heap.size w' w'') from fun w' hb => eqRows_any D.fi _ _ w' ((h.fi.still hbw).still hb) ((h'.fi.still hbw).still hb))
  have HC6 := (show Hid (∀ w', Below ((w.alloc (.cells #[.slice a0 n0 c0, .slice a1 n1 c1, .slice a2 n2 c2, .slice a3 n3 c3, .slice a4 n4 c4, .slice a5 n5 c5, .slice a6 n6 c6] 32)).alloc (.cells #[.slice b0 m0 d0, .slice b1 m1 d1, .slice b2 m2 d2, .slice b3 m3 d3, .slice b4 m4 d4, .slice b5 m5 d5, .slice b6 m6 d6] 32)).heap.size ((w.alloc (.cells #[.slice a0 n0 c0, .slice a1 n1 c1, .slice a2 n2 c2, .slice a3 n3 c3, .slice a4 n4 c4, .slice a5 n5 c5, .slice a6 n6 c6] 32)).alloc (.cells #[.slice b0 m0 d0, .slice b1 m1 d1, .slice b2 m2 d2, .slice b3 m3 d3, .slice b4 m4 d4, .slice b5 m5 d5, .slice b6 m6 d6] 32)) w' → Calls Tryd.prog 30 #[.slice a6 n6 c6, .slice b6 m6 d6] w' fun e w'' => e = .returned (.bool true) ∧ Below w'.heap.size w' w'') from fun w' hb => eqRows_any D.fo _ _ w' ((h.fo.still hbw).still hb) ((h'.fo.still hbw).still hb))
  clear h h' hb0 hb01 hbw hx1 hx2 hsz
  go_enter Tryd.func8, Tryd.ntmps8
  go_wp2_with fail
  refine Calls.mono (HC0.out _ (Below.refl _ _)) ?_
  rintro e w1 ⟨rfl, hb⟩
  have HB0 := (show Hid (Below ((w.alloc (.cells #[.slice a0 n0 c0, .slice a1 n1 c1, .slice a2 n2 c2, .slice a3 n3 c3, .slice a4 n4 c4, .slice a5 n5 c5, .slice a6 n6 c6] 32)).alloc (.cells #[.slice b0 m0 d0, .slice b1 m1 d1, .slice b2 m2 d2, .slice b3 m3 d3, .slice b4 m4 d4, .slice b5 m5 d5, .slice b6 m6 d6] 32)).heap.size ((w.alloc (.cells #[.slice a0 n0 c0, .slice a1 n1 c1, .slice a2 n2 c2, .slice a3 n3 c3, .slice a4 n4 c4, .slice a5 n5 c5, .slice a6 n6 c6] 32)).alloc (.cells #[.slice b0 m0 d0, .slice b1 m1 d1, .slice b2 m2 d2, .slice b3 m3 d3, .slice b4 m4 d4, .slice b5 m5 d5, .slice b6 m6 d6] 32)) w1) from hb)
  have x1 : w1.cell? ⟨w.heap.size, 1, none⟩ = some (.slice a1 n1 c1) := (HX.out.1.still HB0.out).cell 1 (by simp)
  have y1 : w1.cell? ⟨w.heap.size + 1, 1, none⟩ = some (.slice b1 m1 d1) := (HX.out.2.1.still HB0.out).cell 1 (by simp)
  clear hb
  go_wp2_with fail
  refine Calls.mono (HC1.out _ HB0.out) ?_
  rintro e w2 ⟨rfl, hb⟩
  have HB1 := (show Hid (Below ((w.alloc (.cells #[.slice a0 n0 c0, .slice a1 n1 c1, .slice a2 n2 c2, .slice a3 n3 c3, .slice a4 n4 c4, .slice a5 n5 c5, .slice a6 n6 c6] 32)).alloc (.cells #[.slice b0 m0 d0, .slice b1 m1 d1, .slice b2 m2 d2, .slice b3 m3 d3, .slice b4 m4 d4, .slice b5 m5 d5, .slice b6 m6 d6] 32)).heap.size ((w.alloc (.cells #[.slice a0 n0 c0, .slice a1 n1 c1, .slice a2 n2 c2, .slice a3 n3 c3, .slice a4 n4 c4, .slice a5 n5 c5, .slice a6 n6 c6] 32)).alloc (.cells #[.slice b0 m0 d0, .slice b1 m1 d1, .slice b2 m2 d2, .slice b3 m3 d3, .slice b4 m4 d4, .slice b5 m5 d5, .slice b6 m6 d6] 32)) w2) from bel_trans HB0.out hb)
  have x2 : w2.cell? ⟨w.heap.size, 2, none⟩ = some (.slice a2 n2 c2) := (HX.out.1.still HB1.out).cell 2 (by simp)
  have y2 : w2.cell? ⟨w.heap.size + 1, 2, none⟩ = some (.slice b2 m2 d2) := (HX.out.2.1.still HB1.out).cell 2 (by simp)
  clear hb HB0 x1 y1
  go_wp2_with fail
  refine Calls.mono (HC2.out _ HB1.out) ?_
  rintro e w3 ⟨rfl, hb⟩
  have HB2 := (show Hid (Below ((w.alloc (.cells #[.slice a0 n0 c0, .slice a1 n1 c1, .slice a2 n2 c2, .slice a3 n3 c3, .slice a4 n4 c4, .slice a5 n5 c5, .slice a6 n6 c6] 32)).alloc (.cells #[.slice b0 m0 d0, .slice b1 m1 d1, .slice b2 m2 d2, .slice b3 m3 d3, .slice b4 m4 d4, .slice b5 m5 d5, .slice b6 m6 d6] 32)).heap.size ((w.alloc (.cells #[.slice a0 n0 c0, .slice a1 n1 c1, .slice a2 n2 c2, .slice a3 n3 c3, .slice a4 n4 c4, .slice a5 n5 c5, .slice a6 n6 c6] 32)).alloc (.cells #[.slice b0 m0 d0, .slice b1 m1 d1, .slice b2 m2 d2, .slice b3 m3 d3, .slice b4 m4 d4, .slice b5 m5 d5, .slice b6 m6 d6] 32)) w3) from bel_trans HB1.out hb)
  have x3 : w3.cell? ⟨w.heap.size, 3, none⟩ = some (.slice a3 n3 c3) := (HX.out.1.still HB2.out).cell 3 (by simp)
  have y3 : w3.cell? ⟨w.heap.size + 1, 3, none⟩ = some (.slice b3 m3 d3) := (HX.out.2.1.still HB2.out).cell 3 (by simp)
  clear hb HB1 x2 y2
  go_wp2_with fail
  refine Calls.mono (HC3.out _ HB2.out) ?_
  rintro e w4 ⟨rfl, hb⟩
  have HB3 := (show Hid (Below ((w.alloc (.cells #[.slice a0 n0 c0, .slice a1 n1 c1, .slice a2 n2 c2, .slice a3 n3 c3, .slice a4 n4 c4, .slice a5 n5 c5, .slice a6 n6 c6] 32)).alloc (.cells #[.slice b0 m0 d0, .slice b1 m1 d1, .slice b2 m2 d2, .slice b3 m3 d3, .slice b4 m4 d4, .slice b5 m5 d5, .slice b6 m6 d6] 32)).heap.size ((w.alloc (.cells #[.slice a0 n0 c0, .slice a1 n1 c1, .slice a2 n2 c2, .slice a3 n3 c3, .slice a4 n4 c4, .slice a5 n5 c5, .slice a6 n6 c6] 32)).alloc (.cells #[.slice b0 m0 d0, .slice b1 m1 d1, .slice b2 m2 d2, .slice b3 m3 d3, .slice b4 m4 d4, .slice b5 m5 d5, .slice b6 m6 d6] 32)) w4) from bel_trans HB2.out hb)
  have x4 : w4.cell? ⟨w.heap.size, 4, none⟩ = some (.slice a4 n4 c4) := (HX.out.1.still HB3.out).cell 4 (by simp)
  have y4 : w4.cell? ⟨w.heap.size + 1, 4, none⟩ = some (.slice b4 m4 d4) := (HX.out.2.1.still HB3.out).cell 4 (by simp)
  clear hb HB2 x3 y3
  go_wp2_with fail
  refine Calls.mono (HC4.out _ HB3.out) ?_
  rintro e w5 ⟨rfl, hb⟩
  have HB4 := (show Hid (Below ((w.alloc (.cells #[.slice a0 n0 c0, .slice a1 n1 c1, .slice a2 n2 c2, .slice a3 n3 c3, .slice a4 n4 c4, .slice a5 n5 c5, .slice a6 n6 c6] 32)).alloc (.cells #[.slice b0 m0 d0, .slice b1 m1 d1, .slice b2 m2 d2, .slice b3 m3 d3, .slice b4 m4 d4, .slice b5 m5 d5, .slice b6 m6 d6] 32)).heap.size ((w.alloc (.cells #[.slice a0 n0 c0, .slice a1 n1 c1, .slice a2 n2 c2, .slice a3 n3 c3, .slice a4 n4 c4, .slice a5 n5 c5, .slice a6 n6 c6] 32)).alloc (.cells #[.slice b0 m0 d0, .slice b1 m1 d1, .slice b2 m2 d2, .slice b3 m3 d3, .slice b4 m4 d4, .slice b5 m5 d5, .slice b6 m6 d6] 32)) w5) from bel_trans HB3.out hb)
  have x5 : w5.cell? ⟨w.heap.size, 5, none⟩ = some (.slice a5 n5 c5) := (HX.out.1.still HB4.out).cell 5 (by simp)
  have y5 : w5.cell? ⟨w.heap.size + 1, 5, none⟩ = some (.slice b5 m5 d5) := (HX.out.2.1.still HB4.out).cell 5 (by simp)
  clear hb HB3 x4 y4
  go_wp2_with fail
  refine Calls.mono (HC5.out _ HB4.out) ?_
  rintro e w6 ⟨rfl, hb⟩
  have HB5 := (show Hid (Below ((w.alloc (.cells #[.slice a0 n0 c0, .slice a1 n1 c1, .slice a2 n2 c2, .slice a3 n3 c3, .slice a4 n4 c4, .slice a5 n5 c5, .slice a6 n6 c6] 32)).alloc (.cells #[.slice b0 m0 d0, .slice b1 m1 d1, .slice b2 m2 d2, .slice b3 m3 d3, .slice b4 m4 d4, .slice b5 m5 d5, .slice b6 m6 d6] 32)).heap.size ((w.alloc (.cells #[.slice a0 n0 c0, .slice a1 n1 c1, .slice a2 n2 c2, .slice a3 n3 c3, .slice a4 n4 c4, .slice a5 n5 c5, .slice a6 n6 c6] 32)).alloc (.cells #[.slice b0 m0 d0, .slice b1 m1 d1, .slice b2 m2 d2, .slice b3 m3 d3, .slice b4 m4 d4, .slice b5 m5 d5, .slice b6 m6 d6] 32)) w6) from bel_trans HB4.out hb)
  have x6 : w6.cell? ⟨w.heap.size, 6, none⟩ = some (.slice a6 n6 c6) := (HX.out.1.still HB5.out).cell 6 (by simp)
  have y6 : w6.cell? ⟨w.heap.size + 1, 6, none⟩ = some (.slice b6 m6 d6) := (HX.out.2.1.still HB5.out).cell 6 (by simp)
  clear hb HB4 x5 y5
  go_wp2_with fail
  refine Calls.mono (HC6.out _ HB5.out) ?_
  rintro e w7 ⟨rfl, hb⟩
  have HB6 := (show Hid (Below ((w.alloc (.cells #[.slice a0 n0 c0, .slice a1 n1 c1, .slice a2 n2 c2, .slice a3 n3 c3, .slice a4 n4 c4, .slice a5 n5 c5, .slice a6 n6 c6] 32)).alloc (.cells #[.slice b0 m0 d0, .slice b1 m1 d1, .slice b2 m2 d2, .slice b3 m3 d3, .slice b4 m4 d4, .slice b5 m5 d5, .slice b6 m6 d6] 32)).heap.size ((w.alloc (.cells #[.slice a0 n0 c0, .slice a1 n1 c1, .slice a2 n2 c2, .slice a3 n3 c3, .slice a4 n4 c4, .slice a5 n5 c5, .slice a6 n6 c6] 32)).alloc (.cells #[.slice b0 m0 d0, .slice b1 m1 d1, .slice b2 m2 d2, .slice b3 m3 d3, .slice b4 m4 d4, .slice b5 m5 d5, .slice b6 m6 d6] 32)) w7) from bel_trans HB5.out hb)
  clear hb HB5 x6 y6
  go_wp2_with fail
  go_ret
  exact ⟨rfl, bel_trans HX.out.2.2 HB6.out⟩
end Go.Proofs.YtjpjjfgdgieapaaDoor
