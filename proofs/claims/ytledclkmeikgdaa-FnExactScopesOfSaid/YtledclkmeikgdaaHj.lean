import Derived.Test.YtledclkmeikgdaaHi
import Derived.Test.YtledclkmeikgdaaGa
/-! Marks of a whole Sg that was answered: markSg, heldSg. -/
namespace Go.Proofs.Ytledclkmeikgdaa
open Go.RowKit Go.Deep
set_option linter.unusedVariables false
set_option maxRecDepth 100000
set_option linter.unusedSimpArgs false

/-- The block of a row that is not empty. -/
def lo' (l b : Nat) : Nat := if 0 < l then b else 0
def hi' (l b : Nat) : Nat := if 0 < l then b + 1 else 0
theorem outIn' {l b : Nat} : 0 < l → lo' l b ≤ b ∧ b < hi' l b := fun h => by unfold lo' hi'; rw [if_pos h, if_pos h]; omega
theorem outAt {l b k : Nat} {w w' : World} (h : Out (lo' l b) (hi' l b) w w') (hk : k < w.heap.size) (hne : 0 < l → k ≠ b) : w'.heap[k]? = w.heap[k]? := h.2.2.2.2 k hk (by
  unfold lo' hi'
  by_cases h0 : 0 < l
  · rw [if_pos h0, if_pos h0]; have := hne h0; omega
  · rw [if_neg h0, if_neg h0]; omega)
theorem outIn {lo hi l b : Nat} {w w' : World} (h : Out (lo' l b) (hi' l b) w w') (ho : 0 < l → lo ≤ b ∧ b < hi) : Out lo hi w w' :=
  ⟨h.1, h.2.1, h.2.2.1, h.2.2.2.1, fun k hk hr => outAt h hk (fun h0 e => by have := ho h0; omega)⟩
theorem Rk.keep' {w w' : World} {b T l k : Nat} {v : Value} (h : Rk w b T l k v) (hb : 0 < l → b < w.heap.size → w'.heap[b]? = w.heap[b]?) : Rk w' b T l k v := by
  by_cases h0 : 0 < l
  · exact h.keep (hb h0)
  · obtain ⟨a, cap, m, h1, h2, _⟩ := h
    exact ⟨a, cap, m, h1, h2, fun h => absurd h h0⟩
theorem Me.keep' {w w' : World} {b l n : Nat} {v : Value} (h : Me w b l n v) (hb : 0 < l → b < w.heap.size → w'.heap[b]? = w.heap[b]?) : Me w' b l n v := by
  by_cases h0 : 0 < l
  · exact h.keep (hb h0)
  · obtain ⟨a, cap, h1, h2, h3, _⟩ := h
    exact ⟨a, cap, h1, h2, h3, fun i hi => by omega⟩
theorem Ms.keep' {w w' : World} {b l n : Nat} {v : Value} (h : Ms w b l n v) (hb : 0 < l → b < w.heap.size → w'.heap[b]? = w.heap[b]?) : Ms w' b l n v := by
  by_cases h0 : 0 < l
  · exact h.keep (hb h0)
  · obtain ⟨a, cap, h1, h2, h3, _⟩ := h
    exact ⟨a, cap, h1, h2, h3, fun i hi => by omega⟩
/-- The three rows of a Sg that owns them. -/
structure Rg3 (w : World) (lo hi b1 b2 b3 l1 l2 l3 : Nat) (u1 u2 u3 : Value) : Prop where
  r1 : Rk w b1 74 l1 3 u1
  r2 : Rk w b2 33 l2 2 u2
  r3 : Rk w b3 33 l3 2 u3
  d : (0 < l1 → 0 < l2 → b2 ≠ b1) ∧ (0 < l1 → 0 < l3 → b3 ≠ b1) ∧ (0 < l2 → 0 < l3 → b3 ≠ b2)
  o : (0 < l1 → lo ≤ b1 ∧ b1 < hi) ∧ (0 < l2 → lo ≤ b2 ∧ b2 < hi) ∧ (0 < l3 → lo ≤ b3 ∧ b3 < hi)
structure Mg3 (w : World) (b1 b2 b3 l1 l2 l3 n : Nat) (u1 u2 u3 : Value) : Prop where
  m1 : Me w b1 l1 n u1
  m2 : Ms w b2 l2 (n + l1 * 3) u2
  m3 : Ms w b3 l3 (n + l1 * 3 + l2 * 2) u3
theorem Mg3.still {w w' : World} {b1 b2 b3 l1 l2 l3 n : Nat} {u1 u2 u3 : Value} (h : Mg3 w b1 b2 b3 l1 l2 l3 n u1 u2 u3) (hb : Below w.heap.size w w') : Mg3 w' b1 b2 b3 l1 l2 l3 n u1 u2 u3 :=
  ⟨h.m1.keep (fun hlt => hb.block _ hlt), h.m2.keep (fun hlt => hb.block _ hlt), h.m3.keep (fun hlt => hb.block _ hlt)⟩
set_option maxHeartbeats 3200000 in
theorem mkG17 {lo hi b1 b2 b3 l1 l2 l3 : Nat} (sc : Int) (u1 u2 u3 : Value) (n : Nat) (w : World) (h : Rg3 w lo hi b1 b2 b3 l1 l2 l3 u1 u2 u3) (hhi : hi ≤ w.heap.size) (h0 : 0 < n) (hn : n + l1 * 3 + l2 * 2 + l3 * 2 ≤ 1125899906842624) :
    Calls Try.prog 24 #[.agg #[.int .i64 sc, u1, u2, u3], .int .i64 n] w fun e w' => e = .returned (.int .i64 (n + l1 * 3 + l2 * 2 + l3 * 2 : Nat)) ∧ Out lo hi w w' ∧ Mg3 w' b1 b2 b3 l1 l2 l3 n u1 u2 u3 := by
  obtain ⟨a1, c1, m1, e1, _⟩ := h.r1
  obtain ⟨a2, c2, m2, e2, _⟩ := h.r2
  obtain ⟨a3, c3, m3, e3, _⟩ := h.r3
  subst e1 e2 e3
  have HQ := (show Hid _ from h)
  have HB0 := (show Hid (Below w.heap.size w (w.alloc (.cells #[.int .i64 sc, .slice a1 l1 c1, .slice a2 l2 c2, .slice a3 l3 c3] 27))) from bel_alloc _ _)
  have HG0 := (show Hid (G4 w.heap.size sc (.slice a1 l1 c1) (.slice a2 l2 c2) (.slice a3 l3 c3) (w.alloc (.cells #[.int .i64 sc, .slice a1 l1 c1, .slice a2 l2 c2, .slice a3 l3 c3] 27))) from G4.new w sc _ _ _)
  have HC1 := (show Hid _ from mk53 (lo' l1 b1) (hi' l1 b1) l1 b1 n _ (w.alloc (.cells #[.int .i64 sc, .slice a1 l1 c1, .slice a2 l2 c2, .slice a3 l3 c3] 27)) (h.r1.keep (fun hlt => HB0.out.block _ hlt)) outIn' (by omega))
  clear h
  go_enter Try.func24, Try.ntmps24
  go_wp2_with fail
  refine Calls.mono HC1.out ?_
  rintro e w1 ⟨rfl, ho1, hm1⟩
  have hd := HQ.out.d
  have hord := HQ.out.o
  have HO1 := (show Hid (Out (lo' l1 b1) (hi' l1 b1) (w.alloc (.cells #[.int .i64 sc, .slice a1 l1 c1, .slice a2 l2 c2, .slice a3 l3 c3] 27)) w1) from ho1)
  have HS1 := (show Hid (w.heap.size + 1 ≤ w1.heap.size) from by have := ho1.2.2.2.1; simp at this; exact this)
  have hkeep : ∀ {k : Nat}, k < w.heap.size + 1 → (0 < l1 → k ≠ b1) → w1.heap[k]? = (w.alloc (.cells #[.int .i64 sc, .slice a1 l1 c1, .slice a2 l2 c2, .slice a3 l3 c3] 27)).heap[k]? := fun hk hne => outAt ho1 (by simp; omega) hne
  have g2 : w1.cell? ⟨w.heap.size, 2, none⟩ = some (.slice a2 l2 c2) := (World.cell?_of_block (a := ⟨w.heap.size, _, none⟩) (hkeep (k := w.heap.size) (by omega) (fun h1 => by have := hord.1 h1; omega))).trans HG0.out.2.2.1
  have g3 : w1.cell? ⟨w.heap.size, 3, none⟩ = some (.slice a3 l3 c3) := (World.cell?_of_block (a := ⟨w.heap.size, _, none⟩) (hkeep (k := w.heap.size) (by omega) (fun h1 => by have := hord.1 h1; omega))).trans HG0.out.2.2.2
  have HR2 := (show Hid (Rk w1 b2 33 l2 2 (.slice a2 l2 c2)) from HQ.out.r2.keep' (fun h2 hlt => (hkeep (k := b2) (by omega) (fun h1 => hd.1 h1 h2)).trans (HB0.out.block _ hlt)))
  have HR3 := (show Hid (Rk w1 b3 33 l3 2 (.slice a3 l3 c3)) from HQ.out.r3.keep' (fun h3 hlt => (hkeep (k := b3) (by omega) (fun h1 => hd.2.1 h1 h3)).trans (HB0.out.block _ hlt)))
  have HM1 := (show Hid _ from hm1)
  have HG3 := (show Hid _ from g3)
  have HC2 := (show Hid _ from mk54 (lo' l2 b2) (hi' l2 b2) l2 b2 (n + l1 * 3) _ w1 HR2.out outIn' (by omega) (by omega))
  clear ho1 hm1 hkeep HC1 g3
  generalize hK1 : n + l1 * 3 = K1 at *
  have HK1 := (show Hid _ from hK1); clear hK1
  go_wp2_with fail
  refine Calls.mono HC2.out ?_
  rintro e w2 ⟨rfl, ho2, hm2⟩
  have HO2 := (show Hid (Out (lo' l2 b2) (hi' l2 b2) w1 w2) from ho2)
  have g3 : w2.cell? ⟨w.heap.size, 3, none⟩ = some (.slice a3 l3 c3) := (World.cell?_of_block (a := ⟨w.heap.size, _, none⟩) (outAt ho2 (k := w.heap.size) (by have := HS1.out; omega) (fun h2 => by have := hord.2.1 h2; omega))).trans HG3.out
  have HM2 := (show Hid _ from hm2)
  have HR3' := (show Hid (Rk w2 b3 33 l3 2 (.slice a3 l3 c3)) from HR3.out.keep' (fun h3 hlt => outAt ho2 hlt (fun h2 => hd.2.2 h2 h3)))
  have HM1' := (show Hid (Me w2 b1 l1 n (.slice a1 l1 c1)) from HM1.out.keep' (fun h1 hlt => outAt ho2 hlt (fun h2 => (hd.1 h1 h2).symm)))
  have HC3 := (show Hid _ from mk54 (lo' l3 b3) (hi' l3 b3) l3 b3 (K1 + l2 * 2) _ w2 HR3'.out outIn' (by have := HK1.out; omega) (by have := HK1.out; omega))
  clear ho2 hm2 HC2 g2
  generalize hK2 : K1 + l2 * 2 = K2 at *
  have HK2 := (show Hid _ from hK2); clear hK2
  go_wp2_with fail
  refine Calls.mono HC3.out ?_
  rintro e w3 ⟨rfl, ho3, hm3⟩
  have HO3 := (show Hid (Out (lo' l3 b3) (hi' l3 b3) w2 w3) from ho3)
  have HMG := (show Hid (Mg3 w3 b1 b2 b3 l1 l2 l3 n (.slice a1 l1 c1) (.slice a2 l2 c2) (.slice a3 l3 c3)) from ⟨HM1'.out.keep' (fun h1 hlt => outAt ho3 hlt (fun h3 => (hd.2.1 h1 h3).symm)), by rw [HK1.out]; exact HM2.out.keep' (fun h2 hlt => outAt ho3 hlt (fun h3 => (hd.2.2 h2 h3).symm)), by rw [HK1.out, HK2.out]; exact hm3⟩)
  clear ho3 hm3 HC3 g3
  go_wp2_with fail
  go_ret
  refine ⟨by rw [HK1.out, HK2.out]; rfl, ?_, HMG.out⟩
  exact (((Out.of_below HB0.out).trans (outIn HO1.out hord.1)).trans (outIn HO2.out hord.2.1)).trans (outIn HO3.out hord.2.2)
set_option maxHeartbeats 3200000 in
theorem held24 {b1 b2 b3 l1 l2 l3 : Nat} (sc : Int) (u1 u2 u3 : Value) (n : Nat) (w : World) (h : Mg3 w b1 b2 b3 l1 l2 l3 n u1 u2 u3) (h0 : 0 < n) (hn : n + l1 * 3 + l2 * 2 + l3 * 2 ≤ 1125899906842624) :
    Calls Try.prog 26 #[.agg #[.int .i64 sc, u1, u2, u3], .int .i64 n] w fun e w' => e = .returned (.int .i64 (n + l1 * 3 + l2 * 2 + l3 * 2 : Nat)) ∧ Below w.heap.size w w' := by
  have H1 := (show Hid (∀ wq, Below w.heap.size w wq → Calls Try.prog 71 #[u1, .int .i64 n] wq fun e w' => e = .returned (.int .i64 (n + l1 * 3 : Nat)) ∧ Below wq.heap.size wq w') from fun wq hb => held64 l1 b1 n u1 wq (h.still hb).m1 (by omega))
  have H2 := (show Hid (∀ wq, Below w.heap.size w wq → Calls Try.prog 72 #[u2, .int .i64 (n + l1 * 3 : Nat)] wq fun e w' => e = .returned (.int .i64 (n + l1 * 3 + l2 * 2 : Nat)) ∧ Below wq.heap.size wq w') from fun wq hb => held65 l2 b2 (n + l1 * 3) u2 wq (h.still hb).m2 (by omega) (by omega))
  have H3 := (show Hid (∀ wq, Below w.heap.size w wq → Calls Try.prog 72 #[u3, .int .i64 (n + l1 * 3 + l2 * 2 : Nat)] wq fun e w' => e = .returned (.int .i64 (n + l1 * 3 + l2 * 2 + l3 * 2 : Nat)) ∧ Below wq.heap.size wq w') from fun wq hb => held65 l3 b3 (n + l1 * 3 + l2 * 2) u3 wq (h.still hb).m3 (by omega) (by omega))
  obtain ⟨a1, c1, rfl, _⟩ := h.m1
  obtain ⟨a2, c2, rfl, _⟩ := h.m2
  obtain ⟨a3, c3, rfl, _⟩ := h.m3
  clear h
  generalize n + l1 * 3 + l2 * 2 + l3 * 2 = K3 at *
  generalize n + l1 * 3 + l2 * 2 = K2 at *
  generalize n + l1 * 3 = K1 at *
  have d1 : decide ((K1 : Int) < 0) = false := by simp
  have d2 : decide ((K2 : Int) < 0) = false := by simp
  have d3 : decide ((K3 : Int) < 0) = false := by simp
  have HB0 := (show Hid (Below w.heap.size w (w.alloc (.cells #[.int .i64 sc, .slice a1 l1 c1, .slice a2 l2 c2, .slice a3 l3 c3] 27))) from bel_alloc _ _)
  have HG0 := (show Hid (G4 w.heap.size sc (.slice a1 l1 c1) (.slice a2 l2 c2) (.slice a3 l3 c3) (w.alloc (.cells #[.int .i64 sc, .slice a1 l1 c1, .slice a2 l2 c2, .slice a3 l3 c3] 27))) from G4.new w sc _ _ _)
  go_enter Try.func26, Try.ntmps26
  go_wp2_with fail
  refine Calls.mono (H1.out _ HB0.out) ?_
  rintro e w1 ⟨rfl, hb1⟩
  have HB1 := (show Hid _ from bel_trans HB0.out hb1)
  have HG1 := (show Hid (G4 w.heap.size sc (.slice a1 l1 c1) (.slice a2 l2 c2) (.slice a3 l3 c3) w1) from HG0.out.still hb1)
  obtain ⟨k0, k1, k2, k3⟩ := HG1.out
  clear hb1
  go_wp2_with fail
  refine Calls.mono (H2.out _ HB1.out) ?_
  rintro e w2 ⟨rfl, hb2⟩
  have HB2 := (show Hid _ from bel_trans HB1.out hb2)
  clear k0 k1 k2 k3
  obtain ⟨k0, k1, k2, k3⟩ := HG1.out.still hb2
  clear hb2
  go_wp2_with fail
  refine Calls.mono (H3.out _ HB2.out) ?_
  rintro e w3 ⟨rfl, hb3⟩
  have HB3 := (show Hid _ from bel_trans HB2.out hb3)
  clear hb3 k0 k1 k2 k3
  go_wp2_with fail
  go_ret
  exact ⟨rfl, HB3.out⟩
end Go.Proofs.Ytledclkmeikgdaa
