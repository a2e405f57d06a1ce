import Derived.Test.YtledclkmeikgdaaHj
import Derived.Test.YtledclkmeikgdaaSl
/-! What is answered, marked. -/
namespace Go.Proofs.Ytledclkmeikgdaa
open Go.RowKit Go.Deep Go.Lib
open Go.Proofs.Ytledclkmeikgdaa.T (Tr)
set_option linter.unusedVariables false
set_option maxRecDepth 100000
set_option linter.unusedSimpArgs false

set_option maxHeartbeats 3200000 in
theorem mkG24b {lo hi b1 b2 b3 l1 l2 l3 : Nat} (sc : Int) (u1 u2 u3 : Value) (n : Nat) (w : World) (h : Rg3 w lo hi b1 b2 b3 l1 l2 l3 u1 u2 u3) (hhi : hi ≤ w.heap.size) (h0 : 0 < n) (hn : n + l1 * 3 + l2 * 2 + l3 * 2 ≤ 1125899906842624) :
    Calls Try.prog 24 #[.agg #[.int .i64 sc, u1, u2, u3], .int .i64 n] w fun e w' => e = .returned (.int .i64 (n + l1 * 3 + l2 * 2 + l3 * 2 : Nat)) ∧ (Out lo hi w w' ∧ ∀ k, k < w.heap.size → (0 < l1 → k ≠ b1) → (0 < l2 → k ≠ b2) → (0 < l3 → k ≠ b3) → w'.heap[k]? = w.heap[k]?) ∧ Mg3 w' b1 b2 b3 l1 l2 l3 n u1 u2 u3 := by
  obtain ⟨a1, c1, m1, e1, _⟩ := h.r1
  obtain ⟨a2, c2, m2, e2, _⟩ := h.r2
  obtain ⟨a3, c3, m3, e3, _⟩ := h.r3
  subst e1 e2 e3
  have HQ := (show Hid _ from h)
  have HB0 := (show Hid (Below w.heap.size w (w.alloc (.cells #[.int .i64 sc, .slice a1 l1 c1, .slice a2 l2 c2, .slice a3 l3 c3] 27))) from bel_alloc _ _)
  have HG0 := (show Hid (G4 w.heap.size sc (.slice a1 l1 c1) (.slice a2 l2 c2) (.slice a3 l3 c3) (w.alloc (.cells #[.int .i64 sc, .slice a1 l1 c1, .slice a2 l2 c2, .slice a3 l3 c3] 27))) from G4.new w sc _ _ _)
  have HC1 := (show Hid _ from mk53 (lo' l1 b1) (hi' l1 b1) l1 b1 n _ (w.alloc (.cells #[.int .i64 sc, .slice a1 l1 c1, .slice a2 l2 c2, .slice a3 l3 c3] 27)) (h.r1.keep (fun hlt => HB0.out.block _ hlt)) outIn' (by omega))
  clear h
  go_enter Try.func24, Try.ntmps24
  go_wp2_with fail
  refine Calls.mono HC1.out ?_
  rintro e w1 ⟨rfl, ho1, hm1⟩
  have hd := HQ.out.d
  have hord := HQ.out.o
  have HO1 := (show Hid (Out (lo' l1 b1) (hi' l1 b1) (w.alloc (.cells #[.int .i64 sc, .slice a1 l1 c1, .slice a2 l2 c2, .slice a3 l3 c3] 27)) w1) from ho1)
  have HS1 := (show Hid (w.heap.size + 1 ≤ w1.heap.size) from by have := ho1.2.2.2.1; simp at this; exact this)
  have hkeep : ∀ {k : Nat}, k < w.heap.size + 1 → (0 < l1 → k ≠ b1) → w1.heap[k]? = (w.alloc (.cells #[.int .i64 sc, .slice a1 l1 c1, .slice a2 l2 c2, .slice a3 l3 c3] 27)).heap[k]? := fun hk hne => outAt ho1 (by simp; omega) hne
  have g2 : w1.cell? ⟨w.heap.size, 2, none⟩ = some (.slice a2 l2 c2) := (World.cell?_of_block (a := ⟨w.heap.size, _, none⟩) (hkeep (k := w.heap.size) (by omega) (fun h1 => by have := hord.1 h1; omega))).trans HG0.out.2.2.1
  have g3 : w1.cell? ⟨w.heap.size, 3, none⟩ = some (.slice a3 l3 c3) := (World.cell?_of_block (a := ⟨w.heap.size, _, none⟩) (hkeep (k := w.heap.size) (by omega) (fun h1 => by have := hord.1 h1; omega))).trans HG0.out.2.2.2
  have HR2 := (show Hid (Rk w1 b2 33 l2 2 (.slice a2 l2 c2)) from HQ.out.r2.keep' (fun h2 hlt => (hkeep (k := b2) (by omega) (fun h1 => hd.1 h1 h2)).trans (HB0.out.block _ hlt)))
  have HR3 := (show Hid (Rk w1 b3 33 l3 2 (.slice a3 l3 c3)) from HQ.out.r3.keep' (fun h3 hlt => (hkeep (k := b3) (by omega) (fun h1 => hd.2.1 h1 h3)).trans (HB0.out.block _ hlt)))
  have HM1 := (show Hid _ from hm1)
  have HG3 := (show Hid _ from g3)
  have HC2 := (show Hid _ from mk54 (lo' l2 b2) (hi' l2 b2) l2 b2 (n + l1 * 3) _ w1 HR2.out outIn' (by omega) (by omega))
  clear ho1 hm1 hkeep HC1 g3
  generalize hK1 : n + l1 * 3 = K1 at *
  have HK1 := (show Hid _ from hK1); clear hK1
  go_wp2_with fail
  refine Calls.mono HC2.out ?_
  rintro e w2 ⟨rfl, ho2, hm2⟩
  have HO2 := (show Hid (Out (lo' l2 b2) (hi' l2 b2) w1 w2) from ho2)
  have g3 : w2.cell? ⟨w.heap.size, 3, none⟩ = some (.slice a3 l3 c3) := (World.cell?_of_block (a := ⟨w.heap.size, _, none⟩) (outAt ho2 (k := w.heap.size) (by have := HS1.out; omega) (fun h2 => by have := hord.2.1 h2; omega))).trans HG3.out
  have HM2 := (show Hid _ from hm2)
  have HR3' := (show Hid (Rk w2 b3 33 l3 2 (.slice a3 l3 c3)) from HR3.out.keep' (fun h3 hlt => outAt ho2 hlt (fun h2 => hd.2.2 h2 h3)))
  have HM1' := (show Hid (Me w2 b1 l1 n (.slice a1 l1 c1)) from HM1.out.keep' (fun h1 hlt => outAt ho2 hlt (fun h2 => (hd.1 h1 h2).symm)))
  have HC3 := (show Hid _ from mk54 (lo' l3 b3) (hi' l3 b3) l3 b3 (K1 + l2 * 2) _ w2 HR3'.out outIn' (by have := HK1.out; omega) (by have := HK1.out; omega))
  clear ho2 hm2 HC2 g2
  generalize hK2 : K1 + l2 * 2 = K2 at *
  have HK2 := (show Hid _ from hK2); clear hK2
  go_wp2_with fail
  refine Calls.mono HC3.out ?_
  rintro e w3 ⟨rfl, ho3, hm3⟩
  have HO3 := (show Hid (Out (lo' l3 b3) (hi' l3 b3) w2 w3) from ho3)
  have HMG := (show Hid (Mg3 w3 b1 b2 b3 l1 l2 l3 n (.slice a1 l1 c1) (.slice a2 l2 c2) (.slice a3 l3 c3)) from ⟨HM1'.out.keep' (fun h1 hlt => outAt ho3 hlt (fun h3 => (hd.2.1 h1 h3).symm)), by rw [HK1.out]; exact HM2.out.keep' (fun h2 hlt => outAt ho3 hlt (fun h3 => (hd.2.2 h2 h3).symm)), by rw [HK1.out, HK2.out]; exact hm3⟩)
  clear ho3 hm3 HC3 g3
  go_wp2_with fail
  go_ret
  refine ⟨by rw [HK1.out, HK2.out]; rfl, ?_, HMG.out⟩
  refine ⟨(((Out.of_below HB0.out).trans (outIn HO1.out hord.1)).trans (outIn HO2.out hord.2.1)).trans (outIn HO3.out hord.2.2), fun k hk e1 e2 e3 => ?_⟩
  have z1 := HB0.out.size
  have z2 := HO1.out.2.2.2.1
  have z3 := HO2.out.2.2.2.1
  exact (outAt HO3.out (by omega) e3).trans ((outAt HO2.out (by omega) e2).trans ((outAt HO1.out (by omega) e1).trans (HB0.out.block k hk)))

end Go.Proofs.Ytledclkmeikgdaa
