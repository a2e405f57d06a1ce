import Derived.Test.YtaimlmjgicmbeaaYb
import Derived.Test.YtaimlmjgicmbeaaDo
/-! The program: Yield. -/
namespace Go.Proofs.Ytaimlmjgicmbeaa
open Go.RowKit Go.Deep
set_option linter.unusedVariables false
set_option maxRecDepth 100000
set_option linter.unusedSimpArgs false

theorem yldR_cd {d : Bn} {non : Int} {L : List Int} (h : cdR d non L.length ≠ 0) : yldR d non L = ([], cdR d non L.length) := by
  unfold yldR
  rw [if_pos h]
theorem yldR_rd {d : Bn} {non : Int} {L : List Int} (h : cdR d non L.length = 0) : yldR d non L = (if rd d L (L.length + 1) (d.terms.length + non) 0 = some L.length then (if 200 < (wd d L (L.length + 1) 0).length then ([], 3) else (wd d L (L.length + 1) 0, 0)) else ([], 2)) := by
  unfold yldR
  rw [if_neg (by omega)]
theorem DP.top {d : Bn} {L : List Int} {w : World} {K : Nat → Prop} : ∀ (f a : Nat) (v : Value), DP d L w K f a v → DP d L w (fun q => K q ∧ q < w.heap.size) f a v
  | 0, _, _, h => h
  | f + 1, a, v, h => by
    obtain ⟨g, kb, kc, ka, vs, ats, h1, h2, h3, h4, h5, h6, h7, h8⟩ := h
    refine ⟨g, kb, kc, ka, vs, ats, h1, ⟨h2, lt_of_cell h3⟩, h3, h4, h5, fun h0 => ⟨(h6 h0).1, (h6 h0).2, lt_of_cell (h7 0 h0).2.1⟩, fun i hi => ?_, h8⟩
    obtain ⟨k1, k2, k3, k4⟩ := h7 i hi
    exact ⟨k1, k2, k3, fun hn => DP.top f _ _ (k4 hn)⟩
theorem GW.below {w w' : World} {u u' : Value} (h : GW w w' u u') (hn : u.ownBlock = none) : Below w.heap.size w w' := by
  refine ⟨h.g.os, h.g.tape, h.g.output, h.g.size, fun k hk => h.g.block k hk (fun e => ?_)⟩
  rw [hn] at e
  cases e
end Go.Proofs.Ytaimlmjgicmbeaa
