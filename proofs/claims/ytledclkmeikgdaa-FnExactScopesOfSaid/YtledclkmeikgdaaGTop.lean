import Derived.Test.YtledclkmeikgdaaGDat
namespace Go.Proofs.Ytledclkmeikgdaa
open Go.RowKit Go.Deep
set_option linter.unusedVariables false
set_option maxRecDepth 100000
set_option linter.unusedSimpArgs false

theorem Ints.top {w : World} {S : Nat → Prop} {l : List Int} {v : Value} (h : Ints w S l v) : Ints w (fun b => S b ∧ b < w.heap.size) l v := by
  obtain ⟨a, cap, b, off, hv, hc, hm, ha, hcell⟩ := h
  exact ⟨a, cap, b, off, hv, hc, hm, fun h0 => ⟨(ha h0).1, (ha h0).2, lt_of_cell (hcell 0 h0)⟩, hcell⟩
theorem Strs.top {w : World} {S : Nat → Prop} {l : List ByteArray} {v : Value} (h : Strs w S l v) : Strs w (fun b => S b ∧ b < w.heap.size) l v := by
  obtain ⟨a, cap, b, off, hv, hc, hm, ha, hcell⟩ := h
  exact ⟨a, cap, b, off, hv, hc, hm, fun h0 => ⟨(ha h0).1, (ha h0).2, lt_of_cell (hcell 0 h0).1⟩, hcell⟩
theorem IRws.top {w : World} {S : Nat → Prop} {l : List (List Int)} {v : Value} (h : IRws w S l v) : IRws w (fun b => S b ∧ b < w.heap.size) l v := by
  obtain ⟨a, cap, b, off, s0, hv, hc, hm, ha, hcell, r0⟩ := h
  exact ⟨a, cap, b, off, s0, hv, hc, hm, fun h0 => ⟨(ha h0).1, (ha h0).2, lt_of_cell (hcell 0 h0)⟩, hcell, fun i hi => (r0 i hi).top⟩
theorem SEdgeR.top {w : World} {S : Nat → Prop} {l : List DSEdge} {v : Value} (h : SEdgeR w S l v) : SEdgeR w (fun b => S b ∧ b < w.heap.size) l v := by
  obtain ⟨a, cap, b, off, hv, hc, hm, ha, hcell⟩ := h
  exact ⟨a, cap, b, off, hv, hc, hm, fun h0 => ⟨(ha h0).1, (ha h0).2, lt_of_cell (hcell 0 h0).1⟩, hcell⟩
theorem SpotR.top {w : World} {S : Nat → Prop} {l : List DSpot} {v : Value} (h : SpotR w S l v) : SpotR w (fun b => S b ∧ b < w.heap.size) l v := by
  obtain ⟨a, cap, b, off, hv, hc, hm, ha, hcell⟩ := h
  exact ⟨a, cap, b, off, hv, hc, hm, fun h0 => ⟨(ha h0).1, (ha h0).2, lt_of_cell (hcell 0 h0).1⟩, hcell⟩
theorem DSgL.top {w : World} {S : Nat → Prop} {t : DSg} {v1 v2 v3 : Value} (h : DSgL w S t v1 v2 v3) : DSgL w (fun b => S b ∧ b < w.heap.size) t v1 v2 v3 := ⟨h.edges.top, h.decls.top, h.refs.top⟩
end Go.Proofs.Ytledclkmeikgdaa
