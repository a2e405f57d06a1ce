import Derived.Test.YtanbdfeoijflaaaDoorDat
namespace Go.Proofs.YtanbdfeoijflaaaDoor
open Go.RowKit Go.Deep
set_option linter.unusedVariables false
set_option maxRecDepth 100000
set_option linter.unusedSimpArgs false

theorem Ints.top {w : World} {S : Nat → Prop} {l : List Int} {v : Value} (h : Ints w S l v) : Ints w (fun b => S b ∧ b < w.heap.size) l v := by
  obtain ⟨a, cap, b, off, hv, hc, hm, ha, hcell⟩ := h
  exact ⟨a, cap, b, off, hv, hc, hm, fun h0 => ⟨(ha h0).1, (ha h0).2, lt_of_cell (hcell 0 h0)⟩, hcell⟩
theorem Strs.top {w : World} {S : Nat → Prop} {l : List ByteArray} {v : Value} (h : Strs w S l v) : Strs w (fun b => S b ∧ b < w.heap.size) l v := by
  obtain ⟨a, cap, b, off, hv, hc, hm, ha, hcell⟩ := h
  exact ⟨a, cap, b, off, hv, hc, hm, fun h0 => ⟨(ha h0).1, (ha h0).2, lt_of_cell (hcell 0 h0).1⟩, hcell⟩
theorem IRws.top {w : World} {S : Nat → Prop} {l : List (List Int)} {v : Value} (h : IRws w S l v) : IRws w (fun b => S b ∧ b < w.heap.size) l v := by
  obtain ⟨a, cap, b, off, s0, hv, hc, hm, ha, hcell, r0⟩ := h
  exact ⟨a, cap, b, off, s0, hv, hc, hm, fun h0 => ⟨(ha h0).1, (ha h0).2, lt_of_cell (hcell 0 h0)⟩, hcell, fun i hi => (r0 i hi).top⟩
theorem InsR.top {w : World} {S : Nat → Prop} {l : List DIns} {v : Value} (h : InsR w S l v) : InsR w (fun b => S b ∧ b < w.heap.size) l v := by
  obtain ⟨a, cap, b, off, hv, hc, hm, ha, hcell⟩ := h
  exact ⟨a, cap, b, off, hv, hc, hm, fun h0 => ⟨(ha h0).1, (ha h0).2, lt_of_cell (hcell 0 h0).1⟩, hcell⟩
end Go.Proofs.YtanbdfeoijflaaaDoor
