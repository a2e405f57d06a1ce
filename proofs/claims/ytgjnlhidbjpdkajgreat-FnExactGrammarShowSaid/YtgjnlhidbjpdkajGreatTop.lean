import Derived.Test.YtgjnlhidbjpdkajGreatDat
namespace Go.Proofs.YtgjnlhidbjpdkajGreat
open Go.RowKit Go.Deep
set_option linter.unusedVariables false
set_option maxRecDepth 100000
set_option linter.unusedSimpArgs false

theorem Ints.top {w : World} {S : Nat → Prop} {l : List Int} {v : Value} (h : Ints w S l v) : Ints w (fun b => S b ∧ b < w.heap.size) l v := by
  obtain ⟨a, cap, b, off, hv, hc, hm, ha, hcell⟩ := h
  exact ⟨a, cap, b, off, hv, hc, hm, fun h0 => ⟨(ha h0).1, (ha h0).2, lt_of_cell (hcell 0 h0)⟩, hcell⟩
theorem Strs.top {w : World} {S : Nat → Prop} {l : List ByteArray} {v : Value} (h : Strs w S l v) : Strs w (fun b => S b ∧ b < w.heap.size) l v := by
  obtain ⟨a, cap, b, off, hv, hc, hm, ha, hcell⟩ := h
  exact ⟨a, cap, b, off, hv, hc, hm, fun h0 => ⟨(ha h0).1, (ha h0).2, lt_of_cell (hcell 0 h0).1⟩, hcell⟩
theorem IRws.top {w : World} {S : Nat → Prop} {l : List (List Int)} {v : Value} (h : IRws w S l v) : IRws w (fun b => S b ∧ b < w.heap.size) l v := by
  obtain ⟨a, cap, b, off, s0, hv, hc, hm, ha, hcell, r0⟩ := h
  exact ⟨a, cap, b, off, s0, hv, hc, hm, fun h0 => ⟨(ha h0).1, (ha h0).2, lt_of_cell (hcell 0 h0)⟩, hcell, fun i hi => (r0 i hi).top⟩
theorem TokenR.top {w : World} {S : Nat → Prop} {l : List DToken} {v : Value} (h : TokenR w S l v) : TokenR w (fun b => S b ∧ b < w.heap.size) l v := by
  obtain ⟨a, cap, b, off, hv, hc, hm, ha, hcell⟩ := h
  exact ⟨a, cap, b, off, hv, hc, hm, fun h0 => ⟨(ha h0).1, (ha h0).2, lt_of_cell (hcell 0 h0).1⟩, hcell⟩
theorem LevelR.top {w : World} {S : Nat → Prop} {l : List DLevel} {v : Value} (h : LevelR w S l v) : LevelR w (fun b => S b ∧ b < w.heap.size) l v := by
  obtain ⟨a, cap, b, off, s1, hv, hc, hm, ha, hcell, r1⟩ := h
  exact ⟨a, cap, b, off, s1, hv, hc, hm, fun h0 => ⟨(ha h0).1, (ha h0).2, lt_of_cell (hcell 0 h0).1⟩, hcell, fun i hi => (r1 i hi).top⟩
theorem GAltR.top {w : World} {S : Nat → Prop} {l : List DGAlt} {v : Value} (h : GAltR w S l v) : GAltR w (fun b => S b ∧ b < w.heap.size) l v := by
  obtain ⟨a, cap, b, off, s0, hv, hc, hm, ha, hcell, r0⟩ := h
  exact ⟨a, cap, b, off, s0, hv, hc, hm, fun h0 => ⟨(ha h0).1, (ha h0).2, lt_of_cell (hcell 0 h0).1⟩, hcell, fun i hi => (r0 i hi).top⟩
theorem GRuleR.top {w : World} {S : Nat → Prop} {l : List DGRule} {v : Value} (h : GRuleR w S l v) : GRuleR w (fun b => S b ∧ b < w.heap.size) l v := by
  obtain ⟨a, cap, b, off, s1, hv, hc, hm, ha, hcell, r1⟩ := h
  exact ⟨a, cap, b, off, s1, hv, hc, hm, fun h0 => ⟨(ha h0).1, (ha h0).2, lt_of_cell (hcell 0 h0).1⟩, hcell, fun i hi => (r1 i hi).top⟩
theorem PartR.top {w : World} {S : Nat → Prop} {l : List DPart} {v : Value} (h : PartR w S l v) : PartR w (fun b => S b ∧ b < w.heap.size) l v := by
  obtain ⟨a, cap, b, off, s2, hv, hc, hm, ha, hcell, r2⟩ := h
  exact ⟨a, cap, b, off, s2, hv, hc, hm, fun h0 => ⟨(ha h0).1, (ha h0).2, lt_of_cell (hcell 0 h0).1⟩, hcell, fun i hi => (r2 i hi).top⟩
theorem DLevelL.top {w : World} {S : Nat → Prop} {t : DLevel} {v1 : Value} (h : DLevelL w S t v1) : DLevelL w (fun b => S b ∧ b < w.heap.size) t v1 := ⟨h.lits.top⟩
theorem DGAltL.top {w : World} {S : Nat → Prop} {t : DGAlt} {v0 : Value} (h : DGAltL w S t v0) : DGAltL w (fun b => S b ∧ b < w.heap.size) t v0 := ⟨h.items.top⟩
theorem DGRuleL.top {w : World} {S : Nat → Prop} {t : DGRule} {v1 : Value} (h : DGRuleL w S t v1) : DGRuleL w (fun b => S b ∧ b < w.heap.size) t v1 := ⟨h.alts.top⟩
theorem DPartL.top {w : World} {S : Nat → Prop} {t : DPart} {v2 : Value} (h : DPartL w S t v2) : DPartL w (fun b => S b ∧ b < w.heap.size) t v2 := ⟨h.alts.top⟩
theorem DGrammarL.top {w : World} {S : Nat → Prop} {t : DGrammar} {v1 v2 v3 v4 : Value} (h : DGrammarL w S t v1 v2 v3 v4) : DGrammarL w (fun b => S b ∧ b < w.heap.size) t v1 v2 v3 v4 := ⟨h.tokens.top, h.levels.top, h.rules.top, h.parts.top⟩
end Go.Proofs.YtgjnlhidbjpdkajGreat
