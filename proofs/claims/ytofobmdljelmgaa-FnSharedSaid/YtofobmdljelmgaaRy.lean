import Derived.Test.YtofobmdljelmgaaRb
/-! A Dag that is given: its size, its copy. -/
namespace Go.Proofs.Ytofobmdljelmgaa
open Go.RowKit Go.Deep
set_option linter.unusedVariables false
set_option maxRecDepth 100000
set_option linter.unusedSimpArgs false

/-- Nodes that lie behind a slice, all in blocks of S. -/
def Rds (w : World) (S : Nat → Prop) (ns : List Rd) (v : Value) : Prop :=
  ∃ (a : Option Addr) (cap b off : Nat) (sv : Nat → Value), v = .slice a ns.length cap ∧ ns.length ≤ cap ∧ cap ≤ maxLen ∧ (0 < ns.length → a = some ⟨b, off, none⟩ ∧ S b) ∧
    (∀ i (hi : i < ns.length), w.cell? ⟨b, off + i * 4, none⟩ = some (.string ns[i].nm) ∧ w.cell? ⟨b, off + i * 4 + 1, none⟩ = some (.string ns[i].tx) ∧ w.cell? ⟨b, off + i * 4 + 2, none⟩ = some (.bool ns[i].lf) ∧ w.cell? ⟨b, off + i * 4 + 3, none⟩ = some (sv i)) ∧
    (∀ i (hi : i < ns.length), ns[i].nm.size ≤ maxLen ∧ ns[i].tx.size ≤ maxLen) ∧ ∀ i (hi : i < ns.length), Ints w S ns[i].ks (sv i)
theorem Rds.still {w w' : World} {S : Nat → Prop} {ns : List Rd} {v : Value} (h : Rds w S ns v) (hb : Below w.heap.size w w') : Rds w' S ns v := by
  obtain ⟨a, cap, b, off, sv, hv, hc, hm, ha, hcell, hz, hr⟩ := h
  refine ⟨a, cap, b, off, sv, hv, hc, hm, ha, fun i hi => ?_, hz, fun i hi => (hr i hi).still hb⟩
  obtain ⟨c0, c1, c2, c3⟩ := hcell i hi
  exact ⟨(hb.cell (lt_of_cell c0)).trans c0, (hb.cell (lt_of_cell c1)).trans c1, (hb.cell (lt_of_cell c2)).trans c2, (hb.cell (lt_of_cell c3)).trans c3⟩
theorem Rds.form {w : World} {S : Nat → Prop} {ns : List Rd} {v : Value} (h : Rds w S ns v) : ∃ a cap, v = .slice a ns.length cap ∧ ns.length ≤ maxLen := by
  obtain ⟨a, cap, b, off, sv, hv, hc, hm, _⟩ := h
  exact ⟨_, _, hv, by omega⟩
/-- How much a node holds. -/
def wn (n : Rd) : Nat := n.nm.size + n.tx.size + n.ks.length
def wns (ns : List Rd) : Nat := (ns.map wn).sum
theorem wns_succ {ns : List Rd} {i : Nat} (h : i < ns.length) : wns (ns.take (i + 1)) = wns (ns.take i) + wn ns[i] := by
  unfold wns
  rw [List.take_succ_eq_append_getElem h, List.map_append, List.sum_append]
  simp only [List.map_cons, List.map_nil, List.sum_cons, List.sum_nil, Nat.add_zero]
theorem wns_le (ns : List Rd) (i : Nat) : wns (ns.take i) ≤ wns ns := by
  have h : wns ns = wns (ns.take i) + wns (ns.drop i) := by
    unfold wns
    rw [← List.sum_append, ← List.map_append, List.take_append_drop]
  omega
end Go.Proofs.Ytofobmdljelmgaa

/-! A Dag that is given: its size whole. -/
namespace Go.Proofs.Ytofobmdljelmgaa
open Go.RowKit Go.Deep
set_option linter.unusedVariables false
set_option maxRecDepth 100000
set_option linter.unusedSimpArgs false

end Go.Proofs.Ytofobmdljelmgaa
