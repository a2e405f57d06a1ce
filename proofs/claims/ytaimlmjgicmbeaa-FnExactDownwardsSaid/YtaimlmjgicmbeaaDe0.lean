import Derived.Test.YtaimlmjgicmbeaaDd
/-! What both readers need: the numbers that are left, rules that stay. -/
namespace Go.Proofs.Ytaimlmjgicmbeaa
open Go.RowKit Go.Deep
set_option linter.unusedVariables false
set_option maxRecDepth 100000
set_option linter.unusedSimpArgs false

theorem rd_ok {d : Bn} {L : List Int} {f : Nat} {s : Int} {a b : Nat} (h : rd d L f s a = some b) : okAt d L s a = true := by
  cases f with
  | zero => cases h
  | succ f => exact (rd_succ h).1
/-- The cells of a Prod in memory. -/
theorem prod_cells {w : World} {S : Nat → Prop} {d : Bn} {v0 v1 v3 : Value} (h : BLies w S d v0 v1 v3) : ∃ (a3 : Option Addr) (c3 bp op : Nat), v3 = .slice a3 d.prods.length c3 ∧ d.prods.length ≤ c3 ∧ ∀ k (hk : k < d.prods.length), a3 = some ⟨bp, op, none⟩ ∧ ∃ (ai : Option Addr) (ci bi oi : Nat), w.cell? ⟨bp, op + k * 5, none⟩ = some (.int .i64 d.prods[k].left) ∧ w.cell? ⟨bp, op + k * 5 + 1, none⟩ = some (.slice ai d.prods[k].right.length ci) ∧ w.cell? ⟨bp, op + k * 5 + 2, none⟩ = some (.string d.prods[k].label) ∧ w.cell? ⟨bp, op + k * 5 + 3, none⟩ = some (.int .i64 d.prods[k].lev) ∧ w.cell? ⟨bp, op + k * 5 + 4, none⟩ = some (.int .i64 d.prods[k].asc) ∧ d.prods[k].right.length ≤ ci ∧ ∀ i (hi : i < d.prods[k].right.length), ai = some ⟨bi, oi, none⟩ ∧ w.cell? ⟨bi, oi + i, none⟩ = some (.int .i64 d.prods[k].right[i]) := by
  obtain ⟨a3, c3, bp, op, sv, e3, hcp, hmp, hap, hcellp, hrp⟩ := h.prods
  refine ⟨a3, c3, bp, op, e3, hcp, fun k hk => ⟨(hap (by omega)).1, ?_⟩⟩
  obtain ⟨q0, q1, q2, q3, q4, _⟩ := hcellp k hk
  obtain ⟨ai, ci, bi, oi, ei, hci, hmi, hai, hcelli⟩ := hrp k hk
  rw [ei] at q1
  exact ⟨ai, ci, bi, oi, q0, q1, q2, q3, q4, hci, fun i hi => ⟨(hai (by omega)).1, hcelli i hi⟩⟩
theorem Strs.keep' {w w' : World} {S : Nat → Prop} {l : List ByteArray} {v : Value} (h : Strs w S l v) (hb : ∀ b, S b → b < w.heap.size → w'.heap[b]? = w.heap[b]?) : Strs w' S l v := by
  obtain ⟨a, cap, b, off, hv, hc, hm, ha, hcell⟩ := h
  refine ⟨a, cap, b, off, hv, hc, hm, ha, fun i hi => ?_⟩
  have h0 := (hcell i hi).1
  exact ⟨(World.cell?_of_block (w := w) (hb b (ha (by omega)).2 (lt_of_cell h0))).trans h0, (hcell i hi).2⟩
theorem BLies.keep' {w w' : World} {S : Nat → Prop} {d : Bn} {v0 v1 v3 : Value} (h : BLies w S d v0 v1 v3) (hb : ∀ b, S b → b < w.heap.size → w'.heap[b]? = w.heap[b]?) : BLies w' S d v0 v1 v3 := ⟨h.terms.keep hb, h.nons.keep' hb, h.prods.keep hb⟩
/-- The numbers from a place on, behind a slice. -/
def Num (w : World) (S : Nat → Prop) (L : List Int) (a : Nat) (v : Value) : Prop :=
  ∃ (an : Option Addr) (c bn on : Nat), v = .slice an (L.length - a) c ∧ L.length - a ≤ c ∧ c ≤ maxLen ∧ ∀ i, i < L.length - a → an = some ⟨bn, on, none⟩ ∧ S bn ∧ w.cell? ⟨bn, on + i, none⟩ = some (.int .i64 (numAt L (a + i)))
theorem Num.keep {w w' : World} {S : Nat → Prop} {L : List Int} {a : Nat} {v : Value} (h : Num w S L a v) (hb : ∀ b, S b → b < w.heap.size → w'.heap[b]? = w.heap[b]?) : Num w' S L a v := by
  obtain ⟨an, c, bn, on, hv, hc, hm, hcell⟩ := h
  refine ⟨an, c, bn, on, hv, hc, hm, fun i hi => ?_⟩
  obtain ⟨h1, h2, h3⟩ := hcell i hi
  exact ⟨h1, h2, (World.cell?_of_block (w := w) (hb bn h2 (lt_of_cell h3))).trans h3⟩
theorem Num.of {w : World} {S : Nat → Prop} {L : List Int} {v : Value} (h : Ints w S L v) : Num w S L 0 v := by
  obtain ⟨an, c, bn, on, hv, hc, hm, ha, hcell⟩ := h
  refine ⟨an, c, bn, on, hv, hc, hm, fun i hi => ?_⟩
  have hi' : i < L.length := by omega
  refine ⟨(ha (by omega)).1, (ha (by omega)).2, ?_⟩
  rw [hcell i hi', Nat.zero_add]
  simp [numAt, List.getD_eq_getElem?_getD, hi']
theorem Num.next {w : World} {S : Nat → Prop} {L : List Int} {a c bn on : Nat} (h : Num w S L a (.slice (some ⟨bn, on, none⟩) (L.length - a) c)) (ha : a < L.length) (an : Option Addr) (hn : c ≠ 1 → an = some ⟨bn, on + 1, none⟩) : Num w S L (a + 1) (.slice an (L.length - a - 1) (c - 1)) := by
  obtain ⟨an', c', bn', on', hv, hc, hm, hcell⟩ := h
  injection hv with e1 e2 e3
  subst e3
  have h0 := hcell 0 (by omega)
  rw [h0.1] at e1
  injection e1 with e1
  cases e1
  refine ⟨an, c - 1, bn, on + 1, by rw [Nat.sub_sub], by omega, by omega, fun i hi => ?_⟩
  obtain ⟨_, h2, h3⟩ := hcell (i + 1) (by omega)
  exact ⟨hn (by omega), h2, by rw [show on + 1 + i = on + (i + 1) by omega, h3, show a + 1 + i = a + (i + 1) by omega]⟩
end Go.Proofs.Ytaimlmjgicmbeaa
