import Derived.Test.YtofobmdljelmgaaRw
/-! A Dag that is given: copied whole, compared, marked. -/
namespace Go.Proofs.Ytofobmdljelmgaa
open Go.RowKit Go.Deep
set_option linter.unusedVariables false
set_option maxRecDepth 100000
set_option linter.unusedSimpArgs false

theorem RN.rds {B : Nat} {w : World} {u : Value} {ns : List Rd} {K : Nat → Prop} (h : RN B w u ns K) (hz : ∀ i (hi : i < ns.length), ns[i].nm.size ≤ maxLen ∧ ns[i].tx.size ≤ maxLen) : Rds w (fun _ => True) ns u := by
  obtain ⟨a, cap, hu, hc, hm⟩ := h.form
  obtain ⟨kv, kb, h⟩ := h
  rcases h.row.2 with ⟨e, e0⟩ | ⟨g, cp, cur, r1, r2⟩
  · exact ⟨a, cap, 0, 0, kv, hu, hc, hm, fun h0 => by omega, fun i hi => by omega, hz, fun i hi => by omega⟩
  · have hr := h.row
    rw [r1] at hr hu
    simp only [Value.slice.injEq] at hu
    refine ⟨some ⟨g, 0, none⟩, cp, g, 0, kv, r1, by omega, by omega, fun _ => ⟨rfl, trivial⟩, fun i hi => ?_, hz, fun i hi => ?_⟩
    · obtain ⟨q0, q1, q2, q3⟩ := rc_get ns kv ns.length i hi
      rw [rdn_eq hi] at q0 q1 q2
      refine ⟨?_, ?_, ?_, ?_⟩
      · rw [Nat.zero_add, World.ownsRow.cellAt hr _ (by omega)]; exact q0
      · rw [Nat.zero_add, World.ownsRow.cellAt hr _ (by omega)]; exact q1
      · rw [Nat.zero_add, World.ownsRow.cellAt hr _ (by omega)]; exact q2
      · rw [Nat.zero_add, World.ownsRow.cellAt hr _ (by omega)]; exact q3
    · have hk := h.kid i hi
      rw [rdn_eq hi] at hk
      obtain ⟨a, c, b, o, e1, e2, e3, e4, e5⟩ := hk.ints
      exact ⟨a, c, b, o, e1, e2, e3, fun hp => ⟨(e4 hp).1, trivial⟩, e5⟩
end Go.Proofs.Ytofobmdljelmgaa

/-! A Dag that is given: its copy owns its rows; its marks. -/
namespace Go.Proofs.Ytofobmdljelmgaa
open Go.RowKit Go.Deep
set_option linter.unusedVariables false
set_option maxRecDepth 100000
set_option linter.unusedSimpArgs false

/-- A copy of a Dag, in blocks from lo on and below hi. -/
def DagO (lo hi : Nat) (w : World) (ns : List Rd) (rs : List Int) (u r : Value) : Prop :=
  ∃ (K : Nat → Prop) (p q : Nat), u = .slice (some ⟨p, 0, none⟩) ns.length ns.length ∧ RN p w u ns K ∧ (∀ b, K b → b < q) ∧ r = .slice (some ⟨q, 0, none⟩) rs.length rs.length ∧ IRow w q rs ∧ lo ≤ p ∧ p < q ∧ q < hi ∧ rs.length ≤ 1048576
theorem DagO.keep {lo hi : Nat} {w w' : World} {ns : List Rd} {rs : List Int} {u r : Value} (h : DagO lo hi w ns rs u r) (hs : w.heap.size ≤ w'.heap.size) (hb : ∀ k, lo ≤ k → k < hi → k < w.heap.size → w'.heap[k]? = w.heap[k]?) : DagO lo hi w' ns rs u r := by
  obtain ⟨K, p, q, h1, h2, h3, h4, h5, h6, h7, h8, h9⟩ := h
  refine ⟨K, p, q, h1, h2.keep hs (fun b hk hlt => ?_), h3, h4, h5.keep (hb q (by omega) h8 (World.rowIs.lt h5)), h6, h7, h8, h9⟩
  have hl := h2.lt b hk
  rcases hk with hk | hk
  · have := h3 b hk; exact hb b (by omega) (by omega) hlt
  · rw [h1] at hk
    have e : p = b := by simpa [Value.ownBlock] using hk
    exact hb b (by omega) (by omega) hlt
theorem DagO.still {lo hi : Nat} {w w' : World} {ns : List Rd} {rs : List Int} {u r : Value} (h : DagO lo hi w ns rs u r) (hb : Below w.heap.size w w') : DagO lo hi w' ns rs u r := h.keep hb.size (fun k _ _ hlt => hb.block k hlt)
theorem DagO.read {lo hi : Nat} {w : World} {ns : List Rd} {rs : List Int} {u r : Value} (h : DagO lo hi w ns rs u r) (hz : ∀ i (hi : i < ns.length), ns[i].nm.size ≤ maxLen ∧ ns[i].tx.size ≤ maxLen) : Rds w (fun _ => True) ns u ∧ Ints w (fun _ => True) rs r := by
  obtain ⟨K, p, q, h1, h2, h3, h4, h5, h6, h7, h8, h9⟩ := h
  refine ⟨h2.rds hz, ?_⟩
  rw [h4]
  obtain ⟨a, c, b, o, e1, e2, e3, e4, e5⟩ := h5.ints (by unfold maxLen; omega)
  exact ⟨a, c, b, o, e1, e2, e3, fun hp => ⟨(e4 hp).1, trivial⟩, e5⟩
theorem mor_wns (ns : List Rd) : mor ns ns.length ≤ 3 * ns.length + wns ns := by
  unfold mor wns
  rw [List.take_length]
  induction ns with
  | nil => simp
  | cons a r ih =>
    simp only [List.map_cons, List.sum_cons, List.length_cons]
    have : a.ks.length ≤ wn a := by unfold wn; omega
    omega
end Go.Proofs.Ytofobmdljelmgaa
