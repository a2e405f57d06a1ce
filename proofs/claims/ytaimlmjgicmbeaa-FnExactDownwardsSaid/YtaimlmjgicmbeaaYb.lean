import Derived.Test.YtaimlmjgicmbeaaYa
import Derived.Test.YtaimlmjgicmbeaaDe0
import Derived.BigQuiet
import Derived.WalkLawsBesides
import Derived.BigRegion
import Derived.Deep.CutRange
import Derived.Deep.RegionHeld3
/-! The program: the word of a derivation. -/
namespace Go.Proofs.Ytaimlmjgicmbeaa
open Go.RowKit Go.Deep
set_option linter.unusedVariables false
set_option maxRecDepth 100000
set_option linter.unusedSimpArgs false

theorem info3y : (Try.prog.info? 3).map (fun i => (i.zero, i.size, i.bytes)) = some (some (.int .i64 0), 1, 8) := by kernel_rfl
/-- The cells of a Prod in memory, and where they lie. -/
theorem prod_cellsY {w : World} {S : Nat → Prop} {d : Bn} {v0 v1 v3 : Value} (h : BLies w S d v0 v1 v3) : ∃ (a3 : Option Addr) (c3 bp op : Nat), v3 = .slice a3 d.prods.length c3 ∧ d.prods.length ≤ c3 ∧ ∀ k (hk : k < d.prods.length), a3 = some ⟨bp, op, none⟩ ∧ S bp ∧ ∃ (ai : Option Addr) (ci bi oi : Nat), w.cell? ⟨bp, op + k * 5 + 1, none⟩ = some (.slice ai d.prods[k].right.length ci) ∧ d.prods[k].right.length ≤ ci ∧ ∀ i (hi : i < d.prods[k].right.length), ai = some ⟨bi, oi, none⟩ ∧ S bi ∧ w.cell? ⟨bi, oi + i, none⟩ = some (.int .i64 d.prods[k].right[i]) := by
  obtain ⟨a3, c3, bp, op, sv, e3, hcp, hmp, hap, hcellp, hrp⟩ := h.prods
  refine ⟨a3, c3, bp, op, e3, hcp, fun k hk => ⟨(hap (by omega)).1, (hap (by omega)).2, ?_⟩⟩
  obtain ⟨q0, q1, q2, q3, q4, _⟩ := hcellp k hk
  obtain ⟨ai, ci, bi, oi, ei, hci, hmi, hai, hcelli⟩ := hrp k hk
  rw [ei] at q1
  exact ⟨ai, ci, bi, oi, q1, hci, fun i hi => ⟨(hai (by omega)).1, (hai (by omega)).2, hcelli i hi⟩⟩
theorem atP_le {d : Bn} {L : List Int} {f a i x b : Nat} (hx : atP d L f a i = some x) (hb : atP d L f a (pa d L a).right.length = some b) : x ≤ b := by
  unfold atP at hx hb
  rw [List.take_length, ← List.take_append_drop i (pa d L a).right, rdk_append, hx] at hb
  exact (rdk_ge (rd_gt d L f) _ _ _ hb).1
theorem wp_len {d : Bn} {L : List Int} (hok : bnB d = true) {f a i x : Nat} (hx : atP d L f a i = some x) : a + 1 ≤ x ∧ (wp d L f a i).length ≤ i + 12 * (x - (a + 1)) := by
  have h1 := wdk_len (T := d.terms.length) (g := wd d L f) (fun s a b e => ⟨(rd_gt d L f s a b e).1, wd_len hok f s a b e⟩) ((pa d L a).right.take i) (a + 1) x hx
  have h2 : ((pa d L a).right.take i).length ≤ i := by simp; omega
  unfold wp
  omega
/-- A row grows: all but it is as it was, and it is where it was or in a new block. -/
structure GW (w w' : World) (u u' : Value) : Prop where
  g : w.grownBy w' u.ownBlock
  at' : u'.ownBlock = u.ownBlock ∨ ∃ q, u'.ownBlock = some q ∧ w.heap.size ≤ q
theorem GW.of_below {w w' : World} {u : Value} (h : Below w.heap.size w w') : GW w w' u u := ⟨⟨h.os, h.tape, h.output, h.size, fun k hk _ => h.block k hk⟩, .inl rfl⟩
theorem GW.trans {w w1 w2 : World} {u u1 u2 : Value} (h : GW w w1 u u1) (k : GW w1 w2 u1 u2) : GW w w2 u u2 := by
  have s1 := h.g.size
  have s2 := k.g.size
  refine ⟨⟨k.g.os.trans h.g.os, k.g.tape.trans h.g.tape, k.g.output.trans h.g.output, by omega, fun q hq hne => ?_⟩, ?_⟩
  · refine (k.g.block q (by omega) (fun e => ?_)).trans (h.g.block q hq hne)
    rcases h.at' with e1 | ⟨p, e1, hp⟩
    · exact hne (e.trans e1)
    · rw [e1] at e
      injection e with e
      omega
  · rcases k.at' with e1 | ⟨p, e1, hp⟩
    · rcases h.at' with e2 | ⟨p, e2, hp⟩
      · exact .inl (e1.trans e2)
      · exact .inr ⟨p, e1.trans e2, hp⟩
    · exact .inr ⟨p, e1, by omega⟩
theorem GW.drewN {w w' : World} {u u' : Value} (h : GW w w' u u') (n : Nat) : GW w (w'.drewN n) u u' := ⟨⟨h.g.os, h.g.tape, h.g.output, h.g.size, h.g.block⟩, h.at'⟩
theorem GW.cell {w w' : World} {u u' : Value} (h : GW w w' u u') {p : Addr} {v : Value} (hc : w.cell? p = some v) (hne : u.ownBlock ≠ some p.block) : w'.cell? p = some v :=
  (World.cell?_of_block (w := w) (h.g.block p.block (lt_of_cell hc) (fun e => hne e.symm))).trans hc
theorem GW.step {w w' : World} {u : Value} {g n cap H : Nat} (h : w.grownBy w' u.ownBlock) (hat : u.ownBlock = some g ∨ g = H) (hH : w.heap.size ≤ H) : GW w w' u (.slice (some ⟨g, 0, none⟩) n cap) := by
  refine ⟨h, ?_⟩
  rcases hat with e | e
  · exact .inl e.symm
  · exact .inr ⟨g, rfl, by omega⟩
theorem own_keep1 {w w' : World} {B e z : Nat} {v : Value} {n : Nat} {xs : List Value} (h : w.ownsRow B e z v n xs) (hb : ∀ k, v.ownBlock = some k → w'.heap[k]? = w.heap[k]?) : w'.ownsRow B e z v n xs := by
  refine ⟨h.1, ?_⟩
  rcases h.2 with h0 | ⟨g, cp, cur, r1, r2, r3, r4⟩
  · exact .inl h0
  · exact .inr ⟨g, cp, cur, r1, r2, by rw [hb g (by rw [r1]; rfl)]; exact r3, r4⟩
theorem DPg_form {d : Bn} {L : List Int} {w : World} {K : Nat → Prop} {f a : Nat} {v : Value} (h : DP d L w K f a v) : ∃ gq, v = .pointer (some ⟨gq, 0, none⟩) ∧ w.cell? ⟨gq, 0, none⟩ = some (.int .i64 (numAt L a)) := by
  cases f with
  | zero => exact h.elim
  | succ f =>
    obtain ⟨g, kb, kc, ka, vs, ats, h1, h2, h3, _⟩ := h
    exact ⟨g, h1, h3⟩
theorem iv_len (l : List Int) : (iv l).length = l.length := by simp
end Go.Proofs.Ytaimlmjgicmbeaa
