import Derived.Test.YtaimlmjgicmbeaaDg0
/-! The program's reader: what it keeps, round by round. -/
namespace Go.Proofs.Ytaimlmjgicmbeaa
open Go.RowKit Go.Deep
set_option linter.unusedVariables false
set_option maxRecDepth 100000
set_option linter.unusedSimpArgs false

/-- What the reader panics with. -/
abbrev flt : PanicEntry := { v := .iface 83 (.agg #[.int .i64 2, .int .i64 0]), recovered := false }
/-- The program's reader. -/
structure RdI (d : Bn) (L : List Int) (S : Nat → Prop) (R : Nat) (v0 v1 v3 : Value) (w : World) (a : Nat) : Prop where
  box : ∃ vn, Box w R 87 [v0, v1, .int .i64 d.own, v3, vn] ∧ Num w S L a vn
  lies : BLies w S d v0 v1 v3
  ns : ∀ b, S b → b < R
theorem RdI.lt {d : Bn} {L : List Int} {S : Nat → Prop} {R : Nat} {v0 v1 v3 : Value} {w : World} {a : Nat} (h : RdI d L S R v0 v1 v3 w a) : R < w.heap.size := by
  obtain ⟨⟨vn, h1, _⟩, _, _⟩ := h
  exact h1.lt
theorem RdI.keep {d : Bn} {L : List Int} {S : Nat → Prop} {R : Nat} {v0 v1 v3 : Value} {w w' : World} {a : Nat} (h : RdI d L S R v0 v1 v3 w a) (hb : ∀ b, b ≤ R → w'.heap[b]? = w.heap[b]?) : RdI d L S R v0 v1 v3 w' a := by
  obtain ⟨⟨vn, h1, h2⟩, h3, h4⟩ := h
  exact ⟨⟨vn, h1.keep (hb R (Nat.le_refl _)), h2.keep (fun b hs _ => hb b (Nat.le_of_lt (h4 b hs)))⟩, h3.keep' (fun b hs _ => hb b (Nat.le_of_lt (h4 b hs))), h4⟩
/-- What it answers. -/
def RdA (d : Bn) (L : List Int) (S : Nat → Prop) (R : Nat) (v0 v1 v3 : Value) (f : Nat) (s : Int) (a : Nat) (w : World) (e : Ending) (w' : World) : Prop :=
  Kp w.heap.size R w w' ∧ (rd d L f s a = none → e = .panicked [flt]) ∧ ∀ b, rd d L f s a = some b → ∃ v, e = .returned v ∧ RdI d L S R v0 v1 v3 w' b ∧ DP d L w' (fun q => w.heap.size ≤ q ∧ q < w'.heap.size) f a v
theorem own_keep {w w' : World} {B e z : Nat} {v : Value} {n : Nat} {xs : List Value} (h : w.ownsRow B e z v n xs) (hb : ∀ k, v.ownBlock = some k → w'.heap[k]? = w.heap[k]?) : w'.ownsRow B e z v n xs := by
  refine ⟨h.1, ?_⟩
  rcases h.2 with h0 | ⟨g, cp, cur, r1, r2, r3, r4⟩
  · exact .inl h0
  · exact .inr ⟨g, cp, cur, r1, r2, by rw [hb g (by rw [r1]; rfl)]; exact r3, r4⟩
/-- What stands in a round. -/
structure LI (d : Bn) (L : List Int) (S : Nat → Prop) (R : Nat) (v0 v1 v3 : Value) (w wr : World) (f a j x : Nat) (u : Value) (vs : List Value) (K : Nat → Prop) : Prop where
  kp : Kp w.heap.size R w wr
  rl : R < w.heap.size
  rd : RdI d L S R v0 v1 v3 wr x
  own : wr.ownsRow w.heap.size 55 1 u j vs
  ds : DS d L wr K f a j vs
  kk : ∀ q, K q → w.heap.size ≤ q ∧ q < wr.heap.size ∧ u.ownBlock ≠ some q
theorem LI.step {d : Bn} {L : List Int} {S : Nat → Prop} {R : Nat} {v0 v1 v3 : Value} {w wr w1 w3 : World} {f a j x x' g' cp : Nat} {u v : Value} {vs : List Value} {K : Nat → Prop} (h : LI d L S R v0 v1 v3 w wr f a j x u vs K)
    (hk1 : Kp wr.heap.size R wr w1) (hr1 : RdI d L S R v0 v1 v3 w1 x') (hj : j < (pa d L a).right.length) (hx : atP d L f a j = some x)
    (ht : (pa d L a).right[j] < (d.terms.length : Int) → v = .pointer none) (hn : ¬ (pa d L a).right[j] < (d.terms.length : Int) → DP d L w1 (fun q => wr.heap.size ≤ q ∧ q < w1.heap.size) f x v)
    (hg : (w1.alloc (.cells #[v] 55)).grownBy w3 u.ownBlock) (ho : w3.ownsRow w.heap.size 55 1 (.slice (some ⟨g', 0, none⟩) (j + 1) cp) (j + 1) (vs ++ [v])) (hat : u.ownBlock = some g' ∨ g' = (w1.alloc (.cells #[v] 55)).heap.size) :
    LI d L S R v0 v1 v3 w w3 f a (j + 1) x' (.slice (some ⟨g', 0, none⟩) (j + 1) cp) (vs ++ [v]) (fun q => K q ∨ (wr.heap.size ≤ q ∧ q < w1.heap.size)) := by
  have hrl := h.rl
  have hwr := h.kp.size
  have hw1 := hk1.size
  have hz2 : (w1.alloc (.cells #[v] 55)).heap.size = w1.heap.size + 1 := by simp
  have hw3 := hg.size
  rw [hz2] at hw3 hat
  have hrow : ∀ q, u.ownBlock = some q → w.heap.size ≤ q ∧ q < wr.heap.size := fun q hq => World.ownsRow.lt h.own q hq
  -- blocks of w1 that stay
  have hst : ∀ q, q < w1.heap.size → u.ownBlock ≠ some q → w3.heap[q]? = w1.heap[q]? := fun q h1 h3 => by
    rw [hg.block q (by omega) (fun e => h3 e.symm), Below.heap_alloc _ _ _ h1]
  -- .. of wr
  have hst2 : ∀ q, q < wr.heap.size → q ≠ R → u.ownBlock ≠ some q → w3.heap[q]? = wr.heap[q]? := fun q h1 h2 h4 => by
    rw [hst q (by omega) h4, hk1.block q h1 h2]
  have hno : ∀ q, q < w.heap.size → u.ownBlock ≠ some q := fun q hq e => by have := (hrow q e).1; omega
  refine ⟨⟨?_, ?_, ?_, by omega, ?_⟩, hrl, hr1.keep (fun b hb => hst b (by omega) (hno b (by omega))), ho, ?_, ?_⟩
  · exact (hg.os.trans hk1.os).trans h.kp.os
  · exact (hg.tape.trans hk1.tape).trans h.kp.tape
  · exact (hg.output.trans hk1.output).trans h.kp.output
  · intro q h1 h2
    rw [hst2 q (by omega) h2 (hno q (by omega)), h.kp.block q h1 h2]
  · have d1 : DS d L w3 (fun q => K q ∨ (wr.heap.size ≤ q ∧ q < w1.heap.size)) f a j vs :=
      (h.ds.keep (fun q hq hlt => by
        obtain ⟨a1, a2, a3⟩ := h.kk q hq
        exact hst2 q a2 (by omega) a3)).mono (fun q hq => .inl hq)
    exact d1.next hj hx ht (fun hnn => DP.mono (fun q hq => .inr hq) _ _ _ (DP.keep (fun q hq hlt => hst q hq.2 (fun e => by have := (hrow q e).2; omega)) _ _ _ (hn hnn)))
  · intro q hq
    rcases hq with hq | hq
    · obtain ⟨a1, a2, a3⟩ := h.kk q hq
      refine ⟨a1, by omega, fun e => ?_⟩
      have e : g' = q := by simpa [Value.ownBlock] using e
      subst e
      rcases hat with e | e
      · exact a3 e
      · omega
    · refine ⟨by omega, by omega, fun e => ?_⟩
      have e : g' = q := by simpa [Value.ownBlock] using e
      subst e
      rcases hat with e | e
      · have := (hrow _ e).2; omega
      · omega
/-- All is read. -/
theorem LI.done {d : Bn} {L : List Int} {S : Nat → Prop} {R : Nat} {v0 v1 v3 : Value} {w wr w' : World} {k f a x : Nat} {u : Value} {vs : List Value} {K : Nat → Prop} {z : Int} (h : LI d L S R v0 v1 v3 w wr f a (pa d L a).right.length x u vs K) (hx : atP d L f a (pa d L a).right.length = some x) (hnum : numAt L a = (k : Int)) (hb : Below wr.heap.size wr w') (hz0 : 0 ≤ z) (hz1 : z ≤ 1073741825) (hbx : Box w' wr.heap.size 91 [.int .i64 k, u, .int .i64 z, .bool false, .int .i64 0]) :
    Kp w.heap.size R w w' ∧ RdI d L S R v0 v1 v3 w' x ∧ DP d L w' (fun q => w.heap.size ≤ q ∧ q < w'.heap.size) (f + 1) a (.pointer (some ⟨wr.heap.size, 0, none⟩)) := by
  have hl := h.ds.len
  have hrl := h.rl
  have hs1 := h.kp.size
  have hs2 := hb.size
  have ho : w'.ownsRow w.heap.size 55 1 u vs.length vs := by rw [hl]; exact own_keep h.own (fun q hq => hb.block q (World.ownsRow.lt h.own q hq).2)
  refine ⟨h.kp.trans ((Below.kp hb R).mono hs1), h.rd.keep (fun b hb2 => hb.block b (by omega)), ?_⟩
  refine DS.tree ((h.ds.keep (fun q _ hq => hb.block q hq)).mono (fun q hq => ⟨(h.kk q hq).1, by have := (h.kk q hq).2.1; omega⟩)) hx ho (fun q hq => ?_) ⟨hs1, hbx.lt⟩ (by rw [hnum]; exact hbx.cell 0 (by simp)) (hbx.cell 1 (by simp)) ⟨z, hbx.cell 2 (by simp), hz0, hz1⟩
  have := World.ownsRow.lt h.own q hq
  exact ⟨this.1, by omega⟩
end Go.Proofs.Ytaimlmjgicmbeaa
