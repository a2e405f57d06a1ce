import Derived.Test.YtjkmipccadiacaaDf
import Derived.Test.YtjkmipccadiacaaDe0
/-! The program's reader: what it keeps, round by round. -/
namespace Go.Proofs.Ytjkmipccadiacaa
open Go.RowKit Go.Deep
set_option linter.unusedVariables false
set_option maxRecDepth 100000
set_option linter.unusedSimpArgs false

/-- What the reader panics with. -/
abbrev flt : PanicEntry := { v := .iface 119 (.agg #[.int .i64 2, .int .i64 0]), recovered := false }
/-- The program's reader. -/
structure RdI (d : Bn) (L : List Int) (S : Nat → Prop) (R : Nat) (v0 v1 v3 : Value) (w : World) (a : Nat) : Prop where
  box : ∃ vn, Box w R 123 [v0, v1, .int .i64 d.own, v3, vn] ∧ Num w S L a vn
  lies : BLies w S d v0 v1 v3
  ns : ∀ b, S b → b < R
theorem RdI.lt {d : Bn} {L : List Int} {S : Nat → Prop} {R : Nat} {v0 v1 v3 : Value} {w : World} {a : Nat} (h : RdI d L S R v0 v1 v3 w a) : R < w.heap.size := by
  obtain ⟨⟨vn, h1, _⟩, _, _⟩ := h
  exact h1.lt
theorem RdI.keep {d : Bn} {L : List Int} {S : Nat → Prop} {R : Nat} {v0 v1 v3 : Value} {w w' : World} {a : Nat} (h : RdI d L S R v0 v1 v3 w a) (hb : ∀ b, b ≤ R → w'.heap[b]? = w.heap[b]?) : RdI d L S R v0 v1 v3 w' a := by
  obtain ⟨⟨vn, h1, h2⟩, h3, h4⟩ := h
  exact ⟨⟨vn, h1.keep (hb R (Nat.le_refl _)), h2.keep (fun b hs _ => hb b (Nat.le_of_lt (h4 b hs)))⟩, h3.keep' (fun b hs _ => hb b (Nat.le_of_lt (h4 b hs))), h4⟩
/-- What it answers. -/
def RdA (d : Bn) (L : List Int) (S : Nat → Prop) (R : Nat) (v0 v1 v3 : Value) (f : Nat) (s : Int) (a : Nat) (w : World) (e : Ending) (w' : World) : Prop :=
  Kp w.heap.size R w w' ∧ (rd d L f s a = none → e = .panicked [flt]) ∧ ∀ b, rd d L f s a = some b → ∃ v, e = .returned v ∧ RdI d L S R v0 v1 v3 w' b ∧ DP d L w' (fun q => w.heap.size ≤ q ∧ q < w'.heap.size) f a v
theorem own_keep {w w' : World} {B e z : Nat} {v : Value} {n : Nat} {xs : List Value} (h : w.ownsRow B e z v n xs) (hb : ∀ k, v.ownBlock = some k → w'.heap[k]? = w.heap[k]?) : w'.ownsRow B e z v n xs := by
  refine ⟨h.1, ?_⟩
  rcases h.2 with h0 | ⟨g, cp, cur, r1, r2, r3, r4⟩
  · exact .inl h0
  · exact .inr ⟨g, cp, cur, r1, r2, by rw [hb g (by rw [r1]; rfl)]; exact r3, r4⟩
/-- What stands in a round. -/
structure LI (d : Bn) (L : List Int) (S : Nat → Prop) (R : Nat) (v0 v1 v3 : Value) (w wr : World) (k f a j x : Nat) (u : Value) (vs : List Value) (K : Nat → Prop) : Prop where
  kp : Kp w.heap.size R w wr
  rl : R < w.heap.size
  rd : RdI d L S R v0 v1 v3 wr x
  box : Box wr w.heap.size 127 [.int .i64 k, u]
  own : wr.ownsRow (w.heap.size + 1) 71 1 u j vs
  ds : DS d L wr K f a j vs
  kk : ∀ q, K q → w.heap.size < q ∧ q < wr.heap.size ∧ u.ownBlock ≠ some q
theorem LI.still {d : Bn} {L : List Int} {S : Nat → Prop} {R : Nat} {v0 v1 v3 : Value} {w wr w' : World} {k f a j x : Nat} {u : Value} {vs : List Value} {K : Nat → Prop} (h : LI d L S R v0 v1 v3 w wr k f a j x u vs K) (hb : Below wr.heap.size wr w') : LI d L S R v0 v1 v3 w w' k f a j x u vs K := by
  have hG := h.box.lt
  have hR := h.rd.lt
  exact ⟨h.kp.trans ((Below.kp hb R).mono h.kp.size), h.rl, h.rd.keep (fun b hb2 => hb.block b (by omega)), h.box.still hb, own_keep h.own (fun q hq => hb.block q (World.ownsRow.lt h.own q hq).2), h.ds.keep (fun q _ hq => hb.block q hq), fun q hq => ⟨(h.kk q hq).1, Nat.lt_of_lt_of_le (h.kk q hq).2.1 hb.size, (h.kk q hq).2.2⟩⟩
theorem LI.step {d : Bn} {L : List Int} {S : Nat → Prop} {R : Nat} {v0 v1 v3 : Value} {w wr w1 w3 : World} {k f a j x x' g' cp : Nat} {u v : Value} {vs : List Value} {K : Nat → Prop} (h : LI d L S R v0 v1 v3 w wr k f a j x u vs K)
    (hk1 : Kp wr.heap.size R wr w1) (hr1 : RdI d L S R v0 v1 v3 w1 x') (hj : j < (pa d L a).right.length) (hx : atP d L f a j = some x)
    (ht : (pa d L a).right[j] < (d.terms.length : Int) → v = .pointer none) (hn : ¬ (pa d L a).right[j] < (d.terms.length : Int) → DP d L w1 (fun q => wr.heap.size ≤ q ∧ q < w1.heap.size) f x v)
    (hg : (w1.alloc (.cells #[v] 71)).grownBy w3 u.ownBlock) (ho : w3.ownsRow (w.heap.size + 1) 71 1 (.slice (some ⟨g', 0, none⟩) (j + 1) cp) (j + 1) (vs ++ [v])) (hat : u.ownBlock = some g' ∨ g' = (w1.alloc (.cells #[v] 71)).heap.size) :
    LI d L S R v0 v1 v3 w (w3.setCell ⟨w.heap.size, 1, none⟩ (.slice (some ⟨g', 0, none⟩) (j + 1) cp)) k f a (j + 1) x' (.slice (some ⟨g', 0, none⟩) (j + 1) cp) (vs ++ [v]) (fun q => K q ∨ (wr.heap.size ≤ q ∧ q < w1.heap.size)) := by
  have hG := h.box.lt
  have hrl := h.rl
  have hwr := h.kp.size
  have hw1 := hk1.size
  have hz2 : (w1.alloc (.cells #[v] 71)).heap.size = w1.heap.size + 1 := by simp
  have hw3 := hg.size
  rw [hz2] at hw3 hat
  have hrow : ∀ q, u.ownBlock = some q → w.heap.size + 1 ≤ q ∧ q < wr.heap.size := fun q hq => World.ownsRow.lt h.own q hq
  have hg'lt : w.heap.size + 1 ≤ g' := by
    rcases hat with e | e
    · exact (hrow g' e).1
    · omega
  have hsz : (w3.setCell ⟨w.heap.size, 1, none⟩ (.slice (some ⟨g', 0, none⟩) (j + 1) cp)).heap.size = w3.heap.size := by simp [World.setCell]
  -- blocks of w1 that stay
  have hst : ∀ q, q < w1.heap.size → q ≠ w.heap.size → u.ownBlock ≠ some q → (w3.setCell ⟨w.heap.size, 1, none⟩ (.slice (some ⟨g', 0, none⟩) (j + 1) cp)).heap[q]? = w1.heap[q]? := fun q h1 h2 h3 => by
    rw [Below.heap_setCell _ _ _ _ (by exact h2), hg.block q (by omega) (fun e => h3 e.symm), Below.heap_alloc _ _ _ h1]
  -- .. of wr
  have hst2 : ∀ q, q < wr.heap.size → q ≠ R → q ≠ w.heap.size → u.ownBlock ≠ some q → (w3.setCell ⟨w.heap.size, 1, none⟩ (.slice (some ⟨g', 0, none⟩) (j + 1) cp)).heap[q]? = wr.heap[q]? := fun q h1 h2 h3 h4 => by
    rw [hst q (by omega) h3 h4, hk1.block q h1 h2]
  have hno : ∀ q, q ≤ w.heap.size → u.ownBlock ≠ some q := fun q hq e => by have := (hrow q e).1; omega
  refine ⟨⟨?_, ?_, ?_, ?_, ?_⟩, hrl, hr1.keep (fun b hb => hst b (by omega) (by omega) (hno b (by omega))), ?_, own_keep ho (fun q hq => ?_), ?_, ?_⟩
  · exact (hg.os.trans hk1.os).trans h.kp.os
  · exact (hg.tape.trans hk1.tape).trans h.kp.tape
  · exact (hg.output.trans hk1.output).trans h.kp.output
  · rw [hsz]; omega
  · intro q h1 h2
    rw [hst2 q (by omega) h2 (by omega) (hno q (by omega)), h.kp.block q h1 h2]
  · have hb3 : Box w3 w.heap.size 127 [.int .i64 k, u] := h.box.keep (by
      rw [hg.block _ (by omega) (fun e => hno _ (Nat.le_refl _) e.symm), Below.heap_alloc _ _ _ (by omega), hk1.block _ (by omega) (by omega)])
    exact hb3.set 1 _
  · have e : g' = q := by simpa [Value.ownBlock] using hq
    subst e
    exact Below.heap_setCell _ _ _ _ (by show g' ≠ w.heap.size; omega)
  · have d1 : DS d L (w3.setCell ⟨w.heap.size, 1, none⟩ (.slice (some ⟨g', 0, none⟩) (j + 1) cp)) (fun q => K q ∨ (wr.heap.size ≤ q ∧ q < w1.heap.size)) f a j vs :=
      (h.ds.keep (fun q hq hlt => by
        obtain ⟨a1, a2, a3⟩ := h.kk q hq
        exact hst2 q a2 (by omega) (by omega) a3)).mono (fun q hq => .inl hq)
    exact d1.next hj hx ht (fun hnn => DP.mono (fun q hq => .inr hq) _ _ _ (DP.keep (fun q hq hlt => hst q hq.2 (by omega) (fun e => by have := (hrow q e).2; omega)) _ _ _ (hn hnn)))
  · intro q hq
    rw [hsz]
    rcases hq with hq | hq
    · obtain ⟨a1, a2, a3⟩ := h.kk q hq
      refine ⟨a1, by omega, fun e => ?_⟩
      have e : g' = q := by simpa [Value.ownBlock] using e
      subst e
      rcases hat with e | e
      · exact a3 e
      · omega
    · refine ⟨by omega, by omega, fun e => ?_⟩
      have e : g' = q := by simpa [Value.ownBlock] using e
      subst e
      rcases hat with e | e
      · have := (hrow _ e).2; omega
      · omega
/-- All is read. -/
theorem LI.done {d : Bn} {L : List Int} {S : Nat → Prop} {R : Nat} {v0 v1 v3 : Value} {w wr : World} {k f a x : Nat} {u : Value} {vs : List Value} {K : Nat → Prop} (h : LI d L S R v0 v1 v3 w wr k f a (pa d L a).right.length x u vs K) (hx : atP d L f a (pa d L a).right.length = some x) (hnum : numAt L a = (k : Int)) :
    DP d L wr (fun q => w.heap.size ≤ q ∧ q < wr.heap.size) (f + 1) a (.pointer (some ⟨w.heap.size, 0, none⟩)) := by
  have hl := h.ds.len
  have ho := h.own
  rw [← hl] at ho
  refine DS.tree (h.ds.mono (fun q hq => ⟨Nat.le_of_lt (h.kk q hq).1, (h.kk q hq).2.1⟩)) hx ho (fun q hq => ?_) ⟨Nat.le_refl _, h.box.lt⟩ (by rw [hnum]; exact h.box.cell 0 (by simp)) (h.box.cell 1 (by simp))
  have := World.ownsRow.lt h.own q hq
  exact ⟨by omega, this.2⟩
end Go.Proofs.Ytjkmipccadiacaa
