import Derived.Test.YtaimlmjgicmbeaaDg1
/-! The specification's reader: what it keeps, round by round. -/
namespace Go.Proofs.Ytaimlmjgicmbeaa
open Go.RowKit Go.Deep
set_option linter.unusedVariables false
set_option maxRecDepth 100000
set_option linter.unusedSimpArgs false

/-- The specification's reader. -/
structure RdS (d : Bn) (L : List Int) (S : Nat → Prop) (R : Nat) (v0 v1 v3 vd : Value) (w : World) (a : Nat) (bad : Bool) : Prop where
  box : Box w R 77 [v0, v1, .int .i64 d.own, v3, vd, .int .i64 a, .bool bad]
  num : Num w S L 0 vd
  lies : BLies w S d v0 v1 v3
  ns : ∀ b, S b → b < R
theorem RdS.lt {d : Bn} {L : List Int} {S : Nat → Prop} {R : Nat} {v0 v1 v3 vd : Value} {w : World} {a : Nat} {bad : Bool} (h : RdS d L S R v0 v1 v3 vd w a bad) : R < w.heap.size := h.box.lt
theorem RdS.keep {d : Bn} {L : List Int} {S : Nat → Prop} {R : Nat} {v0 v1 v3 vd : Value} {w w' : World} {a : Nat} {bad : Bool} (h : RdS d L S R v0 v1 v3 vd w a bad) (hb : ∀ b, b ≤ R → w'.heap[b]? = w.heap[b]?) : RdS d L S R v0 v1 v3 vd w' a bad :=
  ⟨h.box.keep (hb R (Nat.le_refl _)), h.num.keep (fun b hs _ => hb b (Nat.le_of_lt (h.ns b hs))), h.lies.keep' (fun b hs _ => hb b (Nat.le_of_lt (h.ns b hs))), h.ns⟩
theorem RdS.at_ {d : Bn} {L : List Int} {S : Nat → Prop} {R : Nat} {v0 v1 v3 vd : Value} {w : World} {a : Nat} {bad : Bool} (h : RdS d L S R v0 v1 v3 vd w a bad) (a' : Nat) : RdS d L S R v0 v1 v3 vd (w.setCell ⟨R, 5, none⟩ (.int .i64 a')) a' bad := by
  have hq : ∀ q, S q → q < w.heap.size → (w.setCell ⟨R, 5, none⟩ (.int .i64 a')).heap[q]? = w.heap[q]? := fun q hs _ => Below.heap_setCell _ _ _ _ (by show q ≠ R; have := h.ns q hs; omega)
  exact ⟨h.box.set 5 _, h.num.keep hq, h.lies.keep' hq, h.ns⟩
theorem RdS.bad_ {d : Bn} {L : List Int} {S : Nat → Prop} {R : Nat} {v0 v1 v3 vd : Value} {w : World} {a : Nat} {bad : Bool} (h : RdS d L S R v0 v1 v3 vd w a bad) : RdS d L S R v0 v1 v3 vd (w.setCell ⟨R, 6, none⟩ (.bool true)) a true := by
  have hq : ∀ q, S q → q < w.heap.size → (w.setCell ⟨R, 6, none⟩ (.bool true)).heap[q]? = w.heap[q]? := fun q hs _ => Below.heap_setCell _ _ _ _ (by show q ≠ R; have := h.ns q hs; omega)
  exact ⟨h.box.set 6 _, h.num.keep hq, h.lies.keep' hq, h.ns⟩
/-- What it answers. -/
def RsA (d : Bn) (L : List Int) (S : Nat → Prop) (R : Nat) (v0 v1 v3 vd : Value) (f : Nat) (s : Int) (a : Nat) (w : World) (e : Ending) (w' : World) : Prop :=
  Kp w.heap.size R w w' ∧ (rd d L f s a = none → ∃ (n : Int) (p : Option Addr) (q c a' : Nat), e = .returned (.agg #[.int .i64 n, .slice p q c]) ∧ RdS d L S R v0 v1 v3 vd w' a' true) ∧ ∀ b, rd d L f s a = some b → ∃ (p : Option Addr) (q c : Nat), e = .returned (.agg #[.int .i64 (numAt L a), .slice p q c]) ∧ RdS d L S R v0 v1 v3 vd w' b false ∧ SP d L w' (fun q => w.heap.size ≤ q ∧ q < w'.heap.size) f a (.slice p q c)
/-- The boxes of a round. -/
structure LB (R G : Nat) (w wr : World) (k : Nat) (u : Value) (n : Nat) (xs : List Value) : Prop where
  kp : Kp w.heap.size R w wr
  rl : R < w.heap.size
  gl : w.heap.size < G
  res : Box wr w.heap.size 48 [.int .i64 0, .slice none 0 0]
  out : Box wr (G) 48 [.int .i64 k, u]
  own : wr.ownsRow ((G + 1)) 48 2 u n xs
theorem LB.still {R G : Nat} {w wr w' : World} {k : Nat} {u : Value} {n : Nat} {xs : List Value} (h : LB R G w wr k u n xs) (hb : Below wr.heap.size wr w') : LB R G w w' k u n xs :=
  ⟨h.kp.trans ((Below.kp hb R).mono h.kp.size), h.rl, h.gl, h.res.still hb, h.out.still hb, own_keep h.own (fun q hq => hb.block q (World.ownsRow.lt h.own q hq).2)⟩
theorem LB.step {R G : Nat} {w wr w1 w3 : World} {k : Nat} {u y v : Value} {n g' cp : Nat} {xs : List Value} (h : LB R G w wr k u n xs) (hk1 : Kp wr.heap.size R wr w1)
    (hg : (w1.alloc (.cells #[y, v] 48)).grownBy w3 u.ownBlock) (ho : w3.ownsRow ((G + 1)) 48 2 (.slice (some ⟨g', 0, none⟩) (n + 1) cp) (n + 1) (xs ++ [y, v])) (hat : u.ownBlock = some g' ∨ g' = (w1.alloc (.cells #[y, v] 48)).heap.size) :
    LB R G w (w3.setCell ⟨G, 1, none⟩ (.slice (some ⟨g', 0, none⟩) (n + 1) cp)) k (.slice (some ⟨g', 0, none⟩) (n + 1) cp) (n + 1) (xs ++ [y, v]) ∧
    (∀ q, q < w1.heap.size → q ≠ G → u.ownBlock ≠ some q → (w3.setCell ⟨G, 1, none⟩ (.slice (some ⟨g', 0, none⟩) (n + 1) cp)).heap[q]? = w1.heap[q]?) ∧ (w3.setCell ⟨G, 1, none⟩ (.slice (some ⟨g', 0, none⟩) (n + 1) cp)).heap.size ≥ w1.heap.size + 1 ∧ (∀ q, u.ownBlock = some q → (G + 1) ≤ q ∧ q < wr.heap.size) ∧ g' ≠ G := by
  have hG := h.out.lt
  have hrl := h.rl
  have hgl := h.gl
  have hwr := h.kp.size
  have hw1 := hk1.size
  have hz2 : (w1.alloc (.cells #[y, v] 48)).heap.size = w1.heap.size + 1 := by simp
  have hw3 := hg.size
  rw [hz2] at hw3 hat
  have hrow : ∀ q, u.ownBlock = some q → (G + 1) ≤ q ∧ q < wr.heap.size := fun q hq => World.ownsRow.lt h.own q hq
  have hg'lt : (G + 1) ≤ g' := by
    rcases hat with e | e
    · exact (hrow g' e).1
    · omega
  have hsz : (w3.setCell ⟨G, 1, none⟩ (.slice (some ⟨g', 0, none⟩) (n + 1) cp)).heap.size = w3.heap.size := by simp [World.setCell]
  have hst : ∀ q, q < w1.heap.size → q ≠ G → u.ownBlock ≠ some q → (w3.setCell ⟨G, 1, none⟩ (.slice (some ⟨g', 0, none⟩) (n + 1) cp)).heap[q]? = w1.heap[q]? := fun q h1 h2 h3 => by
    rw [Below.heap_setCell _ _ _ _ (by exact h2), hg.block q (by omega) (fun e => h3 e.symm), Below.heap_alloc _ _ _ h1]
  have hno : ∀ q, q ≤ G → u.ownBlock ≠ some q := fun q hq e => by have := (hrow q e).1; omega
  refine ⟨⟨⟨?_, ?_, ?_, ?_, ?_⟩, hrl, hgl, ?_, ?_, own_keep ho (fun q hq => ?_)⟩, hst, by rw [hsz]; omega, hrow, by omega⟩
  · exact (hg.os.trans hk1.os).trans h.kp.os
  · exact (hg.tape.trans hk1.tape).trans h.kp.tape
  · exact (hg.output.trans hk1.output).trans h.kp.output
  · rw [hsz]; omega
  · intro q h1 h2
    rw [hst q (by omega) (by omega) (hno q (by omega)), hk1.block q (by omega) h2, h.kp.block q h1 h2]
  · exact h.res.keep (by rw [hst _ (by omega) (by omega) (hno _ (by omega)), hk1.block _ (by omega) (by omega)])
  · have hb3 : Box w3 (G) 48 [.int .i64 k, u] := h.out.keep (by
      rw [hg.block _ (by omega) (fun e => hno _ (Nat.le_refl _) e.symm), Below.heap_alloc _ _ _ (by omega), hk1.block _ (by omega) (by omega)])
    exact hb3.set 1 _
  · have e : g' = q := by simpa [Value.ownBlock] using hq
    subst e
    exact Below.heap_setCell _ _ _ _ (by show g' ≠ G; omega)
/-- What stands in a round in which all is right. -/
structure LS (d : Bn) (L : List Int) (S : Nat → Prop) (R G : Nat) (v0 v1 v3 vd : Value) (w wr : World) (k f a j x : Nat) (u : Value) (ks : List (Nat × Value)) (K : Nat → Prop) : Prop where
  lb : LB R G w wr k u ks.length (kf L ks)
  rd : RdS d L S R v0 v1 v3 vd wr x false
  ks : KS d L wr K f a j ks
  kk : ∀ q, K q → G < q ∧ q < wr.heap.size ∧ u.ownBlock ≠ some q
theorem LS.still {d : Bn} {L : List Int} {S : Nat → Prop} {R G : Nat} {v0 v1 v3 vd : Value} {w wr w' : World} {k f a j x : Nat} {u : Value} {ks : List (Nat × Value)} {K : Nat → Prop} (h : LS d L S R G v0 v1 v3 vd w wr k f a j x u ks K) (hb : Below wr.heap.size wr w') : LS d L S R G v0 v1 v3 vd w w' k f a j x u ks K :=
  ⟨h.lb.still hb, h.rd.keep (fun b hb2 => hb.block b (by have := h.rd.lt; omega)), h.ks.keep (fun q _ hq => hb.block q hq), fun q hq => ⟨(h.kk q hq).1, Nat.lt_of_lt_of_le (h.kk q hq).2.1 hb.size, (h.kk q hq).2.2⟩⟩
theorem LS.term {d : Bn} {L : List Int} {S : Nat → Prop} {R G : Nat} {v0 v1 v3 vd : Value} {w wr : World} {k f a j x : Nat} {u : Value} {ks : List (Nat × Value)} {K : Nat → Prop} (h : LS d L S R G v0 v1 v3 vd w wr k f a j x u ks K) (hj : j < (pa d L a).right.length) (ht : (pa d L a).right[j] < (d.terms.length : Int)) : LS d L S R G v0 v1 v3 vd w wr k f a (j + 1) x u ks K := ⟨h.lb, h.rd, h.ks.term hj ht, h.kk⟩
theorem LS.step {d : Bn} {L : List Int} {S : Nat → Prop} {R G : Nat} {v0 v1 v3 vd : Value} {w wr w1 w3 : World} {k f a j x x' g' cp : Nat} {u v : Value} {ks : List (Nat × Value)} {K : Nat → Prop} (h : LS d L S R G v0 v1 v3 vd w wr k f a j x u ks K)
    (hk1 : Kp wr.heap.size R wr w1) (hr1 : RdS d L S R v0 v1 v3 vd w1 x' false) (hj : j < (pa d L a).right.length) (hx : atP d L f a j = some x)
    (hn : ¬ (pa d L a).right[j] < (d.terms.length : Int)) (hv : SP d L w1 (fun q => wr.heap.size ≤ q ∧ q < w1.heap.size) f x v)
    (hg : (w1.alloc (.cells #[.int .i64 (numAt L x), v] 48)).grownBy w3 u.ownBlock) (ho : w3.ownsRow ((G + 1)) 48 2 (.slice (some ⟨g', 0, none⟩) (ks.length + 1) cp) (ks.length + 1) (kf L ks ++ [.int .i64 (numAt L x), v])) (hat : u.ownBlock = some g' ∨ g' = (w1.alloc (.cells #[.int .i64 (numAt L x), v] 48)).heap.size) :
    LS d L S R G v0 v1 v3 vd w (w3.setCell ⟨G, 1, none⟩ (.slice (some ⟨g', 0, none⟩) (ks.length + 1) cp)) k f a (j + 1) x' (.slice (some ⟨g', 0, none⟩) (ks.length + 1) cp) (ks ++ [(x, v)]) (fun q => K q ∨ (wr.heap.size ≤ q ∧ q < w1.heap.size)) := by
  obtain ⟨hb, hst, hsz, hrow, hgn⟩ := h.lb.step hk1 hg ho hat
  have hw1 := hk1.size
  have hrl := h.lb.rl
  have hgl := h.lb.gl
  have hG := h.lb.out.lt
  have hz2 : (w1.alloc (.cells #[.int .i64 (numAt L x), v] 48)).heap.size = w1.heap.size + 1 := by simp
  rw [hz2] at hat
  have hno : ∀ q, q ≤ G → u.ownBlock ≠ some q := fun q hq e => by have := (hrow q e).1; omega
  have e1 : (ks ++ [(x, v)]).length = ks.length + 1 := by simp
  have e2 : kf L (ks ++ [(x, v)]) = kf L ks ++ [.int .i64 (numAt L x), v] := by rw [kf_append]; rfl
  refine ⟨by rw [e1, e2]; exact hb, hr1.keep (fun b hb2 => hst b (by omega) (by omega) (hno b (by omega))), ?_, ?_⟩
  · have d1 : KS d L (w3.setCell ⟨G, 1, none⟩ (.slice (some ⟨g', 0, none⟩) (ks.length + 1) cp)) (fun q => K q ∨ (wr.heap.size ≤ q ∧ q < w1.heap.size)) f a j ks :=
      (h.ks.keep (fun q hq hlt => by
        obtain ⟨a1, a2, a3⟩ := h.kk q hq
        rw [hst q (by omega) (by omega) a3, hk1.block q a2 (by omega)])).mono (fun q hq => .inl hq)
    exact d1.non hj hn hx (SP.mono (fun q hq => .inr hq) _ _ _ (SP.keep (fun q hq hlt => hst q hq.2 (by omega) (fun e => by have := (hrow q e).2; omega)) _ _ _ hv))
  · intro q hq
    rcases hq with hq | hq
    · obtain ⟨a1, a2, a3⟩ := h.kk q hq
      refine ⟨a1, by omega, fun e => ?_⟩
      have e : g' = q := by simpa [Value.ownBlock] using e
      subst e
      rcases hat with e | e
      · exact a3 e
      · omega
    · refine ⟨by omega, by omega, fun e => ?_⟩
      have e : g' = q := by simpa [Value.ownBlock] using e
      subst e
      rcases hat with e | e
      · have := (hrow _ e).2; omega
      · omega
theorem LS.done {d : Bn} {L : List Int} {S : Nat → Prop} {R G : Nat} {v0 v1 v3 vd : Value} {w wr : World} {k f a x : Nat} {u : Value} {ks : List (Nat × Value)} {K : Nat → Prop} (h : LS d L S R G v0 v1 v3 vd w wr k f a (pa d L a).right.length x u ks K) (hx : atP d L f a (pa d L a).right.length = some x) : SP d L wr (fun q => G < q ∧ q < wr.heap.size) (f + 1) a u :=
  KS.tree (h.ks.mono (fun q hq => ⟨(h.kk q hq).1, (h.kk q hq).2.1⟩)) hx h.lb.own (fun q hq => by have := World.ownsRow.lt h.lb.own q hq; exact ⟨by omega, this.2⟩)
end Go.Proofs.Ytaimlmjgicmbeaa
