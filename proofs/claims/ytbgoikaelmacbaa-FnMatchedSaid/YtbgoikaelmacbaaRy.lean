import Derived.Test.YtbgoikaelmacbaaTg
import Derived.Test.YtbgoikaelmacbaaFt
import Derived.Test.YtbgoikaelmacbaaMd
import Derived.Test.YtbgoikaelmacbaaSize
import Derived.Maps.AppendAt
import Derived.Lib.BufferMore
/-! Rows of rows of numbers that are owned; what a round of Places may turn; slices.Clone. -/
namespace Go.Proofs.Ytbgoikaelmacbaa
open Go.RowKit Go.Deep Go.Shelf
set_option linter.unusedVariables false
set_option maxRecDepth 100000
set_option linter.unusedSimpArgs false
attribute [local go_sem] Oper.semAt_some

/-- In a round an operation that is no defer statement goes as everywhere. -/
theorem op_round {P : Program} {o : Oper} {a : Act} {w : World} {K : Act → World → Prop} {Q : Exit → Act → World → Prop} {l n : Nat} (hd : ∀ c, o.op ≠ .defer c) (h : o.wp P a w K Q) : o.wpIn (Fence.wide.inRound l) n P a w K Q := by
  unfold Oper.wp at h
  unfold Oper.wpIn
  refine ⟨fun _ _ => trivial, ?_⟩
  rw [Oper.semAt_eq _ _ _ hd]
  generalize (execOp a.eval o).run P w = r at *
  cases r with
  | ok x w' =>
    cases x <;> simp only [Oper.upon, Oper.uponIn] at h ⊢ <;> first
      | exact h
      | exact ⟨fun h0 => absurd h0 (by simp [Fence.wide]), CallsIn.inRound l (callsIn_wide.2 h)⟩
      | exact ⟨fun h0 => absurd h0 (by simp [Fence.wide]), fun c cs _ => (h c cs).elim fun v h2 => h2.elim fun w2 h3 => ⟨v, w2, h3.1, stepsIn_wide.2 h3.2⟩⟩
  | halt x w' => cases x <;> exact h
theorem any_round {P : Program} {md : Region.Mode} {ops : Array Oper} {Q : Exit → Act → World → Prop} {l n : Nat} (hl : ¬ LetsOut Q) (hd : ∀ (i : Nat) (o : Oper), ops[i]? = some o → ∀ c, o.op ≠ .defer c) : ∀ (fuel : Nat) (listed : Array Bool) (a : Act) (w : World), wpAny P md ops Q fuel listed a w → wpAnyIn (Fence.wide.inRound l) n P md ops Q fuel listed a w := by
  intro fuel
  induction fuel with
  | zero => intro listed a w h; exact h
  | succ fuel ih =>
    intro listed a w h
    refine ⟨h.1, fun i hi => ?_⟩
    have h2 := h.2 i hi
    unfold wpOp at h2
    unfold wpOpIn
    cases ho : ops[i]? with
    | none =>
      simp only [ho] at h2
      exact ih _ _ _ h2
    | some o =>
      simp only [ho] at h2 ⊢
      by_cases hw : Region.wanted o (yielded ops a.tmps) = true
      · rw [if_pos hw] at h2 ⊢
        rcases h2 with h2 | h2
        · exact op_round (hd i o ho) (Oper.wp_mono (ih _) h2)
        · exact absurd h2.2 hl
      · rw [if_neg hw] at h2 ⊢
        exact ⟨fun _ _ => trivial, ih _ _ _ h2⟩
/-- Nothing but to go on. -/
def OnlyN (Q : Exit → Act → World → Prop) : Exit → Act → World → Prop
  | .normal, a, w => Q .normal a w
  | _, _, _ => False
theorem region_round {P : Program} {ops : Array Oper} {Q : Exit → Act → World → Prop} {l n id : Nat} {a : Act} {w : World} (S : World → Prop) (hm : P.follows .mixedOrders = true) (hd : ∀ (i : Nat) (o : Oper), ops[i]? = some o → ∀ c, o.op ≠ .defer c) (hS : S w.drew)
    (h : S w.drew → wpAnyH P .any ops (OnlyN Q) S ops.size (Array.replicate ops.size false) a w.drew) : (Code.region id ops true).wpIn (Fence.wide.inRound l) n P Q a w :=
  wpIn_mono (wpIn_region_any hm (any_round (Q := OnlyN Q) (fun h0 => by obtain ⟨_, _, h1⟩ := h0; exact h1) hd _ _ _ _ (wpAny_of_held _ _ _ _ (h hS)))) (fun e a w h1 => by
    cases e <;> first | exact h1 | exact h1.elim)
theorem no_defer {ops : Array Oper} (h : ops.toList.all (fun o => match o.op with | .defer _ => false | _ => true) = true) : ∀ (i : Nat) (o : Oper), ops[i]? = some o → ∀ c, o.op ≠ .defer c := by
  intro i o ho c hc
  have h1 := List.all_eq_true.1 h o (by
    have := Array.mem_of_getElem? ho
    simpa using this)
  rw [hc] at h1
  cases h1
theorem Box.set1 {W : World} {g T : Nat} {v : Value} (h : Box W g T [v]) (u : Value) : Box (W.setCell ⟨g, 0, none⟩ u) g T [u] := by
  obtain ⟨cs, h1, h2, h3⟩ := World.rowIs.set h.ex 0 u
  refine ⟨⟨cs, h1, h2, fun q hq => ?_⟩⟩
  have := h3 q hq
  simp only [List.length_singleton] at hq
  obtain rfl : q = 0 := by omega
  simpa using this
/-- The slices in a row of rows. -/
def slv (vs : Nat → Value) (n : Nat) : List Value := (List.range n).map vs
theorem slv_len (vs : Nat → Value) (n : Nat) : (slv vs n).length = n := by simp [slv]
theorem slv_get (vs : Nat → Value) {n i : Nat} (h : i < n) : (slv vs n)[i]? = some (vs i) := by simp [slv, h]
theorem slv_succ (vs : Nat → Value) (n : Nat) (u : Value) : slv (fun i => if i = n then u else vs i) (n + 1) = slv vs n ++ [u] := by
  unfold slv
  rw [List.range_succ, List.map_append]
  congr 1
  · apply List.map_congr_left
    intro i hi
    rw [if_neg (by have := List.mem_range.1 hi; omega)]
  · simp
/-- A row of rows of numbers, all of them owned, in blocks of their own. -/
structure RRv (W : World) (B : Nat) (ls : List (List Nat)) (v : Value) (vs : Nat → Value) : Prop where
  out : W.ownsRow B 40 1 v ls.length (slv vs ls.length)
  row : ∀ i (hi : i < ls.length), W.ownsRow B 3 1 (vs i) ls[i].length (nums ls[i])
  apart : ∀ i, i < ls.length → ∀ q, (vs i).ownBlock = some q → v.ownBlock ≠ some q
  dis : ∀ i j, i < j → j < ls.length → ∀ q, (vs i).ownBlock = some q → (vs j).ownBlock ≠ some q
theorem RRv.keep {W W' : World} {B : Nat} {ls : List (List Nat)} {v : Value} {vs : Nat → Value} (h : RRv W B ls v vs) (h1 : ∀ q, v.ownBlock = some q → W'.heap[q]? = W.heap[q]?) (h2 : ∀ i, i < ls.length → ∀ q, (vs i).ownBlock = some q → W'.heap[q]? = W.heap[q]?) : RRv W' B ls v vs :=
  ⟨own_keep1 h.out h1, fun i hi => own_keep1 (h.row i hi) (h2 i hi), h.apart, h.dis⟩
theorem RRv.still {W W' : World} {B : Nat} {ls : List (List Nat)} {v : Value} {vs : Nat → Value} (h : RRv W B ls v vs) (hb : Below W.heap.size W W') : RRv W' B ls v vs :=
  h.keep (fun q hq => hb.block q (World.ownsRow.lt h.out q hq).2) (fun i hi q hq => hb.block q (World.ownsRow.lt (h.row i hi) q hq).2)
theorem RRv.nil (W : World) (B : Nat) : RRv W B [] (.slice none 0 0) (fun _ => .slice none 0 0) :=
  ⟨own_nil _ _ _ _, fun i hi => absurd hi (Nat.not_lt_zero _), fun i hi => absurd hi (Nat.not_lt_zero _), fun i j _ hj => absurd hj (Nat.not_lt_zero _)⟩
/-- One more. -/
theorem RRv.add {W W1 W3 : World} {B g cap : Nat} {ls : List (List Nat)} {xs : List Nat} {v u : Value} {vs : Nat → Value} {o : Obj} (h : RRv W B ls v vs) (hB : B ≤ W.heap.size) (hb : Below W.heap.size W W1) (hu : W1.ownsRow W.heap.size 3 1 u xs.length (nums xs))
    (hown : W3.ownsRow B 40 1 (.slice (some ⟨g, 0, none⟩) (ls.length + 1) cap) (ls.length + 1) (slv vs ls.length ++ [u])) (hgr : (W1.alloc o).grownBy W3 v.ownBlock) (hat : v.ownBlock = some g ∨ g = (W1.alloc o).heap.size) :
    RRv W3 B (ls ++ [xs]) (.slice (some ⟨g, 0, none⟩) (ls.length + 1) cap) (fun i => if i = ls.length then u else vs i) := by
  have hs := hb.size
  have hsa : (W1.alloc o).heap.size = W1.heap.size + 1 := by simp
  have hba := bel_alloc W1 o
  have hlen : (ls ++ [xs]).length = ls.length + 1 := by simp
  have hvl := World.ownsRow.lt h.out
  have hul := World.ownsRow.lt hu
  have hrl := fun i hi => World.ownsRow.lt (h.row i hi)
  refine ⟨?_, fun i hi => ?_, fun i hi q hq e => ?_, fun i j hij hj q hq e => ?_⟩
  · rw [hlen, slv_succ]
    exact hown
  · rw [hlen] at hi
    by_cases e : i = ls.length
    · subst e
      simp only [if_true]
      rw [List.getElem_append_right (Nat.le_refl _)]
      simp only [Nat.sub_self, List.getElem_cons_zero]
      have h2 : W3.ownsRow W.heap.size 3 1 u xs.length (nums xs) := own_keep1 hu (fun q hq => (hgr.block q (by have := (hul q hq).2; omega) (fun e => by have := (hvl q e.symm).2; have := (hul q hq).1; omega)).trans (hba.block q (hul q hq).2))
      exact ⟨h2.1, by
        rcases h2.2 with e | ⟨g', cap', cur, e1, e2, e3⟩
        · exact .inl e
        · exact .inr ⟨g', cap', cur, e1, by omega, e3⟩⟩
    · have hi2 : i < ls.length := by omega
      simp only [if_neg e]
      rw [List.getElem_append_left hi2]
      exact own_keep1 (h.row i hi2) (fun q hq => (hgr.block q (by have := (hrl i hi2 q hq).2; omega) (fun e => h.apart i hi2 q hq e.symm)).trans ((hba.block q (by have := (hrl i hi2 q hq).2; omega)).trans (hb.block q (hrl i hi2 q hq).2)))
  · rw [hlen] at hi
    simp [Value.ownBlock] at e
    subst e
    split at hq
    · have := hul g hq
      rcases hat with e | e
      · have := hvl g e; omega
      · omega
    · have hi2 : i < ls.length := by omega
      have := hrl i hi2 g hq
      rcases hat with e | e
      · exact h.apart i hi2 g hq e
      · omega
  · rw [hlen] at hj
    rw [if_neg (by omega)] at hq
    have hi2 : i < ls.length := by omega
    split at e
    · have := hul q e
      have := hrl i hi2 q hq
      omega
    · exact h.dis i j hij (by omega) q hq e
/-- What Places turns: its box, its row, and the rows in that. -/
def TP (pb : Nat) (W : World) (q : Nat) : Prop := q = pb ∨ ∃ v, W.cell? ⟨pb, 0, none⟩ = some v ∧ (v.ownBlock = some q ∨ ∃ (g n c i : Nat) (u : Value), v = .slice (some ⟨g, 0, none⟩) n c ∧ i < n ∧ W.cell? ⟨g, i, none⟩ = some u ∧ u.ownBlock = some q)
theorem TP.of {pb q B : Nat} {W : World} {ls : List (List Nat)} {v : Value} {vs : Nat → Value} (bx : Box W pb 35 [v]) (h : RRv W B ls v vs) (ht : TP pb W q) : q = pb ∨ v.ownBlock = some q ∨ ∃ i, i < ls.length ∧ (vs i).ownBlock = some q := by
  have hc : W.cell? ⟨pb, 0, none⟩ = some v := bx.cell 0 (by simp)
  rcases ht with e | ⟨v', e1, e2⟩
  · exact .inl e
  · rw [hc] at e1
    injection e1 with e1
    subst e1
    rcases e2 with e | ⟨g, n, c, i, u, e1, hi, e2, e3⟩
    · exact .inr (.inl e)
    · subst e1
      obtain ⟨a, cp, e, _⟩ := own_ne h.out
      injection e with _ e _
      subst e
      rw [World.ownsRow.cellAt h.out _ (by omega), slv_get vs hi] at e2
      injection e2 with e2
      subst e2
      exact .inr (.inr ⟨i, hi, e3⟩)
theorem TP.mk {pb q B : Nat} {W : World} {ls : List (List Nat)} {v : Value} {vs : Nat → Value} (bx : Box W pb 35 [v]) (h : RRv W B ls v vs) (ht : q = pb ∨ v.ownBlock = some q ∨ ∃ i, i < ls.length ∧ (vs i).ownBlock = some q) : TP pb W q := by
  have hc : W.cell? ⟨pb, 0, none⟩ = some v := bx.cell 0 (by simp)
  rcases ht with e | e | ⟨i, hi, e⟩
  · exact .inl e
  · exact .inr ⟨v, hc, .inl e⟩
  · rcases h.out.2 with ⟨_, h0⟩ | ⟨g, cap, cur, rfl, _⟩
    · omega
    · refine .inr ⟨_, hc, .inr ⟨g, ls.length, cap, i, vs i, rfl, hi, ?_, e⟩⟩
      rw [World.ownsRow.cellAt h.out _ (by omega), slv_get vs hi]
/-- The paths of those told that are the pattern. -/
def lsO (p : Tr) (pre : List Yp) : List (List Nat) := (pre.filter fun y => mtB p y.1.1.1).map fun y => y.1.1.2
theorem lsO_app (p : Tr) (pre : List Yp) (x : Yp) : lsO p (pre ++ [x]) = lsO p pre ++ (if mtB p x.1.1.1 = true then [x.1.1.2] else []) := by
  unfold lsO
  rw [List.filter_append, List.map_append]
  congr 1
  by_cases h : mtB p x.1.1.1 = true
  · simp [h]
  · simp [h]
theorem lsO_all (p t : Tr) (ys : List Yp) (h : ys.map (fun y => y.1.1) = ps t []) : lsO p ys = plT p t [] := by
  unfold lsO plT
  rw [← h, List.filter_map, List.map_map]
  rfl
/-- What stands between the rounds of Places. -/
structure PlI (w2 : World) (pb : Nat) (p : Tr) (pre : List Yp) (W : World) : Prop where
  os : W.os = w2.os
  tape : W.tape = w2.tape
  output : W.output = w2.output
  size : w2.heap.size ≤ W.heap.size
  lt : pb < w2.heap.size
  block : ∀ q, q < w2.heap.size → q ≠ pb → W.heap[q]? = w2.heap[q]?
  row : ∃ v vs, Box W pb 35 [v] ∧ RRv W (w2.heap.size + 2) (lsO p pre) v vs
theorem PlI.bears (w2 : World) (pb : Nat) (p : Tr) : BearsT w2.heap.size (TP pb) (PlI w2 pb p) := by
  intro s W W' row h hg hr
  obtain ⟨v, vs, bx, rr⟩ := h.row
  have same : ∀ q, TP pb W q → q < W.heap.size → W'.heap[q]? = W.heap[q]? := fun q ht hl => hg.block q hl (fun e => (hr q e.symm).2 ht)
  have bx' := bx.keep (same pb (.inl rfl) bx.lt)
  have rr' : RRv W' (w2.heap.size + 2) (lsO p s) v vs := rr.keep (fun q hq => same q (TP.mk bx rr (.inr (.inl hq))) (World.ownsRow.lt rr.out q hq).2) (fun i hi q hq => same q (TP.mk bx rr (.inr (.inr ⟨i, hi, hq⟩))) (World.ownsRow.lt (rr.row i hi) q hq).2)
  refine ⟨⟨hg.os.trans h.os, hg.tape.trans h.tape, hg.output.trans h.output, Nat.le_trans h.size hg.size, h.lt, fun q hq hne => (hg.block q (by have := h.size; omega) (fun e => by have := (hr q e.symm).1; omega)).trans (h.block q hq hne), v, vs, bx', rr'⟩, fun q hq => TP.mk bx rr (TP.of bx' rr' hq)⟩
theorem PlI.tp {w2 W : World} {pb q : Nat} {p : Tr} {pre : List Yp} (h : PlI w2 pb p pre W) (ht : TP pb W q) : (q = pb ∨ w2.heap.size + 2 ≤ q) ∧ q < W.heap.size := by
  obtain ⟨v, vs, bx, rr⟩ := h.row
  rcases TP.of bx rr ht with e | e | ⟨i, hi, e⟩
  · subst e; exact ⟨.inl rfl, bx.lt⟩
  · have := World.ownsRow.lt rr.out q e; exact ⟨.inr this.1, this.2⟩
  · have := World.ownsRow.lt (rr.row i hi) q e; exact ⟨.inr this.1, this.2⟩
/-- A round that finds nothing. -/
theorem PlI.pass {w2 W W1 : World} {pb l : Nat} {p : Tr} {pre : List Yp} {x : Yp} (h : PlI w2 pb p pre W) (hb : Below W.heap.size W W1) (hm : mtB p x.1.1.1 = false) (hl : l < W.heap.size) : (Fy (TP pb) l W W1 ∧ W1.heap[l]? = W.heap[l]?) ∧ PlI w2 pb p (pre ++ [x]) W1 := by
  obtain ⟨g1, g2⟩ := PlI.bears w2 pb p pre W W1 none h (grown_bel hb) (fun r e => by cases e)
  refine ⟨⟨⟨hb.os, hb.tape, hb.output, hb.size, fun q hq _ _ => hb.block q hq, fun q hq => .inl (g2 q hq)⟩, hb.block l hl⟩, ?_⟩
  obtain ⟨v, vs, bx, rr⟩ := g1.row
  refine ⟨g1.os, g1.tape, g1.output, g1.size, g1.lt, g1.block, v, vs, bx, ?_⟩
  rw [lsO_app, hm, if_neg (by simp), List.append_nil]
  exact rr
/-- A round that finds a place. -/
theorem PlI.put {w2 W W1 W3 : World} {pb l g cap : Nat} {p : Tr} {pre : List Yp} {x : Yp} {v u : Value} {vs : Nat → Value} {o : Obj} (h : PlI w2 pb p pre W) (hz : w2.heap.size + 2 ≤ W.heap.size) (bx : Box W pb 35 [v]) (rr : RRv W (w2.heap.size + 2) (lsO p pre) v vs) (hb : Below W.heap.size W W1) (hm : mtB p x.1.1.1 = true) (hl : l < W.heap.size) (hlt : ¬ TP pb W l)
    (hu : W1.ownsRow W.heap.size 3 1 u x.1.1.2.length (nums x.1.1.2)) (hown : W3.ownsRow (w2.heap.size + 2) 40 1 (.slice (some ⟨g, 0, none⟩) ((lsO p pre).length + 1) cap) ((lsO p pre).length + 1) (slv vs (lsO p pre).length ++ [u])) (hgr : (W1.alloc o).grownBy W3 v.ownBlock) (hat : v.ownBlock = some g ∨ g = (W1.alloc o).heap.size) :
    (Fy (TP pb) l W (W3.setCell ⟨pb, 0, none⟩ (.slice (some ⟨g, 0, none⟩) ((lsO p pre).length + 1) cap)) ∧ (W3.setCell ⟨pb, 0, none⟩ (.slice (some ⟨g, 0, none⟩) ((lsO p pre).length + 1) cap)).heap[l]? = W.heap[l]?) ∧ PlI w2 pb p (pre ++ [x]) (W3.setCell ⟨pb, 0, none⟩ (.slice (some ⟨g, 0, none⟩) ((lsO p pre).length + 1) cap)) := by
  have hs := hb.size
  have hsa : (W1.alloc o).heap.size = W1.heap.size + 1 := by simp
  have hs3 := hgr.size
  have hba := bel_alloc W1 o
  have hvl := World.ownsRow.lt rr.out
  have rr3 := rr.add hz hb hu hown hgr hat
  have hpl := h.lt
  have e1 : ∀ q, q < W.heap.size → v.ownBlock ≠ some q → W3.heap[q]? = W.heap[q]? := fun q hq hne => (hgr.block q (by omega) (fun e => hne e.symm)).trans ((hba.block q (by omega)).trans (hb.block q hq))
  have bx3 : Box W3 pb 35 [v] := bx.keep (e1 pb bx.lt (fun e => by have := (hvl pb e).1; omega))
  have bx4 := bx3.set1 (.slice (some ⟨g, 0, none⟩) ((lsO p pre).length + 1) cap)
  have rr4 : RRv (W3.setCell ⟨pb, 0, none⟩ (.slice (some ⟨g, 0, none⟩) ((lsO p pre).length + 1) cap)) (w2.heap.size + 2) (lsO p pre ++ [x.1.1.2]) (.slice (some ⟨g, 0, none⟩) ((lsO p pre).length + 1) cap) (fun i => if i = (lsO p pre).length then u else vs i) :=
    rr3.keep (fun q hq => blk_setCell_other _ _ _ _ (by have := (World.ownsRow.lt rr3.out q hq).1; show q ≠ pb; omega)) (fun i hi q hq => blk_setCell_other _ _ _ _ (by have := (World.ownsRow.lt (rr3.row i hi) q hq).1; show q ≠ pb; omega))
  have hbl : ∀ q, q < W.heap.size → ¬ TP pb W q → (W3.setCell ⟨pb, 0, none⟩ (.slice (some ⟨g, 0, none⟩) ((lsO p pre).length + 1) cap)).heap[q]? = W.heap[q]? := fun q hq hne => (blk_setCell_other _ _ _ _ (by show q ≠ pb; exact fun e => hne (.inl e))).trans (e1 q hq (fun e => hne (TP.mk bx rr (.inr (.inl e)))))
  have hul := World.ownsRow.lt hu
  refine ⟨⟨⟨hgr.os.trans (hba.os.trans hb.os), hgr.tape.trans (hba.tape.trans hb.tape), hgr.output.trans (hba.output.trans hb.output), by simp; omega, fun q hq _ hne => hbl q hq hne, fun q hq => ?_⟩, hbl l hl hlt⟩, ?_⟩
  · rcases TP.of bx4 rr4 hq with e | e | ⟨i, hi, e⟩
    · exact .inl (.inl e)
    · simp [Value.ownBlock] at e
      subst e
      rcases hat with e | e
      · exact .inl (TP.mk bx rr (.inr (.inl e)))
      · exact .inr (by omega)
    · split at e
      · exact .inr (hul q e).1
      · simp at hi
        exact .inl (TP.mk bx rr (.inr (.inr ⟨i, by omega, e⟩)))
  · refine ⟨hgr.os.trans (hba.os.trans (hb.os.trans h.os)), hgr.tape.trans (hba.tape.trans (hb.tape.trans h.tape)), hgr.output.trans (hba.output.trans (hb.output.trans h.output)), by have := h.size; simp; omega, h.lt, fun q hq hne => ?_, .slice (some ⟨g, 0, none⟩) ((lsO p pre).length + 1) cap, (fun i => if i = (lsO p pre).length then u else vs i), bx4, ?_⟩
    · have hqw : q < W.heap.size := by have := h.size; omega
      exact ((blk_setCell_other _ _ _ _ (by show q ≠ pb; exact hne)).trans (e1 q hqw (fun e => by have := (hvl q e).1; omega))).trans (h.block q hq hne)
    · rw [lsO_app, hm, if_pos rfl]
      exact rr4
theorem eqNil86 (a : Addr) (n c : Nat) (w : World) : (binOp .eql 40 (.slice (some a) n c) (.slice none 0 0)).run Try.prog w = .ok (.bool false) w := Lib.run_eql_slice_some_nil w _ _ _ Try.underlying40
theorem nums_one (xs : List Nat) : ∀ u ∈ nums xs, u.oneCell' = true := by
  intro u hu
  unfold nums at hu
  obtain ⟨i, _, rfl⟩ := List.mem_map.1 hu
  rfl
set_option maxHeartbeats 1600000 in
theorem clone57 {B : Nat} (xs : List Nat) (pv : Value) (w : World) (h : w.ownsRow B 3 1 pv xs.length (nums xs)) (hl : xs.length ≤ 1000000) :
    Calls Try.prog 33 #[pv] w fun e w' => ∃ (ua : Option Addr) (uc : Nat), e = .returned (.slice ua xs.length uc) ∧ Below w.heap.size w w' ∧ w'.ownsRow w.heap.size 3 1 (.slice ua xs.length uc) xs.length (nums xs) := by
  obtain ⟨i3, hi3, hz0, hz1, hz2⟩ := info_parts info3i
  rcases h.2 with ⟨rfl, h0⟩ | ⟨g, cap, cur, rfl, r2, r3, r4, r5, r6⟩
  · have hx : xs = [] := List.eq_nil_of_length_eq_zero h0
    subst hx
    clear h h0
    have hq : ∀ W, (binOp .eql 40 (.slice none 0 0) (.slice none 0 0)).run Try.prog W = .ok (.bool true) W := fun W => Lib.run_eql_slice_nil_nil W _ _ Try.underlying40
    simp only [List.length_nil]
    go_enter Try.func33, Try.ntmps33
    go_wp2_with fail
    go_ret
    exact ⟨none, 0, rfl, Below.refl _ _, own_nil _ _ _ _⟩
  · have hb0 := bel_alloc w (.cells #[] 3)
    have ho0 : (w.alloc (.cells #[] 3)).ownsRow w.heap.size 3 1 (.slice (some ⟨w.heap.size, 0, none⟩) 0 0) 0 [] := World.ownsRow_made w #[] 0 (Nat.le_refl _) (Nat.zero_le _) rfl
    have HO := (show Hid _ from ho0)
    have h1 := own_still h hb0
    have HNW := (show Hid (∀ j u, (nums xs)[j]? = some u → (w.alloc (.cells #[] 3)).cell? ((⟨g, 0, none⟩ : Addr).add j) = some u) from h1.cells (g := g) rfl)
    have HB0 := (show Hid (Below w.heap.size w (w.alloc (.cells #[] 3))) from hb0)
    have hq := eqNil86 ⟨g, 0, none⟩ xs.length cap
    have hnl : (nums xs).length = xs.length * 1 := by simp [nums]
    have HNL := (show Hid _ from hnl)
    clear h h1 hb0 ho0 r2 r3 r4 r5 r6 hnl
    go_enter Try.func33, Try.ntmps33
    go_wp2_with (at_builtin; refine wpList_append_own_at _ rfl (.tmp 5) (.tmp 6) 40 rfl w.heap.size 3 i3 _ 1 8 Try.underlying40 hi3 hz0 hz1 hz2 rfl (by decide) _ 0 [] rfl HO.out ⟨g, 0, none⟩ xs.length cap (nums xs) rfl HNL.out HNW.out (nums_one xs) ?c3 (by omega) ?c4 ?nx)
    case c3 => unfold maxLen; omega
    case nx =>
      intro v' w1 hown hgr hnil hat
      have hb1 : Below w.heap.size w w1 := HB0.out.grown hgr HB0.out.size (fun k hk => by
        have e : w.heap.size = k := by simpa [Value.ownBlock] using hk
        omega)
      obtain ⟨ua, uc, rfl, _⟩ := own_ne hown
      have HY := (show Hid _ from (⟨hown, hb1⟩ : _ ∧ _))
      clear hown hb1 hgr hnil hat
      go_wp2_with fail
      go_ret
      exact ⟨ua, uc, rfl, HY.out.2, HY.out.1⟩
end Go.Proofs.Ytbgoikaelmacbaa
