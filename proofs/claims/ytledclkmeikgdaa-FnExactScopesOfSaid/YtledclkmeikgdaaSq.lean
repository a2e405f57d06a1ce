import Derived.Test.YtledclkmeikgdaaSp
/-! The program: what stands while a term's Kids are gone through. -/
namespace Go.Proofs.Ytledclkmeikgdaa
open Go.RowKit Go.Deep Go.Shelf
open Go.Proofs.Ytledclkmeikgdaa.T (Tr)
set_option linter.unusedVariables false
set_option maxRecDepth 100000
set_option linter.unusedSimpArgs false
attribute [local go_sem] Oper.semAt_some

/-- In a round an operation that is no defer statement goes as everywhere. -/
theorem op_round {P : Program} {o : Oper} {a : Act} {w : World} {K : Act → World → Prop} {Q : Exit → Act → World → Prop} {l n : Nat} (hd : ∀ c, o.op ≠ .defer c) (h : o.wp P a w K Q) : o.wpIn (Fence.wide.inRound l) n P a w K Q := by
  unfold Oper.wp at h
  unfold Oper.wpIn
  refine ⟨fun _ _ => trivial, ?_⟩
  rw [Oper.semAt_eq _ _ _ hd]
  generalize (execOp a.eval o).run P w = r at *
  cases r with
  | ok x w' =>
    cases x <;> simp only [Oper.upon, Oper.uponIn] at h ⊢ <;> first
      | exact h
      | exact ⟨fun h0 => absurd h0 (by simp [Fence.wide]), CallsIn.inRound l (callsIn_wide.2 h)⟩
      | exact ⟨fun h0 => absurd h0 (by simp [Fence.wide]), fun c cs _ => (h c cs).elim fun v h2 => h2.elim fun w2 h3 => ⟨v, w2, h3.1, stepsIn_wide.2 h3.2⟩⟩
  | halt x w' => cases x <;> exact h
theorem any_round {P : Program} {md : Region.Mode} {ops : Array Oper} {Q : Exit → Act → World → Prop} {l n : Nat} (hl : ¬ LetsOut Q) (hd : ∀ (i : Nat) (o : Oper), ops[i]? = some o → ∀ c, o.op ≠ .defer c) : ∀ (fuel : Nat) (listed : Array Bool) (a : Act) (w : World), wpAny P md ops Q fuel listed a w → wpAnyIn (Fence.wide.inRound l) n P md ops Q fuel listed a w := by
  intro fuel
  induction fuel with
  | zero => intro listed a w h; exact h
  | succ fuel ih =>
    intro listed a w h
    refine ⟨h.1, fun i hi => ?_⟩
    have h2 := h.2 i hi
    unfold wpOp at h2
    unfold wpOpIn
    cases ho : ops[i]? with
    | none =>
      simp only [ho] at h2
      exact ih _ _ _ h2
    | some o =>
      simp only [ho] at h2 ⊢
      by_cases hw : Region.wanted o (yielded ops a.tmps) = true
      · rw [if_pos hw] at h2 ⊢
        rcases h2 with h2 | h2
        · exact op_round (hd i o ho) (Oper.wp_mono (ih _) h2)
        · exact absurd h2.2 hl
      · rw [if_neg hw] at h2 ⊢
        exact ⟨fun _ _ => trivial, ih _ _ _ h2⟩
/-- Nothing but to go on. -/
def OnlyN (Q : Exit → Act → World → Prop) : Exit → Act → World → Prop
  | .normal, a, w => Q .normal a w
  | _, _, _ => False
theorem region_round {P : Program} {ops : Array Oper} {Q : Exit → Act → World → Prop} {l n id : Nat} {a : Act} {w : World} (S : World → Prop) (hm : P.follows .mixedOrders = true) (hd : ∀ (i : Nat) (o : Oper), ops[i]? = some o → ∀ c, o.op ≠ .defer c) (hS : S w.drew)
    (h : S w.drew → wpAnyH P .any ops (OnlyN Q) S ops.size (Array.replicate ops.size false) a w.drew) : (Code.region id ops true).wpIn (Fence.wide.inRound l) n P Q a w :=
  wpIn_mono (wpIn_region_any hm (any_round (Q := OnlyN Q) (fun h0 => by obtain ⟨_, _, h1⟩ := h0; exact h1) hd _ _ _ _ (wpAny_of_held _ _ _ _ (h hS)))) (fun e a w h1 => by
    cases e <;> first | exact h1 | exact h1.elim)
theorem no_defer {ops : Array Oper} (h : ops.toList.all (fun o => match o.op with | .defer _ => false | _ => true) = true) : ∀ (i : Nat) (o : Oper), ops[i]? = some o → ∀ c, o.op ≠ .defer c := by
  intro i o ho c hc
  have h1 := List.all_eq_true.1 h o (by
    have := Array.mem_of_getElem? ho
    simpa using this)
  rw [hc] at h1
  cases h1
theorem slv_own {W : World} {B e n m : Nat} {v : Value} {vs us : Nat → Value} (h : W.ownsRow B e 1 v n (slv vs n)) (k : W.ownsRow B e 1 v m (slv us m)) : n = m ∧ ∀ i, i < n → vs i = us i := by
  obtain ⟨a, cp, e1, e2⟩ := own_ne h
  obtain ⟨a', cp', e1', _⟩ := own_ne k
  rw [e1] at e1'
  injection e1' with _ hnm _
  subst hnm
  refine ⟨rfl, fun i hi => ?_⟩
  rcases h.2 with ⟨_, h0⟩ | ⟨g, cap, cur, rfl, _⟩
  · omega
  · have c1 := World.ownsRow.cellAt h i (by omega)
    have c2 := World.ownsRow.cellAt k i (by omega)
    rw [c1, slv_get vs hi, slv_get us hi] at c2
    injection c2
/-- Its blocks are read off the world. -/
theorem Co.uniq {w : World} {A q ty : Nat} {s s' : Sw} {c c' : CV} (h : Co w A q ty s c) (k : Co w A q ty s' c') {b : Nat} (hb : c.B q s b) : c'.B q s' b := by
  have e1 : c.v1 = c'.v1 := by
    have x := h.bx.cell 1 (by simp); have y := k.bx.cell 1 (by simp); rw [x] at y; injection y
  have e2 : c.v2 = c'.v2 := by
    have x := h.bx.cell 2 (by simp); have y := k.bx.cell 2 (by simp); rw [x] at y; injection y
  have e3 : c.v3 = c'.v3 := by
    have x := h.bx.cell 3 (by simp); have y := k.bx.cell 3 (by simp); rw [x] at y; injection y
  have e4 : c.v4 = c'.v4 := by
    have x := h.bx.cell 4 (by simp); have y := k.bx.cell 4 (by simp); rw [x] at y; injection y
  have e5 : c.v5 = c'.v5 := by
    have x := h.bx.cell 5 (by simp); have y := k.bx.cell 5 (by simp); rw [x] at y; injection y
  have hD := slv_own h.dp.out (e4 ▸ k.dp.out)
  have hR := slv_own h.rp.out (e5 ▸ k.rp.out)
  rcases hb with e | e | e | e | e | e | ⟨i, hi, e⟩ | ⟨i, hi, e⟩
  · exact .inl e
  · exact .inr (.inl (e1 ▸ e))
  · exact .inr (.inr (.inl (e2 ▸ e)))
  · exact .inr (.inr (.inr (.inl (e3 ▸ e))))
  · exact .inr (.inr (.inr (.inr (.inl (e4 ▸ e)))))
  · exact .inr (.inr (.inr (.inr (.inr (.inl (e5 ▸ e))))))
  · exact .inr (.inr (.inr (.inr (.inr (.inr (.inl ⟨i, hD.1 ▸ hi, hD.2 i hi ▸ e⟩))))))
  · exact .inr (.inr (.inr (.inr (.inr (.inr (.inr ⟨i, hR.1 ▸ hi, hR.2 i hi ▸ e⟩))))))
/-- What a round may turn: the collector's blocks, and the path's. -/
def TQ (A q : Nat) (pb : Option Nat) (W : World) (b : Nat) : Prop := (∃ s c, Co W A q 88 s c ∧ c.B q s b) ∨ pb = some b
/-- What stands between the rounds. -/
structure ThI (A q : Nat) (w0 : World) (s2 : Sw) (c2 : CV) (pv : Value) (p : List Nat) (F : Nat → Sw) (pre : List Nat) (W : World) : Prop where
  st : ∃ c, St A q 88 w0 s2 c2 W (F pre.length) c (fun b => pv.ownBlock = some b) (fun _ => False) ∧ ∀ b, c.B q (F pre.length) b → b < w0.heap.size ∨ w0.heap.size + 2 ≤ b
  row : W.ownsRow A 3 1 pv p.length (nums p)
section
variable {A q : Nat} {w0 : World} {s2 : Sw} {c2 : CV} {pv : Value} {p : List Nat} {F : Nat → Sw} {pre : List Nat} {W W' : World}
theorem ThI.bears : BearsT w0.heap.size (TQ A q pv.ownBlock) (ThI A q w0 s2 c2 pv p F) := by
  intro s W W' row h hg hr
  obtain ⟨c, hst, hgap⟩ := h.st
  have hk : ∀ b, c.B q (F s.length) b → W'.heap[b]? = W.heap[b]? := fun b hb => hg.block b (hst.co.lt b hb).2 (fun e => (hr b e.symm).2 (.inl ⟨_, c, hst.co, hb⟩))
  have hco := hst.co.keep hk
  refine ⟨⟨⟨c, ⟨hco, ⟨hg.os.trans hst.fm.os, hg.tape.trans hst.fm.tape, hg.output.trans hst.fm.output, Nat.le_trans hst.fm.size hg.size, fun b hb hn => (hg.block b (by have := hst.fm.size; omega) (fun e => by have := (hr b e.symm).1; omega)).trans (hst.fm.block b hb hn)⟩, hst.nb⟩, hgap⟩, own_keep1 h.row (fun b hb => hg.block b (World.ownsRow.lt h.row b hb).2 (fun e => (hr b e.symm).2 (.inr hb)))⟩, fun b hb => ?_⟩
  rcases hb with ⟨s', c', h1, h2⟩ | h
  · exact .inl ⟨_, c, hst.co, h1.uniq hco h2⟩
  · exact .inr h
theorem ThI.tq (h : ThI A q w0 s2 c2 pv p F pre W) (hpv : ∀ b, pv.ownBlock = some b → b < w0.heap.size) {b : Nat} (ht : TQ A q pv.ownBlock W b) : A ≤ b ∧ (b < w0.heap.size ∨ w0.heap.size + 2 ≤ b) ∧ (b < w0.heap.size → c2.B q s2 b ∨ pv.ownBlock = some b) := by
  obtain ⟨c, hst, hgap⟩ := h.st
  rcases ht with ⟨s', c', h1, h2⟩ | e
  · have hb := h1.uniq hst.co h2
    refine ⟨(hst.co.lt b hb).1, hgap b hb, fun hl => ?_⟩
    rcases hst.nb b hb with e | e | e
    · exact .inl e
    · exact e.elim
    · omega
  · exact ⟨(World.ownsRow.lt h.row b e).1, .inl (hpv b e), fun _ => .inr e⟩
/-- A round. -/
theorem ThI.next {x : Nat} {cj c' : CV} (h : ThI A q w0 s2 c2 pv p F pre W) (hpv : ∀ b, pv.ownBlock = some b → b < w0.heap.size) (hco : Co W A q 88 (F pre.length) cj) (hst : St A q 88 W (F pre.length) cj W' (F (pre ++ [x]).length) c' (fun b => pv.ownBlock = some b) (fun _ => False)) (hrow : W'.ownsRow A 3 1 pv p.length (nums p)) (hz : w0.heap.size + 2 ≤ W.heap.size) :
    (Fy (TQ A q pv.ownBlock) (w0.heap.size + 1) W W' ∧ W'.heap[w0.heap.size + 1]? = W.heap[w0.heap.size + 1]?) ∧ ThI A q w0 s2 c2 pv p F (pre ++ [x]) W' := by
  obtain ⟨c, hs0, hgap⟩ := h.st
  have hnl : ∀ b, cj.B q (F pre.length) b → b < w0.heap.size ∨ w0.heap.size + 2 ≤ b := fun b hb => hgap b (hco.uniq hs0.co hb)
  have hs0' : St A q 88 w0 s2 c2 W (F pre.length) cj (fun b => pv.ownBlock = some b) (fun _ => False) := ⟨hco, hs0.fm, fun b hb => hs0.nb b (hco.uniq hs0.co hb)⟩
  refine ⟨⟨⟨hst.fm.os, hst.fm.tape, hst.fm.output, hst.fm.size, fun b hb _ hn => hst.fm.block b hb (fun e => hn (e.imp (fun e => ⟨_, cj, hco, e⟩) id)), fun b hb => ?_⟩, ?_⟩, ⟨c', hs0'.trans hst (fun _ _ e => e) (fun _ _ e => .inr e) (fun _ _ e => e) (fun _ _ e => e), fun b hb => ?_⟩, hrow⟩
  · rcases hb with ⟨s', c3, h1, h2⟩ | e
    · rcases hst.nb b (h1.uniq hst.co h2) with e | e | e
      · exact .inl (.inl ⟨_, cj, hco, e⟩)
      · exact e.elim
      · exact .inr e
    · exact .inl (.inr e)
  · refine hst.fm.block _ (by omega) (fun e => ?_)
    rcases e with e | e
    · have := hnl _ e; omega
    · have := hpv _ e; omega
  · rcases hst.nb b hb with e | e | e
    · exact hnl b e
    · exact e.elim
    · omega
end
end Go.Proofs.Ytledclkmeikgdaa
