import Derived.Test.YtledclkmeikgdaaSp
import Derived.Test.YtledclkmeikgdaaSr
import Derived.Test.YtledclkmeikgdaaSk
/-! The program: what stands while a term's Kids are gone through. -/
namespace Go.Proofs.Ytledclkmeikgdaa
open Go.RowKit Go.Deep Go.Shelf
open Go.Proofs.Ytledclkmeikgdaa.T (Tr)
set_option linter.unusedVariables false
set_option maxRecDepth 100000
set_option linter.unusedSimpArgs false
attribute [local go_sem] Oper.semAt_some

/-- In a round an operation that is no defer statement goes as everywhere. -/
theorem op_round {P : Program} {o : Oper} {a : Act} {w : World} {K : Act → World → Prop} {Q : Exit → Act → World → Prop} {l n : Nat} (hd : ∀ c, o.op ≠ .defer c) (h : o.wp P a w K Q) : o.wpIn (Fence.wide.inRound l) n P a w K Q := by
  unfold Oper.wp at h
  unfold Oper.wpIn
  refine ⟨fun _ _ => trivial, ?_⟩
  rw [Oper.semAt_eq _ _ _ hd]
  generalize (execOp a.eval o).run P w = r at *
  cases r with
  | ok x w' =>
    cases x <;> simp only [Oper.upon, Oper.uponIn] at h ⊢ <;> first
      | exact h
      | exact ⟨fun h0 => absurd h0 (by simp [Fence.wide]), CallsIn.inRound l (callsIn_wide.2 h)⟩
      | exact ⟨fun h0 => absurd h0 (by simp [Fence.wide]), fun c cs _ => (h c cs).elim fun v h2 => h2.elim fun w2 h3 => ⟨v, w2, h3.1, stepsIn_wide.2 h3.2⟩⟩
  | halt x w' => cases x <;> exact h
theorem any_round {P : Program} {md : Region.Mode} {ops : Array Oper} {Q : Exit → Act → World → Prop} {l n : Nat} (hl : ¬ LetsOut Q) (hd : ∀ (i : Nat) (o : Oper), ops[i]? = some o → ∀ c, o.op ≠ .defer c) : ∀ (fuel : Nat) (listed : Array Bool) (a : Act) (w : World), wpAny P md ops Q fuel listed a w → wpAnyIn (Fence.wide.inRound l) n P md ops Q fuel listed a w := by
  intro fuel
  induction fuel with
  | zero => intro listed a w h; exact h
  | succ fuel ih =>
    intro listed a w h
    refine ⟨h.1, fun i hi => ?_⟩
    have h2 := h.2 i hi
    unfold wpOp at h2
    unfold wpOpIn
    cases ho : ops[i]? with
    | none =>
      simp only [ho] at h2
      exact ih _ _ _ h2
    | some o =>
      simp only [ho] at h2 ⊢
      by_cases hw : Region.wanted o (yielded ops a.tmps) = true
      · rw [if_pos hw] at h2 ⊢
        rcases h2 with h2 | h2
        · exact op_round (hd i o ho) (Oper.wp_mono (ih _) h2)
        · exact absurd h2.2 hl
      · rw [if_neg hw] at h2 ⊢
        exact ⟨fun _ _ => trivial, ih _ _ _ h2⟩
/-- Nothing but to go on. -/
def OnlyN (Q : Exit → Act → World → Prop) : Exit → Act → World → Prop
  | .normal, a, w => Q .normal a w
  | _, _, _ => False
theorem region_round {P : Program} {ops : Array Oper} {Q : Exit → Act → World → Prop} {l n id : Nat} {a : Act} {w : World} (S : World → Prop) (hm : P.follows .mixedOrders = true) (hd : ∀ (i : Nat) (o : Oper), ops[i]? = some o → ∀ c, o.op ≠ .defer c) (hS : S w.drew)
    (h : S w.drew → wpAnyH P .any ops (OnlyN Q) S ops.size (Array.replicate ops.size false) a w.drew) : (Code.region id ops true).wpIn (Fence.wide.inRound l) n P Q a w :=
  wpIn_mono (wpIn_region_any hm (any_round (Q := OnlyN Q) (fun h0 => by obtain ⟨_, _, h1⟩ := h0; exact h1) hd _ _ _ _ (wpAny_of_held _ _ _ _ (h hS)))) (fun e a w h1 => by
    cases e <;> first | exact h1 | exact h1.elim)
theorem no_defer {ops : Array Oper} (h : ops.toList.all (fun o => match o.op with | .defer _ => false | _ => true) = true) : ∀ (i : Nat) (o : Oper), ops[i]? = some o → ∀ c, o.op ≠ .defer c := by
  intro i o ho c hc
  have h1 := List.all_eq_true.1 h o (by
    have := Array.mem_of_getElem? ho
    simpa using this)
  rw [hc] at h1
  cases h1
theorem slv_own {W : World} {B e n m : Nat} {v : Value} {vs us : Nat → Value} (h : W.ownsRow B e 1 v n (slv vs n)) (k : W.ownsRow B e 1 v m (slv us m)) : n = m ∧ ∀ i, i < n → vs i = us i := by
  obtain ⟨a, cp, e1, e2⟩ := own_ne h
  obtain ⟨a', cp', e1', _⟩ := own_ne k
  rw [e1] at e1'
  injection e1' with _ hnm _
  subst hnm
  refine ⟨rfl, fun i hi => ?_⟩
  rcases h.2 with ⟨_, h0⟩ | ⟨g, cap, cur, rfl, _⟩
  · omega
  · have c1 := World.ownsRow.cellAt h i (by omega)
    have c2 := World.ownsRow.cellAt k i (by omega)
    rw [c1, slv_get vs hi, slv_get us hi] at c2
    injection c2
/-- Its blocks are read off the world. -/
theorem Co.uniq {w : World} {A q ty : Nat} {s s' : Sw} {c c' : CV} (h : Co w A q ty s c) (k : Co w A q ty s' c') {b : Nat} (hb : c.B q s b) : c'.B q s' b := by
  have e1 : c.v1 = c'.v1 := by
    have x := h.bx.cell 1 (by simp); have y := k.bx.cell 1 (by simp); rw [x] at y; injection y
  have e2 : c.v2 = c'.v2 := by
    have x := h.bx.cell 2 (by simp); have y := k.bx.cell 2 (by simp); rw [x] at y; injection y
  have e3 : c.v3 = c'.v3 := by
    have x := h.bx.cell 3 (by simp); have y := k.bx.cell 3 (by simp); rw [x] at y; injection y
  have e4 : c.v4 = c'.v4 := by
    have x := h.bx.cell 4 (by simp); have y := k.bx.cell 4 (by simp); rw [x] at y; injection y
  have e5 : c.v5 = c'.v5 := by
    have x := h.bx.cell 5 (by simp); have y := k.bx.cell 5 (by simp); rw [x] at y; injection y
  have hD := slv_own h.dp.out (e4 ▸ k.dp.out)
  have hR := slv_own h.rp.out (e5 ▸ k.rp.out)
  rcases hb with e | e | e | e | e | e | ⟨i, hi, e⟩ | ⟨i, hi, e⟩
  · exact .inl e
  · exact .inr (.inl (e1 ▸ e))
  · exact .inr (.inr (.inl (e2 ▸ e)))
  · exact .inr (.inr (.inr (.inl (e3 ▸ e))))
  · exact .inr (.inr (.inr (.inr (.inl (e4 ▸ e)))))
  · exact .inr (.inr (.inr (.inr (.inr (.inl (e5 ▸ e))))))
  · exact .inr (.inr (.inr (.inr (.inr (.inr (.inl ⟨i, hD.1 ▸ hi, hD.2 i hi ▸ e⟩))))))
  · exact .inr (.inr (.inr (.inr (.inr (.inr (.inr ⟨i, hR.1 ▸ hi, hR.2 i hi ▸ e⟩))))))
/-- What a round may turn: the collector's blocks, and the path's. -/
def TQ (A q : Nat) (pb : Option Nat) (W : World) (b : Nat) : Prop := (∃ s c, Co W A q 88 s c ∧ c.B q s b) ∨ pb = some b
/-- What stands between the rounds. -/
structure ThI (A q : Nat) (w0 : World) (s2 : Sw) (c2 : CV) (pv : Value) (p : List Nat) (F : Nat → Sw) (pre : List Nat) (W : World) : Prop where
  st : ∃ c, St A q 88 w0 s2 c2 W (F pre.length) c (fun b => pv.ownBlock = some b) (fun _ => False) ∧ ∀ b, c.B q (F pre.length) b → b < w0.heap.size ∨ w0.heap.size + 2 ≤ b
  row : W.ownsRow A 3 1 pv p.length (nums p)
section
variable {A q : Nat} {w0 : World} {s2 : Sw} {c2 : CV} {pv : Value} {p : List Nat} {F : Nat → Sw} {pre : List Nat} {W W' : World}
theorem ThI.bears : BearsT w0.heap.size (TQ A q pv.ownBlock) (ThI A q w0 s2 c2 pv p F) := by
  intro s W W' row h hg hr
  obtain ⟨c, hst, hgap⟩ := h.st
  have hk : ∀ b, c.B q (F s.length) b → W'.heap[b]? = W.heap[b]? := fun b hb => hg.block b (hst.co.lt b hb).2 (fun e => (hr b e.symm).2 (.inl ⟨_, c, hst.co, hb⟩))
  have hco := hst.co.keep hk
  refine ⟨⟨⟨c, ⟨hco, ⟨hg.os.trans hst.fm.os, hg.tape.trans hst.fm.tape, hg.output.trans hst.fm.output, Nat.le_trans hst.fm.size hg.size, fun b hb hn => (hg.block b (by have := hst.fm.size; omega) (fun e => by have := (hr b e.symm).1; omega)).trans (hst.fm.block b hb hn)⟩, hst.nb⟩, hgap⟩, own_keep1 h.row (fun b hb => hg.block b (World.ownsRow.lt h.row b hb).2 (fun e => (hr b e.symm).2 (.inr hb)))⟩, fun b hb => ?_⟩
  rcases hb with ⟨s', c', h1, h2⟩ | h
  · exact .inl ⟨_, c, hst.co, h1.uniq hco h2⟩
  · exact .inr h
theorem ThI.tq (h : ThI A q w0 s2 c2 pv p F pre W) (hpv : ∀ b, pv.ownBlock = some b → b < w0.heap.size) {b : Nat} (ht : TQ A q pv.ownBlock W b) : A ≤ b ∧ (b < w0.heap.size ∨ w0.heap.size + 2 ≤ b) ∧ (b < w0.heap.size → c2.B q s2 b ∨ pv.ownBlock = some b) := by
  obtain ⟨c, hst, hgap⟩ := h.st
  rcases ht with ⟨s', c', h1, h2⟩ | e
  · have hb := h1.uniq hst.co h2
    refine ⟨(hst.co.lt b hb).1, hgap b hb, fun hl => ?_⟩
    rcases hst.nb b hb with e | e | e
    · exact .inl e
    · exact e.elim
    · omega
  · exact ⟨(World.ownsRow.lt h.row b e).1, .inl (hpv b e), fun _ => .inr e⟩
/-- A round. -/
theorem ThI.next {x : Nat} {cj c' : CV} (h : ThI A q w0 s2 c2 pv p F pre W) (hpv : ∀ b, pv.ownBlock = some b → b < w0.heap.size) (hco : Co W A q 88 (F pre.length) cj) (hst : St A q 88 W (F pre.length) cj W' (F (pre ++ [x]).length) c' (fun b => pv.ownBlock = some b) (fun _ => False)) (hrow : W'.ownsRow A 3 1 pv p.length (nums p)) (hz : w0.heap.size + 2 ≤ W.heap.size) :
    (Fy (TQ A q pv.ownBlock) (w0.heap.size + 1) W W' ∧ W'.heap[w0.heap.size + 1]? = W.heap[w0.heap.size + 1]?) ∧ ThI A q w0 s2 c2 pv p F (pre ++ [x]) W' := by
  obtain ⟨c, hs0, hgap⟩ := h.st
  have hnl : ∀ b, cj.B q (F pre.length) b → b < w0.heap.size ∨ w0.heap.size + 2 ≤ b := fun b hb => hgap b (hco.uniq hs0.co hb)
  have hs0' : St A q 88 w0 s2 c2 W (F pre.length) cj (fun b => pv.ownBlock = some b) (fun _ => False) := ⟨hco, hs0.fm, fun b hb => hs0.nb b (hco.uniq hs0.co hb)⟩
  refine ⟨⟨⟨hst.fm.os, hst.fm.tape, hst.fm.output, hst.fm.size, fun b hb _ hn => hst.fm.block b hb (fun e => hn (e.imp (fun e => ⟨_, cj, hco, e⟩) id)), fun b hb => ?_⟩, ?_⟩, ⟨c', hs0'.trans hst (fun _ _ e => e) (fun _ _ e => .inr e) (fun _ _ e => e) (fun _ _ e => e), fun b hb => ?_⟩, hrow⟩
  · rcases hb with ⟨s', c3, h1, h2⟩ | e
    · rcases hst.nb b (h1.uniq hst.co h2) with e | e | e
      · exact .inl (.inl ⟨_, cj, hco, e⟩)
      · exact e.elim
      · exact .inr e
    · exact .inl (.inr e)
  · refine hst.fm.block _ (by omega) (fun e => ?_)
    rcases e with e | e
    · have := hnl _ e; omega
    · have := hpv _ e; omega
  · rcases hst.nb b hb with e | e | e
    · exact hnl b e
    · exact e.elim
    · omega
end
end Go.Proofs.Ytledclkmeikgdaa

/-! The program: a path with one more behind it; what a term comes to, part by part. -/
namespace Go.Proofs.Ytledclkmeikgdaa
open Go.RowKit Go.Deep
open Go.Proofs.Ytledclkmeikgdaa.T (Tr)
set_option linter.unusedVariables false
set_option maxRecDepth 100000
set_option linter.unusedSimpArgs false

theorem St.mono {A q ty : Nat} {w w' : World} {s s' : Sw} {c c' : CV} {T N T' N' : Nat → Prop} (h : St A q ty w s c w' s' c' T N) (hT : ∀ b, T b → T' b) (hN : ∀ b, N b → N' b) : St A q ty w s c w' s' c' T' N' :=
  ⟨h.co, ⟨h.fm.os, h.fm.tape, h.fm.output, h.fm.size, fun b hb hn => h.fm.block b hb (fun e => hn (e.imp id (hT b)))⟩, fun b hb => (h.nb b hb).imp id (Or.imp (hN b) id)⟩
/-- A path with one more behind it. -/
theorem path_push {A q : Nat} {wr w1 w8 : World} {s : Sw} {c : CV} {pv pv' : Value} {p : List Nat} {j : Nat} (hco : Co wr A q 88 s c) (hp : wr.ownsRow A 3 1 pv p.length (nums p)) (hn : ∀ b, pv.ownBlock = some b → ¬ c.B q s b) (hb : Below wr.heap.size wr w1) (h : OneMore A pv pv' p.length (nums p) (.int .i64 (j : Nat)) w1 w8) :
    Co w8 A q 88 s c ∧ w8.ownsRow A 3 1 pv' (p ++ [j]).length (nums (p ++ [j])) ∧ (∀ b, pv'.ownBlock = some b → ¬ c.B q s b) ∧ (∀ b, b < wr.heap.size → pv.ownBlock ≠ some b → w8.heap[b]? = wr.heap[b]?) ∧ wr.heap.size ≤ w8.heap.size ∧
    ∀ w9 s' c', St A q 88 w8 s c w9 s' c' (fun b => pv'.ownBlock = some b) (fun _ => False) → w9.ownsRow A 3 1 pv' (p ++ [j]).length (nums (p ++ [j])) → St A q 88 wr s c w9 s' c' (fun b => pv.ownBlock = some b) (fun _ => False) ∧ w9.ownsRow A 3 1 pv p.length (nums p) := by
  obtain ⟨h1, _, h3, h4⟩ := h
  have hs1 := hb.size
  have hs3 := h3.size
  have hlen : (p ++ [j]).length = p.length + 1 := by simp
  have hblk : ∀ b, b < wr.heap.size → pv.ownBlock ≠ some b → w8.heap[b]? = wr.heap[b]? := fun b h e => (h3.block b (by omega) (fun e2 => e e2.symm)).trans (hb.block b h)
  have hco8 : Co w8 A q 88 s c := hco.keep (fun b hb2 => hblk b (hco.lt b hb2).2 (fun e => hn b e hb2))
  have hpl := World.ownsRow.lt hp
  rw [hlen, nums_app]
  refine ⟨hco8, h1, fun b e e2 => ?_, hblk, by omega, fun w9 s' c' hst hrow => ?_⟩
  · rcases h4 with ⟨h5, _⟩ | ⟨h5, _⟩
    · exact hn b (h5 ▸ e) e2
    · rw [h5] at e
      injection e with e
      have := (hco.lt b e2).2
      omega
  · refine ⟨⟨hst.co, ⟨hst.fm.os.trans (h3.os.trans hb.os), hst.fm.tape.trans (h3.tape.trans hb.tape), hst.fm.output.trans (h3.output.trans hb.output), by have := hst.fm.size; omega, fun b h2 h5 => ?_⟩, fun b hb2 => ?_⟩, ?_⟩
    · refine (hst.fm.block b (by omega) (fun e => ?_)).trans (hblk b h2 (fun e => h5 (.inr e)))
      rcases e with e | e
      · exact h5 (.inl e)
      · rcases h4 with ⟨h6, _⟩ | ⟨h6, _⟩
        · exact h5 (.inr (h6 ▸ e))
        · rw [h6] at e
          injection e with e
          omega
    · rcases hst.nb b hb2 with e | e | e
      · exact .inl e
      · exact e.elim
      · exact .inr (.inr (by omega))
    · rcases h4 with ⟨_, h6⟩ | ⟨h6, h7⟩
      · exact h6 w9 hrow
      · refine own_keep1 hp (fun b e => ?_)
        have hl := (hpl b e).2
        refine (hst.fm.block b (by omega) (fun e2 => ?_)).trans ((h7.block b (by omega) (fun e => by cases e)).trans (hb.block b hl))
        rcases e2 with e2 | e2
        · exact hn b e e2
        · rw [h6] at e2
          injection e2 with e2
          omega
/-- What a term comes to, part by part: itself, what it declares, its Kids. -/
def wS1 (n x : ByteArray) (l : Bool) (sc : Nat) (p : List Nat) (s : Sw) : Sw := if (l && n.toList == T.cId) = true then s.ref sc x p else s
def wS2 (n : ByteArray) (k : List Tr) (sc : Nat) (p : List Nat) (s : Sw) : Sw := if T.dclB n = true then s.dcl (nm0 k) sc p else s
def wN (n : ByteArray) (sc : Nat) (s : Sw) : Nat := if T.dclB n = true then s.n else sc
def wIn (n : ByteArray) (s : Sw) : Nat := if T.dclB n = true then s.n else 0
theorem leaf_dcl {n x : ByteArray} (h : T.tmL n x = true) : T.dclB n = false := by
  unfold T.tmL at h
  unfold T.dclB
  by_cases h1 : n.toList == T.cId
  · rw [T.is_eq h1]; rfl
  by_cases h2 : n.toList == T.cNum
  · rw [T.is_eq h2]; rfl
  by_cases h3 : n.toList == T.cYes
  · rw [T.is_eq h3]; rfl
  by_cases h4 : n.toList == T.cNo
  · rw [T.is_eq h4]; rfl
  rw [if_neg h1, if_neg h2, if_neg h3, if_neg h4] at h
  cases h
theorem leaf_nil {n x : ByteArray} {k : List Tr} (h : Tr.right ⟨n, x, true, k⟩ = true) : k = [] := by
  rw [Tr.right_mk] at h
  simp only [Bool.and_eq_true, Tr.alone, if_true, decide_eq_true_eq] at h
  exact List.eq_nil_of_length_eq_zero h.1.2.1
theorem right_kid {n x : ByteArray} {l : Bool} {k : List Tr} (h : Tr.right ⟨n, x, l, k⟩ = true) (i : Nat) (hi : i < k.length) : k[i].right = true := by
  rw [Tr.right_mk] at h
  simp only [Bool.and_eq_true, Tr.rightL, List.all_eq_true] at h
  exact h.2 _ (List.getElem_mem hi)
theorem swJ_false (sc inn : Nat) (p : List Nat) (k : List Tr) (j : Nat) (s : Sw) : swJ false sc inn p k j s = swJ false sc 0 p k j s := by
  have h : ∀ (gs : List (Nat → List Nat → Sw → Sw)) (i : Nat) (s : Sw), kidS false k.length sc inn p gs i s = kidS false k.length sc 0 p gs i s := by
    intro gs
    induction gs with
    | nil => intro i s; rfl
    | cons g gs ih => intro i s; simp only [kidS, Bool.false_eq_true, false_and, if_false]; exact ih _ _
  exact h _ _ _
theorem sw_parts {n x : ByteArray} {l : Bool} {k : List Tr} (ht : T.tm ⟨n, x, l, k⟩ = true) (hr : Tr.right ⟨n, x, l, k⟩ = true) (sc : Nat) (p : List Nat) (s : Sw) :
    sw ⟨n, x, l, k⟩ sc p s = swJ (T.dclB n) sc (wIn n s) p k k.length (wS2 n k sc p (wS1 n x l sc p s)) := by
  rw [sw_mk]
  cases l
  · rw [if_neg (by simp)]
    have h1 : wS1 n x false sc p s = s := by unfold wS1; simp
    rw [h1]
    unfold wS2 wIn
    cases T.dclB n
    · rw [if_neg (by simp), if_neg (by simp), swJ_all]
      simp
    · rw [if_pos rfl, if_pos rfl, swJ_all]
      simp
  · obtain rfl := leaf_nil hr
    rw [T.tm_mk, if_pos rfl] at ht
    rw [if_pos rfl]
    unfold wS2 wIn wS1
    rw [leaf_dcl ht]
    simp only [Bool.true_and, Bool.false_eq_true, if_false]
    rfl
/-- How many Kids there are. -/
theorem dcl_kids {n x : ByteArray} {l : Bool} {k : List Tr} (ht : T.tm ⟨n, x, l, k⟩ = true) (hd : T.dclB n = true) : l = false ∧ 2 ≤ k.length ∧ k.length ≤ 3 := by
  cases l
  · have hn : T.kdN n ≠ none := fun e => by
      rw [T.tm_mk, e] at ht
      simp at ht
    obtain ⟨⟨m, d⟩, hmd⟩ := Option.ne_none_iff_exists'.1 hn
    obtain ⟨h1, _, _⟩ := tm_node hmd ht
    obtain ⟨_, h2, h3⟩ := T.kd_dcl hmd
    exact ⟨rfl, by omega, by omega⟩
  · rw [T.tm_mk, if_pos rfl] at ht
    rw [leaf_dcl ht] at hd
    cases hd
theorem few_kids {n x : ByteArray} {l : Bool} {k : List Tr} (ht : T.tm ⟨n, x, l, k⟩ = true) (hr : Tr.right ⟨n, x, l, k⟩ = true) : k.length ≤ 3 ∧ ∀ i (hi : i < k.length), T.tm k[i] = true := by
  cases l
  · have hn : T.kdN n ≠ none := fun e => by
      rw [T.tm_mk, e] at ht
      simp at ht
    obtain ⟨⟨m, d⟩, hmd⟩ := Option.ne_none_iff_exists'.1 hn
    obtain ⟨h1, h2, _⟩ := tm_node hmd ht
    obtain ⟨_, h4, h3⟩ := T.kd_dcl hmd
    exact ⟨by omega, h2⟩
  · obtain rfl := leaf_nil hr
    exact ⟨by simp, fun i hi => absurd hi (by simp)⟩
theorem lo_le {n x : ByteArray} {l : Bool} {k : List Tr} (ht : T.tm ⟨n, x, l, k⟩ = true) : loF n ≤ k.length := by
  unfold loF
  split
  · rename_i h
    have := (dcl_kids ht h).2.1
    omega
  · omega
theorem s2_sz {n x : ByteArray} {l : Bool} {k : List Tr} (ht : T.tm ⟨n, x, l, k⟩ = true) (sc : Nat) (p : List Nat) (s : Sw) : (wS2 n k sc p (wS1 n x l sc p s)).sz ≤ s.sz + 4 := by
  unfold wS2
  split
  · rename_i hd
    obtain ⟨rfl, _⟩ := dcl_kids ht hd
    rw [dcl_sz]
    unfold wS1
    simp
  · unfold wS1
    split
    · rw [ref_sz]; omega
    · omega
/-- Behind so many rounds. -/
def fS (n : ByteArray) (k : List Tr) (sc inn : Nat) (p : List Nat) (s2 : Sw) (j : Nat) : Sw := swJ (T.dclB n) sc inn p k (loF n + j) s2
theorem fS_zero (n : ByteArray) (k : List Tr) (sc inn : Nat) (p : List Nat) (s2 : Sw) : fS n k sc inn p s2 0 = s2 := by
  unfold fS loF
  cases T.dclB n
  · rfl
  · simp only [if_true]
    exact swJ_one _ _ _ _ _
theorem fS_succ {n : ByteArray} {k : List Tr} {sc inn j x : Nat} {p : List Nat} {s2 : Sw} (hx : x = loF n + j) (hk : x < k.length) : fS n k sc inn p s2 (j + 1) = sw k[x] (if inS n k.length x = true then inn else sc) (p ++ [x]) (fS n k sc inn p s2 j) := by
  unfold fS
  have e : loF n + (j + 1) = x + 1 := by omega
  rw [e, swJ_succ hk (by
    rintro ⟨hd, h0⟩
    unfold loF at hx
    rw [if_pos hd] at hx
    omega), ← hx]
  congr 1
  unfold inS
  simp only [Bool.and_eq_true, decide_eq_true_eq]
theorem fS_all {n : ByteArray} {k : List Tr} {sc inn : Nat} {p : List Nat} {s2 : Sw} (h : loF n ≤ k.length) : fS n k sc inn p s2 (k.length - loF n) = swJ (T.dclB n) sc inn p k k.length s2 := by
  unfold fS
  rw [show loF n + (k.length - loF n) = k.length by omega]
theorem fS_sz {n : ByteArray} {k : List Tr} {sc inn j x : Nat} {p : List Nat} {s2 : Sw} (hx : x = loF n + j) (hk : x < k.length) : (fS n k sc inn p s2 j).sz + 4 * (k[x]).cnt ≤ s2.sz + 4 * Tr.cntL k := by
  unfold fS
  have h1 := swJ_sz (T.dclB n) sc inn p k s2 x (by omega)
  have h2 := Tr.cntL_take_succ k x hk
  have h3 := Tr.cntL_take_le k (x + 1)
  rw [← hx]
  omega
theorem deepL_at (k : List Tr) (i : Nat) (hi : i < k.length) : (k[i]).deep ≤ Tr.deepL k := by
  have h1 := Tr.deepL_take_succ k i hi
  have h2 := Tr.deepL_take_le k (i + 1)
  omega
end Go.Proofs.Ytledclkmeikgdaa
