import Derived.RangeFuncNested
import Derived.RangeFuncBound
import Derived.RangeFuncCalls
import Derived.RangeFuncLeaves
import Derived.Shelf.Abstract
import Derived.Shelf.RegionOpen
import Derived.WalkKit
import Derived.OwnWalkIn
import Derived.TacticsInMore
import Derived.LoopNIn
import Derived.LoopIn
import Derived.Test.YtjpjjfgdgieapaaDoorUb
/-! A range over a function whose iterator writes cells of its own, and whose rounds write theirs. -/
namespace Go.Proofs.YtjpjjfgdgieapaaDoor
open Go.RowKit Go.Deep Go.Shelf
set_option linter.unusedVariables false
set_option maxRecDepth 100000
set_option linter.unusedSimpArgs false

/-- What a round does: of the blocks that were there it turns those of T alone (and l); what T has then it had, or it is new. -/
structure Fy (T : World → Nat → Prop) (l : Nat) (W W' : World) : Prop where
  os : W'.os = W.os
  tape : W'.tape = W.tape
  output : W'.output = W.output
  size : W.heap.size ≤ W'.heap.size
  block : ∀ q, q < W.heap.size → q ≠ l → ¬ T W q → W'.heap[q]? = W.heap[q]?
  turn : ∀ q, T W' q → T W q ∨ W.heap.size ≤ q
/-- It bears whatever is done to one block at or beyond B that is not of T. -/
def BearsT {β : Type} (B : Nat) (T : World → Nat → Prop) (J : β → World → Prop) : Prop :=
  ∀ s W W' row, J s W → W.grownBy W' row → (∀ r, row = some r → B ≤ r ∧ ¬ T W r) → J s W' ∧ ∀ q, T W' q → T W q
theorem grown_bel {W W' : World} (h : Below W.heap.size W W') : W.grownBy W' none := ⟨h.os, h.tape, h.output, h.size, fun k hk _ => h.block k hk⟩
/-- How a round's body may be left. -/
def rgPostD {α : Type} (T : World → Nat → Prop) (l : Nat) (I : List α → World → Prop) (xs : List α) (W : World) : Exit → Act → World → Prop
  | .normal, _, W' => (Fy T l W W' ∧ W'.heap[l]? = W.heap[l]?) ∧ I xs W'
  | _, _, _ => False
theorem wpIn_rangeD {α : Type} {F : Fence} {n : Nat} {P : Program} {g : Operand} {ps : Array Tmp} {assign body : Code} {Q : Exit → Act → World → Prop} {a : Act} {w : World}
    (hro : F.round = none) (h1 : 1 ≤ n) {gf : Nat} {lb : Array Value} (hg : a.eval g = .func (.func gf) #[] lb) (hFg : F.fn gf) (eg : ∀ args w, (callFunc gf args).run P w = .ok (.enter gf args) w)
    {encs : α → Array Value} (hps : ∀ x, (encs x).size = ps.size) (T : World → Nat → Prop) (Px : List α → α → World → Prop) (I : List α → World → Prop) (hI : BearsT w.heap.size T I) (hT : ∀ s W q, I s W → T W q → q < w.heap.size ∨ w.heap.size + 2 ≤ q) (h0 : I [] w) {S : List α → Prop}
    (hseq : ∀ (J : List α → World → Prop) (W : World), Below w.heap.size w W → w.heap.size + 2 ≤ W.heap.size → (∀ s V, J s V → I s V) → BearsT (w.heap.size + 2) T J →
      (∀ pre x W1, J pre W1 → Px pre x W1 → YieldAt F (n - 1 - 1) P (w.heap.size + 1) (encs x) W1 fun e W' => e = .returned (.bool true) ∧ J (pre ++ [x]) W' ∧ Fy T (w.heap.size + 1) W1 W') → J [] W →
      CallsIn F (n - 1) P gf (#[.func (.yield (w.heap.size + 1)) #[] #[]] ++ lb) W fun e W' => (∃ v, e = .returned v) ∧ ∃ xs, S xs ∧ J xs W')
    (hround : ∀ (pre : List α) (x : α) (W : World), I pre W → Px pre x W → w.heap.size + 2 ≤ W.heap.size →
      assign.wpIn (F.inRound (w.heap.size + 1)) (n - 1 - 1) P (Exit.then (fun a' W' => Below W.heap.size W W' ∧ ∀ o, I pre (W'.putObj (w.heap.size + 1) o) → body.wpIn (F.inRound (w.heap.size + 1)) (n - 1 - 1) P (rgPostD T (w.heap.size + 1) I (pre ++ [x]) (W'.putObj (w.heap.size + 1) o)) a' (W'.putObj (w.heap.size + 1) o)) (fun _ _ _ => False)) { tmps := (ps.zip (encs x)).foldl (fun t (p, v) => t.setIfInBounds p v) a.tmps, defers := [] } W)
    (hdone : ∀ (xs : List α) (W : World), S xs → I xs W → W.heap[w.heap.size]? = some (.deferred (some [])) → Q .normal { a with defers := { target := .collected w.heap.size, args := #[] } :: a.defers } W) :
    (Code.rangeFunc g ps assign body).wpIn F n P Q a w := by
  refine wpIn_rangeFunc ?_
  intro fn hfn
  rw [hro]
  obtain ⟨rc, hrc⟩ : ∃ rc : LoopState → Option Code → Loop, rc = fun st pe => { state := st, pending := pe, fn, tmps := a.tmps, params := ps, assign, body, defers := w.heap.size } := ⟨_, rfl⟩
  obtain ⟨V, hV⟩ : ∃ V, (w.alloc (.deferred (some []))).alloc (.loop (rc .ready none)) = V := ⟨_, rfl⟩
  have hsz : V.heap.size = w.heap.size + 2 := by rw [← hV]; simp
  have hbV : Below w.heap.size w V := by rw [← hV]; exact ((Below.refl _ w).alloc (Nat.le_refl _) _).alloc (by simp) _
  have hL : V.heap[w.heap.size + 1]? = some (.loop (rc .ready none)) := by
    rw [← hV]
    have := World.alloc_heap_new (w.alloc (.deferred (some []))) (.loop (rc .ready none))
    rwa [World.size_alloc] at this
  have hD : V.heap[w.heap.size]? = some (.deferred (some [])) := by
    rw [← hV]
    exact (Below.heap_alloc _ _ _ (by simp)).trans (World.alloc_heap_new w _)
  have hIV : I [] V := (hI _ _ _ none h0 (grown_bel hbV) (fun r e => by cases e)).1
  refine ⟨w.heap.size + 1, [{ target := .collected w.heap.size, args := #[] }], V, { target := .fn (.func gf) lb, args := #[.func (.yield (w.heap.size + 1)) #[] #[]] }, V, gf, #[.func (.yield (w.heap.size + 1)) #[] #[]] ++ lb, V, ?_, ?_, ?_, ?_, fun _ => h1, ?_⟩
  · rw [← hV, hrc]; exact run_enterLoop_outer _ _ _ _ _
  · simp only [resolve, hg]
    simp [go_sem]
  · intro f' hf'; simp [Target.leads] at hf'; subst hf'; exact hFg
  · simp [invoke, go_sem, eg]
  · have low : ∀ {W W' : World} {row : Option Nat} {q : Nat} {o : Obj}, W.grownBy W' row → (∀ r, row = some r → w.heap.size + 2 ≤ r) → q < w.heap.size + 2 → W.heap[q]? = some o → W'.heap[q]? = some o := fun {W W' row q o} hg' hr hq ho =>
      (hg'.block q (Array.getElem?_eq_some_iff.1 ho).1 (fun e => by have := hr q e.symm; omega)).trans ho
    refine (hseq (fun pre W => I pre W ∧ W.heap[w.heap.size + 1]? = some (.loop (rc .ready none)) ∧ W.heap[w.heap.size]? = some (.deferred (some []))) V hbV (by omega) (fun s V h => h.1)
      (fun s A B row hs hg' hr => ?_) ?_ ⟨hIV, hL, hD⟩).mono ?_
    · obtain ⟨g1, g2⟩ := hI s A B row hs.1 hg' (fun r e => ⟨by have := (hr r e).1; omega, (hr r e).2⟩)
      exact ⟨⟨g1, low hg' (fun r e => (hr r e).1) (by omega) hs.2.1, low hg' (fun r e => (hr r e).1) (by omega) hs.2.2⟩, g2⟩
    · rintro pre x W ⟨hi, hl, hk⟩ hpx
      have hlt : w.heap.size + 1 < W.heap.size := (Array.getElem?_eq_some_iff.1 hl).1
      have hy := run_yield (P := P) (args := encs x) hl (by rw [hrc]; exact hps x)
      rw [hrc] at hy
      refine ⟨fn, _, assign, body, hy, roundIn_of_wpIn hfn (wpIn_mono (hround pre x W hi hpx (by omega)) ?_)⟩
      intro e a' W' hp
      cases e with
      | normal =>
        obtain ⟨hb, hbody⟩ := hp
        have hl' : W'.heap[w.heap.size + 1]? = some (.loop (rc .ready none)) := (hb.block _ hlt).trans hl
        have hlt' : w.heap.size + 1 < W'.heap.size := (Array.getElem?_eq_some_iff.1 hl').1
        have hk' : W'.heap[w.heap.size]? = some (.deferred (some [])) := (hb.block _ (by omega)).trans hk
        obtain ⟨i1, t1⟩ := hI _ _ _ none hi (grown_bel hb) (fun r e => by cases e)
        have nT : ∀ {s V}, I s V → ¬ T V (w.heap.size + 1) := fun h e => by have := hT _ _ _ h e; omega
        have nT' : ∀ {s V}, I s V → ¬ T V w.heap.size := fun h e => by have := hT _ _ _ h e; omega
        obtain ⟨i2, t2⟩ := hI _ _ _ _ i1 (grownBy_putObj' W' (w.heap.size + 1) (.loop { rc .ready none with state := .busy })) (fun r e => by cases e; exact ⟨by omega, nT i1⟩)
        refine ⟨_, run_beginRound hl' (by rw [hrc]), wpIn_mono (hbody _ i2) ?_⟩
        have same : (W'.putObj (w.heap.size + 1) (.loop { rc .ready none with state := .busy })).heap[w.heap.size + 1]? = some (.loop { rc .ready none with state := .busy }) := World.putObj_heap_same hlt'
        have def' : (W'.putObj (w.heap.size + 1) (.loop { rc .ready none with state := .busy })).heap[w.heap.size]? = some (.deferred (some [])) := (World.putObj_heap_other (by omega)).trans hk'
        intro e a3 W3 hp
        cases e with
        | normal =>
          obtain ⟨⟨hb3, hl0⟩, hi3⟩ := hp
          have hl3 := hl0.trans same
          have hk3 := (hb3.block w.heap.size (by simp; omega) (by omega) (nT' i2)).trans def'
          have hr := run_endRound (P := P) none hl3
          refine ⟨_, _, hr, rfl, ⟨?_, ?_, (World.putObj_heap_other (by omega)).trans hk3⟩, ?_⟩
          · exact (hI _ _ _ _ hi3 (grownBy_putObj' W3 _ _) (fun r e => by cases e; exact ⟨by omega, nT hi3⟩)).1
          · rw [World.putObj_heap_same (Array.getElem?_eq_some_iff.1 hl3).1, hrc]
            rfl
          · have hs3 := hb3.size
            have hs1 := hb.size
            refine ⟨hb3.os.trans hb.os, hb3.tape.trans hb.tape, hb3.output.trans hb.output, ?_, fun q hq hne hnt => ?_, fun q hq => ?_⟩
            · simp at *
              omega
            · rw [World.putObj_heap_other hne, hb3.block q (by simp; omega) hne (fun e => hnt (t1 q (t2 q e))), World.putObj_heap_other hne, hb.block q hq]
            · have h3 := (hI _ _ _ _ hi3 (grownBy_putObj' W3 _ _) (fun r e => by cases e; exact ⟨by omega, nT hi3⟩)).2 q hq
              rcases hb3.turn q h3 with h | h
              · exact .inl (t1 q (t2 q h))
              · refine .inr ?_
                simp at h
                omega
        | ret => exact hp.elim
        | exit id => exact hp.elim
        | goto t => exact hp.elim
        | panic ch => exact hp.elim
        | outgrown => exact hp.elim
      | ret => exact hp.elim
      | exit id => exact hp.elim
      | goto t => exact hp.elim
      | panic ch => exact hp.elim
      | outgrown => exact hp.elim
    · rintro e W2 ⟨⟨v, rfl⟩, xs, hS, hi, hl, hk⟩
      have nT : ¬ T W2 (w.heap.size + 1) := fun e => by have := hT _ _ _ hi e; omega
      exact ⟨none, _, by have := run_endLoop (P := P) hl (by rw [hrc]; simp); rw [hrc] at this; exact this, hdone xs _ hS (hI _ _ _ _ hi (grownBy_putObj' W2 _ _) (fun r e => by cases e; exact ⟨by omega, nT⟩)).1 ((World.putObj_heap_other (by omega)).trans hk)⟩
theorem yield_any {m m' : Nat} {P : Program} {l : Nat} {args : Array Value} {W : World} {R : Ending → World → Prop} (h : YieldAt Fence.wide m P l args W R) : YieldAt Fence.wide m' P l args W R := by
  obtain ⟨fn, tmps, assign, body, hy, hR⟩ := h
  exact ⟨fn, tmps, assign, body, hy, hR.1, fun c cs _ => hR.2 c cs (fun d h => by simp [Fence.wide] at h)⟩
end Go.Proofs.YtjpjjfgdgieapaaDoor

/-! slices.Backward of numbers. -/
namespace Go.Proofs.YtjpjjfgdgieapaaDoor
open Go.RowKit Go.Deep Go.Shelf
set_option linter.unusedVariables false
set_option maxRecDepth 100000
set_option linter.unusedSimpArgs false
attribute [local go_sem] Oper.semAt_some

/-- What is told: a place and its number. -/
def bkE (L : List Int) (i : Nat) : Array Value := #[.int .i64 (i : Int), .int .i64 (L.getD i 0)]
/-- The first so many that are told, from the last on. -/
def bkL (n j : Nat) : List Nat := (List.range j).map (fun i => n - 1 - i)
theorem bkL_len (n j : Nat) : (bkL n j).length = j := by simp [bkL]
theorem bkL_succ (n j : Nat) : bkL n (j + 1) = bkL n j ++ [n - 1 - j] := by simp [bkL, List.range_succ]
/-- It is its turn. -/
def BkX (n : Nat) (pre : List Nat) (x : Nat) (W : World) : Prop := pre.length < n ∧ x = n - 1 - pre.length ∧ pre = bkL n pre.length
set_option maxHeartbeats 6400000 in
theorem back95 {l B0 b off cap bp : Nat} (L : List Int) (T : World → Nat → Prop) (J : List Nat → World → Prop) (hTl : ∀ s W q, J s W → T W q → q ≠ b ∧ q ≠ bp) (hbl : b ≠ l) (hpl : bp ≠ l)
    (hY : ∀ m pre x W1, J pre W1 → BkX L.length pre x W1 → YieldAt Fence.wide m Tryd.prog l (bkE L x) W1 fun e W' => e = .returned (.bool true) ∧ J (pre ++ [x]) W' ∧ Fy T l W1 W') (m : Nat) (W : World)
    (hcell : ∀ i (hi : i < L.length), W.cell? ⟨b, off + i, none⟩ = some (.int .i64 L[i]))
    (hbox : Box W bp 29 [.slice (some ⟨b, off, none⟩) L.length cap]) (hJ : J [] W) (hl : L.length ≤ 50000) (h1 : 1 ≤ L.length) (hc : L.length ≤ cap) (hcm : cap ≤ maxLen) :
    CallsIn Fence.wide m Tryd.prog 95 #[.func (.yield l) #[] #[], .pointer (some ⟨bp, 0, none⟩)] W fun e W' => (∃ u, e = .returned u) ∧ ∃ xs, xs = bkL L.length L.length ∧ J xs W' := by
  have c0 : W.cell? ⟨bp, 0, none⟩ = some (.slice (some ⟨b, off, none⟩) L.length cap) := hbox.cell 0 (by simp)
  have HC := (show Hid _ from hcell)
  have HBX := (show Hid (W.cell? ⟨bp, 0, none⟩ = some (.slice (some ⟨b, off, none⟩) L.length cap)) from c0)
  have HY := (show Hid _ from hY)
  have HTL := (show Hid _ from hTl)
  have HJ := (show Hid _ from hJ)
  unfold maxLen at hcm
  have kw : IntKind.i64.wrap ((L.length : Int) - 1) = (L.length : Int) - 1 := by rw [IntKind.wrap_i64]; omega
  clear hcell hbox hY hTl hJ
  refine callsIn_of_wp Tryd.func95 rfl trivial ?_ rfl
  simp only [Tryd.ntmps95, List.size_toArray, List.length_cons, List.length_nil, Nat.reduceAdd, Nat.reduceSub, Array.replicate_succ, Array.replicate_zero, List.push_toArray, List.append_toArray, List.nil_append, List.cons_append]
  refine wpIn_wide.2 ?_
  go_wp2_with fail
  go_loopw [3] (fun i wr => ∃ j : Nat, i = .int .i64 ((j : Int) - 1) ∧ j ≤ L.length ∧ Hid (J (bkL L.length (L.length - j)) wr ∧ wr.heap[b]? = W.heap[b]? ∧ wr.heap[bp]? = W.heap[bp]? ∧ W.heap.size ≤ wr.heap.size)) (fun i _ => (intOf i + 1).toNat)
  case atStart => exact ⟨L.length, rfl, Nat.le_refl _, by rw [Nat.sub_self]; exact HJ.out, rfl, rfl, Nat.le_refl _⟩
  case round =>
    obtain ⟨j, rfl, hj, HQ⟩ := hrel
    cases j
    case zero =>
      have kz : ((0 : Nat) : Int) - 1 = -1 := by omega
      rw [kz]
      have HE := (show Hid (J (bkL L.length L.length) wr) from HQ.out.1)
      clear HQ
      go_wp2_with fail
      go_end0
      exact ⟨⟨_, rfl⟩, _, rfl, HE.out⟩
    case succ i =>
      have ki : ((i + 1 : Nat) : Int) - 1 = (i : Int) := by omega
      rw [ki]
      have hil : i < L.length := by omega
      obtain ⟨q1, q2, q3, q4⟩ := HQ.out
      have x0 := HC.out i hil
      have y0 := (World.cell?_of_block (w := W) q2).trans x0
      have yb := (World.cell?_of_block (w := W) q3).trans HBX.out
      have hbw : b < wr.heap.size := lt_of_cell y0
      have hpw : bp < wr.heap.size := lt_of_cell yb
      have hbx : BkX L.length (bkL L.length (L.length - (i + 1))) i wr := by
        unfold BkX
        rw [bkL_len]
        exact ⟨by omega, by omega, rfl⟩
      obtain ⟨fn, tmps, assign, body, hy, hR⟩ := HY.out (m - 1) _ i wr q1 hbx
      unfold bkE at hy
      rw [getD_lt _ _ hil] at hy
      have HRR := (show Hid _ from hR)
      have HQQ := (show Hid _ from HQ.out)
      have HT0 := (show Hid (¬ T wr b ∧ ¬ T wr bp) from ⟨fun h => (HTL.out _ _ _ q1 h).1 rfl, fun h => (HTL.out _ _ _ q1 h).2 rfl⟩)
      have kwi : IntKind.i64.wrap ((i : Int) - 1) = (i : Int) - 1 := by rw [IntKind.wrap_i64]; omega
      clear hR hbx q1 q2 q3 q4 HQ
      refine (wpIn_wide (n := m)).1 ?_
      gi_wp2
      refine ⟨fun h => absurd h (by simp [Fence.wide]), RoundIn.mono HRR.out ?_⟩
      rintro e W2 ⟨rfl, hJ2, hfy⟩
      have HN := (show Hid (J (bkL L.length (L.length - i)) W2 ∧ W2.heap[b]? = W.heap[b]? ∧ W2.heap[bp]? = W.heap[bp]? ∧ W.heap.size ≤ W2.heap.size) from by
        have e1 : L.length - i = (L.length - (i + 1)) + 1 := by omega
        have e2 : L.length - 1 - (L.length - (i + 1)) = i := by omega
        rw [e1, bkL_succ, e2]
        exact ⟨hJ2, (hfy.block b hbw hbl HT0.out.1).trans HQQ.out.2.1, (hfy.block bp hpw hpl HT0.out.2).trans HQQ.out.2.2.1, Nat.le_trans HQQ.out.2.2.2 hfy.size⟩)
      clear hy HRR hJ2 hfy HQQ
      gi_wp2
      exact ⟨⟨i, rfl, by omega, HN.out⟩, by simp [intOf]⟩
theorem back89 (a : Option Addr) (n c : Nat) (w : World) : Calls Tryd.prog 89 #[.slice a n c] w fun e w' => e = .returned (.func (.func 95) #[] #[.pointer (some ⟨w.heap.size, 0, none⟩)]) ∧ w' = w.alloc (.cells #[.slice a n c] 29) := by
  go_enter Tryd.func89, Tryd.ntmps89
  go_wp2_with fail
  go_ret
  exact ⟨rfl, rfl⟩
end Go.Proofs.YtjpjjfgdgieapaaDoor

/-! The program: what follows, as long as there is news. -/
namespace Go.Proofs.YtjpjjfgdgieapaaDoor
open Go.RowKit Go.Deep
set_option linter.unusedVariables false
set_option maxRecDepth 100000
set_option linter.unusedSimpArgs false

set_option maxHeartbeats 3200000 in
theorem settle88 {S : Nat → Prop} {α : Type} (g g2 g3 : Nat) (prods : List Pd) (v : Value) (W0 : World) (hP : Pds W0 S prods v) (Inv : α → World → Prop) (m : α → Nat) (news : α → Nat → Bool) (nxt : α → Nat → α)
    (hbel : ∀ a w, Inv a w → Below W0.heap.size W0 w) (hu : ∀ a b w, Inv a w → Inv b w → m a = m b) (hall : ∀ a w o, Inv a w → Inv a (w.alloc o))
    (hdec : ∀ a k w, k < prods.length → Inv a w → news a k = true → m (nxt a k) < m a) (hsame : ∀ a k, news a k = false → nxt a k = a)
    (hcall : ∀ k (hk : k < prods.length) (a : α) (w : World) (vr : Value), Inv a w → Ints W0 S prods[k].right vr → Calls Tryd.prog 88 #[.agg #[.int .i64 prods[k].left, vr, .string prods[k].label, .int .i64 prods[k].lev, .int .i64 prods[k].asc], .pointer (some ⟨g, 0, none⟩), .pointer (some ⟨g2, 0, none⟩), .pointer (some ⟨g3, 0, none⟩)] w fun e w' => e = .returned (.bool (news a k)) ∧ Inv (nxt a k) w')
    (a0 : α) (w : World) (h0 : Inv a0 w) :
    Calls Tryd.prog 62 #[v, .func (.func 88) #[] #[.pointer (some ⟨g, 0, none⟩), .pointer (some ⟨g2, 0, none⟩), .pointer (some ⟨g3, 0, none⟩)]] w fun e w' => e = .returned (.tuple #[]) ∧ ∃ a, Inv a w' ∧ ∀ k, k < prods.length → news a k = false := by
  obtain ⟨a, cap, b, off, sv, rfl, hc, hm, ha, hcell, hr⟩ := hP
  have HC := (show Hid _ from hcell); clear hcell
  have HA := (show Hid _ from ha); clear ha
  have HR := (show Hid _ from hr); clear hr
  have HCALL := (show Hid _ from hcall); clear hcall
  have HBEL := (show Hid _ from hbel); clear hbel
  obtain ⟨toDo, htd⟩ := toDo_ex hu
  have HU := (show Hid (∀ a w, Inv a w → toDo w = m a) from htd); clear hu htd
  have HALL := (show Hid _ from hall); clear hall
  have HDEC := (show Hid _ from hdec); clear hdec
  have HSAME := (show Hid _ from hsame); clear hsame
  have H0 := (show Hid _ from h0); clear h0
  unfold maxLen at hm
  go_enter Tryd.func62, Tryd.ntmps62
  go_wp2_with fail
  go_loopw [4] (fun u wr => ∃ again : Bool, u = .bool again ∧ Hid (∃ x, Inv x wr ∧ (again = false → ∀ k, k < prods.length → news x k = false))) (fun u wr => if boolOf u then toDo wr + 1 else 0)
  case atStart => exact ⟨true, rfl, a0, H0.out, fun h => by cases h⟩
  case round =>
    obtain ⟨again, rfl, HI⟩ := hrel
    obtain ⟨x0, hx0, hq0⟩ := HI.out
    cases again
    · have HN := (show Hid _ from (⟨x0, hx0, hq0 rfl⟩ : ∃ a, Inv a wr ∧ ∀ k, k < prods.length → news a k = false)); clear hx0 hq0 HI
      go_wp2_with fail
      refine bodyPost_end (v := .tuple #[]) (by simp [results, Tryd.results62]) rfl ?_
      exact ⟨rfl, HN.out⟩
    · have hM : toDo wr = m x0 := HU.out _ _ hx0
      have HM := (show Hid (boolOf (.bool true) = true ∧ toDo wr = m x0) from ⟨rfl, hM⟩); clear hM
      have HX0 := (show Hid _ from hx0); clear hx0 hq0 HI
      go_wp2_with fail
      go_loopw [4, 10] (fun u i wi => ∃ (ag : Bool) (j : Nat), u = .bool ag ∧ i = .int .i64 j ∧ j ≤ prods.length ∧ Hid (∃ x, Inv x wi ∧ (ag = true → m x < m x0) ∧ (ag = false → x = x0 ∧ ∀ k, k < j → news x0 k = false))) (fun _ i _ => prods.length - (intOf i).toNat)
      case atStart => exact ⟨false, 0, rfl, rfl, Nat.zero_le _, x0, HX0.out, (fun h => by cases h), fun _ => ⟨rfl, fun k hk => absurd hk (Nat.not_lt_zero _)⟩⟩
      case round =>
        obtain ⟨ag, j, rfl, rfl, hj, HJ⟩ := hrel
        by_cases hlt : j < prods.length
        · have hlt' := hlt
          obtain ⟨rfl, _⟩ := HA.out (by omega)
          obtain ⟨x, hx, hx1, hx2⟩ := HJ.out
          have hbw := HBEL.out x _ hx
          obtain ⟨c0, c1, c2, c3, c4, _⟩ := HC.out j hlt'
          have hri := HR.out j hlt'
          obtain ⟨ai, ci, ei, _⟩ := hri.form
          rw [ei] at c1 hri
          rw [← hbw.cell (lt_of_cell c0)] at c0
          rw [← hbw.cell (lt_of_cell c1)] at c1
          rw [← hbw.cell (lt_of_cell c2)] at c2
          rw [← hbw.cell (lt_of_cell c3)] at c3
          rw [← hbw.cell (lt_of_cell c4)] at c4
          have HV := (show Hid _ from HCALL.out j hlt' x _ _ (HALL.out x _ (.cells #[.int .i64 prods[j].left, .slice ai prods[j].right.length ci, .string prods[j].label, .int .i64 prods[j].lev, .int .i64 prods[j].asc] 82) hx) hri)
          have HXX := (show Hid _ from (⟨hx1, hx2, fun h => HDEC.out x j _ hlt' hx h, fun h => HSAME.out x j h⟩ : _ ∧ _ ∧ (news x j = true → m (nxt x j) < m x) ∧ (news x j = false → nxt x j = x)))
          clear hx hx1 hx2 hri ei hbw HJ
          generalize prods[j] = P at *
          cases hnw : news x j
          · rw [hnw] at HV
            have HNW := (show Hid _ from hnw); clear hnw
            go_wp2_with fail
            go_at_call 88
            refine Calls.mono HV.out ?_
            rintro e w1 ⟨rfl, hi1⟩
            have HN : Hid (∃ y, Inv y w1 ∧ (ag = true → m y < m x0) ∧ (ag = false → y = x0 ∧ ∀ k, k < j + 1 → news x0 k = false)) := by
              refine ⟨nxt x j, hi1, fun h => ?_, fun h => ?_⟩
              · rw [HXX.out.2.2.2 HNW.out]; exact HXX.out.1 h
              · obtain ⟨e1, e2⟩ := HXX.out.2.1 h
                refine ⟨by rw [HXX.out.2.2.2 HNW.out, e1], fun k hk => ?_⟩
                by_cases ek : k = j
                · subst ek; rw [← e1]; exact HNW.out
                · exact e2 k (by omega)
            clear hi1 HV c0 c1 c2 c3 c4 HXX
            go_wp2_with fail
            exact ⟨⟨ag, j + 1, by rfl, by go_num, by omega, HN⟩, by simp [intOf]; omega⟩
          · rw [hnw] at HV
            have HNW := (show Hid _ from hnw); clear hnw
            go_wp2_with fail
            go_at_call 88
            refine Calls.mono HV.out ?_
            rintro e w1 ⟨rfl, hi1⟩
            have HN : Hid (∃ y, Inv y w1 ∧ m y < m x0) := by
              refine ⟨nxt x j, hi1, ?_⟩
              have h1 := HXX.out.2.2.1 HNW.out
              cases ag
              · rw [(HXX.out.2.1 rfl).1] at h1 ⊢; exact h1
              · exact Nat.lt_trans h1 (HXX.out.1 rfl)
            clear hi1 HV c0 c1 c2 c3 c4 HXX
            go_wp2_with fail
            exact ⟨⟨true, j + 1, by rfl, by go_num, by omega, by obtain ⟨y, h1, h2⟩ := HN.out; exact ⟨y, h1, (fun _ => h2), fun h => by cases h⟩⟩, by simp [intOf]; omega⟩
        · obtain ⟨x, hx, hx1, hx2⟩ := HJ.out
          have HN : Hid (∃ x, Inv x wr ∧ (ag = false → ∀ k, k < prods.length → news x k = false)) := ⟨x, hx, fun h => by
            obtain ⟨e1, e2⟩ := hx2 h
            subst e1
            exact fun k hk => e2 k (by omega)⟩
          have HLT : Hid ((if boolOf (.bool ag) then toDo wr + 1 else 0) < m x0 + 1) := by
            show (if boolOf (.bool ag) then toDo wr + 1 else 0) < m x0 + 1
            cases ag
            · simp [boolOf]
            · have h1 := hx1 rfl
              have h2 : toDo wr = m x := HU.out _ _ hx
              simp only [boolOf, if_true, h2]
              omega
          clear hx hx1 hx2 HJ
          go_wp2_with fail
          refine ⟨⟨ag, by rfl, HN⟩, ?_⟩
          have h1 := HLT.out
          have h2 := HM.out.2
          simp only [boolOf, if_true] at h1 ⊢
          omega
end Go.Proofs.YtjpjjfgdgieapaaDoor
