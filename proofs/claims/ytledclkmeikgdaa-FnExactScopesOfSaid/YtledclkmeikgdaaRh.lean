import Derived.RangeFuncNested
import Derived.RangeFuncBound
import Derived.RangeFuncCalls
import Derived.RangeFuncLeaves
import Derived.Shelf.Abstract
import Derived.Shelf.RegionOpen
import Derived.WalkKit
import Derived.OwnWalkIn
import Derived.TacticsInMore
import Derived.LoopNIn
import Derived.LoopIn
import Derived.Test.YtledclkmeikgdaaSn
/-! A range over a function whose iterator writes cells of its own, and whose rounds write theirs. -/
namespace Go.Proofs.Ytledclkmeikgdaa
open Go.RowKit Go.Deep Go.Shelf
set_option linter.unusedVariables false
set_option maxRecDepth 100000
set_option linter.unusedSimpArgs false

/-- What a round does: of the blocks that were there it turns those of T alone (and l); what T has then it had, or it is new. -/
structure Fy (T : World → Nat → Prop) (l : Nat) (W W' : World) : Prop where
  os : W'.os = W.os
  tape : W'.tape = W.tape
  output : W'.output = W.output
  size : W.heap.size ≤ W'.heap.size
  block : ∀ q, q < W.heap.size → q ≠ l → ¬ T W q → W'.heap[q]? = W.heap[q]?
  turn : ∀ q, T W' q → T W q ∨ W.heap.size ≤ q
/-- It bears whatever is done to one block at or beyond B that is not of T. -/
def BearsT {β : Type} (B : Nat) (T : World → Nat → Prop) (J : β → World → Prop) : Prop :=
  ∀ s W W' row, J s W → W.grownBy W' row → (∀ r, row = some r → B ≤ r ∧ ¬ T W r) → J s W' ∧ ∀ q, T W' q → T W q
theorem grown_bel {W W' : World} (h : Below W.heap.size W W') : W.grownBy W' none := ⟨h.os, h.tape, h.output, h.size, fun k hk _ => h.block k hk⟩
/-- How a round's body may be left. -/
def rgPostD {α : Type} (T : World → Nat → Prop) (l : Nat) (I : List α → World → Prop) (xs : List α) (W : World) : Exit → Act → World → Prop
  | .normal, _, W' => (Fy T l W W' ∧ W'.heap[l]? = W.heap[l]?) ∧ I xs W'
  | _, _, _ => False
theorem wpIn_rangeD {α : Type} {F : Fence} {n : Nat} {P : Program} {g : Operand} {ps : Array Tmp} {assign body : Code} {Q : Exit → Act → World → Prop} {a : Act} {w : World}
    (hro : F.round = none) (h1 : 1 ≤ n) {gf : Nat} {lb : Array Value} (hg : a.eval g = .func (.func gf) #[] lb) (hFg : F.fn gf) (eg : ∀ args w, (callFunc gf args).run P w = .ok (.enter gf args) w)
    {encs : α → Array Value} (hps : ∀ x, (encs x).size = ps.size) (T : World → Nat → Prop) (Px : List α → α → World → Prop) (I : List α → World → Prop) (hI : BearsT w.heap.size T I) (hT : ∀ s W q, I s W → T W q → q < w.heap.size ∨ w.heap.size + 2 ≤ q) (h0 : I [] w) {S : List α → Prop}
    (hseq : ∀ (J : List α → World → Prop) (W : World), Below w.heap.size w W → w.heap.size + 2 ≤ W.heap.size → (∀ s V, J s V → I s V) → BearsT (w.heap.size + 2) T J →
      (∀ pre x W1, J pre W1 → Px pre x W1 → YieldAt F (n - 1 - 1) P (w.heap.size + 1) (encs x) W1 fun e W' => e = .returned (.bool true) ∧ J (pre ++ [x]) W' ∧ Fy T (w.heap.size + 1) W1 W') → J [] W →
      CallsIn F (n - 1) P gf (#[.func (.yield (w.heap.size + 1)) #[] #[]] ++ lb) W fun e W' => (∃ v, e = .returned v) ∧ ∃ xs, S xs ∧ J xs W')
    (hround : ∀ (pre : List α) (x : α) (W : World), I pre W → Px pre x W → w.heap.size + 2 ≤ W.heap.size →
      assign.wpIn (F.inRound (w.heap.size + 1)) (n - 1 - 1) P (Exit.then (fun a' W' => Below W.heap.size W W' ∧ ∀ o, I pre (W'.putObj (w.heap.size + 1) o) → body.wpIn (F.inRound (w.heap.size + 1)) (n - 1 - 1) P (rgPostD T (w.heap.size + 1) I (pre ++ [x]) (W'.putObj (w.heap.size + 1) o)) a' (W'.putObj (w.heap.size + 1) o)) (fun _ _ _ => False)) { tmps := (ps.zip (encs x)).foldl (fun t (p, v) => t.setIfInBounds p v) a.tmps, defers := [] } W)
    (hdone : ∀ (xs : List α) (W : World), S xs → I xs W → W.heap[w.heap.size]? = some (.deferred (some [])) → Q .normal { a with defers := { target := .collected w.heap.size, args := #[] } :: a.defers } W) :
    (Code.rangeFunc g ps assign body).wpIn F n P Q a w := by
  refine wpIn_rangeFunc ?_
  intro fn hfn
  rw [hro]
  obtain ⟨rc, hrc⟩ : ∃ rc : LoopState → Option Code → Loop, rc = fun st pe => { state := st, pending := pe, fn, tmps := a.tmps, params := ps, assign, body, defers := w.heap.size } := ⟨_, rfl⟩
  obtain ⟨V, hV⟩ : ∃ V, (w.alloc (.deferred (some []))).alloc (.loop (rc .ready none)) = V := ⟨_, rfl⟩
  have hsz : V.heap.size = w.heap.size + 2 := by rw [← hV]; simp
  have hbV : Below w.heap.size w V := by rw [← hV]; exact ((Below.refl _ w).alloc (Nat.le_refl _) _).alloc (by simp) _
  have hL : V.heap[w.heap.size + 1]? = some (.loop (rc .ready none)) := by
    rw [← hV]
    have := World.alloc_heap_new (w.alloc (.deferred (some []))) (.loop (rc .ready none))
    rwa [World.size_alloc] at this
  have hD : V.heap[w.heap.size]? = some (.deferred (some [])) := by
    rw [← hV]
    exact (Below.heap_alloc _ _ _ (by simp)).trans (World.alloc_heap_new w _)
  have hIV : I [] V := (hI _ _ _ none h0 (grown_bel hbV) (fun r e => by cases e)).1
  refine ⟨w.heap.size + 1, [{ target := .collected w.heap.size, args := #[] }], V, { target := .fn (.func gf) lb, args := #[.func (.yield (w.heap.size + 1)) #[] #[]] }, V, gf, #[.func (.yield (w.heap.size + 1)) #[] #[]] ++ lb, V, ?_, ?_, ?_, ?_, fun _ => h1, ?_⟩
  · rw [← hV, hrc]; exact run_enterLoop_outer _ _ _ _ _
  · simp only [resolve, hg]
    simp [go_sem]
  · intro f' hf'; simp [Target.leads] at hf'; subst hf'; exact hFg
  · simp [invoke, go_sem, eg]
  · have low : ∀ {W W' : World} {row : Option Nat} {q : Nat} {o : Obj}, W.grownBy W' row → (∀ r, row = some r → w.heap.size + 2 ≤ r) → q < w.heap.size + 2 → W.heap[q]? = some o → W'.heap[q]? = some o := fun {W W' row q o} hg' hr hq ho =>
      (hg'.block q (Array.getElem?_eq_some_iff.1 ho).1 (fun e => by have := hr q e.symm; omega)).trans ho
    refine (hseq (fun pre W => I pre W ∧ W.heap[w.heap.size + 1]? = some (.loop (rc .ready none)) ∧ W.heap[w.heap.size]? = some (.deferred (some []))) V hbV (by omega) (fun s V h => h.1)
      (fun s A B row hs hg' hr => ?_) ?_ ⟨hIV, hL, hD⟩).mono ?_
    · obtain ⟨g1, g2⟩ := hI s A B row hs.1 hg' (fun r e => ⟨by have := (hr r e).1; omega, (hr r e).2⟩)
      exact ⟨⟨g1, low hg' (fun r e => (hr r e).1) (by omega) hs.2.1, low hg' (fun r e => (hr r e).1) (by omega) hs.2.2⟩, g2⟩
    · rintro pre x W ⟨hi, hl, hk⟩ hpx
      have hlt : w.heap.size + 1 < W.heap.size := (Array.getElem?_eq_some_iff.1 hl).1
      have hy := run_yield (P := P) (args := encs x) hl (by rw [hrc]; exact hps x)
      rw [hrc] at hy
      refine ⟨fn, _, assign, body, hy, roundIn_of_wpIn hfn (wpIn_mono (hround pre x W hi hpx (by omega)) ?_)⟩
      intro e a' W' hp
      cases e with
      | normal =>
        obtain ⟨hb, hbody⟩ := hp
        have hl' : W'.heap[w.heap.size + 1]? = some (.loop (rc .ready none)) := (hb.block _ hlt).trans hl
        have hlt' : w.heap.size + 1 < W'.heap.size := (Array.getElem?_eq_some_iff.1 hl').1
        have hk' : W'.heap[w.heap.size]? = some (.deferred (some [])) := (hb.block _ (by omega)).trans hk
        obtain ⟨i1, t1⟩ := hI _ _ _ none hi (grown_bel hb) (fun r e => by cases e)
        have nT : ∀ {s V}, I s V → ¬ T V (w.heap.size + 1) := fun h e => by have := hT _ _ _ h e; omega
        have nT' : ∀ {s V}, I s V → ¬ T V w.heap.size := fun h e => by have := hT _ _ _ h e; omega
        obtain ⟨i2, t2⟩ := hI _ _ _ _ i1 (grownBy_putObj' W' (w.heap.size + 1) (.loop { rc .ready none with state := .busy })) (fun r e => by cases e; exact ⟨by omega, nT i1⟩)
        refine ⟨_, run_beginRound hl' (by rw [hrc]), wpIn_mono (hbody _ i2) ?_⟩
        have same : (W'.putObj (w.heap.size + 1) (.loop { rc .ready none with state := .busy })).heap[w.heap.size + 1]? = some (.loop { rc .ready none with state := .busy }) := World.putObj_heap_same hlt'
        have def' : (W'.putObj (w.heap.size + 1) (.loop { rc .ready none with state := .busy })).heap[w.heap.size]? = some (.deferred (some [])) := (World.putObj_heap_other (by omega)).trans hk'
        intro e a3 W3 hp
        cases e with
        | normal =>
          obtain ⟨⟨hb3, hl0⟩, hi3⟩ := hp
          have hl3 := hl0.trans same
          have hk3 := (hb3.block w.heap.size (by simp; omega) (by omega) (nT' i2)).trans def'
          have hr := run_endRound (P := P) none hl3
          refine ⟨_, _, hr, rfl, ⟨?_, ?_, (World.putObj_heap_other (by omega)).trans hk3⟩, ?_⟩
          · exact (hI _ _ _ _ hi3 (grownBy_putObj' W3 _ _) (fun r e => by cases e; exact ⟨by omega, nT hi3⟩)).1
          · rw [World.putObj_heap_same (Array.getElem?_eq_some_iff.1 hl3).1, hrc]
            rfl
          · have hs3 := hb3.size
            have hs1 := hb.size
            refine ⟨hb3.os.trans hb.os, hb3.tape.trans hb.tape, hb3.output.trans hb.output, ?_, fun q hq hne hnt => ?_, fun q hq => ?_⟩
            · simp at *
              omega
            · rw [World.putObj_heap_other hne, hb3.block q (by simp; omega) hne (fun e => hnt (t1 q (t2 q e))), World.putObj_heap_other hne, hb.block q hq]
            · have h3 := (hI _ _ _ _ hi3 (grownBy_putObj' W3 _ _) (fun r e => by cases e; exact ⟨by omega, nT hi3⟩)).2 q hq
              rcases hb3.turn q h3 with h | h
              · exact .inl (t1 q (t2 q h))
              · refine .inr ?_
                simp at h
                omega
        | ret => exact hp.elim
        | exit id => exact hp.elim
        | goto t => exact hp.elim
        | panic ch => exact hp.elim
        | outgrown => exact hp.elim
      | ret => exact hp.elim
      | exit id => exact hp.elim
      | goto t => exact hp.elim
      | panic ch => exact hp.elim
      | outgrown => exact hp.elim
    · rintro e W2 ⟨⟨v, rfl⟩, xs, hS, hi, hl, hk⟩
      have nT : ¬ T W2 (w.heap.size + 1) := fun e => by have := hT _ _ _ hi e; omega
      exact ⟨none, _, by have := run_endLoop (P := P) hl (by rw [hrc]; simp); rw [hrc] at this; exact this, hdone xs _ hS (hI _ _ _ _ hi (grownBy_putObj' W2 _ _) (fun r e => by cases e; exact ⟨by omega, nT⟩)).1 ((World.putObj_heap_other (by omega)).trans hk)⟩
theorem yield_any {m m' : Nat} {P : Program} {l : Nat} {args : Array Value} {W : World} {R : Ending → World → Prop} (h : YieldAt Fence.wide m P l args W R) : YieldAt Fence.wide m' P l args W R := by
  obtain ⟨fn, tmps, assign, body, hy, hR⟩ := h
  exact ⟨fn, tmps, assign, body, hy, hR.1, fun c cs _ => hR.2 c cs (fun d h => by simp [Fence.wide] at h)⟩
end Go.Proofs.Ytledclkmeikgdaa
