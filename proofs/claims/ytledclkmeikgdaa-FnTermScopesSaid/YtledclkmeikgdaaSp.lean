import Derived.RangeFuncNested
import Derived.RangeFuncBound
import Derived.RangeFuncCalls
import Derived.RangeFuncLeaves
import Derived.Shelf.Abstract
import Derived.Shelf.RegionOpen
import Derived.WalkKit
import Derived.OwnWalkIn
import Derived.TacticsInMore
import Derived.LoopNIn
import Derived.LoopIn
import Derived.Test.YtledclkmeikgdaaSn
/-! A range over a function whose iterator writes cells of its own, and whose rounds write theirs. -/
namespace Go.Proofs.Ytledclkmeikgdaa
open Go.RowKit Go.Deep Go.Shelf
set_option linter.unusedVariables false
set_option maxRecDepth 100000
set_option linter.unusedSimpArgs false

/-- What a round does: of the blocks that were there it turns those of T alone (and l); what T has then it had, or it is new. -/
structure Fy (T : World → Nat → Prop) (l : Nat) (W W' : World) : Prop where
  os : W'.os = W.os
  tape : W'.tape = W.tape
  output : W'.output = W.output
  size : W.heap.size ≤ W'.heap.size
  block : ∀ q, q < W.heap.size → q ≠ l → ¬ T W q → W'.heap[q]? = W.heap[q]?
  turn : ∀ q, T W' q → T W q ∨ W.heap.size ≤ q
/-- It bears whatever is done to one block at or beyond B that is not of T. -/
def BearsT {β : Type} (B : Nat) (T : World → Nat → Prop) (J : β → World → Prop) : Prop :=
  ∀ s W W' row, J s W → W.grownBy W' row → (∀ r, row = some r → B ≤ r ∧ ¬ T W r) → J s W' ∧ ∀ q, T W' q → T W q
theorem grown_bel {W W' : World} (h : Below W.heap.size W W') : W.grownBy W' none := ⟨h.os, h.tape, h.output, h.size, fun k hk _ => h.block k hk⟩
/-- How a round's body may be left. -/
def rgPostD {α : Type} (T : World → Nat → Prop) (l : Nat) (I : List α → World → Prop) (xs : List α) (W : World) : Exit → Act → World → Prop
  | .normal, _, W' => (Fy T l W W' ∧ W'.heap[l]? = W.heap[l]?) ∧ I xs W'
  | _, _, _ => False
theorem wpIn_rangeD {α : Type} {F : Fence} {n : Nat} {P : Program} {g : Operand} {ps : Array Tmp} {assign body : Code} {Q : Exit → Act → World → Prop} {a : Act} {w : World}
    (hro : F.round = none) (h1 : 1 ≤ n) {gf : Nat} {lb : Array Value} (hg : a.eval g = .func (.func gf) #[] lb) (hFg : F.fn gf) (eg : ∀ args w, (callFunc gf args).run P w = .ok (.enter gf args) w)
    {encs : α → Array Value} (hps : ∀ x, (encs x).size = ps.size) (T : World → Nat → Prop) (Px : List α → α → World → Prop) (I : List α → World → Prop) (hI : BearsT w.heap.size T I) (hT : ∀ s W q, I s W → T W q → q < w.heap.size ∨ w.heap.size + 2 ≤ q) (h0 : I [] w) {S : List α → Prop}
    (hseq : ∀ (J : List α → World → Prop) (W : World), Below w.heap.size w W → w.heap.size + 2 ≤ W.heap.size → (∀ s V, J s V → I s V) → BearsT (w.heap.size + 2) T J →
      (∀ pre x W1, J pre W1 → Px pre x W1 → YieldAt F (n - 1 - 1) P (w.heap.size + 1) (encs x) W1 fun e W' => e = .returned (.bool true) ∧ J (pre ++ [x]) W' ∧ Fy T (w.heap.size + 1) W1 W') → J [] W →
      CallsIn F (n - 1) P gf (#[.func (.yield (w.heap.size + 1)) #[] #[]] ++ lb) W fun e W' => (∃ v, e = .returned v) ∧ ∃ xs, S xs ∧ J xs W')
    (hround : ∀ (pre : List α) (x : α) (W : World), I pre W → Px pre x W → w.heap.size + 2 ≤ W.heap.size →
      assign.wpIn (F.inRound (w.heap.size + 1)) (n - 1 - 1) P (Exit.then (fun a' W' => Below W.heap.size W W' ∧ ∀ o, I pre (W'.putObj (w.heap.size + 1) o) → body.wpIn (F.inRound (w.heap.size + 1)) (n - 1 - 1) P (rgPostD T (w.heap.size + 1) I (pre ++ [x]) (W'.putObj (w.heap.size + 1) o)) a' (W'.putObj (w.heap.size + 1) o)) (fun _ _ _ => False)) { tmps := (ps.zip (encs x)).foldl (fun t (p, v) => t.setIfInBounds p v) a.tmps, defers := [] } W)
    (hdone : ∀ (xs : List α) (W : World), S xs → I xs W → W.heap[w.heap.size]? = some (.deferred (some [])) → Q .normal { a with defers := { target := .collected w.heap.size, args := #[] } :: a.defers } W) :
    (Code.rangeFunc g ps assign body).wpIn F n P Q a w := by
  refine wpIn_rangeFunc ?_
  intro fn hfn
  rw [hro]
  obtain ⟨rc, hrc⟩ : ∃ rc : LoopState → Option Code → Loop, rc = fun st pe => { state := st, pending := pe, fn, tmps := a.tmps, params := ps, assign, body, defers := w.heap.size } := ⟨_, rfl⟩
  obtain ⟨V, hV⟩ : ∃ V, (w.alloc (.deferred (some []))).alloc (.loop (rc .ready none)) = V := ⟨_, rfl⟩
  have hsz : V.heap.size = w.heap.size + 2 := by rw [← hV]; simp
  have hbV : Below w.heap.size w V := by rw [← hV]; exact ((Below.refl _ w).alloc (Nat.le_refl _) _).alloc (by simp) _
  have hL : V.heap[w.heap.size + 1]? = some (.loop (rc .ready none)) := by
    rw [← hV]
    have := World.alloc_heap_new (w.alloc (.deferred (some []))) (.loop (rc .ready none))
    rwa [World.size_alloc] at this
  have hD : V.heap[w.heap.size]? = some (.deferred (some [])) := by
    rw [← hV]
    exact (Below.heap_alloc _ _ _ (by simp)).trans (World.alloc_heap_new w _)
  have hIV : I [] V := (hI _ _ _ none h0 (grown_bel hbV) (fun r e => by cases e)).1
  refine ⟨w.heap.size + 1, [{ target := .collected w.heap.size, args := #[] }], V, { target := .fn (.func gf) lb, args := #[.func (.yield (w.heap.size + 1)) #[] #[]] }, V, gf, #[.func (.yield (w.heap.size + 1)) #[] #[]] ++ lb, V, ?_, ?_, ?_, ?_, fun _ => h1, ?_⟩
  · rw [← hV, hrc]; exact run_enterLoop_outer _ _ _ _ _
  · simp only [resolve, hg]
    simp [go_sem]
  · intro f' hf'; simp [Target.leads] at hf'; subst hf'; exact hFg
  · simp [invoke, go_sem, eg]
  · have low : ∀ {W W' : World} {row : Option Nat} {q : Nat} {o : Obj}, W.grownBy W' row → (∀ r, row = some r → w.heap.size + 2 ≤ r) → q < w.heap.size + 2 → W.heap[q]? = some o → W'.heap[q]? = some o := fun {W W' row q o} hg' hr hq ho =>
      (hg'.block q (Array.getElem?_eq_some_iff.1 ho).1 (fun e => by have := hr q e.symm; omega)).trans ho
    refine (hseq (fun pre W => I pre W ∧ W.heap[w.heap.size + 1]? = some (.loop (rc .ready none)) ∧ W.heap[w.heap.size]? = some (.deferred (some []))) V hbV (by omega) (fun s V h => h.1)
      (fun s A B row hs hg' hr => ?_) ?_ ⟨hIV, hL, hD⟩).mono ?_
    · obtain ⟨g1, g2⟩ := hI s A B row hs.1 hg' (fun r e => ⟨by have := (hr r e).1; omega, (hr r e).2⟩)
      exact ⟨⟨g1, low hg' (fun r e => (hr r e).1) (by omega) hs.2.1, low hg' (fun r e => (hr r e).1) (by omega) hs.2.2⟩, g2⟩
    · rintro pre x W ⟨hi, hl, hk⟩ hpx
      have hlt : w.heap.size + 1 < W.heap.size := (Array.getElem?_eq_some_iff.1 hl).1
      have hy := run_yield (P := P) (args := encs x) hl (by rw [hrc]; exact hps x)
      rw [hrc] at hy
      refine ⟨fn, _, assign, body, hy, roundIn_of_wpIn hfn (wpIn_mono (hround pre x W hi hpx (by omega)) ?_)⟩
      intro e a' W' hp
      cases e with
      | normal =>
        obtain ⟨hb, hbody⟩ := hp
        have hl' : W'.heap[w.heap.size + 1]? = some (.loop (rc .ready none)) := (hb.block _ hlt).trans hl
        have hlt' : w.heap.size + 1 < W'.heap.size := (Array.getElem?_eq_some_iff.1 hl').1
        have hk' : W'.heap[w.heap.size]? = some (.deferred (some [])) := (hb.block _ (by omega)).trans hk
        obtain ⟨i1, t1⟩ := hI _ _ _ none hi (grown_bel hb) (fun r e => by cases e)
        have nT : ∀ {s V}, I s V → ¬ T V (w.heap.size + 1) := fun h e => by have := hT _ _ _ h e; omega
        have nT' : ∀ {s V}, I s V → ¬ T V w.heap.size := fun h e => by have := hT _ _ _ h e; omega
        obtain ⟨i2, t2⟩ := hI _ _ _ _ i1 (grownBy_putObj' W' (w.heap.size + 1) (.loop { rc .ready none with state := .busy })) (fun r e => by cases e; exact ⟨by omega, nT i1⟩)
        refine ⟨_, run_beginRound hl' (by rw [hrc]), wpIn_mono (hbody _ i2) ?_⟩
        have same : (W'.putObj (w.heap.size + 1) (.loop { rc .ready none with state := .busy })).heap[w.heap.size + 1]? = some (.loop { rc .ready none with state := .busy }) := World.putObj_heap_same hlt'
        have def' : (W'.putObj (w.heap.size + 1) (.loop { rc .ready none with state := .busy })).heap[w.heap.size]? = some (.deferred (some [])) := (World.putObj_heap_other (by omega)).trans hk'
        intro e a3 W3 hp
        cases e with
        | normal =>
          obtain ⟨⟨hb3, hl0⟩, hi3⟩ := hp
          have hl3 := hl0.trans same
          have hk3 := (hb3.block w.heap.size (by simp; omega) (by omega) (nT' i2)).trans def'
          have hr := run_endRound (P := P) none hl3
          refine ⟨_, _, hr, rfl, ⟨?_, ?_, (World.putObj_heap_other (by omega)).trans hk3⟩, ?_⟩
          · exact (hI _ _ _ _ hi3 (grownBy_putObj' W3 _ _) (fun r e => by cases e; exact ⟨by omega, nT hi3⟩)).1
          · rw [World.putObj_heap_same (Array.getElem?_eq_some_iff.1 hl3).1, hrc]
            rfl
          · have hs3 := hb3.size
            have hs1 := hb.size
            refine ⟨hb3.os.trans hb.os, hb3.tape.trans hb.tape, hb3.output.trans hb.output, ?_, fun q hq hne hnt => ?_, fun q hq => ?_⟩
            · simp at *
              omega
            · rw [World.putObj_heap_other hne, hb3.block q (by simp; omega) hne (fun e => hnt (t1 q (t2 q e))), World.putObj_heap_other hne, hb.block q hq]
            · have h3 := (hI _ _ _ _ hi3 (grownBy_putObj' W3 _ _) (fun r e => by cases e; exact ⟨by omega, nT hi3⟩)).2 q hq
              rcases hb3.turn q h3 with h | h
              · exact .inl (t1 q (t2 q h))
              · refine .inr ?_
                simp at h
                omega
        | ret => exact hp.elim
        | exit id => exact hp.elim
        | goto t => exact hp.elim
        | panic ch => exact hp.elim
        | outgrown => exact hp.elim
      | ret => exact hp.elim
      | exit id => exact hp.elim
      | goto t => exact hp.elim
      | panic ch => exact hp.elim
      | outgrown => exact hp.elim
    · rintro e W2 ⟨⟨v, rfl⟩, xs, hS, hi, hl, hk⟩
      have nT : ¬ T W2 (w.heap.size + 1) := fun e => by have := hT _ _ _ hi e; omega
      exact ⟨none, _, by have := run_endLoop (P := P) hl (by rw [hrc]; simp); rw [hrc] at this; exact this, hdone xs _ hS (hI _ _ _ _ hi (grownBy_putObj' W2 _ _) (fun r e => by cases e; exact ⟨by omega, nT⟩)).1 ((World.putObj_heap_other (by omega)).trans hk)⟩
theorem yield_any {m m' : Nat} {P : Program} {l : Nat} {args : Array Value} {W : World} {R : Ending → World → Prop} (h : YieldAt Fence.wide m P l args W R) : YieldAt Fence.wide m' P l args W R := by
  obtain ⟨fn, tmps, assign, body, hy, hR⟩ := h
  exact ⟨fn, tmps, assign, body, hy, hR.1, fun c cs _ => hR.2 c cs (fun d h => by simp [Fence.wide] at h)⟩
end Go.Proofs.Ytledclkmeikgdaa

/-! The program: the small functions of the walk. -/
namespace Go.Proofs.Ytledclkmeikgdaa
open Go.RowKit Go.Deep Go.Lib
open Go.Proofs.Ytledclkmeikgdaa.T (Tr)
set_option linter.unusedVariables false
set_option maxRecDepth 100000
set_option linter.unusedSimpArgs false

theorem one117 (b : Bool) (w : World) : Calls Try.prog 117 #[.bool b] w fun e w' => e = .returned (.int .i64 (if b = true then 1 else 0)) ∧ w' = w := by
  cases b
  all_goals
    go_enter Try.func117, Try.ntmps117
    go_wp2_with fail
    go_ret
    exact ⟨rfl, rfl⟩
/-- A Kid's place is in the scope of what is declared. -/
def inS (n : ByteArray) (m i : Nat) : Bool := T.dclB n && decide (i + 1 = m)
theorem in102 (n x : ByteArray) (l : Bool) (a : Option Addr) (m c i : Nat) (w : World) (hm : m ≤ 100000) (hi : i < m) :
    Calls Try.prog 102 #[.agg #[.string n, .string x, .bool l, .slice a m c], .int .i64 (i : Nat)] w fun e w' => e = .returned (.bool (inS n m i)) ∧ Below w.heap.size w w' := by
  have HD := (show Hid (∀ w', Calls Try.prog 99 #[.agg #[.string n, .string x, .bool l, .slice a m c]] w' fun e w'' => e = .returned (.bool (T.dclB n)) ∧ Below w'.heap.size w' w'') from fun w' => T.dcl103 n x l a m c w')
  have kw : IntKind.i64.wrap ((m : Int) - 1) = (m : Int) - 1 := by rw [IntKind.wrap_i64] <;> omega
  have HB := (show Hid (∀ w', Below (w.alloc (.cells #[.string n, .string x, .bool l, .slice a m c] 40)).heap.size (w.alloc (.cells #[.string n, .string x, .bool l, .slice a m c] 40)) w' → w'.cell? ⟨w.heap.size, 3, none⟩ = some (.slice a m c) ∧ Below w.heap.size w w') from fun w' hb => by
    have b0 := (Box.new w 40 [.string n, .string x, .bool l, .slice a m c]).still hb
    exact ⟨b0.cell 3 (by simp), (bel_alloc w _).trans (hb.mono (by simp))⟩)
  unfold inS
  go_enter Try.func102, Try.ntmps102
  go_wp2_with fail
  refine Calls.mono (HD.out _) ?_
  rintro e w1 ⟨rfl, hb1⟩
  obtain ⟨X3, hbw⟩ := HB.out w1 hb1
  clear hb1
  by_cases hi1 : i + 1 = m
  · have hq : ((i : Int) == (m : Int) - 1) = true := by simp; omega
    cases hd : T.dclB n
    all_goals
      go_wp2_with fail
      go_ret
      exact ⟨ret_bool (by simp [hi1, hd]), hbw⟩
  · have hq : ((i : Int) == (m : Int) - 1) = false := by simp; omega
    cases hd : T.dclB n
    all_goals
      go_wp2_with fail
      go_ret
      exact ⟨ret_bool (by simp [hi1, hd]), hbw⟩
end Go.Proofs.Ytledclkmeikgdaa

/-! The program: the Kids that are gone through are told one by one. -/
namespace Go.Proofs.Ytledclkmeikgdaa
open Go.RowKit Go.Deep Go.Shelf
open Go.Proofs.Ytledclkmeikgdaa.T (Tr)
set_option linter.unusedVariables false
set_option maxRecDepth 100000
set_option linter.unusedSimpArgs false
attribute [local go_sem] Oper.semAt_some

def kdAt (k : List Tr) (i : Nat) : Tr := if h : i < k.length then k[i] else ⟨ByteArray.empty, ByteArray.empty, true, []⟩
theorem kdAt_at {k : List Tr} {i : Nat} (h : i < k.length) : kdAt k i = k[i] := by unfold kdAt; rw [dif_pos h]
/-- What is told: a place and its Kid. -/
def kdE (k : List Tr) (f : Nat → Option Addr × Nat × Nat) (i : Nat) : Array Value := #[.int .i64 (i : Nat), .agg #[.string (kdAt k i).name, .string (kdAt k i).text, .bool (kdAt k i).leaf, .slice (f i).1 (f i).2.1 (f i).2.2]]
/-- The first so many that are told. -/
def tdL (lo j : Nat) : List Nat := (List.range j).map (fun i => lo + i)
theorem tdL_len (lo j : Nat) : (tdL lo j).length = j := by simp [tdL]
theorem tdL_succ (lo j : Nat) : tdL lo (j + 1) = tdL lo j ++ [lo + j] := by simp [tdL, List.range_succ]
/-- It is its turn. -/
def KdX (lo N : Nat) (pre : List Nat) (x : Nat) (W : World) : Prop := x < N ∧ x = lo + pre.length ∧ pre = tdL lo pre.length
/-- Where it begins. -/
def loF (n : ByteArray) : Nat := if T.dclB n = true then 1 else 0
theorem one117n (n : ByteArray) (w : World) : Calls Try.prog 117 #[.bool (T.dclB n)] w fun e w' => e = .returned (.int .i64 (loF n : Nat)) ∧ w' = w := by
  refine Calls.mono (one117 _ w) ?_
  rintro e w' ⟨rfl, rfl⟩
  refine ⟨?_, rfl⟩
  unfold loF
  split <;> rfl
theorem parts101 (n x : ByteArray) (l : Bool) (a : Option Addr) (c d : Nat) (w : World) :
    Calls Try.prog 101 #[.agg #[.string n, .string x, .bool l, .slice a c d]] w fun e w' => e = .returned (.func (.func 116) #[] #[.pointer (some ⟨w.heap.size, 0, none⟩)]) ∧ w' = w.alloc (.cells #[.string n, .string x, .bool l, .slice a c d] 40) := by
  go_enter Try.func101, Try.ntmps101
  go_wp2_with fail
  go_ret
  exact ⟨rfl, rfl⟩
set_option maxHeartbeats 6400000 in
theorem parts116 {l b off cap bp : Nat} (n x : ByteArray) (lf : Bool) (a : Option Addr) (k : List Tr) (f : Nat → Option Addr × Nat × Nat) (T' : World → Nat → Prop) (J : List Nat → World → Prop) (hTl : ∀ s W q, J s W → T' W q → q ≠ b ∧ q ≠ bp) (hbl : b ≠ l) (hpl : bp ≠ l)
    (hJb : ∀ W W', J [] W → Below W.heap.size W W' → J [] W')
    (hY : ∀ m pre y W1, J pre W1 → KdX (loF n) k.length pre y W1 → YieldAt Fence.wide m Try.prog l (kdE k f y) W1 fun e W' => e = .returned (.bool true) ∧ J (pre ++ [y]) W' ∧ Fy T' l W1 W') (m : Nat) (W : World)
    (hcell : ∀ i (hi : i < k.length), W.cell? ⟨b, off + i * 4, none⟩ = some (.string k[i].name) ∧ W.cell? ⟨b, off + i * 4 + 1, none⟩ = some (.string k[i].text) ∧ W.cell? ⟨b, off + i * 4 + 2, none⟩ = some (.bool k[i].leaf) ∧ W.cell? ⟨b, off + i * 4 + 3, none⟩ = some (.slice (f i).1 (f i).2.1 (f i).2.2))
    (ha : 0 < k.length → a = some ⟨b, off, none⟩)
    (hbox : Box W bp 40 [.string n, .string x, .bool lf, .slice a k.length cap]) (hJ : J [] W) (hl : k.length ≤ 50000) (h1 : loF n ≤ k.length) (hc : k.length ≤ cap) (hcm : cap ≤ maxLen) :
    CallsIn Fence.wide m Try.prog 116 #[.func (.yield l) #[] #[], .pointer (some ⟨bp, 0, none⟩)] W fun e W' => (∃ u, e = .returned u) ∧ ∃ xs, xs = tdL (loF n) (k.length - loF n) ∧ J xs W' := by
  have c0 : W.cell? ⟨bp, 0, none⟩ = some (.string n) := hbox.cell 0 (by simp)
  have c1 : W.cell? ⟨bp, 1, none⟩ = some (.string x) := hbox.cell 1 (by simp)
  have c2 : W.cell? ⟨bp, 2, none⟩ = some (.bool lf) := hbox.cell 2 (by simp)
  have c3 : W.cell? ⟨bp, 3, none⟩ = some (.slice a k.length cap) := hbox.cell 3 (by simp)
  have HC := (show Hid _ from hcell)
  have HBX := (show Hid (W.cell? ⟨bp, 3, none⟩ = some (.slice a k.length cap)) from c3)
  have HY := (show Hid _ from hY)
  have HTL := (show Hid _ from hTl)
  have HJ := (show Hid _ from hJ)
  have HJB := (show Hid _ from hJb)
  have HA := (show Hid _ from ha)
  have HLB := (show Hid (bp < W.heap.size) from hbox.lt)
  have HD := (show Hid (∀ w', Calls Try.prog 99 #[.agg #[.string n, .string x, .bool lf, .slice a k.length cap]] w' fun e w'' => e = .returned (.bool (T.dclB n)) ∧ Below w'.heap.size w' w'') from fun w' => T.dcl103 n x lf a k.length cap w')
  have HO := (show Hid (∀ w', Calls Try.prog 117 #[.bool (T.dclB n)] w' fun e w'' => e = .returned (.int .i64 (loF n : Nat)) ∧ w'' = w') from one117n n)
  unfold maxLen at hcm
  clear hcell hbox hY hTl hJ hJb ha
  generalize loF n = lo at *
  refine callsIn_of_wp Try.func116 rfl trivial ?_ rfl
  simp only [Try.ntmps116, List.size_toArray, List.length_cons, List.length_nil, Nat.reduceAdd, Nat.reduceSub, Array.replicate_succ, Array.replicate_zero, List.push_toArray, List.append_toArray, List.nil_append, List.cons_append]
  refine wpIn_wide.2 ?_
  go_wp2_with fail
  refine Calls.mono (HD.out _) ?_
  rintro e w1 ⟨rfl, hb1⟩
  have HB1 := (show Hid (Below W.heap.size W w1) from hb1)
  clear hb1 c0 c1 c2 c3
  go_wp2_with fail
  refine Calls.mono (HO.out _) ?_
  rintro e w2 ⟨rfl, rfl⟩
  go_wp2_with fail
  go_loopw [3] (fun i wr => ∃ j : Nat, i = .int .i64 (j : Nat) ∧ lo ≤ j ∧ j ≤ k.length ∧ Hid (J (tdL lo (j - lo)) wr ∧ (0 < k.length → wr.heap[b]? = W.heap[b]?) ∧ wr.heap[bp]? = W.heap[bp]? ∧ W.heap.size ≤ wr.heap.size)) (fun i _ => k.length - (intOf i).toNat)
  case atStart => exact ⟨lo, rfl, Nat.le_refl _, h1, by rw [Nat.sub_self]; exact HJB.out _ _ HJ.out HB1.out, fun h0 => HB1.out.block b (lt_of_cell (HC.out 0 h0).1), HB1.out.block bp HLB.out, HB1.out.size⟩
  case round =>
    obtain ⟨j, rfl, hlj, hj, HQ⟩ := hrel
    have yb := (World.cell?_of_block (w := W) HQ.out.2.2.1).trans HBX.out
    by_cases hlt : j < k.length
    · obtain ⟨q1, q2, q3, q4⟩ := HQ.out
      obtain ⟨x0, x1, x2, x3⟩ := HC.out j hlt
      obtain rfl := HA.out (by omega)
      have y0 := (World.cell?_of_block (w := W) (q2 (by omega))).trans x0
      have y1 := (World.cell?_of_block (w := W) (q2 (by omega))).trans x1
      have y2 := (World.cell?_of_block (w := W) (q2 (by omega))).trans x2
      have y3 := (World.cell?_of_block (w := W) (q2 (by omega))).trans x3
      have hbw : b < wr.heap.size := lt_of_cell y0
      have hpw : bp < wr.heap.size := lt_of_cell yb
      have hbx : KdX lo k.length (tdL lo (j - lo)) j wr := by
        unfold KdX
        rw [tdL_len]
        exact ⟨hlt, by omega, rfl⟩
      obtain ⟨fn, tmps, assign, body, hy, hR⟩ := HY.out (m - 1) _ j wr q1 hbx
      unfold kdE at hy
      rw [kdAt_at hlt] at hy
      have HRR := (show Hid _ from hR)
      have HQQ := (show Hid _ from HQ.out)
      have HT0 := (show Hid (¬ T' wr b ∧ ¬ T' wr bp) from ⟨fun h => (HTL.out _ _ _ q1 h).1 rfl, fun h => (HTL.out _ _ _ q1 h).2 rfl⟩)
      clear hR hbx q1 q2 q3 q4 HQ x0 x1 x2 x3
      refine (wpIn_wide (n := m)).1 ?_
      gi_wp2
      refine ⟨fun h => absurd h (by simp [Fence.wide]), RoundIn.mono HRR.out ?_⟩
      rintro e W2 ⟨rfl, hJ2, hfy⟩
      have HN := (show Hid (J (tdL lo (j + 1 - lo)) W2 ∧ (0 < k.length → W2.heap[b]? = W.heap[b]?) ∧ W2.heap[bp]? = W.heap[bp]? ∧ W.heap.size ≤ W2.heap.size) from by
        have e1 : j + 1 - lo = (j - lo) + 1 := by omega
        have e2 : lo + (j - lo) = j := by omega
        rw [e1, tdL_succ, e2]
        exact ⟨hJ2, fun h => (hfy.block b hbw hbl HT0.out.1).trans (HQQ.out.2.1 h), (hfy.block bp hpw hpl HT0.out.2).trans HQQ.out.2.2.1, Nat.le_trans HQQ.out.2.2.2 hfy.size⟩)
      clear hy HRR hJ2 hfy HQQ
      gi_wp2
      exact ⟨⟨j + 1, by go_num, by omega, by omega, HN.out⟩, by simp [intOf]; omega⟩
    · obtain rfl : j = k.length := by omega
      have HE := (show Hid (J (tdL lo (k.length - lo)) wr) from HQ.out.1)
      clear HQ
      go_wp2_with fail
      go_end0
      exact ⟨⟨_, rfl⟩, _, rfl, HE.out⟩
end Go.Proofs.Ytledclkmeikgdaa
