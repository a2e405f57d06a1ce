import Derived.Test.YtbgoikaelmacbaaRg
import Derived.Test.YtbgoikaelmacbaaAo
import Derived.Test.YtbgoikaelmacbaaPp
import Derived.Deep.RegionHeld3
/-! A range over a function whose iterator writes cells of its own, and whose rounds write theirs. -/
namespace Go.Proofs.Ytbgoikaelmacbaa
open Go.RowKit Go.Deep Go.Shelf
set_option linter.unusedVariables false
set_option maxRecDepth 100000
set_option linter.unusedSimpArgs false

/-- What a round does: of the blocks that were there it turns those of T alone (and l); what T has then it had, or it is new. -/
structure Fy (T : World → Nat → Prop) (l : Nat) (W W' : World) : Prop where
  os : W'.os = W.os
  tape : W'.tape = W.tape
  output : W'.output = W.output
  size : W.heap.size ≤ W'.heap.size
  block : ∀ q, q < W.heap.size → q ≠ l → ¬ T W q → W'.heap[q]? = W.heap[q]?
  turn : ∀ q, T W' q → T W q ∨ W.heap.size ≤ q
/-- It bears whatever is done to one block at or beyond B that is not of T. -/
def BearsT {β : Type} (B : Nat) (T : World → Nat → Prop) (J : β → World → Prop) : Prop :=
  ∀ s W W' row, J s W → W.grownBy W' row → (∀ r, row = some r → B ≤ r ∧ ¬ T W r) → J s W' ∧ ∀ q, T W' q → T W q
theorem grown_bel {W W' : World} (h : Below W.heap.size W W') : W.grownBy W' none := ⟨h.os, h.tape, h.output, h.size, fun k hk _ => h.block k hk⟩
/-- How a round's body may be left. -/
def rgPostD {α : Type} (T : World → Nat → Prop) (l : Nat) (I : List α → World → Prop) (xs : List α) (W : World) : Exit → Act → World → Prop
  | .normal, _, W' => (Fy T l W W' ∧ W'.heap[l]? = W.heap[l]?) ∧ I xs W'
  | _, _, _ => False
theorem wpIn_rangeD {α : Type} {F : Fence} {n : Nat} {P : Program} {g : Operand} {ps : Array Tmp} {assign body : Code} {Q : Exit → Act → World → Prop} {a : Act} {w : World}
    (hro : F.round = none) (h1 : 1 ≤ n) {gf : Nat} {lb : Array Value} (hg : a.eval g = .func (.func gf) #[] lb) (hFg : F.fn gf) (eg : ∀ args w, (callFunc gf args).run P w = .ok (.enter gf args) w)
    {encs : α → Array Value} (hps : ∀ x, (encs x).size = ps.size) (T : World → Nat → Prop) (Px : List α → α → World → Prop) (I : List α → World → Prop) (hI : BearsT w.heap.size T I) (hT : ∀ s W q, I s W → T W q → q < w.heap.size ∨ w.heap.size + 2 ≤ q) (h0 : I [] w) {S : List α → Prop}
    (hseq : ∀ (J : List α → World → Prop) (W : World), Below w.heap.size w W → w.heap.size + 2 ≤ W.heap.size → (∀ s V, J s V → I s V) → BearsT (w.heap.size + 2) T J →
      (∀ pre x W1, J pre W1 → Px pre x W1 → YieldAt F (n - 1 - 1) P (w.heap.size + 1) (encs x) W1 fun e W' => e = .returned (.bool true) ∧ J (pre ++ [x]) W' ∧ Fy T (w.heap.size + 1) W1 W') → J [] W →
      CallsIn F (n - 1) P gf (#[.func (.yield (w.heap.size + 1)) #[] #[]] ++ lb) W fun e W' => (∃ v, e = .returned v) ∧ ∃ xs, S xs ∧ J xs W')
    (hround : ∀ (pre : List α) (x : α) (W : World), I pre W → Px pre x W → w.heap.size + 2 ≤ W.heap.size →
      assign.wpIn (F.inRound (w.heap.size + 1)) (n - 1 - 1) P (Exit.then (fun a' W' => Below W.heap.size W W' ∧ ∀ o, I pre (W'.putObj (w.heap.size + 1) o) → body.wpIn (F.inRound (w.heap.size + 1)) (n - 1 - 1) P (rgPostD T (w.heap.size + 1) I (pre ++ [x]) (W'.putObj (w.heap.size + 1) o)) a' (W'.putObj (w.heap.size + 1) o)) (fun _ _ _ => False)) { tmps := (ps.zip (encs x)).foldl (fun t (p, v) => t.setIfInBounds p v) a.tmps, defers := [] } W)
    (hdone : ∀ (xs : List α) (W : World), S xs → I xs W → W.heap[w.heap.size]? = some (.deferred (some [])) → Q .normal { a with defers := { target := .collected w.heap.size, args := #[] } :: a.defers } W) :
    (Code.rangeFunc g ps assign body).wpIn F n P Q a w := by
  refine wpIn_rangeFunc ?_
  intro fn hfn
  rw [hro]
  obtain ⟨rc, hrc⟩ : ∃ rc : LoopState → Option Code → Loop, rc = fun st pe => { state := st, pending := pe, fn, tmps := a.tmps, params := ps, assign, body, defers := w.heap.size } := ⟨_, rfl⟩
  obtain ⟨V, hV⟩ : ∃ V, (w.alloc (.deferred (some []))).alloc (.loop (rc .ready none)) = V := ⟨_, rfl⟩
  have hsz : V.heap.size = w.heap.size + 2 := by rw [← hV]; simp
  have hbV : Below w.heap.size w V := by rw [← hV]; exact ((Below.refl _ w).alloc (Nat.le_refl _) _).alloc (by simp) _
  have hL : V.heap[w.heap.size + 1]? = some (.loop (rc .ready none)) := by
    rw [← hV]
    have := World.alloc_heap_new (w.alloc (.deferred (some []))) (.loop (rc .ready none))
    rwa [World.size_alloc] at this
  have hD : V.heap[w.heap.size]? = some (.deferred (some [])) := by
    rw [← hV]
    exact (Below.heap_alloc _ _ _ (by simp)).trans (World.alloc_heap_new w _)
  have hIV : I [] V := (hI _ _ _ none h0 (grown_bel hbV) (fun r e => by cases e)).1
  refine ⟨w.heap.size + 1, [{ target := .collected w.heap.size, args := #[] }], V, { target := .fn (.func gf) lb, args := #[.func (.yield (w.heap.size + 1)) #[] #[]] }, V, gf, #[.func (.yield (w.heap.size + 1)) #[] #[]] ++ lb, V, ?_, ?_, ?_, ?_, fun _ => h1, ?_⟩
  · rw [← hV, hrc]; exact run_enterLoop_outer _ _ _ _ _
  · simp only [resolve, hg]
    simp [go_sem]
  · intro f' hf'; simp [Target.leads] at hf'; subst hf'; exact hFg
  · simp [invoke, go_sem, eg]
  · have low : ∀ {W W' : World} {row : Option Nat} {q : Nat} {o : Obj}, W.grownBy W' row → (∀ r, row = some r → w.heap.size + 2 ≤ r) → q < w.heap.size + 2 → W.heap[q]? = some o → W'.heap[q]? = some o := fun {W W' row q o} hg' hr hq ho =>
      (hg'.block q (Array.getElem?_eq_some_iff.1 ho).1 (fun e => by have := hr q e.symm; omega)).trans ho
    refine (hseq (fun pre W => I pre W ∧ W.heap[w.heap.size + 1]? = some (.loop (rc .ready none)) ∧ W.heap[w.heap.size]? = some (.deferred (some []))) V hbV (by omega) (fun s V h => h.1)
      (fun s A B row hs hg' hr => ?_) ?_ ⟨hIV, hL, hD⟩).mono ?_
    · obtain ⟨g1, g2⟩ := hI s A B row hs.1 hg' (fun r e => ⟨by have := (hr r e).1; omega, (hr r e).2⟩)
      exact ⟨⟨g1, low hg' (fun r e => (hr r e).1) (by omega) hs.2.1, low hg' (fun r e => (hr r e).1) (by omega) hs.2.2⟩, g2⟩
    · rintro pre x W ⟨hi, hl, hk⟩ hpx
      have hlt : w.heap.size + 1 < W.heap.size := (Array.getElem?_eq_some_iff.1 hl).1
      have hy := run_yield (P := P) (args := encs x) hl (by rw [hrc]; exact hps x)
      rw [hrc] at hy
      refine ⟨fn, _, assign, body, hy, roundIn_of_wpIn hfn (wpIn_mono (hround pre x W hi hpx (by omega)) ?_)⟩
      intro e a' W' hp
      cases e with
      | normal =>
        obtain ⟨hb, hbody⟩ := hp
        have hl' : W'.heap[w.heap.size + 1]? = some (.loop (rc .ready none)) := (hb.block _ hlt).trans hl
        have hlt' : w.heap.size + 1 < W'.heap.size := (Array.getElem?_eq_some_iff.1 hl').1
        have hk' : W'.heap[w.heap.size]? = some (.deferred (some [])) := (hb.block _ (by omega)).trans hk
        obtain ⟨i1, t1⟩ := hI _ _ _ none hi (grown_bel hb) (fun r e => by cases e)
        have nT : ∀ {s V}, I s V → ¬ T V (w.heap.size + 1) := fun h e => by have := hT _ _ _ h e; omega
        have nT' : ∀ {s V}, I s V → ¬ T V w.heap.size := fun h e => by have := hT _ _ _ h e; omega
        obtain ⟨i2, t2⟩ := hI _ _ _ _ i1 (grownBy_putObj' W' (w.heap.size + 1) (.loop { rc .ready none with state := .busy })) (fun r e => by cases e; exact ⟨by omega, nT i1⟩)
        refine ⟨_, run_beginRound hl' (by rw [hrc]), wpIn_mono (hbody _ i2) ?_⟩
        have same : (W'.putObj (w.heap.size + 1) (.loop { rc .ready none with state := .busy })).heap[w.heap.size + 1]? = some (.loop { rc .ready none with state := .busy }) := World.putObj_heap_same hlt'
        have def' : (W'.putObj (w.heap.size + 1) (.loop { rc .ready none with state := .busy })).heap[w.heap.size]? = some (.deferred (some [])) := (World.putObj_heap_other (by omega)).trans hk'
        intro e a3 W3 hp
        cases e with
        | normal =>
          obtain ⟨⟨hb3, hl0⟩, hi3⟩ := hp
          have hl3 := hl0.trans same
          have hk3 := (hb3.block w.heap.size (by simp; omega) (by omega) (nT' i2)).trans def'
          have hr := run_endRound (P := P) none hl3
          refine ⟨_, _, hr, rfl, ⟨?_, ?_, (World.putObj_heap_other (by omega)).trans hk3⟩, ?_⟩
          · exact (hI _ _ _ _ hi3 (grownBy_putObj' W3 _ _) (fun r e => by cases e; exact ⟨by omega, nT hi3⟩)).1
          · rw [World.putObj_heap_same (Array.getElem?_eq_some_iff.1 hl3).1, hrc]
            rfl
          · have hs3 := hb3.size
            have hs1 := hb.size
            refine ⟨hb3.os.trans hb.os, hb3.tape.trans hb.tape, hb3.output.trans hb.output, ?_, fun q hq hne hnt => ?_, fun q hq => ?_⟩
            · simp at *
              omega
            · rw [World.putObj_heap_other hne, hb3.block q (by simp; omega) hne (fun e => hnt (t1 q (t2 q e))), World.putObj_heap_other hne, hb.block q hq]
            · have h3 := (hI _ _ _ _ hi3 (grownBy_putObj' W3 _ _) (fun r e => by cases e; exact ⟨by omega, nT hi3⟩)).2 q hq
              rcases hb3.turn q h3 with h | h
              · exact .inl (t1 q (t2 q h))
              · refine .inr ?_
                simp at h
                omega
        | ret => exact hp.elim
        | exit id => exact hp.elim
        | goto t => exact hp.elim
        | panic ch => exact hp.elim
        | outgrown => exact hp.elim
      | ret => exact hp.elim
      | exit id => exact hp.elim
      | goto t => exact hp.elim
      | panic ch => exact hp.elim
      | outgrown => exact hp.elim
    · rintro e W2 ⟨⟨v, rfl⟩, xs, hS, hi, hl, hk⟩
      have nT : ¬ T W2 (w.heap.size + 1) := fun e => by have := hT _ _ _ hi e; omega
      exact ⟨none, _, by have := run_endLoop (P := P) hl (by rw [hrc]; simp); rw [hrc] at this; exact this, hdone xs _ hS (hI _ _ _ _ hi (grownBy_putObj' W2 _ _) (fun r e => by cases e; exact ⟨by omega, nT⟩)).1 ((World.putObj_heap_other (by omega)).trans hk)⟩
end Go.Proofs.Ytbgoikaelmacbaa

/-! The program: tellTrees, with the paths, and with rounds that write. -/
namespace Go.Proofs.Ytbgoikaelmacbaa
open Go.RowKit Go.Deep Go.Shelf
set_option linter.unusedVariables false
set_option maxRecDepth 100000
set_option linter.unusedSimpArgs false
attribute [local go_sem] Oper.semAt_some

/-- What is told: a tree and its path, and how both lie. -/
abbrev Yp := { x : (Tr × List Nat) × Value × Value // (∃ a b c, x.2.1 = .slice a b c) ∧ ∃ a b c, x.2.2 = .slice a b c }
def ypE (x : Yp) : Array Value := #[x.1.2.2, x.1.1.1.val x.1.2.1]
def nums (xs : List Nat) : List Value := xs.map fun i => .int .i64 (i : Nat)
theorem nums_app (xs : List Nat) (j : Nat) : nums (xs ++ [j]) = nums xs ++ [.int .i64 (j : Nat)] := by simp [nums]
/-- How it lies when it is told. -/
structure YpX (T : World → Nat → Prop) (n0 B0 N : Nat) (pre : List Yp) (x : Yp) (W : World) : Prop where
  few : pre.length + 1 ≤ N
  short : x.1.1.2.length ≤ 1000000
  tree : Lies W (fun q => q < n0) x.1.1.1 x.1.2.1
  row : W.ownsRow B0 3 1 x.1.2.2 x.1.1.2.length (nums x.1.1.2)
  not : ∀ q, x.1.2.2.ownBlock = some q → ¬ T W q
  sz : B0 ≤ W.heap.size
/-- What tellTrees keeps. -/
structure KpP (T : World → Nat → Prop) (l : Nat) (pv : Value) (W W' : World) : Prop where
  size : W.heap.size ≤ W'.heap.size
  block : ∀ q, q < W.heap.size → q ≠ l → ¬ T W q → pv.ownBlock ≠ some q → W'.heap[q]? = W.heap[q]?
  turn : ∀ q, T W' q → T W q ∨ W.heap.size ≤ q
/-- What tellTrees leaves. -/
def TpA (T : World → Nat → Prop) (l B0 : Nat) (J : List Yp → World → Prop) (t : Tr) (pv : Value) (xs : List Nat) (pre : List Yp) (W : World) (e : Ending) (W' : World) : Prop :=
  e = .returned (.bool true) ∧ ∃ ys : List Yp, ys.map (fun y => y.1.1) = ps t xs ∧ J (pre ++ ys) W' ∧ KpP T l pv W W' ∧ W'.ownsRow B0 3 1 pv xs.length (nums xs)
set_option maxHeartbeats 3200000 in
theorem tellP84 {l B0 n0 N : Nat} (hl0 : l < B0) (hn0 : n0 ≤ l) (T : World → Nat → Prop) (J : List Yp → World → Prop) (hJb : BearsT B0 T J) (hTl : ∀ s W q, J s W → T W q → n0 ≤ q ∧ q < W.heap.size ∧ q ≠ l)
    (hY : ∀ m pre x W1, J pre W1 → YpX T n0 B0 N pre x W1 → YieldAt Fence.wide m Try.prog l (ypE x) W1 fun e W' => e = .returned (.bool true) ∧ J (pre ++ [x]) W' ∧ Fy T l W1 W') (t : Tr) :
    ∀ (m : Nat) (v pv : Value) (xs : List Nat) (pre : List Yp) (W : World), Lies W (fun q => q < n0) t v → J pre W → B0 ≤ W.heap.size → W.ownsRow B0 3 1 pv xs.length (nums xs) → (∀ q, pv.ownBlock = some q → ¬ T W q) → xs.length + t.cnt ≤ 1000000 → pre.length + t.cnt ≤ N →
      CallsIn Fence.wide m Try.prog 58 #[t.val v, pv, .func (.yield l) #[] #[]] W (TpA T l B0 J t pv xs pre W) := by
  refine Tr.ind (P := fun t => ∀ (m : Nat) (v pv : Value) (xs : List Nat) (pre : List Yp) (W : World), Lies W (fun q => q < n0) t v → J pre W → B0 ≤ W.heap.size → W.ownsRow B0 3 1 pv xs.length (nums xs) → (∀ q, pv.ownBlock = some q → ¬ T W q) → xs.length + t.cnt ≤ 1000000 → pre.length + t.cnt ≤ N → CallsIn Fence.wide m Try.prog 58 #[t.val v, pv, .func (.yield l) #[] #[]] W (TpA T l B0 J t pv xs pre W)) ?_ t
  intro n x lf kids ih m v pv xs pre W hl hJ hB ho hpt hk hfew
  rw [Tr.cnt_mk] at hfew
  obtain ⟨a, cap, b, off, sv, rfl, hnz, hxz, hc, hm, ha, hcell, hkk⟩ := hl.out
  dsimp only at hnz hxz hc hm ha hcell hkk
  obtain ⟨pa, pc, rfl, _⟩ := own_ne ho
  have HI := (show Hid _ from ih); clear ih
  have HA := (show Hid _ from ha); clear ha
  have HC := (show Hid _ from hcell); clear hcell
  have HK := (show Hid _ from hkk); clear hkk
  have HO := (show Hid (W.ownsRow B0 3 1 (.slice pa xs.length pc) xs.length (nums xs)) from ho)
  have HPT := (show Hid (∀ q, (Value.slice pa xs.length pc).ownBlock = some q → ¬ T W q) from hpt)
  unfold maxLen at hm
  obtain ⟨hJ1, ht1⟩ := hJb _ _ _ none hJ (World.grownBy_alloc W (.cells #[.string n, .string x, .bool lf, .slice a kids.length cap] 26) none) (fun r e => by cases e)
  have hT0 := fun q => hTl _ W q hJ
  obtain ⟨fn, tmps, assign, body, hy, hR⟩ := hY (m - 1) pre ⟨((⟨n, x, lf, kids⟩, xs), .slice a kids.length cap, (.slice pa xs.length pc)), ⟨_, _, _, rfl⟩, ⟨_, _, _, rfl⟩⟩ _ hJ1 ⟨by omega, (by show xs.length ≤ 1000000; omega), hl.still (bel_alloc _ _), own_still ho (bel_alloc _ _), fun q hq h => hpt q hq (ht1 q h), Nat.le_trans hB (bel_alloc W _).size⟩
  simp only [ypE, Tr.val] at hy
  have HRR := (show Hid _ from hR)
  have HT1 := (show Hid (∀ q, T (W.alloc (.cells #[.string n, .string x, .bool lf, .slice a kids.length cap] 26)) q → T W q) from ht1)
  have HT0 := (show Hid (∀ q, T W q → n0 ≤ q ∧ q < W.heap.size ∧ q ≠ l) from hT0)
  clear hR hJ1 hl ho hpt ht1 hT0
  have HX := (show Hid (Box (W.alloc (.cells #[.string n, .string x, .bool lf, .slice a kids.length cap] 26)) W.heap.size 26 [.string n, .string x, .bool lf, .slice a kids.length cap]) from Box.new W 26 _)
  simp only [Tr.val]
  refine callsIn_of_wp Try.func58 rfl trivial ?_ rfl
  simp only [Try.ntmps58, List.size_toArray, List.length_cons, List.length_nil, Nat.reduceAdd, Nat.reduceSub, Array.replicate_succ, Array.replicate_zero, List.push_toArray, List.append_toArray, List.nil_append, List.cons_append]
  gi_wp2
  refine ⟨fun h => absurd h (by simp [Fence.wide]), RoundIn.mono HRR.out ?_⟩
  rintro e W2 ⟨rfl, hJ2, hfy⟩
  have bx := HX.out.keep (hfy.block _ HX.out.lt (by omega) (fun h => by have := HT0.out _ (HT1.out _ h); omega))
  have T3 : W2.cell? ⟨W.heap.size, 3, none⟩ = some (.slice a kids.length cap) := bx.cell 3 (by simp)
  clear hy HRR HX bx
  gi_wp2
  have hsz1 : (W.alloc (.cells #[.string n, .string x, .bool lf, .slice a kids.length cap] 26)).heap.size = W.heap.size + 1 := by simp
  have hk2 : KpP T l (.slice pa xs.length pc) W W2 := by
    have hs := hfy.size
    rw [hsz1] at hs
    refine ⟨by omega, fun q h1 h2 h3 _ => (hfy.block q (by omega) h2 (fun h => h3 (HT1.out q h))).trans ((bel_alloc W _).block q h1), fun q h => ?_⟩
    rcases hfy.turn q h with h | h
    · exact .inl (HT1.out q h)
    · rw [hsz1] at h
      exact .inr (by omega)
  have ho2 : W2.ownsRow B0 3 1 (.slice pa xs.length pc) xs.length (nums xs) := own_keep1 HO.out (fun q hq => (hfy.block q (by have := (World.ownsRow.lt HO.out q hq).2; omega) (by have := (World.ownsRow.lt HO.out q hq).1; omega) (fun h => HPT.out q hq (HT1.out q h))).trans ((bel_alloc W _).block q (World.ownsRow.lt HO.out q hq).2))
  have H2 := (show Hid (J (pre ++ [⟨((⟨n, x, lf, kids⟩, xs), .slice a kids.length cap, (.slice pa xs.length pc)), ⟨_, _, _, rfl⟩, ⟨_, _, _, rfl⟩⟩]) W2 ∧ KpP T l (.slice pa xs.length pc) W W2 ∧ W2.ownsRow B0 3 1 (.slice pa xs.length pc) xs.length (nums xs)) from ⟨hJ2, hk2, ho2⟩)
  clear hJ2 hk2 ho2 hfy hsz1 T3
  generalize hx0 : (⟨((⟨n, x, lf, kids⟩, xs), .slice a kids.length cap, (.slice pa xs.length pc)), ⟨_, _, _, rfl⟩, ⟨_, _, _, rfl⟩⟩ : Yp) = x0 at *
  have HX0 := (show Hid (x0.1.1 = (⟨n, x, lf, kids⟩, xs)) from by subst hx0; rfl)
  clear hx0
  have hcnt := hk
  rw [Tr.cnt_mk] at hcnt
  obtain ⟨i3, hi3, hz0, hz1, hz2⟩ := info_parts info3i
  refine wpIn_wide.2 ?_
  go_loopw [17] (fun i wr => ∃ (j : Nat) (ys : List Yp), i = .int .i64 j ∧ j ≤ kids.length ∧ Hid (ys.map (fun y => y.1.1) = spK ((kids.take j).map ps) 0 xs ∧ J (pre ++ (x0 :: ys)) wr ∧ KpP T l (.slice pa xs.length pc) W wr ∧ wr.ownsRow B0 3 1 (.slice pa xs.length pc) xs.length (nums xs))) (fun i _ => kids.length - (intOf i).toNat)
  case atStart => exact ⟨0, [], rfl, Nat.zero_le _, rfl, H2.out.1, H2.out.2⟩
  case round =>
    obtain ⟨j, ys, rfl, hj, HJ⟩ := hrel
    clear H2
    by_cases hlt : j < kids.length
    · obtain ⟨rfl, hbn⟩ := HA.out (by omega)
      obtain ⟨d0, d1, d2, d3⟩ := HC.out j hlt
      obtain ⟨s1, s2, s3, hsv⟩ := (HK.out j hlt).form
      have hlow : ∀ q, q < n0 → wr.heap[q]? = W.heap[q]? := fun q hq => HJ.out.2.2.1.block q (by omega) (by omega) (fun h => by have := HT0.out q h; omega) (fun e => by have := (World.ownsRow.lt HO.out q e).1; omega)
      have mv : ∀ {o : Nat} {v : Value}, W.cell? ⟨b, o, none⟩ = some v → wr.cell? ⟨b, o, none⟩ = some v := fun h => (World.cell?_of_block (hlow b hbn)).trans h
      replace d0 := mv d0
      replace d1 := mv d1
      replace d2 := mv d2
      rw [hsv] at d3
      replace d3 := mv d3
      have hlk := (HK.out j hlt).keep hlow
      have hJw := HJ.out.2.1
      have hKw := HJ.out.2.2.1
      have hOw := HJ.out.2.2.2
      have hBw : B0 ≤ wr.heap.size := Nat.le_trans hB hKw.size
      have bA : Below wr.heap.size wr (wr.alloc (.cells #[.string kids[j].name, .string kids[j].text, .bool kids[j].leaf, .slice s1 s2 s3] 26)) := bel_alloc _ _
      have bD : Below wr.heap.size wr (wr.alloc (.cells #[.string kids[j].name, .string kids[j].text, .bool kids[j].leaf, .slice s1 s2 s3] 26)).drew := bA.drew
      have bB : Below wr.heap.size wr ((wr.alloc (.cells #[.string kids[j].name, .string kids[j].text, .bool kids[j].leaf, .slice s1 s2 s3] 26)).drew.alloc (.cells #[.int .i64 j] 3)) := bD.alloc bD.size _
      have xA : Box (wr.alloc (.cells #[.string kids[j].name, .string kids[j].text, .bool kids[j].leaf, .slice s1 s2 s3] 26)) wr.heap.size 26 [.string kids[j].name, .string kids[j].text, .bool kids[j].leaf, .slice s1 s2 s3] := Box.new wr 26 _
      have xD := xA.still (Below.refl _ _).drew
      have sD : (wr.alloc (.cells #[.string kids[j].name, .string kids[j].text, .bool kids[j].leaf, .slice s1 s2 s3] 26)).drew.heap.size = wr.heap.size + 1 := by show (wr.alloc (.cells #[.string kids[j].name, .string kids[j].text, .bool kids[j].leaf, .slice s1 s2 s3] 26)).heap.size = _; simp
      have xB := xD.still (bel_alloc (wr.alloc (.cells #[.string kids[j].name, .string kids[j].text, .bool kids[j].leaf, .slice s1 s2 s3] 26)).drew (.cells #[.int .i64 j] 3))
      have p0 : (wr.alloc (.cells #[.string kids[j].name, .string kids[j].text, .bool kids[j].leaf, .slice s1 s2 s3] 26)).drew.cell? ⟨wr.heap.size, 0, none⟩ = some (.string kids[j].name) := xD.cell 0 (by simp)
      have p1 : (wr.alloc (.cells #[.string kids[j].name, .string kids[j].text, .bool kids[j].leaf, .slice s1 s2 s3] 26)).drew.cell? ⟨wr.heap.size, 1, none⟩ = some (.string kids[j].text) := xD.cell 1 (by simp)
      have p2 : (wr.alloc (.cells #[.string kids[j].name, .string kids[j].text, .bool kids[j].leaf, .slice s1 s2 s3] 26)).drew.cell? ⟨wr.heap.size, 2, none⟩ = some (.bool kids[j].leaf) := xD.cell 2 (by simp)
      have p3 : (wr.alloc (.cells #[.string kids[j].name, .string kids[j].text, .bool kids[j].leaf, .slice s1 s2 s3] 26)).drew.cell? ⟨wr.heap.size, 3, none⟩ = some (.slice s1 s2 s3) := xD.cell 3 (by simp)
      have HO5 := (show Hid (((wr.alloc (.cells #[.string kids[j].name, .string kids[j].text, .bool kids[j].leaf, .slice s1 s2 s3] 26)).drew.alloc (.cells #[.int .i64 j] 3)).ownsRow B0 3 1 (.slice pa xs.length pc) xs.length (nums xs)) from own_still hOw bB)
      have HU5 := (show Hid (((wr.alloc (.cells #[.string kids[j].name, .string kids[j].text, .bool kids[j].leaf, .slice s1 s2 s3] 26)).drew.alloc (.cells #[.int .i64 j] 3)).cell? ⟨wr.heap.size + 1, 0, none⟩ = some (.int .i64 j)) from (by
        have h := (Box.new (wr.alloc (.cells #[.string kids[j].name, .string kids[j].text, .bool kids[j].leaf, .slice s1 s2 s3] 26)).drew 3 [.int .i64 j]).cell 0 (by simp)
        rw [sD] at h
        exact h))
      have HZ5 := (show Hid (B0 ≤ ((wr.alloc (.cells #[.string kids[j].name, .string kids[j].text, .bool kids[j].leaf, .slice s1 s2 s3] 26)).drew.alloc (.cells #[.int .i64 j] 3)).heap.size) from Nat.le_trans hBw bB.size)
      have HUP := (show Hid (∀ (v7 : Value) (w7 : World), OneMore B0 (.slice pa xs.length pc) v7 xs.length (nums xs) (.int .i64 j) ((wr.alloc (.cells #[.string kids[j].name, .string kids[j].text, .bool kids[j].leaf, .slice s1 s2 s3] 26)).drew.alloc (.cells #[.int .i64 j] 3)) w7 → (w7.cell? ⟨wr.heap.size, 0, none⟩ = some (.string kids[j].name) ∧ w7.cell? ⟨wr.heap.size, 1, none⟩ = some (.string kids[j].text) ∧ w7.cell? ⟨wr.heap.size, 2, none⟩ = some (.bool kids[j].leaf) ∧ w7.cell? ⟨wr.heap.size, 3, none⟩ = some (.slice s1 s2 s3)) ∧ Hid (Calls Try.prog 58 #[.agg #[.string kids[j].name, .string kids[j].text, .bool kids[j].leaf, .slice s1 s2 s3], v7, .func (.yield l) #[] #[]] w7 fun e W8 => e = .returned (.bool true) ∧ Hid (∃ ys2 : List Yp, Hid (ys2.map (fun y => y.1.1) = spK ((kids.take (j + 1)).map ps) 0 xs ∧ J (pre ++ (x0 :: ys2)) W8 ∧ KpP T l (.slice pa xs.length pc) W W8 ∧ W8.ownsRow B0 3 1 (.slice pa xs.length pc) xs.length (nums xs))))) from fun v7 w7 hom => by
        obtain ⟨o7, ⟨g7, c7, rfl⟩, gr7, alt⟩ := hom
        have nl : ∀ q, (Value.slice pa xs.length pc).ownBlock = some q → B0 ≤ q ∧ q < wr.heap.size := fun q hq => World.ownsRow.lt hOw q hq
        have npT : ∀ q, (Value.slice pa xs.length pc).ownBlock = some q → ¬ T wr q := fun q hq h => by
          rcases hKw.turn q h with h | h
          · exact HPT.out q hq h
          · have := (World.ownsRow.lt HO.out q hq).2
            omega
        have x7 := xB.keep (gr7.block _ xB.lt (fun e => by have := (nl _ e.symm).2; omega))
        refine ⟨⟨x7.cell 0 (by simp), x7.cell 1 (by simp), x7.cell 2 (by simp), x7.cell 3 (by simp)⟩, ?_⟩
        obtain ⟨jB, tB⟩ := hJb _ _ _ none hJw (grown_of_below bB none) (fun r e => by cases e)
        obtain ⟨j7, t7⟩ := hJb _ _ _ _ jB gr7 (fun r e => ⟨(nl r e).1, fun h => npT r e (tB r h)⟩)
        have l7 : Lies w7 (fun q => q < n0) kids[j] (.slice s1 s2 s3) := by
          rw [← hsv]
          exact (hlk.still bB).keep (fun q hq => gr7.block q (by have := bB.size; omega) (fun e => by have := (nl q e.symm).1; omega))
        have z7 : B0 ≤ w7.heap.size := Nat.le_trans hBw (Nat.le_trans bB.size gr7.size)
        have hlen : (xs ++ [j]).length = xs.length + 1 := by simp
        have c7' : (xs ++ [j]).length + kids[j].cnt ≤ 1000000 := by
          have := Tr.cntL_take_succ kids j hlt
          have := Tr.cntL_take_le kids (j + 1)
          omega
        have p7 : ∀ q, (Value.slice (some ⟨g7, 0, none⟩) (xs.length + 1) c7).ownBlock = some q → ¬ T w7 q := fun q hq h => by
          have h2 := tB q (t7 q h)
          rcases alt with ⟨ea, _⟩ | ⟨ea, _⟩
          · exact npT q (ea ▸ hq) h2
          · rw [ea] at hq
            injection hq with hq
            have := (hTl _ wr q hJw h2).2.1
            have := bB.size
            omega
        have hfew7 : (pre ++ (x0 :: ys)).length + kids[j].cnt ≤ N := by
          have h1 := congrArg List.length HJ.out.1
          rw [List.length_map, spK_len] at h1
          have := Tr.cntL_take_succ kids j hlt
          have := Tr.cntL_take_le kids (j + 1)
          simp only [List.length_append, List.length_cons]
          omega
        have hcall := (callsIn_wide (n := m)).1 (HI.out j hlt m (.slice s1 s2 s3) (.slice (some ⟨g7, 0, none⟩) (xs.length + 1) c7) (xs ++ [j]) (pre ++ (x0 :: ys)) w7 l7 j7 z7 (by rw [hlen, nums_app]; exact o7) p7 c7' hfew7)
        simp only [Tr.val] at hcall
        refine Calls.mono hcall ?_
        rintro e W8 ⟨rfl, ys', e1, e2, e3, e4⟩
        rw [hlen, nums_app] at e4
        have nT : ∀ q, q < W.heap.size → T w7 q → T W q := fun q hq h => by
          rcases hKw.turn q (tB q (t7 q h)) with h | h
          · exact h
          · omega
        refine ⟨rfl, ys ++ ys', ?_, ?_, ?_, ?_⟩
        · rw [List.map_append, HJ.out.1, e1, spK_take hlt]
        · simpa [List.append_assoc] using e2
        · refine ⟨Nat.le_trans hKw.size (Nat.le_trans bB.size (Nat.le_trans gr7.size e3.size)), fun q h1 h2 h3 h4 => ?_, fun q h => ?_⟩
          · have hqw : q < wr.heap.size := Nat.lt_of_lt_of_le h1 hKw.size
            rw [e3.block q (by have := bB.size; have := gr7.size; omega) h2 (fun h => h3 (nT q h1 h)) (fun e => by
              rcases alt with ⟨ea, _⟩ | ⟨ea, _⟩
              · exact h4 (ea ▸ e)
              · rw [ea] at e
                injection e with e
                have := bB.size
                omega), gr7.block q (by have := bB.size; omega) (fun e => h4 e.symm), bB.block q hqw, hKw.block q h1 h2 h3 h4]
          · rcases e3.turn q h with h | h
            · exact hKw.turn q (tB q (t7 q h))
            · exact .inr (Nat.le_trans hKw.size (Nat.le_trans bB.size (Nat.le_trans gr7.size h)))
        · rcases alt with ⟨ea, eb⟩ | ⟨ea, eb⟩
          · exact eb W8 e4
          · refine own_keep1 (own_still hOw bB) (fun q hq => ?_)
            have hqn := nl q hq
            have hsB := bB.size
            rw [e3.block q (by have := gr7.size; omega) (by omega) (fun h => npT q hq (tB q (t7 q h))) (fun e => by
              rw [ea] at e
              injection e with e
              omega), eb.block q (by omega) (fun e => by cases e)])
      have i1 : (0 : Int) ≤ (j : Int) := by omega
      have i2 : (j : Int) < (kids.length : Int) := by omega
      have hxl : xs.length + 1 ≤ 1000000 := by have := Tr.cnt_pos kids[j]; have := Tr.cntL_take_succ kids j hlt; have := Tr.cntL_take_le kids (j + 1); omega
      clear HJ hlow hlk hJw hKw hOw bA bD bB xA xD xB HX0 HI HK HC HA HO HPT HT0 HT1
      generalize kids[j].name = y0 at *
      generalize kids[j].text = y1 at *
      generalize kids[j].leaf = y2 at *
      go_wp2_with fail
      refine wp_region_held_drew (S := (fun _ => True)) (by kernel_rfl) trivial (fun hHeld => ?_)
      refine wpAnyH_take (i := 1) (oi := { dst := some 23, op := Go.Op.move (Go.Operand.tmp 1), type := 40, pos := "l11_rewriting.go:148", after := #[], guard := none }) (v := ?v1) rfl (by kernel_rfl) (by kernel_rfl) (by kernel_rfl) (fun _ _ _ h => h) (Or.inl ⟨by rfl, ?h1⟩) hHeld ?r1
      case h1 => (intro w hSw; (try dsimp only at hSw); go_simp; try with_reducible rfl)
      try simp only [Act.put, List.setIfInBounds_toArray, List.set_cons_zero, List.set_cons_succ]
      refine wpAnyH_take (i := 2) (oi := { dst := some 24, op := Go.Op.move (Go.Operand.tmp 7), type := 3, pos := "l11_rewriting.go:148", after := #[], guard := none }) (v := ?v2) rfl (by kernel_rfl) (by kernel_rfl) (by kernel_rfl) (fun _ _ _ h => h) (Or.inl ⟨by rfl, ?h2⟩) hHeld ?r2
      case h2 => (intro w hSw; (try dsimp only at hSw); go_simp; try with_reducible rfl)
      try simp only [Act.put, List.setIfInBounds_toArray, List.set_cons_zero, List.set_cons_succ]
      refine wpAnyH_take (i := 5) (oi := { dst := some 27, op := Go.Op.move (Go.Operand.tmp 2), type := 88, pos := "l11_rewriting.go:148", after := #[], guard := none }) (v := ?v3) rfl (by kernel_rfl) (by kernel_rfl) (by kernel_rfl) (fun _ _ _ h => h) (Or.inl ⟨by rfl, ?h3⟩) hHeld ?r3
      case h3 => (intro w hSw; (try dsimp only at hSw); go_simp; try with_reducible rfl)
      try simp only [Act.put, List.setIfInBounds_toArray, List.set_cons_zero, List.set_cons_succ]
      refine wpAnyH_ready (rs := [0, 3]) (by kernel_rfl) (by simp) ?_
      refine (AllReadyH.cons (o := { dst := some 22, op := Go.Op.load 26 (Go.Operand.tmp 8), type := 26, pos := "l11_rewriting.go:148", after := #[], guard := none }) rfl (fun K hK => ?_) (AllReadyH.cons (o := { dst := some 25, op := Go.Op.buildSlice 40 1 #[(0, Go.Operand.tmp 24)], type := 40, pos := "l11_rewriting.go:148", after := #[{ on := 2, ground := Go.Ground.data }], guard := none }) rfl (fun K hK => ?_) AllReadyH.nil))
      · go_simp
        clear hHeld
        refine hK.out _ _ trivial (fun hHeld => ?_)
        clear hK K
        try simp only [Act.put, List.setIfInBounds_toArray, List.set_cons_zero, List.set_cons_succ]
        refine wpAnyH_ready (rs := [3]) (by kernel_rfl) (by simp) ?_
        refine (AllReadyH.cons (o := { dst := some 25, op := Go.Op.buildSlice 40 1 #[(0, Go.Operand.tmp 24)], type := 40, pos := "l11_rewriting.go:148", after := #[{ on := 2, ground := Go.Ground.data }], guard := none }) rfl (fun K hK => ?_) AllReadyH.nil)
        go_simp
        clear hHeld
        refine hK.out _ _ trivial (fun hHeld => ?_)
        clear hK K
        try simp only [Act.put, List.setIfInBounds_toArray, List.set_cons_zero, List.set_cons_succ]
        refine wpAnyH_ready (rs := [4]) (by kernel_rfl) (by simp) ?_
        refine (AllReadyH.cons (o := { dst := some 26, op := Go.Op.call { callee := Go.Callee.builtin Go.Builtin.append, args := #[Go.Operand.tmp 23, Go.Operand.tmp 25], argTypes := #[40, 40] }, type := 40, pos := "l11_rewriting.go:148", after := #[{ on := 1, ground := Go.Ground.data }, { on := 3, ground := Go.Ground.data }], guard := none }) rfl (fun K hK => ?_) AllReadyH.nil)
        (refine step_append_one _ rfl (.tmp 23) (.tmp 25) 40 rfl B0 i3 _ 8 Try.underlying40 hi3 hz0 hz1 hz2 rfl _ xs.length (nums xs) (by simp [Act.eval, Act.put]) HO5.out ⟨wr.heap.size + 1, 0, none⟩ 1 (.int .i64 j) (by simp [Act.eval, Act.put]) HU5.out rfl (by unfold maxLen; omega) (by omega) HZ5.out ?_; intro v7 w7 hom; obtain ⟨hc7, HCL⟩ := HUP.out v7 w7 hom; obtain ⟨k0, k1, k2, k3⟩ := hc7; clear hom HUP HO5 HU5 HZ5)
        clear hHeld
        refine hK.out _ _ trivial (fun hHeld => ?_)
        clear hK K
        try simp only [Act.put, List.setIfInBounds_toArray, List.set_cons_zero, List.set_cons_succ]
        refine wpAnyH_ready (rs := [6]) (by kernel_rfl) (by simp) ?_
        refine (AllReadyH.cons (o := { dst := some 28, op := Go.Op.call { callee := Go.Callee.value (Go.Operand.func 58), args := #[Go.Operand.tmp 22, Go.Operand.tmp 26, Go.Operand.tmp 27], argTypes := #[26, 40, 88] }, type := 4, pos := "l11_rewriting.go:148", after := #[{ on := 0, ground := Go.Ground.data }, { on := 4, ground := Go.Ground.data }, { on := 5, ground := Go.Ground.data }, { on := 4, ground := Go.Ground.chain }], guard := none }) rfl (fun K hK => ?_) AllReadyH.nil)
        go_simp
        refine Calls.mono HCL.out ?_
        rintro e W8 ⟨rfl, HT8⟩
        dsimp only
        clear hHeld
        refine hK.out _ _ trivial (fun hHeld => ?_)
        clear hK K
        try simp only [Act.put, List.setIfInBounds_toArray, List.set_cons_zero, List.set_cons_succ]
        refine wpAnyH_take (i := 7) (oi := { dst := some 29, op := Go.Op.unOp Go.UnOp.not 4 (Go.Operand.tmp 28), type := 4, pos := "l11_rewriting.go:148", after := #[{ on := 6, ground := Go.Ground.data }], guard := none }) (v := ?v4) rfl (by kernel_rfl) (by kernel_rfl) (by kernel_rfl) (fun _ _ _ h => h) (Or.inl ⟨by rfl, ?h4⟩) hHeld ?r4
        case h4 => (intro w hSw; (try dsimp only at hSw); go_simp; try with_reducible rfl)
        try simp only [Act.put, List.setIfInBounds_toArray, List.set_cons_zero, List.set_cons_succ]
        refine wpAnyH_done (by kernel_rfl) ?_ _
        go_wp2_with fail
        obtain ⟨ys2, HN⟩ := HT8.out
        exact ⟨⟨j + 1, ys2, by go_num, by omega, HN⟩, by simp [intOf]; omega⟩
      · go_simp
        clear hHeld
        refine hK.out _ _ trivial (fun hHeld => ?_)
        clear hK K
        try simp only [Act.put, List.setIfInBounds_toArray, List.set_cons_zero, List.set_cons_succ]
        refine wpAnyH_ready (rs := [0, 4]) (by kernel_rfl) (by simp) ?_
        refine (AllReadyH.cons (o := { dst := some 22, op := Go.Op.load 26 (Go.Operand.tmp 8), type := 26, pos := "l11_rewriting.go:148", after := #[], guard := none }) rfl (fun K hK => ?_) (AllReadyH.cons (o := { dst := some 26, op := Go.Op.call { callee := Go.Callee.builtin Go.Builtin.append, args := #[Go.Operand.tmp 23, Go.Operand.tmp 25], argTypes := #[40, 40] }, type := 40, pos := "l11_rewriting.go:148", after := #[{ on := 1, ground := Go.Ground.data }, { on := 3, ground := Go.Ground.data }], guard := none }) rfl (fun K hK => ?_) AllReadyH.nil))
        · go_simp
          clear hHeld
          refine hK.out _ _ trivial (fun hHeld => ?_)
          clear hK K
          try simp only [Act.put, List.setIfInBounds_toArray, List.set_cons_zero, List.set_cons_succ]
          refine wpAnyH_ready (rs := [4]) (by kernel_rfl) (by simp) ?_
          refine (AllReadyH.cons (o := { dst := some 26, op := Go.Op.call { callee := Go.Callee.builtin Go.Builtin.append, args := #[Go.Operand.tmp 23, Go.Operand.tmp 25], argTypes := #[40, 40] }, type := 40, pos := "l11_rewriting.go:148", after := #[{ on := 1, ground := Go.Ground.data }, { on := 3, ground := Go.Ground.data }], guard := none }) rfl (fun K hK => ?_) AllReadyH.nil)
          (refine step_append_one _ rfl (.tmp 23) (.tmp 25) 40 rfl B0 i3 _ 8 Try.underlying40 hi3 hz0 hz1 hz2 rfl _ xs.length (nums xs) (by simp [Act.eval, Act.put]) HO5.out ⟨wr.heap.size + 1, 0, none⟩ 1 (.int .i64 j) (by simp [Act.eval, Act.put]) HU5.out rfl (by unfold maxLen; omega) (by omega) HZ5.out ?_; intro v7 w7 hom; obtain ⟨hc7, HCL⟩ := HUP.out v7 w7 hom; obtain ⟨k0, k1, k2, k3⟩ := hc7; clear hom HUP HO5 HU5 HZ5)
          clear hHeld
          refine hK.out _ _ trivial (fun hHeld => ?_)
          clear hK K
          try simp only [Act.put, List.setIfInBounds_toArray, List.set_cons_zero, List.set_cons_succ]
          refine wpAnyH_ready (rs := [6]) (by kernel_rfl) (by simp) ?_
          refine (AllReadyH.cons (o := { dst := some 28, op := Go.Op.call { callee := Go.Callee.value (Go.Operand.func 58), args := #[Go.Operand.tmp 22, Go.Operand.tmp 26, Go.Operand.tmp 27], argTypes := #[26, 40, 88] }, type := 4, pos := "l11_rewriting.go:148", after := #[{ on := 0, ground := Go.Ground.data }, { on := 4, ground := Go.Ground.data }, { on := 5, ground := Go.Ground.data }, { on := 4, ground := Go.Ground.chain }], guard := none }) rfl (fun K hK => ?_) AllReadyH.nil)
          go_simp
          refine Calls.mono HCL.out ?_
          rintro e W8 ⟨rfl, HT8⟩
          dsimp only
          clear hHeld
          refine hK.out _ _ trivial (fun hHeld => ?_)
          clear hK K
          try simp only [Act.put, List.setIfInBounds_toArray, List.set_cons_zero, List.set_cons_succ]
          refine wpAnyH_take (i := 7) (oi := { dst := some 29, op := Go.Op.unOp Go.UnOp.not 4 (Go.Operand.tmp 28), type := 4, pos := "l11_rewriting.go:148", after := #[{ on := 6, ground := Go.Ground.data }], guard := none }) (v := ?v6) rfl (by kernel_rfl) (by kernel_rfl) (by kernel_rfl) (fun _ _ _ h => h) (Or.inl ⟨by rfl, ?h6⟩) hHeld ?r6
          case h6 => (intro w hSw; (try dsimp only at hSw); go_simp; try with_reducible rfl)
          try simp only [Act.put, List.setIfInBounds_toArray, List.set_cons_zero, List.set_cons_succ]
          refine wpAnyH_done (by kernel_rfl) ?_ _
          go_wp2_with fail
          obtain ⟨ys2, HN⟩ := HT8.out
          exact ⟨⟨j + 1, ys2, by go_num, by omega, HN⟩, by simp [intOf]; omega⟩
        · -- the row first
          (refine step_append_one _ rfl (.tmp 23) (.tmp 25) 40 rfl B0 i3 _ 8 Try.underlying40 hi3 hz0 hz1 hz2 rfl _ xs.length (nums xs) (by simp [Act.eval, Act.put]) HO5.out ⟨wr.heap.size + 1, 0, none⟩ 1 (.int .i64 j) (by simp [Act.eval, Act.put]) HU5.out rfl (by unfold maxLen; omega) (by omega) HZ5.out ?_; intro v7 w7 hom; obtain ⟨hc7, HCL⟩ := HUP.out v7 w7 hom; obtain ⟨k0, k1, k2, k3⟩ := hc7; clear hom HUP HO5 HU5 HZ5)
          clear hHeld
          refine hK.out _ _ trivial (fun hHeld => ?_)
          clear hK K
          try simp only [Act.put, List.setIfInBounds_toArray, List.set_cons_zero, List.set_cons_succ]
          refine wpAnyH_ready (rs := [0]) (by kernel_rfl) (by simp) ?_
          refine (AllReadyH.cons (o := { dst := some 22, op := Go.Op.load 26 (Go.Operand.tmp 8), type := 26, pos := "l11_rewriting.go:148", after := #[], guard := none }) rfl (fun K hK => ?_) AllReadyH.nil)
          go_simp
          clear hHeld
          refine hK.out _ _ trivial (fun hHeld => ?_)
          clear hK K
          try simp only [Act.put, List.setIfInBounds_toArray, List.set_cons_zero, List.set_cons_succ]
          refine wpAnyH_ready (rs := [6]) (by kernel_rfl) (by simp) ?_
          refine (AllReadyH.cons (o := { dst := some 28, op := Go.Op.call { callee := Go.Callee.value (Go.Operand.func 58), args := #[Go.Operand.tmp 22, Go.Operand.tmp 26, Go.Operand.tmp 27], argTypes := #[26, 40, 88] }, type := 4, pos := "l11_rewriting.go:148", after := #[{ on := 0, ground := Go.Ground.data }, { on := 4, ground := Go.Ground.data }, { on := 5, ground := Go.Ground.data }, { on := 4, ground := Go.Ground.chain }], guard := none }) rfl (fun K hK => ?_) AllReadyH.nil)
          go_simp
          refine Calls.mono HCL.out ?_
          rintro e W8 ⟨rfl, HT8⟩
          dsimp only
          clear hHeld
          refine hK.out _ _ trivial (fun hHeld => ?_)
          clear hK K
          try simp only [Act.put, List.setIfInBounds_toArray, List.set_cons_zero, List.set_cons_succ]
          refine wpAnyH_take (i := 7) (oi := { dst := some 29, op := Go.Op.unOp Go.UnOp.not 4 (Go.Operand.tmp 28), type := 4, pos := "l11_rewriting.go:148", after := #[{ on := 6, ground := Go.Ground.data }], guard := none }) (v := ?v8) rfl (by kernel_rfl) (by kernel_rfl) (by kernel_rfl) (fun _ _ _ h => h) (Or.inl ⟨by rfl, ?h8⟩) hHeld ?r8
          case h8 => (intro w hSw; (try dsimp only at hSw); go_simp; try with_reducible rfl)
          try simp only [Act.put, List.setIfInBounds_toArray, List.set_cons_zero, List.set_cons_succ]
          refine wpAnyH_done (by kernel_rfl) ?_ _
          go_wp2_with fail
          obtain ⟨ys2, HN⟩ := HT8.out
          exact ⟨⟨j + 1, ys2, by go_num, by omega, HN⟩, by simp [intOf]; omega⟩
    · have hje : j = kids.length := by omega
      subst hje
      have HE := (show Hid (TpA T l B0 J ⟨n, x, lf, kids⟩ (.slice pa xs.length pc) xs pre W (.returned (.bool true)) wr) from ⟨rfl, x0 :: ys, by rw [List.map_cons, HX0.out, ps_mk, HJ.out.1, List.take_length], HJ.out.2.1, HJ.out.2.2.1, HJ.out.2.2.2⟩)
      clear HJ HI HK HC HA HO
      go_wp2_with fail
      gi_wp2
      go_ret
      exact HE.out
end Go.Proofs.Ytbgoikaelmacbaa
