import Derived.Test.YtpbpmhgoppbfnaaCa
import Derived.Test.YtpbpmhgoppbfnaaSo
import Derived.Lib.MinMax
import Derived.Deep.RegionHeld3
import Derived.BigQuiet
/-! The specification's table of counts: what lies there, and how it stays right. -/
namespace Go.Proofs.Ytpbpmhgoppbfnaa
open Go.RowKit Go.Deep
set_option linter.unusedVariables false
set_option maxRecDepth 100000
set_option linter.unusedSimpArgs false

/-- All that stays as it is while the specification counts. -/
structure Sx where
  W0 : World
  d : Bn
  W : List Int
  V : Nat → Nat → Nat → Nat
  h : Nat → Nat
  g : Nat
  bnl : Nat
  nl : List Bool
  a0 : Option Addr
  c0 : Nat
  a1 : Option Addr
  c1 : Nat
  a3 : Option Addr
  c3 : Nat
  vw : Value
  bN : Nat
  cN : Nat
  vM : Value
  bM : Nat
  cM : Nat
  bk : Nat → Nat
  ck : Nat → Nat
  rr : Nat → Nat → Nat
  cr : Nat → Nat → Nat
  bp : Nat → Nat
/-- The Right of a Prod. -/
def Sx.rt (s : Sx) (p : Nat) : List Int := (s.d.prods.getD p ⟨0, [], ByteArray.empty, 0, 0⟩).right
def Sx.n1 (s : Sx) : Nat := s.W.length + 1
/-- What is known of it. -/
structure SxOK (S : Nat → Prop) (s : Sx) : Prop where
  hok : Bok s.d
  cn : Cn s.d s.W s.V
  nsd : Nsd s.d.terms.length (bps s.d) (Nf s.d.terms.length s.nl)
  qu : ∀ p ∈ bps s.d, quN s.d.terms.length s.nl p
  nlen : s.nl.length = s.d.nons.length
  prods : Pds s.W0 S s.d.prods (.slice s.a3 s.d.prods.length s.c3)
  word : Ints s.W0 S s.W s.vw
  wlen : s.W.length ≤ 40
  hh : ∀ x, s.h x ≤ s.d.terms.length + s.d.nons.length
  hl : ∀ x y, y < s.d.terms.length + s.d.nons.length → Es s.d x y → s.h y < s.h x
  cN1 : s.d.nons.length ≤ s.cN ∧ s.cN ≤ maxLen
  cM1 : s.d.prods.length ≤ s.cM ∧ s.cM ≤ maxLen
  vM1 : 0 < s.d.prods.length → s.vM = .slice (some ⟨s.bM, 0, none⟩) s.d.prods.length s.cM
  ck1 : ∀ k, k < s.d.nons.length → s.n1 ≤ s.ck k ∧ s.ck k ≤ maxLen
  cr1 : ∀ k i, k < s.d.nons.length → i < s.n1 → s.n1 ≤ s.cr k i ∧ s.cr k i ≤ maxLen
/-- A count, or none yet. -/
def okN (s : Sx) (k i j : Nat) (v : Value) : Prop := v = .int .i64 (-1) ∨ v = .int .i64 (cp (s.V (s.d.terms.length + k) i j) : Nat)
def okM (s : Sx) (p a i j : Nat) (v : Value) : Prop := v = .int .i64 0 ∨ v = .int .i64 ((cp (LF s.V ((nats (s.rt p)).drop a) i j) + 1 : Nat) : Int)
/-- A memo's row, or none yet. -/
def msl (s : Sx) : Option Nat → Value
  | none => .slice none 0 0
  | some q => .slice (some ⟨q, 0, none⟩) (s.n1 * s.n1) (s.n1 * s.n1)
structure TB (s : Sx) (ow : Nat → Nat × Nat × Nat) (mm : Nat → Nat → Option Nat) (w : World) : Prop where
  bel : Below s.W0.heap.size s.W0 w
  box : Box w s.g 116 [.slice s.a0 s.d.terms.length s.c0, .slice s.a1 s.d.nons.length s.c1, .int .i64 s.d.own, .slice s.a3 s.d.prods.length s.c3, .slice (some ⟨s.bnl, 0, none⟩) s.nl.length s.nl.length, s.vw, .slice (some ⟨s.bN, 0, none⟩) s.d.nons.length s.cN, s.vM]
  nul : BRow w s.bnl s.nl
  nrow : ∀ k, k < s.d.nons.length → w.cell? ⟨s.bN, k, none⟩ = some (.slice (some ⟨s.bk k, 0, none⟩) s.n1 (s.ck k))
  krow : ∀ k i, k < s.d.nons.length → i < s.n1 → w.cell? ⟨s.bk k, i, none⟩ = some (.slice (some ⟨s.rr k i, 0, none⟩) s.n1 (s.cr k i))
  vals : ∀ k i, k < s.d.nons.length → i < s.n1 → ∃ f, w.rowIs (s.rr k i) 3 (s.cr k i) f ∧ ∀ j, j < s.n1 → okN s k i j (f j)
  mrow : ∀ p, p < s.d.prods.length → w.cell? ⟨s.bM, p, none⟩ = some (.slice (some ⟨s.bp p, 0, none⟩) (s.rt p).length (s.rt p).length)
  prow : ∀ p, p < s.d.prods.length → ∃ f, w.rowIs (s.bp p) 28 (s.rt p).length f ∧ ∀ a, a < (s.rt p).length → f a = msl s (mm p a)
  mval : ∀ p a q, p < s.d.prods.length → a < (s.rt p).length → mm p a = some q → ∃ f, w.rowIs q 3 (s.n1 * s.n1) f ∧ ∀ i j, i < s.n1 → j < s.n1 → okM s p a i j (f (i * s.n1 + j))
  oG : ow s.g = (1, 0, 0)
  oB : ow s.bnl = (2, 0, 0)
  oN : ow s.bN = (3, 0, 0)
  oM : 0 < s.d.prods.length → ow s.bM = (4, 0, 0)
  oK : ∀ k, k < s.d.nons.length → ow (s.bk k) = (5, k, 0)
  oP : ∀ p, p < s.d.prods.length → ow (s.bp p) = (6, p, 0)
  oR : ∀ k i, k < s.d.nons.length → i < s.n1 → ow (s.rr k i) = (7, k, i)
  oQ : ∀ p a q, p < s.d.prods.length → a < (s.rt p).length → mm p a = some q → ow q = (8, p, a)
  hi : ∀ b, ow b ≠ (0, 0, 0) → s.W0.heap.size ≤ b ∧ b < w.heap.size
/-- Blocks that are owned stay: so does the table. -/
theorem TB.keep {s : Sx} {ow : Nat → Nat × Nat × Nat} {mm : Nat → Nat → Option Nat} {w w' : World} (h : TB s ow mm w) (hb : Below s.W0.heap.size w w') (hk : ∀ b, ow b ≠ (0, 0, 0) → w'.heap[b]? = w.heap[b]?) : TB s ow mm w' := by
  have hc : ∀ b o v, ow b ≠ (0, 0, 0) → w.cell? ⟨b, o, none⟩ = some v → w'.cell? ⟨b, o, none⟩ = some v := fun b o v ho hv => (World.cell?_of_block (w := w) (hk b ho)).trans hv
  refine ⟨h.bel.trans hb, h.box.keep (hk _ (by rw [h.oG]; simp)), World.rowIs.of_block h.nul (hk _ (by rw [h.oB]; simp)), fun k hkk => hc _ _ _ (by rw [h.oN]; simp) (h.nrow k hkk), fun k i hkk hii => hc _ _ _ (by rw [h.oK k hkk]; simp) (h.krow k i hkk hii), fun k i hkk hii => ?_, fun p hp => hc _ _ _ (by rw [h.oM (by omega)]; simp) (h.mrow p hp), fun p hp => ?_, fun p a q hp ha hq => ?_, h.oG, h.oB, h.oN, h.oM, h.oK, h.oP, h.oR, h.oQ, fun b ho => ⟨(h.hi b ho).1, Nat.lt_of_lt_of_le (h.hi b ho).2 hb.size⟩⟩
  · obtain ⟨f, h1, h2⟩ := h.vals k i hkk hii
    exact ⟨f, World.rowIs.of_block h1 (hk _ (by rw [h.oR k i hkk hii]; simp)), h2⟩
  · obtain ⟨f, h1, h2⟩ := h.prow p hp
    exact ⟨f, World.rowIs.of_block h1 (hk _ (by rw [h.oP p hp]; simp)), h2⟩
  · obtain ⟨f, h1, h2⟩ := h.mval p a q hp ha hq
    exact ⟨f, World.rowIs.of_block h1 (hk _ (by rw [h.oQ p a q hp ha hq]; simp)), h2⟩
theorem TB.still {s : Sx} {ow : Nat → Nat × Nat × Nat} {mm : Nat → Nat → Option Nat} {w w' : World} (h : TB s ow mm w) (hb : Below w.heap.size w w') : TB s ow mm w' :=
  h.keep (hb.mono h.bel.size) (fun b ho => hb.block b (h.hi b ho).2)
/-- A count is written. -/
theorem TB.setN {s : Sx} {ow : Nat → Nat × Nat × Nat} {mm : Nat → Nat → Option Nat} {w : World} (h : TB s ow mm w) {k i j : Nat} (hk : k < s.d.nons.length) (hi : i < s.n1) (hj : j < s.n1) : TB s ow mm (w.setCell ⟨s.rr k i, j, none⟩ (.int .i64 (cp (s.V (s.d.terms.length + k) i j) : Nat))) := by
  have hoR := h.oR k i hk hi
  have hb : ∀ b, b ≠ s.rr k i → (w.setCell ⟨s.rr k i, j, none⟩ (.int .i64 (cp (s.V (s.d.terms.length + k) i j) : Nat))).heap[b]? = w.heap[b]? := fun b hb => blk_setCell_other _ _ _ _ (by exact hb)
  have hne : ∀ b t, ow b = t → t ≠ (7, k, i) → b ≠ s.rr k i := fun b t h1 h2 e => h2 (by rw [← h1, e, hoR])
  have hc : ∀ b o v, b ≠ s.rr k i → w.cell? ⟨b, o, none⟩ = some v → (w.setCell ⟨s.rr k i, j, none⟩ (.int .i64 (cp (s.V (s.d.terms.length + k) i j) : Nat))).cell? ⟨b, o, none⟩ = some v := fun b o v ho hv => (World.cell?_of_block (w := w) (hb b ho)).trans hv
  have hlow := (h.hi (s.rr k i) (by rw [hoR]; simp)).1
  refine ⟨h.bel.setCell (p := ⟨s.rr k i, j, none⟩) hlow _, h.box.keep (hb _ (hne _ _ h.oG (by simp))), World.rowIs.of_block h.nul (hb _ (hne _ _ h.oB (by simp))), fun k' hk' => hc _ _ _ (hne _ _ h.oN (by simp)) (h.nrow k' hk'), fun k' i' hk' hi' => hc _ _ _ (hne _ _ (h.oK k' hk') (by simp)) (h.krow k' i' hk' hi'), fun k' i' hk' hi' => ?_, fun p hp => hc _ _ _ (hne _ _ (h.oM (by omega)) (by simp)) (h.mrow p hp), fun p hp => ?_, fun p a q hp ha hq => ?_, h.oG, h.oB, h.oN, h.oM, h.oK, h.oP, h.oR, h.oQ, fun b ho => ⟨(h.hi b ho).1, by simpa [World.setCell] using (h.hi b ho).2⟩⟩
  · obtain ⟨f, h1, h2⟩ := h.vals k' i' hk' hi'
    by_cases e : k' = k ∧ i' = i
    · obtain ⟨rfl, rfl⟩ := e
      refine ⟨_, World.rowIs.set h1 j _, fun j' hj' => ?_⟩
      by_cases e2 : j' = j
      · subst e2; simp; exact .inr rfl
      · simp only [if_neg e2]; exact h2 j' hj'
    · exact ⟨f, World.rowIs.of_block h1 (hb _ (hne _ _ (h.oR k' i' hk' hi') (by simp; omega))), h2⟩
  · obtain ⟨f, h1, h2⟩ := h.prow p hp
    exact ⟨f, World.rowIs.of_block h1 (hb _ (hne _ _ (h.oP p hp) (by simp))), h2⟩
  · obtain ⟨f, h1, h2⟩ := h.mval p a q hp ha hq
    exact ⟨f, World.rowIs.of_block h1 (hb _ (hne _ _ (h.oQ p a q hp ha hq) (by simp))), h2⟩
/-- A place in a memo's row is one place. -/
theorem at_inj {n i j i' j' : Nat} (hj : j < n) (hj' : j' < n) (h : i * n + j = i' * n + j') : i = i' ∧ j = j' := by
  have e1 : (i * n + j) / n = i := by rw [Nat.mul_comm, Nat.mul_add_div (by omega), Nat.div_eq_of_lt hj, Nat.add_zero]
  have e2 : (i' * n + j') / n = i' := by rw [Nat.mul_comm, Nat.mul_add_div (by omega), Nat.div_eq_of_lt hj', Nat.add_zero]
  have e3 : i = i' := by rw [← e1, ← e2, h]
  subst e3
  exact ⟨rfl, by omega⟩
theorem at_lt {n i j : Nat} (hi : i < n) (hj : j < n) : i * n + j < n * n := by
  have : (i + 1) * n ≤ n * n := Nat.mul_le_mul_right _ hi
  rw [Nat.add_mul, Nat.one_mul] at this
  omega
/-- A memo is written. -/
theorem TB.setM {s : Sx} {ow : Nat → Nat × Nat × Nat} {mm : Nat → Nat → Option Nat} {w : World} (h : TB s ow mm w) {p a q i j : Nat} (hp : p < s.d.prods.length) (ha : a < (s.rt p).length) (hq : mm p a = some q) (hi : i < s.n1) (hj : j < s.n1) : TB s ow mm (w.setCell ⟨q, i * s.n1 + j, none⟩ (.int .i64 ((cp (LF s.V ((nats (s.rt p)).drop a) i j) + 1 : Nat) : Int))) := by
  have hoQ := h.oQ p a q hp ha hq
  have hb : ∀ b, b ≠ q → (w.setCell ⟨q, i * s.n1 + j, none⟩ (.int .i64 ((cp (LF s.V ((nats (s.rt p)).drop a) i j) + 1 : Nat) : Int))).heap[b]? = w.heap[b]? := fun b hb => blk_setCell_other _ _ _ _ (by exact hb)
  have hne : ∀ b t, ow b = t → t ≠ (8, p, a) → b ≠ q := fun b t h1 h2 e => h2 (by rw [← h1, e, hoQ])
  have hc : ∀ b o v, b ≠ q → w.cell? ⟨b, o, none⟩ = some v → (w.setCell ⟨q, i * s.n1 + j, none⟩ (.int .i64 ((cp (LF s.V ((nats (s.rt p)).drop a) i j) + 1 : Nat) : Int))).cell? ⟨b, o, none⟩ = some v := fun b o v ho hv => (World.cell?_of_block (w := w) (hb b ho)).trans hv
  have hlow := (h.hi q (by rw [hoQ]; simp)).1
  refine ⟨h.bel.setCell (p := ⟨q, i * s.n1 + j, none⟩) hlow _, h.box.keep (hb _ (hne _ _ h.oG (by simp))), World.rowIs.of_block h.nul (hb _ (hne _ _ h.oB (by simp))), fun k' hk' => hc _ _ _ (hne _ _ h.oN (by simp)) (h.nrow k' hk'), fun k' i' hk' hi' => hc _ _ _ (hne _ _ (h.oK k' hk') (by simp)) (h.krow k' i' hk' hi'), fun k' i' hk' hi' => ?_, fun p hp => hc _ _ _ (hne _ _ (h.oM (by omega)) (by simp)) (h.mrow p hp), fun p' hp' => ?_, fun p' a' q' hp' ha' hq' => ?_, h.oG, h.oB, h.oN, h.oM, h.oK, h.oP, h.oR, h.oQ, fun b ho => ⟨(h.hi b ho).1, by simpa [World.setCell] using (h.hi b ho).2⟩⟩
  · obtain ⟨f, h1, h2⟩ := h.vals k' i' hk' hi'
    exact ⟨f, World.rowIs.of_block h1 (hb _ (hne _ _ (h.oR k' i' hk' hi') (by simp))), h2⟩
  · obtain ⟨f, h1, h2⟩ := h.prow p' hp'
    exact ⟨f, World.rowIs.of_block h1 (hb _ (hne _ _ (h.oP p' hp') (by simp))), h2⟩
  · obtain ⟨f, h1, h2⟩ := h.mval p' a' q' hp' ha' hq'
    by_cases e : p' = p ∧ a' = a
    · obtain ⟨rfl, rfl⟩ := e
      obtain rfl : q' = q := by rw [hq] at hq'; injection hq' with e; exact e.symm
      refine ⟨_, World.rowIs.set h1 (i * s.n1 + j) _, fun i' j' hi' hj' => ?_⟩
      by_cases e2 : i' * s.n1 + j' = i * s.n1 + j
      · obtain ⟨rfl, rfl⟩ := at_inj hj' hj e2
        simp; exact .inr rfl
      · simp only [if_neg e2]; exact h2 i' j' hi' hj'
    · exact ⟨f, World.rowIs.of_block h1 (hb _ (hne _ _ (h.oQ p' a' q' hp' ha' hq') (by simp; omega))), h2⟩
/-- A memo's row is made. -/
theorem TB.newM {s : Sx} {ow : Nat → Nat × Nat × Nat} {mm : Nat → Nat → Option Nat} {w : World} (h : TB s ow mm w) {p a : Nat} (hp : p < s.d.prods.length) (ha : a < (s.rt p).length) (hmm : mm p a = none) :
    TB s (fun b => if b = w.heap.size then (8, p, a) else ow b) (fun p' a' => if p' = p ∧ a' = a then some w.heap.size else mm p' a') ((w.alloc (.cells (madeCells #[.int .i64 0] (s.n1 * s.n1)) 3)).setCell ⟨s.bp p, a, none⟩ (msl s (some w.heap.size))) := by
  have hnew : ∀ b, ow b ≠ (0, 0, 0) → b ≠ w.heap.size := fun b hb e => by have := (h.hi b hb).2; omega
  have hb : ∀ b, b ≠ s.bp p → b < w.heap.size → ((w.alloc (.cells (madeCells #[.int .i64 0] (s.n1 * s.n1)) 3)).setCell ⟨s.bp p, a, none⟩ (msl s (some w.heap.size))).heap[b]? = w.heap[b]? := fun b hb hlt => (blk_setCell_other _ _ _ _ (by exact hb)).trans ((bel_alloc w _).block b hlt)
  have hoP := h.oP p hp
  have hne : ∀ b t, ow b = t → t ≠ (6, p, 0) → t ≠ (0, 0, 0) → b ≠ s.bp p ∧ b < w.heap.size := fun b t h1 h2 h3 => ⟨fun e => h2 (by rw [← h1, e, hoP]), (h.hi b (by rw [h1]; exact h3)).2⟩
  have hk : ∀ b t, ow b = t → t ≠ (6, p, 0) → t ≠ (0, 0, 0) → ((w.alloc (.cells (madeCells #[.int .i64 0] (s.n1 * s.n1)) 3)).setCell ⟨s.bp p, a, none⟩ (msl s (some w.heap.size))).heap[b]? = w.heap[b]? := fun b t h1 h2 h3 => hb b (hne b t h1 h2 h3).1 (hne b t h1 h2 h3).2
  have hc : ∀ b t o v, ow b = t → t ≠ (6, p, 0) → t ≠ (0, 0, 0) → w.cell? ⟨b, o, none⟩ = some v → ((w.alloc (.cells (madeCells #[.int .i64 0] (s.n1 * s.n1)) 3)).setCell ⟨s.bp p, a, none⟩ (msl s (some w.heap.size))).cell? ⟨b, o, none⟩ = some v := fun b t o v h1 h2 h3 hv => (World.cell?_of_block (w := w) (hk b t h1 h2 h3)).trans hv
  have hlow := (h.hi (s.bp p) (by rw [hoP]; simp)).1
  have how : ∀ b t, ow b = t → t ≠ (0, 0, 0) → (if b = w.heap.size then (8, p, a) else ow b) = t := fun b t h1 h2 => by rw [if_neg (hnew b (by rw [h1]; exact h2)), h1]
  refine ⟨(h.bel.alloc h.bel.size _).setCell (p := ⟨s.bp p, a, none⟩) hlow _, h.box.keep (hk _ _ h.oG (by simp) (by simp)), World.rowIs.of_block h.nul (hk _ _ h.oB (by simp) (by simp)), fun k' hk' => hc _ _ _ _ h.oN (by simp) (by simp) (h.nrow k' hk'), fun k' i' hk' hi' => hc _ _ _ _ (h.oK k' hk') (by simp) (by simp) (h.krow k' i' hk' hi'), fun k' i' hk' hi' => ?_, fun p hp => hc _ _ _ _ (h.oM (by omega)) (by simp) (by simp) (h.mrow p hp), fun p' hp' => ?_, fun p' a' q' hp' ha' hq' => ?_, how _ _ h.oG (by simp), how _ _ h.oB (by simp), how _ _ h.oN (by simp), fun h0 => how _ _ (h.oM h0) (by simp), fun k' hk' => how _ _ (h.oK k' hk') (by simp), fun p' hp' => how _ _ (h.oP p' hp') (by simp), fun k' i' hk' hi' => how _ _ (h.oR k' i' hk' hi') (by simp), fun p' a' q' hp' ha' hq' => ?_, fun b ho => ?_⟩
  · obtain ⟨f, h1, h2⟩ := h.vals k' i' hk' hi'
    exact ⟨f, World.rowIs.of_block h1 (hk _ _ (h.oR k' i' hk' hi') (by simp) (by simp)), h2⟩
  · obtain ⟨f, h1, h2⟩ := h.prow p' hp'
    by_cases e : p' = p
    · subst e
      have h3 : (w.alloc (.cells (madeCells #[.int .i64 0] (s.n1 * s.n1)) 3)).rowIs (s.bp p') 28 (s.rt p').length f := World.rowIs.of_block h1 ((bel_alloc w _).block _ (World.rowIs.lt h1))
      refine ⟨_, World.rowIs.set h3 a _, fun a' ha' => ?_⟩
      by_cases e2 : a' = a
      · subst e2; simp
      · simp only [if_neg e2, e2, and_false, if_false]; exact h2 a' ha'
    · refine ⟨f, World.rowIs.of_block h1 (hk _ _ (h.oP p' hp') (by simp [e]) (by simp)), fun a' ha' => ?_⟩
      simp only [e, false_and, if_false]
      exact h2 a' ha'
  · by_cases e : p' = p ∧ a' = a
    · obtain ⟨rfl, rfl⟩ := e
      simp only [and_self, if_true, Option.some.injEq] at hq'
      subst hq'
      obtain ⟨f, hf⟩ := row_made w #[.int .i64 0] (s.n1 * s.n1) 3
      have hne2 : w.heap.size ≠ s.bp p' := fun e => hnew (s.bp p') (by rw [hoP]; simp) e.symm
      refine ⟨f, World.rowIs.of_block hf (blk_setCell_other _ _ _ _ (by exact hne2)), fun i' j' hi' hj' => .inl ?_⟩
      obtain ⟨cs, g1, g2, g3⟩ := hf
      have g4 := g3 (i' * s.n1 + j') (at_lt hi' hj')
      have g5 : cs = madeCells #[.int .i64 0] (s.n1 * s.n1) := by
        have := (blk_alloc_new w (.cells (madeCells #[.int .i64 0] (s.n1 * s.n1)) 3)).symm.trans g1
        simpa using this.symm
      rw [g5] at g4
      have hlt := at_lt hi' hj'
      simp [madeCells, hlt, Nat.mod_one] at g4
      exact g4.symm
    · rw [if_neg e] at hq'
      obtain ⟨f, h1, h2⟩ := h.mval p' a' q' hp' ha' hq'
      exact ⟨f, World.rowIs.of_block h1 (hk _ _ (h.oQ p' a' q' hp' ha' hq') (by simp) (by simp)), h2⟩
  · by_cases e : p' = p ∧ a' = a
    · obtain ⟨rfl, rfl⟩ := e
      simp only [and_self, if_true, Option.some.injEq] at hq'
      subst hq'
      simp
    · rw [if_neg e] at hq'
      exact how _ _ (h.oQ p' a' q' hp' ha' hq') (by simp)
  · have hsz : ((w.alloc (.cells (madeCells #[.int .i64 0] (s.n1 * s.n1)) 3)).setCell ⟨s.bp p, a, none⟩ (msl s (some w.heap.size))).heap.size = w.heap.size + 1 := by simp [World.setCell]
    by_cases e : b = w.heap.size
    · subst e; exact ⟨h.bel.size, by omega⟩
    · rw [if_neg e] at ho
      have := h.hi b ho
      exact ⟨this.1, by omega⟩
end Go.Proofs.Ytpbpmhgoppbfnaa
