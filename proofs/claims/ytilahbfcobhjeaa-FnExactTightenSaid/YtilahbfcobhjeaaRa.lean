import Derived.Test.YtilahbfcobhjeaaPb
/-! A run of a program: plain mathematics. -/
namespace Go.Proofs.Ytilahbfcobhjeaa
open Go.RowKit Go.Deep
set_option linter.unusedVariables false
set_option maxRecDepth 100000
set_option linter.unusedSimpArgs false

/-- How far a run has come: the next instruction, the place, the pile, what was told. -/
structure Rn where
  pc : Nat
  place : Nat
  pile : List Int
  told : List Int
/-- Past an instruction. -/
def Rn.nx (r : Rn) : Rn := ⟨r.pc + 1, r.place, r.pile, r.told⟩
/-- .. and perhaps to another one. -/
def Rn.to (b : Bool) (x : DIns) (r : Rn) : Rn := if b = true then ⟨x.to_.toNat, r.place, r.pile, r.told⟩ else r
/-- The last number of the pile is n. -/
def topB (l : List Int) (n : Int) : Bool := match l.getLast? with | some y => decide (y = n) | none => false
/-- The terminal at a place is n. -/
def nexB (wd : List Int) (k : Nat) (n : Int) : Bool := match wd[k]? with | some y => decide (y = n) | none => false
/-- What an instruction does, once it is past: its code (-1: on), and how far it came. -/
def dO (wd : List Int) (x : DIns) (r : Rn) : Int × Rn :=
  if x.op = 1 then (if r.pile.length = 10000 then (3, r) else (-1, ⟨r.pc, r.place, r.pile ++ [x.n], r.told⟩))
  else if x.op = 2 then (if (r.pile.length : Int) ≤ x.n then (4, r) else (-1, ⟨r.pc, r.place, r.pile.take (r.pile.length - x.n.toNat), r.told⟩))
  else if x.op = 3 then (if r.told.length = 10000 then (3, r) else (-1, ⟨r.pc, r.place, r.pile, r.told ++ [x.n]⟩))
  else if x.op = 4 then (if r.place = wd.length then (2, r) else (-1, ⟨r.pc, r.place + 1, r.pile, r.told⟩))
  else if x.op = 5 then (-1, r.to true x)
  else if x.op = 6 then (-1, r.to (nexB wd r.place x.n) x)
  else if x.op = 7 then (-1, r.to (decide (r.place = wd.length)) x)
  else if x.op = 8 then (-1, r.to (topB r.pile x.n) x)
  else if x.op = 9 then (0, r)
  else (x.n, r)
def insAt (l : List DIns) (k : Nat) : DIns := (l[k]?).getD ⟨9, 0, 0⟩
/-- What a run with so much fuel left comes to: what was told, the code, the place, the steps. -/
def rnF (l : List DIns) (wd : List Int) : Nat → Nat → Rn → List Int × Int × Nat × Nat
  | 0, n, r => (r.told, 11, r.place, n)
  | f + 1, n, r => if (dO wd (insAt l r.pc) r.nx).1 = -1 then rnF l wd f (n + 1) (dO wd (insAt l r.pc) r.nx).2 else ((dO wd (insAt l r.pc) r.nx).2.told, (dO wd (insAt l r.pc) r.nx).1, (dO wd (insAt l r.pc) r.nx).2.place, n + 1)
/-- It stands right. -/
structure Rn.Ok (l : List DIns) (wd : List Int) (r : Rn) : Prop where
  pc : r.pc < l.length
  place : r.place ≤ wd.length
  pile : r.pile.length ≤ 10000
  told : r.told.length ≤ 10000
theorem pg_at {l : List DIns} (h : pgB l = true) {k : Nat} (hk : k < l.length) : inB l.length l[k] = true ∧ l.length ≤ 50000 ∧ (gsB l[k].op = true → k + 1 < l.length) := by
  have hlen : 1 ≤ l.length ∧ l.length ≤ 50000 := by
    apply Decidable.byContradiction
    intro hn
    rw [pgB_len hn] at h
    cases h
  rw [pgB_in hlen] at h
  simp only [Bool.and_eq_true, List.all_eq_true, Bool.not_eq_true'] at h
  refine ⟨h.1 _ (List.getElem_mem hk), hlen.2, fun hg => ?_⟩
  apply Decidable.byContradiction
  intro hn
  have e : k = l.length - 1 := by omega
  subst e
  rw [lsO_at (by omega), hg] at h
  exact absurd h.2 (by decide)
theorem insAt_at {l : List DIns} {k : Nat} (hk : k < l.length) : insAt l k = l[k] := by
  unfold insAt
  rw [List.getElem?_eq_getElem hk]
  rfl
/-- What is known of an instruction that is right. -/
theorem in_facts {n : Nat} {x : DIns} (h : inB n x = true) : 1 ≤ x.op ∧ x.op ≤ 10 ∧ 0 ≤ x.to_ ∧ (htB x.op = true → x.to_ ≤ (n : Int) - 1) ∧ (hnB x.op = true → 0 ≤ x.n ∧ x.n ≤ 1000) ∧ (x.op = 10 → x.n = 2 ∨ x.n = 4) := by
  unfold inB btB at h
  simp only [Bool.and_eq_true, decide_eq_true_eq] at h
  obtain ⟨⟨h1, h2⟩, ⟨h3, h4⟩, h5⟩ := h
  refine ⟨h1, h2, h3, fun ht => ?_, fun hn => ?_, fun e => ?_⟩
  · unfold mxT at h4
    rw [if_pos ht] at h4
    exact h4
  · unfold nnB at h5
    have : ¬ x.op = 10 := by
      intro e
      rw [e] at hn
      revert hn
      decide
    rw [if_neg this, if_pos hn] at h5
    unfold btB at h5
    simpa using h5
  · unfold nnB at h5
    rw [if_pos e] at h5
    simpa using h5
theorem Rn.to_true (x : DIns) (r : Rn) : r.to true x = ⟨x.to_.toNat, r.place, r.pile, r.told⟩ := if_pos rfl
theorem Rn.to_false (x : DIns) (r : Rn) : r.to false x = r := if_neg (by decide)
/-- A step goes on to where it stands right. -/
theorem dO_ok {l : List DIns} {wd : List Int} {r : Rn} (hp : pgB l = true) (h : r.Ok l wd) (hc : (dO wd (insAt l r.pc) r.nx).1 = -1) : (dO wd (insAt l r.pc) r.nx).2.Ok l wd := by
  rw [insAt_at h.pc] at *
  obtain ⟨hin, hlen, hgo⟩ := pg_at hp h.pc
  obtain ⟨f1, f2, f3, f4, f5, f6⟩ := in_facts hin
  obtain ⟨p1, p2, p3, p4⟩ := h
  generalize l[r.pc] = x at *
  have hto : ∀ b, htB x.op = true → (gsB x.op = true ∨ b = true) → (r.nx.to b x).Ok l wd := fun b ht hg => by
    have ht' := f4 ht
    cases b
    · rw [Rn.to_false]
      rcases hg with hg | hg
      · exact ⟨hgo hg, p2, p3, p4⟩
      · cases hg
    · rw [Rn.to_true]
      exact ⟨by dsimp only; omega, p2, p3, p4⟩
  have hk : x.op = 1 ∨ x.op = 2 ∨ x.op = 3 ∨ x.op = 4 ∨ x.op = 5 ∨ x.op = 6 ∨ x.op = 7 ∨ x.op = 8 ∨ x.op = 9 ∨ x.op = 10 := by omega
  rcases hk with e | e | e | e | e | e | e | e | e | e <;> rw [e] at hgo hto f5 f6
  · simp only [dO, e, Rn.nx] at hc ⊢
    have hg := hgo (by decide)
    by_cases hle : r.pile.length = 10000
    · simp [hle] at hc
    · simp [hle]
      exact ⟨hg, p2, by simp; omega, p4⟩
  · simp only [dO, e, Rn.nx] at hc ⊢
    have hg := hgo (by decide)
    by_cases hle : (r.pile.length : Int) ≤ x.n
    · simp [hle] at hc
    · simp [hle]
      exact ⟨hg, p2, by simp; omega, p4⟩
  · simp only [dO, e, Rn.nx] at hc ⊢
    have hg := hgo (by decide)
    by_cases hle : r.told.length = 10000
    · simp [hle] at hc
    · simp [hle]
      exact ⟨hg, p2, p3, by simp; omega⟩
  · simp only [dO, e, Rn.nx] at hc ⊢
    have hg := hgo (by decide)
    by_cases hle : r.place = wd.length
    · simp [hle] at hc
    · simp [hle]
      exact ⟨hg, by dsimp only; omega, p3, p4⟩
  · simp [dO, e]
    exact hto _ (by decide) (.inr rfl)
  · simp [dO, e]
    exact hto _ (by decide) (.inl (by decide))
  · simp [dO, e]
    exact hto _ (by decide) (.inl (by decide))
  · simp [dO, e]
    exact hto _ (by decide) (.inl (by decide))
  · simp [dO, e] at hc
  · simp [dO, e] at hc
    have := f6 rfl
    omega
/-- What RunProgram answers. -/
def wdB (wd : List Int) : Bool := wd.all (fun y => decide (0 ≤ y))
def reB (l : List DIns) (wd : List Int) (fuel : Int) : Bool := pgB l && (decide (wd.length ≤ 200) && (wdB wd && btB fuel 0 1000000))
def reR (l : List DIns) (wd : List Int) (fuel : Int) : List Int × Int × Nat × Nat :=
  if reB l wd fuel = true then rnF l wd fuel.toNat 0 ⟨0, 0, [], []⟩ else ([], 1, 0, 0)
end Go.Proofs.Ytilahbfcobhjeaa
