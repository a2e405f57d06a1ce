import Derived.Test.YtaimlmjgicmbeaaBok
/-! Derivations: where one ends, and whether it keeps to the levels: plain mathematics. -/
namespace Go.Proofs.Ytaimlmjgicmbeaa
set_option linter.unusedVariables false
set_option linter.unusedSimpArgs false

/-- The number at a place. -/
def numAt (L : List Int) (a : Nat) : Int := L.getD a 0
/-- The Prod of a number. -/
def pdAt (d : Bn) (x : Int) : Pd := d.prods.getD x.toNat ⟨0, [], ⟨#[]⟩, 0, 0⟩
/-- The Prod at a place. -/
def pa (d : Bn) (L : List Int) (a : Nat) : Pd := pdAt d (numAt L a)
/-- Whether there is one by this symbol at a place. -/
def okAt (d : Bn) (L : List Int) (s : Int) (a : Nat) : Bool := decide (a < L.length) && (wiB (numAt L a) 0 ((d.prods.length : Int) - 1) && decide ((pa d L a).left = s))
/-- Where symbols end that begin at a place, one behind the other. -/
def rdk (T : Nat) (r : Int → Nat → Option Nat) : List Int → Nat → Option Nat
  | [], a => some a
  | s :: ss, a => if s < (T : Int) then rdk T r ss a else (r s a).bind (rdk T r ss)
/-- Where a derivation by a symbol ends that begins at a place. -/
def rd (d : Bn) (L : List Int) : Nat → Int → Nat → Option Nat
  | 0, _, _ => none
  | f + 1, s, a => if okAt d L s a = true then rdk d.terms.length (rd d L f) (pa d L a).right (a + 1) else none
theorem rdk_append (T : Nat) (r : Int → Nat → Option Nat) (xs ys : List Int) (a : Nat) : rdk T r (xs ++ ys) a = (rdk T r xs a).bind (rdk T r ys) := by
  induction xs generalizing a with
  | nil => rfl
  | cons s ss ih =>
    simp only [List.cons_append, rdk]
    split
    · exact ih a
    · cases r s a with
      | none => rfl
      | some a' => exact ih a'
theorem rdk_one (T : Nat) (r : Int → Nat → Option Nat) (s : Int) (a : Nat) : rdk T r [s] a = if s < (T : Int) then some a else r s a := by
  simp only [rdk]
  split
  · rfl
  · cases r s a <;> rfl
theorem rdk_take (T : Nat) (r : Int → Nat → Option Nat) (ss : List Int) (j : Nat) (hj : j < ss.length) (a : Nat) : rdk T r (ss.take (j + 1)) a = (rdk T r (ss.take j) a).bind (fun b => if ss[j] < (T : Int) then some b else r ss[j] b) := by
  rw [List.take_succ_eq_append_getElem hj, rdk_append]
  congr 1
  funext b
  exact rdk_one T r ss[j] b
theorem rdk_none (T : Nat) (r : Int → Nat → Option Nat) (ss : List Int) (j : Nat) (a : Nat) (h : rdk T r (ss.take j) a = none) : rdk T r ss a = none := by
  rw [← List.take_append_drop j ss, rdk_append, h]
  rfl
theorem okAt_lt {d : Bn} {L : List Int} {s : Int} {a : Nat} (h : okAt d L s a = true) : a < L.length := by
  unfold okAt at h
  simp only [Bool.and_eq_true, decide_eq_true_eq] at h
  exact h.1
theorem rdk_ge {T : Nat} {r : Int → Nat → Option Nat} {n : Nat} (hr : ∀ s a b, r s a = some b → a < b ∧ b ≤ n) : ∀ (ss : List Int) (a b : Nat), rdk T r ss a = some b → a ≤ b ∧ (a ≤ n → b ≤ n)
  | [], a, b, h => by
    simp only [rdk, Option.some.injEq] at h
    omega
  | s :: ss, a, b, h => by
    simp only [rdk] at h
    split at h
    · exact rdk_ge hr ss a b h
    · cases e : r s a with
      | none => rw [e] at h; cases h
      | some c =>
        rw [e] at h
        have h1 := hr s a c e
        have h2 := rdk_ge hr ss c b h
        exact ⟨by omega, fun _ => h2.2 h1.2⟩
theorem rd_gt (d : Bn) (L : List Int) : ∀ (f : Nat) (s : Int) (a b : Nat), rd d L f s a = some b → a < b ∧ b ≤ L.length
  | 0, s, a, b, h => by cases h
  | f + 1, s, a, b, h => by
    simp only [rd] at h
    split at h
    · rename_i ho
      have h1 := okAt_lt ho
      have h2 := rdk_ge (rd_gt d L f) _ _ _ h
      exact ⟨by omega, h2.2 (by omega)⟩
    · cases h

/-- Whether a Prod may not stand at the side of another one. -/
def wk (q p : Pd) (side : Int) : Bool := if q.left ≠ p.left ∨ q.lev = 0 then false else if q.lev = p.lev then decide (p.asc ≠ side) else decide (q.lev < p.lev)
/-- .. at place i of n symbols. -/
def tw (i n : Nat) (q p : Pd) : Bool := (decide (i = 0) && wk q p 1) || (decide (0 < i ∧ i + 1 = n) && wk q p 2)
/-- Whether what stands at the symbols, from number i on and place a on, keeps to the levels. -/
def gk (d : Bn) (L : List Int) (r : Int → Nat → Option Nat) (g : Nat → Bool) (p : Pd) : Nat → List Int → Nat → Bool
  | _, [], _ => true
  | i, s :: ss, a => if s < (d.terms.length : Int) then gk d L r g p (i + 1) ss a else (!tw i p.right.length (pa d L a) p && (g a && gk d L r g p (i + 1) ss ((r s a).getD 0)))
/-- Whether the derivation at a place keeps to the levels. -/
def gd (d : Bn) (L : List Int) : Nat → Nat → Bool
  | 0, _ => true
  | f + 1, a => gk d L (rd d L f) (gd d L f) (pa d L a) 0 (pa d L a).right (a + 1)
/-- The specification's test. -/
def ts (i n : Nat) (x : Int) (q p : Pd) : Bool := decide (i = 0 ∨ i + 1 = n) && (decide (x = p.left) && (decide (0 < p.lev) && (decide (0 < q.lev) && (decide (q.lev < p.lev) || (decide (q.lev = p.lev) && decide (p.asc ≠ (if 0 < i then 2 else 1)))))))
theorem wk_iff (q p : Pd) (side : Int) : wk q p side = true ↔ q.left = p.left ∧ q.lev ≠ 0 ∧ (q.lev = p.lev → p.asc ≠ side) ∧ (q.lev ≠ p.lev → q.lev < p.lev) := by
  unfold wk
  by_cases h1 : q.left ≠ p.left ∨ q.lev = 0
  · rw [if_pos h1]
    constructor
    · intro h; cases h
    · intro ⟨a, b, _⟩; omega
  · rw [if_neg h1]
    by_cases h3 : q.lev = p.lev
    · rw [if_pos h3, decide_eq_true_eq]
      omega
    · rw [if_neg h3, decide_eq_true_eq]
      omega
theorem ts_tw (i n : Nat) (x : Int) (q p : Pd) (hx : q.left = x) (hp : 0 ≤ p.lev) (hq : 0 ≤ q.lev) : ts i n x q p = tw i n q p := by
  subst hx
  rw [Bool.eq_iff_iff]
  unfold ts tw
  simp only [Bool.and_eq_true, Bool.or_eq_true, decide_eq_true_eq, wk_iff]
  by_cases h0 : i = 0
  · subst h0
    rw [if_neg (by omega)]
    omega
  · rw [if_pos (by omega)]
    omega

/-- What Good answers. -/
def goodR (d : Bn) (non : Int) (L : List Int) : Bool × Int :=
  if bnB d = false ∨ 4000 < L.length then (false, 1)
  else if wiB non 0 ((d.nons.length : Int) - 1) = false then (false, 4)
  else if rd d L (L.length + 1) (d.terms.length + non) 0 = some L.length then (gd d L (L.length + 1) 0, 0)
  else (false, 2)
end Go.Proofs.Ytaimlmjgicmbeaa
