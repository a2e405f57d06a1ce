import Derived.Test.YtblfeifedcddnaaVa
import Derived.Test.YtblfeifedcddnaaFa
/-! What a change makes of a tree: plain mathematics. -/
namespace Go.Proofs.Ytblfeifedcddnaa
set_option linter.unusedVariables false
set_option linter.unusedSimpArgs false
set_option maxRecDepth 100000
open Go.RowKit

/-- The zero tree. -/
def zeB (t : Tr) : Bool := decide (t.name.size = 0) && (decide (t.text.size = 0) && (!t.leaf && decide (t.kids.length = 0)))
theorem size_zero {s : ByteArray} (h : s.size = 0) : s = ByteArray.empty := by
  apply ByteArray.ext
  exact Array.eq_empty_of_size_eq_zero h
theorem zeB_iff {t : Tr} : zeB t = true ↔ t = noTr := by
  unfold zeB noTr
  constructor
  · intro h
    simp only [Bool.and_eq_true, decide_eq_true_eq, Bool.not_eq_true'] at h
    obtain ⟨n, x, l, k⟩ := t
    dsimp only at h
    rw [size_zero h.1, size_zero h.2.1, h.2.2.1, List.eq_nil_of_length_eq_zero h.2.2.2]
  · rintro rfl
    rfl
theorem zeB_eqT (t : Tr) : eqT t noTr = zeB t := by
  rw [Bool.eq_iff_iff, zeB_iff, eqT_iff]
/-- A change that is not DlKids is right, looked at alone. -/
def arB (d : De) : Bool := (if d.kind = 2 ∨ d.kind = 5 then d.tree.ok else zeB d.tree) && (decide (d.kind = 3) || d.kids.isEmpty)
/-- One step through the Kids: what is made so far, and how many of the tree's Kids are behind. -/
def paS (ks : List Tr) (d : De) (f : Tr → Option Tr) (s : List Tr × Nat) : Option (List Tr × Nat) :=
  if d.kind = 5 then (if (d.tree.ok && d.kids.isEmpty) = true then some (s.1 ++ [d.tree], s.2) else none)
  else if h : s.2 < ks.length then
    (if d.kind = 4 then (if (zeB d.tree && d.kids.isEmpty) = true then some (s.1, s.2 + 1) else none) else (f ks[s.2]).map fun t => (s.1 ++ [t], s.2 + 1))
  else none
/-- All steps. -/
def paF (ks : List Tr) : List (De × (Tr → Option Tr)) → List Tr × Nat → Option (List Tr × Nat)
  | [], s => some s
  | p :: l, s => (paS ks p.1 p.2 s).bind (paF ks l)
theorem paF_append (ks : List Tr) : ∀ (l m : List (De × (Tr → Option Tr))) (s : List Tr × Nat), paF ks (l ++ m) s = (paF ks l s).bind (paF ks m)
  | [], m, s => rfl
  | p :: l, m, s => by
    rw [List.cons_append, paF, paF]
    cases h : paS ks p.1 p.2 s with
    | none => rfl
    | some s' => exact paF_append ks l m s'
/-- What a change makes of a tree: none where it is no change of it. -/
def pa : De → Tr → Option Tr := De.fold fun c t k fs => fun a =>
  if c = 1 then (if (zeB t && k.isEmpty) = true then some a else none)
  else if c = 2 then (if (t.ok && k.isEmpty) = true then some t else none)
  else if c = 3 then (if (!a.leaf && zeB t) = true then
    match paF a.kids (k.zip fs) ([], 0) with
    | some s => if s.2 = a.kids.length then some ⟨a.name, ByteArray.empty, false, s.1⟩ else none
    | none => none
    else none)
  else none
/-- What stands behind the first j steps. -/
def paJ (k : List De) (ks : List Tr) (j : Nat) : Option (List Tr × Nat) := paF ks ((k.take j).map fun d => (d, pa d)) ([], 0)
theorem zip_map (k : List De) : k.zip (k.map pa) = k.map fun d => (d, pa d) := by
  induction k with
  | nil => rfl
  | cons d r ih => rw [List.map_cons, List.zip_cons_cons, ih, List.map_cons]
theorem pa_mk (c : Int) (t : Tr) (k : List De) (a : Tr) : pa ⟨c, t, k⟩ a =
    if c = 1 then (if (zeB t && k.isEmpty) = true then some a else none)
    else if c = 2 then (if (t.ok && k.isEmpty) = true then some t else none)
    else if c = 3 then (if (!a.leaf && zeB t) = true then
      match paJ k a.kids k.length with
      | some s => if s.2 = a.kids.length then some ⟨a.name, ByteArray.empty, false, s.1⟩ else none
      | none => none
      else none)
    else none := by
  unfold pa paJ
  rw [De.fold_mk, ← pa, List.take_length]
  show (if c = 1 then _ else if c = 2 then _ else if c = 3 then (if _ then (match paF a.kids (k.zip (k.map pa)) ([], 0) with | some s => _ | none => _) else _) else _) = _
  rw [zip_map]
theorem paJ_zero (k : List De) (ks : List Tr) : paJ k ks 0 = some ([], 0) := by
  unfold paJ; rw [List.take_zero]; rfl
theorem paJ_succ {k : List De} {ks : List Tr} {j : Nat} (h : j < k.length) : paJ k ks (j + 1) = (paJ k ks j).bind (paS ks k[j] (pa k[j])) := by
  unfold paJ
  rw [List.take_succ_eq_append_getElem h, List.map_append, paF_append]
  congr 1
  funext s
  show paF ks [(k[j], pa k[j])] s = _
  rw [paF]
  cases paS ks (k[j], pa k[j]).1 (k[j], pa k[j]).2 s with
  | none => rfl
  | some s' => rfl
theorem paJ_none {k : List De} {ks : List Tr} {j : Nat} (hj : j ≤ k.length) (h : paJ k ks j = none) : paJ k ks k.length = none := by
  have : k.map (fun d => (d, pa d)) = (k.take j).map (fun d => (d, pa d)) ++ (k.drop j).map (fun d => (d, pa d)) := by rw [← List.map_append, List.take_append_drop]
  unfold paJ at h ⊢
  rw [List.take_length, this, paF_append, h]
  rfl
theorem paS_len {ks : List Tr} {d : De} {f : Tr → Option Tr} {s s' : List Tr × Nat} (h : paS ks d f s = some s') : s'.1.length ≤ s.1.length + 1 ∧ s'.2 ≤ s.2 + 1 ∧ (s.2 ≤ ks.length → s'.2 ≤ ks.length) := by
  unfold paS at h
  split at h
  · split at h
    · injection h with h; subst h; simp
    · cases h
  · split at h
    · split at h
      · split at h
        · injection h with h; subst h; simp; omega
        · cases h
      · cases e : f ks[s.2] with
        | none => rw [e] at h; cases h
        | some t =>
          rw [e] at h
          injection h with h
          subst h
          simp
          omega
    · cases h
theorem paJ_len {k : List De} {ks : List Tr} : ∀ {j : Nat}, j ≤ k.length → ∀ {s : List Tr × Nat}, paJ k ks j = some s → s.1.length ≤ j ∧ s.2 ≤ j ∧ s.2 ≤ ks.length
  | 0, _, s, h => by rw [paJ_zero] at h; injection h with h; subst h; simp
  | j + 1, hj, s, h => by
    rw [paJ_succ (by omega)] at h
    cases e : paJ k ks j with
    | none => rw [e] at h; cases h
    | some s0 =>
      rw [e] at h
      have h1 := paJ_len (by omega) e
      have h2 := paS_len (show paS ks k[j] (pa k[j]) s0 = some s from h)
      omega
/-- What Patch answers. -/
def ptR (a : Tr) (d : De) : Tr × Nat := if a.ok = true then (match pa d a with | none => (noTr, 10) | some t => if t.ok = true then (t, 0) else (noTr, 3)) else (noTr, 1)
end Go.Proofs.Ytblfeifedcddnaa
