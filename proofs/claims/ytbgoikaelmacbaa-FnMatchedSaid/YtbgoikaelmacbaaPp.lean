import Derived.Test.YtbgoikaelmacbaaPw
import Derived.Test.YtbgoikaelmacbaaPm
/-! The trees that are in a tree, with their paths: plain mathematics. -/
namespace Go.Proofs.Ytbgoikaelmacbaa
set_option linter.unusedVariables false
set_option maxRecDepth 100000
set_option linter.unusedSimpArgs false

/-- One behind the other, the place behind the path of each. -/
def spK {α : Type} : List (List Nat → List α) → Nat → List Nat → List α
  | [], _, _ => []
  | f :: fs, i, xs => f (xs ++ [i]) ++ spK fs (i + 1) xs
theorem spK_append {α : Type} (gs : List (List Nat → List α)) : ∀ (fs : List (List Nat → List α)) (i : Nat) (xs : List Nat), spK (fs ++ gs) i xs = spK fs i xs ++ spK gs (i + fs.length) xs
  | [], i, xs => by simp [spK]
  | f :: fs, i, xs => by
    rw [List.cons_append, spK, spK, spK_append gs fs (i + 1) xs, List.append_assoc, List.length_cons, show i + 1 + fs.length = i + (fs.length + 1) from by omega]
def psF : Tr → Tr × (List Nat → List (Tr × List Nat)) := Tr.fold fun n x lf fs => (⟨n, x, lf, fs.map (·.1)⟩, fun xs => (⟨n, x, lf, fs.map (·.1)⟩, xs) :: spK (fs.map (·.2)) 0 xs)
theorem psF_fst (t : Tr) : (psF t).1 = t := by
  refine Tr.ind (P := fun t => (psF t).1 = t) ?_ t
  intro n x lf k ih
  unfold psF
  rw [Tr.fold_mk]
  have e : (k.map psF).map (·.1) = k := by
    rw [List.map_map]
    apply List.ext_getElem
    · simp
    · intro i h1 h2
      simp
      exact ih i h2
  unfold psF at e
  dsimp only
  rw [e]
/-- A tree and all that are within it, with their paths behind a path. -/
def ps (t : Tr) (xs : List Nat) : List (Tr × List Nat) := (psF t).2 xs
theorem ps_mk (n x : ByteArray) (lf : Bool) (k : List Tr) (xs : List Nat) : ps ⟨n, x, lf, k⟩ xs = (⟨n, x, lf, k⟩, xs) :: spK (k.map ps) 0 xs := by
  have e : (k.map psF).map (·.1) = k := by
    rw [List.map_map]
    apply List.ext_getElem
    · simp
    · intro i h1 h2
      simp
      exact psF_fst _
  have e2 : psF ⟨n, x, lf, k⟩ = (⟨n, x, lf, (k.map psF).map (·.1)⟩, fun xs => (⟨n, x, lf, (k.map psF).map (·.1)⟩, xs) :: spK ((k.map psF).map (·.2)) 0 xs) := by
    unfold psF
    rw [Tr.fold_mk]
  unfold ps
  rw [e2, e, List.map_map]
  rfl
theorem spK_take {k : List Tr} {j : Nat} (h : j < k.length) (xs : List Nat) : spK ((k.take (j + 1)).map ps) 0 xs = spK ((k.take j).map ps) 0 xs ++ ps k[j] (xs ++ [j]) := by
  rw [List.take_succ_eq_append_getElem h, List.map_append, spK_append]
  have : (List.map ps (k.take j)).length = j := by simp; omega
  rw [this]
  simp [spK]
/-- The pattern p is the tree. -/
def mtB (p t : Tr) : Bool := (mtT p t []).2
/-- The paths of those that are the pattern. -/
def plT (p t : Tr) (xs : List Nat) : List (List Nat) := ((ps t xs).filter fun y => mtB p y.1).map (·.2)
theorem plT_mk (p : Tr) (n x : ByteArray) (lf : Bool) (k : List Tr) (xs : List Nat) : plT p ⟨n, x, lf, k⟩ xs = (if mtB p ⟨n, x, lf, k⟩ = true then [xs] else []) ++ spK (k.map (plT p)) 0 xs := by
  have key : ∀ (l : List Tr) (i : Nat), ((spK (l.map ps) i xs).filter fun y => mtB p y.1).map (·.2) = spK (l.map (plT p)) i xs := by
    intro l
    induction l with
    | nil => intro i; simp [spK]
    | cons t r ih =>
      intro i
      rw [List.map_cons, List.map_cons, spK, spK, List.filter_append, List.map_append, ih]
      rfl
  unfold plT
  rw [ps_mk, List.filter_cons]
  split
  · rw [List.map_cons, key k 0]
    rfl
  · rw [key k 0]
    rfl
/-- What Places answers. -/
def plR (p t : Tr) : List (List Nat) × Int := if (patB p && t.ok) = true then (plT p t [], 0) else ([], 1)
theorem ps_len (t : Tr) : ∀ xs, (ps t xs).length = t.cnt := by
  refine Tr.ind (P := fun t => ∀ xs, (ps t xs).length = t.cnt) ?_ t
  intro n x lf k ih xs
  rw [ps_mk, Tr.cnt_mk, List.length_cons]
  have key : ∀ (l : List Tr) (i : Nat), (∀ q (hq : q < l.length) xs, (ps l[q] xs).length = l[q].cnt) → (spK (l.map ps) i xs).length = Tr.cntL l := by
    intro l
    induction l with
    | nil => intro i _; simp [spK, Tr.cntL]
    | cons t r ihr =>
      intro i h
      have h0 := h 0 (by simp) (xs ++ [i])
      simp only [List.getElem_cons_zero] at h0
      have e : Tr.cntL (t :: r) = t.cnt + Tr.cntL r := by simp [Tr.cntL]
      rw [List.map_cons, spK, List.length_append, h0, ihr (i + 1) (fun q hq ys => by have := h (q + 1) (by simp; omega) ys; simpa using this), e]
  rw [key k 0 (fun q hq ys => ih q hq ys)]
  omega
theorem spK_len (xs : List Nat) : ∀ (l : List Tr) (i : Nat), (spK (l.map ps) i xs).length = Tr.cntL l
  | [], i => by simp [spK, Tr.cntL]
  | t :: r, i => by
    have e : Tr.cntL (t :: r) = t.cnt + Tr.cntL r := by simp [Tr.cntL]
    rw [List.map_cons, spK, List.length_append, ps_len, spK_len xs r (i + 1), e]
theorem plT_len (p t : Tr) (xs : List Nat) : (plT p t xs).length ≤ t.cnt := by
  unfold plT
  rw [List.length_map, ← ps_len t xs]
  exact List.length_filter_le _ _
end Go.Proofs.Ytbgoikaelmacbaa
