import Derived.Test.YtboffildchoelaaTree
/-! Patterns: plain mathematics. -/
namespace Go.Proofs.Ytboffildchoelaa
set_option linter.unusedVariables false
set_option maxRecDepth 100000
set_option linter.unusedSimpArgs false

/-- Two texts are the same. -/
def eqS (a b : ByteArray) : Bool := decide (a.data = b.data)
theorem eqS_iff {a b : ByteArray} : eqS a b = true ↔ a = b := by
  unfold eqS
  rw [decide_eq_true_eq]
  constructor
  · intro h; exact ByteArray.ext h
  · rintro rfl; rfl
theorem eqS_no {a b : ByteArray} (h : ¬ a = b) : eqS a b = false := by
  cases e : eqS a b
  · rfl
  · exact absurd (eqS_iff.1 e) h
theorem eqS_refl (a : ByteArray) : eqS a a = true := eqS_iff.2 rfl
def varN : ByteArray := ⟨#[86, 97, 114]⟩
/-- A leaf that is a variable. -/
def vrB (n : ByteArray) (l : Bool) : Bool := l && eqS n varN
def hasS (l : List ByteArray) (s : ByteArray) : Bool := l.any fun x => eqS x s
def adS (l : List ByteArray) (s : ByteArray) : List ByteArray := if hasS l s then l else l ++ [s]
theorem adS_len (l : List ByteArray) (s : ByteArray) : (adS l s).length ≤ l.length + 1 := by
  unfold adS
  split <;> simp
/-- One behind the other, as long as all is well. -/
def vsK : List (List ByteArray → List ByteArray × Bool) → List ByteArray → List ByteArray × Bool
  | [], l => (l, true)
  | f :: fs, l => if (f l).2 = true then vsK fs (f l).1 else ((f l).1, false)
/-- The variables of a pattern behind those of a list, and whether each has a name. -/
def vsT : Tr → List ByteArray → List ByteArray × Bool := Tr.fold fun n x lf fs => fun l => if vrB n lf = true then (adS l x, nmB x) else vsK fs l
theorem vsT_mk (n x : ByteArray) (lf : Bool) (k : List Tr) (l : List ByteArray) : vsT ⟨n, x, lf, k⟩ l = if vrB n lf = true then (adS l x, nmB x) else vsK (k.map vsT) l := by
  unfold vsT
  rw [Tr.fold_mk]
theorem vsK_len : ∀ (k : List Tr) (l : List ByteArray), (∀ i (hi : i < k.length) l, (vsT k[i] l).1.length ≤ l.length + k[i].cnt) → (vsK (k.map vsT) l).1.length ≤ l.length + Tr.cntL k
  | [], l, _ => by simp [vsK]
  | t :: r, l, h => by
    have h0 := h 0 (by simp) l
    simp only [List.getElem_cons_zero] at h0
    have h1 := vsK_len r (vsT t l).1 (fun i hi m => by have := h (i + 1) (by simp; omega) m; simpa using this)
    have e : Tr.cntL (t :: r) = t.cnt + Tr.cntL r := by simp [Tr.cntL]
    rw [List.map_cons, vsK]
    split
    · omega
    · dsimp only; omega
theorem vsT_len (t : Tr) : ∀ l, (vsT t l).1.length ≤ l.length + t.cnt := by
  refine Tr.ind (P := fun t => ∀ l, (vsT t l).1.length ≤ l.length + t.cnt) ?_ t
  intro n x lf k ih l
  rw [vsT_mk, Tr.cnt_mk]
  split
  · have := adS_len l x
    dsimp only
    omega
  · have := vsK_len k l (fun i hi m => ih i hi m)
    omega
/-- Each variable has a name. -/
def nmV : Tr → Bool := Tr.fold fun n x lf fs => if vrB n lf = true then nmB x else fs.all id
theorem nmV_mk (n x : ByteArray) (lf : Bool) (k : List Tr) : nmV ⟨n, x, lf, k⟩ = if vrB n lf = true then nmB x else k.all nmV := by
  unfold nmV
  rw [Tr.fold_mk, List.all_map]
  rfl
theorem vsK_ok : ∀ (k : List Tr) (l : List ByteArray), (∀ i (hi : i < k.length) l, (vsT k[i] l).2 = nmV k[i]) → (vsK (k.map vsT) l).2 = k.all nmV
  | [], l, _ => rfl
  | t :: r, l, h => by
    have h0 := h 0 (by simp) l
    simp only [List.getElem_cons_zero] at h0
    have h1 := vsK_ok r (vsT t l).1 (fun i hi m => by have := h (i + 1) (by simp; omega) m; simpa using this)
    rw [List.map_cons, vsK, List.all_cons, ← h0]
    split
    · rename_i e
      rw [e, h1]
      simp
    · rename_i e
      have e2 : (vsT t l).2 = false := by simpa using e
      rw [e2]
      rfl
theorem vsT_ok (t : Tr) : ∀ l, (vsT t l).2 = nmV t := by
  refine Tr.ind (P := fun t => ∀ l, (vsT t l).2 = nmV t) ?_ t
  intro n x lf k ih l
  rw [vsT_mk, nmV_mk]
  split
  · rfl
  · exact vsK_ok k l (fun i hi m => ih i hi m)
/-- A tree is a pattern. -/
def patB (t : Tr) : Bool := t.ok && nmV t
theorem vsK_step {k : List Tr} {j : Nat} (h : j < k.length) (l : List ByteArray) : vsK ((k.drop j).map vsT) l = if (vsT k[j] l).2 = true then vsK ((k.drop (j + 1)).map vsT) (vsT k[j] l).1 else ((vsT k[j] l).1, false) := by
  rw [List.drop_eq_getElem_cons h, List.map_cons, vsK]
end Go.Proofs.Ytboffildchoelaa
