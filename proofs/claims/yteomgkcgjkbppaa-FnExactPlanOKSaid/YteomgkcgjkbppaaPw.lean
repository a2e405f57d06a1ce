import Derived.Test.YteomgkcgjkbppaaPt
/-! The trees that are in a tree, each ahead of those in its Kids: plain mathematics. -/
namespace Go.Proofs.Yteomgkcgjkbppaa
set_option linter.unusedVariables false
set_option maxRecDepth 100000
set_option linter.unusedSimpArgs false

def subP : Tr → Tr × List Tr := Tr.fold fun n x lf fs => (⟨n, x, lf, fs.map (·.1)⟩, ⟨n, x, lf, fs.map (·.1)⟩ :: (fs.map (·.2)).flatten)
theorem subP_fst (t : Tr) : (subP t).1 = t := by
  refine Tr.ind (P := fun t => (subP t).1 = t) ?_ t
  intro n x lf k ih
  unfold subP
  rw [Tr.fold_mk]
  have e : (k.map subP).map (·.1) = k := by
    rw [List.map_map]
    apply List.ext_getElem
    · simp
    · intro i h1 h2
      simp
      exact ih i h2
  unfold subP at e
  dsimp only
  rw [e]
/-- A tree and all that are within it. -/
def sub (t : Tr) : List Tr := (subP t).2
theorem sub_mk (n x : ByteArray) (lf : Bool) (k : List Tr) : sub ⟨n, x, lf, k⟩ = ⟨n, x, lf, k⟩ :: (k.map sub).flatten := by
  have e : (k.map subP).map (·.1) = k := by
    rw [List.map_map]
    apply List.ext_getElem
    · simp
    · intro i h1 h2
      simp
      exact subP_fst _
  have e2 : subP ⟨n, x, lf, k⟩ = (⟨n, x, lf, (k.map subP).map (·.1)⟩, ⟨n, x, lf, (k.map subP).map (·.1)⟩ :: ((k.map subP).map (·.2)).flatten) := by
    unfold subP
    rw [Tr.fold_mk]
  unfold sub
  rw [e2, e, List.map_map]
  rfl
/-- What a round asks of a tree. -/
def asks (t : Tr) : Bool := !(vrB t.name t.leaf) || nmB t.text
theorem nmV_sub (t : Tr) : t.right = true → nmV t = (sub t).all asks := by
  refine Tr.ind (P := fun t => t.right = true → nmV t = (sub t).all asks) ?_ t
  intro n x lf k ih hr
  rw [nmV_mk, sub_mk, List.all_cons]
  rw [Tr.right_mk, Bool.and_eq_true] at hr
  unfold asks
  dsimp only
  have hk : k.all nmV = (k.map sub).flatten.all asks := by
    rw [List.all_flatten, List.all_map]
    rw [Bool.eq_iff_iff, List.all_eq_true, List.all_eq_true]
    have hrk : ∀ t ∈ k, t.right = true := by
      have := hr.2
      unfold Tr.rightL at this
      exact List.all_eq_true.1 this
    constructor
    · intro h t ht
      obtain ⟨i, hi, rfl⟩ := List.mem_iff_getElem.1 ht
      have := ih i hi (hrk _ ht)
      have h2 := h _ ht
      rw [this] at h2
      exact h2
    · intro h t ht
      obtain ⟨i, hi, rfl⟩ := List.mem_iff_getElem.1 ht
      have := ih i hi (hrk _ ht)
      have h2 := h _ ht
      rw [this]
      exact h2
  by_cases hv : vrB n lf = true
  · rw [if_pos hv, hv]
    have hl : lf = true := by
      unfold vrB at hv
      rw [Bool.and_eq_true] at hv
      first | exact hv.1 | exact hv.2
    have h0 : k = [] := by
      subst hl
      have := hr.1
      simp [Tr.alone] at this
      exact List.eq_nil_of_length_eq_zero (by first | exact this.2.1 | exact this.1.2.1 | (simp_all))
    subst h0
    simp
  · rw [if_neg hv, hk]
    have : vrB n lf = false := by simpa using hv
    rw [this]
    simp
    rfl
end Go.Proofs.Yteomgkcgjkbppaa
