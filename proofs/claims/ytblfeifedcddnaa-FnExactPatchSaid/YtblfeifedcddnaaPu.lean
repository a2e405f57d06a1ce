import Derived.Test.YtblfeifedcddnaaBase
/-! Trees of which equal ones are kept once, as data: each tree's number among the nodes. Nothing here hangs on the program. -/
namespace Go.Proofs.Ytblfeifedcddnaa
set_option linter.unusedVariables false
set_option maxRecDepth 100000
set_option linter.unusedSimpArgs false

/-- A tree with its Kids as numbers. -/
structure Nd where
  nm : ByteArray
  tx : ByteArray
  lf : Bool
  ks : List Nat
/-- The same. -/
def ndB (a b : Nd) : Bool := decide (a.nm.data = b.nm.data) && (decide (a.tx.data = b.tx.data) && (decide (a.lf = b.lf) && decide (a.ks = b.ks)))
theorem ndB_iff {a b : Nd} : ndB a b = true ↔ a = b := by
  obtain ⟨⟨n⟩, ⟨x⟩, l, k⟩ := a
  obtain ⟨⟨n'⟩, ⟨x'⟩, l', k'⟩ := b
  simp [ndB]
/-- Where it stands first, or how many there are. -/
def fnd : List Nd → Nd → Nat
  | [], _ => 0
  | a :: r, n => if ndB a n then 0 else fnd r n + 1
theorem fnd_le (n : Nd) : ∀ l, fnd l n ≤ l.length
  | [] => Nat.le_refl _
  | a :: r => by
    unfold fnd
    split
    · exact Nat.zero_le _
    · have := fnd_le n r
      simp only [List.length_cons]
      omega
theorem fnd_get {n : Nd} : ∀ {l : List Nd}, fnd l n < l.length → l[fnd l n]? = some n
  | [], h => absurd h (Nat.not_lt_zero _)
  | a :: r, h => by
    unfold fnd at h ⊢
    split
    · rename_i e
      rw [ndB_iff.1 e]
      rfl
    · rename_i e
      rw [if_neg e] at h
      simp only [List.length_cons] at h
      rw [List.getElem?_cons_succ]
      exact fnd_get (by omega)
theorem fnd_mem {n : Nd} : ∀ {l : List Nd}, n ∈ l → fnd l n < l.length
  | [], h => by simp at h
  | a :: r, h => by
    unfold fnd
    split
    · simp
    · rename_i e
      have h1 : n ∈ r := by
        rcases List.mem_cons.1 h with h | h
        · exact absurd (ndB_iff.2 h.symm) e
        · exact h
      have := fnd_mem h1
      simp only [List.length_cons]
      omega
/-- Where no two are the same, there is one place. -/
theorem fnd_at {n : Nd} : ∀ {l : List Nd} {i : Nat}, l.Nodup → l[i]? = some n → fnd l n = i
  | [], i, _, h => by simp at h
  | a :: r, 0, hd, h => by
    have e : a = n := by simpa using h
    unfold fnd
    rw [if_pos (ndB_iff.2 e)]
  | a :: r, i + 1, hd, h => by
    rw [List.getElem?_cons_succ] at h
    have hne : ¬ ndB a n = true := fun e => by
      have e1 := ndB_iff.1 e
      subst e1
      exact (List.nodup_cons.1 hd).1 (List.mem_of_getElem? h)
    unfold fnd
    rw [if_neg hne, fnd_at (List.nodup_cons.1 hd).2 h]
/-- A node gets its number: that of the same one, or the next. -/
def put1 (ns : List Nd) (n : Nd) : List Nd × Nat := if fnd ns n < ns.length then (ns, fnd ns n) else (ns ++ [n], ns.length)
/-- The Kids, one behind the other. -/
def putK : List (List Nd → List Nd × Nat) → List Nd → List Nd × List Nat
  | [], ns => (ns, [])
  | f :: fs, ns => ((putK fs (f ns).1).1, (f ns).2 :: (putK fs (f ns).1).2)
/-- A tree gets its number, its Kids ahead of itself. -/
def putT : Tr → List Nd → List Nd × Nat := Tr.fold fun n x l fs => fun ns => put1 (putK fs ns).1 ⟨n, x, l, (putK fs ns).2⟩
theorem putT_mk (n x : ByteArray) (l : Bool) (k : List Tr) (ns : List Nd) : putT ⟨n, x, l, k⟩ ns = put1 (putK (k.map putT) ns).1 ⟨n, x, l, (putK (k.map putT) ns).2⟩ := by
  unfold putT; rw [Tr.fold_mk]
/-- Trees, one behind the other: the nodes, and the roots. -/
def putTs (k : List Tr) (ns : List Nd) : List Nd × List Nat := putK (k.map putT) ns
theorem put1_pre (ns : List Nd) (n : Nd) : ns <+: (put1 ns n).1 := by
  unfold put1
  split
  · exact List.prefix_refl _
  · exact List.prefix_append _ _
theorem put1_at (ns : List Nd) (n : Nd) : (put1 ns n).1[(put1 ns n).2]? = some n := by
  unfold put1
  split
  · rename_i h; exact fnd_get h
  · simp
theorem put1_nodup {ns : List Nd} (h : ns.Nodup) (n : Nd) : (put1 ns n).1.Nodup := by
  unfold put1
  split
  · exact h
  · rename_i hn
    rw [List.nodup_append]
    refine ⟨h, by simp, fun a ha b hb e => ?_⟩
    have e2 : b = n := by simpa using hb
    subst e2 e
    exact hn (fnd_mem ha)
/-- All that one step keeps, each step keeps. -/
def Kp (f : List Nd → List Nd × Nat) : Prop := ∀ ns : List Nd, ns.Nodup → ns <+: (f ns).1 ∧ (f ns).1.Nodup ∧ (f ns).2 < (f ns).1.length
theorem putK_keep : ∀ (fs : List (List Nd → List Nd × Nat)), (∀ f ∈ fs, Kp f) → ∀ ns : List Nd, ns.Nodup → ns <+: (putK fs ns).1 ∧ (putK fs ns).1.Nodup ∧ (∀ q ∈ (putK fs ns).2, q < (putK fs ns).1.length) ∧ (putK fs ns).2.length = fs.length
  | [], _, ns, h => ⟨List.prefix_refl _, h, fun q hq => by simp [putK] at hq, rfl⟩
  | f :: fs, hf, ns, h => by
    obtain ⟨a1, a2, a3⟩ := hf f (by simp) ns h
    obtain ⟨b1, b2, b3, b4⟩ := putK_keep fs (fun g hg => hf g (by simp [hg])) (f ns).1 a2
    refine ⟨a1.trans b1, b2, fun q hq => ?_, by simp [putK, b4]⟩
    have hq' : q = (f ns).2 ∨ q ∈ (putK fs (f ns).1).2 := by simpa [putK] using hq
    show q < (putK fs (f ns).1).1.length
    rcases hq' with rfl | hq'
    · exact Nat.lt_of_lt_of_le a3 b1.length_le
    · exact b3 q hq'
theorem putT_keep (t : Tr) : Kp (putT t) := by
  refine Tr.ind (P := fun t => Kp (putT t)) ?_ t
  intro n x l k ih ns h
  rw [putT_mk]
  obtain ⟨b1, b2, b3, b4⟩ := putK_keep (k.map putT) (fun f hf => by
    obtain ⟨t, ht, rfl⟩ := List.mem_map.1 hf
    obtain ⟨i, hi, rfl⟩ := List.mem_iff_getElem.1 ht
    exact ih i hi) ns h
  refine ⟨b1.trans (put1_pre _ _), put1_nodup b2 _, ?_⟩
  have := put1_at (putK (k.map putT) ns).1 ⟨n, x, l, (putK (k.map putT) ns).2⟩
  exact (List.getElem?_eq_some_iff.1 this).1
theorem putTs_keep (k : List Tr) {ns : List Nd} (h : ns.Nodup) : ns <+: (putTs k ns).1 ∧ (putTs k ns).1.Nodup ∧ (∀ q ∈ (putTs k ns).2, q < (putTs k ns).1.length) ∧ (putTs k ns).2.length = k.length := by
  obtain ⟨b1, b2, b3, b4⟩ := putK_keep (k.map putT) (fun f hf => by
    obtain ⟨t, ht, rfl⟩ := List.mem_map.1 hf
    exact putT_keep t) ns h
  exact ⟨b1, b2, b3, by rw [← List.length_map (f := putT)]; exact b4⟩
end Go.Proofs.Ytblfeifedcddnaa
