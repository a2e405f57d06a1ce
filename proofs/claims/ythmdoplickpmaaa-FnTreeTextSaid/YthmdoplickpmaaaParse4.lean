import Derived.Test.YthmdoplickpmaaaParse3
/-! What is shown is read: all of a text; a byte less; blanks around it. -/
namespace Go.Proofs.Ythmdoplickpmaaa
set_option linter.unusedVariables false
set_option linter.unusedSimpArgs false
open Go.RowKit

/-- A byte less. -/
theorem pTree_cut {t : Tr} (hr : t.right = true) {d : Nat} {s : ByteArray} {k : Nat} (hd : t.deep ≤ d) (hk : k ≤ s.size) (h : Stands s k t.sh.dropLast) (he : k + t.sh.length = s.size + 1) : pTree s d k = .error s.size := by
  cases t with
  | mk n x le ks =>
    rw [Tr.right_mk] at hr
    simp at hr
    have hn : nmB n = true := by have := hr.1; unfold Tr.alone at this; simp at this; exact this.1
    have hl := name_len (n := n)
    rw [Tr.deep_mk] at hd
    obtain ⟨g, rfl⟩ : ∃ g, d = g + 1 := ⟨d - 1, by omega⟩
    obtain ⟨b, l, hb, hlb, _⟩ := name_bytes hn
    cases le with
    | true =>
      have e : (Tr.sh ⟨n, x, true, ks⟩) = (n.data.toList ++ 34 :: x.data.toList.flatMap shB) ++ [34] := by rw [Tr.sh_leaf]; unfold quo; simp
      rw [e, List.dropLast_concat] at h
      rw [e, List.length_append, List.length_singleton] at he
      have h40 : seesB s k 40 = false := by
        rw [hb] at h
        rw [sees_of (l := l ++ 34 :: x.data.toList.flatMap shB) h]
        simp [(let_no hlb).1]
      rw [pTree, if_neg (by rw [h40]; simp), pLeaf_cut hn h (by omega)]
    | false =>
      have e : (Tr.sh ⟨n, x, false, ks⟩) = (40 :: (n.data.toList ++ Tr.shL ks)) ++ [41] := by rw [Tr.sh_node]; simp
      rw [e, List.dropLast_concat] at h
      rw [e, List.length_append, List.length_singleton, List.length_cons, List.length_append, hl] at he
      have hst := stands_append.1 h.2
      rw [hl] at hst
      have hs1 : skip s (k + 1) = k + 1 := by
        have h1 := h.2
        rw [hb] at h1
        exact skip_stop (by rw [sees_of (l := l ++ Tr.shL ks) h1, sees_of (l := l ++ Tr.shL ks) h1]; simp [(let_no hlb).2.1, (let_no hlb).2.2.1])
      have hpast : Past s (k + 1 + n.size) := by
        cases ks with
        | nil => exact .inl (by simp [Tr.shL] at he; omega)
        | cons t ks => exact past_of (b := 32) (l := t.sh ++ Tr.shL ks) (by simpa [Tr.shL] using hst.2) (by decide)
      have hsl := shL_len ks
      rw [pTree, if_pos (by rw [sees_of h]; rfl), hs1, pName_of hn hst.1 hpast]
      dsimp only
      rw [pKids_cut (fun t ht => ?_) hst.2 (by omega) (by omega)]
      obtain ⟨i, hi, rfl⟩ := List.getElem_of_mem ht
      have hri : ks[i].right = true := by have := hr.2; unfold Tr.rightL at this; simp at this; exact this _ (List.getElem_mem hi)
      refine ⟨hri, fun k' hk' hs' => pTree_of _ hri g s k' ?_ hk' hs'⟩
      have h1 := Tr.deepL_take_succ ks i hi
      have h2 := Tr.deepL_take_le ks (i + 1)
      omega

theorem deepL_sh (k : List Tr) (h : ∀ i (hi : i < k.length), k[i].deep ≤ k[i].sh.length) : Tr.deepL k ≤ (Tr.shL k).length := by
  induction k with
  | nil => simp [Tr.deepL]
  | cons t k ih =>
    have h1 := ih (fun i hi => by have := h (i + 1) (by simp; omega); simpa using this)
    have h2 := h 0 (by simp)
    simp only [List.getElem_cons_zero] at h2
    have e1 : Tr.deepL (t :: k) = max t.deep (Tr.deepL k) := by simp [Tr.deepL]
    have e2 : (Tr.shL (t :: k)).length = 1 + t.sh.length + (Tr.shL k).length := by
      have : Tr.shL (t :: k) = 32 :: (t.sh ++ Tr.shL k) := by simp [Tr.shL]
      rw [this, List.length_cons, List.length_append]
      omega
    rw [e1, e2]
    omega
theorem deep_sh (t : Tr) : t.right = true → t.deep ≤ t.sh.length := by
  refine Tr.ind (P := fun t => t.right = true → t.deep ≤ t.sh.length) ?_ t
  intro n x le k ih hr
  rw [Tr.right_mk] at hr
  simp at hr
  cases le with
  | true =>
    have hk0 : k = [] := by have := hr.1; simp [Tr.alone] at this; exact this.2.1
    subst hk0
    rw [Tr.sh_leaf, Tr.deep_mk, List.length_append]
    unfold quo
    rw [List.length_cons]
    simp [Tr.deepL]
    omega
  | false =>
    rw [Tr.deep_mk, Tr.sh_node, List.length_cons, List.length_append, List.length_append]
    have := deepL_sh k (fun i hi => ih i hi (by have := hr.2; unfold Tr.rightL at this; simp at this; exact this _ (List.getElem_mem hi)))
    omega
theorem stands_self (l r : List UInt8) : ∀ (a : List UInt8), Stands (bs (a ++ l ++ r)) a.length l := by
  induction l with
  | nil => intro a; trivial
  | cons b l ih =>
    intro a
    have hsz : a.length < (bs (a ++ (b :: l) ++ r)).size := by rw [bs_size]; simp
    refine ⟨⟨hsz, ?_⟩, ?_⟩
    · rw [get!_eq _ _ hsz]
      show (a ++ (b :: l) ++ r).toArray[a.length] = b
      simp
    · have := ih (a ++ [b])
      rw [List.length_append, List.length_singleton] at this
      have e : a ++ [b] ++ l ++ r = a ++ (b :: l) ++ r := by simp
      rw [e] at this
      exact this

/-- A shown tree is read from its text. -/
theorem pAll_sh {t : Tr} (hr : t.right = true) : pAll (bs t.sh) = .ok t := by
  have hd := deep_sh t hr
  have hst : Stands (bs t.sh) 0 t.sh := by have := stands_self t.sh [] []; simpa using this
  have hsz := bs_size t.sh
  have hs0 := (skip_first (r := []) hr (by simpa using hst)).1
  have hse : skip (bs t.sh) (bs t.sh).size = (bs t.sh).size := skip_stop (by rw [sees_end (Nat.le_refl _), sees_end (Nat.le_refl _)]; rfl)
  unfold pAll
  rw [hs0, pTree_of t hr _ _ 0 (by omega) (Nat.zero_le _) hst]
  dsimp only
  rw [Nat.zero_add, ← hsz, hse, if_neg (Nat.lt_irrefl _)]
/-- .. a byte less: a fault at its end. -/
theorem pAll_cut {t : Tr} (hr : t.right = true) : pAll (bs t.sh.dropLast) = .error (t.sh.length - 1) := by
  have hd := deep_sh t hr
  have hst : Stands (bs t.sh.dropLast) 0 t.sh.dropLast := by have := stands_self t.sh.dropLast [] []; simpa using this
  have hsz := bs_size t.sh.dropLast
  rw [List.length_dropLast] at hsz
  have hdp := Tr.deep_pos t
  have hs0 : skip (bs t.sh.dropLast) 0 = 0 := by
    obtain ⟨b, l, hb, hc⟩ := sh_first hr
    have hn : b ≠ 32 ∧ b ≠ 10 ∧ b ≠ 41 := by
      rcases hc with ⟨rfl, _⟩ | ⟨hl, _⟩
      · decide
      · exact (let_no hl).2
    cases l with
    | nil => exact skip_stop (by rw [sees_end (by rw [hsz, hb]; simp), sees_end (by rw [hsz, hb]; simp)]; rfl)
    | cons c l =>
      rw [hb] at hst
      simp only [List.dropLast_cons_cons] at hst
      rw [hb]
      exact skip_stop (by simp only [List.dropLast_cons_cons]; rw [sees_of hst, sees_of hst]; simp [hn])
  unfold pAll
  rw [hs0, pTree_cut hr (by omega) (Nat.zero_le _) hst (by omega)]
  dsimp only
  rw [hsz]
/-- .. with blanks around it. -/
theorem pAll_blank {t : Tr} (hr : t.right = true) : pAll (bs ([32, 10] ++ t.sh ++ [32])) = .ok t := by
  have hd := deep_sh t hr
  have hst := stands_self t.sh [32] [32, 10]
  have hall : Stands (bs ([32, 10] ++ t.sh ++ [32])) 0 ([32, 10] ++ t.sh ++ [32]) := by have := stands_self ([32, 10] ++ t.sh ++ [32]) [] []; simpa using this
  have hsz := bs_size ([32, 10] ++ t.sh ++ [32])
  simp only [List.length_append, List.length_cons, List.length_nil] at hsz hst
  have h2 := (stands_append.1 hall).2
  simp only [List.length_append, List.length_cons, List.length_nil] at h2
  have hs2 := (skip_first (r := []) hr (by simpa using hst)).1
  have hs0 : skip (bs ([32, 10] ++ t.sh ++ [32])) 0 = 2 := by
    rw [skip_step (by rw [sees_of (b := 32) (l := 10 :: (t.sh ++ [32])) hall]; rfl), skip_step (by rw [sees_of (b := 10) (l := t.sh ++ [32]) hall.2]; rfl)]
    exact hs2
  have hse : skip (bs ([32, 10] ++ t.sh ++ [32])) (2 + t.sh.length) = (bs ([32, 10] ++ t.sh ++ [32])).size := by
    rw [show 2 + t.sh.length = 0 + (0 + 1 + 1 + t.sh.length) by omega, skip_step (by rw [sees_of (l := []) h2]; rfl), skip_stop (by rw [sees_end (by omega), sees_end (by omega)]; rfl)]
    omega
  unfold pAll
  rw [hs0, pTree_of t hr _ _ 2 (by omega) (by omega) hst]
  dsimp only
  rw [hse, if_neg (Nat.lt_irrefl _)]
end Go.Proofs.Ythmdoplickpmaaa
