import Derived.Test.YthmdoplickpmaaaParse2
import Derived.Test.YthmdoplickpmaaaScan6
/-! What is shown is read: leaves and nodes. -/
namespace Go.Proofs.Ythmdoplickpmaaa
set_option linter.unusedVariables false
set_option linter.unusedSimpArgs false
open Go.RowKit

theorem flat_low (l : List UInt8) : l.length ≤ (l.flatMap shB).length := by
  induction l with
  | nil => simp
  | cons c l ih => have := (shB_len c).1; rw [List.flatMap_cons, List.length_append, List.length_cons]; omega
theorem shB_first {s : ByteArray} {k : Nat} {c : UInt8} {r : List UInt8} (h : Stands s k (shB c ++ r)) : seesB s k 34 = false := by
  by_cases h1 : c.toNat = 34 ∨ c.toNat = 92
  · rw [shB_quote h1] at h; rw [sees_of (l := c :: r) (b := 92) h]; rfl
  by_cases h2 : c.toNat < 32 ∨ 126 < c.toNat
  · rw [shB_num h1 h2] at h; rw [sees_of (b := 92) h]; rfl
  · rw [shB_self h1 h2] at h
    rw [sees_of (b := c) (l := r) h]
    have hn : c ≠ 34 := fun e => h1 (.inl (by rw [e]; rfl))
    simp [hn]
theorem pText_of {s : ByteArray} : ∀ {l : List UInt8} {f k : Nat} {x : List UInt8}, Stands s k (l.flatMap shB ++ [34]) → l.length + 1 ≤ f → pText s f k x = .ok (bs (x ++ l), k + (l.flatMap shB).length + 1)
  | [], f, k, x, h, hf => by
    obtain ⟨g, rfl⟩ : ∃ g, f = g + 1 := ⟨f - 1, by omega⟩
    rw [pText, if_pos (by rw [sees_of (b := 34) (l := []) h]; rfl)]
    simp [bs]
  | c :: l, f, k, x, h, hf => by
    obtain ⟨g, rfl⟩ : ∃ g, f = g + 1 := ⟨f - 1, by omega⟩
    rw [List.flatMap_cons, List.append_assoc] at h
    have hb := stands_append.1 h
    rw [pText, if_neg (by rw [shB_first h]; simp), pByte_of hb.1]
    dsimp only
    rw [pText_of hb.2 (by simp at hf; omega)]
    simp
    omega
theorem pText_cut {s : ByteArray} : ∀ {l : List UInt8} {f k : Nat} {x : List UInt8}, Stands s k (l.flatMap shB) → k + (l.flatMap shB).length = s.size → l.length + 1 ≤ f → pText s f k x = .error s.size
  | [], f, k, x, h, hk, hf => by
    obtain ⟨g, rfl⟩ : ∃ g, f = g + 1 := ⟨f - 1, by omega⟩
    simp at hk
    subst hk
    rw [pText, if_neg (by rw [sees_end (Nat.le_refl _)]; simp)]
    have : pByte s s.size = .error s.size := by unfold pByte plainB; rw [if_neg (by rw [sees_end (Nat.le_refl _)]; simp)]; simp
    rw [this]
  | c :: l, f, k, x, h, hk, hf => by
    obtain ⟨g, rfl⟩ : ∃ g, f = g + 1 := ⟨f - 1, by omega⟩
    rw [List.flatMap_cons] at h hk
    have hb := stands_append.1 h
    rw [pText, if_neg (by rw [shB_first h]; simp), pByte_of hb.1]
    dsimp only
    exact pText_cut hb.2 (by rw [List.length_append] at hk; omega) (by simp at hf; omega)
theorem past_of {s : ByteArray} {k : Nat} {b : UInt8} {l : List UInt8} (h : Stands s k (b :: l)) (hb : nbB b.toNat = false) : Past s k := .inr ⟨h.1.1, by rw [h.1.2]; exact hb⟩
theorem name_len {n : ByteArray} : n.data.toList.length = n.size := by rw [Array.length_toList]; rfl

theorem pLeaf_of {s n x : ByteArray} {k : Nat} (hk : k ≤ s.size) (hn : nmB n = true) (h : Stands s k (n.data.toList ++ quo x.data.toList)) : pLeaf s k = .ok (⟨n, x, true, []⟩, k + (n.data.toList ++ quo x.data.toList).length) := by
  have h1 := stands_append.1 h
  unfold quo at h1
  rw [name_len] at h1
  have hle := stands_le hk h
  have hl := name_len (n := n)
  have hfl := flat_low x.data.toList
  have hq : (n.data.toList ++ quo x.data.toList).length = n.size + (x.data.toList.flatMap shB).length + 2 := by
    unfold quo
    rw [List.length_append, hl, List.length_cons, List.length_append, List.length_singleton]
    omega
  rw [hq] at hle ⊢
  unfold pLeaf
  rw [pName_of hn h1.1 (past_of h1.2 (by decide))]
  dsimp only
  rw [if_pos (by rw [sees_of h1.2]; rfl), pText_of h1.2.2 (by omega)]
  dsimp only
  have e : bs ([] ++ x.data.toList) = x := by rw [List.nil_append]; rfl
  rw [e, show k + n.size + 1 + (x.data.toList.flatMap shB).length + 1 = k + (n.size + (x.data.toList.flatMap shB).length + 2) by omega]
theorem pLeaf_cut {s n x : ByteArray} {k : Nat} (hn : nmB n = true) (h : Stands s k (n.data.toList ++ 34 :: x.data.toList.flatMap shB)) (he : k + (n.data.toList ++ 34 :: x.data.toList.flatMap shB).length = s.size) : pLeaf s k = .error s.size := by
  have h1 := stands_append.1 h
  rw [name_len] at h1
  unfold pLeaf
  rw [pName_of hn h1.1 (past_of h1.2 (by decide))]
  dsimp only
  have hl := name_len (n := n)
  rw [List.length_append, hl, List.length_cons] at he
  have := flat_low x.data.toList
  rw [if_pos (by rw [sees_of h1.2]; rfl), pText_cut h1.2.2 (by omega) (by omega)]

/-- The first byte of a shown tree. -/
theorem sh_first {t : Tr} (h : t.right = true) : ∃ b l, t.sh = b :: l ∧ ((b = 40 ∧ t.leaf = false) ∨ (letB b.toNat = true ∧ t.leaf = true)) := by
  cases t with
  | mk n x le k =>
    rw [Tr.right_mk] at h
    simp at h
    have hn : nmB n = true := by have := h.1; unfold Tr.alone at this; simp at this; exact this.1
    cases le with
    | false => exact ⟨40, _, Tr.sh_node n x k, .inl ⟨rfl, rfl⟩⟩
    | true =>
      obtain ⟨b, l, hd, hb, _⟩ := name_bytes hn
      exact ⟨b, _, by rw [Tr.sh_leaf, hd]; rfl, .inr ⟨hb, rfl⟩⟩
theorem let_no {b : UInt8} (h : letB b.toNat = true) : b ≠ 40 ∧ b ≠ 32 ∧ b ≠ 10 ∧ b ≠ 41 := by
  refine ⟨?_, ?_, ?_, ?_⟩ <;> (intro e; rw [e] at h; revert h; decide)
theorem skip_first {s : ByteArray} {k : Nat} {t : Tr} {r : List UInt8} (ht : t.right = true) (h : Stands s k (t.sh ++ r)) : skip s k = k ∧ seesB s k 41 = false := by
  obtain ⟨b, l, hb, hc⟩ := sh_first ht
  rw [hb] at h
  have hn : b ≠ 32 ∧ b ≠ 10 ∧ b ≠ 41 := by
    rcases hc with ⟨rfl, _⟩ | ⟨hl, _⟩
    · decide
    · exact (let_no hl).2
  exact ⟨skip_stop (by rw [sees_of (l := l ++ r) h, sees_of (l := l ++ r) h]; simp [hn]), by rw [sees_of (l := l ++ r) h]; simp [hn]⟩

/-- Kids are read. -/
theorem pKids_of {pT : Nat → Except Nat (Tr × Nat)} {s : ByteArray} : ∀ {ks : List Tr} {f k : Nat} {acc : List Tr}, (∀ t ∈ ks, t.right = true ∧ ∀ k', k' ≤ s.size → Stands s k' t.sh → pT k' = .ok (t, k' + t.sh.length)) →
    Stands s k (Tr.shL ks ++ [41]) → ks.length + 1 ≤ f → pKids pT s f k acc = .ok (acc ++ ks, k + (Tr.shL ks).length)
  | [], f, k, acc, hk, h, hf => by
    obtain ⟨g, rfl⟩ : ∃ g, f = g + 1 := ⟨f - 1, by omega⟩
    have h' : Stands s k [41] := h
    have hs : skip s k = k := skip_stop (by rw [sees_of h', sees_of h']; rfl)
    rw [pKids, hs, if_pos (by rw [sees_of h']; rfl)]
    simp [Tr.shL]
  | t :: ks, f, k, acc, hk, h, hf => by
    obtain ⟨g, rfl⟩ : ∃ g, f = g + 1 := ⟨f - 1, by omega⟩
    have e : Tr.shL (t :: ks) = 32 :: (t.sh ++ Tr.shL ks) := by simp [Tr.shL]
    rw [e, List.cons_append, List.append_assoc] at h
    have ht := hk t (List.mem_cons_self ..)
    have h2 := skip_first ht.1 h.2
    have hs : skip s k = k + 1 := by rw [skip_step (by rw [sees_of h]; rfl)]; exact h2.1
    have hst := stands_append.1 h.2
    rw [pKids, hs, if_neg (by rw [h2.2]; simp), if_neg (by omega), ht.2 (k + 1) h.1.1 hst.1]
    dsimp only
    rw [pKids_of (fun t' ht' => hk t' (List.mem_cons_of_mem _ ht')) hst.2 (by simp at hf; omega), e]
    simp
    omega
/-- .. up to the end of the text, and then it is a fault. -/
theorem pKids_cut {pT : Nat → Except Nat (Tr × Nat)} {s : ByteArray} : ∀ {ks : List Tr} {f k : Nat} {acc : List Tr}, (∀ t ∈ ks, t.right = true ∧ ∀ k', k' ≤ s.size → Stands s k' t.sh → pT k' = .ok (t, k' + t.sh.length)) →
    Stands s k (Tr.shL ks) → k + (Tr.shL ks).length = s.size → ks.length + 1 ≤ f → pKids pT s f k acc = .error s.size
  | [], f, k, acc, hk, h, he, hf => by
    obtain ⟨g, rfl⟩ : ∃ g, f = g + 1 := ⟨f - 1, by omega⟩
    simp [Tr.shL] at he
    subst he
    have hs : skip s s.size = s.size := skip_stop (by rw [sees_end (Nat.le_refl _), sees_end (Nat.le_refl _)]; rfl)
    rw [pKids, hs, if_neg (by rw [sees_end (Nat.le_refl _)]; simp), if_pos ⟨rfl, by rw [sees_end (Nat.le_refl _)]; simp⟩]
  | t :: ks, f, k, acc, hk, h, he, hf => by
    obtain ⟨g, rfl⟩ : ∃ g, f = g + 1 := ⟨f - 1, by omega⟩
    have e : Tr.shL (t :: ks) = 32 :: (t.sh ++ Tr.shL ks) := by simp [Tr.shL]
    rw [e] at h he
    have ht := hk t (List.mem_cons_self ..)
    have h2 := skip_first ht.1 h.2
    have hs : skip s k = k + 1 := by rw [skip_step (by rw [sees_of h]; rfl)]; exact h2.1
    have hst := stands_append.1 h.2
    rw [pKids, hs, if_neg (by rw [h2.2]; simp), if_neg (by omega), ht.2 (k + 1) h.1.1 hst.1]
    dsimp only
    exact pKids_cut (fun t' ht' => hk t' (List.mem_cons_of_mem _ ht')) hst.2 (by simp at he; omega) (by simp at hf; omega)
theorem shL_len (ks : List Tr) : ks.length ≤ (Tr.shL ks).length := by
  induction ks with
  | nil => simp
  | cons t ks ih => simp [Tr.shL] at *; omega

theorem pTree_of (t : Tr) : t.right = true → ∀ (d : Nat) (s : ByteArray) (k : Nat), t.deep ≤ d → k ≤ s.size → Stands s k t.sh → pTree s d k = .ok (t, k + t.sh.length) := by
  refine Tr.ind (P := fun t => t.right = true → ∀ (d : Nat) (s : ByteArray) (k : Nat), t.deep ≤ d → k ≤ s.size → Stands s k t.sh → pTree s d k = .ok (t, k + t.sh.length)) ?_ t
  intro n x le ks ih hr d s k hd hk h
  have hr' := hr
  rw [Tr.right_mk] at hr
  simp at hr
  have hn : nmB n = true := by have := hr.1; unfold Tr.alone at this; simp at this; exact this.1
  rw [Tr.deep_mk] at hd
  obtain ⟨g, rfl⟩ : ∃ g, d = g + 1 := ⟨d - 1, by omega⟩
  cases le with
  | true =>
    have hk0 : ks = [] := by have := hr.1; simp [Tr.alone] at this; exact this.2.1
    subst hk0
    rw [Tr.sh_leaf] at h ⊢
    obtain ⟨b, l, hb, hall, _⟩ := name_bytes hn
    have h40 : seesB s k 40 = false := by
      rw [hb] at h
      rw [sees_of (l := l ++ quo x.data.toList) h]
      simp [(let_no hall).1]
    rw [pTree, if_neg (by rw [h40]; simp), pLeaf_of hk hn h]
  | false =>
    have hx0 : x = ByteArray.empty := by have := hr.1; simp [Tr.alone] at this; exact this.2
    subst hx0
    rw [Tr.sh_node] at h ⊢
    have hst := stands_append.1 h.2
    rw [name_len] at hst
    obtain ⟨b, l, hb, hlb, _⟩ := name_bytes hn
    have hs1 : skip s (k + 1) = k + 1 := by
      have h1 := h.2
      rw [hb] at h1
      exact skip_stop (by rw [sees_of (l := l ++ (Tr.shL ks ++ [41])) h1, sees_of (l := l ++ (Tr.shL ks ++ [41])) h1]; simp [(let_no hlb).2.1, (let_no hlb).2.2.1])
    have hpast : Past s (k + 1 + n.size) := by
      cases ks with
      | nil => exact past_of (b := 41) (l := []) hst.2 (by decide)
      | cons t ks => exact past_of (b := 32) (l := t.sh ++ Tr.shL ks ++ [41]) (by simpa [Tr.shL] using hst.2) (by decide)
    have hle := stands_le hk h
    rw [pTree, if_pos (by rw [sees_of h]; rfl), hs1, pName_of hn hst.1 hpast]
    dsimp only
    rw [pKids_of (fun t ht => ?_) hst.2 (by have := shL_len ks; have := name_len (n := n); simp at hle this; omega)]
    · dsimp only
      have := name_len (n := n)
      simp at this ⊢
      omega
    · obtain ⟨i, hi, rfl⟩ := List.getElem_of_mem ht
      have hri : ks[i].right = true := by have := hr.2; unfold Tr.rightL at this; simp at this; exact this _ (List.getElem_mem hi)
      refine ⟨hri, fun k' hk' hs' => ih i hi hri g s k' ?_ hk' hs'⟩
      have h1 := Tr.deepL_take_succ ks i hi
      have h2 := Tr.deepL_take_le ks (i + 1)
      omega
end Go.Proofs.Ythmdoplickpmaaa
