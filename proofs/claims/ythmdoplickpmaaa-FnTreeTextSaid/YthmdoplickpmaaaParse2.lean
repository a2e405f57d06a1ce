import Derived.Test.YthmdoplickpmaaaParse
import Derived.Test.YthmdoplickpmaaaShow3
import Derived.Test.YthmdoplickpmaaaScan3
/-! What is shown is read: the pure reading of a shown tree. -/
namespace Go.Proofs.Ythmdoplickpmaaa
set_option linter.unusedVariables false
set_option linter.unusedSimpArgs false
open Go.RowKit

theorem begins_of {n m b : Nat} (hm : m ≤ 2) (h : b < 256) (hb : b / 10 ^ m = n) (hp : b < 32 ∨ 126 < b) : begins n m = true := by
  unfold begins
  have : m = 0 ∨ m = 1 ∨ m = 2 := by omega
  rcases this with rfl | rfl | rfl <;> simp only [Nat.reducePow, decide_eq_true_eq] at * <;> omega

/-- Bytes stand at a place of a text. -/
def Stands (s : ByteArray) : Nat → List UInt8 → Prop
  | _, [] => True
  | k, b :: l => (k < s.size ∧ s.get! k = b) ∧ Stands s (k + 1) l
theorem stands_append {s : ByteArray} : ∀ {k : Nat} {a b : List UInt8}, Stands s k (a ++ b) ↔ Stands s k a ∧ Stands s (k + a.length) b
  | k, [], b => by simp [Stands]
  | k, c :: a, b => by
    simp only [List.cons_append, Stands, List.length_cons]
    rw [stands_append (a := a) (k := k + 1), show k + 1 + a.length = k + (a.length + 1) by omega]
    exact ⟨fun h => ⟨⟨h.1, h.2.1⟩, h.2.2⟩, fun h => ⟨h.1.1, h.1.2, h.2⟩⟩
theorem stands_le {s : ByteArray} : ∀ {k : Nat} {l : List UInt8}, k ≤ s.size → Stands s k l → k + l.length ≤ s.size
  | k, [], hk, _ => hk
  | k, b :: l, _, h => by have := stands_le (k := k + 1) h.1.1 h.2; simp; omega
theorem stands_get {s : ByteArray} : ∀ {k : Nat} {l : List UInt8}, Stands s k l → ∀ i (h : i < l.length), k + i < s.size ∧ s.get! (k + i) = l[i]
  | k, b :: l, hs, 0, _ => hs.1
  | k, b :: l, hs, i + 1, h => by
    have := stands_get hs.2 i (by simpa using h)
    rw [show k + (i + 1) = k + 1 + i by omega]
    exact this
theorem sees_of {s : ByteArray} {k : Nat} {b : UInt8} {l : List UInt8} (h : Stands s k (b :: l)) (c : UInt8) : seesB s k c = (b == c) := by
  unfold seesB; simp [h.1.1, h.1.2]
theorem sees_end {s : ByteArray} {c : UInt8} {k : Nat} (h : s.size ≤ k) : seesB s k c = false := by
  unfold seesB; simp; omega
theorem extract_of {s n : ByteArray} {k : Nat} (h : Stands s k n.data.toList) : s.extract k (k + n.size) = n := by
  have hl : n.data.toList.length = n.size := by rw [Array.length_toList]; rfl
  apply ByteArray.ext
  apply Array.ext
  · show (s.extract k (k + n.size)).size = n.size
    rw [ByteArray.size_extract]
    by_cases h0 : n.size = 0
    · omega
    · have := (stands_get h (n.size - 1) (by omega)).1
      omega
  · intro i h1 h2
    have hi : i < n.size := h2
    have hg := stands_get h i (by omega)
    have e1 : (s.extract k (k + n.size)).data[i] = s.data[k + i]'(hg.1) := by
      simp [ByteArray.data_extract]
    rw [e1]
    have e2 := hg.2
    rw [get!_eq s (k + i) hg.1] at e2
    have e3 : s[k + i]'(hg.1) = s.data[k + i]'(hg.1) := rfl
    rw [← e3, e2]
    simp

/-- No name's byte stands behind: the text ends, or another one. -/
def Past (s : ByteArray) (k : Nat) : Prop := s.size ≤ k ∨ (k < s.size ∧ nbB (s.get! k).toNat = false)
theorem nmEnd_of {s : ByteArray} : ∀ {f k : Nat} {l : List UInt8}, Stands s k l → (∀ b ∈ l, nbB b.toNat = true) → l.length ≤ f → Past s (k + l.length) → nmEnd s f k = k + l.length
  | 0, k, [], _, _, _, _ => rfl
  | 0, k, b :: l, _, _, h, _ => absurd h (by simp)
  | f + 1, k, [], _, _, _, hp => by
    rw [nmEnd, if_neg ?_]
    · rfl
    · simp only [List.length_nil, Nat.add_zero] at hp
      rcases hp with h | ⟨_, h⟩
      · simp; omega
      · simp [h]
  | f + 1, k, b :: l, hs, hb, hl, hp => by
    rw [nmEnd, if_pos ?_, nmEnd_of (f := f) (k := k + 1) hs.2 (fun c hc => hb c (List.mem_cons_of_mem _ hc)) (by simpa using hl) (by rw [show k + 1 + l.length = k + (b :: l).length by simp; omega]; exact hp)]
    · simp; omega
    · rw [hs.1.2]; simp [hs.1.1, hb b (List.mem_cons_self ..)]
theorem name_bytes {n : ByteArray} (h : nmB n = true) : ∃ b l, n.data.toList = b :: l ∧ letB b.toNat = true ∧ (∀ c ∈ n.data.toList, nbB c.toNat = true) ∧ n.data.toList.length = n.size ∧ n.size ≤ 24 := by
  obtain ⟨h1, h2, h3, h4⟩ := nmB_iff.1 h
  have hl : n.data.toList.length = n.size := by rw [Array.length_toList]; rfl
  cases hd : n.data.toList with
  | nil => rw [hd] at hl; simp at hl; omega
  | cons b l =>
    have e0 : n[0]'h1 = b := by
      have : n.data.toList[0]'(by omega) = n[0]'h1 := rfl
      rw [← this]
      simp [hd]
    refine ⟨b, l, rfl, by rw [← e0]; exact h3, fun c hc => ?_, by rw [← hd]; exact hl, h2⟩
    obtain ⟨i, hi, rfl⟩ := List.getElem_of_mem hc
    have hin : i < n.size := by rw [← hl, hd]; exact hi
    have ei : (b :: l)[i] = n[i] := by
      have : n.data.toList[i]'(by omega) = n[i] := rfl
      rw [← this]
      simp [hd]
    rw [ei]
    by_cases h0 : i = 0
    · subst h0; exact let_nb h3
    · exact h4 i hin (by omega)
theorem pName_of {s n : ByteArray} {k : Nat} (hn : nmB n = true) (h : Stands s k n.data.toList) (hp : Past s (k + n.size)) : pName s k = .ok (n, k + n.size) := by
  obtain ⟨b, l, hd, hb, hall, hl, h24⟩ := name_bytes hn
  have hE : nmEnd s 24 k = k + n.size := by
    have := nmEnd_of (f := 24) h hall (by omega) (by rw [hl]; exact hp)
    rw [hl] at this
    exact this
  have h0 : k < s.size ∧ s.get! k = b := by rw [hd] at h; exact h.1
  unfold pName
  rw [if_pos (by rw [h0.2]; simp [h0.1, hb]), hE, extract_of h]

theorem dig_of {c : UInt8} {n : Nat} (h : c.toNat = 48 + n) (hn : n ≤ 9) : digB c.toNat = true := by unfold digB; simp; omega
/-- A byte is read from what it is shown as. -/
theorem pByte_of {s : ByteArray} {k : Nat} {c : UInt8} (h : Stands s k (shB c)) : pByte s k = .ok (c, k + (shB c).length) := by
  have hc := c.toNat_lt
  by_cases h1 : c.toNat = 34 ∨ c.toNat = 92
  · rw [shB_quote h1] at h ⊢
    have e : seesB s k 92 = true := by rw [sees_of h]; rfl
    unfold pByte
    rw [if_pos e]
    unfold pEsc
    rw [if_pos ?_, h.2.1.2]
    · rfl
    · rw [sees_of h.2, sees_of h.2]
      rcases h1 with h1 | h1
      · have : c = 34 := UInt8.toNat_inj.1 h1
        subst this; rfl
      · have : c = 92 := UInt8.toNat_inj.1 h1
        subst this; rfl
  by_cases h2 : c.toNat < 32 ∨ 126 < c.toNat
  · rw [shB_num h1 h2] at h ⊢
    have e : seesB s k 92 = true := by rw [sees_of h]; rfl
    have t1 : (48 + c / 100 : UInt8).toNat = 48 + c.toNat / 100 := by simp; omega
    have t2 : (48 + c / 10 % 10 : UInt8).toNat = 48 + c.toNat / 10 % 10 := by simp; omega
    have t3 : (48 + c % 10 : UInt8).toNat = 48 + c.toNat % 10 := by simp; omega
    obtain ⟨g0, g1, g2, g3, _⟩ := h
    have n1 : ∀ (x : UInt8) (m : Nat), x.toNat = 48 + m → m ≤ 9 → x ≠ 34 ∧ x ≠ 92 := fun x m hx hm => ⟨fun e => by rw [e] at hx; simp at hx; omega, fun e => by rw [e] at hx; simp at hx; omega⟩
    have d1 := n1 _ _ t1 (by omega)
    unfold pByte
    rw [if_pos e]
    unfold pEsc
    rw [if_neg (by unfold seesB; rw [g1.2]; simp [g1.1, d1.1, d1.2])]
    rw [pNum_go (m := 2) (n' := c.toNat / 100) (by rw [g1.2]; simp [g1.1]; exact dig_of t1 (by omega)) (by rw [g1.2, t1]; omega) (begins_of (b := c.toNat) (by omega) hc rfl h2)]
    rw [pNum_go (m := 1) (n' := c.toNat / 10) (by rw [g2.2]; simp [g2.1]; exact dig_of t2 (by omega)) (by rw [g2.2, t2]; omega) (begins_of (b := c.toNat) (by omega) hc rfl h2)]
    rw [pNum_go (m := 0) (n' := c.toNat) (by rw [g3.2]; simp [g3.1]; exact dig_of t3 (by omega)) (by rw [g3.2, t3]; omega) (begins_of (b := c.toNat) (by omega) hc (by simp) h2)]
    rw [pNum]
    simp
  · rw [shB_self h1 h2] at h ⊢
    have hn : c ≠ 92 := fun e => h1 (.inr (by rw [e]; rfl))
    unfold pByte
    rw [if_neg (by rw [sees_of h]; simp [hn]), if_pos (by unfold plainB; rw [h.1.2]; simp [h.1.1]; omega), h.1.2]
    rfl
end Go.Proofs.Ythmdoplickpmaaa
