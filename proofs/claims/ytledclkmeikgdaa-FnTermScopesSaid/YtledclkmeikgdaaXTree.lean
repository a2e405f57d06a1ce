import Derived.Test.YtledclkmeikgdaaXBase
/-! What is counted and asked of a tree: plain mathematics. -/
namespace Go.Proofs.Ytledclkmeikgdaa.T
set_option linter.unusedVariables false
set_option linter.unusedSimpArgs false
open Go.RowKit

def letB (c : Int) : Bool := decide (97 ≤ c ∧ c ≤ 122 ∨ 65 ≤ c ∧ c ≤ 90)
def digB (c : Int) : Bool := decide (48 ≤ c ∧ c ≤ 57)
def nbB (c : Int) : Bool := letB c || digB c || decide (c = 95)

/-- A name, as the document has it. -/
def NmP (s : ByteArray) : Prop := ∃ h : 1 ≤ s.size, s.size ≤ 24 ∧ letB (s[0]'h).toNat = true ∧ ∀ j (hj : j < s.size), 1 ≤ j → nbB s[j].toNat = true
def nmB (s : ByteArray) : Bool := decide (1 ≤ s.size) && decide (s.size ≤ 24) && letB (s.get! 0).toNat && (List.range s.size).all fun j => j == 0 || nbB (s.get! j).toNat
theorem get!_eq (s : ByteArray) (j : Nat) (h : j < s.size) : s.get! j = s[j] := by
  have h' : j < s.data.size := h
  show s.data[j]! = s.data[j]
  exact getElem!_pos s.data j h'
theorem nmB_iff {s : ByteArray} : nmB s = true ↔ NmP s := by
  unfold nmB NmP
  constructor
  · intro h
    simp at h
    obtain ⟨⟨⟨h1, h2⟩, h3⟩, h4⟩ := h
    refine ⟨h1, h2, ?_, fun j hj h5 => ?_⟩
    · rw [← get!_eq s 0 h1]; exact h3
    · rcases h4 j hj with h | h
      · omega
      · rw [← get!_eq s j hj]; exact h
  · rintro ⟨h1, h2, h3, h4⟩
    simp
    refine ⟨⟨⟨h1, h2⟩, ?_⟩, fun j hj => ?_⟩
    · rw [get!_eq s 0 h1]; exact h3
    · by_cases h5 : j = 0
      · exact .inl h5
      · right; rw [get!_eq s j hj]; exact h4 j hj (by omega)
theorem nmB_yes {s : ByteArray} (h : NmP s) : nmB s = true := nmB_iff.2 h
theorem nmB_no {s : ByteArray} (h : ¬ NmP s) : nmB s = false := by
  cases e : nmB s
  · rfl
  · exact absurd (nmB_iff.1 e) h

theorem isEmpty_iff (x : ByteArray) : x.toList.isEmpty = decide (x.size = 0) := by
  rw [ByteArray.toList_eq]
  have h : x.data.toList.length = x.size := rfl
  cases e : x.data.toList with
  | nil =>
    rw [e] at h
    have h' : x.size = 0 := h.symm
    rw [h']; rfl
  | cons c r =>
    rw [e] at h
    have h' : ¬ x.size = 0 := by rw [← h]; simp
    rw [decide_eq_false h']; rfl

namespace Tr
def cnt : Tr → Nat := fold fun _ _ _ ks => 1 + ks.sum
def cntL (k : List Tr) : Nat := (k.map cnt).sum
theorem cnt_mk (n x : ByteArray) (l : Bool) (k : List Tr) : cnt ⟨n, x, l, k⟩ = 1 + cntL k := by
  unfold cntL cnt; rw [fold_mk]
def deep : Tr → Nat := fold fun _ _ _ ks => 1 + ks.foldr max 0
def deepL (k : List Tr) : Nat := (k.map deep).foldr max 0
theorem deep_mk (n x : ByteArray) (l : Bool) (k : List Tr) : deep ⟨n, x, l, k⟩ = 1 + deepL k := by
  unfold deepL deep; rw [fold_mk]
/-- The tree itself is right, its Kids aside. -/
def alone (n x : ByteArray) (l : Bool) (len : Nat) : Bool :=
  nmB n && (if l then decide (len = 0) && decide (x.size ≤ 200) else decide (x.size = 0))
theorem alone_no {n x : ByteArray} {l : Bool} {m : Nat} (h1 : nmB n = true) (h : alone n x l m = false) : (l = true ∧ 0 < m) ∨ (l = true ∧ m ≤ 0 ∧ 200 < x.size) ∨ (l = false ∧ x.toList.isEmpty = false) := by
  unfold alone at h
  rw [h1] at h
  rw [isEmpty_iff]
  by_cases hm : m = 0 <;> cases l <;> simp [hm] at h ⊢ <;> omega
theorem alone_yes {n x : ByteArray} {l : Bool} {m : Nat} (h : alone n x l m = true) : (l = true ∧ m ≤ 0 ∧ x.size ≤ 200) ∨ (l = false ∧ x.toList.isEmpty = true) := by
  unfold alone at h
  rw [isEmpty_iff]
  cases l <;> simp at h ⊢
  · exact h.2
  · exact h.2
def right : Tr → Bool := fold fun n x l ks => alone n x l ks.length && ks.all id
def rightL (k : List Tr) : Bool := k.all right
theorem right_mk (n x : ByteArray) (l : Bool) (k : List Tr) : right ⟨n, x, l, k⟩ = (alone n x l k.length && rightL k) := by
  unfold rightL right; rw [fold_mk]; simp [List.all_map, Function.comp_def]

theorem cntL_append (a b : List Tr) : cntL (a ++ b) = cntL a + cntL b := by simp [cntL]
theorem deepL_append (a b : List Tr) : deepL (a ++ b) = max (deepL a) (deepL b) := by
  induction a with
  | nil => simp [deepL]
  | cons t r ih =>
    have e : ∀ (u : Tr) (l : List Tr), deepL (u :: l) = max (deep u) (deepL l) := fun _ _ => rfl
    rw [List.cons_append, e, e, ih, Nat.max_assoc]
theorem rightL_append (a b : List Tr) : rightL (a ++ b) = (rightL a && rightL b) := by
  induction a with
  | nil => simp [rightL]
  | cons t r ih => simp [rightL, Bool.and_assoc]

theorem cntL_take_succ (k : List Tr) (i : Nat) (h : i < k.length) : cntL (k.take (i + 1)) = cntL (k.take i) + cnt k[i] := by
  rw [List.take_succ_eq_append_getElem h, cntL_append]; simp [cntL]
theorem deepL_take_succ (k : List Tr) (i : Nat) (h : i < k.length) : deepL (k.take (i + 1)) = max (deepL (k.take i)) (deep k[i]) := by
  rw [List.take_succ_eq_append_getElem h, deepL_append]; simp [deepL]
theorem rightL_take_succ (k : List Tr) (i : Nat) (h : i < k.length) : rightL (k.take (i + 1)) = (rightL (k.take i) && right k[i]) := by
  rw [List.take_succ_eq_append_getElem h, rightL_append]; simp [rightL]

theorem cntL_take_le (k : List Tr) (i : Nat) : cntL (k.take i) ≤ cntL k := by
  have h := cntL_append (k.take i) (k.drop i)
  rw [List.take_append_drop] at h; omega
theorem deepL_take_le (k : List Tr) (i : Nat) : deepL (k.take i) ≤ deepL k := by
  have h := deepL_append (k.take i) (k.drop i)
  rw [List.take_append_drop] at h; omega
theorem rightL_take (k : List Tr) (i : Nat) (h : rightL k = true) : rightL (k.take i) = true := by
  have e := rightL_append (k.take i) (k.drop i)
  rw [List.take_append_drop, h] at e
  simp at e; exact e.1

theorem cnt_pos (t : Tr) : 1 ≤ cnt t := by cases t; rw [cnt_mk]; omega
theorem deep_pos (t : Tr) : 1 ≤ deep t := by cases t; rw [deep_mk]; omega

theorem deepL_le_cntL (k : List Tr) (h : ∀ i (hi : i < k.length), deep k[i] ≤ cnt k[i]) : deepL k ≤ cntL k := by
  induction k with
  | nil => simp [deepL]
  | cons t r ih =>
    have h0 := h 0 (by simp)
    have h1 := ih (fun i hi => h (i + 1) (by simp; omega))
    simp [deepL, cntL] at h0 h1 ⊢; omega

theorem deep_le_cnt (t : Tr) : deep t ≤ cnt t := by
  refine ind (P := fun t => deep t ≤ cnt t) ?_ t
  intro n x l k ih
  rw [deep_mk, cnt_mk]
  have := deepL_le_cntL k ih
  omega

theorem cntL_le_wtL (k : List Tr) (h : ∀ i (hi : i < k.length), cnt k[i] ≤ wt k[i] + 1) : cntL k ≤ k.length + wtL k := by
  induction k with
  | nil => simp [cntL]
  | cons t r ih =>
    have h0 := h 0 (by simp)
    have h1 := ih (fun i hi => h (i + 1) (by simp; omega))
    simp [cntL, wtL] at h0 h1 ⊢; omega

/-- There is at most one tree more than the laws' bound counts. -/
theorem cnt_le_wt (t : Tr) : cnt t ≤ wt t + 1 := by
  refine ind (P := fun t => cnt t ≤ wt t + 1) ?_ t
  intro n x l k ih
  rw [cnt_mk, wt_mk]
  have := cntL_le_wtL k ih
  omega

/-- The whole tree is right. -/
def ok (t : Tr) : Bool := decide (cnt t ≤ 1000) && decide (deep t ≤ 60) && right t
end Tr

/-- What l01Room comes to. -/
def rmR (c p : Nat) (r d : Int) : Int := if (c : Int) ≤ r ∧ (p : Int) ≤ d then r - c else -1
theorem rmR_yes {c p : Nat} {r d : Int} (h : (c : Int) ≤ r) (h' : (p : Int) ≤ d) : rmR c p r d = r - c := if_pos ⟨h, h'⟩
theorem rmR_no {c p : Nat} {r d : Int} (h : r < c ∨ d < p) : rmR c p r d = -1 := if_neg (by omega)

end Go.Proofs.Ytledclkmeikgdaa.T
