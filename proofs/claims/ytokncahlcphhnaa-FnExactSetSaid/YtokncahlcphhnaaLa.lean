import Derived.Test.YtokncahlcphhnaaDat
import Derived.Lib.Bytealg
/-! Layouts that are right: plain mathematics. -/
namespace Go.Proofs.Ytokncahlcphhnaa
open Go.RowKit Go.Deep
set_option linter.unusedVariables false
set_option maxRecDepth 100000
set_option linter.unusedSimpArgs false

theorem get!_eq (s : ByteArray) (j : Nat) (h : j < s.size) : s.get! j = s[j] := by
  have h' : j < s.data.size := h
  show s.data[j]! = s.data[j]
  exact getElem!_pos s.data j h'
theorem isEmpty_iff (x : ByteArray) : x.toList.isEmpty = decide (x.size = 0) := by
  rw [ByteArray.toList_eq]
  have h : x.data.toList.length = x.size := rfl
  cases e : x.data.toList with
  | nil =>
    rw [e] at h
    have h' : x.size = 0 := h.symm
    rw [h']; rfl
  | cons c r =>
    rw [e] at h
    have h' : ¬ x.size = 0 := by rw [← h]; simp
    rw [decide_eq_false h']; rfl
/-- Whether a byte stands in a text. -/
def inS (gs : ByteArray) (b : UInt8) : Nat → Bool
  | 0 => false
  | j + 1 => inS gs b j || (gs.get! j == b)
theorem inS_iff (gs : ByteArray) (b : UInt8) : ∀ j, inS gs b j = true ↔ ∃ i, i < j ∧ gs.get! i = b
  | 0 => by simp [inS]
  | j + 1 => by
    rw [inS, Bool.or_eq_true, inS_iff gs b j]
    constructor
    · rintro (⟨i, hi, h⟩ | h)
      · exact ⟨i, by omega, h⟩
      · exact ⟨j, by omega, by simpa using h⟩
    · rintro ⟨i, hi, h⟩
      by_cases e : i = j
      · subst e; exact .inr (by simpa using h)
      · exact .inl ⟨i, by omega, h⟩
theorem inS_all (gs : ByteArray) (b : UInt8) : inS gs b gs.size = gs.data.toList.contains b := by
  rw [Bool.eq_iff_iff, inS_iff]
  simp only [List.contains_iff_mem]
  rw [List.mem_iff_getElem]
  constructor
  · rintro ⟨i, hi, h⟩
    refine ⟨i, hi, ?_⟩
    rw [get!_eq gs i hi] at h
    exact h
  · rintro ⟨i, hi, h⟩
    refine ⟨i, hi, ?_⟩
    rw [get!_eq gs i hi]
    exact h
/-- .. a line feed. -/
def in10 (s : ByteArray) : Bool := s.data.toList.contains 10
theorem index_in (l : List UInt8) (c : UInt8) : decide (0 ≤ Lib.indexByte l c) = l.contains c := by
  induction l with
  | nil => rfl
  | cons b l ih =>
    unfold Lib.indexByte
    rw [List.contains_cons]
    have hge := Lib.indexByte_ge l c
    by_cases hb : (b == c) = true
    · rw [if_pos hb]
      have e : b = c := beq_iff_eq.1 hb
      subst e
      rw [beq_self_eq_true]; rfl
    · have hb' : (c == b) = false := by
        rw [beq_eq_false_iff_ne]; intro e; subst e; simp at hb
      rw [if_neg hb, hb', Bool.false_or, ← ih]
      by_cases h2 : (Lib.indexByte l c == -1) = true
      · rw [if_pos h2]
        have h3 : Lib.indexByte l c = -1 := by simpa using h2
        rw [h3]
      · rw [if_neg h2]
        have h3 : Lib.indexByte l c ≠ -1 := by simpa using h2
        exact decide_eq_decide.2 (by omega)
/-- A node alone is right. -/
def ndB (t : DLNode) : Bool :=
  if t.kind = 1 then decide (t.s.size ≤ 200) && (!in10 t.s && (decide (t.n = 0) && decide (t.kids.length = 0)))
  else if t.kind = 2 ∨ t.kind = 3 ∨ t.kind = 4 then decide (t.s.size = 0) && (decide (t.n = 0) && decide (t.kids.length = 0))
  else if t.kind = 5 then decide (t.s.size = 0) && (decide (0 ≤ t.n) && (decide (t.n ≤ 20) && decide (t.kids.length = 1)))
  else if t.kind = 6 then decide (t.s.size = 0) && (decide (t.n = 0) && decide (t.kids.length = 1))
  else if t.kind = 7 then decide (t.s.size = 0) && decide (t.n = 0)
  else false
def zN : DLNode := ⟨0, ByteArray.empty, 0, []⟩
theorem getZ {l : List DLNode} {i : Nat} (h : i < l.length) : l.getD i zN = l[i] := by simp [List.getD_eq_getElem?_getD, h]
/-- The places of the groups among the first so many. -/
def gpl (l : List DLNode) (j : Nat) : List Int := ((List.range j).filter fun i => decide ((l.getD i zN).kind = 6)).map fun (i : Nat) => (i : Int)
theorem gpl_yes {l : List DLNode} {j : Nat} (h : (l.getD j zN).kind = 6) : gpl l (j + 1) = gpl l j ++ [(j : Int)] := by
  unfold gpl; rw [List.range_succ, List.filter_append, List.map_append]
  congr 1
  show List.map _ (match decide ((l.getD j zN).kind = 6) with | true => j :: [] | false => []) = _
  rw [decide_eq_true h]; rfl
theorem gpl_no {l : List DLNode} {j : Nat} (h : ¬ (l.getD j zN).kind = 6) : gpl l (j + 1) = gpl l j := by
  unfold gpl; rw [List.range_succ, List.filter_append, List.map_append, List.filter_cons_of_neg (by rw [decide_eq_false h]; simp)]; simp
theorem gpl_len (l : List DLNode) (j : Nat) : (gpl l j).length ≤ j := by
  unfold gpl; rw [List.length_map]
  exact Nat.le_trans (List.length_filter_le _ _) (by simp)
theorem gpl_take {l : List DLNode} {i : Nat} : ∀ j, j ≤ i → gpl (l.take i) j = gpl l j := by
  intro j hj
  unfold gpl
  congr 1
  apply List.filter_congr
  intro x hx
  have := List.mem_range.1 hx
  simp [List.getD_eq_getElem?_getD, List.getElem?_take, show x < i by omega]
/-- All Kids, in order. -/
def kal (l : List DLNode) : List Int := (l.map DLNode.kids).flatten
theorem kal_take {l : List DLNode} {j : Nat} (h : j < l.length) : kal (l.take (j + 1)) = kal (l.take j) ++ l[j].kids := by
  unfold kal; rw [List.take_succ_eq_append_getElem h, List.map_append, List.flatten_append]; simp
theorem kal_split {l : List DLNode} {j : Nat} (h : j < l.length) : ∃ r, kal l = kal (l.take j) ++ (l[j].kids ++ r) := by
  refine ⟨kal (l.drop (j + 1)), ?_⟩
  have e : l = l.take j ++ (l[j] :: l.drop (j + 1)) := by rw [← List.drop_eq_getElem_cons h, List.take_append_drop]
  have h2 := congrArg (fun x => (List.map DLNode.kids x).flatten) e
  simp only [List.map_append, List.flatten_append, List.map_cons, List.flatten_cons] at h2
  exact h2
structure LoP (l : List DLNode) : Prop where
  n1 : 1 ≤ l.length
  n2 : l.length ≤ 300
  g : (gpl l l.length).length ≤ 12
  nd : ∀ i (hi : i < l.length), ndB l[i] = true
  kd : ∀ i (hi : i < l.length), ∀ k ∈ l[i].kids, 0 ≤ k ∧ k < (i : Int)
  on : ∀ i : Nat, i + 1 < l.length → (kal l).count (i : Int) = 1
def kdB (l : List DLNode) : Bool := (List.range l.length).all fun i => (l.getD i zN).kids.all fun k => decide (0 ≤ k ∧ k < (i : Int))
def onB (l : List DLNode) : Bool := (List.range (l.length - 1)).all fun i => decide ((kal l).count (i : Int) = 1)
/-- A layout is right. -/
def loB (l : List DLNode) : Bool := decide (1 ≤ l.length) && (decide (l.length ≤ 300) && (decide ((gpl l l.length).length ≤ 12) && (l.all ndB && (kdB l && onB l))))
theorem lo_iff (l : List DLNode) : loB l = true ↔ LoP l := by
  unfold loB kdB onB
  simp only [Bool.and_eq_true, decide_eq_true_eq, List.all_eq_true, List.mem_range]
  constructor
  · rintro ⟨h1, h2, h3, h4, h5, h6⟩
    refine ⟨h1, h2, h3, fun i hi => h4 _ (List.getElem_mem hi), fun i hi k hk => ?_, fun i hi => h6 i (by omega)⟩
    have := h5 i hi
    rw [getZ hi] at this
    exact this k hk
  · rintro ⟨h1, h2, h3, h4, h5, h6⟩
    refine ⟨h1, h2, h3, fun x hx => ?_, fun i hi k hk => ?_, fun i hi => h6 i (by omega)⟩
    · obtain ⟨i, hi, rfl⟩ := List.mem_iff_getElem.1 hx
      exact h4 i hi
    · rw [getZ hi] at hk
      exact h5 i hi k hk
theorem lo_no {l : List DLNode} (h : ¬ LoP l) : loB l = false := by
  cases e : loB l
  · rfl
  · exact absurd ((lo_iff l).1 e) h
/-- What was met: all Kids ahead of a node, and so many of its own. -/
def mt (l : List DLNode) (j q : Nat) : List Int := kal (l.take j) ++ (l.getD j zN).kids.take q
theorem mt_zero (l : List DLNode) (j : Nat) : mt l j 0 = kal (l.take j) := by simp [mt]
theorem mt_next {l : List DLNode} {j q : Nat} (hj : j < l.length) (hq : q < l[j].kids.length) : mt l j (q + 1) = mt l j q ++ [l[j].kids[q]] := by
  unfold mt
  rw [getZ hj, List.take_succ_eq_append_getElem hq, List.append_assoc]
theorem mt_end {l : List DLNode} {j : Nat} (hj : j < l.length) : mt l j l[j].kids.length = kal (l.take (j + 1)) := by
  unfold mt; rw [getZ hj, kal_take hj, List.take_length]
theorem mt_pre {l : List DLNode} {j q : Nat} (hj : j < l.length) : ∃ r, kal l = mt l j q ++ r := by
  obtain ⟨r, hr⟩ := kal_split hj
  refine ⟨l[j].kids.drop q ++ r, ?_⟩
  unfold mt
  rw [hr, getZ hj, List.append_assoc, ← List.append_assoc (l[j].kids.take q), List.take_append_drop]
/-- So far all is as it must be. -/
structure Sf (l : List DLNode) (j q : Nat) : Prop where
  kd : ∀ i (hi : i < l.length), i < j → ∀ k ∈ l[i].kids, 0 ≤ k ∧ k < (i : Int)
  kq : ∀ k ∈ (l.getD j zN).kids.take q, 0 ≤ k ∧ k < (j : Int)
theorem Sf.zero (l : List DLNode) : Sf l 0 0 := ⟨fun i hi h => absurd h (Nat.not_lt_zero _), fun k hk => by simp at hk⟩
theorem Sf.next {l : List DLNode} {j q : Nat} (h : Sf l j q) (hj : j < l.length) (hq : q < l[j].kids.length) (h0 : 0 ≤ l[j].kids[q]) (h1 : l[j].kids[q] < (j : Int)) : Sf l j (q + 1) := by
  refine ⟨h.kd, fun k hk => ?_⟩
  rw [getZ hj, List.take_succ_eq_append_getElem hq] at hk
  rcases List.mem_append.1 hk with hk | hk
  · exact h.kq k (by rw [getZ hj]; exact hk)
  · simp at hk; subst hk; exact ⟨h0, h1⟩
theorem Sf.line {l : List DLNode} {j : Nat} (hj : j < l.length) (h : Sf l j l[j].kids.length) : Sf l (j + 1) 0 := by
  refine ⟨fun i hi hij k hk => ?_, fun k hk => by simp at hk⟩
  by_cases e : i = j
  · subst e
    exact h.kq k (by rw [getZ hj, List.take_length]; exact hk)
  · exact h.kd i hi (by omega) k hk
/-- The program's: what was met was met once. -/
theorem twice_no {l : List DLNode} {j q : Nat} (hj : j < l.length) (hq : q < l[j].kids.length) (h0 : 0 ≤ l[j].kids[q]) (h1 : l[j].kids[q] < (j : Int)) (hm : l[j].kids[q] ∈ mt l j q) : ¬ LoP l := by
  intro h
  obtain ⟨r, hr⟩ := mt_pre (q := q + 1) hj
  have h2 := h.on l[j].kids[q].toNat (by omega)
  rw [Int.toNat_of_nonneg h0, hr, mt_next hj hq, List.count_append, List.count_append] at h2
  have h3 := List.count_pos_iff.2 hm
  simp at h2
  omega
theorem range_no {l : List DLNode} {j q : Nat} (hj : j < l.length) (hq : q < l[j].kids.length) (h0 : ¬ (0 ≤ l[j].kids[q] ∧ l[j].kids[q] < (j : Int))) : ¬ LoP l :=
  fun h => h0 (h.kd j hj _ (List.getElem_mem hq))
theorem node_no {l : List DLNode} {j : Nat} (hj : j < l.length) (h0 : ndB l[j] = false) : ¬ LoP l := fun h => by
  have := h.nd j hj; rw [h0] at this; cases this
theorem lo_end {l : List DLNode} (h1 : 1 ≤ l.length) (h2 : l.length ≤ 300) (h3 : (gpl l l.length).length ≤ 12) (h4 : ∀ i (hi : i < l.length), ndB l[i] = true) (h5 : Sf l l.length 0) (h6 : ∀ i : Nat, i + 1 < l.length → (kal l).count (i : Int) = 1) : LoP l :=
  ⟨h1, h2, h3, h4, fun i hi => h5.kd i hi hi, h6⟩
end Go.Proofs.Ytokncahlcphhnaa
