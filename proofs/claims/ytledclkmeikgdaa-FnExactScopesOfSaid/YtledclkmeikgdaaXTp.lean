import Derived.Test.YtledclkmeikgdaaXNm
/-! Terms: what is one. -/
namespace Go.Proofs.Ytledclkmeikgdaa.T
open Go.RowKit Go.Deep
set_option linter.unusedVariables false
set_option maxRecDepth 100000
set_option linter.unusedSimpArgs false

/-- Each byte fits. -/
def AllP (p : Int → Bool) (s : ByteArray) : Prop := ∀ j (hj : j < s.size), p s[j].toNat = true
def alB (p : Int → Bool) (s : ByteArray) : Bool := (List.range s.size).all fun j => p (s.get! j).toNat
theorem getB_eq (s : ByteArray) (j : Nat) (h : j < s.size) : s.get! j = s[j] := by
  simp [ByteArray.get!, getElem!_pos, h]
  rfl
theorem alB_iff {p : Int → Bool} {s : ByteArray} : alB p s = true ↔ AllP p s := by
  unfold alB AllP
  rw [List.all_eq_true]
  constructor
  · intro h j hj
    have := h j (List.mem_range.2 hj)
    rw [getB_eq s j hj] at this
    exact this
  · intro h j hj
    have hj := List.mem_range.1 hj
    rw [getB_eq s j hj]
    exact h j hj
theorem alB_no {p : Int → Bool} {s : ByteArray} {j : Nat} (hj : j < s.size) (h : p s[j].toNat = false) : alB p s = false := by
  cases e : alB p s
  · rfl
  · have := alB_iff.1 e j hj
    rw [h] at this
    exact absurd this (by simp)
/-- A number without a needless 0. -/
def numB (x : ByteArray) : Bool := decide (1 ≤ x.size) && (decide (x.size ≤ 9) && ((decide (x.size ≤ 1) || !decide ((x.get! 0).toNat = 48)) && alB digB x))
/-- The names of terms. -/
def isL (n : ByteArray) (l : List UInt8) : Bool := n.toList == l
def cId : List UInt8 := [73, 100]
def cNum : List UInt8 := [78, 117, 109]
def cYes : List UInt8 := [89, 101, 115]
def cNo : List UInt8 := [78, 111]
def cLam : List UInt8 := [76, 97, 109]
def cApp : List UInt8 := [65, 112, 112]
def cLet : List UInt8 := [76, 101, 116]
def cIf : List UInt8 := [73, 102]
def cAdd : List UInt8 := [65, 100, 100]
def cEq : List UInt8 := [69, 113]
/-- A leaf. -/
def tmL (n x : ByteArray) : Bool :=
  if n.toList == cId then nmB x else if n.toList == cNum then numB x else if n.toList == cYes then x.toList.isEmpty else if n.toList == cNo then x.toList.isEmpty else false
/-- How many Kids; whether the first is declared. -/
def kdN (n : ByteArray) : Option (Nat × Bool) :=
  if n.toList == cLam then some (2, true) else if n.toList == cLet then some (3, true) else if n.toList == cIf then some (3, false) else if n.toList == cApp then some (2, false) else if n.toList == cAdd then some (2, false) else if n.toList == cEq then some (2, false) else none
def idT (t : Tr) : Bool := t.leaf && t.name.toList == cId
def id0 (k : List Tr) : Bool := (k.head?.map idT).getD false
def nodB (n : ByteArray) (k : List Tr) (ks : List Bool) : Bool := match kdN n with
  | none => false
  | some (m, d) => decide (k.length = m) && (ks.all id && (!d || id0 k))
/-- A term's form: of a tree with what was found of its Kids. -/
def tmF : Tr → Bool × Bool := Tr.fold fun n x l ks => (if l then tmL n x else match kdN n with
  | none => false
  | some (m, d) => decide (ks.length = m) && ((ks.map Prod.fst).all id && (!d || (ks.head?.map Prod.snd).getD false)), l && n.toList == cId)
def tm (t : Tr) : Bool := (tmF t).1
theorem tmF_mk (n x : ByteArray) (l : Bool) (k : List Tr) : tmF ⟨n, x, l, k⟩ = (if l then tmL n x else match kdN n with
  | none => false
  | some (m, d) => decide ((k.map tmF).length = m) && (((k.map tmF).map Prod.fst).all id && (!d || ((k.map tmF).head?.map Prod.snd).getD false)), l && n.toList == cId) := by
  unfold tmF; rw [Tr.fold_mk]
theorem tmF_snd (t : Tr) : (tmF t).2 = idT t := by
  obtain ⟨n, x, l, k⟩ := t
  rw [tmF_mk]
  rfl
theorem tm_mk (n x : ByteArray) (l : Bool) (k : List Tr) : tm ⟨n, x, l, k⟩ = if l then tmL n x else match kdN n with
  | none => false
  | some (m, d) => decide (k.length = m) && (k.all tm && (!d || id0 k)) := by
  show (tmF ⟨n, x, l, k⟩).1 = _
  rw [tmF_mk]
  have h1 : ((k.map tmF).map Prod.fst).all id = k.all tm := by
    rw [List.map_map, List.all_map]; rfl
  have h2 : ((k.map tmF).head?.map Prod.snd).getD false = id0 k := by
    cases k with
    | nil => rfl
    | cons t k => simp [id0, tmF_snd]
  rw [h1, h2, List.length_map]
/-- A Kid that is declared: looked at by itself. -/
theorem tm_id {t : Tr} (h : idT t = true) : tm t = nmB t.text := by
  obtain ⟨n, x, l, k⟩ := t
  simp only [idT, Bool.and_eq_true] at h
  obtain ⟨h1, h2⟩ := h
  rw [tm_mk, h1]
  simp only [if_true]
  unfold tmL
  rw [h2]
  rfl
theorem tm_dec {k : List Tr} {n : ByteArray} (hk : 0 < k.length) :
    (k.all tm && id0 k) = ((idT k[0] && nmB k[0].text) && (k.drop 1).all tm) := by
  cases k with
  | nil => simp at hk
  | cons t k =>
    simp only [List.all_cons, id0, List.head?_cons, Option.map_some, Option.getD_some, List.getElem_cons_zero, List.drop_succ_cons, List.drop_zero]
    cases h : idT t
    · simp
    · rw [tm_id h]
      cases nmB t.text <;> cases k.all tm <;> rfl
end Go.Proofs.Ytledclkmeikgdaa.T
