import Derived.Test.YtledclkmeikgdaaXNm
import Derived.Test.YtledclkmeikgdaaXBase
import Derived.Laws.RangeString
import Derived.Lib.OthersKept
import Derived.Test.YtledclkmeikgdaaXSize
import Derived.Deep.CutRange
import Derived.Deep.RegionHeld3
import Derived.Deep.RegionWith
/-! Terms: what is one. -/
namespace Go.Proofs.Ytledclkmeikgdaa.T
open Go.RowKit Go.Deep
set_option linter.unusedVariables false
set_option maxRecDepth 100000
set_option linter.unusedSimpArgs false

/-- Each byte fits. -/
def AllP (p : Int → Bool) (s : ByteArray) : Prop := ∀ j (hj : j < s.size), p s[j].toNat = true
def alB (p : Int → Bool) (s : ByteArray) : Bool := (List.range s.size).all fun j => p (s.get! j).toNat
theorem getB_eq (s : ByteArray) (j : Nat) (h : j < s.size) : s.get! j = s[j] := by
  simp [ByteArray.get!, getElem!_pos, h]
  rfl
theorem alB_iff {p : Int → Bool} {s : ByteArray} : alB p s = true ↔ AllP p s := by
  unfold alB AllP
  rw [List.all_eq_true]
  constructor
  · intro h j hj
    have := h j (List.mem_range.2 hj)
    rw [getB_eq s j hj] at this
    exact this
  · intro h j hj
    have hj := List.mem_range.1 hj
    rw [getB_eq s j hj]
    exact h j hj
theorem alB_no {p : Int → Bool} {s : ByteArray} {j : Nat} (hj : j < s.size) (h : p s[j].toNat = false) : alB p s = false := by
  cases e : alB p s
  · rfl
  · have := alB_iff.1 e j hj
    rw [h] at this
    exact absurd this (by simp)
/-- A number without a needless 0. -/
def numB (x : ByteArray) : Bool := decide (1 ≤ x.size) && (decide (x.size ≤ 9) && ((decide (x.size ≤ 1) || !decide ((x.get! 0).toNat = 48)) && alB digB x))
def cId : List UInt8 := [73, 100]
def cNum : List UInt8 := [78, 117, 109]
def cYes : List UInt8 := [89, 101, 115]
def cNo : List UInt8 := [78, 111]
def cLam : List UInt8 := [76, 97, 109]
def cApp : List UInt8 := [65, 112, 112]
def cLet : List UInt8 := [76, 101, 116]
def cIf : List UInt8 := [73, 102]
def cAdd : List UInt8 := [65, 100, 100]
def cEq : List UInt8 := [69, 113]
/-- A leaf. -/
def tmL (n x : ByteArray) : Bool :=
  if n.toList == cId then nmB x else if n.toList == cNum then numB x else if n.toList == cYes then x.toList.isEmpty else if n.toList == cNo then x.toList.isEmpty else false
/-- How many Kids; whether the first is declared. -/
def kdN (n : ByteArray) : Option (Nat × Bool) :=
  if n.toList == cLam then some (2, true) else if n.toList == cLet then some (3, true) else if n.toList == cIf then some (3, false) else if n.toList == cApp then some (2, false) else if n.toList == cAdd then some (2, false) else if n.toList == cEq then some (2, false) else none
def idT (t : Tr) : Bool := t.leaf && t.name.toList == cId
def id0 (k : List Tr) : Bool := (k.head?.map idT).getD false
def nodB (n : ByteArray) (k : List Tr) (ks : List Bool) : Bool := match kdN n with
  | none => false
  | some (m, d) => decide (k.length = m) && (ks.all id && (!d || id0 k))
/-- A term's form: of a tree with what was found of its Kids. -/
def tmF : Tr → Bool × Bool := Tr.fold fun n x l ks => (if l then tmL n x else match kdN n with
  | none => false
  | some (m, d) => decide (ks.length = m) && ((ks.map Prod.fst).all id && (!d || (ks.head?.map Prod.snd).getD false)), l && n.toList == cId)
def tm (t : Tr) : Bool := (tmF t).1
theorem tmF_mk (n x : ByteArray) (l : Bool) (k : List Tr) : tmF ⟨n, x, l, k⟩ = (if l then tmL n x else match kdN n with
  | none => false
  | some (m, d) => decide ((k.map tmF).length = m) && (((k.map tmF).map Prod.fst).all id && (!d || ((k.map tmF).head?.map Prod.snd).getD false)), l && n.toList == cId) := by
  unfold tmF; rw [Tr.fold_mk]
theorem tmF_snd (t : Tr) : (tmF t).2 = idT t := by
  obtain ⟨n, x, l, k⟩ := t
  rw [tmF_mk]
  rfl
theorem tm_mk (n x : ByteArray) (l : Bool) (k : List Tr) : tm ⟨n, x, l, k⟩ = if l then tmL n x else match kdN n with
  | none => false
  | some (m, d) => decide (k.length = m) && (k.all tm && (!d || id0 k)) := by
  show (tmF ⟨n, x, l, k⟩).1 = _
  rw [tmF_mk]
  have h1 : ((k.map tmF).map Prod.fst).all id = k.all tm := by
    rw [List.map_map, List.all_map]; rfl
  have h2 : ((k.map tmF).head?.map Prod.snd).getD false = id0 k := by
    cases k with
    | nil => rfl
    | cons t k => simp [id0, tmF_snd]
  rw [h1, h2, List.length_map]
/-- A Kid that is declared: looked at by itself. -/
theorem tm_id {t : Tr} (h : idT t = true) : tm t = nmB t.text := by
  obtain ⟨n, x, l, k⟩ := t
  simp only [idT, Bool.and_eq_true] at h
  obtain ⟨h1, h2⟩ := h
  rw [tm_mk, h1]
  simp only [if_true]
  unfold tmL
  rw [h2]
  rfl
end Go.Proofs.Ytledclkmeikgdaa.T

/-! Numbers as texts: the specification's and the program's. -/
namespace Go.Proofs.Ytledclkmeikgdaa.T
open Go.RowKit Go.Deep
set_option linter.unusedVariables false
set_option maxRecDepth 100000
set_option linter.unusedSimpArgs false

def btB (x a b : Int) : Bool := decide (a ≤ x) && decide (x ≤ b)
theorem between38 (x a b : Int) (w : World) : Calls Try.prog 34 #[.int .i64 x, .int .i64 a, .int .i64 b] w fun e w' => e = .returned (.bool (btB x a b)) ∧ w' = w := by
  by_cases h1 : a ≤ x <;> by_cases h2 : x ≤ b
  all_goals
    go_enter Try.func34, Try.ntmps34
    go_wp2_with fail
    go_ret
    exact ⟨ret_bool (by simp [btB, h1, h2]), rfl⟩
theorem bytes112 (s : ByteArray) (hs : s.size ≤ maxLen) (w : World) : Calls Try.prog 123 #[.string s, .int .u8 48, .int .u8 57] w fun e w' => e = .returned (.bool (alB digB s)) ∧ w' = w := by
  unfold maxLen at hs
  go_enter Try.func123, Try.ntmps123
  go_wp2_with fail
  go_loopw [7] (fun i wr => ∃ j : Nat, i = .int .i64 j ∧ j ≤ s.size ∧ Hid (∀ i (hi : i < s.size), i < j → digB s[i].toNat = true) ∧ wr = w) (fun i _ => s.size - (intOf i).toNat)
  case atStart => exact ⟨0, rfl, Nat.zero_le _, fun i hi h0 => absurd h0 (Nat.not_lt_zero _), rfl⟩
  case round =>
    obtain ⟨j, rfl, hj, HJ, rfl⟩ := hrel
    by_cases hlt : j < s.size
    · by_cases h1 : (s[j].toNat : Int) < 48
      · have HF : Hid (alB digB s = false) := alB_no hlt (by simp [digB]; omega)
        go_wp2_with fail
        go_ret
        exact ⟨by rw [HF.out]; rfl, rfl⟩
      · by_cases h2 : 57 < (s[j].toNat : Int)
        · have HF : Hid (alB digB s = false) := alB_no hlt (by simp [digB]; omega)
          go_wp2_with fail
          go_ret
          exact ⟨by rw [HF.out]; rfl, rfl⟩
        · have HN : Hid (∀ i (hi : i < s.size), i < j + 1 → digB s[i].toNat = true) := fun i hi hij => by
            by_cases e : i = j
            · subst e; simp [digB]; omega
            · exact HJ.out i hi (by omega)
          go_wp2_with fail
          exact ⟨⟨j + 1, by go_num, by omega, HN, trivial⟩, by simp [intOf]; omega⟩
    · have HF : Hid (alB digB s = true) := alB_iff.2 (fun i hi => HJ.out i hi (by omega))
      go_wp2_with fail
      go_ret
      exact ⟨by rw [HF.out]; rfl, rfl⟩
theorem numB_no {s : ByteArray} (h : ¬ (1 ≤ s.size ∧ s.size ≤ 9)) : numB s = false := by
  unfold numB
  by_cases h1 : 1 ≤ s.size
  · rw [decide_eq_false (p := s.size ≤ 9) (by omega)]; simp
  · rw [decide_eq_false h1]; rfl
theorem numB_zero {s : ByteArray} (h : 1 < s.size) (h0 : (s[0].toNat : Int) = 48) : numB s = false := by
  unfold numB
  rw [getB_eq s 0 (by omega), decide_eq_false (p := s.size ≤ 1) (by omega), decide_eq_true (p := s[0].toNat = 48) (by omega)]
  simp
theorem numB_one {s : ByteArray} (h : s.size = 1) : numB s = alB digB s := by
  unfold numB
  rw [decide_eq_true (p := 1 ≤ s.size) (by omega), decide_eq_true (p := s.size ≤ 9) (by omega), decide_eq_true (p := s.size ≤ 1) (by omega)]
  simp
theorem numB_some {s : ByteArray} (h1 : 1 ≤ s.size) (h9 : s.size ≤ 9) (h0 : ¬ (s[0].toNat : Int) = 48) : numB s = alB digB s := by
  unfold numB
  rw [getB_eq s 0 (by omega), decide_eq_true h1, decide_eq_true h9, decide_eq_false (p := s[0].toNat = 48) (by omega)]
  simp
set_option maxHeartbeats 800000 in
theorem num98 (s : ByteArray) (hs : s.size ≤ maxLen) (w : World) : Calls Try.prog 112 #[.string s] w fun e w' => e = .returned (.bool (numB s)) ∧ w' = w := by
  have HB := (show Hid _ from fun w' => bytes112 s hs w')
  unfold maxLen at hs
  have HT := (show Hid _ from fun w' => between38 (s.size : Int) 1 9 w')
  by_cases h1 : 1 ≤ s.size ∧ s.size ≤ 9
  case neg =>
    rw [numB_no h1]
    rw [show btB (s.size : Int) 1 9 = false from by
      unfold btB
      by_cases h : 1 ≤ s.size
      · rw [decide_eq_false (p := (s.size : Int) ≤ 9) (by omega)]; simp
      · rw [decide_eq_false (p := (1 : Int) ≤ s.size) (by omega)]; rfl] at HT
    clear h1
    go_enter Try.func112, Try.ntmps112
    go_wp2_with fail
    refine Calls.mono (HT.out _) ?_
    rintro e w' ⟨rfl, rfl⟩
    go_wp2_with fail
    go_ret
    exact ⟨rfl, rfl⟩
  obtain ⟨h1, h9⟩ := h1
  rw [show btB (s.size : Int) 1 9 = true from by
    unfold btB
    rw [decide_eq_true (p := (1 : Int) ≤ s.size) (by omega), decide_eq_true (p := (s.size : Int) ≤ 9) (by omega)]; rfl] at HT
  have hp : 0 < s.size := by omega
  by_cases h2 : 1 < s.size
  · by_cases h0 : (s[0].toNat : Int) = 48
    · have HR := (show Hid _ from numB_zero h2 h0)
      have hq : ((s[0].toNat : Int) == 48) = true := by simpa using h0
      clear h0
      go_enter Try.func112, Try.ntmps112
      go_wp2_with fail
      refine Calls.mono (HT.out _) ?_
      rintro e w' ⟨rfl, rfl⟩
      go_wp2_with fail
      go_ret
      exact ⟨ret_bool HR.out.symm, rfl⟩
    · have HR := (show Hid _ from numB_some h1 h9 h0)
      have hq : ((s[0].toNat : Int) == 48) = false := by simpa using h0
      clear h0
      go_enter Try.func112, Try.ntmps112
      go_wp2_with fail
      refine Calls.mono (HT.out _) ?_
      rintro e w' ⟨rfl, rfl⟩
      go_wp2_with fail
      refine Calls.mono (HB.out _) ?_
      rintro e w' ⟨rfl, rfl⟩
      go_wp2_with fail
      go_ret
      exact ⟨ret_bool HR.out.symm, rfl⟩
  · have HR := (show Hid _ from numB_one (s := s) (by omega))
    go_enter Try.func112, Try.ntmps112
    go_wp2_with fail
    refine Calls.mono (HT.out _) ?_
    rintro e w' ⟨rfl, rfl⟩
    go_wp2_with fail
    refine Calls.mono (HB.out _) ?_
    rintro e w' ⟨rfl, rfl⟩
    go_wp2_with fail
    go_ret
    exact ⟨ret_bool HR.out.symm, rfl⟩
end Go.Proofs.Ytledclkmeikgdaa.T

/-! The program: hasTermForm. -/
namespace Go.Proofs.Ytledclkmeikgdaa.T
open Go.RowKit Go.Deep
set_option linter.unusedVariables false
set_option maxRecDepth 100000
set_option linter.unusedSimpArgs false

def dclB (n : ByteArray) : Bool := n.toList == cLam || n.toList == cLet
theorem is_eq {n : ByteArray} {l : List UInt8} (h : (n.toList == l) = true) : n.toList = l := by simpa using h
/-- Which name. -/
theorem kd_cases (n : ByteArray) : (n.toList = cLam ∧ kdN n = some (2, true)) ∨ (n.toList = cLet ∧ kdN n = some (3, true)) ∨ (n.toList = cIf ∧ kdN n = some (3, false)) ∨ (n.toList = cApp ∧ kdN n = some (2, false)) ∨ (n.toList = cAdd ∧ kdN n = some (2, false)) ∨ (n.toList = cEq ∧ kdN n = some (2, false)) ∨
    ((n.toList == cLam) = false ∧ (n.toList == cLet) = false ∧ (n.toList == cIf) = false ∧ (n.toList == cApp) = false ∧ (n.toList == cAdd) = false ∧ (n.toList == cEq) = false ∧ kdN n = none) := by
  unfold kdN
  cases h0 : (n.toList == cLam)
  case true => exact .inl ⟨is_eq h0, by simp⟩
  cases h1 : (n.toList == cLet)
  case true => exact .inr (.inl ⟨is_eq h1, by simp⟩)
  cases h2 : (n.toList == cIf)
  case true => exact .inr (.inr (.inl ⟨is_eq h2, by simp⟩))
  cases h3 : (n.toList == cApp)
  case true => exact .inr (.inr (.inr (.inl ⟨is_eq h3, by simp⟩)))
  cases h4 : (n.toList == cAdd)
  case true => exact .inr (.inr (.inr (.inr (.inl ⟨is_eq h4, by simp⟩))))
  cases h5 : (n.toList == cEq)
  case true => exact .inr (.inr (.inr (.inr (.inr (.inl ⟨is_eq h5, by simp⟩)))))
  exact .inr (.inr (.inr (.inr (.inr (.inr ⟨rfl, rfl, rfl, rfl, rfl, rfl, by simp⟩)))))
theorem kd_dcl {n : ByteArray} {m : Nat} {d : Bool} (h : kdN n = some (m, d)) : dclB n = d ∧ 2 ≤ m ∧ m ≤ 3 := by
  rcases kd_cases n with ⟨e, g⟩ | ⟨e, g⟩ | ⟨e, g⟩ | ⟨e, g⟩ | ⟨e, g⟩ | ⟨e, g⟩ | ⟨_, _, _, _, _, _, g⟩
  all_goals (rw [g] at h; simp at h)
  all_goals (obtain ⟨rfl, rfl⟩ := h; unfold dclB; rw [e]; decide)
end Go.Proofs.Ytledclkmeikgdaa.T
