import Derived.Test.YtledclkmeikgdaaXTn
import Derived.Test.YtledclkmeikgdaaXSize
import Derived.Deep.CutRange
import Derived.Deep.RegionHeld3
import Derived.Deep.RegionWith
/-! The program: hasTermForm. -/
namespace Go.Proofs.Ytledclkmeikgdaa.T
open Go.RowKit Go.Deep
set_option linter.unusedVariables false
set_option maxRecDepth 100000
set_option linter.unusedSimpArgs false

set_option maxHeartbeats 1600000 in
theorem leaf100 (n x : ByteArray) (l : Bool) (a : Option Addr) (c d : Nat) (w : World) (hx : x.size ≤ maxLen) :
    Calls Try.prog 113 #[.agg #[.string n, .string x, .bool l, .slice a c d]] w fun e w' => e = .returned (.bool (tmL n x)) ∧ Below w.heap.size w w' := by
  have HN := (show Hid _ from fun w' => iName x hx w')
  have HM := (show Hid _ from fun w' => num116 x hx w')
  generalize hR : tmL n x = R
  have HR := (show Hid _ from hR); clear hR
  unfold maxLen at hx
  cases h0 : (n.toList == ([73, 100] : List UInt8))
  case true =>
    have HE : Hid (R = nmB x) := by show R = nmB x; rw [← HR.out]; unfold tmL cId; rw [h0]; rfl
    go_enter Try.func113, Try.ntmps113
    go_wp2_with fail
    refine Calls.mono (HN.out _) ?_
    rintro e w1 ⟨rfl, rfl⟩
    go_wp2_with fail
    go_ret
    exact ⟨ret_bool HE.out.symm, bel_alloc _ _⟩
  cases h1 : (n.toList == ([78, 117, 109] : List UInt8))
  case true =>
    have HE : Hid (R = numB x) := by show R = numB x; rw [← HR.out]; unfold tmL cId cNum; rw [h0, h1]; rfl
    go_enter Try.func113, Try.ntmps113
    go_wp2_with fail
    refine Calls.mono (HM.out _) ?_
    rintro e w1 ⟨rfl, hb1⟩
    have HB := (show Hid _ from hb1); clear hb1
    go_wp2_with fail
    go_ret
    exact ⟨ret_bool HE.out.symm, bel_trans (bel_alloc _ _) HB.out⟩
  cases h2 : (n.toList == ([89, 101, 115] : List UInt8))
  case true =>
    have HE : Hid (R = x.toList.isEmpty) := by show R = x.toList.isEmpty; rw [← HR.out]; unfold tmL cId cNum cYes; rw [h0, h1, h2]; rfl
    cases h4 : x.toList.isEmpty
    all_goals
      go_enter Try.func113, Try.ntmps113
      go_wp2_with fail
      go_ret
      exact ⟨ret_bool (by rw [HE.out, h4]), bel_alloc _ _⟩
  cases h3 : (n.toList == ([78, 111] : List UInt8))
  case true =>
    have HE : Hid (R = x.toList.isEmpty) := by show R = x.toList.isEmpty; rw [← HR.out]; unfold tmL cId cNum cYes cNo; rw [h0, h1, h2, h3]; rfl
    cases h4 : x.toList.isEmpty
    all_goals
      go_enter Try.func113, Try.ntmps113
      go_wp2_with fail
      go_ret
      exact ⟨ret_bool (by rw [HE.out, h4]), bel_alloc _ _⟩
  have HE : Hid (R = false) := by show R = false; rw [← HR.out]; unfold tmL cId cNum cYes cNo; rw [h0, h1, h2, h3]; rfl
  go_enter Try.func113, Try.ntmps113
  go_wp2_with fail
  go_ret
  exact ⟨ret_bool HE.out.symm, bel_alloc _ _⟩
/-- How many Kids, as the program says it. -/
def tkI (n : ByteArray) : Int := match kdN n with
  | none => -1
  | some (m, _) => m
def dclB (n : ByteArray) : Bool := n.toList == cLam || n.toList == cLet
theorem is_eq {n : ByteArray} {l : List UInt8} (h : (n.toList == l) = true) : n.toList = l := by simpa using h
/-- Which name. -/
theorem kd_cases (n : ByteArray) : (n.toList = cLam ∧ kdN n = some (2, true)) ∨ (n.toList = cLet ∧ kdN n = some (3, true)) ∨ (n.toList = cIf ∧ kdN n = some (3, false)) ∨ (n.toList = cApp ∧ kdN n = some (2, false)) ∨ (n.toList = cAdd ∧ kdN n = some (2, false)) ∨ (n.toList = cEq ∧ kdN n = some (2, false)) ∨
    ((n.toList == cLam) = false ∧ (n.toList == cLet) = false ∧ (n.toList == cIf) = false ∧ (n.toList == cApp) = false ∧ (n.toList == cAdd) = false ∧ (n.toList == cEq) = false ∧ kdN n = none) := by
  unfold kdN
  cases h0 : (n.toList == cLam)
  case true => exact .inl ⟨is_eq h0, by simp⟩
  cases h1 : (n.toList == cLet)
  case true => exact .inr (.inl ⟨is_eq h1, by simp⟩)
  cases h2 : (n.toList == cIf)
  case true => exact .inr (.inr (.inl ⟨is_eq h2, by simp⟩))
  cases h3 : (n.toList == cApp)
  case true => exact .inr (.inr (.inr (.inl ⟨is_eq h3, by simp⟩)))
  cases h4 : (n.toList == cAdd)
  case true => exact .inr (.inr (.inr (.inr (.inl ⟨is_eq h4, by simp⟩))))
  cases h5 : (n.toList == cEq)
  case true => exact .inr (.inr (.inr (.inr (.inr (.inl ⟨is_eq h5, by simp⟩)))))
  exact .inr (.inr (.inr (.inr (.inr (.inr ⟨rfl, rfl, rfl, rfl, rfl, rfl, by simp⟩)))))
theorem kd_dcl {n : ByteArray} {m : Nat} {d : Bool} (h : kdN n = some (m, d)) : dclB n = d ∧ 2 ≤ m ∧ m ≤ 3 := by
  rcases kd_cases n with ⟨e, g⟩ | ⟨e, g⟩ | ⟨e, g⟩ | ⟨e, g⟩ | ⟨e, g⟩ | ⟨e, g⟩ | ⟨_, _, _, _, _, _, g⟩
  all_goals (rw [g] at h; simp at h)
  all_goals (obtain ⟨rfl, rfl⟩ := h; unfold dclB; rw [e]; decide)
set_option maxHeartbeats 800000 in
theorem kids101 (n : ByteArray) (w : World) : Calls Try.prog 114 #[.string n] w fun e w' => e = .returned (.int .i64 (tkI n)) ∧ w' = w := by
  rcases kd_cases n with ⟨e, g⟩ | ⟨e, g⟩ | ⟨e, g⟩ | ⟨e, g⟩ | ⟨e, g⟩ | ⟨e, g⟩ | ⟨e0, e1, e2, e3, e4, e5, g⟩
  case inr.inr.inr.inr.inr.inr =>
    unfold cLam at e0; unfold cLet at e1; unfold cIf at e2; unfold cApp at e3; unfold cAdd at e4; unfold cEq at e5
    unfold tkI
    rw [g]
    go_enter Try.func114, Try.ntmps114
    go_wp2_with fail
    go_ret
    exact ⟨rfl, rfl⟩
  case inl =>
    unfold tkI
    rw [g]
    have q0 : (n.toList == ([76, 97, 109] : List UInt8)) = true := by rw [e]; rfl
    have q1 : (n.toList == ([76, 101, 116] : List UInt8)) = false := by rw [e]; rfl
    have q2 : (n.toList == ([73, 102] : List UInt8)) = false := by rw [e]; rfl
    have q3 : (n.toList == ([65, 112, 112] : List UInt8)) = false := by rw [e]; rfl
    have q4 : (n.toList == ([65, 100, 100] : List UInt8)) = false := by rw [e]; rfl
    have q5 : (n.toList == ([69, 113] : List UInt8)) = false := by rw [e]; rfl
    clear e g
    go_enter Try.func114, Try.ntmps114
    go_wp2_with fail
    go_ret
    exact ⟨rfl, rfl⟩
  case inr.inl =>
    unfold tkI
    rw [g]
    have q0 : (n.toList == ([76, 97, 109] : List UInt8)) = false := by rw [e]; rfl
    have q1 : (n.toList == ([76, 101, 116] : List UInt8)) = true := by rw [e]; rfl
    have q2 : (n.toList == ([73, 102] : List UInt8)) = false := by rw [e]; rfl
    have q3 : (n.toList == ([65, 112, 112] : List UInt8)) = false := by rw [e]; rfl
    have q4 : (n.toList == ([65, 100, 100] : List UInt8)) = false := by rw [e]; rfl
    have q5 : (n.toList == ([69, 113] : List UInt8)) = false := by rw [e]; rfl
    clear e g
    go_enter Try.func114, Try.ntmps114
    go_wp2_with fail
    go_ret
    exact ⟨rfl, rfl⟩
  case inr.inr.inl =>
    unfold tkI
    rw [g]
    have q0 : (n.toList == ([76, 97, 109] : List UInt8)) = false := by rw [e]; rfl
    have q1 : (n.toList == ([76, 101, 116] : List UInt8)) = false := by rw [e]; rfl
    have q2 : (n.toList == ([73, 102] : List UInt8)) = true := by rw [e]; rfl
    have q3 : (n.toList == ([65, 112, 112] : List UInt8)) = false := by rw [e]; rfl
    have q4 : (n.toList == ([65, 100, 100] : List UInt8)) = false := by rw [e]; rfl
    have q5 : (n.toList == ([69, 113] : List UInt8)) = false := by rw [e]; rfl
    clear e g
    go_enter Try.func114, Try.ntmps114
    go_wp2_with fail
    go_ret
    exact ⟨rfl, rfl⟩
  case inr.inr.inr.inl =>
    unfold tkI
    rw [g]
    have q0 : (n.toList == ([76, 97, 109] : List UInt8)) = false := by rw [e]; rfl
    have q1 : (n.toList == ([76, 101, 116] : List UInt8)) = false := by rw [e]; rfl
    have q2 : (n.toList == ([73, 102] : List UInt8)) = false := by rw [e]; rfl
    have q3 : (n.toList == ([65, 112, 112] : List UInt8)) = true := by rw [e]; rfl
    have q4 : (n.toList == ([65, 100, 100] : List UInt8)) = false := by rw [e]; rfl
    have q5 : (n.toList == ([69, 113] : List UInt8)) = false := by rw [e]; rfl
    clear e g
    go_enter Try.func114, Try.ntmps114
    go_wp2_with fail
    go_ret
    exact ⟨rfl, rfl⟩
  case inr.inr.inr.inr.inl =>
    unfold tkI
    rw [g]
    have q0 : (n.toList == ([76, 97, 109] : List UInt8)) = false := by rw [e]; rfl
    have q1 : (n.toList == ([76, 101, 116] : List UInt8)) = false := by rw [e]; rfl
    have q2 : (n.toList == ([73, 102] : List UInt8)) = false := by rw [e]; rfl
    have q3 : (n.toList == ([65, 112, 112] : List UInt8)) = false := by rw [e]; rfl
    have q4 : (n.toList == ([65, 100, 100] : List UInt8)) = true := by rw [e]; rfl
    have q5 : (n.toList == ([69, 113] : List UInt8)) = false := by rw [e]; rfl
    clear e g
    go_enter Try.func114, Try.ntmps114
    go_wp2_with fail
    go_ret
    exact ⟨rfl, rfl⟩
  case inr.inr.inr.inr.inr.inl =>
    unfold tkI
    rw [g]
    have q0 : (n.toList == ([76, 97, 109] : List UInt8)) = false := by rw [e]; rfl
    have q1 : (n.toList == ([76, 101, 116] : List UInt8)) = false := by rw [e]; rfl
    have q2 : (n.toList == ([73, 102] : List UInt8)) = false := by rw [e]; rfl
    have q3 : (n.toList == ([65, 112, 112] : List UInt8)) = false := by rw [e]; rfl
    have q4 : (n.toList == ([65, 100, 100] : List UInt8)) = false := by rw [e]; rfl
    have q5 : (n.toList == ([69, 113] : List UInt8)) = true := by rw [e]; rfl
    clear e g
    go_enter Try.func114, Try.ntmps114
    go_wp2_with fail
    go_ret
    exact ⟨rfl, rfl⟩
theorem dcl103 (n x : ByteArray) (l : Bool) (a : Option Addr) (c d : Nat) (w : World) :
    Calls Try.prog 99 #[.agg #[.string n, .string x, .bool l, .slice a c d]] w fun e w' => e = .returned (.bool (dclB n)) ∧ Below w.heap.size w w' := by
  unfold dclB cLam cLet
  cases h0 : (n.toList == ([76, 97, 109] : List UInt8)) <;> cases h1 : (n.toList == ([76, 101, 116] : List UInt8))
  all_goals
    go_enter Try.func99, Try.ntmps99
    go_wp2_with fail
    go_ret
    exact ⟨ret_bool (by simp), bel_alloc _ _⟩
theorem id104 (t : Tr) (a : Option Addr) (c d : Nat) (w : World) :
    Calls Try.prog 97 #[.agg #[.string t.name, .string t.text, .bool t.leaf, .slice a c d]] w fun e w' => e = .returned (.bool (idT t)) ∧ Below w.heap.size w w' := by
  unfold idT cId
  cases h0 : t.leaf <;> cases h1 : (t.name.toList == ([73, 100] : List UInt8))
  all_goals
    generalize t.name = n at *
    generalize t.text = x at *
    go_enter Try.func97, Try.ntmps97
    go_wp2_with fail
    go_ret
    exact ⟨ret_bool (by simp), bel_alloc _ _⟩
end Go.Proofs.Ytledclkmeikgdaa.T
