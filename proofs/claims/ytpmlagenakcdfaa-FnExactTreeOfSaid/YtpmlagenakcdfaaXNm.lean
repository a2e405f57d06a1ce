import Derived.Test.YtpmlagenakcdfaaXTree
import Derived.Lib.AppendStr
import Derived.Test.YtpmlagenakcdfaaChecked
import Derived.Outline
namespace Go.Proofs.Ytpmlagenakcdfaa.T
open Go.RowKit Go.Deep Go.Lib
set_option linter.unusedVariables false
set_option linter.unusedSimpArgs false

/-- A list of bytes, as a string; as cells. -/
def bs (l : List UInt8) : ByteArray := ⟨l.toArray⟩
def bc (l : List UInt8) : List Value := l.map fun b => Value.int .u8 b.toNat
theorem bs_data (s : ByteArray) : bs s.data.toList = s := rfl
theorem bs_append (x y : List UInt8) : bs x ++ bs y = bs (x ++ y) := ByteArray.mk_append_mk x y
theorem bs_size (l : List UInt8) : (bs l).size = l.length := by show l.toArray.size = _; simp
theorem bc_append (x y : List UInt8) : bc (x ++ y) = bc x ++ bc y := by simp [bc]
theorem bc_length (l : List UInt8) : (bc l).length = l.length := by simp [bc]
theorem bc_str (s : ByteArray) : strCells s = bc s.data.toList := rfl
theorem bc_bs (l : List UInt8) : strCells (bs l) = bc l := by simp [bc_str, bs]

namespace Tr
/-- The texts of the leaves, in order (of a tree that is right). -/
def yl : Tr → List UInt8 := fold fun _ x _ ks => x.data.toList ++ ks.flatten
def ylL (k : List Tr) : List UInt8 := (k.map yl).flatten
theorem yl_mk (n x : ByteArray) (l : Bool) (k : List Tr) : yl ⟨n, x, l, k⟩ = x.data.toList ++ ylL k := by
  unfold ylL yl; rw [fold_mk]
theorem ylL_take_succ (k : List Tr) (i : Nat) (h : i < k.length) : ylL (k.take (i + 1)) = ylL (k.take i) ++ yl k[i] := by
  rw [List.take_succ_eq_append_getElem h]; simp only [ylL, List.map_append, List.flatten_append, List.map_cons, List.map_nil, List.flatten_cons, List.flatten_nil, List.append_nil]
theorem ylL_len (k : List Tr) (h : ∀ i (hi : i < k.length), (yl k[i]).length ≤ wt k[i]) : (ylL k).length ≤ wtL k := by
  induction k with
  | nil => simp [ylL]
  | cons t r ih =>
    have h0 := h 0 (by simp)
    have h1 := ih (fun i hi => h (i + 1) (by simp; omega))
    simp [ylL, wtL] at h0 h1 ⊢; omega
theorem yl_len (t : Tr) : (yl t).length ≤ wt t := by
  refine ind (P := fun t => (yl t).length ≤ wt t) ?_ t
  intro n x l k ih
  rw [yl_mk, wt_mk, List.length_append]
  have := ylL_len k ih
  have : x.data.toList.length = x.size := rfl
  omega
theorem ylL_take_len (k : List Tr) (i : Nat) : (ylL (k.take i)).length ≤ wtL k := by
  have h1 := ylL_len (k.take i) (fun j hj => yl_len _)
  have h2 := wtL_take_le k i
  omega
end Tr

theorem info5 : (Try.prog.info? 5).map (fun i => (i.zero, i.size, i.bytes)) = some (some (.int .u8 0), 1, 1) := by kernel_rfl

/-- What a call that appends leaves behind: the row that it hands on holds so much more; below B nothing has turned. -/
def Wrote (B : Nat) (w : World) (n : Nat) (xs : List Value) (l : List UInt8) (e : Ending) (w' : World) : Prop :=
  ∃ v', e = .returned v' ∧ w'.ownsRow B 5 1 v' (n + l.length) (xs ++ bc l) ∧ Below B w w'

theorem own_slice {w : World} {base : Nat} {e : TypeId} {size : Nat} {v : Value} {n : Nat} {xs : List Value} (h : w.ownsRow base e size v n xs) : ∃ a cap, v = .slice a n cap := by
  obtain ⟨_, h⟩ := h
  rcases h with ⟨rfl, rfl⟩ | ⟨g, cap, _, rfl, _⟩
  · exact ⟨_, _, rfl⟩
  · exact ⟨_, _, rfl⟩

end Go.Proofs.Ytpmlagenakcdfaa.T

namespace Go.Proofs.Ytpmlagenakcdfaa.T
open Go.RowKit
set_option linter.unusedVariables false
set_option linter.unusedSimpArgs false


theorem sLetter (c : Int) (w : World) : Calls Try.prog 103 #[.int .u8 c] w fun e w' => e = .returned (.bool (letB c)) ∧ w' = w := by
  by_cases h1 : 97 ≤ c <;> by_cases h2 : c ≤ 122 <;> by_cases h3 : 65 ≤ c <;> by_cases h4 : c ≤ 90 <;> first | (exfalso; omega) | skip
  all_goals
    go_enter Try.func103, Try.ntmps103
    go_wp2_with fail
    go_ret
    exact ⟨ret_bool (by simp [letB]; try omega), rfl⟩

theorem iLetter (c : Int) (w : World) : Calls Try.prog 110 #[.int .u8 c] w fun e w' => e = .returned (.bool (letB c)) ∧ w' = w := by
  by_cases h1 : 97 ≤ c <;> by_cases h2 : c ≤ 122 <;> by_cases h3 : 65 ≤ c <;> by_cases h4 : c ≤ 90 <;> first | (exfalso; omega) | skip
  all_goals
    go_enter Try.func110, Try.ntmps110
    go_wp2_with fail
    go_ret
    exact ⟨ret_bool (by simp [letB]; try omega), rfl⟩

theorem sDigit (c : Int) (w : World) : Calls Try.prog 109 #[.int .u8 c] w fun e w' => e = .returned (.bool (digB c)) ∧ w' = w := by
  by_cases h1 : 48 ≤ c <;> by_cases h2 : c ≤ 57 <;> first | (exfalso; omega) | skip
  all_goals
    go_enter Try.func109, Try.ntmps109
    go_wp2_with fail
    go_ret
    exact ⟨ret_bool (by simp [digB]; try omega), rfl⟩

theorem iDigit (c : Int) (w : World) : Calls Try.prog 112 #[.int .u8 c] w fun e w' => e = .returned (.bool (digB c)) ∧ w' = w := by
  by_cases h1 : 48 ≤ c <;> by_cases h2 : c ≤ 57 <;> first | (exfalso; omega) | skip
  all_goals
    go_enter Try.func112, Try.ntmps112
    go_wp2_with fail
    go_ret
    exact ⟨ret_bool (by simp [digB]; try omega), rfl⟩

theorem sNameByte (c : Int) (w : World) : Calls Try.prog 104 #[.int .u8 c] w fun e w' => e = .returned (.bool (nbB c)) ∧ w' = w := by
  go_enter Try.func104, Try.ntmps104
  go_wp2_with fail
  refine (sLetter c _).mono ?_
  rintro e w' ⟨rfl, rfl⟩
  cases h1 : letB c
  · go_wp2_with fail
    refine (sDigit c _).mono ?_
    rintro e w' ⟨rfl, rfl⟩
    cases h2 : digB c
    · by_cases h3 : c = 95
      · go_wp2_with fail
        go_ret
        exact ⟨ret_bool (by simp [nbB, h3]), rfl⟩
      · go_wp2_with fail
        go_ret
        exact ⟨ret_bool (by simp [nbB, h1, h2, h3]), rfl⟩
    · go_wp2_with fail
      go_ret
      exact ⟨ret_bool (by simp [nbB, h1, h2]), rfl⟩
  · go_wp2_with fail
    go_ret
    exact ⟨ret_bool (by simp [nbB, h1]), rfl⟩
theorem iNameByte (c : Int) (w : World) : Calls Try.prog 111 #[.int .u8 c] w fun e w' => e = .returned (.bool (nbB c)) ∧ w' = w := by
  go_enter Try.func111, Try.ntmps111
  go_wp2_with fail
  refine (iLetter c _).mono ?_
  rintro e w' ⟨rfl, rfl⟩
  cases h1 : letB c
  · go_wp2_with fail
    refine (iDigit c _).mono ?_
    rintro e w' ⟨rfl, rfl⟩
    cases h2 : digB c
    · by_cases h3 : c = 95
      · go_wp2_with fail
        go_ret
        exact ⟨ret_bool (by simp [nbB, h3]), rfl⟩
      · go_wp2_with fail
        go_ret
        exact ⟨ret_bool (by simp [nbB, h1, h2, h3]), rfl⟩
    · go_wp2_with fail
      go_ret
      exact ⟨ret_bool (by simp [nbB, h1, h2]), rfl⟩
  · go_wp2_with fail
    go_ret
    exact ⟨ret_bool (by simp [nbB, h1]), rfl⟩

set_option maxHeartbeats 400000 in
theorem sName (s : ByteArray) (hs : s.size ≤ maxLen) (w : World) : Calls Try.prog 92 #[.string s] w fun e w' => e = .returned (.bool (nmB s)) ∧ w' = w := by
  unfold maxLen at hs
  by_cases h1 : s.size < 1
  · go_enter Try.func92, Try.ntmps92
    go_wp2_with fail
    go_ret
    exact ⟨ret_bool (nmB_no (fun ⟨h, _⟩ => by omega)).symm, rfl⟩
  · by_cases h2 : 24 < s.size
    · go_enter Try.func92, Try.ntmps92
      go_wp2_with fail
      go_ret
      exact ⟨ret_bool (nmB_no (fun ⟨h, h', _⟩ => by omega)).symm, rfl⟩
    · have hp : 0 < s.size := by omega
      go_enter Try.func92, Try.ntmps92
      go_wp2_with fail
      refine (sLetter _ _).mono ?_
      rintro e w' ⟨rfl, rfl⟩
      cases h3 : letB (s[0].toNat : Int)
      · go_wp2_with fail
        go_ret
        refine ⟨ret_bool (nmB_no (fun ⟨h, h', h4, _⟩ => ?_)).symm, rfl⟩
        rw [h3] at h4
        exact absurd h4 (by simp)
      · have H3 := (show Hid _ from h3); clear h3
        go_wp2_with fail
        go_loop [3] (fun i => ∃ j : Nat, 1 ≤ j ∧ j ≤ s.size ∧ i = .int .i64 j ∧ ∀ q (hq : q < s.size), 1 ≤ q → q < j → nbB s[q].toNat = true) (fun i => s.size - (intOf i).toNat)
        case atStart => exact ⟨1, Nat.le_refl _, by omega, rfl, fun q _ h1 h2 => by omega⟩
        case round =>
          obtain ⟨j, hj1, hj, rfl, hq⟩ := hrel
          have HQ := (show Hid _ from hq); clear hq
          by_cases hlt : j < s.size
          · go_wp2_with fail
            refine (sNameByte _ _).mono ?_
            rintro e w' ⟨rfl, rfl⟩
            cases h5 : nbB (s[j].toNat : Int)
            · have H5 := (show Hid _ from h5); clear h5
              go_wp2_with fail
              go_ret
              refine ⟨ret_bool (nmB_no (fun ⟨h, h', h4, h6⟩ => ?_)).symm, rfl⟩
              have := h6 j hlt hj1
              rw [H5.out] at this
              exact absurd this (by simp)
            · have H5 := (show Hid _ from h5); clear h5
              go_wp2_with fail
              refine ⟨⟨j + 1, by omega, by omega, by go_num, fun q hq h1 h2 => ?_⟩, by simp [intOf]; omega⟩
              by_cases e : q = j
              · subst e; exact H5.out
              · exact HQ.out q hq h1 (by omega)
          · go_wp2_with fail
            go_ret
            exact ⟨ret_bool (nmB_yes ⟨by omega, by omega, H3.out, fun q hq h1 => HQ.out q hq h1 (by omega)⟩).symm, rfl⟩

set_option maxHeartbeats 400000 in
theorem iName (s : ByteArray) (hs : s.size ≤ maxLen) (w : World) : Calls Try.prog 107 #[.string s] w fun e w' => e = .returned (.bool (nmB s)) ∧ w' = w := by
  unfold maxLen at hs
  by_cases h1 : s.size < 1
  · go_enter Try.func107, Try.ntmps107
    go_wp2_with fail
    go_ret
    exact ⟨ret_bool (nmB_no (fun ⟨h, _⟩ => by omega)).symm, rfl⟩
  · by_cases h2 : 24 < s.size
    · go_enter Try.func107, Try.ntmps107
      go_wp2_with fail
      go_ret
      exact ⟨ret_bool (nmB_no (fun ⟨h, h', _⟩ => by omega)).symm, rfl⟩
    · have hp : 0 < s.size := by omega
      go_enter Try.func107, Try.ntmps107
      go_wp2_with fail
      refine (iLetter _ _).mono ?_
      rintro e w' ⟨rfl, rfl⟩
      cases h3 : letB (s[0].toNat : Int)
      · go_wp2_with fail
        go_ret
        refine ⟨ret_bool (nmB_no (fun ⟨h, h', h4, _⟩ => ?_)).symm, rfl⟩
        rw [h3] at h4
        exact absurd h4 (by simp)
      · have H3 := (show Hid _ from h3); clear h3
        go_wp2_with fail
        go_loop [3] (fun i => ∃ j : Nat, 1 ≤ j ∧ j ≤ s.size ∧ i = .int .i64 j ∧ ∀ q (hq : q < s.size), 1 ≤ q → q < j → nbB s[q].toNat = true) (fun i => s.size - (intOf i).toNat)
        case atStart => exact ⟨1, Nat.le_refl _, by omega, rfl, fun q _ h1 h2 => by omega⟩
        case round =>
          obtain ⟨j, hj1, hj, rfl, hq⟩ := hrel
          have HQ := (show Hid _ from hq); clear hq
          by_cases hlt : j < s.size
          · go_wp2_with fail
            refine (iNameByte _ _).mono ?_
            rintro e w' ⟨rfl, rfl⟩
            cases h5 : nbB (s[j].toNat : Int)
            · have H5 := (show Hid _ from h5); clear h5
              go_wp2_with fail
              go_ret
              refine ⟨ret_bool (nmB_no (fun ⟨h, h', h4, h6⟩ => ?_)).symm, rfl⟩
              have := h6 j hlt hj1
              rw [H5.out] at this
              exact absurd this (by simp)
            · have H5 := (show Hid _ from h5); clear h5
              go_wp2_with fail
              refine ⟨⟨j + 1, by omega, by omega, by go_num, fun q hq h1 h2 => ?_⟩, by simp [intOf]; omega⟩
              by_cases e : q = j
              · subst e; exact H5.out
              · exact HQ.out q hq h1 (by omega)
          · go_wp2_with fail
            go_ret
            exact ⟨ret_bool (nmB_yes ⟨by omega, by omega, H3.out, fun q hq h1 => HQ.out q hq h1 (by omega)⟩).symm, rfl⟩
end Go.Proofs.Ytpmlagenakcdfaa.T
