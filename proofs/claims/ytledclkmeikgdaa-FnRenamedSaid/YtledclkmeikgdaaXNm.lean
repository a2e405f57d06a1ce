import Derived.Test.YtledclkmeikgdaaXBase
import Derived.Test.YtledclkmeikgdaaChecked
import Derived.Outline
/-! What is counted and asked of a tree: plain mathematics. -/
namespace Go.Proofs.Ytledclkmeikgdaa.T
set_option linter.unusedVariables false
set_option linter.unusedSimpArgs false
open Go.RowKit

def letB (c : Int) : Bool := decide (97 ≤ c ∧ c ≤ 122 ∨ 65 ≤ c ∧ c ≤ 90)
def digB (c : Int) : Bool := decide (48 ≤ c ∧ c ≤ 57)
def nbB (c : Int) : Bool := letB c || digB c || decide (c = 95)

/-- A name, as the document has it. -/
def NmP (s : ByteArray) : Prop := ∃ h : 1 ≤ s.size, s.size ≤ 24 ∧ letB (s[0]'h).toNat = true ∧ ∀ j (hj : j < s.size), 1 ≤ j → nbB s[j].toNat = true
def nmB (s : ByteArray) : Bool := decide (1 ≤ s.size) && decide (s.size ≤ 24) && letB (s.get! 0).toNat && (List.range s.size).all fun j => j == 0 || nbB (s.get! j).toNat
theorem get!_eq (s : ByteArray) (j : Nat) (h : j < s.size) : s.get! j = s[j] := by
  have h' : j < s.data.size := h
  show s.data[j]! = s.data[j]
  exact getElem!_pos s.data j h'
theorem nmB_iff {s : ByteArray} : nmB s = true ↔ NmP s := by
  unfold nmB NmP
  constructor
  · intro h
    simp at h
    obtain ⟨⟨⟨h1, h2⟩, h3⟩, h4⟩ := h
    refine ⟨h1, h2, ?_, fun j hj h5 => ?_⟩
    · rw [← get!_eq s 0 h1]; exact h3
    · rcases h4 j hj with h | h
      · omega
      · rw [← get!_eq s j hj]; exact h
  · rintro ⟨h1, h2, h3, h4⟩
    simp
    refine ⟨⟨⟨h1, h2⟩, ?_⟩, fun j hj => ?_⟩
    · rw [get!_eq s 0 h1]; exact h3
    · by_cases h5 : j = 0
      · exact .inl h5
      · right; rw [get!_eq s j hj]; exact h4 j hj (by omega)
theorem nmB_yes {s : ByteArray} (h : NmP s) : nmB s = true := nmB_iff.2 h
theorem nmB_no {s : ByteArray} (h : ¬ NmP s) : nmB s = false := by
  cases e : nmB s
  · rfl
  · exact absurd (nmB_iff.1 e) h

theorem isEmpty_iff (x : ByteArray) : x.toList.isEmpty = decide (x.size = 0) := by
  rw [ByteArray.toList_eq]
  have h : x.data.toList.length = x.size := rfl
  cases e : x.data.toList with
  | nil =>
    rw [e] at h
    have h' : x.size = 0 := h.symm
    rw [h']; rfl
  | cons c r =>
    rw [e] at h
    have h' : ¬ x.size = 0 := by rw [← h]; simp
    rw [decide_eq_false h']; rfl

namespace Tr
def cnt : Tr → Nat := fold fun _ _ _ ks => 1 + ks.sum
def cntL (k : List Tr) : Nat := (k.map cnt).sum
theorem cnt_mk (n x : ByteArray) (l : Bool) (k : List Tr) : cnt ⟨n, x, l, k⟩ = 1 + cntL k := by
  unfold cntL cnt; rw [fold_mk]
def deep : Tr → Nat := fold fun _ _ _ ks => 1 + ks.foldr max 0
def deepL (k : List Tr) : Nat := (k.map deep).foldr max 0
theorem deep_mk (n x : ByteArray) (l : Bool) (k : List Tr) : deep ⟨n, x, l, k⟩ = 1 + deepL k := by
  unfold deepL deep; rw [fold_mk]
/-- The tree itself is right, its Kids aside. -/
def alone (n x : ByteArray) (l : Bool) (len : Nat) : Bool :=
  nmB n && (if l then decide (len = 0) && decide (x.size ≤ 200) else decide (x.size = 0))
theorem alone_no {n x : ByteArray} {l : Bool} {m : Nat} (h1 : nmB n = true) (h : alone n x l m = false) : (l = true ∧ 0 < m) ∨ (l = true ∧ m ≤ 0 ∧ 200 < x.size) ∨ (l = false ∧ x.toList.isEmpty = false) := by
  unfold alone at h
  rw [h1] at h
  rw [isEmpty_iff]
  by_cases hm : m = 0 <;> cases l <;> simp [hm] at h ⊢ <;> omega
theorem alone_yes {n x : ByteArray} {l : Bool} {m : Nat} (h : alone n x l m = true) : (l = true ∧ m ≤ 0 ∧ x.size ≤ 200) ∨ (l = false ∧ x.toList.isEmpty = true) := by
  unfold alone at h
  rw [isEmpty_iff]
  cases l <;> simp at h ⊢
  · exact h.2
  · exact h.2
def right : Tr → Bool := fold fun n x l ks => alone n x l ks.length && ks.all id
def rightL (k : List Tr) : Bool := k.all right
theorem right_mk (n x : ByteArray) (l : Bool) (k : List Tr) : right ⟨n, x, l, k⟩ = (alone n x l k.length && rightL k) := by
  unfold rightL right; rw [fold_mk]; simp [List.all_map, Function.comp_def]

theorem cntL_append (a b : List Tr) : cntL (a ++ b) = cntL a + cntL b := by simp [cntL]
theorem deepL_append (a b : List Tr) : deepL (a ++ b) = max (deepL a) (deepL b) := by
  induction a with
  | nil => simp [deepL]
  | cons t r ih =>
    have e : ∀ (u : Tr) (l : List Tr), deepL (u :: l) = max (deep u) (deepL l) := fun _ _ => rfl
    rw [List.cons_append, e, e, ih, Nat.max_assoc]
theorem rightL_append (a b : List Tr) : rightL (a ++ b) = (rightL a && rightL b) := by
  induction a with
  | nil => simp [rightL]
  | cons t r ih => simp [rightL, Bool.and_assoc]

theorem cntL_take_succ (k : List Tr) (i : Nat) (h : i < k.length) : cntL (k.take (i + 1)) = cntL (k.take i) + cnt k[i] := by
  rw [List.take_succ_eq_append_getElem h, cntL_append]; simp [cntL]
theorem deepL_take_succ (k : List Tr) (i : Nat) (h : i < k.length) : deepL (k.take (i + 1)) = max (deepL (k.take i)) (deep k[i]) := by
  rw [List.take_succ_eq_append_getElem h, deepL_append]; simp [deepL]
theorem rightL_take_succ (k : List Tr) (i : Nat) (h : i < k.length) : rightL (k.take (i + 1)) = (rightL (k.take i) && right k[i]) := by
  rw [List.take_succ_eq_append_getElem h, rightL_append]; simp [rightL]

theorem cntL_take_le (k : List Tr) (i : Nat) : cntL (k.take i) ≤ cntL k := by
  have h := cntL_append (k.take i) (k.drop i)
  rw [List.take_append_drop] at h; omega
theorem deepL_take_le (k : List Tr) (i : Nat) : deepL (k.take i) ≤ deepL k := by
  have h := deepL_append (k.take i) (k.drop i)
  rw [List.take_append_drop] at h; omega
theorem rightL_take (k : List Tr) (i : Nat) (h : rightL k = true) : rightL (k.take i) = true := by
  have e := rightL_append (k.take i) (k.drop i)
  rw [List.take_append_drop, h] at e
  simp at e; exact e.1

/-- The whole tree is right. -/
def ok (t : Tr) : Bool := decide (cnt t ≤ 1000) && decide (deep t ≤ 60) && right t
end Tr

/-- What l01Room comes to. -/
def rmR (c p : Nat) (r d : Int) : Int := if (c : Int) ≤ r ∧ (p : Int) ≤ d then r - c else -1
theorem rmR_yes {c p : Nat} {r d : Int} (h : (c : Int) ≤ r) (h' : (p : Int) ≤ d) : rmR c p r d = r - c := if_pos ⟨h, h'⟩
theorem rmR_no {c p : Nat} {r d : Int} (h : r < c ∨ d < p) : rmR c p r d = -1 := if_neg (by omega)

end Go.Proofs.Ytledclkmeikgdaa.T

namespace Go.Proofs.Ytledclkmeikgdaa.T
open Go.RowKit
set_option linter.unusedVariables false
set_option linter.unusedSimpArgs false

theorem sLetter (c : Int) (w : World) : Calls Try.prog 78 #[.int .u8 c] w fun e w' => e = .returned (.bool (letB c)) ∧ w' = w := by
  by_cases h1 : 97 ≤ c <;> by_cases h2 : c ≤ 122 <;> by_cases h3 : 65 ≤ c <;> by_cases h4 : c ≤ 90 <;> first | (exfalso; omega) | skip
  all_goals
    go_enter Try.func78, Try.ntmps78
    go_wp2_with fail
    go_ret
    exact ⟨ret_bool (by simp [letB]; try omega), rfl⟩

theorem iLetter (c : Int) (w : World) : Calls Try.prog 82 #[.int .u8 c] w fun e w' => e = .returned (.bool (letB c)) ∧ w' = w := by
  by_cases h1 : 97 ≤ c <;> by_cases h2 : c ≤ 122 <;> by_cases h3 : 65 ≤ c <;> by_cases h4 : c ≤ 90 <;> first | (exfalso; omega) | skip
  all_goals
    go_enter Try.func82, Try.ntmps82
    go_wp2_with fail
    go_ret
    exact ⟨ret_bool (by simp [letB]; try omega), rfl⟩

theorem sDigit (c : Int) (w : World) : Calls Try.prog 107 #[.int .u8 c] w fun e w' => e = .returned (.bool (digB c)) ∧ w' = w := by
  by_cases h1 : 48 ≤ c <;> by_cases h2 : c ≤ 57 <;> first | (exfalso; omega) | skip
  all_goals
    go_enter Try.func107, Try.ntmps107
    go_wp2_with fail
    go_ret
    exact ⟨ret_bool (by simp [digB]; try omega), rfl⟩

theorem iDigit (c : Int) (w : World) : Calls Try.prog 108 #[.int .u8 c] w fun e w' => e = .returned (.bool (digB c)) ∧ w' = w := by
  by_cases h1 : 48 ≤ c <;> by_cases h2 : c ≤ 57 <;> first | (exfalso; omega) | skip
  all_goals
    go_enter Try.func108, Try.ntmps108
    go_wp2_with fail
    go_ret
    exact ⟨ret_bool (by simp [digB]; try omega), rfl⟩

theorem sNameByte (c : Int) (w : World) : Calls Try.prog 79 #[.int .u8 c] w fun e w' => e = .returned (.bool (nbB c)) ∧ w' = w := by
  go_enter Try.func79, Try.ntmps79
  go_wp2_with fail
  refine (sLetter c _).mono ?_
  rintro e w' ⟨rfl, rfl⟩
  cases h1 : letB c
  · go_wp2_with fail
    refine (sDigit c _).mono ?_
    rintro e w' ⟨rfl, rfl⟩
    cases h2 : digB c
    · by_cases h3 : c = 95
      · go_wp2_with fail
        go_ret
        exact ⟨ret_bool (by simp [nbB, h3]), rfl⟩
      · go_wp2_with fail
        go_ret
        exact ⟨ret_bool (by simp [nbB, h1, h2, h3]), rfl⟩
    · go_wp2_with fail
      go_ret
      exact ⟨ret_bool (by simp [nbB, h1, h2]), rfl⟩
  · go_wp2_with fail
    go_ret
    exact ⟨ret_bool (by simp [nbB, h1]), rfl⟩
theorem iNameByte (c : Int) (w : World) : Calls Try.prog 83 #[.int .u8 c] w fun e w' => e = .returned (.bool (nbB c)) ∧ w' = w := by
  go_enter Try.func83, Try.ntmps83
  go_wp2_with fail
  refine (iLetter c _).mono ?_
  rintro e w' ⟨rfl, rfl⟩
  cases h1 : letB c
  · go_wp2_with fail
    refine (iDigit c _).mono ?_
    rintro e w' ⟨rfl, rfl⟩
    cases h2 : digB c
    · by_cases h3 : c = 95
      · go_wp2_with fail
        go_ret
        exact ⟨ret_bool (by simp [nbB, h3]), rfl⟩
      · go_wp2_with fail
        go_ret
        exact ⟨ret_bool (by simp [nbB, h1, h2, h3]), rfl⟩
    · go_wp2_with fail
      go_ret
      exact ⟨ret_bool (by simp [nbB, h1, h2]), rfl⟩
  · go_wp2_with fail
    go_ret
    exact ⟨ret_bool (by simp [nbB, h1]), rfl⟩

set_option maxHeartbeats 400000 in
theorem sName (s : ByteArray) (hs : s.size ≤ maxLen) (w : World) : Calls Try.prog 33 #[.string s] w fun e w' => e = .returned (.bool (nmB s)) ∧ w' = w := by
  unfold maxLen at hs
  by_cases h1 : s.size < 1
  · go_enter Try.func33, Try.ntmps33
    go_wp2_with fail
    go_ret
    exact ⟨ret_bool (nmB_no (fun ⟨h, _⟩ => by omega)).symm, rfl⟩
  · by_cases h2 : 24 < s.size
    · go_enter Try.func33, Try.ntmps33
      go_wp2_with fail
      go_ret
      exact ⟨ret_bool (nmB_no (fun ⟨h, h', _⟩ => by omega)).symm, rfl⟩
    · have hp : 0 < s.size := by omega
      go_enter Try.func33, Try.ntmps33
      go_wp2_with fail
      refine (sLetter _ _).mono ?_
      rintro e w' ⟨rfl, rfl⟩
      cases h3 : letB (s[0].toNat : Int)
      · go_wp2_with fail
        go_ret
        refine ⟨ret_bool (nmB_no (fun ⟨h, h', h4, _⟩ => ?_)).symm, rfl⟩
        rw [h3] at h4
        exact absurd h4 (by simp)
      · have H3 := (show Hid _ from h3); clear h3
        go_wp2_with fail
        go_loop [3] (fun i => ∃ j : Nat, 1 ≤ j ∧ j ≤ s.size ∧ i = .int .i64 j ∧ ∀ q (hq : q < s.size), 1 ≤ q → q < j → nbB s[q].toNat = true) (fun i => s.size - (intOf i).toNat)
        case atStart => exact ⟨1, Nat.le_refl _, by omega, rfl, fun q _ h1 h2 => by omega⟩
        case round =>
          obtain ⟨j, hj1, hj, rfl, hq⟩ := hrel
          have HQ := (show Hid _ from hq); clear hq
          by_cases hlt : j < s.size
          · go_wp2_with fail
            refine (sNameByte _ _).mono ?_
            rintro e w' ⟨rfl, rfl⟩
            cases h5 : nbB (s[j].toNat : Int)
            · have H5 := (show Hid _ from h5); clear h5
              go_wp2_with fail
              go_ret
              refine ⟨ret_bool (nmB_no (fun ⟨h, h', h4, h6⟩ => ?_)).symm, rfl⟩
              have := h6 j hlt hj1
              rw [H5.out] at this
              exact absurd this (by simp)
            · have H5 := (show Hid _ from h5); clear h5
              go_wp2_with fail
              refine ⟨⟨j + 1, by omega, by omega, by go_num, fun q hq h1 h2 => ?_⟩, by simp [intOf]; omega⟩
              by_cases e : q = j
              · subst e; exact H5.out
              · exact HQ.out q hq h1 (by omega)
          · go_wp2_with fail
            go_ret
            exact ⟨ret_bool (nmB_yes ⟨by omega, by omega, H3.out, fun q hq h1 => HQ.out q hq h1 (by omega)⟩).symm, rfl⟩

set_option maxHeartbeats 400000 in
theorem iName (s : ByteArray) (hs : s.size ≤ maxLen) (w : World) : Calls Try.prog 38 #[.string s] w fun e w' => e = .returned (.bool (nmB s)) ∧ w' = w := by
  unfold maxLen at hs
  by_cases h1 : s.size < 1
  · go_enter Try.func38, Try.ntmps38
    go_wp2_with fail
    go_ret
    exact ⟨ret_bool (nmB_no (fun ⟨h, _⟩ => by omega)).symm, rfl⟩
  · by_cases h2 : 24 < s.size
    · go_enter Try.func38, Try.ntmps38
      go_wp2_with fail
      go_ret
      exact ⟨ret_bool (nmB_no (fun ⟨h, h', _⟩ => by omega)).symm, rfl⟩
    · have hp : 0 < s.size := by omega
      go_enter Try.func38, Try.ntmps38
      go_wp2_with fail
      refine (iLetter _ _).mono ?_
      rintro e w' ⟨rfl, rfl⟩
      cases h3 : letB (s[0].toNat : Int)
      · go_wp2_with fail
        go_ret
        refine ⟨ret_bool (nmB_no (fun ⟨h, h', h4, _⟩ => ?_)).symm, rfl⟩
        rw [h3] at h4
        exact absurd h4 (by simp)
      · have H3 := (show Hid _ from h3); clear h3
        go_wp2_with fail
        go_loop [3] (fun i => ∃ j : Nat, 1 ≤ j ∧ j ≤ s.size ∧ i = .int .i64 j ∧ ∀ q (hq : q < s.size), 1 ≤ q → q < j → nbB s[q].toNat = true) (fun i => s.size - (intOf i).toNat)
        case atStart => exact ⟨1, Nat.le_refl _, by omega, rfl, fun q _ h1 h2 => by omega⟩
        case round =>
          obtain ⟨j, hj1, hj, rfl, hq⟩ := hrel
          have HQ := (show Hid _ from hq); clear hq
          by_cases hlt : j < s.size
          · go_wp2_with fail
            refine (iNameByte _ _).mono ?_
            rintro e w' ⟨rfl, rfl⟩
            cases h5 : nbB (s[j].toNat : Int)
            · have H5 := (show Hid _ from h5); clear h5
              go_wp2_with fail
              go_ret
              refine ⟨ret_bool (nmB_no (fun ⟨h, h', h4, h6⟩ => ?_)).symm, rfl⟩
              have := h6 j hlt hj1
              rw [H5.out] at this
              exact absurd this (by simp)
            · have H5 := (show Hid _ from h5); clear h5
              go_wp2_with fail
              refine ⟨⟨j + 1, by omega, by omega, by go_num, fun q hq h1 h2 => ?_⟩, by simp [intOf]; omega⟩
              by_cases e : q = j
              · subst e; exact H5.out
              · exact HQ.out q hq h1 (by omega)
          · go_wp2_with fail
            go_ret
            exact ⟨ret_bool (nmB_yes ⟨by omega, by omega, H3.out, fun q hq h1 => HQ.out q hq h1 (by omega)⟩).symm, rfl⟩
end Go.Proofs.Ytledclkmeikgdaa.T
