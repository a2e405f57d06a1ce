import Derived.Test.YtjpjjfgdgieapaaDoorBase
import Derived.Test.YtjpjjfgdgieapaaDoorChecked
import Derived.Outline
import Derived.Test.YtjpjjfgdgieapaaDoorEq
/-! What is counted and asked of a tree: plain mathematics. -/
namespace Go.Proofs.YtjpjjfgdgieapaaDoor
set_option linter.unusedVariables false
set_option maxRecDepth 100000
set_option linter.unusedSimpArgs false
open Go.RowKit

def letB (c : Int) : Bool := decide (97 ≤ c ∧ c ≤ 122 ∨ 65 ≤ c ∧ c ≤ 90)
def digB (c : Int) : Bool := decide (48 ≤ c ∧ c ≤ 57)
def nbB (c : Int) : Bool := letB c || digB c || decide (c = 95)

/-- A name, as the document has it. -/
def NmP (s : ByteArray) : Prop := ∃ h : 1 ≤ s.size, s.size ≤ 24 ∧ letB (s[0]'h).toNat = true ∧ ∀ j (hj : j < s.size), 1 ≤ j → nbB s[j].toNat = true
def nmB (s : ByteArray) : Bool := decide (1 ≤ s.size) && decide (s.size ≤ 24) && letB (s.get! 0).toNat && (List.range s.size).all fun j => j == 0 || nbB (s.get! j).toNat
theorem get!_eq (s : ByteArray) (j : Nat) (h : j < s.size) : s.get! j = s[j] := by
  have h' : j < s.data.size := h
  show s.data[j]! = s.data[j]
  exact getElem!_pos s.data j h'
theorem nmB_iff {s : ByteArray} : nmB s = true ↔ NmP s := by
  unfold nmB NmP
  constructor
  · intro h
    simp at h
    obtain ⟨⟨⟨h1, h2⟩, h3⟩, h4⟩ := h
    refine ⟨h1, h2, ?_, fun j hj h5 => ?_⟩
    · rw [← get!_eq s 0 h1]; exact h3
    · rcases h4 j hj with h | h
      · omega
      · rw [← get!_eq s j hj]; exact h
  · rintro ⟨h1, h2, h3, h4⟩
    simp
    refine ⟨⟨⟨h1, h2⟩, ?_⟩, fun j hj => ?_⟩
    · rw [get!_eq s 0 h1]; exact h3
    · by_cases h5 : j = 0
      · exact .inl h5
      · right; rw [get!_eq s j hj]; exact h4 j hj (by omega)
theorem nmB_yes {s : ByteArray} (h : NmP s) : nmB s = true := nmB_iff.2 h
theorem nmB_no {s : ByteArray} (h : ¬ NmP s) : nmB s = false := by
  cases e : nmB s
  · rfl
  · exact absurd (nmB_iff.1 e) h

theorem isEmpty_iff (x : ByteArray) : x.toList.isEmpty = decide (x.size = 0) := by
  rw [ByteArray.toList_eq]
  have h : x.data.toList.length = x.size := rfl
  cases e : x.data.toList with
  | nil =>
    rw [e] at h
    have h' : x.size = 0 := h.symm
    rw [h']; rfl
  | cons c r =>
    rw [e] at h
    have h' : ¬ x.size = 0 := by rw [← h]; simp
    rw [decide_eq_false h']; rfl

end Go.Proofs.YtjpjjfgdgieapaaDoor

namespace Go.Proofs.YtjpjjfgdgieapaaDoor
open Go.RowKit
set_option linter.unusedVariables false
set_option maxRecDepth 100000
set_option linter.unusedSimpArgs false


theorem sLetter (c : Int) (w : World) : Calls Tryd.prog 77 #[.int .u8 c] w fun e w' => e = .returned (.bool (letB c)) ∧ w' = w := by
  by_cases h1 : 97 ≤ c <;> by_cases h2 : c ≤ 122 <;> by_cases h3 : 65 ≤ c <;> by_cases h4 : c ≤ 90 <;> first | (exfalso; omega) | skip
  all_goals
    go_enter Tryd.func77, Tryd.ntmps77
    go_wp2_with fail
    go_ret
    exact ⟨ret_bool (by simp [letB]; try omega), rfl⟩

theorem iLetter (c : Int) (w : World) : Calls Tryd.prog 93 #[.int .u8 c] w fun e w' => e = .returned (.bool (letB c)) ∧ w' = w := by
  by_cases h1 : 97 ≤ c <;> by_cases h2 : c ≤ 122 <;> by_cases h3 : 65 ≤ c <;> by_cases h4 : c ≤ 90 <;> first | (exfalso; omega) | skip
  all_goals
    go_enter Tryd.func93, Tryd.ntmps93
    go_wp2_with fail
    go_ret
    exact ⟨ret_bool (by simp [letB]; try omega), rfl⟩

theorem sDigit (c : Int) (w : World) : Calls Tryd.prog 91 #[.int .u8 c] w fun e w' => e = .returned (.bool (digB c)) ∧ w' = w := by
  by_cases h1 : 48 ≤ c <;> by_cases h2 : c ≤ 57 <;> first | (exfalso; omega) | skip
  all_goals
    go_enter Tryd.func91, Tryd.ntmps91
    go_wp2_with fail
    go_ret
    exact ⟨ret_bool (by simp [digB]; try omega), rfl⟩

theorem iDigit (c : Int) (w : World) : Calls Tryd.prog 96 #[.int .u8 c] w fun e w' => e = .returned (.bool (digB c)) ∧ w' = w := by
  by_cases h1 : 48 ≤ c <;> by_cases h2 : c ≤ 57 <;> first | (exfalso; omega) | skip
  all_goals
    go_enter Tryd.func96, Tryd.ntmps96
    go_wp2_with fail
    go_ret
    exact ⟨ret_bool (by simp [digB]; try omega), rfl⟩

theorem sNameByte (c : Int) (w : World) : Calls Tryd.prog 78 #[.int .u8 c] w fun e w' => e = .returned (.bool (nbB c)) ∧ w' = w := by
  go_enter Tryd.func78, Tryd.ntmps78
  go_wp2_with fail
  refine (sLetter c _).mono ?_
  rintro e w' ⟨rfl, rfl⟩
  cases h1 : letB c
  · go_wp2_with fail
    refine (sDigit c _).mono ?_
    rintro e w' ⟨rfl, rfl⟩
    cases h2 : digB c
    · by_cases h3 : c = 95
      · go_wp2_with fail
        go_ret
        exact ⟨ret_bool (by simp [nbB, h3]), rfl⟩
      · go_wp2_with fail
        go_ret
        exact ⟨ret_bool (by simp [nbB, h1, h2, h3]), rfl⟩
    · go_wp2_with fail
      go_ret
      exact ⟨ret_bool (by simp [nbB, h1, h2]), rfl⟩
  · go_wp2_with fail
    go_ret
    exact ⟨ret_bool (by simp [nbB, h1]), rfl⟩
theorem iNameByte (c : Int) (w : World) : Calls Tryd.prog 94 #[.int .u8 c] w fun e w' => e = .returned (.bool (nbB c)) ∧ w' = w := by
  go_enter Tryd.func94, Tryd.ntmps94
  go_wp2_with fail
  refine (iLetter c _).mono ?_
  rintro e w' ⟨rfl, rfl⟩
  cases h1 : letB c
  · go_wp2_with fail
    refine (iDigit c _).mono ?_
    rintro e w' ⟨rfl, rfl⟩
    cases h2 : digB c
    · by_cases h3 : c = 95
      · go_wp2_with fail
        go_ret
        exact ⟨ret_bool (by simp [nbB, h3]), rfl⟩
      · go_wp2_with fail
        go_ret
        exact ⟨ret_bool (by simp [nbB, h1, h2, h3]), rfl⟩
    · go_wp2_with fail
      go_ret
      exact ⟨ret_bool (by simp [nbB, h1, h2]), rfl⟩
  · go_wp2_with fail
    go_ret
    exact ⟨ret_bool (by simp [nbB, h1]), rfl⟩

set_option maxHeartbeats 400000 in
theorem sName (s : ByteArray) (hs : s.size ≤ maxLen) (w : World) : Calls Tryd.prog 48 #[.string s] w fun e w' => e = .returned (.bool (nmB s)) ∧ w' = w := by
  unfold maxLen at hs
  by_cases h1 : s.size < 1
  · go_enter Tryd.func48, Tryd.ntmps48
    go_wp2_with fail
    go_ret
    exact ⟨ret_bool (nmB_no (fun ⟨h, _⟩ => by omega)).symm, rfl⟩
  · by_cases h2 : 24 < s.size
    · go_enter Tryd.func48, Tryd.ntmps48
      go_wp2_with fail
      go_ret
      exact ⟨ret_bool (nmB_no (fun ⟨h, h', _⟩ => by omega)).symm, rfl⟩
    · have hp : 0 < s.size := by omega
      go_enter Tryd.func48, Tryd.ntmps48
      go_wp2_with fail
      refine (sLetter _ _).mono ?_
      rintro e w' ⟨rfl, rfl⟩
      cases h3 : letB (s[0].toNat : Int)
      · go_wp2_with fail
        go_ret
        refine ⟨ret_bool (nmB_no (fun ⟨h, h', h4, _⟩ => ?_)).symm, rfl⟩
        rw [h3] at h4
        exact absurd h4 (by simp)
      · have H3 := (show Hid _ from h3); clear h3
        go_wp2_with fail
        go_loop [3] (fun i => ∃ j : Nat, 1 ≤ j ∧ j ≤ s.size ∧ i = .int .i64 j ∧ ∀ q (hq : q < s.size), 1 ≤ q → q < j → nbB s[q].toNat = true) (fun i => s.size - (intOf i).toNat)
        case atStart => exact ⟨1, Nat.le_refl _, by omega, rfl, fun q _ h1 h2 => by omega⟩
        case round =>
          obtain ⟨j, hj1, hj, rfl, hq⟩ := hrel
          have HQ := (show Hid _ from hq); clear hq
          by_cases hlt : j < s.size
          · go_wp2_with fail
            refine (sNameByte _ _).mono ?_
            rintro e w' ⟨rfl, rfl⟩
            cases h5 : nbB (s[j].toNat : Int)
            · have H5 := (show Hid _ from h5); clear h5
              go_wp2_with fail
              go_ret
              refine ⟨ret_bool (nmB_no (fun ⟨h, h', h4, h6⟩ => ?_)).symm, rfl⟩
              have := h6 j hlt hj1
              rw [H5.out] at this
              exact absurd this (by simp)
            · have H5 := (show Hid _ from h5); clear h5
              go_wp2_with fail
              refine ⟨⟨j + 1, by omega, by omega, by go_num, fun q hq h1 h2 => ?_⟩, by simp [intOf]; omega⟩
              by_cases e : q = j
              · subst e; exact H5.out
              · exact HQ.out q hq h1 (by omega)
          · go_wp2_with fail
            go_ret
            exact ⟨ret_bool (nmB_yes ⟨by omega, by omega, H3.out, fun q hq h1 => HQ.out q hq h1 (by omega)⟩).symm, rfl⟩

set_option maxHeartbeats 400000 in
theorem iName (s : ByteArray) (hs : s.size ≤ maxLen) (w : World) : Calls Tryd.prog 84 #[.string s] w fun e w' => e = .returned (.bool (nmB s)) ∧ w' = w := by
  unfold maxLen at hs
  by_cases h1 : s.size < 1
  · go_enter Tryd.func84, Tryd.ntmps84
    go_wp2_with fail
    go_ret
    exact ⟨ret_bool (nmB_no (fun ⟨h, _⟩ => by omega)).symm, rfl⟩
  · by_cases h2 : 24 < s.size
    · go_enter Tryd.func84, Tryd.ntmps84
      go_wp2_with fail
      go_ret
      exact ⟨ret_bool (nmB_no (fun ⟨h, h', _⟩ => by omega)).symm, rfl⟩
    · have hp : 0 < s.size := by omega
      go_enter Tryd.func84, Tryd.ntmps84
      go_wp2_with fail
      refine (iLetter _ _).mono ?_
      rintro e w' ⟨rfl, rfl⟩
      cases h3 : letB (s[0].toNat : Int)
      · go_wp2_with fail
        go_ret
        refine ⟨ret_bool (nmB_no (fun ⟨h, h', h4, _⟩ => ?_)).symm, rfl⟩
        rw [h3] at h4
        exact absurd h4 (by simp)
      · have H3 := (show Hid _ from h3); clear h3
        go_wp2_with fail
        go_loop [3] (fun i => ∃ j : Nat, 1 ≤ j ∧ j ≤ s.size ∧ i = .int .i64 j ∧ ∀ q (hq : q < s.size), 1 ≤ q → q < j → nbB s[q].toNat = true) (fun i => s.size - (intOf i).toNat)
        case atStart => exact ⟨1, Nat.le_refl _, by omega, rfl, fun q _ h1 h2 => by omega⟩
        case round =>
          obtain ⟨j, hj1, hj, rfl, hq⟩ := hrel
          have HQ := (show Hid _ from hq); clear hq
          by_cases hlt : j < s.size
          · go_wp2_with fail
            refine (iNameByte _ _).mono ?_
            rintro e w' ⟨rfl, rfl⟩
            cases h5 : nbB (s[j].toNat : Int)
            · have H5 := (show Hid _ from h5); clear h5
              go_wp2_with fail
              go_ret
              refine ⟨ret_bool (nmB_no (fun ⟨h, h', h4, h6⟩ => ?_)).symm, rfl⟩
              have := h6 j hlt hj1
              rw [H5.out] at this
              exact absurd this (by simp)
            · have H5 := (show Hid _ from h5); clear h5
              go_wp2_with fail
              refine ⟨⟨j + 1, by omega, by omega, by go_num, fun q hq h1 h2 => ?_⟩, by simp [intOf]; omega⟩
              by_cases e : q = j
              · subst e; exact H5.out
              · exact HQ.out q hq h1 (by omega)
          · go_wp2_with fail
            go_ret
            exact ⟨ret_bool (nmB_yes ⟨by omega, by omega, H3.out, fun q hq h1 => HQ.out q hq h1 (by omega)⟩).symm, rfl⟩
end Go.Proofs.YtjpjjfgdgieapaaDoor

/-! Which plain rules are right. -/
namespace Go.Proofs.YtjpjjfgdgieapaaDoor
open Go.RowKit Go.Deep
set_option linter.unusedVariables false
set_option maxRecDepth 100000
set_option linter.unusedSimpArgs false

def stB (l a : Int) : Bool := decide (l = 0 ∧ a = 0 ∨ 0 < l ∧ l ≤ 8 ∧ 1 ≤ a ∧ a ≤ 3)
def wiB (x a b : Int) : Bool := decide (a ≤ x ∧ x ≤ b)
/-- .. a Prod; T and N: how many Terms and Nons. -/
def pdB (T N : Nat) (p : Pd) : Bool := wiB p.left T (T + N - 1) && (decide (p.right.length ≤ 12) && (p.right.all (fun x => wiB x 0 (T + N - 1)) && ((decide (p.label.size = 0) || nmB p.label) && stB p.lev p.asc)))
def szB (d : Bn) : Bool := decide (d.terms.length ≤ 60 ∧ 1 ≤ d.nons.length ∧ d.nons.length ≤ 100 ∧ 1 ≤ d.own ∧ d.own ≤ d.nons.length ∧ d.prods.length ≤ 120)
def bnB (d : Bn) : Bool := szB d && ((d.terms.all (fun t => stB t.lev t.asc) && apB (d.terms.map (·.name))) && (apB d.nons && d.prods.all (pdB d.terms.length d.nons.length)))

theorem between_any (x a b : Int) (w : World) : Calls Tryd.prog 45 #[.int .i64 x, .int .i64 a, .int .i64 b] w fun e w' => e = .returned (.bool (wiB x a b)) ∧ w' = w := by
  by_cases h1 : a ≤ x <;> by_cases h2 : x ≤ b
  all_goals
    go_enter Tryd.func45, Tryd.ntmps45
    go_wp2_with fail
    go_ret
    exact ⟨ret_bool (by simp [wiB]; try omega), rfl⟩
set_option maxHeartbeats 800000 in
theorem strength_s (l a : Int) (w : World) : Calls Tryd.prog 46 #[.int .i64 l, .int .i64 a] w fun e w' => e = .returned (.bool (stB l a)) ∧ w' = w := by
  have HB := (show Hid _ from fun (x a b : Int) (w : World) => between_any x a b w)
  by_cases h1 : 0 ≤ l ∧ l ≤ 8
  · have e1 : wiB l 0 8 = true := by simp [wiB]; omega
    by_cases h2 : l = 0
    · by_cases h3 : a = 0
      · subst h2 h3
        go_enter Tryd.func46, Tryd.ntmps46
        go_wp2_with fail
        refine Calls.mono (HB.out _ _ _ _) ?_
        rintro e w1 ⟨rfl, rfl⟩
        rw [e1]
        go_wp2_with fail
        go_ret
        exact ⟨ret_bool (by simp [stB]), rfl⟩
      · subst h2
        go_enter Tryd.func46, Tryd.ntmps46
        go_wp2_with fail
        refine Calls.mono (HB.out _ _ _ _) ?_
        rintro e w1 ⟨rfl, rfl⟩
        rw [e1]
        go_wp2_with fail
        go_ret
        exact ⟨ret_bool (by simp [stB, h3]), rfl⟩
    · have h4 : 0 < l := by omega
      have e2 : stB l a = wiB a 1 3 := decide_eq_decide.2 (by omega)
      rw [e2]
      go_enter Tryd.func46, Tryd.ntmps46
      go_wp2_with fail
      refine Calls.mono (HB.out _ _ _ _) ?_
      rintro e w1 ⟨rfl, rfl⟩
      rw [e1]
      go_wp2_with fail
      refine Calls.mono (HB.out _ _ _ _) ?_
      rintro e w1 ⟨rfl, rfl⟩
      go_wp2_with fail
      go_ret
      exact ⟨rfl, rfl⟩
  · have e1 : wiB l 0 8 = false := by simp [wiB]; omega
    have e2 : stB l a = false := by unfold stB; simp; omega
    rw [e2]
    go_enter Tryd.func46, Tryd.ntmps46
    go_wp2_with fail
    refine Calls.mono (HB.out _ _ _ _) ?_
    rintro e w1 ⟨rfl, rfl⟩
    rw [e1]
    go_wp2_with fail
    go_ret
    exact ⟨rfl, rfl⟩
set_option maxHeartbeats 800000 in
theorem strength_i (l a : Int) (w : World) : Calls Tryd.prog 81 #[.int .i64 l, .int .i64 a] w fun e w' => e = .returned (.bool (stB l a)) ∧ w' = w := by
  by_cases h0 : l = 0
  · subst h0
    by_cases h3 : a = 0
    · subst h3
      go_enter Tryd.func81, Tryd.ntmps81
      go_wp2_with fail
      go_ret
      exact ⟨ret_bool (by simp [stB]), rfl⟩
    · go_enter Tryd.func81, Tryd.ntmps81
      go_wp2_with fail
      go_ret
      exact ⟨ret_bool (by simp [stB, h3]), rfl⟩
  · by_cases h1 : 0 < l <;> by_cases h2 : l ≤ 8 <;> by_cases h3 : 1 ≤ a <;> by_cases h4 : a ≤ 3 <;> first | (exfalso; omega) | skip
    all_goals
      go_enter Tryd.func81, Tryd.ntmps81
      go_wp2_with fail
      go_ret
      exact ⟨ret_bool (by simp [stB]; try omega), rfl⟩
set_option maxHeartbeats 800000 in
theorem within_any {S : Nat → Prop} (l : List Int) (a b : Int) (v : Value) (w : World) (h : Ints w S l v) : Calls Tryd.prog 83 #[v, .int .i64 a, .int .i64 b] w fun e w' => e = .returned (.bool (l.all (fun x => wiB x a b))) ∧ w' = w := by
  obtain ⟨ad, cap, bb, off, rfl, hc, hm, ha, hcell⟩ := h
  have HC := (show Hid _ from hcell); clear hcell
  have HA := (show Hid _ from ha); clear ha
  unfold maxLen at hm
  generalize hR : l.all (fun x => wiB x a b) = R
  have HR := (show Hid _ from hR); clear hR
  go_enter Tryd.func83, Tryd.ntmps83
  go_wp2_with fail
  go_loopw [11] (fun i wr => ∃ j : Nat, i = .int .i64 j ∧ j ≤ l.length ∧ Hid (∀ i (hi : i < l.length), i < j → wiB l[i] a b = true) ∧ wr = w) (fun i _ => l.length - (intOf i).toNat)
  case atStart => exact ⟨0, rfl, Nat.zero_le _, fun i hi h0 => absurd h0 (Nat.not_lt_zero _), rfl⟩
  case round =>
    obtain ⟨j, rfl, hj, HJ, rfl⟩ := hrel
    by_cases hjl : j < l.length
    · obtain ⟨rfl, _⟩ := HA.out (by omega)
      have c0 := HC.out j hjl
      cases hw : wiB l[j] a b
      · have HF : Hid (R = false) := by
          show R = false
          rw [← HR.out, List.all_eq_false]
          exact ⟨l[j], List.getElem_mem hjl, by rw [hw]; simp⟩
        by_cases h1 : l[j] < a
        · clear hw
          go_wp2_with fail
          go_ret
          exact ⟨by rw [HF.out]; rfl, rfl⟩
        · have h2 : b < l[j] := by
            simp [wiB] at hw
            omega
          clear hw
          go_wp2_with fail
          go_ret
          exact ⟨by rw [HF.out]; rfl, rfl⟩
      · have h1 : a ≤ l[j] ∧ l[j] ≤ b := by simpa [wiB] using hw
        have HN : Hid (∀ i (hi : i < l.length), i < j + 1 → wiB l[i] a b = true) := fun i hi hij => by
          by_cases e : i = j
          · subst e; exact hw
          · exact HJ.out i hi (by omega)
        obtain ⟨h2, h3⟩ := h1
        clear hw
        go_wp2_with fail
        exact ⟨⟨j + 1, by go_num, by omega, HN, trivial⟩, by simp [intOf]; omega⟩
    · have hje : j = l.length := by omega
      have HF : Hid (R = true) := by
        show R = true
        rw [← HR.out, List.all_eq_true]
        intro x hx
        obtain ⟨i, hi, rfl⟩ := List.mem_iff_getElem.1 hx
        exact HJ.out i hi (by omega)
      clear hje
      go_wp2_with fail
      go_ret
      exact ⟨by rw [HF.out]; rfl, rfl⟩
end Go.Proofs.YtjpjjfgdgieapaaDoor
