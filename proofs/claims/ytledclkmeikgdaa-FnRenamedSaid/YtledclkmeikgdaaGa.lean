import Derived.Test.YtledclkmeikgdaaGBase
import Derived.Test.YtledclkmeikgdaaChecked
import Derived.Outline
import Derived.Test.YtledclkmeikgdaaGDat
/-! What is counted and asked of a tree: plain mathematics. -/
namespace Go.Proofs.Ytledclkmeikgdaa
set_option linter.unusedVariables false
set_option maxRecDepth 100000
set_option linter.unusedSimpArgs false
open Go.RowKit

def letB (c : Int) : Bool := decide (97 ≤ c ∧ c ≤ 122 ∨ 65 ≤ c ∧ c ≤ 90)
def digB (c : Int) : Bool := decide (48 ≤ c ∧ c ≤ 57)
def nbB (c : Int) : Bool := letB c || digB c || decide (c = 95)

/-- A name, as the document has it. -/
def NmP (s : ByteArray) : Prop := ∃ h : 1 ≤ s.size, s.size ≤ 24 ∧ letB (s[0]'h).toNat = true ∧ ∀ j (hj : j < s.size), 1 ≤ j → nbB s[j].toNat = true
def nmB (s : ByteArray) : Bool := decide (1 ≤ s.size) && decide (s.size ≤ 24) && letB (s.get! 0).toNat && (List.range s.size).all fun j => j == 0 || nbB (s.get! j).toNat
theorem get!_eq (s : ByteArray) (j : Nat) (h : j < s.size) : s.get! j = s[j] := by
  have h' : j < s.data.size := h
  show s.data[j]! = s.data[j]
  exact getElem!_pos s.data j h'
theorem nmB_iff {s : ByteArray} : nmB s = true ↔ NmP s := by
  unfold nmB NmP
  constructor
  · intro h
    simp at h
    obtain ⟨⟨⟨h1, h2⟩, h3⟩, h4⟩ := h
    refine ⟨h1, h2, ?_, fun j hj h5 => ?_⟩
    · rw [← get!_eq s 0 h1]; exact h3
    · rcases h4 j hj with h | h
      · omega
      · rw [← get!_eq s j hj]; exact h
  · rintro ⟨h1, h2, h3, h4⟩
    simp
    refine ⟨⟨⟨h1, h2⟩, ?_⟩, fun j hj => ?_⟩
    · rw [get!_eq s 0 h1]; exact h3
    · by_cases h5 : j = 0
      · exact .inl h5
      · right; rw [get!_eq s j hj]; exact h4 j hj (by omega)
theorem nmB_yes {s : ByteArray} (h : NmP s) : nmB s = true := nmB_iff.2 h
theorem nmB_no {s : ByteArray} (h : ¬ NmP s) : nmB s = false := by
  cases e : nmB s
  · rfl
  · exact absurd (nmB_iff.1 e) h

theorem isEmpty_iff (x : ByteArray) : x.toList.isEmpty = decide (x.size = 0) := by
  rw [ByteArray.toList_eq]
  have h : x.data.toList.length = x.size := rfl
  cases e : x.data.toList with
  | nil =>
    rw [e] at h
    have h' : x.size = 0 := h.symm
    rw [h']; rfl
  | cons c r =>
    rw [e] at h
    have h' : ¬ x.size = 0 := by rw [← h]; simp
    rw [decide_eq_false h']; rfl

end Go.Proofs.Ytledclkmeikgdaa

namespace Go.Proofs.Ytledclkmeikgdaa
open Go.RowKit
set_option linter.unusedVariables false
set_option linter.unusedSimpArgs false

theorem sLetter (c : Int) (w : World) : Calls Try.prog 78 #[.int .u8 c] w fun e w' => e = .returned (.bool (letB c)) ∧ w' = w := by
  by_cases h1 : 97 ≤ c <;> by_cases h2 : c ≤ 122 <;> by_cases h3 : 65 ≤ c <;> by_cases h4 : c ≤ 90 <;> first | (exfalso; omega) | skip
  all_goals
    go_enter Try.func78, Try.ntmps78
    go_wp2_with fail
    go_ret
    exact ⟨ret_bool (by simp [letB]; try omega), rfl⟩

theorem iLetter (c : Int) (w : World) : Calls Try.prog 82 #[.int .u8 c] w fun e w' => e = .returned (.bool (letB c)) ∧ w' = w := by
  by_cases h1 : 97 ≤ c <;> by_cases h2 : c ≤ 122 <;> by_cases h3 : 65 ≤ c <;> by_cases h4 : c ≤ 90 <;> first | (exfalso; omega) | skip
  all_goals
    go_enter Try.func82, Try.ntmps82
    go_wp2_with fail
    go_ret
    exact ⟨ret_bool (by simp [letB]; try omega), rfl⟩

theorem sDigit (c : Int) (w : World) : Calls Try.prog 107 #[.int .u8 c] w fun e w' => e = .returned (.bool (digB c)) ∧ w' = w := by
  by_cases h1 : 48 ≤ c <;> by_cases h2 : c ≤ 57 <;> first | (exfalso; omega) | skip
  all_goals
    go_enter Try.func107, Try.ntmps107
    go_wp2_with fail
    go_ret
    exact ⟨ret_bool (by simp [digB]; try omega), rfl⟩

theorem iDigit (c : Int) (w : World) : Calls Try.prog 108 #[.int .u8 c] w fun e w' => e = .returned (.bool (digB c)) ∧ w' = w := by
  by_cases h1 : 48 ≤ c <;> by_cases h2 : c ≤ 57 <;> first | (exfalso; omega) | skip
  all_goals
    go_enter Try.func108, Try.ntmps108
    go_wp2_with fail
    go_ret
    exact ⟨ret_bool (by simp [digB]; try omega), rfl⟩

theorem sNameByte (c : Int) (w : World) : Calls Try.prog 79 #[.int .u8 c] w fun e w' => e = .returned (.bool (nbB c)) ∧ w' = w := by
  go_enter Try.func79, Try.ntmps79
  go_wp2_with fail
  refine (sLetter c _).mono ?_
  rintro e w' ⟨rfl, rfl⟩
  cases h1 : letB c
  · go_wp2_with fail
    refine (sDigit c _).mono ?_
    rintro e w' ⟨rfl, rfl⟩
    cases h2 : digB c
    · by_cases h3 : c = 95
      · go_wp2_with fail
        go_ret
        exact ⟨ret_bool (by simp [nbB, h3]), rfl⟩
      · go_wp2_with fail
        go_ret
        exact ⟨ret_bool (by simp [nbB, h1, h2, h3]), rfl⟩
    · go_wp2_with fail
      go_ret
      exact ⟨ret_bool (by simp [nbB, h1, h2]), rfl⟩
  · go_wp2_with fail
    go_ret
    exact ⟨ret_bool (by simp [nbB, h1]), rfl⟩
theorem iNameByte (c : Int) (w : World) : Calls Try.prog 83 #[.int .u8 c] w fun e w' => e = .returned (.bool (nbB c)) ∧ w' = w := by
  go_enter Try.func83, Try.ntmps83
  go_wp2_with fail
  refine (iLetter c _).mono ?_
  rintro e w' ⟨rfl, rfl⟩
  cases h1 : letB c
  · go_wp2_with fail
    refine (iDigit c _).mono ?_
    rintro e w' ⟨rfl, rfl⟩
    cases h2 : digB c
    · by_cases h3 : c = 95
      · go_wp2_with fail
        go_ret
        exact ⟨ret_bool (by simp [nbB, h3]), rfl⟩
      · go_wp2_with fail
        go_ret
        exact ⟨ret_bool (by simp [nbB, h1, h2, h3]), rfl⟩
    · go_wp2_with fail
      go_ret
      exact ⟨ret_bool (by simp [nbB, h1, h2]), rfl⟩
  · go_wp2_with fail
    go_ret
    exact ⟨ret_bool (by simp [nbB, h1]), rfl⟩

set_option maxHeartbeats 400000 in
theorem sName (s : ByteArray) (hs : s.size ≤ maxLen) (w : World) : Calls Try.prog 33 #[.string s] w fun e w' => e = .returned (.bool (nmB s)) ∧ w' = w := by
  unfold maxLen at hs
  by_cases h1 : s.size < 1
  · go_enter Try.func33, Try.ntmps33
    go_wp2_with fail
    go_ret
    exact ⟨ret_bool (nmB_no (fun ⟨h, _⟩ => by omega)).symm, rfl⟩
  · by_cases h2 : 24 < s.size
    · go_enter Try.func33, Try.ntmps33
      go_wp2_with fail
      go_ret
      exact ⟨ret_bool (nmB_no (fun ⟨h, h', _⟩ => by omega)).symm, rfl⟩
    · have hp : 0 < s.size := by omega
      go_enter Try.func33, Try.ntmps33
      go_wp2_with fail
      refine (sLetter _ _).mono ?_
      rintro e w' ⟨rfl, rfl⟩
      cases h3 : letB (s[0].toNat : Int)
      · go_wp2_with fail
        go_ret
        refine ⟨ret_bool (nmB_no (fun ⟨h, h', h4, _⟩ => ?_)).symm, rfl⟩
        rw [h3] at h4
        exact absurd h4 (by simp)
      · have H3 := (show Hid _ from h3); clear h3
        go_wp2_with fail
        go_loop [3] (fun i => ∃ j : Nat, 1 ≤ j ∧ j ≤ s.size ∧ i = .int .i64 j ∧ ∀ q (hq : q < s.size), 1 ≤ q → q < j → nbB s[q].toNat = true) (fun i => s.size - (intOf i).toNat)
        case atStart => exact ⟨1, Nat.le_refl _, by omega, rfl, fun q _ h1 h2 => by omega⟩
        case round =>
          obtain ⟨j, hj1, hj, rfl, hq⟩ := hrel
          have HQ := (show Hid _ from hq); clear hq
          by_cases hlt : j < s.size
          · go_wp2_with fail
            refine (sNameByte _ _).mono ?_
            rintro e w' ⟨rfl, rfl⟩
            cases h5 : nbB (s[j].toNat : Int)
            · have H5 := (show Hid _ from h5); clear h5
              go_wp2_with fail
              go_ret
              refine ⟨ret_bool (nmB_no (fun ⟨h, h', h4, h6⟩ => ?_)).symm, rfl⟩
              have := h6 j hlt hj1
              rw [H5.out] at this
              exact absurd this (by simp)
            · have H5 := (show Hid _ from h5); clear h5
              go_wp2_with fail
              refine ⟨⟨j + 1, by omega, by omega, by go_num, fun q hq h1 h2 => ?_⟩, by simp [intOf]; omega⟩
              by_cases e : q = j
              · subst e; exact H5.out
              · exact HQ.out q hq h1 (by omega)
          · go_wp2_with fail
            go_ret
            exact ⟨ret_bool (nmB_yes ⟨by omega, by omega, H3.out, fun q hq h1 => HQ.out q hq h1 (by omega)⟩).symm, rfl⟩

set_option maxHeartbeats 400000 in
theorem iName (s : ByteArray) (hs : s.size ≤ maxLen) (w : World) : Calls Try.prog 38 #[.string s] w fun e w' => e = .returned (.bool (nmB s)) ∧ w' = w := by
  unfold maxLen at hs
  by_cases h1 : s.size < 1
  · go_enter Try.func38, Try.ntmps38
    go_wp2_with fail
    go_ret
    exact ⟨ret_bool (nmB_no (fun ⟨h, _⟩ => by omega)).symm, rfl⟩
  · by_cases h2 : 24 < s.size
    · go_enter Try.func38, Try.ntmps38
      go_wp2_with fail
      go_ret
      exact ⟨ret_bool (nmB_no (fun ⟨h, h', _⟩ => by omega)).symm, rfl⟩
    · have hp : 0 < s.size := by omega
      go_enter Try.func38, Try.ntmps38
      go_wp2_with fail
      refine (iLetter _ _).mono ?_
      rintro e w' ⟨rfl, rfl⟩
      cases h3 : letB (s[0].toNat : Int)
      · go_wp2_with fail
        go_ret
        refine ⟨ret_bool (nmB_no (fun ⟨h, h', h4, _⟩ => ?_)).symm, rfl⟩
        rw [h3] at h4
        exact absurd h4 (by simp)
      · have H3 := (show Hid _ from h3); clear h3
        go_wp2_with fail
        go_loop [3] (fun i => ∃ j : Nat, 1 ≤ j ∧ j ≤ s.size ∧ i = .int .i64 j ∧ ∀ q (hq : q < s.size), 1 ≤ q → q < j → nbB s[q].toNat = true) (fun i => s.size - (intOf i).toNat)
        case atStart => exact ⟨1, Nat.le_refl _, by omega, rfl, fun q _ h1 h2 => by omega⟩
        case round =>
          obtain ⟨j, hj1, hj, rfl, hq⟩ := hrel
          have HQ := (show Hid _ from hq); clear hq
          by_cases hlt : j < s.size
          · go_wp2_with fail
            refine (iNameByte _ _).mono ?_
            rintro e w' ⟨rfl, rfl⟩
            cases h5 : nbB (s[j].toNat : Int)
            · have H5 := (show Hid _ from h5); clear h5
              go_wp2_with fail
              go_ret
              refine ⟨ret_bool (nmB_no (fun ⟨h, h', h4, h6⟩ => ?_)).symm, rfl⟩
              have := h6 j hlt hj1
              rw [H5.out] at this
              exact absurd this (by simp)
            · have H5 := (show Hid _ from h5); clear h5
              go_wp2_with fail
              refine ⟨⟨j + 1, by omega, by omega, by go_num, fun q hq h1 h2 => ?_⟩, by simp [intOf]; omega⟩
              by_cases e : q = j
              · subst e; exact H5.out
              · exact HQ.out q hq h1 (by omega)
          · go_wp2_with fail
            go_ret
            exact ⟨ret_bool (nmB_yes ⟨by omega, by omega, H3.out, fun q hq h1 => HQ.out q hq h1 (by omega)⟩).symm, rfl⟩
end Go.Proofs.Ytledclkmeikgdaa

/-! Scopes that are right: what is said, and the pieces of both sides. -/
namespace Go.Proofs.Ytledclkmeikgdaa
open Go.RowKit Go.Deep
set_option linter.unusedVariables false
set_option maxRecDepth 100000
set_option linter.unusedSimpArgs false

def scB (n s : Int) : Bool := decide (0 ≤ s) && decide (s < n)
def spB (n : Int) (t : DSpot) : Bool := scB n t.scope && nmB t.name
def edB (n : Int) (t : DSEdge) : Bool := scB n t.from_ && (scB n t.to_ && (decide (t.kind = 1) || decide (t.kind = 2)))
/-- Rows of so many at most, each of which is right. -/
def spsB (n : Int) (l : List DSpot) : Bool := decide (l.length ≤ 120) && l.all (spB n)
def sgB (t : DSg) : Bool := decide (1 ≤ t.scopes ∧ t.scopes ≤ 60) && (decide (t.edges.length ≤ 120) && (spsB t.scopes t.decls && (spsB t.scopes t.refs && t.edges.all (edB t.scopes))))

def btG (x a b : Int) : Bool := decide (a ≤ x) && decide (x ≤ b)
theorem betG38 (x a b : Int) (w : World) : Calls Try.prog 34 #[.int .i64 x, .int .i64 a, .int .i64 b] w fun e w' => e = .returned (.bool (btG x a b)) ∧ w' = w := by
  by_cases h1 : a ≤ x <;> by_cases h2 : x ≤ b
  all_goals
    go_enter Try.func34, Try.ntmps34
    go_wp2_with fail
    go_ret
    exact ⟨ret_bool (by simp [btG, h1, h2]), rfl⟩
theorem sc38 (n s : Int) (w : World) : Calls Try.prog 34 #[.int .i64 s, .int .i64 0, .int .i64 (n - 1)] w fun e w' => e = .returned (.bool (scB n s)) ∧ w' = w :=
  (betG38 s 0 (n - 1) w).mono (fun e w' h => ⟨by rw [h.1]; congr 2; unfold btG scB; congr 1; exact decide_eq_decide.2 (by omega), h.2⟩)
theorem wrapN {n : Int} (h1 : 1 ≤ n) (h2 : n ≤ 60) : IntKind.i64.wrap (n - 1) = n - 1 := by simp [IntKind.wrap, IntKind.bits, IntKind.signed]; omega
set_option maxHeartbeats 1600000 in
theorem spots39 {S : Nat → Prop} (l : List DSpot) (v : Value) (n : Int) (h1 : 1 ≤ n) (h2 : n ≤ 60) (w : World) (h : SpotR w S l v) :
    Calls Try.prog 77 #[v, .int .i64 n] w fun e w' => e = .returned (.bool (spsB n l)) ∧ w' = w := by
  obtain ⟨a, cap, b, off, rfl, hc, hm, ha, hcell⟩ := h
  have HC := (show Hid _ from hcell); clear hcell
  have HA := (show Hid _ from ha); clear ha
  have HSC := (show Hid _ from fun (s : Int) (w' : World) => sc38 n s w')
  have kw := wrapN h1 h2
  clear h1 h2
  unfold maxLen at hm
  by_cases hlen : 120 < l.length
  · rw [show spsB n l = false from by unfold spsB; rw [decide_eq_false (by omega)]; rfl]
    go_enter Try.func77, Try.ntmps77
    go_wp2_with fail
    go_ret
    exact ⟨rfl, rfl⟩
  rw [show spsB n l = l.all (spB n) from by unfold spsB; rw [decide_eq_true (by omega)]; rfl]
  generalize hRes : l.all (spB n) = R
  have HRes := (show Hid _ from hRes); clear hRes
  go_enter Try.func77, Try.ntmps77
  go_wp2_with fail
  go_loopw [5] (fun i wr => ∃ j : Nat, i = .int .i64 j ∧ j ≤ l.length ∧ Hid (∀ i (hi : i < l.length), i < j → spB n l[i] = true) ∧ wr = w) (fun i _ => l.length - (intOf i).toNat)
  case atStart => exact ⟨0, rfl, Nat.zero_le _, fun i hi h0 => absurd h0 (Nat.not_lt_zero _), rfl⟩
  case round =>
    obtain ⟨j, rfl, hj, HJ, rfl⟩ := hrel
    by_cases hjl : j < l.length
    · obtain ⟨rfl, _⟩ := HA.out (by omega)
      obtain ⟨c0, c1, z1⟩ := HC.out j hjl
      have HN := (show Hid _ from fun (w' : World) => sName l[j].name z1 w')
      clear z1
      have HNX := (show Hid ((scB n l[j].scope && nmB l[j].name) = true → ∀ i (hi : i < l.length), i < j + 1 → spB n l[i] = true) from fun h i hi hij => by
        by_cases e : i = j
        · subst e; exact h
        · exact HJ.out i hi (by omega))
      have HFX := (show Hid ((scB n l[j].scope && nmB l[j].name) = false → R = false) from fun h => by
        rw [← HRes.out, List.all_eq_false]
        exact ⟨l[j], List.getElem_mem hjl, by unfold spB; rw [h]; simp⟩)
      have HS := (show Hid _ from fun w' => HSC.out l[j].scope w')
      generalize l[j].scope = sc at *
      generalize l[j].name = nm at *
      generalize scB n sc = A at *
      generalize nmB nm = B at *
      go_wp2_with fail
      refine Calls.mono (HS.out _) ?_
      rintro e w1 ⟨rfl, rfl⟩
      cases A
      · have HF := (show Hid _ from HFX.out rfl)
        go_wp2_with fail
        go_ret
        exact ⟨ret_bool HF.out.symm, rfl⟩
      · go_wp2_with fail
        refine Calls.mono (HN.out _) ?_
        rintro e w1 ⟨rfl, rfl⟩
        cases B
        · have HF := (show Hid _ from HFX.out rfl)
          go_wp2_with fail
          go_ret
          exact ⟨ret_bool HF.out.symm, rfl⟩
        · have HN2 := (show Hid _ from HNX.out rfl)
          go_wp2_with fail
          exact ⟨⟨j + 1, by go_num, by omega, HN2, trivial⟩, by simp [intOf]; omega⟩
    · have HF := (show Hid (R = true) from by
        show R = true
        rw [← HRes.out, List.all_eq_true]
        intro x hx
        obtain ⟨i, hi, rfl⟩ := List.mem_iff_getElem.1 hx
        exact HJ.out i hi (by omega))
      go_wp2_with fail
      go_ret
      exact ⟨ret_bool HF.out.symm, rfl⟩
theorem kd38 (k : Int) (w : World) : Calls Try.prog 34 #[.int .i64 k, .int .i64 1, .int .i64 2] w fun e w' => e = .returned (.bool (decide (k = 1) || decide (k = 2))) ∧ w' = w :=
  (betG38 k 1 2 w).mono (fun e w' h => ⟨by
    rw [h.1]; congr 2; unfold btG
    by_cases h1 : k = 1
    · subst h1; rfl
    · by_cases h2 : k = 2
      · subst h2; rfl
      · rw [decide_eq_false h1, decide_eq_false h2]
        by_cases h3 : 1 ≤ k
        · rw [decide_eq_false (p := k ≤ 2) (by omega)]; simp
        · rw [decide_eq_false h3]; rfl, h.2⟩)
/-- The box of a Sg. -/
def G4 (p : Nat) (n : Int) (v1 v2 v3 : Value) (wq : World) : Prop := wq.cell? ⟨p, 0, none⟩ = some (.int .i64 n) ∧ wq.cell? ⟨p, 1, none⟩ = some v1 ∧ wq.cell? ⟨p, 2, none⟩ = some v2 ∧ wq.cell? ⟨p, 3, none⟩ = some v3
theorem G4.new (w : World) (n : Int) (v1 v2 v3 : Value) : G4 w.heap.size n v1 v2 v3 (w.alloc (.cells #[.int .i64 n, v1, v2, v3] 27)) := by
  refine ⟨?_, ?_, ?_, ?_⟩ <;> simp [go_sem]
theorem G4.still {p : Nat} {n : Int} {v1 v2 v3 : Value} {w w' : World} (h : G4 p n v1 v2 v3 w) (hb : Below w.heap.size w w') : G4 p n v1 v2 v3 w' :=
  ⟨(hb.cell (lt_of_cell h.1)).trans h.1, (hb.cell (lt_of_cell h.2.1)).trans h.2.1, (hb.cell (lt_of_cell h.2.2.1)).trans h.2.2.1, (hb.cell (lt_of_cell h.2.2.2)).trans h.2.2.2⟩
set_option maxHeartbeats 3200000 in
theorem sSg10 {S : Nat → Prop} (t : DSg) (v1 v2 v3 : Value) (w : World) (h : DSgL w S t v1 v2 v3) :
    Calls Try.prog 32 #[.agg #[.int .i64 t.scopes, v1, v2, v3]] w fun e w' => e = .returned (.bool (sgB t)) ∧ Below w.heap.size w w' := by
  have HB1 := (show Hid _ from fun (w' : World) => betG38 t.scopes 1 60 w')
  have HSC := (show Hid _ from fun (s : Int) (w' : World) => sc38 t.scopes s w')
  have HKD := (show Hid _ from fun (s : Int) (w' : World) => kd38 s w')
  have HSD := (show Hid _ from fun (h1 : 1 ≤ t.scopes) (h2 : t.scopes ≤ 60) (w' : World) (hb : Below w.heap.size w w') => spots39 t.decls v2 t.scopes h1 h2 w' (h.decls.still hb))
  have HSR := (show Hid _ from fun (h1 : 1 ≤ t.scopes) (h2 : t.scopes ≤ 60) (w' : World) (hb : Below w.heap.size w w') => spots39 t.refs v3 t.scopes h1 h2 w' (h.refs.still hb))
  obtain ⟨a1, p1, b, off, rfl, hc, hm, ha, hcell⟩ := h.edges
  obtain ⟨a2, p2, rfl, _⟩ := h.decls.form
  obtain ⟨a3, p3, rfl, _⟩ := h.refs.form
  have HC := (show Hid _ from hcell); clear hcell
  have HA := (show Hid _ from ha); clear ha
  unfold maxLen at hm
  have HSG := (show Hid (sgB t = (decide (1 ≤ t.scopes ∧ t.scopes ≤ 60) && (decide (t.edges.length ≤ 120) && (spsB t.scopes t.decls && (spsB t.scopes t.refs && t.edges.all (edB t.scopes)))))) from rfl)
  generalize sgB t = R at *
  clear h
  have hb0 := bel_alloc w (.cells #[.int .i64 t.scopes, .slice a1 t.edges.length p1, .slice a2 t.decls.length p2, .slice a3 t.refs.length p3] 27)
  have HB0 := (show Hid _ from hb0); clear hb0
  by_cases hbd : 1 ≤ t.scopes ∧ t.scopes ≤ 60
  case neg =>
    have HR := (show Hid (R = false) from by show R = false; rw [HSG.out, decide_eq_false hbd]; rfl)
    rw [show btG t.scopes 1 60 = false from by
      unfold btG
      by_cases h : 1 ≤ t.scopes
      · rw [decide_eq_false (p := t.scopes ≤ 60) (by omega)]; simp
      · rw [decide_eq_false h]; rfl] at HB1
    generalize t.scopes = sc at *
    clear hbd
    go_enter Try.func32, Try.ntmps32
    go_wp2_with fail
    refine Calls.mono (HB1.out _) ?_
    rintro e w1 ⟨rfl, rfl⟩
    go_wp2_with fail
    go_ret
    exact ⟨ret_bool HR.out.symm, HB0.out⟩
  obtain ⟨h1, h2⟩ := hbd
  rw [show btG t.scopes 1 60 = true from by unfold btG; rw [decide_eq_true h1, decide_eq_true h2]; rfl] at HB1
  by_cases hel : 120 < t.edges.length
  · have HR := (show Hid (R = false) from by show R = false; rw [HSG.out, decide_eq_false (p := t.edges.length ≤ 120) (by omega)]; simp)
    generalize t.scopes = sc at *
    go_enter Try.func32, Try.ntmps32
    go_wp2_with fail
    refine Calls.mono (HB1.out _) ?_
    rintro e w1 ⟨rfl, rfl⟩
    go_wp2_with fail
    go_ret
    exact ⟨ret_bool HR.out.symm, HB0.out⟩
  have HR := (show Hid (R = (spsB t.scopes t.decls && (spsB t.scopes t.refs && t.edges.all (edB t.scopes)))) from by
    show R = _
    rw [HSG.out, decide_eq_true (p := 1 ≤ t.scopes ∧ t.scopes ≤ 60) ⟨h1, h2⟩, decide_eq_true (p := t.edges.length ≤ 120) (by omega)]; rfl)
  have HS1 := (show Hid _ from HSD.out h1 h2)
  have HS2 := (show Hid _ from HSR.out h1 h2)
  have kw := wrapN h1 h2
  clear HSD HSR HSG h1 h2
  have HED := (show Hid (∀ i (hi : i < t.edges.length), edB t.scopes t.edges[i] = (scB t.scopes t.edges[i].from_ && (scB t.scopes t.edges[i].to_ && (decide (t.edges[i].kind = 1) || decide (t.edges[i].kind = 2))))) from fun i hi => rfl)
  generalize spsB t.scopes t.decls = DB at *
  generalize spsB t.scopes t.refs = RB at *
  generalize edB t.scopes = eb at *
  have HG0 := (show Hid _ from G4.new w t.scopes (.slice a1 t.edges.length p1) (.slice a2 t.decls.length p2) (.slice a3 t.refs.length p3))
  generalize t.scopes = sc at *
  go_enter Try.func32, Try.ntmps32
  go_wp2_with fail
  refine Calls.mono (HB1.out _) ?_
  rintro e w1 ⟨rfl, rfl⟩
  go_wp2_with fail
  refine Calls.mono (HS1.out _ HB0.out) ?_
  rintro e w1 ⟨rfl, rfl⟩
  cases DB
  · have HF := (show Hid (R = false) from HR.out)
    go_wp2_with fail
    go_ret
    exact ⟨ret_bool HF.out.symm, HB0.out⟩
  go_wp2_with fail
  refine Calls.mono (HS2.out _ HB0.out) ?_
  rintro e w1 ⟨rfl, rfl⟩
  cases RB
  · have HF := (show Hid (R = false) from HR.out)
    go_wp2_with fail
    go_ret
    exact ⟨ret_bool HF.out.symm, HB0.out⟩
  have HRA := (show Hid (R = t.edges.all eb) from HR.out)
  clear HR HS1 HS2 HB1
  go_wp2_with fail
  go_loopw [3] (fun i wr => ∃ j : Nat, i = .int .i64 j ∧ j ≤ t.edges.length ∧ Hid (∀ i (hi : i < t.edges.length), i < j → eb t.edges[i] = true) ∧ wr.cell? ⟨w.heap.size, 0, none⟩ = some (.int .i64 sc) ∧ wr.cell? ⟨w.heap.size, 1, none⟩ = some (.slice a1 t.edges.length p1) ∧ Hid (Below w.heap.size w wr)) (fun i _ => t.edges.length - (intOf i).toNat)
  case atStart => exact ⟨0, rfl, Nat.zero_le _, fun i hi h0 => absurd h0 (Nat.not_lt_zero _), HG0.out.1, HG0.out.2.1, HB0⟩
  case round =>
    obtain ⟨j, rfl, hj, HJ, k0, k1, HBW⟩ := hrel
    clear HG0 HB0
    by_cases hjl : j < t.edges.length
    · obtain ⟨rfl, _⟩ := HA.out (by omega)
      obtain ⟨c0, c1, c2⟩ := HC.out j hjl
      rw [← HBW.out.cell (lt_of_cell c0)] at c0
      rw [← HBW.out.cell (lt_of_cell c1)] at c1
      rw [← HBW.out.cell (lt_of_cell c2)] at c2
      have HNX := (show Hid ((scB sc t.edges[j].from_ && (scB sc t.edges[j].to_ && (decide (t.edges[j].kind = 1) || decide (t.edges[j].kind = 2)))) = true → ∀ i (hi : i < t.edges.length), i < j + 1 → eb t.edges[i] = true) from fun h i hi hij => by
        by_cases e : i = j
        · subst e; rw [HED.out]; exact h
        · exact HJ.out i hi (by omega))
      have HFX := (show Hid ((scB sc t.edges[j].from_ && (scB sc t.edges[j].to_ && (decide (t.edges[j].kind = 1) || decide (t.edges[j].kind = 2)))) = false → R = false) from fun h => by
        rw [HRA.out, List.all_eq_false]
        exact ⟨t.edges[j], List.getElem_mem hjl, by rw [HED.out, h]; simp⟩)
      have HX0 := (show Hid _ from fun w' => HSC.out t.edges[j].from_ w')
      have HX1 := (show Hid _ from fun w' => HSC.out t.edges[j].to_ w')
      have HX2 := (show Hid _ from fun w' => HKD.out t.edges[j].kind w')
      generalize t.edges[j].from_ = ef at *
      generalize t.edges[j].to_ = et at *
      generalize t.edges[j].kind = ek at *
      generalize scB sc ef = A at *
      generalize scB sc et = B at *
      generalize (decide (ek = 1) || decide (ek = 2)) = K at *
      have hbe := HBW.out.alloc HBW.out.size (.cells #[.int .i64 ef, .int .i64 et, .int .i64 ek] 74)
      have HBE := (show Hid _ from hbe); clear hbe
      have hk0 := lt_of_cell k0
      have hk1 := lt_of_cell k1
      have e0 : (wr.alloc (.cells #[.int .i64 ef, .int .i64 et, .int .i64 ek] 74)).cell? ⟨w.heap.size, 0, none⟩ = some (.int .i64 sc) := ((bel_alloc wr _).cell hk0).trans k0
      have e1 : (wr.alloc (.cells #[.int .i64 ef, .int .i64 et, .int .i64 ek] 74)).cell? ⟨w.heap.size, 1, none⟩ = some (.slice (some ⟨b, off, none⟩) t.edges.length p1) := ((bel_alloc wr _).cell hk1).trans k1
      clear hk0 hk1
      go_wp2_with fail
      refine Calls.mono (HX0.out _) ?_
      rintro e w1 ⟨rfl, rfl⟩
      cases A
      · have HF := (show Hid _ from HFX.out rfl)
        go_wp2_with fail
        go_ret
        exact ⟨ret_bool HF.out.symm, HBE.out⟩
      go_wp2_with fail
      refine Calls.mono (HX1.out _) ?_
      rintro e w1 ⟨rfl, rfl⟩
      cases B
      · have HF := (show Hid _ from HFX.out rfl)
        go_wp2_with fail
        go_ret
        exact ⟨ret_bool HF.out.symm, HBE.out⟩
      go_wp2_with fail
      refine Calls.mono (HX2.out _) ?_
      rintro e w1 ⟨rfl, rfl⟩
      cases K
      · have HF := (show Hid _ from HFX.out rfl)
        go_wp2_with fail
        go_ret
        exact ⟨ret_bool HF.out.symm, HBE.out⟩
      have HN2 := (show Hid _ from HNX.out rfl)
      go_wp2_with fail
      exact ⟨⟨j + 1, by go_num, by omega, HN2, e0, e1, HBE⟩, by simp [intOf]; omega⟩
    · have HF := (show Hid (R = true) from by
        show R = true
        rw [HRA.out, List.all_eq_true]
        intro x hx
        obtain ⟨i, hi, rfl⟩ := List.mem_iff_getElem.1 hx
        exact HJ.out i hi (by omega))
      go_wp2_with fail
      go_ret
      exact ⟨ret_bool HF.out.symm, HBW.out⟩
end Go.Proofs.Ytledclkmeikgdaa
