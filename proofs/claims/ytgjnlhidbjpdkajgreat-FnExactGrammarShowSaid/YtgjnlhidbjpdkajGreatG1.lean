import Derived.Test.YtgjnlhidbjpdkajGreatEq
import Derived.Test.YtgjnlhidbjpdkajGreatNm
import Derived.Laws.RangeString
import Derived.Lib.OthersKept
/-! Names that are no words of the language, literals, patterns. -/
namespace Go.Proofs.YtgjnlhidbjpdkajGreat
open Go.RowKit Go.Deep
set_option linter.unusedVariables false
set_option maxRecDepth 100000
set_option linter.unusedSimpArgs false

/-- Each byte fits. -/
def AllP (p : Int → Bool) (s : ByteArray) : Prop := ∀ j (hj : j < s.size), p s[j].toNat = true
def alB (p : Int → Bool) (s : ByteArray) : Bool := (List.range s.size).all fun j => p (s.get! j).toNat
theorem alB_iff {p : Int → Bool} {s : ByteArray} : alB p s = true ↔ AllP p s := by
  unfold alB AllP
  rw [List.all_eq_true]
  constructor
  · intro h j hj
    have := h j (List.mem_range.2 hj)
    rw [get!_eq s j hj] at this
    exact this
  · intro h j hj
    have hj := List.mem_range.1 hj
    rw [get!_eq s j hj]
    exact h j hj
theorem alB_no {p : Int → Bool} {s : ByteArray} {j : Nat} (hj : j < s.size) (h : p s[j].toNat = false) : alB p s = false := by
  cases e : alB p s
  · rfl
  · have := alB_iff.1 e j hj
    rw [h] at this
    exact absurd this (by simp)
def inP (a b c : Int) : Bool := decide (a ≤ c ∧ c ≤ b)
def ltP (c : Int) : Bool := decide (32 < c ∧ c ≤ 126 ∧ c ≠ 39)
def kwL : List ByteArray := [⟨#[108, 97, 110, 103, 117, 97, 103, 101]⟩, ⟨#[116, 111, 107, 101, 110]⟩, ⟨#[115, 107, 105, 112]⟩, ⟨#[108, 101, 102, 116]⟩, ⟨#[114, 105, 103, 104, 116]⟩, ⟨#[110, 111, 110, 101]⟩]
def kwB (s : ByteArray) : Bool := kwL.any fun k => k.toList == s.toList
def ownB (s : ByteArray) : Bool := nmB s && !kwB s
def litB (s : ByteArray) : Bool := decide (1 ≤ s.size) && (decide (s.size ≤ 16) && alB ltP s)
def patB (s : ByteArray) : Bool := decide (s.size ≤ 100) && alB (inP 32 125) s

theorem ne_bytes {a b : ByteArray} (h : ¬ a = b) : (a.toList == b.toList) = false := by
  rw [beq_eq_false_iff_ne]
  intro e
  rw [ByteArray.toList_eq, ByteArray.toList_eq] at e
  exact h (ByteArray.ext (Array.toList_inj.mp e))
theorem decode_big (s : ByteArray) (i : Nat) (h : 128 ≤ (s.get! i).toNat) : 128 ≤ (Utf8.decode s i).1 := by
  unfold Utf8.decode
  simp only [Nat.add_zero]
  rw [if_neg (by omega)]
  repeat' split
  all_goals first | (simp only [Utf8.runeError]; omega) | (rename_i h2; simp only [ge_iff_le, Bool.and_eq_true, decide_eq_true_eq] at h2; omega) | (rename_i h2; simp only [ge_iff_le] at h2; omega)

theorem isPat_any (c : Int) (w : World) : Calls Tryz.prog 102 #[.int .i32 c] w fun e w' => e = .returned (.bool (inP 32 125 c)) ∧ w' = w := by
  by_cases h1 : 32 ≤ c <;> by_cases h2 : c < 126
  all_goals
    go_enter Tryz.func102, Tryz.ntmps102
    go_wp2_with fail
    go_ret
    exact ⟨ret_bool (by simp [inP]; try omega), rfl⟩
theorem isLitS_any (c : Int) (w : World) : Calls Tryz.prog 103 #[.int .i32 c] w fun e w' => e = .returned (.bool (ltP c)) ∧ w' = w := by
  by_cases h1 : 32 < c <;> by_cases h2 : c ≤ 126
  · by_cases h3 : c = 39
    · subst h3
      go_enter Tryz.func103, Tryz.ntmps103
      go_wp2_with fail
      go_ret
      exact ⟨ret_bool (by simp [ltP]), rfl⟩
    · have h4 : (c != 39) = true := by simpa using h3
      go_enter Tryz.func103, Tryz.ntmps103
      go_wp2_with fail
      go_ret
      exact ⟨ret_bool (by simp [ltP]; omega), rfl⟩
  all_goals
    go_enter Tryz.func103, Tryz.ntmps103
    go_wp2_with fail
    go_ret
    exact ⟨ret_bool (by simp [ltP]; try omega), rfl⟩
theorem iter_next (w : World) (s : ByteArray) (pos : Nat) (ty : TypeId) (h : pos < s.size) :
    (Instr.next (.pointer (some ⟨w.heap.size, 0, none⟩)) true ty).run Tryz.prog (w.iter s pos) = .ok (.tuple #[.bool true, .int .i64 pos, .int .i32 (Utf8.decode s pos).1]) (w.iter s (pos + (Utf8.decode s pos).2)) := by
  rw [Lib.run_next_any_at (w.iter s pos) w.heap.size s pos ty (World.iter_heap w s pos) h]
  rw [show (w.iter s pos).iterAt w.heap.size s (pos + (Utf8.decode s pos).2) = w.iter s (pos + (Utf8.decode s pos).2) from World.iter_set w s pos _]
theorem get!_at (s : ByteArray) (j : Nat) (h : j < s.size) : s.get! j = s[j] := get!_eq s j h

/-- Where an iterator stands. -/
def itp (g : Nat) (w : World) : Nat := match w.heap[g]? with
  | some (.stringIter _ p) => p
  | _ => 0
theorem itp_iter (w : World) (s : ByteArray) (j : Nat) : itp w.heap.size (w.iter s j) = j := by
  unfold itp
  rw [World.iter_heap]
set_option maxHeartbeats 1600000 in
theorem span_pat (s : ByteArray) (hs : s.size ≤ maxLen) (w : World) :
    Calls Tryz.prog 101 #[.string s, .func (.func 102) #[] #[]] w fun e w' => (∃ r : Nat, e = .returned (.int .i64 r) ∧ r ≤ s.size ∧ (r = s.size ↔ alB (inP 32 125) s = true)) ∧ Below w.heap.size w w' := by
  unfold maxLen at hs
  have HP := (show Hid _ from fun (c : Int) (w : World) => isPat_any c w)
  go_enter Tryz.func101, Tryz.ntmps101
  go_wp2_with fail
  go_loopw [] (fun wr => ∃ j : Nat, j ≤ s.size ∧ wr = w.iter s j ∧ Hid (∀ i (hi : i < s.size), i < j → (inP 32 125) s[i].toNat = true)) (fun wr => s.size - itp w.heap.size wr)
  case atStart => exact ⟨0, Nat.zero_le _, rfl, fun i hi h0 => absurd h0 (Nat.not_lt_zero _)⟩
  case round =>
    obtain ⟨j, hj, rfl, HJ⟩ := hrel
    by_cases hlt : j < s.size
    · by_cases hb : s[j].toNat < 128
      · have hnx := fun ty => run_next_ascii (P := Tryz.prog) w s j ty hlt hb
        have HC := (show Hid _ from fun w => HP.out (s[j].toNat : Int) w)
        cases hp : (inP 32 125) (s[j].toNat : Int)
        · have HF : Hid (alB (inP 32 125) s = false) := alB_no hlt hp
          rw [hp] at HC
          clear hp
          go_wp2_with fail
          go_at_call 102
          refine Calls.mono (HC.out _) ?_
          rintro e w1 ⟨rfl, rfl⟩
          go_wp2_with fail
          go_ret
          exact ⟨⟨j, rfl, hj, by rw [HF.out]; simp; omega⟩, bel_alloc _ _⟩
        · have HN : Hid (∀ i (hi : i < s.size), i < j + 1 → (inP 32 125) s[i].toNat = true) := fun i hi hij => by
            by_cases e : i = j
            · subst e; exact hp
            · exact HJ.out i hi (by omega)
          rw [hp] at HC
          clear hp
          go_wp2_with fail
          go_at_call 102
          refine Calls.mono (HC.out _) ?_
          rintro e w1 ⟨rfl, rfl⟩
          go_wp2_with fail
          exact ⟨⟨j + 1, by omega, rfl, HN⟩, by rw [itp_iter, itp_iter]; omega⟩
      · have hnx := fun ty => iter_next w s j ty hlt
        have hbig := decode_big s j (by rw [get!_at s j hlt]; omega)
        have hp1 : (inP 32 125) (s[j].toNat : Int) = false := by unfold inP; simp; omega
        have HF : Hid (alB (inP 32 125) s = false) := alB_no hlt hp1
        generalize Utf8.decode s j = D at *
        have hp : (inP 32 125) (D.1 : Int) = false := by unfold inP; simp; omega
        have HC := (show Hid _ from fun w => HP.out (D.1 : Int) w)
        rw [hp] at HC
        clear hp hp1
        go_wp2_with fail
        go_at_call 102
        refine Calls.mono (HC.out _) ?_
        rintro e w1 ⟨rfl, rfl⟩
        go_wp2_with fail
        go_ret
        exact ⟨⟨j, rfl, hj, by rw [HF.out]; simp; omega⟩, bel_alloc _ _⟩
    · have hnx := fun ty => run_next_end (P := Tryz.prog) w s j ty hlt
      have HF : Hid (alB (inP 32 125) s = true) := alB_iff.2 (fun i hi => HJ.out i hi (by omega))
      go_wp2_with fail
      go_ret
      exact ⟨⟨s.size, rfl, Nat.le_refl _, by rw [HF.out]; simp⟩, bel_alloc _ _⟩
set_option maxHeartbeats 1600000 in
theorem span_lit (s : ByteArray) (hs : s.size ≤ maxLen) (w : World) :
    Calls Tryz.prog 101 #[.string s, .func (.func 103) #[] #[]] w fun e w' => (∃ r : Nat, e = .returned (.int .i64 r) ∧ r ≤ s.size ∧ (r = s.size ↔ alB ltP s = true)) ∧ Below w.heap.size w w' := by
  unfold maxLen at hs
  have HP := (show Hid _ from fun (c : Int) (w : World) => isLitS_any c w)
  go_enter Tryz.func101, Tryz.ntmps101
  go_wp2_with fail
  go_loopw [] (fun wr => ∃ j : Nat, j ≤ s.size ∧ wr = w.iter s j ∧ Hid (∀ i (hi : i < s.size), i < j → ltP s[i].toNat = true)) (fun wr => s.size - itp w.heap.size wr)
  case atStart => exact ⟨0, Nat.zero_le _, rfl, fun i hi h0 => absurd h0 (Nat.not_lt_zero _)⟩
  case round =>
    obtain ⟨j, hj, rfl, HJ⟩ := hrel
    by_cases hlt : j < s.size
    · by_cases hb : s[j].toNat < 128
      · have hnx := fun ty => run_next_ascii (P := Tryz.prog) w s j ty hlt hb
        have HC := (show Hid _ from fun w => HP.out (s[j].toNat : Int) w)
        cases hp : ltP (s[j].toNat : Int)
        · have HF : Hid (alB ltP s = false) := alB_no hlt hp
          rw [hp] at HC
          clear hp
          go_wp2_with fail
          go_at_call 103
          refine Calls.mono (HC.out _) ?_
          rintro e w1 ⟨rfl, rfl⟩
          go_wp2_with fail
          go_ret
          exact ⟨⟨j, rfl, hj, by rw [HF.out]; simp; omega⟩, bel_alloc _ _⟩
        · have HN : Hid (∀ i (hi : i < s.size), i < j + 1 → ltP s[i].toNat = true) := fun i hi hij => by
            by_cases e : i = j
            · subst e; exact hp
            · exact HJ.out i hi (by omega)
          rw [hp] at HC
          clear hp
          go_wp2_with fail
          go_at_call 103
          refine Calls.mono (HC.out _) ?_
          rintro e w1 ⟨rfl, rfl⟩
          go_wp2_with fail
          exact ⟨⟨j + 1, by omega, rfl, HN⟩, by rw [itp_iter, itp_iter]; omega⟩
      · have hnx := fun ty => iter_next w s j ty hlt
        have hbig := decode_big s j (by rw [get!_at s j hlt]; omega)
        have hp1 : ltP (s[j].toNat : Int) = false := by unfold ltP; simp; omega
        have HF : Hid (alB ltP s = false) := alB_no hlt hp1
        generalize Utf8.decode s j = D at *
        have hp : ltP (D.1 : Int) = false := by unfold ltP; simp; omega
        have HC := (show Hid _ from fun w => HP.out (D.1 : Int) w)
        rw [hp] at HC
        clear hp hp1
        go_wp2_with fail
        go_at_call 103
        refine Calls.mono (HC.out _) ?_
        rintro e w1 ⟨rfl, rfl⟩
        go_wp2_with fail
        go_ret
        exact ⟨⟨j, rfl, hj, by rw [HF.out]; simp; omega⟩, bel_alloc _ _⟩
    · have hnx := fun ty => run_next_end (P := Tryz.prog) w s j ty hlt
      have HF : Hid (alB ltP s = true) := alB_iff.2 (fun i hi => HJ.out i hi (by omega))
      go_wp2_with fail
      go_ret
      exact ⟨⟨s.size, rfl, Nat.le_refl _, by rw [HF.out]; simp⟩, bel_alloc _ _⟩
end Go.Proofs.YtgjnlhidbjpdkajGreat
