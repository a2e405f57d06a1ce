import Derived.Test.YtanbdfeoijflaaaDoorMa
import Derived.Laws.RangeString
import Derived.Lib.OthersKept
/-! Reading a program: the program's numbers. -/
namespace Go.Proofs.YtanbdfeoijflaaaDoor
open Go.RowKit Go.Deep
set_option linter.unusedVariables false
set_option maxRecDepth 100000
set_option linter.unusedSimpArgs false

def digB (c : Int) : Bool := decide (48 ≤ c ∧ c ≤ 57)
def AllP (p : Int → Bool) (s : ByteArray) : Prop := ∀ j (hj : j < s.size), p s[j].toNat = true
def alB (p : Int → Bool) (s : ByteArray) : Bool := (List.range s.size).all fun j => p (s.get! j).toNat
theorem getB_eq (s : ByteArray) (j : Nat) (h : j < s.size) : s.get! j = s[j] := by
  simp [ByteArray.get!, getElem!_pos, h]
  rfl
theorem alB_iff {p : Int → Bool} {s : ByteArray} : alB p s = true ↔ AllP p s := by
  unfold alB AllP
  rw [List.all_eq_true]
  constructor
  · intro h j hj
    have := h j (List.mem_range.2 hj)
    rw [getB_eq s j hj] at this
    exact this
  · intro h j hj
    have hj := List.mem_range.1 hj
    rw [getB_eq s j hj]
    exact h j hj
theorem alB_no {p : Int → Bool} {s : ByteArray} {j : Nat} (hj : j < s.size) (h : p s[j].toNat = false) : alB p s = false := by
  cases e : alB p s
  · rfl
  · have := alB_iff.1 e j hj
    rw [h] at this
    exact absurd this (by simp)
/-- A number without a needless 0. -/
def numB (x : ByteArray) : Bool := decide (1 ≤ x.size) && (decide (x.size ≤ 6) && ((decide (x.size ≤ 1) || !decide ((x.get! 0).toNat = 48)) && alB digB x))
theorem numB_no {s : ByteArray} (h : ¬ (1 ≤ s.size ∧ s.size ≤ 6)) : numB s = false := by
  unfold numB
  by_cases h1 : 1 ≤ s.size
  · rw [decide_eq_false (p := s.size ≤ 6) (by omega)]; simp
  · rw [decide_eq_false h1]; rfl
theorem numB_zero {s : ByteArray} (h : 1 < s.size) (h0 : (s[0].toNat : Int) = 48) : numB s = false := by
  unfold numB
  rw [getB_eq s 0 (by omega), decide_eq_false (p := s.size ≤ 1) (by omega), decide_eq_true (p := s[0].toNat = 48) (by omega)]
  simp
theorem numB_one {s : ByteArray} (h : s.size = 1) : numB s = alB digB s := by
  unfold numB
  rw [decide_eq_true (p := 1 ≤ s.size) (by omega), decide_eq_true (p := s.size ≤ 6) (by omega), decide_eq_true (p := s.size ≤ 1) (by omega)]
  simp
theorem numB_some {s : ByteArray} (h1 : 1 ≤ s.size) (h9 : s.size ≤ 6) (h0 : ¬ (s[0].toNat : Int) = 48) : numB s = alB digB s := by
  unfold numB
  rw [getB_eq s 0 (by omega), decide_eq_true h1, decide_eq_true h9, decide_eq_false (p := s[0].toNat = 48) (by omega)]
  simp
theorem decode_big (s : ByteArray) (i : Nat) (h : 128 ≤ (s.get! i).toNat) : 128 ≤ (Utf8.decode s i).1 := by
  unfold Utf8.decode
  simp only [Nat.add_zero]
  rw [if_neg (by omega)]
  repeat' split
  all_goals first | (simp only [Utf8.runeError]; omega) | (rename_i h2; simp only [ge_iff_le, Bool.and_eq_true, decide_eq_true_eq] at h2; omega) | (rename_i h2; simp only [ge_iff_le] at h2; omega)
theorem dig72 (c : Int) (w : World) : Calls Tryd.prog 72 #[.int .i32 c] w fun e w' => e = .returned (.bool (digB c)) ∧ w' = w := by
  by_cases h1 : 48 ≤ c <;> by_cases h2 : c ≤ 57 <;> first | (exfalso; omega) | skip
  all_goals
    go_enter Tryd.func72, Tryd.ntmps72
    go_wp2_with fail
    go_ret
    exact ⟨ret_bool (by simp [digB]; try omega), rfl⟩
theorem iter_next (w : World) (s : ByteArray) (pos : Nat) (ty : TypeId) (h : pos < s.size) :
    (Instr.next (.pointer (some ⟨w.heap.size, 0, none⟩)) true ty).run Tryd.prog (w.iter s pos) = .ok (.tuple #[.bool true, .int .i64 pos, .int .i32 (Utf8.decode s pos).1]) (w.iter s (pos + (Utf8.decode s pos).2)) := by
  rw [Lib.run_next_any_at (w.iter s pos) w.heap.size s pos ty (World.iter_heap w s pos) h]
  rw [show (w.iter s pos).iterAt w.heap.size s (pos + (Utf8.decode s pos).2) = w.iter s (pos + (Utf8.decode s pos).2) from World.iter_set w s pos _]
/-- Where an iterator stands. -/
def itp (g : Nat) (w : World) : Nat := match w.heap[g]? with
  | some (.stringIter _ p) => p
  | _ => 0
theorem itp_iter (w : World) (s : ByteArray) (j : Nat) : itp w.heap.size (w.iter s j) = j := by
  unfold itp
  rw [World.iter_heap]
set_option maxHeartbeats 1600000 in
theorem span71 (s : ByteArray) (hs : s.size ≤ maxLen) (w : World) :
    Calls Tryd.prog 71 #[.string s, .func (.func 72) #[] #[]] w fun e w' => (∃ r : Nat, e = .returned (.int .i64 r) ∧ r ≤ s.size ∧ (r = s.size ↔ alB digB s = true)) ∧ Below w.heap.size w w' := by
  unfold maxLen at hs
  have HP := (show Hid _ from fun (c : Int) (w : World) => dig72 c w)
  go_enter Tryd.func71, Tryd.ntmps71
  go_wp2_with fail
  go_loopw [] (fun wr => ∃ j : Nat, j ≤ s.size ∧ wr = w.iter s j ∧ Hid (∀ i (hi : i < s.size), i < j → digB s[i].toNat = true)) (fun wr => s.size - itp w.heap.size wr)
  case atStart => exact ⟨0, Nat.zero_le _, rfl, fun i hi h0 => absurd h0 (Nat.not_lt_zero _)⟩
  case round =>
    obtain ⟨j, hj, rfl, HJ⟩ := hrel
    by_cases hlt : j < s.size
    · by_cases hb : s[j].toNat < 128
      · have hnx := fun ty => run_next_ascii (P := Tryd.prog) w s j ty hlt hb
        have HC := (show Hid _ from fun w => HP.out (s[j].toNat : Int) w)
        cases hp : digB (s[j].toNat : Int)
        · have HF : Hid (alB digB s = false) := alB_no hlt hp
          rw [hp] at HC
          clear hp
          go_wp2_with fail
          go_at_call 72
          refine Calls.mono (HC.out _) ?_
          rintro e w1 ⟨rfl, rfl⟩
          go_wp2_with fail
          go_ret
          exact ⟨⟨j, rfl, hj, by rw [HF.out]; simp; omega⟩, bel_alloc _ _⟩
        · have HN : Hid (∀ i (hi : i < s.size), i < j + 1 → digB s[i].toNat = true) := fun i hi hij => by
            by_cases e : i = j
            · subst e; exact hp
            · exact HJ.out i hi (by omega)
          rw [hp] at HC
          clear hp
          go_wp2_with fail
          go_at_call 72
          refine Calls.mono (HC.out _) ?_
          rintro e w1 ⟨rfl, rfl⟩
          go_wp2_with fail
          exact ⟨⟨j + 1, by omega, rfl, HN⟩, by rw [itp_iter, itp_iter]; omega⟩
      · have hnx := fun ty => iter_next w s j ty hlt
        have hbig := decode_big s j (by rw [getB_eq s j hlt]; omega)
        have hp1 : digB (s[j].toNat : Int) = false := by unfold digB; simp; omega
        have HF : Hid (alB digB s = false) := alB_no hlt hp1
        generalize Utf8.decode s j = D at *
        have hp : digB (D.1 : Int) = false := by unfold digB; simp; omega
        have HC := (show Hid _ from fun w => HP.out (D.1 : Int) w)
        rw [hp] at HC
        clear hp hp1
        go_wp2_with fail
        go_at_call 72
        refine Calls.mono (HC.out _) ?_
        rintro e w1 ⟨rfl, rfl⟩
        go_wp2_with fail
        go_ret
        exact ⟨⟨j, rfl, hj, by rw [HF.out]; simp; omega⟩, bel_alloc _ _⟩
    · have hnx := fun ty => run_next_end (P := Tryd.prog) w s j ty hlt
      have HF : Hid (alB digB s = true) := alB_iff.2 (fun i hi => HJ.out i hi (by omega))
      go_wp2_with fail
      go_ret
      exact ⟨⟨s.size, rfl, Nat.le_refl _, by rw [HF.out]; simp⟩, bel_alloc _ _⟩
set_option maxHeartbeats 800000 in
theorem num60 (s : ByteArray) (hs : s.size ≤ maxLen) (w : World) : Calls Tryd.prog 60 #[.string s, .int .i64 6] w fun e w' => e = .returned (.bool (numB s)) ∧ Below w.heap.size w w' := by
  have HB := (show Hid _ from fun w' => span71 s hs w')
  unfold maxLen at hs
  by_cases h1 : s.size < 1
  · rw [numB_no (by omega)]
    go_enter Tryd.func60, Tryd.ntmps60
    go_wp2_with fail
    go_ret
    exact ⟨rfl, Below.refl _ _⟩
  by_cases h9 : 6 < s.size
  · rw [numB_no (by omega)]
    go_enter Tryd.func60, Tryd.ntmps60
    go_wp2_with fail
    go_ret
    exact ⟨rfl, Below.refl _ _⟩
  have hp : 0 < s.size := by omega
  go_enter Tryd.func60, Tryd.ntmps60
  go_wp2_with fail
  refine Calls.mono (HB.out _) ?_
  rintro e w1 ⟨⟨r, rfl, hr, hrk⟩, hb1⟩
  have HW := (show Hid _ from hb1); clear hb1
  have HK := (show Hid _ from hrk); clear hrk
  by_cases hrl : r < s.size
  · have HF := (show Hid (alB digB s = false) from by
      show alB digB s = false
      cases e : alB digB s
      · rfl
      · have := HK.out.2 e; omega)
    have HR := (show Hid (numB s = false) from by
      show numB s = false
      by_cases h0 : (s[0].toNat : Int) = 48
      · by_cases h2 : 1 < s.size
        · exact numB_zero h2 h0
        · rw [numB_one (by omega)]; exact HF.out
      · rw [numB_some (by omega) (by omega) h0]; exact HF.out)
    go_wp2_with fail
    go_ret
    exact ⟨ret_bool HR.out.symm, HW.out⟩
  · have HF := (show Hid (alB digB s = true) from HK.out.1 (by omega))
    by_cases h0 : (s[0].toNat : Int) = 48
    · have hq : ((s[0].toNat : Int) != 48) = false := by simpa using h0
      by_cases h2 : s.size = 1
      · have HR := (show Hid (numB s = true) from (numB_one h2).trans HF.out)
        have h3 : ((s.size : Int) == 1) = true := by simp; omega
        clear h0
        go_wp2_with fail
        go_ret
        exact ⟨ret_bool HR.out.symm, HW.out⟩
      · have HR := (show Hid (numB s = false) from numB_zero (by omega) h0)
        have h3 : ((s.size : Int) == 1) = false := by simp; omega
        clear h0
        go_wp2_with fail
        go_ret
        exact ⟨ret_bool HR.out.symm, HW.out⟩
    · have hq : ((s[0].toNat : Int) != 48) = true := by simpa using h0
      have HR := (show Hid (numB s = true) from (numB_some (by omega) (by omega) h0).trans HF.out)
      clear h0
      go_wp2_with fail
      go_ret
      exact ⟨ret_bool HR.out.symm, HW.out⟩

end Go.Proofs.YtanbdfeoijflaaaDoor
