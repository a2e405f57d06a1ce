import Derived.Test.YtledclkmeikgdaaXNm
import Derived.Test.YtledclkmeikgdaaXBase
import Derived.Laws.RangeString
import Derived.Lib.OthersKept
/-! Terms: what is one. -/
namespace Go.Proofs.Ytledclkmeikgdaa.T
open Go.RowKit Go.Deep
set_option linter.unusedVariables false
set_option maxRecDepth 100000
set_option linter.unusedSimpArgs false

/-- Each byte fits. -/
def AllP (p : Int → Bool) (s : ByteArray) : Prop := ∀ j (hj : j < s.size), p s[j].toNat = true
def alB (p : Int → Bool) (s : ByteArray) : Bool := (List.range s.size).all fun j => p (s.get! j).toNat
theorem getB_eq (s : ByteArray) (j : Nat) (h : j < s.size) : s.get! j = s[j] := by
  simp [ByteArray.get!, getElem!_pos, h]
  rfl
theorem alB_iff {p : Int → Bool} {s : ByteArray} : alB p s = true ↔ AllP p s := by
  unfold alB AllP
  rw [List.all_eq_true]
  constructor
  · intro h j hj
    have := h j (List.mem_range.2 hj)
    rw [getB_eq s j hj] at this
    exact this
  · intro h j hj
    have hj := List.mem_range.1 hj
    rw [getB_eq s j hj]
    exact h j hj
theorem alB_no {p : Int → Bool} {s : ByteArray} {j : Nat} (hj : j < s.size) (h : p s[j].toNat = false) : alB p s = false := by
  cases e : alB p s
  · rfl
  · have := alB_iff.1 e j hj
    rw [h] at this
    exact absurd this (by simp)
/-- A number without a needless 0. -/
def numB (x : ByteArray) : Bool := decide (1 ≤ x.size) && (decide (x.size ≤ 9) && ((decide (x.size ≤ 1) || !decide ((x.get! 0).toNat = 48)) && alB digB x))
/-- The names of terms. -/
def isL (n : ByteArray) (l : List UInt8) : Bool := n.toList == l
def cId : List UInt8 := [73, 100]
def cNum : List UInt8 := [78, 117, 109]
def cYes : List UInt8 := [89, 101, 115]
def cNo : List UInt8 := [78, 111]
def cLam : List UInt8 := [76, 97, 109]
def cApp : List UInt8 := [65, 112, 112]
def cLet : List UInt8 := [76, 101, 116]
def cIf : List UInt8 := [73, 102]
def cAdd : List UInt8 := [65, 100, 100]
def cEq : List UInt8 := [69, 113]
/-- A leaf. -/
def tmL (n x : ByteArray) : Bool :=
  if n.toList == cId then nmB x else if n.toList == cNum then numB x else if n.toList == cYes then x.toList.isEmpty else if n.toList == cNo then x.toList.isEmpty else false
/-- How many Kids; whether the first is declared. -/
def kdN (n : ByteArray) : Option (Nat × Bool) :=
  if n.toList == cLam then some (2, true) else if n.toList == cLet then some (3, true) else if n.toList == cIf then some (3, false) else if n.toList == cApp then some (2, false) else if n.toList == cAdd then some (2, false) else if n.toList == cEq then some (2, false) else none
def idT (t : Tr) : Bool := t.leaf && t.name.toList == cId
def id0 (k : List Tr) : Bool := (k.head?.map idT).getD false
def nodB (n : ByteArray) (k : List Tr) (ks : List Bool) : Bool := match kdN n with
  | none => false
  | some (m, d) => decide (k.length = m) && (ks.all id && (!d || id0 k))
/-- A term's form: of a tree with what was found of its Kids. -/
def tmF : Tr → Bool × Bool := Tr.fold fun n x l ks => (if l then tmL n x else match kdN n with
  | none => false
  | some (m, d) => decide (ks.length = m) && ((ks.map Prod.fst).all id && (!d || (ks.head?.map Prod.snd).getD false)), l && n.toList == cId)
def tm (t : Tr) : Bool := (tmF t).1
theorem tmF_mk (n x : ByteArray) (l : Bool) (k : List Tr) : tmF ⟨n, x, l, k⟩ = (if l then tmL n x else match kdN n with
  | none => false
  | some (m, d) => decide ((k.map tmF).length = m) && (((k.map tmF).map Prod.fst).all id && (!d || ((k.map tmF).head?.map Prod.snd).getD false)), l && n.toList == cId) := by
  unfold tmF; rw [Tr.fold_mk]
theorem tmF_snd (t : Tr) : (tmF t).2 = idT t := by
  obtain ⟨n, x, l, k⟩ := t
  rw [tmF_mk]
  rfl
theorem tm_mk (n x : ByteArray) (l : Bool) (k : List Tr) : tm ⟨n, x, l, k⟩ = if l then tmL n x else match kdN n with
  | none => false
  | some (m, d) => decide (k.length = m) && (k.all tm && (!d || id0 k)) := by
  show (tmF ⟨n, x, l, k⟩).1 = _
  rw [tmF_mk]
  have h1 : ((k.map tmF).map Prod.fst).all id = k.all tm := by
    rw [List.map_map, List.all_map]; rfl
  have h2 : ((k.map tmF).head?.map Prod.snd).getD false = id0 k := by
    cases k with
    | nil => rfl
    | cons t k => simp [id0, tmF_snd]
  rw [h1, h2, List.length_map]
/-- A Kid that is declared: looked at by itself. -/
theorem tm_id {t : Tr} (h : idT t = true) : tm t = nmB t.text := by
  obtain ⟨n, x, l, k⟩ := t
  simp only [idT, Bool.and_eq_true] at h
  obtain ⟨h1, h2⟩ := h
  rw [tm_mk, h1]
  simp only [if_true]
  unfold tmL
  rw [h2]
  rfl
theorem tm_dec {k : List Tr} {n : ByteArray} (hk : 0 < k.length) :
    (k.all tm && id0 k) = ((idT k[0] && nmB k[0].text) && (k.drop 1).all tm) := by
  cases k with
  | nil => simp at hk
  | cons t k =>
    simp only [List.all_cons, id0, List.head?_cons, Option.map_some, Option.getD_some, List.getElem_cons_zero, List.drop_succ_cons, List.drop_zero]
    cases h : idT t
    · simp
    · rw [tm_id h]
      cases nmB t.text <;> cases k.all tm <;> rfl
end Go.Proofs.Ytledclkmeikgdaa.T

/-! Numbers as texts: the specification's and the program's. -/
namespace Go.Proofs.Ytledclkmeikgdaa.T
open Go.RowKit Go.Deep
set_option linter.unusedVariables false
set_option maxRecDepth 100000
set_option linter.unusedSimpArgs false

def btB (x a b : Int) : Bool := decide (a ≤ x) && decide (x ≤ b)
theorem between38 (x a b : Int) (w : World) : Calls Try.prog 34 #[.int .i64 x, .int .i64 a, .int .i64 b] w fun e w' => e = .returned (.bool (btB x a b)) ∧ w' = w := by
  by_cases h1 : a ≤ x <;> by_cases h2 : x ≤ b
  all_goals
    go_enter Try.func34, Try.ntmps34
    go_wp2_with fail
    go_ret
    exact ⟨ret_bool (by simp [btB, h1, h2]), rfl⟩
theorem bytes112 (s : ByteArray) (hs : s.size ≤ maxLen) (w : World) : Calls Try.prog 123 #[.string s, .int .u8 48, .int .u8 57] w fun e w' => e = .returned (.bool (alB digB s)) ∧ w' = w := by
  unfold maxLen at hs
  go_enter Try.func123, Try.ntmps123
  go_wp2_with fail
  go_loopw [7] (fun i wr => ∃ j : Nat, i = .int .i64 j ∧ j ≤ s.size ∧ Hid (∀ i (hi : i < s.size), i < j → digB s[i].toNat = true) ∧ wr = w) (fun i _ => s.size - (intOf i).toNat)
  case atStart => exact ⟨0, rfl, Nat.zero_le _, fun i hi h0 => absurd h0 (Nat.not_lt_zero _), rfl⟩
  case round =>
    obtain ⟨j, rfl, hj, HJ, rfl⟩ := hrel
    by_cases hlt : j < s.size
    · by_cases h1 : (s[j].toNat : Int) < 48
      · have HF : Hid (alB digB s = false) := alB_no hlt (by simp [digB]; omega)
        go_wp2_with fail
        go_ret
        exact ⟨by rw [HF.out]; rfl, rfl⟩
      · by_cases h2 : 57 < (s[j].toNat : Int)
        · have HF : Hid (alB digB s = false) := alB_no hlt (by simp [digB]; omega)
          go_wp2_with fail
          go_ret
          exact ⟨by rw [HF.out]; rfl, rfl⟩
        · have HN : Hid (∀ i (hi : i < s.size), i < j + 1 → digB s[i].toNat = true) := fun i hi hij => by
            by_cases e : i = j
            · subst e; simp [digB]; omega
            · exact HJ.out i hi (by omega)
          go_wp2_with fail
          exact ⟨⟨j + 1, by go_num, by omega, HN, trivial⟩, by simp [intOf]; omega⟩
    · have HF : Hid (alB digB s = true) := alB_iff.2 (fun i hi => HJ.out i hi (by omega))
      go_wp2_with fail
      go_ret
      exact ⟨by rw [HF.out]; rfl, rfl⟩
theorem numB_no {s : ByteArray} (h : ¬ (1 ≤ s.size ∧ s.size ≤ 9)) : numB s = false := by
  unfold numB
  by_cases h1 : 1 ≤ s.size
  · rw [decide_eq_false (p := s.size ≤ 9) (by omega)]; simp
  · rw [decide_eq_false h1]; rfl
theorem numB_zero {s : ByteArray} (h : 1 < s.size) (h0 : (s[0].toNat : Int) = 48) : numB s = false := by
  unfold numB
  rw [getB_eq s 0 (by omega), decide_eq_false (p := s.size ≤ 1) (by omega), decide_eq_true (p := s[0].toNat = 48) (by omega)]
  simp
theorem numB_one {s : ByteArray} (h : s.size = 1) : numB s = alB digB s := by
  unfold numB
  rw [decide_eq_true (p := 1 ≤ s.size) (by omega), decide_eq_true (p := s.size ≤ 9) (by omega), decide_eq_true (p := s.size ≤ 1) (by omega)]
  simp
theorem numB_some {s : ByteArray} (h1 : 1 ≤ s.size) (h9 : s.size ≤ 9) (h0 : ¬ (s[0].toNat : Int) = 48) : numB s = alB digB s := by
  unfold numB
  rw [getB_eq s 0 (by omega), decide_eq_true h1, decide_eq_true h9, decide_eq_false (p := s[0].toNat = 48) (by omega)]
  simp
set_option maxHeartbeats 800000 in
theorem num98 (s : ByteArray) (hs : s.size ≤ maxLen) (w : World) : Calls Try.prog 112 #[.string s] w fun e w' => e = .returned (.bool (numB s)) ∧ w' = w := by
  have HB := (show Hid _ from fun w' => bytes112 s hs w')
  unfold maxLen at hs
  have HT := (show Hid _ from fun w' => between38 (s.size : Int) 1 9 w')
  by_cases h1 : 1 ≤ s.size ∧ s.size ≤ 9
  case neg =>
    rw [numB_no h1]
    rw [show btB (s.size : Int) 1 9 = false from by
      unfold btB
      by_cases h : 1 ≤ s.size
      · rw [decide_eq_false (p := (s.size : Int) ≤ 9) (by omega)]; simp
      · rw [decide_eq_false (p := (1 : Int) ≤ s.size) (by omega)]; rfl] at HT
    clear h1
    go_enter Try.func112, Try.ntmps112
    go_wp2_with fail
    refine Calls.mono (HT.out _) ?_
    rintro e w' ⟨rfl, rfl⟩
    go_wp2_with fail
    go_ret
    exact ⟨rfl, rfl⟩
  obtain ⟨h1, h9⟩ := h1
  rw [show btB (s.size : Int) 1 9 = true from by
    unfold btB
    rw [decide_eq_true (p := (1 : Int) ≤ s.size) (by omega), decide_eq_true (p := (s.size : Int) ≤ 9) (by omega)]; rfl] at HT
  have hp : 0 < s.size := by omega
  by_cases h2 : 1 < s.size
  · by_cases h0 : (s[0].toNat : Int) = 48
    · have HR := (show Hid _ from numB_zero h2 h0)
      have hq : ((s[0].toNat : Int) == 48) = true := by simpa using h0
      clear h0
      go_enter Try.func112, Try.ntmps112
      go_wp2_with fail
      refine Calls.mono (HT.out _) ?_
      rintro e w' ⟨rfl, rfl⟩
      go_wp2_with fail
      go_ret
      exact ⟨ret_bool HR.out.symm, rfl⟩
    · have HR := (show Hid _ from numB_some h1 h9 h0)
      have hq : ((s[0].toNat : Int) == 48) = false := by simpa using h0
      clear h0
      go_enter Try.func112, Try.ntmps112
      go_wp2_with fail
      refine Calls.mono (HT.out _) ?_
      rintro e w' ⟨rfl, rfl⟩
      go_wp2_with fail
      refine Calls.mono (HB.out _) ?_
      rintro e w' ⟨rfl, rfl⟩
      go_wp2_with fail
      go_ret
      exact ⟨ret_bool HR.out.symm, rfl⟩
  · have HR := (show Hid _ from numB_one (s := s) (by omega))
    go_enter Try.func112, Try.ntmps112
    go_wp2_with fail
    refine Calls.mono (HT.out _) ?_
    rintro e w' ⟨rfl, rfl⟩
    go_wp2_with fail
    refine Calls.mono (HB.out _) ?_
    rintro e w' ⟨rfl, rfl⟩
    go_wp2_with fail
    go_ret
    exact ⟨ret_bool HR.out.symm, rfl⟩
theorem decode_big (s : ByteArray) (i : Nat) (h : 128 ≤ (s.get! i).toNat) : 128 ≤ (Utf8.decode s i).1 := by
  unfold Utf8.decode
  simp only [Nat.add_zero]
  rw [if_neg (by omega)]
  repeat' split
  all_goals first | (simp only [Utf8.runeError]; omega) | (rename_i h2; simp only [ge_iff_le, Bool.and_eq_true, decide_eq_true_eq] at h2; omega) | (rename_i h2; simp only [ge_iff_le] at h2; omega)
theorem dig121 (c : Int) (w : World) : Calls Try.prog 127 #[.int .i32 c] w fun e w' => e = .returned (.bool (digB c)) ∧ w' = w := by
  by_cases h1 : 48 ≤ c <;> by_cases h2 : c ≤ 57 <;> first | (exfalso; omega) | skip
  all_goals
    go_enter Try.func127, Try.ntmps127
    go_wp2_with fail
    go_ret
    exact ⟨ret_bool (by simp [digB]; try omega), rfl⟩
theorem iter_next (w : World) (s : ByteArray) (pos : Nat) (ty : TypeId) (h : pos < s.size) :
    (Instr.next (.pointer (some ⟨w.heap.size, 0, none⟩)) true ty).run Try.prog (w.iter s pos) = .ok (.tuple #[.bool true, .int .i64 pos, .int .i32 (Utf8.decode s pos).1]) (w.iter s (pos + (Utf8.decode s pos).2)) := by
  rw [Lib.run_next_any_at (w.iter s pos) w.heap.size s pos ty (World.iter_heap w s pos) h]
  rw [show (w.iter s pos).iterAt w.heap.size s (pos + (Utf8.decode s pos).2) = w.iter s (pos + (Utf8.decode s pos).2) from World.iter_set w s pos _]
/-- Where an iterator stands. -/
def itp (g : Nat) (w : World) : Nat := match w.heap[g]? with
  | some (.stringIter _ p) => p
  | _ => 0
theorem itp_iter (w : World) (s : ByteArray) (j : Nat) : itp w.heap.size (w.iter s j) = j := by
  unfold itp
  rw [World.iter_heap]
set_option maxHeartbeats 1600000 in
theorem span120 (s : ByteArray) (hs : s.size ≤ maxLen) (w : World) :
    Calls Try.prog 126 #[.string s, .func (.func 127) #[] #[]] w fun e w' => (∃ r : Nat, e = .returned (.int .i64 r) ∧ r ≤ s.size ∧ (r = s.size ↔ alB digB s = true)) ∧ Below w.heap.size w w' := by
  unfold maxLen at hs
  have HP := (show Hid _ from fun (c : Int) (w : World) => dig121 c w)
  go_enter Try.func126, Try.ntmps126
  go_wp2_with fail
  go_loopw [] (fun wr => ∃ j : Nat, j ≤ s.size ∧ wr = w.iter s j ∧ Hid (∀ i (hi : i < s.size), i < j → digB s[i].toNat = true)) (fun wr => s.size - itp w.heap.size wr)
  case atStart => exact ⟨0, Nat.zero_le _, rfl, fun i hi h0 => absurd h0 (Nat.not_lt_zero _)⟩
  case round =>
    obtain ⟨j, hj, rfl, HJ⟩ := hrel
    by_cases hlt : j < s.size
    · by_cases hb : s[j].toNat < 128
      · have hnx := fun ty => run_next_ascii (P := Try.prog) w s j ty hlt hb
        have HC := (show Hid _ from fun w => HP.out (s[j].toNat : Int) w)
        cases hp : digB (s[j].toNat : Int)
        · have HF : Hid (alB digB s = false) := alB_no hlt hp
          rw [hp] at HC
          clear hp
          go_wp2_with fail
          go_at_call 127
          refine Calls.mono (HC.out _) ?_
          rintro e w1 ⟨rfl, rfl⟩
          go_wp2_with fail
          go_ret
          exact ⟨⟨j, rfl, hj, by rw [HF.out]; simp; omega⟩, bel_alloc _ _⟩
        · have HN : Hid (∀ i (hi : i < s.size), i < j + 1 → digB s[i].toNat = true) := fun i hi hij => by
            by_cases e : i = j
            · subst e; exact hp
            · exact HJ.out i hi (by omega)
          rw [hp] at HC
          clear hp
          go_wp2_with fail
          go_at_call 127
          refine Calls.mono (HC.out _) ?_
          rintro e w1 ⟨rfl, rfl⟩
          go_wp2_with fail
          exact ⟨⟨j + 1, by omega, rfl, HN⟩, by rw [itp_iter, itp_iter]; omega⟩
      · have hnx := fun ty => iter_next w s j ty hlt
        have hbig := decode_big s j (by rw [getB_eq s j hlt]; omega)
        have hp1 : digB (s[j].toNat : Int) = false := by unfold digB; simp; omega
        have HF : Hid (alB digB s = false) := alB_no hlt hp1
        generalize Utf8.decode s j = D at *
        have hp : digB (D.1 : Int) = false := by unfold digB; simp; omega
        have HC := (show Hid _ from fun w => HP.out (D.1 : Int) w)
        rw [hp] at HC
        clear hp hp1
        go_wp2_with fail
        go_at_call 127
        refine Calls.mono (HC.out _) ?_
        rintro e w1 ⟨rfl, rfl⟩
        go_wp2_with fail
        go_ret
        exact ⟨⟨j, rfl, hj, by rw [HF.out]; simp; omega⟩, bel_alloc _ _⟩
    · have hnx := fun ty => run_next_end (P := Try.prog) w s j ty hlt
      have HF : Hid (alB digB s = true) := alB_iff.2 (fun i hi => HJ.out i hi (by omega))
      go_wp2_with fail
      go_ret
      exact ⟨⟨s.size, rfl, Nat.le_refl _, by rw [HF.out]; simp⟩, bel_alloc _ _⟩
set_option maxHeartbeats 800000 in
theorem num116 (s : ByteArray) (hs : s.size ≤ maxLen) (w : World) : Calls Try.prog 124 #[.string s, .int .i64 9] w fun e w' => e = .returned (.bool (numB s)) ∧ Below w.heap.size w w' := by
  have HB := (show Hid _ from fun w' => span120 s hs w')
  unfold maxLen at hs
  by_cases h1 : s.size < 1
  · rw [numB_no (by omega)]
    go_enter Try.func124, Try.ntmps124
    go_wp2_with fail
    go_ret
    exact ⟨rfl, Below.refl _ _⟩
  by_cases h9 : 9 < s.size
  · rw [numB_no (by omega)]
    go_enter Try.func124, Try.ntmps124
    go_wp2_with fail
    go_ret
    exact ⟨rfl, Below.refl _ _⟩
  have hp : 0 < s.size := by omega
  go_enter Try.func124, Try.ntmps124
  go_wp2_with fail
  refine Calls.mono (HB.out _) ?_
  rintro e w1 ⟨⟨r, rfl, hr, hrk⟩, hb1⟩
  have HW := (show Hid _ from hb1); clear hb1
  have HK := (show Hid _ from hrk); clear hrk
  by_cases hrl : r < s.size
  · have HF := (show Hid (alB digB s = false) from by
      show alB digB s = false
      cases e : alB digB s
      · rfl
      · have := HK.out.2 e; omega)
    have HR := (show Hid (numB s = false) from by
      show numB s = false
      by_cases h0 : (s[0].toNat : Int) = 48
      · by_cases h2 : 1 < s.size
        · exact numB_zero h2 h0
        · rw [numB_one (by omega)]; exact HF.out
      · rw [numB_some (by omega) (by omega) h0]; exact HF.out)
    go_wp2_with fail
    go_ret
    exact ⟨ret_bool HR.out.symm, HW.out⟩
  · have HF := (show Hid (alB digB s = true) from HK.out.1 (by omega))
    by_cases h0 : (s[0].toNat : Int) = 48
    · have hq : ((s[0].toNat : Int) != 48) = false := by simpa using h0
      by_cases h2 : s.size = 1
      · have HR := (show Hid (numB s = true) from (numB_one h2).trans HF.out)
        have h3 : ((s.size : Int) == 1) = true := by simp; omega
        clear h0
        go_wp2_with fail
        go_ret
        exact ⟨ret_bool HR.out.symm, HW.out⟩
      · have HR := (show Hid (numB s = false) from numB_zero (by omega) h0)
        have h3 : ((s.size : Int) == 1) = false := by simp; omega
        clear h0
        go_wp2_with fail
        go_ret
        exact ⟨ret_bool HR.out.symm, HW.out⟩
    · have hq : ((s[0].toNat : Int) != 48) = true := by simpa using h0
      have HR := (show Hid (numB s = true) from (numB_some (by omega) (by omega) h0).trans HF.out)
      clear h0
      go_wp2_with fail
      go_ret
      exact ⟨ret_bool HR.out.symm, HW.out⟩
end Go.Proofs.Ytledclkmeikgdaa.T
