import Derived.Test.YtkkhdkfmaopmfaaKn
import Derived.Laws.RangeString
import Derived.Lib.OthersKept
/-! The program's reader of plans: sees, fault, pass, blanks, sign. -/
namespace Go.Proofs.Ytkkhdkfmaopmfaa
open Go.RowKit Go.Deep Go.Lib Go.ChangeShapes Go.WideShapes
set_option linter.unusedVariables false
set_option maxRecDepth 100000
set_option linter.unusedSimpArgs false

/-- What the program's reader panics with. -/
abbrev flt (k : Nat) : PanicEntry := { v := .iface 133 (.agg #[.int .i64 2, .int .i64 (k : Int)]), recovered := false }
/-- The program's reader, and where it stands. -/
abbrev PB (w : World) (p : Nat) (s : ByteArray) (i : Nat) (rv : Value) : Prop := Box w p 139 [.string s, .int .i64 (i : Int), rv]
set_option maxHeartbeats 1600000 in
theorem sees113 (s : ByteArray) (c i p : Nat) (rv : Value) (w : World) (h : PB w p s i rv) (hs : s.size ≤ 300) :
    Calls Try.prog 113 #[.pointer (some ⟨p, 0, none⟩), .int .u8 c] w fun e w' => e = .returned (.bool (decide (bt s i = (c : Int)))) ∧ PB w' p s i rv ∧ But p w w' := by
  have x0 : w.cell? ⟨p, 0, none⟩ = some (.string s) := h.cell 0 (by simp)
  have x1 : w.cell? ⟨p, 1, none⟩ = some (.int .i64 (i : Int)) := h.cell 1 (by simp)
  have HX := (show Hid _ from h)
  have hi0 : (0 : Int) ≤ (i : Int) := by omega
  clear h
  by_cases hlt : i < s.size
  · have hlt' : (i : Int) < (s.size : Int) := by omega
    go_enter Try.func113, Try.ntmps113
    go_wp2_with fail
    go_quiet (fail)
    go_wp2_with fail
    go_ret
    refine ⟨ret_bool ?_, HX.out.keep rfl, But.drewN (But.refl _ _) _⟩
    rw [bt_at hlt]
    rfl
  · have hlt' : ¬ ((i : Int) < (s.size : Int)) := by omega
    go_enter Try.func113, Try.ntmps113
    go_wp2_with fail
    go_quiet (fail)
    go_wp2_with fail
    go_ret
    refine ⟨ret_bool ?_, HX.out.keep rfl, But.drewN (But.refl _ _) _⟩
    rw [bt_end (by omega), decide_eq_false (by omega)]
theorem fault106 (s : ByteArray) (i p : Nat) (rv : Value) (w : World) (h : PB w p s i rv) :
    Calls Try.prog 106 #[.pointer (some ⟨p, 0, none⟩)] w fun e w' => e = .returned (.agg #[.int .i64 2, .int .i64 (i : Int)]) ∧ Below w.heap.size w w' := by
  have h1 := h.still (bel_alloc w (.cells #[.int .i64 0, .int .i64 0] 133))
  have x1 : (w.alloc (.cells #[.int .i64 0, .int .i64 0] 133)).cell? ⟨p, 1, none⟩ = some (.int .i64 (i : Int)) := h1.cell 1 (by simp)
  clear h h1
  go_enter Try.func106, Try.ntmps106
  go_wp2_with fail
  refine bodyPost_ret (v := .agg #[.int .i64 2, .int .i64 (i : Int)]) (by simp [results, Try.results106, go_sem]) rfl ⟨rfl, ?_⟩
  exact bel_alloc _ _
/-- What a sign's passing leaves: the reader behind it, or a panic. -/
def PsA (p : Nat) (s : ByteArray) (rv : Value) (b : Bool) (i j : Nat) (w : World) (e : Ending) (w' : World) : Prop :=
  But p w w' ∧ (b = true → e = .returned (.tuple #[]) ∧ PB w' p s j rv) ∧ (b = false → e = .panicked [flt i])
set_option maxHeartbeats 1600000 in
theorem pass119 (s : ByteArray) (c i p : Nat) (rv : Value) (w : World) (h : PB w p s i rv) (hs : s.size ≤ 300) (hi : i ≤ s.size) :
    Calls Try.prog 119 #[.pointer (some ⟨p, 0, none⟩), .int .u8 c] w (PsA p s rv (decide (bt s i = (c : Int))) i (i + 1) w) := by
  have HS := (show Hid _ from sees113 s c i p rv w h hs)
  clear h
  cases hd : decide (bt s i = (c : Int))
  · rw [hd] at HS
    clear hd
    go_enter Try.func119, Try.ntmps119
    go_wp2_with fail
    refine Calls.mono HS.out ?_
    rintro e w1 ⟨rfl, hb1, ht1⟩
    have HF := (show Hid _ from fault106 s i p rv w1 hb1)
    have HT := (show Hid _ from ht1)
    clear hb1 ht1 HS
    go_wp2_with fail
    refine Calls.mono HF.out ?_
    rintro e w2 ⟨rfl, hb2⟩
    have HB2 := (show Hid _ from hb2)
    clear hb2 HF
    go_wp2_with fail
    exact ⟨rfl, But.still HT.out HB2.out, fun h => (by cases h), fun _ => rfl⟩
  · rw [hd] at HS
    clear hd
    go_enter Try.func119, Try.ntmps119
    go_wp2_with fail
    refine Calls.mono HS.out ?_
    rintro e w1 ⟨rfl, hb1, ht1⟩
    have x1 : w1.cell? ⟨p, 1, none⟩ = some (.int .i64 (i : Int)) := hb1.cell 1 (by simp)
    have y1 : w1.frozen? ⟨p, 1, none⟩ = false := hb1.frozen 1
    have hb2 := hb1.set 1 (.int .i64 ((i + 1 : Nat) : Int))
    have hb3 : PB (w1.setCell ⟨p, 1, none⟩ (.int .i64 ((i + 1 : Nat) : Int))) p s (i + 1) rv := by (show Box _ _ _ _; simpa using hb2)
    have H2 := (show Hid _ from hb3)
    have HT := (show Hid _ from ht1)
    clear hb1 ht1 HS hb2 hb3
    go_wp2_with fail
    go_end0
    exact ⟨But.put HT.out _, fun _ => ⟨rfl, H2.out⟩, fun h => (by cases h)⟩
set_option maxHeartbeats 1600000 in
theorem blanks104 (s : ByteArray) (i p : Nat) (rv : Value) (w : World) (h : PB w p s i rv) (hs : s.size ≤ 300) (hi : i ≤ s.size) :
    Calls Try.prog 104 #[.pointer (some ⟨p, 0, none⟩)] w fun e w' => e = .returned (.tuple #[]) ∧ PB w' p s (sk s i) rv ∧ But p w w' := by
  have HBX := (show Hid _ from h); clear h
  go_enter Try.func104, Try.ntmps104
  go_wp2_with fail
  go_loopw [] (fun wr => ∃ j : Nat, i ≤ j ∧ j ≤ s.size ∧ Hid (But p w wr ∧ PB wr p s j rv ∧ sk s i = sk s j)) (fun wr => s.size - (intOf ((wr.cell? ⟨p, 1, none⟩).getD (.bool false))).toNat)
  case atStart => exact ⟨i, Nat.le_refl _, hi, But.of_below (Below.refl _ _), HBX.out, rfl⟩
  case round =>
    obtain ⟨j, hij, hj, HR⟩ := hrel
    have HS := (show Hid _ from sees113 s 32 j p rv wr HR.out.2.1 hs)
    by_cases h32 : bt s j = 32
    · have HSK := (show Hid (sk s i = sk s (j + 1)) from HR.out.2.2.trans (past_step (p := blB) (by unfold blB; exact decide_eq_true h32) (bt_lt h32 (by omega))))
      have hjl := bt_lt h32 (by omega)
      rw [show decide (bt s j = ((32 : Nat) : Int)) = true from decide_eq_true h32] at HS
      clear h32
      go_wp2_with fail
      refine Calls.mono HS.out ?_
      rintro e w1 ⟨rfl, hb1, ht1⟩
      have x1 : w1.cell? ⟨p, 1, none⟩ = some (.int .i64 (j : Int)) := hb1.cell 1 (by simp)
      have y1 : w1.frozen? ⟨p, 1, none⟩ = false := hb1.frozen 1
      have hb2 := hb1.set 1 (.int .i64 ((j + 1 : Nat) : Int))
      have hb3 : PB (w1.setCell ⟨p, 1, none⟩ (.int .i64 ((j + 1 : Nat) : Int))) p s (j + 1) rv := by (show Box _ _ _ _; simpa using hb2)
      have H2 := (show Hid _ from hb3)
      have HT := (show Hid _ from But.put (o := 1) (But.trans HR.out.1 ht1) (.int .i64 ((j + 1 : Nat) : Int)))
      clear hb1 ht1 HS hb2 hb3
      go_wp2_with fail
      refine ⟨⟨j + 1, by omega, by omega, HT.out, H2.out, HSK.out⟩, ?_⟩
      have m1 := Box.cell H2.out 1 (by simp)
      have m2 := Box.cell HR.out.2.1 1 (by simp)
      rw [show ((j + 1 : Nat) : Int) = (j : Int) + 1 from rfl] at m1
      rw [m1, m2]
      simp [intOf]
      omega
    · have HSK := (show Hid (sk s i = j) from HR.out.2.2.trans (past_stop (p := blB) (by unfold blB; exact decide_eq_false h32)))
      rw [show decide (bt s j = ((32 : Nat) : Int)) = false from decide_eq_false h32] at HS
      clear h32
      go_wp2_with fail
      refine Calls.mono HS.out ?_
      rintro e w1 ⟨rfl, hb1, ht1⟩
      have HT := (show Hid _ from But.trans HR.out.1 ht1)
      have H2 := (show Hid _ from hb1)
      clear hb1 ht1 HS
      go_wp2_with fail
      go_end0
      rw [HSK.out]
      exact ⟨rfl, H2.out, HT.out⟩
set_option maxHeartbeats 1600000 in
theorem sign117 (s : ByteArray) (c i p : Nat) (rv : Value) (w : World) (h : PB w p s i rv) (hs : s.size ≤ 300) (hi : i ≤ s.size) (hc : 0 < c) :
    Calls Try.prog 117 #[.pointer (some ⟨p, 0, none⟩), .int .u8 c] w (PsA p s rv (decide (bt s i = (c : Int))) i (sk s (i + 1)) w) := by
  have HP := (show Hid _ from pass119 s c i p rv w h hs hi)
  unfold PsA at HP
  clear h
  by_cases hd : bt s i = (c : Int)
  · have hl := bt_lt hd (by omega)
    rw [show decide (bt s i = (c : Int)) = true from decide_eq_true hd] at HP ⊢
    clear hd
    go_enter Try.func117, Try.ntmps117
    go_wp2_with fail
    refine Calls.mono HP.out ?_
    rintro e w1 ⟨ht1, h1, _⟩
    obtain ⟨rfl, hb1⟩ := h1 (by first | rfl | trivial)
    have HB := (show Hid _ from blanks104 s (i + 1) p rv w1 hb1 hs (by omega))
    have HT := (show Hid _ from ht1)
    clear hb1 ht1 HP h1
    go_wp2_with fail
    refine Calls.mono HB.out ?_
    rintro e w2 ⟨rfl, hb2, ht2⟩
    have H2 := (show Hid _ from hb2)
    have HT2 := (show Hid _ from But.trans HT.out ht2)
    clear hb2 ht2 HB HT
    go_wp2_with fail
    go_end0
    exact ⟨HT2.out, fun _ => ⟨rfl, H2.out⟩, fun h => (by cases h)⟩
  · rw [show decide (bt s i = (c : Int)) = false from decide_eq_false hd] at HP ⊢
    clear hd
    go_enter Try.func117, Try.ntmps117
    go_wp2_with fail
    refine Calls.mono HP.out ?_
    rintro e w1 ⟨ht1, _, h1⟩
    obtain rfl := h1 (by first | rfl | trivial)
    have HT := (show Hid _ from ht1)
    clear ht1 HP h1
    go_wp2_with fail
    exact ⟨rfl, HT.out, fun h => (by cases h), fun _ => rfl⟩
end Go.Proofs.Ytkkhdkfmaopmfaa

/-! The program's reader of plans: the bytes of a name, the rule of a name. -/
namespace Go.Proofs.Ytkkhdkfmaopmfaa
open Go.RowKit Go.Deep Go.Lib Go.ChangeShapes Go.WideShapes
set_option linter.unusedVariables false
set_option maxRecDepth 100000
set_option linter.unusedSimpArgs false

theorem letR126 (c : Int) (w : World) : Calls Try.prog 126 #[.int .i32 c] w fun e w' => e = .returned (.bool (letB c)) ∧ w' = w := by
  by_cases h1 : 97 ≤ c <;> by_cases h2 : c ≤ 122 <;> by_cases h3 : 65 ≤ c <;> by_cases h4 : c ≤ 90 <;> first | (exfalso; omega) | skip
  all_goals
    go_enter Try.func126, Try.ntmps126
    go_wp2_with fail
    go_ret
    exact ⟨ret_bool (by simp [letB]; try omega), rfl⟩
theorem digR127 (c : Int) (w : World) : Calls Try.prog 127 #[.int .i32 c] w fun e w' => e = .returned (.bool (digB c)) ∧ w' = w := by
  by_cases h1 : 48 ≤ c <;> by_cases h2 : c ≤ 57 <;> first | (exfalso; omega) | skip
  all_goals
    go_enter Try.func127, Try.ntmps127
    go_wp2_with fail
    go_ret
    exact ⟨ret_bool (by simp [digB]; try omega), rfl⟩
theorem sgnR122 (c : Int) (w : World) : Calls Try.prog 122 #[.int .i32 c] w fun e w' => e = .returned (.bool (nbB c)) ∧ w' = w := by
  go_enter Try.func122, Try.ntmps122
  go_wp2_with fail
  refine (letR126 c _).mono ?_
  rintro e w' ⟨rfl, rfl⟩
  cases h1 : letB c
  · go_wp2_with fail
    refine (digR127 c _).mono ?_
    rintro e w' ⟨rfl, rfl⟩
    cases h2 : digB c
    · by_cases h3 : c = 95
      · go_wp2_with fail
        go_ret
        exact ⟨ret_bool (by simp [nbB, h3]), rfl⟩
      · go_wp2_with fail
        go_ret
        exact ⟨ret_bool (by simp [nbB, h1, h2, h3]), rfl⟩
    · go_wp2_with fail
      go_ret
      exact ⟨ret_bool (by simp [nbB, h2]), rfl⟩
  · go_wp2_with fail
    go_ret
    exact ⟨ret_bool (by simp [nbB, h1]), rfl⟩
theorem nb_big {c : Int} (h : 128 ≤ c) : nbB c = false := by
  unfold nbB letB digB
  simp
  omega
theorem decode_big (s : ByteArray) (i : Nat) (h : 128 ≤ (s.get! i).toNat) : 128 ≤ (Utf8.decode s i).1 := by
  unfold Utf8.decode
  simp only [Nat.add_zero]
  rw [if_neg (by omega)]
  repeat' split
  all_goals first | (simp only [Utf8.runeError]; omega) | (rename_i h2; simp only [ge_iff_le, Bool.and_eq_true, decide_eq_true_eq] at h2; omega) | (rename_i h2; simp only [ge_iff_le] at h2; omega)
theorem iter_next (w : World) (s : ByteArray) (pos : Nat) (ty : TypeId) (h : pos < s.size) :
    (Instr.next (.pointer (some ⟨w.heap.size, 0, none⟩)) true ty).run Try.prog (w.iter s pos) = .ok (.tuple #[.bool true, .int .i64 pos, .int .i32 (Utf8.decode s pos).1]) (w.iter s (pos + (Utf8.decode s pos).2)) := by
  rw [Lib.run_next_any_at (w.iter s pos) w.heap.size s pos ty (World.iter_heap w s pos) h]
  rw [show (w.iter s pos).iterAt w.heap.size s (pos + (Utf8.decode s pos).2) = w.iter s (pos + (Utf8.decode s pos).2) from World.iter_set w s pos _]
/-- Where an iterator stands. -/
def itp (g : Nat) (w : World) : Nat := match w.heap[g]? with
  | some (.stringIter _ p) => p
  | _ => 0
theorem itp_iter (w : World) (s : ByteArray) (j : Nat) : itp w.heap.size (w.iter s j) = j := by
  unfold itp
  rw [World.iter_heap]
set_option maxHeartbeats 1600000 in
theorem span121 (s : ByteArray) (hs : s.size ≤ maxLen) (w : World) :
    Calls Try.prog 121 #[.string s, .func (.func 122) #[] #[]] w fun e w' => e = .returned (.int .i64 (nd s 0 : Nat)) ∧ Below w.heap.size w w' := by
  unfold maxLen at hs
  have HP := (show Hid _ from fun (c : Int) (w : World) => sgnR122 c w)
  go_enter Try.func121, Try.ntmps121
  go_wp2_with fail
  go_loopw [] (fun wr => ∃ j : Nat, j ≤ s.size ∧ wr = w.iter s j ∧ Hid (nd s 0 = nd s j)) (fun wr => s.size - itp w.heap.size wr)
  case atStart => exact ⟨0, Nat.zero_le _, rfl, rfl⟩
  case round =>
    obtain ⟨j, hj, rfl, HJ⟩ := hrel
    by_cases hlt : j < s.size
    · by_cases hb : s[j].toNat < 128
      · have hnx := fun ty => run_next_ascii (P := Try.prog) w s j ty hlt hb
        have HC := (show Hid _ from fun w => HP.out (s[j].toNat : Int) w)
        cases hp : nbB (s[j].toNat : Int)
        · have HF := (show Hid (nd s 0 = j) from HJ.out.trans (past_stop (p := nbB) (by rw [bt_at hlt]; exact hp)))
          rw [hp] at HC
          clear hp
          go_wp2_with fail
          go_at_call 122
          refine Calls.mono (HC.out _) ?_
          rintro e w1 ⟨rfl, rfl⟩
          go_wp2_with fail
          go_ret
          exact ⟨by rw [HF.out]; rfl, bel_alloc _ _⟩
        · have HN := (show Hid (nd s 0 = nd s (j + 1)) from HJ.out.trans (past_step (p := nbB) (by rw [bt_at hlt]; exact hp) hlt))
          rw [hp] at HC
          clear hp
          go_wp2_with fail
          go_at_call 122
          refine Calls.mono (HC.out _) ?_
          rintro e w1 ⟨rfl, rfl⟩
          go_wp2_with fail
          exact ⟨⟨j + 1, by omega, rfl, HN⟩, by rw [itp_iter, itp_iter]; omega⟩
      · have hnx := fun ty => iter_next w s j ty hlt
        have hbig := decode_big s j (by rw [get!_eq s j hlt]; omega)
        have hp1 : nbB (s[j].toNat : Int) = false := nb_big (by omega)
        have HF := (show Hid (nd s 0 = j) from HJ.out.trans (past_stop (p := nbB) (by rw [bt_at hlt]; exact hp1)))
        generalize Utf8.decode s j = D at *
        have hp : nbB (D.1 : Int) = false := nb_big (by omega)
        have HC := (show Hid _ from fun w => HP.out (D.1 : Int) w)
        rw [hp] at HC
        clear hp hp1
        go_wp2_with fail
        go_at_call 122
        refine Calls.mono (HC.out _) ?_
        rintro e w1 ⟨rfl, rfl⟩
        go_wp2_with fail
        go_ret
        exact ⟨by rw [HF.out]; rfl, bel_alloc _ _⟩
    · have hnx := fun ty => run_next_end (P := Try.prog) w s j ty hlt
      have HF := (show Hid (nd s 0 = s.size) from HJ.out.trans ((past_end (p := nbB) (by omega)).trans (by omega)))
      go_wp2_with fail
      go_ret
      exact ⟨by rw [HF.out]; rfl, bel_alloc _ _⟩
theorem bt_ext (s : ByteArray) (i j : Nat) : bt (s.extract i s.size) j = bt s (i + j) := by
  by_cases h : i + j < s.size
  · rw [bt_at h, bt_at (by rw [ByteArray.size_extract]; omega)]
    simp [ByteArray.getElem_extract]
  · rw [bt_end (s := s.extract i s.size) (by rw [ByteArray.size_extract]; omega), bt_end (s := s) (by omega)]
theorem pastF_ext (p : Int → Bool) (s : ByteArray) (i : Nat) : ∀ n j, i + pastF p (s.extract i s.size) n j = pastF p s n (i + j)
  | 0, j => rfl
  | n + 1, j => by
    rw [pastF, pastF, bt_ext]
    split
    · rw [pastF_ext p s i n (j + 1)]
      rfl
    · rfl
theorem nd_ext {s : ByteArray} {i : Nat} (h : i ≤ s.size) : i + nd (s.extract i s.size) 0 = nd s i := by
  unfold nd past
  rw [pastF_ext, ByteArray.size_extract]
  simp
theorem ext_ext {s : ByteArray} {i j : Nat} (h : j ≤ s.size) : (s.extract i s.size).extract 0 (j - i) = s.extract i j := by
  rw [ByteArray.extract_extract]
  by_cases h2 : i ≤ j
  · congr 1 <;> omega
  · have e1 : (s.extract (i + 0) (min (i + (j - i)) s.size)).size = 0 := by rw [ByteArray.size_extract]; omega
    have e2 : (s.extract i j).size = 0 := by rw [ByteArray.size_extract]; omega
    rw [ByteArray.size_eq_zero_iff.1 e1, ByteArray.size_eq_zero_iff.1 e2]
theorem eqS_bytes (n x : ByteArray) : (n.toList == x.toList) = eqS n x := by
  by_cases e : n = x
  · subst e
    rw [eqS_refl]
    simp
  · rw [eqS_no e]
    exact ne_bytes e
theorem clo124 (n x : ByteArray) (b1 b2 b3 b4 b5 b6 b7 b8 : Value) (q : Nat) (w : World) (h : w.cell? ⟨q, 0, none⟩ = some (.string x)) :
    Calls Try.prog 124 #[.agg #[.string n, b1, b2, b3, b4, b5, b6, b7, b8], .pointer (some ⟨q, 0, none⟩)] w fun e w' => e = .returned (.bool (eqS n x)) ∧ Below w.heap.size w w' := by
  have hc : (w.alloc (.cells #[.string n, b1, b2, b3, b4, b5, b6, b7, b8] 98)).cell? ⟨q, 0, none⟩ = some (.string x) := ((bel_alloc w _).cell (lt_of_cell h)).trans h
  have c0 : (w.alloc (.cells #[.string n, b1, b2, b3, b4, b5, b6, b7, b8] 98)).cell? ⟨w.heap.size, 0, none⟩ = some (.string n) := (Box.new w 98 [.string n, b1, b2, b3, b4, b5, b6, b7, b8]).cell 0 (by simp)
  have hd := eqS_bytes n x
  clear h
  cases he : eqS n x
  all_goals
    rw [he] at hd
    clear he
    go_enter Try.func124, Try.ntmps124
    go_wp2_with fail
    go_ret
    exact ⟨rfl, bel_alloc _ _⟩
set_option maxHeartbeats 1600000 in
theorem index123 (rl : List Rw) (x : ByteArray) (q : Nat) (v : Value) (w : World) (h : RLy w rl v) (hq : w.cell? ⟨q, 0, none⟩ = some (.string x)) :
    Calls Try.prog 123 #[v, .func (.func 124) #[] #[.pointer (some ⟨q, 0, none⟩)]] w fun e w' => ∃ i : Int, e = .returned (.int .i64 i) ∧ FdW rl x i ∧ Below w.heap.size w w' := by
  obtain ⟨a, cap, b, off, sv, tv, rfl, hc, hm, ha, hx, hcell, hk, hk'⟩ := h
  clear hx
  unfold maxLen at hm
  have HC := (show Hid _ from hcell); clear hcell
  have HK := (show Hid _ from hk); clear hk
  have HK' := (show Hid _ from hk'); clear hk'
  have HA := (show Hid _ from ha); clear ha
  have HQ := (show Hid _ from hq); clear hq
  go_enter Try.func123, Try.ntmps123
  go_wp2_with fail
  go_loopw [8] (fun i wr => ∃ j : Nat, i = .int .i64 j ∧ j ≤ rl.length ∧ Hid (Below w.heap.size w wr) ∧ Hid (∀ i (hi : i < rl.length), i < j → ¬ rl[i].name = x)) (fun i _ => rl.length - (intOf i).toNat)
  case atStart => exact ⟨0, rfl, Nat.zero_le _, Below.refl _ _, fun i _ h => absurd h (Nat.not_lt_zero _)⟩
  case round =>
    obtain ⟨j, rfl, hj, HB, HJ⟩ := hrel
    by_cases hlt : j < rl.length
    · have q1 : (j : Int) < (rl.length : Int) := by omega
      have q0 : (0 : Int) ≤ (j : Int) := by omega
      have hbel := HB.out
      obtain rfl := HA.out (by omega)
      obtain ⟨c0, c1, c2, c3, c4, c5, c6, c7, c8⟩ := HC.out j hlt
      rw [← hbel.cell (lt_of_cell c0)] at c0
      rw [← hbel.cell (lt_of_cell c1)] at c1
      rw [← hbel.cell (lt_of_cell c2)] at c2
      rw [← hbel.cell (lt_of_cell c3)] at c3
      rw [← hbel.cell (lt_of_cell c4)] at c4
      rw [← hbel.cell (lt_of_cell c5)] at c5
      rw [← hbel.cell (lt_of_cell c6)] at c6
      rw [← hbel.cell (lt_of_cell c7)] at c7
      rw [← hbel.cell (lt_of_cell c8)] at c8
      obtain ⟨a4, l4, p4, e4⟩ := (HK.out j hlt).form
      obtain ⟨a5, l5, p5, e5⟩ := (HK'.out j hlt).form
      rw [e4] at c4
      rw [e5] at c8
      have HCL := (show Hid _ from clo124 rl[j].name x (.string rl[j].left.name) (.string rl[j].left.text) (.bool rl[j].left.leaf) (.slice a4 l4 p4) (.string rl[j].right.name) (.string rl[j].right.text) (.bool rl[j].right.leaf) (.slice a5 l5 p5) q wr ((hbel.cell (lt_of_cell HQ.out)).trans HQ.out))
      have HNX := (show Hid (eqS rl[j].name x = false → ∀ i (hi : i < rl.length), i < j + 1 → ¬ rl[i].name = x) from fun h i hi hij => by
        by_cases e : i = j
        · subst e; intro h2; rw [eqS_iff.2 h2] at h; cases h
        · exact HJ.out i hi (by omega))
      have HFX := (show Hid (eqS rl[j].name x = true → FdW rl x (j : Int)) from fun h => .inr ⟨j, rfl, hlt, eqS_iff.1 h, nms_take_no (fun i hi hij => HJ.out i hi hij)⟩)
      have HB2 := (show Hid _ from hbel)
      clear hbel e4 e5 HJ HB
      generalize eqS rl[j].name x = r at *
      generalize rl[j].name = y0 at *
      generalize rl[j].left.name = y1 at *
      generalize rl[j].left.text = y2 at *
      generalize rl[j].left.leaf = y3 at *
      generalize rl[j].right.name = y5 at *
      generalize rl[j].right.text = y6 at *
      generalize rl[j].right.leaf = y7 at *
      go_wp2_with fail
      go_at_call 124
      refine Calls.mono HCL.out ?_
      rintro e w1 ⟨rfl, hb1⟩
      have HB3 := (show Hid (Below w.heap.size w w1) from bel_trans HB2.out hb1)
      clear hb1 HB2 HCL
      clear c0 c1 c2 c3 c4 c5 c6 c7 c8
      cases r
      · have HF := (show Hid _ from HNX.out rfl)
        clear HNX HFX
        go_wp2_with fail
        exact ⟨⟨j + 1, by go_num, by omega, HB3, HF⟩, by simp [intOf]; omega⟩
      · have HF := (show Hid _ from HFX.out rfl)
        clear HNX HFX
        go_wp2_with fail
        go_ret
        exact ⟨(j : Int), rfl, HF.out, HB3.out⟩
    · have q1 : ¬ ((j : Int) < (rl.length : Int)) := by omega
      have HF := (show Hid (FdW rl x (-1)) from .inl ⟨rfl, by
        have := nms_take_no (rl := rl) (s := x) (j := rl.length) (fun i hi _ => HJ.out i hi (by omega))
        rwa [List.take_length] at this⟩)
      go_wp2_with fail
      go_ret
      exact ⟨-1, rfl, HF.out, HB.out⟩
end Go.Proofs.Ytkkhdkfmaopmfaa

/-! The program's reader of plans: brackets, and parts with a sign between them. -/
namespace Go.Proofs.Ytkkhdkfmaopmfaa
open Go.RowKit Go.Deep Go.Lib Go.ChangeShapes Go.WideShapes
set_option linter.unusedVariables false
set_option maxRecDepth 100000
set_option linter.unusedSimpArgs false

/-- What a reading of the program leaves. -/
def PdA (p : Nat) (s : ByteArray) (rv : Value) (R : Bool × Nat) (w : World) (e : Ending) (w' : World) : Prop :=
  But p w w' ∧ (R.1 = true → ∃ (T : TypeId) (u : Value), e = .returned (.iface T u) ∧ PB w' p s R.2 rv ∧ R.2 ≤ s.size) ∧ (R.1 = false → e = .panicked [flt R.2])
/-- A reading of the program by so much fuel does as is asked. -/
def PdC (w0 : World) (p : Nat) (rv : Value) (s : ByteArray) (rn : ByteArray → Bool) (F k f : Nat) : Prop :=
  ∀ (i : Nat) (w : World) (R : Bool × Nat), PB w p s i rv → i ≤ s.size → Below w0.heap.size w0 w → rd s rn f k i = some R → Calls Try.prog F #[.pointer (some ⟨p, 0, none⟩)] w (PdA p s rv R w)
theorem pd_yes {p : Nat} {s : ByteArray} {rv : Value} {R : Bool × Nat} {w w' : World} {T : TypeId} {u : Value} {j : Nat} (hR : R = (true, j)) (h1 : But p w w') (h2 : PB w' p s j rv) (h3 : j ≤ s.size) : PdA p s rv R w (.returned (.iface T u)) w' := by
  subst hR
  exact ⟨h1, fun _ => ⟨T, u, rfl, h2, h3⟩, fun h => (by cases h)⟩
theorem pd_no {p : Nat} {s : ByteArray} {rv : Value} {R : Bool × Nat} {w w' : World} {j : Nat} (hR : R = (false, j)) (h1 : But p w w') : PdA p s rv R w (.panicked [flt j]) w' := by
  subst hR
  exact ⟨h1, fun h => by (cases h), fun _ => rfl⟩
set_option maxHeartbeats 1600000 in
theorem bracketed120 {w0 : World} {p : Nat} {rv : Value} {s : ByteArray} {rn : ByteArray → Bool} {f : Nat} (hs : s.size ≤ 300) (hp : w0.heap.size ≤ p) (ih : PdC w0 p rv s rn 105 2 f) : PdC w0 p rv s rn 120 3 (f + 1) := by
  intro i w R hbx hi hb0 hrd
  have hpl := hbx.lt
  have HS := (show Hid _ from sign117 s 40 i p rv w hbx hs hi (by omega))
  unfold PsA at HS
  have HIH := (show Hid _ from ih)
  have HB0 := (show Hid _ from hb0)
  have HYES := (show Hid (∀ (T : TypeId) (u : Value) (j : Nat) (w' : World), R = (true, j) → But p w w' → PB w' p s j rv → j ≤ s.size → PdA p s rv R w (.returned (.iface T u)) w') from fun T u j w' h1 h2 h3 h4 => pd_yes h1 h2 h3 h4)
  have HNO := (show Hid (∀ (j : Nat) (w' : World), R = (false, j) → But p w w' → PdA p s rv R w (.panicked [flt j]) w') from fun j w' h1 h2 => pd_no h1 h2)
  rw [rd] at hrd
  have HRD := (show Hid _ from hrd)
  clear hrd hbx hb0 ih
  by_cases h40 : bt s i = 40
  case neg =>
    have HR := (show Hid (R = (false, i)) from (by
      have := HRD.out
      rw [if_neg h40] at this
      injection this with this
      exact this.symm))
    rw [show decide (bt s i = ((40 : Nat) : Int)) = false from decide_eq_false h40] at HS
    clear HRD HIH h40
    go_enter Try.func120, Try.ntmps120
    go_wp2_with fail
    refine Calls.mono HS.out ?_
    rintro e w1 ⟨ht1, _, h1⟩
    obtain rfl := h1 (by first | rfl | trivial)
    have HT := (show Hid _ from ht1)
    clear ht1 HS h1
    go_wp2_with fail
    exact ⟨rfl, HNO.out _ _ HR.out HT.out⟩
  case pos =>
    have hil := bt_lt h40 (by omega)
    have hx : sk s (i + 1) ≤ s.size := past_size hil
    have hr2 := HRD.out
    rw [if_pos h40] at hr2
    rw [show decide (bt s i = ((40 : Nat) : Int)) = true from decide_eq_true h40] at HS
    clear HRD h40
    cases hr : rd s rn f 2 (sk s (i + 1)) with
    | none => rw [hr] at hr2; cases hr2
    | some R1 =>
      rw [hr] at hr2
      obtain ⟨b1, j1⟩ := R1
      have HRR := (show Hid _ from hr)
      have HR2 := (show Hid _ from hr2)
      clear hr hr2
      go_enter Try.func120, Try.ntmps120
      go_wp2_with fail
      refine Calls.mono HS.out ?_
      rintro e w1 ⟨ht1, h1, _⟩
      obtain ⟨rfl, hb1⟩ := h1 (by first | rfl | trivial)
      have HCL := (show Hid _ from HIH.out (sk s (i + 1)) w1 (b1, j1) hb1 hx (But.below' ht1 HB0.out hp) HRR.out)
      unfold PdA at HCL
      have HT := (show Hid _ from ht1)
      clear ht1 HS h1 hb1 HIH HRR
      go_wp2_with fail
      refine Calls.mono HCL.out ?_
      rintro e w2 ⟨ht2, h2, h2'⟩
      have HT2 := (show Hid _ from But.trans HT.out ht2)
      clear ht2 HCL HT
      cases b1 with
      | false =>
        obtain rfl := h2' (by first | rfl | trivial)
        have HR := (show Hid (R = (false, j1)) from (by
          have := HR2.out
          simp only at this
          injection this with this
          exact this.symm))
        clear h2 h2' HR2
        go_wp2_with fail
        exact ⟨rfl, HNO.out _ _ HR.out HT2.out⟩
      | true =>
        obtain ⟨T2, u2, rfl, hb2, hj1⟩ := h2 (by first | rfl | trivial)
        have hj1' : j1 ≤ s.size := hj1
        have HS2 := (show Hid _ from sign117 s 41 j1 p rv w2 hb2 hs hj1' (by omega))
        unfold PsA at HS2
        clear h2 h2' hb2 hj1
        by_cases h41 : bt s j1 = 41
        · have hjl := bt_lt h41 (by omega)
          have HX := (show Hid (sk s (j1 + 1) ≤ s.size) from past_size hjl)
          have HR := (show Hid (R = (true, sk s (j1 + 1))) from (by
            have := HR2.out
            simp only at this
            rw [if_pos h41] at this
            injection this with this
            exact this.symm))
          rw [show decide (bt s j1 = ((41 : Nat) : Int)) = true from decide_eq_true h41] at HS2
          clear h41 HR2
          go_wp2_with fail
          refine Calls.mono HS2.out ?_
          rintro e w3 ⟨ht3, h3, _⟩
          obtain ⟨rfl, hb3⟩ := h3 (by first | rfl | trivial)
          have HT3 := (show Hid _ from But.trans HT2.out ht3)
          have HB3 := (show Hid _ from hb3)
          clear ht3 h3 hb3 HS2 HT2
          go_wp2_with fail
          go_ret
          exact HYES.out _ _ _ _ HR.out HT3.out HB3.out HX.out
        · have HR := (show Hid (R = (false, j1)) from (by
            have := HR2.out
            simp only at this
            rw [if_neg h41] at this
            injection this with this
            exact this.symm))
          rw [show decide (bt s j1 = ((41 : Nat) : Int)) = false from decide_eq_false h41] at HS2
          clear h41 HR2
          go_wp2_with fail
          refine Calls.mono HS2.out ?_
          rintro e w3 ⟨ht3, _, h3⟩
          obtain rfl := h3 (by first | rfl | trivial)
          have HT3 := (show Hid _ from But.trans HT2.out ht3)
          clear ht3 h3 HS2 HT2
          go_wp2_with fail
          exact ⟨rfl, HNO.out _ _ HR.out HT3.out⟩
/-- What is still to be read behind a part. -/
def PtP (s : ByteArray) (R : Bool × Nat) (sg : Int) (r : Nat → Nat → Option (Bool × Nat)) (g y : Nat) : Prop := (if bt s y = sg then r g (sk s (y + 1)) else some (true, y)) = some R
/-- What stands while the program reads parts. -/
def PtJ (p : Nat) (rv : Value) (s : ByteArray) (w : World) (R : Bool × Nat) (sg : Int) (r : Nat → Nat → Option (Bool × Nat)) (f g y n : Nat) (u : Value) (wr : World) : Prop :=
  g ≤ f ∧ n + g ≤ f + 1 ∧ y ≤ s.size ∧ PB wr p s y rv ∧ But p w wr ∧ (∃ xs, wr.ownsRow w.heap.size 107 1 u n xs) ∧ PtP s R sg r g y
theorem own_one7 (w : World) (v : Value) {B : Nat} (hB : B ≤ w.heap.size) : (w.alloc (.cells #[v] 107)).ownsRow B 107 1 (.slice (some ⟨w.heap.size, 0, none⟩) 1 1) 1 [v] :=
  ⟨rfl, .inr ⟨w.heap.size, 1, #[v], rfl, hB, blk_alloc_new _ _, Nat.le_refl _, by unfold maxLen; omega, rfl, rfl⟩⟩
theorem info107s : (Try.prog.info? 107).map (fun i => (i.zero, i.size, i.bytes)) = some (some .nilIface, 1, 16) := by kernel_rfl
theorem sees_own {w w' : World} {B p n : Nat} {u : Value} {xs : List Value} (h : w.ownsRow B 107 1 u n xs) (hb : But p w w') (hp : p < B) : w'.ownsRow B 107 1 u n xs :=
  own_keep1 h (fun q hq => hb.block (World.ownsRow.lt h q hq).2 (by have := (World.ownsRow.lt h q hq).1; omega))
/-- What parted leaves. -/
def PqA (p : Nat) (s : ByteArray) (rv : Value) (R : Bool × Nat) (w : World) (e : Ending) (w' : World) : Prop :=
  But p w w' ∧ (R.1 = true → ∃ (a : Option Addr) (l c : Nat), e = .returned (.slice a l c) ∧ PB w' p s R.2 rv ∧ R.2 ≤ s.size) ∧ (R.1 = false → e = .panicked [flt R.2])
theorem pstep1 {s : ByteArray} {rn : ByteArray → Bool} {f x : Nat} {R : Bool × Nat} (h : rd s rn (f + 1) 1 x = some R) : ∃ R1, rd s rn f 0 x = some R1 ∧ (R1.1 = true → PtP s R 59 (fun g x => rd s rn g 1 x) f R1.2) ∧ (R1.1 = false → R = R1) := by
  rw [rd] at h
  cases e : rd s rn f 0 x with
  | none => rw [e] at h; cases h
  | some R1 =>
    rw [e] at h
    obtain ⟨b, j⟩ := R1
    refine ⟨_, rfl, fun h1 => ?_, fun h1 => ?_⟩
    · simp only at h1
      subst h1
      exact h
    · simp only at h1
      subst h1
      simp only at h
      injection h with h
      exact h.symm
theorem pyes1 {s : ByteArray} {rn : ByteArray → Bool} {g y : Nat} {R : Bool × Nat} (h : PtP s R 59 (fun g x => rd s rn g 1 x) g y) (hsg : bt s y = 59) : ∃ g' R', g = g' + 1 ∧ rd s rn g' 0 (sk s (y + 1)) = some R' ∧ (R'.1 = true → PtP s R 59 (fun g x => rd s rn g 1 x) g' R'.2) ∧ (R'.1 = false → R = R') := by
  unfold PtP at h
  rw [if_pos hsg] at h
  cases g with
  | zero => simp only [rd] at h; cases h
  | succ g' =>
    obtain ⟨R1, q1, q2⟩ := pstep1 h
    exact ⟨g', R1, rfl, q1, q2⟩
set_option maxHeartbeats 3200000 in
theorem partedS {w0 : World} {p : Nat} {rv : Value} {s : ByteArray} {rn : ByteArray → Bool} {f : Nat} (hs : s.size ≤ 300) (hp : w0.heap.size ≤ p) (hf : f ≤ 100000) (ih : ∀ g, g ≤ f → PdC w0 p rv s rn 118 0 g) (i : Nat) (w : World) (R : Bool × Nat) (hbx : PB w p s i rv) (hi : i ≤ s.size) (hb0 : Below w0.heap.size w0 w) (hrd : rd s rn (f + 1) 1 i = some R) :
    Calls Try.prog 114 #[.pointer (some ⟨p, 0, none⟩), .int .u8 59, .func (.func 118) #[.pointer (some ⟨p, 0, none⟩)] #[]] w (PqA p s rv R w) := by
  have hpl := hbx.lt
  have HIH := (show Hid _ from ih)
  have HB0 := (show Hid _ from hb0)
  obtain ⟨R1, hr1, hT1, hF1⟩ := pstep1 hrd
  have HCL := (show Hid _ from ih f (Nat.le_refl _) i w R1 hbx hi hb0 hr1)
  unfold PdA at HCL
  have HT1 := (show Hid _ from hT1)
  have HF1 := (show Hid _ from hF1)
  have HYES := (show Hid (∀ (a : Option Addr) (l c j : Nat) (w' : World), R = (true, j) → But p w w' → PB w' p s j rv → j ≤ s.size → PqA p s rv R w (.returned (.slice a l c)) w') from fun a l c j w' h1 h2 h3 h4 => by
    subst h1
    exact ⟨h2, fun _ => ⟨a, l, c, rfl, h3, h4⟩, fun h => (by cases h)⟩)
  have HNO := (show Hid (∀ (R' : Bool × Nat) (w' : World), R'.1 = false → R = R' → But p w w' → PqA p s rv R w (.panicked [flt R'.2]) w') from fun R' w' h0 h1 h2 => by
    subst h1
    exact ⟨h2, fun h => by (rw [h0] at h; cases h), fun _ => rfl⟩)
  obtain ⟨i2, hi2, hz0, hz1, hz2⟩ := info_parts info107s
  clear hbx hb0 ih hrd hr1 hT1 hF1
  go_enter Try.func114, Try.ntmps114
  go_wp2_with fail
  go_at_call 118
  refine Calls.mono HCL.out ?_
  rintro e w2 ⟨hbt2, h2, h2'⟩
  cases hb1 : R1.1 with
  | false =>
    obtain rfl := h2' hb1
    have HB2 := (show Hid _ from hbt2)
    have HE := (show Hid _ from HNO.out R1 w2 hb1 (HF1.out hb1) hbt2)
    clear h2 h2' hbt2 HCL hb1
    go_wp2_with fail
    exact ⟨rfl, HE.out⟩
  | true =>
    obtain ⟨T2, u2, rfl, hb2, hj⟩ := h2 hb1
    have HI2 := (show Hid (PtJ p rv s w R 59 (fun g x => rd s rn g 1 x) f f R1.2 1 (.slice (some ⟨w2.heap.size, 0, none⟩) 1 1) (w2.alloc (.cells #[.iface T2 u2] 107))) from (by
      refine ⟨Nat.le_refl _, by omega, hj, hb2.still (bel_alloc _ _), hbt2.still (bel_alloc _ _), ⟨_, own_one7 w2 _ hbt2.size⟩, HT1.out hb1⟩))
    clear hb2 hbt2 HCL HT1 HF1 h2 h2' hj hb1
    go_wp2_with fail
    go_loopw [7] (fun u wr => ∃ (g y n : Nat) (la : Option Addr) (lc : Nat), u = .slice la n lc ∧ Hid (PtJ p rv s w R 59 (fun g x => rd s rn g 1 x) f g y n (.slice la n lc) wr)) (fun u _ => f + 2 - lenV u)
    case atStart => exact ⟨f, R1.2, 1, _, _, rfl, HI2⟩
    case round =>
      obtain ⟨g, y, n, la, lc, rfl, HI⟩ := hrel
      clear HI2
      obtain ⟨hg, hn, hy, hbx, hbt, ⟨xs, hown⟩, hT⟩ := HI.out
      have HS := (show Hid _ from sees113 s 59 y p rv wr hbx hs)
      have HBT := (show Hid (But p w wr) from hbt)
      have HOW := (show Hid (wr.ownsRow w.heap.size 107 1 (.slice la n lc) n xs) from hown)
      have HT := (show Hid _ from hT)
      clear hbx hbt hown hT HI
      by_cases hsg : bt s y = 59
      · have hys := bt_lt hsg (by omega)
        have hx : sk s (y + 1) ≤ s.size := past_size hys
        obtain ⟨g', R', e1, e2, e3, e4⟩ := pyes1 HT.out hsg
        rw [show decide (bt s y = ((59 : Nat) : Int)) = true from decide_eq_true hsg] at HS
        have HT2 := (show Hid _ from e3)
        have HF2 := (show Hid _ from e4)
        have HR2 := (show Hid _ from e2)
        have HSG := (show Hid _ from hsg)
        clear e2 e3 e4 HT hsg
        go_wp2_with fail
        refine Calls.mono HS.out ?_
        rintro e w3 ⟨rfl, hb3, hbt3⟩
        have HS2 := (show Hid _ from sign117 s 59 y p rv w3 hb3 hs hy (by omega))
        unfold PsA at HS2
        rw [show decide (bt s y = ((59 : Nat) : Int)) = true from decide_eq_true HSG.out] at HS2
        have HB3 := (show Hid (But p w w3) from But.trans HBT.out hbt3)
        have HO3 := (show Hid (w3.ownsRow w.heap.size 107 1 (.slice la n lc) n xs) from sees_own HOW.out hbt3 hpl)
        clear hb3 hbt3 HS HBT HOW
        go_wp2_with fail
        refine Calls.mono HS2.out ?_
        rintro e w4 ⟨hbt4, h4, _⟩
        obtain ⟨rfl, hb4⟩ := h4 (by first | rfl | trivial)
        have hB4 := But.trans HB3.out hbt4
        have HCL := (show Hid _ from HIH.out g' (by omega) (sk s (y + 1)) w4 R' hb4 hx (But.below' hB4 HB0.out hp) HR2.out)
        unfold PdA at HCL
        have HB4 := (show Hid (But p w w4) from hB4)
        have HO4 := (show Hid (w4.ownsRow w.heap.size 107 1 (.slice la n lc) n xs) from sees_own HO3.out hbt4 hpl)
        clear hbt4 h4 hb4 hB4 HS2 HB3 HO3 HR2
        go_wp2_with fail
        go_at_call 118
        refine Calls.mono HCL.out ?_
        rintro e w5 ⟨hbt5, h5, h5'⟩
        cases hb1 : R'.1 with
        | false =>
          obtain rfl := h5' hb1
          have HE := (show Hid _ from HNO.out R' w5 hb1 (HF2.out hb1) (But.trans HB4.out hbt5))
          clear h5 h5' hbt5 HCL hb1
          go_wp2_with fail
          exact ⟨rfl, HE.out⟩
        | true =>
          obtain ⟨T5, u5, rfl, hb5, hj5⟩ := h5 hb1
          have hO5 := sees_own HO4.out hbt5 hpl
          have HO6 := (show Hid ((w5.alloc (.cells #[.iface T5 u5] 107)).ownsRow w.heap.size 107 1 (.slice la n lc) n xs) from own_still hO5 (bel_alloc _ _))
          have hB6 : But p w (w5.alloc (.cells #[.iface T5 u5] 107)) := (But.trans HB4.out hbt5).still (bel_alloc _ _)
          have hz6 : w.heap.size ≤ w5.heap.size := (But.trans HB4.out hbt5).size
          have HUP := (show Hid (∀ (g7 cap7 : Nat) (w7 : World), w7.ownsRow w.heap.size 107 1 (.slice (some ⟨g7, 0, none⟩) (n + 1) cap7) (n + 1) (xs ++ [.iface T5 u5]) → (w5.alloc (.cells #[.iface T5 u5] 107)).grownBy w7 (Value.slice la n lc).ownBlock → PtJ p rv s w R 59 (fun g x => rd s rn g 1 x) f g' R'.2 (n + 1) (.slice (some ⟨g7, 0, none⟩) (n + 1) cap7) w7) from fun g7 cap7 w7 q1 q2 => by
            have hne : ∀ q, (Value.slice la n lc).ownBlock = some q → w.heap.size ≤ q := fun q hq => (World.ownsRow.lt HO6.out q hq).1
            have hkp : ∀ q, q < w.heap.size → w7.heap[q]? = (w5.alloc (.cells #[.iface T5 u5] 107)).heap[q]? := fun q hq => q2.block q (by simp; omega) (fun e => by have := hne q e.symm; omega)
            refine ⟨by omega, by omega, hj5, (hb5.still (bel_alloc _ _)).keep (hkp p (by omega)), ?_, ⟨_, q1⟩, HT2.out hb1⟩
            exact ⟨q2.os.trans hB6.1, q2.tape.trans hB6.2.1, q2.output.trans hB6.2.2.1, Nat.le_trans hB6.2.2.2.1 q2.size, fun q h1 h2 => (hkp q h1).trans (hB6.2.2.2.2 q h1 h2)⟩)
          have hZZ : w.heap.size ≤ (w5.alloc (.cells #[.iface T5 u5] 107)).heap.size := by simp; omega
          have HZZ := (show Hid _ from hZZ)
          clear hb5 hbt5 hO5 hB6 hz6 hZZ HCL HO4 HB4 HT2 HF2 h5 h5' hj5 hb1
          go_wp2_with (at_builtin; refine wpList_append_lies _ rfl (.tmp 19) (.tmp 22) 159 rfl w.heap.size 107 i2 _ 1 16 Try.underlying159 hi2 hz0 hz1 hz2 rfl (by decide) _ n xs rfl HO6.out ⟨w5.heap.size, 0, none⟩ 1 1 [.iface T5 u5] (by simp [Act.eval]) rfl (World.news_of_block (cs := #[.iface T5 u5]) (blk_alloc_new _ _)) (by simp [Value.oneCell']) (by decide) (by unfold maxLen; omega) (by omega) HZZ.out _ rfl ?nx)
          case nx =>
            intro g7 cap7 w7 hown7 hgr7 hat7 hlt7
            have HU := (show Hid _ from HUP.out g7 cap7 w7 hown7 hgr7)
            clear hown7 hgr7 hat7 hlt7 HUP HO6 HZZ
            go_wp2_with fail
            exact ⟨⟨g', R'.2, n + 1, _, _, rfl, HU⟩, by simp [lenV]; omega⟩
      · have HE := (show Hid (R = (true, y)) from (by
          have := HT.out
          unfold PtP at this
          rw [if_neg hsg] at this
          injection this with this
          exact this.symm))
        rw [show decide (bt s y = ((59 : Nat) : Int)) = false from decide_eq_false hsg] at HS
        clear HT hsg
        go_wp2_with fail
        refine Calls.mono HS.out ?_
        rintro e w3 ⟨rfl, hb3, hbt3⟩
        have HF := (show Hid _ from HYES.out la n lc y w3 HE.out (But.trans HBT.out hbt3) hb3 hy)
        clear hb3 hbt3 HS
        go_wp2_with fail
        go_ret
        exact HF.out
theorem read115 {w0 : World} {p : Nat} {rv : Value} {s : ByteArray} {rn : ByteArray → Bool} {f : Nat} (hs : s.size ≤ 300) (hp : w0.heap.size ≤ p) (hf : f ≤ 100000) (ih : ∀ g, g ≤ f → PdC w0 p rv s rn 118 0 g) : PdC w0 p rv s rn 115 1 (f + 1) := by
  intro i w R hbx hi hb0 hrd
  have HCL := (show Hid _ from partedS hs hp hf ih i w R hbx hi hb0 hrd)
  unfold PqA at HCL
  have HYES := (show Hid (∀ (T : TypeId) (u : Value) (j : Nat) (w' : World), R = (true, j) → But p w w' → PB w' p s j rv → j ≤ s.size → PdA p s rv R w (.returned (.iface T u)) w') from fun T u j w' h1 h2 h3 h4 => pd_yes h1 h2 h3 h4)
  have HNO := (show Hid (∀ (j : Nat) (w' : World), R = (false, j) → But p w w' → PdA p s rv R w (.panicked [flt j]) w') from fun j w' h1 h2 => pd_no h1 h2)
  clear hbx hb0 ih hrd
  go_enter Try.func115, Try.ntmps115
  go_wp2_with fail
  refine Calls.mono HCL.out ?_
  rintro e w2 ⟨hbt2, h2, h2'⟩
  obtain ⟨b, j⟩ := R
  cases b with
  | false =>
    obtain rfl := h2' (by first | rfl | trivial)
    have HE := (show Hid (PdA p s rv (false, j) w (.panicked [flt j]) w2) from HNO.out _ w2 rfl hbt2)
    clear h2 h2' hbt2 HCL HYES HNO
    go_wp2_with fail
    exact ⟨rfl, HE.out⟩
  | true =>
    obtain ⟨a, l, c, rfl, hb2, hj⟩ := h2 (by first | rfl | trivial)
    have HE := (show Hid (∀ T u, PdA p s rv (true, j) w (.returned (.iface T u)) w2) from fun T u => HYES.out T u j w2 rfl hbt2 hb2 hj)
    clear h2 h2' hbt2 HCL HYES HNO hb2 hj
    go_wp2_with fail
    go_ret
    exact HE.out _ _
theorem pstep2 {s : ByteArray} {rn : ByteArray → Bool} {f x : Nat} {R : Bool × Nat} (h : rd s rn (f + 1) 2 x = some R) : ∃ R1, rd s rn f 1 x = some R1 ∧ (R1.1 = true → PtP s R 124 (fun g x => rd s rn g 2 x) f R1.2) ∧ (R1.1 = false → R = R1) := by
  rw [rd] at h
  cases e : rd s rn f 1 x with
  | none => rw [e] at h; cases h
  | some R1 =>
    rw [e] at h
    obtain ⟨b, j⟩ := R1
    refine ⟨_, rfl, fun h1 => ?_, fun h1 => ?_⟩
    · simp only at h1
      subst h1
      exact h
    · simp only at h1
      subst h1
      simp only at h
      injection h with h
      exact h.symm
theorem pyes2 {s : ByteArray} {rn : ByteArray → Bool} {g y : Nat} {R : Bool × Nat} (h : PtP s R 124 (fun g x => rd s rn g 2 x) g y) (hsg : bt s y = 124) : ∃ g' R', g = g' + 1 ∧ rd s rn g' 1 (sk s (y + 1)) = some R' ∧ (R'.1 = true → PtP s R 124 (fun g x => rd s rn g 2 x) g' R'.2) ∧ (R'.1 = false → R = R') := by
  unfold PtP at h
  rw [if_pos hsg] at h
  cases g with
  | zero => simp only [rd] at h; cases h
  | succ g' =>
    obtain ⟨R1, q1, q2⟩ := pstep2 h
    exact ⟨g', R1, rfl, q1, q2⟩
set_option maxHeartbeats 3200000 in
theorem partedP {w0 : World} {p : Nat} {rv : Value} {s : ByteArray} {rn : ByteArray → Bool} {f : Nat} (hs : s.size ≤ 300) (hp : w0.heap.size ≤ p) (hf : f ≤ 100000) (ih : ∀ g, g ≤ f → PdC w0 p rv s rn 115 1 g) (i : Nat) (w : World) (R : Bool × Nat) (hbx : PB w p s i rv) (hi : i ≤ s.size) (hb0 : Below w0.heap.size w0 w) (hrd : rd s rn (f + 1) 2 i = some R) :
    Calls Try.prog 114 #[.pointer (some ⟨p, 0, none⟩), .int .u8 124, .func (.func 115) #[.pointer (some ⟨p, 0, none⟩)] #[]] w (PqA p s rv R w) := by
  have hpl := hbx.lt
  have HIH := (show Hid _ from ih)
  have HB0 := (show Hid _ from hb0)
  obtain ⟨R1, hr1, hT1, hF1⟩ := pstep2 hrd
  have HCL := (show Hid _ from ih f (Nat.le_refl _) i w R1 hbx hi hb0 hr1)
  unfold PdA at HCL
  have HT1 := (show Hid _ from hT1)
  have HF1 := (show Hid _ from hF1)
  have HYES := (show Hid (∀ (a : Option Addr) (l c j : Nat) (w' : World), R = (true, j) → But p w w' → PB w' p s j rv → j ≤ s.size → PqA p s rv R w (.returned (.slice a l c)) w') from fun a l c j w' h1 h2 h3 h4 => by
    subst h1
    exact ⟨h2, fun _ => ⟨a, l, c, rfl, h3, h4⟩, fun h => (by cases h)⟩)
  have HNO := (show Hid (∀ (R' : Bool × Nat) (w' : World), R'.1 = false → R = R' → But p w w' → PqA p s rv R w (.panicked [flt R'.2]) w') from fun R' w' h0 h1 h2 => by
    subst h1
    exact ⟨h2, fun h => by (rw [h0] at h; cases h), fun _ => rfl⟩)
  obtain ⟨i2, hi2, hz0, hz1, hz2⟩ := info_parts info107s
  clear hbx hb0 ih hrd hr1 hT1 hF1
  go_enter Try.func114, Try.ntmps114
  go_wp2_with fail
  go_at_call 115
  refine Calls.mono HCL.out ?_
  rintro e w2 ⟨hbt2, h2, h2'⟩
  cases hb1 : R1.1 with
  | false =>
    obtain rfl := h2' hb1
    have HB2 := (show Hid _ from hbt2)
    have HE := (show Hid _ from HNO.out R1 w2 hb1 (HF1.out hb1) hbt2)
    clear h2 h2' hbt2 HCL hb1
    go_wp2_with fail
    exact ⟨rfl, HE.out⟩
  | true =>
    obtain ⟨T2, u2, rfl, hb2, hj⟩ := h2 hb1
    have HI2 := (show Hid (PtJ p rv s w R 124 (fun g x => rd s rn g 2 x) f f R1.2 1 (.slice (some ⟨w2.heap.size, 0, none⟩) 1 1) (w2.alloc (.cells #[.iface T2 u2] 107))) from (by
      refine ⟨Nat.le_refl _, by omega, hj, hb2.still (bel_alloc _ _), hbt2.still (bel_alloc _ _), ⟨_, own_one7 w2 _ hbt2.size⟩, HT1.out hb1⟩))
    clear hb2 hbt2 HCL HT1 HF1 h2 h2' hj hb1
    go_wp2_with fail
    go_loopw [7] (fun u wr => ∃ (g y n : Nat) (la : Option Addr) (lc : Nat), u = .slice la n lc ∧ Hid (PtJ p rv s w R 124 (fun g x => rd s rn g 2 x) f g y n (.slice la n lc) wr)) (fun u _ => f + 2 - lenV u)
    case atStart => exact ⟨f, R1.2, 1, _, _, rfl, HI2⟩
    case round =>
      obtain ⟨g, y, n, la, lc, rfl, HI⟩ := hrel
      clear HI2
      obtain ⟨hg, hn, hy, hbx, hbt, ⟨xs, hown⟩, hT⟩ := HI.out
      have HS := (show Hid _ from sees113 s 124 y p rv wr hbx hs)
      have HBT := (show Hid (But p w wr) from hbt)
      have HOW := (show Hid (wr.ownsRow w.heap.size 107 1 (.slice la n lc) n xs) from hown)
      have HT := (show Hid _ from hT)
      clear hbx hbt hown hT HI
      by_cases hsg : bt s y = 124
      · have hys := bt_lt hsg (by omega)
        have hx : sk s (y + 1) ≤ s.size := past_size hys
        obtain ⟨g', R', e1, e2, e3, e4⟩ := pyes2 HT.out hsg
        rw [show decide (bt s y = ((124 : Nat) : Int)) = true from decide_eq_true hsg] at HS
        have HT2 := (show Hid _ from e3)
        have HF2 := (show Hid _ from e4)
        have HR2 := (show Hid _ from e2)
        have HSG := (show Hid _ from hsg)
        clear e2 e3 e4 HT hsg
        go_wp2_with fail
        refine Calls.mono HS.out ?_
        rintro e w3 ⟨rfl, hb3, hbt3⟩
        have HS2 := (show Hid _ from sign117 s 124 y p rv w3 hb3 hs hy (by omega))
        unfold PsA at HS2
        rw [show decide (bt s y = ((124 : Nat) : Int)) = true from decide_eq_true HSG.out] at HS2
        have HB3 := (show Hid (But p w w3) from But.trans HBT.out hbt3)
        have HO3 := (show Hid (w3.ownsRow w.heap.size 107 1 (.slice la n lc) n xs) from sees_own HOW.out hbt3 hpl)
        clear hb3 hbt3 HS HBT HOW
        go_wp2_with fail
        refine Calls.mono HS2.out ?_
        rintro e w4 ⟨hbt4, h4, _⟩
        obtain ⟨rfl, hb4⟩ := h4 (by first | rfl | trivial)
        have hB4 := But.trans HB3.out hbt4
        have HCL := (show Hid _ from HIH.out g' (by omega) (sk s (y + 1)) w4 R' hb4 hx (But.below' hB4 HB0.out hp) HR2.out)
        unfold PdA at HCL
        have HB4 := (show Hid (But p w w4) from hB4)
        have HO4 := (show Hid (w4.ownsRow w.heap.size 107 1 (.slice la n lc) n xs) from sees_own HO3.out hbt4 hpl)
        clear hbt4 h4 hb4 hB4 HS2 HB3 HO3 HR2
        go_wp2_with fail
        go_at_call 115
        refine Calls.mono HCL.out ?_
        rintro e w5 ⟨hbt5, h5, h5'⟩
        cases hb1 : R'.1 with
        | false =>
          obtain rfl := h5' hb1
          have HE := (show Hid _ from HNO.out R' w5 hb1 (HF2.out hb1) (But.trans HB4.out hbt5))
          clear h5 h5' hbt5 HCL hb1
          go_wp2_with fail
          exact ⟨rfl, HE.out⟩
        | true =>
          obtain ⟨T5, u5, rfl, hb5, hj5⟩ := h5 hb1
          have hO5 := sees_own HO4.out hbt5 hpl
          have HO6 := (show Hid ((w5.alloc (.cells #[.iface T5 u5] 107)).ownsRow w.heap.size 107 1 (.slice la n lc) n xs) from own_still hO5 (bel_alloc _ _))
          have hB6 : But p w (w5.alloc (.cells #[.iface T5 u5] 107)) := (But.trans HB4.out hbt5).still (bel_alloc _ _)
          have hz6 : w.heap.size ≤ w5.heap.size := (But.trans HB4.out hbt5).size
          have HUP := (show Hid (∀ (g7 cap7 : Nat) (w7 : World), w7.ownsRow w.heap.size 107 1 (.slice (some ⟨g7, 0, none⟩) (n + 1) cap7) (n + 1) (xs ++ [.iface T5 u5]) → (w5.alloc (.cells #[.iface T5 u5] 107)).grownBy w7 (Value.slice la n lc).ownBlock → PtJ p rv s w R 124 (fun g x => rd s rn g 2 x) f g' R'.2 (n + 1) (.slice (some ⟨g7, 0, none⟩) (n + 1) cap7) w7) from fun g7 cap7 w7 q1 q2 => by
            have hne : ∀ q, (Value.slice la n lc).ownBlock = some q → w.heap.size ≤ q := fun q hq => (World.ownsRow.lt HO6.out q hq).1
            have hkp : ∀ q, q < w.heap.size → w7.heap[q]? = (w5.alloc (.cells #[.iface T5 u5] 107)).heap[q]? := fun q hq => q2.block q (by simp; omega) (fun e => by have := hne q e.symm; omega)
            refine ⟨by omega, by omega, hj5, (hb5.still (bel_alloc _ _)).keep (hkp p (by omega)), ?_, ⟨_, q1⟩, HT2.out hb1⟩
            exact ⟨q2.os.trans hB6.1, q2.tape.trans hB6.2.1, q2.output.trans hB6.2.2.1, Nat.le_trans hB6.2.2.2.1 q2.size, fun q h1 h2 => (hkp q h1).trans (hB6.2.2.2.2 q h1 h2)⟩)
          have hZZ : w.heap.size ≤ (w5.alloc (.cells #[.iface T5 u5] 107)).heap.size := by simp; omega
          have HZZ := (show Hid _ from hZZ)
          clear hb5 hbt5 hO5 hB6 hz6 hZZ HCL HO4 HB4 HT2 HF2 h5 h5' hj5 hb1
          go_wp2_with (at_builtin; refine wpList_append_lies _ rfl (.tmp 19) (.tmp 22) 159 rfl w.heap.size 107 i2 _ 1 16 Try.underlying159 hi2 hz0 hz1 hz2 rfl (by decide) _ n xs rfl HO6.out ⟨w5.heap.size, 0, none⟩ 1 1 [.iface T5 u5] (by simp [Act.eval]) rfl (World.news_of_block (cs := #[.iface T5 u5]) (blk_alloc_new _ _)) (by simp [Value.oneCell']) (by decide) (by unfold maxLen; omega) (by omega) HZZ.out _ rfl ?nx)
          case nx =>
            intro g7 cap7 w7 hown7 hgr7 hat7 hlt7
            have HU := (show Hid _ from HUP.out g7 cap7 w7 hown7 hgr7)
            clear hown7 hgr7 hat7 hlt7 HUP HO6 HZZ
            go_wp2_with fail
            exact ⟨⟨g', R'.2, n + 1, _, _, rfl, HU⟩, by simp [lenV]; omega⟩
      · have HE := (show Hid (R = (true, y)) from (by
          have := HT.out
          unfold PtP at this
          rw [if_neg hsg] at this
          injection this with this
          exact this.symm))
        rw [show decide (bt s y = ((124 : Nat) : Int)) = false from decide_eq_false hsg] at HS
        clear HT hsg
        go_wp2_with fail
        refine Calls.mono HS.out ?_
        rintro e w3 ⟨rfl, hb3, hbt3⟩
        have HF := (show Hid _ from HYES.out la n lc y w3 HE.out (But.trans HBT.out hbt3) hb3 hy)
        clear hb3 hbt3 HS
        go_wp2_with fail
        go_ret
        exact HF.out
theorem read105 {w0 : World} {p : Nat} {rv : Value} {s : ByteArray} {rn : ByteArray → Bool} {f : Nat} (hs : s.size ≤ 300) (hp : w0.heap.size ≤ p) (hf : f ≤ 100000) (ih : ∀ g, g ≤ f → PdC w0 p rv s rn 115 1 g) : PdC w0 p rv s rn 105 2 (f + 1) := by
  intro i w R hbx hi hb0 hrd
  have HCL := (show Hid _ from partedP hs hp hf ih i w R hbx hi hb0 hrd)
  unfold PqA at HCL
  have HYES := (show Hid (∀ (T : TypeId) (u : Value) (j : Nat) (w' : World), R = (true, j) → But p w w' → PB w' p s j rv → j ≤ s.size → PdA p s rv R w (.returned (.iface T u)) w') from fun T u j w' h1 h2 h3 h4 => pd_yes h1 h2 h3 h4)
  have HNO := (show Hid (∀ (j : Nat) (w' : World), R = (false, j) → But p w w' → PdA p s rv R w (.panicked [flt j]) w') from fun j w' h1 h2 => pd_no h1 h2)
  clear hbx hb0 ih hrd
  go_enter Try.func105, Try.ntmps105
  go_wp2_with fail
  refine Calls.mono HCL.out ?_
  rintro e w2 ⟨hbt2, h2, h2'⟩
  obtain ⟨b, j⟩ := R
  cases b with
  | false =>
    obtain rfl := h2' (by first | rfl | trivial)
    have HE := (show Hid (PdA p s rv (false, j) w (.panicked [flt j]) w2) from HNO.out _ w2 rfl hbt2)
    clear h2 h2' hbt2 HCL HYES HNO
    go_wp2_with fail
    exact ⟨rfl, HE.out⟩
  | true =>
    obtain ⟨a, l, c, rfl, hb2, hj⟩ := h2 (by first | rfl | trivial)
    have HE := (show Hid (∀ T u, PdA p s rv (true, j) w (.returned (.iface T u)) w2) from fun T u => HYES.out T u j w2 rfl hbt2 hb2 hj)
    clear h2 h2' hbt2 HCL HYES HNO hb2 hj
    go_wp2_with fail
    go_ret
    exact HE.out _ _
end Go.Proofs.Ytkkhdkfmaopmfaa

/-! The program's reader of plans: a prim. -/
namespace Go.Proofs.Ytkkhdkfmaopmfaa
open Go.RowKit Go.Deep Go.Lib Go.ChangeShapes Go.WideShapes
set_option linter.unusedVariables false
set_option maxRecDepth 100000
set_option linter.unusedSimpArgs false

theorem behind125a (x : ByteArray) (p : Nat) (w : World) (h : (eqS x idN || eqS x failN) = true) :
    Calls Try.prog 125 #[.pointer (some ⟨p, 0, none⟩), .string x] w fun e w' => (∃ (T : TypeId) (u : Value), e = .returned (.iface T u)) ∧ w' = w := by
  have g0 := eqS_id x
  have g1 := eqS_fail x
  cases hA : eqS x idN
  · rw [hA, Bool.false_or] at h
    rw [hA] at g0
    rw [h] at g1
    clear hA h
    go_enter Try.func125, Try.ntmps125
    go_wp2_with fail
    go_ret
    exact ⟨⟨_, _, rfl⟩, rfl⟩
  · rw [hA] at g0
    clear hA h g1
    go_enter Try.func125, Try.ntmps125
    go_wp2_with fail
    go_ret
    exact ⟨⟨_, _, rfl⟩, rfl⟩
set_option maxHeartbeats 1600000 in
theorem behind125b {w0 : World} {p : Nat} {rv : Value} {s : ByteArray} {rn : ByteArray → Bool} {f : Nat} (x : ByteArray) (ih : PdC w0 p rv s rn 120 3 f) (i : Nat) (w : World) (R : Bool × Nat) (hbx : PB w p s i rv) (hi : i ≤ s.size) (hb0 : Below w0.heap.size w0 w) (hrd : rd s rn f 3 i = some R) (h1 : eqS x idN = false) (h2 : eqS x failN = false) :
    Calls Try.prog 125 #[.pointer (some ⟨p, 0, none⟩), .string x] w (PdA p s rv R w) := by
  have HCL := (show Hid _ from ih i w R hbx hi hb0 hrd)
  unfold PdA at HCL
  have g0 := eqS_id x
  have g1 := eqS_fail x
  have g2 := eqS_w2 x
  have g3 := eqS_w3 x
  rw [h1] at g0
  rw [h2] at g1
  have HYES := (show Hid (∀ (T : TypeId) (u : Value) (j : Nat) (w' : World), R = (true, j) → But p w w' → PB w' p s j rv → j ≤ s.size → PdA p s rv R w (.returned (.iface T u)) w') from fun T u j w' h1 h2 h3 h4 => pd_yes h1 h2 h3 h4)
  have HNO := (show Hid (∀ (j : Nat) (w' : World), R = (false, j) → But p w w' → PdA p s rv R w (.panicked [flt j]) w') from fun j w' h1 h2 => pd_no h1 h2)
  clear hbx hb0 ih hrd h1 h2
  cases e2 : eqS x (⟨#[97, 108, 108]⟩ : ByteArray)
  · cases e3 : eqS x (⟨#[111, 110, 101]⟩ : ByteArray)
    · rw [e2] at g2
      rw [e3] at g3
      clear e2 e3
      go_enter Try.func125, Try.ntmps125
      go_wp2_with fail
      refine Calls.mono HCL.out ?_
      rintro e w2 ⟨hbt2, h2, h2'⟩
      obtain ⟨b, j⟩ := R
      cases b with
      | false =>
        obtain rfl := h2' (by first | rfl | trivial)
        have HE := (show Hid (PdA p s rv (false, j) w (.panicked [flt j]) w2) from HNO.out _ w2 rfl hbt2)
        clear h2 h2' hbt2 HCL HYES HNO
        go_wp2_with fail
        exact ⟨rfl, HE.out⟩
      | true =>
        obtain ⟨T2, u2, rfl, hb2, hj⟩ := h2 (by first | rfl | trivial)
        have HE := (show Hid (∀ T u, PdA p s rv (true, j) w (.returned (.iface T u)) w2) from fun T u => HYES.out T u j w2 rfl hbt2 hb2 hj)
        clear h2 h2' hbt2 HCL HYES HNO hb2 hj
        go_wp2_with fail
        go_ret
        exact HE.out _ _
    · rw [e2] at g2
      rw [e3] at g3
      clear e2 e3
      go_enter Try.func125, Try.ntmps125
      go_wp2_with fail
      refine Calls.mono HCL.out ?_
      rintro e w2 ⟨hbt2, h2, h2'⟩
      obtain ⟨b, j⟩ := R
      cases b with
      | false =>
        obtain rfl := h2' (by first | rfl | trivial)
        have HE := (show Hid (PdA p s rv (false, j) w (.panicked [flt j]) w2) from HNO.out _ w2 rfl hbt2)
        clear h2 h2' hbt2 HCL HYES HNO
        go_wp2_with fail
        exact ⟨rfl, HE.out⟩
      | true =>
        obtain ⟨T2, u2, rfl, hb2, hj⟩ := h2 (by first | rfl | trivial)
        have HE := (show Hid (∀ T u, PdA p s rv (true, j) w (.returned (.iface T u)) w2) from fun T u => HYES.out T u j w2 rfl hbt2 hb2 hj)
        clear h2 h2' hbt2 HCL HYES HNO hb2 hj
        go_wp2_with fail
        go_ret
        exact HE.out _ _
  · rw [e2] at g2
    clear e2 g3
    go_enter Try.func125, Try.ntmps125
    go_wp2_with fail
    refine Calls.mono HCL.out ?_
    rintro e w2 ⟨hbt2, h2, h2'⟩
    obtain ⟨b, j⟩ := R
    cases b with
    | false =>
      obtain rfl := h2' (by first | rfl | trivial)
      have HE := (show Hid (PdA p s rv (false, j) w (.panicked [flt j]) w2) from HNO.out _ w2 rfl hbt2)
      clear h2 h2' hbt2 HCL HYES HNO
      go_wp2_with fail
      exact ⟨rfl, HE.out⟩
    | true =>
      obtain ⟨T2, u2, rfl, hb2, hj⟩ := h2 (by first | rfl | trivial)
      have HE := (show Hid (∀ T u, PdA p s rv (true, j) w (.returned (.iface T u)) w2) from fun T u => HYES.out T u j w2 rfl hbt2 hb2 hj)
      clear h2 h2' hbt2 HCL HYES HNO hb2 hj
      go_wp2_with fail
      go_ret
      exact HE.out _ _
theorem cell_other {w : World} {p q o : Nat} {v u : Value} (h : w.cell? ⟨q, 0, none⟩ = some v) (hn : q ≠ p) : ((w.setCell ⟨p, o, none⟩ u).drew).cell? ⟨q, 0, none⟩ = some v :=
  (But.cell (But.drewN (But.set p o w u) 1) hn h : _)
theorem fdw_no {rl : List Rw} {x : ByteArray} {i : Int} (h : FdW rl x i) (hn : hasS (nms rl) x = false) : i = -1 := by
  rcases h with ⟨rfl, _⟩ | ⟨j, rfl, hj, h1, h2⟩
  · rfl
  · exfalso
    have : hasS (nms rl) x = true := by
      unfold hasS nms
      rw [List.any_eq_true]
      exact ⟨rl[j].name, List.mem_map.2 ⟨rl[j], List.getElem_mem hj, rfl⟩, eqS_iff.2 h1⟩
    rw [hn] at this
    cases this
theorem fdw_yes {rl : List Rw} {x : ByteArray} {i : Int} (h : FdW rl x i) (hn : hasS (nms rl) x = true) : ∃ j : Nat, i = (j : Int) ∧ j < rl.length := by
  rcases h with ⟨rfl, h⟩ | ⟨j, rfl, hj, h1, h2⟩
  · rw [hn] at h
    cases h
  · exact ⟨j, rfl, hj⟩
theorem pw_no {x : ByteArray} (h : pwB x = false) : eqS x idN = false ∧ eqS x failN = false ∧ hasS pw7 x = false := by
  rw [pwB_eq, eqS_comm idN, eqS_comm failN] at h
  cases h1 : eqS x idN <;> cases h2 : eqS x failN <;> cases h3 : hasS pw7 x <;> simp [h1, h2, h3] at h ⊢
theorem pw_yes {x : ByteArray} (h : pwB x = true) (h1 : eqS x idN = false) (h2 : eqS x failN = false) : hasS pw7 x = true := by
  rw [pwB_eq, eqS_comm idN, eqS_comm failN, h1, h2] at h
  exact h
set_option maxHeartbeats 6400000 in
theorem prim118 {w0 : World} {p : Nat} {s : ByteArray} {rl : List Rw} {ra : Option Addr} {rc f : Nat} (hs : s.size ≤ 300) (hp : w0.heap.size ≤ p) (hrl : RLy w0 rl (.slice ra rl.length rc)) (ih : PdC w0 p (.slice ra rl.length rc) s (hasS (nms rl)) 120 3 f) : PdC w0 p (.slice ra rl.length rc) s (hasS (nms rl)) 118 0 (f + 1) := by
  intro i w R hbx hi hb0 hrd
  have hpl := hbx.lt
  have HS := (show Hid _ from sees113 s 40 i p _ w hbx hs)
  have HIH := (show Hid _ from ih)
  have HB0 := (show Hid _ from hb0)
  have HRL := (show Hid (RLy w0 rl (.slice ra rl.length rc)) from hrl)
  have HYES := (show Hid (∀ (T : TypeId) (u : Value) (j : Nat) (w' : World), R = (true, j) → But p w w' → PB w' p s j (.slice ra rl.length rc) → j ≤ s.size → PdA p s (.slice ra rl.length rc) R w (.returned (.iface T u)) w') from fun T u j w' h1 h2 h3 h4 => pd_yes h1 h2 h3 h4)
  have HNO := (show Hid (∀ (j : Nat) (w' : World), R = (false, j) → But p w w' → PdA p s (.slice ra rl.length rc) R w (.panicked [flt j]) w') from fun j w' h1 h2 => pd_no h1 h2)
  rw [rd] at hrd
  have HRD := (show Hid _ from hrd)
  clear hrd hbx hb0 ih hrl
  by_cases h40 : bt s i = 40
  case pos =>
    have HR := (show Hid (rd s (hasS (nms rl)) f 3 i = some R) from (by
      have := HRD.out
      rw [if_pos h40] at this
      exact this))
    rw [show decide (bt s i = ((40 : Nat) : Int)) = true from decide_eq_true h40] at HS
    clear HRD h40
    go_enter Try.func118, Try.ntmps118
    go_wp2_with fail
    refine Calls.mono HS.out ?_
    rintro e w1 ⟨rfl, hb1, ht1⟩
    have HCL := (show Hid _ from HIH.out i w1 R hb1 hi (But.below' ht1 HB0.out hp) HR.out)
    unfold PdA at HCL
    have HT := (show Hid (But p w w1) from ht1)
    clear hb1 ht1 HS HIH HR HRL
    go_wp2_with fail
    refine Calls.mono HCL.out ?_
    rintro e w2 ⟨hbt2, h2, h2'⟩
    obtain ⟨b, j⟩ := R
    cases b with
    | false =>
      obtain rfl := h2' (by first | rfl | trivial)
      have HE := (show Hid (PdA p s (.slice ra rl.length rc) (false, j) w (.panicked [flt j]) w2) from HNO.out _ w2 rfl (But.trans HT.out hbt2))
      clear h2 h2' hbt2 HCL HYES HNO
      go_wp2_with fail
      exact ⟨rfl, HE.out⟩
    | true =>
      obtain ⟨T2, u2, rfl, hb2, hj⟩ := h2 (by first | rfl | trivial)
      have HE := (show Hid (∀ T u, PdA p s (.slice ra rl.length rc) (true, j) w (.returned (.iface T u)) w2) from fun T u => HYES.out T u j w2 rfl (But.trans HT.out hbt2) hb2 hj)
      clear h2 h2' hbt2 HCL HYES HNO hb2 hj
      go_wp2_with fail
      go_ret
      exact HE.out _ _
  case neg =>
    rw [show decide (bt s i = ((40 : Nat) : Int)) = false from decide_eq_false h40] at HS
    have HRJ := (show Hid ((if (eqS (s.extract i (nd s i)) idN || (eqS (s.extract i (nd s i)) failN || hasS (nms rl) (s.extract i (nd s i)))) = true then some (true, sk s (nd s i)) else if hasS pw7 (s.extract i (nd s i)) = true then rd s (hasS (nms rl)) f 3 (sk s (nd s i)) else some (false, i)) = some R) from (by
      have := HRD.out
      rw [if_neg h40] at this
      exact this))
    clear HRD h40
    have hn1 : i ≤ nd s i := past_le nbB s i
    have hn2 : nd s i ≤ s.size := past_size (p := nbB) hi
    have hne := nd_ext (s := s) (i := i) hi
    have hxe : (s.extract i s.size).extract 0 (nd (s.extract i s.size) 0) = s.extract i (nd s i) := by
      rw [← ext_ext (s := s) (i := i) hn2, show nd s i - i = nd (s.extract i s.size) 0 by omega]
    have hkr : (nd (s.extract i s.size) 0 : Int) ≤ ((s.extract i s.size).size : Int) := by
      have := past_size (p := nbB) (s := s.extract i s.size) (i := 0) (Nat.zero_le _)
      have h2 : nd (s.extract i s.size) 0 ≤ (s.extract i s.size).size := this
      omega
    have HSZ := (show Hid (((nd s i : Nat) : Int) = (i : Int) + ((s.extract i (nd s i)).size : Int)) from (by
      show ((nd s i : Nat) : Int) = (i : Int) + ((s.extract i (nd s i)).size : Int)
      rw [ByteArray.size_extract]
      omega))
    have HSP := (show Hid (∀ wq : World, Calls Try.prog 121 #[.string (s.extract i s.size), .func (.func 122) #[] #[]] wq fun e w' => e = .returned (.int .i64 (nd (s.extract i s.size) 0 : Nat)) ∧ Below wq.heap.size wq w') from fun wq => span121 _ (by rw [ByteArray.size_extract]; unfold maxLen; omega) wq)
    have HN2 := (show Hid (sk s (nd s i) ≤ s.size) from past_size hn2)
    have hxz : (s.extract i (nd s i)).size ≤ 300 := by rw [ByteArray.size_extract]; omega
    generalize hk : nd (s.extract i s.size) 0 = k0 at *
    clear hk hne
    have hi0 : (0 : Int) ≤ (i : Int) := by omega
    have hi1 : (i : Int) ≤ (s.size : Int) := by omega
    have hk0 : (0 : Int) ≤ (k0 : Int) := by omega
    go_enter Try.func118, Try.ntmps118
    go_wp2_with fail
    refine Calls.mono HS.out ?_
    rintro e w1 ⟨rfl, hb1, ht1⟩
    have x0 : w1.cell? ⟨p, 0, none⟩ = some (.string s) := hb1.cell 0 (by simp)
    have x1 : w1.cell? ⟨p, 1, none⟩ = some (.int .i64 (i : Int)) := hb1.cell 1 (by simp)
    have HX1 := (show Hid _ from hb1)
    have HT1 := (show Hid (But p w w1) from ht1)
    clear hb1 ht1 HS
    go_wp2_with fail
    go_quiet (fail)
    go_wp2_with fail
    refine Calls.mono (HSP.out _) ?_
    rintro e w2 ⟨rfl, hb2⟩
    have hx2 : PB w2 p s i (.slice ra rl.length rc) := (HX1.out.keep (w' := w1.drewN nq) rfl).still hb2
    have ht2 : But p w w2 := But.still (But.drewN HT1.out nq) hb2
    have HX2 := (show Hid (PB w2 p s i (.slice ra rl.length rc)) from hx2)
    have HT2 := (show Hid (But p w w2) from ht2)
    clear hb2 HSP HX1 HT1 x0 x1
    have hpq : p ≠ w2.heap.size := by have := hx2.lt; omega
    have hx3 : PB (w2.alloc (.cells #[.string (s.extract i (nd s i))] 9)) p s i (.slice ra rl.length rc) := hx2.still (bel_alloc _ _)
    have ht3 : But p w (w2.alloc (.cells #[.string (s.extract i (nd s i))] 9)) := But.still ht2 (bel_alloc _ _)
    have hq3 : (w2.alloc (.cells #[.string (s.extract i (nd s i))] 9)).cell? ⟨w2.heap.size, 0, none⟩ = some (.string (s.extract i (nd s i))) := (Box.new w2 9 [.string (s.extract i (nd s i))]).cell 0 (by simp)
    have x2 : (w2.alloc (.cells #[.string (s.extract i (nd s i))] 9)).cell? ⟨p, 2, none⟩ = some (.slice ra rl.length rc) := hx3.cell 2 (by simp)
    have HIX := (show Hid _ from index123 rl (s.extract i (nd s i)) w2.heap.size _ (w2.alloc (.cells #[.string (s.extract i (nd s i))] 9)) (RLy.still HRL.out (But.below' ht3 HB0.out hp)) hq3)
    have HQ3 := (show Hid _ from hq3)
    have HX3 := (show Hid (PB (w2.alloc (.cells #[.string (s.extract i (nd s i))] 9)) p s i (.slice ra rl.length rc)) from hx3)
    have HT3 := (show Hid (But p w (w2.alloc (.cells #[.string (s.extract i (nd s i))] 9))) from ht3)
    clear hx2 ht2 hx3 ht3 hq3
    have HXE := (show Hid _ from hxe)
    go_wp2_with fail
    refine Calls.mono HIX.out ?_
    rintro e w4 ⟨pl, rfl, hfd, hb4⟩
    have HFD := (show Hid (FdW rl (s.extract i (nd s i)) pl) from hfd)
    have HXC := (show Hid (PB w4 p s i (.slice ra rl.length rc)) from Box.still HX3.out hb4)
    have HBC := (show Hid (But p w w4) from But.still HT3.out hb4)
    have HQC := (show Hid (w4.cell? ⟨w2.heap.size, 0, none⟩ = some (.string (s.extract i (nd s i)))) from (hb4.cell (lt_of_cell HQ3.out)).trans HQ3.out)
    clear hfd hb4 HIX HQ3 HX3 HT3 HXE hxe x2 HX2 HT2 hkr hk0
    generalize s.extract i (nd s i) = x at *
    generalize w2.heap.size = q at *
    have xq : w4.cell? ⟨q, 0, none⟩ = some (.string x) := HQC.out
    cases hr : hasS (nms rl) x
    · obtain rfl := fdw_no HFD.out hr
      have HW := (show Hid _ from word111 x w4)
      cases hw : pwB x
      · have HRR := (show Hid (R = (false, i)) from (by
          obtain ⟨h1, h2, h3⟩ := pw_no hw
          have := HRJ.out
          rw [hr, h1, h2, h3] at this
          simp at this
          exact this.symm))
        rw [hw] at HW
        clear hw HRJ hr HFD
        go_wp2_with fail
        refine Calls.mono HW.out ?_
        rintro e w5 ⟨rfl, rfl⟩
        have HF := (show Hid _ from fault106 s i p _ w5 HXC.out)
        clear HW
        go_wp2_with fail
        refine Calls.mono HF.out ?_
        rintro e w6 ⟨rfl, hb6⟩
        have HE := (show Hid (PdA p s (.slice ra rl.length rc) R w (.panicked [flt i]) w6) from HNO.out _ w6 HRR.out (But.still HBC.out hb6))
        clear hb6 HF
        go_wp2_with fail
        exact ⟨rfl, HE.out⟩
      · rw [hw] at HW
        have x1 : w4.cell? ⟨p, 1, none⟩ = some (.int .i64 (i : Int)) := Box.cell HXC.out 1 (by simp)
        have y1 : w4.frozen? ⟨p, 1, none⟩ = false := Box.frozen HXC.out 1
        go_wp2_with fail
        refine Calls.mono HW.out ?_
        rintro e w5 ⟨rfl, rfl⟩
        clear HW
        have hb8 : PB (w5.setCell ⟨p, 1, none⟩ (.int .i64 ((i : Int) + (x.size : Int)))) p s (nd s i) (.slice ra rl.length rc) := by
          have h8 := Box.set HXC.out 1 (.int .i64 ((i : Int) + (x.size : Int)))
          have e8 : ((nd s i : Nat) : Int) = (i : Int) + (x.size : Int) := HSZ.out
          show Box _ _ _ _
          rw [e8]
          simpa using h8
        have HBL := (show Hid _ from blanks104 s (nd s i) p _ ((w5.setCell ⟨p, 1, none⟩ (.int .i64 ((i : Int) + (x.size : Int)))).drew) (Box.keep hb8 rfl) hs hn2)
        have HB8 := (show Hid (But p w ((w5.setCell ⟨p, 1, none⟩ (.int .i64 ((i : Int) + (x.size : Int)))).drew)) from But.put HBC.out _)
        have HQ8 := (show Hid (((w5.setCell ⟨p, 1, none⟩ (.int .i64 ((i : Int) + (x.size : Int)))).drew).cell? ⟨q, 0, none⟩ = some (.string x)) from cell_other xq (Ne.symm hpq))
        clear hb8
        go_wp2_with fail
        go_region
        go_wp2_with fail
        refine Calls.mono HBL.out ?_
        rintro e w6 ⟨rfl, hb6, ht6⟩
        have HX6 := (show Hid (PB w6 p s (sk s (nd s i)) (.slice ra rl.length rc)) from hb6)
        have HB6 := (show Hid (But p w w6) from But.trans HB8.out ht6)
        have q6 : w6.cell? ⟨q, 0, none⟩ = some (.string x) := But.cell ht6 (Ne.symm hpq) HQ8.out
        clear hb6 ht6 HB8 HQ8 HBL x1 y1 xq
        cases hA : (eqS x idN || eqS x failN)
        · have hA1 : eqS x idN = false := by
            cases e : eqS x idN
            · rfl
            · rw [e] at hA; cases hA
          have hA2 : eqS x failN = false := by
            cases e : eqS x failN
            · rfl
            · rw [e] at hA; simp at hA
          have HCL := (show Hid _ from behind125b x HIH.out (sk s (nd s i)) w6 R HX6.out HN2.out (But.below' HB6.out HB0.out hp) (by
            have := HRJ.out
            rw [hr, hA1, hA2, pw_yes hw hA1 hA2] at this
            simpa using this) hA1 hA2)
          unfold PdA at HCL
          clear hA hA1 hA2 hw hr HRJ
          go_wp2_with fail
          refine Calls.mono HCL.out ?_
          rintro e w7 ⟨hbt7, h7, h7'⟩
          obtain ⟨b, j⟩ := R
          cases b with
          | false =>
            obtain rfl := h7' (by first | rfl | trivial)
            have HE := (show Hid (PdA p s (.slice ra rl.length rc) (false, j) w (.panicked [flt j]) w7) from HNO.out _ w7 rfl (But.trans HB6.out hbt7))
            clear h7 h7' hbt7 HCL HYES HNO
            go_wp2_with fail
            exact ⟨rfl, HE.out⟩
          | true =>
            obtain ⟨T7, u7, rfl, hb7, hj7⟩ := h7 (by first | rfl | trivial)
            have HE := (show Hid (∀ T u, PdA p s (.slice ra rl.length rc) (true, j) w (.returned (.iface T u)) w7) from fun T u => HYES.out T u j w7 rfl (But.trans HB6.out hbt7) hb7 hj7)
            clear h7 h7' hbt7 HCL HYES HNO hb7 hj7
            go_wp2_with fail
            go_ret
            exact HE.out _ _
        · have HCL := (show Hid _ from behind125a x p w6 hA)
          have HE := (show Hid (∀ T u, PdA p s (.slice ra rl.length rc) R w (.returned (.iface T u)) w6) from fun T u => HYES.out T u (sk s (nd s i)) w6 (by
            have := HRJ.out
            rw [← Bool.or_assoc, hA] at this
            simp at this
            exact this.symm) HB6.out HX6.out HN2.out)
          clear hA hw hr HRJ
          go_wp2_with fail
          refine Calls.mono HCL.out ?_
          rintro e w7 ⟨⟨T7, u7, rfl⟩, rfl⟩
          go_wp2_with fail
          go_ret
          exact HE.out _ _
    · obtain ⟨j, rfl, hj⟩ := fdw_yes HFD.out hr
      have HRR := (show Hid (R = (true, sk s (nd s i))) from (by
        have := HRJ.out
        rw [hr] at this
        simp at this
        exact this.symm))
      clear HRJ hr HFD
      have hj0 : (0 : Int) ≤ (j : Int) := by omega
      have hj1 : (j : Int) < (rl.length : Int) := by omega
      have x1 : w4.cell? ⟨p, 1, none⟩ = some (.int .i64 (i : Int)) := Box.cell HXC.out 1 (by simp)
      have y1 : w4.frozen? ⟨p, 1, none⟩ = false := Box.frozen HXC.out 1
      have hb8 : PB (w4.setCell ⟨p, 1, none⟩ (.int .i64 ((i : Int) + (x.size : Int)))) p s (nd s i) (.slice ra rl.length rc) := by
        have h8 := Box.set HXC.out 1 (.int .i64 ((i : Int) + (x.size : Int)))
        have e8 : ((nd s i : Nat) : Int) = (i : Int) + (x.size : Int) := HSZ.out
        show Box _ _ _ _
        rw [e8]
        simpa using h8
      have HBL := (show Hid _ from blanks104 s (nd s i) p _ ((w4.setCell ⟨p, 1, none⟩ (.int .i64 ((i : Int) + (x.size : Int)))).drew) (Box.keep hb8 rfl) hs hn2)
      have HB8 := (show Hid (But p w ((w4.setCell ⟨p, 1, none⟩ (.int .i64 ((i : Int) + (x.size : Int)))).drew)) from But.put HBC.out _)
      have HQ8 := (show Hid (((w4.setCell ⟨p, 1, none⟩ (.int .i64 ((i : Int) + (x.size : Int)))).drew).cell? ⟨q, 0, none⟩ = some (.string x)) from cell_other xq (Ne.symm hpq))
      clear hb8
      go_wp2_with fail
      go_region
      go_wp2_with fail
      refine Calls.mono HBL.out ?_
      rintro e w6 ⟨rfl, hb6, ht6⟩
      have HB6 := (show Hid (But p w w6) from But.trans HB8.out ht6)
      have x2 : w6.cell? ⟨p, 2, none⟩ = some (.slice ra rl.length rc) := Box.cell hb6 2 (by simp)
      have HE := (show Hid (∀ T u, PdA p s (.slice ra rl.length rc) R w (.returned (.iface T u)) w6) from fun T u => HYES.out T u (sk s (nd s i)) w6 HRR.out HB6.out hb6 HN2.out)
      obtain ⟨a, cap, b, off, sv, tv, hv, hc, hm, ha, hx, hcell, hk1, hk2⟩ := RLy.still HRL.out (But.below' HB6.out HB0.out hp)
      simp only [Value.slice.injEq] at hv
      obtain ⟨ea, _, ec⟩ := hv
      rw [ha (by omega)] at ea
      obtain ⟨c0, c1, c2, c3, c4, c5, c6, c7, c8⟩ := hcell j hj
      subst ea
      clear hb6 ht6 HB8 HQ8 HBL x1 y1 xq hcell hk1 hk2 hx ha ec hc hm
      go_wp2_with fail
      go_ret
      exact HE.out _ _
end Go.Proofs.Ytkkhdkfmaopmfaa
