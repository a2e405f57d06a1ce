import Derived.Test.YteomgkcgjkbppaaKn
import Derived.Laws.RangeString
import Derived.Lib.OthersKept
/-! The program's reader of plans: sees, fault, pass, blanks, sign. -/
namespace Go.Proofs.Yteomgkcgjkbppaa
open Go.RowKit Go.Deep Go.Lib Go.ChangeShapes Go.WideShapes
set_option linter.unusedVariables false
set_option maxRecDepth 100000
set_option linter.unusedSimpArgs false

/-- What the program's reader panics with. -/
abbrev flt (k : Nat) : PanicEntry := { v := .iface 133 (.agg #[.int .i64 2, .int .i64 (k : Int)]), recovered := false }
/-- The program's reader, and where it stands. -/
abbrev PB (w : World) (p : Nat) (s : ByteArray) (i : Nat) (rv : Value) : Prop := Box w p 139 [.string s, .int .i64 (i : Int), rv]
set_option maxHeartbeats 1600000 in
theorem sees113 (s : ByteArray) (c i p : Nat) (rv : Value) (w : World) (h : PB w p s i rv) (hs : s.size ≤ 300) :
    Calls Try.prog 113 #[.pointer (some ⟨p, 0, none⟩), .int .u8 c] w fun e w' => e = .returned (.bool (decide (bt s i = (c : Int)))) ∧ PB w' p s i rv ∧ But p w w' := by
  have x0 : w.cell? ⟨p, 0, none⟩ = some (.string s) := h.cell 0 (by simp)
  have x1 : w.cell? ⟨p, 1, none⟩ = some (.int .i64 (i : Int)) := h.cell 1 (by simp)
  have HX := (show Hid _ from h)
  have hi0 : (0 : Int) ≤ (i : Int) := by omega
  clear h
  by_cases hlt : i < s.size
  · have hlt' : (i : Int) < (s.size : Int) := by omega
    go_enter Try.func113, Try.ntmps113
    go_wp2_with fail
    go_quiet (fail)
    go_wp2_with fail
    go_ret
    refine ⟨ret_bool ?_, HX.out.keep rfl, But.drewN (But.refl _ _) _⟩
    rw [bt_at hlt]
    rfl
  · have hlt' : ¬ ((i : Int) < (s.size : Int)) := by omega
    go_enter Try.func113, Try.ntmps113
    go_wp2_with fail
    go_quiet (fail)
    go_wp2_with fail
    go_ret
    refine ⟨ret_bool ?_, HX.out.keep rfl, But.drewN (But.refl _ _) _⟩
    rw [bt_end (by omega), decide_eq_false (by omega)]
theorem fault106 (s : ByteArray) (i p : Nat) (rv : Value) (w : World) (h : PB w p s i rv) :
    Calls Try.prog 106 #[.pointer (some ⟨p, 0, none⟩)] w fun e w' => e = .returned (.agg #[.int .i64 2, .int .i64 (i : Int)]) ∧ Below w.heap.size w w' := by
  have h1 := h.still (bel_alloc w (.cells #[.int .i64 0, .int .i64 0] 133))
  have x1 : (w.alloc (.cells #[.int .i64 0, .int .i64 0] 133)).cell? ⟨p, 1, none⟩ = some (.int .i64 (i : Int)) := h1.cell 1 (by simp)
  clear h h1
  go_enter Try.func106, Try.ntmps106
  go_wp2_with fail
  refine bodyPost_ret (v := .agg #[.int .i64 2, .int .i64 (i : Int)]) (by simp [results, Try.results106, go_sem]) rfl ⟨rfl, ?_⟩
  exact bel_alloc _ _
/-- What a sign's passing leaves: the reader behind it, or a panic. -/
def PsA (p : Nat) (s : ByteArray) (rv : Value) (b : Bool) (i j : Nat) (w : World) (e : Ending) (w' : World) : Prop :=
  But p w w' ∧ (b = true → e = .returned (.tuple #[]) ∧ PB w' p s j rv) ∧ (b = false → e = .panicked [flt i])
set_option maxHeartbeats 1600000 in
theorem pass119 (s : ByteArray) (c i p : Nat) (rv : Value) (w : World) (h : PB w p s i rv) (hs : s.size ≤ 300) (hi : i ≤ s.size) :
    Calls Try.prog 120 #[.pointer (some ⟨p, 0, none⟩), .int .u8 c] w (PsA p s rv (decide (bt s i = (c : Int))) i (i + 1) w) := by
  have HS := (show Hid _ from sees113 s c i p rv w h hs)
  clear h
  cases hd : decide (bt s i = (c : Int))
  · rw [hd] at HS
    clear hd
    go_enter Try.func120, Try.ntmps120
    go_wp2_with fail
    refine Calls.mono HS.out ?_
    rintro e w1 ⟨rfl, hb1, ht1⟩
    have HF := (show Hid _ from fault106 s i p rv w1 hb1)
    have HT := (show Hid _ from ht1)
    clear hb1 ht1 HS
    go_wp2_with fail
    refine Calls.mono HF.out ?_
    rintro e w2 ⟨rfl, hb2⟩
    have HB2 := (show Hid _ from hb2)
    clear hb2 HF
    go_wp2_with fail
    exact ⟨rfl, But.still HT.out HB2.out, fun h => (by cases h), fun _ => rfl⟩
  · rw [hd] at HS
    clear hd
    go_enter Try.func120, Try.ntmps120
    go_wp2_with fail
    refine Calls.mono HS.out ?_
    rintro e w1 ⟨rfl, hb1, ht1⟩
    have x1 : w1.cell? ⟨p, 1, none⟩ = some (.int .i64 (i : Int)) := hb1.cell 1 (by simp)
    have y1 : w1.frozen? ⟨p, 1, none⟩ = false := hb1.frozen 1
    have hb2 := hb1.set 1 (.int .i64 ((i + 1 : Nat) : Int))
    have hb3 : PB (w1.setCell ⟨p, 1, none⟩ (.int .i64 ((i + 1 : Nat) : Int))) p s (i + 1) rv := by (show Box _ _ _ _; simpa using hb2)
    have H2 := (show Hid _ from hb3)
    have HT := (show Hid _ from ht1)
    clear hb1 ht1 HS hb2 hb3
    go_wp2_with fail
    go_end0
    exact ⟨But.put HT.out _, fun _ => ⟨rfl, H2.out⟩, fun h => (by cases h)⟩
set_option maxHeartbeats 1600000 in
theorem blanks104 (s : ByteArray) (i p : Nat) (rv : Value) (w : World) (h : PB w p s i rv) (hs : s.size ≤ 300) (hi : i ≤ s.size) :
    Calls Try.prog 104 #[.pointer (some ⟨p, 0, none⟩)] w fun e w' => e = .returned (.tuple #[]) ∧ PB w' p s (sk s i) rv ∧ But p w w' := by
  have HBX := (show Hid _ from h); clear h
  go_enter Try.func104, Try.ntmps104
  go_wp2_with fail
  go_loopw [] (fun wr => ∃ j : Nat, i ≤ j ∧ j ≤ s.size ∧ Hid (But p w wr ∧ PB wr p s j rv ∧ sk s i = sk s j)) (fun wr => s.size - (intOf ((wr.cell? ⟨p, 1, none⟩).getD (.bool false))).toNat)
  case atStart => exact ⟨i, Nat.le_refl _, hi, But.of_below (Below.refl _ _), HBX.out, rfl⟩
  case round =>
    obtain ⟨j, hij, hj, HR⟩ := hrel
    have HS := (show Hid _ from sees113 s 32 j p rv wr HR.out.2.1 hs)
    by_cases h32 : bt s j = 32
    · have HSK := (show Hid (sk s i = sk s (j + 1)) from HR.out.2.2.trans (past_step (p := blB) (by unfold blB; exact decide_eq_true h32) (bt_lt h32 (by omega))))
      have hjl := bt_lt h32 (by omega)
      rw [show decide (bt s j = ((32 : Nat) : Int)) = true from decide_eq_true h32] at HS
      clear h32
      go_wp2_with fail
      refine Calls.mono HS.out ?_
      rintro e w1 ⟨rfl, hb1, ht1⟩
      have x1 : w1.cell? ⟨p, 1, none⟩ = some (.int .i64 (j : Int)) := hb1.cell 1 (by simp)
      have y1 : w1.frozen? ⟨p, 1, none⟩ = false := hb1.frozen 1
      have hb2 := hb1.set 1 (.int .i64 ((j + 1 : Nat) : Int))
      have hb3 : PB (w1.setCell ⟨p, 1, none⟩ (.int .i64 ((j + 1 : Nat) : Int))) p s (j + 1) rv := by (show Box _ _ _ _; simpa using hb2)
      have H2 := (show Hid _ from hb3)
      have HT := (show Hid _ from But.put (o := 1) (But.trans HR.out.1 ht1) (.int .i64 ((j + 1 : Nat) : Int)))
      clear hb1 ht1 HS hb2 hb3
      go_wp2_with fail
      refine ⟨⟨j + 1, by omega, by omega, HT.out, H2.out, HSK.out⟩, ?_⟩
      have m1 := Box.cell H2.out 1 (by simp)
      have m2 := Box.cell HR.out.2.1 1 (by simp)
      rw [show ((j + 1 : Nat) : Int) = (j : Int) + 1 from rfl] at m1
      rw [m1, m2]
      simp [intOf]
      omega
    · have HSK := (show Hid (sk s i = j) from HR.out.2.2.trans (past_stop (p := blB) (by unfold blB; exact decide_eq_false h32)))
      rw [show decide (bt s j = ((32 : Nat) : Int)) = false from decide_eq_false h32] at HS
      clear h32
      go_wp2_with fail
      refine Calls.mono HS.out ?_
      rintro e w1 ⟨rfl, hb1, ht1⟩
      have HT := (show Hid _ from But.trans HR.out.1 ht1)
      have H2 := (show Hid _ from hb1)
      clear hb1 ht1 HS
      go_wp2_with fail
      go_end0
      rw [HSK.out]
      exact ⟨rfl, H2.out, HT.out⟩
set_option maxHeartbeats 1600000 in
theorem sign117 (s : ByteArray) (c i p : Nat) (rv : Value) (w : World) (h : PB w p s i rv) (hs : s.size ≤ 300) (hi : i ≤ s.size) (hc : 0 < c) :
    Calls Try.prog 118 #[.pointer (some ⟨p, 0, none⟩), .int .u8 c] w (PsA p s rv (decide (bt s i = (c : Int))) i (sk s (i + 1)) w) := by
  have HP := (show Hid _ from pass119 s c i p rv w h hs hi)
  unfold PsA at HP
  clear h
  by_cases hd : bt s i = (c : Int)
  · have hl := bt_lt hd (by omega)
    rw [show decide (bt s i = (c : Int)) = true from decide_eq_true hd] at HP ⊢
    clear hd
    go_enter Try.func118, Try.ntmps118
    go_wp2_with fail
    refine Calls.mono HP.out ?_
    rintro e w1 ⟨ht1, h1, _⟩
    obtain ⟨rfl, hb1⟩ := h1 (by first | rfl | trivial)
    have HB := (show Hid _ from blanks104 s (i + 1) p rv w1 hb1 hs (by omega))
    have HT := (show Hid _ from ht1)
    clear hb1 ht1 HP h1
    go_wp2_with fail
    refine Calls.mono HB.out ?_
    rintro e w2 ⟨rfl, hb2, ht2⟩
    have H2 := (show Hid _ from hb2)
    have HT2 := (show Hid _ from But.trans HT.out ht2)
    clear hb2 ht2 HB HT
    go_wp2_with fail
    go_end0
    exact ⟨HT2.out, fun _ => ⟨rfl, H2.out⟩, fun h => (by cases h)⟩
  · rw [show decide (bt s i = (c : Int)) = false from decide_eq_false hd] at HP ⊢
    clear hd
    go_enter Try.func118, Try.ntmps118
    go_wp2_with fail
    refine Calls.mono HP.out ?_
    rintro e w1 ⟨ht1, _, h1⟩
    obtain rfl := h1 (by first | rfl | trivial)
    have HT := (show Hid _ from ht1)
    clear ht1 HP h1
    go_wp2_with fail
    exact ⟨rfl, HT.out, fun h => (by cases h), fun _ => rfl⟩
end Go.Proofs.Yteomgkcgjkbppaa

/-! The program's reader of plans: the bytes of a name, the rule of a name. -/
namespace Go.Proofs.Yteomgkcgjkbppaa
open Go.RowKit Go.Deep Go.Lib Go.ChangeShapes Go.WideShapes
set_option linter.unusedVariables false
set_option maxRecDepth 100000
set_option linter.unusedSimpArgs false

theorem letR126 (c : Int) (w : World) : Calls Try.prog 127 #[.int .i32 c] w fun e w' => e = .returned (.bool (letB c)) ∧ w' = w := by
  by_cases h1 : 97 ≤ c <;> by_cases h2 : c ≤ 122 <;> by_cases h3 : 65 ≤ c <;> by_cases h4 : c ≤ 90 <;> first | (exfalso; omega) | skip
  all_goals
    go_enter Try.func127, Try.ntmps127
    go_wp2_with fail
    go_ret
    exact ⟨ret_bool (by simp [letB]; try omega), rfl⟩
theorem digR127 (c : Int) (w : World) : Calls Try.prog 128 #[.int .i32 c] w fun e w' => e = .returned (.bool (digB c)) ∧ w' = w := by
  by_cases h1 : 48 ≤ c <;> by_cases h2 : c ≤ 57 <;> first | (exfalso; omega) | skip
  all_goals
    go_enter Try.func128, Try.ntmps128
    go_wp2_with fail
    go_ret
    exact ⟨ret_bool (by simp [digB]; try omega), rfl⟩
theorem sgnR122 (c : Int) (w : World) : Calls Try.prog 123 #[.int .i32 c] w fun e w' => e = .returned (.bool (nbB c)) ∧ w' = w := by
  go_enter Try.func123, Try.ntmps123
  go_wp2_with fail
  refine (letR126 c _).mono ?_
  rintro e w' ⟨rfl, rfl⟩
  cases h1 : letB c
  · go_wp2_with fail
    refine (digR127 c _).mono ?_
    rintro e w' ⟨rfl, rfl⟩
    cases h2 : digB c
    · by_cases h3 : c = 95
      · go_wp2_with fail
        go_ret
        exact ⟨ret_bool (by simp [nbB, h3]), rfl⟩
      · go_wp2_with fail
        go_ret
        exact ⟨ret_bool (by simp [nbB, h1, h2, h3]), rfl⟩
    · go_wp2_with fail
      go_ret
      exact ⟨ret_bool (by simp [nbB, h2]), rfl⟩
  · go_wp2_with fail
    go_ret
    exact ⟨ret_bool (by simp [nbB, h1]), rfl⟩
theorem nb_big {c : Int} (h : 128 ≤ c) : nbB c = false := by
  unfold nbB letB digB
  simp
  omega
theorem decode_big (s : ByteArray) (i : Nat) (h : 128 ≤ (s.get! i).toNat) : 128 ≤ (Utf8.decode s i).1 := by
  unfold Utf8.decode
  simp only [Nat.add_zero]
  rw [if_neg (by omega)]
  repeat' split
  all_goals first | (simp only [Utf8.runeError]; omega) | (rename_i h2; simp only [ge_iff_le, Bool.and_eq_true, decide_eq_true_eq] at h2; omega) | (rename_i h2; simp only [ge_iff_le] at h2; omega)
theorem iter_next (w : World) (s : ByteArray) (pos : Nat) (ty : TypeId) (h : pos < s.size) :
    (Instr.next (.pointer (some ⟨w.heap.size, 0, none⟩)) true ty).run Try.prog (w.iter s pos) = .ok (.tuple #[.bool true, .int .i64 pos, .int .i32 (Utf8.decode s pos).1]) (w.iter s (pos + (Utf8.decode s pos).2)) := by
  rw [Lib.run_next_any_at (w.iter s pos) w.heap.size s pos ty (World.iter_heap w s pos) h]
  rw [show (w.iter s pos).iterAt w.heap.size s (pos + (Utf8.decode s pos).2) = w.iter s (pos + (Utf8.decode s pos).2) from World.iter_set w s pos _]
/-- Where an iterator stands. -/
def itp (g : Nat) (w : World) : Nat := match w.heap[g]? with
  | some (.stringIter _ p) => p
  | _ => 0
theorem itp_iter (w : World) (s : ByteArray) (j : Nat) : itp w.heap.size (w.iter s j) = j := by
  unfold itp
  rw [World.iter_heap]
set_option maxHeartbeats 1600000 in
theorem span121 (s : ByteArray) (hs : s.size ≤ maxLen) (w : World) :
    Calls Try.prog 122 #[.string s, .func (.func 123) #[] #[]] w fun e w' => e = .returned (.int .i64 (nd s 0 : Nat)) ∧ Below w.heap.size w w' := by
  unfold maxLen at hs
  have HP := (show Hid _ from fun (c : Int) (w : World) => sgnR122 c w)
  go_enter Try.func122, Try.ntmps122
  go_wp2_with fail
  go_loopw [] (fun wr => ∃ j : Nat, j ≤ s.size ∧ wr = w.iter s j ∧ Hid (nd s 0 = nd s j)) (fun wr => s.size - itp w.heap.size wr)
  case atStart => exact ⟨0, Nat.zero_le _, rfl, rfl⟩
  case round =>
    obtain ⟨j, hj, rfl, HJ⟩ := hrel
    by_cases hlt : j < s.size
    · by_cases hb : s[j].toNat < 128
      · have hnx := fun ty => run_next_ascii (P := Try.prog) w s j ty hlt hb
        have HC := (show Hid _ from fun w => HP.out (s[j].toNat : Int) w)
        cases hp : nbB (s[j].toNat : Int)
        · have HF := (show Hid (nd s 0 = j) from HJ.out.trans (past_stop (p := nbB) (by rw [bt_at hlt]; exact hp)))
          rw [hp] at HC
          clear hp
          go_wp2_with fail
          go_at_call 123
          refine Calls.mono (HC.out _) ?_
          rintro e w1 ⟨rfl, rfl⟩
          go_wp2_with fail
          go_ret
          exact ⟨by rw [HF.out]; rfl, bel_alloc _ _⟩
        · have HN := (show Hid (nd s 0 = nd s (j + 1)) from HJ.out.trans (past_step (p := nbB) (by rw [bt_at hlt]; exact hp) hlt))
          rw [hp] at HC
          clear hp
          go_wp2_with fail
          go_at_call 123
          refine Calls.mono (HC.out _) ?_
          rintro e w1 ⟨rfl, rfl⟩
          go_wp2_with fail
          exact ⟨⟨j + 1, by omega, rfl, HN⟩, by rw [itp_iter, itp_iter]; omega⟩
      · have hnx := fun ty => iter_next w s j ty hlt
        have hbig := decode_big s j (by rw [get!_eq s j hlt]; omega)
        have hp1 : nbB (s[j].toNat : Int) = false := nb_big (by omega)
        have HF := (show Hid (nd s 0 = j) from HJ.out.trans (past_stop (p := nbB) (by rw [bt_at hlt]; exact hp1)))
        generalize Utf8.decode s j = D at *
        have hp : nbB (D.1 : Int) = false := nb_big (by omega)
        have HC := (show Hid _ from fun w => HP.out (D.1 : Int) w)
        rw [hp] at HC
        clear hp hp1
        go_wp2_with fail
        go_at_call 123
        refine Calls.mono (HC.out _) ?_
        rintro e w1 ⟨rfl, rfl⟩
        go_wp2_with fail
        go_ret
        exact ⟨by rw [HF.out]; rfl, bel_alloc _ _⟩
    · have hnx := fun ty => run_next_end (P := Try.prog) w s j ty hlt
      have HF := (show Hid (nd s 0 = s.size) from HJ.out.trans ((past_end (p := nbB) (by omega)).trans (by omega)))
      go_wp2_with fail
      go_ret
      exact ⟨by rw [HF.out]; rfl, bel_alloc _ _⟩
theorem bt_ext (s : ByteArray) (i j : Nat) : bt (s.extract i s.size) j = bt s (i + j) := by
  by_cases h : i + j < s.size
  · rw [bt_at h, bt_at (by rw [ByteArray.size_extract]; omega)]
    simp [ByteArray.getElem_extract]
  · rw [bt_end (s := s.extract i s.size) (by rw [ByteArray.size_extract]; omega), bt_end (s := s) (by omega)]
theorem pastF_ext (p : Int → Bool) (s : ByteArray) (i : Nat) : ∀ n j, i + pastF p (s.extract i s.size) n j = pastF p s n (i + j)
  | 0, j => rfl
  | n + 1, j => by
    rw [pastF, pastF, bt_ext]
    split
    · rw [pastF_ext p s i n (j + 1)]
      rfl
    · rfl
theorem nd_ext {s : ByteArray} {i : Nat} (h : i ≤ s.size) : i + nd (s.extract i s.size) 0 = nd s i := by
  unfold nd past
  rw [pastF_ext, ByteArray.size_extract]
  simp
theorem ext_ext {s : ByteArray} {i j : Nat} (h : j ≤ s.size) : (s.extract i s.size).extract 0 (j - i) = s.extract i j := by
  rw [ByteArray.extract_extract]
  by_cases h2 : i ≤ j
  · congr 1 <;> omega
  · have e1 : (s.extract (i + 0) (min (i + (j - i)) s.size)).size = 0 := by rw [ByteArray.size_extract]; omega
    have e2 : (s.extract i j).size = 0 := by rw [ByteArray.size_extract]; omega
    rw [ByteArray.size_eq_zero_iff.1 e1, ByteArray.size_eq_zero_iff.1 e2]
theorem eqS_bytes (n x : ByteArray) : (n.toList == x.toList) = eqS n x := by
  by_cases e : n = x
  · subst e
    rw [eqS_refl]
    simp
  · rw [eqS_no e]
    exact ne_bytes e
theorem clo124 (n x : ByteArray) (b1 b2 b3 b4 b5 b6 b7 b8 : Value) (q : Nat) (w : World) (h : w.cell? ⟨q, 0, none⟩ = some (.string x)) :
    Calls Try.prog 125 #[.agg #[.string n, b1, b2, b3, b4, b5, b6, b7, b8], .pointer (some ⟨q, 0, none⟩)] w fun e w' => e = .returned (.bool (eqS n x)) ∧ Below w.heap.size w w' := by
  have hc : (w.alloc (.cells #[.string n, b1, b2, b3, b4, b5, b6, b7, b8] 98)).cell? ⟨q, 0, none⟩ = some (.string x) := ((bel_alloc w _).cell (lt_of_cell h)).trans h
  have c0 : (w.alloc (.cells #[.string n, b1, b2, b3, b4, b5, b6, b7, b8] 98)).cell? ⟨w.heap.size, 0, none⟩ = some (.string n) := (Box.new w 98 [.string n, b1, b2, b3, b4, b5, b6, b7, b8]).cell 0 (by simp)
  have hd := eqS_bytes n x
  clear h
  cases he : eqS n x
  all_goals
    rw [he] at hd
    clear he
    go_enter Try.func125, Try.ntmps125
    go_wp2_with fail
    go_ret
    exact ⟨rfl, bel_alloc _ _⟩
set_option maxHeartbeats 1600000 in
theorem index123 (rl : List Rw) (x : ByteArray) (q : Nat) (v : Value) (w : World) (h : RLy w rl v) (hq : w.cell? ⟨q, 0, none⟩ = some (.string x)) :
    Calls Try.prog 124 #[v, .func (.func 125) #[] #[.pointer (some ⟨q, 0, none⟩)]] w fun e w' => ∃ i : Int, e = .returned (.int .i64 i) ∧ FdW rl x i ∧ Below w.heap.size w w' := by
  obtain ⟨a, cap, b, off, sv, tv, rfl, hc, hm, ha, hx, hcell, hk, hk'⟩ := h
  clear hx
  unfold maxLen at hm
  have HC := (show Hid _ from hcell); clear hcell
  have HK := (show Hid _ from hk); clear hk
  have HK' := (show Hid _ from hk'); clear hk'
  have HA := (show Hid _ from ha); clear ha
  have HQ := (show Hid _ from hq); clear hq
  go_enter Try.func124, Try.ntmps124
  go_wp2_with fail
  go_loopw [8] (fun i wr => ∃ j : Nat, i = .int .i64 j ∧ j ≤ rl.length ∧ Hid (Below w.heap.size w wr) ∧ Hid (∀ i (hi : i < rl.length), i < j → ¬ rl[i].name = x)) (fun i _ => rl.length - (intOf i).toNat)
  case atStart => exact ⟨0, rfl, Nat.zero_le _, Below.refl _ _, fun i _ h => absurd h (Nat.not_lt_zero _)⟩
  case round =>
    obtain ⟨j, rfl, hj, HB, HJ⟩ := hrel
    by_cases hlt : j < rl.length
    · have q1 : (j : Int) < (rl.length : Int) := by omega
      have q0 : (0 : Int) ≤ (j : Int) := by omega
      have hbel := HB.out
      obtain rfl := HA.out (by omega)
      obtain ⟨c0, c1, c2, c3, c4, c5, c6, c7, c8⟩ := HC.out j hlt
      rw [← hbel.cell (lt_of_cell c0)] at c0
      rw [← hbel.cell (lt_of_cell c1)] at c1
      rw [← hbel.cell (lt_of_cell c2)] at c2
      rw [← hbel.cell (lt_of_cell c3)] at c3
      rw [← hbel.cell (lt_of_cell c4)] at c4
      rw [← hbel.cell (lt_of_cell c5)] at c5
      rw [← hbel.cell (lt_of_cell c6)] at c6
      rw [← hbel.cell (lt_of_cell c7)] at c7
      rw [← hbel.cell (lt_of_cell c8)] at c8
      obtain ⟨a4, l4, p4, e4⟩ := (HK.out j hlt).form
      obtain ⟨a5, l5, p5, e5⟩ := (HK'.out j hlt).form
      rw [e4] at c4
      rw [e5] at c8
      have HCL := (show Hid _ from clo124 rl[j].name x (.string rl[j].left.name) (.string rl[j].left.text) (.bool rl[j].left.leaf) (.slice a4 l4 p4) (.string rl[j].right.name) (.string rl[j].right.text) (.bool rl[j].right.leaf) (.slice a5 l5 p5) q wr ((hbel.cell (lt_of_cell HQ.out)).trans HQ.out))
      have HNX := (show Hid (eqS rl[j].name x = false → ∀ i (hi : i < rl.length), i < j + 1 → ¬ rl[i].name = x) from fun h i hi hij => by
        by_cases e : i = j
        · subst e; intro h2; rw [eqS_iff.2 h2] at h; cases h
        · exact HJ.out i hi (by omega))
      have HFX := (show Hid (eqS rl[j].name x = true → FdW rl x (j : Int)) from fun h => .inr ⟨j, rfl, hlt, eqS_iff.1 h, nms_take_no (fun i hi hij => HJ.out i hi hij)⟩)
      have HB2 := (show Hid _ from hbel)
      clear hbel e4 e5 HJ HB
      generalize eqS rl[j].name x = r at *
      generalize rl[j].name = y0 at *
      generalize rl[j].left.name = y1 at *
      generalize rl[j].left.text = y2 at *
      generalize rl[j].left.leaf = y3 at *
      generalize rl[j].right.name = y5 at *
      generalize rl[j].right.text = y6 at *
      generalize rl[j].right.leaf = y7 at *
      go_wp2_with fail
      go_at_call 125
      refine Calls.mono HCL.out ?_
      rintro e w1 ⟨rfl, hb1⟩
      have HB3 := (show Hid (Below w.heap.size w w1) from bel_trans HB2.out hb1)
      clear hb1 HB2 HCL
      clear c0 c1 c2 c3 c4 c5 c6 c7 c8
      cases r
      · have HF := (show Hid _ from HNX.out rfl)
        clear HNX HFX
        go_wp2_with fail
        exact ⟨⟨j + 1, by go_num, by omega, HB3, HF⟩, by simp [intOf]; omega⟩
      · have HF := (show Hid _ from HFX.out rfl)
        clear HNX HFX
        go_wp2_with fail
        go_ret
        exact ⟨(j : Int), rfl, HF.out, HB3.out⟩
    · have q1 : ¬ ((j : Int) < (rl.length : Int)) := by omega
      have HF := (show Hid (FdW rl x (-1)) from .inl ⟨rfl, by
        have := nms_take_no (rl := rl) (s := x) (j := rl.length) (fun i hi _ => HJ.out i hi (by omega))
        rwa [List.take_length] at this⟩)
      go_wp2_with fail
      go_ret
      exact ⟨-1, rfl, HF.out, HB.out⟩
end Go.Proofs.Yteomgkcgjkbppaa
