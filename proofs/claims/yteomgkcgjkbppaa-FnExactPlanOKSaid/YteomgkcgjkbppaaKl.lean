import Derived.Test.YteomgkcgjkbppaaKe
import Derived.Test.YteomgkcgjkbppaaBxs
import Derived.BigQuiet
import Derived.Deep.QuietTactic
/-! Pure: how a plan is read. -/
namespace Go.Proofs.Yteomgkcgjkbppaa
open Go.RowKit Go.Deep Go.Lib Go.ChangeShapes Go.WideShapes
set_option linter.unusedVariables false
set_option maxRecDepth 100000
set_option linter.unusedSimpArgs false

/-- The byte at a place, or -1 behind the end. -/
def bt (s : ByteArray) (i : Nat) : Int := if h : i < s.size then (s[i].toNat : Int) else -1
theorem bt_at {s : ByteArray} {i : Nat} (h : i < s.size) : bt s i = (s[i].toNat : Int) := by unfold bt; rw [dif_pos h]
theorem bt_end {s : ByteArray} {i : Nat} (h : s.size ≤ i) : bt s i = -1 := by unfold bt; rw [dif_neg (by omega)]
theorem bt_lt {s : ByteArray} {i : Nat} {c : Int} (h : bt s i = c) (hc : 0 ≤ c) : i < s.size := by
  by_cases e : i < s.size
  · exact e
  · rw [bt_end (by omega)] at h
    omega
/-- The first place from i on, so many at the most, whose byte is not of the kind. -/
def pastF (p : Int → Bool) (s : ByteArray) : Nat → Nat → Nat
  | 0, i => i
  | n + 1, i => if p (bt s i) = true then pastF p s n (i + 1) else i
def past (p : Int → Bool) (s : ByteArray) (i : Nat) : Nat := pastF p s (s.size - i) i
theorem pastF_le (p : Int → Bool) (s : ByteArray) : ∀ n i, i ≤ pastF p s n i ∧ pastF p s n i ≤ i + n
  | 0, i => ⟨Nat.le_refl _, Nat.le_refl _⟩
  | n + 1, i => by
    rw [pastF]
    split
    · have := pastF_le p s n (i + 1)
      omega
    · omega
theorem past_le (p : Int → Bool) (s : ByteArray) (i : Nat) : i ≤ past p s i := (pastF_le p s _ i).1
theorem past_size {p : Int → Bool} {s : ByteArray} {i : Nat} (h : i ≤ s.size) : past p s i ≤ s.size := by
  have := (pastF_le p s (s.size - i) i).2
  unfold past
  omega
theorem past_step {p : Int → Bool} {s : ByteArray} {i : Nat} (hp : p (bt s i) = true) (hi : i < s.size) : past p s i = past p s (i + 1) := by
  unfold past
  rw [show s.size - i = (s.size - (i + 1)) + 1 by omega, pastF, if_pos hp]
theorem past_stop {p : Int → Bool} {s : ByteArray} {i : Nat} (hp : p (bt s i) = false) : past p s i = i := by
  unfold past
  cases e : s.size - i with
  | zero => rfl
  | succ n => rw [pastF, if_neg (by rw [hp]; simp)]
theorem past_end {p : Int → Bool} {s : ByteArray} {i : Nat} (h : s.size ≤ i) : past p s i = i := by
  unfold past
  rw [show s.size - i = 0 by omega]
  rfl
def blB (c : Int) : Bool := decide (c = 32)
/-- The place behind blanks. -/
def sk (s : ByteArray) (i : Nat) : Nat := past blB s i
/-- The place behind the bytes of a name. -/
def nd (s : ByteArray) (i : Nat) : Nat := past nbB s i
/-- Reading: by fuel, what is to be read (0 a prim, 1 parts with ; between them, 2 with |, else a plan in brackets), and the place, where no blank stands. Nothing: out of fuel. True: read up to there, the blanks behind it too. False: a fault there. rn: the rules' names. -/
def rd (s : ByteArray) (rn : ByteArray → Bool) : Nat → Nat → Nat → Option (Bool × Nat)
  | 0, _, _ => none
  | f + 1, 0, i =>
    if bt s i = 40 then rd s rn f 3 i
    else if (eqS (s.extract i (nd s i)) idN || (eqS (s.extract i (nd s i)) failN || rn (s.extract i (nd s i)))) = true then some (true, sk s (nd s i))
    else if hasS pw7 (s.extract i (nd s i)) = true then rd s rn f 3 (sk s (nd s i))
    else some (false, i)
  | f + 1, 1, i => match rd s rn f 0 i with
    | some (true, j) => if bt s j = 59 then rd s rn f 1 (sk s (j + 1)) else some (true, j)
    | r => r
  | f + 1, 2, i => match rd s rn f 1 i with
    | some (true, j) => if bt s j = 124 then rd s rn f 2 (sk s (j + 1)) else some (true, j)
    | r => r
  | f + 1, _ + 3, i =>
    if bt s i = 40 then (match rd s rn f 2 (sk s (i + 1)) with
      | some (true, j) => if bt s j = 41 then some (true, sk s (j + 1)) else some (false, j)
      | r => r)
    else some (false, i)
/-- How much fuel is enough. -/
def fu (k m : Nat) : Nat := 4 * m + (match k with | 0 => 2 | 1 => 3 | 2 => 4 | _ => 1)
theorem pw7_ne {x : ByteArray} (h : hasS pw7 x = true) : 0 < x.size := by
  have := hasS_mem h
  simp [pw7] at this
  rcases this with rfl | rfl | rfl | rfl | rfl | rfl | rfl <;> decide
theorem extract_ne {s : ByteArray} {i e : Nat} (h : 0 < (s.extract i e).size) : i < e := by
  rw [ByteArray.size_extract] at h
  omega
/-- With enough fuel it is read, and what was read is more than nothing. -/
theorem rd_some (s : ByteArray) (rn : ByteArray → Bool) (hrn : ∀ x, rn x = true → 0 < x.size) : ∀ f k i, i ≤ s.size → fu k (s.size - i) ≤ f → ∃ b j, rd s rn f k i = some (b, j) ∧ j ≤ s.size ∧ i ≤ j ∧ (b = true → i < j)
  | 0, k, i, hi, h => by
    unfold fu at h
    split at h <;> omega
  | f + 1, 0, i, hi, h => by
    have hn := past_le nbB s i
    have hn2 := past_size (p := nbB) hi
    rw [rd]
    split
    · rename_i h40
      exact rd_some s rn hrn f 3 i hi (by simp only [fu] at h ⊢; omega)
    · split
      · rename_i _ hw
        have hs1 := past_le blB s (nd s i)
        have hs2 := past_size (p := blB) (s := s) (i := nd s i) hn2
        have hlt : i < nd s i := by
          refine extract_ne (s := s) ?_
          rcases Bool.or_eq_true_iff.1 hw with q | q
          · rw [eqS_iff] at q
            rw [q]
            decide
          · rcases Bool.or_eq_true_iff.1 q with q | q
            · rw [eqS_iff] at q
              rw [q]
              decide
            · exact hrn _ q
        refine ⟨true, _, rfl, hs2, ?_, fun _ => ?_⟩
        · have : nd s i ≤ sk s (nd s i) := hs1
          omega
        · have : nd s i ≤ sk s (nd s i) := hs1
          omega
      · split
        · rename_i _ _ hw
          have hs1 : nd s i ≤ sk s (nd s i) := past_le blB s (nd s i)
          have hs2 : sk s (nd s i) ≤ s.size := past_size (p := blB) (s := s) (i := nd s i) hn2
          have hlt := extract_ne (pw7_ne hw)
          obtain ⟨b, j, h1, h2, h3, h4⟩ := rd_some s rn hrn f 3 (sk s (nd s i)) hs2 (by simp only [fu] at h ⊢; omega)
          exact ⟨b, j, h1, h2, by omega, fun _ => by omega⟩
        · exact ⟨false, i, rfl, hi, Nat.le_refl _, fun h => by cases h⟩
  | f + 1, 1, i, hi, h => by
    obtain ⟨b, j, h1, h2, h3, h4⟩ := rd_some s rn hrn f 0 i hi (by simp only [fu] at h ⊢; omega)
    rw [rd, h1]
    cases b with
    | false => exact ⟨false, j, rfl, h2, h3, fun h => by cases h⟩
    | true =>
      have h5 := h4 rfl
      dsimp only
      split
      · rename_i hc
        have hj := bt_lt hc (by omega)
        have hs1 : j + 1 ≤ sk s (j + 1) := past_le blB s (j + 1)
        have hs2 : sk s (j + 1) ≤ s.size := past_size (p := blB) (s := s) (i := j + 1) hj
        obtain ⟨b', j', g1, g2, g3, g4⟩ := rd_some s rn hrn f 1 (sk s (j + 1)) hs2 (by simp only [fu] at h ⊢; omega)
        exact ⟨b', j', g1, g2, by omega, fun _ => by omega⟩
      · exact ⟨true, j, rfl, h2, h3, fun _ => h5⟩
  | f + 1, 2, i, hi, h => by
    obtain ⟨b, j, h1, h2, h3, h4⟩ := rd_some s rn hrn f 1 i hi (by simp only [fu] at h ⊢; omega)
    rw [rd, h1]
    cases b with
    | false => exact ⟨false, j, rfl, h2, h3, fun h => by cases h⟩
    | true =>
      have h5 := h4 rfl
      dsimp only
      split
      · rename_i hc
        have hj := bt_lt hc (by omega)
        have hs1 : j + 1 ≤ sk s (j + 1) := past_le blB s (j + 1)
        have hs2 : sk s (j + 1) ≤ s.size := past_size (p := blB) (s := s) (i := j + 1) hj
        obtain ⟨b', j', g1, g2, g3, g4⟩ := rd_some s rn hrn f 2 (sk s (j + 1)) hs2 (by simp only [fu] at h ⊢; omega)
        exact ⟨b', j', g1, g2, by omega, fun _ => by omega⟩
      · exact ⟨true, j, rfl, h2, h3, fun _ => h5⟩
  | f + 1, k + 3, i, hi, h => by
    rw [rd]
    split
    · rename_i hc
      have hj := bt_lt hc (by omega)
      have hs1 : i + 1 ≤ sk s (i + 1) := past_le blB s (i + 1)
      have hs2 : sk s (i + 1) ≤ s.size := past_size (p := blB) (s := s) (i := i + 1) hj
      obtain ⟨b, j, h1, h2, h3, h4⟩ := rd_some s rn hrn f 2 (sk s (i + 1)) hs2 (by simp only [fu] at h ⊢; omega)
      rw [h1]
      cases b with
      | false => exact ⟨false, j, rfl, h2, by omega, fun h => by cases h⟩
      | true =>
        dsimp only
        split
        · rename_i hd
          have hj2 := bt_lt hd (by omega)
          have hs3 : j + 1 ≤ sk s (j + 1) := past_le blB s (j + 1)
          have hs4 : sk s (j + 1) ≤ s.size := past_size (p := blB) (s := s) (i := j + 1) hj2
          exact ⟨true, _, rfl, hs4, by omega, fun _ => by omega⟩
        · exact ⟨false, j, rfl, h2, by omega, fun h => by cases h⟩
    · exact ⟨false, i, rfl, hi, Nat.le_refl _, fun h => by cases h⟩
/-- What a whole text is read as: nothing where it is a plan, or where the fault is. -/
def whR (s : ByteArray) (rn : ByteArray → Bool) : Option Nat :=
  match rd s rn (fu 2 s.size) 2 (sk s 0) with
  | some (true, j) => if j < s.size then some j else none
  | some (false, j) => some j
  | none => none
/-- What PlanOK answers. -/
def pkR (rl : List Rw) (s : ByteArray) : Int × Int :=
  if (decide (s.size ≤ 300) && rlsB rl) = true then (match whR s (hasS (nms rl)) with | some j => (2, (j : Int)) | none => (0, 0)) else (1, 0)
end Go.Proofs.Yteomgkcgjkbppaa

/-! The specification's reader of plans: sign, fail. -/
namespace Go.Proofs.Yteomgkcgjkbppaa
open Go.RowKit Go.Deep Go.Lib Go.ChangeShapes Go.WideShapes
set_option linter.unusedVariables false
set_option maxRecDepth 100000
set_option linter.unusedSimpArgs false

theorem But.put {p o : Nat} {a b : World} (h : But p a b) (u : Value) : But p a (b.setCell ⟨p, o, none⟩ u) := by
  obtain ⟨h1, h2, h3, h4, h5⟩ := h
  exact ⟨h1, h2, h3, by simp; exact h4, fun q hq hn => (blk_setCell_other _ _ _ _ (by exact hn)).trans (h5 q hq hn)⟩
theorem But.drewN {p : Nat} {a b : World} (h : But p a b) (n : Nat) : But p a (b.drewN n) := h
set_option maxHeartbeats 1600000 in
theorem sign87 (s : ByteArray) (c i p : Nat) (bad : Int) (rv : Value) (w : World) (h : Box w p 129 [rv, .string s, .int .i64 ((i : Nat) : Int), .int .i64 bad]) (hi : i ≤ s.size) (hs : s.size ≤ 300) :
    Calls Try.prog 87 #[.pointer (some ⟨p, 0, none⟩), .int .u8 c] w fun e w' => e = .returned (.bool (decide (bad < 0) && decide (bt s (sk s i) = (c : Int)))) ∧ Box w' p 129 [rv, .string s, .int .i64 ((sk s i : Nat) : Int), .int .i64 bad] ∧ But p w w' := by
  have HBX := (show Hid _ from h); clear h
  go_enter Try.func87, Try.ntmps87
  go_wp2_with fail
  go_loopw [] (fun wr => ∃ j : Nat, i ≤ j ∧ j ≤ s.size ∧ Hid (But p w wr ∧ Box wr p 129 [rv, .string s, .int .i64 ((j : Nat) : Int), .int .i64 bad] ∧ sk s i = sk s j)) (fun wr => s.size - (intOf ((wr.cell? ⟨p, 2, none⟩).getD (.bool false))).toNat)
  case atStart => exact ⟨i, Nat.le_refl _, hi, But.of_below (Below.refl _ _), HBX.out, rfl⟩
  case round =>
    obtain ⟨j, hij, hj, HR⟩ := hrel
    have x1 : wr.cell? ⟨p, 1, none⟩ = some (.string s) := HR.out.2.1.cell 1 (by simp)
    have x2 : wr.cell? ⟨p, 2, none⟩ = some (.int .i64 (j : Int)) := HR.out.2.1.cell 2 (by simp)
    have x3 : wr.cell? ⟨p, 3, none⟩ = some (.int .i64 bad) := HR.out.2.1.cell 3 (by simp)
    have y2 : wr.frozen? ⟨p, 2, none⟩ = false := HR.out.2.1.frozen 2
    have hj0 : (0 : Int) ≤ (j : Int) := by omega
    by_cases hlt : j < s.size
    · have hlt' : (j : Int) < (s.size : Int) := by omega
      by_cases h32 : (s[j].toNat : Int) = 32
      · have HSK := (show Hid (sk s i = sk s (j + 1)) from HR.out.2.2.trans (past_step (p := blB) (by rw [bt_at hlt]; unfold blB; exact decide_eq_true h32) hlt))
        have hb : ((s[j].toNat : Int) == 32) = true := by simp [h32]
        clear h32
        go_wp2_with fail
        go_quiet (fail)
        go_wp2_with fail
        refine ⟨⟨j + 1, by omega, by omega, But.put (But.drewN HR.out.1 _) _, ?_, HSK.out⟩, ?_⟩
        · have hb2 := (HR.out.2.1.keep (w' := wr.drewN nq) rfl).set 2 (.int .i64 ((j + 1 : Nat) : Int))
          simpa using hb2
        · have m1 := ((HR.out.2.1.keep (w' := wr.drewN nq) rfl).set 2 (.int .i64 ((j : Int) + 1))).cell 2 (by simp)
          rw [m1, x2]
          simp [intOf]
          omega
      · have HSK := (show Hid (sk s i = j) from HR.out.2.2.trans (past_stop (p := blB) (by rw [bt_at hlt]; unfold blB; exact decide_eq_false h32)))
        have hb : ((s[j].toNat : Int) == 32) = false := by simp [h32]
        clear h32
        go_wp2_with fail
        go_quiet (fail)
        by_cases hbad : bad < 0
        · go_wp2_with fail
          go_quiet (fail)
          go_wp2_with fail
          go_ret
          rw [HSK.out]
          refine ⟨ret_bool ?_, HR.out.2.1.keep rfl, HR.out.1⟩
          rw [bt_at hlt, decide_eq_true hbad]
          rfl
        · have hbd : decide (bad < 0) = false := decide_eq_false hbad
          go_wp2_with fail
          go_quiet (fail)
          go_wp2_with fail
          go_ret
          rw [HSK.out]
          refine ⟨ret_bool ?_, HR.out.2.1.keep rfl, HR.out.1⟩
          rw [decide_eq_false (by omega)]
          rfl
    · have HSK := (show Hid (sk s i = j) from HR.out.2.2.trans (past_end (by omega)))
      have hlt' : ¬ ((j : Int) < (s.size : Int)) := by omega
      go_wp2_with fail
      go_quiet (fail)
      by_cases hbad : bad < 0
      · go_wp2_with fail
        go_quiet (fail)
        go_wp2_with fail
        go_ret
        rw [HSK.out]
        refine ⟨ret_bool ?_, HR.out.2.1.keep rfl, HR.out.1⟩
        rw [bt_end (by omega), decide_eq_true hbad, decide_eq_false (by omega)]
        rfl
      · have hbd : decide (bad < 0) = false := decide_eq_false hbad
        go_wp2_with fail
        go_quiet (fail)
        go_wp2_with fail
        go_ret
        rw [HSK.out]
        refine ⟨ret_bool ?_, HR.out.2.1.keep rfl, HR.out.1⟩
        rw [decide_eq_false (by omega)]
        rfl
/-- A plan that is none. -/
abbrev noPl : Value := .agg #[.string ⟨#[]⟩, .string ⟨#[]⟩, .slice none 0 0]
set_option maxHeartbeats 800000 in
theorem fail88 (s : ByteArray) (at' i p : Nat) (bad : Int) (rv : Value) (w : World) (h : Box w p 129 [rv, .string s, .int .i64 ((i : Nat) : Int), .int .i64 bad]) :
    Calls Try.prog 88 #[.pointer (some ⟨p, 0, none⟩), .int .i64 (at' : Nat)] w fun e w' => e = .returned noPl ∧ Box w' p 129 [rv, .string s, .int .i64 ((i : Nat) : Int), .int .i64 (if bad < 0 then ((at' : Nat) : Int) else bad)] ∧ But p w w' := by
  have hlt := h.lt
  have hb1 := h.still (bel_alloc w (.cells #[.string ⟨#[]⟩, .string ⟨#[]⟩, .slice none 0 0] 102))
  have x3 : (w.alloc (.cells #[.string ⟨#[]⟩, .string ⟨#[]⟩, .slice none 0 0] 102)).cell? ⟨p, 3, none⟩ = some (.int .i64 bad) := hb1.cell 3 (by simp)
  have y3 : (w.alloc (.cells #[.string ⟨#[]⟩, .string ⟨#[]⟩, .slice none 0 0] 102)).frozen? ⟨p, 3, none⟩ = false := hb1.frozen 3
  have HB1 := (show Hid _ from hb1)
  have HB0 := (show Hid _ from h)
  have HBT := (show Hid (But p w (w.alloc (.cells #[.string ⟨#[]⟩, .string ⟨#[]⟩, .slice none 0 0] 102))) from But.of_below (bel_alloc _ _))
  clear h hb1
  by_cases hbad : bad < 0
  · go_enter Try.func88, Try.ntmps88
    go_wp2_with fail
    refine bodyPost_ret (v := noPl) (by simp [results, Try.results88, go_sem]) rfl ⟨rfl, ?_, ?_⟩
    · have hb2 := (HB0.out.set 3 (.int .i64 (at' : Nat))).still (bel_alloc _ (.cells #[.string ⟨#[]⟩, .string ⟨#[]⟩, .slice none 0 0] 102))
      simpa using hb2
    · exact ((But.of_below (Below.refl _ _)).put _).still (bel_alloc _ _)
  · have hbd : decide (bad < 0) = false := decide_eq_false hbad
    go_enter Try.func88, Try.ntmps88
    go_wp2_with fail
    refine bodyPost_ret (v := noPl) (by simp [results, Try.results88, go_sem]) rfl ⟨rfl, ?_, ?_⟩
    · exact HB1.out
    · exact HBT.out
end Go.Proofs.Yteomgkcgjkbppaa
