import Derived.Test.YtkkhdkfmaopmfaaKe
import Derived.Test.YtkkhdkfmaopmfaaBxs
import Derived.BigQuiet
import Derived.Deep.QuietTactic
/-! Pure: how a plan is read. -/
namespace Go.Proofs.Ytkkhdkfmaopmfaa
open Go.RowKit Go.Deep Go.Lib Go.ChangeShapes Go.WideShapes
set_option linter.unusedVariables false
set_option maxRecDepth 100000
set_option linter.unusedSimpArgs false

/-- The byte at a place, or -1 behind the end. -/
def bt (s : ByteArray) (i : Nat) : Int := if h : i < s.size then (s[i].toNat : Int) else -1
theorem bt_at {s : ByteArray} {i : Nat} (h : i < s.size) : bt s i = (s[i].toNat : Int) := by unfold bt; rw [dif_pos h]
theorem bt_end {s : ByteArray} {i : Nat} (h : s.size ≤ i) : bt s i = -1 := by unfold bt; rw [dif_neg (by omega)]
theorem bt_lt {s : ByteArray} {i : Nat} {c : Int} (h : bt s i = c) (hc : 0 ≤ c) : i < s.size := by
  by_cases e : i < s.size
  · exact e
  · rw [bt_end (by omega)] at h
    omega
/-- The first place from i on, so many at the most, whose byte is not of the kind. -/
def pastF (p : Int → Bool) (s : ByteArray) : Nat → Nat → Nat
  | 0, i => i
  | n + 1, i => if p (bt s i) = true then pastF p s n (i + 1) else i
def past (p : Int → Bool) (s : ByteArray) (i : Nat) : Nat := pastF p s (s.size - i) i
theorem pastF_le (p : Int → Bool) (s : ByteArray) : ∀ n i, i ≤ pastF p s n i ∧ pastF p s n i ≤ i + n
  | 0, i => ⟨Nat.le_refl _, Nat.le_refl _⟩
  | n + 1, i => by
    rw [pastF]
    split
    · have := pastF_le p s n (i + 1)
      omega
    · omega
theorem past_le (p : Int → Bool) (s : ByteArray) (i : Nat) : i ≤ past p s i := (pastF_le p s _ i).1
theorem past_size {p : Int → Bool} {s : ByteArray} {i : Nat} (h : i ≤ s.size) : past p s i ≤ s.size := by
  have := (pastF_le p s (s.size - i) i).2
  unfold past
  omega
theorem past_step {p : Int → Bool} {s : ByteArray} {i : Nat} (hp : p (bt s i) = true) (hi : i < s.size) : past p s i = past p s (i + 1) := by
  unfold past
  rw [show s.size - i = (s.size - (i + 1)) + 1 by omega, pastF, if_pos hp]
theorem past_stop {p : Int → Bool} {s : ByteArray} {i : Nat} (hp : p (bt s i) = false) : past p s i = i := by
  unfold past
  cases e : s.size - i with
  | zero => rfl
  | succ n => rw [pastF, if_neg (by rw [hp]; simp)]
theorem past_end {p : Int → Bool} {s : ByteArray} {i : Nat} (h : s.size ≤ i) : past p s i = i := by
  unfold past
  rw [show s.size - i = 0 by omega]
  rfl
def blB (c : Int) : Bool := decide (c = 32)
/-- The place behind blanks. -/
def sk (s : ByteArray) (i : Nat) : Nat := past blB s i
/-- The place behind the bytes of a name. -/
def nd (s : ByteArray) (i : Nat) : Nat := past nbB s i
/-- Reading: by fuel, what is to be read (0 a prim, 1 parts with ; between them, 2 with |, else a plan in brackets), and the place, where no blank stands. Nothing: out of fuel. True: read up to there, the blanks behind it too. False: a fault there. rn: the rules' names. -/
def rd (s : ByteArray) (rn : ByteArray → Bool) : Nat → Nat → Nat → Option (Bool × Nat)
  | 0, _, _ => none
  | f + 1, 0, i =>
    if bt s i = 40 then rd s rn f 3 i
    else if (eqS (s.extract i (nd s i)) idN || (eqS (s.extract i (nd s i)) failN || rn (s.extract i (nd s i)))) = true then some (true, sk s (nd s i))
    else if hasS pw7 (s.extract i (nd s i)) = true then rd s rn f 3 (sk s (nd s i))
    else some (false, i)
  | f + 1, 1, i => match rd s rn f 0 i with
    | some (true, j) => if bt s j = 59 then rd s rn f 1 (sk s (j + 1)) else some (true, j)
    | r => r
  | f + 1, 2, i => match rd s rn f 1 i with
    | some (true, j) => if bt s j = 124 then rd s rn f 2 (sk s (j + 1)) else some (true, j)
    | r => r
  | f + 1, _ + 3, i =>
    if bt s i = 40 then (match rd s rn f 2 (sk s (i + 1)) with
      | some (true, j) => if bt s j = 41 then some (true, sk s (j + 1)) else some (false, j)
      | r => r)
    else some (false, i)
/-- How much fuel is enough. -/
def fu (k m : Nat) : Nat := 4 * m + (match k with | 0 => 2 | 1 => 3 | 2 => 4 | _ => 1)
theorem pw7_ne {x : ByteArray} (h : hasS pw7 x = true) : 0 < x.size := by
  have := hasS_mem h
  simp [pw7] at this
  rcases this with rfl | rfl | rfl | rfl | rfl | rfl | rfl <;> decide
theorem extract_ne {s : ByteArray} {i e : Nat} (h : 0 < (s.extract i e).size) : i < e := by
  rw [ByteArray.size_extract] at h
  omega
/-- With enough fuel it is read, and what was read is more than nothing. -/
theorem rd_some (s : ByteArray) (rn : ByteArray → Bool) (hrn : ∀ x, rn x = true → 0 < x.size) : ∀ f k i, i ≤ s.size → fu k (s.size - i) ≤ f → ∃ b j, rd s rn f k i = some (b, j) ∧ j ≤ s.size ∧ i ≤ j ∧ (b = true → i < j)
  | 0, k, i, hi, h => by
    unfold fu at h
    split at h <;> omega
  | f + 1, 0, i, hi, h => by
    have hn := past_le nbB s i
    have hn2 := past_size (p := nbB) hi
    rw [rd]
    split
    · rename_i h40
      exact rd_some s rn hrn f 3 i hi (by simp only [fu] at h ⊢; omega)
    · split
      · rename_i _ hw
        have hs1 := past_le blB s (nd s i)
        have hs2 := past_size (p := blB) (s := s) (i := nd s i) hn2
        have hlt : i < nd s i := by
          refine extract_ne (s := s) ?_
          rcases Bool.or_eq_true_iff.1 hw with q | q
          · rw [eqS_iff] at q
            rw [q]
            decide
          · rcases Bool.or_eq_true_iff.1 q with q | q
            · rw [eqS_iff] at q
              rw [q]
              decide
            · exact hrn _ q
        refine ⟨true, _, rfl, hs2, ?_, fun _ => ?_⟩
        · have : nd s i ≤ sk s (nd s i) := hs1
          omega
        · have : nd s i ≤ sk s (nd s i) := hs1
          omega
      · split
        · rename_i _ _ hw
          have hs1 : nd s i ≤ sk s (nd s i) := past_le blB s (nd s i)
          have hs2 : sk s (nd s i) ≤ s.size := past_size (p := blB) (s := s) (i := nd s i) hn2
          have hlt := extract_ne (pw7_ne hw)
          obtain ⟨b, j, h1, h2, h3, h4⟩ := rd_some s rn hrn f 3 (sk s (nd s i)) hs2 (by simp only [fu] at h ⊢; omega)
          exact ⟨b, j, h1, h2, by omega, fun _ => by omega⟩
        · exact ⟨false, i, rfl, hi, Nat.le_refl _, fun h => by cases h⟩
  | f + 1, 1, i, hi, h => by
    obtain ⟨b, j, h1, h2, h3, h4⟩ := rd_some s rn hrn f 0 i hi (by simp only [fu] at h ⊢; omega)
    rw [rd, h1]
    cases b with
    | false => exact ⟨false, j, rfl, h2, h3, fun h => by cases h⟩
    | true =>
      have h5 := h4 rfl
      dsimp only
      split
      · rename_i hc
        have hj := bt_lt hc (by omega)
        have hs1 : j + 1 ≤ sk s (j + 1) := past_le blB s (j + 1)
        have hs2 : sk s (j + 1) ≤ s.size := past_size (p := blB) (s := s) (i := j + 1) hj
        obtain ⟨b', j', g1, g2, g3, g4⟩ := rd_some s rn hrn f 1 (sk s (j + 1)) hs2 (by simp only [fu] at h ⊢; omega)
        exact ⟨b', j', g1, g2, by omega, fun _ => by omega⟩
      · exact ⟨true, j, rfl, h2, h3, fun _ => h5⟩
  | f + 1, 2, i, hi, h => by
    obtain ⟨b, j, h1, h2, h3, h4⟩ := rd_some s rn hrn f 1 i hi (by simp only [fu] at h ⊢; omega)
    rw [rd, h1]
    cases b with
    | false => exact ⟨false, j, rfl, h2, h3, fun h => by cases h⟩
    | true =>
      have h5 := h4 rfl
      dsimp only
      split
      · rename_i hc
        have hj := bt_lt hc (by omega)
        have hs1 : j + 1 ≤ sk s (j + 1) := past_le blB s (j + 1)
        have hs2 : sk s (j + 1) ≤ s.size := past_size (p := blB) (s := s) (i := j + 1) hj
        obtain ⟨b', j', g1, g2, g3, g4⟩ := rd_some s rn hrn f 2 (sk s (j + 1)) hs2 (by simp only [fu] at h ⊢; omega)
        exact ⟨b', j', g1, g2, by omega, fun _ => by omega⟩
      · exact ⟨true, j, rfl, h2, h3, fun _ => h5⟩
  | f + 1, k + 3, i, hi, h => by
    rw [rd]
    split
    · rename_i hc
      have hj := bt_lt hc (by omega)
      have hs1 : i + 1 ≤ sk s (i + 1) := past_le blB s (i + 1)
      have hs2 : sk s (i + 1) ≤ s.size := past_size (p := blB) (s := s) (i := i + 1) hj
      obtain ⟨b, j, h1, h2, h3, h4⟩ := rd_some s rn hrn f 2 (sk s (i + 1)) hs2 (by simp only [fu] at h ⊢; omega)
      rw [h1]
      cases b with
      | false => exact ⟨false, j, rfl, h2, by omega, fun h => by cases h⟩
      | true =>
        dsimp only
        split
        · rename_i hd
          have hj2 := bt_lt hd (by omega)
          have hs3 : j + 1 ≤ sk s (j + 1) := past_le blB s (j + 1)
          have hs4 : sk s (j + 1) ≤ s.size := past_size (p := blB) (s := s) (i := j + 1) hj2
          exact ⟨true, _, rfl, hs4, by omega, fun _ => by omega⟩
        · exact ⟨false, j, rfl, h2, by omega, fun h => by cases h⟩
    · exact ⟨false, i, rfl, hi, Nat.le_refl _, fun h => by cases h⟩
/-- What a whole text is read as: nothing where it is a plan, or where the fault is. -/
def whR (s : ByteArray) (rn : ByteArray → Bool) : Option Nat :=
  match rd s rn (fu 2 s.size) 2 (sk s 0) with
  | some (true, j) => if j < s.size then some j else none
  | some (false, j) => some j
  | none => none
/-- What PlanOK answers. -/
def pkR (rl : List Rw) (s : ByteArray) : Int × Int :=
  if (decide (s.size ≤ 300) && rlsB rl) = true then (match whR s (hasS (nms rl)) with | some j => (2, (j : Int)) | none => (0, 0)) else (1, 0)
end Go.Proofs.Ytkkhdkfmaopmfaa

/-! The specification's reader of plans: sign, fail. -/
namespace Go.Proofs.Ytkkhdkfmaopmfaa
open Go.RowKit Go.Deep Go.Lib Go.ChangeShapes Go.WideShapes
set_option linter.unusedVariables false
set_option maxRecDepth 100000
set_option linter.unusedSimpArgs false

theorem But.put {p o : Nat} {a b : World} (h : But p a b) (u : Value) : But p a (b.setCell ⟨p, o, none⟩ u) := by
  obtain ⟨h1, h2, h3, h4, h5⟩ := h
  exact ⟨h1, h2, h3, by simp; exact h4, fun q hq hn => (blk_setCell_other _ _ _ _ (by exact hn)).trans (h5 q hq hn)⟩
theorem But.drewN {p : Nat} {a b : World} (h : But p a b) (n : Nat) : But p a (b.drewN n) := h
set_option maxHeartbeats 1600000 in
theorem sign87 (s : ByteArray) (c i p : Nat) (bad : Int) (rv : Value) (w : World) (h : Box w p 129 [rv, .string s, .int .i64 ((i : Nat) : Int), .int .i64 bad]) (hi : i ≤ s.size) (hs : s.size ≤ 300) :
    Calls Try.prog 87 #[.pointer (some ⟨p, 0, none⟩), .int .u8 c] w fun e w' => e = .returned (.bool (decide (bad < 0) && decide (bt s (sk s i) = (c : Int)))) ∧ Box w' p 129 [rv, .string s, .int .i64 ((sk s i : Nat) : Int), .int .i64 bad] ∧ But p w w' := by
  have HBX := (show Hid _ from h); clear h
  go_enter Try.func87, Try.ntmps87
  go_wp2_with fail
  go_loopw [] (fun wr => ∃ j : Nat, i ≤ j ∧ j ≤ s.size ∧ Hid (But p w wr ∧ Box wr p 129 [rv, .string s, .int .i64 ((j : Nat) : Int), .int .i64 bad] ∧ sk s i = sk s j)) (fun wr => s.size - (intOf ((wr.cell? ⟨p, 2, none⟩).getD (.bool false))).toNat)
  case atStart => exact ⟨i, Nat.le_refl _, hi, But.of_below (Below.refl _ _), HBX.out, rfl⟩
  case round =>
    obtain ⟨j, hij, hj, HR⟩ := hrel
    have x1 : wr.cell? ⟨p, 1, none⟩ = some (.string s) := HR.out.2.1.cell 1 (by simp)
    have x2 : wr.cell? ⟨p, 2, none⟩ = some (.int .i64 (j : Int)) := HR.out.2.1.cell 2 (by simp)
    have x3 : wr.cell? ⟨p, 3, none⟩ = some (.int .i64 bad) := HR.out.2.1.cell 3 (by simp)
    have y2 : wr.frozen? ⟨p, 2, none⟩ = false := HR.out.2.1.frozen 2
    have hj0 : (0 : Int) ≤ (j : Int) := by omega
    by_cases hlt : j < s.size
    · have hlt' : (j : Int) < (s.size : Int) := by omega
      by_cases h32 : (s[j].toNat : Int) = 32
      · have HSK := (show Hid (sk s i = sk s (j + 1)) from HR.out.2.2.trans (past_step (p := blB) (by rw [bt_at hlt]; unfold blB; exact decide_eq_true h32) hlt))
        have hb : ((s[j].toNat : Int) == 32) = true := by simp [h32]
        clear h32
        go_wp2_with fail
        go_quiet (fail)
        go_wp2_with fail
        refine ⟨⟨j + 1, by omega, by omega, But.put (But.drewN HR.out.1 _) _, ?_, HSK.out⟩, ?_⟩
        · have hb2 := (HR.out.2.1.keep (w' := wr.drewN nq) rfl).set 2 (.int .i64 ((j + 1 : Nat) : Int))
          simpa using hb2
        · have m1 := ((HR.out.2.1.keep (w' := wr.drewN nq) rfl).set 2 (.int .i64 ((j : Int) + 1))).cell 2 (by simp)
          rw [m1, x2]
          simp [intOf]
          omega
      · have HSK := (show Hid (sk s i = j) from HR.out.2.2.trans (past_stop (p := blB) (by rw [bt_at hlt]; unfold blB; exact decide_eq_false h32)))
        have hb : ((s[j].toNat : Int) == 32) = false := by simp [h32]
        clear h32
        go_wp2_with fail
        go_quiet (fail)
        by_cases hbad : bad < 0
        · go_wp2_with fail
          go_quiet (fail)
          go_wp2_with fail
          go_ret
          rw [HSK.out]
          refine ⟨ret_bool ?_, HR.out.2.1.keep rfl, HR.out.1⟩
          rw [bt_at hlt, decide_eq_true hbad]
          rfl
        · have hbd : decide (bad < 0) = false := decide_eq_false hbad
          go_wp2_with fail
          go_quiet (fail)
          go_wp2_with fail
          go_ret
          rw [HSK.out]
          refine ⟨ret_bool ?_, HR.out.2.1.keep rfl, HR.out.1⟩
          rw [decide_eq_false (by omega)]
          rfl
    · have HSK := (show Hid (sk s i = j) from HR.out.2.2.trans (past_end (by omega)))
      have hlt' : ¬ ((j : Int) < (s.size : Int)) := by omega
      go_wp2_with fail
      go_quiet (fail)
      by_cases hbad : bad < 0
      · go_wp2_with fail
        go_quiet (fail)
        go_wp2_with fail
        go_ret
        rw [HSK.out]
        refine ⟨ret_bool ?_, HR.out.2.1.keep rfl, HR.out.1⟩
        rw [bt_end (by omega), decide_eq_true hbad, decide_eq_false (by omega)]
        rfl
      · have hbd : decide (bad < 0) = false := decide_eq_false hbad
        go_wp2_with fail
        go_quiet (fail)
        go_wp2_with fail
        go_ret
        rw [HSK.out]
        refine ⟨ret_bool ?_, HR.out.2.1.keep rfl, HR.out.1⟩
        rw [decide_eq_false (by omega)]
        rfl
/-- A plan that is none. -/
abbrev noPl : Value := .agg #[.string ⟨#[]⟩, .string ⟨#[]⟩, .slice none 0 0]
set_option maxHeartbeats 800000 in
theorem fail88 (s : ByteArray) (at' i p : Nat) (bad : Int) (rv : Value) (w : World) (h : Box w p 129 [rv, .string s, .int .i64 ((i : Nat) : Int), .int .i64 bad]) :
    Calls Try.prog 88 #[.pointer (some ⟨p, 0, none⟩), .int .i64 (at' : Nat)] w fun e w' => e = .returned noPl ∧ Box w' p 129 [rv, .string s, .int .i64 ((i : Nat) : Int), .int .i64 (if bad < 0 then ((at' : Nat) : Int) else bad)] ∧ But p w w' := by
  have hlt := h.lt
  have hb1 := h.still (bel_alloc w (.cells #[.string ⟨#[]⟩, .string ⟨#[]⟩, .slice none 0 0] 102))
  have x3 : (w.alloc (.cells #[.string ⟨#[]⟩, .string ⟨#[]⟩, .slice none 0 0] 102)).cell? ⟨p, 3, none⟩ = some (.int .i64 bad) := hb1.cell 3 (by simp)
  have y3 : (w.alloc (.cells #[.string ⟨#[]⟩, .string ⟨#[]⟩, .slice none 0 0] 102)).frozen? ⟨p, 3, none⟩ = false := hb1.frozen 3
  have HB1 := (show Hid _ from hb1)
  have HB0 := (show Hid _ from h)
  have HBT := (show Hid (But p w (w.alloc (.cells #[.string ⟨#[]⟩, .string ⟨#[]⟩, .slice none 0 0] 102))) from But.of_below (bel_alloc _ _))
  clear h hb1
  by_cases hbad : bad < 0
  · go_enter Try.func88, Try.ntmps88
    go_wp2_with fail
    refine bodyPost_ret (v := noPl) (by simp [results, Try.results88, go_sem]) rfl ⟨rfl, ?_, ?_⟩
    · have hb2 := (HB0.out.set 3 (.int .i64 (at' : Nat))).still (bel_alloc _ (.cells #[.string ⟨#[]⟩, .string ⟨#[]⟩, .slice none 0 0] 102))
      simpa using hb2
    · exact ((But.of_below (Below.refl _ _)).put _).still (bel_alloc _ _)
  · have hbd : decide (bad < 0) = false := decide_eq_false hbad
    go_enter Try.func88, Try.ntmps88
    go_wp2_with fail
    refine bodyPost_ret (v := noPl) (by simp [results, Try.results88, go_sem]) rfl ⟨rfl, ?_, ?_⟩
    · exact HB1.out
    · exact HBT.out
end Go.Proofs.Ytkkhdkfmaopmfaa

/-! The specification's reader of plans: brackets. -/
namespace Go.Proofs.Ytkkhdkfmaopmfaa
open Go.RowKit Go.Deep Go.Lib Go.ChangeShapes Go.WideShapes
set_option linter.unusedVariables false
set_option maxRecDepth 100000
set_option linter.unusedSimpArgs false

/-- What a reading leaves. -/
def RdA (p : Nat) (rv : Value) (s : ByteArray) (R : Bool × Nat) (w : World) (e : Ending) (w' : World) : Prop :=
  ∃ (k n : ByteArray) (a : Option Addr) (l c i' : Nat) (bad : Int), e = .returned (.agg #[.string k, .string n, .slice a l c]) ∧ Box w' p 129 [rv, .string s, .int .i64 (i' : Int), .int .i64 bad] ∧ But p w w' ∧ i' ≤ s.size ∧ (R.1 = true → bad = -1 ∧ sk s i' = R.2) ∧ (R.1 = false → bad = (R.2 : Int))
/-- A reading by so much fuel does as is asked. -/
def RdC (w0 : World) (p : Nat) (rv : Value) (s : ByteArray) (rn : ByteArray → Bool) (F k f : Nat) : Prop :=
  ∀ (i : Nat) (w : World) (R : Bool × Nat), Box w p 129 [rv, .string s, .int .i64 (i : Int), .int .i64 (-1)] → i ≤ s.size → Below w0.heap.size w0 w → rd s rn f k (sk s i) = some R → Calls Try.prog F #[.pointer (some ⟨p, 0, none⟩)] w (RdA p rv s R w)
theorem But.below' {p : Nat} {w0 w w' : World} (h : But p w w') (hb : Below w0.heap.size w0 w) (hp : w0.heap.size ≤ p) : Below w0.heap.size w0 w' := hb.trans (h.below hp hb.size)
theorem Box.but {w w' : World} {g T p : Nat} {cs : List Value} (h : Box w g T cs) (hb : But p w w') (hn : g ≠ p) : Box w' g T cs := h.keep (hb.block h.lt hn)
theorem But.other {p q o : Nat} {w w' : World} (h : But p w w') (hq : w.heap.size ≤ q) (u : Value) : But p w (w'.setCell ⟨q, o, none⟩ u) := by
  obtain ⟨h1, h2, h3, h4, h5⟩ := h
  exact ⟨h1, h2, h3, by simp; exact h4, fun k hk hn => (blk_setCell_other _ _ _ _ (by show k ≠ q; omega)).trans (h5 k hk hn)⟩
set_option maxHeartbeats 3200000 in
theorem bracket116 {w0 : World} {p : Nat} {rv : Value} {s : ByteArray} {rn : ByteArray → Bool} {f : Nat} (hs : s.size ≤ 300) (hp : w0.heap.size ≤ p) (ih : RdC w0 p rv s rn 86 2 f) : RdC w0 p rv s rn 116 3 (f + 1) := by
  intro i w R hbx hi hb0 hrd
  have hpl := hbx.lt
  have hzb := Box.new w 102 [.string ⟨#[]⟩, .string ⟨#[]⟩, .slice none 0 0]
  have hb1 := hbx.still (bel_alloc w (.cells #[.string ⟨#[]⟩, .string ⟨#[]⟩, .slice none 0 0] 102))
  have HS := (show Hid _ from sign87 s 40 i p (-1) rv _ hb1 hi hs)
  have HBT := (show Hid (But p w (w.alloc (.cells #[.string ⟨#[]⟩, .string ⟨#[]⟩, .slice none 0 0] 102))) from But.of_below (bel_alloc _ _))
  have HZ := (show Hid _ from hzb)
  have HB0 := (show Hid _ from hb0)
  have hx : sk s i ≤ s.size := past_size hi
  have HIH := (show Hid _ from ih)
  have HFIN := (show Hid (∀ (k n : ByteArray) (a : Option Addr) (l c i' : Nat) (bad : Int) (w' : World), Box w' p 129 [rv, .string s, .int .i64 (i' : Int), .int .i64 bad] → But p w w' → i' ≤ s.size → (R.1 = true → bad = -1 ∧ sk s i' = R.2) → (R.1 = false → bad = (R.2 : Int)) → RdA p rv s R w (.returned (.agg #[.string k, .string n, .slice a l c])) w') from fun k n a l c i' bad w' h1 h2 h3 h4 h5 => ⟨k, n, a, l, c, i', bad, rfl, h1, h2, h3, h4, h5⟩)
  rw [rd] at hrd
  have HRD := (show Hid _ from hrd)
  clear hrd hbx hzb hb1 hb0 ih
  generalize hX : sk s i = x at *
  by_cases h40 : bt s x = 40
  case neg =>
    have HR := (show Hid (R = (false, x)) from (by
      have := HRD.out
      rw [if_neg h40] at this
      injection this with this
      exact this.symm))
    have hd : decide (bt s x = ((40 : Nat) : Int)) = false := decide_eq_false h40
    rw [hd] at HS
    clear HRD HIH hd
    go_enter Try.func116, Try.ntmps116
    go_wp2_with fail
    refine Calls.mono HS.out ?_
    rintro e w2 ⟨rfl, hb2, hbt2⟩
    have c2 : w2.cell? ⟨p, 2, none⟩ = some (.int .i64 (x : Int)) := hb2.cell 2 (by simp)
    have HF := (show Hid _ from fail88 s x x p (-1) rv w2 hb2)
    have HB2 := (show Hid (But p w w2) from But.trans HBT.out hbt2)
    have HZ2 := (show Hid _ from HZ.out.but hbt2 (by omega))
    clear hb2 hbt2 HS
    go_wp2_with fail
    refine Calls.mono HF.out ?_
    rintro e w3 ⟨rfl, hb3, hbt3⟩
    have hz := HZ2.out.but hbt3 (by omega)
    have z0 : w3.cell? ⟨w.heap.size, 0, none⟩ = some (.string ⟨#[]⟩) := hz.cell 0 (by simp)
    have z1 : w3.cell? ⟨w.heap.size, 1, none⟩ = some (.string ⟨#[]⟩) := hz.cell 1 (by simp)
    have z2 : w3.cell? ⟨w.heap.size, 2, none⟩ = some (.slice none 0 0) := hz.cell 2 (by simp)
    have f0 : w3.frozen? ⟨w.heap.size, 0, none⟩ = false := hz.frozen 0
    have f1 : w3.frozen? ⟨w.heap.size, 1, none⟩ = false := hz.frozen 1
    have f2 : w3.frozen? ⟨w.heap.size, 2, none⟩ = false := hz.frozen 2
    have HB3 := (show Hid (But p w w3) from But.trans HB2.out hbt3)
    have HX3 := (show Hid (Box w3 p 129 [rv, .string s, .int .i64 (x : Int), .int .i64 (x : Int)]) from (by show Box _ _ _ _; simpa using hb3))
    clear hb3 hbt3 HF HB2 HZ2 hz c2
    go_wp2_with fail
    refine bodyPost_ret (v := noPl) (by simp [results, Try.results116, go_sem, z0, z1, z2]) rfl ?_
    exact HFIN.out _ _ _ _ _ x x _ (((HX3.out.past (by omega)).past (by omega)).past (by omega)) (((HB3.out.other (Nat.le_refl _) _).other (Nat.le_refl _) _).other (Nat.le_refl _) _) hx (fun h => by rw [HR.out] at h; cases h) (fun _ => by rw [HR.out])
  have hxs := bt_lt h40 (by omega)
  have HRD2 := (show Hid _ from (if_pos h40).symm.trans HRD.out)
  have hd : decide (bt s x = ((40 : Nat) : Int)) = true := decide_eq_true h40
  rw [hd] at HS
  clear HRD hd h40
  go_enter Try.func116, Try.ntmps116
  go_wp2_with fail
  refine Calls.mono HS.out ?_
  rintro e w2 ⟨rfl, hb2, hbt2⟩
  have c2 : w2.cell? ⟨p, 2, none⟩ = some (.int .i64 (x : Int)) := hb2.cell 2 (by simp)
  have y2 : w2.frozen? ⟨p, 2, none⟩ = false := hb2.frozen 2
  have HB2 := (show Hid (But p w w2) from But.trans HBT.out hbt2)
  have hz2 := HZ.out.but hbt2 (by omega)
  have hb3 : Box (w2.setCell ⟨p, 2, none⟩ (.int .i64 ((x : Int) + 1))) p 129 [rv, .string s, .int .i64 ((x + 1 : Nat) : Int), .int .i64 (-1)] := by
    have := hb2.set 2 (.int .i64 ((x : Int) + 1))
    simpa using this
  have hbt3 : But p w (w2.setCell ⟨p, 2, none⟩ (.int .i64 ((x : Int) + 1))) := HB2.out.put _
  have HZ3 := (show Hid (Box (w2.setCell ⟨p, 2, none⟩ (.int .i64 ((x : Int) + 1))) w.heap.size 102 [.string ⟨#[]⟩, .string ⟨#[]⟩, .slice none 0 0]) from hz2.past (by omega))
  have HB3 := (show Hid (But p w (w2.setCell ⟨p, 2, none⟩ (.int .i64 ((x : Int) + 1)))) from hbt3)
  obtain ⟨R', hR'⟩ : ∃ R', rd s rn f 2 (sk s (x + 1)) = some R' := by
    cases e : rd s rn f 2 (sk s (x + 1)) with
    | none =>
      have := HRD2.out
      rw [e] at this
      cases this
    | some R' => exact ⟨R', rfl⟩
  have HCL := (show Hid _ from HIH.out (x + 1) _ R' hb3 hxs (But.below' hbt3 HB0.out hp) hR')
  rw [hR'] at HRD2
  unfold RdA at HCL
  clear hb2 hbt2 hz2 hb3 hbt3 HS HIH hR' HBT HZ HB2
  go_wp2_with fail
  refine Calls.mono HCL.out ?_
  rintro e w4 ⟨k, n, a, l, c, i', bad, rfl, hb4, hbt4, hi', ht, hf⟩
  have HB4 := (show Hid (But p w w4) from But.trans HB3.out hbt4)
  have hz4 := HZ3.out.but hbt4 (by omega)
  have hp4 := hb4.lt
  have hw4 : w.heap.size < w4.heap.size := hz4.lt
  have HS5 := (show Hid _ from sign87 s 41 i' p bad rv _ (hb4.still (bel_alloc w4 (.cells #[.string k, .string n, .slice a l c] 102))) hi' hs)
  have HZ5 := (show Hid (Box (w4.alloc (.cells #[.string k, .string n, .slice a l c] 102)) w.heap.size 102 [.string ⟨#[]⟩, .string ⟨#[]⟩, .slice none 0 0]) from hz4.still (bel_alloc _ _))
  have HT5 := (show Hid (Box (w4.alloc (.cells #[.string k, .string n, .slice a l c] 102)) w4.heap.size 102 [.string k, .string n, .slice a l c]) from Box.new w4 102 _)
  have HB5 := (show Hid (But p w (w4.alloc (.cells #[.string k, .string n, .slice a l c] 102))) from HB4.out.still (bel_alloc _ _))
  have HTF := (show Hid ((R'.1 = true → bad = -1 ∧ sk s i' = R'.2) ∧ (R'.1 = false → bad = (R'.2 : Int))) from ⟨ht, hf⟩)
  have hy : sk s i' ≤ s.size := past_size hi'
  clear hb4 hbt4 hz4 ht hf HCL HZ3 HB3 HB4 c2 y2
  generalize hY : sk s i' = y at *
  obtain ⟨b', j'⟩ := R'
  by_cases hok : b' = true ∧ bt s y = 41
  · obtain ⟨rfl, h41⟩ := hok
    obtain ⟨rfl, rfl⟩ := HTF.out.1 rfl
    have hys := bt_lt h41 (by omega)
    have HR := (show Hid (R = (true, sk s (y + 1))) from (by
      have := HRD2.out
      simp only [if_pos h41] at this
      injection this with this
      exact this.symm))
    have hd : decide (bt s y = ((41 : Nat) : Int)) = true := decide_eq_true h41
    rw [hd] at HS5
    clear hd h41 HRD2 HTF
    go_wp2_with fail
    refine Calls.mono HS5.out ?_
    rintro e w6 ⟨rfl, hb6, hbt6⟩
    have c2 : w6.cell? ⟨p, 2, none⟩ = some (.int .i64 (y : Int)) := hb6.cell 2 (by simp)
    have y2 : w6.frozen? ⟨p, 2, none⟩ = false := hb6.frozen 2
    have hz := (HZ5.out.but hbt6 (by omega)).past (q := p) (o := 2) (u := .int .i64 ((y : Int) + 1)) (by omega)
    have ht := (HT5.out.but hbt6 (by omega)).past (q := p) (o := 2) (u := .int .i64 ((y : Int) + 1)) (by omega)
    have z0 : (w6.setCell ⟨p, 2, none⟩ (.int .i64 ((y : Int) + 1))).cell? ⟨w.heap.size, 0, none⟩ = some (.string ⟨#[]⟩) := hz.cell 0 (by simp)
    have z1 : (w6.setCell ⟨p, 2, none⟩ (.int .i64 ((y : Int) + 1))).cell? ⟨w.heap.size, 1, none⟩ = some (.string ⟨#[]⟩) := hz.cell 1 (by simp)
    have z2 : (w6.setCell ⟨p, 2, none⟩ (.int .i64 ((y : Int) + 1))).cell? ⟨w.heap.size, 2, none⟩ = some (.slice none 0 0) := hz.cell 2 (by simp)
    have f0 : (w6.setCell ⟨p, 2, none⟩ (.int .i64 ((y : Int) + 1))).frozen? ⟨w.heap.size, 0, none⟩ = false := hz.frozen 0
    have f1 : (w6.setCell ⟨p, 2, none⟩ (.int .i64 ((y : Int) + 1))).frozen? ⟨w.heap.size, 1, none⟩ = false := hz.frozen 1
    have f2 : (w6.setCell ⟨p, 2, none⟩ (.int .i64 ((y : Int) + 1))).frozen? ⟨w.heap.size, 2, none⟩ = false := hz.frozen 2
    have t0 : (w6.setCell ⟨p, 2, none⟩ (.int .i64 ((y : Int) + 1))).cell? ⟨w4.heap.size, 0, none⟩ = some (.string k) := ht.cell 0 (by simp)
    have t1 : (w6.setCell ⟨p, 2, none⟩ (.int .i64 ((y : Int) + 1))).cell? ⟨w4.heap.size, 1, none⟩ = some (.string n) := ht.cell 1 (by simp)
    have t2 : (w6.setCell ⟨p, 2, none⟩ (.int .i64 ((y : Int) + 1))).cell? ⟨w4.heap.size, 2, none⟩ = some (.slice a l c) := ht.cell 2 (by simp)
    have hb7 : Box (w6.setCell ⟨p, 2, none⟩ (.int .i64 ((y : Int) + 1))) p 129 [rv, .string s, .int .i64 ((y + 1 : Nat) : Int), .int .i64 (-1)] := by
      have := hb6.set 2 (.int .i64 ((y : Int) + 1))
      simpa using this
    have HX7 := (show Hid _ from hb7)
    have HB7 := (show Hid (But p w (w6.setCell ⟨p, 2, none⟩ (.int .i64 ((y : Int) + 1)))) from (But.trans HB5.out hbt6).put _)
    clear hb6 hbt6 hz ht hb7 HS5 HZ5 HT5 HB5
    go_wp2_with fail
    refine bodyPost_ret (v := .agg #[.string k, .string n, .slice a l c]) (by simp [results, Try.results116, go_sem, z0, z1, z2]) rfl ?_
    exact HFIN.out _ _ _ _ _ (y + 1) (-1) _ (((HX7.out.past (by omega)).past (by omega)).past (by omega)) (((HB7.out.other (Nat.le_refl _) _).other (Nat.le_refl _) _).other (Nat.le_refl _) _) hys (fun _ => ⟨rfl, by rw [HR.out]⟩) (fun h => by rw [HR.out] at h; cases h)
  · have HR := (show Hid (R = (false, j') ∧ (if bad < 0 then (y : Int) else bad) = (j' : Int) ∧ (decide (bad < 0) && decide (bt s y = ((41 : Nat) : Int))) = false) from (by
      have := HRD2.out
      cases b' with
      | true =>
        obtain ⟨e1, e2⟩ := HTF.out.1 rfl
        have h41 : ¬ bt s y = 41 := fun h => hok ⟨rfl, h⟩
        have e3 : y = j' := e2
        subst e3
        simp only [if_neg h41] at this
        injection this with this
        refine ⟨this.symm, by rw [e1]; simp, ?_⟩
        rw [decide_eq_false (p := bt s y = ((41 : Nat) : Int)) h41]
        simp
      | false =>
        have e1 := HTF.out.2 rfl
        have e3 : bad = (j' : Int) := e1
        simp only at this
        injection this with this
        refine ⟨this.symm, by rw [if_neg (by omega)]; exact e3, ?_⟩
        rw [decide_eq_false (p := bad < 0) (by omega)]
        rfl))
    rw [HR.out.2.2] at HS5
    clear hok HTF HRD2 HT5
    go_wp2_with fail
    refine Calls.mono HS5.out ?_
    rintro e w6 ⟨rfl, hb6, hbt6⟩
    have c2 : w6.cell? ⟨p, 2, none⟩ = some (.int .i64 (y : Int)) := hb6.cell 2 (by simp)
    have HF := (show Hid _ from fail88 s y y p bad rv w6 hb6)
    have HB6 := (show Hid (But p w w6) from But.trans HB5.out hbt6)
    have HZ6 := (show Hid _ from HZ5.out.but hbt6 (by omega))
    rw [HR.out.2.1] at HF
    clear hb6 hbt6 HS5 HZ5 HB5
    go_wp2_with fail
    refine Calls.mono HF.out ?_
    rintro e w7 ⟨rfl, hb7, hbt7⟩
    have hz := HZ6.out.but hbt7 (by omega)
    have z0 : w7.cell? ⟨w.heap.size, 0, none⟩ = some (.string ⟨#[]⟩) := hz.cell 0 (by simp)
    have z1 : w7.cell? ⟨w.heap.size, 1, none⟩ = some (.string ⟨#[]⟩) := hz.cell 1 (by simp)
    have z2 : w7.cell? ⟨w.heap.size, 2, none⟩ = some (.slice none 0 0) := hz.cell 2 (by simp)
    have f0 : w7.frozen? ⟨w.heap.size, 0, none⟩ = false := hz.frozen 0
    have f1 : w7.frozen? ⟨w.heap.size, 1, none⟩ = false := hz.frozen 1
    have f2 : w7.frozen? ⟨w.heap.size, 2, none⟩ = false := hz.frozen 2
    have HB7 := (show Hid (But p w w7) from But.trans HB6.out hbt7)
    have HX7 := (show Hid _ from hb7)
    clear hb7 hbt7 HF HB6 HZ6 hz c2
    go_wp2_with fail
    refine bodyPost_ret (v := noPl) (by simp [results, Try.results116, go_sem, z0, z1, z2]) rfl ?_
    exact HFIN.out _ _ _ _ _ y (j' : Int) _ (((HX7.out.past (by omega)).past (by omega)).past (by omega)) (((HB7.out.other (Nat.le_refl _) _).other (Nat.le_refl _) _).other (Nat.le_refl _) _) hy (fun h => by rw [HR.out.1] at h; cases h) (fun _ => by rw [HR.out.1])
end Go.Proofs.Ytkkhdkfmaopmfaa
