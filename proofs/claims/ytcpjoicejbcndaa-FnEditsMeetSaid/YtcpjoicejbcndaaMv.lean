import Derived.Test.YtcpjoicejbcndaaEs
import Derived.Lib.MinMax
import Derived.Deep.RegionHeld3
/-! MoveEdit: what is said, and the small functions of both sides. -/
namespace Go.Proofs.Ytcpjoicejbcndaa
set_option linter.unusedVariables false
set_option maxRecDepth 100000
set_option linter.unusedSimpArgs false
open Go.RowKit Go.Deep

theorem ret_bool {a b : Bool} (h : a = b) : Ending.returned (.bool a) = .returned (.bool b) := by rw [h]
theorem ret_int {k : IntKind} {a b : Int} (h : a = b) : Ending.returned (.int k a) = .returned (.int k b) := by rw [h]
def wiB (x : Int) : Bool := decide (0 ≤ x ∧ x ≤ 4000)
/-- An edit is within the limits. -/
def fitB (a d : Int) (n : Nat) : Bool := wiB a && (wiB d && wiB (n : Int))
/-- Where a begin comes to be, where an end. -/
def mvB (B D L p : Int) : Int := if p < B then p else if p ≤ B + D then B + L else p + (L - D)
def mvE (B D L p : Int) : Int := if p ≤ B then p else if p < B + D then B else p + (L - D)

/-- Three numbers behind a slice. -/
def nth3 (x y z : Int) (j : Nat) : Int := if j = 0 then x else if j = 1 then y else z
set_option maxHeartbeats 400000 in
theorem within20 (x y z : Int) (b : Nat) (w : World) (hc : ∀ j, j < 3 → w.cell? ⟨b, j, none⟩ = some (.int .i64 (nth3 x y z j))) :
    Calls Try.prog 19 #[.slice (some ⟨b, 0, none⟩) 3 3, .int .i64 0, .int .i64 4000] w fun e w' => e = .returned (.bool (wiB x && (wiB y && wiB z))) ∧ w' = w := by
  have HR : Hid (∀ j, j < 3 → ¬ (0 ≤ nth3 x y z j ∧ nth3 x y z j ≤ 4000) → (wiB x && (wiB y && wiB z)) = false) := by
    show ∀ j, _
    intro j hj hn
    have h3 : j = 0 ∨ j = 1 ∨ j = 2 := by omega
    rcases h3 with rfl | rfl | rfl
    · have : wiB x = false := decide_eq_false (by simpa [nth3] using hn)
      simp [this]
    · have : wiB y = false := decide_eq_false (by simpa [nth3] using hn)
      simp [this]
    · have : wiB z = false := decide_eq_false (by simpa [nth3] using hn)
      simp [this]
  have HY : Hid ((∀ j, j < 3 → (0 ≤ nth3 x y z j ∧ nth3 x y z j ≤ 4000)) → (wiB x && (wiB y && wiB z)) = true) := by
    show _ → _
    intro h
    have h0 : wiB x = true := decide_eq_true (by simpa [nth3] using h 0 (by omega))
    have h1 : wiB y = true := decide_eq_true (by simpa [nth3] using h 1 (by omega))
    have h2 : wiB z = true := decide_eq_true (by simpa [nth3] using h 2 (by omega))
    simp [h0, h1, h2]
  generalize (wiB x && (wiB y && wiB z)) = R at *
  generalize nth3 x y z = f at *
  have HC := (show Hid _ from hc); clear hc
  go_enter Try.func19, Try.ntmps19
  go_wp2_with fail
  go_loopw [11] (fun i wr => ∃ j : Nat, j ≤ 3 ∧ i = .int .i64 j ∧ wr = w ∧ Hid (∀ k, k < j → 0 ≤ f k ∧ f k ≤ 4000)) (fun i _ => 3 - (intOf i).toNat)
  case atStart => exact ⟨0, Nat.zero_le _, rfl, rfl, fun i h0 => absurd h0 (Nat.not_lt_zero _)⟩
  case round =>
    obtain ⟨j, hj, rfl, rfl, HX⟩ := hrel
    by_cases hlt : j < 3
    · have c0 := HC.out j hlt
      have hx : ∃ x, f j = x := ⟨_, rfl⟩
      obtain ⟨x, hx⟩ := hx
      rw [hx] at c0
      by_cases h1 : x < 0
      · have HN := (show Hid (R = false) from HR.out j hlt (by rw [hx]; omega))
        clear hx
        go_wp2_with fail
        go_ret
        exact ⟨ret_bool HN.out.symm, rfl⟩
      · by_cases h2 : 4000 < x
        · have HN := (show Hid (R = false) from HR.out j hlt (by rw [hx]; omega))
          clear hx
          go_wp2_with fail
          go_ret
          exact ⟨ret_bool HN.out.symm, rfl⟩
        · have HN := (show Hid (∀ k, k < j + 1 → 0 ≤ f k ∧ f k ≤ 4000) from fun i hij => by
            by_cases e : i = j
            · subst e; omega
            · exact HX.out i (by omega))
          clear hx
          go_wp2_with fail
          exact ⟨⟨j + 1, by omega, by go_num, by trivial, HN⟩, by simp [intOf]; omega⟩
    · obtain rfl : j = 3 := by omega
      go_wp2_with fail
      go_ret
      exact ⟨ret_bool (HY.out HX.out).symm, rfl⟩
theorem fits14 (a d : Int) (s : ByteArray) (hs : s.size ≤ 1048576) (w : World) :
    Calls Try.prog 14 #[edV a d s] w fun e w' => e = .returned (.bool (fitB a d s.size)) ∧ Below w.heap.size w w' := by
  have H := (show Hid _ from fun b w' h => within20 a d (s.size : Int) b w' h)
  unfold fitB
  generalize (wiB a && (wiB d && wiB (s.size : Int))) = R at *
  have HB := (show Hid _ from ((((Below.refl w.heap.size w).alloc (Nat.le_refl _) (.cells #[.int .i64 a, .int .i64 d, .string s] 25)).alloc (by simp) (.cells #[.int .i64 a, .int .i64 d, .int .i64 (s.size : Int)] 3))))
  unfold edV
  go_enter Try.func14, Try.ntmps14
  go_wp2_with fail
  refine Calls.mono (H.out _ _ ?_) ?_
  · intro j hj
    have h3 : j = 0 ∨ j = 1 ∨ j = 2 := by omega
    rcases h3 with rfl | rfl | rfl <;> simp [nth3, go_sem]
  rintro e w1 ⟨rfl, rfl⟩
  go_wp2_with fail
  go_ret
  exact ⟨rfl, HB.out⟩
theorem fits12 (a d : Int) (s : ByteArray) (hs : s.size ≤ 1048576) (w : World) :
    Calls Try.prog 12 #[edV a d s] w fun e w' => e = .returned (.bool (fitB a d s.size)) ∧ Below w.heap.size w w' := by
  have H := (show Hid _ from fun x (w' : World) => betw_any x 0 4000 w')
  have HB := (show Hid _ from (((Below.refl w.heap.size w).alloc (Nat.le_refl _) (.cells #[.int .i64 a, .int .i64 d, .string s] 25))))
  have hab : Hid ((decide (0 ≤ a ∧ a ≤ 4000)) = wiB a) := rfl
  have hdb : Hid ((decide (0 ≤ d ∧ d ≤ 4000)) = wiB d) := rfl
  unfold fitB
  cases ha : wiB a
  · unfold edV
    go_enter Try.func12, Try.ntmps12
    go_wp2_with fail
    refine Calls.mono (H.out _ _) ?_
    rintro e w1 ⟨rfl, rfl⟩
    rw [hab.out, ha]
    go_wp2_with fail
    go_ret
    exact ⟨rfl, HB.out⟩
  cases hd : wiB d
  · unfold edV
    go_enter Try.func12, Try.ntmps12
    go_wp2_with fail
    refine Calls.mono (H.out _ _) ?_
    rintro e w1 ⟨rfl, rfl⟩
    rw [hab.out, ha]
    go_wp2_with fail
    refine Calls.mono (H.out _ _) ?_
    rintro e w1 ⟨rfl, rfl⟩
    rw [hdb.out, hd]
    go_wp2_with fail
    go_ret
    exact ⟨rfl, HB.out⟩
  · by_cases hn : s.size ≤ 4000
    · have HN := (show Hid (wiB (s.size : Int) = true) from decide_eq_true (by omega))
      unfold edV
      go_enter Try.func12, Try.ntmps12
      go_wp2_with fail
      refine Calls.mono (H.out _ _) ?_
      rintro e w1 ⟨rfl, rfl⟩
      rw [hab.out, ha]
      go_wp2_with fail
      refine Calls.mono (H.out _ _) ?_
      rintro e w1 ⟨rfl, rfl⟩
      rw [hdb.out, hd]
      go_wp2_with fail
      go_ret
      exact ⟨ret_bool (by rw [HN.out]; simp; omega), HB.out⟩
    · have HN := (show Hid (wiB (s.size : Int) = false) from decide_eq_false (by omega))
      unfold edV
      go_enter Try.func12, Try.ntmps12
      go_wp2_with fail
      refine Calls.mono (H.out _ _) ?_
      rintro e w1 ⟨rfl, rfl⟩
      rw [hab.out, ha]
      go_wp2_with fail
      refine Calls.mono (H.out _ _) ?_
      rintro e w1 ⟨rfl, rfl⟩
      rw [hdb.out, hd]
      go_wp2_with fail
      go_ret
      exact ⟨ret_bool (by rw [HN.out]; simp; omega), HB.out⟩
theorem end18 (a d : Int) (s : ByteArray) (h : -9223372036854775808 ≤ a + d ∧ a + d ≤ 9223372036854775807) (w : World) :
    Calls Try.prog 22 #[edV a d s] w fun e w' => e = .returned (.int .i64 (a + d)) ∧ Below w.heap.size w w' := by
  have HB := (show Hid _ from (((Below.refl w.heap.size w).alloc (Nat.le_refl _) (.cells #[.int .i64 a, .int .i64 d, .string s] 25))))
  have hw : IntKind.i64.wrap (a + d) = a + d := by rw [IntKind.wrap_i64]; omega
  clear h
  unfold edV
  go_enter Try.func22, Try.ntmps22
  go_wp2_with fail
  go_ret
  exact ⟨rfl, HB.out⟩
theorem begin21 (B D p : Int) (s : ByteArray) (hs : s.size ≤ 1048576) (hB : 0 ≤ B) (hB2 : B ≤ 4000) (hD : 0 ≤ D) (hD2 : D ≤ 4000) (hp : 0 ≤ p) (hp2 : p ≤ 8000) (w : World) :
    Calls Try.prog 20 #[edV B D s, .int .i64 p] w fun e w' => e = .returned (.int .i64 (mvB B D s.size p)) ∧ Below w.heap.size w w' := by
  have HE := (show Hid _ from fun w' => end18 B D s (by omega) w')
  have HM := (show Hid _ from fun w' => more_any B D s hs hD hD2 w')
  have HB := (show Hid _ from (((Below.refl w.heap.size w).alloc (Nat.le_refl _) (.cells #[.int .i64 B, .int .i64 D, .string s] 25))))
  have h0 : (w.alloc (.cells #[.int .i64 B, .int .i64 D, .string s] 25)).cell? ⟨w.heap.size, 0, none⟩ = some (.int .i64 B) := by simp [go_sem]
  have h1 : (w.alloc (.cells #[.int .i64 B, .int .i64 D, .string s] 25)).cell? ⟨w.heap.size, 1, none⟩ = some (.int .i64 D) := by simp [go_sem]
  have h2 : (w.alloc (.cells #[.int .i64 B, .int .i64 D, .string s] 25)).cell? ⟨w.heap.size, 2, none⟩ = some (.string s) := by simp [go_sem]
  by_cases b1 : p < B
  · have HR := (show Hid (mvB B D s.size p = p) from if_pos b1)
    generalize mvB B D s.size p = R at *
    unfold edV
    go_enter Try.func20, Try.ntmps20
    go_wp2_with fail
    go_ret
    exact ⟨ret_int HR.out.symm, HB.out⟩
  by_cases b2 : p ≤ B + D
  · have HR := (show Hid (mvB B D s.size p = B + s.size) from (if_neg b1).trans (if_pos b2))
    generalize mvB B D s.size p = R at *
    have hw : IntKind.i64.wrap (B + (s.size : Int)) = B + (s.size : Int) := by rw [IntKind.wrap_i64]; omega
    unfold edV at *
    go_enter Try.func20, Try.ntmps20
    go_wp2_with fail
    refine Calls.mono (HE.out _) ?_
    rintro e w1 ⟨rfl, hb1⟩
    have q0 := (hb1.cell (by simp)).trans h0
    have q2 := (hb1.cell (by simp)).trans h2
    have HB1 := (show Hid _ from bel_box' hb1); clear hb1
    go_wp2_with fail
    go_ret
    exact ⟨ret_int HR.out.symm, HB1.out⟩
  · have HR := (show Hid (mvB B D s.size p = p + (s.size - D)) from (if_neg b1).trans (if_neg b2))
    generalize mvB B D s.size p = R at *
    have hw : IntKind.i64.wrap (p + ((s.size : Int) - D)) = p + ((s.size : Int) - D) := by rw [IntKind.wrap_i64]; omega
    unfold edV at *
    go_enter Try.func20, Try.ntmps20
    go_wp2_with fail
    refine Calls.mono (HE.out _) ?_
    rintro e w1 ⟨rfl, hb1⟩
    have q0 := (hb1.cell (by simp)).trans h0
    have q1 := (hb1.cell (by simp)).trans h1
    have q2 := (hb1.cell (by simp)).trans h2
    have HB1 := (show Hid _ from bel_box' hb1); clear hb1
    go_wp2_with fail
    refine Calls.mono (HM.out _) ?_
    rintro e w2 ⟨rfl, hb2⟩
    have HB2 := (show Hid _ from HB1.out.trans (hb2.mono HB1.out.size)); clear hb2
    go_wp2_with fail
    go_ret
    exact ⟨ret_int HR.out.symm, HB2.out⟩
theorem end22 (B D p : Int) (s : ByteArray) (hs : s.size ≤ 1048576) (hB : 0 ≤ B) (hB2 : B ≤ 4000) (hD : 0 ≤ D) (hD2 : D ≤ 4000) (hp : 0 ≤ p) (hp2 : p ≤ 8000) (w : World) :
    Calls Try.prog 21 #[edV B D s, .int .i64 p] w fun e w' => e = .returned (.int .i64 (mvE B D s.size p)) ∧ Below w.heap.size w w' := by
  have HE := (show Hid _ from fun w' => end18 B D s (by omega) w')
  have HM := (show Hid _ from fun w' => more_any B D s hs hD hD2 w')
  have HB := (show Hid _ from (((Below.refl w.heap.size w).alloc (Nat.le_refl _) (.cells #[.int .i64 B, .int .i64 D, .string s] 25))))
  have h0 : (w.alloc (.cells #[.int .i64 B, .int .i64 D, .string s] 25)).cell? ⟨w.heap.size, 0, none⟩ = some (.int .i64 B) := by simp [go_sem]
  have h1 : (w.alloc (.cells #[.int .i64 B, .int .i64 D, .string s] 25)).cell? ⟨w.heap.size, 1, none⟩ = some (.int .i64 D) := by simp [go_sem]
  have h2 : (w.alloc (.cells #[.int .i64 B, .int .i64 D, .string s] 25)).cell? ⟨w.heap.size, 2, none⟩ = some (.string s) := by simp [go_sem]
  by_cases b1 : p ≤ B
  · have HR := (show Hid (mvE B D s.size p = p) from if_pos b1)
    generalize mvE B D s.size p = R at *
    unfold edV
    go_enter Try.func21, Try.ntmps21
    go_wp2_with fail
    go_ret
    exact ⟨ret_int HR.out.symm, HB.out⟩
  by_cases b2 : p < B + D
  · have HR := (show Hid (mvE B D s.size p = B) from (if_neg b1).trans (if_pos b2))
    generalize mvE B D s.size p = R at *
    unfold edV at *
    go_enter Try.func21, Try.ntmps21
    go_wp2_with fail
    refine Calls.mono (HE.out _) ?_
    rintro e w1 ⟨rfl, hb1⟩
    have q0 := (hb1.cell (by simp)).trans h0
    have q2 := (hb1.cell (by simp)).trans h2
    have HB1 := (show Hid _ from bel_box' hb1); clear hb1
    go_wp2_with fail
    go_ret
    exact ⟨ret_int HR.out.symm, HB1.out⟩
  · have HR := (show Hid (mvE B D s.size p = p + (s.size - D)) from (if_neg b1).trans (if_neg b2))
    generalize mvE B D s.size p = R at *
    have hw : IntKind.i64.wrap (p + ((s.size : Int) - D)) = p + ((s.size : Int) - D) := by rw [IntKind.wrap_i64]; omega
    unfold edV at *
    go_enter Try.func21, Try.ntmps21
    go_wp2_with fail
    refine Calls.mono (HE.out _) ?_
    rintro e w1 ⟨rfl, hb1⟩
    have q0 := (hb1.cell (by simp)).trans h0
    have q1 := (hb1.cell (by simp)).trans h1
    have q2 := (hb1.cell (by simp)).trans h2
    have HB1 := (show Hid _ from bel_box' hb1); clear hb1
    go_wp2_with fail
    refine Calls.mono (HM.out _) ?_
    rintro e w2 ⟨rfl, hb2⟩
    have HB2 := (show Hid _ from HB1.out.trans (hb2.mono HB1.out.size)); clear hb2
    go_wp2_with fail
    go_ret
    exact ⟨ret_int HR.out.symm, HB2.out⟩
end Go.Proofs.Ytcpjoicejbcndaa
