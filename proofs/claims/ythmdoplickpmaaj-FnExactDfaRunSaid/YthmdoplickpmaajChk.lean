import Derived.Test.YthmdoplickpmaajInts
/-! Whether a machine is one: the program's own look. -/
namespace Go.Proofs.Ythmdoplickpmaaj
open Go.RowKit Go.Deep
set_option linter.unusedVariables false
set_option linter.unusedSimpArgs false

/-- What is answered tells whether P. -/
def Says (P : Prop) (e : Ending) : Prop := ∃ r : Bool, e = .returned (.bool r) ∧ (r = true ↔ P)
theorem says_yes {P : Prop} (h : P) : Says P (.returned (.bool true)) := ⟨true, rfl, by simp [h]⟩
theorem says_no {P : Prop} (h : ¬ P) : Says P (.returned (.bool false)) := ⟨false, rfl, by simp [h]⟩
theorem Says.cases {P : Prop} {e : Ending} (h : Says P e) : (e = .returned (.bool true) ∧ Hid P) ∨ (e = .returned (.bool false) ∧ Hid (¬ P)) := by
  obtain ⟨r, rfl, hr⟩ := h
  cases r with
  | true => exact .inl ⟨rfl, hr.1 rfl⟩
  | false => exact .inr ⟨rfl, fun h => by have := hr.2 h; cases this⟩

/-- spec.l01Between. -/
theorem between_any (x lo hi : Int) (w : World) :
    Calls Try.prog 18 #[.int .i64 x, .int .i64 lo, .int .i64 hi] w fun e w' => Says (lo ≤ x ∧ x ≤ hi) e ∧ w' = w := by
  by_cases h1 : lo ≤ x
  · by_cases h2 : x ≤ hi
    · go_enter Try.func18, Try.ntmps18
      go_wp2_with fail
      go_ret
      exact ⟨says_yes ⟨h1, h2⟩, rfl⟩
    · go_enter Try.func18, Try.ntmps18
      go_wp2_with fail
      go_ret
      exact ⟨says_no (fun h => by omega), rfl⟩
  · go_enter Try.func18, Try.ntmps18
    go_wp2_with fail
    go_ret
    exact ⟨says_no (fun h => by omega), rfl⟩

/-- All are between. -/
def AllIn (l : List Int) (lo hi : Int) : Prop := ∀ i (h : i < l.length), lo ≤ l[i] ∧ l[i] ≤ hi
set_option maxHeartbeats 400000 in
/-- impl.allWithin. -/
theorem within_any {S : Nat → Prop} (l : List Int) (v : Value) (lo hi : Int) (w : World) (h : Ints w S l v) :
    Calls Try.prog 53 #[v, .int .i64 lo, .int .i64 hi] w fun e w' => Says (AllIn l lo hi) e ∧ w' = w := by
  obtain ⟨a, cap, b, off, rfl, hc, hm, ha, hcell⟩ := h
  have HC := (show Hid _ from hcell); clear hcell
  have HA := (show Hid _ from ha); clear ha
  unfold maxLen at hm
  go_enter Try.func53, Try.ntmps53
  go_wp2_with fail
  go_loopw [11] (fun i wr => ∃ j : Nat, j ≤ l.length ∧ i = .int .i64 j ∧ wr = w ∧ Hid (∀ i (h : i < l.length), i < j → lo ≤ l[i] ∧ l[i] ≤ hi)) (fun i _ => l.length - (intOf i).toNat)
  case atStart => exact ⟨0, Nat.zero_le _, rfl, rfl, fun i hi h0 => absurd h0 (Nat.not_lt_zero _)⟩
  case round =>
    obtain ⟨j, hj, rfl, rfl, HX⟩ := hrel
    by_cases hlt : j < l.length
    · obtain ⟨rfl, _⟩ := HA.out (by omega)
      have c0 := HC.out j hlt
      have hx : ∃ x, l[j] = x := ⟨_, rfl⟩
      obtain ⟨x, hx⟩ := hx
      rw [hx] at c0
      by_cases h1 : x < lo
      · have HN := (show Hid (¬ AllIn l lo hi) from fun hh => by have := (hh j hlt).1; omega)
        clear hx
        go_wp2_with fail
        go_ret
        exact ⟨says_no HN.out, rfl⟩
      · by_cases h2 : hi < x
        · have HN := (show Hid (¬ AllIn l lo hi) from fun hh => by have := (hh j hlt).2; omega)
          clear hx
          go_wp2_with fail
          go_ret
          exact ⟨says_no HN.out, rfl⟩
        · have HN := (show Hid (∀ i (h : i < l.length), i < j + 1 → lo ≤ l[i] ∧ l[i] ≤ hi) from fun i h hij => by
            by_cases e : i = j
            · subst e; omega
            · exact HX.out i h (by omega))
          clear hx
          go_wp2_with fail
          exact ⟨⟨j + 1, by omega, by go_num, by trivial, HN⟩, by simp [intOf]; omega⟩
    · obtain rfl : j = l.length := by omega
      go_wp2_with fail
      go_ret
      exact ⟨says_yes (fun i h => HX.out i h h), rfl⟩

set_option maxHeartbeats 800000 in
/-- impl.isDfa. -/
theorem isDfa_any {S : Nat → Prop} (d : Df) (v0 v1 v2 : Value) (w : World) (h : DLies w S d v0 v1 v2) :
    Calls Try.prog 21 #[.agg #[v0, v1, v2]] w fun e w' => Says d.Ok e ∧ Below w.heap.size w w' := by
  have h' := h.still (bel_alloc w (.cells #[v0, v1, v2] 29))
  obtain ⟨T0, T1, T2⟩ := three_box w v0 v1 v2 29
  have hbw := bel_alloc w (.cells #[v0, v1, v2] 29)
  have hwc := within_any d.cls v0 0 ((d.nxt.getD 0 []).length - 1 : Int) _ h'.cls
  obtain ⟨a1, cap1, b1, off1, sv, rfl, hc1, hm1, ha1, hcell1, hr1⟩ := h'.nxt
  obtain ⟨a2, cap2, b2, off2, rfl, hc2, hm2, ha2, hcell2⟩ := h'.acc
  obtain ⟨a0, cap0, rfl, hm0⟩ := h'.cls.form
  have HWC := (show Hid _ from hwc)
  have HC1 := (show Hid _ from hcell1)
  have HC2 := (show Hid _ from hcell2)
  have HA1 := (show Hid _ from ha1)
  have HA2 := (show Hid _ from ha2)
  have HR1 := (show Hid _ from hr1)
  clear h h' hwc hcell1 hcell2 ha1 ha2 hr1
  unfold maxLen at hm1 hm2 hm0
  by_cases c1 : d.nxt.length < 1
  · have HN := (show Hid (¬ d.Ok) from fun hh => by have q := hh.2.1; omega)
    have c1' : (d.nxt.length : Int) < 1 := by omega
    go_enter Try.func21, Try.ntmps21
    go_wp2_with fail
    go_ret
    exact ⟨says_no HN.out, hbw⟩
  by_cases c2 : 401 < d.nxt.length
  · have HN := (show Hid (¬ d.Ok) from fun hh => by have q := hh.2.2.1; omega)
    have c1' : ¬ (d.nxt.length : Int) < 1 := by omega
    have c2' : (401 : Int) < d.nxt.length := by omega
    go_enter Try.func21, Try.ntmps21
    go_wp2_with fail
    go_ret
    exact ⟨says_no HN.out, hbw⟩
  have c1' : ¬ (d.nxt.length : Int) < 1 := by omega
  have c2' : ¬ (401 : Int) < d.nxt.length := by omega
  by_cases c3 : d.acc.length = d.nxt.length
  case neg =>
    have HN := (show Hid (¬ d.Ok) from fun hh => by have q := hh.2.2.2.1; omega)
    have c3' : ((d.acc.length : Int) != d.nxt.length) = true := by simp; omega
    go_enter Try.func21, Try.ntmps21
    go_wp2_with fail
    go_ret
    exact ⟨says_no HN.out, hbw⟩
  have c3' : ((d.acc.length : Int) != d.nxt.length) = false := by simp; omega
  have C3 := (show Hid _ from c3); clear c3
  by_cases c4 : d.cls.length = 256
  case neg =>
    have HN := (show Hid (¬ d.Ok) from fun hh => by have q := hh.1; omega)
    have c4' : ((d.cls.length : Int) != 256) = true := by simp; omega
    go_enter Try.func21, Try.ntmps21
    go_wp2_with fail
    go_ret
    exact ⟨says_no HN.out, hbw⟩
  have c4' : ((d.cls.length : Int) != 256) = false := by simp; omega
  have C4 := (show Hid _ from c4); clear c4
  obtain ⟨rfl, _⟩ := HA1.out (by omega)
  obtain ⟨rfl, _⟩ := HA2.out (by have := C3.out; omega)
  have z0 := HC1.out 0 (by omega)
  rw [Nat.add_zero] at z0
  obtain ⟨a3, cap3, e3, hm3⟩ := (HR1.out 0 (by omega)).form
  rw [e3] at z0
  have hg0 : d.nxt.getD 0 [] = d.nxt[0] := getD_lt _ _ (by omega)
  rw [← hg0] at z0 hm3
  clear hg0 e3
  have hn0 : ∃ n0, (d.nxt.getD 0 []).length = n0 := ⟨_, rfl⟩
  obtain ⟨n0, hn0⟩ := hn0
  rw [hn0] at z0 hm3 HWC
  have HN0 := (show Hid _ from hn0); clear hn0
  unfold maxLen at hm3
  by_cases c5 : n0 < 1
  · have HN := (show Hid (¬ d.Ok) from fun hh => by have q := hh.2.2.2.2.1; rw [HN0.out] at q; omega)
    have c5' : (n0 : Int) < 1 := by omega
    go_enter Try.func21, Try.ntmps21
    go_wp2_with fail
    go_ret
    exact ⟨says_no HN.out, hbw⟩
  by_cases c6 : 256 < n0
  · have HN := (show Hid (¬ d.Ok) from fun hh => by have q := hh.2.2.2.2.2.1; rw [HN0.out] at q; omega)
    have c5' : ¬ (n0 : Int) < 1 := by omega
    have c6' : (256 : Int) < n0 := by omega
    go_enter Try.func21, Try.ntmps21
    go_wp2_with fail
    go_ret
    exact ⟨says_no HN.out, hbw⟩
  have c5' : ¬ (n0 : Int) < 1 := by omega
  have c6' : ¬ (256 : Int) < n0 := by omega
  go_enter Try.func21, Try.ntmps21
  go_wp2_with fail
  refine Calls.mono HWC.out ?_
  rintro e w1 ⟨hs, rfl⟩
  rcases hs.cases with ⟨rfl, HC⟩ | ⟨rfl, HC⟩
  case inr =>
    have HN := (show Hid (¬ d.Ok) from fun hh => by have q := hh.2.2.2.2.2.2.1; rw [HN0.out] at q; exact HC.out q)
    go_wp2_with fail
    go_ret
    exact ⟨says_no HN.out, hbw⟩
  clear hs z0
  go_wp2_with fail
  go_loopw [53] (fun i wr => ∃ j : Nat, j ≤ d.nxt.length ∧ i = .int .i64 j ∧ wr = w.alloc (.cells #[.slice a0 d.cls.length cap0, .slice (some ⟨b1, off1, none⟩) d.nxt.length cap1, .slice (some ⟨b2, off2, none⟩) d.acc.length cap2] 29) ∧
    Hid (∀ s (hs : s < d.nxt.length), s < j → d.nxt[s].length = n0 ∧ -1 ≤ d.acc.getD s 0 ∧ ∀ c (hc : c < d.nxt[s].length), -1 ≤ d.nxt[s][c] ∧ d.nxt[s][c] ≤ (d.nxt.length : Int) - 1)) (fun i _ => d.nxt.length - (intOf i).toNat)
  case atStart => exact ⟨0, Nat.zero_le _, rfl, by trivial, fun i hi h0 => absurd h0 (Nat.not_lt_zero _)⟩
  case round =>
    obtain ⟨j, hj, rfl, rfl, HX⟩ := hrel
    by_cases hlt : j < d.nxt.length
    case neg =>
      obtain rfl : j = d.nxt.length := by omega
      have HN := (show Hid d.Ok from ⟨C4.out, by omega, by omega, C3.out, by rw [HN0.out]; omega, by rw [HN0.out]; omega, by rw [HN0.out]; exact HC.out, fun s hs => by rw [HN0.out]; exact HX.out s hs hs⟩)
      go_wp2_with fail
      go_ret
      exact ⟨says_yes HN.out, hbw⟩
    have c0 := HC1.out j hlt
    have hI := HR1.out j hlt
    have hja : j < d.acc.length := by have := C3.out; omega
    have d0 := HC2.out j hja
    have hwr := within_any d.nxt[j] _ (-1) (d.nxt.length - 1 : Int) _ hI
    obtain ⟨a4, cap4, e4, hm4⟩ := hI.form
    rw [e4] at c0 hwr
    unfold maxLen at hm4
    have HWR := (show Hid _ from hwr)
    have hl4 : ∃ n4, d.nxt[j].length = n4 := ⟨_, rfl⟩
    obtain ⟨n4, hl4⟩ := hl4
    have hx4 : ∃ x, d.acc[j]'(by have := C3.out; omega) = x := ⟨_, rfl⟩
    obtain ⟨x, hx4⟩ := hx4
    have hxg : d.acc.getD j 0 = x := by rw [getD_lt _ _ (by have := C3.out; omega)]; exact hx4
    rw [hx4] at d0
    rw [hl4] at c0 hm4 HWR
    have HL4 := (show Hid _ from (⟨hl4, hxg⟩ : _ ∧ _))
    clear hI hwr e4 hl4 hx4 hxg
    by_cases c7 : n4 = n0
    case neg =>
      have HN := (show Hid (¬ d.Ok) from fun hh => by have q := (hh.2.2.2.2.2.2.2 j hlt).1; rw [HN0.out] at q; have := HL4.out.1; omega)
      have c7' : ((n4 : Int) != n0) = true := by simp; omega
      go_wp2_with fail
      go_ret
      exact ⟨says_no HN.out, hbw⟩
    have c7' : ((n4 : Int) != n0) = false := by simp; omega
    have C7 := (show Hid _ from c7); clear c7
    go_wp2_with fail
    refine Calls.mono HWR.out ?_
    rintro e w1 ⟨hs, rfl⟩
    rcases hs.cases with ⟨rfl, HD⟩ | ⟨rfl, HD⟩
    case inr =>
      have HN := (show Hid (¬ d.Ok) from fun hh => HD.out (hh.2.2.2.2.2.2.2 j hlt).2.2)
      clear hs
      go_wp2_with fail
      go_ret
      exact ⟨says_no HN.out, hbw⟩
    clear hs
    by_cases c8 : x < -1
    · have HN := (show Hid (¬ d.Ok) from fun hh => by have q := (hh.2.2.2.2.2.2.2 j hlt).2.1; rw [HL4.out.2] at q; omega)
      go_wp2_with fail
      go_ret
      exact ⟨says_no HN.out, hbw⟩
    have HN := (show Hid (∀ s (hs : s < d.nxt.length), s < j + 1 → d.nxt[s].length = n0 ∧ -1 ≤ d.acc.getD s 0 ∧ ∀ c (hc : c < d.nxt[s].length), -1 ≤ d.nxt[s][c] ∧ d.nxt[s][c] ≤ (d.nxt.length : Int) - 1) from fun s hs hsj => by
      by_cases e : s = j
      · subst e; exact ⟨by rw [HL4.out.1]; exact C7.out, by rw [HL4.out.2]; omega, HD.out⟩
      · exact HX.out s hs (by omega))
    go_wp2_with fail
    exact ⟨⟨j + 1, by omega, by go_num, by trivial, HN⟩, by simp [intOf]; omega⟩
end Go.Proofs.Ythmdoplickpmaaj
