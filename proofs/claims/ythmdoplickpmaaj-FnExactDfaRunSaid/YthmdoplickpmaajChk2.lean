import Derived.Test.YthmdoplickpmaajChk
/-! Whether a machine is one: the specification's look. -/
namespace Go.Proofs.Ythmdoplickpmaaj
open Go.RowKit Go.Deep
set_option linter.unusedVariables false
set_option linter.unusedSimpArgs false

theorem bel_drewN {B : Nat} {a w : World} (h : Below B a w) (n : Nat) : Below B a (w.drewN n) := h.trans ⟨rfl, rfl, rfl, Nat.le_refl _, fun _ _ => rfl⟩
theorem between_yes {x lo hi : Int} (h : lo ≤ x ∧ x ≤ hi) (w : World) :
    Calls Try.prog 18 #[.int .i64 x, .int .i64 lo, .int .i64 hi] w fun e w' => e = .returned (.bool true) ∧ w' = w := by
  refine (between_any x lo hi w).mono ?_
  rintro e w1 ⟨hs, rfl⟩
  rcases hs.cases with ⟨rfl, _⟩ | ⟨_, hn⟩
  · exact ⟨rfl, rfl⟩
  · exact absurd h hn.out
theorem between_no {x lo hi : Int} (h : ¬ (lo ≤ x ∧ x ≤ hi)) (w : World) :
    Calls Try.prog 18 #[.int .i64 x, .int .i64 lo, .int .i64 hi] w fun e w' => e = .returned (.bool false) ∧ w' = w := by
  refine (between_any x lo hi w).mono ?_
  rintro e w1 ⟨hs, rfl⟩
  rcases hs.cases with ⟨_, hn⟩ | ⟨rfl, _⟩
  · exact absurd hn.out h
  · exact ⟨rfl, rfl⟩

/-- What the row s of a machine must keep. -/
def RowOk (d : Df) (n0 s : Nat) : Prop := (d.nxt.getD s []).length = n0 ∧ -1 ≤ d.acc.getD s 0 ∧ AllIn (d.nxt.getD s []) (-1) ((d.nxt.length : Int) - 1)
theorem rowOk_of {d : Df} {s n0 : Nat} (h : d.Ok) (hn : (d.nxt.getD 0 []).length = n0) (hs : s < d.nxt.length) : RowOk d n0 s := by
  obtain ⟨q1, q2, q3⟩ := h.2.2.2.2.2.2.2 s hs
  rw [hn] at q1
  unfold RowOk
  rw [getD_lt _ _ hs]
  exact ⟨q1, q2, q3⟩
theorem ok_of {d : Df} {n0 : Nat} (h1 : d.cls.length = 256) (h2 : 1 ≤ d.nxt.length) (h3 : d.nxt.length ≤ 401) (h4 : d.acc.length = d.nxt.length) (hn : (d.nxt.getD 0 []).length = n0) (h5 : 1 ≤ n0) (h6 : n0 ≤ 256) (h7 : AllIn d.cls 0 ((n0 : Int) - 1)) (h8 : ∀ s, s < d.nxt.length → RowOk d n0 s) : d.Ok :=
  ⟨h1, h2, h3, h4, by omega, by omega, by rw [hn]; exact h7, fun s hs => by
    obtain ⟨q1, q2, q3⟩ := h8 s hs
    rw [getD_lt _ _ hs] at q1 q3
    exact ⟨by rw [hn]; exact q1, q2, q3⟩⟩

set_option maxHeartbeats 1600000 in
set_option maxRecDepth 100000 in
/-- spec.l02DfaOK. -/
theorem dfaOK_any {S : Nat → Prop} (d : Df) (v0 v1 v2 : Value) (w : World) (h : DLies w S d v0 v1 v2) :
    Calls Try.prog 17 #[.agg #[v0, v1, v2]] w fun e w' => Says d.Ok e ∧ Below w.heap.size w w' := by
  have h' := h.still (bel_alloc w (.cells #[v0, v1, v2] 29))
  have TH := (show Hid _ from three_box w v0 v1 v2 29)
  obtain ⟨T0, T1, T2⟩ := three_box w v0 v1 v2 29
  have hbw := bel_alloc w (.cells #[v0, v1, v2] 29)
  obtain ⟨a1, cap1, b1, off1, sv, rfl, hc1, hm1, ha1, hcell1, hr1⟩ := h'.nxt
  obtain ⟨a2, cap2, b2, off2, rfl, hc2, hm2, ha2, hcell2⟩ := h'.acc
  obtain ⟨a0, cap0, b0, off0, rfl, hc0, hm0, ha0, hcell0⟩ := h'.cls
  have HC1 := (show Hid _ from hcell1)
  have HC2 := (show Hid _ from hcell2)
  have HC0 := (show Hid _ from hcell0)
  have HA1 := (show Hid _ from ha1)
  have HA2 := (show Hid _ from ha2)
  have HA0 := (show Hid _ from ha0)
  have HR1 := (show Hid _ from hr1)
  clear h h' hcell0 hcell1 hcell2 ha0 ha1 ha2 hr1
  unfold maxLen at hm1 hm2 hm0
  by_cases c4 : d.cls.length = 256
  case neg =>
    have HN := (show Hid (¬ d.Ok) from fun hh => by have q := hh.1; omega)
    have c4' : ((d.cls.length : Int) != 256) = true := by simp; omega
    go_enter Try.func17, Try.ntmps17
    go_wp2_with fail
    go_ret
    exact ⟨says_no HN.out, hbw⟩
  have c4' : ((d.cls.length : Int) != 256) = false := by simp; omega
  have C4 := (show Hid _ from c4); clear c4
  by_cases c1 : (1 : Int) ≤ d.nxt.length ∧ (d.nxt.length : Int) ≤ 401
  case neg =>
    have HN := (show Hid (¬ d.Ok) from fun hh => by have q := hh.2.1; have q' := hh.2.2.1; omega)
    have HB := (show Hid _ from fun w => between_no c1 w); clear c1
    go_enter Try.func17, Try.ntmps17
    go_wp2_with fail
    refine Calls.mono (HB.out _) ?_
    rintro e w1 ⟨rfl, rfl⟩
    go_wp2_with fail
    go_ret
    exact ⟨says_no HN.out, hbw⟩
  have HB := (show Hid _ from fun w => between_yes c1 w)
  have c1a : 1 ≤ d.nxt.length := by omega
  have c1b : d.nxt.length ≤ 401 := by omega
  clear c1
  by_cases c3 : d.acc.length = d.nxt.length
  case neg =>
    have HN := (show Hid (¬ d.Ok) from fun hh => by have q := hh.2.2.2.1; omega)
    have c3' : ((d.acc.length : Int) != d.nxt.length) = true := by simp; omega
    go_enter Try.func17, Try.ntmps17
    go_wp2_with fail
    refine Calls.mono (HB.out _) ?_
    rintro e w1 ⟨rfl, rfl⟩
    go_wp2_with fail
    go_ret
    exact ⟨says_no HN.out, hbw⟩
  have c3' : ((d.acc.length : Int) != d.nxt.length) = false := by simp; omega
  have C3 := (show Hid _ from c3); clear c3
  obtain ⟨rfl, _⟩ := HA1.out (by omega)
  obtain ⟨rfl, _⟩ := HA2.out (by have := C3.out; omega)
  obtain ⟨rfl, _⟩ := HA0.out (by have := C4.out; omega)
  have z0 := HC1.out 0 (by omega)
  rw [Nat.add_zero] at z0
  obtain ⟨a3, cap3, e3, hm3⟩ := (HR1.out 0 (by omega)).form
  rw [e3] at z0
  have hg0 : d.nxt.getD 0 [] = d.nxt[0] := getD_lt _ _ (by omega)
  rw [← hg0] at z0 hm3
  clear hg0 e3
  have hn0 : ∃ n0, (d.nxt.getD 0 []).length = n0 := ⟨_, rfl⟩
  obtain ⟨n0, hn0⟩ := hn0
  rw [hn0] at z0 hm3
  have HN0 := (show Hid _ from hn0); clear hn0
  unfold maxLen at hm3
  by_cases c5 : (1 : Int) ≤ n0 ∧ (n0 : Int) ≤ 256
  case neg =>
    have HN := (show Hid (¬ d.Ok) from fun hh => by have q := hh.2.2.2.2.1; have q' := hh.2.2.2.2.2.1; rw [HN0.out] at q q'; omega)
    have HB2 := (show Hid _ from fun w => between_no c5 w); clear c5
    go_enter Try.func17, Try.ntmps17
    go_wp2_with fail
    refine Calls.mono (HB.out _) ?_
    rintro e w1 ⟨rfl, rfl⟩
    go_wp2_with fail
    refine Calls.mono (HB2.out _) ?_
    rintro e w1 ⟨rfl, rfl⟩
    go_wp2_with fail
    go_ret
    exact ⟨says_no HN.out, hbw⟩
  have HB2 := (show Hid _ from fun w => between_yes c5 w)
  have c5a : 1 ≤ n0 := by omega
  have c5b : n0 ≤ 256 := by omega
  clear c5
  go_enter Try.func17, Try.ntmps17
  go_wp2_with fail
  refine Calls.mono (HB.out _) ?_
  rintro e w1 ⟨rfl, rfl⟩
  go_wp2_with fail
  refine Calls.mono (HB2.out _) ?_
  rintro e w1 ⟨rfl, rfl⟩
  clear z0
  go_wp2_with fail
  go_loopw [4] (fun i wr => ∃ j : Nat, j ≤ 256 ∧ i = .int .i64 j ∧ wr = w.alloc (.cells #[.slice (some ⟨b0, off0, none⟩) d.cls.length cap0, .slice (some ⟨b1, off1, none⟩) d.nxt.length cap1, .slice (some ⟨b2, off2, none⟩) d.acc.length cap2] 29) ∧
    Hid (∀ i (h : i < d.cls.length), i < j → 0 ≤ d.cls[i] ∧ d.cls[i] ≤ (n0 : Int) - 1)) (fun i _ => 256 - (intOf i).toNat)
  case atStart => exact ⟨0, Nat.zero_le _, rfl, by trivial, fun i hi h0 => absurd h0 (Nat.not_lt_zero _)⟩
  case round =>
    obtain ⟨j, hj, rfl, rfl, HX⟩ := hrel
    by_cases hlt : j < 256
    · have hjc : j < d.cls.length := by have := C4.out; omega
      have k0 := HC0.out j hjc
      have hx : ∃ x, d.cls[j] = x := ⟨_, rfl⟩
      obtain ⟨x, hx⟩ := hx
      rw [hx] at k0
      have HXX := (show Hid _ from hx); clear hx
      by_cases c6 : 0 ≤ x ∧ x ≤ (n0 : Int) - 1
      case neg =>
        have HN := (show Hid (¬ d.Ok) from fun hh => by have q := hh.2.2.2.2.2.2.1 j hjc; rw [HN0.out, HXX.out] at q; exact c6 q)
        have HB3 := (show Hid _ from fun w => between_no c6 w); clear c6
        go_wp2_with fail
        refine Calls.mono (HB3.out _) ?_
        rintro e w1 ⟨rfl, rfl⟩
        go_wp2_with fail
        go_ret
        exact ⟨says_no HN.out, hbw⟩
      have HN := (show Hid (∀ i (h : i < d.cls.length), i < j + 1 → 0 ≤ d.cls[i] ∧ d.cls[i] ≤ (n0 : Int) - 1) from fun i h hij => by
        by_cases e : i = j
        · subst e; rw [HXX.out]; exact c6
        · exact HX.out i h (by omega))
      have HB3 := (show Hid _ from fun w => between_yes c6 w); clear c6
      go_wp2_with fail
      refine Calls.mono (HB3.out _) ?_
      rintro e w1 ⟨rfl, rfl⟩
      go_wp2_with fail
      exact ⟨⟨j + 1, by omega, by go_num, by trivial, HN⟩, by simp [intOf]; omega⟩
    · have HCL := (show Hid (AllIn d.cls 0 ((n0 : Int) - 1)) from fun i h => HX.out i h (by have := C4.out; omega))
      clear HX
      go_wp2_with fail
      go_loopw [5] (fun i wr => ∃ s : Nat, s ≤ d.nxt.length ∧ i = .int .i64 s ∧ Below w.heap.size w wr ∧ Below (w.alloc (.cells #[.slice (some ⟨b0, off0, none⟩) d.cls.length cap0, .slice (some ⟨b1, off1, none⟩) d.nxt.length cap1, .slice (some ⟨b2, off2, none⟩) d.acc.length cap2] 29)).heap.size (w.alloc (.cells #[.slice (some ⟨b0, off0, none⟩) d.cls.length cap0, .slice (some ⟨b1, off1, none⟩) d.nxt.length cap1, .slice (some ⟨b2, off2, none⟩) d.acc.length cap2] 29)) wr ∧
        Hid (∀ t, t < s → RowOk d n0 t)) (fun i _ => d.nxt.length - (intOf i).toNat)
      case atStart => exact ⟨0, Nat.zero_le _, rfl, hbw, Below.refl _ _, fun i h0 => absurd h0 (Nat.not_lt_zero _)⟩
      case round =>
        obtain ⟨s, hs, rfl, hbw1, hbW, HX⟩ := hrel
        obtain ⟨T0, T1, T2⟩ := Three.still TH.out hbW
        by_cases hlt : s < d.nxt.length
        case neg =>
          obtain rfl : s = d.nxt.length := by omega
          have HN := (show Hid d.Ok from ok_of C4.out c1a c1b C3.out HN0.out c5a c5b HCL.out HX.out)
          go_wp2_with fail
          go_ret
          exact ⟨says_yes HN.out, hbw1⟩
        have k1 := (hbW.cell (lt_of_cell (HC1.out s hlt))).trans (HC1.out s hlt)
        have hsa : s < d.acc.length := by have := C3.out; omega
        have k2 := (hbW.cell (lt_of_cell (HC2.out s hsa))).trans (HC2.out s hsa)
        have hI := HR1.out s hlt
        obtain ⟨a4, cap4, b4, off4, e4, hc4, hm4, ha4, hcell4⟩ := hI
        rw [e4] at k1
        have HE4 := (show Hid _ from e4); clear e4
        have hx4 : ∃ x, d.acc[s] = x := ⟨_, rfl⟩
        obtain ⟨x, hx4⟩ := hx4
        rw [hx4] at k2
        have hxg : d.acc.getD s 0 = x := by rw [getD_lt _ _ hsa]; exact hx4
        have hrg : d.nxt.getD s [] = d.nxt[s] := getD_lt _ _ hlt
        generalize d.nxt[s] = row at *
        have HR := (show Hid _ from (⟨hxg, hrg⟩ : _ ∧ _)); clear hxg hx4 hrg
        have HA4 := (show Hid _ from ha4); clear ha4
        have HC4 := (show Hid _ from hcell4); clear hcell4
        unfold maxLen at hm4
        by_cases c7 : row.length = n0
        case neg =>
          have HN := (show Hid (¬ d.Ok) from fun hh => by have q := (rowOk_of hh HN0.out hlt).1; rw [HR.out.2] at q; exact c7 q)
          have c7' : ((row.length : Int) != n0) = true := by simp; omega
          go_wp2_with fail
          go_ret
          exact ⟨says_no HN.out, hbw1⟩
        have c7' : ((row.length : Int) != n0) = false := by simp; omega
        have C7 := (show Hid _ from c7); clear c7
        by_cases c8 : x < -1
        · have HN := (show Hid (¬ d.Ok) from fun hh => by have q := (rowOk_of hh HN0.out hlt).2.1; rw [HR.out.1] at q; omega)
          go_wp2_with fail
          go_ret
          exact ⟨says_no HN.out, hbw1⟩
        go_wp2_with fail
        go_loopw [6] (fun i wr => ∃ k : Nat, k ≤ n0 ∧ i = .int .i64 k ∧ Below w.heap.size w wr ∧ Below (w.alloc (.cells #[.slice (some ⟨b0, off0, none⟩) d.cls.length cap0, .slice (some ⟨b1, off1, none⟩) d.nxt.length cap1, .slice (some ⟨b2, off2, none⟩) d.acc.length cap2] 29)).heap.size (w.alloc (.cells #[.slice (some ⟨b0, off0, none⟩) d.cls.length cap0, .slice (some ⟨b1, off1, none⟩) d.nxt.length cap1, .slice (some ⟨b2, off2, none⟩) d.acc.length cap2] 29)) wr ∧
          Hid (∀ c (h : c < row.length), c < k → -1 ≤ row[c] ∧ row[c] ≤ (d.nxt.length : Int) - 1)) (fun i _ => n0 - (intOf i).toNat)
        case atStart => exact ⟨0, Nat.zero_le _, rfl, hbw1, hbW, fun i hi h0 => absurd h0 (Nat.not_lt_zero _)⟩
        case round =>
          clear T0 T1 T2 k2 k1 hbw1 hbW
          obtain ⟨k, hk, rfl, hbw1, hbW, HY⟩ := hrel
          by_cases hlk : k < n0
          case neg =>
            obtain rfl : k = n0 := by omega
            have HN := (show Hid (∀ t, t < s + 1 → RowOk d k t) from fun t ht => by
              by_cases e : t = s
              · subst e
                unfold RowOk
                rw [HR.out.2, HR.out.1]
                exact ⟨C7.out, by omega, fun c h => HY.out c h (by have := C7.out; omega)⟩
              · exact HX.out t (by omega))
            go_wp2_with fail
            exact ⟨⟨s + 1, by omega, by go_num, hbw1, hbW, HN⟩, by simp [intOf]; omega⟩
          obtain ⟨T0, T1, T2⟩ := Three.still TH.out hbW
          have k1 := (hbW.cell (lt_of_cell (HC1.out s hlt))).trans (HC1.out s hlt)
          have hkr : k < row.length := by have := C7.out; omega
          obtain ⟨rfl, _⟩ := HA4.out (by omega)
          rw [HE4.out] at k1
          have k4 := (hbW.cell (lt_of_cell (HC4.out k hkr))).trans (HC4.out k hkr)
          have hy : ∃ y, row[k] = y := ⟨_, rfl⟩
          obtain ⟨y, hy⟩ := hy
          rw [hy] at k4
          have HYY := (show Hid _ from hy); clear hy
          by_cases c9 : -1 ≤ y ∧ y ≤ (d.nxt.length : Int) - 1
          case neg =>
            have HN := (show Hid (¬ d.Ok) from fun hh => by
              have q := (rowOk_of hh HN0.out hlt).2.2
              rw [HR.out.2] at q
              have q' := q k hkr
              rw [HYY.out] at q'
              exact c9 q')
            have HB4 := (show Hid _ from fun w => between_no c9 w); clear c9
            have hbb : ∀ m, Below w.heap.size w (wr.drewN m) := fun m => bel_drewN hbw1 m
            go_wp2_with fail
            go_quiet ((go_at_call 18; refine Calls.quiet_of_same (HB4.out _)))
            go_wp2_with fail
            go_ret
            exact ⟨says_no HN.out, hbb _⟩
          have HN := (show Hid (∀ c (h : c < row.length), c < k + 1 → -1 ≤ row[c] ∧ row[c] ≤ (d.nxt.length : Int) - 1) from fun c h hck => by
            by_cases e : c = k
            · subst e; rw [HYY.out]; exact c9
            · exact HY.out c h (by omega))
          have HB4 := (show Hid _ from fun w => between_yes c9 w); clear c9
          have hbb : ∀ m, Below w.heap.size w (wr.drewN m) := fun m => bel_drewN hbw1 m
          have hbb' : ∀ m, Below _ _ (wr.drewN m) := fun m => bel_drewN hbW m
          go_wp2_with fail
          go_quiet ((go_at_call 18; refine Calls.quiet_of_same (HB4.out _)))
          go_wp2_with fail
          exact ⟨⟨k + 1, by omega, by go_num, hbb _, hbb' _, HN⟩, by simp [intOf]; omega⟩
end Go.Proofs.Ythmdoplickpmaaj
