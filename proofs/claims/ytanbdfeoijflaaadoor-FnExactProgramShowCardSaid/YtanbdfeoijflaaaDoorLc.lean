import Derived.Test.YtanbdfeoijflaaaDoorLb
/-! A program as text: what a line is; the specification. -/
namespace Go.Proofs.YtanbdfeoijflaaaDoor
open Go.RowKit Go.Deep Go.Lib
set_option linter.unusedVariables false
set_option maxRecDepth 100000
set_option linter.unusedSimpArgs false

/-- A line, without its end; all lines. -/
def lnT (x : DIns) : List UInt8 := (rwS x.op.toNat).data.toList ++ ((if (hnB x.op || decide (x.op = 10)) = true then 32 :: decDigits x.n.toNat else []) ++ (if htB x.op = true then 32 :: decDigits x.to_.toNat else []))
def lnL (x : DIns) : List UInt8 := lnT x ++ [10]
def shL (l : List DIns) : List UInt8 := l.flatMap lnL
/-- What an instruction must be to have a line. -/
structure LnOK (x : DIns) : Prop where
  op : 1 ≤ x.op ∧ x.op ≤ 10
  n : 0 ≤ x.n ∧ x.n ≤ 100000
  to_ : 0 ≤ x.to_ ∧ x.to_ ≤ 100000
theorem ln_len {x : DIns} (h : LnOK x) : (lnL x).length ≤ 60 := by
  have h1 := rws_len x.op.toNat
  have h2 := dec_len (n := x.n.toNat) (by have := h.n; omega)
  have h3 := dec_len (n := x.to_.toNat) (by have := h.to_; omega)
  unfold lnL lnT
  simp only [List.length_append, List.length_cons, List.length_nil]
  split <;> split <;> simp only [List.length_cons, List.length_nil] <;> omega
set_option maxHeartbeats 6400000 in
/-- The specification's line. -/
theorem line15 (x : DIns) (h : LnOK x) (w : World) : Calls Tryd.prog 15 #[.agg #[.int .i64 x.op, .int .i64 x.n, .int .i64 x.to_]] w fun e w' => e = .returned (.string (bs (lnT x))) ∧ Below w.heap.size w w' := by
  obtain ⟨op, n, to_⟩ := x
  obtain ⟨⟨o1, o2⟩, ⟨n1, n2⟩, ⟨t1, t2⟩⟩ := h
  dsimp only at o1 o2 n1 n2 t1 t2
  obtain ⟨k, rfl⟩ : ∃ k : Nat, op = (k : Int) := ⟨op.toNat, by omega⟩
  obtain ⟨m, rfl⟩ : ∃ m : Nat, n = (m : Int) := ⟨n.toNat, by omega⟩
  obtain ⟨q, rfl⟩ : ∃ q : Nat, to_ = (q : Int) := ⟨to_.toNat, by omega⟩
  have HW := (show Hid (∀ w', Calls Tryd.prog 29 #[.int .i64 (k : Nat)] w' fun e w'' => e = .returned (.string (rwS k)) ∧ Below w'.heap.size w' w'') from fun w' => word29 k (by omega) (by omega) w')
  have HN := (show Hid (∀ w', Calls Tryd.prog 27 #[.int .i64 (k : Nat)] w' fun e w'' => e = .returned (.bool (hnB k)) ∧ w'' = w') from fun w' => hasN33 k w')
  have HT := (show Hid (∀ w', Calls Tryd.prog 26 #[.int .i64 (k : Nat)] w' fun e w'' => e = .returned (.bool (htB k)) ∧ w'' = w') from fun w' => hasTo32 k w')
  have HD1 := (show Hid (∀ w', Calls Tryd.prog 30 #[.int .i64 (m : Nat)] w' fun e w'' => e = .returned (.string (bs (decDigits m))) ∧ Below w'.heap.size w' w'') from fun w' => dig30 m (by omega) w')
  have HD2 := (show Hid (∀ w', Calls Tryd.prog 30 #[.int .i64 (q : Nat)] w' fun e w'' => e = .returned (.string (bs (decDigits q))) ∧ Below w'.heap.size w' w'') from fun w' => dig30 q (by omega) w')
  have z0 : (rwS k).size ≤ 6 := rws_len k
  have z1 : (bs (decDigits m)).size ≤ 21 := by rw [bs_size]; exact dec_len (by omega)
  have z2 : (bs (decDigits q)).size ≤ 21 := by rw [bs_size]; exact dec_len (by omega)
  have HA := (show Hid (bs (lnT ⟨k, m, q⟩) = (if htB k = true then ((if (hnB k || decide ((k : Int) = 10)) = true then (rwS k ++ (⟨#[32]⟩ : ByteArray)) ++ bs (decDigits m) else rwS k) ++ (⟨#[32]⟩ : ByteArray)) ++ bs (decDigits q) else (if (hnB k || decide ((k : Int) = 10)) = true then (rwS k ++ (⟨#[32]⟩ : ByteArray)) ++ bs (decDigits m) else rwS k))) from by
    show _ = _
    unfold lnT
    simp only [Int.toNat_natCast]
    obtain ⟨W, hW⟩ : ∃ W, (rwS k).data.toList = W := ⟨_, rfl⟩
    have e : rwS k = bs W := by rw [← hW]; rfl
    rw [hW, e, show (⟨#[32]⟩ : ByteArray) = bs [32] from rfl]
    generalize (hnB (k : Int) || decide ((k : Int) = 10)) = A
    generalize htB (k : Int) = B
    cases A <;> cases B <;> simp only [if_true, if_false, Bool.false_eq_true, bs_append, List.append_nil, List.nil_append] <;> (congr 1; simp))
  have hb0 := bel_alloc w (.cells #[.int .i64 (k : Nat), .int .i64 (m : Nat), .int .i64 (q : Nat)] 38)
  have HC := (show Hid (∀ w', Below w.heap.size w w' → w'.cell? ⟨w.heap.size, 0, none⟩ = (w.alloc (.cells #[.int .i64 (k : Nat), .int .i64 (m : Nat), .int .i64 (q : Nat)] 38)).cell? ⟨w.heap.size, 0, none⟩ → True) from fun _ _ _ => trivial)
  have HB := (show Hid (∀ w', Below (w.alloc (.cells #[.int .i64 (k : Nat), .int .i64 (m : Nat), .int .i64 (q : Nat)] 38)).heap.size (w.alloc (.cells #[.int .i64 (k : Nat), .int .i64 (m : Nat), .int .i64 (q : Nat)] 38)) w' → Below w.heap.size w w' ∧ w'.cell? ⟨w.heap.size, 0, none⟩ = some (.int .i64 (k : Nat)) ∧ w'.cell? ⟨w.heap.size, 1, none⟩ = some (.int .i64 (m : Nat)) ∧ w'.cell? ⟨w.heap.size, 2, none⟩ = some (.int .i64 (q : Nat))) from fun w' hb => by
    have b := (Box.new w 38 [.int .i64 (k : Nat), .int .i64 (m : Nat), .int .i64 (q : Nat)]).still hb
    exact ⟨hb0.trans (hb.mono hb0.size), b.cell 0 (by simp), b.cell 1 (by simp), b.cell 2 (by simp)⟩)
  clear HC hb0
  generalize bs (lnT ⟨k, m, q⟩) = LN at *
  generalize bs (decDigits m) = sM at *
  generalize bs (decDigits q) = sQ at *
  generalize rwS k = sW at *
  have zs : (⟨#[32]⟩ : ByteArray).size = 1 := rfl
  have y1 : (sW ++ (⟨#[32]⟩ : ByteArray)).size ≤ 7 := by rw [ByteArray.size_append, zs]; omega
  have had1 := fun w => run_string_add_sum (P := Tryd.prog) (w := w) sW (⟨#[32]⟩ : ByteArray) (by rw [zs]; omega)
  have had2 := fun w => run_string_add_sum (P := Tryd.prog) (w := w) (sW ++ (⟨#[32]⟩ : ByteArray)) sM (by omega)
  have had5 := fun w => run_string_add_sum (P := Tryd.prog) (w := w) (sW ++ (⟨#[32]⟩ : ByteArray)) sQ (by omega)
  have y2 : ((sW ++ (⟨#[32]⟩ : ByteArray)) ++ sM).size ≤ 28 := by rw [ByteArray.size_append]; omega
  have had3 := fun w => run_string_add_sum (P := Tryd.prog) (w := w) ((sW ++ (⟨#[32]⟩ : ByteArray)) ++ sM) (⟨#[32]⟩ : ByteArray) (by rw [zs]; omega)
  have y3 : (((sW ++ (⟨#[32]⟩ : ByteArray)) ++ sM) ++ (⟨#[32]⟩ : ByteArray)).size ≤ 29 := by rw [ByteArray.size_append, zs]; omega
  have had4 := fun w => run_string_add_sum (P := Tryd.prog) (w := w) (((sW ++ (⟨#[32]⟩ : ByteArray)) ++ sM) ++ (⟨#[32]⟩ : ByteArray)) sQ (by omega)
  clear y1 y2 y3 z0 z1 z2 zs
  obtain ⟨_, x0, x1, x2⟩ := HB.out _ (Below.refl _ _)
  go_enter Tryd.func15, Tryd.ntmps15
  go_wp2_with fail
  refine Calls.mono (HW.out _) ?_
  rintro e w1 ⟨rfl, hb1⟩
  have H1 := (show Hid _ from hb1)
  clear x0 x1 x2 hb1
  obtain ⟨_, x0, x1, x2⟩ := HB.out w1 H1.out
  go_wp2_with fail
  refine Calls.mono (HN.out _) ?_
  rintro e w2 ⟨rfl, hw2⟩
  rw [hw2]
  clear hw2 w2
  have hfin : ∀ w9, Below (w.alloc (.cells #[.int .i64 (k : Nat), .int .i64 (m : Nat), .int .i64 (q : Nat)] 38)).heap.size (w.alloc (.cells #[.int .i64 (k : Nat), .int .i64 (m : Nat), .int .i64 (q : Nat)] 38)) w9 → Below w.heap.size w w9 := fun w9 hb => (HB.out w9 hb).1
  have HFI := (show Hid _ from hfin)
  clear hfin
  cases hA : hnB (k : Int)
  · cases h10 : decide ((k : Int) = 10)
    rotate_left
    · have h11 : ((k : Int) == 10) = true := by have := of_decide_eq_true h10; simp [this]
      go_wp2_with fail
      refine Calls.mono (HD1.out _) ?_
      rintro e w3 ⟨rfl, hb3⟩
      have H3 := (show Hid (Below (w.alloc (.cells #[.int .i64 (k : Nat), .int .i64 (m : Nat), .int .i64 (q : Nat)] 38)).heap.size (w.alloc (.cells #[.int .i64 (k : Nat), .int .i64 (m : Nat), .int .i64 (q : Nat)] 38)) w3) from H1.out.trans (hb3.mono H1.out.size))
      clear hb3 x0 x1 x2
      obtain ⟨_, x0, x1, x2⟩ := HB.out w3 H3.out
      go_wp2_with fail
      refine Calls.mono (HT.out _) ?_
      rintro e w5 ⟨rfl, hw5⟩
      rw [hw5]
      clear hw5 w5
      cases hB : htB (k : Int)
      · have HE := (show Hid (LN = ((sW ++ (⟨#[32]⟩ : ByteArray)) ++ sM)) from by show _ = _; rw [HA.out]; simp only [hA, hB, h10, Bool.false_or, Bool.true_or, Bool.or_true, Bool.or_false, if_true, if_false, Bool.false_eq_true])
        go_wp2_with fail
        go_ret
        exact ⟨by rw [HE.out]; rfl, HFI.out _ H3.out⟩
      · have HE := (show Hid (LN = (((sW ++ (⟨#[32]⟩ : ByteArray)) ++ sM) ++ (⟨#[32]⟩ : ByteArray)) ++ sQ) from by show _ = _; rw [HA.out]; simp only [hA, hB, h10, Bool.false_or, Bool.true_or, Bool.or_true, Bool.or_false, if_true, if_false, Bool.false_eq_true])
        go_wp2_with fail
        refine Calls.mono (HD2.out _) ?_
        rintro e w6 ⟨rfl, hb6⟩
        have H6 := (show Hid (Below (w.alloc (.cells #[.int .i64 (k : Nat), .int .i64 (m : Nat), .int .i64 (q : Nat)] 38)).heap.size (w.alloc (.cells #[.int .i64 (k : Nat), .int .i64 (m : Nat), .int .i64 (q : Nat)] 38)) w6) from H3.out.trans (hb6.mono H3.out.size))
        clear hb6
        go_wp2_with fail
        go_ret
        exact ⟨by rw [HE.out]; rfl, HFI.out _ H6.out⟩
    · have h11 : ((k : Int) == 10) = false := by have := of_decide_eq_false h10; simp only [beq_eq_false_iff_ne, ne_eq]; exact this
      go_wp2_with fail
      refine Calls.mono (HT.out _) ?_
      rintro e w5 ⟨rfl, hw5⟩
      rw [hw5]
      clear hw5 w5
      cases hB : htB (k : Int)
      · have HE := (show Hid (LN = sW) from by show _ = _; rw [HA.out]; simp only [hA, hB, h10, Bool.false_or, Bool.true_or, Bool.or_true, Bool.or_false, if_true, if_false, Bool.false_eq_true])
        go_wp2_with fail
        go_ret
        exact ⟨by rw [HE.out]; rfl, HFI.out _ H1.out⟩
      · have HE := (show Hid (LN = (sW ++ (⟨#[32]⟩ : ByteArray)) ++ sQ) from by show _ = _; rw [HA.out]; simp only [hA, hB, h10, Bool.false_or, Bool.true_or, Bool.or_true, Bool.or_false, if_true, if_false, Bool.false_eq_true])
        go_wp2_with fail
        refine Calls.mono (HD2.out _) ?_
        rintro e w6 ⟨rfl, hb6⟩
        have H6 := (show Hid (Below (w.alloc (.cells #[.int .i64 (k : Nat), .int .i64 (m : Nat), .int .i64 (q : Nat)] 38)).heap.size (w.alloc (.cells #[.int .i64 (k : Nat), .int .i64 (m : Nat), .int .i64 (q : Nat)] 38)) w6) from H1.out.trans (hb6.mono H1.out.size))
        clear hb6
        go_wp2_with fail
        go_ret
        exact ⟨by rw [HE.out]; rfl, HFI.out _ H6.out⟩
  · have h10 : (0 : Nat) = 0 := rfl
    go_wp2_with fail
    refine Calls.mono (HD1.out _) ?_
    rintro e w3 ⟨rfl, hb3⟩
    have H3 := (show Hid (Below (w.alloc (.cells #[.int .i64 (k : Nat), .int .i64 (m : Nat), .int .i64 (q : Nat)] 38)).heap.size (w.alloc (.cells #[.int .i64 (k : Nat), .int .i64 (m : Nat), .int .i64 (q : Nat)] 38)) w3) from H1.out.trans (hb3.mono H1.out.size))
    clear hb3 x0 x1 x2
    obtain ⟨_, x0, x1, x2⟩ := HB.out w3 H3.out
    go_wp2_with fail
    refine Calls.mono (HT.out _) ?_
    rintro e w5 ⟨rfl, hw5⟩
    rw [hw5]
    clear hw5 w5
    cases hB : htB (k : Int)
    · have HE := (show Hid (LN = ((sW ++ (⟨#[32]⟩ : ByteArray)) ++ sM)) from by show _ = _; rw [HA.out]; simp only [hA, hB, h10, Bool.false_or, Bool.true_or, Bool.or_true, Bool.or_false, if_true, if_false, Bool.false_eq_true])
      go_wp2_with fail
      go_ret
      exact ⟨by rw [HE.out]; rfl, HFI.out _ H3.out⟩
    · have HE := (show Hid (LN = (((sW ++ (⟨#[32]⟩ : ByteArray)) ++ sM) ++ (⟨#[32]⟩ : ByteArray)) ++ sQ) from by show _ = _; rw [HA.out]; simp only [hA, hB, h10, Bool.false_or, Bool.true_or, Bool.or_true, Bool.or_false, if_true, if_false, Bool.false_eq_true])
      go_wp2_with fail
      refine Calls.mono (HD2.out _) ?_
      rintro e w6 ⟨rfl, hb6⟩
      have H6 := (show Hid (Below (w.alloc (.cells #[.int .i64 (k : Nat), .int .i64 (m : Nat), .int .i64 (q : Nat)] 38)).heap.size (w.alloc (.cells #[.int .i64 (k : Nat), .int .i64 (m : Nat), .int .i64 (q : Nat)] 38)) w6) from H3.out.trans (hb6.mono H3.out.size))
      clear hb6
      go_wp2_with fail
      go_ret
      exact ⟨by rw [HE.out]; rfl, HFI.out _ H6.out⟩
end Go.Proofs.YtanbdfeoijflaaaDoor
