import Derived.Test.YtilahbfcobhjeaaRs
/-! A run of a program: the specification. -/
namespace Go.Proofs.Ytilahbfcobhjeaa
open Go.RowKit Go.Deep
set_option linter.unusedVariables false
set_option maxRecDepth 100000
set_option linter.unusedSimpArgs false

theorem Ints.inW {w : World} {S : Nat → Prop} {l : List Int} {v : Value} (h : Ints w S l v) : Ints w (fun b => b < w.heap.size) l v := by
  obtain ⟨a, cap, b, off, hv, hc, hm, ha, hcell⟩ := h
  exact ⟨a, cap, b, off, hv, hc, hm, fun h0 => ⟨(ha h0).1, lt_of_cell (hcell 0 h0)⟩, hcell⟩
/-- What stands at the head of the machine's loop. -/
def LpS (l : List DIns) (wd : List Int) (fuel : Nat) (RES : List Int × Int × Nat × Nat) (q : Nat) (vl vw : Value) (w2 wr : World) (n : Nat) (e : Bool) : Prop :=
  ∃ (r : Rn) (vp vt : Value) (c : Int), RunM wr q (q + 1) 73 (sC vl vw r vp vt c e) vp vt r ∧ Kp q (q + 1) w2 wr ∧
    (e = false → c = 0 ∧ r.Ok l wd ∧ rnF l wd (fuel - n) n r = RES) ∧ (e = true → RES = (r.told, c, r.place, n))
theorem RunM.new (w : World) (vl vw : Value) : RunM (w.alloc (.cells #[vl, vw, .int .i64 0, .slice none 0 0, .slice none 0 0, .int .i64 0, .int .i64 0, .bool false] 73)) w.heap.size (w.heap.size + 1) 73 (sC vl vw ⟨0, 0, [], []⟩ (.slice none 0 0) (.slice none 0 0) 0 false) (.slice none 0 0) (.slice none 0 0) ⟨0, 0, [], []⟩ :=
  ⟨Box.new w 73 [vl, vw, .int .i64 0, .slice none 0 0, .slice none 0 0, .int .i64 0, .int .i64 0, .bool false], ⟨rfl, .inl ⟨rfl, rfl⟩⟩, ⟨rfl, .inl ⟨rfl, rfl⟩⟩, (fun b e => by cases e), Nat.lt_succ_self _, by simp⟩
theorem Kp.of_new (w : World) (o : Obj) : Kp w.heap.size (w.heap.size + 1) w (w.alloc o) :=
  ⟨rfl, rfl, rfl, by simp, fun b hb hq => (bel_alloc w o).block b (by omega)⟩
theorem pg_pos {l : List DIns} (h : pgB l = true) : 0 < l.length := by
  apply Decidable.byContradiction
  intro hn
  rw [pgB_len (by omega)] at h
  cases h
theorem own_base {w : World} {base base' e size n : Nat} {v : Value} {xs : List Value} (h : w.ownsRow base e size v n xs) (hb : base' ≤ base) : w.ownsRow base' e size v n xs := by
  obtain ⟨h1, h2⟩ := h
  refine ⟨h1, ?_⟩
  rcases h2 with h2 | ⟨g, cap, cur, hv, hg, rest⟩
  · exact .inl h2
  · exact .inr ⟨g, cap, cur, hv, Nat.le_trans hb hg, rest⟩
set_option maxHeartbeats 3200000 in
theorem sRun13 {S S' : Nat → Prop} (l : List DIns) (wd : List Int) (fuel : Int) (vl vw : Value) (w : World) (hl : InsR w S l vl) (hw : Ints w S' wd vw) :
    Calls Try.prog 13 #[vl, vw, .int .i64 fuel] w fun e w' => RuA (reR l wd fuel) w e w' := by
  have HPG := (show Hid _ from sPg9 l vl w hl)
  have HBT := (show Hid _ from fun (w' : World) => bet31 fuel 0 1000000 w')
  have HI := (show Hid (InsR w S l vl) from hl)
  have HW := (show Hid (Ints w (fun b => b < w.heap.size) wd vw) from hw.inW)
  obtain ⟨al, cl, hvl, hml⟩ := hl.form
  obtain ⟨aw, cw, bw, ow, hvw, hcw, hmw, haw, hcellw⟩ := hw
  have HC := (show Hid _ from hcellw); clear hcellw
  have HA := (show Hid _ from haw); clear haw
  subst hvl hvw
  unfold maxLen at hmw
  have HRN := (show Hid (reB l wd fuel = false → reR l wd fuel = ([], 1, 0, 0)) from reR_no)
  have HRY := (show Hid (reB l wd fuel = true → reR l wd fuel = rnF l wd fuel.toNat 0 ⟨0, 0, [], []⟩) from reR_yes)
  have HPY := (show Hid (reB l wd fuel = true → pgB l = true ∧ wd.length ≤ 200 ∧ 0 ≤ fuel ∧ fuel ≤ 1000000) from fun h => by
    rw [reB_parts] at h
    unfold btB at h
    simp only [Bool.and_eq_true, decide_eq_true_eq] at h
    exact ⟨h.1, h.2.1, h.2.2.2.1, h.2.2.2.2⟩)
  generalize reR l wd fuel = RR at *
  have HRB := (show Hid (reB l wd fuel = (pgB l && (decide (wd.length ≤ 200) && (wdB wd && btB fuel 0 1000000)))) from rfl)
  generalize reB l wd fuel = RB at *
  generalize hP : pgB l = P at HPG HRB
  generalize btB fuel 0 1000000 = F at HBT HRB
  have HPE := (show Hid _ from hP); clear hP
  go_enter Try.func13, Try.ntmps13
  go_wp2_with fail
  refine Calls.mono HPG.out ?_
  rintro e w1 ⟨rfl, hb1⟩
  have HB1 := (show Hid _ from hb1); clear hb1
  cases P
  case false =>
    have HRR := (show Hid (RR = ([], 1, 0, 0)) from HRN.out (by rw [HRB.out]; simp []))
    go_wp2_with fail
    go_loopw [10, 11] (fun f i wr => f = .bool false ∧ i = .int .i64 0 ∧ w1 = wr) (fun _ _ _ => 0)
    case atStart => exact ⟨rfl, rfl, rfl⟩
    case round =>
      obtain ⟨rfl, rfl, rfl⟩ := hrel
      by_cases hz : (0 : Int) < wd.length
      · go_wp2_with fail
        refine bodyPost_ret (v := .tuple #[.slice (some ⟨w1.heap.size, 0, none⟩) 0 0, .int .i64 1, .int .i64 0, .int .i64 0]) (by simp [results, Try.results13, go_sem]) rfl ?_
        rw [HRR.out]
        exact ⟨_, rfl, bel_trans HB1.out (bel_alloc _ _), ⟨rfl, .inr ⟨w1.heap.size, 0, #[], rfl, HB1.out.size, blk_alloc_new _ _, Nat.le_refl _, Nat.zero_le _, rfl, rfl⟩⟩⟩
      · go_wp2_with fail
        refine bodyPost_ret (v := .tuple #[.slice (some ⟨w1.heap.size, 0, none⟩) 0 0, .int .i64 1, .int .i64 0, .int .i64 0]) (by simp [results, Try.results13, go_sem]) rfl ?_
        rw [HRR.out]
        exact ⟨_, rfl, bel_trans HB1.out (bel_alloc _ _), ⟨rfl, .inr ⟨w1.heap.size, 0, #[], rfl, HB1.out.size, blk_alloc_new _ _, Nat.le_refl _, Nat.zero_le _, rfl, rfl⟩⟩⟩
  by_cases h200 : wd.length ≤ 200
  case neg =>
    have h2 : ¬ (wd.length : Int) ≤ 200 := by omega
    have HRR := (show Hid (RR = ([], 1, 0, 0)) from HRN.out (by rw [HRB.out]; simp [h200]))
    go_wp2_with fail
    go_loopw [10, 11] (fun f i wr => f = .bool false ∧ i = .int .i64 0 ∧ w1 = wr) (fun _ _ _ => 0)
    case atStart => exact ⟨rfl, rfl, rfl⟩
    case round =>
      obtain ⟨rfl, rfl, rfl⟩ := hrel
      have hz : (0 : Int) < wd.length := by omega
      go_wp2_with fail
      refine bodyPost_ret (v := .tuple #[.slice (some ⟨w1.heap.size, 0, none⟩) 0 0, .int .i64 1, .int .i64 0, .int .i64 0]) (by simp [results, Try.results13, go_sem]) rfl ?_
      rw [HRR.out]
      exact ⟨_, rfl, bel_trans HB1.out (bel_alloc _ _), ⟨rfl, .inr ⟨w1.heap.size, 0, #[], rfl, HB1.out.size, blk_alloc_new _ _, Nat.le_refl _, Nat.zero_le _, rfl, rfl⟩⟩⟩
  have h2 : (wd.length : Int) ≤ 200 := by omega
  go_wp2_with fail
  refine Calls.mono (HBT.out _) ?_
  rintro e w1 ⟨rfl, rfl⟩
  cases F
  case false =>
    have HRR := (show Hid (RR = ([], 1, 0, 0)) from HRN.out (by rw [HRB.out]; simp [h200]))
    go_wp2_with fail
    go_loopw [10, 11] (fun f i wr => f = .bool false ∧ i = .int .i64 0 ∧ w1 = wr) (fun _ _ _ => 0)
    case atStart => exact ⟨rfl, rfl, rfl⟩
    case round =>
      obtain ⟨rfl, rfl, rfl⟩ := hrel
      by_cases hz : (0 : Int) < wd.length
      · go_wp2_with fail
        refine bodyPost_ret (v := .tuple #[.slice (some ⟨w1.heap.size, 0, none⟩) 0 0, .int .i64 1, .int .i64 0, .int .i64 0]) (by simp [results, Try.results13, go_sem]) rfl ?_
        rw [HRR.out]
        exact ⟨_, rfl, bel_trans HB1.out (bel_alloc _ _), ⟨rfl, .inr ⟨w1.heap.size, 0, #[], rfl, HB1.out.size, blk_alloc_new _ _, Nat.le_refl _, Nat.zero_le _, rfl, rfl⟩⟩⟩
      · go_wp2_with fail
        refine bodyPost_ret (v := .tuple #[.slice (some ⟨w1.heap.size, 0, none⟩) 0 0, .int .i64 1, .int .i64 0, .int .i64 0]) (by simp [results, Try.results13, go_sem]) rfl ?_
        rw [HRR.out]
        exact ⟨_, rfl, bel_trans HB1.out (bel_alloc _ _), ⟨rfl, .inr ⟨w1.heap.size, 0, #[], rfl, HB1.out.size, blk_alloc_new _ _, Nat.le_refl _, Nat.zero_le _, rfl, rfl⟩⟩⟩
  go_wp2_with fail
  go_loopw [10, 11] (fun f i wr => ∃ (j : Nat) (B : Bool), f = .bool B ∧ i = .int .i64 j ∧ j ≤ wd.length ∧ w1 = wr ∧ Hid (B = true → ∀ i (hi : i < wd.length), i < j → 0 ≤ wd[i]) ∧ Hid (B = false → wdB wd = false)) (fun _ i _ => wd.length - (intOf i).toNat)
  case atStart => exact ⟨0, true, rfl, rfl, Nat.zero_le _, rfl, fun _ i hi h0 => absurd h0 (Nat.not_lt_zero _), (fun h => by cases h)⟩
  case round =>
    obtain ⟨j, B, rfl, rfl, hj, rfl, HT, HF⟩ := hrel
    cases B
    · have HRR := (show Hid (RR = ([], 1, 0, 0)) from HRN.out (by rw [HRB.out, HF.out rfl]; simp))
      by_cases hz : j < wd.length
      · go_wp2_with fail
        refine bodyPost_ret (v := .tuple #[.slice (some ⟨w1.heap.size, 0, none⟩) 0 0, .int .i64 1, .int .i64 0, .int .i64 0]) (by simp [results, Try.results13, go_sem]) rfl ?_
        rw [HRR.out]
        exact ⟨_, rfl, bel_trans HB1.out (bel_alloc _ _), ⟨rfl, .inr ⟨w1.heap.size, 0, #[], rfl, HB1.out.size, blk_alloc_new _ _, Nat.le_refl _, Nat.zero_le _, rfl, rfl⟩⟩⟩
      · go_wp2_with fail
        refine bodyPost_ret (v := .tuple #[.slice (some ⟨w1.heap.size, 0, none⟩) 0 0, .int .i64 1, .int .i64 0, .int .i64 0]) (by simp [results, Try.results13, go_sem]) rfl ?_
        rw [HRR.out]
        exact ⟨_, rfl, bel_trans HB1.out (bel_alloc _ _), ⟨rfl, .inr ⟨w1.heap.size, 0, #[], rfl, HB1.out.size, blk_alloc_new _ _, Nat.le_refl _, Nat.zero_le _, rfl, rfl⟩⟩⟩
    · by_cases hz : j < wd.length
      · obtain ⟨rfl, _⟩ := HA.out (by omega)
        have cx := HC.out j hz
        rw [← HB1.out.cell (lt_of_cell cx)] at cx
        have HNT := (show Hid (0 ≤ wd[j] → ∀ i (hi : i < wd.length), i < j + 1 → 0 ≤ wd[i]) from fun h i hi hij => by
          by_cases e : i = j
          · subst e; exact h
          · exact HT.out rfl i hi (by omega))
        have HNF := (show Hid (¬ 0 ≤ wd[j] → wdB wd = false) from fun h => by
          rw [wdB_all, List.all_eq_false]
          exact ⟨wd[j], List.getElem_mem hz, by simpa using h⟩)
        generalize wd[j] = y at *
        by_cases hy : 0 ≤ y
        · have H1 := (show Hid _ from HNT.out hy)
          go_wp2_with fail
          exact ⟨⟨j + 1, true, rfl, by go_num, by omega, trivial, fun _ => H1.out, (fun h => by cases h)⟩, by simp [intOf]; omega⟩
        · have H1 := (show Hid _ from HNF.out hy)
          go_wp2_with fail
          exact ⟨⟨j + 1, false, rfl, by go_num, by omega, trivial, (fun h => by cases h), fun _ => H1.out⟩, by simp [intOf]; omega⟩
      · have HRT := (show Hid (RB = true) from by
          show RB = true
          rw [HRB.out, show wdB wd = true from by
            rw [wdB_all, List.all_eq_true]
            intro x hx
            obtain ⟨i, hi, rfl⟩ := List.mem_iff_getElem.1 hx
            exact decide_eq_true (HT.out rfl i hi (by omega))]
          simp [h200])
        have HGD := (show Hid _ from HPY.out HRT.out)
        have HRR := (show Hid _ from HRY.out HRT.out)
        obtain ⟨fl, rfl⟩ : ∃ fl : Nat, fuel = fl := ⟨fuel.toNat, by have := HGD.out.2.2.1; omega⟩
        have hfl : fl ≤ 1000000 := by have := HGD.out.2.2.2; omega
        rw [Int.toNat_natCast] at HRR
        have HN := (show Hid _ from RunM.new w1 (.slice al l.length cl) (.slice aw wd.length cw))
        have HL1 := (show Hid (InsR w1 S l (.slice al l.length cl)) from HI.out.still HB1.out)
        have HW1 := (show Hid (Ints w1 (fun b => b < w1.heap.size) wd (.slice aw wd.length cw)) from (HW.out.still HB1.out).mono (fun b hb => Nat.lt_of_lt_of_le hb HB1.out.size))
        have HST := (show Hid (∀ (wr : World) (r : Rn) (vp vt : Value), RunM wr w1.heap.size (w1.heap.size + 1) 73 (sC (.slice al l.length cl) (.slice aw wd.length cw) r vp vt 0 false) vp vt r → Kp w1.heap.size (w1.heap.size + 1) w1 wr → r.Ok l wd → Calls Try.prog 42 #[.pointer (some ⟨w1.heap.size, 0, none⟩)] wr fun e w' => StA w1.heap.size (w1.heap.size + 1) (.slice al l.length cl) (.slice aw wd.length cw) (dO wd (insAt l r.pc) r.nx) wr e w') from fun wr r vp vt hr hk ho => step42 l wd w1.heap.size (w1.heap.size + 1) _ _ vp vt r wr hr (HL1.out.still (hk.bel (Nat.le_refl _) (Nat.le_succ _))) (HW1.out.still (hk.bel (Nat.le_refl _) (Nat.le_succ _))) (fun b hb => ⟨by have hb2 : b < w1.heap.size := hb; omega, by have hb2 : b < w1.heap.size := hb; omega⟩) HGD.out.2.1 HGD.out.1 ho)
        clear HC HA HI HW hcw hmw HPG HBT HRN HRY HPY HRB
        go_wp2_with fail
        go_loopw [13] (fun i wr => ∃ (n : Nat) (e : Bool), i = .int .i64 n ∧ n ≤ fl ∧ Hid (LpS l wd fl RR w1.heap.size (.slice al l.length cl) (.slice aw wd.length cw) w1 wr n e)) (fun i _ => fl - (intOf i).toNat)
        case atStart => exact ⟨0, false, rfl, Nat.zero_le _, ⟨0, 0, [], []⟩, _, _, 0, HN.out, Kp.of_new w1 _, fun _ => ⟨rfl, ⟨pg_pos HGD.out.1, Nat.zero_le _, Nat.zero_le _, Nat.zero_le _⟩, HRR.out.symm⟩, (fun h => by cases h)⟩
        case round =>
          obtain ⟨n, e, rfl, hn, HLP⟩ := hrel
          obtain ⟨r, vp, vt, c, hr, hk, hf, ht⟩ := HLP.out
          have HR := (show Hid _ from hr)
          have HK := (show Hid _ from hk)
          obtain ⟨ap, cp, rfl, _⟩ := own_form hr.pile
          obtain ⟨at_, ct, rfl, _⟩ := own_form hr.told
          have k4 := hr.box.cell 4 (by simp)
          have k5 := hr.box.cell 5 (by simp)
          have k6 := hr.box.cell 6 (by simp)
          have k7 := hr.box.cell 7 (by simp)
          simp only [List.getD_cons_zero, List.getD_cons_succ] at k4 k5 k6 k7
          cases e
          case true =>
            have HRT2 := (show Hid _ from ht rfl)
            clear hf ht hr hk HLP
            go_wp2_with fail
            go_quiet (fail)
            go_wp2_with fail
            refine bodyPost_ret (v := .tuple #[.slice at_ r.told.length ct, .int .i64 c, .int .i64 r.place, .int .i64 n]) (by simp [results, Try.results13, go_sem]) rfl ?_
            rw [HRT2.out]
            exact ⟨_, rfl, bel_drewN (bel_trans HB1.out (HK.out.bel (Nat.le_refl _) (Nat.le_succ _))) _, own_base (own_keep HR.out.told (fun _ _ => rfl)) (by have := HB1.out.size; omega)⟩
          obtain ⟨rfl, hok, hrn⟩ := hf rfl
          have HOK := (show Hid _ from hok); clear hok
          have HRN2 := (show Hid _ from hrn); clear hrn
          clear hf ht hk HLP
          by_cases hnf : n = fl
          · have HRT2 := (show Hid (RR = (r.told, 11, r.place, n)) from by rw [← HRN2.out, hnf, Nat.sub_self]; rfl)
            have q1 : ((n : Int) == (fl : Int)) = true := by rw [beq_iff_eq]; omega
            have hr2 := (hr.set 6 (.int .i64 11)).set 7 (.bool true)
            have j4 := hr2.box.cell 4 (by simp)
            have j5 := hr2.box.cell 5 (by simp)
            have j6 := hr2.box.cell 6 (by simp)
            simp only [List.getD_cons_zero, List.getD_cons_succ, List.set_cons_zero, List.set_cons_succ] at j4 j5 j6
            have HK2 := (show Hid _ from (HK.out.set 6 (.int .i64 11)).set 7 (.bool true))
            have HR2 := (show Hid _ from hr2)
            have HSP := (show Hid _ from stop41 w1.heap.size 11 wr _ _ _ _ _ _ _ _ hr.box)
            clear hr hr2 hnf
            go_wp2_with fail
            refine Calls.mono HSP.out ?_
            rintro e w5 ⟨rfl, rfl⟩
            clear k4 k5 k6 k7
            generalize (wr.setCell ⟨w1.heap.size, 6, none⟩ (.int .i64 11)).setCell ⟨w1.heap.size, 7, none⟩ (.bool true) = w6 at *
            go_wp2_with fail
            go_quiet (fail)
            go_wp2_with fail
            refine bodyPost_ret (v := .tuple #[.slice at_ r.told.length ct, .int .i64 11, .int .i64 r.place, .int .i64 n]) (by simp [results, Try.results13, go_sem]) rfl ?_
            rw [HRT2.out]
            exact ⟨_, rfl, bel_drewN (bel_trans HB1.out (HK2.out.bel (Nat.le_refl _) (Nat.le_succ _))) _, own_base (own_keep HR2.out.told (fun _ _ => rfl)) (by have := HB1.out.size; omega)⟩
          · have q1 : ((n : Int) == (fl : Int)) = false := by rw [beq_eq_false_iff_ne]; omega
            have kw : IntKind.i64.wrap ((n : Int) + 1) = (n : Int) + 1 := by simp [IntKind.wrap, IntKind.bits, IntKind.signed]; omega
            have HS2 := (show Hid _ from HST.out wr r _ _ HR.out HK.out HOK.out)
            have HON := (show Hid ((dO wd (insAt l r.pc) r.nx).1 = -1 → (dO wd (insAt l r.pc) r.nx).2.Ok l wd ∧ rnF l wd (fl - (n + 1)) (n + 1) (dO wd (insAt l r.pc) r.nx).2 = RR) from fun h => ⟨dO_ok HGD.out.1 HOK.out h, by rw [← HRN2.out, show fl - n = (fl - (n + 1)) + 1 by omega, rnF_on h]⟩)
            have HOF := (show Hid (¬ (dO wd (insAt l r.pc) r.nx).1 = -1 → RR = ((dO wd (insAt l r.pc) r.nx).2.told, (dO wd (insAt l r.pc) r.nx).1, (dO wd (insAt l r.pc) r.nx).2.place, n + 1)) from fun h => by rw [← HRN2.out, show fl - n = (fl - (n + 1)) + 1 by omega, rnF_stop h])
            clear hr
            generalize dO wd (insAt l r.pc) r.nx = d at *
            go_wp2_with fail
            refine Calls.mono HS2.out ?_
            rintro e w5 ⟨rfl, hk5, vp5, vt5, hr5⟩
            have HE := (show Hid _ from (⟨HK.out.trans hk5, hr5⟩ : _ ∧ _))
            clear hk5 hr5 k4 k5 k6 k7
            go_wp2_with fail
            refine ⟨⟨n + 1, decide (d.1 ≠ -1), by go_num, by omega, d.2, vp5, vt5, _, HE.out.2, HE.out.1, fun he => ?_, fun he => ?_⟩, by simp [intOf]; omega⟩
            · have h1 : d.1 = -1 := by simpa using he
              exact ⟨if_pos h1, HON.out h1⟩
            · have h1 : ¬ d.1 = -1 := by simpa using he
              rw [if_neg h1]
              exact HOF.out h1
end Go.Proofs.Ytilahbfcobhjeaa
