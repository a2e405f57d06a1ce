import Derived.Test.YtilahbfcobhjeaaUc
/-! A run of a program: the program whole. -/
namespace Go.Proofs.Ytilahbfcobhjeaa
open Go.RowKit Go.Deep
set_option linter.unusedVariables false
set_option maxRecDepth 100000
set_option linter.unusedSimpArgs false

theorem InsR.inW {w : World} {S : Nat → Prop} {l : List DIns} {v : Value} (h : InsR w S l v) : InsR w (fun b => b < w.heap.size) l v := by
  obtain ⟨a, cap, b, off, hv, hc, hm, ha, hcell⟩ := h
  exact ⟨a, cap, b, off, hv, hc, hm, fun h0 => ⟨(ha h0).1, lt_of_cell (hcell 0 h0).1⟩, hcell⟩
theorem below43 (x : Int) (w : World) : Calls Try.prog 43 #[.int .i64 x] w fun e w' => e = .returned (.bool (decide (x < 0))) ∧ w' = w := by
  by_cases h : x < 0
  all_goals
    go_enter Try.func43, Try.ntmps43
    go_wp2_with fail
    go_ret
    exact ⟨ret_bool (by simp [h]), rfl⟩
/-- Where the first number below 0 stands. -/
def fbL (wd : List Int) : Int := match wd.findIdx? (fun y => decide (y < 0)) with | some i => i | none => -1
set_option maxHeartbeats 1600000 in
theorem index84 {S : Nat → Prop} (wd : List Int) (v : Value) (w : World) (h : Ints w S wd v) :
    Calls Try.prog 84 #[v, .func (.func 43) #[] #[]] w fun e w' => (∃ i : Int, e = .returned (.int .i64 i) ∧ (decide (0 ≤ i) = !wdB wd)) ∧ w' = w := by
  obtain ⟨a, cap, b, off, rfl, hc, hm, ha, hcell⟩ := h
  have HC := (show Hid _ from hcell); clear hcell
  have HA := (show Hid _ from ha); clear ha
  unfold maxLen at hm
  have HB := (show Hid _ from fun (x : Int) (w' : World) => below43 x w')
  go_enter Try.func84, Try.ntmps84
  go_wp2_with fail
  go_loopw [8] (fun i wr => ∃ j : Nat, i = .int .i64 j ∧ j ≤ wd.length ∧ Hid (∀ i (hi : i < wd.length), i < j → 0 ≤ wd[i]) ∧ w = wr) (fun i _ => wd.length - (intOf i).toNat)
  case atStart => exact ⟨0, rfl, Nat.zero_le _, fun i hi h0 => absurd h0 (Nat.not_lt_zero _), rfl⟩
  case round =>
    obtain ⟨j, rfl, hj, HJ, rfl⟩ := hrel
    by_cases hjl : j < wd.length
    · obtain ⟨rfl, _⟩ := HA.out (by omega)
      have c0 := HC.out j hjl
      have HNX := (show Hid (¬ wd[j] < 0 → ∀ i (hi : i < wd.length), i < j + 1 → 0 ≤ wd[i]) from fun h i hi hij => by
        by_cases e : i = j
        · subst e; omega
        · exact HJ.out i hi (by omega))
      have HFX := (show Hid (wd[j] < 0 → wdB wd = false) from fun h => by
        rw [wdB_all, List.all_eq_false]
        exact ⟨wd[j], List.getElem_mem hjl, by simp; omega⟩)
      have HB2 := (show Hid _ from fun w' => HB.out wd[j] w')
      generalize wd[j] = y at *
      by_cases hy : y < 0
      · rw [decide_eq_true hy] at HB2
        have HF := (show Hid _ from HFX.out hy)
        go_wp2_with fail
        go_at_call 43
        refine Calls.mono (HB2.out _) ?_
        rintro e w1 ⟨rfl, rfl⟩
        go_wp2_with fail
        go_ret
        exact ⟨⟨_, rfl, by rw [HF.out]; exact decide_eq_true (by omega)⟩, rfl⟩
      · rw [decide_eq_false hy] at HB2
        have HN := (show Hid _ from HNX.out hy)
        go_wp2_with fail
        go_at_call 43
        refine Calls.mono (HB2.out _) ?_
        rintro e w1 ⟨rfl, rfl⟩
        go_wp2_with fail
        exact ⟨⟨j + 1, by go_num, by omega, HN, trivial⟩, by simp [intOf]; omega⟩
    · have HF := (show Hid (wdB wd = true) from by
        show wdB wd = true
        rw [wdB_all, List.all_eq_true]
        intro x hx
        obtain ⟨i, hi, rfl⟩ := List.mem_iff_getElem.1 hx
        exact decide_eq_true (HJ.out i hi (by omega)))
      go_wp2_with fail
      go_ret
      exact ⟨⟨_, rfl, by rw [HF.out]; rfl⟩, rfl⟩
theorem some44 {S : Nat → Prop} (wd : List Int) (v : Value) (w : World) (h : Ints w S wd v) :
    Calls Try.prog 44 #[v, .func (.func 43) #[] #[]] w fun e w' => e = .returned (.bool (!wdB wd)) ∧ w' = w := by
  have H := (show Hid _ from index84 wd v w h)
  generalize (!wdB wd) = B at *
  obtain ⟨a, cap, rfl, _⟩ := h.form
  clear h
  go_enter Try.func44, Try.ntmps44
  go_wp2_with fail
  refine Calls.mono H.out ?_
  rintro e w1 ⟨⟨i, rfl, hi⟩, rfl⟩
  have HI := (show Hid _ from hi); clear hi
  go_wp2_with fail
  go_ret
  exact ⟨ret_bool HI.out, rfl⟩
set_option maxHeartbeats 3200000 in
theorem iRun15 {S S' : Nat → Prop} (l : List DIns) (wd : List Int) (fuel : Int) (vl vw : Value) (w : World) (hl : InsR w S l vl) (hw : Ints w S' wd vw) :
    Calls Try.prog 15 #[vl, vw, .int .i64 fuel] w fun e w' => RuA (reR l wd fuel) w e w' := by
  have HPG := (show Hid _ from iPg11 l vl w hl)
  have HI := (show Hid (InsR w S l vl) from hl)
  have HW := (show Hid (Ints w S' wd vw) from hw)
  obtain ⟨al, cl, hvl, hml⟩ := hl.form
  obtain ⟨aw, cw, hvw, hmw⟩ := hw.form
  subst hvl hvw
  clear hl hw
  unfold maxLen at hmw
  have HSM := (show Hid (∀ w', Below w.heap.size w w' → Calls Try.prog 44 #[.slice aw wd.length cw, .func (.func 43) #[] #[]] w' fun e w'' => e = .returned (.bool (!wdB wd)) ∧ w'' = w') from fun w' hb => some44 wd _ w' (HW.out.still hb))
  have HRN := (show Hid (reB l wd fuel = false → reR l wd fuel = ([], 1, 0, 0)) from reR_no)
  have HRY := (show Hid (reB l wd fuel = true → reR l wd fuel = rnF l wd fuel.toNat 0 ⟨0, 0, [], []⟩) from reR_yes)
  have HPY := (show Hid (reB l wd fuel = true → pgB l = true ∧ wd.length ≤ 200 ∧ 0 ≤ fuel ∧ fuel ≤ 1000000) from fun h => by
    rw [reB_parts] at h
    unfold btB at h
    simp only [Bool.and_eq_true, decide_eq_true_eq] at h
    exact ⟨h.1, h.2.1, h.2.2.2.1, h.2.2.2.2⟩)
  generalize reR l wd fuel = RR at *
  have HRB := (show Hid (reB l wd fuel = (pgB l && (decide (wd.length ≤ 200) && (wdB wd && (decide (0 ≤ fuel) && decide (fuel ≤ 1000000)))))) from rfl)
  generalize reB l wd fuel = RB at *
  generalize hP : pgB l = P at HPG HRB
  generalize hB : wdB wd = B at HSM HRB
  clear hP hB
  have bad : Hid (RB = false → ∀ w', Below w.heap.size w w' → RuA RR w (.returned (.tuple #[.slice none 0 0, .int .i64 1, .int .i64 0, .int .i64 0])) w') := fun h w' hb => by
    rw [HRN.out h]
    exact ⟨_, rfl, hb, ⟨rfl, .inl ⟨rfl, rfl⟩⟩⟩
  go_enter Try.func15, Try.ntmps15
  go_wp2_with fail
  refine Calls.mono HPG.out ?_
  rintro e w1 ⟨rfl, hb1⟩
  have HB1 := (show Hid _ from hb1); clear hb1
  cases P
  · have HZ := (show Hid _ from bad.out (by rw [HRB.out]; rfl) _ HB1.out)
    go_wp2_with fail
    refine bodyPost_ret (v := .tuple #[.slice none 0 0, .int .i64 1, .int .i64 0, .int .i64 0]) (by simp [results, Try.results15, go_sem]) rfl HZ.out
  by_cases h200 : wd.length ≤ 200
  case neg =>
    have HZ := (show Hid _ from bad.out (by rw [HRB.out, decide_eq_false h200]; rfl) _ HB1.out)
    have h2 : (200 : Int) < wd.length := by omega
    go_wp2_with fail
    refine bodyPost_ret (v := .tuple #[.slice none 0 0, .int .i64 1, .int .i64 0, .int .i64 0]) (by simp [results, Try.results15, go_sem]) rfl HZ.out
  have h2 : ¬ (200 : Int) < wd.length := by omega
  rw [decide_eq_true h200] at HRB
  go_wp2_with fail
  refine Calls.mono (HSM.out _ HB1.out) ?_
  rintro e w1 ⟨rfl, rfl⟩
  cases B
  · have HZ := (show Hid _ from bad.out (by rw [HRB.out]; rfl) _ HB1.out)
    go_wp2_with fail
    refine bodyPost_ret (v := .tuple #[.slice none 0 0, .int .i64 1, .int .i64 0, .int .i64 0]) (by simp [results, Try.results15, go_sem]) rfl HZ.out
  by_cases hf0 : fuel < 0
  · have HZ := (show Hid _ from bad.out (by rw [HRB.out, decide_eq_false (p := 0 ≤ fuel) (by omega)]; rfl) _ HB1.out)
    go_wp2_with fail
    refine bodyPost_ret (v := .tuple #[.slice none 0 0, .int .i64 1, .int .i64 0, .int .i64 0]) (by simp [results, Try.results15, go_sem]) rfl HZ.out
  by_cases hf1 : 1000000 < fuel
  · have HZ := (show Hid _ from bad.out (by rw [HRB.out, decide_eq_false (p := fuel ≤ 1000000) (by omega)]; simp) _ HB1.out)
    go_wp2_with fail
    refine bodyPost_ret (v := .tuple #[.slice none 0 0, .int .i64 1, .int .i64 0, .int .i64 0]) (by simp [results, Try.results15, go_sem]) rfl HZ.out
  have HRT := (show Hid (RB = true) from by show RB = true; rw [HRB.out, decide_eq_true (p := 0 ≤ fuel) (by omega), decide_eq_true (p := fuel ≤ 1000000) (by omega)]; rfl)
  have HGD := (show Hid _ from HPY.out HRT.out)
  have HRR := (show Hid _ from HRY.out HRT.out)
  obtain ⟨fl, rfl⟩ : ∃ fl : Nat, fuel = fl := ⟨fuel.toNat, by omega⟩
  have hfl : fl ≤ 1000000 := by omega
  rw [Int.toNat_natCast] at HRR
  have hbx := Box.new w1 78 (iC (.slice al l.length cl) (.slice aw wd.length cw) ⟨0, 0, [], []⟩ 0 (.slice none 0 0) (.slice none 0 0))
  have hba := bel_alloc w1 (.cells #[.slice al l.length cl, .int .i64 0, .int .i64 0, .slice aw wd.length cw, .int .i64 0, .slice none 0 0, .slice none 0 0] 78)
  have HRU := (show Hid _ from run45 l wd fl w1.heap.size (.slice al l.length cl) (.slice aw wd.length cw) _ hfl hbx (((HI.out.still HB1.out).inW).still hba) (((HW.out.still HB1.out).inW).still hba) (fun b hb => ⟨by have hb2 : b < w1.heap.size := hb; simp; omega, by have hb2 : b < w1.heap.size := hb; omega⟩) (fun b hb => ⟨by have hb2 : b < w1.heap.size := hb; simp; omega, by have hb2 : b < w1.heap.size := hb; omega⟩) HGD.out.2.1 HGD.out.1)
  have HBA := (show Hid _ from bel_trans HB1.out hba)
  clear hbx hba HI HW HSM HPG HRN HRY HPY bad
  go_wp2_with fail
  refine Calls.mono HRU.out ?_
  rintro e w5 ⟨c, rfl, r, st, vp, vt, A, hA, hr, hk, hres⟩
  have HK := (show Hid _ from hk); clear hk
  have HT := (show Hid _ from hr.told)
  obtain ⟨ap, cp, rfl, _⟩ := own_form hr.pile
  obtain ⟨at_, ct, rfl, _⟩ := own_form hr.told
  have k2 := hr.box.cell 2 (by simp)
  have k4 := hr.box.cell 4 (by simp)
  have k6 := hr.box.cell 6 (by simp)
  simp only [List.getD_cons_zero, List.getD_cons_succ] at k2 k4 k6
  have HRS := (show Hid (RR = (r.told, c, r.place, st)) from HRR.out.trans hres)
  have HA := (show Hid (w1.heap.size ≤ A) from by have h9 := hA; simp only [World.size_alloc] at h9; show w1.heap.size ≤ A; omega)
  have HBK := (show Hid (Below w.heap.size w w5) from HB1.out.trans ⟨HK.out.os, HK.out.tape, HK.out.output, by have h9 := HK.out.size; simp only [World.size_alloc] at h9; omega, fun b hb => by
    have hs := HB1.out.size
    rw [HK.out.block b (by simp; omega) (by omega)]
    exact (bel_alloc w1 _).block b (by omega)⟩)
  clear hr hres hA
  go_wp2_with fail
  go_quiet (fail)
  go_wp2_with fail
  refine bodyPost_ret (v := .tuple #[.slice at_ r.told.length ct, .int .i64 c, .int .i64 r.place, .int .i64 st]) (by simp [results, Try.results15, go_sem]) rfl ?_
  rw [HRS.out]
  exact ⟨_, rfl, bel_drewN HBK.out _, own_base (own_keep HT.out (fun _ _ => rfl)) (by have := HB1.out.size; have := HA.out; omega)⟩
end Go.Proofs.Ytilahbfcobhjeaa
