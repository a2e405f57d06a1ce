import Derived.Test.YtpbpmhgoppbfnaaTf
import Derived.Test.YtpbpmhgoppbfnaaCi
import Derived.Test.YtpbpmhgoppbfnaaSx
import Derived.Test.YtpbpmhgoppbfnaaSq
/-! The specification's Count. -/
namespace Go.Proofs.Ytpbpmhgoppbfnaa
open Go.RowKit Go.Deep
set_option linter.unusedVariables false
set_option maxRecDepth 100000
set_option linter.unusedSimpArgs false

set_option maxHeartbeats 1600000 in
theorem wordOK45 {S : Nat → Prop} (d : Bn) (v1 v3 : Value) (a0 : Option Addr) (c0 : Nat) (W : List Int) (vw : Value) (w : World) (hnt : d.terms.length ≤ 60) (h : Ints w S W vw) :
    Calls Try.prog 45 #[.agg #[.slice a0 d.terms.length c0, v1, .int .i64 d.own, v3], vw, .int .i64 40] w fun e w' => e = .returned (.bool (wdB d W)) ∧ Below w.heap.size w w' := by
  have hb := bel_alloc w (.cells #[.slice a0 d.terms.length c0, v1, .int .i64 d.own, v3] 34)
  have HB := (show Hid _ from hb)
  have hX := Box.new w 34 [.slice a0 d.terms.length c0, v1, .int .i64 d.own, v3]
  obtain ⟨av, cv, bw, ow9, rfl, hcw, hmw, haw, hcellw⟩ := h
  unfold maxLen at hmw
  by_cases hl : W.length ≤ 40
  case neg =>
    have hd : decide ((W.length : Int) > 40) = true := by simp; omega
    have he : wdB d W = false := by unfold wdB; simp [hl]
    have HE := (show Hid _ from he); clear he
    clear hb hX hcellw haw
    go_enter Try.func45, Try.ntmps45
    go_wp2_with fail
    go_ret
    exact ⟨by rw [HE.out]; rfl, HB.out⟩
  have hd : decide ((W.length : Int) > 40) = false := by simp; omega
  have HE := (show Hid (wdB d W = W.all (fun x => wiB x 0 ((d.terms.length : Int) - 1))) from (by show wdB d W = _; unfold wdB; simp [hl]))
  obtain ⟨w1, hw1⟩ : ∃ w1, w.alloc (.cells #[.slice a0 d.terms.length c0, v1, .int .i64 d.own, v3] 34) = w1 := ⟨_, rfl⟩
  have HX := (show Hid (Box w1 w.heap.size 34 [.slice a0 d.terms.length c0, v1, .int .i64 d.own, v3]) from by rw [← hw1]; exact hX)
  rw [hw1] at HB
  have HC := (show Hid _ from hcellw)
  have HA := (show Hid _ from haw)
  have HBT := (show Hid _ from fun (x a b : Int) (w : World) => between_any x a b w)
  have hbw1 := HB.out
  clear hb hX hcellw haw
  have kw : IntKind.i64.wrap ((d.terms.length : Int) - 1) = (d.terms.length : Int) - 1 := by rw [IntKind.wrap_i64]; omega
  go_enter Try.func45, Try.ntmps45
  go_wp2_with fail
  clear hw1
  go_loopw [7] (fun q wr => ∃ j : Nat, q = .int .i64 j ∧ j ≤ W.length ∧ Hid (Below w1.heap.size w1 wr ∧ ∀ i (hi : i < W.length), i < j → wiB W[i] 0 ((d.terms.length : Int) - 1) = true)) (fun q _ => W.length - (intOf q).toNat)
  case atStart => exact ⟨0, rfl, Nat.zero_le _, Below.refl _ _, fun i _ hi => absurd hi (Nat.not_lt_zero _)⟩
  case round =>
    obtain ⟨j, rfl, hj, HQ⟩ := hrel
    by_cases hlt : j < W.length
    · obtain ⟨rfl, _⟩ := HA.out (by omega)
      have c1 := HC.out j hlt
      have HS := (show Hid (∀ wq, Below wr.heap.size wr wq → wq.cell? ⟨w.heap.size, 0, none⟩ = some (.slice a0 d.terms.length c0) ∧ wq.cell? ⟨bw, ow9 + j, none⟩ = some (.int .i64 W[j])) from fun wq hb => by
        have h1 := bel_trans HQ.out.1 hb
        refine ⟨(HX.out.still h1).cell 0 (by simp), ?_⟩
        have h2 := bel_trans hbw1 h1
        exact (h2.cell (lt_of_cell c1)).trans c1)
      have HBQ := (show Hid (W.all (fun x => wiB x 0 ((d.terms.length : Int) - 1)) = true → wiB W[j] 0 ((d.terms.length : Int) - 1) = true) from fun h => by
        rw [List.all_eq_true] at h
        exact h _ (List.getElem_mem hlt))
      have HNX := (show Hid (wiB W[j] 0 ((d.terms.length : Int) - 1) = true → ∀ i (hi : i < W.length), i < j + 1 → wiB W[i] 0 ((d.terms.length : Int) - 1) = true) from fun h i hi hij => by
        by_cases e : i = j
        · subst e; exact h
        · exact HQ.out.2 i hi (by omega))
      have HBW := (show Hid _ from fun (wq : World) => HBT.out W[j] 0 ((d.terms.length : Int) - 1) wq)
      generalize W[j] = y at *
      generalize hB : wiB y 0 ((d.terms.length : Int) - 1) = B at *
      have q1 : (0 : Int) ≤ (j : Int) := by omega
      have q2 : (j : Int) < (W.length : Int) := by omega
      clear hB c1
      go_wp2_with fail
      go_cut [27] from 18 to 26 (fun v wx => v = .bool (!B) ∧ Hid (Below wr.heap.size wr wx))
      case first =>
        have hbd := (Below.refl wr.heap.size wr).drew
        have hS0 := HS.out _ hbd
        go_region_held3 (fun wq => wq.cell? ⟨w.heap.size, 0, none⟩ = some (.slice a0 d.terms.length c0) ∧ wq.cell? ⟨bw, ow9 + j, none⟩ = some (.int .i64 y)) (first | exact hS0) ((go_at_call 24; refine Calls.mono (HBW.out _) ?_; rintro e w2 ⟨rfl, rfl⟩))
        all_goals go_wp2_with fail
        all_goals go_meet
        all_goals exact ⟨rfl, (Below.refl wr.heap.size wr).drew⟩
      case rest =>
        obtain ⟨rfl, HX2⟩ := hcut
        have HN := (show Hid _ from (⟨bel_trans HQ.out.1 HX2.out, bel_trans HB.out (bel_trans HQ.out.1 HX2.out)⟩ : _ ∧ _))
        clear HX2 HS
        cases B with
        | false =>
          have HF := (show Hid (wdB d W = false) from (by
            show wdB d W = false
            rw [HE.out]
            exact Bool.eq_false_iff.2 (fun h => by have := HBQ.out h; cases this)))
          go_wp2_with fail
          go_ret
          exact ⟨by rw [HF.out]; rfl, HN.out.2⟩
        | true =>
          go_wp2_with fail
          exact ⟨⟨j + 1, by go_num, by omega, HN.out.1, HNX.out rfl⟩, by simp [intOf]; omega⟩
    · have HF := (show Hid (wdB d W = true) from (by
        show wdB d W = true
        rw [HE.out, List.all_eq_true]
        intro x hx
        obtain ⟨i, hi, rfl⟩ := List.mem_iff_getElem.1 hx
        exact HQ.out.2 i hi (by omega)))
      have HN := (show Hid _ from bel_trans HB.out HQ.out.1)
      clear HQ
      go_wp2_with fail
      go_ret
      exact ⟨by rw [HF.out]; rfl, HN.out⟩
set_option maxHeartbeats 3200000 in
theorem sCnt_any {S S2 : Nat → Prop} (d : Bn) (v0 v1 v3 : Value) (non : Int) (W : List Int) (vw : Value) (w : World) (h : BLies w S d v0 v1 v3) (hwd : Ints w S2 W vw) :
    Calls Try.prog 17 #[.agg #[v0, v1, .int .i64 d.own, v3], .int .i64 non, vw] w fun e w' => ∃ R, CtR d non W R ∧ e = .returned (.tuple #[.int .i64 R.1, .int .i64 R.2]) ∧ Below w.heap.size w w' := by
  obtain ⟨a0, c0, a1, c1, a3, c3, rfl, rfl, rfl⟩ := h.form
  obtain ⟨av, cv, rfl, hwm⟩ := hwd.form
  have hb0 := bel_alloc w (.cells #[.slice a0 d.terms.length c0, .slice a1 d.nons.length c1, .int .i64 d.own, .slice a3 d.prods.length c3] 34)
  have HG := (show Hid _ from sBnf_all d _ _ _ _ (h.still hb0))
  have HX := (show Hid _ from Box.new w 34 [.slice a0 d.terms.length c0, .slice a1 d.nons.length c1, .int .i64 d.own, .slice a3 d.prods.length c3])
  have HB0 := (show Hid _ from hb0)
  have HL := (show Hid _ from h)
  have HWD := (show Hid (Ints w S2 W (.slice av W.length cv)) from hwd)
  unfold maxLen at hwm
  clear h hb0 hwd
  cases hbn : bnB d
  · rw [hbn] at HG
    have HR := (show Hid (CtR d non W (0, 1)) from CtR.bad1 hbn)
    clear hbn
    go_enter Try.func17, Try.ntmps17
    go_wp2_with fail
    refine Calls.mono HG.out ?_
    rintro e w1 ⟨rfl, hb1⟩
    have HN := (show Hid _ from bel_trans HB0.out hb1); clear hb1
    go_wp2_with fail
    refine bodyPost_ret (v := .tuple #[.int .i64 0, .int .i64 1]) (by simp [results, Try.results17, go_sem]) rfl ?_
    exact ⟨((0 : Int), (1 : Int)), HR.out, rfl, HN.out⟩
  rw [hbn] at HG
  have hok := bnB_ok hbn
  have hnt := hok.nt
  have hnn := hok.nn
  have HBN := (show Hid _ from hbn); clear hbn
  go_enter Try.func17, Try.ntmps17
  go_wp2_with fail
  refine Calls.mono HG.out ?_
  rintro e w1 ⟨rfl, hb1⟩
  have T0 : w1.cell? ⟨w.heap.size, 0, none⟩ = some (.slice a0 d.terms.length c0) := (HX.out.still hb1).cell 0 (by simp)
  have T1 : w1.cell? ⟨w.heap.size, 1, none⟩ = some (.slice a1 d.nons.length c1) := (HX.out.still hb1).cell 1 (by simp)
  have T2 : w1.cell? ⟨w.heap.size, 2, none⟩ = some (.int .i64 d.own) := (HX.out.still hb1).cell 2 (by simp)
  have T3 : w1.cell? ⟨w.heap.size, 3, none⟩ = some (.slice a3 d.prods.length c3) := (HX.out.still hb1).cell 3 (by simp)
  have HX1 := (show Hid _ from HX.out.still hb1)
  have HB1 := (show Hid _ from bel_trans HB0.out hb1); clear hb1 HG
  have HIW := (show Hid _ from wordOK45 d (.slice a1 d.nons.length c1) (.slice a3 d.prods.length c3) a0 c0 W _ w1 hnt (Ints.still HWD.out HB1.out))
  cases hwb : wdB d W
  · rw [hwb] at HIW
    have HR := (show Hid (CtR d non W (0, 1)) from CtR.bad2 hwb)
    clear hwb
    go_wp2_with fail
    refine Calls.mono HIW.out ?_
    rintro e w2 ⟨rfl, hb2⟩
    have HN := (show Hid _ from bel_trans HB1.out hb2); clear hb2
    go_wp2_with fail
    refine bodyPost_ret (v := .tuple #[.int .i64 0, .int .i64 1]) (by simp [results, Try.results17, go_sem]) rfl ?_
    exact ⟨((0 : Int), (1 : Int)), HR.out, rfl, HN.out⟩
  rw [hwb] at HIW
  have HWB := (show Hid _ from hwb); clear hwb
  go_wp2_with fail
  refine Calls.mono HIW.out ?_
  rintro e w2 ⟨rfl, hb2⟩
  have HX2 := (show Hid _ from HX1.out.still hb2)
  have HB2 := (show Hid _ from bel_trans HB1.out hb2)
  clear T0 T1 T2 T3 hb2 HIW HX1
  have T0 : w2.cell? ⟨w.heap.size, 0, none⟩ = some (.slice a0 d.terms.length c0) := HX2.out.cell 0 (by simp)
  have T1 : w2.cell? ⟨w.heap.size, 1, none⟩ = some (.slice a1 d.nons.length c1) := HX2.out.cell 1 (by simp)
  have T2 : w2.cell? ⟨w.heap.size, 2, none⟩ = some (.int .i64 d.own) := HX2.out.cell 2 (by simp)
  have T3 : w2.cell? ⟨w.heap.size, 3, none⟩ = some (.slice a3 d.prods.length c3) := HX2.out.cell 3 (by simp)
  have HBT := (show Hid _ from between_any non 0 ((d.nons.length : Int) - 1) w2)
  by_cases hnon : 0 ≤ non ∧ non < d.nons.length
  case neg =>
    have hdn : wiB non 0 ((d.nons.length : Int) - 1) = false := by unfold wiB; exact decide_eq_false (by omega)
    rw [hdn] at HBT
    have HR := (show Hid (CtR d non W (0, 4)) from CtR.place HBN.out HWB.out hnon)
    clear hnon hdn
    go_wp2_with fail
    refine Calls.mono HBT.out ?_
    rintro e w3 ⟨rfl, rfl⟩
    go_wp2_with fail
    refine bodyPost_ret (v := .tuple #[.int .i64 0, .int .i64 4]) (by simp [results, Try.results17, go_sem]) rfl ?_
    exact ⟨((0 : Int), (4 : Int)), HR.out, rfl, HB2.out⟩
  have hdn : wiB non 0 ((d.nons.length : Int) - 1) = true := by unfold wiB; exact decide_eq_true (by omega)
  rw [hdn] at HBT
  have HCY := (show Hid _ from cycS_any d (Classical.propDecidable _) hok (fun _ a b c x hx => leadsS_any d hok a b c x hx) _ _ _ w2 (HL.out.still HB2.out))
  clear hdn
  go_wp2_with fail
  refine Calls.mono HBT.out ?_
  rintro e w3 ⟨rfl, rfl⟩
  go_wp2_with fail
  refine Calls.mono HCY.out ?_
  rintro e w5 ⟨rfl, hb5⟩
  have HX5 := (show Hid _ from HX2.out.still hb5)
  have HB5 := (show Hid _ from bel_trans HB2.out hb5)
  clear T0 T1 T2 T3 hb5 HCY HX2 HBT
  have hcyc : cyB d (Classical.propDecidable _) = true ↔ Cyc d := by unfold cyB; exact @decide_eq_true_iff (Cyc d) (Classical.propDecidable _)
  cases hB : cyB d (Classical.propDecidable _)
  case true =>
    have HR := (show Hid (CtR d non W (0, 9)) from CtR.loop HBN.out HWB.out hnon (hcyc.1 hB))
    clear hnon hcyc hB
    go_wp2_with fail
    refine bodyPost_ret (v := .tuple #[.int .i64 0, .int .i64 9]) (by simp [results, Try.results17, go_sem]) rfl ?_
    exact ⟨((0 : Int), (9 : Int)), HR.out, rfl, HB5.out⟩
  have hnc : ¬ Cyc d := fun hcc => by have := hcyc.2 hcc; rw [hB] at this; cases this
  have hwl : W.length ≤ 40 := by
    have := HWB.out
    unfold wdB at this
    simp only [Bool.and_eq_true, decide_eq_true_eq] at this
    exact this.1
  obtain ⟨V, hV⟩ := cn_ex hok hnc W (by omega)
  obtain ⟨hh, hh1, hh2⟩ := hgt d hnc (d.terms.length + d.nons.length)
  obtain ⟨nn, rfl⟩ : ∃ nn : Nat, non = nn := ⟨non.toNat, by omega⟩
  have HR := (show Hid (CtR d nn W (((cp (V (d.terms.length + nn) 0 W.length) : Nat) : Int), 0)) from CtR.fine HBN.out HWB.out hnon hnc hV)
  have HTB := (show Hid _ from table46 d hok _ _ _ W _ w5 (HL.out.still HB5.out) (Ints.still HWD.out HB5.out) hwl V hV hh hh1 hh2)
  have HNA := (show Hid (∀ (s : Sx), SxOK (fun _ => True) s → s.d = d → s.W = W → s.V = V → ∀ ow mm w', TB s ow mm w' → Calls Try.prog 47 #[.pointer (some ⟨s.g, 0, none⟩), .int .i64 nn, .int .i64 0, .int .i64 W.length] w' (RN s (V (d.terms.length + nn) 0 W.length) mm)) from fun s hs e1 e2 e3 ow mm w' hT => by
    have h1 := non_all s hs _ nn 0 W.length (by rw [e1]; omega) (Nat.zero_le _) (by unfold Sx.n1; rw [e2]; omega) (Nat.lt_succ_self _) ow mm w' hT
    rw [e1, e3] at h1
    exact h1)
  have T0 : w5.cell? ⟨w.heap.size, 0, none⟩ = some (.slice a0 d.terms.length c0) := HX5.out.cell 0 (by simp)
  have T1 : w5.cell? ⟨w.heap.size, 1, none⟩ = some (.slice a1 d.nons.length c1) := HX5.out.cell 1 (by simp)
  have T2 : w5.cell? ⟨w.heap.size, 2, none⟩ = some (.int .i64 d.own) := HX5.out.cell 2 (by simp)
  have T3 : w5.cell? ⟨w.heap.size, 3, none⟩ = some (.slice a3 d.prods.length c3) := HX5.out.cell 3 (by simp)
  clear hnon hcyc hB hnc hV hh1 hh2 hok
  go_wp2_with fail
  refine Calls.mono HTB.out ?_
  rintro e w6 ⟨s, e1, e2, e3, e4, hsz, hbs, hsok, ⟨ow, hT⟩, rfl⟩
  have HCL := (show Hid _ from HNA.out s hsok e1 e2 e3 _ _ _ hT)
  have HBS := (show Hid _ from bel_trans HB5.out hbs)
  clear T0 T1 T2 T3 e1 e2 e3 e4 hsz hbs hsok hT
  go_wp2_with fail
  refine Calls.mono HCL.out ?_
  rintro e w7 ⟨rfl, ow7, mm7, hT7, _⟩
  have HBF := (show Hid _ from bel_trans HBS.out hT7.bel)
  clear hT7 HCL
  go_wp2_with fail
  refine bodyPost_ret (v := .tuple #[.int .i64 (cp (V (d.terms.length + nn) 0 W.length) : Nat), .int .i64 0]) (by simp [results, Try.results17, go_sem]) rfl ?_
  exact ⟨_, HR.out, rfl, HBF.out⟩
end Go.Proofs.Ytpbpmhgoppbfnaa
