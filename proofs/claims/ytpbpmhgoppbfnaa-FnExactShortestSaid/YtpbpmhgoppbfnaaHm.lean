import Derived.Test.YtpbpmhgoppbfnaaHl
import Derived.Test.YtpbpmhgoppbfnaaHg
import Derived.Test.YtpbpmhgoppbfnaaSbq
import Derived.Deep.CutRange
/-! The specification: Shortest. -/
namespace Go.Proofs.Ytpbpmhgoppbfnaa
open Go.RowKit Go.Deep
set_option linter.unusedVariables false
set_option maxRecDepth 100000
set_option linter.unusedSimpArgs false

theorem sBnf_alw {S : Nat → Prop} (d : Bn) (v0 v1 v3 : Value) (w : World) (h : BLies w S d v0 v1 v3) :
    Calls Try.prog 23 #[.agg #[v0, v1, .int .i64 d.own, v3]] w fun e w' => e = .returned (.bool (bnB d)) ∧ Below w.heap.size w w' := by
  cases hz : szB d
  · have : bnB d = false := by unfold bnB; rw [hz]; rfl
    rw [this]
    exact sBnf_no d v0 v1 v3 w h (by rw [hz]; simp)
  · exact sBnf_yes d v0 v1 v3 w h hz
theorem info4s : (Try.prog.info? 4).map (fun i => (i.zero, i.size, i.bytes)) = some (some (.bool false), 1, 1) := by kernel_rfl
theorem run_makeHas (n : Nat) (hn : n ≤ 1048576) (w : World) :
    (Instr.makeSlice 55 (.int .i64 (n : Int)) (.int .i64 (n : Int))).run Try.prog w = .ok (.slice (some ⟨w.heap.size, 0, none⟩) n n) (w.alloc (.cells (madeCells #[.bool false] n) 4)) := by
  obtain ⟨i, hi, hzz⟩ := Option.map_eq_some_iff.1 info4s
  simp only [Prod.mk.injEq] at hzz
  obtain ⟨hz0, hz1, hz2⟩ := hzz
  have hr := run_make (P := Try.prog) w 55 4 i _ Try.underlying55 hi hz0 .i64 .i64 n n (by omega) (Int.le_refl _) (by rw [hz2]; omega) (by omega)
  simp only [Int.toNat_natCast, hz1, Nat.mul_one] at hr
  exact hr
theorem has_row (w : World) (n : Nat) : BRow (w.alloc (.cells (madeCells #[.bool false] n) 4)) w.heap.size (List.replicate n false) := by
  refine ⟨_, blk_alloc_new _ _, by rw [size_madeCells]; simp, fun i hi => ?_⟩
  simp at hi
  show _ = some (Value.bool ((List.replicate n false).getD i false))
  have e : (List.replicate n false).getD i false = false := by simp [List.getD_eq_getElem?_getD, hi]
  rw [e]
  have h1 : i % 1 = 0 := Nat.mod_one i
  simp [madeCells, hi, h1]
theorem info28s : (Try.prog.info? 28).map (fun i => (i.zero, i.size, i.bytes)) = some (some (.slice none 0 0), 1, 24) := by kernel_rfl
theorem run_makeLists (n : Nat) (hn : n ≤ 1048576) (w : World) :
    (Instr.makeSlice 54 (.int .i64 (n : Int)) (.int .i64 (n : Int))).run Try.prog w = .ok (.slice (some ⟨w.heap.size, 0, none⟩) n n) (w.alloc (.cells (madeCells #[.slice none 0 0] n) 28)) := by
  obtain ⟨i, hi, hzz⟩ := Option.map_eq_some_iff.1 info28s
  simp only [Prod.mk.injEq] at hzz
  obtain ⟨hz0, hz1, hz2⟩ := hzz
  have hr := run_make (P := Try.prog) w 54 28 i _ Try.underlying54 hi hz0 .i64 .i64 n n (by omega) (Int.le_refl _) (by rw [hz2]; omega) (by omega)
  simp only [Int.toNat_natCast, hz1, Nat.mul_one] at hr
  exact hr
theorem list_row (w : World) (n : Nat) : (w.alloc (.cells (madeCells #[.slice none 0 0] n) 28)).rowIs w.heap.size 28 n (fun _ => .slice none 0 0) := by
  refine ⟨_, blk_alloc_new _ _, by rw [size_madeCells], fun i hi => ?_⟩
  have h1 : i % 1 = 0 := Nat.mod_one i
  simp [madeCells, hi, h1]
theorem wsF_rep (n y : Nat) : wsF (List.replicate n []) y = [] := by
  unfold wsF
  by_cases h : y < n
  · simp [List.getD_eq_getElem?_getD, h]
  · simp [List.getD_eq_getElem?_getD, h]
theorem getD_rep (n y : Nat) : (List.replicate n false).getD y false = false := by
  by_cases h : y < n
  · simp [List.getD_eq_getElem?_getD, h]
  · simp [List.getD_eq_getElem?_getD, h]
theorem wiB_non (non : Int) (n : Nat) : wiB non 0 ((n : Int) - 1) = decide (0 ≤ non ∧ non < n) := by
  unfold wiB
  by_cases h : 0 ≤ non ∧ non < n
  · rw [decide_eq_true h]
    have h1 : (0 : Int) ≤ non := h.1
    have h2 : non ≤ (n : Int) - 1 := by omega
    simp [h1, h2]
  · rw [decide_eq_false h]
    by_cases h1 : (0 : Int) ≤ non
    · have h2 : ¬ non ≤ (n : Int) - 1 := by omega
      simp [h1, h2]
    · simp [h1]

set_option maxHeartbeats 25600000 in
theorem sSho_any {S : Nat → Prop} (d : Bn) (v0 v1 v3 : Value) (non : Int) (w : World) (h : BLies w S d v0 v1 v3) :
    Calls Try.prog 7 #[.agg #[v0, v1, .int .i64 d.own, v3], .int .i64 non] w fun e w' => ∃ R, ShR d non R ∧ YAns R w e w' := by
  obtain ⟨a0, c0, a1, c1, a3', c3', rfl, rfl, e3⟩ := h.form
  have HLB := (show Hid _ from h)
  obtain ⟨a3, c3, bp, op, sv, e3', hcp, hmp, hap, hcellp, hrp⟩ := h.prods
  subst e3'
  have hb0 := bel_alloc w (.cells #[.slice a0 d.terms.length c0, .slice a1 d.nons.length c1, .int .i64 d.own, .slice a3 d.prods.length c3] 34)
  have HG := (show Hid _ from sBnf_alw d _ _ _ _ (h.still hb0))
  have HX := (show Hid _ from Box.new w 34 [.slice a0 d.terms.length c0, .slice a1 d.nons.length c1, .int .i64 d.own, .slice a3 d.prods.length c3])
  have HB0 := (show Hid _ from hb0)
  clear e3 h hb0
  have HCP := (show Hid _ from hcellp); clear hcellp
  have HAP := (show Hid _ from hap); clear hap
  have HRP := (show Hid _ from hrp); clear hrp
  unfold maxLen at hmp
  have HNIL := (show Hid (∀ (C : Int) (w' : World), ShR d non ([], C) → Below w.heap.size w w' → ∃ R, ShR d non R ∧ YAns R w (.returned (.tuple #[.slice (some ⟨w'.heap.size, 0, none⟩) 0 0, .int .i64 C])) (w'.alloc (.cells #[] 3))) from fun C w' h1 h2 => ⟨_, h1, YAns.nil (bel_trans h2 (bel_alloc _ _))⟩)
  cases hbn : bnB d
  · have HSR : Hid (ShR d non ([], 1)) := .inl ⟨hbn, rfl⟩
    rw [hbn] at HG
    clear hbn
    go_enter Try.func7, Try.ntmps7
    go_wp2_with fail
    refine Calls.mono HG.out ?_
    rintro e w1 ⟨rfl, hb1⟩
    have HF := (show Hid _ from HNIL.out 1 w1 HSR.out (bel_trans HB0.out hb1)); clear hb1
    go_wp2_with fail
    refine bodyPost_ret (v := .tuple #[.slice (some ⟨w1.heap.size, 0, none⟩) 0 0, .int .i64 1]) (by simp [results, Try.results7, go_sem]) rfl ?_
    exact HF.out
  rw [hbn] at HG
  have hok := bnB_ok hbn
  have HBN := (show Hid _ from hbn)
  have HOK := (show Hid _ from hok)
  have HBT := (show Hid _ from fun (w' : World) => between_any non 0 ((d.nons.length : Int) - 1) w')
  rw [wiB_non] at HBT
  have h60 := hok.nt
  have h100 := hok.nn.2
  have hn1 := hok.nn.1
  clear hbn hok
  go_enter Try.func7, Try.ntmps7
  go_wp2_with fail
  refine Calls.mono HG.out ?_
  rintro e w1 ⟨rfl, hb1⟩
  have HX1 := (show Hid _ from HX.out.still hb1)
  have HB1 := (show Hid _ from bel_trans HB0.out hb1); clear hb1 HG
  have T0 := HX1.out.cell 0 (by simp)
  have T1 := HX1.out.cell 1 (by simp)
  have T2 := HX1.out.cell 2 (by simp)
  have T3 := HX1.out.cell 3 (by simp)
  simp only [List.getD_cons_zero, List.getD_cons_succ] at T0 T1 T2 T3
  go_wp2_with fail
  refine Calls.mono (HBT.out w1) ?_
  rintro e w2 ⟨rfl, rfl⟩
  by_cases hn : 0 ≤ non ∧ non < d.nons.length
  case neg =>
    have e0 : decide (0 ≤ non ∧ non < d.nons.length) = false := decide_eq_false hn
    rw [e0]
    have HF := (show Hid _ from HNIL.out 4 w2 (.inr (.inl ⟨HBN.out, hn, rfl⟩)) HB1.out)
    clear e0 hn
    go_wp2_with fail
    refine bodyPost_ret (v := .tuple #[.slice (some ⟨w2.heap.size, 0, none⟩) 0 0, .int .i64 4]) (by simp [results, Try.results7, go_sem]) rfl ?_
    exact HF.out
  have e0 : decide (0 ≤ non ∧ non < d.nons.length) = true := decide_eq_true hn
  rw [e0]
  clear e0
  obtain ⟨hn0, hn2⟩ := hn
  obtain ⟨m, hm⟩ : ∃ m : Nat, non = m := ⟨non.toNat, by omega⟩
  subst hm
  have hm1 : m < d.nons.length := by omega
  have HSR := (show Hid (∀ R, ShL d (d.terms.length + m) R → ShR d (m : Int) R) from fun R hR => .inr (.inr ⟨HBN.out, hn0, hn2, by rw [Int.toNat_natCast]; exact hR⟩))
  have HLE := (show Hid _ from least_any d HOK.out _ _ _ w2 (BLies.still HLB.out HB1.out))
  go_wp2_with fail
  refine Calls.mono HLE.out ?_
  rintro e w3 ⟨b, M, rfl, hb3, hb, hMr, hMl, hsM, hqM⟩
  have hX3 := HX1.out.still hb3
  have HB3 := (show Hid _ from bel_trans HB1.out hb3)
  have hmM : m < M.length := by rw [hMl]; exact hm1
  have q3 := irow_cell hMr hmM
  have hbl : b < w3.heap.size := World.rowIs.lt hMr
  have hxl : w.heap.size < w3.heap.size := hX3.lt
  have hlo := hsM.low (d.terms.length + m)
  rw [Mf_non hmM] at hlo
  have HSND := (show Hid (Snd d.terms.length (bps d) (Mf d.terms.length M) ∧ (∀ p ∈ bps d, lnew (Mf d.terms.length M) p = false) ∧ Mf d.terms.length M (d.terms.length + m) = M[m] ∧ M.length = d.nons.length) from ⟨hsM, hqM, Mf_non hmM, hMl⟩)
  have HMR := (show Hid _ from hMr)
  have HX3 := (show Hid _ from hX3)
  clear hb3 hMr hsM hqM hX3 HLE T0 T1 T2 T3 hMl
  generalize hLx : M[m] = Lx at *
  clear hLx
  by_cases e1 : Lx < 0
  · have HF := (show Hid _ from HNIL.out 6 w3 (HSR.out _ ⟨_, HSND.out.1, HSND.out.2.1, .inl ⟨by rw [HSND.out.2.2.1]; omega, rfl⟩⟩) HB3.out)
    go_wp2_with fail
    refine bodyPost_ret (v := .tuple #[.slice (some ⟨w3.heap.size, 0, none⟩) 0 0, .int .i64 6]) (by simp [results, Try.results7, go_sem]) rfl ?_
    exact HF.out
  by_cases e2 : 200 < Lx
  · have HF := (show Hid _ from HNIL.out 3 w3 (HSR.out _ ⟨_, HSND.out.1, HSND.out.2.1, .inr (.inl ⟨by rw [HSND.out.2.2.1]; exact e2, rfl⟩)⟩) HB3.out)
    go_wp2_with fail
    refine bodyPost_ret (v := .tuple #[.slice (some ⟨w3.heap.size, 0, none⟩) 0 0, .int .i64 3]) (by simp [results, Try.results7, go_sem]) rfl ?_
    exact HF.out
  have HLX := (show Hid (0 ≤ Lx ∧ Lx ≤ 200) from ⟨by omega, by omega⟩)
  have hmk1 := fun w => run_makeLists d.nons.length (by omega) w
  have hmk2 := fun w => run_makeHas d.nons.length (by omega) w
  have T1 := HX3.out.cell 1 (by simp)
  have T1' := (HX3.out.still (bel_alloc w3 (.cells (madeCells #[.slice none 0 0] d.nons.length) 28))).cell 1 (by simp)
  simp only [List.getD_cons_zero, List.getD_cons_succ] at T1 T1'
  obtain ⟨W5, hW5⟩ : ∃ W5, (w3.alloc (.cells (madeCells #[.slice none 0 0] d.nons.length) 28)).alloc (.cells (madeCells #[.bool false] d.nons.length) 4) = W5 := ⟨_, rfl⟩
  have hb35 : Below w3.heap.size w3 W5 := by rw [← hW5]; exact (bel_alloc _ _).alloc (by simp) _
  have hr1 : W5.rowIs w3.heap.size 28 d.nons.length (fun _ => .slice none 0 0) := by
    rw [← hW5]
    exact World.rowIs.of_block (list_row w3 d.nons.length) (blk_alloc_lt _ _ _ (by simp))
  have hr2 : BRow W5 (w3.heap.size + 1) (List.replicate d.nons.length false) := by
    rw [← hW5]
    have := has_row (w3.alloc (.cells (madeCells #[.slice none 0 0] d.nons.length) 28)) d.nons.length
    rw [World.size_alloc] at this
    exact this
  have H0 := (show Hid (InvH w d a0 a1 a3 c0 c1 c3 b w3.heap.size (w3.heap.size + 1) M (List.replicate d.nons.length false, List.replicate d.nons.length []) W5 ∧ PH d.terms.length (bps d) M (List.replicate d.nons.length false) (List.replicate d.nons.length [])) from ⟨⟨bel_trans HB3.out hb35, HX3.out.still hb35, irow_still HMR.out hb35, hr2, ⟨_, hr1, fun i hi hh => by rw [getD_rep] at hh; cases hh⟩, by simp, by simp⟩, ⟨fun y => by rw [wsF_rep]; simp, fun y hy => by rw [getD_rep] at hy; cases hy⟩⟩)
  obtain ⟨toDo, htd⟩ := toDo_ex (α := List Bool × List (List Nat)) (Inv := fun A wr => InvH w d a0 a1 a3 c0 c1 c3 b w3.heap.size (w3.heap.size + 1) M A wr) (m := msH d.nons.length) (fun A B w' hA hB => hA.uniq hB)
  have HU := (show Hid (∀ A w', InvH w d a0 a1 a3 c0 c1 c3 b w3.heap.size (w3.heap.size + 1) M A w' → toDo w' = msH d.nons.length A) from htd)
  clear htd hb35 hr1 hr2 HMR
  go_wp2_with fail
  clear hW5 T1 T1' q3
  go_loopw [9] (fun u wr => ∃ more : Bool, u = .bool more ∧ Hid (∃ A, InvH w d a0 a1 a3 c0 c1 c3 b w3.heap.size (w3.heap.size + 1) M A wr ∧ PH d.terms.length (bps d) M A.1 A.2 ∧ (more = false → ∀ k (hk : k < d.prods.length), ¬ newH d.terms.length M A.1 A.2 (pN d.prods[k])))) (fun u wr => if boolOf u then toDo wr + 1 else 0)
  case atStart => exact ⟨true, rfl, _, H0.out.1, H0.out.2, fun h => by cases h⟩
  case round =>
    clear H0
    obtain ⟨more, rfl, HI⟩ := hrel
    obtain ⟨A0, hn0', hp0, hq0⟩ := HI.out
    cases more
    · have hqq : ∀ p ∈ bps d, ¬ newH d.terms.length M A0.1 A0.2 p := fun p hp => by
        obtain ⟨q, hq1, rfl⟩ := List.mem_map.1 hp
        obtain ⟨k, hk, rfl⟩ := List.mem_iff_getElem.1 hq1
        exact hq0 rfl k hk
      obtain ⟨hk, hbst⟩ := hp0.best HSND.out.1 HSND.out.2.1 hqq m (by rw [HSND.out.2.2.1]; exact HLX.out.1) (by rw [HSND.out.2.2.1]; exact HLX.out.2)
      obtain ⟨sv', hwl⟩ := hn0'.wl
      obtain ⟨gy, cy, hsy, _, hoy⟩ := hwl.is m hm1 hk
      have hlim := hp0.lim m
      have q7 : wr.cell? ⟨w3.heap.size, m, none⟩ = some (.slice (some ⟨gy, 0, none⟩) (wsF A0.2 m).length cy) := by
        have := World.rowIs.cell hwl.row hm1
        rw [hsy] at this
        exact this
      have hba := bel_alloc wr (.cells #[] 3)
      have q7' : (wr.alloc (.cells #[] 3)).cell? ⟨w3.heap.size, m, none⟩ = some (.slice (some ⟨gy, 0, none⟩) (wsF A0.2 m).length cy) := (hba.cell (lt_of_cell q7)).trans q7
      have HBE : Hid (ShR d (m : Int) (tin (wsF A0.2 m), 0)) := HSR.out _ ⟨_, HSND.out.1, HSND.out.2.1, .inr (.inr ⟨by rw [HSND.out.2.2.1]; exact HLX.out.1, by rw [HSND.out.2.2.1]; exact HLX.out.2, wsF A0.2 m, hbst, rfl⟩)⟩
      have HBW := (show Hid (Below w.heap.size w wr) from hn0'.bel)
      have HOY := (show Hid _ from al_still hoy hba)
      have HLIM := (show Hid _ from hlim)
      clear hqq hk hbst hwl hsy hoy hn0' hp0 hq0 HI hba hlim q7
      generalize wsF A0.2 m = U at *
      have hU := HLIM.out
      obtain ⟨i3, hi3, hzz⟩ := Option.map_eq_some_iff.1 info3i
      simp only [Prod.mk.injEq] at hzz
      obtain ⟨hz0, hz1, hz2⟩ := hzz
      go_wp2_with (at_builtin; refine wpList_append_g rfl (.tmp 106) (.tmp 110) 28 rfl w.heap.size 3 i3 _ 1 8 Try.underlying28 hi3 hz0 hz1 hz2 rfl (by decide) wr.heap.size 0 0 [] rfl ?cw ⟨gy, 0, none⟩ U.length cy (iv (tin U)) rfl ?c0 ?c1 ?c2 ?c3 ?c5 ?c4 ?nx)
      case cw => exact ⟨rfl, .inr ⟨wr.heap.size, 0, #[], rfl, HBW.out.size, blk_alloc_new _ _, Nat.le_refl _, Nat.zero_le _, rfl, rfl⟩⟩
      case c0 => simp [iv, tin]
      case c1 => exact fun j u hu => World.ownsRow.cells HOY.out (g := gy) rfl j u hu
      case c2 => intro u hu; simp only [iv, List.mem_map] at hu; obtain ⟨z, _, rfl⟩ := hu; rfl
      case c3 => unfold maxLen; omega
      case c5 => omega
      case c4 => have := HBW.out.size; simp; omega
      case nx =>
        intro g9 c9 w9 hown hgr hat
        have hbw := bel_trans HBW.out (bel_alloc wr (.cells #[] 3))
        have HF : Hid (∃ R, ShR d (m : Int) R ∧ YAns R w (.returned (.tuple #[.slice (some ⟨g9, 0, none⟩) U.length c9, .int .i64 0])) w9) := by
          refine ⟨_, HBE.out, YAns.of (B := w.heap.size) ?_ (Nat.le_refl _) (hbw.grown hgr hbw.size (fun k hk => by injection hk with hk; have := HBW.out.size; omega))⟩
          rw [tin_len]
          exact hown
        clear hown hgr hat hbw
        go_wp2_with fail
        refine bodyPost_ret (v := .tuple #[.slice (some ⟨g9, 0, none⟩) U.length c9, .int .i64 0]) (by simp [results, Try.results7, go_sem]) rfl ?_
        exact HF.out
    · have hM : toDo wr = msH d.nons.length A0 := HU.out _ _ hn0'
      have HM := (show Hid _ from hM); clear hM
      have HX0 := (show Hid _ from (⟨hn0', hp0⟩ : _ ∧ _)); clear hn0' hq0 HI hp0
      go_wp2_with fail
      go_loopw [9, 10] (fun u i wi => ∃ (ag : Bool) (j : Nat), u = .bool ag ∧ i = .int .i64 j ∧ j ≤ d.prods.length ∧ Hid (∃ A, InvH w d a0 a1 a3 c0 c1 c3 b w3.heap.size (w3.heap.size + 1) M A wi ∧ PH d.terms.length (bps d) M A.1 A.2 ∧ (ag = true → msH d.nons.length A < msH d.nons.length A0) ∧ (ag = false → A = A0 ∧ ∀ k (hk : k < d.prods.length), k < j → ¬ newH d.terms.length M A0.1 A0.2 (pN d.prods[k])))) (fun _ i _ => d.prods.length - (intOf i).toNat)
      case atStart => exact ⟨false, 0, rfl, rfl, Nat.zero_le _, A0, HX0.out.1, HX0.out.2, (fun h => by cases h), fun _ => ⟨rfl, fun k _ hk => absurd hk (Nat.not_lt_zero _)⟩⟩
      case round =>
        obtain ⟨ag, j, rfl, rfl, hj, HJ⟩ := hrel
        obtain ⟨A, hN, hP, hx1, hx2⟩ := HJ.out
        have T3 : wr.cell? ⟨w.heap.size, 3, none⟩ = some (.slice a3 d.prods.length c3) := hN.box.cell 3 (by simp)
        by_cases hlt : j < d.prods.length
        · have hlt' := hlt
          obtain ⟨rfl, _⟩ := HAP.out (by omega)
          obtain ⟨q0, q1, _⟩ := HCP.out j hlt'
          have hri := HRP.out j hlt'
          obtain ⟨ai, ci, ei, _⟩ := hri.form
          rw [ei] at q1 hri
          obtain ⟨l1, l2⟩ := HOK.out.left j hlt'
          obtain ⟨y, hy⟩ : ∃ y : Nat, d.prods[j].left = ((d.terms.length + y : Nat) : Int) := ⟨(d.prods[j].left - d.terms.length).toNat, by omega⟩
          rw [hy] at l1 l2 q0
          have hyn : y < d.nons.length := by omega
          have hyM : y < M.length := by rw [HSND.out.2.2.2]; exact hyn
          have hyh : y < A.1.length := by rw [hN.hlen]; exact hyn
          have hyl : y < A.2.length := by rw [hN.llen]; exact hyn
          have hpn : pN d.prods[j] = (d.terms.length + y, nats d.prods[j].right) := by unfold pN; rw [hy]; rfl
          have hyy : (((d.terms.length + y : Nat) : Int) - d.terms.length) = (y : Int) := by omega
          have HIN : Hid (∀ i (hi : i < d.prods[j].right.length), 0 ≤ d.prods[j].right[i] ∧ d.prods[j].right[i] < ((d.terms.length + d.nons.length : Nat) : Int)) := fun i hi => HOK.out.right j hlt' i hi
          have hr12 := HOK.out.len j hlt'
          have hmy : Mf d.terms.length M (d.terms.length + y) = M[y] := Mf_non hyM
          have HST := (show Hid (∀ w', Below wr.heap.size wr w' → InvH w d a0 a1 (some ⟨bp, op, none⟩) c0 c1 c3 b w3.heap.size (w3.heap.size + 1) M A w') from fun w' hb => hN.still hb)
          have HCELL := (show Hid (∀ w', Below wr.heap.size wr w' → w'.cell? ⟨w.heap.size, 0, none⟩ = some (.slice a0 d.terms.length c0) ∧ w'.cell? ⟨w.heap.size, 1, none⟩ = some (.slice a1 d.nons.length c1) ∧ w'.cell? ⟨w.heap.size, 2, none⟩ = some (.int .i64 d.own) ∧ w'.cell? ⟨w.heap.size, 3, none⟩ = some (.slice (some ⟨bp, op, none⟩) d.prods.length c3) ∧ w'.cell? ⟨bp, op + j * 5, none⟩ = some (.int .i64 ((d.terms.length + y : Nat) : Int)) ∧ w'.cell? ⟨bp, op + j * 5 + 1, none⟩ = some (.slice ai d.prods[j].right.length ci) ∧ w'.cell? ⟨b, y, none⟩ = some (.int .i64 M[y]) ∧ w'.cell? ⟨w3.heap.size + 1, y, none⟩ = some (.bool A.1[y]) ∧ w'.frozen? ⟨w3.heap.size, y, none⟩ = false ∧ w'.frozen? ⟨w3.heap.size + 1, y, none⟩ = false) from fun w' hb => by
            have hI := HST.out w' hb
            obtain ⟨sv', hwl⟩ := hI.wl
            exact ⟨hI.box.cell 0 (by simp), hI.box.cell 1 (by simp), hI.box.cell 2 (by simp), hI.box.cell 3 (by simp), (hI.bel.cell (lt_of_cell q0)).trans q0, (hI.bel.cell (lt_of_cell q1)).trans q1, irow_cell hI.mrow hyM, hI.hrow.cell hyh, World.rowIs.frozen hwl.row y, World.rowIs.frozen hI.hrow y⟩)
          have HOLDW := (show Hid (∀ w', Below wr.heap.size wr w' → ∃ vo, w'.cell? ⟨w3.heap.size, y, none⟩ = some vo ∧ (A.1[y] = true → ∃ gy cy, vo = .slice (some ⟨gy, 0, none⟩) (wsF A.2 y).length cy ∧ w'.ownsRow 0 3 1 (.slice (some ⟨gy, 0, none⟩) (wsF A.2 y).length cy) (wsF A.2 y).length (iv (tin (wsF A.2 y))))) from fun w' hb => by
            have hI := HST.out w' hb
            obtain ⟨sv', hwl⟩ := hI.wl
            refine ⟨sv' y, World.rowIs.cell hwl.row hyn, fun hh => ?_⟩
            obtain ⟨gy, cy, h1, _, h3⟩ := hwl.is y hyn (by rw [getD_lt _ _ hyh]; exact hh)
            exact ⟨gy, cy, h1, h3⟩)
          have HV2 := (show Hid (∀ w', Below wr.heap.size wr w' → Calls Try.prog 27 #[.agg #[.slice a0 d.terms.length c0, .slice a1 d.nons.length c1, .int .i64 d.own, .slice (some ⟨bp, op, none⟩) d.prods.length c3], .slice (some ⟨b, 0, none⟩) d.nons.length d.nons.length, .slice (some ⟨w3.heap.size, 0, none⟩) d.nons.length d.nons.length, .slice (some ⟨w3.heap.size + 1, 0, none⟩) d.nons.length d.nons.length, .slice ai d.prods[j].right.length ci, .int .i64 M[y]] w' fun e w'' => SpA w' (spB d.terms.length M A.1 (nats d.prods[j].right) M[y]) (cat (Wf d.terms.length A.2) (nats d.prods[j].right)) e w'') from fun w' hb => by
            have hI := HST.out w' hb
            obtain ⟨sv', hwl⟩ := hI.wl
            exact spell_s d a0 a1 (some ⟨bp, op, none⟩) c0 c1 c3 d.nons.length d.prods.length b w3.heap.size (w3.heap.size + 1) d.nons.length M d.prods[j].right A.1 A.2 sv' M[y] _ w' h60 h100 HSND.out.2.2.2 hI.hlen hI.mrow hI.hrow hwl (hri.still hI.bel) HIN.out HSND.out.1.low HSND.out.1.top hr12 hP.lim)
          have HV := (show Hid (∀ w', Calls Try.prog 26 #[.agg #[.slice a0 d.terms.length c0, .slice a1 d.nons.length c1, .int .i64 d.own, .slice (some ⟨bp, op, none⟩) d.prods.length c3], .int .i64 ((d.terms.length + y : Nat) : Int)] w' fun e w'' => e = .returned (.int .i64 (y : Int)) ∧ Below w'.heap.size w' w'') from fun w' => by
            have := non_any d a0 c0 (.slice a1 d.nons.length c1) (.slice (some ⟨bp, op, none⟩) d.prods.length c3) ((d.terms.length + y : Nat) : Int) w' (by omega) h60
            rw [hyy] at this
            exact this)
          have HWRD := (show Hid (spB d.terms.length M A.1 (nats d.prods[j].right) M[y] = true → sml (cat (Wf d.terms.length A.2) (nats d.prods[j].right)) ∧ ((cat (Wf d.terms.length A.2) (nats d.prods[j].right)).length : Int) = M[y] ∧ M[y] ≤ 200) from fun hb => by
            obtain ⟨h1, h2, h3, h4⟩ := spB_word HSND.out.1 hP hb
            exact ⟨h1.sml (by omega), h2, h4⟩)
          have HWOL := (show Hid (A.1[y] = true → sml (wsF A.2 y) ∧ ((wsF A.2 y).length : Int) = M[y]) from fun hb => by
            obtain ⟨h1, h2⟩ := hP.made y (by rw [getD_lt _ _ hyh]; exact hb)
            rw [hmy] at h2
            exact ⟨h1.sml (by omega), h2⟩)
          have HNEW : Hid (newH d.terms.length M A.1 A.2 (pN d.prods[j]) ↔ (spB d.terms.length M A.1 (nats d.prods[j].right) M[y] = true ∧ (A.1[y] = false ∨ rk (cat (Wf d.terms.length A.2) (nats d.prods[j].right)) < rk (wsF A.2 y)))) := by
            show newH d.terms.length M A.1 A.2 (pN d.prods[j]) ↔ _
            unfold newH
            rw [hpn]
            dsimp only
            rw [hmy, Kf_getD, Wf_non, getD_lt _ _ hyh]
          have HPN := (show Hid (¬ newH d.terms.length M A.1 A.2 (pN d.prods[j]) → ∀ w', Below wr.heap.size wr w' → ∃ A, InvH w d a0 a1 (some ⟨bp, op, none⟩) c0 c1 c3 b w3.heap.size (w3.heap.size + 1) M A w' ∧ PH d.terms.length (bps d) M A.1 A.2 ∧ (ag = true → msH d.nons.length A < msH d.nons.length A0) ∧ (ag = false → A = A0 ∧ ∀ k (hk : k < d.prods.length), k < j + 1 → ¬ newH d.terms.length M A0.1 A0.2 (pN d.prods[k]))) from fun hf w' hb => ⟨A, HST.out w' hb, hP, hx1, fun h => ⟨(hx2 h).1, fun k hk hkj => by
            obtain ⟨e1, e2⟩ := hx2 h
            by_cases ek : k = j
            · subst ek
              rw [← e1]
              exact hf
            · exact e2 k hk (by omega)⟩⟩)
          have HPY := (show Hid (newH d.terms.length M A.1 A.2 (pN d.prods[j]) → ∀ w' g c B, Below wr.heap.size wr w' → w'.ownsRow B 3 1 (.slice (some ⟨g, 0, none⟩) (cat (Wf d.terms.length A.2) (nats d.prods[j].right)).length c) (cat (Wf d.terms.length A.2) (nats d.prods[j].right)).length (iv (tin (cat (Wf d.terms.length A.2) (nats d.prods[j].right)))) → wr.heap.size ≤ g → ∃ A', InvH w d a0 a1 (some ⟨bp, op, none⟩) c0 c1 c3 b w3.heap.size (w3.heap.size + 1) M A' ((w'.setCell ⟨w3.heap.size, y, none⟩ (.slice (some ⟨g, 0, none⟩) (cat (Wf d.terms.length A.2) (nats d.prods[j].right)).length c)).setCell ⟨w3.heap.size + 1, y, none⟩ (.bool true)) ∧ PH d.terms.length (bps d) M A'.1 A'.2 ∧ msH d.nons.length A' < msH d.nons.length A0) from fun hf w' g c B hb ho hg => by
            have hI := HST.out w' hb
            have hlt5 : w3.heap.size + 1 < wr.heap.size := World.rowIs.lt hN.hrow
            have hp1 : (pN d.prods[j]).1 = d.terms.length + y := by rw [hpn]
            have hp2 : (pN d.prods[j]).2 = nats d.prods[j].right := by rw [hpn]
            have hpm : pN d.prods[j] ∈ bps d := List.mem_map.2 ⟨_, List.getElem_mem hlt', rfl⟩
            have h1 := hI.set hyn (cat (Wf d.terms.length A.2) (nats d.prods[j].right)) ho (by omega) (by omega) (by omega) (by omega) (by omega) (by omega) (by omega)
            have h2 := hP.step HSND.out.1 hpm hp1 hyh hyl hf
            have h3 := msH_less (n := d.nons.length) (by omega) HSND.out.1 hP hp1 hyn hyh hyl hf
            rw [hp2] at h2 h3
            refine ⟨_, h1, h2, ?_⟩
            cases ag
            · rw [← (hx2 rfl).1]; exact h3
            · exact Nat.lt_trans h3 (hx1 rfl))
          clear hpn hri hx1 hx2 HJ hN hP q0 q1 hmy l1 l2 hy hyy HIN ei hyl
          generalize newH d.terms.length M A.1 A.2 (pN d.prods[j]) = NW at *
          generalize spB d.terms.length M A.1 (nats d.prods[j].right) M[y] = SB at *
          generalize cat (Wf d.terms.length A.2) (nats d.prods[j].right) = C at *
          generalize wsF A.2 y = OW at *
          generalize M[y] = My at *
          generalize A.1[y] = HY at *
          clear hyh
          generalize d.prods[j].right.length = RL at *
          obtain ⟨T0, T1, T2, T3', q0, q1, r0, s0, fr0, fr1⟩ := HCELL.out wr (Below.refl _ _)
          clear T3'
          go_upto_region 18 with fail
          go_cut [11] from 56 to 63 (fun v wx => v = .int .i64 y ∧ Hid (Below wr.heap.size wr wx))
          case first =>
            have HV3 := (show Hid _ from HV.out wr.drew)
            have HDR3 := (show Hid _ from (Below.refl wr.heap.size wr).drew)
            clear HV2 HPN HPY HST HCELL HRP HCP HAP HU HM HX0 HV HNEW HWRD HWOL HOLDW HNIL HSR HSND HLX HOK HLB HBN r0 s0 fr0 fr1
            go_region_with (go_at_call 26; refine Calls.mono HV3.out ?_; rintro e w5 ⟨rfl, hb5⟩; have HBW := (show Hid _ from bel_trans HDR3.out hb5); clear hb5)
            all_goals
              go_wp2_with fail
              go_meet
              exact ⟨rfl, HBW⟩
          case rest =>
            obtain ⟨rfl, HC⟩ := hcut
            clear T0 T1 T2 T3 q0 q1 r0 s0 fr0 fr1
            obtain ⟨T0, T1, T2, T3, q0, q1, r0, s0, fr0, fr1⟩ := HCELL.out wc HC.out
            go_upto_region 19 with fail
            go_cut [12, 13] from 64 to 81 (fun v1 v2 wx => v2 = .bool SB ∧ Hid (Below wr.heap.size wr wx ∧ (SB = true → ∃ g c, v1 = .slice (some ⟨g, 0, none⟩) C.length c ∧ wr.heap.size ≤ g ∧ wx.ownsRow 0 3 1 (.slice (some ⟨g, 0, none⟩) C.length c) C.length (iv (tin C)))))
            case first =>
              have hdr := HC.out.drew
              have HV3 := (show Hid _ from HV2.out wc.drew hdr)
              have HDR3 := (show Hid _ from hdr)
              clear hdr HV2 HPN HPY HST HCELL HRP HCP HAP HU HM HX0 HV HNEW HWRD HWOL HOLDW HNIL HSR HSND HLX HOK HLB HBN s0 fr0 fr1
              go_region_with (go_at_call 27; refine Calls.mono HV3.out ?_; rintro e w5 ⟨v5, rfl, hb5, ho5⟩; have HBW := (show Hid _ from (⟨bel_trans HDR3.out hb5, fun hs => by obtain ⟨g, c, h1, h2⟩ := ho5 hs; exact ⟨g, c, h1, Nat.le_trans HDR3.out.size (World.ownsRow.lt h2 g rfl).1, own_low h2 (Nat.zero_le _)⟩⟩ : Below wr.heap.size wr w5 ∧ (SB = true → ∃ g c, v5 = .slice (some ⟨g, 0, none⟩) C.length c ∧ wr.heap.size ≤ g ∧ w5.ownsRow 0 3 1 (.slice (some ⟨g, 0, none⟩) C.length c) C.length (iv (tin C))))); clear hb5 ho5)
              all_goals
                go_wp2_with fail
                go_meet
                exact ⟨rfl, HBW⟩
            case rest =>
              obtain ⟨rfl, HC2⟩ := hcut
              clear T0 T1 T2 T3 q0 q1 r0 s0 fr0 fr1
              obtain ⟨_, _, _, _, _, _, _, s0, fr0, fr1⟩ := HCELL.out wc HC2.out.1
              cases SB
              · have HN := (show Hid _ from HPN.out (fun h => by have := (HNEW.out.1 h).1; cases this) wc HC2.out.1)
                clear HV2 HPN HPY HST HCELL HNEW HWRD HWOL HOLDW HV s0 fr0 fr1 HC HC2
                go_wp2_with fail
                exact ⟨⟨ag, j + 1, by rfl, by go_num, by omega, HN⟩, by simp [intOf]; omega⟩
              · obtain ⟨g, c, rfl, hg, ho⟩ := HC2.out.2 rfl
                obtain ⟨vo, q7, hvo⟩ := HOLDW.out wc HC2.out.1
                cases HY
                · have HN := (show Hid _ from HPY.out (HNEW.out.2 ⟨rfl, .inl rfl⟩) wc g c 0 HC2.out.1 ho hg)
                  clear HV2 HPN HPY HST HCELL HNEW HWRD HWOL HOLDW HV HC HC2 ho hvo
                  go_wp2_with fail
                  exact ⟨⟨true, j + 1, by rfl, by go_num, by omega, by obtain ⟨z, h1, h2, h3⟩ := HN.out; exact ⟨z, h1, h2, (fun _ => h3), fun h => by cases h⟩⟩, by simp [intOf]; omega⟩
                · obtain ⟨gy, cy, rfl, hoy⟩ := hvo rfl
                  obtain ⟨m1, m2, m3⟩ := HWRD.out rfl
                  obtain ⟨n1', n2'⟩ := HWOL.out rfl
                  have HCMP := (show Hid _ from cmp_any C OW (by omega) m1 n1' (by omega) (.slice (some ⟨g, 0, none⟩) C.length c) (.slice (some ⟨gy, 0, none⟩) OW.length cy) wc (al_ints (l := tin C) (by rw [tin_len]; exact ho)) (al_ints (l := tin OW) (by rw [tin_len]; exact hoy)))
                  have HHO := (show Hid _ from (⟨ho, hg⟩ : _ ∧ _))
                  have HNEW2 := (show Hid (NW ↔ rk C < rk OW) from ⟨fun h => by rcases (HNEW.out.1 h).2 with e | e; cases e; exact e, fun h => HNEW.out.2 ⟨rfl, .inr h⟩⟩)
                  have HB2 := (show Hid _ from HC2.out.1)
                  clear HV2 HST HNEW HWRD HWOL HV HC HC2 ho hvo hoy m1 m2 m3 n1' n2' hg
                  go_wp2_with fail
                  refine Calls.mono HCMP.out ?_
                  rintro e w6 ⟨z, rfl, hz, hb6⟩
                  have hbw6 := bel_trans HB2.out hb6
                  clear s0 fr0 fr1 q7
                  obtain ⟨_, _, _, _, _, _, _, s0, fr0, fr1⟩ := HCELL.out w6 hbw6
                  obtain ⟨vo, q7, _⟩ := HOLDW.out w6 hbw6
                  by_cases hz0 : z < 0
                  · have HN := (show Hid _ from HPY.out (HNEW2.out.2 (hz.1 hz0)) w6 g c 0 hbw6 (al_still HHO.out.1 hb6) HHO.out.2)
                    clear HPN HPY HCELL HOLDW HB2 HHO HNEW2 HCMP hb6 hbw6 hz
                    go_wp2_with fail
                    exact ⟨⟨true, j + 1, by rfl, by go_num, by omega, by obtain ⟨z, h1, h2, h3⟩ := HN.out; exact ⟨z, h1, h2, (fun _ => h3), fun h => by cases h⟩⟩, by simp [intOf]; omega⟩
                  · have HN := (show Hid _ from HPN.out (fun h => hz0 (hz.2 (HNEW2.out.1 h))) w6 hbw6)
                    clear HPN HPY HCELL HOLDW HB2 HHO HNEW2 HCMP hb6 hbw6 hz
                    go_wp2_with fail
                    exact ⟨⟨ag, j + 1, by rfl, by go_num, by omega, HN⟩, by simp [intOf]; omega⟩
        · have HN : Hid (∃ A, InvH w d a0 a1 a3 c0 c1 c3 b w3.heap.size (w3.heap.size + 1) M A wr ∧ PH d.terms.length (bps d) M A.1 A.2 ∧ (ag = false → ∀ k (hk : k < d.prods.length), ¬ newH d.terms.length M A.1 A.2 (pN d.prods[k]))) := ⟨A, hN, hP, fun h => by
            obtain ⟨e1, e2⟩ := hx2 h
            subst e1
            exact fun k hk => e2 k hk (by omega)⟩
          have HLT : Hid ((if boolOf (.bool ag) then toDo wr + 1 else 0) < msH d.nons.length A0 + 1) := by
            show (if boolOf (.bool ag) then toDo wr + 1 else 0) < msH d.nons.length A0 + 1
            cases ag
            · simp [boolOf]
            · have h1 := hx1 rfl
              have h2 : toDo wr = msH d.nons.length A := HU.out _ _ hN
              simp only [boolOf, if_true, h2]
              omega
          clear hN hx1 hx2 HJ hP
          go_wp2_with fail
          refine ⟨⟨ag, by rfl, HN⟩, ?_⟩
          have h1 := HLT.out
          have h2 := HM.out
          simp only [boolOf, if_true] at h1 ⊢
          omega
end Go.Proofs.Ytpbpmhgoppbfnaa
