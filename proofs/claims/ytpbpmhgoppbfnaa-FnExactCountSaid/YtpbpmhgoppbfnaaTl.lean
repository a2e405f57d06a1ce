import Derived.Test.YtpbpmhgoppbfnaaTn
/-! The specification: the ways of a Right from a place on, worked out but once. -/
namespace Go.Proofs.Ytpbpmhgoppbfnaa
open Go.RowKit Go.Deep
set_option linter.unusedVariables false
set_option maxRecDepth 100000
set_option linter.unusedSimpArgs false

set_option maxHeartbeats 3200000 in
theorem list79 {S : Nat → Prop} (s : Sx) (hs : SxOK S s) (p a i j : Nat) (hp : p < s.d.prods.length) (ha : a ≤ (s.rt p).length) (hi : i < s.n1) (hj : j < s.n1) (hY : a < (s.rt p).length → PY s p a i j) : PL s p a i j := by
  intro ow mm w hw
  have hnp := hs.hok.np
  have hwl := hs.wlen
  have hn1 : s.n1 = s.W.length + 1 := rfl
  have hcM := hs.cM1
  unfold maxLen at hcM
  have hrl : (s.rt p).length ≤ 12 := by rw [rt_eq s hp]; exact hs.hok.len p hp
  obtain ⟨a4, cap, b, off, sv, hv3, hcc, hm3, ha3, hcell, hr⟩ := hs.prods
  simp only [Value.slice.injEq] at hv3
  obtain ⟨ea, _, ec⟩ := hv3
  subst ea ec
  obtain ⟨ha3, _⟩ := ha3 (by omega)
  obtain ⟨_, r1, _⟩ := hcell p hp
  obtain ⟨ai, ci, ei, _⟩ := (hr p hp).form
  rw [ei, ← rt_eq s hp] at r1
  obtain ⟨av, cv, ew, _⟩ := hs.word.form
  have HM3 := (show Hid (∀ ow mm w q, TB s ow mm w → mm p a = some q → w.cell? ⟨s.g, 7, none⟩ = some (.slice (some ⟨s.bM, 0, none⟩) s.d.prods.length s.cM) ∧ w.cell? ⟨s.bM, p, none⟩ = some (.slice (some ⟨s.bp p, 0, none⟩) (s.rt p).length (s.rt p).length) ∧ (a < (s.rt p).length → w.cell? ⟨s.bp p, a, none⟩ = some (.slice (some ⟨q, 0, none⟩) (s.n1 * s.n1) (s.n1 * s.n1)))) from fun ow mm w q h hq => by
    refine ⟨?_, h.mrow p hp, fun hal => ?_⟩
    · rw [← hs.vM1 (by omega)]; exact h.box.cell 7 (by simp)
    · obtain ⟨f, h1, h2⟩ := h.prow p hp
      rw [h1.cell hal, h2 a hal, hq]
      rfl)
  have g3 : w.cell? ⟨s.g, 3, none⟩ = some (.slice (some ⟨b, off, none⟩) s.d.prods.length s.c3) := by rw [← ha3]; exact hw.box.cell 3 (by simp)
  have g5 : w.cell? ⟨s.g, 5, none⟩ = some (.slice av s.W.length cv) := by rw [← ew]; exact hw.box.cell 5 (by simp)
  have g7 : w.cell? ⟨s.g, 7, none⟩ = some (.slice (some ⟨s.bM, 0, none⟩) s.d.prods.length s.cM) := by rw [← hs.vM1 (by omega)]; exact hw.box.cell 7 (by simp)
  have r2 := (hw.bel.cell (lt_of_cell r1)).trans r1
  have m1 := hw.mrow p hp
  have HW := (show Hid _ from hw)
  have HY := (show Hid _ from hY)
  have HOK := (show Hid _ from hs)
  unfold maxLen at hm3
  clear hcell hr ei ew ha3 hY
  by_cases hae : a = (s.rt p).length
  · have HV := (show Hid (LF s.V ((nats (s.rt p)).drop a) i j = if i = j then 1 else 0) from (by
      show LF s.V ((nats (s.rt p)).drop a) i j = _
      rw [List.drop_eq_nil_of_le (by simp [nats]; omega)]
      rfl))
    have hb : ((a : Int) == ((s.rt p).length : Int)) = true := by simp [hae]
    have hb2 : (a == (s.rt p).length) = true := by simp [hae]
    have HAE := (show Hid _ from hae)
    clear hae hw
    by_cases hij : i = j
    · have hb3 : ((i : Int) == (j : Int)) = true := by simp [hij]
      rw [if_pos hij] at HV
      clear hij
      go_enter Try.func79, Try.ntmps79
      go_wp2_with fail
      go_ret
      exact ⟨by rw [HV.out]; rfl, ow, mm, HW.out, fun _ _ _ h => h⟩
    · have hb3 : ((i : Int) == (j : Int)) = false := by simp; omega
      rw [if_neg hij] at HV
      clear hij
      go_enter Try.func79, Try.ntmps79
      go_wp2_with fail
      go_ret
      exact ⟨by rw [HV.out]; rfl, ow, mm, HW.out, fun _ _ _ h => h⟩
  have hal : a < (s.rt p).length := by omega
  have hane : ((a : Int) == ((s.rt p).length : Int)) = false := by simp; omega
  have HG3 := (show Hid (∀ ow mm w, TB s ow mm w → w.cell? ⟨s.g, 3, none⟩ = some (.slice (some ⟨b, off, none⟩) s.d.prods.length s.c3)) from fun ow mm w h => by have h1 := h.box.cell 3 (by simp); have h2 := hw.box.cell 3 (by simp); rw [h1, ← h2]; exact g3)
  have HG5 := (show Hid (∀ ow mm w, TB s ow mm w → w.cell? ⟨s.g, 5, none⟩ = some (.slice av s.W.length cv)) from fun ow mm w h => by have h1 := h.box.cell 5 (by simp); have h2 := hw.box.cell 5 (by simp); rw [h1, ← h2]; exact g5)
  have HR2 := (show Hid (∀ ow mm w, TB s ow mm w → w.cell? ⟨b, off + p * 5 + 1, none⟩ = some (.slice ai (s.rt p).length ci)) from fun ow mm w h => (h.bel.cell (lt_of_cell r1)).trans r1)
  have hnb : s.n1 ≤ 41 := by omega
  have hnn2 : s.n1 * s.n1 ≤ 41 * 41 := Nat.mul_le_mul hnb hnb
  have hat := at_lt hi hj
  have hnpos : 1 ≤ s.n1 * s.n1 := by omega
  obtain ⟨mi, hmi⟩ : ∃ mi, i * s.n1 = mi := ⟨_, rfl⟩
  obtain ⟨nn, hnn⟩ : ∃ nn, s.n1 * s.n1 = nn := ⟨_, rfl⟩
  have kmul : (i : Int) * ((s.W.length : Int) + 1) = (mi : Int) := by rw [← hmi, hn1, Int.natCast_mul]; rfl
  have knn : ((s.W.length : Int) + 1) * ((s.W.length : Int) + 1) = (nn : Int) := by rw [← hnn, hn1, Int.natCast_mul]; rfl
  obtain ⟨mj, hmj⟩ : ∃ mj, i * s.n1 + j = mj := ⟨_, rfl⟩
  have kaj : (mi : Int) + (j : Int) = (mj : Int) := by rw [← hmj, hmi]; rfl
  have HMJ := (show Hid _ from hmj)
  rw [hmj, hnn] at hat
  clear hmj
  rw [hnn] at hnn2 hnpos
  have HMI := (show Hid _ from hmi); clear hmi
  have HNN := (show Hid _ from hnn); clear hnn
  have hn0 : ((nn : Int) == 0) = false := by simp; omega
  have hz0 : (0 : Int) ≤ (mj : Int) := by omega
  have hzn : (mj : Int) < (nn : Int) := by omega
  have hmk := run_makeInts nn (by omega)
  clear hae g3 g5 g7 r2 m1 hw
  cases hmm : mm p a with
  | some q =>
    have hqm := (show Hid _ from hmm); clear hmm
    obtain ⟨d1, d2, d0⟩ := HM3.out _ _ _ q HW.out hqm.out
    have d3 := d0 hal
    clear d0
    have g3 : w.cell? ⟨s.g, 3, none⟩ = some (.slice (some ⟨b, off, none⟩) s.d.prods.length s.c3) := HG3.out _ _ _ HW.out
    have g5 : w.cell? ⟨s.g, 5, none⟩ = some (.slice av s.W.length cv) := HG5.out _ _ _ HW.out
    have r2 : w.cell? ⟨b, off + p * 5 + 1, none⟩ = some (.slice ai (s.rt p).length ci) := HR2.out _ _ _ HW.out
    obtain ⟨f, hrow, hf⟩ := HW.out.mval p a q hp hal hqm.out
    have c9 := hrow.cell (i := i * s.n1 + j) (at_lt hi hj)
    have hok := hf i j hi hj
    clear hrow
    rw [HNN.out] at d3
    rw [HMJ.out] at c9 hok
    rcases hok with hfj | hfj
    · rw [hfj] at c9
      clear hf hfj
      have hcq := cp_le (LF s.V ((nats (s.rt p)).drop a) i j)
      obtain ⟨cvv, hcv⟩ : ∃ cvv, cp (LF s.V ((nats (s.rt p)).drop a) i j) = cvv := ⟨_, rfl⟩
      have HCV := (show Hid _ from hcv)
      rw [hcv] at hcq
      have hbd := (Below.refl w.heap.size w).drew
      have HCQ := (show Hid (Calls Try.prog 95 #[.pointer (some ⟨s.g, 0, none⟩), .int .i64 p, .int .i64 a, .int .i64 i, .int .i64 j] w.drew fun e w' => e = .returned (.int .i64 (cvv : Nat)) ∧ ∃ ow' mm', TB s ow' mm' w' ∧ ∀ p a q, mm p a = some q → mm' p a = some q) from (HY.out hal _ _ _ (HW.out.still hbd)).mono (fun e w' h => ⟨by rw [← hcv]; exact h.1, h.2⟩))
      clear hcv
      have HSS := (show Hid (∀ ow2 mm2 w2, TB s ow2 mm2 w2 → mm2 p a = some q → w2.cell? ⟨s.g, 7, none⟩ = some (.slice (some ⟨s.bM, 0, none⟩) s.d.prods.length s.cM) ∧ w2.cell? ⟨s.bM, p, none⟩ = some (.slice (some ⟨s.bp p, 0, none⟩) (s.rt p).length (s.rt p).length) ∧ w2.cell? ⟨s.bp p, a, none⟩ = some (.slice (some ⟨q, 0, none⟩) nn nn)) from fun ow2 mm2 w2 h hq => by
        obtain ⟨x1, x2, x0⟩ := HM3.out _ _ _ _ h hq
        have x3 := x0 hal
        rw [HNN.out] at x3
        exact ⟨x1, x2, x3⟩)
      have HT := (show Hid (∀ ow2 mm2 w2, TB s ow2 mm2 w2 → mm2 p a = some q → ∃ v9, w2.cell? ⟨q, mj, none⟩ = some v9 ∧ w2.frozen? ⟨q, mj, none⟩ = false ∧ TB s ow2 mm2 (w2.setCell ⟨q, mj, none⟩ (.int .i64 ((cvv : Int) + 1)))) from fun ow2 mm2 w2 h hq => by
        obtain ⟨f2, x1, x2⟩ := h.mval p a _ hp hal hq
        have x3 := h.setM hp hal hq hi hj
        rw [HMJ.out, HCV.out, show ((cvv + 1 : Nat) : Int) = (cvv : Int) + 1 by omega] at x3
        refine ⟨_, x1.cell (by have := at_lt hi hj; rw [HMJ.out] at this; exact this), x1.frozen _, x3⟩)
      have hS0 := HSS.out _ _ _ (HW.out.still hbd) hqm.out
      have kmw : IntKind.i64.wrap ((i : Int) * ((s.W.length : Int) + 1)) = (mi : Int) := by rw [kmul]; simp [IntKind.wrap, IntKind.bits, IntKind.signed]; omega
      have kaw : IntKind.i64.wrap ((mi : Int) + (j : Int)) = (mj : Int) := by rw [kaj]; simp [IntKind.wrap, IntKind.bits, IntKind.signed]; omega
      have kmv : IntKind.i64.wrap (mi : Int) = (mi : Int) := by simp [IntKind.wrap, IntKind.bits, IntKind.signed]; omega
      have kjv : IntKind.i64.wrap (mj : Int) = (mj : Int) := by simp [IntKind.wrap, IntKind.bits, IntKind.signed]; omega
      have kcw : IntKind.i64.wrap ((cvv : Int) + 1) = (cvv : Int) + 1 := by simp [IntKind.wrap, IntKind.bits, IntKind.signed]; omega
      go_enter Try.func79, Try.ntmps79
      go_wp2_with fail
      clear d1 d2 d3 g3 g5 r2 c9
      go_region_held3 (fun w2 => w2.cell? ⟨s.g, 7, none⟩ = some (.slice (some ⟨s.bM, 0, none⟩) s.d.prods.length s.cM) ∧ w2.cell? ⟨s.bM, p, none⟩ = some (.slice (some ⟨s.bp p, 0, none⟩) (s.rt p).length (s.rt p).length) ∧ w2.cell? ⟨s.bp p, a, none⟩ = some (.slice (some ⟨q, 0, none⟩) nn nn)) (first | exact hS0 | exact hS1 | exact hS2) ((go_at_call 95; refine Calls.mono HCQ.out ?_; rintro e w2 ⟨rfl, ow2, mm2, hw2, hle2⟩; have hS1 := HSS.out _ _ _ hw2 (hle2 _ _ _ hqm.out); have hT2 := HT.out _ _ _ hw2 (hle2 _ _ _ hqm.out); obtain ⟨v9, t1, t2, t3⟩ := hT2; have hS2 := HSS.out _ _ _ t3 (hle2 _ _ _ hqm.out)))
      all_goals obtain ⟨x1, x2, x3⟩ := hS2
      all_goals have x4 : (w2.setCell ⟨q, mj, none⟩ (.int .i64 ((cvv : Int) + 1))).cell? ⟨q, mj, none⟩ = some (.int .i64 ((cvv : Int) + 1)) := World.cell?_setCell_same' _ _ _ (by rw [t1]; rfl)
      all_goals go_wp2_with fail
      all_goals go_ret
      all_goals exact ⟨by rw [HCV.out]; simp, ow2, mm2, t3, fun p a q h => hle2 p a q ((fun _ _ _ h => h) p a q h)⟩
    · rw [hfj] at c9
      clear hf hfj
      have hcq := cp_le (LF s.V ((nats (s.rt p)).drop a) i j)
      generalize hcv : cp (LF s.V ((nats (s.rt p)).drop a) i j) = cvv at *
      have HCV := (show Hid _ from hcv); clear hcv
      have hz1 : (((cvv + 1 : Nat) : Int) == 0) = false := by simp; omega
      go_enter Try.func79, Try.ntmps79
      go_wp2_with fail
      go_ret
      exact ⟨by rw [HCV.out]; simp, ow, mm, HW.out, fun _ _ _ h => h⟩
  | none =>
    have g3 : w.cell? ⟨s.g, 3, none⟩ = some (.slice (some ⟨b, off, none⟩) s.d.prods.length s.c3) := HG3.out _ _ _ HW.out
    have g5 : w.cell? ⟨s.g, 5, none⟩ = some (.slice av s.W.length cv) := HG5.out _ _ _ HW.out
    have r2 : w.cell? ⟨b, off + p * 5 + 1, none⟩ = some (.slice ai (s.rt p).length ci) := HR2.out _ _ _ HW.out
    have g7 : w.cell? ⟨s.g, 7, none⟩ = some (.slice (some ⟨s.bM, 0, none⟩) s.d.prods.length s.cM) := by rw [← HOK.out.vM1 (by omega)]; exact HW.out.box.cell 7 (by simp)
    have m1 := HW.out.mrow p hp
    obtain ⟨c0, z0⟩ : w.cell? ⟨s.bp p, a, none⟩ = some (.slice none 0 0) ∧ w.frozen? ⟨s.bp p, a, none⟩ = false := by
      obtain ⟨f, h1, h2⟩ := HW.out.prow p hp
      refine ⟨?_, h1.frozen _⟩
      rw [h1.cell hal, h2 a hal, hmm]
      rfl
    have hbd := (Below.refl w.heap.size w).drew
    have HNEW := (show Hid (∃ ow' mm', TB s ow' mm' ((w.alloc (.cells (madeCells #[.int .i64 0] nn) 3)).setCell ⟨s.bp p, a, none⟩ (.slice (some ⟨w.heap.size, 0, none⟩) nn nn)).drew ∧ mm' p a = some w.heap.size ∧ ∀ p a q, mm p a = some q → mm' p a = some q) from by
      have h := HW.out.newM hp hal hmm
      unfold msl at h
      rw [HNN.out] at h
      refine ⟨_, _, h.still (Below.refl _ _).drew, by simp, fun p' a' q' hq' => ?_⟩
      show (if p' = p ∧ a' = a then _ else _) = _
      rw [if_neg (fun e => by rw [e.1, e.2, hmm] at hq'; cases hq')]
      exact hq')
    have HSA := (show Hid (∀ o, (w.alloc o).cell? ⟨s.g, 7, none⟩ = some (.slice (some ⟨s.bM, 0, none⟩) s.d.prods.length s.cM) ∧ (w.alloc o).cell? ⟨s.bM, p, none⟩ = some (.slice (some ⟨s.bp p, 0, none⟩) (s.rt p).length (s.rt p).length) ∧ (w.alloc o).cell? ⟨s.bp p, a, none⟩ = some (.slice none 0 0) ∧ (w.alloc o).frozen? ⟨s.bp p, a, none⟩ = false) from fun o => by
      have h0 := HW.out.still (bel_alloc w o)
      obtain ⟨f, h1, h2⟩ := h0.prow p hp
      refine ⟨?_, h0.mrow p hp, ?_, h1.frozen _⟩
      · rw [← HOK.out.vM1 (by omega)]; exact h0.box.cell 7 (by simp)
      · rw [h1.cell hal, h2 a hal, hmm]
        rfl)
    obtain ⟨y1, y2, y3, y4⟩ := HSA.out (.cells (madeCells #[.int .i64 0] nn) 3)
    have knv : IntKind.i64.wrap (nn : Int) = (nn : Int) := by simp [IntKind.wrap, IntKind.bits, IntKind.signed]; omega
    clear hmm
    go_enter Try.func79, Try.ntmps79
    go_upto_region 8 with fail
    go_cut [58] from 47 to 59 (fun v wx => v = .slice (some ⟨w.heap.size, 0, none⟩) nn nn ∧ Hid (∃ ow' mm', TB s ow' mm' wx ∧ mm' p a = some w.heap.size ∧ ∀ p a q, mm p a = some q → mm' p a = some q))
    case first =>
      go_region
      all_goals go_wp2_with fail
      all_goals go_meet
      all_goals exact ⟨rfl, HNEW.out⟩
    case rest =>

      obtain ⟨rfl, HX⟩ := hcut
      obtain ⟨ow1, mm1, hw1, hq1, hle1⟩ := HX.out
      have HW1 := (show Hid _ from hw1)
      have hqm := (show Hid _ from hq1)
      have HLE1 := (show Hid _ from hle1)
      clear hw1 hq1 hle1 HX HNEW HSA y1 y2 y3 y4 c0 z0 m1 g7 g3 g5 r2 hbd
      obtain ⟨d1, d2, d0⟩ := HM3.out _ _ _ w.heap.size HW1.out hqm.out
      have d3 := d0 hal
      clear d0
      have g3 : wc.cell? ⟨s.g, 3, none⟩ = some (.slice (some ⟨b, off, none⟩) s.d.prods.length s.c3) := HG3.out _ _ _ HW1.out
      have g5 : wc.cell? ⟨s.g, 5, none⟩ = some (.slice av s.W.length cv) := HG5.out _ _ _ HW1.out
      have r2 : wc.cell? ⟨b, off + p * 5 + 1, none⟩ = some (.slice ai (s.rt p).length ci) := HR2.out _ _ _ HW1.out
      obtain ⟨f, hrow, hf⟩ := HW1.out.mval p a w.heap.size hp hal hqm.out
      have c9 := hrow.cell (i := i * s.n1 + j) (at_lt hi hj)
      have hok := hf i j hi hj
      clear hrow
      rw [HNN.out] at d3
      rw [HMJ.out] at c9 hok
      rcases hok with hfj | hfj
      · rw [hfj] at c9
        clear hf hfj
        have hcq := cp_le (LF s.V ((nats (s.rt p)).drop a) i j)
        obtain ⟨cvv, hcv⟩ : ∃ cvv, cp (LF s.V ((nats (s.rt p)).drop a) i j) = cvv := ⟨_, rfl⟩
        have HCV := (show Hid _ from hcv)
        rw [hcv] at hcq
        have hbd := (Below.refl wc.heap.size wc).drew
        have HCQ := (show Hid (Calls Try.prog 95 #[.pointer (some ⟨s.g, 0, none⟩), .int .i64 p, .int .i64 a, .int .i64 i, .int .i64 j] wc.drew fun e w' => e = .returned (.int .i64 (cvv : Nat)) ∧ ∃ ow' mm', TB s ow' mm' w' ∧ ∀ p a q, mm1 p a = some q → mm' p a = some q) from (HY.out hal _ _ _ (HW1.out.still hbd)).mono (fun e w' h => ⟨by rw [← hcv]; exact h.1, h.2⟩))
        clear hcv
        have HSS := (show Hid (∀ ow2 mm2 w2, TB s ow2 mm2 w2 → mm2 p a = some w.heap.size → w2.cell? ⟨s.g, 7, none⟩ = some (.slice (some ⟨s.bM, 0, none⟩) s.d.prods.length s.cM) ∧ w2.cell? ⟨s.bM, p, none⟩ = some (.slice (some ⟨s.bp p, 0, none⟩) (s.rt p).length (s.rt p).length) ∧ w2.cell? ⟨s.bp p, a, none⟩ = some (.slice (some ⟨w.heap.size, 0, none⟩) nn nn)) from fun ow2 mm2 w2 h hq => by
          obtain ⟨x1, x2, x0⟩ := HM3.out _ _ _ _ h hq
          have x3 := x0 hal
          rw [HNN.out] at x3
          exact ⟨x1, x2, x3⟩)
        have HT := (show Hid (∀ ow2 mm2 w2, TB s ow2 mm2 w2 → mm2 p a = some w.heap.size → ∃ v9, w2.cell? ⟨w.heap.size, mj, none⟩ = some v9 ∧ w2.frozen? ⟨w.heap.size, mj, none⟩ = false ∧ TB s ow2 mm2 (w2.setCell ⟨w.heap.size, mj, none⟩ (.int .i64 ((cvv : Int) + 1)))) from fun ow2 mm2 w2 h hq => by
          obtain ⟨f2, x1, x2⟩ := h.mval p a _ hp hal hq
          have x3 := h.setM hp hal hq hi hj
          rw [HMJ.out, HCV.out, show ((cvv + 1 : Nat) : Int) = (cvv : Int) + 1 by omega] at x3
          refine ⟨_, x1.cell (by have := at_lt hi hj; rw [HMJ.out] at this; exact this), x1.frozen _, x3⟩)
        have hS0 := HSS.out _ _ _ (HW1.out.still hbd) hqm.out
        have kmw : IntKind.i64.wrap ((i : Int) * ((s.W.length : Int) + 1)) = (mi : Int) := by rw [kmul]; simp [IntKind.wrap, IntKind.bits, IntKind.signed]; omega
        have kaw : IntKind.i64.wrap ((mi : Int) + (j : Int)) = (mj : Int) := by rw [kaj]; simp [IntKind.wrap, IntKind.bits, IntKind.signed]; omega
        have kmv : IntKind.i64.wrap (mi : Int) = (mi : Int) := by simp [IntKind.wrap, IntKind.bits, IntKind.signed]; omega
        have kjv : IntKind.i64.wrap (mj : Int) = (mj : Int) := by simp [IntKind.wrap, IntKind.bits, IntKind.signed]; omega
        have kcw : IntKind.i64.wrap ((cvv : Int) + 1) = (cvv : Int) + 1 := by simp [IntKind.wrap, IntKind.bits, IntKind.signed]; omega
        go_wp2_with fail
        clear d1 d2 d3 g3 g5 r2 c9
        go_region_held3 (fun w2 => w2.cell? ⟨s.g, 7, none⟩ = some (.slice (some ⟨s.bM, 0, none⟩) s.d.prods.length s.cM) ∧ w2.cell? ⟨s.bM, p, none⟩ = some (.slice (some ⟨s.bp p, 0, none⟩) (s.rt p).length (s.rt p).length) ∧ w2.cell? ⟨s.bp p, a, none⟩ = some (.slice (some ⟨w.heap.size, 0, none⟩) nn nn)) (first | exact hS0 | exact hS1 | exact hS2) ((go_at_call 95; refine Calls.mono HCQ.out ?_; rintro e w2 ⟨rfl, ow2, mm2, hw2, hle2⟩; have hS1 := HSS.out _ _ _ hw2 (hle2 _ _ _ hqm.out); have hT2 := HT.out _ _ _ hw2 (hle2 _ _ _ hqm.out); obtain ⟨v9, t1, t2, t3⟩ := hT2; have hS2 := HSS.out _ _ _ t3 (hle2 _ _ _ hqm.out)))
        all_goals obtain ⟨x1, x2, x3⟩ := hS2
        all_goals have x4 : (w2.setCell ⟨w.heap.size, mj, none⟩ (.int .i64 ((cvv : Int) + 1))).cell? ⟨w.heap.size, mj, none⟩ = some (.int .i64 ((cvv : Int) + 1)) := World.cell?_setCell_same' _ _ _ (by rw [t1]; rfl)
        all_goals go_wp2_with fail
        all_goals go_ret
        all_goals exact ⟨by rw [HCV.out]; simp, ow2, mm2, t3, fun p a q h => hle2 p a q ((HLE1.out) p a q h)⟩
      · rw [hfj] at c9
        clear hf hfj
        have hcq := cp_le (LF s.V ((nats (s.rt p)).drop a) i j)
        generalize hcv : cp (LF s.V ((nats (s.rt p)).drop a) i j) = cvv at *
        have HCV := (show Hid _ from hcv); clear hcv
        have hz1 : (((cvv + 1 : Nat) : Int) == 0) = false := by simp; omega
        go_wp2_with fail
        go_ret
        exact ⟨by rw [HCV.out]; simp, ow1, mm1, HW1.out, HLE1.out⟩
end Go.Proofs.Ytpbpmhgoppbfnaa
