import Derived.Test.YtpbpmhgoppbfnaaTa
import Derived.Deep.CutRange
/-! The specification: the count of a Non. -/
namespace Go.Proofs.Ytpbpmhgoppbfnaa
open Go.RowKit Go.Deep
set_option linter.unusedVariables false
set_option maxRecDepth 100000
set_option linter.unusedSimpArgs false

/-- What a question leaves. -/
def RN (s : Sx) (n : Nat) (mm : Nat → Nat → Option Nat) (e : Ending) (w' : World) : Prop := e = .returned (.int .i64 (cp n : Nat)) ∧ ∃ ow' mm', TB s ow' mm' w' ∧ ∀ p a q, mm p a = some q → mm' p a = some q
def PN (s : Sx) (k i j : Nat) : Prop := ∀ ow mm w, TB s ow mm w → Calls Try.prog 47 #[.pointer (some ⟨s.g, 0, none⟩), .int .i64 k, .int .i64 i, .int .i64 j] w (RN s (s.V (s.d.terms.length + k) i j) mm)
def PL (s : Sx) (p a i j : Nat) : Prop := ∀ ow mm w, TB s ow mm w → Calls Try.prog 79 #[.pointer (some ⟨s.g, 0, none⟩), .int .i64 p, .int .i64 a, .int .i64 i, .int .i64 j] w (RN s (LF s.V ((nats (s.rt p)).drop a) i j) mm)
def PY (s : Sx) (p a i j : Nat) : Prop := ∀ ow mm w, TB s ow mm w → Calls Try.prog 95 #[.pointer (some ⟨s.g, 0, none⟩), .int .i64 p, .int .i64 a, .int .i64 i, .int .i64 j] w (RN s (LF s.V ((nats (s.rt p)).drop a) i j) mm)
theorem cap78 (n : Nat) (hn : n ≤ 2000000000000) (w : World) : Calls Try.prog 78 #[.int .i64 n] w fun e w' => e = .returned (.int .i64 (cp n : Nat)) ∧ w' = w := by
  by_cases h : (n : Int) > 1000000
  · have HE := (show Hid (cp n = 1000000) from (by show cp n = 1000000; unfold cp; omega))
    go_enter Try.func78, Try.ntmps78
    go_wp2_with fail
    go_ret
    exact ⟨by rw [HE.out]; rfl, rfl⟩
  · have HE := (show Hid (cp n = n) from (by show cp n = n; unfold cp; omega))
    go_enter Try.func78, Try.ntmps78
    go_wp2_with fail
    go_ret
    exact ⟨by rw [HE.out]; rfl, rfl⟩
/-- What a Prod adds. -/
def fQ (s : Sx) (k i j p : Nat) : Nat := if (pAt (bps s.d) p).1 = s.d.terms.length + k then LF s.V (pAt (bps s.d) p).2 i j else 0
theorem rt_eq (s : Sx) {p : Nat} (hp : p < s.d.prods.length) : s.rt p = s.d.prods[p].right := by
  unfold Sx.rt
  simp [List.getD_eq_getElem?_getD, hp]
theorem pAt_rt (s : Sx) {p : Nat} (hp : p < s.d.prods.length) : (pAt (bps s.d) p).2 = nats (s.rt p) := by rw [pAt_bps s.d hp, rt_eq s hp]; rfl
set_option maxHeartbeats 3200000 in
theorem non47 {S : Nat → Prop} (s : Sx) (hs : SxOK S s) (k i j : Nat) (hk : k < s.d.nons.length) (hi : i < s.n1) (hj : j < s.n1) (hP : ∀ p, p < s.d.prods.length → (pAt (bps s.d) p).1 = s.d.terms.length + k → PL s p 0 i j) : PN s k i j := by
  intro ow mm w hw
  have hnt := hs.hok.nt
  have hnn := hs.hok.nn
  have hnp := hs.hok.np
  have hwl := hs.wlen
  have hn1 : s.n1 = s.W.length + 1 := rfl
  have HV := (show Hid (s.V (s.d.terms.length + k) i j = sm (fQ s k i j) s.d.prods.length) from hs.cn.nn (s.d.terms.length + k) i j (by omega) (by omega))
  have hcN := hs.cN1
  have hck := hs.ck1 k hk
  have hcr := hs.cr1 k i hk hi
  unfold maxLen at hcN hck hcr
  have HCN := (show Hid (∀ ow mm w, TB s ow mm w → w.cell? ⟨s.g, 6, none⟩ = some (.slice (some ⟨s.bN, 0, none⟩) s.d.nons.length s.cN) ∧ w.cell? ⟨s.bN, k, none⟩ = some (.slice (some ⟨s.bk k, 0, none⟩) s.n1 (s.ck k)) ∧ w.cell? ⟨s.bk k, i, none⟩ = some (.slice (some ⟨s.rr k i, 0, none⟩) s.n1 (s.cr k i))) from fun ow mm w h => ⟨h.box.cell 6 (by simp), h.nrow k hk, h.krow k i hk hi⟩)
  obtain ⟨g6, c1, c2⟩ := HCN.out _ _ _ hw
  obtain ⟨f, hrow, hf⟩ := hw.vals k i hk hi
  have c3 := hrow.cell (i := j) (by omega)
  have HW := (show Hid _ from hw)
  have HOK := (show Hid _ from hs)
  have HP := (show Hid _ from hP)
  have hcp := cp_le (s.V (s.d.terms.length + k) i j)
  rcases hf j hj with hfj | hfj
  case inr =>
    rw [hfj] at c3
    have HW2 := (show Hid _ from hw)
    clear hrow hf hw hP hfj
    generalize hcv : cp (s.V (s.d.terms.length + k) i j) = cv at *
    have HCV := (show Hid _ from hcv); clear hcv
    have hge : ((cv : Int) ≥ 0) := by omega
    go_enter Try.func47, Try.ntmps47
    go_wp2_with fail
    go_ret
    exact ⟨by rw [HCV.out]; rfl, ow, mm, HW2.out, fun _ _ _ h => h⟩
  rw [hfj] at c3
  clear hrow hf hw hP hfj
  obtain ⟨a, cap, b, off, sv, hv3, hcc, hm3, ha, hcell, hr⟩ := hs.prods
  simp only [Value.slice.injEq] at hv3
  obtain ⟨ea, _, ec⟩ := hv3
  subst ea ec
  have HA := (show Hid _ from ha); clear ha
  have HC := (show Hid _ from hcell); clear hcell hr
  unfold maxLen at hm3
  go_enter Try.func47, Try.ntmps47
  go_wp2_with fail
  clear g6 c1 c2 c3
  go_loopw [9, 10] (fun u q wr => ∃ p : Nat, q = .int .i64 p ∧ p ≤ s.d.prods.length ∧ u = .int .i64 (cp (sm (fQ s k i j) p) : Nat) ∧ Hid (∃ ow' mm', TB s ow' mm' wr ∧ ∀ p a q, mm p a = some q → mm' p a = some q)) (fun _ q _ => s.d.prods.length - (intOf q).toNat)
  case atStart => exact ⟨0, rfl, Nat.zero_le _, rfl, ow, mm, HW.out, fun _ _ _ h => h⟩
  case round =>
    obtain ⟨p, rfl, hp, rfl, HQ⟩ := hrel
    obtain ⟨ow1, mm1, hw1, hle1⟩ := HQ.out
    have HW1 := (show Hid _ from hw1)
    have HLE1 := (show Hid _ from hle1)
    have g0 : wr.cell? ⟨s.g, 0, none⟩ = some (.slice s.a0 s.d.terms.length s.c0) := hw1.box.cell 0 (by simp)
    have g1 : wr.cell? ⟨s.g, 1, none⟩ = some (.slice s.a1 s.d.nons.length s.c1) := hw1.box.cell 1 (by simp)
    have g2 : wr.cell? ⟨s.g, 2, none⟩ = some (.int .i64 s.d.own) := hw1.box.cell 2 (by simp)
    have g3 : wr.cell? ⟨s.g, 3, none⟩ = some (.slice s.a3 s.d.prods.length s.c3) := hw1.box.cell 3 (by simp)
    have HS := (show Hid (sm (fQ s k i j) (p + 1) = sm (fQ s k i j) p + fQ s k i j p) from rfl)
    clear hw1 hle1 HQ
    by_cases hlt : p < s.d.prods.length
    · obtain ⟨ha, _⟩ := HA.out (by omega)
      have hl0 := (HC.out p hlt).1
      have hleft := hs.hok.left p hlt
      have hpa : (pAt (bps s.d) p).1 = s.d.prods[p].left.toNat := by rw [pAt_bps s.d hlt]; rfl
      have HC5 := (show Hid (∀ wq, Below wr.heap.size wr wq → wq.cell? ⟨s.g, 0, none⟩ = some (.slice s.a0 s.d.terms.length s.c0) ∧ wq.cell? ⟨s.g, 1, none⟩ = some (.slice s.a1 s.d.nons.length s.c1) ∧ wq.cell? ⟨s.g, 2, none⟩ = some (.int .i64 s.d.own) ∧ wq.cell? ⟨s.g, 3, none⟩ = some (.slice (some ⟨b, off, none⟩) s.d.prods.length s.c3) ∧ wq.cell? ⟨b, off + p * 5, none⟩ = some (.int .i64 s.d.prods[p].left)) from fun wq hb => by
        have h1 := HW1.out.still hb
        refine ⟨h1.box.cell 0 (by simp), h1.box.cell 1 (by simp), h1.box.cell 2 (by simp), ?_, (h1.bel.cell (lt_of_cell hl0)).trans hl0⟩
        rw [← ha]
        exact h1.box.cell 3 (by simp))
      have HN := (show Hid _ from fun (wq : World) => non_any s.d s.a0 s.c0 (.slice s.a1 s.d.nons.length s.c1) (.slice (some ⟨b, off, none⟩) s.d.prods.length s.c3) s.d.prods[p].left wq (by omega) hnt)
      rw [ha] at g3
      clear ha
      have HPA := (show Hid _ from hpa)
      have HF := (show Hid (fQ s k i j p = if s.d.prods[p].left - (s.d.terms.length : Int) = (k : Int) then LF s.V ((nats (s.rt p)).drop 0) i j else 0) from (by
        show fQ s k i j p = _
        unfold fQ
        rw [List.drop_zero, pAt_rt s hlt]
        by_cases e : s.d.prods[p].left - (s.d.terms.length : Int) = (k : Int)
        · rw [if_pos e, if_pos (by omega)]
        · rw [if_neg e, if_neg (by omega)]))
      have HQP := (show Hid (s.d.prods[p].left - (s.d.terms.length : Int) = (k : Int) → PL s p 0 i j) from fun e => HP.out p hlt (by omega))
      generalize s.d.prods[p].left = lf at *
      go_wp2_with fail
      go_cut [63] from 48 to 62 (fun v wx => v = .bool (decide (lf - (s.d.terms.length : Int) = (k : Int))) ∧ Hid (Below wr.heap.size wr wx))
      case first =>
        have hbd := (Below.refl wr.heap.size wr).drew
        have hS0 := HC5.out _ hbd
        clear g0 g1 g2 g3 hl0 hpa
        go_region_held3 (fun wq => wq.cell? ⟨s.g, 0, none⟩ = some (.slice s.a0 s.d.terms.length s.c0) ∧ wq.cell? ⟨s.g, 1, none⟩ = some (.slice s.a1 s.d.nons.length s.c1) ∧ wq.cell? ⟨s.g, 2, none⟩ = some (.int .i64 s.d.own) ∧ wq.cell? ⟨s.g, 3, none⟩ = some (.slice (some ⟨b, off, none⟩) s.d.prods.length s.c3) ∧ wq.cell? ⟨b, off + p * 5, none⟩ = some (.int .i64 lf)) (first | exact hS0 | exact hS1) ((go_at_call 26; refine Calls.mono (HN.out _) ?_; rintro e w2 ⟨rfl, hb2⟩; have hB2 := bel_trans hbd hb2; have hS1 := HC5.out _ hB2))
        all_goals go_wp2_with fail
        all_goals go_meet
        all_goals exact ⟨by first | rfl | simp [beq_eq_decide] | (congr 1; exact beq_eq_decide _ _), hB2⟩
      case rest =>
        obtain ⟨rfl, HX⟩ := hcut
        have HWX := (show Hid _ from HW1.out.still HX.out)
        clear g0 g1 g2 g3 hl0 hpa HX HC5 HN
        have hs0 := cp_le (sm (fQ s k i j) p)
        by_cases hlx : lf - (s.d.terms.length : Int) = (k : Int)
        · have hd : decide (lf - (s.d.terms.length : Int) = (k : Int)) = true := by simp [hlx]
          rw [hd]
          rw [if_pos hlx] at HF
          have HCL := (show Hid _ from HQP.out hlx _ _ _ HWX.out)
          have hsq := cp_le (fQ s k i j p)
          rw [HF.out] at hsq
          generalize hse : cp (sm (fQ s k i j) p) = s0 at *
          have HSE := (show Hid _ from hse); clear hse hd hlx
          go_wp2_with fail
          refine Calls.mono HCL.out ?_
          rintro e w2 ⟨rfl, ow2, mm2, hw2, hle2⟩
          have HW2 := (show Hid _ from (⟨ow2, mm2, hw2, fun p a q h => hle2 p a q (HLE1.out p a q h)⟩ : ∃ ow' mm', TB s ow' mm' w2 ∧ ∀ p a q, mm p a = some q → mm' p a = some q))
          clear hw2 hle2
          rw [← HF.out] at hsq ⊢
          generalize hsf : cp (fQ s k i j p) = s1 at *
          have HSF := (show Hid _ from hsf); clear hsf
          have HC78 := (show Hid _ from cap78 (s0 + s1) (by omega) w2)
          have HN2 : Hid (cp (s0 + s1) = cp (sm (fQ s k i j) (p + 1))) := by
            show cp (s0 + s1) = _
            rw [HS.out, ← HSE.out, ← HSF.out, cp_add']
          rw [Int.natCast_add] at HC78
          go_wp2_with fail
          refine Calls.mono HC78.out ?_
          rintro e w3 ⟨rfl, rfl⟩
          rw [HN2.out]
          go_wp2_with fail
          exact ⟨⟨p + 1, by go_num, by omega, rfl, HW2⟩, by simp [intOf]; omega⟩
        · have hd : decide (lf - (s.d.terms.length : Int) = (k : Int)) = false := by simp [hlx]
          rw [hd]
          rw [if_neg hlx] at HF
          clear hd hlx
          go_wp2_with fail
          exact ⟨⟨p + 1, by go_num, by omega, by rw [HS.out, HF.out]; rfl, ow1, mm1, HWX.out, HLE1.out⟩, by simp [intOf]; omega⟩
    · obtain rfl : p = s.d.prods.length := by omega
      rw [← HV.out]
      obtain ⟨g6, c1, c2⟩ := HCN.out _ _ _ HW1.out
      obtain ⟨f, hrow, hf⟩ := HW1.out.vals k i hk hi
      have c3 := hrow.cell (i := j) (by omega)
      have z3 := hrow.frozen j
      have HEND := (show Hid _ from HW1.out.setN hk hi hj)
      clear hrow hf
      generalize hcv : cp (s.V (s.d.terms.length + k) i j) = cv at *
      have HCV := (show Hid _ from hcv); clear hcv
      go_wp2_with fail
      go_ret
      exact ⟨by rw [HCV.out]; rfl, ow1, mm1, HEND.out, HLE1.out⟩
end Go.Proofs.Ytpbpmhgoppbfnaa
