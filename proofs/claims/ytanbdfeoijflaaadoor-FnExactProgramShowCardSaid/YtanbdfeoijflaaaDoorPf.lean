import Derived.Test.YtanbdfeoijflaaaDoorPe
/-! Programs that are right: the program. -/
namespace Go.Proofs.YtanbdfeoijflaaaDoor
open Go.RowKit Go.Deep
set_option linter.unusedVariables false
set_option maxRecDepth 100000
set_option linter.unusedSimpArgs false

set_option maxHeartbeats 1600000 in
theorem all39 {S : Nat → Prop} (l : List DIns) (v : Value) (g p n : Nat) (u : Value) (w : World) (hcl0 : CQ w g p n u) (h : InsR w S l v) :
    Calls Tryd.prog 33 #[v, .func (.func 31) #[] #[.pointer (some ⟨g, 0, none⟩), .pointer (some ⟨p, 0, none⟩)]] w fun e w' => e = .returned (.bool (l.all (inB n))) ∧ Below w.heap.size w w' := by
  obtain ⟨a, cap, b, off, rfl, hc, hm, ha, hcell⟩ := h
  have HC := (show Hid _ from hcell); clear hcell
  have HA := (show Hid _ from ha); clear ha
  have HL := (show Hid (CQ w g p n u) from hcl0); clear hcl0
  unfold maxLen at hm
  generalize hRes : l.all (inB n) = R
  have HRes := (show Hid _ from hRes); clear hRes
  go_enter Tryd.func33, Tryd.ntmps33
  go_wp2_with fail
  go_loopw [9] (fun i wr => ∃ j : Nat, i = .int .i64 j ∧ j ≤ l.length ∧ Hid (∀ i (hi : i < l.length), i < j → inB n l[i] = true) ∧ Below w.heap.size w wr) (fun i _ => l.length - (intOf i).toNat)
  case atStart => exact ⟨0, rfl, Nat.zero_le _, fun i hi h0 => absurd h0 (Nat.not_lt_zero _), Below.refl _ _⟩
  case round =>
    obtain ⟨j, rfl, hj, HJ, hbel⟩ := hrel
    by_cases hjl : j < l.length
    · obtain ⟨rfl, _⟩ := HA.out (by omega)
      obtain ⟨c0, c1, c2⟩ := HC.out j hjl
      rw [← hbel.cell (lt_of_cell c0)] at c0
      rw [← hbel.cell (lt_of_cell c1)] at c1
      rw [← hbel.cell (lt_of_cell c2)] at c2
      have hcl := fun (w' : World) (hb : Below w.heap.size w w') => right37 l[j] g p n u w' (HL.out.still hb)
      have HCL := (show Hid _ from hcl); clear hcl
      generalize hB : inB n l[j] = B at HCL
      have HB := (show Hid _ from hB); clear hB
      have HNX := (show Hid (B = true → ∀ i (hi : i < l.length), i < j + 1 → inB n l[i] = true) from fun h i hi hij => by
        by_cases e : i = j
        · subst e; exact HB.out.trans h
        · exact HJ.out i hi (by omega))
      have HFX := (show Hid (B = false → R = false) from fun h => by
        rw [← HRes.out, List.all_eq_false]
        exact ⟨l[j], List.getElem_mem hjl, by rw [HB.out, h]; simp⟩)
      generalize l[j].op = y0 at *
      generalize l[j].n = y1 at *
      generalize l[j].to_ = y2 at *
      cases B
      · have HF := (show Hid (R = false) from HFX.out rfl)
        go_wp2_with fail
        go_at_call 31
        refine Calls.mono (HCL.out _ (hbel.alloc hbel.size _)) ?_
        rintro e w1 ⟨rfl, hb1⟩
        have HE := (show Hid _ from bel_trans (hbel.alloc hbel.size _) hb1); clear hb1 c0 c1 c2 hbel
        go_wp2_with fail
        go_ret
        exact ⟨by rw [HF.out]; rfl, HE.out⟩
      · have HN := (show Hid _ from HNX.out rfl)
        go_wp2_with fail
        go_at_call 31
        refine Calls.mono (HCL.out _ (hbel.alloc hbel.size _)) ?_
        rintro e w1 ⟨rfl, hb1⟩
        have HE := (show Hid _ from bel_trans (hbel.alloc hbel.size _) hb1); clear hb1 c0 c1 c2 hbel
        go_wp2_with fail
        exact ⟨⟨j + 1, by go_num, by omega, HN, HE.out⟩, by simp [intOf]; omega⟩
    · have HF := (show Hid (R = true) from by
        show R = true
        rw [← HRes.out, List.all_eq_true]
        intro x hx
        obtain ⟨i, hi, rfl⟩ := List.mem_iff_getElem.1 hx
        exact HJ.out i hi (by omega))
      go_wp2_with fail
      go_ret
      exact ⟨by rw [HF.out]; rfl, hbel⟩
theorem inB_ops {n : Nat} {x : DIns} (h : inB n x = true) : 1 ≤ x.op ∧ x.op ≤ 10 := by
  apply Decidable.byContradiction
  intro hn
  rw [inB_op hn] at h
  cases h
theorem sto65g (w0 : World) (g : Nat) (hg : w0.heap.size = g) : (storeCells ⟨g, 0, none⟩ tbA.toList).run Tryd.prog (w0.alloc (.cells zrA 46)) = .ok () (w0.alloc (.cells tbA 46)) := by
  subst hg
  exact run_storeCells_new (P := Tryd.prog) w0 46 zrA tbA info46 (by kernel_rfl) tbA_one
set_option maxHeartbeats 3200000 in
theorem iPg11 {S : Nat → Prop} (l : List DIns) (v : Value) (w : World) (h : InsR w S l v) :
    Calls Tryd.prog 17 #[v] w fun e w' => e = .returned (.bool (pgB l)) ∧ Below w.heap.size w w' := by
  obtain ⟨a, cap, hv, hm⟩ := h.form
  subst hv
  unfold maxLen at hm
  have HB1 := (show Hid _ from bel_alloc w (.cells #[.slice a l.length cap] 26))
  by_cases hlen : 1 ≤ l.length ∧ l.length ≤ 50000
  case neg =>
    rw [pgB_len hlen]
    clear h
    by_cases h1 : (l.length : Int) < 1
    · clear hlen
      go_enter Tryd.func17, Tryd.ntmps17
      go_wp2_with fail
      go_ret
      exact ⟨rfl, HB1.out⟩
    · have h2 : (50000 : Int) < l.length := by omega
      clear hlen
      go_enter Tryd.func17, Tryd.ntmps17
      go_wp2_with fail
      go_ret
      exact ⟨rfl, HB1.out⟩
  rw [pgB_in hlen]
  have hr := rows36 (w.alloc (.cells #[.slice a l.length cap] 26))
  have HR := (show Hid _ from hr); clear hr
  have hz := zr65
  have HI := (show Hid (∀ w', Below w.heap.size w w' → InsR w' S l (.slice a l.length cap)) from fun w' hb => h.still hb)
  clear h
  obtain ⟨hl1, hl2⟩ := hlen
  have n1 : ¬ (l.length : Int) < 1 := by omega
  have n2 : ¬ (50000 : Int) < l.length := by omega
  have kw : IntKind.i64.wrap ((l.length : Int) - 1) = (l.length : Int) - 1 := by simp [IntKind.wrap, IntKind.bits, IntKind.signed]; omega
  have hb2 := bel2 (w.alloc (.cells #[.slice a l.length cap] 26)) (.cells tbA 46) (.cells tbA 46)
  have hcq : CQ (((w.alloc (.cells #[.slice a l.length cap] 26)).alloc (.cells tbA 46)).alloc (.cells tbA 46)) (w.heap.size + 1 + 1) w.heap.size l.length (.slice a l.length cap) := by
    refine ⟨by have := TbL.new ((w.alloc (.cells #[.slice a l.length cap] 26)).alloc (.cells tbA 46)); simpa using this, ?_, ⟨a, cap, rfl⟩, hl2⟩
    have h0 : (w.alloc (.cells #[.slice a l.length cap] 26)).cell? ⟨w.heap.size, 0, none⟩ = some (.slice a l.length cap) := by simp [go_sem]
    exact (hb2.cell (lt_of_cell h0)).trans h0
  have HBC := (show Hid _ from (⟨bel_trans HB1.out hb2, hcq⟩ : _ ∧ _))
  clear hcq hb2
  have HAL := (show Hid _ from all39 l (.slice a l.length cap) (w.heap.size + 1 + 1) w.heap.size l.length (.slice a l.length cap) _ HBC.out.2 (HI.out _ HBC.out.1))
  have HLS := (show Hid _ from lsO_at (l := l) (by omega))
  have HIN := (show Hid (l.all (inB l.length) = true → ∃ k : Nat, k ≤ 10 ∧ lsO l = k) from fun h => by
    rw [List.all_eq_true] at h
    have := inB_ops (h _ (List.getElem_mem (l := l) (n := l.length - 1) (by omega)))
    exact ⟨(lsO l).toNat, by rw [HLS.out]; omega, by rw [HLS.out]; omega⟩)
  generalize l.all (inB l.length) = B at *
  generalize hRR : (B && !gsB (lsO l)) = R
  have HRR := (show Hid _ from hRR); clear hRR
  clear HB1
  go_enter Tryd.func17, Tryd.ntmps17
  go_wp2_with fail
  refine Calls.mono HR.out ?_
  rintro e w1 ⟨rfl, rfl⟩
  have hst := sto65g ((w.alloc (.cells #[.slice a l.length cap] 26)).alloc (.cells tbA 46)) (w.heap.size + 1 + 1) (by simp)
  go_wp2_with fail
  refine Calls.mono HAL.out ?_
  rintro e w1 ⟨rfl, hb1⟩
  have HC1 := (show Hid _ from HBC.out.2.still hb1)
  have HE := (show Hid _ from bel_trans HBC.out.1 hb1)
  clear hb1 HBC HAL
  have bx := HC1.out.bx
  cases B
  · clear HIN
    go_wp2_with fail
    go_ret
    exact ⟨ret_bool HRR.out, HE.out⟩
  obtain ⟨k, hk, hlk⟩ := HIN.out rfl
  obtain ⟨r0, r1, r2, r3, r4⟩ := HC1.out.tb.row k hk
  obtain ⟨a', cap', b, off, hv, hc, hm', ha, hcell⟩ := HI.out _ HE.out
  obtain ⟨rfl, rfl⟩ : a = a' ∧ cap = cap' := by injection hv with h1 h2 h3; exact ⟨h1, h3⟩
  obtain ⟨rfl, _⟩ := ha (by omega)
  obtain ⟨c0, c1, c2⟩ := hcell (l.length - 1) (by omega)
  rw [← HLS.out, hlk] at c0
  have HF := (show Hid (R = !gsB k) from by show R = _; rw [← HRR.out, hlk]; rfl)
  clear HRR
  clear c1 c2 r0 r1 r2 r4 hlk HLS hcell ha hv HIN
  have kz : ((l.length : Int) - 1).toNat = l.length - 1 := by omega
  have k3 : (k : Int) < 11 := by omega
  generalize (!gsB k) = G at *
  go_wp2_with fail
  go_ret
  exact ⟨ret_bool HF.out.symm, HE.out⟩
end Go.Proofs.YtanbdfeoijflaaaDoor
