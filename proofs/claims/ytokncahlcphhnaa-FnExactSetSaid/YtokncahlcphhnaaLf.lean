import Derived.Test.YtokncahlcphhnaaLe
import Derived.Test.YtokncahlcphhnaaTo
import Derived.Deep.RegionHeld3
/-! Layouts that are right: the program's LayoutOK. -/
namespace Go.Proofs.Ytokncahlcphhnaa
open Go.RowKit Go.Deep
set_option linter.unusedVariables false
set_option maxRecDepth 100000
set_option linter.unusedSimpArgs false

theorem row_congr {w : World} {b t n : Nat} {f g : Nat → Value} (h : w.rowIs b t n f) (e : ∀ i, i < n → f i = g i) : w.rowIs b t n g := by
  obtain ⟨c, h1, h2, h3⟩ := h
  exact ⟨c, h1, h2, fun i hi => (h3 i hi).trans (congrArg some (e i hi))⟩
theorem info4 : (Try.prog.info? 4).map (fun i => (i.zero, i.size, i.bytes)) = some (some (.bool false), 1, 1) := by kernel_rfl
theorem run_makeBools (n : Nat) (hn : n ≤ 1000) (w : World) :
    (Instr.makeSlice 29 (.int .i64 (n : Int)) (.int .i64 (n : Int))).run Try.prog w = .ok (.slice (some ⟨w.heap.size, 0, none⟩) n n) (w.alloc (.cells (madeCells #[.bool false] n) 4)) := by
  obtain ⟨i, hi, hzz⟩ := Option.map_eq_some_iff.1 info4
  simp only [Prod.mk.injEq] at hzz
  obtain ⟨hz, hs, hb⟩ := hzz
  have hr := run_make (P := Try.prog) w 29 4 i _ Try.underlying29 hi hz .i64 .i64 n n (by omega) (Int.le_refl _) (by rw [hb]; omega) (by omega)
  simp only [Int.toNat_natCast, hs, Nat.mul_one] at hr
  exact hr
theorem madeRow (n : Nat) (w : World) : (w.alloc (.cells (madeCells #[.bool false] n) 4)).rowIs w.heap.size 4 n (fun _ => .bool false) :=
  ⟨madeCells #[.bool false] n, blk_alloc_new _ _, by simp [madeCells], fun i hi => by simp [madeCells, hi, Nat.mod_one]⟩
/-- The row of what was met. -/
def TB (w : World) (B n : Nat) (M : List Int) : Prop := w.rowIs B 4 n (fun i => .bool (decide ((i : Int) ∈ M)))
theorem TB.new (w : World) (n : Nat) : TB (w.alloc (.cells (madeCells #[.bool false] n) 4)) w.heap.size n [] := row_congr (madeRow n w) (fun i hi => by simp)
theorem TB.still {w w' : World} {B n : Nat} {M : List Int} (h : TB w B n M) (hb : Below w.heap.size w w') : TB w' B n M := World.rowIs.of_block h (hb.block B (World.rowIs.lt h))
theorem TB.put {w : World} {B n k : Nat} {M : List Int} (h : TB w B n M) : TB (w.setCell ⟨B, k, none⟩ (.bool true)) B n (M ++ [(k : Int)]) := by
  refine row_congr (World.rowIs.set h k (.bool true)) (fun i hi => ?_)
  by_cases e : i = k
  · subst e; simp
  · have : ¬ (i : Int) = k := by omega
    simp [e, this]
theorem TB.row {w : World} {B n : Nat} {M : List Int} (h : TB w B n M) : BRow w B ((List.range n).map fun (i : Nat) => decide ((i : Int) ∈ M)) := by
  unfold BRow
  rw [List.length_map, List.length_range]
  exact row_congr h (fun i hi => by simp [List.getD_eq_getElem?_getD, hi])
/-- All is met, and once: it is right. -/
theorem once_all {M : List Int} (hn : M.Nodup) {i : Nat} (h : (i : Int) ∈ M) : M.count (i : Int) = 1 := by
  have h1 := List.nodup_iff_count.1 hn (i : Int)
  have h2 := List.count_pos_iff.2 h
  omega
theorem allT_mem {n m : Nat} {M : List Int} (hm : m ≤ n) : allT ((List.range n).map fun (i : Nat) => decide ((i : Int) ∈ M)) m = true ↔ ∀ i : Nat, i < m → (i : Int) ∈ M := by
  unfold allT
  rw [List.all_eq_true]
  constructor
  · intro h i hi
    have := h i (List.mem_range.2 hi)
    simpa [List.getD_eq_getElem?_getD, show i < n by omega] using this
  · intro h i hi
    have hi' := List.mem_range.1 hi
    simp [List.getD_eq_getElem?_getD, show i < n by omega, h i hi']
theorem nodup_next {M : List Int} {k : Int} (h : M.Nodup) (hk : k ∉ M) : (M ++ [k]).Nodup := by
  rw [List.nodup_append]
  exact ⟨h, by simp, fun a ha b hb => by simp at hb; subst hb; exact fun e => hk (e ▸ ha)⟩
set_option maxHeartbeats 6400000 in
theorem iLo9 {S : Nat → Prop} (l : List DLNode) (v : Value) (w : World) (h : LNodeR w S l v) :
    Calls Try.prog 9 #[v] w fun e w' => e = .returned (.bool (loB l)) ∧ Below w.heap.size w w' := by
  have HG := (show Hid _ from fun (hl : l.length ≤ 1000) => groups22 l v w h hl)
  have HAL := (show Hid _ from fun (w' : World) (hb : Below w.heap.size w w') => all23 l v w' (h.still hb))
  obtain ⟨a, cap, b, off, s3, rfl, hc, hm, ha, hcell, r3⟩ := h
  have HC := (show Hid _ from hcell); clear hcell
  have HA := (show Hid _ from ha); clear ha
  have HR3 := (show Hid _ from r3); clear r3
  unfold maxLen at hm
  have HNO := (show Hid (¬ LoP l → loB l = false) from lo_no)
  have HYES := (show Hid (LoP l → loB l = true) from (lo_iff l).2)
  generalize loB l = R at *
  by_cases h1 : l.length < 1
  · have HF := (show Hid (R = false) from HNO.out (fun h => by have := h.n1; omega))
    go_enter Try.func9, Try.ntmps9
    go_wp2_with fail
    go_ret
    exact ⟨ret_bool HF.out.symm, Below.refl _ _⟩
  by_cases h2 : 300 < l.length
  · have HF := (show Hid (R = false) from HNO.out (fun h => by have := h.n2; omega))
    go_enter Try.func9, Try.ntmps9
    go_wp2_with fail
    go_ret
    exact ⟨ret_bool HF.out.symm, Below.refl _ _⟩
  have HG1 := (show Hid _ from HG.out (by omega))
  clear HG
  by_cases h3 : 12 < (gpl l l.length).length
  · have HF := (show Hid (R = false) from HNO.out (fun h => by have := h.g; omega))
    clear HNO HYES
    have h3' : (12 : Int) < ((gpl l l.length).length : Int) := by omega
    clear h3
    generalize (gpl l l.length).length = G at *
    go_enter Try.func9, Try.ntmps9
    go_wp2_with fail
    refine Calls.mono HG1.out ?_
    rintro e w1 ⟨a1, c1, rfl, hb1, _⟩
    have HB1 := (show Hid _ from hb1); clear hb1
    go_wp2_with fail
    go_ret
    exact ⟨ret_bool HF.out.symm, HB1.out⟩
  have HG3 := (show Hid ((gpl l l.length).length ≤ 12) from by show _ ≤ _; omega)
  have h3' : ¬ (12 : Int) < ((gpl l l.length).length : Int) := by omega
  clear h3
  generalize (gpl l l.length).length = G at HG1 h3'
  have HND := (show Hid (l.all ndB = true → ∀ i (hi : i < l.length), ndB l[i] = true) from fun h i hi => List.all_eq_true.1 h _ (List.getElem_mem hi))
  have HNN := (show Hid (l.all ndB = false → ¬ LoP l) from fun h hp => by
    obtain ⟨x, hx, hx2⟩ := List.all_eq_false.1 h
    obtain ⟨i, hi, rfl⟩ := List.mem_iff_getElem.1 hx
    exact hx2 (hp.nd i hi))
  generalize l.all ndB = A at *
  cases A
  · have HF := (show Hid (R = false) from HNO.out (HNN.out rfl))
    clear HNO HYES HND HNN
    go_enter Try.func9, Try.ntmps9
    go_wp2_with fail
    refine Calls.mono HG1.out ?_
    rintro e w1 ⟨a1, c1, rfl, hb1, _⟩
    have HB1 := (show Hid _ from hb1); clear hb1
    go_wp2_with fail
    refine Calls.mono (HAL.out _ HB1.out) ?_
    rintro e w2 ⟨rfl, hb2⟩
    have HB2 := (show Hid _ from bel_trans HB1.out hb2); clear hb2
    go_wp2_with fail
    go_ret
    exact ⟨ret_bool HF.out.symm, HB2.out⟩
  have HN1 := (show Hid (∀ i (hi : i < l.length), ndB l[i] = true) from HND.out rfl)
  clear HND HNN
  go_enter Try.func9, Try.ntmps9
  go_wp2_with fail
  refine Calls.mono HG1.out ?_
  rintro e w1 ⟨a1, c1, rfl, hb1, _⟩
  have HB1 := (show Hid _ from hb1); clear hb1
  go_wp2_with fail
  refine Calls.mono (HAL.out _ HB1.out) ?_
  rintro e w2 ⟨rfl, hb2⟩
  have HB2 := (show Hid _ from bel_trans HB1.out hb2); clear hb2 HB1 HAL HG1
  have hmk := run_makeBools l.length (by omega)
  have HS0 := (show Hid (Sf l 0 0 ∧ (mt l 0 0).Nodup) from ⟨Sf.zero l, by simp [mt_zero, kal]⟩)
  have HT0 := (show Hid (Below w.heap.size w (w2.alloc (.cells (madeCells #[.bool false] l.length) 4)) ∧ TB (w2.alloc (.cells (madeCells #[.bool false] l.length) 4)) w2.heap.size l.length (mt l 0 0)) from
    ⟨HB2.out.alloc HB2.out.size _, by rw [mt_zero]; simpa [kal] using TB.new w2 l.length⟩)
  have HSZ := (show Hid (w.heap.size ≤ w2.heap.size) from HB2.out.size)
  clear hm
  go_wp2_with fail
  go_loopw [32] (fun i wr => ∃ j : Nat, i = .int .i64 j ∧ j ≤ l.length ∧ Hid (Sf l j 0 ∧ (mt l j 0).Nodup) ∧ Hid (Below w.heap.size w wr ∧ TB wr w2.heap.size l.length (mt l j 0))) (fun i _ => l.length - (intOf i).toNat)
  case atStart => exact ⟨0, rfl, Nat.zero_le _, HS0, HT0⟩
  case round =>
    obtain ⟨j, rfl, hj, HSF, HTB⟩ := hrel
    clear HS0 HT0 HB2 hmk
    by_cases hjl : j < l.length
    · obtain ⟨rfl, _⟩ := HA.out (by omega)
      obtain ⟨c0, c1, c2, c3, -⟩ := HC.out j hjl
      have hbel := HTB.out.1
      rw [← hbel.cell (lt_of_cell c0)] at c0
      rw [← hbel.cell (lt_of_cell c1)] at c1
      rw [← hbel.cell (lt_of_cell c2)] at c2
      rw [← hbel.cell (lt_of_cell c3)] at c3
      obtain ⟨ak, ck, bk, ok, ek, hck, hmk, hak, hkc⟩ := HR3.out j hjl
      rw [ek] at c3
      clear ek
      have HAK := (show Hid _ from hak); clear hak
      have HKC := (show Hid _ from hkc); clear hkc
      unfold maxLen at hmk
      generalize l[j].kind = y0 at *
      generalize l[j].s = y1 at *
      generalize l[j].n = y2 at *
      have HTI := (show Hid (Below w.heap.size w (wr.alloc (.cells #[.int .i64 y0, .string y1, .int .i64 y2, .slice ak l[j].kids.length ck] 44)) ∧ TB (wr.alloc (.cells #[.int .i64 y0, .string y1, .int .i64 y2, .slice ak l[j].kids.length ck] 44)) w2.heap.size l.length (mt l j 0)) from
        ⟨hbel.alloc hbel.size _, HTB.out.2.still (bel_alloc _ _)⟩)
      have HSL := (show Hid (Sf l j l[j].kids.length ∧ (mt l j l[j].kids.length).Nodup → Sf l (j + 1) 0 ∧ (mt l (j + 1) 0).Nodup) from fun h => ⟨Sf.line hjl h.1, by rw [mt_zero, ← mt_end hjl]; exact h.2⟩)
      have HTL := (show Hid (∀ w' : World, TB w' w2.heap.size l.length (mt l j l[j].kids.length) → TB w' w2.heap.size l.length (mt l (j + 1) 0)) from fun w' h => by rw [mt_zero, ← mt_end hjl]; exact h)
      clear hbel HTB
      go_wp2_with fail
      go_loopw [40] (fun i wr => ∃ q : Nat, i = .int .i64 q ∧ q ≤ l[j].kids.length ∧ Hid (Sf l j q ∧ (mt l j q).Nodup) ∧ Hid (Below w.heap.size w wr ∧ TB wr w2.heap.size l.length (mt l j q))) (fun i _ => l[j].kids.length - (intOf i).toNat)
      case atStart => exact ⟨0, rfl, Nat.zero_le _, HSF, HTI⟩
      case round =>
        obtain ⟨q, rfl, hq, HSQ, HTQ⟩ := hrel
        clear HTI c0 c1 c2 c3 HSF
        by_cases hql : q < l[j].kids.length
        · obtain ⟨rfl, _⟩ := HAK.out (by omega)
          have k0 := HKC.out q hql
          have hbel := HTQ.out.1
          rw [← hbel.cell (lt_of_cell k0)] at k0
          have HRN := (show Hid (¬ (0 ≤ l[j].kids[q] ∧ l[j].kids[q] < (j : Int)) → R = false) from fun h => HNO.out (range_no hjl hql h))
          have HTN := (show Hid (0 ≤ l[j].kids[q] → l[j].kids[q] < (j : Int) → l[j].kids[q] ∈ mt l j q → R = false) from fun h1 h2 h3 => HNO.out (twice_no hjl hql h1 h2 h3))
          have HNX := (show Hid (0 ≤ l[j].kids[q] → l[j].kids[q] < (j : Int) → ¬ l[j].kids[q] ∈ mt l j q → Sf l j (q + 1) ∧ (mt l j (q + 1)).Nodup) from fun h1 h2 h3 =>
            ⟨HSQ.out.1.next hjl hql h1 h2, by rw [mt_next hjl hql]; exact nodup_next HSQ.out.2 h3⟩)
          have HMX := (show Hid (mt l j (q + 1) = mt l j q ++ [l[j].kids[q]]) from mt_next hjl hql)
          generalize l[j].kids[q] = k at *
          clear hbel
          by_cases k1 : k < 0
          · have HF := (show Hid (R = false) from HRN.out (by omega))
            clear HRN HTN HNX
            have HBW := (show Hid _ from HTQ.out.1)
            go_wp2_with fail
            go_ret
            exact ⟨ret_bool HF.out.symm, HBW.out⟩
          by_cases k2 : (j : Int) ≤ k
          · have HF := (show Hid (R = false) from HRN.out (by omega))
            clear HRN HTN HNX
            have HBW := (show Hid _ from HTQ.out.1)
            go_wp2_with fail
            go_ret
            exact ⟨ret_bool HF.out.symm, HBW.out⟩
          obtain ⟨kn, rfl⟩ : ∃ kn : Nat, k = (kn : Int) := ⟨k.toNat, by omega⟩
          have hkl : kn < l.length := by omega
          have t0 : wr.cell? ⟨w2.heap.size, kn, none⟩ = some (.bool (decide ((kn : Int) ∈ mt l j q))) := World.rowIs.cell HTQ.out.2 hkl
          have t1 : wr.frozen? ⟨w2.heap.size, kn, none⟩ = false := World.rowIs.frozen HTQ.out.2 kn
          by_cases k3 : (kn : Int) ∈ mt l j q
          · have HF := (show Hid (R = false) from HTN.out (by omega) (by omega) k3)
            rw [decide_eq_true k3] at t0
            clear HRN HTN HNX k3
            have HBW := (show Hid _ from HTQ.out.1)
            go_wp2_with fail
            go_ret
            exact ⟨ret_bool HF.out.symm, HBW.out⟩
          · have HSN := (show Hid _ from HNX.out (by omega) (by omega) k3)
            rw [decide_eq_false k3] at t0
            have HTN2 := (show Hid (Below w.heap.size w (wr.setCell ⟨w2.heap.size, kn, none⟩ (.bool true)) ∧ TB (wr.setCell ⟨w2.heap.size, kn, none⟩ (.bool true)) w2.heap.size l.length (mt l j (q + 1))) from
              ⟨HTQ.out.1.setCell HSZ.out _, by rw [HMX.out]; exact HTQ.out.2.put⟩)
            clear HRN HTN HNX k3 HTQ HSQ
            go_wp2_with fail
            exact ⟨⟨q + 1, by go_num, by omega, HSN, HTN2⟩, by simp [intOf]; omega⟩
        · obtain rfl : q = l[j].kids.length := by omega
          have HS2 := (show Hid _ from HSL.out HSQ.out)
          have HT2 := (show Hid (Below w.heap.size w wr ∧ _) from ⟨HTQ.out.1, HTL.out _ HTQ.out.2⟩)
          clear HSQ HTQ HSL HTL
          go_wp2_with fail
          exact ⟨⟨j + 1, by go_num, by omega, HS2, HT2⟩, by simp [intOf]; omega⟩
    · obtain rfl : j = l.length := by omega
      have HK := (show Hid (mt l l.length 0 = kal l) from by show _ = _; rw [mt_zero, List.take_length])
      have HCN := (show Hid _ from cont25 w2.heap.size (l.length - 1) l.length _ (by simp) (by simp; omega) wr HTB.out.2.row)
      have HRR := (show Hid (R = allT ((List.range l.length).map fun (i : Nat) => decide ((i : Int) ∈ mt l l.length 0)) (l.length - 1)) from by
        show R = _
        cases hT : allT ((List.range l.length).map fun (i : Nat) => decide ((i : Int) ∈ mt l l.length 0)) (l.length - 1)
        · refine HNO.out (fun hp => ?_)
          have h5 := (allT_mem (n := l.length) (m := l.length - 1) (M := mt l l.length 0) (by omega)).2 (fun i hi => by
            rw [HK.out]
            exact List.count_pos_iff.1 (by rw [hp.on i (by omega)]; omega))
          rw [hT] at h5
          cases h5
        · refine HYES.out ?_
          have h5 := (allT_mem (by omega)).1 hT
          exact lo_end (by omega) (by omega) (by exact HG3.out) HN1.out HSF.out.1 (fun i hi => by
            have h6 := h5 i (by omega)
            rw [HK.out] at h6
            exact once_all (by rw [← HK.out]; exact HSF.out.2) h6))
      have HBW := (show Hid _ from HTB.out.1)
      generalize allT ((List.range l.length).map fun (i : Nat) => decide ((i : Int) ∈ mt l l.length 0)) (l.length - 1) = A at *
      clear HNO HYES HK HSF HTB HC HA HR3
      go_wp2_with fail
      refine Calls.mono HCN.out ?_
      rintro e w4 ⟨rfl, rfl⟩
      cases A
      · go_wp2_with fail
        go_ret
        exact ⟨ret_bool HRR.out.symm, HBW.out⟩
      · go_wp2_with fail
        go_ret
        exact ⟨ret_bool HRR.out.symm, HBW.out⟩
end Go.Proofs.Ytokncahlcphhnaa
