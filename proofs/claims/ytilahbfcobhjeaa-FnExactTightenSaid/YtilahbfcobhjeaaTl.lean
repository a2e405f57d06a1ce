import Derived.Test.YtilahbfcobhjeaaTj
/-! Programs that are made tighter: ledOn of the program, given where the jumps end. -/
namespace Go.Proofs.Ytilahbfcobhjeaa
open Go.RowKit Go.Deep
set_option linter.unusedVariables false
set_option maxRecDepth 100000
set_option linter.unusedSimpArgs false

/-- Where the jumps end from a place, as the program tells it: -1 without an end. -/
def enF (l : List DIns) (k : Nat) : Int := match ldk l (l.length + 1) k with | some m => (m : Int) | none => -1
theorem enF_T (l : List DIns) (k : Nat) : enF l k ≠ -1 → enF l k = (ldT l k : Nat) := by
  unfold enF ldT
  cases ldk l (l.length + 1) k with
  | none => intro h; exact absurd rfl h
  | some m => intro _; rfl
theorem enF_no (l : List DIns) (k : Nat) : enF l k = -1 → ldT l k = k := by
  unfold enF ldT
  cases ldk l (l.length + 1) k with
  | none => intro _; rfl
  | some m => intro h; simp only at h; omega
/-- What jumpEnds answers. -/
def JeA (l : List DIns) (w : World) (e : Ending) (w' : World) : Prop := ∃ g, e = .returned (.slice (some ⟨g, 0, none⟩) l.length l.length) ∧ Below w.heap.size w w' ∧ IF w' g l.length (enF l) ∧ w.heap.size ≤ g
/-- What ledOn answers. -/
def LoA (l : List DIns) (w : World) (e : Ending) (w' : World) : Prop := ∃ g c, e = .returned (.slice (some ⟨g, 0, none⟩) l.length c) ∧ Below w.heap.size w w' ∧ XC w' g c (led l) ∧ w.heap.size ≤ g
theorem led_step {l : List DIns} {j : Nat} (hj : j < l.length) : ((led l).take j ++ l.drop j).set j (ldX l l[j]) = (led l).take (j + 1) ++ l.drop (j + 1) := by
  have hl : ((led l).take j).length = j := by rw [List.length_take, led_len]; omega
  rw [List.set_append_right _ _ (by omega), hl, Nat.sub_self, List.drop_eq_getElem_cons hj, List.set_cons_zero, led_take hj, List.append_assoc]
  rfl
theorem led_at {l : List DIns} {j : Nat} (hj : j < l.length) (h : j < ((led l).take j ++ l.drop j).length) : ((led l).take j ++ l.drop j)[j] = l[j] := by
  have hl : ((led l).take j).length = j := by rw [List.length_take, led_len]; omega
  rw [List.getElem_append_right (by omega)]
  simp only [hl, Nat.sub_self, List.getElem_drop, Nat.add_zero]
theorem led_same {l : List DIns} {j : Nat} (hj : j < l.length) (h : ldX l l[j] = l[j]) : (led l).take j ++ l.drop j = (led l).take (j + 1) ++ l.drop (j + 1) := by
  rw [led_take hj, h, List.append_assoc, List.singleton_append, ← List.drop_eq_getElem_cons hj]
theorem led_lenj {l : List DIns} {j : Nat} (hj : j ≤ l.length) : ((led l).take j ++ l.drop j).length = l.length := by
  rw [List.length_append, List.length_take, led_len, List.length_drop]; omega
set_option maxHeartbeats 12800000 in
theorem led69 {S : Nat → Prop} (l : List DIns) (v : Value) (w : World) (h : InsR w S l v) (h1 : 1 ≤ l.length) (hl : l.length ≤ 50000) (hin : ∀ i (hi : i < l.length), inB l.length l[i] = true)
    (hje : ∀ wq, Below w.heap.size w wq → Calls Try.prog 103 #[v] wq (JeA l wq)) : Calls Try.prog 69 #[v] w (LoA l w) := by
  have HCL : Hid (∀ wq, Below w.heap.size w wq → Calls Try.prog 104 #[v] wq fun e w' => ∃ g c, e = .returned (.slice (some ⟨g, 0, none⟩) l.length c) ∧ Below wq.heap.size wq w' ∧ XC w' g c l ∧ wq.heap.size ≤ g) := fun wq hb => clone104 l v wq (h.keep (fun b _ hlt => hb.block b hlt)) h1 hl
  obtain ⟨a, cap, b, off, rfl, hc, hm, ha, hcell⟩ := h
  obtain ⟨rfl, _⟩ := ha (by omega)
  have HC := (show Hid _ from hcell)
  have HIN := (show Hid _ from hin)
  have hz := zr65
  have HR := (show Hid _ from rows36 w)
  have HC1 := (show Hid _ from hje (w.alloc (.cells tbA 65)) (bel_alloc _ _))
  unfold JeA at HC1
  unfold maxLen at hm
  clear ha hje hcell hin
  go_enter Try.func69, Try.ntmps69
  go_wp2_with fail
  refine Calls.mono HR.out ?_
  rintro e w1 ⟨rfl, hw1⟩
  rw [hw1]
  clear hw1 w1 HR
  go_wp2_with fail
  refine Calls.mono HC1.out ?_
  rintro e w1 ⟨gE, rfl, hb1, hie, hgE⟩
  have hst := sto65g w1 w1.heap.size rfl
  have H1 := (show Hid (Below w.heap.size w (w1.alloc (.cells tbA 65)) ∧ TbL (w1.alloc (.cells tbA 65)) w1.heap.size ∧ IF (w1.alloc (.cells tbA 65)) gE l.length (enF l) ∧ gE < w1.heap.size ∧ w.heap.size ≤ gE) from ⟨bel_trans (bel_trans (bel_alloc _ _) hb1) (bel_alloc _ _), TbL.new w1, hie.still (bel_alloc _ _), hie.lt, by simp at hgE; omega⟩)
  have HC2 := (show Hid _ from HCL.out _ H1.out.1)
  clear hb1 hie hgE HC1 HCL
  go_wp2_with fail
  refine Calls.mono HC2.out ?_
  rintro e w2 ⟨gL, cL, rfl, hb2, hxc, hgL⟩
  have H2 := (show Hid (Below w.heap.size w w2 ∧ TbL w2 w1.heap.size ∧ IF w2 gE l.length (enF l) ∧ XC w2 gL cL l) from ⟨bel_trans H1.out.1 hb2, H1.out.2.1.still hb2, H1.out.2.2.1.still hb2, hxc⟩)
  have HG := (show Hid (w1.heap.size + 1 ≤ gL ∧ gE < w1.heap.size ∧ w.heap.size ≤ gE) from ⟨by simpa using hgL, H1.out.2.2.2⟩)
  have hcl := hxc.1
  have hcm := hxc.2.1
  unfold maxLen at hcm
  clear hb2 hxc hgL H1 HC2 hst hz
  generalize hgt : w1.heap.size = gt at *
  clear hgt
  go_wp2_with fail
  go_loopw [15] (fun i wr => ∃ j : Nat, i = .int .i64 j ∧ j ≤ l.length ∧ Hid (Below w.heap.size w wr ∧ TbL wr gt ∧ IF wr gE l.length (enF l) ∧ XC wr gL cL ((led l).take j ++ l.drop j))) (fun i _ => l.length - (intOf i).toNat)
  case atStart => exact ⟨0, rfl, Nat.zero_le _, H2.out.1, H2.out.2.1, H2.out.2.2.1, (show XC w2 gL cL ([] ++ l) from H2.out.2.2.2)⟩
  case round =>
    obtain ⟨j, rfl, hj, HJ⟩ := hrel
    obtain ⟨q1, q2, q3, q4⟩ := HJ.out
    by_cases hjl : j < l.length
    case neg =>
      obtain rfl : j = l.length := by omega
      have HE := (show Hid (LoA l w (.returned (.slice (some ⟨gL, 0, none⟩) l.length cL)) wr) from ⟨gL, cL, rfl, q1, by rw [List.drop_length, List.append_nil, List.take_of_length_le (by rw [led_len]; exact Nat.le_refl _)] at q4; exact q4, by have := HG.out; omega⟩)
      clear HJ q1 q2 q3 q4
      go_wp2_with fail
      go_ret
      exact HE.out
    case pos =>
      obtain ⟨c0, c1, c2⟩ := HC.out j hjl
      have hbb : b < w.heap.size := lt_of_cell c0
      have cw2 := c2
      rw [← q1.cell (lt_of_cell c0)] at c0
      rw [← q1.cell (lt_of_cell c1)] at c1
      rw [← q1.cell (lt_of_cell c2)] at c2
      obtain ⟨f1, f2, f3, f4, _, _⟩ := in_facts (HIN.out j hjl)
      have hlj : j < ((led l).take j ++ l.drop j).length := by rw [led_lenj hj]; exact hjl
      have hset := fun x => q4.setTo hlj x
      rw [led_at hjl] at hset
      have hsame := led_same (l := l) hjl
      have hstep := led_step (l := l) hjl
      have fz := q4.frozen (j * 3 + 2)
      have HXT := (show Hid (htB l[j].op = true → enF l l[j].to_.toNat ≠ -1 → ldX l l[j] = ⟨l[j].op, l[j].n, enF l l[j].to_.toNat⟩) from fun hh hn => by unfold ldX; rw [if_pos hh, enF_T _ _ hn])
      have HXS := (show Hid (htB l[j].op = true → 0 ≤ l[j].to_ → enF l l[j].to_.toNat = -1 → ldX l l[j] = l[j]) from fun hh h0 hn => by
        unfold ldX; rw [if_pos hh, enF_no _ _ hn, Int.toNat_of_nonneg h0])
      have HXN := (show Hid (¬ htB l[j].op = true → ldX l l[j] = l[j]) from fun hh => by unfold ldX; rw [if_neg hh])
      obtain ⟨o, ho⟩ : ∃ o : Nat, l[j].op = o := ⟨l[j].op.toNat, by omega⟩
      have ho10 : o ≤ 10 := by omega
      obtain ⟨_, _, r2, _, _⟩ := q2.row o ho10
      have hx2 := (q4.xr.cells hlj).2.2
      rw [led_at hjl] at hx2
      rw [ho] at c0 f4 HXT HXS HXN hset
      have hgLw : gL < wr.heap.size := q4.lt
      have hgtw : gt < wr.heap.size := q2.lt
      have HQ := (show Hid (Below w.heap.size w wr ∧ TbL wr gt ∧ IF wr gE l.length (enF l) ∧ XC wr gL cL ((led l).take j ++ l.drop j)) from ⟨q1, q2, q3, q4⟩)
      have HST := (show Hid _ from hset)
      have HSM := (show Hid _ from hsame)
      have HSP := (show Hid _ from hstep)
      clear HJ q1 q2 q4 hset hsame hstep f1 f2 ho HC HIN
      generalize ldX l l[j] = WX at *
      generalize hLJ : l[j] = LJ at *
      generalize hxn : LJ.n = xn at *
      generalize hxt : LJ.to_ = xt at *
      generalize htB (o : Int) = A at *
      cases A
      case false =>
        have HN := (show Hid (Below w.heap.size w (wr.alloc (.cells #[.int .i64 (o : Int), .int .i64 xn, .int .i64 xt] 57)) ∧ TbL (wr.alloc (.cells #[.int .i64 (o : Int), .int .i64 xn, .int .i64 xt] 57)) gt ∧ IF (wr.alloc (.cells #[.int .i64 (o : Int), .int .i64 xn, .int .i64 xt] 57)) gE l.length (enF l) ∧ XC (wr.alloc (.cells #[.int .i64 (o : Int), .int .i64 xn, .int .i64 xt] 57)) gL cL ((led l).take (j + 1) ++ l.drop (j + 1))) from ⟨bel_trans HQ.out.1 (bel_alloc _ _), HQ.out.2.1.still (bel_alloc _ _), HQ.out.2.2.1.still (bel_alloc _ _), by rw [← HSM.out (HXN.out (by decide))]; exact HQ.out.2.2.2.keep ((bel_alloc _ _).block gL hgLw)⟩)
        clear q3 fz hx2 f3 f4 HXT HXS HXN HST HSM HSP HQ hxn hxt hLJ
        go_wp2_with fail
        exact ⟨⟨j + 1, by go_num, by omega, HN.out⟩, by simp [intOf]; omega⟩
      case true =>
        have ft := f4 rfl
        obtain ⟨t, rfl⟩ : ∃ t : Nat, xt = t := ⟨xt.toNat, by omega⟩
        have htl : t < l.length := by omega
        have ci := q3.cell htl
        rw [Int.toNat_natCast] at HXT HXS
        have hgEw : gE < wr.heap.size := q3.lt
        generalize enF l t = E at *
        by_cases hE : E = -1
        case pos =>
          subst hE
          have HN := (show Hid (Below w.heap.size w (wr.alloc (.cells #[.int .i64 (o : Int), .int .i64 xn, .int .i64 (t : Int)] 57)) ∧ TbL (wr.alloc (.cells #[.int .i64 (o : Int), .int .i64 xn, .int .i64 (t : Int)] 57)) gt ∧ IF (wr.alloc (.cells #[.int .i64 (o : Int), .int .i64 xn, .int .i64 (t : Int)] 57)) gE l.length (enF l) ∧ XC (wr.alloc (.cells #[.int .i64 (o : Int), .int .i64 xn, .int .i64 (t : Int)] 57)) gL cL ((led l).take (j + 1) ++ l.drop (j + 1))) from ⟨bel_trans HQ.out.1 (bel_alloc _ _), HQ.out.2.1.still (bel_alloc _ _), HQ.out.2.2.1.still (bel_alloc _ _), by rw [← HSM.out (HXS.out rfl (by omega) rfl)]; exact HQ.out.2.2.2.keep ((bel_alloc _ _).block gL hgLw)⟩)
          clear q3 fz hx2 f3 f4 HXT HXS HXN HST HSM HSP HQ hxn hxt hLJ ft
          go_wp2_with fail
          exact ⟨⟨j + 1, by go_num, by omega, HN.out⟩, by simp [intOf]; omega⟩
        case neg =>
          have hEb : (E != -1) = true := by simpa using hE
          have hxc2 := HST.out E
          rw [← HXT.out rfl hE, HSP.out] at hxc2
          have hne1 : gL ≠ gt := by have := HG.out.1; omega
          have hne2 : gL ≠ gE := by have := HG.out; omega
          have HN := (show Hid (Below w.heap.size w ((wr.setCell ⟨gL, j * 3 + 2, none⟩ (.int .i64 E)).alloc (.cells #[.int .i64 (o : Int), .int .i64 xn, .int .i64 (t : Int)] 57)) ∧ TbL ((wr.setCell ⟨gL, j * 3 + 2, none⟩ (.int .i64 E)).alloc (.cells #[.int .i64 (o : Int), .int .i64 xn, .int .i64 (t : Int)] 57)) gt ∧ IF ((wr.setCell ⟨gL, j * 3 + 2, none⟩ (.int .i64 E)).alloc (.cells #[.int .i64 (o : Int), .int .i64 xn, .int .i64 (t : Int)] 57)) gE l.length (enF l) ∧ XC ((wr.setCell ⟨gL, j * 3 + 2, none⟩ (.int .i64 E)).alloc (.cells #[.int .i64 (o : Int), .int .i64 xn, .int .i64 (t : Int)] 57)) gL cL ((led l).take (j + 1) ++ l.drop (j + 1))) from ⟨bel_trans (HQ.out.1.setCell (by show _ ≤ gL; have := HG.out; omega) _) (bel_alloc _ _), (HQ.out.2.1.keep (blk_setCell_other _ _ _ _ (by show gt ≠ gL; exact hne1.symm))).still (bel_alloc _ _), (HQ.out.2.2.1.keep (blk_setCell_other _ _ _ _ (by show gE ≠ gL; exact hne2.symm))).still (bel_alloc _ _), hxc2.keep ((bel_alloc _ _).block gL (by simp; exact hgLw))⟩)
          clear q3 f3 f4 HXT HXS HXN HST HSM HSP HQ hxn hxt hLJ ft hE hxc2
          go_wp2_with fail
          exact ⟨⟨j + 1, by go_num, by omega, HN.out⟩, by simp [intOf]; omega⟩
end Go.Proofs.Ytilahbfcobhjeaa
