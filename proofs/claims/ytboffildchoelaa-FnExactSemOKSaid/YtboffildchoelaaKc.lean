import Derived.Test.YtboffildchoelaaKb
/-! The law: rules that came in are copied. -/
namespace Go.Proofs.Ytboffildchoelaa
open Go.RowKit Go.Deep Go.Lib Go.ChangeShapes Go.WideShapes
set_option linter.unusedVariables false
set_option maxRecDepth 100000
set_option linter.unusedSimpArgs false

set_option maxHeartbeats 1600000 in
theorem toRule65 (r : Rw) (v v' : Value) (w : World) (ht : Lies w (fun _ => True) r.left v) (ht' : Lies w (fun _ => True) r.right v') (hwt : r.left.wt ≤ 1048576) (hwt' : r.right.wt ≤ 1048576) :
    Calls Try.prog 35 #[.agg #[.string r.name, .string r.left.name, .string r.left.text, .bool r.left.leaf, v, .string r.right.name, .string r.right.text, .bool r.right.leaf, v']] w fun e w' => ∃ u u', e = .returned (.agg #[.string r.name, .string r.left.name, .string r.left.text, .bool r.left.leaf, u, .string r.right.name, .string r.right.text, .bool r.right.leaf, u']) ∧ Below w.heap.size w w' ∧ Lies w' (fun b => w.heap.size ≤ b) r.left u ∧ Lies w' (fun b => w.heap.size ≤ b) r.right u' := by
  obtain ⟨a1, m1, c1, rfl⟩ := ht.form
  obtain ⟨a2, m2, c2, rfl⟩ := ht'.form
  have HL := (show Hid (∀ wq : World, Below w.heap.size w wq → Calls Try.prog 36 #[r.left.val (.slice a1 m1 c1)] wq fun e w' => ∃ v', e = .returned (r.left.val v') ∧ Below wq.heap.size wq w' ∧ Lies w' (fun b => wq.heap.size ≤ b) r.left v') from fun wq hb => to_any r.left _ wq (ht.still hb) hwt)
  have HR := (show Hid (∀ wq : World, Below w.heap.size w wq → Calls Try.prog 36 #[r.right.val (.slice a2 m2 c2)] wq fun e w' => ∃ v', e = .returned (r.right.val v') ∧ Below wq.heap.size wq w' ∧ Lies w' (fun b => wq.heap.size ≤ b) r.right v') from fun wq hb => to_any r.right _ wq (ht'.still hb) hwt')
  simp only [Tr.val] at HL HR
  clear ht ht' hwt hwt'
  generalize r.name = x at *
  generalize r.left.name = n0 at *
  generalize r.left.text = x0 at *
  generalize r.left.leaf = l0 at *
  generalize r.right.name = n1 at *
  generalize r.right.text = x1 at *
  generalize r.right.leaf = l1 at *
  go_enter Try.func35, Try.ntmps35
  go_wp2_with fail
  refine Calls.mono (HL.out _ ?b1) ?_
  case b1 => exact ((bel_alloc _ _).alloc (by simp) _).alloc (by simp; omega) _
  rintro e w1 ⟨u1, rfl, hb1, ho1⟩
  obtain ⟨a3, m3, c3, rfl⟩ := ho1.form
  obtain ⟨hcc, hff⟩ := bcell hb1
  have hsz : w.heap.size + 3 ≤ w1.heap.size := by have := hb1.size; simp at this; omega
  have hbel : Below w.heap.size w w1 := (((bel_alloc _ _).alloc (by simp) _).alloc (by simp; omega) _).trans (hb1.mono (by simp; omega))
  have HB := (show Hid _ from hbel)
  have HO := (show Hid (Lies w1 (fun b => w.heap.size + 3 ≤ b) r.left (.slice a3 m3 c3)) from ho1.mono (fun b hb => by simpa using hb))
  clear hb1 ho1 hbel HL
  go_wp2_with fail
  refine Calls.mono (HR.out _ ?b2) ?_
  case b2 => exact (((HB.out.setCell (by simp; omega) _).setCell (by simp; omega) _).setCell (by simp; omega) _).setCell (by simp; omega) _
  rintro e w2 ⟨u2, rfl, hb2, ho2⟩
  obtain ⟨a4, m4, c4, rfl⟩ := ho2.form
  obtain ⟨hcd0, hfg0⟩ := bcell hb2
  have hcd := fun b o (h : b < w.heap.size + 1 + 1 + 1) => hcd0 b o (by simp; omega)
  have hfg := fun b o (h : b < w.heap.size + 1 + 1 + 1) => hfg0 b o (by simp; omega)
  clear hcd0 hfg0
  have hsz2 : w1.heap.size ≤ w2.heap.size := by have := hb2.size; simp at this; omega
  have HB2 := (show Hid (Below w.heap.size w w2) from (((((HB.out.setCell (by simp; omega) _).setCell (by simp; omega) _).setCell (by simp; omega) _).setCell (by simp; omega) _).trans (hb2.mono (by simp; omega))))
  have HO1 := (show Hid (Lies w2 (fun b => w.heap.size + 3 ≤ b) r.left (.slice a3 m3 c3)) from (lies_past (lies_past (lies_past (lies_past HO.out (by omega)) (by omega)) (by omega)) (by omega)).still hb2)
  have HO2 := (show Hid (Lies w2 (fun b => w.heap.size + 3 ≤ b) r.right (.slice a4 m4 c4)) from ho2.mono (fun b hb => by simp at hb; omega))
  clear hb2 ho2 HR HB HO
  go_wp2_with fail
  refine bodyPost_ret (v := .agg #[.string x, .string n0, .string x0, .bool l0, .slice a3 m3 c3, .string n1, .string x1, .bool l1, .slice a4 m4 c4]) (by simp [results, Try.results35, go_sem, hcc, hcd]) rfl ⟨_, _, rfl, ?_, ?_, ?_⟩
  · exact (((((((((((((HB2.out.setCell (by simp <;> omega) _).setCell (by simp <;> omega) _).setCell (by simp <;> omega) _).setCell (by simp <;> omega) _).setCell (by simp <;> omega) _).setCell (by simp <;> omega) _).setCell (by simp <;> omega) _).setCell (by simp <;> omega) _).setCell (by simp <;> omega) _).setCell (by simp <;> omega) _).setCell (by simp <;> omega) _).setCell (by simp <;> omega) _).setCell (by simp <;> omega) _)
  · exact (lies_past (lies_past (lies_past (lies_past (lies_past (lies_past (lies_past (lies_past (lies_past (lies_past (lies_past (lies_past (lies_past (HO1.out) (by omega)) (by omega)) (by omega)) (by omega)) (by omega)) (by omega)) (by omega)) (by omega)) (by omega)) (by omega)) (by omega)) (by omega)) (by omega)).mono (fun b hb => by omega)
  · exact (lies_past (lies_past (lies_past (lies_past (lies_past (lies_past (lies_past (lies_past (lies_past (lies_past (lies_past (lies_past (lies_past (HO2.out) (by omega)) (by omega)) (by omega)) (by omega)) (by omega)) (by omega)) (by omega)) (by omega)) (by omega)) (by omega)) (by omega)) (by omega)) (by omega)).mono (fun b hb => by omega)
/-- What the loop of toRwRuleS has made of the first j rules. -/
def MadeU (rl : List Rw) (g : Nat) (j : Nat) (wr : World) : Prop :=
  ∃ (f : Nat → Value), wr.rowIs g 44 (rl.length * 9) f ∧
    (∀ i (_ : i < j) (hi : i < rl.length), f (i * 9) = .string rl[i].name ∧ f (i * 9 + 1) = .string rl[i].left.name ∧ f (i * 9 + 2) = .string rl[i].left.text ∧ f (i * 9 + 3) = .bool rl[i].left.leaf ∧ f (i * 9 + 5) = .string rl[i].right.name ∧ f (i * 9 + 6) = .string rl[i].right.text ∧ f (i * 9 + 7) = .bool rl[i].right.leaf) ∧
    (∀ i (_ : i < j) (hi : i < rl.length), Lies wr (fun b => g < b) rl[i].left (f (i * 9 + 4))) ∧ ∀ i (_ : i < j) (hi : i < rl.length), Lies wr (fun b => g < b) rl[i].right (f (i * 9 + 8))
theorem madeU_step {rl : List Rw} {g j : Nat} {wr w1 : World} (hj : j < rl.length) (hM : MadeU rl g j wr) (hg : g < wr.heap.size) (hb1 : Below wr.heap.size wr w1) {v v' : Value} (hl : Lies w1 (fun b => wr.heap.size ≤ b) rl[j].left v) (hr : Lies w1 (fun b => wr.heap.size ≤ b) rl[j].right v') :
    MadeU rl g (j + 1) (((((((((w1.setCell ⟨g, j * 9, none⟩ (.string rl[j].name)).setCell ⟨g, j * 9 + 1, none⟩ (.string rl[j].left.name)).setCell ⟨g, j * 9 + 2, none⟩ (.string rl[j].left.text)).setCell ⟨g, j * 9 + 3, none⟩ (.bool rl[j].left.leaf)).setCell ⟨g, j * 9 + 4, none⟩ (v)).setCell ⟨g, j * 9 + 5, none⟩ (.string rl[j].right.name)).setCell ⟨g, j * 9 + 6, none⟩ (.string rl[j].right.text)).setCell ⟨g, j * 9 + 7, none⟩ (.bool rl[j].right.leaf)).setCell ⟨g, j * 9 + 8, none⟩ (v')) := by
  obtain ⟨f, hrow, hcs, hls, hrs⟩ := hM
  have hrow1 := hrow.of_block (hb1.block _ hrow.lt)
  have hne : ∀ i, ¬ i = j → ∀ m n, m < 9 → n < 9 → ¬ i * 9 + m = j * 9 + n := fun i e m n h1 h2 => by omega
  refine ⟨_, ((((((((hrow1.set _ _).set _ _).set _ _).set _ _).set _ _).set _ _).set _ _).set _ _).set _ _, fun i hi hk => ?_, fun i hi hk => ?_, fun i hi hk => ?_⟩
  · by_cases e : i = j
    · subst e; simp
    · obtain ⟨q0, q1, q2, q3, q5, q6, q7⟩ := hcs i (by omega) hk
      refine ⟨?_, ?_, ?_, ?_, ?_, ?_, ?_⟩
      · rw [if_neg (by omega), if_neg (by omega), if_neg (by omega), if_neg (by omega), if_neg (by omega), if_neg (by omega), if_neg (by omega), if_neg (by omega), if_neg (by omega)]; exact q0
      · rw [if_neg (by omega), if_neg (by omega), if_neg (by omega), if_neg (by omega), if_neg (by omega), if_neg (by omega), if_neg (by omega), if_neg (by omega), if_neg (by omega)]; exact q1
      · rw [if_neg (by omega), if_neg (by omega), if_neg (by omega), if_neg (by omega), if_neg (by omega), if_neg (by omega), if_neg (by omega), if_neg (by omega), if_neg (by omega)]; exact q2
      · rw [if_neg (by omega), if_neg (by omega), if_neg (by omega), if_neg (by omega), if_neg (by omega), if_neg (by omega), if_neg (by omega), if_neg (by omega), if_neg (by omega)]; exact q3
      · rw [if_neg (by omega), if_neg (by omega), if_neg (by omega), if_neg (by omega), if_neg (by omega), if_neg (by omega), if_neg (by omega), if_neg (by omega), if_neg (by omega)]; exact q5
      · rw [if_neg (by omega), if_neg (by omega), if_neg (by omega), if_neg (by omega), if_neg (by omega), if_neg (by omega), if_neg (by omega), if_neg (by omega), if_neg (by omega)]; exact q6
      · rw [if_neg (by omega), if_neg (by omega), if_neg (by omega), if_neg (by omega), if_neg (by omega), if_neg (by omega), if_neg (by omega), if_neg (by omega), if_neg (by omega)]; exact q7
  · by_cases e : i = j
    · subst e
      simp
      exact lies_setCell (lies_setCell (lies_setCell (lies_setCell (lies_setCell (lies_setCell (lies_setCell (lies_setCell (lies_setCell (hl.mono (fun b hb => by omega))))))))))
    · rw [if_neg (by omega), if_neg (by omega), if_neg (by omega), if_neg (by omega), if_neg (by omega), if_neg (by omega), if_neg (by omega), if_neg (by omega), if_neg (by omega)]
      exact lies_setCell (lies_setCell (lies_setCell (lies_setCell (lies_setCell (lies_setCell (lies_setCell (lies_setCell (lies_setCell ((hls i (by omega) hk).still hb1)))))))))
  · by_cases e : i = j
    · subst e
      simp
      exact lies_setCell (lies_setCell (lies_setCell (lies_setCell (lies_setCell (lies_setCell (lies_setCell (lies_setCell (lies_setCell (hr.mono (fun b hb => by omega))))))))))
    · rw [if_neg (by omega), if_neg (by omega), if_neg (by omega), if_neg (by omega), if_neg (by omega), if_neg (by omega), if_neg (by omega), if_neg (by omega), if_neg (by omega)]
      exact lies_setCell (lies_setCell (lies_setCell (lies_setCell (lies_setCell (lies_setCell (lies_setCell (lies_setCell (lies_setCell ((hrs i (by omega) hk).still hb1)))))))))
theorem madeU_rly {rl : List Rw} {g : Nat} {w : World} (h : MadeU rl g rl.length w) (hk : rl.length ≤ maxLen) (hx : ∀ i (hi : i < rl.length), rl[i].name.size ≤ maxLen) : RLy w rl (.slice (some ⟨g, 0, none⟩) rl.length rl.length) := by
  obtain ⟨f, hrow, hcs, hls, hrs⟩ := h
  refine ⟨_, _, g, 0, fun i => f (i * 9 + 4), fun i => f (i * 9 + 8), rfl, Nat.le_refl _, hk, fun _ => rfl, hx, fun i hi => ?_, fun i hi => (hls i hi hi).mono (fun _ _ => trivial), fun i hi => (hrs i hi hi).mono (fun _ _ => trivial)⟩
  obtain ⟨q0, q1, q2, q3, q5, q6, q7⟩ := hcs i hi hi
  rw [Nat.zero_add]
  exact ⟨by rw [hrow.cell (by omega), q0], by rw [hrow.cell (by omega), q1], by rw [hrow.cell (by omega), q2], by rw [hrow.cell (by omega), q3], hrow.cell (by omega), by rw [hrow.cell (by omega), q5], by rw [hrow.cell (by omega), q6], by rw [hrow.cell (by omega), q7], hrow.cell (by omega)⟩
theorem info98s : (Try.prog.info? 44).map (fun i => (i.zero, i.size, i.bytes)) = some (some (.agg #[.string ByteArray.empty, .string ByteArray.empty, .string ByteArray.empty, .bool false, .slice none 0 0, .string ByteArray.empty, .string ByteArray.empty, .bool false, .slice none 0 0]), 9, 144) := by kernel_rfl
/-- 'make([]RwRule, n)'. -/
theorem run_makeRules (n : Nat) (hn : n ≤ 1048576) (w : World) :
    (Instr.makeSlice 29 (.int .i64 (n : Int)) (.int .i64 (n : Int))).run Try.prog w = .ok (.slice (some ⟨w.heap.size, 0, none⟩) n n) (w.alloc (.cells (madeCells #[.string ByteArray.empty, .string ByteArray.empty, .string ByteArray.empty, .bool false, .slice none 0 0, .string ByteArray.empty, .string ByteArray.empty, .bool false, .slice none 0 0] (n * 9)) 44)) := by
  obtain ⟨i, hi, hz, hs, hb⟩ := info_parts info98s
  have hr := run_make (P := Try.prog) w 29 44 i _ Try.underlying29 hi hz .i64 .i64 n n (by omega) (Int.le_refl _) (by rw [hb]; omega) (by omega)
  simp only [Int.toNat_natCast, hs] at hr
  exact hr
set_option maxHeartbeats 1600000 in
theorem toRules28 (rl : List Rw) (v : Value) (w : World) (h : RLy w rl v) (hwt : rwt rl ≤ 1048576) :
    Calls Try.prog 18 #[v] w fun e w' => ∃ u, e = .returned u ∧ Below w.heap.size w w' ∧ RLy w' rl u := by
  obtain ⟨a, cap, b, off, sv, tv, rfl, hc, hm, ha, hx, hcell, hk, hk'⟩ := h
  have hlen : rl.length ≤ 1048576 := by unfold rwt at hwt; omega
  have HW := (show Hid (∀ i (hi : i < rl.length), rl[i].left.wt ≤ 1048576 ∧ rl[i].right.wt ≤ 1048576) from fun i hi => by
    have := rwL_mem rl i hi
    unfold rwt at hwt
    unfold rw1 at this
    omega)
  have HX := (show Hid _ from hx)
  clear hx hwt
  unfold maxLen at hm
  have HC := (show Hid _ from hcell); clear hcell
  have HK := (show Hid _ from hk); clear hk
  have HK' := (show Hid _ from hk'); clear hk'
  have HA := (show Hid _ from ha); clear ha
  have hmk := run_makeRules rl.length hlen
  go_enter Try.func18, Try.ntmps18
  go_wp2_with fail
  go_loopw [4] (fun i wr => ∃ j : Nat, j ≤ rl.length ∧ i = .int .i64 j ∧ Hid (Below w.heap.size w wr) ∧ Hid (MadeU rl w.heap.size j wr)) (fun i _ => rl.length - (intOf i).toNat)
  case atStart =>
    obtain ⟨f, hf⟩ := row_made w #[.string ByteArray.empty, .string ByteArray.empty, .string ByteArray.empty, .bool false, .slice none 0 0, .string ByteArray.empty, .string ByteArray.empty, .bool false, .slice none 0 0] (rl.length * 9) 44
    exact ⟨0, Nat.zero_le _, rfl, bel_alloc _ _, f, hf, fun i hi => absurd hi (Nat.not_lt_zero _), fun i hi => absurd hi (Nat.not_lt_zero _), fun i hi => absurd hi (Nat.not_lt_zero _)⟩
  case round =>
    obtain ⟨j, hj, rfl, HB, HM⟩ := hrel
    by_cases hlt : j < rl.length
    · have hbel := HB.out
      obtain rfl := HA.out (by omega)
      obtain ⟨c0, c1, c2, c3, c4, c5, c6, c7, c8⟩ := HC.out j hlt
      rw [← hbel.cell (lt_of_cell c0)] at c0
      rw [← hbel.cell (lt_of_cell c1)] at c1
      rw [← hbel.cell (lt_of_cell c2)] at c2
      rw [← hbel.cell (lt_of_cell c3)] at c3
      rw [← hbel.cell (lt_of_cell c4)] at c4
      rw [← hbel.cell (lt_of_cell c5)] at c5
      rw [← hbel.cell (lt_of_cell c6)] at c6
      rw [← hbel.cell (lt_of_cell c7)] at c7
      rw [← hbel.cell (lt_of_cell c8)] at c8
      obtain ⟨a4, l4, p4, e4⟩ := (HK.out j hlt).form
      obtain ⟨a5, l5, p5, e5⟩ := (HK'.out j hlt).form
      have HCL := (show Hid _ from toRule65 rl[j] (sv j) (tv j) wr ((HK.out j hlt).still hbel) ((HK'.out j hlt).still hbel) (HW.out j hlt).1 (HW.out j hlt).2)
      rw [e4] at c4 HCL
      rw [e5] at c8 HCL
      have q1 : (j : Int) < (rl.length : Int) := by omega
      clear hbel e4 e5
      go_wp2_with fail
      refine Calls.mono HCL.out ?_
      rintro e w1 ⟨u, u', rfl, hb1, hl1, hl2⟩
      clear c0 c1 c2 c3 c4 c5 c6 c7 c8
      obtain ⟨f, hrow, _⟩ := HM.out
      have hg := hrow.lt
      have hrow1 := hrow.of_block (hb1.block _ hrow.lt)
      have e0 := hrow1.cell (i := j * 9) (by omega)
      have z0 := hrow1.frozen (j * 9)
      have e1 := hrow1.cell (i := j * 9 + 1) (by omega)
      have z1 := hrow1.frozen (j * 9 + 1)
      have e2 := hrow1.cell (i := j * 9 + 2) (by omega)
      have z2 := hrow1.frozen (j * 9 + 2)
      have e3 := hrow1.cell (i := j * 9 + 3) (by omega)
      have z3 := hrow1.frozen (j * 9 + 3)
      have e4 := hrow1.cell (i := j * 9 + 4) (by omega)
      have z4 := hrow1.frozen (j * 9 + 4)
      have e5 := hrow1.cell (i := j * 9 + 5) (by omega)
      have z5 := hrow1.frozen (j * 9 + 5)
      have e6 := hrow1.cell (i := j * 9 + 6) (by omega)
      have z6 := hrow1.frozen (j * 9 + 6)
      have e7 := hrow1.cell (i := j * 9 + 7) (by omega)
      have z7 := hrow1.frozen (j * 9 + 7)
      have e8 := hrow1.cell (i := j * 9 + 8) (by omega)
      have z8 := hrow1.frozen (j * 9 + 8)
      obtain ⟨a1, l1, p1, rfl⟩ := hl1.form
      obtain ⟨a2, l2, p2, rfl⟩ := hl2.form
      have H1 := (show Hid _ from madeU_step hlt HM.out hg hb1 hl1 hl2)
      have HB2 := (show Hid _ from bel_trans HB.out hb1)
      clear hrow hrow1 hl1 hl2 hb1 HCL HB HM
      go_wp2_with fail
      exact ⟨⟨j + 1, by omega, by go_num, ((((((((HB2.out.setCell (Nat.le_refl _) _).setCell (Nat.le_refl _) _).setCell (Nat.le_refl _) _).setCell (Nat.le_refl _) _).setCell (Nat.le_refl _) _).setCell (Nat.le_refl _) _).setCell (Nat.le_refl _) _).setCell (Nat.le_refl _) _).setCell (Nat.le_refl _) _, H1⟩, by simp [intOf]; omega⟩
    · have q1 : ¬ ((j : Int) < (rl.length : Int)) := by omega
      go_wp2_with fail
      go_ret
      have : j = rl.length := by omega
      subst this
      exact ⟨_, rfl, HB.out, madeU_rly HM.out (by unfold maxLen; omega) HX.out⟩
end Go.Proofs.Ytboffildchoelaa
