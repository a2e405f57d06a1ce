import Derived.Test.YtokncahlcphhnaaSz
namespace Go.Proofs.Ytokncahlcphhnaa
open Go.RowKit Go.Deep
set_option linter.unusedVariables false
set_option maxRecDepth 100000
set_option linter.unusedSimpArgs false

theorem info3 : (Try.prog.info? 3).map (fun i => (i.zero, i.size, i.bytes)) = some (some (.int .i64 0), 1, 8) := by kernel_rfl
theorem run_makeInts (n : Nat) (hn : n ≤ 1048576) (w : World) :
    (Instr.makeSlice 39 (.int .i64 (n : Int)) (.int .i64 (n : Int))).run Try.prog w = .ok (.slice (some ⟨w.heap.size, 0, none⟩) n n) (w.alloc (.cells (madeCells #[.int .i64 0] (n)) 3)) := by
  obtain ⟨i, hi, hzz⟩ := Option.map_eq_some_iff.1 info3
  simp only [Prod.mk.injEq] at hzz
  obtain ⟨hz, hs, hb⟩ := hzz
  have hr := run_make (P := Try.prog) w 39 3 i _ Try.underlying39 hi hz .i64 .i64 n n (by omega) (Int.le_refl _) (by rw [hb]; omega) (by omega)
  simp only [Int.toNat_natCast, hs, Nat.mul_one] at hr
  exact hr
set_option maxHeartbeats 3200000 in
theorem toInts_any {S : Nat → Prop} (l : List Int) (v : Value) (w : World) (h : Ints w S l v) (hsm : Ints.Sm l) :
    Calls Try.prog 34 #[v] w fun e w' => ∃ v', e = .returned v' ∧ Below w.heap.size w w' ∧ IntsO w' (fun b => w.heap.size ≤ b) l v' := by
  obtain ⟨a, cap, b, off, rfl, hc, hm, ha, hcell⟩ := h
  have HC := (show Hid _ from hcell); clear hcell
  have HA := (show Hid _ from ha); clear ha
  have hlen : l.length ≤ 1048576 := hsm
  clear hsm
  unfold maxLen at hm
  have hmk := run_makeInts l.length hlen
  go_enter Try.func34, Try.ntmps34
  go_wp2_with fail
  go_loopw [4] (fun i wr => ∃ j : Nat, j ≤ l.length ∧ i = .int .i64 j ∧ Below w.heap.size w wr ∧ Hid (∃ f, wr.rowIs w.heap.size 3 (l.length) f ∧ ∀ i (_ : i < j) (hi : i < l.length), (f (i) = .int .i64 l[i]))) (fun i _ => l.length - (intOf i).toNat)
  case atStart =>
    obtain ⟨f, hf⟩ := row_made w #[.int .i64 0] (l.length) 3
    exact ⟨0, Nat.zero_le _, rfl, bel_alloc _ _, f, hf, fun i hi => absurd hi (Nat.not_lt_zero _)⟩
  case round =>
    obtain ⟨j, hj, rfl, hbel, HM⟩ := hrel
    by_cases hlt : j < l.length
    · obtain ⟨rfl, _⟩ := HA.out (by omega)
      have c0 := HC.out j (by omega)
      rw [← hbel.cell (lt_of_cell c0)] at c0
      obtain ⟨f, hrow, hf⟩ := HM.out
      have hg := World.rowIs.lt hrow
      have hrow1 := hrow
      have hbw := hbel
      have e0 := hrow1.cell (i := j) (by omega)
      have z0 := hrow1.frozen (j)
      have hf1 : ∀ i (_ : i < j) (hi : i < l.length), (f (i) = .int .i64 l[i]) := hf
      have HN := (show Hid _ from (⟨hrow1, hf1⟩ : _ ∧ _)); clear hrow hf hrow1 hf1 hg HM 
      go_wp2_with fail
      refine ⟨⟨j + 1, by omega, by go_num, (Below.setCell hbw (Nat.le_refl _) _), _, (World.rowIs.set HN.out.1 (j) _), fun i hi hl => ?_⟩, by simp [intOf]; omega⟩
      by_cases e : i = j
      · subst e
        simp
      · have g0 := HN.out.2 i (by omega) hl
        exact by rw [if_neg (by omega)]; exact g0
    · go_wp2_with fail
      go_ret
      obtain ⟨f, hrow, hf⟩ := HM.out
      exact ⟨_, rfl, hbel, w.heap.size, f, rfl, Nat.le_refl _, hlen, hrow, fun i hi => hf i (by omega) hi⟩
set_option maxHeartbeats 6400000 in
theorem toLNode_any {S : Nat → Prop} (t : DLNode) (v3 : Value) (w : World) (h : DLNodeL w S t v3) (hsm : t.Sm) :
    Calls Try.prog 21 #[.agg #[.int .i64 t.kind, .string t.s, .int .i64 t.n, v3]] w fun e w' => ∃ u3, e = .returned (.agg #[.int .i64 t.kind, .string t.s, .int .i64 t.n, u3]) ∧ Below w.heap.size w w' ∧ DLNodeO w' (fun b => w.heap.size ≤ b) t u3 := by
  have HF3 := (show Hid _ from fun (w' : World) (hb : Below w.heap.size w w') => toInts_any t.kids v3 w' (h.kids.still hb) hsm.kids)
  obtain ⟨a3, p3, rfl, _⟩ := h.kids.form
  clear h hsm
  have hbP := Box.new w 41 [.int .i64 t.kind, .string t.s, .int .i64 t.n, .slice a3 t.kids.length p3]
  have hbR := Box.new (w.alloc (.cells ([.int .i64 t.kind, .string t.s, .int .i64 t.n, .slice a3 t.kids.length p3] : List Value).toArray 41)) 44 [.int .i64 0, .string ByteArray.empty, .int .i64 0, .slice none 0 0]
  have hbO := Box.new ((w.alloc (.cells ([.int .i64 t.kind, .string t.s, .int .i64 t.n, .slice a3 t.kids.length p3] : List Value).toArray 41)).alloc (.cells ([.int .i64 0, .string ByteArray.empty, .int .i64 0, .slice none 0 0] : List Value).toArray 44)) 44 [.int .i64 t.kind, .string t.s, .int .i64 t.n, .slice none 0 0]
  simp only [World.size_alloc] at hbR hbO
  have hz : (((w.alloc (.cells ([.int .i64 t.kind, .string t.s, .int .i64 t.n, .slice a3 t.kids.length p3] : List Value).toArray 41)).alloc (.cells ([.int .i64 0, .string ByteArray.empty, .int .i64 0, .slice none 0 0] : List Value).toArray 44)).alloc (.cells ([.int .i64 t.kind, .string t.s, .int .i64 t.n, .slice none 0 0] : List Value).toArray 44)).heap.size = w.heap.size + 3 := by simp
  have HB := (show Hid _ from (⟨(hbP.still (bel_alloc _ _)).still (bel_alloc _ _), hbR.still (bel_alloc _ _), hbO, bel3 _ _ _ _, hz⟩ : Box (((w.alloc (.cells ([.int .i64 t.kind, .string t.s, .int .i64 t.n, .slice a3 t.kids.length p3] : List Value).toArray 41)).alloc (.cells ([.int .i64 0, .string ByteArray.empty, .int .i64 0, .slice none 0 0] : List Value).toArray 44)).alloc (.cells ([.int .i64 t.kind, .string t.s, .int .i64 t.n, .slice none 0 0] : List Value).toArray 44)) w.heap.size 41 [.int .i64 t.kind, .string t.s, .int .i64 t.n, .slice a3 t.kids.length p3] ∧ Box (((w.alloc (.cells ([.int .i64 t.kind, .string t.s, .int .i64 t.n, .slice a3 t.kids.length p3] : List Value).toArray 41)).alloc (.cells ([.int .i64 0, .string ByteArray.empty, .int .i64 0, .slice none 0 0] : List Value).toArray 44)).alloc (.cells ([.int .i64 t.kind, .string t.s, .int .i64 t.n, .slice none 0 0] : List Value).toArray 44)) (w.heap.size + 1) 44 [.int .i64 0, .string ByteArray.empty, .int .i64 0, .slice none 0 0] ∧ Box (((w.alloc (.cells ([.int .i64 t.kind, .string t.s, .int .i64 t.n, .slice a3 t.kids.length p3] : List Value).toArray 41)).alloc (.cells ([.int .i64 0, .string ByteArray.empty, .int .i64 0, .slice none 0 0] : List Value).toArray 44)).alloc (.cells ([.int .i64 t.kind, .string t.s, .int .i64 t.n, .slice none 0 0] : List Value).toArray 44)) (w.heap.size + 1 + 1) 44 [.int .i64 t.kind, .string t.s, .int .i64 t.n, .slice none 0 0] ∧ Below w.heap.size w (((w.alloc (.cells ([.int .i64 t.kind, .string t.s, .int .i64 t.n, .slice a3 t.kids.length p3] : List Value).toArray 41)).alloc (.cells ([.int .i64 0, .string ByteArray.empty, .int .i64 0, .slice none 0 0] : List Value).toArray 44)).alloc (.cells ([.int .i64 t.kind, .string t.s, .int .i64 t.n, .slice none 0 0] : List Value).toArray 44)) ∧ (((w.alloc (.cells ([.int .i64 t.kind, .string t.s, .int .i64 t.n, .slice a3 t.kids.length p3] : List Value).toArray 41)).alloc (.cells ([.int .i64 0, .string ByteArray.empty, .int .i64 0, .slice none 0 0] : List Value).toArray 44)).alloc (.cells ([.int .i64 t.kind, .string t.s, .int .i64 t.n, .slice none 0 0] : List Value).toArray 44)).heap.size = w.heap.size + 3))
  clear hbP hbR hbO hz
  go_enter Try.func21, Try.ntmps21
  go_wp2_with fail
  refine Calls.mono (HF3.out _ HB.out.2.2.2.1) ?_
  rintro e w3 ⟨u3, rfl, hb3, ho3⟩
  obtain ⟨au3, cu3, rfl, _⟩ := ho3.form
  have hq3 : w.heap.size + 3 ≤ w3.heap.size := by have h1 := hb3.size; simp only [World.size_alloc] at h1; omega
  have HN3 := (show Hid _ from (⟨HB.out.1.still hb3, HB.out.2.1.still hb3, HB.out.2.2.1.still hb3, bel_trans HB.out.2.2.2.1 hb3, ho3.mono (fun b hb => by have h1 : _ ≤ b := hb; simp only [World.size_alloc] at h1; show w.heap.size + 3 ≤ b; omega)⟩ : Box w3 w.heap.size 41 [.int .i64 t.kind, .string t.s, .int .i64 t.n, .slice a3 t.kids.length p3] ∧ Box w3 (w.heap.size + 1) 44 [.int .i64 0, .string ByteArray.empty, .int .i64 0, .slice none 0 0] ∧ Box w3 (w.heap.size + 1 + 1) 44 [.int .i64 t.kind, .string t.s, .int .i64 t.n, .slice none 0 0] ∧ Below w.heap.size w w3 ∧ IntsO w3 (fun b => w.heap.size + 3 ≤ b) t.kids (.slice au3 t.kids.length cu3)))
  clear hb3 ho3
  have e3 : w3.cell? ⟨w.heap.size + 1 + 1, 3, none⟩ = some (.slice none 0 0) := HN3.out.2.2.1.cell 3 (by simp)
  have z3 := HN3.out.2.2.1.frozen 3
  have y0 : w3.cell? ⟨w.heap.size + 1, 0, none⟩ = some (.int .i64 0) := HN3.out.2.1.cell 0 (by simp)
  have f0 := HN3.out.2.1.frozen 0
  have y1 : w3.cell? ⟨w.heap.size + 1, 1, none⟩ = some (.string ByteArray.empty) := HN3.out.2.1.cell 1 (by simp)
  have f1 := HN3.out.2.1.frozen 1
  have y2 : w3.cell? ⟨w.heap.size + 1, 2, none⟩ = some (.int .i64 0) := HN3.out.2.1.cell 2 (by simp)
  have f2 := HN3.out.2.1.frozen 2
  have y3 : w3.cell? ⟨w.heap.size + 1, 3, none⟩ = some (.slice none 0 0) := HN3.out.2.1.cell 3 (by simp)
  have f3 := HN3.out.2.1.frozen 3
  have e0 : w3.cell? ⟨w.heap.size + 1 + 1, 0, none⟩ = some (.int .i64 t.kind) := HN3.out.2.2.1.cell 0 (by simp)
  have e1 : w3.cell? ⟨w.heap.size + 1 + 1, 1, none⟩ = some (.string t.s) := HN3.out.2.2.1.cell 1 (by simp)
  have e2 : w3.cell? ⟨w.heap.size + 1 + 1, 2, none⟩ = some (.int .i64 t.n) := HN3.out.2.2.1.cell 2 (by simp)
  go_wp2_with fail
  refine bodyPost_ret (v := .agg #[.int .i64 t.kind, .string t.s, .int .i64 t.n, .slice au3 t.kids.length cu3]) (by simp [results, Try.results21, go_sem, y0, y1, y2, y3]) rfl ⟨_, rfl, ?_, ⟨?_⟩⟩
  · repeat (refine Below.setCell ?_ (by dsimp only; omega) _)
    exact HN3.out.2.2.2.1
  · refine (IntsO.keep HN3.out.2.2.2.2 (fun b hb _ => ?_)).mono (fun b hb => by have hb2 : w.heap.size + 3 ≤ b := hb; show w.heap.size ≤ b; omega)
    have hb2 : w.heap.size + 3 ≤ b := hb
    repeat rw [blk_setCell_other _ _ _ _ (by dsimp only; omega)]
theorem info44 : (Try.prog.info? 44).map (fun i => (i.zero, i.size, i.bytes)) = some (some (.agg #[.int .i64 0, .string ByteArray.empty, .int .i64 0, .slice none 0 0]), 4, 56) := by kernel_rfl
theorem run_makeLNodeR (n : Nat) (hn : n ≤ 1048576) (w : World) :
    (Instr.makeSlice 25 (.int .i64 (n : Int)) (.int .i64 (n : Int))).run Try.prog w = .ok (.slice (some ⟨w.heap.size, 0, none⟩) n n) (w.alloc (.cells (madeCells #[.int .i64 0, .string ByteArray.empty, .int .i64 0, .slice none 0 0] (n * 4)) 44)) := by
  obtain ⟨i, hi, hzz⟩ := Option.map_eq_some_iff.1 info44
  simp only [Prod.mk.injEq] at hzz
  obtain ⟨hz, hs, hb⟩ := hzz
  have hr := run_make (P := Try.prog) w 25 44 i _ Try.underlying25 hi hz .i64 .i64 n n (by omega) (Int.le_refl _) (by rw [hb]; omega) (by omega)
  simp only [Int.toNat_natCast, hs] at hr
  exact hr
set_option maxHeartbeats 3200000 in
theorem toLNodeR_any {S : Nat → Prop} (l : List DLNode) (v : Value) (w : World) (h : LNodeR w S l v) (hsm : LNodeR.Sm l) :
    Calls Try.prog 8 #[v] w fun e w' => ∃ v', e = .returned v' ∧ Below w.heap.size w w' ∧ LNodeRO w' (fun b => w.heap.size ≤ b) l v' := by
  obtain ⟨a, cap, b, off, s3, rfl, hc, hm, ha, hcell, r3⟩ := h
  have HC := (show Hid _ from hcell); clear hcell
  have HA := (show Hid _ from ha); clear ha
  have HR3 := (show Hid _ from r3); clear r3
  have hlen : l.length ≤ 1048576 := hsm.1
  have HSM := (show Hid _ from hsm.2)
  clear hsm
  unfold maxLen at hm
  have hmk := run_makeLNodeR l.length hlen
  go_enter Try.func8, Try.ntmps8
  go_wp2_with fail
  go_loopw [4] (fun i wr => ∃ j : Nat, j ≤ l.length ∧ i = .int .i64 j ∧ Below w.heap.size w wr ∧ Hid (∃ f, wr.rowIs w.heap.size 44 (l.length * 4) f ∧ ∀ i (_ : i < j) (hi : i < l.length), (f (i * 4) = .int .i64 l[i].kind ∧ f (i * 4 + 1) = .string l[i].s ∧ f (i * 4 + 2) = .int .i64 l[i].n) ∧ IntsO wr (fun b => w.heap.size < b) l[i].kids (f (i * 4 + 3)))) (fun i _ => l.length - (intOf i).toNat)
  case atStart =>
    obtain ⟨f, hf⟩ := row_made w #[.int .i64 0, .string ByteArray.empty, .int .i64 0, .slice none 0 0] (l.length * 4) 44
    exact ⟨0, Nat.zero_le _, rfl, bel_alloc _ _, f, hf, fun i hi => absurd hi (Nat.not_lt_zero _)⟩
  case round =>
    obtain ⟨j, hj, rfl, hbel, HM⟩ := hrel
    by_cases hlt : j < l.length
    · obtain ⟨rfl, _⟩ := HA.out (by omega)
      obtain ⟨c0, c1, c2, c3, zc0⟩ := HC.out j (by omega)
      rw [← hbel.cell (lt_of_cell c0)] at c0
      rw [← hbel.cell (lt_of_cell c1)] at c1
      rw [← hbel.cell (lt_of_cell c2)] at c2
      rw [← hbel.cell (lt_of_cell c3)] at c3
      have hcl := toLNode_any l[j] _ wr ⟨(HR3.out j hlt).still hbel⟩ (HSM.out j hlt)
      obtain ⟨a3x, cap3x, e3x, _⟩ := (HR3.out j hlt).form
      rw [e3x] at c3 hcl
      clear e3x
      have HCL := (show Hid _ from hcl); clear hcl
      go_wp2_with fail
      refine Calls.mono HCL.out ?_
      rintro e w1 ⟨u3, rfl, hb1, ⟨o3⟩⟩
      obtain ⟨au3, cu3, rfl, _⟩ := o3.form
      obtain ⟨f, hrow, hf⟩ := HM.out
      have hg := World.rowIs.lt hrow
      have hrow1 := World.rowIs.of_block hrow (hb1.block _ hg)
      have hbw := bel_trans hbel hb1
      have e0 := hrow1.cell (i := j * 4) (by omega)
      have z0 := hrow1.frozen (j * 4)
      have e1 := hrow1.cell (i := j * 4 + 1) (by omega)
      have z1 := hrow1.frozen (j * 4 + 1)
      have e2 := hrow1.cell (i := j * 4 + 2) (by omega)
      have z2 := hrow1.frozen (j * 4 + 2)
      have e3 := hrow1.cell (i := j * 4 + 3) (by omega)
      have z3 := hrow1.frozen (j * 4 + 3)
      have hf1 : ∀ i (_ : i < j) (hi : i < l.length), (f (i * 4) = .int .i64 l[i].kind ∧ f (i * 4 + 1) = .string l[i].s ∧ f (i * 4 + 2) = .int .i64 l[i].n) ∧ IntsO w1 (fun b => w.heap.size < b) l[i].kids (f (i * 4 + 3)) := fun i h1 h2 => ⟨(hf i h1 h2).1, (hf i h1 h2).2.still hb1⟩
      have hn3 : IntsO w1 (fun b => w.heap.size < b) l[j].kids (.slice au3 l[j].kids.length cu3) := o3.mono (fun b hb => Nat.lt_of_lt_of_le hg hb)
      have HN := (show Hid _ from (⟨hrow1, hf1, hn3⟩ : _ ∧ _ ∧ _)); clear hrow hf hrow1 hf1 hg HM c0 c1 c2 c3 hn3 o3
      go_wp2_with fail
      have hkeep : ∀ b, w.heap.size < b → ((((w1.setCell ⟨w.heap.size, j * 4, none⟩ (.int .i64 l[j].kind)).setCell ⟨w.heap.size, j * 4 + 1, none⟩ (.string l[j].s)).setCell ⟨w.heap.size, j * 4 + 2, none⟩ (.int .i64 l[j].n)).setCell ⟨w.heap.size, j * 4 + 3, none⟩ (.slice au3 l[j].kids.length cu3)).heap[b]? = w1.heap[b]? := fun b hb => by repeat rw [blk_setCell_other _ _ _ _ (by dsimp only; omega)]
      refine ⟨⟨j + 1, by omega, by go_num, (Below.setCell (Below.setCell (Below.setCell (Below.setCell hbw (Nat.le_refl _) _) (Nat.le_refl _) _) (Nat.le_refl _) _) (Nat.le_refl _) _), _, (World.rowIs.set (World.rowIs.set (World.rowIs.set (World.rowIs.set HN.out.1 (j * 4) _) (j * 4 + 1) _) (j * 4 + 2) _) (j * 4 + 3) _), fun i hi hl => ?_⟩, by simp [intOf]; omega⟩
      by_cases e : i = j
      · subst e
        exact ⟨by simp, (by simp; exact IntsO.keep HN.out.2.2 (fun b hb _ => hkeep b hb))⟩
      · obtain ⟨⟨g0, g1, g2⟩, k3⟩ := HN.out.2.1 i (by omega) hl
        exact ⟨⟨by rw [if_neg (by omega), if_neg (by omega), if_neg (by omega), if_neg (by omega)]; exact g0, by rw [if_neg (by omega), if_neg (by omega), if_neg (by omega), if_neg (by omega)]; exact g1, by rw [if_neg (by omega), if_neg (by omega), if_neg (by omega), if_neg (by omega)]; exact g2⟩, (by rw [if_neg (by omega), if_neg (by omega), if_neg (by omega), if_neg (by omega)]; exact IntsO.keep k3 (fun b hb _ => hkeep b hb))⟩
    · go_wp2_with fail
      go_ret
      obtain ⟨f, hrow, hf⟩ := HM.out
      exact ⟨_, rfl, hbel, w.heap.size, f, rfl, Nat.le_refl _, hlen, hrow, fun i hi => by obtain ⟨_, _, _, _, z0⟩ := HC.out i hi; obtain ⟨g0, g1, g2⟩ := (hf i (by omega) hi).1; exact ⟨g0, g1, g2, z0⟩, fun i hi => (hf i (by omega) hi).2.mono (fun _ hb => Nat.le_of_lt hb)⟩
end Go.Proofs.Ytokncahlcphhnaa
