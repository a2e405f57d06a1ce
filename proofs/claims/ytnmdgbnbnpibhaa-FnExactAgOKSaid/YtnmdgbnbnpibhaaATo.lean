import Derived.Test.YtnmdgbnbnpibhaaASz
namespace Go.Proofs.Ytnmdgbnbnpibhaa
open Go.RowKit Go.Deep
set_option linter.unusedVariables false
set_option maxRecDepth 100000
set_option linter.unusedSimpArgs false

theorem info3 : (Try.prog.info? 3).map (fun i => (i.zero, i.size, i.bytes)) = some (some (.int .i64 0), 1, 8) := by kernel_rfl
theorem run_makeIntsG (n : Nat) (hn : n ≤ 1048576) (w : World) :
    (Instr.makeSlice 65 (.int .i64 (n : Int)) (.int .i64 (n : Int))).run Try.prog w = .ok (.slice (some ⟨w.heap.size, 0, none⟩) n n) (w.alloc (.cells (madeCells #[.int .i64 0] (n)) 3)) := by
  obtain ⟨i, hi, hzz⟩ := Option.map_eq_some_iff.1 info3
  simp only [Prod.mk.injEq] at hzz
  obtain ⟨hz, hs, hb⟩ := hzz
  have hr := run_make (P := Try.prog) w 65 3 i _ Try.underlying65 hi hz .i64 .i64 n n (by omega) (Int.le_refl _) (by rw [hb]; omega) (by omega)
  simp only [Int.toNat_natCast, hs, Nat.mul_one] at hr
  exact hr
set_option maxHeartbeats 3200000 in
theorem toInts_anyG {S : Nat → Prop} (l : List Int) (v : Value) (w : World) (h : Ints w S l v) (hsm : Ints.Sm l) :
    Calls Try.prog 72 #[v] w fun e w' => ∃ v', e = .returned v' ∧ Below w.heap.size w w' ∧ IntsO w' (fun b => w.heap.size ≤ b) l v' := by
  obtain ⟨a, cap, b, off, rfl, hc, hm, ha, hcell⟩ := h
  have HC := (show Hid _ from hcell); clear hcell
  have HA := (show Hid _ from ha); clear ha
  have hlen : l.length ≤ 1048576 := hsm
  clear hsm
  unfold maxLen at hm
  have hmk := run_makeIntsG l.length hlen
  go_enter Try.func72, Try.ntmps72
  go_wp2_with fail
  go_loopw [4] (fun i wr => ∃ j : Nat, j ≤ l.length ∧ i = .int .i64 j ∧ Below w.heap.size w wr ∧ Hid (∃ f, wr.rowIs w.heap.size 3 (l.length) f ∧ ∀ i (_ : i < j) (hi : i < l.length), (f (i) = .int .i64 l[i]))) (fun i _ => l.length - (intOf i).toNat)
  case atStart =>
    obtain ⟨f, hf⟩ := row_made w #[.int .i64 0] (l.length) 3
    exact ⟨0, Nat.zero_le _, rfl, bel_alloc _ _, f, hf, fun i hi => absurd hi (Nat.not_lt_zero _)⟩
  case round =>
    obtain ⟨j, hj, rfl, hbel, HM⟩ := hrel
    by_cases hlt : j < l.length
    · obtain ⟨rfl, _⟩ := HA.out (by omega)
      have c0 := HC.out j (by omega)
      rw [← hbel.cell (lt_of_cell c0)] at c0
      obtain ⟨f, hrow, hf⟩ := HM.out
      have hg := World.rowIs.lt hrow
      have hrow1 := hrow
      have hbw := hbel
      have e0 := hrow1.cell (i := j) (by omega)
      have z0 := hrow1.frozen (j)
      have hf1 : ∀ i (_ : i < j) (hi : i < l.length), (f (i) = .int .i64 l[i]) := hf
      have HN := (show Hid _ from (⟨hrow1, hf1⟩ : _ ∧ _)); clear hrow hf hrow1 hf1 hg HM 
      go_wp2_with fail
      refine ⟨⟨j + 1, by omega, by go_num, (Below.setCell hbw (Nat.le_refl _) _), _, (World.rowIs.set HN.out.1 (j) _), fun i hi hl => ?_⟩, by simp [intOf]; omega⟩
      by_cases e : i = j
      · subst e
        simp
      · have g0 := HN.out.2 i (by omega) hl
        exact by rw [if_neg (by omega)]; exact g0
    · go_wp2_with fail
      go_ret
      obtain ⟨f, hrow, hf⟩ := HM.out
      exact ⟨_, rfl, hbel, w.heap.size, f, rfl, Nat.le_refl _, hlen, hrow, fun i hi => hf i (by omega) hi⟩
theorem info9 : (Try.prog.info? 9).map (fun i => (i.zero, i.size, i.bytes)) = some (some (.string ByteArray.empty), 1, 16) := by kernel_rfl
theorem run_makeStrsG (n : Nat) (hn : n ≤ 1048576) (w : World) :
    (Instr.makeSlice 23 (.int .i64 (n : Int)) (.int .i64 (n : Int))).run Try.prog w = .ok (.slice (some ⟨w.heap.size, 0, none⟩) n n) (w.alloc (.cells (madeCells #[.string ByteArray.empty] (n)) 9)) := by
  obtain ⟨i, hi, hzz⟩ := Option.map_eq_some_iff.1 info9
  simp only [Prod.mk.injEq] at hzz
  obtain ⟨hz, hs, hb⟩ := hzz
  have hr := run_make (P := Try.prog) w 23 9 i _ Try.underlying23 hi hz .i64 .i64 n n (by omega) (Int.le_refl _) (by rw [hb]; omega) (by omega)
  simp only [Int.toNat_natCast, hs, Nat.mul_one] at hr
  exact hr
set_option maxHeartbeats 3200000 in
theorem toStrs_anyG {S : Nat → Prop} (l : List ByteArray) (v : Value) (w : World) (h : StrsG w S l v) (hsm : StrsG.Sm l) :
    Calls Try.prog 25 #[v] w fun e w' => ∃ v', e = .returned v' ∧ Below w.heap.size w w' ∧ StrsO w' (fun b => w.heap.size ≤ b) l v' := by
  obtain ⟨a, cap, b, off, rfl, hc, hm, ha, hcell⟩ := h
  have HC := (show Hid _ from hcell); clear hcell
  have HA := (show Hid _ from ha); clear ha
  have hlen : l.length ≤ 1048576 := hsm.1
  have HSM := (show Hid _ from hsm.2)
  clear hsm
  unfold maxLen at hm
  have hmk := run_makeStrsG l.length hlen
  go_enter Try.func25, Try.ntmps25
  go_wp2_with fail
  go_loopw [4] (fun i wr => ∃ j : Nat, j ≤ l.length ∧ i = .int .i64 j ∧ Below w.heap.size w wr ∧ Hid (∃ f, wr.rowIs w.heap.size 9 (l.length) f ∧ ∀ i (_ : i < j) (hi : i < l.length), (f (i) = .string l[i]))) (fun i _ => l.length - (intOf i).toNat)
  case atStart =>
    obtain ⟨f, hf⟩ := row_made w #[.string ByteArray.empty] (l.length) 9
    exact ⟨0, Nat.zero_le _, rfl, bel_alloc _ _, f, hf, fun i hi => absurd hi (Nat.not_lt_zero _)⟩
  case round =>
    obtain ⟨j, hj, rfl, hbel, HM⟩ := hrel
    by_cases hlt : j < l.length
    · obtain ⟨rfl, _⟩ := HA.out (by omega)
      obtain ⟨c0, zc0⟩ := HC.out j (by omega)
      rw [← hbel.cell (lt_of_cell c0)] at c0
      obtain ⟨f, hrow, hf⟩ := HM.out
      have hg := World.rowIs.lt hrow
      have hrow1 := hrow
      have hbw := hbel
      have e0 := hrow1.cell (i := j) (by omega)
      have z0 := hrow1.frozen (j)
      have hf1 : ∀ i (_ : i < j) (hi : i < l.length), (f (i) = .string l[i]) := hf
      have HN := (show Hid _ from (⟨hrow1, hf1⟩ : _ ∧ _)); clear hrow hf hrow1 hf1 hg HM 
      go_wp2_with fail
      refine ⟨⟨j + 1, by omega, by go_num, (Below.setCell hbw (Nat.le_refl _) _), _, (World.rowIs.set HN.out.1 (j) _), fun i hi hl => ?_⟩, by simp [intOf]; omega⟩
      by_cases e : i = j
      · subst e
        simp
      · have g0 := HN.out.2 i (by omega) hl
        exact by rw [if_neg (by omega)]; exact g0
    · go_wp2_with fail
      go_ret
      obtain ⟨f, hrow, hf⟩ := HM.out
      exact ⟨_, rfl, hbel, w.heap.size, f, rfl, Nat.le_refl _, hlen, hrow, fun i hi => by obtain ⟨_, z0⟩ := HC.out i hi; exact ⟨hf i (by omega) hi, z0⟩⟩
set_option maxHeartbeats 800000 in
theorem toAttr_any (t : DAttr) (w : World) :
    Calls Try.prog 50 #[.agg #[.int .i64 t.non, .string t.name, .bool t.down]] w fun e w' => e = .returned (.agg #[.int .i64 t.non, .string t.name, .bool t.down]) ∧ Below w.heap.size w w' := by
  go_enter Try.func50, Try.ntmps50
  go_wp2_with fail
  exact bodyPost_ret (v := .agg #[.int .i64 t.non, .string t.name, .bool t.down]) (by simp [results, Try.results50, go_sem]) rfl ⟨rfl, bel3 _ _ _ _⟩
theorem info54 : (Try.prog.info? 54).map (fun i => (i.zero, i.size, i.bytes)) = some (some (.agg #[.int .i64 0, .string ByteArray.empty, .bool false]), 3, 32) := by kernel_rfl
theorem run_makeAttrR (n : Nat) (hn : n ≤ 1048576) (w : World) :
    (Instr.makeSlice 39 (.int .i64 (n : Int)) (.int .i64 (n : Int))).run Try.prog w = .ok (.slice (some ⟨w.heap.size, 0, none⟩) n n) (w.alloc (.cells (madeCells #[.int .i64 0, .string ByteArray.empty, .bool false] (n * 3)) 54)) := by
  obtain ⟨i, hi, hzz⟩ := Option.map_eq_some_iff.1 info54
  simp only [Prod.mk.injEq] at hzz
  obtain ⟨hz, hs, hb⟩ := hzz
  have hr := run_make (P := Try.prog) w 39 54 i _ Try.underlying39 hi hz .i64 .i64 n n (by omega) (Int.le_refl _) (by rw [hb]; omega) (by omega)
  simp only [Int.toNat_natCast, hs] at hr
  exact hr
set_option maxHeartbeats 3200000 in
theorem toAttrR_any {S : Nat → Prop} (l : List DAttr) (v : Value) (w : World) (h : AttrR w S l v) (hsm : AttrR.Sm l) :
    Calls Try.prog 27 #[v] w fun e w' => ∃ v', e = .returned v' ∧ Below w.heap.size w w' ∧ AttrRO w' (fun b => w.heap.size ≤ b) l v' := by
  obtain ⟨a, cap, b, off, rfl, hc, hm, ha, hcell⟩ := h
  have HC := (show Hid _ from hcell); clear hcell
  have HA := (show Hid _ from ha); clear ha
  have hlen : l.length ≤ 1048576 := hsm.1
  have HSM := (show Hid _ from hsm.2)
  clear hsm
  unfold maxLen at hm
  have hmk := run_makeAttrR l.length hlen
  go_enter Try.func27, Try.ntmps27
  go_wp2_with fail
  go_loopw [4] (fun i wr => ∃ j : Nat, j ≤ l.length ∧ i = .int .i64 j ∧ Below w.heap.size w wr ∧ Hid (∃ f, wr.rowIs w.heap.size 54 (l.length * 3) f ∧ ∀ i (_ : i < j) (hi : i < l.length), (f (i * 3) = .int .i64 l[i].non ∧ f (i * 3 + 1) = .string l[i].name ∧ f (i * 3 + 2) = .bool l[i].down))) (fun i _ => l.length - (intOf i).toNat)
  case atStart =>
    obtain ⟨f, hf⟩ := row_made w #[.int .i64 0, .string ByteArray.empty, .bool false] (l.length * 3) 54
    exact ⟨0, Nat.zero_le _, rfl, bel_alloc _ _, f, hf, fun i hi => absurd hi (Nat.not_lt_zero _)⟩
  case round =>
    obtain ⟨j, hj, rfl, hbel, HM⟩ := hrel
    by_cases hlt : j < l.length
    · obtain ⟨rfl, _⟩ := HA.out (by omega)
      obtain ⟨c0, c1, c2, zc0⟩ := HC.out j (by omega)
      rw [← hbel.cell (lt_of_cell c0)] at c0
      rw [← hbel.cell (lt_of_cell c1)] at c1
      rw [← hbel.cell (lt_of_cell c2)] at c2
      have hcl := toAttr_any l[j] wr
      have HCL := (show Hid _ from hcl); clear hcl
      go_wp2_with fail
      refine Calls.mono HCL.out ?_
      rintro e w1 ⟨rfl, hb1⟩
      obtain ⟨f, hrow, hf⟩ := HM.out
      have hg := World.rowIs.lt hrow
      have hrow1 := World.rowIs.of_block hrow (hb1.block _ hg)
      have hbw := bel_trans hbel hb1
      have e0 := hrow1.cell (i := j * 3) (by omega)
      have z0 := hrow1.frozen (j * 3)
      have e1 := hrow1.cell (i := j * 3 + 1) (by omega)
      have z1 := hrow1.frozen (j * 3 + 1)
      have e2 := hrow1.cell (i := j * 3 + 2) (by omega)
      have z2 := hrow1.frozen (j * 3 + 2)
      have hf1 : ∀ i (_ : i < j) (hi : i < l.length), (f (i * 3) = .int .i64 l[i].non ∧ f (i * 3 + 1) = .string l[i].name ∧ f (i * 3 + 2) = .bool l[i].down) := hf
      have HN := (show Hid _ from (⟨hrow1, hf1⟩ : _ ∧ _)); clear hrow hf hrow1 hf1 hg HM c0 c1 c2
      go_wp2_with fail
      refine ⟨⟨j + 1, by omega, by go_num, (Below.setCell (Below.setCell (Below.setCell hbw (Nat.le_refl _) _) (Nat.le_refl _) _) (Nat.le_refl _) _), _, (World.rowIs.set (World.rowIs.set (World.rowIs.set HN.out.1 (j * 3) _) (j * 3 + 1) _) (j * 3 + 2) _), fun i hi hl => ?_⟩, by simp [intOf]; omega⟩
      by_cases e : i = j
      · subst e
        simp
      · obtain ⟨g0, g1, g2⟩ := HN.out.2 i (by omega) hl
        exact ⟨by rw [if_neg (by omega), if_neg (by omega), if_neg (by omega)]; exact g0, by rw [if_neg (by omega), if_neg (by omega), if_neg (by omega)]; exact g1, by rw [if_neg (by omega), if_neg (by omega), if_neg (by omega)]; exact g2⟩
    · go_wp2_with fail
      go_ret
      obtain ⟨f, hrow, hf⟩ := HM.out
      exact ⟨_, rfl, hbel, w.heap.size, f, rfl, Nat.le_refl _, hlen, hrow, fun i hi => by obtain ⟨_, _, _, z0⟩ := HC.out i hi; obtain ⟨g0, g1, g2⟩ := hf i (by omega) hi; exact ⟨g0, g1, g2, z0⟩⟩
set_option maxHeartbeats 800000 in
theorem toRef_any (t : DRef) (w : World) :
    Calls Try.prog 83 #[.agg #[.int .i64 t.pos, .int .i64 t.attr, .int .i64 t.n]] w fun e w' => e = .returned (.agg #[.int .i64 t.pos, .int .i64 t.attr, .int .i64 t.n]) ∧ Below w.heap.size w w' := by
  go_enter Try.func83, Try.ntmps83
  go_wp2_with fail
  exact bodyPost_ret (v := .agg #[.int .i64 t.pos, .int .i64 t.attr, .int .i64 t.n]) (by simp [results, Try.results83, go_sem]) rfl ⟨rfl, bel3 _ _ _ _⟩
theorem info64 : (Try.prog.info? 64).map (fun i => (i.zero, i.size, i.bytes)) = some (some (.agg #[.int .i64 0, .int .i64 0, .int .i64 0]), 3, 24) := by kernel_rfl
theorem run_makeRefR (n : Nat) (hn : n ≤ 1048576) (w : World) :
    (Instr.makeSlice 57 (.int .i64 (n : Int)) (.int .i64 (n : Int))).run Try.prog w = .ok (.slice (some ⟨w.heap.size, 0, none⟩) n n) (w.alloc (.cells (madeCells #[.int .i64 0, .int .i64 0, .int .i64 0] (n * 3)) 64)) := by
  obtain ⟨i, hi, hzz⟩ := Option.map_eq_some_iff.1 info64
  simp only [Prod.mk.injEq] at hzz
  obtain ⟨hz, hs, hb⟩ := hzz
  have hr := run_make (P := Try.prog) w 57 64 i _ Try.underlying57 hi hz .i64 .i64 n n (by omega) (Int.le_refl _) (by rw [hb]; omega) (by omega)
  simp only [Int.toNat_natCast, hs] at hr
  exact hr
set_option maxHeartbeats 3200000 in
theorem toRefR_any {S : Nat → Prop} (l : List DRef) (v : Value) (w : World) (h : RefR w S l v) (hsm : RefR.Sm l) :
    Calls Try.prog 73 #[v] w fun e w' => ∃ v', e = .returned v' ∧ Below w.heap.size w w' ∧ RefRO w' (fun b => w.heap.size ≤ b) l v' := by
  obtain ⟨a, cap, b, off, rfl, hc, hm, ha, hcell⟩ := h
  have HC := (show Hid _ from hcell); clear hcell
  have HA := (show Hid _ from ha); clear ha
  have hlen : l.length ≤ 1048576 := hsm.1
  have HSM := (show Hid _ from hsm.2)
  clear hsm
  unfold maxLen at hm
  have hmk := run_makeRefR l.length hlen
  go_enter Try.func73, Try.ntmps73
  go_wp2_with fail
  go_loopw [4] (fun i wr => ∃ j : Nat, j ≤ l.length ∧ i = .int .i64 j ∧ Below w.heap.size w wr ∧ Hid (∃ f, wr.rowIs w.heap.size 64 (l.length * 3) f ∧ ∀ i (_ : i < j) (hi : i < l.length), (f (i * 3) = .int .i64 l[i].pos ∧ f (i * 3 + 1) = .int .i64 l[i].attr ∧ f (i * 3 + 2) = .int .i64 l[i].n))) (fun i _ => l.length - (intOf i).toNat)
  case atStart =>
    obtain ⟨f, hf⟩ := row_made w #[.int .i64 0, .int .i64 0, .int .i64 0] (l.length * 3) 64
    exact ⟨0, Nat.zero_le _, rfl, bel_alloc _ _, f, hf, fun i hi => absurd hi (Nat.not_lt_zero _)⟩
  case round =>
    obtain ⟨j, hj, rfl, hbel, HM⟩ := hrel
    by_cases hlt : j < l.length
    · obtain ⟨rfl, _⟩ := HA.out (by omega)
      obtain ⟨c0, c1, c2⟩ := HC.out j (by omega)
      rw [← hbel.cell (lt_of_cell c0)] at c0
      rw [← hbel.cell (lt_of_cell c1)] at c1
      rw [← hbel.cell (lt_of_cell c2)] at c2
      have hcl := toRef_any l[j] wr
      have HCL := (show Hid _ from hcl); clear hcl
      go_wp2_with fail
      refine Calls.mono HCL.out ?_
      rintro e w1 ⟨rfl, hb1⟩
      obtain ⟨f, hrow, hf⟩ := HM.out
      have hg := World.rowIs.lt hrow
      have hrow1 := World.rowIs.of_block hrow (hb1.block _ hg)
      have hbw := bel_trans hbel hb1
      have e0 := hrow1.cell (i := j * 3) (by omega)
      have z0 := hrow1.frozen (j * 3)
      have e1 := hrow1.cell (i := j * 3 + 1) (by omega)
      have z1 := hrow1.frozen (j * 3 + 1)
      have e2 := hrow1.cell (i := j * 3 + 2) (by omega)
      have z2 := hrow1.frozen (j * 3 + 2)
      have hf1 : ∀ i (_ : i < j) (hi : i < l.length), (f (i * 3) = .int .i64 l[i].pos ∧ f (i * 3 + 1) = .int .i64 l[i].attr ∧ f (i * 3 + 2) = .int .i64 l[i].n) := hf
      have HN := (show Hid _ from (⟨hrow1, hf1⟩ : _ ∧ _)); clear hrow hf hrow1 hf1 hg HM c0 c1 c2
      go_wp2_with fail
      refine ⟨⟨j + 1, by omega, by go_num, (Below.setCell (Below.setCell (Below.setCell hbw (Nat.le_refl _) _) (Nat.le_refl _) _) (Nat.le_refl _) _), _, (World.rowIs.set (World.rowIs.set (World.rowIs.set HN.out.1 (j * 3) _) (j * 3 + 1) _) (j * 3 + 2) _), fun i hi hl => ?_⟩, by simp [intOf]; omega⟩
      by_cases e : i = j
      · subst e
        simp
      · obtain ⟨g0, g1, g2⟩ := HN.out.2 i (by omega) hl
        exact ⟨by rw [if_neg (by omega), if_neg (by omega), if_neg (by omega)]; exact g0, by rw [if_neg (by omega), if_neg (by omega), if_neg (by omega)]; exact g1, by rw [if_neg (by omega), if_neg (by omega), if_neg (by omega)]; exact g2⟩
    · go_wp2_with fail
      go_ret
      obtain ⟨f, hrow, hf⟩ := HM.out
      exact ⟨_, rfl, hbel, w.heap.size, f, rfl, Nat.le_refl _, hlen, hrow, fun i hi => hf i (by omega) hi⟩
set_option maxHeartbeats 6400000 in
theorem toEq_any {S : Nat → Prop} (t : DEq) (v4 : Value) (w : World) (h : DEqL w S t v4) (hsm : t.Sm) :
    Calls Try.prog 51 #[.agg #[.int .i64 t.prod, .int .i64 t.pos, .int .i64 t.attr, .int .i64 t.op, v4]] w fun e w' => ∃ u4, e = .returned (.agg #[.int .i64 t.prod, .int .i64 t.pos, .int .i64 t.attr, .int .i64 t.op, u4]) ∧ Below w.heap.size w w' ∧ DEqO w' (fun b => w.heap.size ≤ b) t u4 := by
  have HF4 := (show Hid _ from fun (w' : World) (hb : Below w.heap.size w w') => toRefR_any t.args v4 w' (h.args.still hb) hsm.args)
  obtain ⟨a4, p4, rfl, _⟩ := h.args.form
  clear h hsm
  have hbP := Box.new w 95 [.int .i64 t.prod, .int .i64 t.pos, .int .i64 t.attr, .int .i64 t.op, .slice a4 t.args.length p4]
  have hbR := Box.new (w.alloc (.cells ([.int .i64 t.prod, .int .i64 t.pos, .int .i64 t.attr, .int .i64 t.op, .slice a4 t.args.length p4] : List Value).toArray 95)) 59 [.int .i64 0, .int .i64 0, .int .i64 0, .int .i64 0, .slice none 0 0]
  have hbO := Box.new ((w.alloc (.cells ([.int .i64 t.prod, .int .i64 t.pos, .int .i64 t.attr, .int .i64 t.op, .slice a4 t.args.length p4] : List Value).toArray 95)).alloc (.cells ([.int .i64 0, .int .i64 0, .int .i64 0, .int .i64 0, .slice none 0 0] : List Value).toArray 59)) 59 [.int .i64 t.prod, .int .i64 t.pos, .int .i64 t.attr, .int .i64 t.op, .slice none 0 0]
  simp only [World.size_alloc] at hbR hbO
  have hz : (((w.alloc (.cells ([.int .i64 t.prod, .int .i64 t.pos, .int .i64 t.attr, .int .i64 t.op, .slice a4 t.args.length p4] : List Value).toArray 95)).alloc (.cells ([.int .i64 0, .int .i64 0, .int .i64 0, .int .i64 0, .slice none 0 0] : List Value).toArray 59)).alloc (.cells ([.int .i64 t.prod, .int .i64 t.pos, .int .i64 t.attr, .int .i64 t.op, .slice none 0 0] : List Value).toArray 59)).heap.size = w.heap.size + 3 := by simp
  have HB := (show Hid _ from (⟨(hbP.still (bel_alloc _ _)).still (bel_alloc _ _), hbR.still (bel_alloc _ _), hbO, bel3 _ _ _ _, hz⟩ : Box (((w.alloc (.cells ([.int .i64 t.prod, .int .i64 t.pos, .int .i64 t.attr, .int .i64 t.op, .slice a4 t.args.length p4] : List Value).toArray 95)).alloc (.cells ([.int .i64 0, .int .i64 0, .int .i64 0, .int .i64 0, .slice none 0 0] : List Value).toArray 59)).alloc (.cells ([.int .i64 t.prod, .int .i64 t.pos, .int .i64 t.attr, .int .i64 t.op, .slice none 0 0] : List Value).toArray 59)) w.heap.size 95 [.int .i64 t.prod, .int .i64 t.pos, .int .i64 t.attr, .int .i64 t.op, .slice a4 t.args.length p4] ∧ Box (((w.alloc (.cells ([.int .i64 t.prod, .int .i64 t.pos, .int .i64 t.attr, .int .i64 t.op, .slice a4 t.args.length p4] : List Value).toArray 95)).alloc (.cells ([.int .i64 0, .int .i64 0, .int .i64 0, .int .i64 0, .slice none 0 0] : List Value).toArray 59)).alloc (.cells ([.int .i64 t.prod, .int .i64 t.pos, .int .i64 t.attr, .int .i64 t.op, .slice none 0 0] : List Value).toArray 59)) (w.heap.size + 1) 59 [.int .i64 0, .int .i64 0, .int .i64 0, .int .i64 0, .slice none 0 0] ∧ Box (((w.alloc (.cells ([.int .i64 t.prod, .int .i64 t.pos, .int .i64 t.attr, .int .i64 t.op, .slice a4 t.args.length p4] : List Value).toArray 95)).alloc (.cells ([.int .i64 0, .int .i64 0, .int .i64 0, .int .i64 0, .slice none 0 0] : List Value).toArray 59)).alloc (.cells ([.int .i64 t.prod, .int .i64 t.pos, .int .i64 t.attr, .int .i64 t.op, .slice none 0 0] : List Value).toArray 59)) (w.heap.size + 1 + 1) 59 [.int .i64 t.prod, .int .i64 t.pos, .int .i64 t.attr, .int .i64 t.op, .slice none 0 0] ∧ Below w.heap.size w (((w.alloc (.cells ([.int .i64 t.prod, .int .i64 t.pos, .int .i64 t.attr, .int .i64 t.op, .slice a4 t.args.length p4] : List Value).toArray 95)).alloc (.cells ([.int .i64 0, .int .i64 0, .int .i64 0, .int .i64 0, .slice none 0 0] : List Value).toArray 59)).alloc (.cells ([.int .i64 t.prod, .int .i64 t.pos, .int .i64 t.attr, .int .i64 t.op, .slice none 0 0] : List Value).toArray 59)) ∧ (((w.alloc (.cells ([.int .i64 t.prod, .int .i64 t.pos, .int .i64 t.attr, .int .i64 t.op, .slice a4 t.args.length p4] : List Value).toArray 95)).alloc (.cells ([.int .i64 0, .int .i64 0, .int .i64 0, .int .i64 0, .slice none 0 0] : List Value).toArray 59)).alloc (.cells ([.int .i64 t.prod, .int .i64 t.pos, .int .i64 t.attr, .int .i64 t.op, .slice none 0 0] : List Value).toArray 59)).heap.size = w.heap.size + 3))
  clear hbP hbR hbO hz
  go_enter Try.func51, Try.ntmps51
  go_wp2_with fail
  refine Calls.mono (HF4.out _ HB.out.2.2.2.1) ?_
  rintro e w4 ⟨u4, rfl, hb4, ho4⟩
  obtain ⟨au4, cu4, rfl, _⟩ := ho4.form
  have hq4 : w.heap.size + 3 ≤ w4.heap.size := by have h1 := hb4.size; simp only [World.size_alloc] at h1; omega
  have HN4 := (show Hid _ from (⟨HB.out.1.still hb4, HB.out.2.1.still hb4, HB.out.2.2.1.still hb4, bel_trans HB.out.2.2.2.1 hb4, ho4.mono (fun b hb => by have h1 : _ ≤ b := hb; simp only [World.size_alloc] at h1; show w.heap.size + 3 ≤ b; omega)⟩ : Box w4 w.heap.size 95 [.int .i64 t.prod, .int .i64 t.pos, .int .i64 t.attr, .int .i64 t.op, .slice a4 t.args.length p4] ∧ Box w4 (w.heap.size + 1) 59 [.int .i64 0, .int .i64 0, .int .i64 0, .int .i64 0, .slice none 0 0] ∧ Box w4 (w.heap.size + 1 + 1) 59 [.int .i64 t.prod, .int .i64 t.pos, .int .i64 t.attr, .int .i64 t.op, .slice none 0 0] ∧ Below w.heap.size w w4 ∧ RefRO w4 (fun b => w.heap.size + 3 ≤ b) t.args (.slice au4 t.args.length cu4)))
  clear hb4 ho4
  have e4 : w4.cell? ⟨w.heap.size + 1 + 1, 4, none⟩ = some (.slice none 0 0) := HN4.out.2.2.1.cell 4 (by simp)
  have z4 := HN4.out.2.2.1.frozen 4
  have y0 : w4.cell? ⟨w.heap.size + 1, 0, none⟩ = some (.int .i64 0) := HN4.out.2.1.cell 0 (by simp)
  have f0 := HN4.out.2.1.frozen 0
  have y1 : w4.cell? ⟨w.heap.size + 1, 1, none⟩ = some (.int .i64 0) := HN4.out.2.1.cell 1 (by simp)
  have f1 := HN4.out.2.1.frozen 1
  have y2 : w4.cell? ⟨w.heap.size + 1, 2, none⟩ = some (.int .i64 0) := HN4.out.2.1.cell 2 (by simp)
  have f2 := HN4.out.2.1.frozen 2
  have y3 : w4.cell? ⟨w.heap.size + 1, 3, none⟩ = some (.int .i64 0) := HN4.out.2.1.cell 3 (by simp)
  have f3 := HN4.out.2.1.frozen 3
  have y4 : w4.cell? ⟨w.heap.size + 1, 4, none⟩ = some (.slice none 0 0) := HN4.out.2.1.cell 4 (by simp)
  have f4 := HN4.out.2.1.frozen 4
  have e0 : w4.cell? ⟨w.heap.size + 1 + 1, 0, none⟩ = some (.int .i64 t.prod) := HN4.out.2.2.1.cell 0 (by simp)
  have e1 : w4.cell? ⟨w.heap.size + 1 + 1, 1, none⟩ = some (.int .i64 t.pos) := HN4.out.2.2.1.cell 1 (by simp)
  have e2 : w4.cell? ⟨w.heap.size + 1 + 1, 2, none⟩ = some (.int .i64 t.attr) := HN4.out.2.2.1.cell 2 (by simp)
  have e3 : w4.cell? ⟨w.heap.size + 1 + 1, 3, none⟩ = some (.int .i64 t.op) := HN4.out.2.2.1.cell 3 (by simp)
  go_wp2_with fail
  refine bodyPost_ret (v := .agg #[.int .i64 t.prod, .int .i64 t.pos, .int .i64 t.attr, .int .i64 t.op, .slice au4 t.args.length cu4]) (by simp [results, Try.results51, go_sem, y0, y1, y2, y3, y4]) rfl ⟨_, rfl, ?_, ⟨?_⟩⟩
  · repeat (refine Below.setCell ?_ (by dsimp only; omega) _)
    exact HN4.out.2.2.2.1
  · refine (RefRO.keep HN4.out.2.2.2.2 (fun b hb _ => ?_)).mono (fun b hb => by have hb2 : w.heap.size + 3 ≤ b := hb; show w.heap.size ≤ b; omega)
    have hb2 : w.heap.size + 3 ≤ b := hb
    repeat rw [blk_setCell_other _ _ _ _ (by dsimp only; omega)]
theorem info59 : (Try.prog.info? 59).map (fun i => (i.zero, i.size, i.bytes)) = some (some (.agg #[.int .i64 0, .int .i64 0, .int .i64 0, .int .i64 0, .slice none 0 0]), 5, 56) := by kernel_rfl
theorem run_makeEqR (n : Nat) (hn : n ≤ 1048576) (w : World) :
    (Instr.makeSlice 40 (.int .i64 (n : Int)) (.int .i64 (n : Int))).run Try.prog w = .ok (.slice (some ⟨w.heap.size, 0, none⟩) n n) (w.alloc (.cells (madeCells #[.int .i64 0, .int .i64 0, .int .i64 0, .int .i64 0, .slice none 0 0] (n * 5)) 59)) := by
  obtain ⟨i, hi, hzz⟩ := Option.map_eq_some_iff.1 info59
  simp only [Prod.mk.injEq] at hzz
  obtain ⟨hz, hs, hb⟩ := hzz
  have hr := run_make (P := Try.prog) w 40 59 i _ Try.underlying40 hi hz .i64 .i64 n n (by omega) (Int.le_refl _) (by rw [hb]; omega) (by omega)
  simp only [Int.toNat_natCast, hs] at hr
  exact hr
set_option maxHeartbeats 3200000 in
theorem toEqR_any {S : Nat → Prop} (l : List DEq) (v : Value) (w : World) (h : EqR w S l v) (hsm : EqR.Sm l) :
    Calls Try.prog 28 #[v] w fun e w' => ∃ v', e = .returned v' ∧ Below w.heap.size w w' ∧ EqRO w' (fun b => w.heap.size ≤ b) l v' := by
  obtain ⟨a, cap, b, off, s4, rfl, hc, hm, ha, hcell, r4⟩ := h
  have HC := (show Hid _ from hcell); clear hcell
  have HA := (show Hid _ from ha); clear ha
  have HR4 := (show Hid _ from r4); clear r4
  have hlen : l.length ≤ 1048576 := hsm.1
  have HSM := (show Hid _ from hsm.2)
  clear hsm
  unfold maxLen at hm
  have hmk := run_makeEqR l.length hlen
  go_enter Try.func28, Try.ntmps28
  go_wp2_with fail
  go_loopw [4] (fun i wr => ∃ j : Nat, j ≤ l.length ∧ i = .int .i64 j ∧ Below w.heap.size w wr ∧ Hid (∃ f, wr.rowIs w.heap.size 59 (l.length * 5) f ∧ ∀ i (_ : i < j) (hi : i < l.length), (f (i * 5) = .int .i64 l[i].prod ∧ f (i * 5 + 1) = .int .i64 l[i].pos ∧ f (i * 5 + 2) = .int .i64 l[i].attr ∧ f (i * 5 + 3) = .int .i64 l[i].op) ∧ RefRO wr (fun b => w.heap.size < b) l[i].args (f (i * 5 + 4)))) (fun i _ => l.length - (intOf i).toNat)
  case atStart =>
    obtain ⟨f, hf⟩ := row_made w #[.int .i64 0, .int .i64 0, .int .i64 0, .int .i64 0, .slice none 0 0] (l.length * 5) 59
    exact ⟨0, Nat.zero_le _, rfl, bel_alloc _ _, f, hf, fun i hi => absurd hi (Nat.not_lt_zero _)⟩
  case round =>
    obtain ⟨j, hj, rfl, hbel, HM⟩ := hrel
    by_cases hlt : j < l.length
    · obtain ⟨rfl, _⟩ := HA.out (by omega)
      obtain ⟨c0, c1, c2, c3, c4⟩ := HC.out j (by omega)
      rw [← hbel.cell (lt_of_cell c0)] at c0
      rw [← hbel.cell (lt_of_cell c1)] at c1
      rw [← hbel.cell (lt_of_cell c2)] at c2
      rw [← hbel.cell (lt_of_cell c3)] at c3
      rw [← hbel.cell (lt_of_cell c4)] at c4
      have hcl := toEq_any l[j] _ wr ⟨(HR4.out j hlt).still hbel⟩ (HSM.out j hlt)
      obtain ⟨a4x, cap4x, e4x, _⟩ := (HR4.out j hlt).form
      rw [e4x] at c4 hcl
      clear e4x
      have HCL := (show Hid _ from hcl); clear hcl
      go_wp2_with fail
      refine Calls.mono HCL.out ?_
      rintro e w1 ⟨u4, rfl, hb1, ⟨o4⟩⟩
      obtain ⟨au4, cu4, rfl, _⟩ := o4.form
      obtain ⟨f, hrow, hf⟩ := HM.out
      have hg := World.rowIs.lt hrow
      have hrow1 := World.rowIs.of_block hrow (hb1.block _ hg)
      have hbw := bel_trans hbel hb1
      have e0 := hrow1.cell (i := j * 5) (by omega)
      have z0 := hrow1.frozen (j * 5)
      have e1 := hrow1.cell (i := j * 5 + 1) (by omega)
      have z1 := hrow1.frozen (j * 5 + 1)
      have e2 := hrow1.cell (i := j * 5 + 2) (by omega)
      have z2 := hrow1.frozen (j * 5 + 2)
      have e3 := hrow1.cell (i := j * 5 + 3) (by omega)
      have z3 := hrow1.frozen (j * 5 + 3)
      have e4 := hrow1.cell (i := j * 5 + 4) (by omega)
      have z4 := hrow1.frozen (j * 5 + 4)
      have hf1 : ∀ i (_ : i < j) (hi : i < l.length), (f (i * 5) = .int .i64 l[i].prod ∧ f (i * 5 + 1) = .int .i64 l[i].pos ∧ f (i * 5 + 2) = .int .i64 l[i].attr ∧ f (i * 5 + 3) = .int .i64 l[i].op) ∧ RefRO w1 (fun b => w.heap.size < b) l[i].args (f (i * 5 + 4)) := fun i h1 h2 => ⟨(hf i h1 h2).1, (hf i h1 h2).2.still hb1⟩
      have hn4 : RefRO w1 (fun b => w.heap.size < b) l[j].args (.slice au4 l[j].args.length cu4) := o4.mono (fun b hb => Nat.lt_of_lt_of_le hg hb)
      have HN := (show Hid _ from (⟨hrow1, hf1, hn4⟩ : _ ∧ _ ∧ _)); clear hrow hf hrow1 hf1 hg HM c0 c1 c2 c3 c4 hn4 o4
      go_wp2_with fail
      have hkeep : ∀ b, w.heap.size < b → (((((w1.setCell ⟨w.heap.size, j * 5, none⟩ (.int .i64 l[j].prod)).setCell ⟨w.heap.size, j * 5 + 1, none⟩ (.int .i64 l[j].pos)).setCell ⟨w.heap.size, j * 5 + 2, none⟩ (.int .i64 l[j].attr)).setCell ⟨w.heap.size, j * 5 + 3, none⟩ (.int .i64 l[j].op)).setCell ⟨w.heap.size, j * 5 + 4, none⟩ (.slice au4 l[j].args.length cu4)).heap[b]? = w1.heap[b]? := fun b hb => by repeat rw [blk_setCell_other _ _ _ _ (by dsimp only; omega)]
      refine ⟨⟨j + 1, by omega, by go_num, (Below.setCell (Below.setCell (Below.setCell (Below.setCell (Below.setCell hbw (Nat.le_refl _) _) (Nat.le_refl _) _) (Nat.le_refl _) _) (Nat.le_refl _) _) (Nat.le_refl _) _), _, (World.rowIs.set (World.rowIs.set (World.rowIs.set (World.rowIs.set (World.rowIs.set HN.out.1 (j * 5) _) (j * 5 + 1) _) (j * 5 + 2) _) (j * 5 + 3) _) (j * 5 + 4) _), fun i hi hl => ?_⟩, by simp [intOf]; omega⟩
      by_cases e : i = j
      · subst e
        exact ⟨by simp, (by simp; exact RefRO.keep HN.out.2.2 (fun b hb _ => hkeep b hb))⟩
      · obtain ⟨⟨g0, g1, g2, g3⟩, k4⟩ := HN.out.2.1 i (by omega) hl
        exact ⟨⟨by rw [if_neg (by omega), if_neg (by omega), if_neg (by omega), if_neg (by omega), if_neg (by omega)]; exact g0, by rw [if_neg (by omega), if_neg (by omega), if_neg (by omega), if_neg (by omega), if_neg (by omega)]; exact g1, by rw [if_neg (by omega), if_neg (by omega), if_neg (by omega), if_neg (by omega), if_neg (by omega)]; exact g2, by rw [if_neg (by omega), if_neg (by omega), if_neg (by omega), if_neg (by omega), if_neg (by omega)]; exact g3⟩, (by rw [if_neg (by omega), if_neg (by omega), if_neg (by omega), if_neg (by omega), if_neg (by omega)]; exact RefRO.keep k4 (fun b hb _ => hkeep b hb))⟩
    · go_wp2_with fail
      go_ret
      obtain ⟨f, hrow, hf⟩ := HM.out
      exact ⟨_, rfl, hbel, w.heap.size, f, rfl, Nat.le_refl _, hlen, hrow, fun i hi => (hf i (by omega) hi).1, fun i hi => (hf i (by omega) hi).2.mono (fun _ hb => Nat.le_of_lt hb)⟩
set_option maxHeartbeats 6400000 in
theorem toAg_any {S : Nat → Prop} (t : DAg) (v0 v1 : Value) (w : World) (h : DAgL w S t v0 v1) (hsm : t.Sm) :
    Calls Try.prog 8 #[.agg #[v0, v1]] w fun e w' => ∃ u0 u1, e = .returned (.agg #[u0, u1]) ∧ Below w.heap.size w w' ∧ DAgO w' (fun b => w.heap.size ≤ b) t u0 u1 := by
  have HF0 := (show Hid _ from fun (w' : World) (hb : Below w.heap.size w w') => toAttrR_any t.attrs v0 w' (h.attrs.still hb) hsm.attrs)
  have HF1 := (show Hid _ from fun (w' : World) (hb : Below w.heap.size w w') => toEqR_any t.eqs v1 w' (h.eqs.still hb) hsm.eqs)
  obtain ⟨a0, p0, rfl, _⟩ := h.attrs.form
  obtain ⟨a1, p1, rfl, _⟩ := h.eqs.form
  clear h hsm
  have hbP := Box.new w 30 [.slice a0 t.attrs.length p0, .slice a1 t.eqs.length p1]
  have hbR := Box.new (w.alloc (.cells ([.slice a0 t.attrs.length p0, .slice a1 t.eqs.length p1] : List Value).toArray 30)) 42 [.slice none 0 0, .slice none 0 0]
  have hbO := Box.new ((w.alloc (.cells ([.slice a0 t.attrs.length p0, .slice a1 t.eqs.length p1] : List Value).toArray 30)).alloc (.cells ([.slice none 0 0, .slice none 0 0] : List Value).toArray 42)) 42 [.slice none 0 0, .slice none 0 0]
  simp only [World.size_alloc] at hbR hbO
  have hz : (((w.alloc (.cells ([.slice a0 t.attrs.length p0, .slice a1 t.eqs.length p1] : List Value).toArray 30)).alloc (.cells ([.slice none 0 0, .slice none 0 0] : List Value).toArray 42)).alloc (.cells ([.slice none 0 0, .slice none 0 0] : List Value).toArray 42)).heap.size = w.heap.size + 3 := by simp
  have HB := (show Hid _ from (⟨(hbP.still (bel_alloc _ _)).still (bel_alloc _ _), hbR.still (bel_alloc _ _), hbO, bel3 _ _ _ _, hz⟩ : Box (((w.alloc (.cells ([.slice a0 t.attrs.length p0, .slice a1 t.eqs.length p1] : List Value).toArray 30)).alloc (.cells ([.slice none 0 0, .slice none 0 0] : List Value).toArray 42)).alloc (.cells ([.slice none 0 0, .slice none 0 0] : List Value).toArray 42)) w.heap.size 30 [.slice a0 t.attrs.length p0, .slice a1 t.eqs.length p1] ∧ Box (((w.alloc (.cells ([.slice a0 t.attrs.length p0, .slice a1 t.eqs.length p1] : List Value).toArray 30)).alloc (.cells ([.slice none 0 0, .slice none 0 0] : List Value).toArray 42)).alloc (.cells ([.slice none 0 0, .slice none 0 0] : List Value).toArray 42)) (w.heap.size + 1) 42 [.slice none 0 0, .slice none 0 0] ∧ Box (((w.alloc (.cells ([.slice a0 t.attrs.length p0, .slice a1 t.eqs.length p1] : List Value).toArray 30)).alloc (.cells ([.slice none 0 0, .slice none 0 0] : List Value).toArray 42)).alloc (.cells ([.slice none 0 0, .slice none 0 0] : List Value).toArray 42)) (w.heap.size + 1 + 1) 42 [.slice none 0 0, .slice none 0 0] ∧ Below w.heap.size w (((w.alloc (.cells ([.slice a0 t.attrs.length p0, .slice a1 t.eqs.length p1] : List Value).toArray 30)).alloc (.cells ([.slice none 0 0, .slice none 0 0] : List Value).toArray 42)).alloc (.cells ([.slice none 0 0, .slice none 0 0] : List Value).toArray 42)) ∧ (((w.alloc (.cells ([.slice a0 t.attrs.length p0, .slice a1 t.eqs.length p1] : List Value).toArray 30)).alloc (.cells ([.slice none 0 0, .slice none 0 0] : List Value).toArray 42)).alloc (.cells ([.slice none 0 0, .slice none 0 0] : List Value).toArray 42)).heap.size = w.heap.size + 3))
  clear hbP hbR hbO hz
  go_enter Try.func8, Try.ntmps8
  go_wp2_with fail
  refine Calls.mono (HF0.out _ HB.out.2.2.2.1) ?_
  rintro e w0 ⟨u0, rfl, hb0, ho0⟩
  obtain ⟨au0, cu0, rfl, _⟩ := ho0.form
  have hq0 : w.heap.size + 3 ≤ w0.heap.size := by have h1 := hb0.size; simp only [World.size_alloc] at h1; omega
  have HN0 := (show Hid _ from (⟨HB.out.1.still hb0, HB.out.2.1.still hb0, HB.out.2.2.1.still hb0, bel_trans HB.out.2.2.2.1 hb0, ho0.mono (fun b hb => by have h1 : _ ≤ b := hb; simp only [World.size_alloc] at h1; show w.heap.size + 3 ≤ b; omega)⟩ : Box w0 w.heap.size 30 [.slice a0 t.attrs.length p0, .slice a1 t.eqs.length p1] ∧ Box w0 (w.heap.size + 1) 42 [.slice none 0 0, .slice none 0 0] ∧ Box w0 (w.heap.size + 1 + 1) 42 [.slice none 0 0, .slice none 0 0] ∧ Below w.heap.size w w0 ∧ AttrRO w0 (fun b => w.heap.size + 3 ≤ b) t.attrs (.slice au0 t.attrs.length cu0)))
  clear hb0 ho0
  have e0 : w0.cell? ⟨w.heap.size + 1 + 1, 0, none⟩ = some (.slice none 0 0) := HN0.out.2.2.1.cell 0 (by simp)
  have z0 := HN0.out.2.2.1.frozen 0
  have x1 : w0.cell? ⟨w.heap.size, 1, none⟩ = some (.slice a1 t.eqs.length p1) := HN0.out.1.cell 1 (by simp)
  go_wp2_with fail
  refine Calls.mono (HF1.out _ (Below.setCell HN0.out.2.2.2.1 (by dsimp only; omega) _)) ?_
  rintro e w1 ⟨u1, rfl, hb1, ho1⟩
  obtain ⟨au1, cu1, rfl, _⟩ := ho1.form
  clear e0 z0 x1
  have hq1 : w.heap.size + 3 ≤ w1.heap.size := by have h1 := hb1.size; simp only [World.size_setCell] at h1; omega
  have HN1 := (show Hid _ from (⟨(Box.past HN0.out.1 (by omega)).still hb1, (Box.past HN0.out.2.1 (by omega)).still hb1, (Box.set HN0.out.2.2.1 0 _).still hb1, bel_trans (Below.setCell HN0.out.2.2.2.1 (by dsimp only; omega) _) hb1, ho1.mono (fun b hb => by have h1 : _ ≤ b := hb; simp only [World.size_setCell] at h1; show w.heap.size + 3 ≤ b; omega), (AttrRO.keep HN0.out.2.2.2.2 (fun b hb _ => by have hb2 : w.heap.size + 3 ≤ b := hb; repeat rw [blk_setCell_other _ _ _ _ (by dsimp only; omega)])).still hb1⟩ : Box w1 w.heap.size 30 [.slice a0 t.attrs.length p0, .slice a1 t.eqs.length p1] ∧ Box w1 (w.heap.size + 1) 42 [.slice none 0 0, .slice none 0 0] ∧ Box w1 (w.heap.size + 1 + 1) 42 [.slice au0 t.attrs.length cu0, .slice none 0 0] ∧ Below w.heap.size w w1 ∧ EqRO w1 (fun b => w.heap.size + 3 ≤ b) t.eqs (.slice au1 t.eqs.length cu1) ∧ AttrRO w1 (fun b => w.heap.size + 3 ≤ b) t.attrs (.slice au0 t.attrs.length cu0)))
  clear hb1 ho1
  have e1 : w1.cell? ⟨w.heap.size + 1 + 1, 1, none⟩ = some (.slice none 0 0) := HN1.out.2.2.1.cell 1 (by simp)
  have z1 := HN1.out.2.2.1.frozen 1
  have y0 : w1.cell? ⟨w.heap.size + 1, 0, none⟩ = some (.slice none 0 0) := HN1.out.2.1.cell 0 (by simp)
  have f0 := HN1.out.2.1.frozen 0
  have y1 : w1.cell? ⟨w.heap.size + 1, 1, none⟩ = some (.slice none 0 0) := HN1.out.2.1.cell 1 (by simp)
  have f1 := HN1.out.2.1.frozen 1
  have e0 : w1.cell? ⟨w.heap.size + 1 + 1, 0, none⟩ = some (.slice au0 t.attrs.length cu0) := HN1.out.2.2.1.cell 0 (by simp)
  go_wp2_with fail
  refine bodyPost_ret (v := .agg #[.slice au0 t.attrs.length cu0, .slice au1 t.eqs.length cu1]) (by simp [results, Try.results8, go_sem, y0, y1]) rfl ⟨_, _, rfl, ?_, ⟨?_, ?_⟩⟩
  · repeat (refine Below.setCell ?_ (by dsimp only; omega) _)
    exact HN1.out.2.2.2.1
  · refine (AttrRO.keep HN1.out.2.2.2.2.2 (fun b hb _ => ?_)).mono (fun b hb => by have hb2 : w.heap.size + 3 ≤ b := hb; show w.heap.size ≤ b; omega)
    have hb2 : w.heap.size + 3 ≤ b := hb
    repeat rw [blk_setCell_other _ _ _ _ (by dsimp only; omega)]
  · refine (EqRO.keep HN1.out.2.2.2.2.1 (fun b hb _ => ?_)).mono (fun b hb => by have hb2 : w.heap.size + 3 ≤ b := hb; show w.heap.size ≤ b; omega)
    have hb2 : w.heap.size + 3 ≤ b := hb
    repeat rw [blk_setCell_other _ _ _ _ (by dsimp only; omega)]
end Go.Proofs.Ytnmdgbnbnpibhaa
