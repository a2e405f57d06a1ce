import Derived.Test.YtgjnlhidbjpdkajGreatSz
namespace Go.Proofs.YtgjnlhidbjpdkajGreat
open Go.RowKit Go.Deep
set_option linter.unusedVariables false
set_option maxRecDepth 100000
set_option linter.unusedSimpArgs false

theorem info3 : (Tryz.prog.info? 3).map (fun i => (i.zero, i.size, i.bytes)) = some (some (.int .i64 0), 1, 8) := by kernel_rfl
theorem run_makeInts (n : Nat) (hn : n ≤ 1048576) (w : World) :
    (Instr.makeSlice 83 (.int .i64 (n : Int)) (.int .i64 (n : Int))).run Tryz.prog w = .ok (.slice (some ⟨w.heap.size, 0, none⟩) n n) (w.alloc (.cells (madeCells #[.int .i64 0] (n)) 3)) := by
  obtain ⟨i, hi, hzz⟩ := Option.map_eq_some_iff.1 info3
  simp only [Prod.mk.injEq] at hzz
  obtain ⟨hz, hs, hb⟩ := hzz
  have hr := run_make (P := Tryz.prog) w 83 3 i _ Tryz.underlying83 hi hz .i64 .i64 n n (by omega) (Int.le_refl _) (by rw [hb]; omega) (by omega)
  simp only [Int.toNat_natCast, hs, Nat.mul_one] at hr
  exact hr
set_option maxHeartbeats 3200000 in
theorem toInts_any {S : Nat → Prop} (l : List Int) (v : Value) (w : World) (h : Ints w S l v) (hsm : Ints.Sm l) :
    Calls Tryz.prog 98 #[v] w fun e w' => ∃ v', e = .returned v' ∧ Below w.heap.size w w' ∧ IntsO w' (fun b => w.heap.size ≤ b) l v' := by
  obtain ⟨a, cap, b, off, rfl, hc, hm, ha, hcell⟩ := h
  have HC := (show Hid _ from hcell); clear hcell
  have HA := (show Hid _ from ha); clear ha
  have hlen : l.length ≤ 1048576 := hsm
  clear hsm
  unfold maxLen at hm
  have hmk := run_makeInts l.length hlen
  go_enter Tryz.func98, Tryz.ntmps98
  go_wp2_with fail
  go_loopw [4] (fun i wr => ∃ j : Nat, j ≤ l.length ∧ i = .int .i64 j ∧ Below w.heap.size w wr ∧ Hid (∃ f, wr.rowIs w.heap.size 3 (l.length) f ∧ ∀ i (_ : i < j) (hi : i < l.length), (f (i) = .int .i64 l[i]))) (fun i _ => l.length - (intOf i).toNat)
  case atStart =>
    obtain ⟨f, hf⟩ := row_made w #[.int .i64 0] (l.length) 3
    exact ⟨0, Nat.zero_le _, rfl, bel_alloc _ _, f, hf, fun i hi => absurd hi (Nat.not_lt_zero _)⟩
  case round =>
    obtain ⟨j, hj, rfl, hbel, HM⟩ := hrel
    by_cases hlt : j < l.length
    · obtain ⟨rfl, _⟩ := HA.out (by omega)
      have c0 := HC.out j (by omega)
      rw [← hbel.cell (lt_of_cell c0)] at c0
      obtain ⟨f, hrow, hf⟩ := HM.out
      have hg := World.rowIs.lt hrow
      have hrow1 := hrow
      have hbw := hbel
      have e0 := hrow1.cell (i := j) (by omega)
      have z0 := hrow1.frozen (j)
      have hf1 : ∀ i (_ : i < j) (hi : i < l.length), (f (i) = .int .i64 l[i]) := hf
      have HN := (show Hid _ from (⟨hrow1, hf1⟩ : _ ∧ _)); clear hrow hf hrow1 hf1 hg HM 
      go_wp2_with fail
      refine ⟨⟨j + 1, by omega, by go_num, (Below.setCell hbw (Nat.le_refl _) _), _, (World.rowIs.set HN.out.1 (j) _), fun i hi hl => ?_⟩, by simp [intOf]; omega⟩
      by_cases e : i = j
      · subst e
        simp
      · have g0 := HN.out.2 i (by omega) hl
        exact by rw [if_neg (by omega)]; exact g0
    · go_wp2_with fail
      go_ret
      obtain ⟨f, hrow, hf⟩ := HM.out
      exact ⟨_, rfl, hbel, w.heap.size, f, rfl, Nat.le_refl _, hlen, hrow, fun i hi => hf i (by omega) hi⟩
theorem info9 : (Tryz.prog.info? 9).map (fun i => (i.zero, i.size, i.bytes)) = some (some (.string ByteArray.empty), 1, 16) := by kernel_rfl
theorem run_makeStrs (n : Nat) (hn : n ≤ 1048576) (w : World) :
    (Instr.makeSlice 47 (.int .i64 (n : Int)) (.int .i64 (n : Int))).run Tryz.prog w = .ok (.slice (some ⟨w.heap.size, 0, none⟩) n n) (w.alloc (.cells (madeCells #[.string ByteArray.empty] (n)) 9)) := by
  obtain ⟨i, hi, hzz⟩ := Option.map_eq_some_iff.1 info9
  simp only [Prod.mk.injEq] at hzz
  obtain ⟨hz, hs, hb⟩ := hzz
  have hr := run_make (P := Tryz.prog) w 47 9 i _ Tryz.underlying47 hi hz .i64 .i64 n n (by omega) (Int.le_refl _) (by rw [hb]; omega) (by omega)
  simp only [Int.toNat_natCast, hs, Nat.mul_one] at hr
  exact hr
set_option maxHeartbeats 3200000 in
theorem toStrs_any {S : Nat → Prop} (l : List ByteArray) (v : Value) (w : World) (h : Strs w S l v) (hsm : Strs.Sm l) :
    Calls Tryz.prog 73 #[v] w fun e w' => ∃ v', e = .returned v' ∧ Below w.heap.size w w' ∧ StrsO w' (fun b => w.heap.size ≤ b) l v' := by
  obtain ⟨a, cap, b, off, rfl, hc, hm, ha, hcell⟩ := h
  have HC := (show Hid _ from hcell); clear hcell
  have HA := (show Hid _ from ha); clear ha
  have hlen : l.length ≤ 1048576 := hsm.1
  have HSM := (show Hid _ from hsm.2)
  clear hsm
  unfold maxLen at hm
  have hmk := run_makeStrs l.length hlen
  go_enter Tryz.func73, Tryz.ntmps73
  go_wp2_with fail
  go_loopw [4] (fun i wr => ∃ j : Nat, j ≤ l.length ∧ i = .int .i64 j ∧ Below w.heap.size w wr ∧ Hid (∃ f, wr.rowIs w.heap.size 9 (l.length) f ∧ ∀ i (_ : i < j) (hi : i < l.length), (f (i) = .string l[i]))) (fun i _ => l.length - (intOf i).toNat)
  case atStart =>
    obtain ⟨f, hf⟩ := row_made w #[.string ByteArray.empty] (l.length) 9
    exact ⟨0, Nat.zero_le _, rfl, bel_alloc _ _, f, hf, fun i hi => absurd hi (Nat.not_lt_zero _)⟩
  case round =>
    obtain ⟨j, hj, rfl, hbel, HM⟩ := hrel
    by_cases hlt : j < l.length
    · obtain ⟨rfl, _⟩ := HA.out (by omega)
      obtain ⟨c0, zc0⟩ := HC.out j (by omega)
      rw [← hbel.cell (lt_of_cell c0)] at c0
      obtain ⟨f, hrow, hf⟩ := HM.out
      have hg := World.rowIs.lt hrow
      have hrow1 := hrow
      have hbw := hbel
      have e0 := hrow1.cell (i := j) (by omega)
      have z0 := hrow1.frozen (j)
      have hf1 : ∀ i (_ : i < j) (hi : i < l.length), (f (i) = .string l[i]) := hf
      have HN := (show Hid _ from (⟨hrow1, hf1⟩ : _ ∧ _)); clear hrow hf hrow1 hf1 hg HM 
      go_wp2_with fail
      refine ⟨⟨j + 1, by omega, by go_num, (Below.setCell hbw (Nat.le_refl _) _), _, (World.rowIs.set HN.out.1 (j) _), fun i hi hl => ?_⟩, by simp [intOf]; omega⟩
      by_cases e : i = j
      · subst e
        simp
      · have g0 := HN.out.2 i (by omega) hl
        exact by rw [if_neg (by omega)]; exact g0
    · go_wp2_with fail
      go_ret
      obtain ⟨f, hrow, hf⟩ := HM.out
      exact ⟨_, rfl, hbel, w.heap.size, f, rfl, Nat.le_refl _, hlen, hrow, fun i hi => by obtain ⟨_, z0⟩ := HC.out i hi; exact ⟨hf i (by omega) hi, z0⟩⟩
theorem info83 : (Tryz.prog.info? 83).map (fun i => (i.zero, i.size, i.bytes)) = some (some (.slice none 0 0), 1, 24) := by kernel_rfl
theorem run_makeIRws (n : Nat) (hn : n ≤ 1048576) (w : World) :
    (Instr.makeSlice 75 (.int .i64 (n : Int)) (.int .i64 (n : Int))).run Tryz.prog w = .ok (.slice (some ⟨w.heap.size, 0, none⟩) n n) (w.alloc (.cells (madeCells #[.slice none 0 0] (n)) 83)) := by
  obtain ⟨i, hi, hzz⟩ := Option.map_eq_some_iff.1 info83
  simp only [Prod.mk.injEq] at hzz
  obtain ⟨hz, hs, hb⟩ := hzz
  have hr := run_make (P := Tryz.prog) w 75 83 i _ Tryz.underlying75 hi hz .i64 .i64 n n (by omega) (Int.le_refl _) (by rw [hb]; omega) (by omega)
  simp only [Int.toNat_natCast, hs, Nat.mul_one] at hr
  exact hr
set_option maxHeartbeats 3200000 in
theorem toIRws_any {S : Nat → Prop} (l : List (List Int)) (v : Value) (w : World) (h : IRws w S l v) (hsm : IRws.Sm l) :
    Calls Tryz.prog 75 #[v] w fun e w' => ∃ v', e = .returned v' ∧ Below w.heap.size w w' ∧ IRwsO w' (fun b => w.heap.size ≤ b) l v' := by
  obtain ⟨a, cap, b, off, s0, rfl, hc, hm, ha, hcell, r0⟩ := h
  have HC := (show Hid _ from hcell); clear hcell
  have HA := (show Hid _ from ha); clear ha
  have HR0 := (show Hid _ from r0); clear r0
  have hlen : l.length ≤ 1048576 := hsm.1
  have HSM := (show Hid _ from hsm.2)
  clear hsm
  unfold maxLen at hm
  have hmk := run_makeIRws l.length hlen
  go_enter Tryz.func75, Tryz.ntmps75
  go_wp2_with fail
  go_loopw [4] (fun i wr => ∃ j : Nat, j ≤ l.length ∧ i = .int .i64 j ∧ Below w.heap.size w wr ∧ Hid (∃ f, wr.rowIs w.heap.size 83 (l.length) f ∧ ∀ i (_ : i < j) (hi : i < l.length), IntsO wr (fun b => w.heap.size < b) l[i] (f (i)))) (fun i _ => l.length - (intOf i).toNat)
  case atStart =>
    obtain ⟨f, hf⟩ := row_made w #[.slice none 0 0] (l.length) 83
    exact ⟨0, Nat.zero_le _, rfl, bel_alloc _ _, f, hf, fun i hi => absurd hi (Nat.not_lt_zero _)⟩
  case round =>
    obtain ⟨j, hj, rfl, hbel, HM⟩ := hrel
    by_cases hlt : j < l.length
    · obtain ⟨rfl, _⟩ := HA.out (by omega)
      have c0 := HC.out j (by omega)
      rw [← hbel.cell (lt_of_cell c0)] at c0
      have hcl := toInts_any l[j] _ wr ((HR0.out j hlt).still hbel) (HSM.out j hlt)
      obtain ⟨a0x, cap0x, e0x, _⟩ := (HR0.out j hlt).form
      rw [e0x] at c0 hcl
      clear e0x
      have HCL := (show Hid _ from hcl); clear hcl
      go_wp2_with fail
      refine Calls.mono HCL.out ?_
      rintro e w1 ⟨u0, rfl, hb1, o0⟩
      obtain ⟨au0, cu0, rfl, _⟩ := o0.form
      obtain ⟨f, hrow, hf⟩ := HM.out
      have hg := World.rowIs.lt hrow
      have hrow1 := World.rowIs.of_block hrow (hb1.block _ hg)
      have hbw := bel_trans hbel hb1
      have e0 := hrow1.cell (i := j) (by omega)
      have z0 := hrow1.frozen (j)
      have hf1 : ∀ i (_ : i < j) (hi : i < l.length), IntsO w1 (fun b => w.heap.size < b) l[i] (f (i)) := fun i h1 h2 => (hf i h1 h2).still hb1
      have hn0 : IntsO w1 (fun b => w.heap.size < b) l[j] (.slice au0 l[j].length cu0) := o0.mono (fun b hb => Nat.lt_of_lt_of_le hg hb)
      have HN := (show Hid _ from (⟨hrow1, hf1, hn0⟩ : _ ∧ _ ∧ _)); clear hrow hf hrow1 hf1 hg HM c0 hn0 o0
      go_wp2_with fail
      have hkeep : ∀ b, w.heap.size < b → (w1.setCell ⟨w.heap.size, j, none⟩ (.slice au0 l[j].length cu0)).heap[b]? = w1.heap[b]? := fun b hb => by repeat rw [blk_setCell_other _ _ _ _ (by dsimp only; omega)]
      refine ⟨⟨j + 1, by omega, by go_num, (Below.setCell hbw (Nat.le_refl _) _), _, (World.rowIs.set HN.out.1 (j) _), fun i hi hl => ?_⟩, by simp [intOf]; omega⟩
      by_cases e : i = j
      · subst e
        simp
        exact IntsO.keep HN.out.2.2 (fun b hb _ => hkeep b hb)
      · have k0 := HN.out.2.1 i (by omega) hl
        rw [if_neg (by omega)]
        exact IntsO.keep k0 (fun b hb _ => hkeep b hb)
    · go_wp2_with fail
      go_ret
      obtain ⟨f, hrow, hf⟩ := HM.out
      exact ⟨_, rfl, hbel, w.heap.size, f, rfl, Nat.le_refl _, hlen, hrow, fun i hi => (hf i (by omega) hi).mono (fun _ hb => Nat.le_of_lt hb)⟩
set_option maxHeartbeats 800000 in
theorem toToken_any (t : DToken) (w : World) :
    Calls Tryz.prog 37 #[.agg #[.string t.name, .string t.rx, .bool t.skip]] w fun e w' => e = .returned (.agg #[.string t.name, .string t.rx, .bool t.skip]) ∧ Below w.heap.size w w' := by
  go_enter Tryz.func37, Tryz.ntmps37
  go_wp2_with fail
  exact bodyPost_ret (v := .agg #[.string t.name, .string t.rx, .bool t.skip]) (by simp [results, Tryz.results37, go_sem]) rfl ⟨rfl, bel3 _ _ _ _⟩
theorem info46 : (Tryz.prog.info? 46).map (fun i => (i.zero, i.size, i.bytes)) = some (some (.agg #[.string ByteArray.empty, .string ByteArray.empty, .bool false]), 3, 40) := by kernel_rfl
theorem run_makeTokenR (n : Nat) (hn : n ≤ 1048576) (w : World) :
    (Instr.makeSlice 31 (.int .i64 (n : Int)) (.int .i64 (n : Int))).run Tryz.prog w = .ok (.slice (some ⟨w.heap.size, 0, none⟩) n n) (w.alloc (.cells (madeCells #[.string ByteArray.empty, .string ByteArray.empty, .bool false] (n * 3)) 46)) := by
  obtain ⟨i, hi, hzz⟩ := Option.map_eq_some_iff.1 info46
  simp only [Prod.mk.injEq] at hzz
  obtain ⟨hz, hs, hb⟩ := hzz
  have hr := run_make (P := Tryz.prog) w 31 46 i _ Tryz.underlying31 hi hz .i64 .i64 n n (by omega) (Int.le_refl _) (by rw [hb]; omega) (by omega)
  simp only [Int.toNat_natCast, hs] at hr
  exact hr
set_option maxHeartbeats 3200000 in
theorem toTokenR_any {S : Nat → Prop} (l : List DToken) (v : Value) (w : World) (h : TokenR w S l v) (hsm : TokenR.Sm l) :
    Calls Tryz.prog 16 #[v] w fun e w' => ∃ v', e = .returned v' ∧ Below w.heap.size w w' ∧ TokenRO w' (fun b => w.heap.size ≤ b) l v' := by
  obtain ⟨a, cap, b, off, rfl, hc, hm, ha, hcell⟩ := h
  have HC := (show Hid _ from hcell); clear hcell
  have HA := (show Hid _ from ha); clear ha
  have hlen : l.length ≤ 1048576 := hsm.1
  have HSM := (show Hid _ from hsm.2)
  clear hsm
  unfold maxLen at hm
  have hmk := run_makeTokenR l.length hlen
  go_enter Tryz.func16, Tryz.ntmps16
  go_wp2_with fail
  go_loopw [4] (fun i wr => ∃ j : Nat, j ≤ l.length ∧ i = .int .i64 j ∧ Below w.heap.size w wr ∧ Hid (∃ f, wr.rowIs w.heap.size 46 (l.length * 3) f ∧ ∀ i (_ : i < j) (hi : i < l.length), (f (i * 3) = .string l[i].name ∧ f (i * 3 + 1) = .string l[i].rx ∧ f (i * 3 + 2) = .bool l[i].skip))) (fun i _ => l.length - (intOf i).toNat)
  case atStart =>
    obtain ⟨f, hf⟩ := row_made w #[.string ByteArray.empty, .string ByteArray.empty, .bool false] (l.length * 3) 46
    exact ⟨0, Nat.zero_le _, rfl, bel_alloc _ _, f, hf, fun i hi => absurd hi (Nat.not_lt_zero _)⟩
  case round =>
    obtain ⟨j, hj, rfl, hbel, HM⟩ := hrel
    by_cases hlt : j < l.length
    · obtain ⟨rfl, _⟩ := HA.out (by omega)
      obtain ⟨c0, c1, c2, zc0, zc1⟩ := HC.out j (by omega)
      rw [← hbel.cell (lt_of_cell c0)] at c0
      rw [← hbel.cell (lt_of_cell c1)] at c1
      rw [← hbel.cell (lt_of_cell c2)] at c2
      have hcl := toToken_any l[j] wr
      have HCL := (show Hid _ from hcl); clear hcl
      go_wp2_with fail
      refine Calls.mono HCL.out ?_
      rintro e w1 ⟨rfl, hb1⟩
      obtain ⟨f, hrow, hf⟩ := HM.out
      have hg := World.rowIs.lt hrow
      have hrow1 := World.rowIs.of_block hrow (hb1.block _ hg)
      have hbw := bel_trans hbel hb1
      have e0 := hrow1.cell (i := j * 3) (by omega)
      have z0 := hrow1.frozen (j * 3)
      have e1 := hrow1.cell (i := j * 3 + 1) (by omega)
      have z1 := hrow1.frozen (j * 3 + 1)
      have e2 := hrow1.cell (i := j * 3 + 2) (by omega)
      have z2 := hrow1.frozen (j * 3 + 2)
      have hf1 : ∀ i (_ : i < j) (hi : i < l.length), (f (i * 3) = .string l[i].name ∧ f (i * 3 + 1) = .string l[i].rx ∧ f (i * 3 + 2) = .bool l[i].skip) := hf
      have HN := (show Hid _ from (⟨hrow1, hf1⟩ : _ ∧ _)); clear hrow hf hrow1 hf1 hg HM c0 c1 c2
      go_wp2_with fail
      refine ⟨⟨j + 1, by omega, by go_num, (Below.setCell (Below.setCell (Below.setCell hbw (Nat.le_refl _) _) (Nat.le_refl _) _) (Nat.le_refl _) _), _, (World.rowIs.set (World.rowIs.set (World.rowIs.set HN.out.1 (j * 3) _) (j * 3 + 1) _) (j * 3 + 2) _), fun i hi hl => ?_⟩, by simp [intOf]; omega⟩
      by_cases e : i = j
      · subst e
        simp
      · obtain ⟨g0, g1, g2⟩ := HN.out.2 i (by omega) hl
        exact ⟨by rw [if_neg (by omega), if_neg (by omega), if_neg (by omega)]; exact g0, by rw [if_neg (by omega), if_neg (by omega), if_neg (by omega)]; exact g1, by rw [if_neg (by omega), if_neg (by omega), if_neg (by omega)]; exact g2⟩
    · go_wp2_with fail
      go_ret
      obtain ⟨f, hrow, hf⟩ := HM.out
      exact ⟨_, rfl, hbel, w.heap.size, f, rfl, Nat.le_refl _, hlen, hrow, fun i hi => by obtain ⟨_, _, _, z0, z1⟩ := HC.out i hi; obtain ⟨g0, g1, g2⟩ := hf i (by omega) hi; exact ⟨g0, g1, g2, z0, z1⟩⟩
set_option maxHeartbeats 6400000 in
theorem toLevel_any {S : Nat → Prop} (t : DLevel) (v1 : Value) (w : World) (h : DLevelL w S t v1) (hsm : t.Sm) :
    Calls Tryz.prog 38 #[.agg #[.int .i64 t.assoc, v1]] w fun e w' => ∃ u1, e = .returned (.agg #[.int .i64 t.assoc, u1]) ∧ Below w.heap.size w w' ∧ DLevelO w' (fun b => w.heap.size ≤ b) t u1 := by
  have HF1 := (show Hid _ from fun (w' : World) (hb : Below w.heap.size w w') => toStrs_any t.lits v1 w' (h.lits.still hb) hsm.lits)
  obtain ⟨a1, p1, rfl, _⟩ := h.lits.form
  clear h hsm
  have hbP := Box.new w 69 [.int .i64 t.assoc, .slice a1 t.lits.length p1]
  have hbR := Box.new (w.alloc (.cells ([.int .i64 t.assoc, .slice a1 t.lits.length p1] : List Value).toArray 69)) 49 [.int .i64 0, .slice none 0 0]
  have hbO := Box.new ((w.alloc (.cells ([.int .i64 t.assoc, .slice a1 t.lits.length p1] : List Value).toArray 69)).alloc (.cells ([.int .i64 0, .slice none 0 0] : List Value).toArray 49)) 49 [.int .i64 t.assoc, .slice none 0 0]
  simp only [World.size_alloc] at hbR hbO
  have hz : (((w.alloc (.cells ([.int .i64 t.assoc, .slice a1 t.lits.length p1] : List Value).toArray 69)).alloc (.cells ([.int .i64 0, .slice none 0 0] : List Value).toArray 49)).alloc (.cells ([.int .i64 t.assoc, .slice none 0 0] : List Value).toArray 49)).heap.size = w.heap.size + 3 := by simp
  have HB := (show Hid _ from (⟨(hbP.still (bel_alloc _ _)).still (bel_alloc _ _), hbR.still (bel_alloc _ _), hbO, bel3 _ _ _ _, hz⟩ : Box (((w.alloc (.cells ([.int .i64 t.assoc, .slice a1 t.lits.length p1] : List Value).toArray 69)).alloc (.cells ([.int .i64 0, .slice none 0 0] : List Value).toArray 49)).alloc (.cells ([.int .i64 t.assoc, .slice none 0 0] : List Value).toArray 49)) w.heap.size 69 [.int .i64 t.assoc, .slice a1 t.lits.length p1] ∧ Box (((w.alloc (.cells ([.int .i64 t.assoc, .slice a1 t.lits.length p1] : List Value).toArray 69)).alloc (.cells ([.int .i64 0, .slice none 0 0] : List Value).toArray 49)).alloc (.cells ([.int .i64 t.assoc, .slice none 0 0] : List Value).toArray 49)) (w.heap.size + 1) 49 [.int .i64 0, .slice none 0 0] ∧ Box (((w.alloc (.cells ([.int .i64 t.assoc, .slice a1 t.lits.length p1] : List Value).toArray 69)).alloc (.cells ([.int .i64 0, .slice none 0 0] : List Value).toArray 49)).alloc (.cells ([.int .i64 t.assoc, .slice none 0 0] : List Value).toArray 49)) (w.heap.size + 1 + 1) 49 [.int .i64 t.assoc, .slice none 0 0] ∧ Below w.heap.size w (((w.alloc (.cells ([.int .i64 t.assoc, .slice a1 t.lits.length p1] : List Value).toArray 69)).alloc (.cells ([.int .i64 0, .slice none 0 0] : List Value).toArray 49)).alloc (.cells ([.int .i64 t.assoc, .slice none 0 0] : List Value).toArray 49)) ∧ (((w.alloc (.cells ([.int .i64 t.assoc, .slice a1 t.lits.length p1] : List Value).toArray 69)).alloc (.cells ([.int .i64 0, .slice none 0 0] : List Value).toArray 49)).alloc (.cells ([.int .i64 t.assoc, .slice none 0 0] : List Value).toArray 49)).heap.size = w.heap.size + 3))
  clear hbP hbR hbO hz
  go_enter Tryz.func38, Tryz.ntmps38
  go_wp2_with fail
  refine Calls.mono (HF1.out _ HB.out.2.2.2.1) ?_
  rintro e w1 ⟨u1, rfl, hb1, ho1⟩
  obtain ⟨au1, cu1, rfl, _⟩ := ho1.form
  have hq1 : w.heap.size + 3 ≤ w1.heap.size := by have h1 := hb1.size; simp only [World.size_alloc] at h1; omega
  have HN1 := (show Hid _ from (⟨HB.out.1.still hb1, HB.out.2.1.still hb1, HB.out.2.2.1.still hb1, bel_trans HB.out.2.2.2.1 hb1, ho1.mono (fun b hb => by have h1 : _ ≤ b := hb; simp only [World.size_alloc] at h1; show w.heap.size + 3 ≤ b; omega)⟩ : Box w1 w.heap.size 69 [.int .i64 t.assoc, .slice a1 t.lits.length p1] ∧ Box w1 (w.heap.size + 1) 49 [.int .i64 0, .slice none 0 0] ∧ Box w1 (w.heap.size + 1 + 1) 49 [.int .i64 t.assoc, .slice none 0 0] ∧ Below w.heap.size w w1 ∧ StrsO w1 (fun b => w.heap.size + 3 ≤ b) t.lits (.slice au1 t.lits.length cu1)))
  clear hb1 ho1
  have e1 : w1.cell? ⟨w.heap.size + 1 + 1, 1, none⟩ = some (.slice none 0 0) := HN1.out.2.2.1.cell 1 (by simp)
  have z1 := HN1.out.2.2.1.frozen 1
  have y0 : w1.cell? ⟨w.heap.size + 1, 0, none⟩ = some (.int .i64 0) := HN1.out.2.1.cell 0 (by simp)
  have f0 := HN1.out.2.1.frozen 0
  have y1 : w1.cell? ⟨w.heap.size + 1, 1, none⟩ = some (.slice none 0 0) := HN1.out.2.1.cell 1 (by simp)
  have f1 := HN1.out.2.1.frozen 1
  have e0 : w1.cell? ⟨w.heap.size + 1 + 1, 0, none⟩ = some (.int .i64 t.assoc) := HN1.out.2.2.1.cell 0 (by simp)
  go_wp2_with fail
  refine bodyPost_ret (v := .agg #[.int .i64 t.assoc, .slice au1 t.lits.length cu1]) (by simp [results, Tryz.results38, go_sem, y0, y1]) rfl ⟨_, rfl, ?_, ⟨?_⟩⟩
  · repeat (refine Below.setCell ?_ (by dsimp only; omega) _)
    exact HN1.out.2.2.2.1
  · refine (StrsO.keep HN1.out.2.2.2.2 (fun b hb _ => ?_)).mono (fun b hb => by have hb2 : w.heap.size + 3 ≤ b := hb; show w.heap.size ≤ b; omega)
    have hb2 : w.heap.size + 3 ≤ b := hb
    repeat rw [blk_setCell_other _ _ _ _ (by dsimp only; omega)]
theorem info49 : (Tryz.prog.info? 49).map (fun i => (i.zero, i.size, i.bytes)) = some (some (.agg #[.int .i64 0, .slice none 0 0]), 2, 32) := by kernel_rfl
theorem run_makeLevelR (n : Nat) (hn : n ≤ 1048576) (w : World) :
    (Instr.makeSlice 32 (.int .i64 (n : Int)) (.int .i64 (n : Int))).run Tryz.prog w = .ok (.slice (some ⟨w.heap.size, 0, none⟩) n n) (w.alloc (.cells (madeCells #[.int .i64 0, .slice none 0 0] (n * 2)) 49)) := by
  obtain ⟨i, hi, hzz⟩ := Option.map_eq_some_iff.1 info49
  simp only [Prod.mk.injEq] at hzz
  obtain ⟨hz, hs, hb⟩ := hzz
  have hr := run_make (P := Tryz.prog) w 32 49 i _ Tryz.underlying32 hi hz .i64 .i64 n n (by omega) (Int.le_refl _) (by rw [hb]; omega) (by omega)
  simp only [Int.toNat_natCast, hs] at hr
  exact hr
set_option maxHeartbeats 3200000 in
theorem toLevelR_any {S : Nat → Prop} (l : List DLevel) (v : Value) (w : World) (h : LevelR w S l v) (hsm : LevelR.Sm l) :
    Calls Tryz.prog 17 #[v] w fun e w' => ∃ v', e = .returned v' ∧ Below w.heap.size w w' ∧ LevelRO w' (fun b => w.heap.size ≤ b) l v' := by
  obtain ⟨a, cap, b, off, s1, rfl, hc, hm, ha, hcell, r1⟩ := h
  have HC := (show Hid _ from hcell); clear hcell
  have HA := (show Hid _ from ha); clear ha
  have HR1 := (show Hid _ from r1); clear r1
  have hlen : l.length ≤ 1048576 := hsm.1
  have HSM := (show Hid _ from hsm.2)
  clear hsm
  unfold maxLen at hm
  have hmk := run_makeLevelR l.length hlen
  go_enter Tryz.func17, Tryz.ntmps17
  go_wp2_with fail
  go_loopw [4] (fun i wr => ∃ j : Nat, j ≤ l.length ∧ i = .int .i64 j ∧ Below w.heap.size w wr ∧ Hid (∃ f, wr.rowIs w.heap.size 49 (l.length * 2) f ∧ ∀ i (_ : i < j) (hi : i < l.length), (f (i * 2) = .int .i64 l[i].assoc) ∧ StrsO wr (fun b => w.heap.size < b) l[i].lits (f (i * 2 + 1)))) (fun i _ => l.length - (intOf i).toNat)
  case atStart =>
    obtain ⟨f, hf⟩ := row_made w #[.int .i64 0, .slice none 0 0] (l.length * 2) 49
    exact ⟨0, Nat.zero_le _, rfl, bel_alloc _ _, f, hf, fun i hi => absurd hi (Nat.not_lt_zero _)⟩
  case round =>
    obtain ⟨j, hj, rfl, hbel, HM⟩ := hrel
    by_cases hlt : j < l.length
    · obtain ⟨rfl, _⟩ := HA.out (by omega)
      obtain ⟨c0, c1⟩ := HC.out j (by omega)
      rw [← hbel.cell (lt_of_cell c0)] at c0
      rw [← hbel.cell (lt_of_cell c1)] at c1
      have hcl := toLevel_any l[j] _ wr ⟨(HR1.out j hlt).still hbel⟩ (HSM.out j hlt)
      obtain ⟨a1x, cap1x, e1x, _⟩ := (HR1.out j hlt).form
      rw [e1x] at c1 hcl
      clear e1x
      have HCL := (show Hid _ from hcl); clear hcl
      go_wp2_with fail
      refine Calls.mono HCL.out ?_
      rintro e w1 ⟨u1, rfl, hb1, ⟨o1⟩⟩
      obtain ⟨au1, cu1, rfl, _⟩ := o1.form
      obtain ⟨f, hrow, hf⟩ := HM.out
      have hg := World.rowIs.lt hrow
      have hrow1 := World.rowIs.of_block hrow (hb1.block _ hg)
      have hbw := bel_trans hbel hb1
      have e0 := hrow1.cell (i := j * 2) (by omega)
      have z0 := hrow1.frozen (j * 2)
      have e1 := hrow1.cell (i := j * 2 + 1) (by omega)
      have z1 := hrow1.frozen (j * 2 + 1)
      have hf1 : ∀ i (_ : i < j) (hi : i < l.length), (f (i * 2) = .int .i64 l[i].assoc) ∧ StrsO w1 (fun b => w.heap.size < b) l[i].lits (f (i * 2 + 1)) := fun i h1 h2 => ⟨(hf i h1 h2).1, (hf i h1 h2).2.still hb1⟩
      have hn1 : StrsO w1 (fun b => w.heap.size < b) l[j].lits (.slice au1 l[j].lits.length cu1) := o1.mono (fun b hb => Nat.lt_of_lt_of_le hg hb)
      have HN := (show Hid _ from (⟨hrow1, hf1, hn1⟩ : _ ∧ _ ∧ _)); clear hrow hf hrow1 hf1 hg HM c0 c1 hn1 o1
      go_wp2_with fail
      have hkeep : ∀ b, w.heap.size < b → ((w1.setCell ⟨w.heap.size, j * 2, none⟩ (.int .i64 l[j].assoc)).setCell ⟨w.heap.size, j * 2 + 1, none⟩ (.slice au1 l[j].lits.length cu1)).heap[b]? = w1.heap[b]? := fun b hb => by repeat rw [blk_setCell_other _ _ _ _ (by dsimp only; omega)]
      refine ⟨⟨j + 1, by omega, by go_num, (Below.setCell (Below.setCell hbw (Nat.le_refl _) _) (Nat.le_refl _) _), _, (World.rowIs.set (World.rowIs.set HN.out.1 (j * 2) _) (j * 2 + 1) _), fun i hi hl => ?_⟩, by simp [intOf]; omega⟩
      by_cases e : i = j
      · subst e
        exact ⟨by simp, (by simp; exact StrsO.keep HN.out.2.2 (fun b hb _ => hkeep b hb))⟩
      · obtain ⟨g0, k1⟩ := HN.out.2.1 i (by omega) hl
        exact ⟨by rw [if_neg (by omega), if_neg (by omega)]; exact g0, (by rw [if_neg (by omega), if_neg (by omega)]; exact StrsO.keep k1 (fun b hb _ => hkeep b hb))⟩
    · go_wp2_with fail
      go_ret
      obtain ⟨f, hrow, hf⟩ := HM.out
      exact ⟨_, rfl, hbel, w.heap.size, f, rfl, Nat.le_refl _, hlen, hrow, fun i hi => (hf i (by omega) hi).1, fun i hi => (hf i (by omega) hi).2.mono (fun _ hb => Nat.le_of_lt hb)⟩
set_option maxHeartbeats 6400000 in
theorem toGAlt_any {S : Nat → Prop} (t : DGAlt) (v0 : Value) (w : World) (h : DGAltL w S t v0) (hsm : t.Sm) :
    Calls Tryz.prog 97 #[.agg #[v0, .string t.label]] w fun e w' => ∃ u0, e = .returned (.agg #[u0, .string t.label]) ∧ Below w.heap.size w w' ∧ DGAltO w' (fun b => w.heap.size ≤ b) t u0 := by
  have HF0 := (show Hid _ from fun (w' : World) (hb : Below w.heap.size w w') => toInts_any t.items v0 w' (h.items.still hb) hsm.items)
  obtain ⟨a0, p0, rfl, _⟩ := h.items.form
  clear h hsm
  have hbP := Box.new w 135 [.slice a0 t.items.length p0, .string t.label]
  have hbR := Box.new (w.alloc (.cells ([.slice a0 t.items.length p0, .string t.label] : List Value).toArray 135)) 85 [.slice none 0 0, .string ByteArray.empty]
  have hbO := Box.new ((w.alloc (.cells ([.slice a0 t.items.length p0, .string t.label] : List Value).toArray 135)).alloc (.cells ([.slice none 0 0, .string ByteArray.empty] : List Value).toArray 85)) 85 [.slice none 0 0, .string ByteArray.empty]
  simp only [World.size_alloc] at hbR hbO
  have hz : (((w.alloc (.cells ([.slice a0 t.items.length p0, .string t.label] : List Value).toArray 135)).alloc (.cells ([.slice none 0 0, .string ByteArray.empty] : List Value).toArray 85)).alloc (.cells ([.slice none 0 0, .string ByteArray.empty] : List Value).toArray 85)).heap.size = w.heap.size + 3 := by simp
  have HB := (show Hid _ from (⟨(hbP.still (bel_alloc _ _)).still (bel_alloc _ _), hbR.still (bel_alloc _ _), hbO, bel3 _ _ _ _, hz⟩ : Box (((w.alloc (.cells ([.slice a0 t.items.length p0, .string t.label] : List Value).toArray 135)).alloc (.cells ([.slice none 0 0, .string ByteArray.empty] : List Value).toArray 85)).alloc (.cells ([.slice none 0 0, .string ByteArray.empty] : List Value).toArray 85)) w.heap.size 135 [.slice a0 t.items.length p0, .string t.label] ∧ Box (((w.alloc (.cells ([.slice a0 t.items.length p0, .string t.label] : List Value).toArray 135)).alloc (.cells ([.slice none 0 0, .string ByteArray.empty] : List Value).toArray 85)).alloc (.cells ([.slice none 0 0, .string ByteArray.empty] : List Value).toArray 85)) (w.heap.size + 1) 85 [.slice none 0 0, .string ByteArray.empty] ∧ Box (((w.alloc (.cells ([.slice a0 t.items.length p0, .string t.label] : List Value).toArray 135)).alloc (.cells ([.slice none 0 0, .string ByteArray.empty] : List Value).toArray 85)).alloc (.cells ([.slice none 0 0, .string ByteArray.empty] : List Value).toArray 85)) (w.heap.size + 1 + 1) 85 [.slice none 0 0, .string ByteArray.empty] ∧ Below w.heap.size w (((w.alloc (.cells ([.slice a0 t.items.length p0, .string t.label] : List Value).toArray 135)).alloc (.cells ([.slice none 0 0, .string ByteArray.empty] : List Value).toArray 85)).alloc (.cells ([.slice none 0 0, .string ByteArray.empty] : List Value).toArray 85)) ∧ (((w.alloc (.cells ([.slice a0 t.items.length p0, .string t.label] : List Value).toArray 135)).alloc (.cells ([.slice none 0 0, .string ByteArray.empty] : List Value).toArray 85)).alloc (.cells ([.slice none 0 0, .string ByteArray.empty] : List Value).toArray 85)).heap.size = w.heap.size + 3))
  clear hbP hbR hbO hz
  go_enter Tryz.func97, Tryz.ntmps97
  go_wp2_with fail
  refine Calls.mono (HF0.out _ HB.out.2.2.2.1) ?_
  rintro e w0 ⟨u0, rfl, hb0, ho0⟩
  obtain ⟨au0, cu0, rfl, _⟩ := ho0.form
  have hq0 : w.heap.size + 3 ≤ w0.heap.size := by have h1 := hb0.size; simp only [World.size_alloc] at h1; omega
  have HN0 := (show Hid _ from (⟨HB.out.1.still hb0, HB.out.2.1.still hb0, HB.out.2.2.1.still hb0, bel_trans HB.out.2.2.2.1 hb0, ho0.mono (fun b hb => by have h1 : _ ≤ b := hb; simp only [World.size_alloc] at h1; show w.heap.size + 3 ≤ b; omega)⟩ : Box w0 w.heap.size 135 [.slice a0 t.items.length p0, .string t.label] ∧ Box w0 (w.heap.size + 1) 85 [.slice none 0 0, .string ByteArray.empty] ∧ Box w0 (w.heap.size + 1 + 1) 85 [.slice none 0 0, .string ByteArray.empty] ∧ Below w.heap.size w w0 ∧ IntsO w0 (fun b => w.heap.size + 3 ≤ b) t.items (.slice au0 t.items.length cu0)))
  clear hb0 ho0
  have e0 : w0.cell? ⟨w.heap.size + 1 + 1, 0, none⟩ = some (.slice none 0 0) := HN0.out.2.2.1.cell 0 (by simp)
  have z0 := HN0.out.2.2.1.frozen 0
  have e1 : w0.cell? ⟨w.heap.size + 1 + 1, 1, none⟩ = some (.string ByteArray.empty) := HN0.out.2.2.1.cell 1 (by simp)
  have z1 := HN0.out.2.2.1.frozen 1
  have x1 : w0.cell? ⟨w.heap.size, 1, none⟩ = some (.string t.label) := HN0.out.1.cell 1 (by simp)
  have y0 : w0.cell? ⟨w.heap.size + 1, 0, none⟩ = some (.slice none 0 0) := HN0.out.2.1.cell 0 (by simp)
  have f0 := HN0.out.2.1.frozen 0
  have y1 : w0.cell? ⟨w.heap.size + 1, 1, none⟩ = some (.string ByteArray.empty) := HN0.out.2.1.cell 1 (by simp)
  have f1 := HN0.out.2.1.frozen 1
  go_wp2_with fail
  refine bodyPost_ret (v := .agg #[.slice au0 t.items.length cu0, .string t.label]) (by simp [results, Tryz.results97, go_sem, y0, y1]) rfl ⟨_, rfl, ?_, ⟨?_⟩⟩
  · repeat (refine Below.setCell ?_ (by dsimp only; omega) _)
    exact HN0.out.2.2.2.1
  · refine (IntsO.keep HN0.out.2.2.2.2 (fun b hb _ => ?_)).mono (fun b hb => by have hb2 : w.heap.size + 3 ≤ b := hb; show w.heap.size ≤ b; omega)
    have hb2 : w.heap.size + 3 ≤ b := hb
    repeat rw [blk_setCell_other _ _ _ _ (by dsimp only; omega)]
theorem info85 : (Tryz.prog.info? 85).map (fun i => (i.zero, i.size, i.bytes)) = some (some (.agg #[.slice none 0 0, .string ByteArray.empty]), 2, 40) := by kernel_rfl
theorem run_makeGAltR (n : Nat) (hn : n ≤ 1048576) (w : World) :
    (Instr.makeSlice 52 (.int .i64 (n : Int)) (.int .i64 (n : Int))).run Tryz.prog w = .ok (.slice (some ⟨w.heap.size, 0, none⟩) n n) (w.alloc (.cells (madeCells #[.slice none 0 0, .string ByteArray.empty] (n * 2)) 85)) := by
  obtain ⟨i, hi, hzz⟩ := Option.map_eq_some_iff.1 info85
  simp only [Prod.mk.injEq] at hzz
  obtain ⟨hz, hs, hb⟩ := hzz
  have hr := run_make (P := Tryz.prog) w 52 85 i _ Tryz.underlying52 hi hz .i64 .i64 n n (by omega) (Int.le_refl _) (by rw [hb]; omega) (by omega)
  simp only [Int.toNat_natCast, hs] at hr
  exact hr
set_option maxHeartbeats 3200000 in
theorem toGAltR_any {S : Nat → Prop} (l : List DGAlt) (v : Value) (w : World) (h : GAltR w S l v) (hsm : GAltR.Sm l) :
    Calls Tryz.prog 74 #[v] w fun e w' => ∃ v', e = .returned v' ∧ Below w.heap.size w w' ∧ GAltRO w' (fun b => w.heap.size ≤ b) l v' := by
  obtain ⟨a, cap, b, off, s0, rfl, hc, hm, ha, hcell, r0⟩ := h
  have HC := (show Hid _ from hcell); clear hcell
  have HA := (show Hid _ from ha); clear ha
  have HR0 := (show Hid _ from r0); clear r0
  have hlen : l.length ≤ 1048576 := hsm.1
  have HSM := (show Hid _ from hsm.2)
  clear hsm
  unfold maxLen at hm
  have hmk := run_makeGAltR l.length hlen
  go_enter Tryz.func74, Tryz.ntmps74
  go_wp2_with fail
  go_loopw [4] (fun i wr => ∃ j : Nat, j ≤ l.length ∧ i = .int .i64 j ∧ Below w.heap.size w wr ∧ Hid (∃ f, wr.rowIs w.heap.size 85 (l.length * 2) f ∧ ∀ i (_ : i < j) (hi : i < l.length), (f (i * 2 + 1) = .string l[i].label) ∧ IntsO wr (fun b => w.heap.size < b) l[i].items (f (i * 2)))) (fun i _ => l.length - (intOf i).toNat)
  case atStart =>
    obtain ⟨f, hf⟩ := row_made w #[.slice none 0 0, .string ByteArray.empty] (l.length * 2) 85
    exact ⟨0, Nat.zero_le _, rfl, bel_alloc _ _, f, hf, fun i hi => absurd hi (Nat.not_lt_zero _)⟩
  case round =>
    obtain ⟨j, hj, rfl, hbel, HM⟩ := hrel
    by_cases hlt : j < l.length
    · obtain ⟨rfl, _⟩ := HA.out (by omega)
      obtain ⟨c0, c1, zc0⟩ := HC.out j (by omega)
      rw [← hbel.cell (lt_of_cell c0)] at c0
      rw [← hbel.cell (lt_of_cell c1)] at c1
      have hcl := toGAlt_any l[j] _ wr ⟨(HR0.out j hlt).still hbel⟩ (HSM.out j hlt)
      obtain ⟨a0x, cap0x, e0x, _⟩ := (HR0.out j hlt).form
      rw [e0x] at c0 hcl
      clear e0x
      have HCL := (show Hid _ from hcl); clear hcl
      go_wp2_with fail
      refine Calls.mono HCL.out ?_
      rintro e w1 ⟨u0, rfl, hb1, ⟨o0⟩⟩
      obtain ⟨au0, cu0, rfl, _⟩ := o0.form
      obtain ⟨f, hrow, hf⟩ := HM.out
      have hg := World.rowIs.lt hrow
      have hrow1 := World.rowIs.of_block hrow (hb1.block _ hg)
      have hbw := bel_trans hbel hb1
      have e0 := hrow1.cell (i := j * 2) (by omega)
      have z0 := hrow1.frozen (j * 2)
      have e1 := hrow1.cell (i := j * 2 + 1) (by omega)
      have z1 := hrow1.frozen (j * 2 + 1)
      have hf1 : ∀ i (_ : i < j) (hi : i < l.length), (f (i * 2 + 1) = .string l[i].label) ∧ IntsO w1 (fun b => w.heap.size < b) l[i].items (f (i * 2)) := fun i h1 h2 => ⟨(hf i h1 h2).1, (hf i h1 h2).2.still hb1⟩
      have hn0 : IntsO w1 (fun b => w.heap.size < b) l[j].items (.slice au0 l[j].items.length cu0) := o0.mono (fun b hb => Nat.lt_of_lt_of_le hg hb)
      have HN := (show Hid _ from (⟨hrow1, hf1, hn0⟩ : _ ∧ _ ∧ _)); clear hrow hf hrow1 hf1 hg HM c0 c1 hn0 o0
      go_wp2_with fail
      have hkeep : ∀ b, w.heap.size < b → ((w1.setCell ⟨w.heap.size, j * 2, none⟩ (.slice au0 l[j].items.length cu0)).setCell ⟨w.heap.size, j * 2 + 1, none⟩ (.string l[j].label)).heap[b]? = w1.heap[b]? := fun b hb => by repeat rw [blk_setCell_other _ _ _ _ (by dsimp only; omega)]
      refine ⟨⟨j + 1, by omega, by go_num, (Below.setCell (Below.setCell hbw (Nat.le_refl _) _) (Nat.le_refl _) _), _, (World.rowIs.set (World.rowIs.set HN.out.1 (j * 2) _) (j * 2 + 1) _), fun i hi hl => ?_⟩, by simp [intOf]; omega⟩
      by_cases e : i = j
      · subst e
        exact ⟨by simp, (by simp; exact IntsO.keep HN.out.2.2 (fun b hb _ => hkeep b hb))⟩
      · obtain ⟨g1, k0⟩ := HN.out.2.1 i (by omega) hl
        exact ⟨by rw [if_neg (by omega), if_neg (by omega)]; exact g1, (by rw [if_neg (by omega), if_neg (by omega)]; exact IntsO.keep k0 (fun b hb _ => hkeep b hb))⟩
    · go_wp2_with fail
      go_ret
      obtain ⟨f, hrow, hf⟩ := HM.out
      exact ⟨_, rfl, hbel, w.heap.size, f, rfl, Nat.le_refl _, hlen, hrow, fun i hi => by obtain ⟨_, _, z0⟩ := HC.out i hi; exact ⟨(hf i (by omega) hi).1, z0⟩, fun i hi => (hf i (by omega) hi).2.mono (fun _ hb => Nat.le_of_lt hb)⟩
set_option maxHeartbeats 6400000 in
theorem toGRule_any {S : Nat → Prop} (t : DGRule) (v1 : Value) (w : World) (h : DGRuleL w S t v1) (hsm : t.Sm) :
    Calls Tryz.prog 39 #[.agg #[.string t.name, v1]] w fun e w' => ∃ u1, e = .returned (.agg #[.string t.name, u1]) ∧ Below w.heap.size w w' ∧ DGRuleO w' (fun b => w.heap.size ≤ b) t u1 := by
  have HF1 := (show Hid _ from fun (w' : World) (hb : Below w.heap.size w w') => toGAltR_any t.alts v1 w' (h.alts.still hb) hsm.alts)
  obtain ⟨a1, p1, rfl, _⟩ := h.alts.form
  clear h hsm
  have hbP := Box.new w 73 [.string t.name, .slice a1 t.alts.length p1]
  have hbR := Box.new (w.alloc (.cells ([.string t.name, .slice a1 t.alts.length p1] : List Value).toArray 73)) 54 [.string ByteArray.empty, .slice none 0 0]
  have hbO := Box.new ((w.alloc (.cells ([.string t.name, .slice a1 t.alts.length p1] : List Value).toArray 73)).alloc (.cells ([.string ByteArray.empty, .slice none 0 0] : List Value).toArray 54)) 54 [.string t.name, .slice none 0 0]
  simp only [World.size_alloc] at hbR hbO
  have hz : (((w.alloc (.cells ([.string t.name, .slice a1 t.alts.length p1] : List Value).toArray 73)).alloc (.cells ([.string ByteArray.empty, .slice none 0 0] : List Value).toArray 54)).alloc (.cells ([.string t.name, .slice none 0 0] : List Value).toArray 54)).heap.size = w.heap.size + 3 := by simp
  have HB := (show Hid _ from (⟨(hbP.still (bel_alloc _ _)).still (bel_alloc _ _), hbR.still (bel_alloc _ _), hbO, bel3 _ _ _ _, hz⟩ : Box (((w.alloc (.cells ([.string t.name, .slice a1 t.alts.length p1] : List Value).toArray 73)).alloc (.cells ([.string ByteArray.empty, .slice none 0 0] : List Value).toArray 54)).alloc (.cells ([.string t.name, .slice none 0 0] : List Value).toArray 54)) w.heap.size 73 [.string t.name, .slice a1 t.alts.length p1] ∧ Box (((w.alloc (.cells ([.string t.name, .slice a1 t.alts.length p1] : List Value).toArray 73)).alloc (.cells ([.string ByteArray.empty, .slice none 0 0] : List Value).toArray 54)).alloc (.cells ([.string t.name, .slice none 0 0] : List Value).toArray 54)) (w.heap.size + 1) 54 [.string ByteArray.empty, .slice none 0 0] ∧ Box (((w.alloc (.cells ([.string t.name, .slice a1 t.alts.length p1] : List Value).toArray 73)).alloc (.cells ([.string ByteArray.empty, .slice none 0 0] : List Value).toArray 54)).alloc (.cells ([.string t.name, .slice none 0 0] : List Value).toArray 54)) (w.heap.size + 1 + 1) 54 [.string t.name, .slice none 0 0] ∧ Below w.heap.size w (((w.alloc (.cells ([.string t.name, .slice a1 t.alts.length p1] : List Value).toArray 73)).alloc (.cells ([.string ByteArray.empty, .slice none 0 0] : List Value).toArray 54)).alloc (.cells ([.string t.name, .slice none 0 0] : List Value).toArray 54)) ∧ (((w.alloc (.cells ([.string t.name, .slice a1 t.alts.length p1] : List Value).toArray 73)).alloc (.cells ([.string ByteArray.empty, .slice none 0 0] : List Value).toArray 54)).alloc (.cells ([.string t.name, .slice none 0 0] : List Value).toArray 54)).heap.size = w.heap.size + 3))
  clear hbP hbR hbO hz
  go_enter Tryz.func39, Tryz.ntmps39
  go_wp2_with fail
  refine Calls.mono (HF1.out _ HB.out.2.2.2.1) ?_
  rintro e w1 ⟨u1, rfl, hb1, ho1⟩
  obtain ⟨au1, cu1, rfl, _⟩ := ho1.form
  have hq1 : w.heap.size + 3 ≤ w1.heap.size := by have h1 := hb1.size; simp only [World.size_alloc] at h1; omega
  have HN1 := (show Hid _ from (⟨HB.out.1.still hb1, HB.out.2.1.still hb1, HB.out.2.2.1.still hb1, bel_trans HB.out.2.2.2.1 hb1, ho1.mono (fun b hb => by have h1 : _ ≤ b := hb; simp only [World.size_alloc] at h1; show w.heap.size + 3 ≤ b; omega)⟩ : Box w1 w.heap.size 73 [.string t.name, .slice a1 t.alts.length p1] ∧ Box w1 (w.heap.size + 1) 54 [.string ByteArray.empty, .slice none 0 0] ∧ Box w1 (w.heap.size + 1 + 1) 54 [.string t.name, .slice none 0 0] ∧ Below w.heap.size w w1 ∧ GAltRO w1 (fun b => w.heap.size + 3 ≤ b) t.alts (.slice au1 t.alts.length cu1)))
  clear hb1 ho1
  have e1 : w1.cell? ⟨w.heap.size + 1 + 1, 1, none⟩ = some (.slice none 0 0) := HN1.out.2.2.1.cell 1 (by simp)
  have z1 := HN1.out.2.2.1.frozen 1
  have y0 : w1.cell? ⟨w.heap.size + 1, 0, none⟩ = some (.string ByteArray.empty) := HN1.out.2.1.cell 0 (by simp)
  have f0 := HN1.out.2.1.frozen 0
  have y1 : w1.cell? ⟨w.heap.size + 1, 1, none⟩ = some (.slice none 0 0) := HN1.out.2.1.cell 1 (by simp)
  have f1 := HN1.out.2.1.frozen 1
  have e0 : w1.cell? ⟨w.heap.size + 1 + 1, 0, none⟩ = some (.string t.name) := HN1.out.2.2.1.cell 0 (by simp)
  go_wp2_with fail
  refine bodyPost_ret (v := .agg #[.string t.name, .slice au1 t.alts.length cu1]) (by simp [results, Tryz.results39, go_sem, y0, y1]) rfl ⟨_, rfl, ?_, ⟨?_⟩⟩
  · repeat (refine Below.setCell ?_ (by dsimp only; omega) _)
    exact HN1.out.2.2.2.1
  · refine (GAltRO.keep HN1.out.2.2.2.2 (fun b hb _ => ?_)).mono (fun b hb => by have hb2 : w.heap.size + 3 ≤ b := hb; show w.heap.size ≤ b; omega)
    have hb2 : w.heap.size + 3 ≤ b := hb
    repeat rw [blk_setCell_other _ _ _ _ (by dsimp only; omega)]
theorem info54 : (Tryz.prog.info? 54).map (fun i => (i.zero, i.size, i.bytes)) = some (some (.agg #[.string ByteArray.empty, .slice none 0 0]), 2, 40) := by kernel_rfl
theorem run_makeGRuleR (n : Nat) (hn : n ≤ 1048576) (w : World) :
    (Instr.makeSlice 33 (.int .i64 (n : Int)) (.int .i64 (n : Int))).run Tryz.prog w = .ok (.slice (some ⟨w.heap.size, 0, none⟩) n n) (w.alloc (.cells (madeCells #[.string ByteArray.empty, .slice none 0 0] (n * 2)) 54)) := by
  obtain ⟨i, hi, hzz⟩ := Option.map_eq_some_iff.1 info54
  simp only [Prod.mk.injEq] at hzz
  obtain ⟨hz, hs, hb⟩ := hzz
  have hr := run_make (P := Tryz.prog) w 33 54 i _ Tryz.underlying33 hi hz .i64 .i64 n n (by omega) (Int.le_refl _) (by rw [hb]; omega) (by omega)
  simp only [Int.toNat_natCast, hs] at hr
  exact hr
set_option maxHeartbeats 3200000 in
theorem toGRuleR_any {S : Nat → Prop} (l : List DGRule) (v : Value) (w : World) (h : GRuleR w S l v) (hsm : GRuleR.Sm l) :
    Calls Tryz.prog 18 #[v] w fun e w' => ∃ v', e = .returned v' ∧ Below w.heap.size w w' ∧ GRuleRO w' (fun b => w.heap.size ≤ b) l v' := by
  obtain ⟨a, cap, b, off, s1, rfl, hc, hm, ha, hcell, r1⟩ := h
  have HC := (show Hid _ from hcell); clear hcell
  have HA := (show Hid _ from ha); clear ha
  have HR1 := (show Hid _ from r1); clear r1
  have hlen : l.length ≤ 1048576 := hsm.1
  have HSM := (show Hid _ from hsm.2)
  clear hsm
  unfold maxLen at hm
  have hmk := run_makeGRuleR l.length hlen
  go_enter Tryz.func18, Tryz.ntmps18
  go_wp2_with fail
  go_loopw [4] (fun i wr => ∃ j : Nat, j ≤ l.length ∧ i = .int .i64 j ∧ Below w.heap.size w wr ∧ Hid (∃ f, wr.rowIs w.heap.size 54 (l.length * 2) f ∧ ∀ i (_ : i < j) (hi : i < l.length), (f (i * 2) = .string l[i].name) ∧ GAltRO wr (fun b => w.heap.size < b) l[i].alts (f (i * 2 + 1)))) (fun i _ => l.length - (intOf i).toNat)
  case atStart =>
    obtain ⟨f, hf⟩ := row_made w #[.string ByteArray.empty, .slice none 0 0] (l.length * 2) 54
    exact ⟨0, Nat.zero_le _, rfl, bel_alloc _ _, f, hf, fun i hi => absurd hi (Nat.not_lt_zero _)⟩
  case round =>
    obtain ⟨j, hj, rfl, hbel, HM⟩ := hrel
    by_cases hlt : j < l.length
    · obtain ⟨rfl, _⟩ := HA.out (by omega)
      obtain ⟨c0, c1, zc0⟩ := HC.out j (by omega)
      rw [← hbel.cell (lt_of_cell c0)] at c0
      rw [← hbel.cell (lt_of_cell c1)] at c1
      have hcl := toGRule_any l[j] _ wr ⟨(HR1.out j hlt).still hbel⟩ (HSM.out j hlt)
      obtain ⟨a1x, cap1x, e1x, _⟩ := (HR1.out j hlt).form
      rw [e1x] at c1 hcl
      clear e1x
      have HCL := (show Hid _ from hcl); clear hcl
      go_wp2_with fail
      refine Calls.mono HCL.out ?_
      rintro e w1 ⟨u1, rfl, hb1, ⟨o1⟩⟩
      obtain ⟨au1, cu1, rfl, _⟩ := o1.form
      obtain ⟨f, hrow, hf⟩ := HM.out
      have hg := World.rowIs.lt hrow
      have hrow1 := World.rowIs.of_block hrow (hb1.block _ hg)
      have hbw := bel_trans hbel hb1
      have e0 := hrow1.cell (i := j * 2) (by omega)
      have z0 := hrow1.frozen (j * 2)
      have e1 := hrow1.cell (i := j * 2 + 1) (by omega)
      have z1 := hrow1.frozen (j * 2 + 1)
      have hf1 : ∀ i (_ : i < j) (hi : i < l.length), (f (i * 2) = .string l[i].name) ∧ GAltRO w1 (fun b => w.heap.size < b) l[i].alts (f (i * 2 + 1)) := fun i h1 h2 => ⟨(hf i h1 h2).1, (hf i h1 h2).2.still hb1⟩
      have hn1 : GAltRO w1 (fun b => w.heap.size < b) l[j].alts (.slice au1 l[j].alts.length cu1) := o1.mono (fun b hb => Nat.lt_of_lt_of_le hg hb)
      have HN := (show Hid _ from (⟨hrow1, hf1, hn1⟩ : _ ∧ _ ∧ _)); clear hrow hf hrow1 hf1 hg HM c0 c1 hn1 o1
      go_wp2_with fail
      have hkeep : ∀ b, w.heap.size < b → ((w1.setCell ⟨w.heap.size, j * 2, none⟩ (.string l[j].name)).setCell ⟨w.heap.size, j * 2 + 1, none⟩ (.slice au1 l[j].alts.length cu1)).heap[b]? = w1.heap[b]? := fun b hb => by repeat rw [blk_setCell_other _ _ _ _ (by dsimp only; omega)]
      refine ⟨⟨j + 1, by omega, by go_num, (Below.setCell (Below.setCell hbw (Nat.le_refl _) _) (Nat.le_refl _) _), _, (World.rowIs.set (World.rowIs.set HN.out.1 (j * 2) _) (j * 2 + 1) _), fun i hi hl => ?_⟩, by simp [intOf]; omega⟩
      by_cases e : i = j
      · subst e
        exact ⟨by simp, (by simp; exact GAltRO.keep HN.out.2.2 (fun b hb _ => hkeep b hb))⟩
      · obtain ⟨g0, k1⟩ := HN.out.2.1 i (by omega) hl
        exact ⟨by rw [if_neg (by omega), if_neg (by omega)]; exact g0, (by rw [if_neg (by omega), if_neg (by omega)]; exact GAltRO.keep k1 (fun b hb _ => hkeep b hb))⟩
    · go_wp2_with fail
      go_ret
      obtain ⟨f, hrow, hf⟩ := HM.out
      exact ⟨_, rfl, hbel, w.heap.size, f, rfl, Nat.le_refl _, hlen, hrow, fun i hi => by obtain ⟨_, _, z0⟩ := HC.out i hi; exact ⟨(hf i (by omega) hi).1, z0⟩, fun i hi => (hf i (by omega) hi).2.mono (fun _ hb => Nat.le_of_lt hb)⟩
set_option maxHeartbeats 6400000 in
theorem toPart_any {S : Nat → Prop} (t : DPart) (v2 : Value) (w : World) (h : DPartL w S t v2) (hsm : t.Sm) :
    Calls Tryz.prog 40 #[.agg #[.int .i64 t.kind, .string t.s, v2]] w fun e w' => ∃ u2, e = .returned (.agg #[.int .i64 t.kind, .string t.s, u2]) ∧ Below w.heap.size w w' ∧ DPartO w' (fun b => w.heap.size ≤ b) t u2 := by
  have HF2 := (show Hid _ from fun (w' : World) (hb : Below w.heap.size w w') => toIRws_any t.alts v2 w' (h.alts.still hb) hsm.alts)
  obtain ⟨a2, p2, rfl, _⟩ := h.alts.form
  clear h hsm
  have hbP := Box.new w 77 [.int .i64 t.kind, .string t.s, .slice a2 t.alts.length p2]
  have hbR := Box.new (w.alloc (.cells ([.int .i64 t.kind, .string t.s, .slice a2 t.alts.length p2] : List Value).toArray 77)) 91 [.int .i64 0, .string ByteArray.empty, .slice none 0 0]
  have hbO := Box.new ((w.alloc (.cells ([.int .i64 t.kind, .string t.s, .slice a2 t.alts.length p2] : List Value).toArray 77)).alloc (.cells ([.int .i64 0, .string ByteArray.empty, .slice none 0 0] : List Value).toArray 91)) 91 [.int .i64 t.kind, .string t.s, .slice none 0 0]
  simp only [World.size_alloc] at hbR hbO
  have hz : (((w.alloc (.cells ([.int .i64 t.kind, .string t.s, .slice a2 t.alts.length p2] : List Value).toArray 77)).alloc (.cells ([.int .i64 0, .string ByteArray.empty, .slice none 0 0] : List Value).toArray 91)).alloc (.cells ([.int .i64 t.kind, .string t.s, .slice none 0 0] : List Value).toArray 91)).heap.size = w.heap.size + 3 := by simp
  have HB := (show Hid _ from (⟨(hbP.still (bel_alloc _ _)).still (bel_alloc _ _), hbR.still (bel_alloc _ _), hbO, bel3 _ _ _ _, hz⟩ : Box (((w.alloc (.cells ([.int .i64 t.kind, .string t.s, .slice a2 t.alts.length p2] : List Value).toArray 77)).alloc (.cells ([.int .i64 0, .string ByteArray.empty, .slice none 0 0] : List Value).toArray 91)).alloc (.cells ([.int .i64 t.kind, .string t.s, .slice none 0 0] : List Value).toArray 91)) w.heap.size 77 [.int .i64 t.kind, .string t.s, .slice a2 t.alts.length p2] ∧ Box (((w.alloc (.cells ([.int .i64 t.kind, .string t.s, .slice a2 t.alts.length p2] : List Value).toArray 77)).alloc (.cells ([.int .i64 0, .string ByteArray.empty, .slice none 0 0] : List Value).toArray 91)).alloc (.cells ([.int .i64 t.kind, .string t.s, .slice none 0 0] : List Value).toArray 91)) (w.heap.size + 1) 91 [.int .i64 0, .string ByteArray.empty, .slice none 0 0] ∧ Box (((w.alloc (.cells ([.int .i64 t.kind, .string t.s, .slice a2 t.alts.length p2] : List Value).toArray 77)).alloc (.cells ([.int .i64 0, .string ByteArray.empty, .slice none 0 0] : List Value).toArray 91)).alloc (.cells ([.int .i64 t.kind, .string t.s, .slice none 0 0] : List Value).toArray 91)) (w.heap.size + 1 + 1) 91 [.int .i64 t.kind, .string t.s, .slice none 0 0] ∧ Below w.heap.size w (((w.alloc (.cells ([.int .i64 t.kind, .string t.s, .slice a2 t.alts.length p2] : List Value).toArray 77)).alloc (.cells ([.int .i64 0, .string ByteArray.empty, .slice none 0 0] : List Value).toArray 91)).alloc (.cells ([.int .i64 t.kind, .string t.s, .slice none 0 0] : List Value).toArray 91)) ∧ (((w.alloc (.cells ([.int .i64 t.kind, .string t.s, .slice a2 t.alts.length p2] : List Value).toArray 77)).alloc (.cells ([.int .i64 0, .string ByteArray.empty, .slice none 0 0] : List Value).toArray 91)).alloc (.cells ([.int .i64 t.kind, .string t.s, .slice none 0 0] : List Value).toArray 91)).heap.size = w.heap.size + 3))
  clear hbP hbR hbO hz
  go_enter Tryz.func40, Tryz.ntmps40
  go_wp2_with fail
  refine Calls.mono (HF2.out _ HB.out.2.2.2.1) ?_
  rintro e w2 ⟨u2, rfl, hb2, ho2⟩
  obtain ⟨au2, cu2, rfl, _⟩ := ho2.form
  have hq2 : w.heap.size + 3 ≤ w2.heap.size := by have h1 := hb2.size; simp only [World.size_alloc] at h1; omega
  have HN2 := (show Hid _ from (⟨HB.out.1.still hb2, HB.out.2.1.still hb2, HB.out.2.2.1.still hb2, bel_trans HB.out.2.2.2.1 hb2, ho2.mono (fun b hb => by have h1 : _ ≤ b := hb; simp only [World.size_alloc] at h1; show w.heap.size + 3 ≤ b; omega)⟩ : Box w2 w.heap.size 77 [.int .i64 t.kind, .string t.s, .slice a2 t.alts.length p2] ∧ Box w2 (w.heap.size + 1) 91 [.int .i64 0, .string ByteArray.empty, .slice none 0 0] ∧ Box w2 (w.heap.size + 1 + 1) 91 [.int .i64 t.kind, .string t.s, .slice none 0 0] ∧ Below w.heap.size w w2 ∧ IRwsO w2 (fun b => w.heap.size + 3 ≤ b) t.alts (.slice au2 t.alts.length cu2)))
  clear hb2 ho2
  have e2 : w2.cell? ⟨w.heap.size + 1 + 1, 2, none⟩ = some (.slice none 0 0) := HN2.out.2.2.1.cell 2 (by simp)
  have z2 := HN2.out.2.2.1.frozen 2
  have y0 : w2.cell? ⟨w.heap.size + 1, 0, none⟩ = some (.int .i64 0) := HN2.out.2.1.cell 0 (by simp)
  have f0 := HN2.out.2.1.frozen 0
  have y1 : w2.cell? ⟨w.heap.size + 1, 1, none⟩ = some (.string ByteArray.empty) := HN2.out.2.1.cell 1 (by simp)
  have f1 := HN2.out.2.1.frozen 1
  have y2 : w2.cell? ⟨w.heap.size + 1, 2, none⟩ = some (.slice none 0 0) := HN2.out.2.1.cell 2 (by simp)
  have f2 := HN2.out.2.1.frozen 2
  have e0 : w2.cell? ⟨w.heap.size + 1 + 1, 0, none⟩ = some (.int .i64 t.kind) := HN2.out.2.2.1.cell 0 (by simp)
  have e1 : w2.cell? ⟨w.heap.size + 1 + 1, 1, none⟩ = some (.string t.s) := HN2.out.2.2.1.cell 1 (by simp)
  go_wp2_with fail
  refine bodyPost_ret (v := .agg #[.int .i64 t.kind, .string t.s, .slice au2 t.alts.length cu2]) (by simp [results, Tryz.results40, go_sem, y0, y1, y2]) rfl ⟨_, rfl, ?_, ⟨?_⟩⟩
  · repeat (refine Below.setCell ?_ (by dsimp only; omega) _)
    exact HN2.out.2.2.2.1
  · refine (IRwsO.keep HN2.out.2.2.2.2 (fun b hb _ => ?_)).mono (fun b hb => by have hb2 : w.heap.size + 3 ≤ b := hb; show w.heap.size ≤ b; omega)
    have hb2 : w.heap.size + 3 ≤ b := hb
    repeat rw [blk_setCell_other _ _ _ _ (by dsimp only; omega)]
theorem info91 : (Tryz.prog.info? 91).map (fun i => (i.zero, i.size, i.bytes)) = some (some (.agg #[.int .i64 0, .string ByteArray.empty, .slice none 0 0]), 3, 48) := by kernel_rfl
theorem run_makePartR (n : Nat) (hn : n ≤ 1048576) (w : World) :
    (Instr.makeSlice 34 (.int .i64 (n : Int)) (.int .i64 (n : Int))).run Tryz.prog w = .ok (.slice (some ⟨w.heap.size, 0, none⟩) n n) (w.alloc (.cells (madeCells #[.int .i64 0, .string ByteArray.empty, .slice none 0 0] (n * 3)) 91)) := by
  obtain ⟨i, hi, hzz⟩ := Option.map_eq_some_iff.1 info91
  simp only [Prod.mk.injEq] at hzz
  obtain ⟨hz, hs, hb⟩ := hzz
  have hr := run_make (P := Tryz.prog) w 34 91 i _ Tryz.underlying34 hi hz .i64 .i64 n n (by omega) (Int.le_refl _) (by rw [hb]; omega) (by omega)
  simp only [Int.toNat_natCast, hs] at hr
  exact hr
set_option maxHeartbeats 3200000 in
theorem toPartR_any {S : Nat → Prop} (l : List DPart) (v : Value) (w : World) (h : PartR w S l v) (hsm : PartR.Sm l) :
    Calls Tryz.prog 19 #[v] w fun e w' => ∃ v', e = .returned v' ∧ Below w.heap.size w w' ∧ PartRO w' (fun b => w.heap.size ≤ b) l v' := by
  obtain ⟨a, cap, b, off, s2, rfl, hc, hm, ha, hcell, r2⟩ := h
  have HC := (show Hid _ from hcell); clear hcell
  have HA := (show Hid _ from ha); clear ha
  have HR2 := (show Hid _ from r2); clear r2
  have hlen : l.length ≤ 1048576 := hsm.1
  have HSM := (show Hid _ from hsm.2)
  clear hsm
  unfold maxLen at hm
  have hmk := run_makePartR l.length hlen
  go_enter Tryz.func19, Tryz.ntmps19
  go_wp2_with fail
  go_loopw [4] (fun i wr => ∃ j : Nat, j ≤ l.length ∧ i = .int .i64 j ∧ Below w.heap.size w wr ∧ Hid (∃ f, wr.rowIs w.heap.size 91 (l.length * 3) f ∧ ∀ i (_ : i < j) (hi : i < l.length), (f (i * 3) = .int .i64 l[i].kind ∧ f (i * 3 + 1) = .string l[i].s) ∧ IRwsO wr (fun b => w.heap.size < b) l[i].alts (f (i * 3 + 2)))) (fun i _ => l.length - (intOf i).toNat)
  case atStart =>
    obtain ⟨f, hf⟩ := row_made w #[.int .i64 0, .string ByteArray.empty, .slice none 0 0] (l.length * 3) 91
    exact ⟨0, Nat.zero_le _, rfl, bel_alloc _ _, f, hf, fun i hi => absurd hi (Nat.not_lt_zero _)⟩
  case round =>
    obtain ⟨j, hj, rfl, hbel, HM⟩ := hrel
    by_cases hlt : j < l.length
    · obtain ⟨rfl, _⟩ := HA.out (by omega)
      obtain ⟨c0, c1, c2, zc0⟩ := HC.out j (by omega)
      rw [← hbel.cell (lt_of_cell c0)] at c0
      rw [← hbel.cell (lt_of_cell c1)] at c1
      rw [← hbel.cell (lt_of_cell c2)] at c2
      have hcl := toPart_any l[j] _ wr ⟨(HR2.out j hlt).still hbel⟩ (HSM.out j hlt)
      obtain ⟨a2x, cap2x, e2x, _⟩ := (HR2.out j hlt).form
      rw [e2x] at c2 hcl
      clear e2x
      have HCL := (show Hid _ from hcl); clear hcl
      go_wp2_with fail
      refine Calls.mono HCL.out ?_
      rintro e w1 ⟨u2, rfl, hb1, ⟨o2⟩⟩
      obtain ⟨au2, cu2, rfl, _⟩ := o2.form
      obtain ⟨f, hrow, hf⟩ := HM.out
      have hg := World.rowIs.lt hrow
      have hrow1 := World.rowIs.of_block hrow (hb1.block _ hg)
      have hbw := bel_trans hbel hb1
      have e0 := hrow1.cell (i := j * 3) (by omega)
      have z0 := hrow1.frozen (j * 3)
      have e1 := hrow1.cell (i := j * 3 + 1) (by omega)
      have z1 := hrow1.frozen (j * 3 + 1)
      have e2 := hrow1.cell (i := j * 3 + 2) (by omega)
      have z2 := hrow1.frozen (j * 3 + 2)
      have hf1 : ∀ i (_ : i < j) (hi : i < l.length), (f (i * 3) = .int .i64 l[i].kind ∧ f (i * 3 + 1) = .string l[i].s) ∧ IRwsO w1 (fun b => w.heap.size < b) l[i].alts (f (i * 3 + 2)) := fun i h1 h2 => ⟨(hf i h1 h2).1, (hf i h1 h2).2.still hb1⟩
      have hn2 : IRwsO w1 (fun b => w.heap.size < b) l[j].alts (.slice au2 l[j].alts.length cu2) := o2.mono (fun b hb => Nat.lt_of_lt_of_le hg hb)
      have HN := (show Hid _ from (⟨hrow1, hf1, hn2⟩ : _ ∧ _ ∧ _)); clear hrow hf hrow1 hf1 hg HM c0 c1 c2 hn2 o2
      go_wp2_with fail
      have hkeep : ∀ b, w.heap.size < b → (((w1.setCell ⟨w.heap.size, j * 3, none⟩ (.int .i64 l[j].kind)).setCell ⟨w.heap.size, j * 3 + 1, none⟩ (.string l[j].s)).setCell ⟨w.heap.size, j * 3 + 2, none⟩ (.slice au2 l[j].alts.length cu2)).heap[b]? = w1.heap[b]? := fun b hb => by repeat rw [blk_setCell_other _ _ _ _ (by dsimp only; omega)]
      refine ⟨⟨j + 1, by omega, by go_num, (Below.setCell (Below.setCell (Below.setCell hbw (Nat.le_refl _) _) (Nat.le_refl _) _) (Nat.le_refl _) _), _, (World.rowIs.set (World.rowIs.set (World.rowIs.set HN.out.1 (j * 3) _) (j * 3 + 1) _) (j * 3 + 2) _), fun i hi hl => ?_⟩, by simp [intOf]; omega⟩
      by_cases e : i = j
      · subst e
        exact ⟨by simp, (by simp; exact IRwsO.keep HN.out.2.2 (fun b hb _ => hkeep b hb))⟩
      · obtain ⟨⟨g0, g1⟩, k2⟩ := HN.out.2.1 i (by omega) hl
        exact ⟨⟨by rw [if_neg (by omega), if_neg (by omega), if_neg (by omega)]; exact g0, by rw [if_neg (by omega), if_neg (by omega), if_neg (by omega)]; exact g1⟩, (by rw [if_neg (by omega), if_neg (by omega), if_neg (by omega)]; exact IRwsO.keep k2 (fun b hb _ => hkeep b hb))⟩
    · go_wp2_with fail
      go_ret
      obtain ⟨f, hrow, hf⟩ := HM.out
      exact ⟨_, rfl, hbel, w.heap.size, f, rfl, Nat.le_refl _, hlen, hrow, fun i hi => by obtain ⟨_, _, _, z0⟩ := HC.out i hi; obtain ⟨g0, g1⟩ := (hf i (by omega) hi).1; exact ⟨g0, g1, z0⟩, fun i hi => (hf i (by omega) hi).2.mono (fun _ hb => Nat.le_of_lt hb)⟩
set_option maxHeartbeats 6400000 in
theorem toGrammar_any {S : Nat → Prop} (t : DGrammar) (v1 v2 v3 v4 : Value) (w : World) (h : DGrammarL w S t v1 v2 v3 v4) (hsm : t.Sm) :
    Calls Tryz.prog 6 #[.agg #[.string t.name, v1, v2, v3, v4]] w fun e w' => ∃ u1 u2 u3 u4, e = .returned (.agg #[.string t.name, u1, u2, u3, u4]) ∧ Below w.heap.size w w' ∧ DGrammarO w' (fun b => w.heap.size ≤ b) t u1 u2 u3 u4 := by
  have HF1 := (show Hid _ from fun (w' : World) (hb : Below w.heap.size w w') => toTokenR_any t.tokens v1 w' (h.tokens.still hb) hsm.tokens)
  have HF2 := (show Hid _ from fun (w' : World) (hb : Below w.heap.size w w') => toLevelR_any t.levels v2 w' (h.levels.still hb) hsm.levels)
  have HF3 := (show Hid _ from fun (w' : World) (hb : Below w.heap.size w w') => toGRuleR_any t.rules v3 w' (h.rules.still hb) hsm.rules)
  have HF4 := (show Hid _ from fun (w' : World) (hb : Below w.heap.size w w') => toPartR_any t.parts v4 w' (h.parts.still hb) hsm.parts)
  obtain ⟨a1, p1, rfl, _⟩ := h.tokens.form
  obtain ⟨a2, p2, rfl, _⟩ := h.levels.form
  obtain ⟨a3, p3, rfl, _⟩ := h.rules.form
  obtain ⟨a4, p4, rfl, _⟩ := h.parts.form
  clear h hsm
  have hbP := Box.new w 27 [.string t.name, .slice a1 t.tokens.length p1, .slice a2 t.levels.length p2, .slice a3 t.rules.length p3, .slice a4 t.parts.length p4]
  have hbR := Box.new (w.alloc (.cells ([.string t.name, .slice a1 t.tokens.length p1, .slice a2 t.levels.length p2, .slice a3 t.rules.length p3, .slice a4 t.parts.length p4] : List Value).toArray 27)) 36 [.string ByteArray.empty, .slice none 0 0, .slice none 0 0, .slice none 0 0, .slice none 0 0]
  have hbO := Box.new ((w.alloc (.cells ([.string t.name, .slice a1 t.tokens.length p1, .slice a2 t.levels.length p2, .slice a3 t.rules.length p3, .slice a4 t.parts.length p4] : List Value).toArray 27)).alloc (.cells ([.string ByteArray.empty, .slice none 0 0, .slice none 0 0, .slice none 0 0, .slice none 0 0] : List Value).toArray 36)) 36 [.string t.name, .slice none 0 0, .slice none 0 0, .slice none 0 0, .slice none 0 0]
  simp only [World.size_alloc] at hbR hbO
  have hz : (((w.alloc (.cells ([.string t.name, .slice a1 t.tokens.length p1, .slice a2 t.levels.length p2, .slice a3 t.rules.length p3, .slice a4 t.parts.length p4] : List Value).toArray 27)).alloc (.cells ([.string ByteArray.empty, .slice none 0 0, .slice none 0 0, .slice none 0 0, .slice none 0 0] : List Value).toArray 36)).alloc (.cells ([.string t.name, .slice none 0 0, .slice none 0 0, .slice none 0 0, .slice none 0 0] : List Value).toArray 36)).heap.size = w.heap.size + 3 := by simp
  have HB := (show Hid _ from (⟨(hbP.still (bel_alloc _ _)).still (bel_alloc _ _), hbR.still (bel_alloc _ _), hbO, bel3 _ _ _ _, hz⟩ : Box (((w.alloc (.cells ([.string t.name, .slice a1 t.tokens.length p1, .slice a2 t.levels.length p2, .slice a3 t.rules.length p3, .slice a4 t.parts.length p4] : List Value).toArray 27)).alloc (.cells ([.string ByteArray.empty, .slice none 0 0, .slice none 0 0, .slice none 0 0, .slice none 0 0] : List Value).toArray 36)).alloc (.cells ([.string t.name, .slice none 0 0, .slice none 0 0, .slice none 0 0, .slice none 0 0] : List Value).toArray 36)) w.heap.size 27 [.string t.name, .slice a1 t.tokens.length p1, .slice a2 t.levels.length p2, .slice a3 t.rules.length p3, .slice a4 t.parts.length p4] ∧ Box (((w.alloc (.cells ([.string t.name, .slice a1 t.tokens.length p1, .slice a2 t.levels.length p2, .slice a3 t.rules.length p3, .slice a4 t.parts.length p4] : List Value).toArray 27)).alloc (.cells ([.string ByteArray.empty, .slice none 0 0, .slice none 0 0, .slice none 0 0, .slice none 0 0] : List Value).toArray 36)).alloc (.cells ([.string t.name, .slice none 0 0, .slice none 0 0, .slice none 0 0, .slice none 0 0] : List Value).toArray 36)) (w.heap.size + 1) 36 [.string ByteArray.empty, .slice none 0 0, .slice none 0 0, .slice none 0 0, .slice none 0 0] ∧ Box (((w.alloc (.cells ([.string t.name, .slice a1 t.tokens.length p1, .slice a2 t.levels.length p2, .slice a3 t.rules.length p3, .slice a4 t.parts.length p4] : List Value).toArray 27)).alloc (.cells ([.string ByteArray.empty, .slice none 0 0, .slice none 0 0, .slice none 0 0, .slice none 0 0] : List Value).toArray 36)).alloc (.cells ([.string t.name, .slice none 0 0, .slice none 0 0, .slice none 0 0, .slice none 0 0] : List Value).toArray 36)) (w.heap.size + 1 + 1) 36 [.string t.name, .slice none 0 0, .slice none 0 0, .slice none 0 0, .slice none 0 0] ∧ Below w.heap.size w (((w.alloc (.cells ([.string t.name, .slice a1 t.tokens.length p1, .slice a2 t.levels.length p2, .slice a3 t.rules.length p3, .slice a4 t.parts.length p4] : List Value).toArray 27)).alloc (.cells ([.string ByteArray.empty, .slice none 0 0, .slice none 0 0, .slice none 0 0, .slice none 0 0] : List Value).toArray 36)).alloc (.cells ([.string t.name, .slice none 0 0, .slice none 0 0, .slice none 0 0, .slice none 0 0] : List Value).toArray 36)) ∧ (((w.alloc (.cells ([.string t.name, .slice a1 t.tokens.length p1, .slice a2 t.levels.length p2, .slice a3 t.rules.length p3, .slice a4 t.parts.length p4] : List Value).toArray 27)).alloc (.cells ([.string ByteArray.empty, .slice none 0 0, .slice none 0 0, .slice none 0 0, .slice none 0 0] : List Value).toArray 36)).alloc (.cells ([.string t.name, .slice none 0 0, .slice none 0 0, .slice none 0 0, .slice none 0 0] : List Value).toArray 36)).heap.size = w.heap.size + 3))
  clear hbP hbR hbO hz
  go_enter Tryz.func6, Tryz.ntmps6
  go_wp2_with fail
  refine Calls.mono (HF1.out _ HB.out.2.2.2.1) ?_
  rintro e w1 ⟨u1, rfl, hb1, ho1⟩
  obtain ⟨au1, cu1, rfl, _⟩ := ho1.form
  have hq1 : w.heap.size + 3 ≤ w1.heap.size := by have h1 := hb1.size; simp only [World.size_alloc] at h1; omega
  have HN1 := (show Hid _ from (⟨HB.out.1.still hb1, HB.out.2.1.still hb1, HB.out.2.2.1.still hb1, bel_trans HB.out.2.2.2.1 hb1, ho1.mono (fun b hb => by have h1 : _ ≤ b := hb; simp only [World.size_alloc] at h1; show w.heap.size + 3 ≤ b; omega)⟩ : Box w1 w.heap.size 27 [.string t.name, .slice a1 t.tokens.length p1, .slice a2 t.levels.length p2, .slice a3 t.rules.length p3, .slice a4 t.parts.length p4] ∧ Box w1 (w.heap.size + 1) 36 [.string ByteArray.empty, .slice none 0 0, .slice none 0 0, .slice none 0 0, .slice none 0 0] ∧ Box w1 (w.heap.size + 1 + 1) 36 [.string t.name, .slice none 0 0, .slice none 0 0, .slice none 0 0, .slice none 0 0] ∧ Below w.heap.size w w1 ∧ TokenRO w1 (fun b => w.heap.size + 3 ≤ b) t.tokens (.slice au1 t.tokens.length cu1)))
  clear hb1 ho1
  have e1 : w1.cell? ⟨w.heap.size + 1 + 1, 1, none⟩ = some (.slice none 0 0) := HN1.out.2.2.1.cell 1 (by simp)
  have z1 := HN1.out.2.2.1.frozen 1
  have x2 : w1.cell? ⟨w.heap.size, 2, none⟩ = some (.slice a2 t.levels.length p2) := HN1.out.1.cell 2 (by simp)
  go_wp2_with fail
  refine Calls.mono (HF2.out _ (Below.setCell HN1.out.2.2.2.1 (by dsimp only; omega) _)) ?_
  rintro e w2 ⟨u2, rfl, hb2, ho2⟩
  obtain ⟨au2, cu2, rfl, _⟩ := ho2.form
  clear e1 z1 x2
  have hq2 : w.heap.size + 3 ≤ w2.heap.size := by have h1 := hb2.size; simp only [World.size_setCell] at h1; omega
  have HN2 := (show Hid _ from (⟨(Box.past HN1.out.1 (by omega)).still hb2, (Box.past HN1.out.2.1 (by omega)).still hb2, (Box.set HN1.out.2.2.1 1 _).still hb2, bel_trans (Below.setCell HN1.out.2.2.2.1 (by dsimp only; omega) _) hb2, ho2.mono (fun b hb => by have h1 : _ ≤ b := hb; simp only [World.size_setCell] at h1; show w.heap.size + 3 ≤ b; omega), (TokenRO.keep HN1.out.2.2.2.2 (fun b hb _ => by have hb2 : w.heap.size + 3 ≤ b := hb; repeat rw [blk_setCell_other _ _ _ _ (by dsimp only; omega)])).still hb2⟩ : Box w2 w.heap.size 27 [.string t.name, .slice a1 t.tokens.length p1, .slice a2 t.levels.length p2, .slice a3 t.rules.length p3, .slice a4 t.parts.length p4] ∧ Box w2 (w.heap.size + 1) 36 [.string ByteArray.empty, .slice none 0 0, .slice none 0 0, .slice none 0 0, .slice none 0 0] ∧ Box w2 (w.heap.size + 1 + 1) 36 [.string t.name, .slice au1 t.tokens.length cu1, .slice none 0 0, .slice none 0 0, .slice none 0 0] ∧ Below w.heap.size w w2 ∧ LevelRO w2 (fun b => w.heap.size + 3 ≤ b) t.levels (.slice au2 t.levels.length cu2) ∧ TokenRO w2 (fun b => w.heap.size + 3 ≤ b) t.tokens (.slice au1 t.tokens.length cu1)))
  clear hb2 ho2
  have e2 : w2.cell? ⟨w.heap.size + 1 + 1, 2, none⟩ = some (.slice none 0 0) := HN2.out.2.2.1.cell 2 (by simp)
  have z2 := HN2.out.2.2.1.frozen 2
  have x3 : w2.cell? ⟨w.heap.size, 3, none⟩ = some (.slice a3 t.rules.length p3) := HN2.out.1.cell 3 (by simp)
  go_wp2_with fail
  refine Calls.mono (HF3.out _ (Below.setCell HN2.out.2.2.2.1 (by dsimp only; omega) _)) ?_
  rintro e w3 ⟨u3, rfl, hb3, ho3⟩
  obtain ⟨au3, cu3, rfl, _⟩ := ho3.form
  clear e2 z2 x3
  have hq3 : w.heap.size + 3 ≤ w3.heap.size := by have h1 := hb3.size; simp only [World.size_setCell] at h1; omega
  have HN3 := (show Hid _ from (⟨(Box.past HN2.out.1 (by omega)).still hb3, (Box.past HN2.out.2.1 (by omega)).still hb3, (Box.set HN2.out.2.2.1 2 _).still hb3, bel_trans (Below.setCell HN2.out.2.2.2.1 (by dsimp only; omega) _) hb3, ho3.mono (fun b hb => by have h1 : _ ≤ b := hb; simp only [World.size_setCell] at h1; show w.heap.size + 3 ≤ b; omega), (LevelRO.keep HN2.out.2.2.2.2.1 (fun b hb _ => by have hb2 : w.heap.size + 3 ≤ b := hb; repeat rw [blk_setCell_other _ _ _ _ (by dsimp only; omega)])).still hb3, (TokenRO.keep HN2.out.2.2.2.2.2 (fun b hb _ => by have hb2 : w.heap.size + 3 ≤ b := hb; repeat rw [blk_setCell_other _ _ _ _ (by dsimp only; omega)])).still hb3⟩ : Box w3 w.heap.size 27 [.string t.name, .slice a1 t.tokens.length p1, .slice a2 t.levels.length p2, .slice a3 t.rules.length p3, .slice a4 t.parts.length p4] ∧ Box w3 (w.heap.size + 1) 36 [.string ByteArray.empty, .slice none 0 0, .slice none 0 0, .slice none 0 0, .slice none 0 0] ∧ Box w3 (w.heap.size + 1 + 1) 36 [.string t.name, .slice au1 t.tokens.length cu1, .slice au2 t.levels.length cu2, .slice none 0 0, .slice none 0 0] ∧ Below w.heap.size w w3 ∧ GRuleRO w3 (fun b => w.heap.size + 3 ≤ b) t.rules (.slice au3 t.rules.length cu3) ∧ LevelRO w3 (fun b => w.heap.size + 3 ≤ b) t.levels (.slice au2 t.levels.length cu2) ∧ TokenRO w3 (fun b => w.heap.size + 3 ≤ b) t.tokens (.slice au1 t.tokens.length cu1)))
  clear hb3 ho3
  have e3 : w3.cell? ⟨w.heap.size + 1 + 1, 3, none⟩ = some (.slice none 0 0) := HN3.out.2.2.1.cell 3 (by simp)
  have z3 := HN3.out.2.2.1.frozen 3
  have x4 : w3.cell? ⟨w.heap.size, 4, none⟩ = some (.slice a4 t.parts.length p4) := HN3.out.1.cell 4 (by simp)
  go_wp2_with fail
  refine Calls.mono (HF4.out _ (Below.setCell HN3.out.2.2.2.1 (by dsimp only; omega) _)) ?_
  rintro e w4 ⟨u4, rfl, hb4, ho4⟩
  obtain ⟨au4, cu4, rfl, _⟩ := ho4.form
  clear e3 z3 x4
  have hq4 : w.heap.size + 3 ≤ w4.heap.size := by have h1 := hb4.size; simp only [World.size_setCell] at h1; omega
  have HN4 := (show Hid _ from (⟨(Box.past HN3.out.1 (by omega)).still hb4, (Box.past HN3.out.2.1 (by omega)).still hb4, (Box.set HN3.out.2.2.1 3 _).still hb4, bel_trans (Below.setCell HN3.out.2.2.2.1 (by dsimp only; omega) _) hb4, ho4.mono (fun b hb => by have h1 : _ ≤ b := hb; simp only [World.size_setCell] at h1; show w.heap.size + 3 ≤ b; omega), (GRuleRO.keep HN3.out.2.2.2.2.1 (fun b hb _ => by have hb2 : w.heap.size + 3 ≤ b := hb; repeat rw [blk_setCell_other _ _ _ _ (by dsimp only; omega)])).still hb4, (LevelRO.keep HN3.out.2.2.2.2.2.1 (fun b hb _ => by have hb2 : w.heap.size + 3 ≤ b := hb; repeat rw [blk_setCell_other _ _ _ _ (by dsimp only; omega)])).still hb4, (TokenRO.keep HN3.out.2.2.2.2.2.2 (fun b hb _ => by have hb2 : w.heap.size + 3 ≤ b := hb; repeat rw [blk_setCell_other _ _ _ _ (by dsimp only; omega)])).still hb4⟩ : Box w4 w.heap.size 27 [.string t.name, .slice a1 t.tokens.length p1, .slice a2 t.levels.length p2, .slice a3 t.rules.length p3, .slice a4 t.parts.length p4] ∧ Box w4 (w.heap.size + 1) 36 [.string ByteArray.empty, .slice none 0 0, .slice none 0 0, .slice none 0 0, .slice none 0 0] ∧ Box w4 (w.heap.size + 1 + 1) 36 [.string t.name, .slice au1 t.tokens.length cu1, .slice au2 t.levels.length cu2, .slice au3 t.rules.length cu3, .slice none 0 0] ∧ Below w.heap.size w w4 ∧ PartRO w4 (fun b => w.heap.size + 3 ≤ b) t.parts (.slice au4 t.parts.length cu4) ∧ GRuleRO w4 (fun b => w.heap.size + 3 ≤ b) t.rules (.slice au3 t.rules.length cu3) ∧ LevelRO w4 (fun b => w.heap.size + 3 ≤ b) t.levels (.slice au2 t.levels.length cu2) ∧ TokenRO w4 (fun b => w.heap.size + 3 ≤ b) t.tokens (.slice au1 t.tokens.length cu1)))
  clear hb4 ho4
  have e4 : w4.cell? ⟨w.heap.size + 1 + 1, 4, none⟩ = some (.slice none 0 0) := HN4.out.2.2.1.cell 4 (by simp)
  have z4 := HN4.out.2.2.1.frozen 4
  have y0 : w4.cell? ⟨w.heap.size + 1, 0, none⟩ = some (.string ByteArray.empty) := HN4.out.2.1.cell 0 (by simp)
  have f0 := HN4.out.2.1.frozen 0
  have y1 : w4.cell? ⟨w.heap.size + 1, 1, none⟩ = some (.slice none 0 0) := HN4.out.2.1.cell 1 (by simp)
  have f1 := HN4.out.2.1.frozen 1
  have y2 : w4.cell? ⟨w.heap.size + 1, 2, none⟩ = some (.slice none 0 0) := HN4.out.2.1.cell 2 (by simp)
  have f2 := HN4.out.2.1.frozen 2
  have y3 : w4.cell? ⟨w.heap.size + 1, 3, none⟩ = some (.slice none 0 0) := HN4.out.2.1.cell 3 (by simp)
  have f3 := HN4.out.2.1.frozen 3
  have y4 : w4.cell? ⟨w.heap.size + 1, 4, none⟩ = some (.slice none 0 0) := HN4.out.2.1.cell 4 (by simp)
  have f4 := HN4.out.2.1.frozen 4
  have e0 : w4.cell? ⟨w.heap.size + 1 + 1, 0, none⟩ = some (.string t.name) := HN4.out.2.2.1.cell 0 (by simp)
  have e1 : w4.cell? ⟨w.heap.size + 1 + 1, 1, none⟩ = some (.slice au1 t.tokens.length cu1) := HN4.out.2.2.1.cell 1 (by simp)
  have e2 : w4.cell? ⟨w.heap.size + 1 + 1, 2, none⟩ = some (.slice au2 t.levels.length cu2) := HN4.out.2.2.1.cell 2 (by simp)
  have e3 : w4.cell? ⟨w.heap.size + 1 + 1, 3, none⟩ = some (.slice au3 t.rules.length cu3) := HN4.out.2.2.1.cell 3 (by simp)
  go_wp2_with fail
  refine bodyPost_ret (v := .agg #[.string t.name, .slice au1 t.tokens.length cu1, .slice au2 t.levels.length cu2, .slice au3 t.rules.length cu3, .slice au4 t.parts.length cu4]) (by simp [results, Tryz.results6, go_sem, y0, y1, y2, y3, y4]) rfl ⟨_, _, _, _, rfl, ?_, ⟨?_, ?_, ?_, ?_⟩⟩
  · repeat (refine Below.setCell ?_ (by dsimp only; omega) _)
    exact HN4.out.2.2.2.1
  · refine (TokenRO.keep HN4.out.2.2.2.2.2.2.2 (fun b hb _ => ?_)).mono (fun b hb => by have hb2 : w.heap.size + 3 ≤ b := hb; show w.heap.size ≤ b; omega)
    have hb2 : w.heap.size + 3 ≤ b := hb
    repeat rw [blk_setCell_other _ _ _ _ (by dsimp only; omega)]
  · refine (LevelRO.keep HN4.out.2.2.2.2.2.2.1 (fun b hb _ => ?_)).mono (fun b hb => by have hb2 : w.heap.size + 3 ≤ b := hb; show w.heap.size ≤ b; omega)
    have hb2 : w.heap.size + 3 ≤ b := hb
    repeat rw [blk_setCell_other _ _ _ _ (by dsimp only; omega)]
  · refine (GRuleRO.keep HN4.out.2.2.2.2.2.1 (fun b hb _ => ?_)).mono (fun b hb => by have hb2 : w.heap.size + 3 ≤ b := hb; show w.heap.size ≤ b; omega)
    have hb2 : w.heap.size + 3 ≤ b := hb
    repeat rw [blk_setCell_other _ _ _ _ (by dsimp only; omega)]
  · refine (PartRO.keep HN4.out.2.2.2.2.1 (fun b hb _ => ?_)).mono (fun b hb => by have hb2 : w.heap.size + 3 ≤ b := hb; show w.heap.size ≤ b; omega)
    have hb2 : w.heap.size + 3 ≤ b := hb
    repeat rw [blk_setCell_other _ _ _ _ (by dsimp only; omega)]
end Go.Proofs.YtgjnlhidbjpdkajGreat
