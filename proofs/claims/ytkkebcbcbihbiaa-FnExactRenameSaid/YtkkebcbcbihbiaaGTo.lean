import Derived.Test.YtkkebcbcbihbiaaGSz
namespace Go.Proofs.Ytkkebcbcbihbiaa
open Go.RowKit Go.Deep
set_option linter.unusedVariables false
set_option maxRecDepth 100000
set_option linter.unusedSimpArgs false

set_option maxHeartbeats 800000 in
theorem toSEdge_any (t : DSEdge) (w : World) :
    Calls Try.prog 77 #[.agg #[.int .i64 t.from_, .int .i64 t.to_, .int .i64 t.kind]] w fun e w' => e = .returned (.agg #[.int .i64 t.from_, .int .i64 t.to_, .int .i64 t.kind]) ∧ Below w.heap.size w w' := by
  go_enter Try.func77, Try.ntmps77
  go_wp2_with fail
  exact bodyPost_ret (v := .agg #[.int .i64 t.from_, .int .i64 t.to_, .int .i64 t.kind]) (by simp [results, Try.results77, go_sem]) rfl ⟨rfl, bel3 _ _ _ _⟩
theorem info68 : (Try.prog.info? 68).map (fun i => (i.zero, i.size, i.bytes)) = some (some (.agg #[.int .i64 0, .int .i64 0, .int .i64 0]), 3, 24) := by kernel_rfl
theorem run_makeSEdgeR (n : Nat) (hn : n ≤ 1048576) (w : World) :
    (Instr.makeSlice 28 (.int .i64 (n : Int)) (.int .i64 (n : Int))).run Try.prog w = .ok (.slice (some ⟨w.heap.size, 0, none⟩) n n) (w.alloc (.cells (madeCells #[.int .i64 0, .int .i64 0, .int .i64 0] (n * 3)) 68)) := by
  obtain ⟨i, hi, hzz⟩ := Option.map_eq_some_iff.1 info68
  simp only [Prod.mk.injEq] at hzz
  obtain ⟨hz, hs, hb⟩ := hzz
  have hr := run_make (P := Try.prog) w 28 68 i _ Try.underlying28 hi hz .i64 .i64 n n (by omega) (Int.le_refl _) (by rw [hb]; omega) (by omega)
  simp only [Int.toNat_natCast, hs] at hr
  exact hr
set_option maxHeartbeats 3200000 in
theorem toSEdgeR_any {S : Nat → Prop} (l : List DSEdge) (v : Value) (w : World) (h : SEdgeR w S l v) (hsm : SEdgeR.Sm l) :
    Calls Try.prog 40 #[v] w fun e w' => ∃ v', e = .returned v' ∧ Below w.heap.size w w' ∧ SEdgeRO w' (fun b => w.heap.size ≤ b) l v' := by
  obtain ⟨a, cap, b, off, rfl, hc, hm, ha, hcell⟩ := h
  have HC := (show Hid _ from hcell); clear hcell
  have HA := (show Hid _ from ha); clear ha
  have hlen : l.length ≤ 1048576 := hsm.1
  have HSM := (show Hid _ from hsm.2)
  clear hsm
  unfold maxLen at hm
  have hmk := run_makeSEdgeR l.length hlen
  go_enter Try.func40, Try.ntmps40
  go_wp2_with fail
  go_loopw [4] (fun i wr => ∃ j : Nat, j ≤ l.length ∧ i = .int .i64 j ∧ Below w.heap.size w wr ∧ Hid (∃ f, wr.rowIs w.heap.size 68 (l.length * 3) f ∧ ∀ i (_ : i < j) (hi : i < l.length), (f (i * 3) = .int .i64 l[i].from_ ∧ f (i * 3 + 1) = .int .i64 l[i].to_ ∧ f (i * 3 + 2) = .int .i64 l[i].kind))) (fun i _ => l.length - (intOf i).toNat)
  case atStart =>
    obtain ⟨f, hf⟩ := row_made w #[.int .i64 0, .int .i64 0, .int .i64 0] (l.length * 3) 68
    exact ⟨0, Nat.zero_le _, rfl, bel_alloc _ _, f, hf, fun i hi => absurd hi (Nat.not_lt_zero _)⟩
  case round =>
    obtain ⟨j, hj, rfl, hbel, HM⟩ := hrel
    by_cases hlt : j < l.length
    · obtain ⟨rfl, _⟩ := HA.out (by omega)
      obtain ⟨c0, c1, c2⟩ := HC.out j (by omega)
      rw [← hbel.cell (lt_of_cell c0)] at c0
      rw [← hbel.cell (lt_of_cell c1)] at c1
      rw [← hbel.cell (lt_of_cell c2)] at c2
      have hcl := toSEdge_any l[j] wr
      have HCL := (show Hid _ from hcl); clear hcl
      go_wp2_with fail
      refine Calls.mono HCL.out ?_
      rintro e w1 ⟨rfl, hb1⟩
      obtain ⟨f, hrow, hf⟩ := HM.out
      have hg := World.rowIs.lt hrow
      have hrow1 := World.rowIs.of_block hrow (hb1.block _ hg)
      have hbw := bel_trans hbel hb1
      have e0 := hrow1.cell (i := j * 3) (by omega)
      have z0 := hrow1.frozen (j * 3)
      have e1 := hrow1.cell (i := j * 3 + 1) (by omega)
      have z1 := hrow1.frozen (j * 3 + 1)
      have e2 := hrow1.cell (i := j * 3 + 2) (by omega)
      have z2 := hrow1.frozen (j * 3 + 2)
      have hf1 : ∀ i (_ : i < j) (hi : i < l.length), (f (i * 3) = .int .i64 l[i].from_ ∧ f (i * 3 + 1) = .int .i64 l[i].to_ ∧ f (i * 3 + 2) = .int .i64 l[i].kind) := hf
      have HN := (show Hid _ from (⟨hrow1, hf1⟩ : _ ∧ _)); clear hrow hf hrow1 hf1 hg HM c0 c1 c2
      go_wp2_with fail
      refine ⟨⟨j + 1, by omega, by go_num, (Below.setCell (Below.setCell (Below.setCell hbw (Nat.le_refl _) _) (Nat.le_refl _) _) (Nat.le_refl _) _), _, (World.rowIs.set (World.rowIs.set (World.rowIs.set HN.out.1 (j * 3) _) (j * 3 + 1) _) (j * 3 + 2) _), fun i hi hl => ?_⟩, by simp [intOf]; omega⟩
      by_cases e : i = j
      · subst e
        simp
      · obtain ⟨g0, g1, g2⟩ := HN.out.2 i (by omega) hl
        exact ⟨by rw [if_neg (by omega), if_neg (by omega), if_neg (by omega)]; exact g0, by rw [if_neg (by omega), if_neg (by omega), if_neg (by omega)]; exact g1, by rw [if_neg (by omega), if_neg (by omega), if_neg (by omega)]; exact g2⟩
    · go_wp2_with fail
      go_ret
      obtain ⟨f, hrow, hf⟩ := HM.out
      exact ⟨_, rfl, hbel, w.heap.size, f, rfl, Nat.le_refl _, hlen, hrow, fun i hi => hf i (by omega) hi⟩
set_option maxHeartbeats 800000 in
theorem toSpot_any (t : DSpot) (w : World) :
    Calls Try.prog 78 #[.agg #[.int .i64 t.scope, .string t.name]] w fun e w' => e = .returned (.agg #[.int .i64 t.scope, .string t.name]) ∧ Below w.heap.size w w' := by
  go_enter Try.func78, Try.ntmps78
  go_wp2_with fail
  exact bodyPost_ret (v := .agg #[.int .i64 t.scope, .string t.name]) (by simp [results, Try.results78, go_sem]) rfl ⟨rfl, bel3 _ _ _ _⟩
theorem info74 : (Try.prog.info? 74).map (fun i => (i.zero, i.size, i.bytes)) = some (some (.agg #[.int .i64 0, .string ByteArray.empty]), 2, 24) := by kernel_rfl
theorem run_makeSpotR (n : Nat) (hn : n ≤ 1048576) (w : World) :
    (Instr.makeSlice 29 (.int .i64 (n : Int)) (.int .i64 (n : Int))).run Try.prog w = .ok (.slice (some ⟨w.heap.size, 0, none⟩) n n) (w.alloc (.cells (madeCells #[.int .i64 0, .string ByteArray.empty] (n * 2)) 74)) := by
  obtain ⟨i, hi, hzz⟩ := Option.map_eq_some_iff.1 info74
  simp only [Prod.mk.injEq] at hzz
  obtain ⟨hz, hs, hb⟩ := hzz
  have hr := run_make (P := Try.prog) w 29 74 i _ Try.underlying29 hi hz .i64 .i64 n n (by omega) (Int.le_refl _) (by rw [hb]; omega) (by omega)
  simp only [Int.toNat_natCast, hs] at hr
  exact hr
set_option maxHeartbeats 3200000 in
theorem toSpotR_any {S : Nat → Prop} (l : List DSpot) (v : Value) (w : World) (h : SpotR w S l v) (hsm : SpotR.Sm l) :
    Calls Try.prog 41 #[v] w fun e w' => ∃ v', e = .returned v' ∧ Below w.heap.size w w' ∧ SpotRO w' (fun b => w.heap.size ≤ b) l v' := by
  obtain ⟨a, cap, b, off, rfl, hc, hm, ha, hcell⟩ := h
  have HC := (show Hid _ from hcell); clear hcell
  have HA := (show Hid _ from ha); clear ha
  have hlen : l.length ≤ 1048576 := hsm.1
  have HSM := (show Hid _ from hsm.2)
  clear hsm
  unfold maxLen at hm
  have hmk := run_makeSpotR l.length hlen
  go_enter Try.func41, Try.ntmps41
  go_wp2_with fail
  go_loopw [4] (fun i wr => ∃ j : Nat, j ≤ l.length ∧ i = .int .i64 j ∧ Below w.heap.size w wr ∧ Hid (∃ f, wr.rowIs w.heap.size 74 (l.length * 2) f ∧ ∀ i (_ : i < j) (hi : i < l.length), (f (i * 2) = .int .i64 l[i].scope ∧ f (i * 2 + 1) = .string l[i].name))) (fun i _ => l.length - (intOf i).toNat)
  case atStart =>
    obtain ⟨f, hf⟩ := row_made w #[.int .i64 0, .string ByteArray.empty] (l.length * 2) 74
    exact ⟨0, Nat.zero_le _, rfl, bel_alloc _ _, f, hf, fun i hi => absurd hi (Nat.not_lt_zero _)⟩
  case round =>
    obtain ⟨j, hj, rfl, hbel, HM⟩ := hrel
    by_cases hlt : j < l.length
    · obtain ⟨rfl, _⟩ := HA.out (by omega)
      obtain ⟨c0, c1, zc0⟩ := HC.out j (by omega)
      rw [← hbel.cell (lt_of_cell c0)] at c0
      rw [← hbel.cell (lt_of_cell c1)] at c1
      have hcl := toSpot_any l[j] wr
      have HCL := (show Hid _ from hcl); clear hcl
      go_wp2_with fail
      refine Calls.mono HCL.out ?_
      rintro e w1 ⟨rfl, hb1⟩
      obtain ⟨f, hrow, hf⟩ := HM.out
      have hg := World.rowIs.lt hrow
      have hrow1 := World.rowIs.of_block hrow (hb1.block _ hg)
      have hbw := bel_trans hbel hb1
      have e0 := hrow1.cell (i := j * 2) (by omega)
      have z0 := hrow1.frozen (j * 2)
      have e1 := hrow1.cell (i := j * 2 + 1) (by omega)
      have z1 := hrow1.frozen (j * 2 + 1)
      have hf1 : ∀ i (_ : i < j) (hi : i < l.length), (f (i * 2) = .int .i64 l[i].scope ∧ f (i * 2 + 1) = .string l[i].name) := hf
      have HN := (show Hid _ from (⟨hrow1, hf1⟩ : _ ∧ _)); clear hrow hf hrow1 hf1 hg HM c0 c1
      go_wp2_with fail
      refine ⟨⟨j + 1, by omega, by go_num, (Below.setCell (Below.setCell hbw (Nat.le_refl _) _) (Nat.le_refl _) _), _, (World.rowIs.set (World.rowIs.set HN.out.1 (j * 2) _) (j * 2 + 1) _), fun i hi hl => ?_⟩, by simp [intOf]; omega⟩
      by_cases e : i = j
      · subst e
        simp
      · obtain ⟨g0, g1⟩ := HN.out.2 i (by omega) hl
        exact ⟨by rw [if_neg (by omega), if_neg (by omega)]; exact g0, by rw [if_neg (by omega), if_neg (by omega)]; exact g1⟩
    · go_wp2_with fail
      go_ret
      obtain ⟨f, hrow, hf⟩ := HM.out
      exact ⟨_, rfl, hbel, w.heap.size, f, rfl, Nat.le_refl _, hlen, hrow, fun i hi => by obtain ⟨_, _, z0⟩ := HC.out i hi; obtain ⟨g0, g1⟩ := hf i (by omega) hi; exact ⟨g0, g1, z0⟩⟩
set_option maxHeartbeats 6400000 in
theorem toSg_any {S : Nat → Prop} (t : DSg) (v1 v2 v3 : Value) (w : World) (h : DSgL w S t v1 v2 v3) (hsm : t.Sm) :
    Calls Try.prog 11 #[.agg #[.int .i64 t.scopes, v1, v2, v3]] w fun e w' => ∃ u1 u2 u3, e = .returned (.agg #[.int .i64 t.scopes, u1, u2, u3]) ∧ Below w.heap.size w w' ∧ DSgO w' (fun b => w.heap.size ≤ b) t u1 u2 u3 := by
  have HF1 := (show Hid _ from fun (w' : World) (hb : Below w.heap.size w w') => toSEdgeR_any t.edges v1 w' (h.edges.still hb) hsm.edges)
  have HF2 := (show Hid _ from fun (w' : World) (hb : Below w.heap.size w w') => toSpotR_any t.decls v2 w' (h.decls.still hb) hsm.decls)
  have HF3 := (show Hid _ from fun (w' : World) (hb : Below w.heap.size w w') => toSpotR_any t.refs v3 w' (h.refs.still hb) hsm.refs)
  obtain ⟨a1, p1, rfl, _⟩ := h.edges.form
  obtain ⟨a2, p2, rfl, _⟩ := h.decls.form
  obtain ⟨a3, p3, rfl, _⟩ := h.refs.form
  clear h hsm
  have hbP := Box.new w 25 [.int .i64 t.scopes, .slice a1 t.edges.length p1, .slice a2 t.decls.length p2, .slice a3 t.refs.length p3]
  have hbR := Box.new (w.alloc (.cells ([.int .i64 t.scopes, .slice a1 t.edges.length p1, .slice a2 t.decls.length p2, .slice a3 t.refs.length p3] : List Value).toArray 25)) 31 [.int .i64 0, .slice none 0 0, .slice none 0 0, .slice none 0 0]
  have hbO := Box.new ((w.alloc (.cells ([.int .i64 t.scopes, .slice a1 t.edges.length p1, .slice a2 t.decls.length p2, .slice a3 t.refs.length p3] : List Value).toArray 25)).alloc (.cells ([.int .i64 0, .slice none 0 0, .slice none 0 0, .slice none 0 0] : List Value).toArray 31)) 31 [.int .i64 t.scopes, .slice none 0 0, .slice none 0 0, .slice none 0 0]
  simp only [World.size_alloc] at hbR hbO
  have hz : (((w.alloc (.cells ([.int .i64 t.scopes, .slice a1 t.edges.length p1, .slice a2 t.decls.length p2, .slice a3 t.refs.length p3] : List Value).toArray 25)).alloc (.cells ([.int .i64 0, .slice none 0 0, .slice none 0 0, .slice none 0 0] : List Value).toArray 31)).alloc (.cells ([.int .i64 t.scopes, .slice none 0 0, .slice none 0 0, .slice none 0 0] : List Value).toArray 31)).heap.size = w.heap.size + 3 := by simp
  have HB := (show Hid _ from (⟨(hbP.still (bel_alloc _ _)).still (bel_alloc _ _), hbR.still (bel_alloc _ _), hbO, bel3 _ _ _ _, hz⟩ : Box (((w.alloc (.cells ([.int .i64 t.scopes, .slice a1 t.edges.length p1, .slice a2 t.decls.length p2, .slice a3 t.refs.length p3] : List Value).toArray 25)).alloc (.cells ([.int .i64 0, .slice none 0 0, .slice none 0 0, .slice none 0 0] : List Value).toArray 31)).alloc (.cells ([.int .i64 t.scopes, .slice none 0 0, .slice none 0 0, .slice none 0 0] : List Value).toArray 31)) w.heap.size 25 [.int .i64 t.scopes, .slice a1 t.edges.length p1, .slice a2 t.decls.length p2, .slice a3 t.refs.length p3] ∧ Box (((w.alloc (.cells ([.int .i64 t.scopes, .slice a1 t.edges.length p1, .slice a2 t.decls.length p2, .slice a3 t.refs.length p3] : List Value).toArray 25)).alloc (.cells ([.int .i64 0, .slice none 0 0, .slice none 0 0, .slice none 0 0] : List Value).toArray 31)).alloc (.cells ([.int .i64 t.scopes, .slice none 0 0, .slice none 0 0, .slice none 0 0] : List Value).toArray 31)) (w.heap.size + 1) 31 [.int .i64 0, .slice none 0 0, .slice none 0 0, .slice none 0 0] ∧ Box (((w.alloc (.cells ([.int .i64 t.scopes, .slice a1 t.edges.length p1, .slice a2 t.decls.length p2, .slice a3 t.refs.length p3] : List Value).toArray 25)).alloc (.cells ([.int .i64 0, .slice none 0 0, .slice none 0 0, .slice none 0 0] : List Value).toArray 31)).alloc (.cells ([.int .i64 t.scopes, .slice none 0 0, .slice none 0 0, .slice none 0 0] : List Value).toArray 31)) (w.heap.size + 1 + 1) 31 [.int .i64 t.scopes, .slice none 0 0, .slice none 0 0, .slice none 0 0] ∧ Below w.heap.size w (((w.alloc (.cells ([.int .i64 t.scopes, .slice a1 t.edges.length p1, .slice a2 t.decls.length p2, .slice a3 t.refs.length p3] : List Value).toArray 25)).alloc (.cells ([.int .i64 0, .slice none 0 0, .slice none 0 0, .slice none 0 0] : List Value).toArray 31)).alloc (.cells ([.int .i64 t.scopes, .slice none 0 0, .slice none 0 0, .slice none 0 0] : List Value).toArray 31)) ∧ (((w.alloc (.cells ([.int .i64 t.scopes, .slice a1 t.edges.length p1, .slice a2 t.decls.length p2, .slice a3 t.refs.length p3] : List Value).toArray 25)).alloc (.cells ([.int .i64 0, .slice none 0 0, .slice none 0 0, .slice none 0 0] : List Value).toArray 31)).alloc (.cells ([.int .i64 t.scopes, .slice none 0 0, .slice none 0 0, .slice none 0 0] : List Value).toArray 31)).heap.size = w.heap.size + 3))
  clear hbP hbR hbO hz
  go_enter Try.func11, Try.ntmps11
  go_wp2_with fail
  refine Calls.mono (HF1.out _ HB.out.2.2.2.1) ?_
  rintro e w1 ⟨u1, rfl, hb1, ho1⟩
  obtain ⟨au1, cu1, rfl, _⟩ := ho1.form
  have hq1 : w.heap.size + 3 ≤ w1.heap.size := by have h1 := hb1.size; simp only [World.size_alloc] at h1; omega
  have HN1 := (show Hid _ from (⟨HB.out.1.still hb1, HB.out.2.1.still hb1, HB.out.2.2.1.still hb1, bel_trans HB.out.2.2.2.1 hb1, ho1.mono (fun b hb => by have h1 : _ ≤ b := hb; simp only [World.size_alloc] at h1; show w.heap.size + 3 ≤ b; omega)⟩ : Box w1 w.heap.size 25 [.int .i64 t.scopes, .slice a1 t.edges.length p1, .slice a2 t.decls.length p2, .slice a3 t.refs.length p3] ∧ Box w1 (w.heap.size + 1) 31 [.int .i64 0, .slice none 0 0, .slice none 0 0, .slice none 0 0] ∧ Box w1 (w.heap.size + 1 + 1) 31 [.int .i64 t.scopes, .slice none 0 0, .slice none 0 0, .slice none 0 0] ∧ Below w.heap.size w w1 ∧ SEdgeRO w1 (fun b => w.heap.size + 3 ≤ b) t.edges (.slice au1 t.edges.length cu1)))
  clear hb1 ho1
  have e1 : w1.cell? ⟨w.heap.size + 1 + 1, 1, none⟩ = some (.slice none 0 0) := HN1.out.2.2.1.cell 1 (by simp)
  have z1 := HN1.out.2.2.1.frozen 1
  have x2 : w1.cell? ⟨w.heap.size, 2, none⟩ = some (.slice a2 t.decls.length p2) := HN1.out.1.cell 2 (by simp)
  go_wp2_with fail
  refine Calls.mono (HF2.out _ (Below.setCell HN1.out.2.2.2.1 (by dsimp only; omega) _)) ?_
  rintro e w2 ⟨u2, rfl, hb2, ho2⟩
  obtain ⟨au2, cu2, rfl, _⟩ := ho2.form
  clear e1 z1 x2
  have hq2 : w.heap.size + 3 ≤ w2.heap.size := by have h1 := hb2.size; simp only [World.size_setCell] at h1; omega
  have HN2 := (show Hid _ from (⟨(Box.past HN1.out.1 (by omega)).still hb2, (Box.past HN1.out.2.1 (by omega)).still hb2, (Box.set HN1.out.2.2.1 1 _).still hb2, bel_trans (Below.setCell HN1.out.2.2.2.1 (by dsimp only; omega) _) hb2, ho2.mono (fun b hb => by have h1 : _ ≤ b := hb; simp only [World.size_setCell] at h1; show w.heap.size + 3 ≤ b; omega), (SEdgeRO.keep HN1.out.2.2.2.2 (fun b hb _ => by have hb2 : w.heap.size + 3 ≤ b := hb; repeat rw [blk_setCell_other _ _ _ _ (by dsimp only; omega)])).still hb2⟩ : Box w2 w.heap.size 25 [.int .i64 t.scopes, .slice a1 t.edges.length p1, .slice a2 t.decls.length p2, .slice a3 t.refs.length p3] ∧ Box w2 (w.heap.size + 1) 31 [.int .i64 0, .slice none 0 0, .slice none 0 0, .slice none 0 0] ∧ Box w2 (w.heap.size + 1 + 1) 31 [.int .i64 t.scopes, .slice au1 t.edges.length cu1, .slice none 0 0, .slice none 0 0] ∧ Below w.heap.size w w2 ∧ SpotRO w2 (fun b => w.heap.size + 3 ≤ b) t.decls (.slice au2 t.decls.length cu2) ∧ SEdgeRO w2 (fun b => w.heap.size + 3 ≤ b) t.edges (.slice au1 t.edges.length cu1)))
  clear hb2 ho2
  have e2 : w2.cell? ⟨w.heap.size + 1 + 1, 2, none⟩ = some (.slice none 0 0) := HN2.out.2.2.1.cell 2 (by simp)
  have z2 := HN2.out.2.2.1.frozen 2
  have x3 : w2.cell? ⟨w.heap.size, 3, none⟩ = some (.slice a3 t.refs.length p3) := HN2.out.1.cell 3 (by simp)
  go_wp2_with fail
  refine Calls.mono (HF3.out _ (Below.setCell HN2.out.2.2.2.1 (by dsimp only; omega) _)) ?_
  rintro e w3 ⟨u3, rfl, hb3, ho3⟩
  obtain ⟨au3, cu3, rfl, _⟩ := ho3.form
  clear e2 z2 x3
  have hq3 : w.heap.size + 3 ≤ w3.heap.size := by have h1 := hb3.size; simp only [World.size_setCell] at h1; omega
  have HN3 := (show Hid _ from (⟨(Box.past HN2.out.1 (by omega)).still hb3, (Box.past HN2.out.2.1 (by omega)).still hb3, (Box.set HN2.out.2.2.1 2 _).still hb3, bel_trans (Below.setCell HN2.out.2.2.2.1 (by dsimp only; omega) _) hb3, ho3.mono (fun b hb => by have h1 : _ ≤ b := hb; simp only [World.size_setCell] at h1; show w.heap.size + 3 ≤ b; omega), (SpotRO.keep HN2.out.2.2.2.2.1 (fun b hb _ => by have hb2 : w.heap.size + 3 ≤ b := hb; repeat rw [blk_setCell_other _ _ _ _ (by dsimp only; omega)])).still hb3, (SEdgeRO.keep HN2.out.2.2.2.2.2 (fun b hb _ => by have hb2 : w.heap.size + 3 ≤ b := hb; repeat rw [blk_setCell_other _ _ _ _ (by dsimp only; omega)])).still hb3⟩ : Box w3 w.heap.size 25 [.int .i64 t.scopes, .slice a1 t.edges.length p1, .slice a2 t.decls.length p2, .slice a3 t.refs.length p3] ∧ Box w3 (w.heap.size + 1) 31 [.int .i64 0, .slice none 0 0, .slice none 0 0, .slice none 0 0] ∧ Box w3 (w.heap.size + 1 + 1) 31 [.int .i64 t.scopes, .slice au1 t.edges.length cu1, .slice au2 t.decls.length cu2, .slice none 0 0] ∧ Below w.heap.size w w3 ∧ SpotRO w3 (fun b => w.heap.size + 3 ≤ b) t.refs (.slice au3 t.refs.length cu3) ∧ SpotRO w3 (fun b => w.heap.size + 3 ≤ b) t.decls (.slice au2 t.decls.length cu2) ∧ SEdgeRO w3 (fun b => w.heap.size + 3 ≤ b) t.edges (.slice au1 t.edges.length cu1)))
  clear hb3 ho3
  have e3 : w3.cell? ⟨w.heap.size + 1 + 1, 3, none⟩ = some (.slice none 0 0) := HN3.out.2.2.1.cell 3 (by simp)
  have z3 := HN3.out.2.2.1.frozen 3
  have y0 : w3.cell? ⟨w.heap.size + 1, 0, none⟩ = some (.int .i64 0) := HN3.out.2.1.cell 0 (by simp)
  have f0 := HN3.out.2.1.frozen 0
  have y1 : w3.cell? ⟨w.heap.size + 1, 1, none⟩ = some (.slice none 0 0) := HN3.out.2.1.cell 1 (by simp)
  have f1 := HN3.out.2.1.frozen 1
  have y2 : w3.cell? ⟨w.heap.size + 1, 2, none⟩ = some (.slice none 0 0) := HN3.out.2.1.cell 2 (by simp)
  have f2 := HN3.out.2.1.frozen 2
  have y3 : w3.cell? ⟨w.heap.size + 1, 3, none⟩ = some (.slice none 0 0) := HN3.out.2.1.cell 3 (by simp)
  have f3 := HN3.out.2.1.frozen 3
  have e0 : w3.cell? ⟨w.heap.size + 1 + 1, 0, none⟩ = some (.int .i64 t.scopes) := HN3.out.2.2.1.cell 0 (by simp)
  have e1 : w3.cell? ⟨w.heap.size + 1 + 1, 1, none⟩ = some (.slice au1 t.edges.length cu1) := HN3.out.2.2.1.cell 1 (by simp)
  have e2 : w3.cell? ⟨w.heap.size + 1 + 1, 2, none⟩ = some (.slice au2 t.decls.length cu2) := HN3.out.2.2.1.cell 2 (by simp)
  go_wp2_with fail
  refine bodyPost_ret (v := .agg #[.int .i64 t.scopes, .slice au1 t.edges.length cu1, .slice au2 t.decls.length cu2, .slice au3 t.refs.length cu3]) (by simp [results, Try.results11, go_sem, y0, y1, y2, y3]) rfl ⟨_, _, _, rfl, ?_, ⟨?_, ?_, ?_⟩⟩
  · repeat (refine Below.setCell ?_ (by dsimp only; omega) _)
    exact HN3.out.2.2.2.1
  · refine (SEdgeRO.keep HN3.out.2.2.2.2.2.2 (fun b hb _ => ?_)).mono (fun b hb => by have hb2 : w.heap.size + 3 ≤ b := hb; show w.heap.size ≤ b; omega)
    have hb2 : w.heap.size + 3 ≤ b := hb
    repeat rw [blk_setCell_other _ _ _ _ (by dsimp only; omega)]
  · refine (SpotRO.keep HN3.out.2.2.2.2.2.1 (fun b hb _ => ?_)).mono (fun b hb => by have hb2 : w.heap.size + 3 ≤ b := hb; show w.heap.size ≤ b; omega)
    have hb2 : w.heap.size + 3 ≤ b := hb
    repeat rw [blk_setCell_other _ _ _ _ (by dsimp only; omega)]
  · refine (SpotRO.keep HN3.out.2.2.2.2.1 (fun b hb _ => ?_)).mono (fun b hb => by have hb2 : w.heap.size + 3 ≤ b := hb; show w.heap.size ≤ b; omega)
    have hb2 : w.heap.size + 3 ≤ b := hb
    repeat rw [blk_setCell_other _ _ _ _ (by dsimp only; omega)]
end Go.Proofs.Ytkkebcbcbihbiaa
