import Derived.Test.YtledclkmeikgdaaHm
/-! Rename: how it is answered. -/
namespace Go.Proofs.Ytledclkmeikgdaa
open Go.RowKit Go.Deep
set_option linter.unusedVariables false
set_option maxRecDepth 100000
set_option linter.unusedSimpArgs false

/-- A Sg and a code: the Sg owns its rows. -/
def RnA (R : DSg × Int) (w : World) (e : Ending) (w' : World) : Prop := ∃ (u1 u2 u3 : Value) (b1 b2 b3 : Nat), e = .returned (.tuple #[.agg #[.int .i64 R.1.scopes, u1, u2, u3], .int .i64 R.2]) ∧ Below w.heap.size w w' ∧ DSgL w' (fun b => w.heap.size ≤ b) R.1 u1 u2 u3 ∧ Rg3 w' w.heap.size w'.heap.size b1 b2 b3 R.1.edges.length R.1.decls.length R.1.refs.length u1 u2 u3
theorem sedNil (w : World) (S : Nat → Prop) : SEdgeR w S [] (.slice none 0 0) := ⟨none, 0, 0, 0, rfl, Nat.le_refl _, Nat.zero_le _, fun h => absurd h (Nat.not_lt_zero _), fun i hi => absurd hi (Nat.not_lt_zero _)⟩
theorem spoNil (w : World) (S : Nat → Prop) : SpotR w S [] (.slice none 0 0) := ⟨none, 0, 0, 0, rfl, Nat.le_refl _, Nat.zero_le _, fun h => absurd h (Nat.not_lt_zero _), fun i hi => absurd hi (Nat.not_lt_zero _)⟩
theorem rkNil (w : World) (T k : Nat) : Rk w 0 T 0 k (.slice none 0 0) := ⟨none, 0, 0, rfl, Nat.zero_le _, fun h => absurd h (Nat.not_lt_zero _)⟩
theorem RnA.zero {w w' : World} (C : Int) (h : Below w.heap.size w w') : RnA (zSg, C) w (.returned (.tuple #[.agg #[.int .i64 0, .slice none 0 0, .slice none 0 0, .slice none 0 0], .int .i64 C])) w' :=
  ⟨_, _, _, 0, 0, 0, rfl, h, ⟨sedNil _ _, spoNil _ _, spoNil _ _⟩, ⟨rkNil _ _ _, rkNil _ _ _, rkNil _ _ _, ⟨fun h => absurd h (Nat.not_lt_zero _), fun h => absurd h (Nat.not_lt_zero _), fun h => absurd h (Nat.not_lt_zero _)⟩, ⟨fun h => absurd h (Nat.not_lt_zero _), fun h => absurd h (Nat.not_lt_zero _), fun h => absurd h (Nat.not_lt_zero _)⟩⟩⟩
/-- Four cells written. -/
def set4 (w : World) (g : Nat) (c0 c1 c2 c3 : Value) : World := (((w.setCell ⟨g, 0, none⟩ c0).setCell ⟨g, 1, none⟩ c1).setCell ⟨g, 2, none⟩ c2).setCell ⟨g, 3, none⟩ c3
theorem set4_bel {B : Nat} {a w : World} (h : Below B a w) {g : Nat} (hg : B ≤ g) (c0 c1 c2 c3 : Value) : Below B a (set4 w g c0 c1 c2 c3) := (((h.setCell (p := ⟨g, 0, none⟩) hg _).setCell (p := ⟨g, 1, none⟩) hg _).setCell (p := ⟨g, 2, none⟩) hg _).setCell (p := ⟨g, 3, none⟩) hg _
theorem set4_block (w : World) (g : Nat) (c0 c1 c2 c3 : Value) {k : Nat} (hk : k ≠ g) : (set4 w g c0 c1 c2 c3).heap[k]? = w.heap[k]? :=
  (((blk_setCell_other _ _ _ _ (by exact hk)).trans (blk_setCell_other _ _ _ _ (by exact hk))).trans (blk_setCell_other _ _ _ _ (by exact hk))).trans (blk_setCell_other _ _ _ _ (by exact hk))
theorem set4_size (w : World) (g : Nat) (c0 c1 c2 c3 : Value) : (set4 w g c0 c1 c2 c3).heap.size = w.heap.size := by simp [set4, World.setCell]
/-- The argument's box and the answer's cell. -/
structure Fz (w : World) (sc : Int) (v1 v2 v3 : Value) (w' : World) : Prop where
  bel : Below w.heap.size w w'
  arg : Box w' w.heap.size 27 [.int .i64 sc, v1, v2, v3]
  res : Box w' (w.heap.size + 1) 27 [.int .i64 0, .slice none 0 0, .slice none 0 0, .slice none 0 0]
theorem Fz.new (w : World) (sc : Int) (v1 v2 v3 : Value) : Fz w sc v1 v2 v3 ((w.alloc (.cells #[.int .i64 sc, v1, v2, v3] 27)).alloc (.cells #[.int .i64 0, .slice none 0 0, .slice none 0 0, .slice none 0 0] 27)) := by
  refine ⟨bel_trans (bel_alloc _ _) (bel_alloc _ _), (Box.new w 27 _).still (bel_alloc _ _), ?_⟩
  have := Box.new (w.alloc (.cells #[.int .i64 sc, v1, v2, v3] 27)) 27 [.int .i64 0, .slice none 0 0, .slice none 0 0, .slice none 0 0]
  simpa using this
theorem Fz.still {w w' w'' : World} {sc : Int} {v1 v2 v3 : Value} (h : Fz w sc v1 v2 v3 w') (hb : Below w'.heap.size w' w'') : Fz w sc v1 v2 v3 w'' := ⟨bel_trans h.bel hb, h.arg.still hb, h.res.still hb⟩
theorem Fz.lt {w w' : World} {sc : Int} {v1 v2 v3 : Value} (h : Fz w sc v1 v2 v3 w') : w.heap.size + 2 ≤ w'.heap.size := h.res.lt
theorem Fz.zero {w w' : World} {sc : Int} {v1 v2 v3 : Value} (h : Fz w sc v1 v2 v3 w') (C : Int) : RnA (zSg, C) w (.returned (.tuple #[.agg #[.int .i64 0, .slice none 0 0, .slice none 0 0, .slice none 0 0], .int .i64 C])) (set4 w' (w.heap.size + 1) (.int .i64 0) (.slice none 0 0) (.slice none 0 0) (.slice none 0 0)) :=
  RnA.zero C (set4_bel h.bel (by omega) _ _ _ _)
/-- A Sg that is owned. -/
def SgF (w0 w : World) (T : DSg) (g1 c1 g2 c2 g3 c3 g4 : Nat) : Prop := Fo w0 w (V4 (some ⟨74, 3, g1, T.edges.length, c1, edC T.edges⟩) (some ⟨33, 2, g2, T.decls.length, c2, spC T.decls⟩) (some ⟨33, 2, g3, T.refs.length, c3, spC T.refs⟩) (some ⟨27, 4, g4, 1, 1, [.int .i64 T.scopes, .slice (some ⟨g1, 0, none⟩) T.edges.length c1, .slice (some ⟨g2, 0, none⟩) T.decls.length c2, .slice (some ⟨g3, 0, none⟩) T.refs.length c3]⟩))
theorem SgF.lies {w0 w : World} {T : DSg} {g1 c1 g2 c2 g3 c3 g4 : Nat} (h : SgF w0 w T g1 c1 g2 c2 g3 c3 g4) (hd : ∀ i (hi : i < T.decls.length), T.decls[i].name.size ≤ maxLen) (hr : ∀ i (hi : i < T.refs.length), T.refs[i].name.size ≤ maxLen) : DSgL w (fun b => w0.heap.size ≤ b) T (.slice (some ⟨g1, 0, none⟩) T.edges.length c1) (.slice (some ⟨g2, 0, none⟩) T.decls.length c2) (.slice (some ⟨g3, 0, none⟩) T.refs.length c3) :=
  ⟨(h.own 0 _ rfl).2.edges rfl (h.own 0 _ rfl).1, (h.own 1 _ rfl).2.spots rfl (h.own 1 _ rfl).1 hd, (h.own 2 _ rfl).2.spots rfl (h.own 2 _ rfl).1 hr⟩
theorem SgF.box {w0 w : World} {T : DSg} {g1 c1 g2 c2 g3 c3 g4 : Nat} (h : SgF w0 w T g1 c1 g2 c2 g3 c3 g4) : w.cell? ⟨g4, 0, none⟩ = some (.int .i64 T.scopes) ∧ w.cell? ⟨g4, 1, none⟩ = some (.slice (some ⟨g1, 0, none⟩) T.edges.length c1) ∧ w.cell? ⟨g4, 2, none⟩ = some (.slice (some ⟨g2, 0, none⟩) T.decls.length c2) ∧ w.cell? ⟨g4, 3, none⟩ = some (.slice (some ⟨g3, 0, none⟩) T.refs.length c3) :=
  ⟨(h.own 3 _ rfl).2.cell? (j := 0) rfl, (h.own 3 _ rfl).2.cell? (j := 1) rfl, (h.own 3 _ rfl).2.cell? (j := 2) rfl, (h.own 3 _ rfl).2.cell? (j := 3) rfl⟩
theorem SgF.answer {w w0 w' : World} {sc : Int} {v1 v2 v3 : Value} {T : DSg} {g1 c1 g2 c2 g3 c3 g4 : Nat} (h : SgF w0 w' T g1 c1 g2 c2 g3 c3 g4) (hz : Fz w sc v1 v2 v3 w0) (hd : ∀ i (hi : i < T.decls.length), T.decls[i].name.size ≤ maxLen) (hr : ∀ i (hi : i < T.refs.length), T.refs[i].name.size ≤ maxLen) (l1 : T.edges.length ≤ 120) (l2 : T.decls.length ≤ 120) (l3 : T.refs.length ≤ 120) :
    RnA (T, 0) w (.returned (.tuple #[.agg #[.int .i64 T.scopes, .slice (some ⟨g1, 0, none⟩) T.edges.length c1, .slice (some ⟨g2, 0, none⟩) T.decls.length c2, .slice (some ⟨g3, 0, none⟩) T.refs.length c3], .int .i64 0])) (set4 w' (w.heap.size + 1) (.int .i64 T.scopes) (.slice (some ⟨g1, 0, none⟩) T.edges.length c1) (.slice (some ⟨g2, 0, none⟩) T.decls.length c2) (.slice (some ⟨g3, 0, none⟩) T.refs.length c3)) := by
  have hlt := hz.lt
  have hbw : Below w.heap.size w w' := bel_trans hz.bel h.bel
  have q1 := h.own 0 _ rfl
  have q2 := h.own 1 _ rfl
  have q3 := h.own 2 _ rfl
  have d12 := h.dis 0 1 _ _ (by decide) rfl rfl
  have d13 := h.dis 0 2 _ _ (by decide) rfl rfl
  have d23 := h.dis 1 2 _ _ (by decide) rfl rfl
  have t1 := q1.2.lt
  have t2 := q2.2.lt
  have t3 := q3.2.lt
  have s1 := q1.1
  have s2 := q2.1
  have s3 := q3.1
  simp only at d12 d13 d23 t1 t2 t3 s1 s2 s3
  have hz4 := set4_size w' (w.heap.size + 1) (.int .i64 T.scopes) (.slice (some ⟨g1, 0, none⟩) T.edges.length c1) (.slice (some ⟨g2, 0, none⟩) T.decls.length c2) (.slice (some ⟨g3, 0, none⟩) T.refs.length c3)
  refine ⟨_, _, _, g1, g2, g3, rfl, set4_bel hbw (by omega) _ _ _ _, ?_, ?_⟩
  · exact ((h.lies hd hr).keep (fun b hb _ => set4_block _ _ _ _ _ _ (by omega))).mono (fun b hb => by omega)
  · exact ⟨(q1.2.keep (set4_block _ _ _ _ _ _ (by show g1 ≠ _; omega))).rk (by show T.edges.length ≤ _; omega), (q2.2.keep (set4_block _ _ _ _ _ _ (by show g2 ≠ _; omega))).rk (by show T.decls.length ≤ _; omega), (q3.2.keep (set4_block _ _ _ _ _ _ (by show g3 ≠ _; omega))).rk (by show T.refs.length ≤ _; omega), ⟨fun _ _ => d12.symm, fun _ _ => d13.symm, fun _ _ => d23.symm⟩, ⟨fun _ => ⟨by omega, by rw [hz4]; omega⟩, fun _ => ⟨by omega, by rw [hz4]; omega⟩, fun _ => ⟨by omega, by rw [hz4]; omega⟩⟩⟩
/-- A name is written among the references. -/
theorem SgF.ref {w0 w : World} {T : DSg} {g1 c1 g2 c2 g3 c3 g4 : Nat} (h : SgF w0 w T g1 c1 g2 c2 g3 c3 g4) {j : Nat} (hj : j < T.refs.length) (nm : ByteArray) {l : List DSpot} (hl : T.refs.set j ⟨T.refs[j].scope, nm⟩ = l) : SgF w0 (w.setCell ⟨g3, j * 2 + 1, none⟩ (.string nm)) ⟨T.scopes, T.edges, T.decls, l⟩ g1 c1 g2 c2 g3 c3 g4 := by
  have hs := Fo.set h 2 rfl (j * 2 + 1) (.string nm)
  rw [upd2] at hs
  simp only [spC_set1 T.refs j hj nm, hl] at hs
  have hll : l.length = T.refs.length := by rw [← hl, List.length_set]
  unfold SgF
  simp only [hll]
  exact hs
theorem SgF.decl {w0 w : World} {T : DSg} {g1 c1 g2 c2 g3 c3 g4 : Nat} (h : SgF w0 w T g1 c1 g2 c2 g3 c3 g4) {j : Nat} (hj : j < T.decls.length) (nm : ByteArray) {l : List DSpot} (hl : T.decls.set j ⟨T.decls[j].scope, nm⟩ = l) : SgF w0 (w.setCell ⟨g2, j * 2 + 1, none⟩ (.string nm)) ⟨T.scopes, T.edges, l, T.refs⟩ g1 c1 g2 c2 g3 c3 g4 := by
  have hs := Fo.set h 1 rfl (j * 2 + 1) (.string nm)
  rw [upd1] at hs
  simp only [spC_set1 T.decls j hj nm, hl] at hs
  have hll : l.length = T.decls.length := by rw [← hl, List.length_set]
  unfold SgF
  simp only [hll]
  exact hs
/-- .. with its scope. -/
theorem SgF.ref2 {w0 w : World} {T : DSg} {g1 c1 g2 c2 g3 c3 g4 : Nat} (h : SgF w0 w T g1 c1 g2 c2 g3 c3 g4) {j : Nat} (hj : j < T.refs.length) (nm : ByteArray) {l : List DSpot} (hl : T.refs.set j ⟨T.refs[j].scope, nm⟩ = l) : SgF w0 ((w.setCell ⟨g3, j * 2, none⟩ (.int .i64 T.refs[j].scope)).setCell ⟨g3, j * 2 + 1, none⟩ (.string nm)) ⟨T.scopes, T.edges, T.decls, l⟩ g1 c1 g2 c2 g3 c3 g4 := by
  have hs := Fo.set h 2 rfl (j * 2) (.int .i64 T.refs[j].scope)
  rw [upd2] at hs
  simp only [spC_set0 T.refs j hj] at hs
  exact SgF.ref hs hj nm hl
theorem SgF.decl2 {w0 w : World} {T : DSg} {g1 c1 g2 c2 g3 c3 g4 : Nat} (h : SgF w0 w T g1 c1 g2 c2 g3 c3 g4) {j : Nat} (hj : j < T.decls.length) (nm : ByteArray) {l : List DSpot} (hl : T.decls.set j ⟨T.decls[j].scope, nm⟩ = l) : SgF w0 ((w.setCell ⟨g2, j * 2, none⟩ (.int .i64 T.decls[j].scope)).setCell ⟨g2, j * 2 + 1, none⟩ (.string nm)) ⟨T.scopes, T.edges, l, T.refs⟩ g1 c1 g2 c2 g3 c3 g4 := by
  have hs := Fo.set h 1 rfl (j * 2) (.int .i64 T.decls[j].scope)
  rw [upd1] at hs
  simp only [spC_set0 T.decls j hj] at hs
  exact SgF.decl hs hj nm hl
theorem SgF.cellR {w0 w : World} {T : DSg} {g1 c1 g2 c2 g3 c3 g4 : Nat} (h : SgF w0 w T g1 c1 g2 c2 g3 c3 g4) {j : Nat} (hj : j < T.refs.length) : w.cell? ⟨g3, j * 2, none⟩ = some (.int .i64 T.refs[j].scope) ∧ w.cell? ⟨g3, j * 2 + 1, none⟩ = some (.string T.refs[j].name) ∧ w.frozen? ⟨g3, j * 2, none⟩ = false ∧ w.frozen? ⟨g3, j * 2 + 1, none⟩ = false :=
  ⟨(h.own 2 _ rfl).2.cell? (spC_at _ j hj).1, (h.own 2 _ rfl).2.cell? (spC_at _ j hj).2, (h.own 2 _ rfl).2.frozen _, (h.own 2 _ rfl).2.frozen _⟩
theorem SgF.cellD {w0 w : World} {T : DSg} {g1 c1 g2 c2 g3 c3 g4 : Nat} (h : SgF w0 w T g1 c1 g2 c2 g3 c3 g4) {j : Nat} (hj : j < T.decls.length) : w.cell? ⟨g2, j * 2, none⟩ = some (.int .i64 T.decls[j].scope) ∧ w.cell? ⟨g2, j * 2 + 1, none⟩ = some (.string T.decls[j].name) ∧ w.frozen? ⟨g2, j * 2, none⟩ = false ∧ w.frozen? ⟨g2, j * 2 + 1, none⟩ = false :=
  ⟨(h.own 1 _ rfl).2.cell? (spC_at _ j hj).1, (h.own 1 _ rfl).2.cell? (spC_at _ j hj).2, (h.own 1 _ rfl).2.frozen _, (h.own 1 _ rfl).2.frozen _⟩
theorem SgF.still {w0 w w' : World} {T : DSg} {g1 c1 g2 c2 g3 c3 g4 : Nat} (h : SgF w0 w T g1 c1 g2 c2 g3 c3 g4) (hb : Below w.heap.size w w') : SgF w0 w' T g1 c1 g2 c2 g3 c3 g4 := Fo.still h hb
end Go.Proofs.Ytledclkmeikgdaa

/-! A Sg that is handed in. -/
namespace Go.Proofs.Ytledclkmeikgdaa
open Go.RowKit Go.Deep
set_option linter.unusedVariables false
set_option maxRecDepth 100000
set_option linter.unusedSimpArgs false

theorem SrcR.cell? {w : World} {e z n b c : Nat} {xs : List Value} (h : SrcR w e z (.slice (some ⟨b, 0, none⟩) n c) n xs) {j : Nat} {u : Value} (hj : xs[j]? = some u) : w.cell? ⟨b, j, none⟩ = some u := by
  rcases h with ⟨h, _⟩ | ⟨b', c', h, hr⟩
  · cases h
  · cases h; exact hr.cell? hj
/-- A Sg that is handed in: its rows are none, or in blocks of their own. -/
structure RdG (w : World) (t : DSg) (v1 v2 v3 : Value) : Prop where
  e : SrcR w 74 3 v1 t.edges.length (edC t.edges)
  d : SrcR w 33 2 v2 t.decls.length (spC t.decls)
  r : SrcR w 33 2 v3 t.refs.length (spC t.refs)
  dn : ∀ i (hi : i < t.decls.length), t.decls[i].name.size ≤ maxLen
  rn : ∀ i (hi : i < t.refs.length), t.refs[i].name.size ≤ maxLen
theorem RdG.still {w w' : World} {t : DSg} {v1 v2 v3 : Value} (h : RdG w t v1 v2 v3) (hb : Below w.heap.size w w') : RdG w' t v1 v2 v3 := ⟨h.e.still hb, h.d.still hb, h.r.still hb, h.dn, h.rn⟩
theorem SrcR.edgesR {w : World} {l : List DSEdge} {v : Value} (h : SrcR w 74 3 v l.length (edC l)) : SEdgeR w (fun _ => True) l v := by
  rcases h with ⟨rfl, h0, _⟩ | ⟨b, c, rfl, hr⟩
  · exact ⟨none, 0, 0, 0, by rw [h0], by omega, Nat.zero_le _, fun h => by omega, fun i hi => by omega⟩
  · exact hr.edges (S := fun _ => True) rfl trivial
theorem SrcR.spotsR {w : World} {l : List DSpot} {v : Value} (h : SrcR w 33 2 v l.length (spC l)) (hn : ∀ i (hi : i < l.length), l[i].name.size ≤ maxLen) : SpotR w (fun _ => True) l v := by
  rcases h with ⟨rfl, h0, _⟩ | ⟨b, c, rfl, hr⟩
  · exact ⟨none, 0, 0, 0, by rw [h0], by omega, Nat.zero_le _, fun h => by omega, fun i hi => by omega⟩
  · exact hr.spots (S := fun _ => True) rfl trivial hn
theorem RdG.lies {w : World} {t : DSg} {v1 v2 v3 : Value} (h : RdG w t v1 v2 v3) : DSgL w (fun _ => True) t v1 v2 v3 := ⟨h.e.edgesR, h.d.spotsR h.dn, h.r.spotsR h.rn⟩
theorem Fz.cells {w w' : World} {sc : Int} {v1 v2 v3 : Value} (h : Fz w sc v1 v2 v3 w') : w'.cell? ⟨w.heap.size, 0, none⟩ = some (.int .i64 sc) ∧ w'.cell? ⟨w.heap.size, 1, none⟩ = some v1 ∧ w'.cell? ⟨w.heap.size, 2, none⟩ = some v2 ∧ w'.cell? ⟨w.heap.size, 3, none⟩ = some v3 :=
  ⟨h.arg.cell 0 (by simp), h.arg.cell 1 (by simp), h.arg.cell 2 (by simp), h.arg.cell 3 (by simp)⟩
end Go.Proofs.Ytledclkmeikgdaa
