import Derived.Test.YtledclkmeikgdaaKb
import Derived.Test.YtledclkmeikgdaaSc
/-! A Sg that is made: its rows are none, or owned. -/
namespace Go.Proofs.Ytledclkmeikgdaa
open Go.RowKit Go.Deep
set_option linter.unusedVariables false
set_option maxRecDepth 100000
set_option linter.unusedSimpArgs false

/-- A Sg and a code, to be read. -/
def RnB (R : DSg × Int) (w : World) (e : Ending) (w' : World) : Prop := ∃ (u1 u2 u3 : Value), e = .returned (.tuple #[.agg #[.int .i64 R.1.scopes, u1, u2, u3], .int .i64 R.2]) ∧ Below w.heap.size w w' ∧ DSgL w' (fun _ => True) R.1 u1 u2 u3
theorem RnA.b {R : DSg × Int} {w w' : World} {e : Ending} (h : RnA R w e w') : RnB R w e w' := by
  obtain ⟨u1, u2, u3, b1, b2, b3, he, hb, hl, _⟩ := h
  exact ⟨u1, u2, u3, he, hb, hl.mono (fun _ _ => trivial)⟩
theorem own_stillK {w w' : World} {B e z n : Nat} {v : Value} {xs : List Value} (h : w.ownsRow B e z v n xs) (hb : Below w.heap.size w w') : w'.ownsRow B e z v n xs := own_keep1 h (fun k hk => hb.block k (World.ownsRow.lt h k hk).2)
theorem own_lowK {w : World} {B B' e z n : Nat} {v : Value} {xs : List Value} (h : w.ownsRow B e z v n xs) (hB : B' ≤ B) : w.ownsRow B' e z v n xs := by
  refine ⟨h.1, ?_⟩
  rcases h.2 with h0 | ⟨g, cp, cur, r1, r2, r3⟩
  · exact .inl h0
  · exact .inr ⟨g, cp, cur, r1, Nat.le_trans hB r2, r3⟩
/-- A cell of an owned row written. -/
theorem own_putK {w : World} {B e z g n c : Nat} {xs : List Value} (h : w.ownsRow B e z (.slice (some ⟨g, 0, none⟩) n c) n xs) (j : Nat) (u : Value) : (w.setCell ⟨g, j, none⟩ u).ownsRow B e z (.slice (some ⟨g, 0, none⟩) n c) n (xs.set j u) := by
  obtain ⟨g', c', e', hB, hr⟩ := Rw.of h (by intro h; cases h)
  cases e'
  exact (hr.set j u).own hB
theorem own_rwK {w : World} {B e z g n c : Nat} {xs : List Value} (h : w.ownsRow B e z (.slice (some ⟨g, 0, none⟩) n c) n xs) : Rw w e z g n c xs := by
  obtain ⟨g', c', e', hB, hr⟩ := Rw.of h (by intro h; cases h)
  cases e'
  exact hr
theorem own_pastK {w : World} {B e z n q o : Nat} {v u : Value} {xs : List Value} (h : w.ownsRow B e z v n xs) (hq : v.ownBlock ≠ some q) : (w.setCell ⟨q, o, none⟩ u).ownsRow B e z v n xs :=
  own_keep1 h (fun k hk => blk_setCell_other _ _ _ _ (by show k ≠ q; rintro rfl; exact hq hk))
structure SgG (w0 w : World) (T : DSg) (A1 : Option Addr) (c1 g2 c2 : Nat) (A3 : Option Addr) (c3 g4 : Nat) : Prop where
  bel : Below w0.heap.size w0 w
  e : w.ownsRow w0.heap.size 74 3 (.slice A1 T.edges.length c1) T.edges.length (edC T.edges)
  d : w.ownsRow w0.heap.size 33 2 (.slice (some ⟨g2, 0, none⟩) T.decls.length c2) T.decls.length (spC T.decls)
  r : w.ownsRow w0.heap.size 33 2 (.slice A3 T.refs.length c3) T.refs.length (spC T.refs)
  dr : (Value.slice A3 T.refs.length c3).ownBlock ≠ some g2
  bx : Box w g4 27 [.int .i64 T.scopes, .slice A1 T.edges.length c1, .slice (some ⟨g2, 0, none⟩) T.decls.length c2, .slice A3 T.refs.length c3]
  g : w0.heap.size ≤ g4
section
variable {w0 w w' : World} {T : DSg} {A1 A3 : Option Addr} {c1 g2 c2 c3 g4 : Nat}
theorem SgG.box (h : SgG w0 w T A1 c1 g2 c2 A3 c3 g4) : w.cell? ⟨g4, 0, none⟩ = some (.int .i64 T.scopes) ∧ w.cell? ⟨g4, 1, none⟩ = some (.slice A1 T.edges.length c1) ∧ w.cell? ⟨g4, 2, none⟩ = some (.slice (some ⟨g2, 0, none⟩) T.decls.length c2) ∧ w.cell? ⟨g4, 3, none⟩ = some (.slice A3 T.refs.length c3) :=
  ⟨h.bx.cell 0 (by simp), h.bx.cell 1 (by simp), h.bx.cell 2 (by simp), h.bx.cell 3 (by simp)⟩
theorem SgG.still (h : SgG w0 w T A1 c1 g2 c2 A3 c3 g4) (hb : Below w.heap.size w w') : SgG w0 w' T A1 c1 g2 c2 A3 c3 g4 :=
  ⟨h.bel.trans (hb.mono h.bel.size), own_stillK h.e hb, own_stillK h.d hb, own_stillK h.r hb, h.dr, h.bx.still hb, h.g⟩
theorem SgG.lies (h : SgG w0 w T A1 c1 g2 c2 A3 c3 g4) (hd : ∀ i (hi : i < T.decls.length), T.decls[i].name.size ≤ maxLen) (hr : ∀ i (hi : i < T.refs.length), T.refs[i].name.size ≤ maxLen) : DSgL w (fun _ => True) T (.slice A1 T.edges.length c1) (.slice (some ⟨g2, 0, none⟩) T.decls.length c2) (.slice A3 T.refs.length c3) :=
  ⟨(SrcR.of_own h.e).edgesR, (SrcR.of_own h.d).spotsR hd, (SrcR.of_own h.r).spotsR hr⟩
theorem SgG.cellD (h : SgG w0 w T A1 c1 g2 c2 A3 c3 g4) {j : Nat} (hj : j < T.decls.length) : w.cell? ⟨g2, j * 2, none⟩ = some (.int .i64 T.decls[j].scope) ∧ w.cell? ⟨g2, j * 2 + 1, none⟩ = some (.string T.decls[j].name) ∧ w.frozen? ⟨g2, j * 2, none⟩ = false ∧ w.frozen? ⟨g2, j * 2 + 1, none⟩ = false :=
  ⟨(own_rwK h.d).cell? (spC_at _ j hj).1, (own_rwK h.d).cell? (spC_at _ j hj).2, (own_rwK h.d).frozen _, (own_rwK h.d).frozen _⟩
theorem SgG.cellR (h : SgG w0 w T A1 c1 g2 c2 A3 c3 g4) {j : Nat} (hj : j < T.refs.length) : ∃ g3, A3 = some ⟨g3, 0, none⟩ ∧ w.cell? ⟨g3, j * 2, none⟩ = some (.int .i64 T.refs[j].scope) ∧ w.cell? ⟨g3, j * 2 + 1, none⟩ = some (.string T.refs[j].name) ∧ w.frozen? ⟨g3, j * 2, none⟩ = false ∧ w.frozen? ⟨g3, j * 2 + 1, none⟩ = false := by
  obtain ⟨g3, e, hr⟩ := SrcR.at (SrcR.of_own h.r) (by omega)
  exact ⟨g3, e, hr.cell? (spC_at _ j hj).1, hr.cell? (spC_at _ j hj).2, hr.frozen _, hr.frozen _⟩
theorem SgG.decl (h : SgG w0 w T A1 c1 g2 c2 A3 c3 g4) {j : Nat} (hj : j < T.decls.length) (nm : ByteArray) {l : List DSpot} (hl : T.decls.set j ⟨T.decls[j].scope, nm⟩ = l) : SgG w0 (w.setCell ⟨g2, j * 2 + 1, none⟩ (.string nm)) ⟨T.scopes, T.edges, l, T.refs⟩ A1 c1 g2 c2 A3 c3 g4 := by
  have hs := own_putK h.d (j * 2 + 1) (.string nm)
  rw [spC_set1 T.decls j hj nm, hl] at hs
  have hll : l.length = T.decls.length := by rw [← hl, List.length_set]
  have g2l : w0.heap.size ≤ g2 := (World.ownsRow.lt h.d g2 rfl).1
  have hbx : g4 ≠ g2 := (own_box h.d h.bx (by decide) (b := g2) rfl).symm
  refine ⟨h.bel.setCell (p := ⟨g2, j * 2 + 1, none⟩) g2l _, own_pastK h.e (own_apart h.e h.d (by decide) rfl), ?_, own_pastK h.r h.dr, h.dr, ?_, h.g⟩
  · simp only [hll]; exact hs
  · simp only [hll]; exact h.bx.past hbx
theorem SgG.ref {g3 : Nat} (h : SgG w0 w T A1 c1 g2 c2 (some ⟨g3, 0, none⟩) c3 g4) {j : Nat} (hj : j < T.refs.length) (nm : ByteArray) {l : List DSpot} (hl : T.refs.set j ⟨T.refs[j].scope, nm⟩ = l) : SgG w0 (w.setCell ⟨g3, j * 2 + 1, none⟩ (.string nm)) ⟨T.scopes, T.edges, T.decls, l⟩ A1 c1 g2 c2 (some ⟨g3, 0, none⟩) c3 g4 := by
  have hs := own_putK h.r (j * 2 + 1) (.string nm)
  rw [spC_set1 T.refs j hj nm, hl] at hs
  have hll : l.length = T.refs.length := by rw [← hl, List.length_set]
  have g3l : w0.heap.size ≤ g3 := (World.ownsRow.lt h.r g3 rfl).1
  have hbx : g4 ≠ g3 := (own_box h.r h.bx (by decide) (b := g3) rfl).symm
  have hdd : (Value.slice (some ⟨g2, 0, none⟩) T.decls.length c2).ownBlock ≠ some g3 := fun e => h.dr (by
    have e2 : g2 = g3 := by simpa [Value.ownBlock] using e
    subst e2; rfl)
  refine ⟨h.bel.setCell (p := ⟨g3, j * 2 + 1, none⟩) g3l _, own_pastK h.e (own_apart h.e h.r (by decide) rfl), own_pastK h.d hdd, ?_, ?_, ?_, h.g⟩
  · simp only [hll]; exact hs
  · simp only [hll]; exact h.dr
  · simp only [hll]; exact h.bx.past hbx
theorem SgG.answer {wz : World} {sc : Int} {v1 v2 v3 : Value} (h : SgG w0 w' T A1 c1 g2 c2 A3 c3 g4) (hz : Fz wz sc v1 v2 v3 w0) (hd : ∀ i (hi : i < T.decls.length), T.decls[i].name.size ≤ maxLen) (hr : ∀ i (hi : i < T.refs.length), T.refs[i].name.size ≤ maxLen) :
    RnB (T, 0) wz (.returned (.tuple #[.agg #[.int .i64 T.scopes, .slice A1 T.edges.length c1, .slice (some ⟨g2, 0, none⟩) T.decls.length c2, .slice A3 T.refs.length c3], .int .i64 0])) (set4 w' (wz.heap.size + 1) (.int .i64 T.scopes) (.slice A1 T.edges.length c1) (.slice (some ⟨g2, 0, none⟩) T.decls.length c2) (.slice A3 T.refs.length c3)) := by
  have hlt := hz.lt
  have hbw : Below wz.heap.size wz w' := bel_trans hz.bel h.bel
  refine ⟨_, _, _, rfl, set4_bel hbw (by omega) _ _ _ _, ?_⟩
  have k1 : ∀ {e z n : Nat} {v : Value} {xs : List Value}, w'.ownsRow w0.heap.size e z v n xs → (set4 w' (wz.heap.size + 1) (.int .i64 T.scopes) (.slice A1 T.edges.length c1) (.slice (some ⟨g2, 0, none⟩) T.decls.length c2) (.slice A3 T.refs.length c3)).ownsRow w0.heap.size e z v n xs := fun ho => own_keep1 ho (fun k hk => set4_block _ _ _ _ _ _ (by have := (World.ownsRow.lt ho k hk).1; omega))
  exact ⟨(SrcR.of_own (k1 h.e)).edgesR, (SrcR.of_own (k1 h.d)).spotsR hd, (SrcR.of_own (k1 h.r)).spotsR hr⟩
/-- Made of its parts. -/
theorem SgG.made {n1 : Nat} {A2 : Option Addr} (bel : Below w0.heap.size w0 w) (e : w.ownsRow w0.heap.size 74 3 (.slice A1 T.edges.length c1) T.edges.length (edC T.edges)) (d : w.ownsRow w0.heap.size 33 2 (.slice A2 T.decls.length c2) T.decls.length (spC T.decls))
    (r : w.ownsRow n1 33 2 (.slice A3 T.refs.length c3) T.refs.length (spC T.refs)) (hn : w0.heap.size ≤ n1) (hd : ∀ b, (Value.slice A2 T.decls.length c2).ownBlock = some b → b < n1) (h0 : 0 < T.decls.length)
    (bx : Box w g4 27 [.int .i64 0, .slice none 0 0, .slice none 0 0, .slice none 0 0]) (g : w0.heap.size ≤ g4) :
    ∃ g2, A2 = some ⟨g2, 0, none⟩ ∧ SgG w0 (set4 w g4 (.int .i64 T.scopes) (.slice A1 T.edges.length c1) (.slice (some ⟨g2, 0, none⟩) T.decls.length c2) (.slice A3 T.refs.length c3)) T A1 c1 g2 c2 A3 c3 g4 := by
  obtain ⟨g2, rfl, _⟩ := SrcR.at (SrcR.of_own d) h0
  have k1 : ∀ {B e z n : Nat} {v : Value} {xs : List Value} (c0 c1' c2' c3' : Value), w.ownsRow B e z v n xs → e ≠ 27 → (set4 w g4 c0 c1' c2' c3').ownsRow B e z v n xs := fun _ _ _ _ ho he => own_keep1 ho (fun k hk => set4_block _ _ _ _ _ _ (own_box ho bx he hk))
  have h2 := hd g2 rfl
  refine ⟨g2, rfl, set4_bel bel g _ _ _ _, k1 _ _ _ _ e (by decide), k1 _ _ _ _ d (by decide), own_lowK (k1 _ _ _ _ r (by decide)) hn, fun hb => ?_, ?_, g⟩
  · have := (World.ownsRow.lt r g2 hb).1
    omega
  · exact (((bx.set 0 _).set 1 _).set 2 _).set 3 _
end
end Go.Proofs.Ytledclkmeikgdaa
