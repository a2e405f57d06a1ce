import Derived.Test.YtflhfimgeladaaaTc
import Derived.Test.YtflhfimgeladaaaTe
/-! The law's helpers over a table. -/
namespace Go.Proofs.Ytflhfimgeladaaa
open Go.RowKit Go.Deep
set_option linter.unusedVariables false
set_option maxRecDepth 100000
set_option linter.unusedSimpArgs false

set_option maxHeartbeats 800000 in
theorem szTable_any {S : Nat → Prop} (t : Tb) (v0 v1 : Value) (w : World) (n : Nat) (h : TLies w S t v0 v1) (hn : n ≤ 1048576) :
    Calls Try.prog 7 #[.agg #[v0, v1], .int .i64 n] w fun e w' => Left n t.Small e ∧ Below w.heap.size w w' := by
  have hb0 := bel_alloc w (.cells #[v0, v1] 30)
  have TH := (show Hid _ from box2_alloc w 30 v0 v1)
  have HL := (show Hid _ from h)
  have HS := (show Hid _ from szARows_any t.acts v0 _ n (h.acts.still hb0) hn)
  obtain ⟨a0, c0, a1, c1, rfl, rfl⟩ := h.form
  clear h
  obtain ⟨⟨T0, T1⟩, _⟩ := (Box2.still TH.out (Below.refl _ _)).cells
  go_enter Try.func7, Try.ntmps7
  go_wp2_with fail
  refine Calls.mono HS.out ?_
  rintro e w1 ⟨rfl | ⟨m1, rfl, hm1', hl1⟩, hb1⟩
  · have hbw := bel_trans hb0 hb1
    go_wp2_with fail
    go_ret
    exact ⟨.inl rfl, hbw⟩
  have hbw := bel_trans hb0 hb1
  have H2 := (show Hid _ from szRows_any t.gotos _ w1 m1 (TLies.gotos HL.out |>.still hbw) (by omega))
  have HL1 := (show Hid _ from hl1); clear hl1 T0 T1
  obtain ⟨⟨T0, T1⟩, _⟩ := (Box2.still TH.out hb1).cells
  go_wp2_with fail
  refine Calls.mono H2.out ?_
  rintro e w2 ⟨rfl | ⟨m2, rfl, hm2', hl2⟩, hb2⟩
  · have hbw2 := bel_trans hbw hb2
    go_wp2_with fail
    go_ret
    exact ⟨.inl rfl, hbw2⟩
  have hbw2 := bel_trans hbw hb2
  have HSM := (show Hid t.Small from ⟨HL1.out.1, HL1.out.2, hl2.1, hl2.2⟩); clear hl2
  go_wp2_with fail
  go_ret
  exact ⟨.inr ⟨m2, rfl, by omega, HSM.out⟩, hbw2⟩
set_option maxHeartbeats 800000 in
theorem eqTable_any {S S' : Nat → Prop} (t : Tb) (v0 v1 u0 u1 : Value) (w : World) (h : TLies w S t v0 v1) (h' : TLies w S' t u0 u1) :
    Calls Try.prog 13 #[.agg #[v0, v1], .agg #[u0, u1]] w fun e w' => e = .returned (.bool true) ∧ Below w.heap.size w w' := by
  have hb0 := bel_trans (bel_alloc w (.cells #[v0, v1] 41)) (bel_alloc _ (.cells #[u0, u1] 41))
  have TH := (show Hid _ from (box2_alloc w 41 v0 v1).still (bel_alloc _ (.cells #[u0, u1] 41)))
  have UH := (show Hid _ from box2_alloc (w.alloc (.cells #[v0, v1] 41)) 41 u0 u1)
  have H1 := (show Hid _ from eqARows_any t.acts v0 u0 _ (h.acts.still hb0) (h'.acts.still hb0))
  have H2 := (show Hid _ from fun w' (hb : Below w.heap.size w w') => eqRows_any t.gotos v1 u1 w' (h.gotos.still hb) (h'.gotos.still hb))
  obtain ⟨a0, c0, a1, c1, rfl, rfl⟩ := h.form
  obtain ⟨b0, d0, b1, d1, rfl, rfl⟩ := h'.form
  clear h h'
  obtain ⟨⟨T0, T1⟩, _⟩ := (Box2.still TH.out (Below.refl _ _)).cells
  obtain ⟨⟨U0, U1⟩, _⟩ := (Box2.still UH.out (Below.refl _ _)).cells
  simp only [World.size_alloc] at U0 U1
  go_enter Try.func13, Try.ntmps13
  go_wp2_with fail
  refine Calls.mono H1.out ?_
  rintro e w1 ⟨rfl, hb1⟩
  have hbw1 := bel_trans hb0 hb1
  clear T0 T1 U0 U1
  obtain ⟨⟨T0, T1⟩, _⟩ := (Box2.still TH.out hb1).cells
  obtain ⟨⟨U0, U1⟩, _⟩ := (Box2.still UH.out hb1).cells
  simp only [World.size_alloc] at U0 U1
  go_wp2_with fail
  refine Calls.mono (H2.out _ hbw1) ?_
  rintro e w2 ⟨rfl, hb2⟩
  have hbw2 := bel_trans hbw1 hb2
  go_wp2_with fail
  go_ret
  exact ⟨rfl, hbw2⟩
set_option maxHeartbeats 1600000 in
theorem toTable_any {S : Nat → Prop} (t : Tb) (v0 v1 : Value) (w : World) (h : TLies w S t v0 v1) (hs : t.Small) :
    Calls Try.prog 10 #[.agg #[v0, v1]] w fun e w' => ∃ u0 u1, e = .returned (.agg #[u0, u1]) ∧ Below w.heap.size w w' ∧ TLies w' (fun b => w.heap.size ≤ b) t u0 u1 := by
  have H1 := (show Hid _ from fun w' (hb : Below w.heap.size w w') => toARows_any t.acts v0 w' (h.acts.still hb) hs.acts hs.act)
  have H2 := (show Hid _ from fun w' (hb : Below w.heap.size w w') => toRows_any t.gotos v1 w' (h.gotos.still hb) hs.gotos hs.goto)
  clear hs
  obtain ⟨a0, c0, a1, c1, rfl, rfl⟩ := h.form
  clear h
  have hb0 := bel_alloc w (.cells #[.slice a0 t.acts.length c0, .slice a1 t.gotos.length c1] 30)
  have TB := (show Hid _ from box2_alloc w 30 (.slice a0 t.acts.length c0) (.slice a1 t.gotos.length c1))
  have hb1 := bel_trans hb0 (bel_alloc _ (.cells #[.slice none 0 0, .slice none 0 0] 41))
  have TB1 := Box2.still TB.out (bel_alloc _ (.cells #[.slice none 0 0, .slice none 0 0] 41))
  have RB1 := box2_alloc (w.alloc (.cells #[.slice a0 t.acts.length c0, .slice a1 t.gotos.length c1] 30)) 41 (.slice none 0 0) (.slice none 0 0)
  have hb2 := bel_trans hb1 (bel_alloc _ (.cells #[.slice none 0 0, .slice none 0 0] 41))
  have TB2 := TB1.still (bel_alloc _ (.cells #[.slice none 0 0, .slice none 0 0] 41))
  have RB2 := RB1.still (bel_alloc _ (.cells #[.slice none 0 0, .slice none 0 0] 41))
  have OB2 := box2_alloc ((w.alloc (.cells #[.slice a0 t.acts.length c0, .slice a1 t.gotos.length c1] 30)).alloc (.cells #[.slice none 0 0, .slice none 0 0] 41)) 41 (.slice none 0 0) (.slice none 0 0)
  have hsz : (((w.alloc (.cells #[.slice a0 t.acts.length c0, .slice a1 t.gotos.length c1] 30)).alloc (.cells #[.slice none 0 0, .slice none 0 0] 41)).alloc (.cells #[.slice none 0 0, .slice none 0 0] 41)).heap.size = w.heap.size + 3 := by simp
  simp only [World.size_alloc] at RB2 OB2
  have HB := (show Hid _ from (⟨TB2, RB2, OB2, hsz⟩ : _ ∧ _ ∧ _ ∧ _))
  clear TB TB1 RB1 TB2 RB2 OB2 hsz hb0 hb1
  go_enter Try.func10, Try.ntmps10
  go_wp2_with fail
  generalize (((w.alloc (.cells #[.slice a0 t.acts.length c0, .slice a1 t.gotos.length c1] 30)).alloc (.cells #[.slice none 0 0, .slice none 0 0] 41)).alloc (.cells #[.slice none 0 0, .slice none 0 0] 41)) = W3 at *
  refine Calls.mono (H1.out _ hb2) ?_
  rintro e w4 ⟨u0, rfl, hb4, i4⟩
  have hbw4 := bel_trans hb2 hb4
  have I4 := (show Hid _ from ARows.mono i4 (S' := fun b => w.heap.size + 1 + 1 < b) (fun b hb => by have q := HB.out.2.2.2; omega))
  obtain ⟨a4, f4, rfl, _⟩ := i4.form
  clear i4
  obtain ⟨TB4, RB4, OB4⟩ := (⟨Box2.still HB.out.1 hb4, Box2.still HB.out.2.1 hb4, Box2.still HB.out.2.2.1 hb4⟩ : _ ∧ _ ∧ _)
  obtain ⟨⟨O0, O1⟩, y0, y1⟩ := Box2.cells OB4
  have TB5 := (TB4.keep (w' := w4.setCell ⟨w.heap.size + 1 + 1, 0, none⟩ (.slice a4 t.acts.length f4)) (blk_setCell_other _ _ _ _ (by show w.heap.size ≠ w.heap.size + 1 + 1; omega)))
  have RB5 := (RB4.keep (w' := w4.setCell ⟨w.heap.size + 1 + 1, 0, none⟩ (.slice a4 t.acts.length f4)) (blk_setCell_other _ _ _ _ (by show w.heap.size + 1 ≠ w.heap.size + 1 + 1; omega)))
  have OB5 := OB4.set0 (.slice a4 t.acts.length f4)
  have I5 := (show Hid _ from ARows.keep (w' := w4.setCell ⟨w.heap.size + 1 + 1, 0, none⟩ (.slice a4 t.acts.length f4)) I4.out (fun b hb _ => blk_setCell_other _ _ _ _ (by show b ≠ w.heap.size + 1 + 1; omega)))
  have hbw5 := hbw4.setCell (p := ⟨w.heap.size + 1 + 1, 0, none⟩) (by show w.heap.size ≤ w.heap.size + 1 + 1; omega) (.slice a4 t.acts.length f4)
  have hs5 : w.heap.size + 3 ≤ (w4.setCell ⟨w.heap.size + 1 + 1, 0, none⟩ (.slice a4 t.acts.length f4)).heap.size := by have q := HB.out.2.2.2; have := hb4.size; simp; omega
  obtain ⟨⟨T0, T1⟩, _⟩ := Box2.cells TB5
  have HB5 := (show Hid _ from (⟨TB5, RB5, OB5, hs5⟩ : _ ∧ _ ∧ _ ∧ _))
  clear TB4 RB4 OB4 TB5 RB5 OB5 hs5 I4 HB hb4 hb2 hbw4
  go_wp2_with fail
  generalize w4.setCell ⟨w.heap.size + 1 + 1, 0, none⟩ (.slice a4 t.acts.length f4) = w5 at *
  clear O0 O1 y0 y1 T0 T1
  refine Calls.mono (H2.out _ hbw5) ?_
  rintro e w6 ⟨u1, rfl, hb6, r6⟩
  have hbw6 := bel_trans hbw5 hb6
  have R6 := (show Hid _ from IRows.mono r6 (S' := fun b => w.heap.size + 1 + 1 < b) (fun b hb => by have q := HB5.out.2.2.2; omega))
  obtain ⟨a6, f6, rfl, _⟩ := r6.form
  clear r6
  have D6 := (show Hid _ from (⟨ARows.still I5.out hb6, R6.out⟩ : TLies w6 (fun b => w.heap.size + 1 + 1 < b) t (.slice a4 t.acts.length f4) (.slice a6 t.gotos.length f6)))
  obtain ⟨TB6, RB6, OB6⟩ := (⟨Box2.still HB5.out.1 hb6, Box2.still HB5.out.2.1 hb6, Box2.still HB5.out.2.2.1 hb6⟩ : _ ∧ _ ∧ _)
  obtain ⟨⟨O0, O1⟩, y0, y1⟩ := Box2.cells OB6
  obtain ⟨⟨P0, P1⟩, _⟩ := Box2.cells (OB6.set1 (.slice a6 t.gotos.length f6))
  have RB7 := (RB6.keep (w' := w6.setCell ⟨w.heap.size + 1 + 1, 1, none⟩ (.slice a6 t.gotos.length f6)) (blk_setCell_other _ _ _ _ (by show w.heap.size + 1 ≠ w.heap.size + 1 + 1; omega)))
  obtain ⟨⟨R0, R1⟩, x0, x1⟩ := Box2.cells RB7
  have RB8 := (RB7.set0 (.slice a4 t.acts.length f4)).set1 (.slice a6 t.gotos.length f6)
  obtain ⟨⟨Z0, Z1⟩, _⟩ := Box2.cells RB8
  clear TB6 RB6 OB6 RB7 RB8 I5 R6 HB5
  have hbw9 := ((hbw6.setCell (p := ⟨w.heap.size + 1 + 1, 1, none⟩) (by show w.heap.size ≤ w.heap.size + 1 + 1; omega) (.slice a6 t.gotos.length f6)).setCell (p := ⟨w.heap.size + 1, 0, none⟩) (by show w.heap.size ≤ w.heap.size + 1; omega) (.slice a4 t.acts.length f4)).setCell (p := ⟨w.heap.size + 1, 1, none⟩) (by show w.heap.size ≤ w.heap.size + 1; omega) (.slice a6 t.gotos.length f6)
  have D9 : TLies (((w6.setCell ⟨w.heap.size + 1 + 1, 1, none⟩ (.slice a6 t.gotos.length f6)).setCell ⟨w.heap.size + 1, 0, none⟩ (.slice a4 t.acts.length f4)).setCell ⟨w.heap.size + 1, 1, none⟩ (.slice a6 t.gotos.length f6)) (fun b => w.heap.size ≤ b) t (.slice a4 t.acts.length f4) (.slice a6 t.gotos.length f6) := by
    have hk : ∀ b, w.heap.size + 1 + 1 < b → b < w6.heap.size → (((w6.setCell ⟨w.heap.size + 1 + 1, 1, none⟩ (.slice a6 t.gotos.length f6)).setCell ⟨w.heap.size + 1, 0, none⟩ (.slice a4 t.acts.length f4)).setCell ⟨w.heap.size + 1, 1, none⟩ (.slice a6 t.gotos.length f6)).heap[b]? = w6.heap[b]? := fun b hb _ => by
      rw [blk_setCell_other _ _ _ _ (by show b ≠ w.heap.size + 1; omega), blk_setCell_other _ _ _ _ (by show b ≠ w.heap.size + 1; omega), blk_setCell_other _ _ _ _ (by show b ≠ w.heap.size + 1 + 1; omega)]
    exact ⟨(ARows.keep (TLies.acts D6.out) hk).mono (fun _ hb => by omega), (IRows.keep (TLies.gotos D6.out) hk).mono (fun _ hb => by omega)⟩
  have HD9 := (show Hid _ from D9); clear D9 D6
  go_wp2_with fail
  exact bodyPost_ret (v := .agg #[(.slice a4 t.acts.length f4), (.slice a6 t.gotos.length f6)]) (by simp [results, Try.results10, go_sem, Z0, Z1]) rfl ⟨(.slice a4 t.acts.length f4), (.slice a6 t.gotos.length f6), rfl, hbw9, HD9.out⟩
end Go.Proofs.Ytflhfimgeladaaa
