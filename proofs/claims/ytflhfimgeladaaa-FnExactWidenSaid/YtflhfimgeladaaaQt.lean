import Derived.Test.YtflhfimgeladaaaQr
/-! The copy of a table, owned. -/
namespace Go.Proofs.Ytflhfimgeladaaa
open Go.RowKit Go.Deep
set_option linter.unusedVariables false
set_option maxRecDepth 100000
set_option linter.unusedSimpArgs false

set_option maxHeartbeats 1600000 in
theorem toTableO_any {S : Nat → Prop} (t : Tb) (v0 v1 : Value) (w : World) (h : TLies w S t v0 v1) (hs : t.Small) :
    Calls Try.prog 10 #[.agg #[v0, v1]] w fun e w' => ∃ (u0 u1 : Value) (ra : List (Value × List (Int × Int))) (rg : List (Value × List Int)), e = .returned (.agg #[u0, u1]) ∧ Below w.heap.size w w' ∧ Own w' w.heap.size (TEnt u0 u1 ra rg []) ∧ ra.map (·.2) = t.acts ∧ rg.map (·.2) = t.gotos ∧ (∀ p ∈ ra, ∃ ad c, p.1 = .slice (some ad) p.2.length c) ∧ ∀ p ∈ rg, ∃ ad c, p.1 = .slice (some ad) p.2.length c := by
  have H1 := (show Hid _ from fun w' (hb : Below w.heap.size w w') => toRAO_any t.acts v0 w' (h.acts.still hb) hs.acts hs.act)
  have H2 := (show Hid _ from fun w' (hb : Below w.heap.size w w') => toRIO_any t.gotos v1 w' (h.gotos.still hb) hs.gotos hs.goto)
  clear hs
  obtain ⟨a0, c0, a1, c1, rfl, rfl⟩ := h.form
  clear h
  have hb0 := bel_alloc w (.cells #[.slice a0 t.acts.length c0, .slice a1 t.gotos.length c1] 30)
  have TB := (show Hid _ from box2_alloc w 30 (.slice a0 t.acts.length c0) (.slice a1 t.gotos.length c1))
  have hb1 := bel_trans hb0 (bel_alloc _ (.cells #[.slice none 0 0, .slice none 0 0] 41))
  have TB1 := Box2.still TB.out (bel_alloc _ (.cells #[.slice none 0 0, .slice none 0 0] 41))
  have RB1 := box2_alloc (w.alloc (.cells #[.slice a0 t.acts.length c0, .slice a1 t.gotos.length c1] 30)) 41 (.slice none 0 0) (.slice none 0 0)
  have hb2 := bel_trans hb1 (bel_alloc _ (.cells #[.slice none 0 0, .slice none 0 0] 41))
  have TB2 := TB1.still (bel_alloc _ (.cells #[.slice none 0 0, .slice none 0 0] 41))
  have RB2 := RB1.still (bel_alloc _ (.cells #[.slice none 0 0, .slice none 0 0] 41))
  have OB2 := box2_alloc ((w.alloc (.cells #[.slice a0 t.acts.length c0, .slice a1 t.gotos.length c1] 30)).alloc (.cells #[.slice none 0 0, .slice none 0 0] 41)) 41 (.slice none 0 0) (.slice none 0 0)
  have hsz : (((w.alloc (.cells #[.slice a0 t.acts.length c0, .slice a1 t.gotos.length c1] 30)).alloc (.cells #[.slice none 0 0, .slice none 0 0] 41)).alloc (.cells #[.slice none 0 0, .slice none 0 0] 41)).heap.size = w.heap.size + 3 := by simp
  simp only [World.size_alloc] at RB2 OB2
  have HB := (show Hid _ from (⟨TB2, RB2, OB2, hsz⟩ : _ ∧ _ ∧ _ ∧ _))
  clear TB TB1 RB1 TB2 RB2 OB2 hsz hb0 hb1
  go_enter Try.func10, Try.ntmps10
  go_wp2_with fail
  generalize (((w.alloc (.cells #[.slice a0 t.acts.length c0, .slice a1 t.gotos.length c1] 30)).alloc (.cells #[.slice none 0 0, .slice none 0 0] 41)).alloc (.cells #[.slice none 0 0, .slice none 0 0] 41)) = W3 at *
  refine Calls.mono (H1.out _ hb2) ?_
  rintro e w4 ⟨ra, rfl, hb4, hd4, hn4, o4⟩
  have hbw4 := bel_trans hb2 hb4
  have hlt3 : w.heap.size + 1 + 1 < W3.heap.size := by have q := HB.out.2.2.2; omega
  have O4 := (show Hid _ from o4)
  have D4 := (show Hid _ from (⟨hd4, hn4⟩ : _ ∧ _))
  obtain ⟨TB4, RB4, OB4⟩ := (⟨Box2.still HB.out.1 hb4, Box2.still HB.out.2.1 hb4, Box2.still HB.out.2.2.1 hb4⟩ : _ ∧ _ ∧ _)
  obtain ⟨⟨O0, O1⟩, y0, y1⟩ := Box2.cells OB4
  have TB5 := (TB4.keep (w' := w4.setCell ⟨w.heap.size + 1 + 1, 0, none⟩ (.slice (some ⟨W3.heap.size, 0, none⟩) t.acts.length t.acts.length)) (blk_setCell_other _ _ _ _ (by show w.heap.size ≠ w.heap.size + 1 + 1; omega)))
  have RB5 := (RB4.keep (w' := w4.setCell ⟨w.heap.size + 1 + 1, 0, none⟩ (.slice (some ⟨W3.heap.size, 0, none⟩) t.acts.length t.acts.length)) (blk_setCell_other _ _ _ _ (by show w.heap.size + 1 ≠ w.heap.size + 1 + 1; omega)))
  have OB5 := OB4.set0 (.slice (some ⟨W3.heap.size, 0, none⟩) t.acts.length t.acts.length)
  have hbw5 := hbw4.setCell (p := ⟨w.heap.size + 1 + 1, 0, none⟩) (by show w.heap.size ≤ w.heap.size + 1 + 1; omega) (.slice (some ⟨W3.heap.size, 0, none⟩) t.acts.length t.acts.length)
  have O5 := (show Hid _ from Own.set (o := 0) (u := (.slice (some ⟨W3.heap.size, 0, none⟩) t.acts.length t.acts.length)) O4.out hlt3)
  have hs5 : W3.heap.size ≤ (w4.setCell ⟨w.heap.size + 1 + 1, 0, none⟩ (.slice (some ⟨W3.heap.size, 0, none⟩) t.acts.length t.acts.length)).heap.size := by have := hb4.size; simpa [World.setCell] using this
  obtain ⟨⟨T0, T1⟩, _⟩ := Box2.cells TB5
  have HB5 := (show Hid _ from (⟨TB5, RB5, OB5, hs5, hlt3⟩ : _ ∧ _ ∧ _ ∧ _ ∧ _))
  clear TB4 RB4 OB4 TB5 RB5 OB5 hs5 O4 HB hb4 hb2 hbw4 o4 hd4 hn4 hlt3
  go_wp2_with fail
  generalize w4.setCell ⟨w.heap.size + 1 + 1, 0, none⟩ (.slice (some ⟨W3.heap.size, 0, none⟩) t.acts.length t.acts.length) = w5 at *
  clear O0 O1 y0 y1 T0 T1
  refine Calls.mono (H2.out _ hbw5) ?_
  rintro e w6 ⟨rg, rfl, hb6, hd6, hn6, o6⟩
  have hbw6 := bel_trans hbw5 hb6
  have hj := Own.join O5.out hb6 o6 (Nat.le_refl _) HB5.out.2.2.2.1
  obtain ⟨TB6, RB6, OB6⟩ := (⟨Box2.still HB5.out.1 hb6, Box2.still HB5.out.2.1 hb6, Box2.still HB5.out.2.2.1 hb6⟩ : _ ∧ _ ∧ _)
  obtain ⟨⟨O0, O1⟩, y0, y1⟩ := Box2.cells OB6
  obtain ⟨⟨P0, P1⟩, _⟩ := Box2.cells (OB6.set1 (.slice (some ⟨w5.heap.size, 0, none⟩) t.gotos.length t.gotos.length))
  have RB7 := (RB6.keep (w' := w6.setCell ⟨w.heap.size + 1 + 1, 1, none⟩ (.slice (some ⟨w5.heap.size, 0, none⟩) t.gotos.length t.gotos.length)) (blk_setCell_other _ _ _ _ (by show w.heap.size + 1 ≠ w.heap.size + 1 + 1; omega)))
  obtain ⟨⟨R0, R1⟩, x0, x1⟩ := Box2.cells RB7
  have RB8 := (RB7.set0 (.slice (some ⟨W3.heap.size, 0, none⟩) t.acts.length t.acts.length)).set1 (.slice (some ⟨w5.heap.size, 0, none⟩) t.gotos.length t.gotos.length)
  obtain ⟨⟨Z0, Z1⟩, _⟩ := Box2.cells RB8
  have hbw9 := ((hbw6.setCell (p := ⟨w.heap.size + 1 + 1, 1, none⟩) (by show w.heap.size ≤ w.heap.size + 1 + 1; omega) (.slice (some ⟨w5.heap.size, 0, none⟩) t.gotos.length t.gotos.length)).setCell (p := ⟨w.heap.size + 1, 0, none⟩) (by show w.heap.size ≤ w.heap.size + 1; omega) (.slice (some ⟨W3.heap.size, 0, none⟩) t.acts.length t.acts.length)).setCell (p := ⟨w.heap.size + 1, 1, none⟩) (by show w.heap.size ≤ w.heap.size + 1; omega) (.slice (some ⟨w5.heap.size, 0, none⟩) t.gotos.length t.gotos.length)
  have hg1 : w.heap.size + 1 < W3.heap.size := by have := HB5.out.2.2.2.2; omega
  have ho9 := ((hj.set (o := 1) (u := (.slice (some ⟨w5.heap.size, 0, none⟩) t.gotos.length t.gotos.length)) HB5.out.2.2.2.2).set (o := 0) (u := (.slice (some ⟨W3.heap.size, 0, none⟩) t.acts.length t.acts.length)) hg1).set (o := 1) (u := (.slice (some ⟨w5.heap.size, 0, none⟩) t.gotos.length t.gotos.length)) hg1
  have hoF : Own (((w6.setCell ⟨w.heap.size + 1 + 1, 1, none⟩ (.slice (some ⟨w5.heap.size, 0, none⟩) t.gotos.length t.gotos.length)).setCell ⟨w.heap.size + 1, 0, none⟩ (.slice (some ⟨W3.heap.size, 0, none⟩) t.acts.length t.acts.length)).setCell ⟨w.heap.size + 1, 1, none⟩ (.slice (some ⟨w5.heap.size, 0, none⟩) t.gotos.length t.gotos.length)) w.heap.size (TEnt (.slice (some ⟨W3.heap.size, 0, none⟩) t.acts.length t.acts.length) (.slice (some ⟨w5.heap.size, 0, none⟩) t.gotos.length t.gotos.length) ra rg []) := by
    have := ho9.base (B' := w.heap.size) (by omega)
    simpa [TEnt] using this
  have HF := (show Hid _ from (⟨hbw9, hoF, D4.out.1, hd6, D4.out.2, hn6⟩ : _ ∧ _ ∧ _ ∧ _ ∧ _ ∧ _))
  clear TB6 RB6 OB6 RB7 RB8 HB5 hj ho9 hoF O5 o6 hd6 hn6 hbw9 D4
  go_wp2_with fail
  exact bodyPost_ret (v := .agg #[(.slice (some ⟨W3.heap.size, 0, none⟩) t.acts.length t.acts.length), (.slice (some ⟨w5.heap.size, 0, none⟩) t.gotos.length t.gotos.length)]) (by simp [results, Try.results10, go_sem, Z0, Z1]) rfl ⟨(.slice (some ⟨W3.heap.size, 0, none⟩) t.acts.length t.acts.length), (.slice (some ⟨w5.heap.size, 0, none⟩) t.gotos.length t.gotos.length), ra, rg, rfl, HF.out⟩
theorem tOwn_arows {w : World} {B : Nat} {u0 u1 : Value} {ra : List (Value × List (Int × Int))} {rg : List (Value × List Int)} {fs : List Ent} (h : ∀ e ∈ TEnt u0 u1 ra rg fs, e.ok w B) (hn : ∀ p ∈ ra, ∃ ad c, p.1 = .slice (some ad) p.2.length c) : ARowsN w (fun b => B ≤ b) (ra.map (·.2)) u0 := by
  have h0 : w.ownsRow B 69 1 u0 ra.length (ra.map (·.1)) := h (hdA u0 ra) (by simp [TEnt])
  obtain ⟨a, cap, g, rfl, h1, h2, h3, h4⟩ := own_cell h0
  refine ⟨a, cap, g, 0, fun i => ((ra.map (·.1))[i]?).getD .nilFunc, by simp, by simpa using h1, h2, by simpa using h3, fun i hi => ?_, fun i hi => ?_, fun i hi => ?_⟩
  · have hi' : i < ra.length := by simpa using hi
    rw [Nat.zero_add]
    exact h4 i _ (by simp [hi'])
  · have hi' : i < ra.length := by simpa using hi
    have := own_acs (h (entA ra[i]) (by simp only [TEnt, List.mem_append]; exact .inr (.inl (List.mem_map.2 ⟨ra[i], List.getElem_mem hi', rfl⟩))))
    simpa [hi', entA] using this
  · have hi' : i < ra.length := by simpa using hi
    obtain ⟨ad, c, e⟩ := hn ra[i] (List.getElem_mem hi')
    exact ⟨ad, c, by simpa [hi'] using e⟩
theorem tOwn_irows {w : World} {B : Nat} {u0 u1 : Value} {ra : List (Value × List (Int × Int))} {rg : List (Value × List Int)} {fs : List Ent} (h : ∀ e ∈ TEnt u0 u1 ra rg fs, e.ok w B) (hn : ∀ p ∈ rg, ∃ ad c, p.1 = .slice (some ad) p.2.length c) : IRowsN w (fun b => B ≤ b) (rg.map (·.2)) u1 := by
  have h0 : w.ownsRow B 46 1 u1 rg.length (rg.map (·.1)) := h (hdG u1 rg) (by simp [TEnt])
  obtain ⟨a, cap, g, rfl, h1, h2, h3, h4⟩ := own_cell h0
  refine ⟨a, cap, g, 0, fun i => ((rg.map (·.1))[i]?).getD .nilFunc, by simp, by simpa using h1, h2, by simpa using h3, fun i hi => ?_, fun i hi => ?_, fun i hi => ?_⟩
  · have hi' : i < rg.length := by simpa using hi
    rw [Nat.zero_add]
    exact h4 i _ (by simp [hi'])
  · have hi' : i < rg.length := by simpa using hi
    have := own_ints (h (entI rg[i]) (by simp only [TEnt, List.mem_append]; exact .inr (.inr (.inr (.inl (List.mem_map.2 ⟨rg[i], List.getElem_mem hi', rfl⟩))))))
    simpa [hi', entI] using this
  · have hi' : i < rg.length := by simpa using hi
    obtain ⟨ad, c, e⟩ := hn rg[i] (List.getElem_mem hi')
    exact ⟨ad, c, by simpa [hi'] using e⟩
end Go.Proofs.Ytflhfimgeladaaa
