import Derived.Test.YtjpjjfgdgieapaaDoorRd
import Derived.Test.YtjpjjfgdgieapaaDoorIbo
/-! The program: FactsOf. -/
namespace Go.Proofs.YtjpjjfgdgieapaaDoor
open Go.RowKit Go.Deep
set_option linter.unusedVariables false
set_option maxRecDepth 100000
set_option linter.unusedSimpArgs false

theorem own_form {w : World} {B : Nat} {cs : List (TypeId × List Value)} {us : List Value} {rows : List Ent} (h : Own w B (colE cs us ++ rows)) (hl : us.length = cs.length) : ∀ u ∈ us, ∃ a n c, u = .slice a n c := by
  intro u hu
  obtain ⟨j, hj, rfl⟩ := List.mem_iff_getElem.1 hu
  have hjc : j < (colE cs us).length := by rw [colE_len cs us hl]; omega
  have h1 : (colE cs us)[j].ok w B := h.ok _ (List.mem_append_left _ (List.getElem_mem hjc))
  rw [colE_get cs us hl j (by omega)] at h1
  obtain ⟨a, c, _, h2, _⟩ := own_cell h1
  exact ⟨a, _, c, h2⟩
/-- What FactsOf leaves of right rules. -/
def FaA (d : Bn) (z : Nat → Bool) (Bf : Nat → Int → Prop) (w w' : World) (us : List Value) (L : List Int) (Rr WW WB WF WO : List Nat) (RF RO : List (Value × List Int)) (Bb : Nat) : Prop :=
  us.length = 7 ∧ w.heap.size ≤ Bb ∧ Own w' Bb (colE (colF d L Rr WB d.nons.length RF RO) us ++ (RF.map entI ++ RO.map entI)) ∧ RF.map (·.2) = (List.range d.nons.length).map (fun i => ascI WF (d.terms.length + i) 192) ∧ RO.map (·.2) = (List.range d.nons.length).map (fun i => ascI WO (d.terms.length + i) 192) ∧ (∀ y, y < 192 → (mem Rr 0 y = true ↔ y = d.terms.length ∨ mem WW d.terms.length y = true)) ∧ WW.length = (d.terms.length + d.nons.length) * 3 ∧ (∀ a y, y < 192 → mem WW a y = true → Tc (W.Ed d (Lf L)) a y) ∧ (∀ k, k < d.prods.length → W.newW d L WW k = false) ∧ WB.length = (d.terms.length + d.nons.length) * 3 ∧ (∀ a y, y < 192 → mem WB a y = true → Tc (B.Ed d (Lf L)) a y) ∧ (∀ k, k < d.prods.length → B.newW d L WB k = false) ∧ FsA WB (d.terms.length + d.nons.length) d.terms.length (d.terms.length + d.nons.length) 0 WF ∧ (∀ n y, n < d.nons.length → y < 192 → (mem WO (d.terms.length + n) y = true ↔ Fol d z Bf n y))
set_option maxHeartbeats 12800000 in
theorem iFacts7 {S : Nat → Prop} (d : Bn) (v0 v1 v3 : Value) (z : Nat → Bool) (Bf : Nat → Int → Prop) (w : World) (h : BLies w S d v0 v1 v3) (hT : Tz w)
    (hFH : Bok d → ∀ L, L.length = d.terms.length + d.nons.length → Snd d.terms.length (bps d) (Lf L) → (∀ p ∈ bps d, lnew (Lf L) p = false) → ∀ WB WF, WB.length = (d.terms.length + d.nons.length) * 3 → (∀ a y, y < 192 → mem WB a y = true → Tc (B.Ed d (Lf L)) a y) → (∀ k, k < d.prods.length → B.newW d L WB k = false) → FsA WB (d.terms.length + d.nons.length) d.terms.length (d.terms.length + d.nons.length) 0 WF → FolH d z Bf L WF) :
    Calls Tryd.prog 7 #[.agg #[v0, v1, .int .i64 d.own, v3]] w fun e w' => Below w.heap.size w w' ∧ (bnB d = false → e = .returned (.tuple #[.agg #[.slice none 0 0, .slice none 0 0, .slice none 0 0, .slice none 0 0, .slice none 0 0, .slice none 0 0, .slice none 0 0], .int .i64 1])) ∧ (bnB d = true → ∃ us L Rr WW WB WF WO RF RO Bb, e = .returned (.tuple #[.agg us.toArray, .int .i64 0]) ∧ Snd d.terms.length (bps d) (Lf L) ∧ (∀ p ∈ bps d, lnew (Lf L) p = false) ∧ L.length = d.terms.length + d.nons.length ∧ FaA d z Bf w w' us L Rr WW WB WF WO RF RO Bb) := by
  obtain ⟨a0, c0, a1, c1, a3, c3, rfl, rfl, rfl⟩ := h.form
  have hb0 := bel_alloc w (.cells #[.slice a0 d.terms.length c0, .slice a1 d.nons.length c1, .int .i64 d.own, .slice a3 d.prods.length c3] 38)
  have hb01 := bel_alloc (w.alloc (.cells #[.slice a0 d.terms.length c0, .slice a1 d.nons.length c1, .int .i64 d.own, .slice a3 d.prods.length c3] 38)) (.cells #[.slice none 0 0, .slice none 0 0, .slice none 0 0, .slice none 0 0, .slice none 0 0, .slice none 0 0, .slice none 0 0] 32)
  have hQ := (Box4.new w 38 (.slice a0 d.terms.length c0) (.slice a1 d.nons.length c1) (.int .i64 d.own) (.slice a3 d.prods.length c3)).still hb01
  have hR := Box.new (w.alloc (.cells #[.slice a0 d.terms.length c0, .slice a1 d.nons.length c1, .int .i64 d.own, .slice a3 d.prods.length c3] 38)) 32 [.slice none 0 0, .slice none 0 0, .slice none 0 0, .slice none 0 0, .slice none 0 0, .slice none 0 0, .slice none 0 0]
  have hsz : (w.alloc (.cells #[.slice a0 d.terms.length c0, .slice a1 d.nons.length c1, .int .i64 d.own, .slice a3 d.prods.length c3] 38)).heap.size = w.heap.size + 1 := by simp
  rw [hsz] at hR
  have hbw : Below w.heap.size w ((w.alloc (.cells #[.slice a0 d.terms.length c0, .slice a1 d.nons.length c1, .int .i64 d.own, .slice a3 d.prods.length c3] 38)).alloc (.cells #[.slice none 0 0, .slice none 0 0, .slice none 0 0, .slice none 0 0, .slice none 0 0, .slice none 0 0, .slice none 0 0] 32)) := bel_trans hb0 hb01
  have HH := (show Hid _ from (⟨h.still hbw, hQ, hR, hbw, hT.still hbw⟩ : _ ∧ _ ∧ _ ∧ _ ∧ _))
  have HI := (show Hid _ from iBnf_any d _ _ _ ((w.alloc (.cells #[.slice a0 d.terms.length c0, .slice a1 d.nons.length c1, .int .i64 d.own, .slice a3 d.prods.length c3] 38)).alloc (.cells #[.slice none 0 0, .slice none 0 0, .slice none 0 0, .slice none 0 0, .slice none 0 0, .slice none 0 0, .slice none 0 0] 32)) HH.out.1)
  have HS := (show Hid (Bok d → ∀ w', Below ((w.alloc (.cells #[.slice a0 d.terms.length c0, .slice a1 d.nons.length c1, .int .i64 d.own, .slice a3 d.prods.length c3] 38)).alloc (.cells #[.slice none 0 0, .slice none 0 0, .slice none 0 0, .slice none 0 0, .slice none 0 0, .slice none 0 0, .slice none 0 0] 32)).heap.size ((w.alloc (.cells #[.slice a0 d.terms.length c0, .slice a1 d.nons.length c1, .int .i64 d.own, .slice a3 d.prods.length c3] 38)).alloc (.cells #[.slice none 0 0, .slice none 0 0, .slice none 0 0, .slice none 0 0, .slice none 0 0, .slice none 0 0, .slice none 0 0] 32)) w' → _) from fun hok w' hb => study_any d hok _ _ _ w' (HH.out.1.still hb))
  have HFH := (show Hid _ from hFH)
  clear h hb0 hb01 hQ hR hbw hT hFH hsz
  cases hB : bnB d
  · rw [hB] at HI
    go_enter Tryd.func7, Tryd.ntmps7
    go_wp2_with fail
    refine Calls.mono HI.out ?_
    rintro e w1 ⟨rfl, hb1⟩
    have hbx := HH.out.2.2.1.still hb1
    have HB1 := (show Hid (Below w.heap.size w (((((((w1.setCell ⟨w.heap.size + 1, 0, none⟩ (.slice none 0 0)).setCell ⟨w.heap.size + 1, 1, none⟩ (.slice none 0 0)).setCell ⟨w.heap.size + 1, 2, none⟩ (.slice none 0 0)).setCell ⟨w.heap.size + 1, 3, none⟩ (.slice none 0 0)).setCell ⟨w.heap.size + 1, 4, none⟩ (.slice none 0 0)).setCell ⟨w.heap.size + 1, 5, none⟩ (.slice none 0 0)).setCell ⟨w.heap.size + 1, 6, none⟩ (.slice none 0 0))) from ((((((((bel_trans HH.out.2.2.2.1 hb1).setCell (Nat.le_succ _) _).setCell (Nat.le_succ _) _).setCell (Nat.le_succ _) _).setCell (Nat.le_succ _) _).setCell (Nat.le_succ _) _).setCell (Nat.le_succ _) _).setCell (Nat.le_succ _) _))
    clear hb1
    have z0 : w1.cell? ⟨w.heap.size + 1, 0, none⟩ = some (.slice none 0 0) := hbx.cell 0 (by simp)
    have z1 : w1.cell? ⟨w.heap.size + 1, 1, none⟩ = some (.slice none 0 0) := hbx.cell 1 (by simp)
    have z2 : w1.cell? ⟨w.heap.size + 1, 2, none⟩ = some (.slice none 0 0) := hbx.cell 2 (by simp)
    have z3 : w1.cell? ⟨w.heap.size + 1, 3, none⟩ = some (.slice none 0 0) := hbx.cell 3 (by simp)
    have z4 : w1.cell? ⟨w.heap.size + 1, 4, none⟩ = some (.slice none 0 0) := hbx.cell 4 (by simp)
    have z5 : w1.cell? ⟨w.heap.size + 1, 5, none⟩ = some (.slice none 0 0) := hbx.cell 5 (by simp)
    have z6 : w1.cell? ⟨w.heap.size + 1, 6, none⟩ = some (.slice none 0 0) := hbx.cell 6 (by simp)
    have zf0 := hbx.frozen 0
    have zf1 := hbx.frozen 1
    have zf2 := hbx.frozen 2
    have zf3 := hbx.frozen 3
    have zf4 := hbx.frozen 4
    have zf5 := hbx.frozen 5
    have zf6 := hbx.frozen 6
    have HZ := (show Hid (∀ i, i < 7 → (((((((w1.setCell ⟨w.heap.size + 1, 0, none⟩ (.slice none 0 0)).setCell ⟨w.heap.size + 1, 1, none⟩ (.slice none 0 0)).setCell ⟨w.heap.size + 1, 2, none⟩ (.slice none 0 0)).setCell ⟨w.heap.size + 1, 3, none⟩ (.slice none 0 0)).setCell ⟨w.heap.size + 1, 4, none⟩ (.slice none 0 0)).setCell ⟨w.heap.size + 1, 5, none⟩ (.slice none 0 0)).setCell ⟨w.heap.size + 1, 6, none⟩ (.slice none 0 0)).cell? ⟨w.heap.size + 1, i, none⟩ = some ([.slice none 0 0, .slice none 0 0, .slice none 0 0, .slice none 0 0, .slice none 0 0, .slice none 0 0, .slice none 0 0].getD i .nilFunc)) from fun i hi => by
      have hbq : Box (((((((w1.setCell ⟨w.heap.size + 1, 0, none⟩ (.slice none 0 0)).setCell ⟨w.heap.size + 1, 1, none⟩ (.slice none 0 0)).setCell ⟨w.heap.size + 1, 2, none⟩ (.slice none 0 0)).setCell ⟨w.heap.size + 1, 3, none⟩ (.slice none 0 0)).setCell ⟨w.heap.size + 1, 4, none⟩ (.slice none 0 0)).setCell ⟨w.heap.size + 1, 5, none⟩ (.slice none 0 0)).setCell ⟨w.heap.size + 1, 6, none⟩ (.slice none 0 0)) (w.heap.size + 1) 32 [.slice none 0 0, .slice none 0 0, .slice none 0 0, .slice none 0 0, .slice none 0 0, .slice none 0 0, .slice none 0 0] := by
        obtain ⟨c, q1, q2, q3⟩ := World.rowIs.set (World.rowIs.set (World.rowIs.set (World.rowIs.set (World.rowIs.set (World.rowIs.set (World.rowIs.set (hbx.ex) 0 (.slice none 0 0)) 1 (.slice none 0 0)) 2 (.slice none 0 0)) 3 (.slice none 0 0)) 4 (.slice none 0 0)) 5 (.slice none 0 0)) 6 (.slice none 0 0)
        refine ⟨⟨c, q1, q2, fun i hi => ?_⟩⟩
        rw [q3 i hi]
        have hi7 : i < 7 := hi
        have : i = 0 ∨ i = 1 ∨ i = 2 ∨ i = 3 ∨ i = 4 ∨ i = 5 ∨ i = 6 := by omega
        rcases this with rfl | rfl | rfl | rfl | rfl | rfl | rfl <;> rfl
      exact hbq.cell i (by simpa using hi))
    clear hbx
    go_wp2_with fail
    have Z0 := HZ.out 0 (by omega)
    have Z1 := HZ.out 1 (by omega)
    have Z2 := HZ.out 2 (by omega)
    have Z3 := HZ.out 3 (by omega)
    have Z4 := HZ.out 4 (by omega)
    have Z5 := HZ.out 5 (by omega)
    have Z6 := HZ.out 6 (by omega)
    simp only [List.getD_cons_zero, List.getD_cons_succ] at Z0 Z1 Z2 Z3 Z4 Z5 Z6
    refine bodyPost_ret (v := .tuple #[.agg #[.slice none 0 0, .slice none 0 0, .slice none 0 0, .slice none 0 0, .slice none 0 0, .slice none 0 0, .slice none 0 0], .int .i64 1]) (by simp [results, Tryd.results7, go_sem, Z0, Z1, Z2, Z3, Z4, Z5, Z6]) rfl ?_
    exact ⟨HB1.out, fun _ => rfl, fun h => absurd h (by decide)⟩
  · have hok := bnB_ok hB
    rw [hB] at HI
    go_enter Tryd.func7, Tryd.ntmps7
    go_wp2_with fail
    refine Calls.mono HI.out ?_
    rintro e w1 ⟨rfl, hb1⟩
    obtain ⟨x0, x1, x2, x3⟩ := (HH.out.2.1.still hb1).cells
    have HS1 := (show Hid _ from HS.out hok _ hb1)
    have HB1 := (show Hid _ from hb1)
    clear hb1
    go_wp2_with fail
    refine Calls.mono HS1.out ?_
    rintro e w2 ⟨g, b, L, rfl, hg, hbb, ⟨hb2, hst, hL, hsn⟩, hq⟩
    have hbw2 : Below w.heap.size w w2 := bel_trans HH.out.2.2.2.1 (bel_trans HB1.out hb2)
    have hT2 : Tz w2 := (HH.out.2.2.2.2.still HB1.out).still hb2
    have hf := facts27 d hok w1 (d.terms.length + d.nons.length) g b a0 c0 (.slice a1 d.nons.length c1) (.int .i64 d.own) (.slice a3 d.prods.length c3) (HH.out.1.still HB1.out).prods L z Bf w2 hb2 hst hL rfl hT2 (fun WB WF => HFH.out hok L hL hsn hq WB WF)
    have HF7 := (show Hid _ from hf)
    have HX2 := (show Hid (Below w.heap.size w w2 ∧ Box w2 (w.heap.size + 1) 32 [.slice none 0 0, .slice none 0 0, .slice none 0 0, .slice none 0 0, .slice none 0 0, .slice none 0 0, .slice none 0 0]) from ⟨hbw2, (HH.out.2.2.1.still HB1.out).still hb2⟩)
    have HL2 := (show Hid (Snd d.terms.length (bps d) (Lf L) ∧ (∀ p ∈ bps d, lnew (Lf L) p = false) ∧ L.length = d.terms.length + d.nons.length) from ⟨hsn, hq, hL⟩)
    have hlt2 : w.heap.size + 1 < w2.heap.size := HX2.out.2.lt
    clear hb2 hst hL hsn hq hbw2 hT2 hf HS1 HS HFH x0 x1 x2 x3 hg hbb
    go_wp2_with fail
    refine Calls.mono HF7.out ?_
    rintro e w3 ⟨us, Rr, WW, WB, WF, WO, RF, RO, Bb, rfl, hl7, hb3, hBb, hown, hrest⟩
    obtain ⟨u0, u1, u2, u3, u4, u5, u6, rfl⟩ := list7 hl7
    obtain ⟨b0, n0, d0, rfl⟩ := own_form hown rfl u0 (by simp)
    obtain ⟨b1, n1, d1, rfl⟩ := own_form hown rfl u1 (by simp)
    obtain ⟨b2, n2, d2, rfl⟩ := own_form hown rfl u2 (by simp)
    obtain ⟨b3, n3, d3, rfl⟩ := own_form hown rfl u3 (by simp)
    obtain ⟨b4, n4, d4, rfl⟩ := own_form hown rfl u4 (by simp)
    obtain ⟨b5, n5, d5, rfl⟩ := own_form hown rfl u5 (by simp)
    obtain ⟨b6, n6, d6, rfl⟩ := own_form hown rfl u6 (by simp)
    have hbx := HX2.out.2.still hb3
    have HB3 := (show Hid (Below w.heap.size w (((((((w3.setCell ⟨w.heap.size + 1, 0, none⟩ (.slice b0 n0 d0)).setCell ⟨w.heap.size + 1, 1, none⟩ (.slice b1 n1 d1)).setCell ⟨w.heap.size + 1, 2, none⟩ (.slice b2 n2 d2)).setCell ⟨w.heap.size + 1, 3, none⟩ (.slice b3 n3 d3)).setCell ⟨w.heap.size + 1, 4, none⟩ (.slice b4 n4 d4)).setCell ⟨w.heap.size + 1, 5, none⟩ (.slice b5 n5 d5)).setCell ⟨w.heap.size + 1, 6, none⟩ (.slice b6 n6 d6))) from ((((((((bel_trans HX2.out.1 hb3).setCell (Nat.le_succ _) _).setCell (Nat.le_succ _) _).setCell (Nat.le_succ _) _).setCell (Nat.le_succ _) _).setCell (Nat.le_succ _) _).setCell (Nat.le_succ _) _).setCell (Nat.le_succ _) _))
    have HFA := (show Hid (FaA d z Bf w (((((((w3.setCell ⟨w.heap.size + 1, 0, none⟩ (.slice b0 n0 d0)).setCell ⟨w.heap.size + 1, 1, none⟩ (.slice b1 n1 d1)).setCell ⟨w.heap.size + 1, 2, none⟩ (.slice b2 n2 d2)).setCell ⟨w.heap.size + 1, 3, none⟩ (.slice b3 n3 d3)).setCell ⟨w.heap.size + 1, 4, none⟩ (.slice b4 n4 d4)).setCell ⟨w.heap.size + 1, 5, none⟩ (.slice b5 n5 d5)).setCell ⟨w.heap.size + 1, 6, none⟩ (.slice b6 n6 d6)) [.slice b0 n0 d0, .slice b1 n1 d1, .slice b2 n2 d2, .slice b3 n3 d3, .slice b4 n4 d4, .slice b5 n5 d5, .slice b6 n6 d6] L Rr WW WB WF WO RF RO Bb) from ⟨rfl, by have := HX2.out.1.size; omega, hown.keep (fun q hq => by
      have hne : q ≠ w.heap.size + 1 := by omega
      exact ((((((blk_setCell_other _ _ _ _ (by exact hne)).trans (blk_setCell_other _ _ _ _ (by exact hne))).trans (blk_setCell_other _ _ _ _ (by exact hne))).trans (blk_setCell_other _ _ _ _ (by exact hne))).trans (blk_setCell_other _ _ _ _ (by exact hne))).trans (blk_setCell_other _ _ _ _ (by exact hne))).trans (blk_setCell_other _ _ _ _ (by exact hne))), hrest⟩)
    have z0 : w3.cell? ⟨w.heap.size + 1, 0, none⟩ = some (.slice none 0 0) := hbx.cell 0 (by simp)
    have z1 : w3.cell? ⟨w.heap.size + 1, 1, none⟩ = some (.slice none 0 0) := hbx.cell 1 (by simp)
    have z2 : w3.cell? ⟨w.heap.size + 1, 2, none⟩ = some (.slice none 0 0) := hbx.cell 2 (by simp)
    have z3 : w3.cell? ⟨w.heap.size + 1, 3, none⟩ = some (.slice none 0 0) := hbx.cell 3 (by simp)
    have z4 : w3.cell? ⟨w.heap.size + 1, 4, none⟩ = some (.slice none 0 0) := hbx.cell 4 (by simp)
    have z5 : w3.cell? ⟨w.heap.size + 1, 5, none⟩ = some (.slice none 0 0) := hbx.cell 5 (by simp)
    have z6 : w3.cell? ⟨w.heap.size + 1, 6, none⟩ = some (.slice none 0 0) := hbx.cell 6 (by simp)
    have zf0 := hbx.frozen 0
    have zf1 := hbx.frozen 1
    have zf2 := hbx.frozen 2
    have zf3 := hbx.frozen 3
    have zf4 := hbx.frozen 4
    have zf5 := hbx.frozen 5
    have zf6 := hbx.frozen 6
    have HZ := (show Hid (∀ i, i < 7 → (((((((w3.setCell ⟨w.heap.size + 1, 0, none⟩ (.slice b0 n0 d0)).setCell ⟨w.heap.size + 1, 1, none⟩ (.slice b1 n1 d1)).setCell ⟨w.heap.size + 1, 2, none⟩ (.slice b2 n2 d2)).setCell ⟨w.heap.size + 1, 3, none⟩ (.slice b3 n3 d3)).setCell ⟨w.heap.size + 1, 4, none⟩ (.slice b4 n4 d4)).setCell ⟨w.heap.size + 1, 5, none⟩ (.slice b5 n5 d5)).setCell ⟨w.heap.size + 1, 6, none⟩ (.slice b6 n6 d6)).cell? ⟨w.heap.size + 1, i, none⟩ = some ([.slice b0 n0 d0, .slice b1 n1 d1, .slice b2 n2 d2, .slice b3 n3 d3, .slice b4 n4 d4, .slice b5 n5 d5, .slice b6 n6 d6].getD i .nilFunc)) from fun i hi => by
      have hbq : Box (((((((w3.setCell ⟨w.heap.size + 1, 0, none⟩ (.slice b0 n0 d0)).setCell ⟨w.heap.size + 1, 1, none⟩ (.slice b1 n1 d1)).setCell ⟨w.heap.size + 1, 2, none⟩ (.slice b2 n2 d2)).setCell ⟨w.heap.size + 1, 3, none⟩ (.slice b3 n3 d3)).setCell ⟨w.heap.size + 1, 4, none⟩ (.slice b4 n4 d4)).setCell ⟨w.heap.size + 1, 5, none⟩ (.slice b5 n5 d5)).setCell ⟨w.heap.size + 1, 6, none⟩ (.slice b6 n6 d6)) (w.heap.size + 1) 32 [.slice b0 n0 d0, .slice b1 n1 d1, .slice b2 n2 d2, .slice b3 n3 d3, .slice b4 n4 d4, .slice b5 n5 d5, .slice b6 n6 d6] := by
        obtain ⟨c, q1, q2, q3⟩ := World.rowIs.set (World.rowIs.set (World.rowIs.set (World.rowIs.set (World.rowIs.set (World.rowIs.set (World.rowIs.set (hbx.ex) 0 (.slice b0 n0 d0)) 1 (.slice b1 n1 d1)) 2 (.slice b2 n2 d2)) 3 (.slice b3 n3 d3)) 4 (.slice b4 n4 d4)) 5 (.slice b5 n5 d5)) 6 (.slice b6 n6 d6)
        refine ⟨⟨c, q1, q2, fun i hi => ?_⟩⟩
        rw [q3 i hi]
        have hi7 : i < 7 := hi
        have : i = 0 ∨ i = 1 ∨ i = 2 ∨ i = 3 ∨ i = 4 ∨ i = 5 ∨ i = 6 := by omega
        rcases this with rfl | rfl | rfl | rfl | rfl | rfl | rfl <;> rfl
      exact hbq.cell i (by simpa using hi))
    clear hbx hb3 hown hrest HF7 HH HI HB1 hok hBb hl7
    go_wp2_with fail
    have Z0 := HZ.out 0 (by omega)
    have Z1 := HZ.out 1 (by omega)
    have Z2 := HZ.out 2 (by omega)
    have Z3 := HZ.out 3 (by omega)
    have Z4 := HZ.out 4 (by omega)
    have Z5 := HZ.out 5 (by omega)
    have Z6 := HZ.out 6 (by omega)
    simp only [List.getD_cons_zero, List.getD_cons_succ] at Z0 Z1 Z2 Z3 Z4 Z5 Z6
    refine bodyPost_ret (v := .tuple #[.agg #[.slice b0 n0 d0, .slice b1 n1 d1, .slice b2 n2 d2, .slice b3 n3 d3, .slice b4 n4 d4, .slice b5 n5 d5, .slice b6 n6 d6], .int .i64 0]) (by simp [results, Tryd.results7, go_sem, Z0, Z1, Z2, Z3, Z4, Z5, Z6]) rfl ?_
    exact ⟨HB3.out, fun h => absurd h (by decide), fun _ => ⟨[.slice b0 n0 d0, .slice b1 n1 d1, .slice b2 n2 d2, .slice b3 n3 d3, .slice b4 n4 d4, .slice b5 n5 d5, .slice b6 n6 d6], L, Rr, WW, WB, WF, WO, RF, RO, Bb, rfl, HL2.out.1, HL2.out.2.1, HL2.out.2.2, HFA.out⟩⟩
end Go.Proofs.YtjpjjfgdgieapaaDoor
