import Derived.Test.YtjpjjfgdgieapaaDoorRg
import Derived.Deep.RegionHeld3
/-! The specification: FactsOf. -/
namespace Go.Proofs.YtjpjjfgdgieapaaDoor
open Go.RowKit Go.Deep
set_option linter.unusedVariables false
set_option maxRecDepth 100000
set_option linter.unusedSimpArgs false

theorem sBnf_any {S : Nat → Prop} (d : Bn) (v0 v1 v3 : Value) (w : World) (h : BLies w S d v0 v1 v3) :
    Calls Tryd.prog 16 #[.agg #[v0, v1, .int .i64 d.own, v3]] w fun e w' => e = .returned (.bool (bnB d)) ∧ Below w.heap.size w w' := by
  by_cases hz : szB d = true
  · exact sBnf_yes d v0 v1 v3 w h hz
  · have hE : bnB d = false := by unfold bnB; rw [Bool.eq_false_iff.2 hz, Bool.false_and]
    rw [hE]
    exact sBnf_no d v0 v1 v3 w h hz
set_option maxHeartbeats 25600000 in
theorem sFacts5 {S : Nat → Prop} (d : Bn) (v0 v1 v3 : Value) (w : World) (h : BLies w S d v0 v1 v3) :
    Calls Tryd.prog 5 #[.agg #[v0, v1, .int .i64 d.own, v3]] w fun e w' => Below w.heap.size w w' ∧ (bnB d = false → e = .returned (.tuple #[.agg #[.slice none 0 0, .slice none 0 0, .slice none 0 0, .slice none 0 0, .slice none 0 0, .slice none 0 0, .slice none 0 0], .int .i64 1])) ∧ (bnB d = true → ∃ us nl F M O FA FL, e = .returned (.tuple #[.agg us.toArray, .int .i64 0]) ∧ SpA d w' us nl F M O FA FL) := by
  obtain ⟨a0, c0, a1, c1, a3, c3, rfl, rfl, rfl⟩ := h.form
  have hb0 := bel_alloc w (.cells #[.slice a0 d.terms.length c0, .slice a1 d.nons.length c1, .int .i64 d.own, .slice a3 d.prods.length c3] 38)
  have hb01 := bel_alloc (w.alloc (.cells #[.slice a0 d.terms.length c0, .slice a1 d.nons.length c1, .int .i64 d.own, .slice a3 d.prods.length c3] 38)) (.cells #[.slice none 0 0, .slice none 0 0, .slice none 0 0, .slice none 0 0, .slice none 0 0, .slice none 0 0, .slice none 0 0] 32)
  have hQ := (Box4.new w 38 (.slice a0 d.terms.length c0) (.slice a1 d.nons.length c1) (.int .i64 d.own) (.slice a3 d.prods.length c3)).still hb01
  have hR := Box.new (w.alloc (.cells #[.slice a0 d.terms.length c0, .slice a1 d.nons.length c1, .int .i64 d.own, .slice a3 d.prods.length c3] 38)) 32 [.slice none 0 0, .slice none 0 0, .slice none 0 0, .slice none 0 0, .slice none 0 0, .slice none 0 0, .slice none 0 0]
  have hsz : (w.alloc (.cells #[.slice a0 d.terms.length c0, .slice a1 d.nons.length c1, .int .i64 d.own, .slice a3 d.prods.length c3] 38)).heap.size = w.heap.size + 1 := by simp
  rw [hsz] at hR
  have hbw : Below w.heap.size w ((w.alloc (.cells #[.slice a0 d.terms.length c0, .slice a1 d.nons.length c1, .int .i64 d.own, .slice a3 d.prods.length c3] 38)).alloc (.cells #[.slice none 0 0, .slice none 0 0, .slice none 0 0, .slice none 0 0, .slice none 0 0, .slice none 0 0, .slice none 0 0] 32)) := bel_trans hb0 hb01
  have HH := (show Hid _ from (⟨h.still hbw, hQ, hR, hbw⟩ : _ ∧ _ ∧ _ ∧ _))
  have HI := (show Hid _ from sBnf_any d _ _ _ ((w.alloc (.cells #[.slice a0 d.terms.length c0, .slice a1 d.nons.length c1, .int .i64 d.own, .slice a3 d.prods.length c3] 38)).alloc (.cells #[.slice none 0 0, .slice none 0 0, .slice none 0 0, .slice none 0 0, .slice none 0 0, .slice none 0 0, .slice none 0 0] 32)) HH.out.1)
  clear h hb0 hb01 hQ hR hbw hsz
  cases hB : bnB d
  · rw [hB] at HI
    go_enter Tryd.func5, Tryd.ntmps5
    go_wp2_with fail
    refine Calls.mono HI.out ?_
    rintro e w1 ⟨rfl, hb1⟩
    have hbx := HH.out.2.2.1.still hb1
    have HB1 := (show Hid (Below w.heap.size w (((((((w1.setCell ⟨w.heap.size + 1, 0, none⟩ (.slice none 0 0)).setCell ⟨w.heap.size + 1, 1, none⟩ (.slice none 0 0)).setCell ⟨w.heap.size + 1, 2, none⟩ (.slice none 0 0)).setCell ⟨w.heap.size + 1, 3, none⟩ (.slice none 0 0)).setCell ⟨w.heap.size + 1, 4, none⟩ (.slice none 0 0)).setCell ⟨w.heap.size + 1, 5, none⟩ (.slice none 0 0)).setCell ⟨w.heap.size + 1, 6, none⟩ (.slice none 0 0))) from ((((((((bel_trans HH.out.2.2.2 hb1).setCell (Nat.le_succ _) _).setCell (Nat.le_succ _) _).setCell (Nat.le_succ _) _).setCell (Nat.le_succ _) _).setCell (Nat.le_succ _) _).setCell (Nat.le_succ _) _).setCell (Nat.le_succ _) _))
    clear hb1
    have z0 : w1.cell? ⟨w.heap.size + 1, 0, none⟩ = some (.slice none 0 0) := hbx.cell 0 (by simp)
    have z1 : w1.cell? ⟨w.heap.size + 1, 1, none⟩ = some (.slice none 0 0) := hbx.cell 1 (by simp)
    have z2 : w1.cell? ⟨w.heap.size + 1, 2, none⟩ = some (.slice none 0 0) := hbx.cell 2 (by simp)
    have z3 : w1.cell? ⟨w.heap.size + 1, 3, none⟩ = some (.slice none 0 0) := hbx.cell 3 (by simp)
    have z4 : w1.cell? ⟨w.heap.size + 1, 4, none⟩ = some (.slice none 0 0) := hbx.cell 4 (by simp)
    have z5 : w1.cell? ⟨w.heap.size + 1, 5, none⟩ = some (.slice none 0 0) := hbx.cell 5 (by simp)
    have z6 : w1.cell? ⟨w.heap.size + 1, 6, none⟩ = some (.slice none 0 0) := hbx.cell 6 (by simp)
    have zf0 := hbx.frozen 0
    have zf1 := hbx.frozen 1
    have zf2 := hbx.frozen 2
    have zf3 := hbx.frozen 3
    have zf4 := hbx.frozen 4
    have zf5 := hbx.frozen 5
    have zf6 := hbx.frozen 6
    have HZ := (show Hid (∀ i, i < 7 → (((((((w1.setCell ⟨w.heap.size + 1, 0, none⟩ (.slice none 0 0)).setCell ⟨w.heap.size + 1, 1, none⟩ (.slice none 0 0)).setCell ⟨w.heap.size + 1, 2, none⟩ (.slice none 0 0)).setCell ⟨w.heap.size + 1, 3, none⟩ (.slice none 0 0)).setCell ⟨w.heap.size + 1, 4, none⟩ (.slice none 0 0)).setCell ⟨w.heap.size + 1, 5, none⟩ (.slice none 0 0)).setCell ⟨w.heap.size + 1, 6, none⟩ (.slice none 0 0)).cell? ⟨w.heap.size + 1, i, none⟩ = some ([.slice none 0 0, .slice none 0 0, .slice none 0 0, .slice none 0 0, .slice none 0 0, .slice none 0 0, .slice none 0 0].getD i .nilFunc)) from fun i hi => by
      have hbq : Box (((((((w1.setCell ⟨w.heap.size + 1, 0, none⟩ (.slice none 0 0)).setCell ⟨w.heap.size + 1, 1, none⟩ (.slice none 0 0)).setCell ⟨w.heap.size + 1, 2, none⟩ (.slice none 0 0)).setCell ⟨w.heap.size + 1, 3, none⟩ (.slice none 0 0)).setCell ⟨w.heap.size + 1, 4, none⟩ (.slice none 0 0)).setCell ⟨w.heap.size + 1, 5, none⟩ (.slice none 0 0)).setCell ⟨w.heap.size + 1, 6, none⟩ (.slice none 0 0)) (w.heap.size + 1) 32 [.slice none 0 0, .slice none 0 0, .slice none 0 0, .slice none 0 0, .slice none 0 0, .slice none 0 0, .slice none 0 0] := by
        obtain ⟨c, q1, q2, q3⟩ := World.rowIs.set (World.rowIs.set (World.rowIs.set (World.rowIs.set (World.rowIs.set (World.rowIs.set (World.rowIs.set (hbx.ex) 0 (.slice none 0 0)) 1 (.slice none 0 0)) 2 (.slice none 0 0)) 3 (.slice none 0 0)) 4 (.slice none 0 0)) 5 (.slice none 0 0)) 6 (.slice none 0 0)
        refine ⟨⟨c, q1, q2, fun i hi => ?_⟩⟩
        rw [q3 i hi]
        have hi7 : i < 7 := hi
        have : i = 0 ∨ i = 1 ∨ i = 2 ∨ i = 3 ∨ i = 4 ∨ i = 5 ∨ i = 6 := by omega
        rcases this with rfl | rfl | rfl | rfl | rfl | rfl | rfl <;> rfl
      exact hbq.cell i (by simpa using hi))
    clear hbx
    go_wp2_with fail
    have Z0 := HZ.out 0 (by omega)
    have Z1 := HZ.out 1 (by omega)
    have Z2 := HZ.out 2 (by omega)
    have Z3 := HZ.out 3 (by omega)
    have Z4 := HZ.out 4 (by omega)
    have Z5 := HZ.out 5 (by omega)
    have Z6 := HZ.out 6 (by omega)
    simp only [List.getD_cons_zero, List.getD_cons_succ] at Z0 Z1 Z2 Z3 Z4 Z5 Z6
    refine bodyPost_ret (v := .tuple #[.agg #[.slice none 0 0, .slice none 0 0, .slice none 0 0, .slice none 0 0, .slice none 0 0, .slice none 0 0, .slice none 0 0], .int .i64 1]) (by simp [results, Tryd.results5, go_sem, Z0, Z1, Z2, Z3, Z4, Z5, Z6]) rfl ?_
    exact ⟨HB1.out, fun _ => rfl, fun h => absurd h (by decide)⟩
  · have hok := bnB_ok hB
    rw [hB] at HI
    have HOK := (show Hid (Bok d) from hok)
    have HNN := (show Hid (d.nons.length ≤ 1000) from Nat.le_trans hok.nn.2 (by decide))
    have hNN1 : 1 ≤ d.nons.length ∧ d.nons.length ≤ 100 := hok.nn
    clear hok
    go_enter Tryd.func5, Tryd.ntmps5
    go_wp2_with fail
    refine Calls.mono HI.out ?_
    rintro e wB ⟨rfl, hb1⟩
    obtain ⟨x0, x1, x2, x3⟩ := (HH.out.2.1.still hb1).cells
    have HH1 := (show Hid (BLies wB S d (.slice a0 d.terms.length c0) (.slice a1 d.nons.length c1) (.slice a3 d.prods.length c3) ∧ Box4 wB w.heap.size 38 (.slice a0 d.terms.length c0) (.slice a1 d.nons.length c1) (.int .i64 d.own) (.slice a3 d.prods.length c3) ∧ Box wB (w.heap.size + 1) 32 [.slice none 0 0, .slice none 0 0, .slice none 0 0, .slice none 0 0, .slice none 0 0, .slice none 0 0, .slice none 0 0] ∧ Below w.heap.size w wB) from ⟨HH.out.1.still hb1, HH.out.2.1.still hb1, HH.out.2.2.1.still hb1, bel_trans HH.out.2.2.2 hb1⟩)
    have hN := null_any d HOK.out _ _ _ wB HH1.out.1
    have HN := (show Hid _ from hN)
    obtain ⟨B0, hB0⟩ : ∃ B0, wB.heap.size = B0 := ⟨_, rfl⟩
    clear hb1 hN HH HI
    go_wp2_with fail
    refine Calls.mono HN.out ?_
    rintro e w2 ⟨nb, nl, rfl, hb2, hge2, hnr, hnl, hnsd, hnq⟩
    have HP17 := (show Hid (nl.length = d.nons.length ∧ Nsd d.terms.length (bps d) (Nf d.terms.length nl) ∧ ∀ p ∈ bps d, quN d.terms.length nl p) from ⟨hnl, hnsd, hnq⟩)
    rw [hnl]
    clear x0 x1 x2 x3
    obtain ⟨x0, x1, x2, x3⟩ := (HH1.out.2.1.still hb2).cells
    have HF := (show Hid _ from first_any d HOK.out _ _ _ nb nl w2 (HH1.out.1.still hb2) hnr hnl)
    have HO2 := (show Hid (Own w2 B0 [rowE 4 nb d.nons.length (nl.map .bool)]) from rowE_add (Own.nil wB B0) hb2 (Nat.le_of_eq hB0.symm) hge2 (by rw [← hnl]; exact hnr) HNN.out (by rw [List.length_map]; exact hnl) (fun i hi => by rw [List.getElem?_map, List.getElem?_eq_getElem (by rw [hnl]; exact hi), Option.map_some, List.getD_eq_getElem?_getD, List.getElem?_eq_getElem (by rw [hnl]; exact hi)]; rfl))
    have HB2 := (show Hid (BRow w2 nb nl ∧ Below wB.heap.size wB w2) from ⟨hnr, hb2⟩)
    clear hb2 hge2 hnr hnl hnsd hnq HN
    go_wp2_with fail
    refine Calls.mono HF.out ?_
    rintro e w3 ⟨fb, F, rfl, hb3, hge3, hfr, hok3, hfm⟩
    obtain ⟨vsF, hv1, hv2⟩ := hfr.ex
    have HO3 := (show Hid (Own w3 B0 [rowE 4 nb d.nons.length (nl.map .bool), nilE, nilE, nilE, rowE 29 fb d.nons.length ((List.range d.nons.length).map vsF)]) from (((rowE_add (t := 29) (n := d.nons.length) (cs := ((List.range d.nons.length).map vsF)) HO2.out hb3 (by have := HB2.out.2.size; omega) hge3 hv1 HNN.out (by simp) (fun i hi => by simp [hi])).ins1.nilE.ins1).nilE.ins1).nilE.ins1)
    have HB3 := (show Hid (BLies w3 S d (.slice a0 d.terms.length c0) (.slice a1 d.nons.length c1) (.slice a3 d.prods.length c3) ∧ BRow w3 nb nl ∧ FR w3 fb d.nons.length F ∧ Box4 w3 w.heap.size 38 (.slice a0 d.terms.length c0) (.slice a1 d.nons.length c1) (.int .i64 d.own) (.slice a3 d.prods.length c3) ∧ Box w3 (w.heap.size + 1) 32 [.slice none 0 0, .slice none 0 0, .slice none 0 0, .slice none 0 0, .slice none 0 0, .slice none 0 0, .slice none 0 0] ∧ B0 ≤ w3.heap.size ∧ Below B0 wB w3) from ⟨(HH1.out.1.still HB2.out.2).still hb3, World.rowIs.of_block HB2.out.1 (hb3.block _ (World.rowIs.lt HB2.out.1)), hfr, (HH1.out.2.1.still HB2.out.2).still hb3, (HH1.out.2.2.1.still HB2.out.2).still hb3, by have h1 := HB2.out.2.size; have h2 := hb3.size; omega, by rw [← hB0]; exact bel_trans HB2.out.2 hb3⟩)
    have HP18 := (show Hid (OkF d nl F ∧ ∀ n y, y ∈ F.getD n [] ↔ Fst d (Nf d.terms.length nl) n y) from ⟨hok3, hfm⟩)
    have HC19 : Hid (∀ w', Below w3.heap.size w3 w' → _) := fun w' hb => least_any d HOK.out _ _ _ w' (HB3.out.1.still hb)
    have HC20 : Hid (∀ w', Below w3.heap.size w3 w' → _) := fun w' hb => follow_any d HOK.out _ _ _ nb fb nl F w' (HB3.out.1.still hb) (World.rowIs.of_block HB3.out.2.1 (hb.block _ (World.rowIs.lt HB3.out.2.1))) HP17.out.1 (HB3.out.2.2.1.still hb) HP18.out.1 HP18.out.2
    have HSX : Hid (∀ W', Below w3.heap.size w3 W' → W'.cell? ⟨w.heap.size, 0, none⟩ = some (.slice a0 d.terms.length c0) ∧ W'.cell? ⟨w.heap.size, 1, none⟩ = some (.slice a1 d.nons.length c1) ∧ W'.cell? ⟨w.heap.size, 2, none⟩ = some (.int .i64 d.own) ∧ W'.cell? ⟨w.heap.size, 3, none⟩ = some (.slice a3 d.prods.length c3)) := fun W' hb => by
      obtain ⟨x0, x1, x2, x3⟩ := (HB3.out.2.2.2.1.still hb).cells
      exact ⟨x0, x1, x2, x3⟩
    have HSY : Hid (∀ (W' : World) {g lb ob : Nat} {M : List Int} {O : List (List Int)}, (∃ vF vO, KA d wB B0 nb fb nl F vF g lb ob M O vO W' ∧ Below w3.heap.size w3 W') → W'.cell? ⟨w.heap.size, 0, none⟩ = some (.slice a0 d.terms.length c0) ∧ W'.cell? ⟨w.heap.size, 1, none⟩ = some (.slice a1 d.nons.length c1) ∧ W'.cell? ⟨w.heap.size, 2, none⟩ = some (.int .i64 d.own) ∧ W'.cell? ⟨w.heap.size, 3, none⟩ = some (.slice a3 d.prods.length c3)) := fun W' g lb ob M O h => by
      obtain ⟨_, _, _, hb⟩ := h
      exact HSX.out W' hb
    have hW3 : w.heap.size + 1 < w3.heap.size := HB3.out.2.2.2.2.1.lt
    have HWL := (show Hid (w.heap.size + 1 < w3.heap.size) from hW3)
    clear hW3 hb3 hge3 hfr hok3 hfm hv1 hv2 HF HO2 HB2 x0 x1 x2 x3
    go_upto_region 5 with fail
    go_cut [6] from 19 to 27 (fun v6 wx => ∃ g lb ob M O, v6 = .pointer (some ⟨g, 0, none⟩) ∧ Hid (∃ vF vO, KA d wB B0 nb fb nl F vF g lb ob M O vO wx ∧ Below w3.heap.size w3 wx))
    case first =>
      have Hb_wd := (show Hid (Below w3.heap.size w3 w3.drew) from (Below.refl w3.heap.size w3).drew)
      have HO_wd := (show Hid (Own w3.drew B0 [rowE 4 nb d.nons.length (nl.map .bool), nilE, nilE, nilE, rowE 29 fb d.nons.length ((List.range d.nons.length).map vsF)]) from HO3.out.still (Below.refl w3.heap.size w3).drew)
      have hS3 := HSX.out _ Hb_wd.out
      clear HO3 HH1 HP17 HP18 HOK HWL hB0
      refine wp_region_held_drew (S := (fun w' => w'.cell? ⟨w.heap.size, 0, none⟩ = some (.slice a0 d.terms.length c0) ∧ w'.cell? ⟨w.heap.size, 1, none⟩ = some (.slice a1 d.nons.length c1) ∧ w'.cell? ⟨w.heap.size, 2, none⟩ = some (.int .i64 d.own) ∧ w'.cell? ⟨w.heap.size, 3, none⟩ = some (.slice a3 d.prods.length c3))) (by kernel_rfl) hS3 (fun hHeld => ?_)
      generalize w3.drew = wd at *
      refine wpAnyH_take (i := 0) (oi := { dst := some 19, op := Go.Op.move (Go.Operand.tmp 4), type := 28, pos := "l04_facts.go:234", after := #[], guard := none }) (v := ?v1) rfl (by kernel_rfl) (by kernel_rfl) (by kernel_rfl) (fun _ _ _ h => h) (Or.inl ⟨by rfl, ?h1⟩) hHeld ?r1
      case h1 => (intro w hSw; (try dsimp only at hSw); go_simp; try with_reducible rfl)
      try simp only [Act.put, List.setIfInBounds_toArray, List.set_cons_zero, List.set_cons_succ]
      refine wpAnyH_take (i := 1) (oi := { dst := some 20, op := Go.Op.load 38 (Go.Operand.tmp 1), type := 38, pos := "l04_facts.go:234", after := #[], guard := none }) (v := ?v2) rfl (by kernel_rfl) (by kernel_rfl) (by kernel_rfl) (fun _ _ _ h => h) (Or.inl ⟨by rfl, ?h2⟩) hHeld ?r2
      case h2 => (intro w hSw; (try dsimp only at hSw); go_simp; try with_reducible rfl)
      try simp only [Act.put, List.setIfInBounds_toArray, List.set_cons_zero, List.set_cons_succ]
      refine wpAnyH_take (i := 3) (oi := { dst := some 22, op := Go.Op.move (Go.Operand.tmp 5), type := 30, pos := "l04_facts.go:234", after := #[], guard := none }) (v := ?v3) rfl (by kernel_rfl) (by kernel_rfl) (by kernel_rfl) (fun _ _ _ h => h) (Or.inl ⟨by rfl, ?h3⟩) hHeld ?r3
      case h3 => (intro w hSw; (try dsimp only at hSw); go_simp; try with_reducible rfl)
      try simp only [Act.put, List.setIfInBounds_toArray, List.set_cons_zero, List.set_cons_succ]
      refine wpAnyH_take (i := 4) (oi := { dst := some 23, op := Go.Op.load 38 (Go.Operand.tmp 1), type := 38, pos := "l04_facts.go:234", after := #[], guard := none }) (v := ?v4) rfl (by kernel_rfl) (by kernel_rfl) (by kernel_rfl) (fun _ _ _ h => h) (Or.inl ⟨by rfl, ?h4⟩) hHeld ?r4
      case h4 => (intro w hSw; (try dsimp only at hSw); go_simp; try with_reducible rfl)
      try simp only [Act.put, List.setIfInBounds_toArray, List.set_cons_zero, List.set_cons_succ]
      refine wpAnyH_take (i := 5) (oi := { dst := some 24, op := Go.Op.move (Go.Operand.tmp 4), type := 28, pos := "l04_facts.go:234", after := #[], guard := none }) (v := ?v5) rfl (by kernel_rfl) (by kernel_rfl) (by kernel_rfl) (fun _ _ _ h => h) (Or.inl ⟨by rfl, ?h5⟩) hHeld ?r5
      case h5 => (intro w hSw; (try dsimp only at hSw); go_simp; try with_reducible rfl)
      try simp only [Act.put, List.setIfInBounds_toArray, List.set_cons_zero, List.set_cons_succ]
      refine wpAnyH_take (i := 6) (oi := { dst := some 25, op := Go.Op.move (Go.Operand.tmp 5), type := 30, pos := "l04_facts.go:234", after := #[], guard := none }) (v := ?v6) rfl (by kernel_rfl) (by kernel_rfl) (by kernel_rfl) (fun _ _ _ h => h) (Or.inl ⟨by rfl, ?h6⟩) hHeld ?r6
      case h6 => (intro w hSw; (try dsimp only at hSw); go_simp; try with_reducible rfl)
      try simp only [Act.put, List.setIfInBounds_toArray, List.set_cons_zero, List.set_cons_succ]
      refine wpAnyH_ready (rs := [2, 9]) (by kernel_rfl) (by simp) ?_
      refine (AllReadyH.cons (o := { dst := some 21, op := Go.Op.call { callee := Go.Callee.value (Go.Operand.func 19), args := #[Go.Operand.tmp 20], argTypes := #[38] }, type := 29, pos := "l04_facts.go:234", after := #[{ on := 1, ground := Go.Ground.data }], guard := none }) rfl (fun K hK => ?_) (AllReadyH.cons (o := { dst := some 6, op := Go.Op.alloc 32, type := 0, pos := "l04_facts.go:234", after := #[], guard := none }) rfl (fun K hK => ?_) AllReadyH.nil))
      · go_simp
        refine Calls.mono (HC19.out _ Hb_wd.out) ?_
        rintro e y1 ⟨lb, M, rfl, hby, hge, hrow, hlen, hsnd, hq⟩
        have HP19 := (show Hid (M.length = d.nons.length ∧ Snd d.terms.length (bps d) (Mf d.terms.length M) ∧ ∀ p ∈ bps d, lnew (Mf d.terms.length M) p = false) from ⟨hlen, hsnd, hq⟩)
        have HM_y1 := (show Hid (IRow y1 lb M) from hrow)
        have HO_y1 := (show Hid _ from (rowE_add (t := 3) (n := d.nons.length) (cs := encI M) HO_wd.out hby (Nat.le_trans HB3.out.2.2.2.2.2.1 Hb_wd.out.size) hge (by rw [← hlen]; exact hrow) HNN.out (by rw [encI, List.length_map]; exact hlen) (fun i hi => by rw [encI, List.getElem?_map, List.getElem?_eq_getElem (by rw [hlen]; exact hi), Option.map_some, List.getD_eq_getElem?_getD, List.getElem?_eq_getElem (by rw [hlen]; exact hi)]; rfl)).ins4)
        have Hb_y1 := (show Hid (Below w3.heap.size w3 y1) from bel_trans Hb_wd.out hby)
        clear hby hge hrow hlen hsnd hq HO_wd
        dsimp only
        clear hHeld
        refine hK.out _ _ (HSX.out _ Hb_y1.out) (fun hHeld => ?_)
        clear hK K
        try simp only [Act.put, List.setIfInBounds_toArray, List.set_cons_zero, List.set_cons_succ]
        refine wpAnyH_ready (rs := [7, 9]) (by kernel_rfl) (by simp) ?_
        refine (AllReadyH.cons (o := { dst := some 26, op := Go.Op.call { callee := Go.Callee.value (Go.Operand.func 20), args := #[Go.Operand.tmp 23, Go.Operand.tmp 24, Go.Operand.tmp 25], argTypes := #[38, 28, 30] }, type := 30, pos := "l04_facts.go:234", after := #[{ on := 4, ground := Go.Ground.data }, { on := 5, ground := Go.Ground.data }, { on := 6, ground := Go.Ground.data }, { on := 2, ground := Go.Ground.chain }], guard := none }) rfl (fun K hK => ?_) (AllReadyH.cons (o := { dst := some 6, op := Go.Op.alloc 32, type := 0, pos := "l04_facts.go:234", after := #[], guard := none }) rfl (fun K hK => ?_) AllReadyH.nil))
        · go_simp
          refine Calls.mono (HC20.out _ Hb_y1.out) ?_
          rintro e y2 ⟨ob, O, rfl, hby, hge, hfo, hoo, hom⟩
          have HP20 := (show Hid (OkO d nl O ∧ ∀ n y, y ∈ O.getD n [] ↔ Fol d (Nf d.terms.length nl) (Fst d (Nf d.terms.length nl)) n y) from ⟨hoo, hom⟩)
          have HF_y2 := (show Hid (FR y2 ob d.nons.length O) from hfo)
          obtain ⟨vsO, hv1, hv2⟩ := hfo.ex
          have HO_y2 := (show Hid _ from (rowE_add (t := 29) (n := d.nons.length) (cs := ((List.range d.nons.length).map vsO)) HO_y1.out hby (Nat.le_trans HB3.out.2.2.2.2.2.1 Hb_y1.out.size) hge hv1 HNN.out (by simp) (fun i hi => by simp [hi])).ins6)
          clear hv1 hv2
          have Hb_y2 := (show Hid (Below w3.heap.size w3 y2) from bel_trans Hb_y1.out hby)
          have HM_y2 := (show Hid (IRow y2 lb M) from World.rowIs.of_block HM_y1.out (hby.block _ (World.rowIs.lt HM_y1.out)))
          clear hby hge hfo hoo hom HO_y1 HM_y1
          dsimp only
          clear hHeld
          refine hK.out _ _ (HSX.out _ Hb_y2.out) (fun hHeld => ?_)
          clear hK K
          try simp only [Act.put, List.setIfInBounds_toArray, List.set_cons_zero, List.set_cons_succ]
          refine wpAnyH_take (i := 8) (oi := { dst := some 27, op := Go.Op.build 32 #[(0, Go.Operand.tmp 19), (4, Go.Operand.tmp 21), (5, Go.Operand.tmp 22), (6, Go.Operand.tmp 26)], type := 32, pos := "l04_facts.go:234", after := #[{ on := 0, ground := Go.Ground.data }, { on := 2, ground := Go.Ground.data }, { on := 3, ground := Go.Ground.data }, { on := 7, ground := Go.Ground.data }], guard := none }) (v := ?v7) rfl (by kernel_rfl) (by kernel_rfl) (by kernel_rfl) (fun _ _ _ h => h) (Or.inl ⟨by rfl, ?h7⟩) hHeld ?r7
          case h7 => (intro w hSw; (try dsimp only at hSw); go_simp; try with_reducible rfl)
          try simp only [Act.put, List.setIfInBounds_toArray, List.set_cons_zero, List.set_cons_succ]
          refine wpAnyH_ready (rs := [9]) (by kernel_rfl) (by simp) ?_
          refine (AllReadyH.cons (o := { dst := some 6, op := Go.Op.alloc 32, type := 0, pos := "l04_facts.go:234", after := #[], guard := none }) rfl (fun K hK => ?_) AllReadyH.nil)
          go_simp
          have hby := bel_alloc y2 (.cells #[.slice none 0 0, .slice none 0 0, .slice none 0 0, .slice none 0 0, .slice none 0 0, .slice none 0 0, .slice none 0 0] 32)
          have HO_y3 := (show Hid (Own (y2.alloc (.cells #[.slice none 0 0, .slice none 0 0, .slice none 0 0, .slice none 0 0, .slice none 0 0, .slice none 0 0, .slice none 0 0] 32)) B0 (bx 32 7 y2.heap.size [.slice none 0 0, .slice none 0 0, .slice none 0 0, .slice none 0 0, .slice none 0 0, .slice none 0 0, .slice none 0 0] :: _)) from HO_y2.out.box #[.slice none 0 0, .slice none 0 0, .slice none 0 0, .slice none 0 0, .slice none 0 0, .slice none 0 0, .slice none 0 0] (Nat.le_trans HB3.out.2.2.2.2.2.1 Hb_y2.out.size) rfl)
          have HG_y3 := (show Hid (w3.heap.size ≤ y2.heap.size) from Hb_y2.out.size)
          have Hb_y3 := (show Hid (Below w3.heap.size w3 (y2.alloc (.cells #[.slice none 0 0, .slice none 0 0, .slice none 0 0, .slice none 0 0, .slice none 0 0, .slice none 0 0, .slice none 0 0] 32))) from bel_trans Hb_y2.out hby)
          have HM_y3 := (show Hid (IRow (y2.alloc (.cells #[.slice none 0 0, .slice none 0 0, .slice none 0 0, .slice none 0 0, .slice none 0 0, .slice none 0 0, .slice none 0 0] 32)) lb M) from World.rowIs.of_block HM_y2.out (hby.block _ (World.rowIs.lt HM_y2.out)))
          have HF_y3 := (show Hid (FR (y2.alloc (.cells #[.slice none 0 0, .slice none 0 0, .slice none 0 0, .slice none 0 0, .slice none 0 0, .slice none 0 0, .slice none 0 0] 32)) ob d.nons.length O) from HF_y2.out.still hby)
          clear hby  HO_y2 HM_y2 HF_y2
          clear hHeld
          refine hK.out _ _ (HSX.out _ Hb_y3.out) (fun hHeld => ?_)
          clear hK K
          try simp only [Act.put, List.setIfInBounds_toArray, List.set_cons_zero, List.set_cons_succ]
          generalize y2.alloc (.cells #[.slice none 0 0, .slice none 0 0, .slice none 0 0, .slice none 0 0, .slice none 0 0, .slice none 0 0, .slice none 0 0] 32) = y3 at *
          generalize y2.heap.size = gy3 at *
          have z0 : y3.cell? ⟨gy3, 0, none⟩ = some (.slice none 0 0) := bx_cell (HO_y3.out.ok _ (List.mem_cons_self ..)) rfl
          have z1 : y3.cell? ⟨gy3, 1, none⟩ = some (.slice none 0 0) := bx_cell (HO_y3.out.ok _ (List.mem_cons_self ..)) rfl
          have z2 : y3.cell? ⟨gy3, 2, none⟩ = some (.slice none 0 0) := bx_cell (HO_y3.out.ok _ (List.mem_cons_self ..)) rfl
          have z3 : y3.cell? ⟨gy3, 3, none⟩ = some (.slice none 0 0) := bx_cell (HO_y3.out.ok _ (List.mem_cons_self ..)) rfl
          have z4 : y3.cell? ⟨gy3, 4, none⟩ = some (.slice none 0 0) := bx_cell (HO_y3.out.ok _ (List.mem_cons_self ..)) rfl
          have z5 : y3.cell? ⟨gy3, 5, none⟩ = some (.slice none 0 0) := bx_cell (HO_y3.out.ok _ (List.mem_cons_self ..)) rfl
          have z6 : y3.cell? ⟨gy3, 6, none⟩ = some (.slice none 0 0) := bx_cell (HO_y3.out.ok _ (List.mem_cons_self ..)) rfl
          have zf0 := bx_froz HO_y3.out 0
          have zf1 := bx_froz HO_y3.out 1
          have zf2 := bx_froz HO_y3.out 2
          have zf3 := bx_froz HO_y3.out 3
          have zf4 := bx_froz HO_y3.out 4
          have zf5 := bx_froz HO_y3.out 5
          have zf6 := bx_froz HO_y3.out 6
          have HKA : Hid (∃ vF vO, KA d wB B0 nb fb nl F vF gy3 lb ob M O vO (((((((y3.setCell ⟨gy3, 0, none⟩ (.slice (some ⟨nb, 0, none⟩) d.nons.length d.nons.length)).setCell ⟨gy3, 1, none⟩ (.slice none 0 0)).setCell ⟨gy3, 2, none⟩ (.slice none 0 0)).setCell ⟨gy3, 3, none⟩ (.slice none 0 0)).setCell ⟨gy3, 4, none⟩ (.slice (some ⟨lb, 0, none⟩) d.nons.length d.nons.length)).setCell ⟨gy3, 5, none⟩ (.slice (some ⟨fb, 0, none⟩) d.nons.length d.nons.length)).setCell ⟨gy3, 6, none⟩ (.slice (some ⟨ob, 0, none⟩) d.nons.length d.nons.length)) ∧ Below w3.heap.size w3 (((((((y3.setCell ⟨gy3, 0, none⟩ (.slice (some ⟨nb, 0, none⟩) d.nons.length d.nons.length)).setCell ⟨gy3, 1, none⟩ (.slice none 0 0)).setCell ⟨gy3, 2, none⟩ (.slice none 0 0)).setCell ⟨gy3, 3, none⟩ (.slice none 0 0)).setCell ⟨gy3, 4, none⟩ (.slice (some ⟨lb, 0, none⟩) d.nons.length d.nons.length)).setCell ⟨gy3, 5, none⟩ (.slice (some ⟨fb, 0, none⟩) d.nons.length d.nons.length)).setCell ⟨gy3, 6, none⟩ (.slice (some ⟨ob, 0, none⟩) d.nons.length d.nons.length))) := by
            have hown := HO_y3.out.put7 (.slice (some ⟨nb, 0, none⟩) d.nons.length d.nons.length) (.slice none 0 0) (.slice none 0 0) (.slice none 0 0) (.slice (some ⟨lb, 0, none⟩) d.nons.length d.nons.length) (.slice (some ⟨fb, 0, none⟩) d.nons.length d.nons.length) (.slice (some ⟨ob, 0, none⟩) d.nons.length d.nons.length)
            have hnil : ∀ v ∈ ([.slice none 0 0, .slice none 0 0, .slice none 0 0, .slice none 0 0, .slice none 0 0, .slice none 0 0, .slice none 0 0] : List Value), ∃ a n c, v = .slice a n c := by intro v hv; simp at hv; exact ⟨_, _, _, hv⟩
            have hlow : ∀ q, q < y3.heap.size → q ≠ gy3 → (((((((y3.setCell ⟨gy3, 0, none⟩ (.slice (some ⟨nb, 0, none⟩) d.nons.length d.nons.length)).setCell ⟨gy3, 1, none⟩ (.slice none 0 0)).setCell ⟨gy3, 2, none⟩ (.slice none 0 0)).setCell ⟨gy3, 3, none⟩ (.slice none 0 0)).setCell ⟨gy3, 4, none⟩ (.slice (some ⟨lb, 0, none⟩) d.nons.length d.nons.length)).setCell ⟨gy3, 5, none⟩ (.slice (some ⟨fb, 0, none⟩) d.nons.length d.nons.length)).setCell ⟨gy3, 6, none⟩ (.slice (some ⟨ob, 0, none⟩) d.nons.length d.nons.length)).heap[q]? = y3.heap[q]? := fun q _ hne => blk7 _ _ _ _ _ _ _ hne
            have hgB : w3.heap.size ≤ gy3 := HG_y3.out
            have hbel : Below w3.heap.size w3 (((((((y3.setCell ⟨gy3, 0, none⟩ (.slice (some ⟨nb, 0, none⟩) d.nons.length d.nons.length)).setCell ⟨gy3, 1, none⟩ (.slice none 0 0)).setCell ⟨gy3, 2, none⟩ (.slice none 0 0)).setCell ⟨gy3, 3, none⟩ (.slice none 0 0)).setCell ⟨gy3, 4, none⟩ (.slice (some ⟨lb, 0, none⟩) d.nons.length d.nons.length)).setCell ⟨gy3, 5, none⟩ (.slice (some ⟨fb, 0, none⟩) d.nons.length d.nons.length)).setCell ⟨gy3, 6, none⟩ (.slice (some ⟨ob, 0, none⟩) d.nons.length d.nons.length)) := bel7 _ _ _ _ _ _ _ Hb_y3.out hgB
            exact ⟨_, _, ⟨⟨HB3.out.2.2.2.2.2.2.trans (hbel.mono HB3.out.2.2.2.2.2.1), by rw [size7]; have h1 := Hb_y3.out.size; have h2 := HB3.out.2.2.2.2.2.1; omega, rfl, by intro v hv; simp at hv; rcases hv with rfl | rfl | rfl | rfl | rfl <;> exact ⟨_, _, _, rfl⟩, hown⟩, (HB3.out.2.2.1.still Hb_y3.out).past (HO_y3.out.sb hnil) hlow, HF_y3.out.past (HO_y3.out.sb hnil) hlow, row_past HM_y3.out (by decide) (HO_y3.out.sb hnil) hlow, row_past (World.rowIs.of_block HB3.out.2.1 (Hb_y3.out.block _ (World.rowIs.lt HB3.out.2.1))) (by decide) (HO_y3.out.sb hnil) hlow, HP19.out.1, HP19.out.2.1, HP19.out.2.2, HP20.out.1, HP20.out.2⟩, hbel⟩
          clear HO_y3 HF_y3 HM_y3 HP19 HP20 HB3 HG_y3
          refine wpAnyH_ready (rs := [10]) (by kernel_rfl) (by simp) ?_
          refine (AllReadyH.cons (o := { dst := none, op := Go.Op.store 32 (Go.Operand.tmp 6) (Go.Operand.tmp 27), type := 0, pos := "l04_facts.go:234", after := #[{ on := 9, ground := Go.Ground.data }, { on := 8, ground := Go.Ground.data }, { on := 7, ground := Go.Ground.chain }, { on := 0, ground := Go.Ground.phase }, { on := 1, ground := Go.Ground.phase }, { on := 2, ground := Go.Ground.phase }, { on := 3, ground := Go.Ground.phase }, { on := 4, ground := Go.Ground.phase }, { on := 5, ground := Go.Ground.phase }, { on := 6, ground := Go.Ground.phase }, { on := 7, ground := Go.Ground.phase }, { on := 8, ground := Go.Ground.phase }, { on := 9, ground := Go.Ground.phase }], guard := none }) rfl (fun K hK => ?_) AllReadyH.nil)
          go_simp
          clear hHeld
          refine hK.out _ _ (HSY.out _ HKA.out) (fun hHeld => ?_)
          clear hK K
          try simp only [Act.put, List.setIfInBounds_toArray, List.set_cons_zero, List.set_cons_succ]
          refine wpAnyH_done (by kernel_rfl) ?_ _
          go_wp2_with fail
          go_meet
          exact ⟨gy3, lb, ob, M, O, rfl, HKA⟩
        · go_simp
          have hby := bel_alloc y1 (.cells #[.slice none 0 0, .slice none 0 0, .slice none 0 0, .slice none 0 0, .slice none 0 0, .slice none 0 0, .slice none 0 0] 32)
          have HO_y4 := (show Hid (Own (y1.alloc (.cells #[.slice none 0 0, .slice none 0 0, .slice none 0 0, .slice none 0 0, .slice none 0 0, .slice none 0 0, .slice none 0 0] 32)) B0 (bx 32 7 y1.heap.size [.slice none 0 0, .slice none 0 0, .slice none 0 0, .slice none 0 0, .slice none 0 0, .slice none 0 0, .slice none 0 0] :: _)) from HO_y1.out.box #[.slice none 0 0, .slice none 0 0, .slice none 0 0, .slice none 0 0, .slice none 0 0, .slice none 0 0, .slice none 0 0] (Nat.le_trans HB3.out.2.2.2.2.2.1 Hb_y1.out.size) rfl)
          have HG_y4 := (show Hid (w3.heap.size ≤ y1.heap.size) from Hb_y1.out.size)
          have Hb_y4 := (show Hid (Below w3.heap.size w3 (y1.alloc (.cells #[.slice none 0 0, .slice none 0 0, .slice none 0 0, .slice none 0 0, .slice none 0 0, .slice none 0 0, .slice none 0 0] 32))) from bel_trans Hb_y1.out hby)
          have HM_y4 := (show Hid (IRow (y1.alloc (.cells #[.slice none 0 0, .slice none 0 0, .slice none 0 0, .slice none 0 0, .slice none 0 0, .slice none 0 0, .slice none 0 0] 32)) lb M) from World.rowIs.of_block HM_y1.out (hby.block _ (World.rowIs.lt HM_y1.out)))
          clear hby  HO_y1 HM_y1
          clear hHeld
          refine hK.out _ _ (HSX.out _ Hb_y4.out) (fun hHeld => ?_)
          clear hK K
          try simp only [Act.put, List.setIfInBounds_toArray, List.set_cons_zero, List.set_cons_succ]
          generalize y1.alloc (.cells #[.slice none 0 0, .slice none 0 0, .slice none 0 0, .slice none 0 0, .slice none 0 0, .slice none 0 0, .slice none 0 0] 32) = y4 at *
          generalize y1.heap.size = gy4 at *
          refine wpAnyH_ready (rs := [7]) (by kernel_rfl) (by simp) ?_
          refine (AllReadyH.cons (o := { dst := some 26, op := Go.Op.call { callee := Go.Callee.value (Go.Operand.func 20), args := #[Go.Operand.tmp 23, Go.Operand.tmp 24, Go.Operand.tmp 25], argTypes := #[38, 28, 30] }, type := 30, pos := "l04_facts.go:234", after := #[{ on := 4, ground := Go.Ground.data }, { on := 5, ground := Go.Ground.data }, { on := 6, ground := Go.Ground.data }, { on := 2, ground := Go.Ground.chain }], guard := none }) rfl (fun K hK => ?_) AllReadyH.nil)
          go_simp
          refine Calls.mono (HC20.out _ Hb_y4.out) ?_
          rintro e y5 ⟨ob, O, rfl, hby, hge, hfo, hoo, hom⟩
          have HP20 := (show Hid (OkO d nl O ∧ ∀ n y, y ∈ O.getD n [] ↔ Fol d (Nf d.terms.length nl) (Fst d (Nf d.terms.length nl)) n y) from ⟨hoo, hom⟩)
          have HF_y5 := (show Hid (FR y5 ob d.nons.length O) from hfo)
          obtain ⟨vsO, hv1, hv2⟩ := hfo.ex
          have HO_y5 := (show Hid _ from (rowE_add (t := 29) (n := d.nons.length) (cs := ((List.range d.nons.length).map vsO)) HO_y4.out hby (Nat.le_trans HB3.out.2.2.2.2.2.1 Hb_y4.out.size) hge hv1 HNN.out (by simp) (fun i hi => by simp [hi])).ins7)
          clear hv1 hv2
          have Hb_y5 := (show Hid (Below w3.heap.size w3 y5) from bel_trans Hb_y4.out hby)
          have HM_y5 := (show Hid (IRow y5 lb M) from World.rowIs.of_block HM_y4.out (hby.block _ (World.rowIs.lt HM_y4.out)))
          have HG_y5 := HG_y4
          clear hby hge hfo hoo hom HO_y4 HM_y4 HG_y4
          dsimp only
          clear hHeld
          refine hK.out _ _ (HSX.out _ Hb_y5.out) (fun hHeld => ?_)
          clear hK K
          try simp only [Act.put, List.setIfInBounds_toArray, List.set_cons_zero, List.set_cons_succ]
          refine wpAnyH_take (i := 8) (oi := { dst := some 27, op := Go.Op.build 32 #[(0, Go.Operand.tmp 19), (4, Go.Operand.tmp 21), (5, Go.Operand.tmp 22), (6, Go.Operand.tmp 26)], type := 32, pos := "l04_facts.go:234", after := #[{ on := 0, ground := Go.Ground.data }, { on := 2, ground := Go.Ground.data }, { on := 3, ground := Go.Ground.data }, { on := 7, ground := Go.Ground.data }], guard := none }) (v := ?v8) rfl (by kernel_rfl) (by kernel_rfl) (by kernel_rfl) (fun _ _ _ h => h) (Or.inl ⟨by rfl, ?h8⟩) hHeld ?r8
          case h8 => (intro w hSw; (try dsimp only at hSw); go_simp; try with_reducible rfl)
          try simp only [Act.put, List.setIfInBounds_toArray, List.set_cons_zero, List.set_cons_succ]
          have z0 : y5.cell? ⟨gy4, 0, none⟩ = some (.slice none 0 0) := bx_cell (HO_y5.out.ok _ (List.mem_cons_self ..)) rfl
          have z1 : y5.cell? ⟨gy4, 1, none⟩ = some (.slice none 0 0) := bx_cell (HO_y5.out.ok _ (List.mem_cons_self ..)) rfl
          have z2 : y5.cell? ⟨gy4, 2, none⟩ = some (.slice none 0 0) := bx_cell (HO_y5.out.ok _ (List.mem_cons_self ..)) rfl
          have z3 : y5.cell? ⟨gy4, 3, none⟩ = some (.slice none 0 0) := bx_cell (HO_y5.out.ok _ (List.mem_cons_self ..)) rfl
          have z4 : y5.cell? ⟨gy4, 4, none⟩ = some (.slice none 0 0) := bx_cell (HO_y5.out.ok _ (List.mem_cons_self ..)) rfl
          have z5 : y5.cell? ⟨gy4, 5, none⟩ = some (.slice none 0 0) := bx_cell (HO_y5.out.ok _ (List.mem_cons_self ..)) rfl
          have z6 : y5.cell? ⟨gy4, 6, none⟩ = some (.slice none 0 0) := bx_cell (HO_y5.out.ok _ (List.mem_cons_self ..)) rfl
          have zf0 := bx_froz HO_y5.out 0
          have zf1 := bx_froz HO_y5.out 1
          have zf2 := bx_froz HO_y5.out 2
          have zf3 := bx_froz HO_y5.out 3
          have zf4 := bx_froz HO_y5.out 4
          have zf5 := bx_froz HO_y5.out 5
          have zf6 := bx_froz HO_y5.out 6
          have HKA : Hid (∃ vF vO, KA d wB B0 nb fb nl F vF gy4 lb ob M O vO (((((((y5.setCell ⟨gy4, 0, none⟩ (.slice (some ⟨nb, 0, none⟩) d.nons.length d.nons.length)).setCell ⟨gy4, 1, none⟩ (.slice none 0 0)).setCell ⟨gy4, 2, none⟩ (.slice none 0 0)).setCell ⟨gy4, 3, none⟩ (.slice none 0 0)).setCell ⟨gy4, 4, none⟩ (.slice (some ⟨lb, 0, none⟩) d.nons.length d.nons.length)).setCell ⟨gy4, 5, none⟩ (.slice (some ⟨fb, 0, none⟩) d.nons.length d.nons.length)).setCell ⟨gy4, 6, none⟩ (.slice (some ⟨ob, 0, none⟩) d.nons.length d.nons.length)) ∧ Below w3.heap.size w3 (((((((y5.setCell ⟨gy4, 0, none⟩ (.slice (some ⟨nb, 0, none⟩) d.nons.length d.nons.length)).setCell ⟨gy4, 1, none⟩ (.slice none 0 0)).setCell ⟨gy4, 2, none⟩ (.slice none 0 0)).setCell ⟨gy4, 3, none⟩ (.slice none 0 0)).setCell ⟨gy4, 4, none⟩ (.slice (some ⟨lb, 0, none⟩) d.nons.length d.nons.length)).setCell ⟨gy4, 5, none⟩ (.slice (some ⟨fb, 0, none⟩) d.nons.length d.nons.length)).setCell ⟨gy4, 6, none⟩ (.slice (some ⟨ob, 0, none⟩) d.nons.length d.nons.length))) := by
            have hown := HO_y5.out.put7 (.slice (some ⟨nb, 0, none⟩) d.nons.length d.nons.length) (.slice none 0 0) (.slice none 0 0) (.slice none 0 0) (.slice (some ⟨lb, 0, none⟩) d.nons.length d.nons.length) (.slice (some ⟨fb, 0, none⟩) d.nons.length d.nons.length) (.slice (some ⟨ob, 0, none⟩) d.nons.length d.nons.length)
            have hnil : ∀ v ∈ ([.slice none 0 0, .slice none 0 0, .slice none 0 0, .slice none 0 0, .slice none 0 0, .slice none 0 0, .slice none 0 0] : List Value), ∃ a n c, v = .slice a n c := by intro v hv; simp at hv; exact ⟨_, _, _, hv⟩
            have hlow : ∀ q, q < y5.heap.size → q ≠ gy4 → (((((((y5.setCell ⟨gy4, 0, none⟩ (.slice (some ⟨nb, 0, none⟩) d.nons.length d.nons.length)).setCell ⟨gy4, 1, none⟩ (.slice none 0 0)).setCell ⟨gy4, 2, none⟩ (.slice none 0 0)).setCell ⟨gy4, 3, none⟩ (.slice none 0 0)).setCell ⟨gy4, 4, none⟩ (.slice (some ⟨lb, 0, none⟩) d.nons.length d.nons.length)).setCell ⟨gy4, 5, none⟩ (.slice (some ⟨fb, 0, none⟩) d.nons.length d.nons.length)).setCell ⟨gy4, 6, none⟩ (.slice (some ⟨ob, 0, none⟩) d.nons.length d.nons.length)).heap[q]? = y5.heap[q]? := fun q _ hne => blk7 _ _ _ _ _ _ _ hne
            have hgB : w3.heap.size ≤ gy4 := HG_y5.out
            have hbel : Below w3.heap.size w3 (((((((y5.setCell ⟨gy4, 0, none⟩ (.slice (some ⟨nb, 0, none⟩) d.nons.length d.nons.length)).setCell ⟨gy4, 1, none⟩ (.slice none 0 0)).setCell ⟨gy4, 2, none⟩ (.slice none 0 0)).setCell ⟨gy4, 3, none⟩ (.slice none 0 0)).setCell ⟨gy4, 4, none⟩ (.slice (some ⟨lb, 0, none⟩) d.nons.length d.nons.length)).setCell ⟨gy4, 5, none⟩ (.slice (some ⟨fb, 0, none⟩) d.nons.length d.nons.length)).setCell ⟨gy4, 6, none⟩ (.slice (some ⟨ob, 0, none⟩) d.nons.length d.nons.length)) := bel7 _ _ _ _ _ _ _ Hb_y5.out hgB
            exact ⟨_, _, ⟨⟨HB3.out.2.2.2.2.2.2.trans (hbel.mono HB3.out.2.2.2.2.2.1), by rw [size7]; have h1 := Hb_y5.out.size; have h2 := HB3.out.2.2.2.2.2.1; omega, rfl, by intro v hv; simp at hv; rcases hv with rfl | rfl | rfl | rfl | rfl <;> exact ⟨_, _, _, rfl⟩, hown⟩, (HB3.out.2.2.1.still Hb_y5.out).past (HO_y5.out.sb hnil) hlow, HF_y5.out.past (HO_y5.out.sb hnil) hlow, row_past HM_y5.out (by decide) (HO_y5.out.sb hnil) hlow, row_past (World.rowIs.of_block HB3.out.2.1 (Hb_y5.out.block _ (World.rowIs.lt HB3.out.2.1))) (by decide) (HO_y5.out.sb hnil) hlow, HP19.out.1, HP19.out.2.1, HP19.out.2.2, HP20.out.1, HP20.out.2⟩, hbel⟩
          clear HO_y5 HF_y5 HM_y5 HP19 HP20 HB3 HG_y5
          refine wpAnyH_ready (rs := [10]) (by kernel_rfl) (by simp) ?_
          refine (AllReadyH.cons (o := { dst := none, op := Go.Op.store 32 (Go.Operand.tmp 6) (Go.Operand.tmp 27), type := 0, pos := "l04_facts.go:234", after := #[{ on := 9, ground := Go.Ground.data }, { on := 8, ground := Go.Ground.data }, { on := 7, ground := Go.Ground.chain }, { on := 0, ground := Go.Ground.phase }, { on := 1, ground := Go.Ground.phase }, { on := 2, ground := Go.Ground.phase }, { on := 3, ground := Go.Ground.phase }, { on := 4, ground := Go.Ground.phase }, { on := 5, ground := Go.Ground.phase }, { on := 6, ground := Go.Ground.phase }, { on := 7, ground := Go.Ground.phase }, { on := 8, ground := Go.Ground.phase }, { on := 9, ground := Go.Ground.phase }], guard := none }) rfl (fun K hK => ?_) AllReadyH.nil)
          go_simp
          clear hHeld
          refine hK.out _ _ (HSY.out _ HKA.out) (fun hHeld => ?_)
          clear hK K
          try simp only [Act.put, List.setIfInBounds_toArray, List.set_cons_zero, List.set_cons_succ]
          refine wpAnyH_done (by kernel_rfl) ?_ _
          go_wp2_with fail
          go_meet
          exact ⟨gy4, lb, ob, M, O, rfl, HKA⟩
      · go_simp
        have hby := bel_alloc wd (.cells #[.slice none 0 0, .slice none 0 0, .slice none 0 0, .slice none 0 0, .slice none 0 0, .slice none 0 0, .slice none 0 0] 32)
        have HO_y6 := (show Hid (Own (wd.alloc (.cells #[.slice none 0 0, .slice none 0 0, .slice none 0 0, .slice none 0 0, .slice none 0 0, .slice none 0 0, .slice none 0 0] 32)) B0 (bx 32 7 wd.heap.size [.slice none 0 0, .slice none 0 0, .slice none 0 0, .slice none 0 0, .slice none 0 0, .slice none 0 0, .slice none 0 0] :: _)) from HO_wd.out.box #[.slice none 0 0, .slice none 0 0, .slice none 0 0, .slice none 0 0, .slice none 0 0, .slice none 0 0, .slice none 0 0] (Nat.le_trans HB3.out.2.2.2.2.2.1 Hb_wd.out.size) rfl)
        have HG_y6 := (show Hid (w3.heap.size ≤ wd.heap.size) from Hb_wd.out.size)
        have Hb_y6 := (show Hid (Below w3.heap.size w3 (wd.alloc (.cells #[.slice none 0 0, .slice none 0 0, .slice none 0 0, .slice none 0 0, .slice none 0 0, .slice none 0 0, .slice none 0 0] 32))) from bel_trans Hb_wd.out hby)
        clear hby  HO_wd
        clear hHeld
        refine hK.out _ _ (HSX.out _ Hb_y6.out) (fun hHeld => ?_)
        clear hK K
        try simp only [Act.put, List.setIfInBounds_toArray, List.set_cons_zero, List.set_cons_succ]
        generalize wd.alloc (.cells #[.slice none 0 0, .slice none 0 0, .slice none 0 0, .slice none 0 0, .slice none 0 0, .slice none 0 0, .slice none 0 0] 32) = y6 at *
        generalize wd.heap.size = gy6 at *
        refine wpAnyH_ready (rs := [2]) (by kernel_rfl) (by simp) ?_
        refine (AllReadyH.cons (o := { dst := some 21, op := Go.Op.call { callee := Go.Callee.value (Go.Operand.func 19), args := #[Go.Operand.tmp 20], argTypes := #[38] }, type := 29, pos := "l04_facts.go:234", after := #[{ on := 1, ground := Go.Ground.data }], guard := none }) rfl (fun K hK => ?_) AllReadyH.nil)
        go_simp
        refine Calls.mono (HC19.out _ Hb_y6.out) ?_
        rintro e y7 ⟨lb, M, rfl, hby, hge, hrow, hlen, hsnd, hq⟩
        have HP19 := (show Hid (M.length = d.nons.length ∧ Snd d.terms.length (bps d) (Mf d.terms.length M) ∧ ∀ p ∈ bps d, lnew (Mf d.terms.length M) p = false) from ⟨hlen, hsnd, hq⟩)
        have HM_y7 := (show Hid (IRow y7 lb M) from hrow)
        have HO_y7 := (show Hid _ from (rowE_add (t := 3) (n := d.nons.length) (cs := encI M) HO_y6.out hby (Nat.le_trans HB3.out.2.2.2.2.2.1 Hb_y6.out.size) hge (by rw [← hlen]; exact hrow) HNN.out (by rw [encI, List.length_map]; exact hlen) (fun i hi => by rw [encI, List.getElem?_map, List.getElem?_eq_getElem (by rw [hlen]; exact hi), Option.map_some, List.getD_eq_getElem?_getD, List.getElem?_eq_getElem (by rw [hlen]; exact hi)]; rfl)).ins5)
        have Hb_y7 := (show Hid (Below w3.heap.size w3 y7) from bel_trans Hb_y6.out hby)
        have HG_y7 := HG_y6
        clear hby hge hrow hlen hsnd hq HO_y6 HG_y6
        dsimp only
        clear hHeld
        refine hK.out _ _ (HSX.out _ Hb_y7.out) (fun hHeld => ?_)
        clear hK K
        try simp only [Act.put, List.setIfInBounds_toArray, List.set_cons_zero, List.set_cons_succ]
        refine wpAnyH_ready (rs := [7]) (by kernel_rfl) (by simp) ?_
        refine (AllReadyH.cons (o := { dst := some 26, op := Go.Op.call { callee := Go.Callee.value (Go.Operand.func 20), args := #[Go.Operand.tmp 23, Go.Operand.tmp 24, Go.Operand.tmp 25], argTypes := #[38, 28, 30] }, type := 30, pos := "l04_facts.go:234", after := #[{ on := 4, ground := Go.Ground.data }, { on := 5, ground := Go.Ground.data }, { on := 6, ground := Go.Ground.data }, { on := 2, ground := Go.Ground.chain }], guard := none }) rfl (fun K hK => ?_) AllReadyH.nil)
        go_simp
        refine Calls.mono (HC20.out _ Hb_y7.out) ?_
        rintro e y8 ⟨ob, O, rfl, hby, hge, hfo, hoo, hom⟩
        have HP20 := (show Hid (OkO d nl O ∧ ∀ n y, y ∈ O.getD n [] ↔ Fol d (Nf d.terms.length nl) (Fst d (Nf d.terms.length nl)) n y) from ⟨hoo, hom⟩)
        have HF_y8 := (show Hid (FR y8 ob d.nons.length O) from hfo)
        obtain ⟨vsO, hv1, hv2⟩ := hfo.ex
        have HO_y8 := (show Hid _ from (rowE_add (t := 29) (n := d.nons.length) (cs := ((List.range d.nons.length).map vsO)) HO_y7.out hby (Nat.le_trans HB3.out.2.2.2.2.2.1 Hb_y7.out.size) hge hv1 HNN.out (by simp) (fun i hi => by simp [hi])).ins7)
        clear hv1 hv2
        have Hb_y8 := (show Hid (Below w3.heap.size w3 y8) from bel_trans Hb_y7.out hby)
        have HM_y8 := (show Hid (IRow y8 lb M) from World.rowIs.of_block HM_y7.out (hby.block _ (World.rowIs.lt HM_y7.out)))
        have HG_y8 := HG_y7
        clear hby hge hfo hoo hom HO_y7 HM_y7 HG_y7
        dsimp only
        clear hHeld
        refine hK.out _ _ (HSX.out _ Hb_y8.out) (fun hHeld => ?_)
        clear hK K
        try simp only [Act.put, List.setIfInBounds_toArray, List.set_cons_zero, List.set_cons_succ]
        refine wpAnyH_take (i := 8) (oi := { dst := some 27, op := Go.Op.build 32 #[(0, Go.Operand.tmp 19), (4, Go.Operand.tmp 21), (5, Go.Operand.tmp 22), (6, Go.Operand.tmp 26)], type := 32, pos := "l04_facts.go:234", after := #[{ on := 0, ground := Go.Ground.data }, { on := 2, ground := Go.Ground.data }, { on := 3, ground := Go.Ground.data }, { on := 7, ground := Go.Ground.data }], guard := none }) (v := ?v9) rfl (by kernel_rfl) (by kernel_rfl) (by kernel_rfl) (fun _ _ _ h => h) (Or.inl ⟨by rfl, ?h9⟩) hHeld ?r9
        case h9 => (intro w hSw; (try dsimp only at hSw); go_simp; try with_reducible rfl)
        try simp only [Act.put, List.setIfInBounds_toArray, List.set_cons_zero, List.set_cons_succ]
        have z0 : y8.cell? ⟨gy6, 0, none⟩ = some (.slice none 0 0) := bx_cell (HO_y8.out.ok _ (List.mem_cons_self ..)) rfl
        have z1 : y8.cell? ⟨gy6, 1, none⟩ = some (.slice none 0 0) := bx_cell (HO_y8.out.ok _ (List.mem_cons_self ..)) rfl
        have z2 : y8.cell? ⟨gy6, 2, none⟩ = some (.slice none 0 0) := bx_cell (HO_y8.out.ok _ (List.mem_cons_self ..)) rfl
        have z3 : y8.cell? ⟨gy6, 3, none⟩ = some (.slice none 0 0) := bx_cell (HO_y8.out.ok _ (List.mem_cons_self ..)) rfl
        have z4 : y8.cell? ⟨gy6, 4, none⟩ = some (.slice none 0 0) := bx_cell (HO_y8.out.ok _ (List.mem_cons_self ..)) rfl
        have z5 : y8.cell? ⟨gy6, 5, none⟩ = some (.slice none 0 0) := bx_cell (HO_y8.out.ok _ (List.mem_cons_self ..)) rfl
        have z6 : y8.cell? ⟨gy6, 6, none⟩ = some (.slice none 0 0) := bx_cell (HO_y8.out.ok _ (List.mem_cons_self ..)) rfl
        have zf0 := bx_froz HO_y8.out 0
        have zf1 := bx_froz HO_y8.out 1
        have zf2 := bx_froz HO_y8.out 2
        have zf3 := bx_froz HO_y8.out 3
        have zf4 := bx_froz HO_y8.out 4
        have zf5 := bx_froz HO_y8.out 5
        have zf6 := bx_froz HO_y8.out 6
        have HKA : Hid (∃ vF vO, KA d wB B0 nb fb nl F vF gy6 lb ob M O vO (((((((y8.setCell ⟨gy6, 0, none⟩ (.slice (some ⟨nb, 0, none⟩) d.nons.length d.nons.length)).setCell ⟨gy6, 1, none⟩ (.slice none 0 0)).setCell ⟨gy6, 2, none⟩ (.slice none 0 0)).setCell ⟨gy6, 3, none⟩ (.slice none 0 0)).setCell ⟨gy6, 4, none⟩ (.slice (some ⟨lb, 0, none⟩) d.nons.length d.nons.length)).setCell ⟨gy6, 5, none⟩ (.slice (some ⟨fb, 0, none⟩) d.nons.length d.nons.length)).setCell ⟨gy6, 6, none⟩ (.slice (some ⟨ob, 0, none⟩) d.nons.length d.nons.length)) ∧ Below w3.heap.size w3 (((((((y8.setCell ⟨gy6, 0, none⟩ (.slice (some ⟨nb, 0, none⟩) d.nons.length d.nons.length)).setCell ⟨gy6, 1, none⟩ (.slice none 0 0)).setCell ⟨gy6, 2, none⟩ (.slice none 0 0)).setCell ⟨gy6, 3, none⟩ (.slice none 0 0)).setCell ⟨gy6, 4, none⟩ (.slice (some ⟨lb, 0, none⟩) d.nons.length d.nons.length)).setCell ⟨gy6, 5, none⟩ (.slice (some ⟨fb, 0, none⟩) d.nons.length d.nons.length)).setCell ⟨gy6, 6, none⟩ (.slice (some ⟨ob, 0, none⟩) d.nons.length d.nons.length))) := by
          have hown := HO_y8.out.put7 (.slice (some ⟨nb, 0, none⟩) d.nons.length d.nons.length) (.slice none 0 0) (.slice none 0 0) (.slice none 0 0) (.slice (some ⟨lb, 0, none⟩) d.nons.length d.nons.length) (.slice (some ⟨fb, 0, none⟩) d.nons.length d.nons.length) (.slice (some ⟨ob, 0, none⟩) d.nons.length d.nons.length)
          have hnil : ∀ v ∈ ([.slice none 0 0, .slice none 0 0, .slice none 0 0, .slice none 0 0, .slice none 0 0, .slice none 0 0, .slice none 0 0] : List Value), ∃ a n c, v = .slice a n c := by intro v hv; simp at hv; exact ⟨_, _, _, hv⟩
          have hlow : ∀ q, q < y8.heap.size → q ≠ gy6 → (((((((y8.setCell ⟨gy6, 0, none⟩ (.slice (some ⟨nb, 0, none⟩) d.nons.length d.nons.length)).setCell ⟨gy6, 1, none⟩ (.slice none 0 0)).setCell ⟨gy6, 2, none⟩ (.slice none 0 0)).setCell ⟨gy6, 3, none⟩ (.slice none 0 0)).setCell ⟨gy6, 4, none⟩ (.slice (some ⟨lb, 0, none⟩) d.nons.length d.nons.length)).setCell ⟨gy6, 5, none⟩ (.slice (some ⟨fb, 0, none⟩) d.nons.length d.nons.length)).setCell ⟨gy6, 6, none⟩ (.slice (some ⟨ob, 0, none⟩) d.nons.length d.nons.length)).heap[q]? = y8.heap[q]? := fun q _ hne => blk7 _ _ _ _ _ _ _ hne
          have hgB : w3.heap.size ≤ gy6 := HG_y8.out
          have hbel : Below w3.heap.size w3 (((((((y8.setCell ⟨gy6, 0, none⟩ (.slice (some ⟨nb, 0, none⟩) d.nons.length d.nons.length)).setCell ⟨gy6, 1, none⟩ (.slice none 0 0)).setCell ⟨gy6, 2, none⟩ (.slice none 0 0)).setCell ⟨gy6, 3, none⟩ (.slice none 0 0)).setCell ⟨gy6, 4, none⟩ (.slice (some ⟨lb, 0, none⟩) d.nons.length d.nons.length)).setCell ⟨gy6, 5, none⟩ (.slice (some ⟨fb, 0, none⟩) d.nons.length d.nons.length)).setCell ⟨gy6, 6, none⟩ (.slice (some ⟨ob, 0, none⟩) d.nons.length d.nons.length)) := bel7 _ _ _ _ _ _ _ Hb_y8.out hgB
          exact ⟨_, _, ⟨⟨HB3.out.2.2.2.2.2.2.trans (hbel.mono HB3.out.2.2.2.2.2.1), by rw [size7]; have h1 := Hb_y8.out.size; have h2 := HB3.out.2.2.2.2.2.1; omega, rfl, by intro v hv; simp at hv; rcases hv with rfl | rfl | rfl | rfl | rfl <;> exact ⟨_, _, _, rfl⟩, hown⟩, (HB3.out.2.2.1.still Hb_y8.out).past (HO_y8.out.sb hnil) hlow, HF_y8.out.past (HO_y8.out.sb hnil) hlow, row_past HM_y8.out (by decide) (HO_y8.out.sb hnil) hlow, row_past (World.rowIs.of_block HB3.out.2.1 (Hb_y8.out.block _ (World.rowIs.lt HB3.out.2.1))) (by decide) (HO_y8.out.sb hnil) hlow, HP19.out.1, HP19.out.2.1, HP19.out.2.2, HP20.out.1, HP20.out.2⟩, hbel⟩
        clear HO_y8 HF_y8 HM_y8 HP19 HP20 HB3 HG_y8
        refine wpAnyH_ready (rs := [10]) (by kernel_rfl) (by simp) ?_
        refine (AllReadyH.cons (o := { dst := none, op := Go.Op.store 32 (Go.Operand.tmp 6) (Go.Operand.tmp 27), type := 0, pos := "l04_facts.go:234", after := #[{ on := 9, ground := Go.Ground.data }, { on := 8, ground := Go.Ground.data }, { on := 7, ground := Go.Ground.chain }, { on := 0, ground := Go.Ground.phase }, { on := 1, ground := Go.Ground.phase }, { on := 2, ground := Go.Ground.phase }, { on := 3, ground := Go.Ground.phase }, { on := 4, ground := Go.Ground.phase }, { on := 5, ground := Go.Ground.phase }, { on := 6, ground := Go.Ground.phase }, { on := 7, ground := Go.Ground.phase }, { on := 8, ground := Go.Ground.phase }, { on := 9, ground := Go.Ground.phase }], guard := none }) rfl (fun K hK => ?_) AllReadyH.nil)
        go_simp
        clear hHeld
        refine hK.out _ _ (HSY.out _ HKA.out) (fun hHeld => ?_)
        clear hK K
        try simp only [Act.put, List.setIfInBounds_toArray, List.set_cons_zero, List.set_cons_succ]
        refine wpAnyH_done (by kernel_rfl) ?_ _
        go_wp2_with fail
        go_meet
        exact ⟨gy6, lb, ob, M, O, rfl, HKA⟩
    case rest =>
      obtain ⟨g, lb, ob, M, O, rfl, HK⟩ := hcut
      have HB5 : Hid (BLies wc S d (.slice a0 d.terms.length c0) (.slice a1 d.nons.length c1) (.slice a3 d.prods.length c3) ∧ Box4 wc w.heap.size 38 (.slice a0 d.terms.length c0) (.slice a1 d.nons.length c1) (.int .i64 d.own) (.slice a3 d.prods.length c3) ∧ Box wc (w.heap.size + 1) 32 [.slice none 0 0, .slice none 0 0, .slice none 0 0, .slice none 0 0, .slice none 0 0, .slice none 0 0, .slice none 0 0]) := by
        obtain ⟨_, _, _, hb⟩ := HK.out
        exact ⟨HB3.out.1.still hb, HB3.out.2.2.2.1.still hb, HB3.out.2.2.2.2.1.still hb⟩
      obtain ⟨x0, x1, x2, x3⟩ := HB5.out.2.1.cells
      have HA := (show Hid _ from leadsA_any d HOK.out _ _ _ wc HB5.out.1)
      clear HO3 HSX HSY HC19 HC20 HWL
      go_wp2_with fail
      refine Calls.mono HA.out ?_
      rintro e w6 ⟨TA, FA, rfl, hb6, hma, hfa⟩
      clear x0 x1 x2 x3
      obtain ⟨x0, x1, x2, x3⟩ := (HB5.out.2.1.still hb6).cells
      have HL := (show Hid _ from leadsL_any d HOK.out _ _ _ w6 (HB5.out.1.still hb6))
      have HM6 := (show Hid (MxF w6 TA d.nons.length FA ∧ Below wc.heap.size wc w6 ∧ ∀ a b, (FA a b = true ↔ Tc (En false d) a b)) from ⟨hma, hb6, hfa⟩)
      clear hb6 hma hfa HA
      go_wp2_with fail
      refine Calls.mono HL.out ?_
      rintro e wA ⟨TL, FL, rfl, hb7, hml, hfl⟩
      have HM7 := (show Hid (MxF wA TA d.nons.length FA ∧ MxF wA TL d.nons.length FL ∧ (∀ a b, (FA a b = true ↔ Tc (En false d) a b)) ∧ ∀ a b, (FL a b = true ↔ Tc (En true d) a b)) from ⟨HM6.out.1.still hb7, hml, HM6.out.2.2, hfl⟩)
      have hb67 := bel_trans HM6.out.2.1 hb7
      have HB7 := (show Hid (Box4 wA w.heap.size 38 (.slice a0 d.terms.length c0) (.slice a1 d.nons.length c1) (.int .i64 d.own) (.slice a3 d.prods.length c3) ∧ Box wA (w.heap.size + 1) 32 [.slice none 0 0, .slice none 0 0, .slice none 0 0, .slice none 0 0, .slice none 0 0, .slice none 0 0, .slice none 0 0]) from ⟨HB5.out.2.1.still hb67, HB5.out.2.2.still hb67⟩)
      obtain ⟨B1, hB1⟩ : ∃ B1, wA.heap.size = B1 := ⟨_, rfl⟩
      have HKA : Hid (∃ vF vO, KA d wB B0 nb fb nl F vF g lb ob M O vO wA) := by
        obtain ⟨vF, vO, h1, _⟩ := HK.out
        exact ⟨vF, vO, h1.still hb67⟩
      obtain ⟨vF, vO, hka⟩ := HKA.out
      have HKB := (show Hid (KA d wB B0 nb fb nl F vF g lb ob M O vO wA) from hka)
      have HB1 := (show Hid (wA.heap.size = B1) from hB1)
      have HSB : Hid (SB wA g) := hka.fs.own.sb hka.fs.frm
      have H0 : Hid (∃ u1 u2 u3, FSv wB wA B0 B1 g [.slice (some ⟨nb, 0, none⟩) d.nons.length d.nons.length, u1, u2, u3, .slice (some ⟨lb, 0, none⟩) d.nons.length d.nons.length, .slice (some ⟨fb, 0, none⟩) d.nons.length d.nons.length, .slice (some ⟨ob, 0, none⟩) d.nons.length d.nons.length] (csK nl M FA FL vF vO 0) wA) := ⟨.slice none 0 0, .slice none 0 0, .slice none 0 0, hka.fs, Nat.le_of_eq hB1.symm, fun q _ _ => rfl, by rw [← hB1]; exact (bx_lt hka.fs.own).2, fun j hj k hk => by rcases hj with rfl | rfl | rfl <;> simp [Value.ownBlock] at hk⟩
      have HT1 : Hid (∀ W, Below B0 wB W → W.cell? ⟨w.heap.size, 1, none⟩ = some (.slice a1 d.nons.length c1)) := fun W hb => by
        obtain ⟨x0, x1, x2, x3⟩ := HH1.out.2.1.cells
        rw [← hB0] at hb
        exact (hb.cell (lt_of_cell x1)).trans x1
      have HTZ : Hid (∀ W, Below B0 wB W → Box W (w.heap.size + 1) 32 [.slice none 0 0, .slice none 0 0, .slice none 0 0, .slice none 0 0, .slice none 0 0, .slice none 0 0, .slice none 0 0] ∧ w.heap.size + 1 < B0 ∧ Below w.heap.size w W) := fun W hb => by
        rw [← hB0] at hb
        exact ⟨HH1.out.2.2.1.keep (hb.block _ HH1.out.2.2.1.lt), by rw [← hB0]; exact HH1.out.2.2.1.lt, bel_trans HH1.out.2.2.2 hb⟩
      clear hka hb67 hb7 hml hfl HL HM6 HK HB3 HB5 HB7 HH1 hB0 x0 x1 x2 x3 hB1 HKA
      go_wp2_with fail
      go_loopw [9] (fun i wr => ∃ k : Nat, i = .int .i64 (k : Int) ∧ k ≤ d.nons.length ∧ Hid (∃ u1 u2 u3, FSv wB wA B0 B1 g [.slice (some ⟨nb, 0, none⟩) d.nons.length d.nons.length, u1, u2, u3, .slice (some ⟨lb, 0, none⟩) d.nons.length d.nons.length, .slice (some ⟨fb, 0, none⟩) d.nons.length d.nons.length, .slice (some ⟨ob, 0, none⟩) d.nons.length d.nons.length] (csK nl M FA FL vF vO k) wr)) (fun i _ => d.nons.length - (intOf i).toNat)
      case atStart => exact ⟨0, rfl, Nat.zero_le _, H0⟩
      case round =>
        obtain ⟨k, rfl, hk, HF⟩ := hrel
        have c1x : wr.cell? ⟨w.heap.size, 1, none⟩ = some (.slice a1 d.nons.length c1) := by
          obtain ⟨_, _, _, hf⟩ := HF.out
          exact HT1.out _ hf.fs.bel
        by_cases hlt : k < d.nons.length
        · have hN0 : 0 < d.nons.length := by omega
          obtain ⟨x, hx⟩ : ∃ x, M.getD k 0 = x := ⟨_, rfl⟩
          obtain ⟨xa, hxa⟩ : ∃ x, FA 0 k = x := ⟨_, rfl⟩
          obtain ⟨x1, hx1⟩ : ∃ b, decide (0 ≤ x) = b := ⟨_, rfl⟩
          obtain ⟨x2, hx2⟩ : ∃ b, (k == 0 || xa) = b := ⟨_, rfl⟩
          obtain ⟨x3, hx3⟩ : ∃ x, FL k k = x := ⟨_, rfl⟩
          obtain ⟨C1, hC1⟩ : ∃ C, (List.range k).map (fun i => Value.bool (decide (0 ≤ M.getD i 0))) = C := ⟨_, rfl⟩
          obtain ⟨C2, hC2⟩ : ∃ C, (List.range k).map (fun i => Value.bool (i == 0 || FA 0 i)) = C := ⟨_, rfl⟩
          obtain ⟨C3, hC3⟩ : ∃ C, (List.range k).map (fun i => Value.bool (FL i i)) = C := ⟨_, rfl⟩
          have HC1 : Hid (C1.length ≤ 100000) := by show C1.length ≤ _; rw [← hC1]; simp; omega
          have HC2 : Hid (C2.length ≤ 100000) := by show C2.length ≤ _; rw [← hC2]; simp; omega
          have HC3 : Hid (C3.length ≤ 100000) := by show C3.length ≤ _; rw [← hC3]; simp; omega
          have HF0 : Hid (∃ u1 u2 u3, FSv wB wA B0 B1 g [.slice (some ⟨nb, 0, none⟩) d.nons.length d.nons.length, u1, u2, u3, .slice (some ⟨lb, 0, none⟩) d.nons.length d.nons.length, .slice (some ⟨fb, 0, none⟩) d.nons.length d.nons.length, .slice (some ⟨ob, 0, none⟩) d.nons.length d.nons.length] [(4, nl.map .bool), (4, C1), (4, C2), (4, C3), (3, encI M), (29, vF), (29, vO)] wr) := by
            obtain ⟨u1, u2, u3, hf⟩ := HF.out
            unfold csK at hf
            rw [hC1, hC2, hC3] at hf
            exact ⟨u1, u2, u3, hf⟩
          have HFIN : Hid (∀ W u1 u2 u3, FSv wB wA B0 B1 g [.slice (some ⟨nb, 0, none⟩) d.nons.length d.nons.length, u1, u2, u3, .slice (some ⟨lb, 0, none⟩) d.nons.length d.nons.length, .slice (some ⟨fb, 0, none⟩) d.nons.length d.nons.length, .slice (some ⟨ob, 0, none⟩) d.nons.length d.nons.length] [(4, nl.map .bool), (4, C1 ++ [.bool x1]), (4, C2 ++ [.bool x2]), (4, C3 ++ [.bool x3]), (3, encI M), (29, vF), (29, vO)] W → ∃ u1 u2 u3, FSv wB wA B0 B1 g [.slice (some ⟨nb, 0, none⟩) d.nons.length d.nons.length, u1, u2, u3, .slice (some ⟨lb, 0, none⟩) d.nons.length d.nons.length, .slice (some ⟨fb, 0, none⟩) d.nons.length d.nons.length, .slice (some ⟨ob, 0, none⟩) d.nons.length d.nons.length] (csK nl M FA FL vF vO (k + 1)) W) := fun W u1 u2 u3 h => by
            refine ⟨u1, u2, u3, ?_⟩
            unfold csK
            simp only [List.range_succ, List.map_append, List.map_cons, List.map_nil, hC1, hC2, hC3, hx, hxa, hx1, hx2, hx3]
            exact h
          have HLO : Hid (∀ (W : World), (∀ q, q < B1 → q ≠ g → W.heap[q]? = wA.heap[q]?) → W.cell? ⟨lb, k, none⟩ = some (.int .i64 x) ∧ W.cell? ⟨TA, 0, none⟩ = some (.slice (some ⟨TA + 1, 0, none⟩) d.nons.length d.nons.length) ∧ W.cell? ⟨TA + 1, k, none⟩ = some (.bool xa) ∧ W.cell? ⟨TL, k, none⟩ = some (.slice (some ⟨TL + 1 + k, 0, none⟩) d.nons.length d.nons.length) ∧ W.cell? ⟨TL + 1 + k, k, none⟩ = some (.bool x3)) := fun W hl => by
            have hl' : ∀ q, q < wA.heap.size → q ≠ g → W.heap[q]? = wA.heap[q]? := fun q hq hg => hl q (by rw [← HB1.out]; exact hq) hg
            have h1 : IRow W lb M := row_past HKB.out.mr (by decide) HSB.out hl'
            have h2 := HM7.out.1.past HSB.out hl'
            have h3 := HM7.out.2.1.past HSB.out hl'
            have hkM : k < M.length := by rw [HKB.out.mlen]; exact hlt
            refine ⟨?_, ?_, ?_, ?_, ?_⟩
            · have h4 := h1.cell hkM
              rw [← hx]
              exact h4
            · exact h2.hcell (i := 0) (by omega)
            · rw [← hxa]; exact h2.cell (i := 0) (by omega) hlt
            · exact h3.hcell hlt
            · rw [← hx3]; exact h3.cell hlt hlt
          have hx2 := (show Hid _ from hx2)
          clear hC1 hC2 hC3 hx hxa hx3 HF
          obtain ⟨u1, u2, u3, hf⟩ := HF0.out
          go_upto_region 11 with fail
          go_cut [] from 39 to 49 (fun wx => Hid (∃ u1 u2 u3, FSv wB wA B0 B1 g [.slice (some ⟨nb, 0, none⟩) d.nons.length d.nons.length, u1, u2, u3, .slice (some ⟨lb, 0, none⟩) d.nons.length d.nons.length, .slice (some ⟨fb, 0, none⟩) d.nons.length d.nons.length, .slice (some ⟨ob, 0, none⟩) d.nons.length d.nons.length] [(4, nl.map .bool), (4, C1 ++ [.bool x1]), (4, C2), (4, C3), (3, encI M), (29, vF), (29, vO)] wx))
          case first =>
            have hfd := hf.still ((Below.refl wr.heap.size wr).drew)
            have hc0 : wr.drew.cell? ⟨g, 1, none⟩ = some u1 := hfd.fs.at (j := 1) (by simp)
            have hbl := bel_alloc wr.drew (.cells #[.bool x1] 4)
            have hc1 : (wr.drew.alloc (.cells #[.bool x1] 4)).cell? ⟨g, 1, none⟩ = some u1 := (hbl.cell (lt_of_cell hc0)).trans hc0
            have hc2 : ((wr.alloc (.cells #[.bool x1] 4)).drew).cell? ⟨g, 1, none⟩ = some u1 := hc1
            obtain ⟨a2, c2, n2, w3, hr, ⟨y3, hy3⟩, hfz, hst, hlw⟩ := hfd.push4 1 (by decide) (by simp) C1 rfl wr.heap.size x1 rfl HC1.out u1 rfl
            have HR := (show Hid _ from hr)
            have hst2 : FSv wB wA B0 B1 g [.slice (some ⟨nb, 0, none⟩) d.nons.length d.nons.length, .slice a2 n2 c2, u2, u3, .slice (some ⟨lb, 0, none⟩) d.nons.length d.nons.length, .slice (some ⟨fb, 0, none⟩) d.nons.length d.nons.length, .slice (some ⟨ob, 0, none⟩) d.nons.length d.nons.length] [(4, nl.map .bool), (4, C1 ++ [.bool x1]), (4, C2), (4, C3), (3, encI M), (29, vF), (29, vO)] (w3.setCell ⟨g, 1, none⟩ (.slice a2 n2 c2)) := hst
            have HST : Hid (∃ u1 u2 u3, FSv wB wA B0 B1 g [.slice (some ⟨nb, 0, none⟩) d.nons.length d.nons.length, u1, u2, u3, .slice (some ⟨lb, 0, none⟩) d.nons.length d.nons.length, .slice (some ⟨fb, 0, none⟩) d.nons.length d.nons.length, .slice (some ⟨ob, 0, none⟩) d.nons.length d.nons.length] [(4, nl.map .bool), (4, C1 ++ [.bool x1]), (4, C2), (4, C3), (3, encI M), (29, vF), (29, vO)] (w3.setCell ⟨g, 1, none⟩ (.slice a2 n2 c2))) := ⟨.slice a2 n2 c2, u2, u3, hst2⟩
            have hS0 : wr.drew.cell? ⟨g, 4, none⟩ = some (.slice (some ⟨lb, 0, none⟩) d.nons.length d.nons.length) ∧ wr.drew.cell? ⟨lb, k, none⟩ = some (.int .i64 x) := ⟨hfd.fs.at (j := 4) (by simp), (HLO.out _ (fun q hq hg => hfd.low q hq hg)).1⟩
            have hS1 : (wr.drew.alloc (.cells #[.bool x1] 4)).cell? ⟨g, 4, none⟩ = some (.slice (some ⟨lb, 0, none⟩) d.nons.length d.nons.length) ∧ (wr.drew.alloc (.cells #[.bool x1] 4)).cell? ⟨lb, k, none⟩ = some (.int .i64 x) := ⟨(hbl.cell (lt_of_cell (hfd.fs.at (j := 4) (by simp)))).trans (hfd.fs.at (j := 4) (by simp)), (HLO.out _ (fun q hq hg => (hbl.block q (Nat.lt_of_lt_of_le hq hfd.sz)).trans (hfd.low q hq hg))).1⟩
            have hS2 : w3.cell? ⟨g, 4, none⟩ = some (.slice (some ⟨lb, 0, none⟩) d.nons.length d.nons.length) ∧ w3.cell? ⟨lb, k, none⟩ = some (.int .i64 x) := ⟨(World.cell?_of_block (hlw g hfd.gB)).trans (hfd.fs.at (j := 4) (by simp)), (HLO.out _ (fun q hq hg => (hlw q hq).trans (hfd.low q hq hg))).1⟩
            have hS3 : (w3.setCell ⟨g, 1, none⟩ (.slice a2 n2 c2)).cell? ⟨g, 4, none⟩ = some (.slice (some ⟨lb, 0, none⟩) d.nons.length d.nons.length) ∧ (w3.setCell ⟨g, 1, none⟩ (.slice a2 n2 c2)).cell? ⟨lb, k, none⟩ = some (.int .i64 x) := ⟨hst2.fs.at (j := 4) (by simp), (HLO.out _ (fun q hq hg => hst2.low q hq hg)).1⟩
            clear hr hst hst2 hbl hlw hfd hf HF0 
            refine wp_region_held_drew (S := (fun w' => w'.cell? ⟨g, 4, none⟩ = some (.slice (some ⟨lb, 0, none⟩) d.nons.length d.nons.length) ∧ w'.cell? ⟨lb, k, none⟩ = some (.int .i64 x))) (by kernel_rfl) hS0 (fun hHeld => ?_)
            refine wpAnyH_take (i := 0) (oi := { dst := some 39, op := Go.Op.fieldAddr 32 (Go.Operand.tmp 6) 1, type := 0, pos := "l04_facts.go:238", after := #[], guard := none }) (v := ?v10) rfl (by kernel_rfl) (by kernel_rfl) (by kernel_rfl) (fun _ _ _ h => h) (Or.inl ⟨by rfl, ?h10⟩) hHeld ?r10
            case h10 => (intro w hSw; (try dsimp only at hSw); go_simp; try with_reducible rfl)
            try simp only [Act.put, List.setIfInBounds_toArray, List.set_cons_zero, List.set_cons_succ]
            refine wpAnyH_take (i := 2) (oi := { dst := some 41, op := Go.Op.fieldAddr 32 (Go.Operand.tmp 6) 4, type := 0, pos := "l04_facts.go:238", after := #[], guard := none }) (v := ?v11) rfl (by kernel_rfl) (by kernel_rfl) (by kernel_rfl) (fun _ _ _ h => h) (Or.inl ⟨by rfl, ?h11⟩) hHeld ?r11
            case h11 => (intro w hSw; (try dsimp only at hSw); go_simp; try with_reducible rfl)
            try simp only [Act.put, List.setIfInBounds_toArray, List.set_cons_zero, List.set_cons_succ]
            refine wpAnyH_take (i := 3) (oi := { dst := some 42, op := Go.Op.load 29 (Go.Operand.tmp 41), type := 29, pos := "l04_facts.go:238", after := #[{ on := 2, ground := Go.Ground.data }], guard := none }) (v := ?v12) rfl (by kernel_rfl) (by kernel_rfl) (by kernel_rfl) (fun _ _ _ h => h) (Or.inl ⟨by rfl, ?h12⟩) hHeld ?r12
            case h12 => (intro w hSw; (try dsimp only at hSw); go_simp; try with_reducible rfl)
            try simp only [Act.put, List.setIfInBounds_toArray, List.set_cons_zero, List.set_cons_succ]
            refine wpAnyH_take (i := 4) (oi := { dst := some 43, op := Go.Op.move (Go.Operand.tmp 9), type := 3, pos := "l04_facts.go:238", after := #[], guard := none }) (v := ?v13) rfl (by kernel_rfl) (by kernel_rfl) (by kernel_rfl) (fun _ _ _ h => h) (Or.inl ⟨by rfl, ?h13⟩) hHeld ?r13
            case h13 => (intro w hSw; (try dsimp only at hSw); go_simp; try with_reducible rfl)
            try simp only [Act.put, List.setIfInBounds_toArray, List.set_cons_zero, List.set_cons_succ]
            refine wpAnyH_take (i := 5) (oi := { dst := some 44, op := Go.Op.indexAddr 29 (Go.Operand.tmp 42) (Go.Operand.tmp 43), type := 0, pos := "l04_facts.go:238", after := #[{ on := 3, ground := Go.Ground.data }, { on := 4, ground := Go.Ground.data }], guard := none }) (v := ?v14) rfl (by kernel_rfl) (by kernel_rfl) (by kernel_rfl) (fun _ _ _ h => h) (Or.inl ⟨by rfl, ?h14⟩) hHeld ?r14
            case h14 => (intro w hSw; (try dsimp only at hSw); go_simp; try with_reducible rfl)
            try simp only [Act.put, List.setIfInBounds_toArray, List.set_cons_zero, List.set_cons_succ]
            refine wpAnyH_take (i := 6) (oi := { dst := some 45, op := Go.Op.load 3 (Go.Operand.tmp 44), type := 3, pos := "l04_facts.go:238", after := #[{ on := 5, ground := Go.Ground.data }], guard := none }) (v := ?v15) rfl (by kernel_rfl) (by kernel_rfl) (by kernel_rfl) (fun _ _ _ h => h) (Or.inl ⟨by rfl, ?h15⟩) hHeld ?r15
            case h15 => (intro w hSw; (try dsimp only at hSw); go_simp; try with_reducible rfl)
            try simp only [Act.put, List.setIfInBounds_toArray, List.set_cons_zero, List.set_cons_succ]
            refine wpAnyH_take (i := 7) (oi := { dst := some 46, op := Go.Op.binOp Go.BinOp.geq 3 (Go.Operand.tmp 45) (Go.Operand.const (Go.Value.int Go.IntKind.i64 0)) 3, type := 4, pos := "l04_facts.go:238", after := #[{ on := 6, ground := Go.Ground.data }], guard := none }) (v := ?v16) rfl (by kernel_rfl) (by kernel_rfl) (by kernel_rfl) (fun _ _ _ h => h) (Or.inl ⟨by rfl, ?h16⟩) hHeld ?r16
            case h16 => (intro w hSw; (try dsimp only at hSw); go_simp; try with_reducible rfl)
            try simp only [Act.put, List.setIfInBounds_toArray, List.set_cons_zero, List.set_cons_succ]
            refine wpAnyH_ready (rs := [1, 8]) (by kernel_rfl) (by simp) ?_
            refine (AllReadyH.cons (o := { dst := some 40, op := Go.Op.load 28 (Go.Operand.tmp 39), type := 28, pos := "l04_facts.go:238", after := #[{ on := 0, ground := Go.Ground.data }], guard := none }) rfl (fun K hK => ?_) (AllReadyH.cons (o := { dst := some 47, op := Go.Op.buildSlice 28 1 #[(0, Go.Operand.tmp 46)], type := 28, pos := "l04_facts.go:238", after := #[{ on := 7, ground := Go.Ground.data }], guard := none }) rfl (fun K hK => ?_) AllReadyH.nil))
            · go_simp
              clear hHeld
              refine hK.out _ _ hS0 (fun hHeld => ?_)
              clear hK K
              try simp only [Act.put, List.setIfInBounds_toArray, List.set_cons_zero, List.set_cons_succ]
              refine wpAnyH_ready (rs := [8]) (by kernel_rfl) (by simp) ?_
              refine (AllReadyH.cons (o := { dst := some 47, op := Go.Op.buildSlice 28 1 #[(0, Go.Operand.tmp 46)], type := 28, pos := "l04_facts.go:238", after := #[{ on := 7, ground := Go.Ground.data }], guard := none }) rfl (fun K hK => ?_) AllReadyH.nil)
              go_simp
              clear hHeld
              refine hK.out _ _ hS1 (fun hHeld => ?_)
              clear hK K
              try simp only [Act.put, List.setIfInBounds_toArray, List.set_cons_zero, List.set_cons_succ]
              refine wpAnyH_ready (rs := [9]) (by kernel_rfl) (by simp) ?_
              refine (AllReadyH.cons (o := { dst := some 48, op := Go.Op.call { callee := Go.Callee.builtin Go.Builtin.append, args := #[Go.Operand.tmp 40, Go.Operand.tmp 47], argTypes := #[28, 28] }, type := 28, pos := "l04_facts.go:238", after := #[{ on := 1, ground := Go.Ground.data }, { on := 8, ground := Go.Ground.data }], guard := none }) rfl (fun K hK => ?_) AllReadyH.nil)
              refine step_append_run rfl (.tmp 40) (.tmp 47) 28 28 rfl (by simp [Act.eval, Act.put]) (by simp [Act.eval, Act.put]) HR.out ?_
              clear hHeld
              refine hK.out _ _ hS2 (fun hHeld => ?_)
              clear hK K
              try simp only [Act.put, List.setIfInBounds_toArray, List.set_cons_zero, List.set_cons_succ]
              refine wpAnyH_take (i := 10) (oi := { dst := some 49, op := Go.Op.fieldAddr 32 (Go.Operand.tmp 6) 1, type := 0, pos := "l04_facts.go:238", after := #[{ on := 0, ground := Go.Ground.phase }, { on := 1, ground := Go.Ground.phase }, { on := 2, ground := Go.Ground.phase }, { on := 3, ground := Go.Ground.phase }, { on := 4, ground := Go.Ground.phase }, { on := 5, ground := Go.Ground.phase }, { on := 6, ground := Go.Ground.phase }, { on := 7, ground := Go.Ground.phase }, { on := 8, ground := Go.Ground.phase }, { on := 9, ground := Go.Ground.phase }], guard := none }) (v := ?v17) rfl (by kernel_rfl) (by kernel_rfl) (by kernel_rfl) (fun _ _ _ h => h) (Or.inl ⟨by rfl, ?h17⟩) hHeld ?r17
              case h17 => (intro w hSw; (try dsimp only at hSw); go_simp; try with_reducible rfl)
              try simp only [Act.put, List.setIfInBounds_toArray, List.set_cons_zero, List.set_cons_succ]
              refine wpAnyH_ready (rs := [11]) (by kernel_rfl) (by simp) ?_
              refine (AllReadyH.cons (o := { dst := none, op := Go.Op.store 28 (Go.Operand.tmp 49) (Go.Operand.tmp 48), type := 0, pos := "l04_facts.go:238", after := #[{ on := 10, ground := Go.Ground.data }, { on := 9, ground := Go.Ground.data }, { on := 9, ground := Go.Ground.chain }, { on := 0, ground := Go.Ground.phase }, { on := 1, ground := Go.Ground.phase }, { on := 2, ground := Go.Ground.phase }, { on := 3, ground := Go.Ground.phase }, { on := 4, ground := Go.Ground.phase }, { on := 5, ground := Go.Ground.phase }, { on := 6, ground := Go.Ground.phase }, { on := 7, ground := Go.Ground.phase }, { on := 8, ground := Go.Ground.phase }, { on := 9, ground := Go.Ground.phase }], guard := none }) rfl (fun K hK => ?_) AllReadyH.nil)
              go_simp
              clear hHeld
              refine hK.out _ _ hS3 (fun hHeld => ?_)
              clear hK K
              try simp only [Act.put, List.setIfInBounds_toArray, List.set_cons_zero, List.set_cons_succ]
              refine wpAnyH_done (by kernel_rfl) ?_ _
              go_wp2_with fail
              go_meet
              exact HST
            · go_simp
              clear hHeld
              refine hK.out _ _ hS1 (fun hHeld => ?_)
              clear hK K
              try simp only [Act.put, List.setIfInBounds_toArray, List.set_cons_zero, List.set_cons_succ]
              refine wpAnyH_ready (rs := [1]) (by kernel_rfl) (by simp) ?_
              refine (AllReadyH.cons (o := { dst := some 40, op := Go.Op.load 28 (Go.Operand.tmp 39), type := 28, pos := "l04_facts.go:238", after := #[{ on := 0, ground := Go.Ground.data }], guard := none }) rfl (fun K hK => ?_) AllReadyH.nil)
              go_simp
              clear hHeld
              refine hK.out _ _ hS1 (fun hHeld => ?_)
              clear hK K
              try simp only [Act.put, List.setIfInBounds_toArray, List.set_cons_zero, List.set_cons_succ]
              refine wpAnyH_ready (rs := [9]) (by kernel_rfl) (by simp) ?_
              refine (AllReadyH.cons (o := { dst := some 48, op := Go.Op.call { callee := Go.Callee.builtin Go.Builtin.append, args := #[Go.Operand.tmp 40, Go.Operand.tmp 47], argTypes := #[28, 28] }, type := 28, pos := "l04_facts.go:238", after := #[{ on := 1, ground := Go.Ground.data }, { on := 8, ground := Go.Ground.data }], guard := none }) rfl (fun K hK => ?_) AllReadyH.nil)
              refine step_append_run rfl (.tmp 40) (.tmp 47) 28 28 rfl (by simp [Act.eval, Act.put]) (by simp [Act.eval, Act.put]) HR.out ?_
              clear hHeld
              refine hK.out _ _ hS2 (fun hHeld => ?_)
              clear hK K
              try simp only [Act.put, List.setIfInBounds_toArray, List.set_cons_zero, List.set_cons_succ]
              refine wpAnyH_take (i := 10) (oi := { dst := some 49, op := Go.Op.fieldAddr 32 (Go.Operand.tmp 6) 1, type := 0, pos := "l04_facts.go:238", after := #[{ on := 0, ground := Go.Ground.phase }, { on := 1, ground := Go.Ground.phase }, { on := 2, ground := Go.Ground.phase }, { on := 3, ground := Go.Ground.phase }, { on := 4, ground := Go.Ground.phase }, { on := 5, ground := Go.Ground.phase }, { on := 6, ground := Go.Ground.phase }, { on := 7, ground := Go.Ground.phase }, { on := 8, ground := Go.Ground.phase }, { on := 9, ground := Go.Ground.phase }], guard := none }) (v := ?v18) rfl (by kernel_rfl) (by kernel_rfl) (by kernel_rfl) (fun _ _ _ h => h) (Or.inl ⟨by rfl, ?h18⟩) hHeld ?r18
              case h18 => (intro w hSw; (try dsimp only at hSw); go_simp; try with_reducible rfl)
              try simp only [Act.put, List.setIfInBounds_toArray, List.set_cons_zero, List.set_cons_succ]
              refine wpAnyH_ready (rs := [11]) (by kernel_rfl) (by simp) ?_
              refine (AllReadyH.cons (o := { dst := none, op := Go.Op.store 28 (Go.Operand.tmp 49) (Go.Operand.tmp 48), type := 0, pos := "l04_facts.go:238", after := #[{ on := 10, ground := Go.Ground.data }, { on := 9, ground := Go.Ground.data }, { on := 9, ground := Go.Ground.chain }, { on := 0, ground := Go.Ground.phase }, { on := 1, ground := Go.Ground.phase }, { on := 2, ground := Go.Ground.phase }, { on := 3, ground := Go.Ground.phase }, { on := 4, ground := Go.Ground.phase }, { on := 5, ground := Go.Ground.phase }, { on := 6, ground := Go.Ground.phase }, { on := 7, ground := Go.Ground.phase }, { on := 8, ground := Go.Ground.phase }, { on := 9, ground := Go.Ground.phase }], guard := none }) rfl (fun K hK => ?_) AllReadyH.nil)
              go_simp
              clear hHeld
              refine hK.out _ _ hS3 (fun hHeld => ?_)
              clear hK K
              try simp only [Act.put, List.setIfInBounds_toArray, List.set_cons_zero, List.set_cons_succ]
              refine wpAnyH_done (by kernel_rfl) ?_ _
              go_wp2_with fail
              go_meet
              exact HST
          case rest =>
            have HF1 := hcut
            clear hf hcut HF0
            obtain ⟨u1, u2, u3, hf⟩ := HF1.out
            go_upto_region 12 with fail
            go_cut [] from 50 to 64 (fun wx => Hid (∃ u1 u2 u3, FSv wB wA B0 B1 g [.slice (some ⟨nb, 0, none⟩) d.nons.length d.nons.length, u1, u2, u3, .slice (some ⟨lb, 0, none⟩) d.nons.length d.nons.length, .slice (some ⟨fb, 0, none⟩) d.nons.length d.nons.length, .slice (some ⟨ob, 0, none⟩) d.nons.length d.nons.length] [(4, nl.map .bool), (4, C1 ++ [.bool x1]), (4, C2 ++ [.bool x2]), (4, C3), (3, encI M), (29, vF), (29, vO)] wx))
            case first =>
              have hfd := hf.still ((Below.refl wc.heap.size wc).drew)
              have hc0 : wc.drew.cell? ⟨g, 2, none⟩ = some u2 := hfd.fs.at (j := 2) (by simp)
              have hbl := bel_alloc wc.drew (.cells #[.bool x2] 4)
              have hc1 : (wc.drew.alloc (.cells #[.bool x2] 4)).cell? ⟨g, 2, none⟩ = some u2 := (hbl.cell (lt_of_cell hc0)).trans hc0
              have hc2 : ((wc.alloc (.cells #[.bool x2] 4)).drew).cell? ⟨g, 2, none⟩ = some u2 := hc1
              obtain ⟨a2, c2, n2, w3, hr, ⟨y3, hy3⟩, hfz, hst, hlw⟩ := hfd.push4 2 (by decide) (by simp) C2 rfl wc.heap.size x2 rfl HC2.out u2 rfl
              have HR := (show Hid _ from hr)
              have hst2 : FSv wB wA B0 B1 g [.slice (some ⟨nb, 0, none⟩) d.nons.length d.nons.length, u1, .slice a2 n2 c2, u3, .slice (some ⟨lb, 0, none⟩) d.nons.length d.nons.length, .slice (some ⟨fb, 0, none⟩) d.nons.length d.nons.length, .slice (some ⟨ob, 0, none⟩) d.nons.length d.nons.length] [(4, nl.map .bool), (4, C1 ++ [.bool x1]), (4, C2 ++ [.bool x2]), (4, C3), (3, encI M), (29, vF), (29, vO)] (w3.setCell ⟨g, 2, none⟩ (.slice a2 n2 c2)) := hst
              have HST : Hid (∃ u1 u2 u3, FSv wB wA B0 B1 g [.slice (some ⟨nb, 0, none⟩) d.nons.length d.nons.length, u1, u2, u3, .slice (some ⟨lb, 0, none⟩) d.nons.length d.nons.length, .slice (some ⟨fb, 0, none⟩) d.nons.length d.nons.length, .slice (some ⟨ob, 0, none⟩) d.nons.length d.nons.length] [(4, nl.map .bool), (4, C1 ++ [.bool x1]), (4, C2 ++ [.bool x2]), (4, C3), (3, encI M), (29, vF), (29, vO)] (w3.setCell ⟨g, 2, none⟩ (.slice a2 n2 c2))) := ⟨u1, .slice a2 n2 c2, u3, hst2⟩
              have hS0 : wc.drew.cell? ⟨TA, 0, none⟩ = some (.slice (some ⟨TA + 1, 0, none⟩) d.nons.length d.nons.length) ∧ wc.drew.cell? ⟨TA + 1, k, none⟩ = some (.bool xa) := ⟨(HLO.out _ (fun q hq hg => hfd.low q hq hg)).2.1, (HLO.out _ (fun q hq hg => hfd.low q hq hg)).2.2.1⟩
              have hS1 : (wc.drew.alloc (.cells #[.bool x2] 4)).cell? ⟨TA, 0, none⟩ = some (.slice (some ⟨TA + 1, 0, none⟩) d.nons.length d.nons.length) ∧ (wc.drew.alloc (.cells #[.bool x2] 4)).cell? ⟨TA + 1, k, none⟩ = some (.bool xa) := ⟨(HLO.out _ (fun q hq hg => (hbl.block q (Nat.lt_of_lt_of_le hq hfd.sz)).trans (hfd.low q hq hg))).2.1, (HLO.out _ (fun q hq hg => (hbl.block q (Nat.lt_of_lt_of_le hq hfd.sz)).trans (hfd.low q hq hg))).2.2.1⟩
              have hS2 : w3.cell? ⟨TA, 0, none⟩ = some (.slice (some ⟨TA + 1, 0, none⟩) d.nons.length d.nons.length) ∧ w3.cell? ⟨TA + 1, k, none⟩ = some (.bool xa) := ⟨(HLO.out _ (fun q hq hg => (hlw q hq).trans (hfd.low q hq hg))).2.1, (HLO.out _ (fun q hq hg => (hlw q hq).trans (hfd.low q hq hg))).2.2.1⟩
              have hS3 : (w3.setCell ⟨g, 2, none⟩ (.slice a2 n2 c2)).cell? ⟨TA, 0, none⟩ = some (.slice (some ⟨TA + 1, 0, none⟩) d.nons.length d.nons.length) ∧ (w3.setCell ⟨g, 2, none⟩ (.slice a2 n2 c2)).cell? ⟨TA + 1, k, none⟩ = some (.bool xa) := ⟨(HLO.out _ (fun q hq hg => hst2.low q hq hg)).2.1, (HLO.out _ (fun q hq hg => hst2.low q hq hg)).2.2.1⟩
              clear hr hst hst2 hbl hlw hfd hf HF1 
              rcases Nat.eq_zero_or_pos k with hk0 | hk0
              · subst hk0
                have e2 : x2 = true := by have := hx2.out; simpa using this.symm
                subst e2
                refine wp_region_held_drew (S := (fun w' => w'.cell? ⟨TA, 0, none⟩ = some (.slice (some ⟨TA + 1, 0, none⟩) d.nons.length d.nons.length) ∧ w'.cell? ⟨TA + 1, 0, none⟩ = some (.bool xa))) (by kernel_rfl) hS0 (fun hHeld => ?_)
                refine wpAnyH_take (i := 0) (oi := { dst := some 50, op := Go.Op.fieldAddr 32 (Go.Operand.tmp 6) 2, type := 0, pos := "l04_facts.go:239", after := #[], guard := none }) (v := ?v19) rfl (by kernel_rfl) (by kernel_rfl) (by kernel_rfl) (fun _ _ _ h => h) (Or.inl ⟨by rfl, ?h19⟩) hHeld ?r19
                case h19 => (intro w hSw; (try dsimp only at hSw); go_simp; try with_reducible rfl)
                try simp only [Act.put, List.setIfInBounds_toArray, List.set_cons_zero, List.set_cons_succ]
                refine wpAnyH_take (i := 2) (oi := { dst := some 52, op := Go.Op.move (Go.Operand.tmp 9), type := 3, pos := "l04_facts.go:239", after := #[], guard := none }) (v := ?v20) rfl (by kernel_rfl) (by kernel_rfl) (by kernel_rfl) (fun _ _ _ h => h) (Or.inl ⟨by rfl, ?h20⟩) hHeld ?r20
                case h20 => (intro w hSw; (try dsimp only at hSw); go_simp; try with_reducible rfl)
                try simp only [Act.put, List.setIfInBounds_toArray, List.set_cons_zero, List.set_cons_succ]
                refine wpAnyH_take (i := 3) (oi := { dst := some 53, op := Go.Op.binOp Go.BinOp.eql 3 (Go.Operand.tmp 52) (Go.Operand.const (Go.Value.int Go.IntKind.i64 0)) 3, type := 4, pos := "l04_facts.go:239", after := #[{ on := 2, ground := Go.Ground.data }], guard := none }) (v := .bool true) rfl (by kernel_rfl) (by kernel_rfl) (by kernel_rfl) (fun _ _ _ h => h) (Or.inl ⟨by rfl, ?h21⟩) hHeld ?r21
                case h21 => (intro w hSw; (try dsimp only at hSw); go_simp; first | done | (simp; done) | (simp; omega))
                try simp only [Act.put, List.setIfInBounds_toArray, List.set_cons_zero, List.set_cons_succ]
                refine wpAnyH_take (i := 4) (oi := { dst := some 54, op := Go.Op.move (Go.Operand.tmp 53), type := 4, pos := "l04_facts.go:239", after := #[{ on := 3, ground := Go.Ground.data }], guard := none }) (v := ?v22) rfl (by kernel_rfl) (by kernel_rfl) (by kernel_rfl) (fun _ _ _ h => h) (Or.inl ⟨by rfl, ?h22⟩) hHeld ?r22
                case h22 => (intro w hSw; (try dsimp only at hSw); go_simp; try with_reducible rfl)
                try simp only [Act.put, List.setIfInBounds_toArray, List.set_cons_zero, List.set_cons_succ]
                refine wpAnyH_take (i := 5) (oi := { dst := some 55, op := Go.Op.move (Go.Operand.tmp 7), type := 53, pos := "l04_facts.go:239", after := #[{ on := 4, ground := Go.Ground.guard }], guard := some (4, false) }) (v := undef) rfl (by kernel_rfl) (by kernel_rfl) (by kernel_rfl) (fun _ _ _ h => h) (Or.inr ⟨by rfl, rfl⟩) hHeld ?_
                try simp only [Act.put, List.setIfInBounds_toArray, List.set_cons_zero, List.set_cons_succ]
                refine wpAnyH_take (i := 6) (oi := { dst := some 56, op := Go.Op.indexAddr 53 (Go.Operand.tmp 55) (Go.Operand.const (Go.Value.int Go.IntKind.i64 0)), type := 0, pos := "l04_facts.go:239", after := #[{ on := 5, ground := Go.Ground.data }, { on := 4, ground := Go.Ground.guard }], guard := some (4, false) }) (v := undef) rfl (by kernel_rfl) (by kernel_rfl) (by kernel_rfl) (fun _ _ _ h => h) (Or.inr ⟨by rfl, rfl⟩) hHeld ?_
                try simp only [Act.put, List.setIfInBounds_toArray, List.set_cons_zero, List.set_cons_succ]
                refine wpAnyH_take (i := 7) (oi := { dst := some 57, op := Go.Op.load 28 (Go.Operand.tmp 56), type := 28, pos := "l04_facts.go:239", after := #[{ on := 6, ground := Go.Ground.data }, { on := 4, ground := Go.Ground.guard }], guard := some (4, false) }) (v := undef) rfl (by kernel_rfl) (by kernel_rfl) (by kernel_rfl) (fun _ _ _ h => h) (Or.inr ⟨by rfl, rfl⟩) hHeld ?_
                try simp only [Act.put, List.setIfInBounds_toArray, List.set_cons_zero, List.set_cons_succ]
                refine wpAnyH_take (i := 8) (oi := { dst := some 58, op := Go.Op.move (Go.Operand.tmp 9), type := 3, pos := "l04_facts.go:239", after := #[{ on := 4, ground := Go.Ground.guard }], guard := some (4, false) }) (v := undef) rfl (by kernel_rfl) (by kernel_rfl) (by kernel_rfl) (fun _ _ _ h => h) (Or.inr ⟨by rfl, rfl⟩) hHeld ?_
                try simp only [Act.put, List.setIfInBounds_toArray, List.set_cons_zero, List.set_cons_succ]
                refine wpAnyH_take (i := 9) (oi := { dst := some 59, op := Go.Op.indexAddr 28 (Go.Operand.tmp 57) (Go.Operand.tmp 58), type := 0, pos := "l04_facts.go:239", after := #[{ on := 7, ground := Go.Ground.data }, { on := 8, ground := Go.Ground.data }, { on := 4, ground := Go.Ground.guard }], guard := some (4, false) }) (v := undef) rfl (by kernel_rfl) (by kernel_rfl) (by kernel_rfl) (fun _ _ _ h => h) (Or.inr ⟨by rfl, rfl⟩) hHeld ?_
                try simp only [Act.put, List.setIfInBounds_toArray, List.set_cons_zero, List.set_cons_succ]
                refine wpAnyH_take (i := 10) (oi := { dst := some 60, op := Go.Op.load 4 (Go.Operand.tmp 59), type := 4, pos := "l04_facts.go:239", after := #[{ on := 9, ground := Go.Ground.data }, { on := 4, ground := Go.Ground.guard }], guard := some (4, false) }) (v := undef) rfl (by kernel_rfl) (by kernel_rfl) (by kernel_rfl) (fun _ _ _ h => h) (Or.inr ⟨by rfl, rfl⟩) hHeld ?_
                try simp only [Act.put, List.setIfInBounds_toArray, List.set_cons_zero, List.set_cons_succ]
                refine wpAnyH_take (i := 11) (oi := { dst := some 61, op := Go.Op.pick (Go.Operand.tmp 54) (Go.Operand.const (Go.Value.bool true)) (Go.Operand.tmp 60), type := 4, pos := "l04_facts.go:239", after := #[{ on := 4, ground := Go.Ground.data }, { on := 10, ground := Go.Ground.data }], guard := none }) (v := ?v29) rfl (by kernel_rfl) (by kernel_rfl) (by kernel_rfl) (fun _ _ _ h => h) (Or.inl ⟨by rfl, ?h29⟩) hHeld ?r29
                case h29 => (intro w hSw; (try dsimp only at hSw); go_simp; try with_reducible rfl)
                try simp only [Act.put, List.setIfInBounds_toArray, List.set_cons_zero, List.set_cons_succ]
                refine wpAnyH_ready (rs := [1, 12]) (by kernel_rfl) (by simp) ?_
                refine (AllReadyH.cons (o := { dst := some 51, op := Go.Op.load 28 (Go.Operand.tmp 50), type := 28, pos := "l04_facts.go:239", after := #[{ on := 0, ground := Go.Ground.data }], guard := none }) rfl (fun K hK => ?_) (AllReadyH.cons (o := { dst := some 62, op := Go.Op.buildSlice 28 1 #[(0, Go.Operand.tmp 61)], type := 28, pos := "l04_facts.go:239", after := #[{ on := 11, ground := Go.Ground.data }], guard := none }) rfl (fun K hK => ?_) AllReadyH.nil))
                · go_simp
                  clear hHeld
                  refine hK.out _ _ hS0 (fun hHeld => ?_)
                  clear hK K
                  try simp only [Act.put, List.setIfInBounds_toArray, List.set_cons_zero, List.set_cons_succ]
                  refine wpAnyH_ready (rs := [12]) (by kernel_rfl) (by simp) ?_
                  refine (AllReadyH.cons (o := { dst := some 62, op := Go.Op.buildSlice 28 1 #[(0, Go.Operand.tmp 61)], type := 28, pos := "l04_facts.go:239", after := #[{ on := 11, ground := Go.Ground.data }], guard := none }) rfl (fun K hK => ?_) AllReadyH.nil)
                  go_simp
                  clear hHeld
                  refine hK.out _ _ hS1 (fun hHeld => ?_)
                  clear hK K
                  try simp only [Act.put, List.setIfInBounds_toArray, List.set_cons_zero, List.set_cons_succ]
                  refine wpAnyH_ready (rs := [13]) (by kernel_rfl) (by simp) ?_
                  refine (AllReadyH.cons (o := { dst := some 63, op := Go.Op.call { callee := Go.Callee.builtin Go.Builtin.append, args := #[Go.Operand.tmp 51, Go.Operand.tmp 62], argTypes := #[28, 28] }, type := 28, pos := "l04_facts.go:239", after := #[{ on := 1, ground := Go.Ground.data }, { on := 12, ground := Go.Ground.data }, { on := 4, ground := Go.Ground.chain }], guard := none }) rfl (fun K hK => ?_) AllReadyH.nil)
                  refine step_append_run rfl (.tmp 51) (.tmp 62) 28 28 rfl (by simp [Act.eval, Act.put]) (by simp [Act.eval, Act.put]) HR.out ?_
                  clear hHeld
                  refine hK.out _ _ hS2 (fun hHeld => ?_)
                  clear hK K
                  try simp only [Act.put, List.setIfInBounds_toArray, List.set_cons_zero, List.set_cons_succ]
                  refine wpAnyH_take (i := 14) (oi := { dst := some 64, op := Go.Op.fieldAddr 32 (Go.Operand.tmp 6) 2, type := 0, pos := "l04_facts.go:239", after := #[{ on := 0, ground := Go.Ground.phase }, { on := 1, ground := Go.Ground.phase }, { on := 2, ground := Go.Ground.phase }, { on := 3, ground := Go.Ground.phase }, { on := 4, ground := Go.Ground.phase }, { on := 5, ground := Go.Ground.phase }, { on := 6, ground := Go.Ground.phase }, { on := 7, ground := Go.Ground.phase }, { on := 8, ground := Go.Ground.phase }, { on := 9, ground := Go.Ground.phase }, { on := 10, ground := Go.Ground.phase }, { on := 11, ground := Go.Ground.phase }, { on := 12, ground := Go.Ground.phase }, { on := 13, ground := Go.Ground.phase }], guard := none }) (v := ?v30) rfl (by kernel_rfl) (by kernel_rfl) (by kernel_rfl) (fun _ _ _ h => h) (Or.inl ⟨by rfl, ?h30⟩) hHeld ?r30
                  case h30 => (intro w hSw; (try dsimp only at hSw); go_simp; try with_reducible rfl)
                  try simp only [Act.put, List.setIfInBounds_toArray, List.set_cons_zero, List.set_cons_succ]
                  refine wpAnyH_ready (rs := [15]) (by kernel_rfl) (by simp) ?_
                  refine (AllReadyH.cons (o := { dst := none, op := Go.Op.store 28 (Go.Operand.tmp 64) (Go.Operand.tmp 63), type := 0, pos := "l04_facts.go:239", after := #[{ on := 14, ground := Go.Ground.data }, { on := 13, ground := Go.Ground.data }, { on := 13, ground := Go.Ground.chain }, { on := 0, ground := Go.Ground.phase }, { on := 1, ground := Go.Ground.phase }, { on := 2, ground := Go.Ground.phase }, { on := 3, ground := Go.Ground.phase }, { on := 4, ground := Go.Ground.phase }, { on := 5, ground := Go.Ground.phase }, { on := 6, ground := Go.Ground.phase }, { on := 7, ground := Go.Ground.phase }, { on := 8, ground := Go.Ground.phase }, { on := 9, ground := Go.Ground.phase }, { on := 10, ground := Go.Ground.phase }, { on := 11, ground := Go.Ground.phase }, { on := 12, ground := Go.Ground.phase }, { on := 13, ground := Go.Ground.phase }], guard := none }) rfl (fun K hK => ?_) AllReadyH.nil)
                  go_simp
                  clear hHeld
                  refine hK.out _ _ hS3 (fun hHeld => ?_)
                  clear hK K
                  try simp only [Act.put, List.setIfInBounds_toArray, List.set_cons_zero, List.set_cons_succ]
                  refine wpAnyH_done (by kernel_rfl) ?_ _
                  go_wp2_with fail
                  go_meet
                  exact HST
                · go_simp
                  clear hHeld
                  refine hK.out _ _ hS1 (fun hHeld => ?_)
                  clear hK K
                  try simp only [Act.put, List.setIfInBounds_toArray, List.set_cons_zero, List.set_cons_succ]
                  refine wpAnyH_ready (rs := [1]) (by kernel_rfl) (by simp) ?_
                  refine (AllReadyH.cons (o := { dst := some 51, op := Go.Op.load 28 (Go.Operand.tmp 50), type := 28, pos := "l04_facts.go:239", after := #[{ on := 0, ground := Go.Ground.data }], guard := none }) rfl (fun K hK => ?_) AllReadyH.nil)
                  go_simp
                  clear hHeld
                  refine hK.out _ _ hS1 (fun hHeld => ?_)
                  clear hK K
                  try simp only [Act.put, List.setIfInBounds_toArray, List.set_cons_zero, List.set_cons_succ]
                  refine wpAnyH_ready (rs := [13]) (by kernel_rfl) (by simp) ?_
                  refine (AllReadyH.cons (o := { dst := some 63, op := Go.Op.call { callee := Go.Callee.builtin Go.Builtin.append, args := #[Go.Operand.tmp 51, Go.Operand.tmp 62], argTypes := #[28, 28] }, type := 28, pos := "l04_facts.go:239", after := #[{ on := 1, ground := Go.Ground.data }, { on := 12, ground := Go.Ground.data }, { on := 4, ground := Go.Ground.chain }], guard := none }) rfl (fun K hK => ?_) AllReadyH.nil)
                  refine step_append_run rfl (.tmp 51) (.tmp 62) 28 28 rfl (by simp [Act.eval, Act.put]) (by simp [Act.eval, Act.put]) HR.out ?_
                  clear hHeld
                  refine hK.out _ _ hS2 (fun hHeld => ?_)
                  clear hK K
                  try simp only [Act.put, List.setIfInBounds_toArray, List.set_cons_zero, List.set_cons_succ]
                  refine wpAnyH_take (i := 14) (oi := { dst := some 64, op := Go.Op.fieldAddr 32 (Go.Operand.tmp 6) 2, type := 0, pos := "l04_facts.go:239", after := #[{ on := 0, ground := Go.Ground.phase }, { on := 1, ground := Go.Ground.phase }, { on := 2, ground := Go.Ground.phase }, { on := 3, ground := Go.Ground.phase }, { on := 4, ground := Go.Ground.phase }, { on := 5, ground := Go.Ground.phase }, { on := 6, ground := Go.Ground.phase }, { on := 7, ground := Go.Ground.phase }, { on := 8, ground := Go.Ground.phase }, { on := 9, ground := Go.Ground.phase }, { on := 10, ground := Go.Ground.phase }, { on := 11, ground := Go.Ground.phase }, { on := 12, ground := Go.Ground.phase }, { on := 13, ground := Go.Ground.phase }], guard := none }) (v := ?v31) rfl (by kernel_rfl) (by kernel_rfl) (by kernel_rfl) (fun _ _ _ h => h) (Or.inl ⟨by rfl, ?h31⟩) hHeld ?r31
                  case h31 => (intro w hSw; (try dsimp only at hSw); go_simp; try with_reducible rfl)
                  try simp only [Act.put, List.setIfInBounds_toArray, List.set_cons_zero, List.set_cons_succ]
                  refine wpAnyH_ready (rs := [15]) (by kernel_rfl) (by simp) ?_
                  refine (AllReadyH.cons (o := { dst := none, op := Go.Op.store 28 (Go.Operand.tmp 64) (Go.Operand.tmp 63), type := 0, pos := "l04_facts.go:239", after := #[{ on := 14, ground := Go.Ground.data }, { on := 13, ground := Go.Ground.data }, { on := 13, ground := Go.Ground.chain }, { on := 0, ground := Go.Ground.phase }, { on := 1, ground := Go.Ground.phase }, { on := 2, ground := Go.Ground.phase }, { on := 3, ground := Go.Ground.phase }, { on := 4, ground := Go.Ground.phase }, { on := 5, ground := Go.Ground.phase }, { on := 6, ground := Go.Ground.phase }, { on := 7, ground := Go.Ground.phase }, { on := 8, ground := Go.Ground.phase }, { on := 9, ground := Go.Ground.phase }, { on := 10, ground := Go.Ground.phase }, { on := 11, ground := Go.Ground.phase }, { on := 12, ground := Go.Ground.phase }, { on := 13, ground := Go.Ground.phase }], guard := none }) rfl (fun K hK => ?_) AllReadyH.nil)
                  go_simp
                  clear hHeld
                  refine hK.out _ _ hS3 (fun hHeld => ?_)
                  clear hK K
                  try simp only [Act.put, List.setIfInBounds_toArray, List.set_cons_zero, List.set_cons_succ]
                  refine wpAnyH_done (by kernel_rfl) ?_ _
                  go_wp2_with fail
                  go_meet
                  exact HST
              · have e2 : x2 = xa := by have := hx2.out; rw [← this]; simp; omega
                subst e2
                have hk1 : ¬ k = 0 := by omega
                refine wp_region_held_drew (S := (fun w' => w'.cell? ⟨TA, 0, none⟩ = some (.slice (some ⟨TA + 1, 0, none⟩) d.nons.length d.nons.length) ∧ w'.cell? ⟨TA + 1, k, none⟩ = some (.bool x2))) (by kernel_rfl) hS0 (fun hHeld => ?_)
                refine wpAnyH_take (i := 0) (oi := { dst := some 50, op := Go.Op.fieldAddr 32 (Go.Operand.tmp 6) 2, type := 0, pos := "l04_facts.go:239", after := #[], guard := none }) (v := ?v32) rfl (by kernel_rfl) (by kernel_rfl) (by kernel_rfl) (fun _ _ _ h => h) (Or.inl ⟨by rfl, ?h32⟩) hHeld ?r32
                case h32 => (intro w hSw; (try dsimp only at hSw); go_simp; try with_reducible rfl)
                try simp only [Act.put, List.setIfInBounds_toArray, List.set_cons_zero, List.set_cons_succ]
                refine wpAnyH_take (i := 2) (oi := { dst := some 52, op := Go.Op.move (Go.Operand.tmp 9), type := 3, pos := "l04_facts.go:239", after := #[], guard := none }) (v := ?v33) rfl (by kernel_rfl) (by kernel_rfl) (by kernel_rfl) (fun _ _ _ h => h) (Or.inl ⟨by rfl, ?h33⟩) hHeld ?r33
                case h33 => (intro w hSw; (try dsimp only at hSw); go_simp; try with_reducible rfl)
                try simp only [Act.put, List.setIfInBounds_toArray, List.set_cons_zero, List.set_cons_succ]
                refine wpAnyH_take (i := 3) (oi := { dst := some 53, op := Go.Op.binOp Go.BinOp.eql 3 (Go.Operand.tmp 52) (Go.Operand.const (Go.Value.int Go.IntKind.i64 0)) 3, type := 4, pos := "l04_facts.go:239", after := #[{ on := 2, ground := Go.Ground.data }], guard := none }) (v := .bool false) rfl (by kernel_rfl) (by kernel_rfl) (by kernel_rfl) (fun _ _ _ h => h) (Or.inl ⟨by rfl, ?h34⟩) hHeld ?r34
                case h34 => (intro w hSw; (try dsimp only at hSw); go_simp; first | done | (simp; done) | (simp; omega))
                try simp only [Act.put, List.setIfInBounds_toArray, List.set_cons_zero, List.set_cons_succ]
                refine wpAnyH_take (i := 4) (oi := { dst := some 54, op := Go.Op.move (Go.Operand.tmp 53), type := 4, pos := "l04_facts.go:239", after := #[{ on := 3, ground := Go.Ground.data }], guard := none }) (v := ?v35) rfl (by kernel_rfl) (by kernel_rfl) (by kernel_rfl) (fun _ _ _ h => h) (Or.inl ⟨by rfl, ?h35⟩) hHeld ?r35
                case h35 => (intro w hSw; (try dsimp only at hSw); go_simp; try with_reducible rfl)
                try simp only [Act.put, List.setIfInBounds_toArray, List.set_cons_zero, List.set_cons_succ]
                refine wpAnyH_take (i := 5) (oi := { dst := some 55, op := Go.Op.move (Go.Operand.tmp 7), type := 53, pos := "l04_facts.go:239", after := #[{ on := 4, ground := Go.Ground.guard }], guard := some (4, false) }) (v := ?v36) rfl (by kernel_rfl) (by kernel_rfl) (by kernel_rfl) (fun _ _ _ h => h) (Or.inl ⟨by rfl, ?h36⟩) hHeld ?r36
                case h36 => (intro w hSw; (try dsimp only at hSw); go_simp; try with_reducible rfl)
                try simp only [Act.put, List.setIfInBounds_toArray, List.set_cons_zero, List.set_cons_succ]
                refine wpAnyH_take (i := 6) (oi := { dst := some 56, op := Go.Op.indexAddr 53 (Go.Operand.tmp 55) (Go.Operand.const (Go.Value.int Go.IntKind.i64 0)), type := 0, pos := "l04_facts.go:239", after := #[{ on := 5, ground := Go.Ground.data }, { on := 4, ground := Go.Ground.guard }], guard := some (4, false) }) (v := ?v37) rfl (by kernel_rfl) (by kernel_rfl) (by kernel_rfl) (fun _ _ _ h => h) (Or.inl ⟨by rfl, ?h37⟩) hHeld ?r37
                case h37 => (intro w hSw; (try dsimp only at hSw); go_simp; try with_reducible rfl)
                try simp only [Act.put, List.setIfInBounds_toArray, List.set_cons_zero, List.set_cons_succ]
                refine wpAnyH_take (i := 7) (oi := { dst := some 57, op := Go.Op.load 28 (Go.Operand.tmp 56), type := 28, pos := "l04_facts.go:239", after := #[{ on := 6, ground := Go.Ground.data }, { on := 4, ground := Go.Ground.guard }], guard := some (4, false) }) (v := ?v38) rfl (by kernel_rfl) (by kernel_rfl) (by kernel_rfl) (fun _ _ _ h => h) (Or.inl ⟨by rfl, ?h38⟩) hHeld ?r38
                case h38 => (intro w hSw; (try dsimp only at hSw); go_simp; try with_reducible rfl)
                try simp only [Act.put, List.setIfInBounds_toArray, List.set_cons_zero, List.set_cons_succ]
                refine wpAnyH_take (i := 8) (oi := { dst := some 58, op := Go.Op.move (Go.Operand.tmp 9), type := 3, pos := "l04_facts.go:239", after := #[{ on := 4, ground := Go.Ground.guard }], guard := some (4, false) }) (v := ?v39) rfl (by kernel_rfl) (by kernel_rfl) (by kernel_rfl) (fun _ _ _ h => h) (Or.inl ⟨by rfl, ?h39⟩) hHeld ?r39
                case h39 => (intro w hSw; (try dsimp only at hSw); go_simp; try with_reducible rfl)
                try simp only [Act.put, List.setIfInBounds_toArray, List.set_cons_zero, List.set_cons_succ]
                refine wpAnyH_take (i := 9) (oi := { dst := some 59, op := Go.Op.indexAddr 28 (Go.Operand.tmp 57) (Go.Operand.tmp 58), type := 0, pos := "l04_facts.go:239", after := #[{ on := 7, ground := Go.Ground.data }, { on := 8, ground := Go.Ground.data }, { on := 4, ground := Go.Ground.guard }], guard := some (4, false) }) (v := ?v40) rfl (by kernel_rfl) (by kernel_rfl) (by kernel_rfl) (fun _ _ _ h => h) (Or.inl ⟨by rfl, ?h40⟩) hHeld ?r40
                case h40 => (intro w hSw; (try dsimp only at hSw); go_simp; try with_reducible rfl)
                try simp only [Act.put, List.setIfInBounds_toArray, List.set_cons_zero, List.set_cons_succ]
                refine wpAnyH_take (i := 10) (oi := { dst := some 60, op := Go.Op.load 4 (Go.Operand.tmp 59), type := 4, pos := "l04_facts.go:239", after := #[{ on := 9, ground := Go.Ground.data }, { on := 4, ground := Go.Ground.guard }], guard := some (4, false) }) (v := ?v41) rfl (by kernel_rfl) (by kernel_rfl) (by kernel_rfl) (fun _ _ _ h => h) (Or.inl ⟨by rfl, ?h41⟩) hHeld ?r41
                case h41 => (intro w hSw; (try dsimp only at hSw); go_simp; try with_reducible rfl)
                try simp only [Act.put, List.setIfInBounds_toArray, List.set_cons_zero, List.set_cons_succ]
                refine wpAnyH_take (i := 11) (oi := { dst := some 61, op := Go.Op.pick (Go.Operand.tmp 54) (Go.Operand.const (Go.Value.bool true)) (Go.Operand.tmp 60), type := 4, pos := "l04_facts.go:239", after := #[{ on := 4, ground := Go.Ground.data }, { on := 10, ground := Go.Ground.data }], guard := none }) (v := ?v42) rfl (by kernel_rfl) (by kernel_rfl) (by kernel_rfl) (fun _ _ _ h => h) (Or.inl ⟨by rfl, ?h42⟩) hHeld ?r42
                case h42 => (intro w hSw; (try dsimp only at hSw); go_simp; try with_reducible rfl)
                try simp only [Act.put, List.setIfInBounds_toArray, List.set_cons_zero, List.set_cons_succ]
                refine wpAnyH_ready (rs := [1, 12]) (by kernel_rfl) (by simp) ?_
                refine (AllReadyH.cons (o := { dst := some 51, op := Go.Op.load 28 (Go.Operand.tmp 50), type := 28, pos := "l04_facts.go:239", after := #[{ on := 0, ground := Go.Ground.data }], guard := none }) rfl (fun K hK => ?_) (AllReadyH.cons (o := { dst := some 62, op := Go.Op.buildSlice 28 1 #[(0, Go.Operand.tmp 61)], type := 28, pos := "l04_facts.go:239", after := #[{ on := 11, ground := Go.Ground.data }], guard := none }) rfl (fun K hK => ?_) AllReadyH.nil))
                · go_simp
                  clear hHeld
                  refine hK.out _ _ hS0 (fun hHeld => ?_)
                  clear hK K
                  try simp only [Act.put, List.setIfInBounds_toArray, List.set_cons_zero, List.set_cons_succ]
                  refine wpAnyH_ready (rs := [12]) (by kernel_rfl) (by simp) ?_
                  refine (AllReadyH.cons (o := { dst := some 62, op := Go.Op.buildSlice 28 1 #[(0, Go.Operand.tmp 61)], type := 28, pos := "l04_facts.go:239", after := #[{ on := 11, ground := Go.Ground.data }], guard := none }) rfl (fun K hK => ?_) AllReadyH.nil)
                  go_simp
                  clear hHeld
                  refine hK.out _ _ hS1 (fun hHeld => ?_)
                  clear hK K
                  try simp only [Act.put, List.setIfInBounds_toArray, List.set_cons_zero, List.set_cons_succ]
                  refine wpAnyH_ready (rs := [13]) (by kernel_rfl) (by simp) ?_
                  refine (AllReadyH.cons (o := { dst := some 63, op := Go.Op.call { callee := Go.Callee.builtin Go.Builtin.append, args := #[Go.Operand.tmp 51, Go.Operand.tmp 62], argTypes := #[28, 28] }, type := 28, pos := "l04_facts.go:239", after := #[{ on := 1, ground := Go.Ground.data }, { on := 12, ground := Go.Ground.data }, { on := 4, ground := Go.Ground.chain }], guard := none }) rfl (fun K hK => ?_) AllReadyH.nil)
                  refine step_append_run rfl (.tmp 51) (.tmp 62) 28 28 rfl (by simp [Act.eval, Act.put]) (by simp [Act.eval, Act.put]) HR.out ?_
                  clear hHeld
                  refine hK.out _ _ hS2 (fun hHeld => ?_)
                  clear hK K
                  try simp only [Act.put, List.setIfInBounds_toArray, List.set_cons_zero, List.set_cons_succ]
                  refine wpAnyH_take (i := 14) (oi := { dst := some 64, op := Go.Op.fieldAddr 32 (Go.Operand.tmp 6) 2, type := 0, pos := "l04_facts.go:239", after := #[{ on := 0, ground := Go.Ground.phase }, { on := 1, ground := Go.Ground.phase }, { on := 2, ground := Go.Ground.phase }, { on := 3, ground := Go.Ground.phase }, { on := 4, ground := Go.Ground.phase }, { on := 5, ground := Go.Ground.phase }, { on := 6, ground := Go.Ground.phase }, { on := 7, ground := Go.Ground.phase }, { on := 8, ground := Go.Ground.phase }, { on := 9, ground := Go.Ground.phase }, { on := 10, ground := Go.Ground.phase }, { on := 11, ground := Go.Ground.phase }, { on := 12, ground := Go.Ground.phase }, { on := 13, ground := Go.Ground.phase }], guard := none }) (v := ?v43) rfl (by kernel_rfl) (by kernel_rfl) (by kernel_rfl) (fun _ _ _ h => h) (Or.inl ⟨by rfl, ?h43⟩) hHeld ?r43
                  case h43 => (intro w hSw; (try dsimp only at hSw); go_simp; try with_reducible rfl)
                  try simp only [Act.put, List.setIfInBounds_toArray, List.set_cons_zero, List.set_cons_succ]
                  refine wpAnyH_ready (rs := [15]) (by kernel_rfl) (by simp) ?_
                  refine (AllReadyH.cons (o := { dst := none, op := Go.Op.store 28 (Go.Operand.tmp 64) (Go.Operand.tmp 63), type := 0, pos := "l04_facts.go:239", after := #[{ on := 14, ground := Go.Ground.data }, { on := 13, ground := Go.Ground.data }, { on := 13, ground := Go.Ground.chain }, { on := 0, ground := Go.Ground.phase }, { on := 1, ground := Go.Ground.phase }, { on := 2, ground := Go.Ground.phase }, { on := 3, ground := Go.Ground.phase }, { on := 4, ground := Go.Ground.phase }, { on := 5, ground := Go.Ground.phase }, { on := 6, ground := Go.Ground.phase }, { on := 7, ground := Go.Ground.phase }, { on := 8, ground := Go.Ground.phase }, { on := 9, ground := Go.Ground.phase }, { on := 10, ground := Go.Ground.phase }, { on := 11, ground := Go.Ground.phase }, { on := 12, ground := Go.Ground.phase }, { on := 13, ground := Go.Ground.phase }], guard := none }) rfl (fun K hK => ?_) AllReadyH.nil)
                  go_simp
                  clear hHeld
                  refine hK.out _ _ hS3 (fun hHeld => ?_)
                  clear hK K
                  try simp only [Act.put, List.setIfInBounds_toArray, List.set_cons_zero, List.set_cons_succ]
                  refine wpAnyH_done (by kernel_rfl) ?_ _
                  go_wp2_with fail
                  go_meet
                  exact HST
                · go_simp
                  clear hHeld
                  refine hK.out _ _ hS1 (fun hHeld => ?_)
                  clear hK K
                  try simp only [Act.put, List.setIfInBounds_toArray, List.set_cons_zero, List.set_cons_succ]
                  refine wpAnyH_ready (rs := [1]) (by kernel_rfl) (by simp) ?_
                  refine (AllReadyH.cons (o := { dst := some 51, op := Go.Op.load 28 (Go.Operand.tmp 50), type := 28, pos := "l04_facts.go:239", after := #[{ on := 0, ground := Go.Ground.data }], guard := none }) rfl (fun K hK => ?_) AllReadyH.nil)
                  go_simp
                  clear hHeld
                  refine hK.out _ _ hS1 (fun hHeld => ?_)
                  clear hK K
                  try simp only [Act.put, List.setIfInBounds_toArray, List.set_cons_zero, List.set_cons_succ]
                  refine wpAnyH_ready (rs := [13]) (by kernel_rfl) (by simp) ?_
                  refine (AllReadyH.cons (o := { dst := some 63, op := Go.Op.call { callee := Go.Callee.builtin Go.Builtin.append, args := #[Go.Operand.tmp 51, Go.Operand.tmp 62], argTypes := #[28, 28] }, type := 28, pos := "l04_facts.go:239", after := #[{ on := 1, ground := Go.Ground.data }, { on := 12, ground := Go.Ground.data }, { on := 4, ground := Go.Ground.chain }], guard := none }) rfl (fun K hK => ?_) AllReadyH.nil)
                  refine step_append_run rfl (.tmp 51) (.tmp 62) 28 28 rfl (by simp [Act.eval, Act.put]) (by simp [Act.eval, Act.put]) HR.out ?_
                  clear hHeld
                  refine hK.out _ _ hS2 (fun hHeld => ?_)
                  clear hK K
                  try simp only [Act.put, List.setIfInBounds_toArray, List.set_cons_zero, List.set_cons_succ]
                  refine wpAnyH_take (i := 14) (oi := { dst := some 64, op := Go.Op.fieldAddr 32 (Go.Operand.tmp 6) 2, type := 0, pos := "l04_facts.go:239", after := #[{ on := 0, ground := Go.Ground.phase }, { on := 1, ground := Go.Ground.phase }, { on := 2, ground := Go.Ground.phase }, { on := 3, ground := Go.Ground.phase }, { on := 4, ground := Go.Ground.phase }, { on := 5, ground := Go.Ground.phase }, { on := 6, ground := Go.Ground.phase }, { on := 7, ground := Go.Ground.phase }, { on := 8, ground := Go.Ground.phase }, { on := 9, ground := Go.Ground.phase }, { on := 10, ground := Go.Ground.phase }, { on := 11, ground := Go.Ground.phase }, { on := 12, ground := Go.Ground.phase }, { on := 13, ground := Go.Ground.phase }], guard := none }) (v := ?v44) rfl (by kernel_rfl) (by kernel_rfl) (by kernel_rfl) (fun _ _ _ h => h) (Or.inl ⟨by rfl, ?h44⟩) hHeld ?r44
                  case h44 => (intro w hSw; (try dsimp only at hSw); go_simp; try with_reducible rfl)
                  try simp only [Act.put, List.setIfInBounds_toArray, List.set_cons_zero, List.set_cons_succ]
                  refine wpAnyH_ready (rs := [15]) (by kernel_rfl) (by simp) ?_
                  refine (AllReadyH.cons (o := { dst := none, op := Go.Op.store 28 (Go.Operand.tmp 64) (Go.Operand.tmp 63), type := 0, pos := "l04_facts.go:239", after := #[{ on := 14, ground := Go.Ground.data }, { on := 13, ground := Go.Ground.data }, { on := 13, ground := Go.Ground.chain }, { on := 0, ground := Go.Ground.phase }, { on := 1, ground := Go.Ground.phase }, { on := 2, ground := Go.Ground.phase }, { on := 3, ground := Go.Ground.phase }, { on := 4, ground := Go.Ground.phase }, { on := 5, ground := Go.Ground.phase }, { on := 6, ground := Go.Ground.phase }, { on := 7, ground := Go.Ground.phase }, { on := 8, ground := Go.Ground.phase }, { on := 9, ground := Go.Ground.phase }, { on := 10, ground := Go.Ground.phase }, { on := 11, ground := Go.Ground.phase }, { on := 12, ground := Go.Ground.phase }, { on := 13, ground := Go.Ground.phase }], guard := none }) rfl (fun K hK => ?_) AllReadyH.nil)
                  go_simp
                  clear hHeld
                  refine hK.out _ _ hS3 (fun hHeld => ?_)
                  clear hK K
                  try simp only [Act.put, List.setIfInBounds_toArray, List.set_cons_zero, List.set_cons_succ]
                  refine wpAnyH_done (by kernel_rfl) ?_ _
                  go_wp2_with fail
                  go_meet
                  exact HST
            case rest =>
              have HF2 := hcut
              clear hf hcut HF1
              obtain ⟨u1, u2, u3, hf⟩ := HF2.out
              go_upto_region 13 with fail
              have hfd := hf.still ((Below.refl wc.heap.size wc).drew)
              have hc0 : wc.drew.cell? ⟨g, 3, none⟩ = some u3 := hfd.fs.at (j := 3) (by simp)
              have hbl := bel_alloc wc.drew (.cells #[.bool x3] 4)
              have hc1 : (wc.drew.alloc (.cells #[.bool x3] 4)).cell? ⟨g, 3, none⟩ = some u3 := (hbl.cell (lt_of_cell hc0)).trans hc0
              have hc2 : ((wc.alloc (.cells #[.bool x3] 4)).drew).cell? ⟨g, 3, none⟩ = some u3 := hc1
              obtain ⟨a2, c2, n2, w3, hr, ⟨y3, hy3⟩, hfz, hst, hlw⟩ := hfd.push4 3 (by decide) (by simp) C3 rfl wc.heap.size x3 rfl HC3.out u3 rfl
              have HR := (show Hid _ from hr)
              have hst2 : FSv wB wA B0 B1 g [.slice (some ⟨nb, 0, none⟩) d.nons.length d.nons.length, u1, u2, .slice a2 n2 c2, .slice (some ⟨lb, 0, none⟩) d.nons.length d.nons.length, .slice (some ⟨fb, 0, none⟩) d.nons.length d.nons.length, .slice (some ⟨ob, 0, none⟩) d.nons.length d.nons.length] [(4, nl.map .bool), (4, C1 ++ [.bool x1]), (4, C2 ++ [.bool x2]), (4, C3 ++ [.bool x3]), (3, encI M), (29, vF), (29, vO)] (w3.setCell ⟨g, 3, none⟩ (.slice a2 n2 c2)) := hst
              have HST := (show Hid _ from HFIN.out _ (u1) (u2) (.slice a2 n2 c2) hst2)
              have hS0 : wc.drew.cell? ⟨TL, k, none⟩ = some (.slice (some ⟨TL + 1 + k, 0, none⟩) d.nons.length d.nons.length) ∧ wc.drew.cell? ⟨TL + 1 + k, k, none⟩ = some (.bool x3) := ⟨(HLO.out _ (fun q hq hg => hfd.low q hq hg)).2.2.2.1, (HLO.out _ (fun q hq hg => hfd.low q hq hg)).2.2.2.2⟩
              have hS1 : (wc.drew.alloc (.cells #[.bool x3] 4)).cell? ⟨TL, k, none⟩ = some (.slice (some ⟨TL + 1 + k, 0, none⟩) d.nons.length d.nons.length) ∧ (wc.drew.alloc (.cells #[.bool x3] 4)).cell? ⟨TL + 1 + k, k, none⟩ = some (.bool x3) := ⟨(HLO.out _ (fun q hq hg => (hbl.block q (Nat.lt_of_lt_of_le hq hfd.sz)).trans (hfd.low q hq hg))).2.2.2.1, (HLO.out _ (fun q hq hg => (hbl.block q (Nat.lt_of_lt_of_le hq hfd.sz)).trans (hfd.low q hq hg))).2.2.2.2⟩
              have hS2 : w3.cell? ⟨TL, k, none⟩ = some (.slice (some ⟨TL + 1 + k, 0, none⟩) d.nons.length d.nons.length) ∧ w3.cell? ⟨TL + 1 + k, k, none⟩ = some (.bool x3) := ⟨(HLO.out _ (fun q hq hg => (hlw q hq).trans (hfd.low q hq hg))).2.2.2.1, (HLO.out _ (fun q hq hg => (hlw q hq).trans (hfd.low q hq hg))).2.2.2.2⟩
              have hS3 : (w3.setCell ⟨g, 3, none⟩ (.slice a2 n2 c2)).cell? ⟨TL, k, none⟩ = some (.slice (some ⟨TL + 1 + k, 0, none⟩) d.nons.length d.nons.length) ∧ (w3.setCell ⟨g, 3, none⟩ (.slice a2 n2 c2)).cell? ⟨TL + 1 + k, k, none⟩ = some (.bool x3) := ⟨(HLO.out _ (fun q hq hg => hst2.low q hq hg)).2.2.2.1, (HLO.out _ (fun q hq hg => hst2.low q hq hg)).2.2.2.2⟩
              clear hr hst hst2 hbl hlw hfd hf HF2 
              refine wp_region_held_drew (S := (fun w' => w'.cell? ⟨TL, k, none⟩ = some (.slice (some ⟨TL + 1 + k, 0, none⟩) d.nons.length d.nons.length) ∧ w'.cell? ⟨TL + 1 + k, k, none⟩ = some (.bool x3))) (by kernel_rfl) hS0 (fun hHeld => ?_)
              refine wpAnyH_take (i := 0) (oi := { dst := some 65, op := Go.Op.fieldAddr 32 (Go.Operand.tmp 6) 3, type := 0, pos := "l04_facts.go:240", after := #[], guard := none }) (v := ?v45) rfl (by kernel_rfl) (by kernel_rfl) (by kernel_rfl) (fun _ _ _ h => h) (Or.inl ⟨by rfl, ?h45⟩) hHeld ?r45
              case h45 => (intro w hSw; (try dsimp only at hSw); go_simp; try with_reducible rfl)
              try simp only [Act.put, List.setIfInBounds_toArray, List.set_cons_zero, List.set_cons_succ]
              refine wpAnyH_take (i := 2) (oi := { dst := some 67, op := Go.Op.move (Go.Operand.tmp 8), type := 53, pos := "l04_facts.go:240", after := #[], guard := none }) (v := ?v46) rfl (by kernel_rfl) (by kernel_rfl) (by kernel_rfl) (fun _ _ _ h => h) (Or.inl ⟨by rfl, ?h46⟩) hHeld ?r46
              case h46 => (intro w hSw; (try dsimp only at hSw); go_simp; try with_reducible rfl)
              try simp only [Act.put, List.setIfInBounds_toArray, List.set_cons_zero, List.set_cons_succ]
              refine wpAnyH_take (i := 3) (oi := { dst := some 68, op := Go.Op.move (Go.Operand.tmp 9), type := 3, pos := "l04_facts.go:240", after := #[], guard := none }) (v := ?v47) rfl (by kernel_rfl) (by kernel_rfl) (by kernel_rfl) (fun _ _ _ h => h) (Or.inl ⟨by rfl, ?h47⟩) hHeld ?r47
              case h47 => (intro w hSw; (try dsimp only at hSw); go_simp; try with_reducible rfl)
              try simp only [Act.put, List.setIfInBounds_toArray, List.set_cons_zero, List.set_cons_succ]
              refine wpAnyH_take (i := 4) (oi := { dst := some 69, op := Go.Op.indexAddr 53 (Go.Operand.tmp 67) (Go.Operand.tmp 68), type := 0, pos := "l04_facts.go:240", after := #[{ on := 2, ground := Go.Ground.data }, { on := 3, ground := Go.Ground.data }], guard := none }) (v := ?v48) rfl (by kernel_rfl) (by kernel_rfl) (by kernel_rfl) (fun _ _ _ h => h) (Or.inl ⟨by rfl, ?h48⟩) hHeld ?r48
              case h48 => (intro w hSw; (try dsimp only at hSw); go_simp; try with_reducible rfl)
              try simp only [Act.put, List.setIfInBounds_toArray, List.set_cons_zero, List.set_cons_succ]
              refine wpAnyH_take (i := 5) (oi := { dst := some 70, op := Go.Op.load 28 (Go.Operand.tmp 69), type := 28, pos := "l04_facts.go:240", after := #[{ on := 4, ground := Go.Ground.data }], guard := none }) (v := ?v49) rfl (by kernel_rfl) (by kernel_rfl) (by kernel_rfl) (fun _ _ _ h => h) (Or.inl ⟨by rfl, ?h49⟩) hHeld ?r49
              case h49 => (intro w hSw; (try dsimp only at hSw); go_simp; try with_reducible rfl)
              try simp only [Act.put, List.setIfInBounds_toArray, List.set_cons_zero, List.set_cons_succ]
              refine wpAnyH_take (i := 6) (oi := { dst := some 71, op := Go.Op.move (Go.Operand.tmp 9), type := 3, pos := "l04_facts.go:240", after := #[], guard := none }) (v := ?v50) rfl (by kernel_rfl) (by kernel_rfl) (by kernel_rfl) (fun _ _ _ h => h) (Or.inl ⟨by rfl, ?h50⟩) hHeld ?r50
              case h50 => (intro w hSw; (try dsimp only at hSw); go_simp; try with_reducible rfl)
              try simp only [Act.put, List.setIfInBounds_toArray, List.set_cons_zero, List.set_cons_succ]
              refine wpAnyH_take (i := 7) (oi := { dst := some 72, op := Go.Op.indexAddr 28 (Go.Operand.tmp 70) (Go.Operand.tmp 71), type := 0, pos := "l04_facts.go:240", after := #[{ on := 5, ground := Go.Ground.data }, { on := 6, ground := Go.Ground.data }], guard := none }) (v := ?v51) rfl (by kernel_rfl) (by kernel_rfl) (by kernel_rfl) (fun _ _ _ h => h) (Or.inl ⟨by rfl, ?h51⟩) hHeld ?r51
              case h51 => (intro w hSw; (try dsimp only at hSw); go_simp; try with_reducible rfl)
              try simp only [Act.put, List.setIfInBounds_toArray, List.set_cons_zero, List.set_cons_succ]
              refine wpAnyH_take (i := 8) (oi := { dst := some 73, op := Go.Op.load 4 (Go.Operand.tmp 72), type := 4, pos := "l04_facts.go:240", after := #[{ on := 7, ground := Go.Ground.data }], guard := none }) (v := ?v52) rfl (by kernel_rfl) (by kernel_rfl) (by kernel_rfl) (fun _ _ _ h => h) (Or.inl ⟨by rfl, ?h52⟩) hHeld ?r52
              case h52 => (intro w hSw; (try dsimp only at hSw); go_simp; try with_reducible rfl)
              try simp only [Act.put, List.setIfInBounds_toArray, List.set_cons_zero, List.set_cons_succ]
              refine wpAnyH_ready (rs := [1, 9]) (by kernel_rfl) (by simp) ?_
              refine (AllReadyH.cons (o := { dst := some 66, op := Go.Op.load 28 (Go.Operand.tmp 65), type := 28, pos := "l04_facts.go:240", after := #[{ on := 0, ground := Go.Ground.data }], guard := none }) rfl (fun K hK => ?_) (AllReadyH.cons (o := { dst := some 74, op := Go.Op.buildSlice 28 1 #[(0, Go.Operand.tmp 73)], type := 28, pos := "l04_facts.go:240", after := #[{ on := 8, ground := Go.Ground.data }], guard := none }) rfl (fun K hK => ?_) AllReadyH.nil))
              · go_simp
                clear hHeld
                refine hK.out _ _ hS0 (fun hHeld => ?_)
                clear hK K
                try simp only [Act.put, List.setIfInBounds_toArray, List.set_cons_zero, List.set_cons_succ]
                refine wpAnyH_ready (rs := [9]) (by kernel_rfl) (by simp) ?_
                refine (AllReadyH.cons (o := { dst := some 74, op := Go.Op.buildSlice 28 1 #[(0, Go.Operand.tmp 73)], type := 28, pos := "l04_facts.go:240", after := #[{ on := 8, ground := Go.Ground.data }], guard := none }) rfl (fun K hK => ?_) AllReadyH.nil)
                go_simp
                clear hHeld
                refine hK.out _ _ hS1 (fun hHeld => ?_)
                clear hK K
                try simp only [Act.put, List.setIfInBounds_toArray, List.set_cons_zero, List.set_cons_succ]
                refine wpAnyH_ready (rs := [10]) (by kernel_rfl) (by simp) ?_
                refine (AllReadyH.cons (o := { dst := some 75, op := Go.Op.call { callee := Go.Callee.builtin Go.Builtin.append, args := #[Go.Operand.tmp 66, Go.Operand.tmp 74], argTypes := #[28, 28] }, type := 28, pos := "l04_facts.go:240", after := #[{ on := 1, ground := Go.Ground.data }, { on := 9, ground := Go.Ground.data }], guard := none }) rfl (fun K hK => ?_) AllReadyH.nil)
                refine step_append_run rfl (.tmp 66) (.tmp 74) 28 28 rfl (by simp [Act.eval, Act.put]) (by simp [Act.eval, Act.put]) HR.out ?_
                clear hHeld
                refine hK.out _ _ hS2 (fun hHeld => ?_)
                clear hK K
                try simp only [Act.put, List.setIfInBounds_toArray, List.set_cons_zero, List.set_cons_succ]
                refine wpAnyH_take (i := 11) (oi := { dst := some 76, op := Go.Op.fieldAddr 32 (Go.Operand.tmp 6) 3, type := 0, pos := "l04_facts.go:240", after := #[{ on := 0, ground := Go.Ground.phase }, { on := 1, ground := Go.Ground.phase }, { on := 2, ground := Go.Ground.phase }, { on := 3, ground := Go.Ground.phase }, { on := 4, ground := Go.Ground.phase }, { on := 5, ground := Go.Ground.phase }, { on := 6, ground := Go.Ground.phase }, { on := 7, ground := Go.Ground.phase }, { on := 8, ground := Go.Ground.phase }, { on := 9, ground := Go.Ground.phase }, { on := 10, ground := Go.Ground.phase }], guard := none }) (v := ?v53) rfl (by kernel_rfl) (by kernel_rfl) (by kernel_rfl) (fun _ _ _ h => h) (Or.inl ⟨by rfl, ?h53⟩) hHeld ?r53
                case h53 => (intro w hSw; (try dsimp only at hSw); go_simp; try with_reducible rfl)
                try simp only [Act.put, List.setIfInBounds_toArray, List.set_cons_zero, List.set_cons_succ]
                refine wpAnyH_ready (rs := [12]) (by kernel_rfl) (by simp) ?_
                refine (AllReadyH.cons (o := { dst := none, op := Go.Op.store 28 (Go.Operand.tmp 76) (Go.Operand.tmp 75), type := 0, pos := "l04_facts.go:240", after := #[{ on := 11, ground := Go.Ground.data }, { on := 10, ground := Go.Ground.data }, { on := 10, ground := Go.Ground.chain }, { on := 0, ground := Go.Ground.phase }, { on := 1, ground := Go.Ground.phase }, { on := 2, ground := Go.Ground.phase }, { on := 3, ground := Go.Ground.phase }, { on := 4, ground := Go.Ground.phase }, { on := 5, ground := Go.Ground.phase }, { on := 6, ground := Go.Ground.phase }, { on := 7, ground := Go.Ground.phase }, { on := 8, ground := Go.Ground.phase }, { on := 9, ground := Go.Ground.phase }, { on := 10, ground := Go.Ground.phase }], guard := none }) rfl (fun K hK => ?_) AllReadyH.nil)
                go_simp
                clear hHeld
                refine hK.out _ _ hS3 (fun hHeld => ?_)
                clear hK K
                try simp only [Act.put, List.setIfInBounds_toArray, List.set_cons_zero, List.set_cons_succ]
                refine wpAnyH_done (by kernel_rfl) ?_ _
                go_wp2_with fail
                exact ⟨⟨k + 1, by go_num, by omega, HST⟩, by simp [intOf]; omega⟩
              · go_simp
                clear hHeld
                refine hK.out _ _ hS1 (fun hHeld => ?_)
                clear hK K
                try simp only [Act.put, List.setIfInBounds_toArray, List.set_cons_zero, List.set_cons_succ]
                refine wpAnyH_ready (rs := [1]) (by kernel_rfl) (by simp) ?_
                refine (AllReadyH.cons (o := { dst := some 66, op := Go.Op.load 28 (Go.Operand.tmp 65), type := 28, pos := "l04_facts.go:240", after := #[{ on := 0, ground := Go.Ground.data }], guard := none }) rfl (fun K hK => ?_) AllReadyH.nil)
                go_simp
                clear hHeld
                refine hK.out _ _ hS1 (fun hHeld => ?_)
                clear hK K
                try simp only [Act.put, List.setIfInBounds_toArray, List.set_cons_zero, List.set_cons_succ]
                refine wpAnyH_ready (rs := [10]) (by kernel_rfl) (by simp) ?_
                refine (AllReadyH.cons (o := { dst := some 75, op := Go.Op.call { callee := Go.Callee.builtin Go.Builtin.append, args := #[Go.Operand.tmp 66, Go.Operand.tmp 74], argTypes := #[28, 28] }, type := 28, pos := "l04_facts.go:240", after := #[{ on := 1, ground := Go.Ground.data }, { on := 9, ground := Go.Ground.data }], guard := none }) rfl (fun K hK => ?_) AllReadyH.nil)
                refine step_append_run rfl (.tmp 66) (.tmp 74) 28 28 rfl (by simp [Act.eval, Act.put]) (by simp [Act.eval, Act.put]) HR.out ?_
                clear hHeld
                refine hK.out _ _ hS2 (fun hHeld => ?_)
                clear hK K
                try simp only [Act.put, List.setIfInBounds_toArray, List.set_cons_zero, List.set_cons_succ]
                refine wpAnyH_take (i := 11) (oi := { dst := some 76, op := Go.Op.fieldAddr 32 (Go.Operand.tmp 6) 3, type := 0, pos := "l04_facts.go:240", after := #[{ on := 0, ground := Go.Ground.phase }, { on := 1, ground := Go.Ground.phase }, { on := 2, ground := Go.Ground.phase }, { on := 3, ground := Go.Ground.phase }, { on := 4, ground := Go.Ground.phase }, { on := 5, ground := Go.Ground.phase }, { on := 6, ground := Go.Ground.phase }, { on := 7, ground := Go.Ground.phase }, { on := 8, ground := Go.Ground.phase }, { on := 9, ground := Go.Ground.phase }, { on := 10, ground := Go.Ground.phase }], guard := none }) (v := ?v54) rfl (by kernel_rfl) (by kernel_rfl) (by kernel_rfl) (fun _ _ _ h => h) (Or.inl ⟨by rfl, ?h54⟩) hHeld ?r54
                case h54 => (intro w hSw; (try dsimp only at hSw); go_simp; try with_reducible rfl)
                try simp only [Act.put, List.setIfInBounds_toArray, List.set_cons_zero, List.set_cons_succ]
                refine wpAnyH_ready (rs := [12]) (by kernel_rfl) (by simp) ?_
                refine (AllReadyH.cons (o := { dst := none, op := Go.Op.store 28 (Go.Operand.tmp 76) (Go.Operand.tmp 75), type := 0, pos := "l04_facts.go:240", after := #[{ on := 11, ground := Go.Ground.data }, { on := 10, ground := Go.Ground.data }, { on := 10, ground := Go.Ground.chain }, { on := 0, ground := Go.Ground.phase }, { on := 1, ground := Go.Ground.phase }, { on := 2, ground := Go.Ground.phase }, { on := 3, ground := Go.Ground.phase }, { on := 4, ground := Go.Ground.phase }, { on := 5, ground := Go.Ground.phase }, { on := 6, ground := Go.Ground.phase }, { on := 7, ground := Go.Ground.phase }, { on := 8, ground := Go.Ground.phase }, { on := 9, ground := Go.Ground.phase }, { on := 10, ground := Go.Ground.phase }], guard := none }) rfl (fun K hK => ?_) AllReadyH.nil)
                go_simp
                clear hHeld
                refine hK.out _ _ hS3 (fun hHeld => ?_)
                clear hK K
                try simp only [Act.put, List.setIfInBounds_toArray, List.set_cons_zero, List.set_cons_succ]
                refine wpAnyH_done (by kernel_rfl) ?_ _
                go_wp2_with fail
                exact ⟨⟨k + 1, by go_num, by omega, HST⟩, by simp [intOf]; omega⟩
        · have hkn : k = d.nons.length := by omega
          subst hkn
          obtain ⟨u1, u2, u3, hf⟩ := HF.out
          obtain ⟨b1, n1, d1, rfl⟩ := hf.fs.frm u1 (by simp)
          obtain ⟨b2, n2, d2, rfl⟩ := hf.fs.frm u2 (by simp)
          obtain ⟨b3, n3, d3, rfl⟩ := hf.fs.frm u3 (by simp)
          obtain ⟨hbx, hlt0, hbw⟩ := HTZ.out wr hf.fs.bel
          have y0 : wr.cell? ⟨g, 0, none⟩ = some (.slice (some ⟨nb, 0, none⟩) d.nons.length d.nons.length) := hf.fs.at (j := 0) (by simp)
          have y1 : wr.cell? ⟨g, 1, none⟩ = some (.slice b1 n1 d1) := hf.fs.at (j := 1) (by simp)
          have y2 : wr.cell? ⟨g, 2, none⟩ = some (.slice b2 n2 d2) := hf.fs.at (j := 2) (by simp)
          have y3 : wr.cell? ⟨g, 3, none⟩ = some (.slice b3 n3 d3) := hf.fs.at (j := 3) (by simp)
          have y4 : wr.cell? ⟨g, 4, none⟩ = some (.slice (some ⟨lb, 0, none⟩) d.nons.length d.nons.length) := hf.fs.at (j := 4) (by simp)
          have y5 : wr.cell? ⟨g, 5, none⟩ = some (.slice (some ⟨fb, 0, none⟩) d.nons.length d.nons.length) := hf.fs.at (j := 5) (by simp)
          have y6 : wr.cell? ⟨g, 6, none⟩ = some (.slice (some ⟨ob, 0, none⟩) d.nons.length d.nons.length) := hf.fs.at (j := 6) (by simp)
          have z0 : wr.cell? ⟨w.heap.size + 1, 0, none⟩ = some (.slice none 0 0) := hbx.cell 0 (by simp)
          have z1 : wr.cell? ⟨w.heap.size + 1, 1, none⟩ = some (.slice none 0 0) := hbx.cell 1 (by simp)
          have z2 : wr.cell? ⟨w.heap.size + 1, 2, none⟩ = some (.slice none 0 0) := hbx.cell 2 (by simp)
          have z3 : wr.cell? ⟨w.heap.size + 1, 3, none⟩ = some (.slice none 0 0) := hbx.cell 3 (by simp)
          have z4 : wr.cell? ⟨w.heap.size + 1, 4, none⟩ = some (.slice none 0 0) := hbx.cell 4 (by simp)
          have z5 : wr.cell? ⟨w.heap.size + 1, 5, none⟩ = some (.slice none 0 0) := hbx.cell 5 (by simp)
          have z6 : wr.cell? ⟨w.heap.size + 1, 6, none⟩ = some (.slice none 0 0) := hbx.cell 6 (by simp)
          have zf0 := hbx.frozen 0
          have zf1 := hbx.frozen 1
          have zf2 := hbx.frozen 2
          have zf3 := hbx.frozen 3
          have zf4 := hbx.frozen 4
          have zf5 := hbx.frozen 5
          have zf6 := hbx.frozen 6
          have HZ := (show Hid (∀ i, i < 7 → (((((((wr.setCell ⟨w.heap.size + 1, 0, none⟩ (.slice (some ⟨nb, 0, none⟩) d.nons.length d.nons.length)).setCell ⟨w.heap.size + 1, 1, none⟩ (.slice b1 n1 d1)).setCell ⟨w.heap.size + 1, 2, none⟩ (.slice b2 n2 d2)).setCell ⟨w.heap.size + 1, 3, none⟩ (.slice b3 n3 d3)).setCell ⟨w.heap.size + 1, 4, none⟩ (.slice (some ⟨lb, 0, none⟩) d.nons.length d.nons.length)).setCell ⟨w.heap.size + 1, 5, none⟩ (.slice (some ⟨fb, 0, none⟩) d.nons.length d.nons.length)).setCell ⟨w.heap.size + 1, 6, none⟩ (.slice (some ⟨ob, 0, none⟩) d.nons.length d.nons.length)).cell? ⟨w.heap.size + 1, i, none⟩ = some ([.slice (some ⟨nb, 0, none⟩) d.nons.length d.nons.length, .slice b1 n1 d1, .slice b2 n2 d2, .slice b3 n3 d3, .slice (some ⟨lb, 0, none⟩) d.nons.length d.nons.length, .slice (some ⟨fb, 0, none⟩) d.nons.length d.nons.length, .slice (some ⟨ob, 0, none⟩) d.nons.length d.nons.length].getD i .nilFunc)) from fun i hi => by
            have hbq : Box (((((((wr.setCell ⟨w.heap.size + 1, 0, none⟩ (.slice (some ⟨nb, 0, none⟩) d.nons.length d.nons.length)).setCell ⟨w.heap.size + 1, 1, none⟩ (.slice b1 n1 d1)).setCell ⟨w.heap.size + 1, 2, none⟩ (.slice b2 n2 d2)).setCell ⟨w.heap.size + 1, 3, none⟩ (.slice b3 n3 d3)).setCell ⟨w.heap.size + 1, 4, none⟩ (.slice (some ⟨lb, 0, none⟩) d.nons.length d.nons.length)).setCell ⟨w.heap.size + 1, 5, none⟩ (.slice (some ⟨fb, 0, none⟩) d.nons.length d.nons.length)).setCell ⟨w.heap.size + 1, 6, none⟩ (.slice (some ⟨ob, 0, none⟩) d.nons.length d.nons.length)) (w.heap.size + 1) 32 [.slice (some ⟨nb, 0, none⟩) d.nons.length d.nons.length, .slice b1 n1 d1, .slice b2 n2 d2, .slice b3 n3 d3, .slice (some ⟨lb, 0, none⟩) d.nons.length d.nons.length, .slice (some ⟨fb, 0, none⟩) d.nons.length d.nons.length, .slice (some ⟨ob, 0, none⟩) d.nons.length d.nons.length] := by
              obtain ⟨c, q1, q2, q3⟩ := World.rowIs.set (World.rowIs.set (World.rowIs.set (World.rowIs.set (World.rowIs.set (World.rowIs.set (World.rowIs.set (hbx.ex) 0 (.slice (some ⟨nb, 0, none⟩) d.nons.length d.nons.length)) 1 (.slice b1 n1 d1)) 2 (.slice b2 n2 d2)) 3 (.slice b3 n3 d3)) 4 (.slice (some ⟨lb, 0, none⟩) d.nons.length d.nons.length)) 5 (.slice (some ⟨fb, 0, none⟩) d.nons.length d.nons.length)) 6 (.slice (some ⟨ob, 0, none⟩) d.nons.length d.nons.length)
              refine ⟨⟨c, q1, q2, fun i hi => ?_⟩⟩
              rw [q3 i hi]
              have hi7 : i < 7 := hi
              have : i = 0 ∨ i = 1 ∨ i = 2 ∨ i = 3 ∨ i = 4 ∨ i = 5 ∨ i = 6 := by omega
              rcases this with rfl | rfl | rfl | rfl | rfl | rfl | rfl <;> rfl
            exact hbq.cell i (by simpa using hi))
          have HFIN : Hid (Below w.heap.size w (((((((wr.setCell ⟨w.heap.size + 1, 0, none⟩ (.slice (some ⟨nb, 0, none⟩) d.nons.length d.nons.length)).setCell ⟨w.heap.size + 1, 1, none⟩ (.slice b1 n1 d1)).setCell ⟨w.heap.size + 1, 2, none⟩ (.slice b2 n2 d2)).setCell ⟨w.heap.size + 1, 3, none⟩ (.slice b3 n3 d3)).setCell ⟨w.heap.size + 1, 4, none⟩ (.slice (some ⟨lb, 0, none⟩) d.nons.length d.nons.length)).setCell ⟨w.heap.size + 1, 5, none⟩ (.slice (some ⟨fb, 0, none⟩) d.nons.length d.nons.length)).setCell ⟨w.heap.size + 1, 6, none⟩ (.slice (some ⟨ob, 0, none⟩) d.nons.length d.nons.length)) ∧ SpA d (((((((wr.setCell ⟨w.heap.size + 1, 0, none⟩ (.slice (some ⟨nb, 0, none⟩) d.nons.length d.nons.length)).setCell ⟨w.heap.size + 1, 1, none⟩ (.slice b1 n1 d1)).setCell ⟨w.heap.size + 1, 2, none⟩ (.slice b2 n2 d2)).setCell ⟨w.heap.size + 1, 3, none⟩ (.slice b3 n3 d3)).setCell ⟨w.heap.size + 1, 4, none⟩ (.slice (some ⟨lb, 0, none⟩) d.nons.length d.nons.length)).setCell ⟨w.heap.size + 1, 5, none⟩ (.slice (some ⟨fb, 0, none⟩) d.nons.length d.nons.length)).setCell ⟨w.heap.size + 1, 6, none⟩ (.slice (some ⟨ob, 0, none⟩) d.nons.length d.nons.length)) [.slice (some ⟨nb, 0, none⟩) d.nons.length d.nons.length, .slice b1 n1 d1, .slice b2 n2 d2, .slice b3 n3 d3, .slice (some ⟨lb, 0, none⟩) d.nons.length d.nons.length, .slice (some ⟨fb, 0, none⟩) d.nons.length d.nons.length, .slice (some ⟨ob, 0, none⟩) d.nons.length d.nons.length] nl F M O FA FL) := by
            have hnil : ∀ v ∈ ([.slice none 0 0, .slice none 0 0, .slice none 0 0, .slice none 0 0, .slice none 0 0, .slice none 0 0, .slice none 0 0] : List Value), ∃ a n c, v = .slice a n c := by intro v hv; simp at hv; exact ⟨_, _, _, hv⟩
            have hs2 : SB wr (w.heap.size + 1) := hbx.sb rfl hnil
            have hl1 : ∀ q, q < wA.heap.size → q ≠ g → wr.heap[q]? = wA.heap[q]? := fun q hq hg => hf.low q (by rw [← HB1.out]; exact hq) hg
            have hl2 : ∀ q, q < wr.heap.size → q ≠ w.heap.size + 1 → (((((((wr.setCell ⟨w.heap.size + 1, 0, none⟩ (.slice (some ⟨nb, 0, none⟩) d.nons.length d.nons.length)).setCell ⟨w.heap.size + 1, 1, none⟩ (.slice b1 n1 d1)).setCell ⟨w.heap.size + 1, 2, none⟩ (.slice b2 n2 d2)).setCell ⟨w.heap.size + 1, 3, none⟩ (.slice b3 n3 d3)).setCell ⟨w.heap.size + 1, 4, none⟩ (.slice (some ⟨lb, 0, none⟩) d.nons.length d.nons.length)).setCell ⟨w.heap.size + 1, 5, none⟩ (.slice (some ⟨fb, 0, none⟩) d.nons.length d.nons.length)).setCell ⟨w.heap.size + 1, 6, none⟩ (.slice (some ⟨ob, 0, none⟩) d.nons.length d.nons.length)).heap[q]? = wr.heap[q]? := fun q _ hne => blk7 _ _ _ _ _ _ _ hne
            have hown := hf.fs.own.tail
            rw [List.append_nil] at hown
            refine ⟨bel7 _ _ _ _ _ _ _ hbw (Nat.le_succ _), B0, nb, fb, lb, ob, vF, vO, rfl, hown.keep (fun q hq => blk7 _ _ _ _ _ _ _ (by omega)), rfl, rfl, rfl, rfl, row_past (row_past HKB.out.nr (by decide) HSB.out hl1) (by decide) hs2 hl2, row_past (row_past HKB.out.mr (by decide) HSB.out hl1) (by decide) hs2 hl2, (HKB.out.fF.past HSB.out hl1).past hs2 hl2, (HKB.out.fO.past HSB.out hl1).past hs2 hl2, HP17.out, ⟨HKB.out.mlen, HKB.out.msnd, HKB.out.mq⟩, HP18.out, ⟨HKB.out.oo, HKB.out.om⟩, HM7.out.2.2.1, HM7.out.2.2.2⟩
          clear hf hbx hlt0 hbw HF HKB HSB HM7 HT1 HTZ HB1 H0 HP17 HP18 HOK
          go_wp2_with fail
          have Z0 := HZ.out 0 (by omega)
          have Z1 := HZ.out 1 (by omega)
          have Z2 := HZ.out 2 (by omega)
          have Z3 := HZ.out 3 (by omega)
          have Z4 := HZ.out 4 (by omega)
          have Z5 := HZ.out 5 (by omega)
          have Z6 := HZ.out 6 (by omega)
          simp only [List.getD_cons_zero, List.getD_cons_succ] at Z0 Z1 Z2 Z3 Z4 Z5 Z6
          refine bodyPost_ret (v := .tuple #[.agg #[.slice (some ⟨nb, 0, none⟩) d.nons.length d.nons.length, .slice b1 n1 d1, .slice b2 n2 d2, .slice b3 n3 d3, .slice (some ⟨lb, 0, none⟩) d.nons.length d.nons.length, .slice (some ⟨fb, 0, none⟩) d.nons.length d.nons.length, .slice (some ⟨ob, 0, none⟩) d.nons.length d.nons.length], .int .i64 0]) (by simp [results, Tryd.results5, go_sem, Z0, Z1, Z2, Z3, Z4, Z5, Z6]) rfl ?_
          exact ⟨HFIN.out.1, fun h => absurd h (by decide), fun _ => ⟨_, nl, F, M, O, FA, FL, rfl, HFIN.out.2⟩⟩
end Go.Proofs.YtjpjjfgdgieapaaDoor
