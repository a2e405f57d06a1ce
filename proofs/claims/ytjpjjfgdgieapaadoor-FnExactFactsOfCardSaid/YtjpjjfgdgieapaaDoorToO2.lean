import Derived.Test.YtjpjjfgdgieapaaDoorToO
import Derived.Deep.CutRange
namespace Go.Proofs.YtjpjjfgdgieapaaDoor
open Go.RowKit Go.Deep
set_option linter.unusedVariables false
set_option maxRecDepth 100000
set_option linter.unusedSimpArgs false

/-- Plain rules that own what they lie in. -/
structure BOwn (w : World) (S : Nat → Prop) (d : Bn) (v0 v1 v3 : Value) : Prop where
  terms : TmsO w S d.terms v0
  nons : StrsO w S d.nons v1
  prods : PdsO w S d.prods v3
theorem BOwn.keep {w w' : World} {S : Nat → Prop} {d : Bn} {v0 v1 v3 : Value} (h : BOwn w S d v0 v1 v3) (hb : ∀ b, S b → b < w.heap.size → w'.heap[b]? = w.heap[b]?) : BOwn w' S d v0 v1 v3 := ⟨h.terms.keep hb, h.nons.keep hb, h.prods.keep hb⟩
theorem BOwn.still {w w' : World} {S : Nat → Prop} {d : Bn} {v0 v1 v3 : Value} (h : BOwn w S d v0 v1 v3) (hb : Below w.heap.size w w') : BOwn w' S d v0 v1 v3 := ⟨h.terms.still hb, h.nons.still hb, h.prods.still hb⟩
theorem BOwn.mono {w : World} {S S' : Nat → Prop} {d : Bn} {v0 v1 v3 : Value} (h : BOwn w S d v0 v1 v3) (hS : ∀ b, S b → S' b) : BOwn w S' d v0 v1 v3 := ⟨h.terms.mono hS, h.nons.mono hS, h.prods.mono hS⟩
theorem BOwn.top {w : World} {S : Nat → Prop} {d : Bn} {v0 v1 v3 : Value} (h : BOwn w S d v0 v1 v3) : BOwn w (fun b => S b ∧ b < w.heap.size) d v0 v1 v3 := ⟨h.terms.top, h.nons.top, h.prods.top⟩
theorem BOwn.lies {w : World} {S : Nat → Prop} {d : Bn} {v0 v1 v3 : Value} (h : BOwn w S d v0 v1 v3) : BLies w S d v0 v1 v3 := ⟨h.terms.lies, h.nons.lies, h.prods.lies⟩
set_option maxHeartbeats 1600000 in
theorem toBnfO_any {S : Nat → Prop} (d : Bn) (v0 v1 v3 : Value) (w : World) (h : BLies w S d v0 v1 v3) (hs : d.Small) :
    Calls Tryd.prog 6 #[.agg #[v0, v1, .int .i64 d.own, v3]] w fun e w' => ∃ u0 u1 u3, e = .returned (.agg #[u0, u1, .int .i64 d.own, u3]) ∧ Below w.heap.size w w' ∧ BOwn w' (fun b => w.heap.size ≤ b) d u0 u1 u3 := by
  obtain ⟨a0, p0, a1, p1, a3, p3, rfl, rfl, rfl⟩ := h.form
  obtain ⟨hbw, hz, q1, q2, q3⟩ := wb_boxes w (.slice a0 d.terms.length p0) (.slice a1 d.nons.length p1) (.int .i64 d.own) (.slice a3 d.prods.length p3)
  have hL := h.still hbw
  have HT := (show Hid _ from toTermsO_any d.terms _ _ hL.terms hs.terms)
  obtain ⟨x0, x1, x2, x3⟩ := q1.cells
  have H0 := (show Hid _ from (⟨hbw, hz, q1, q2, q3, h, hs⟩ : Below w.heap.size w (WB w (.slice a0 d.terms.length p0) (.slice a1 d.nons.length p1) (.int .i64 d.own) (.slice a3 d.prods.length p3)) ∧ (WB w (.slice a0 d.terms.length p0) (.slice a1 d.nons.length p1) (.int .i64 d.own) (.slice a3 d.prods.length p3)).heap.size = w.heap.size + 3 ∧ Box4 (WB w (.slice a0 d.terms.length p0) (.slice a1 d.nons.length p1) (.int .i64 d.own) (.slice a3 d.prods.length p3)) w.heap.size 26 _ _ _ _ ∧ Box4 (WB w (.slice a0 d.terms.length p0) (.slice a1 d.nons.length p1) (.int .i64 d.own) (.slice a3 d.prods.length p3)) (w.heap.size + 1) 38 _ _ _ _ ∧ Box4 (WB w (.slice a0 d.terms.length p0) (.slice a1 d.nons.length p1) (.int .i64 d.own) (.slice a3 d.prods.length p3)) (w.heap.size + 1 + 1) 38 _ _ _ _ ∧ BLies w S d (.slice a0 d.terms.length p0) (.slice a1 d.nons.length p1) (.slice a3 d.prods.length p3) ∧ d.Small)); clear hbw hz q1 q2 q3 hL h hs
  go_enter Tryd.func6, Tryd.ntmps6
  go_wp2_with fail
  refine Calls.mono HT.out ?_
  rintro e w1 ⟨u0, rfl, hb1, ht1⟩
  obtain ⟨b0, r0, rfl, _⟩ := ht1.form
  obtain ⟨hbw, hz, q1, q2, q3, h, hs⟩ := H0.out
  rw [hz] at ht1
  have hz1 : w.heap.size + 3 ≤ w1.heap.size := by have := hb1.size; omega
  have q1' := q1.still hb1
  have q2' := q2.still hb1
  have q3' := q3.still hb1
  have y0 := q3'.frozen 0
  have t0 := q3'.cells.1
  have hb4 : Below w.heap.size w (w1.setCell ⟨w.heap.size + 1 + 1, 0, none⟩ (.slice b0 d.terms.length r0)) := (hbw.trans (hb1.mono (by rw [hz]; omega))).setCell (by dsimp only; omega) _
  have HN := (show Hid _ from (⟨q1'.past (by omega), q2'.past (by omega), q3'.set0 (.slice b0 d.terms.length r0), ht1.keep (fun b hb _ => blk_setCell_other _ _ _ _ (by have hb' : w.heap.size + 3 ≤ b := hb; show b ≠ w.heap.size + 1 + 1; omega)), hb4, by simpa using hz1⟩ : Box4 (w1.setCell ⟨w.heap.size + 1 + 1, 0, none⟩ (.slice b0 d.terms.length r0)) w.heap.size 26 (.slice a0 d.terms.length p0) (.slice a1 d.nons.length p1) (.int .i64 d.own) (.slice a3 d.prods.length p3) ∧ Box4 (w1.setCell ⟨w.heap.size + 1 + 1, 0, none⟩ (.slice b0 d.terms.length r0)) (w.heap.size + 1) 38 (.slice none 0 0) (.slice none 0 0) (.int .i64 0) (.slice none 0 0) ∧ Box4 (w1.setCell ⟨w.heap.size + 1 + 1, 0, none⟩ (.slice b0 d.terms.length r0)) (w.heap.size + 1 + 1) 38 (.slice b0 d.terms.length r0) (.slice none 0 0) (.int .i64 0) (.slice none 0 0) ∧ TmsO (w1.setCell ⟨w.heap.size + 1 + 1, 0, none⟩ (.slice b0 d.terms.length r0)) (fun b => w.heap.size + 3 ≤ b) d.terms (.slice b0 d.terms.length r0) ∧ Below w.heap.size w (w1.setCell ⟨w.heap.size + 1 + 1, 0, none⟩ (.slice b0 d.terms.length r0)) ∧ w.heap.size + 3 ≤ (w1.setCell ⟨w.heap.size + 1 + 1, 0, none⟩ (.slice b0 d.terms.length r0)).heap.size))
  have HT2 := (show Hid _ from toStrsO_any d.nons _ _ (h.nons.still hb4) hs.nons)
  have HS := (show Hid _ from (⟨h, hs⟩ : BLies w S d (.slice a0 d.terms.length p0) (.slice a1 d.nons.length p1) (.slice a3 d.prods.length p3) ∧ d.Small))
  clear hbw hz q1 q2 q3 h hs ht1 hz1 q1' q2' q3' hb1 hb4 x0 x1 x2 x3 H0 HT
  have x1 := HN.out.1.cells.2.1
  go_upto_region 3 with fail
  clear y0 t0
  generalize w1.setCell ⟨w.heap.size + 1 + 1, 0, none⟩ (.slice b0 d.terms.length r0) = W4 at *
  go_wp2_with fail
  refine Calls.mono HT2.out ?_
  rintro e w2 ⟨u1, rfl, hb2, ht2⟩
  obtain ⟨b1, r1, rfl, _⟩ := ht2.form
  obtain ⟨q1, q2, q3, tt, hb4, hz4⟩ := HN.out
  have hz2 : w.heap.size + 3 ≤ w2.heap.size := by have := hb2.size; omega
  have q1' := q1.still hb2
  have q2' := q2.still hb2
  have q3' := q3.still hb2
  have y1 := q3'.frozen 1
  have y2 := q3'.frozen 2
  have t1 := q3'.cells.2.1
  have t2 := q3'.cells.2.2.1
  have x2 := q1'.cells.2.2.1
  have hkp : ∀ b, w.heap.size + 3 ≤ b → ((w2.setCell ⟨w.heap.size + 1 + 1, 1, none⟩ (.slice b1 d.nons.length r1)).setCell ⟨w.heap.size + 1 + 1, 2, none⟩ (.int .i64 d.own)).heap[b]? = w2.heap[b]? := fun b hb => (blk_setCell_other _ _ _ _ (by show b ≠ w.heap.size + 1 + 1; omega)).trans (blk_setCell_other _ _ _ _ (by show b ≠ w.heap.size + 1 + 1; omega))
  have hb5 : Below w.heap.size w ((w2.setCell ⟨w.heap.size + 1 + 1, 1, none⟩ (.slice b1 d.nons.length r1)).setCell ⟨w.heap.size + 1 + 1, 2, none⟩ (.int .i64 d.own)) := ((hb4.trans (hb2.mono (by omega))).setCell (by dsimp only; omega) _).setCell (by dsimp only; omega) _
  have HN2 := (show Hid _ from (⟨(q1'.past (by omega)).past (by omega), (q2'.past (by omega)).past (by omega), (q3'.set1 (.slice b1 d.nons.length r1)).set2 (.int .i64 d.own), (tt.still hb2).keep (fun b hb _ => hkp b hb), (ht2.mono (fun b hb => Nat.le_trans hz4 hb)).keep (fun b hb _ => hkp b hb), hb5, by simpa using hz2⟩ : Box4 ((w2.setCell ⟨w.heap.size + 1 + 1, 1, none⟩ (.slice b1 d.nons.length r1)).setCell ⟨w.heap.size + 1 + 1, 2, none⟩ (.int .i64 d.own)) w.heap.size 26 (.slice a0 d.terms.length p0) (.slice a1 d.nons.length p1) (.int .i64 d.own) (.slice a3 d.prods.length p3) ∧ Box4 ((w2.setCell ⟨w.heap.size + 1 + 1, 1, none⟩ (.slice b1 d.nons.length r1)).setCell ⟨w.heap.size + 1 + 1, 2, none⟩ (.int .i64 d.own)) (w.heap.size + 1) 38 (.slice none 0 0) (.slice none 0 0) (.int .i64 0) (.slice none 0 0) ∧ Box4 ((w2.setCell ⟨w.heap.size + 1 + 1, 1, none⟩ (.slice b1 d.nons.length r1)).setCell ⟨w.heap.size + 1 + 1, 2, none⟩ (.int .i64 d.own)) (w.heap.size + 1 + 1) 38 (.slice b0 d.terms.length r0) (.slice b1 d.nons.length r1) (.int .i64 d.own) (.slice none 0 0) ∧ TmsO ((w2.setCell ⟨w.heap.size + 1 + 1, 1, none⟩ (.slice b1 d.nons.length r1)).setCell ⟨w.heap.size + 1 + 1, 2, none⟩ (.int .i64 d.own)) (fun b => w.heap.size + 3 ≤ b) d.terms (.slice b0 d.terms.length r0) ∧ StrsO ((w2.setCell ⟨w.heap.size + 1 + 1, 1, none⟩ (.slice b1 d.nons.length r1)).setCell ⟨w.heap.size + 1 + 1, 2, none⟩ (.int .i64 d.own)) (fun b => w.heap.size + 3 ≤ b) d.nons (.slice b1 d.nons.length r1) ∧ Below w.heap.size w ((w2.setCell ⟨w.heap.size + 1 + 1, 1, none⟩ (.slice b1 d.nons.length r1)).setCell ⟨w.heap.size + 1 + 1, 2, none⟩ (.int .i64 d.own)) ∧ w.heap.size + 3 ≤ ((w2.setCell ⟨w.heap.size + 1 + 1, 1, none⟩ (.slice b1 d.nons.length r1)).setCell ⟨w.heap.size + 1 + 1, 2, none⟩ (.int .i64 d.own)).heap.size))
  have HT3 := (show Hid _ from toProdsO_any d.prods _ _ (HS.out.1.prods.still hb5) HS.out.2.prods HS.out.2.right)
  clear q1 q2 q3 tt hb4 hz4 hz2 q1' q2' q3' hkp hb5 hb2 ht2 x1 HN HT2
  have x3 := HN2.out.1.cells.2.2.2
  go_upto_region 5 with fail
  clear y1 y2 t1 t2 x2
  generalize (w2.setCell ⟨w.heap.size + 1 + 1, 1, none⟩ (.slice b1 d.nons.length r1)).setCell ⟨w.heap.size + 1 + 1, 2, none⟩ (.int .i64 d.own) = W5 at *
  go_wp2_with fail
  refine Calls.mono HT3.out ?_
  rintro e w3 ⟨u3, rfl, hb3, ht3⟩
  obtain ⟨b3, r3, rfl, _⟩ := ht3.form
  obtain ⟨q1, q2, q3, tt, ts, hb5, hz5⟩ := HN2.out
  have q2' := q2.still hb3
  have q3' := q3.still hb3
  obtain ⟨z0, z1, z2, z3⟩ := q3'.cells
  obtain ⟨s0, s1, s2, s3⟩ := q2'.cells
  have y3 := q3'.frozen 3
  have g0 := q2'.frozen 0
  have g1 := q2'.frozen 1
  have g2 := q2'.frozen 2
  have g3 := q2'.frozen 3
  have HE := (show Hid _ from (⟨tt.still hb3, ts.still hb3, ht3.mono (fun b hb => Nat.le_trans hz5 hb), hb5.trans (hb3.mono (by omega))⟩ : TmsO w3 (fun b => w.heap.size + 3 ≤ b) d.terms (.slice b0 d.terms.length r0) ∧ StrsO w3 (fun b => w.heap.size + 3 ≤ b) d.nons (.slice b1 d.nons.length r1) ∧ PdsO w3 (fun b => w.heap.size + 3 ≤ b) d.prods (.slice b3 d.prods.length r3) ∧ Below w.heap.size w w3))
  clear q1 q2 q3 tt ts hb5 hz5 q2' q3' hb3 ht3 x3 HN2 HT3
  go_wp2_with fail
  refine bodyPost_ret (v := .agg #[.slice b0 d.terms.length r0, .slice b1 d.nons.length r1, .int .i64 d.own, .slice b3 d.prods.length r3]) (by simp [results, Tryd.results6, go_sem, s0, s1, s2, s3]) rfl ⟨_, _, _, rfl, ?_, ?_, ?_, ?_⟩
  · repeat (refine Below.setCell ?_ (by dsimp only; omega) _)
    exact HE.out.2.2.2
  · refine (TmsO.keep HE.out.1 (fun b hb _ => ?_)).mono (fun b hb => by have hb' : w.heap.size + 3 ≤ b := hb; show w.heap.size ≤ b; omega)
    have hb' : w.heap.size + 3 ≤ b := hb
    repeat rw [blk_setCell_other _ _ _ _ (by dsimp only; omega)]
  · refine (StrsO.keep HE.out.2.1 (fun b hb _ => ?_)).mono (fun b hb => by have hb' : w.heap.size + 3 ≤ b := hb; show w.heap.size ≤ b; omega)
    have hb' : w.heap.size + 3 ≤ b := hb
    repeat rw [blk_setCell_other _ _ _ _ (by dsimp only; omega)]
  · refine (PdsO.keep HE.out.2.2.1 (fun b hb _ => ?_)).mono (fun b hb => by have hb' : w.heap.size + 3 ≤ b := hb; show w.heap.size ≤ b; omega)
    have hb' : w.heap.size + 3 ≤ b := hb
    repeat rw [blk_setCell_other _ _ _ _ (by dsimp only; omega)]
end Go.Proofs.YtjpjjfgdgieapaaDoor
