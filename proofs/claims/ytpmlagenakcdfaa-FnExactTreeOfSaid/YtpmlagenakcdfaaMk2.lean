import Derived.Test.YtpmlagenakcdfaaToO
import Derived.Deep.CutRange
import Derived.Test.YtpmlagenakcdfaaMk
namespace Go.Proofs.Ytpmlagenakcdfaa
open Go.RowKit Go.Deep
set_option linter.unusedVariables false
set_option maxRecDepth 100000
set_option linter.unusedSimpArgs false

/-- Plain rules that own what they lie in. -/
structure BOwn (w : World) (S : Nat → Prop) (d : Bn) (v0 v1 v3 : Value) : Prop where
  terms : TmsO w S d.terms v0
  nons : StrsO w S d.nons v1
  prods : PdsO w S d.prods v3
theorem BOwn.keep {w w' : World} {S : Nat → Prop} {d : Bn} {v0 v1 v3 : Value} (h : BOwn w S d v0 v1 v3) (hb : ∀ b, S b → b < w.heap.size → w'.heap[b]? = w.heap[b]?) : BOwn w' S d v0 v1 v3 := ⟨h.terms.keep hb, h.nons.keep hb, h.prods.keep hb⟩
theorem BOwn.still {w w' : World} {S : Nat → Prop} {d : Bn} {v0 v1 v3 : Value} (h : BOwn w S d v0 v1 v3) (hb : Below w.heap.size w w') : BOwn w' S d v0 v1 v3 := ⟨h.terms.still hb, h.nons.still hb, h.prods.still hb⟩
theorem BOwn.mono {w : World} {S S' : Nat → Prop} {d : Bn} {v0 v1 v3 : Value} (h : BOwn w S d v0 v1 v3) (hS : ∀ b, S b → S' b) : BOwn w S' d v0 v1 v3 := ⟨h.terms.mono hS, h.nons.mono hS, h.prods.mono hS⟩
theorem BOwn.top {w : World} {S : Nat → Prop} {d : Bn} {v0 v1 v3 : Value} (h : BOwn w S d v0 v1 v3) : BOwn w (fun b => S b ∧ b < w.heap.size) d v0 v1 v3 := ⟨h.terms.top, h.nons.top, h.prods.top⟩
theorem BOwn.lies {w : World} {S : Nat → Prop} {d : Bn} {v0 v1 v3 : Value} (h : BOwn w S d v0 v1 v3) : BLies w S d v0 v1 v3 := ⟨h.terms.lies, h.nons.lies, h.prods.lies⟩
set_option maxHeartbeats 1600000 in
theorem toBnfO_any {S : Nat → Prop} (d : Bn) (v0 v1 v3 : Value) (w : World) (h : BLies w S d v0 v1 v3) (hs : d.Small) :
    Calls Try.prog 8 #[.agg #[v0, v1, .int .i64 d.own, v3]] w fun e w' => ∃ u0 u1 u3, e = .returned (.agg #[u0, u1, .int .i64 d.own, u3]) ∧ Below w.heap.size w w' ∧ BOwn w' (fun b => w.heap.size ≤ b) d u0 u1 u3 := by
  obtain ⟨a0, p0, a1, p1, a3, p3, rfl, rfl, rfl⟩ := h.form
  obtain ⟨hbw, hz, q1, q2, q3⟩ := wb_boxes w (.slice a0 d.terms.length p0) (.slice a1 d.nons.length p1) (.int .i64 d.own) (.slice a3 d.prods.length p3)
  have hL := h.still hbw
  have HT := (show Hid _ from toTermsO_any d.terms _ _ hL.terms hs.terms)
  obtain ⟨x0, x1, x2, x3⟩ := q1.cells
  have H0 := (show Hid _ from (⟨hbw, hz, q1, q2, q3, h, hs⟩ : Below w.heap.size w (WB w (.slice a0 d.terms.length p0) (.slice a1 d.nons.length p1) (.int .i64 d.own) (.slice a3 d.prods.length p3)) ∧ (WB w (.slice a0 d.terms.length p0) (.slice a1 d.nons.length p1) (.int .i64 d.own) (.slice a3 d.prods.length p3)).heap.size = w.heap.size + 3 ∧ Box4 (WB w (.slice a0 d.terms.length p0) (.slice a1 d.nons.length p1) (.int .i64 d.own) (.slice a3 d.prods.length p3)) w.heap.size 26 _ _ _ _ ∧ Box4 (WB w (.slice a0 d.terms.length p0) (.slice a1 d.nons.length p1) (.int .i64 d.own) (.slice a3 d.prods.length p3)) (w.heap.size + 1) 34 _ _ _ _ ∧ Box4 (WB w (.slice a0 d.terms.length p0) (.slice a1 d.nons.length p1) (.int .i64 d.own) (.slice a3 d.prods.length p3)) (w.heap.size + 1 + 1) 34 _ _ _ _ ∧ BLies w S d (.slice a0 d.terms.length p0) (.slice a1 d.nons.length p1) (.slice a3 d.prods.length p3) ∧ d.Small)); clear hbw hz q1 q2 q3 hL h hs
  go_enter Try.func8, Try.ntmps8
  go_wp2_with fail
  refine Calls.mono HT.out ?_
  rintro e w1 ⟨u0, rfl, hb1, ht1⟩
  obtain ⟨b0, r0, rfl, _⟩ := ht1.form
  obtain ⟨hbw, hz, q1, q2, q3, h, hs⟩ := H0.out
  rw [hz] at ht1
  have hz1 : w.heap.size + 3 ≤ w1.heap.size := by have := hb1.size; omega
  have q1' := q1.still hb1
  have q2' := q2.still hb1
  have q3' := q3.still hb1
  have y0 := q3'.frozen 0
  have t0 := q3'.cells.1
  have hb4 : Below w.heap.size w (w1.setCell ⟨w.heap.size + 1 + 1, 0, none⟩ (.slice b0 d.terms.length r0)) := (hbw.trans (hb1.mono (by rw [hz]; omega))).setCell (by dsimp only; omega) _
  have HN := (show Hid _ from (⟨q1'.past (by omega), q2'.past (by omega), q3'.set0 (.slice b0 d.terms.length r0), ht1.keep (fun b hb _ => blk_setCell_other _ _ _ _ (by have hb' : w.heap.size + 3 ≤ b := hb; show b ≠ w.heap.size + 1 + 1; omega)), hb4, by simpa using hz1⟩ : Box4 (w1.setCell ⟨w.heap.size + 1 + 1, 0, none⟩ (.slice b0 d.terms.length r0)) w.heap.size 26 (.slice a0 d.terms.length p0) (.slice a1 d.nons.length p1) (.int .i64 d.own) (.slice a3 d.prods.length p3) ∧ Box4 (w1.setCell ⟨w.heap.size + 1 + 1, 0, none⟩ (.slice b0 d.terms.length r0)) (w.heap.size + 1) 34 (.slice none 0 0) (.slice none 0 0) (.int .i64 0) (.slice none 0 0) ∧ Box4 (w1.setCell ⟨w.heap.size + 1 + 1, 0, none⟩ (.slice b0 d.terms.length r0)) (w.heap.size + 1 + 1) 34 (.slice b0 d.terms.length r0) (.slice none 0 0) (.int .i64 0) (.slice none 0 0) ∧ TmsO (w1.setCell ⟨w.heap.size + 1 + 1, 0, none⟩ (.slice b0 d.terms.length r0)) (fun b => w.heap.size + 3 ≤ b) d.terms (.slice b0 d.terms.length r0) ∧ Below w.heap.size w (w1.setCell ⟨w.heap.size + 1 + 1, 0, none⟩ (.slice b0 d.terms.length r0)) ∧ w.heap.size + 3 ≤ (w1.setCell ⟨w.heap.size + 1 + 1, 0, none⟩ (.slice b0 d.terms.length r0)).heap.size))
  have HT2 := (show Hid _ from toStrsO_any d.nons _ _ (h.nons.still hb4) hs.nons)
  have HS := (show Hid _ from (⟨h, hs⟩ : BLies w S d (.slice a0 d.terms.length p0) (.slice a1 d.nons.length p1) (.slice a3 d.prods.length p3) ∧ d.Small))
  clear hbw hz q1 q2 q3 h hs ht1 hz1 q1' q2' q3' hb1 hb4 x0 x1 x2 x3 H0 HT
  have x1 := HN.out.1.cells.2.1
  go_upto_region 3 with fail
  clear y0 t0
  generalize w1.setCell ⟨w.heap.size + 1 + 1, 0, none⟩ (.slice b0 d.terms.length r0) = W4 at *
  go_wp2_with fail
  refine Calls.mono HT2.out ?_
  rintro e w2 ⟨u1, rfl, hb2, ht2⟩
  obtain ⟨b1, r1, rfl, _⟩ := ht2.form
  obtain ⟨q1, q2, q3, tt, hb4, hz4⟩ := HN.out
  have hz2 : w.heap.size + 3 ≤ w2.heap.size := by have := hb2.size; omega
  have q1' := q1.still hb2
  have q2' := q2.still hb2
  have q3' := q3.still hb2
  have y1 := q3'.frozen 1
  have y2 := q3'.frozen 2
  have t1 := q3'.cells.2.1
  have t2 := q3'.cells.2.2.1
  have x2 := q1'.cells.2.2.1
  have hkp : ∀ b, w.heap.size + 3 ≤ b → ((w2.setCell ⟨w.heap.size + 1 + 1, 1, none⟩ (.slice b1 d.nons.length r1)).setCell ⟨w.heap.size + 1 + 1, 2, none⟩ (.int .i64 d.own)).heap[b]? = w2.heap[b]? := fun b hb => (blk_setCell_other _ _ _ _ (by show b ≠ w.heap.size + 1 + 1; omega)).trans (blk_setCell_other _ _ _ _ (by show b ≠ w.heap.size + 1 + 1; omega))
  have hb5 : Below w.heap.size w ((w2.setCell ⟨w.heap.size + 1 + 1, 1, none⟩ (.slice b1 d.nons.length r1)).setCell ⟨w.heap.size + 1 + 1, 2, none⟩ (.int .i64 d.own)) := ((hb4.trans (hb2.mono (by omega))).setCell (by dsimp only; omega) _).setCell (by dsimp only; omega) _
  have HN2 := (show Hid _ from (⟨(q1'.past (by omega)).past (by omega), (q2'.past (by omega)).past (by omega), (q3'.set1 (.slice b1 d.nons.length r1)).set2 (.int .i64 d.own), (tt.still hb2).keep (fun b hb _ => hkp b hb), (ht2.mono (fun b hb => Nat.le_trans hz4 hb)).keep (fun b hb _ => hkp b hb), hb5, by simpa using hz2⟩ : Box4 ((w2.setCell ⟨w.heap.size + 1 + 1, 1, none⟩ (.slice b1 d.nons.length r1)).setCell ⟨w.heap.size + 1 + 1, 2, none⟩ (.int .i64 d.own)) w.heap.size 26 (.slice a0 d.terms.length p0) (.slice a1 d.nons.length p1) (.int .i64 d.own) (.slice a3 d.prods.length p3) ∧ Box4 ((w2.setCell ⟨w.heap.size + 1 + 1, 1, none⟩ (.slice b1 d.nons.length r1)).setCell ⟨w.heap.size + 1 + 1, 2, none⟩ (.int .i64 d.own)) (w.heap.size + 1) 34 (.slice none 0 0) (.slice none 0 0) (.int .i64 0) (.slice none 0 0) ∧ Box4 ((w2.setCell ⟨w.heap.size + 1 + 1, 1, none⟩ (.slice b1 d.nons.length r1)).setCell ⟨w.heap.size + 1 + 1, 2, none⟩ (.int .i64 d.own)) (w.heap.size + 1 + 1) 34 (.slice b0 d.terms.length r0) (.slice b1 d.nons.length r1) (.int .i64 d.own) (.slice none 0 0) ∧ TmsO ((w2.setCell ⟨w.heap.size + 1 + 1, 1, none⟩ (.slice b1 d.nons.length r1)).setCell ⟨w.heap.size + 1 + 1, 2, none⟩ (.int .i64 d.own)) (fun b => w.heap.size + 3 ≤ b) d.terms (.slice b0 d.terms.length r0) ∧ StrsO ((w2.setCell ⟨w.heap.size + 1 + 1, 1, none⟩ (.slice b1 d.nons.length r1)).setCell ⟨w.heap.size + 1 + 1, 2, none⟩ (.int .i64 d.own)) (fun b => w.heap.size + 3 ≤ b) d.nons (.slice b1 d.nons.length r1) ∧ Below w.heap.size w ((w2.setCell ⟨w.heap.size + 1 + 1, 1, none⟩ (.slice b1 d.nons.length r1)).setCell ⟨w.heap.size + 1 + 1, 2, none⟩ (.int .i64 d.own)) ∧ w.heap.size + 3 ≤ ((w2.setCell ⟨w.heap.size + 1 + 1, 1, none⟩ (.slice b1 d.nons.length r1)).setCell ⟨w.heap.size + 1 + 1, 2, none⟩ (.int .i64 d.own)).heap.size))
  have HT3 := (show Hid _ from toProdsO_any d.prods _ _ (HS.out.1.prods.still hb5) HS.out.2.prods HS.out.2.right)
  clear q1 q2 q3 tt hb4 hz4 hz2 q1' q2' q3' hkp hb5 hb2 ht2 x1 HN HT2
  have x3 := HN2.out.1.cells.2.2.2
  go_upto_region 5 with fail
  clear y1 y2 t1 t2 x2
  generalize (w2.setCell ⟨w.heap.size + 1 + 1, 1, none⟩ (.slice b1 d.nons.length r1)).setCell ⟨w.heap.size + 1 + 1, 2, none⟩ (.int .i64 d.own) = W5 at *
  go_wp2_with fail
  refine Calls.mono HT3.out ?_
  rintro e w3 ⟨u3, rfl, hb3, ht3⟩
  obtain ⟨b3, r3, rfl, _⟩ := ht3.form
  obtain ⟨q1, q2, q3, tt, ts, hb5, hz5⟩ := HN2.out
  have q2' := q2.still hb3
  have q3' := q3.still hb3
  obtain ⟨z0, z1, z2, z3⟩ := q3'.cells
  obtain ⟨s0, s1, s2, s3⟩ := q2'.cells
  have y3 := q3'.frozen 3
  have g0 := q2'.frozen 0
  have g1 := q2'.frozen 1
  have g2 := q2'.frozen 2
  have g3 := q2'.frozen 3
  have HE := (show Hid _ from (⟨tt.still hb3, ts.still hb3, ht3.mono (fun b hb => Nat.le_trans hz5 hb), hb5.trans (hb3.mono (by omega))⟩ : TmsO w3 (fun b => w.heap.size + 3 ≤ b) d.terms (.slice b0 d.terms.length r0) ∧ StrsO w3 (fun b => w.heap.size + 3 ≤ b) d.nons (.slice b1 d.nons.length r1) ∧ PdsO w3 (fun b => w.heap.size + 3 ≤ b) d.prods (.slice b3 d.prods.length r3) ∧ Below w.heap.size w w3))
  clear q1 q2 q3 tt ts hb5 hz5 q2' q3' hb3 ht3 x3 HN2 HT3
  go_wp2_with fail
  refine bodyPost_ret (v := .agg #[.slice b0 d.terms.length r0, .slice b1 d.nons.length r1, .int .i64 d.own, .slice b3 d.prods.length r3]) (by simp [results, Try.results8, go_sem, s0, s1, s2, s3]) rfl ⟨_, _, _, rfl, ?_, ?_, ?_, ?_⟩
  · repeat (refine Below.setCell ?_ (by dsimp only; omega) _)
    exact HE.out.2.2.2
  · refine (TmsO.keep HE.out.1 (fun b hb _ => ?_)).mono (fun b hb => by have hb' : w.heap.size + 3 ≤ b := hb; show w.heap.size ≤ b; omega)
    have hb' : w.heap.size + 3 ≤ b := hb
    repeat rw [blk_setCell_other _ _ _ _ (by dsimp only; omega)]
  · refine (StrsO.keep HE.out.2.1 (fun b hb _ => ?_)).mono (fun b hb => by have hb' : w.heap.size + 3 ≤ b := hb; show w.heap.size ≤ b; omega)
    have hb' : w.heap.size + 3 ≤ b := hb
    repeat rw [blk_setCell_other _ _ _ _ (by dsimp only; omega)]
  · refine (PdsO.keep HE.out.2.2.1 (fun b hb _ => ?_)).mono (fun b hb => by have hb' : w.heap.size + 3 ≤ b := hb; show w.heap.size ≤ b; omega)
    have hb' : w.heap.size + 3 ≤ b := hb
    repeat rw [blk_setCell_other _ _ _ _ (by dsimp only; omega)]
end Go.Proofs.Ytpmlagenakcdfaa

/-! Marks: numbers, texts, Terms, Prods, plain rules. -/
namespace Go.Proofs.Ytpmlagenakcdfaa
open Go.RowKit Go.Deep
set_option linter.unusedVariables false
set_option maxRecDepth 100000
set_option linter.unusedSimpArgs false

/-- Numbers in the row b, which may be longer. -/
def OwnI (w : World) (b : Nat) (l : List Int) (v : Value) : Prop :=
  ∃ (a : Option Addr) (cap : Nat) (f : Nat → Value), v = .slice a l.length cap ∧ l.length ≤ cap ∧ cap ≤ maxLen ∧ (0 < l.length → a = some ⟨b, 0, none⟩ ∧ w.rowIs b 3 cap f) ∧ ∀ i (hi : i < l.length), f i = .int .i64 l[i]
theorem OwnI.keep {w w' : World} {b : Nat} {l : List Int} {v : Value} (h : OwnI w b l v) (hb : b < w.heap.size → w'.heap[b]? = w.heap[b]?) : OwnI w' b l v := by
  obtain ⟨a, cap, f, hv, hc, hm, ha, hf⟩ := h
  exact ⟨a, cap, f, hv, hc, hm, fun h0 => ⟨(ha h0).1, World.rowIs.of_block (ha h0).2 (hb (World.rowIs.lt (ha h0).2))⟩, hf⟩
theorem OwnI.still {w w' : World} {b : Nat} {l : List Int} {v : Value} (h : OwnI w b l v) (hb : Below w.heap.size w w') : OwnI w' b l v := h.keep (fun hlt => hb.block b hlt)
theorem OwnI.out {w w' : World} {b lo hi : Nat} {l : List Int} {v : Value} (h : OwnI w b l v) (ho : Out lo hi w w') (hb : b < lo ∨ hi ≤ b) : OwnI w' b l v := h.keep (fun hlt => ho.2.2.2.2 b hlt hb)
theorem OwnI.form {w : World} {b : Nat} {l : List Int} {v : Value} (h : OwnI w b l v) : ∃ a cap, v = .slice a l.length cap ∧ l.length ≤ maxLen := by
  obtain ⟨a, cap, f, hv, hc, hm, _⟩ := h
  exact ⟨_, _, hv, by omega⟩
theorem OwnI.ints {w : World} {b : Nat} {l : List Int} {v : Value} (h : OwnI w b l v) : Ints w (fun c => c = b) l v := by
  obtain ⟨a, cap, f, hv, hc, hm, ha, hf⟩ := h
  refine ⟨a, cap, b, 0, hv, hc, hm, fun h0 => ⟨(ha h0).1, rfl⟩, fun i hi => ?_⟩
  rw [Nat.zero_add, (ha (by omega)).2.cell (by omega), hf i hi]
theorem IRow.own {w : World} {b : Nat} {l : List Int} (h : IRow w b l) (hl : l.length ≤ maxLen) : OwnI w b l (.slice (some ⟨b, 0, none⟩) l.length l.length) :=
  ⟨_, _, _, rfl, Nat.le_refl _, hl, fun _ => ⟨rfl, h⟩, fun i hi => by simp [List.getD_eq_getElem?_getD, hi]⟩
/-- Numbers from n on. -/
def cnt (n m : Nat) : List Int := (List.range m).map fun i => ((n + i : Nat) : Int)
theorem cnt_len (n m : Nat) : (cnt n m).length = m := by simp [cnt]
theorem cnt_get (n m i : Nat) (h : i < (cnt n m).length) : (cnt n m)[i] = ((n + i : Nat) : Int) := by simp [cnt]

set_option maxHeartbeats 800000 in
theorem markInts_any (l : List Int) (b n : Nat) (v : Value) (w : World) (h : OwnI w b l v) (hn : n + l.length ≤ 1125899906842624) :
    Calls Try.prog 14 #[v, .int .i64 n] w fun e w' => e = .returned (.int .i64 (n + l.length : Nat)) ∧ Out b (b + 1) w w' ∧ OwnI w' b (cnt n l.length) v := by
  obtain ⟨a, cap, f0, rfl, hc, hm, ha, hf⟩ := h
  have HA := (show Hid _ from ha); clear ha
  clear hf
  unfold maxLen at hm
  go_enter Try.func14, Try.ntmps14
  go_wp2_with fail
  go_loopw [1, 5] (fun u i wr => ∃ (j : Nat), j ≤ l.length ∧ i = .int .i64 j ∧ u = .int .i64 (n + j : Nat) ∧ Out b (b + 1) w wr ∧ Hid (0 < l.length → ∃ f, wr.rowIs b 3 cap f ∧ ∀ i, i < j → f i = .int .i64 (n + i : Nat))) (fun _ i _ => l.length - (intOf i).toNat)
  case atStart => exact ⟨0, Nat.zero_le _, rfl, rfl, Out.refl _ _ _, fun h0 => ⟨_, (HA.out h0).2, fun i hi => absurd hi (Nat.not_lt_zero _)⟩⟩
  case round =>
    obtain ⟨j, hj, rfl, rfl, hout, HM⟩ := hrel
    by_cases hlt : j < l.length
    · obtain ⟨rfl, _⟩ := HA.out (by omega)
      obtain ⟨f, hrow, hf⟩ := HM.out (by omega)
      have e0 := hrow.cell (i := j) (by omega)
      have z0 := hrow.frozen j
      have HR := (show Hid _ from (⟨hrow, hf⟩ : _ ∧ _)); clear hrow hf
      go_wp2_with fail
      refine ⟨⟨j + 1, by omega, by go_num, by go_num, hout.trans (Out.set _ _ (Nat.le_refl _) (by omega)), fun _ => ⟨_, World.rowIs.set HR.out.1 j _, fun i hi => ?_⟩⟩, by simp [intOf]; omega⟩
      by_cases e : i = j
      · subst e; simp
      · rw [if_neg e]; exact HR.out.2 i (by omega)
    · obtain rfl : j = l.length := by omega
      go_wp2_with fail
      go_ret
      refine ⟨rfl, hout, ?_⟩
      by_cases h0 : 0 < l.length
      · obtain ⟨f, hrow, hf⟩ := HM.out h0
        refine ⟨a, cap, f, by rw [cnt_len], by rw [cnt_len]; exact hc, by unfold maxLen; omega, fun _ => ⟨(HA.out h0).1, hrow⟩, fun i hi => ?_⟩
        rw [cnt_get, hf i (by rw [cnt_len] at hi; exact hi)]
      · refine ⟨a, cap, fun _ => .bool false, by rw [cnt_len], by rw [cnt_len]; exact hc, by unfold maxLen; omega, fun h1 => absurd (by rw [cnt_len] at h1; exact h1) h0, fun i hi => absurd (by rw [cnt_len] at hi; omega) h0⟩
set_option maxHeartbeats 800000 in
theorem heldInts_any (b n m : Nat) (v : Value) (w : World) (h : OwnI w b (cnt n m) v) (hn : n + m ≤ 1125899906842624) :
    Calls Try.prog 15 #[v, .int .i64 n] w fun e w' => e = .returned (.int .i64 (n + m : Nat)) ∧ Below w.heap.size w w' := by
  obtain ⟨a, cap, c, off, hv, hc, hm, ha, hcell⟩ := h.ints
  rw [cnt_len] at hv hc ha
  subst hv
  have HC := (show Hid (∀ i, i < m → w.cell? ⟨c, off + i, none⟩ = some (.int .i64 (n + i : Nat))) from fun i hi => by
    have := hcell i (by rw [cnt_len]; exact hi)
    rw [cnt_get] at this
    exact this)
  clear hcell h
  have HA := (show Hid _ from ha); clear ha
  unfold maxLen at hm
  go_enter Try.func15, Try.ntmps15
  go_wp2_with fail
  go_loopw [1, 5] (fun u i wr => ∃ (j : Nat), j ≤ m ∧ i = .int .i64 j ∧ u = .int .i64 (n + j : Nat) ∧ wr = w) (fun _ i _ => m - (intOf i).toNat)
  case atStart => exact ⟨0, Nat.zero_le _, rfl, rfl, rfl⟩
  case round =>
    obtain ⟨j, hj, rfl, rfl, rfl⟩ := hrel
    by_cases hlt : j < m
    · obtain ⟨rfl, hcb⟩ := HA.out (by omega)
      clear hcb
      have c0 := HC.out j hlt
      have hne : (((n + j : Nat) : Int) != ((n + j : Nat) : Int)) = false := by simp
      go_wp2_with fail
      exact ⟨⟨j + 1, by omega, by go_num, by go_num, trivial⟩, by simp [intOf]; omega⟩
    · obtain rfl : j = m := by omega
      go_wp2_with fail
      go_ret
      exact ⟨rfl, Below.refl _ _⟩
set_option maxHeartbeats 800000 in
theorem markStrs_any (l b n : Nat) (w : World) (h : ∃ f, w.rowIs b 9 l f) (hl : l ≤ 1048576) (h0 : 0 < n) (hn : n + l ≤ 1125899906842624) :
    Calls Try.prog 42 #[.slice (some ⟨b, 0, none⟩) l l, .int .i64 n] w fun e w' => e = .returned (.int .i64 (n + l : Nat)) ∧ Out b (b + 1) w w' := by
  have HR0 := (show Hid _ from h); clear h
  go_enter Try.func42, Try.ntmps42
  go_wp2_with fail
  go_loopw [1, 5] (fun u i wr => ∃ (j : Nat), j ≤ l ∧ i = .int .i64 j ∧ u = .int .i64 (n + j : Nat) ∧ Out b (b + 1) w wr ∧ Hid (∃ f, wr.rowIs b 9 l f)) (fun _ i _ => l - (intOf i).toNat)
  case atStart => exact ⟨0, Nat.zero_le _, rfl, by simp, Out.refl _ _ _, HR0⟩
  case round =>
    obtain ⟨j, hj, rfl, rfl, hout, HM⟩ := hrel
    by_cases hlt : j < l
    · obtain ⟨f, hrow⟩ := HM.out
      clear HM
      have HR := (show Hid _ from hrow); clear hrow
      have HT := (show Hid _ from fun (k : Int) (w : World) (h0 : 0 < k) (hk : k ≤ 1125899906842624) => markText_any k w h0 hk)
      go_wp2_with fail
      refine Calls.mono (HT.out _ _ (by omega) (by omega)) ?_
      rintro e x0 ⟨s0, rfl, _, hb0⟩
      have HR0 := (show Hid _ from World.rowIs.of_block HR.out (hb0.block b (World.rowIs.lt HR.out)))
      have HO0 := (show Hid _ from Out.trans hout (Out.of_below hb0)); clear hb0
      have e0 := World.rowIs.cell HR0.out (i := j) (by omega)
      have z0 := World.rowIs.frozen HR0.out j
      go_wp2_with fail
      exact ⟨⟨j + 1, by omega, by go_num, by go_num, (Out.trans HO0.out (Out.set _ _ (Nat.le_refl _) (by omega))), _, (World.rowIs.set HR0.out j _)⟩, by simp [intOf]; omega⟩
    · obtain rfl : j = l := by omega
      go_wp2_with fail
      go_ret
      exact ⟨rfl, hout⟩
set_option maxHeartbeats 800000 in
theorem markTms_any (l b n : Nat) (w : World) (h : ∃ f, w.rowIs b 115 (l * 3) f) (hl : l ≤ 1048576) (h0 : 0 < n) (hn : n + l * 3 ≤ 1125899906842624) :
    Calls Try.prog 41 #[.slice (some ⟨b, 0, none⟩) l l, .int .i64 n] w fun e w' => e = .returned (.int .i64 (n + l * 3 : Nat)) ∧ Out b (b + 1) w w' := by
  have HR0 := (show Hid _ from h); clear h
  go_enter Try.func41, Try.ntmps41
  go_wp2_with fail
  go_loopw [1, 5] (fun u i wr => ∃ (j : Nat), j ≤ l ∧ i = .int .i64 j ∧ u = .int .i64 (n + j * 3 : Nat) ∧ Out b (b + 1) w wr ∧ Hid (∃ f, wr.rowIs b 115 (l * 3) f)) (fun _ i _ => l - (intOf i).toNat)
  case atStart => exact ⟨0, Nat.zero_le _, rfl, by simp, Out.refl _ _ _, HR0⟩
  case round =>
    obtain ⟨j, hj, rfl, rfl, hout, HM⟩ := hrel
    by_cases hlt : j < l
    · obtain ⟨f, hrow⟩ := HM.out
      clear HM
      have HR := (show Hid _ from hrow); clear hrow
      have HT := (show Hid _ from fun (k : Int) (w : World) (h0 : 0 < k) (hk : k ≤ 1125899906842624) => markText_any k w h0 hk)
      go_wp2_with fail
      refine Calls.mono (HT.out _ _ (by omega) (by omega)) ?_
      rintro e x0 ⟨s0, rfl, _, hb0⟩
      have HR0 := (show Hid _ from World.rowIs.of_block HR.out (hb0.block b (World.rowIs.lt HR.out)))
      have HO0 := (show Hid _ from Out.trans hout (Out.of_below hb0)); clear hb0
      have e0 := World.rowIs.cell HR0.out (i := j * 3) (by omega)
      have z0 := World.rowIs.frozen HR0.out (j * 3)
      have e1 := World.rowIs.cell HR0.out (i := j * 3 + 1) (by omega)
      have z1 := World.rowIs.frozen HR0.out (j * 3 + 1)
      have e2 := World.rowIs.cell HR0.out (i := j * 3 + 2) (by omega)
      have z2 := World.rowIs.frozen HR0.out (j * 3 + 2)
      go_wp2_with fail
      exact ⟨⟨j + 1, by omega, by go_num, by go_num, (Out.trans (Out.trans (Out.trans HO0.out (Out.set _ _ (Nat.le_refl _) (by omega))) (Out.set _ _ (Nat.le_refl _) (by omega))) (Out.set _ _ (Nat.le_refl _) (by omega))), _, (World.rowIs.set (World.rowIs.set (World.rowIs.set HR0.out (j * 3) _) (j * 3 + 1) _) (j * 3 + 2) _)⟩, by simp [intOf]; omega⟩
    · obtain rfl : j = l := by omega
      go_wp2_with fail
      go_ret
      exact ⟨rfl, hout⟩
end Go.Proofs.Ytpmlagenakcdfaa
