import Derived.Test.YtpmlagenakcdfaaZj
import Derived.Test.YtpmlagenakcdfaaMk4
import Derived.Test.YtpmlagenakcdfaaTo3
import Derived.Test.YtpmlagenakcdfaaEq
import Derived.Deep.CutRange
/-! The law FnExactTreeOf, walked. -/
namespace Go.Proofs.Ytpmlagenakcdfaa
open Go.RowKit Go.Deep
set_option linter.unusedVariables false
set_option maxRecDepth 100000
set_option linter.unusedSimpArgs false

theorem Ints.ltT {w : World} {S : Nat → Prop} {l : List Int} {v : Value} (h : Ints w S l v) : Ints w (fun b => b < w.heap.size) l v := by
  obtain ⟨a, cap, b, off, hv, hc, hm, ha, hcell⟩ := h
  exact ⟨a, cap, b, off, hv, hc, hm, fun h0 => ⟨(ha h0).1, lt_of_cell (hcell 0 h0)⟩, hcell⟩
theorem Tms.ltT {w : World} {S : Nat → Prop} {l : List Tm} {v : Value} (h : Tms w S l v) : Tms w (fun b => b < w.heap.size) l v := by
  obtain ⟨a, cap, b, off, hv, hc, hm, ha, hcell⟩ := h
  exact ⟨a, cap, b, off, hv, hc, hm, fun h0 => ⟨(ha h0).1, lt_of_cell (hcell 0 h0).1⟩, hcell⟩
theorem Strs.ltT {w : World} {S : Nat → Prop} {l : List ByteArray} {v : Value} (h : Strs w S l v) : Strs w (fun b => b < w.heap.size) l v := by
  obtain ⟨a, cap, b, off, hv, hc, hm, ha, hcell⟩ := h
  exact ⟨a, cap, b, off, hv, hc, hm, fun h0 => ⟨(ha h0).1, lt_of_cell (hcell 0 h0).1⟩, hcell⟩
theorem Pds.ltT {w : World} {S : Nat → Prop} {l : List Pd} {v : Value} (h : Pds w S l v) : Pds w (fun b => b < w.heap.size) l v := by
  obtain ⟨a, cap, b, off, sv, hv, hc, hm, ha, hcell, hr⟩ := h
  exact ⟨a, cap, b, off, sv, hv, hc, hm, fun h0 => ⟨(ha h0).1, lt_of_cell (hcell 0 h0).1⟩, hcell, fun i hi => (hr i hi).ltT⟩
theorem BLies.ltT {w : World} {S : Nat → Prop} {d : Bn} {v0 v1 v3 : Value} (h : BLies w S d v0 v1 v3) : BLies w (fun b => b < w.heap.size) d v0 v1 v3 := ⟨h.terms.ltT, h.nons.ltT, h.prods.ltT⟩
theorem out_belowT {w Z Z' : World} {lo hi B : Nat} (h : Below B w Z) (ho : Out lo hi Z Z') (hB : B ≤ lo) (hz : B ≤ Z.heap.size) : Below B w Z' :=
  ⟨ho.1.trans h.os, ho.2.1.trans h.tape, ho.2.2.1.trans h.output, Nat.le_trans h.size ho.2.2.2.1, fun k hk => (ho.2.2.2.2 k (by omega) (by omega)).trans (h.block k hk)⟩
theorem treR_cnt (d : Bn) (L : List Int) (ws : List Wd) : (treR d L ws).1.cnt ≤ 1000 := by
  have hz : T.zt.cnt ≤ 1000 := by unfold T.zt; rw [T.Tr.cnt_mk]; simp [T.Tr.cntL]
  unfold treR
  split
  · exact hz
  · split
    · split
      · rename_i h
        unfold T.Tr.ok at h
        simp only [Bool.and_eq_true, decide_eq_true_eq] at h
        exact h.1.1
      · exact hz
    · exact hz
/-- What lies there: the argument's box, both trees. -/
structure LSt (w : World) (d : Bn) (t : T.Tr) (A P G ls hs lg hg : Nat) (va0 va1 va3 vp vg : Value) (Z : World) : Prop where
  fa : Four Z A va0 va1 (.int .i64 d.own) va3
  fp : Four Z P (.string t.name) (.string t.text) (.bool t.leaf) vp
  fg : Four Z G (.string t.name) (.string t.text) (.bool t.leaf) vg
  p0 : T.Lies Z (fun q => ls ≤ q ∧ q < hs) t vp
  g0 : T.Own Z lg hg t vg
  bel : Below w.heap.size w Z
theorem LSt.still {w : World} {d : Bn} {t : T.Tr} {A P G ls hs lg hg : Nat} {va0 va1 va3 vp vg : Value} {Z Z' : World} (h : LSt w d t A P G ls hs lg hg va0 va1 va3 vp vg Z) (hb : Below Z.heap.size Z Z') : LSt w d t A P G ls hs lg hg va0 va1 va3 vp vg Z' :=
  ⟨h.fa.still hb, h.fp.still hb, h.fg.still hb, T.Lies.still h.p0 hb, T.Own.still h.g0 hb, bel_trans h.bel hb⟩
theorem LSt.out {w : World} {d : Bn} {t : T.Tr} {A P G ls hs lg hg lo hi : Nat} {va0 va1 va3 vp vg : Value} {Z Z' : World} (h : LSt w d t A P G ls hs lg hg va0 va1 va3 vp vg Z) (ho : Out lo hi Z Z') (hA : A < lo) (hP : P < lo) (hs' : hs ≤ P) (hgl : hi ≤ lg) (hG : hi ≤ G) (hw : w.heap.size ≤ A) : LSt w d t A P G ls hs lg hg va0 va1 va3 vp vg Z' := by
  have hPz : P < Z.heap.size := lt_of_cell h.fp.1
  exact ⟨h.fa.out ho (.inl hA), h.fp.out ho (.inl hP), h.fg.out ho (.inr hG), T.Lies.keep (fun q hq => ho.2.2.2.2 q (by omega) (.inl (by omega))) h.p0, T.Own.keep h.g0 (Nat.le_refl _) (Nat.le_refl _) (fun k h1 h2 h3 => ho.2.2.2.2 k h3 (.inr (by omega))), out_belowT h.bel ho (by omega) h.bel.size⟩
/-- .. and the copies that the program had. -/
structure LSx (d : Bn) (L : List Int) (ws : List Wd) (X lo hi bx bw : Nat) (vx0 vx1 vx3 : Value) (Z : World) : Prop where
  fx : Four Z X vx0 vx1 (.int .i64 d.own) vx3
  x0 : BOwn Z (fun b => lo ≤ b ∧ b < hi) d vx0 vx1 vx3
  x1 : OwnI Z bx L (.slice (some ⟨bx, 0, none⟩) L.length L.length)
  x2 : WdsR Z bw ws
theorem LSx.still {d : Bn} {L : List Int} {ws : List Wd} {X lo hi bx bw : Nat} {vx0 vx1 vx3 : Value} {Z Z' : World} (h : LSx d L ws X lo hi bx bw vx0 vx1 vx3 Z) (hb : Below Z.heap.size Z Z') : LSx d L ws X lo hi bx bw vx0 vx1 vx3 Z' :=
  ⟨h.fx.still hb, h.x0.still hb, h.x1.still hb, h.x2.still hb⟩
set_option maxHeartbeats 25600000 in
theorem lawTo {S S' : Nat → Prop} (d : Bn) (L : List Int) (ws : List Wd) (v0 v1 v3 vd vl : Value) (w : World) (h : BLies w S d v0 v1 v3) (hd : Ints w S L vd) (hl : Wds w S' ws vl) :
    Calls Try.prog 5 #[.agg #[v0, v1, .int .i64 d.own, v3], vd, vl] w fun e w' => e = .returned (.bool true) ∧ Below w.heap.size w w' := by
  have hb0 := bel_alloc w (.cells #[v0, v1, .int .i64 d.own, v3] 26)
  have HSZ := (show Hid _ from szBnf_any d v0 v1 v3 _ 1048576 (h.still hb0) (Nat.le_refl _))
  have HSW := (show Hid _ from fun w' (hb : Below w.heap.size w w') n (hn : n ≤ 1048576) => szWds_any ws vl w' n (hl.still hb) hn)
  have HTO := (show Hid _ from fun w' (hb : Below w.heap.size w w') (hs : d.Small) => toBnfO_any d v0 v1 v3 w' (h.still hb) hs)
  have HTI := (show Hid _ from fun w' (hb : Below w.heap.size w w') (hs : L.length ≤ 1048576) => toInts_any L vd w' (hd.still hb) hs)
  have HTW := (show Hid _ from fun w' (hb : Below w.heap.size w w') (hn : ws.length ≤ 1048576) => toWds_any ws vl w' (hl.still hb) hn)
  have HSP := (show Hid (∀ (S1 S2 : Nat → Prop) (y0 y1 y3 z : Value) (b : Nat) (w' : World), BLies w' S1 d y0 y1 y3 → Ints w' S2 L z → WdsR w' b ws → ws.length ≤ maxLen → (∀ i (hi : i < ws.length), ws[i].name.size ≤ 1048576 ∧ ws[i].text.size ≤ 1048576 ∧ ws[i].modes.size ≤ 1048576) → Calls Try.prog 19 #[.agg #[y0, y1, .int .i64 d.own, y3], z, .slice (some ⟨b, 0, none⟩) ws.length ws.length] w' fun e w'' => TLn (treR d L ws) w' e w'') from fun S1 S2 y0 y1 y3 z b w' h1 h2 h3 h4 h5 => sTreeOf d L ws y0 y1 y3 z _ w' h1.ltT h2.ltT (h3.lies h4) h5 (fun b hb => hb) (fun c hc => by rw [hc]; exact h3.lt))
  have HIM := (show Hid (∀ (S1 S2 : Nat → Prop) (y0 y1 y3 z : Value) (b : Nat) (w' : World), BLies w' S1 d y0 y1 y3 → Ints w' S2 L z → WdsR w' b ws → ws.length ≤ maxLen → (∀ i (hi : i < ws.length), ws[i].name.size ≤ 1048576 ∧ ws[i].text.size ≤ 1048576 ∧ ws[i].modes.size ≤ 1048576) → Calls Try.prog 21 #[.agg #[y0, y1, .int .i64 d.own, y3], z, .slice (some ⟨b, 0, none⟩) ws.length ws.length] w' fun e w'' => TAn (treR d L ws) w' e w'') from fun S1 S2 y0 y1 y3 z b w' h1 h2 h3 h4 h5 => iTreeOf d L ws y0 y1 y3 z _ w' h1.ltT h2.ltT (h3.lies h4) h5 (fun b hb => hb) (fun c hc => by rw [hc]; exact h3.lt))
  have hRl := treR_cnt d L ws
  generalize treR d L ws = R at *
  obtain ⟨t, C⟩ := R
  dsimp only at hRl
  have hneC : ((C : Int) != C) = false := by simp
  have HCN := (show Hid _ from hRl)
  obtain ⟨a0, p0, a1, p1, a3, p3, rfl, rfl, rfl⟩ := h.form
  obtain ⟨ad, cd, rfl, hdm⟩ := hd.form
  obtain ⟨al, cl, rfl, hlm0⟩ := hl.form
  unfold maxLen at hdm hlm0
  clear h hd hl hRl
  have TH := (show Hid _ from four_box w (.slice a0 d.terms.length p0) (.slice a1 d.nons.length p1) (.int .i64 d.own) (.slice a3 d.prods.length p3) 26)
  obtain ⟨T0, T1, T2, T3⟩ := Four.still TH.out (Below.refl _ _)
  by_cases hll : L.length ≤ 1048576
  case neg =>
    have i0 : decide ((L.length : Int) > 1048576) = true := by simp; omega
    have HB0 := (show Hid _ from hb0)
    clear hb0
    go_enter Try.func5, Try.ntmps5
    go_wp2_with fail
    go_ret
    exact ⟨rfl, HB0.out⟩
  have i0 : decide ((L.length : Int) > 1048576) = false := by simp; omega
  go_enter Try.func5, Try.ntmps5
  go_wp2_with fail
  refine Calls.mono HSZ.out ?_
  rintro e w1 ⟨rfl | ⟨m1, rfl, hm1, hsm1⟩, hb1⟩
  · have hbw := bel_trans hb0 hb1
    go_wp2_with fail
    go_ret
    exact ⟨rfl, hbw⟩
  have hbw1 : Below w.heap.size w w1 := bel_trans hb0 hb1
  have HB1 := (show Hid _ from (⟨hbw1, hb1⟩ : _ ∧ _))
  have HS := (show Hid _ from hsm1); clear hsm1 T0 T1 T2 T3 hb1 HSZ hb0 i0 hbw1
  go_wp2_with fail
  refine Calls.mono (HSW.out _ HB1.out.1 m1 hm1) ?_
  rintro e w2 ⟨rfl | ⟨m2, rfl, hm2, hsm2⟩, hb2⟩
  · have hbw := bel_trans HB1.out.1 hb2
    go_wp2_with fail
    go_ret
    exact ⟨rfl, hbw⟩
  have hbw2 : Below w.heap.size w w2 := bel_trans HB1.out.1 hb2
  have hbb2 := bel_trans HB1.out.2 hb2
  have HB2 := (show Hid _ from (⟨hbw2, hbb2⟩ : _ ∧ _))
  obtain ⟨hwl, hws⟩ := hsm2
  have HWS := (show Hid _ from hws)
  clear hb2 hws HSW HB1 hbw2 hbb2 hm2 hm1
  obtain ⟨T0, T1, T2, T3⟩ := Four.still TH.out HB2.out.2
  have hlm : L.length ≤ maxLen := by unfold maxLen; omega
  have HLM := (show Hid _ from hlm); clear hlm
  have hwm : ws.length ≤ maxLen := by unfold maxLen; omega
  have HWM := (show Hid _ from hwm); clear hwm
  go_wp2_with fail
  refine Calls.mono (HTO.out _ HB2.out.1 HS.out) ?_
  rintro e w3 ⟨u0, u1, u3, rfl, hb3, hB3⟩
  obtain ⟨_, _, _, _, _, _, rfl, rfl, rfl⟩ := hB3.lies.form
  have hq1 := bel_trans HB2.out.1 hb3
  have hq2 := bel_trans HB2.out.2 hb3
  have HB3 := (show Hid _ from (⟨hq1, hq2⟩ : _ ∧ _))
  have HO3 := (show Hid _ from hB3); clear hB3 T0 T1 T2 T3 hb3 hq1 hq2
  go_wp2_with fail
  refine Calls.mono (HTI.out _ HB3.out.1 hll) ?_
  rintro e w4 ⟨rfl, hb4, hW4⟩
  have hq1 := bel_trans HB3.out.1 hb4
  have hq2 := bel_trans HB3.out.2 hb4
  have HB4 := (show Hid _ from (⟨hq1, hq2⟩ : _ ∧ _))
  have HO4 := (show Hid _ from BLies.still (BOwn.lies HO3.out) hb4)
  have HI4 := (show Hid _ from IRow.own hW4 HLM.out)
  clear hb4 hW4 HO3 hq1 hq2
  go_wp2_with fail
  refine Calls.mono (HTW.out _ HB4.out.1 hwl) ?_
  rintro e wA ⟨rfl, hbA, hWA⟩
  have hq1 := bel_trans HB4.out.1 hbA
  have hq2 := bel_trans HB4.out.2 hbA
  have HBA := (show Hid _ from (⟨hq1, hq2⟩ : _ ∧ _))
  have H5 := (show Hid _ from HSP.out _ _ _ _ _ _ _ wA (BLies.still HO4.out hbA) (OwnI.ints (OwnI.still HI4.out hbA)) hWA HWM.out HWS.out)
  clear hbA hWA HO4 HI4 HSP hq1 hq2
  go_wp2_with fail
  refine Calls.mono H5.out ?_
  rintro e w5 ⟨a5, m5, c5, rfl, hb5, o5⟩
  dsimp only at o5 ⊢
  have hba5 := bel_alloc w5 (.cells #[.string t.name, .string t.text, .bool t.leaf, .slice a5 m5 c5] 48)
  have hq1 := bel_trans (bel_trans HBA.out.1 hb5) hba5
  have hq2 := bel_trans (bel_trans HBA.out.2 hb5) hba5
  have HB5 := (show Hid _ from (⟨hq1, hq2⟩ : _ ∧ _))
  have HP5 := (show Hid _ from T.Lies.still o5 hba5)
  have HFP := (show Hid _ from four_box w5 (.string t.name) (.string t.text) (.bool t.leaf) (.slice a5 m5 c5) 48)
  have hA5 : w.heap.size < w5.heap.size := by have h1 := HBA.out.2.size; have h2 := hb5.size; simp at h1; omega
  have HA5 := (show Hid _ from hA5)
  clear H5 hb5 o5 hba5 hq1 hq2 HB2 HB3 HB4 HBA hA5
  obtain ⟨T0, T1, T2, T3⟩ := Four.still TH.out HB5.out.2
  go_wp2_with fail
  refine Calls.mono (HTO.out _ HB5.out.1 HS.out) ?_
  rintro e w6 ⟨x0, x1, x3, rfl, hb6, hB6⟩
  obtain ⟨e0, f0, e1, f1, e3, f3, rfl, rfl, rfl⟩ := hB6.lies.form
  have hba := bel_alloc w6 (.cells #[.slice e0 d.terms.length f0, .slice e1 d.nons.length f1, .int .i64 d.own, .slice e3 d.prods.length f3] 34)
  have hb67 := bel_trans hb6 hba
  have hz6 : w5.heap.size + 1 ≤ w6.heap.size := by have := hb6.size; simpa using this
  have hz5 : (w5.alloc (.cells #[.string t.name, .string t.text, .bool t.leaf, .slice a5 m5 c5] 48)).heap.size = w5.heap.size + 1 := by simp
  rw [hz5] at hB6
  have HFX := (show Hid _ from four_box w6 (.slice e0 d.terms.length f0) (.slice e1 d.nons.length f1) (.int .i64 d.own) (.slice e3 d.prods.length f3) 34)
  have HX6 := (show Hid _ from hB6.top.still hba)
  have HP6 := (show Hid (T.Lies (w6.alloc (.cells #[.slice e0 d.terms.length f0, .slice e1 d.nons.length f1, .int .i64 d.own, .slice e3 d.prods.length f3] 34)) (fun q => wA.heap.size ≤ q ∧ q < w5.heap.size) t (.slice a5 m5 c5)) from T.Lies.still HP5.out hb67)
  have HFP6 := (show Hid _ from Four.still HFP.out hb67)
  have hq1 := bel_trans HB5.out.1 hb67
  have hq2 := bel_trans HB5.out.2 hb67
  have HB6 := (show Hid _ from (⟨hq1, hq2⟩ : _ ∧ _))
  clear hb67 hba hb6 hB6 HB5 HP5 HFP T0 T1 T2 T3 hq1 hq2 hz5
  go_wp2_with fail
  refine Calls.mono (HTI.out _ HB6.out.1 hll) ?_
  rintro e w8 ⟨rfl, hb8, hW8⟩
  simp only [World.size_alloc] at hW8 ⊢
  have hO8 := IRow.own hW8 HLM.out
  have hq1 := bel_trans HB6.out.1 hb8
  have hq2 := bel_trans HB6.out.2 hb8
  have HB8 := (show Hid _ from (⟨hq1, hq2⟩ : _ ∧ _))
  have HW8 := (show Hid _ from hO8)
  have hz8 : w6.heap.size + 1 < w8.heap.size := World.rowIs.lt hW8
  have HP8 := (show Hid (T.Lies w8 (fun q => wA.heap.size ≤ q ∧ q < w5.heap.size) t (.slice a5 m5 c5)) from T.Lies.still HP6.out hb8)
  have HFP8 := (show Hid _ from Four.still HFP6.out hb8)
  have HX8 := (show Hid _ from (⟨HX6.out.still hb8, Four.still HFX.out hb8⟩ : _ ∧ _))
  clear hb8 hW8 HB6 HX6 HFX hO8 HP6 HFP6 hq1 hq2
  go_wp2_with fail
  refine Calls.mono (HTW.out _ HB8.out.1 hwl) ?_
  rintro e w9 ⟨rfl, hb9, hW9⟩
  have hq1 := bel_trans HB8.out.1 hb9
  have hq2 := bel_trans HB8.out.2 hb9
  have HB9 := (show Hid _ from (⟨hq1, hq2⟩ : _ ∧ _))
  have hz9 : w8.heap.size < w9.heap.size := hW9.lt
  have HP9 := (show Hid (T.Lies w9 (fun q => wA.heap.size ≤ q ∧ q < w5.heap.size) t (.slice a5 m5 c5)) from T.Lies.still HP8.out hb9)
  have HFP9 := (show Hid _ from Four.still HFP8.out hb9)
  have HX9 := (show Hid (LSx d L ws w6.heap.size (w5.heap.size + 1) w6.heap.size (w6.heap.size + 1) w8.heap.size (.slice e0 d.terms.length f0) (.slice e1 d.nons.length f1) (.slice e3 d.prods.length f3) w9) from ⟨Four.still HX8.out.2 hb9, BOwn.still HX8.out.1 hb9, OwnI.still HW8.out hb9, hW9⟩)
  have H9 := (show Hid _ from HIM.out _ _ _ _ _ _ _ w9 (BOwn.lies HX9.out.x0) (OwnI.ints HX9.out.x1) hW9 HWM.out HWS.out)
  clear hb9 hW9 HB8 HW8 HX8 HP8 HFP8 hq1 hq2
  obtain ⟨X0, X1, X2, X3⟩ := HX9.out.fx
  go_wp2_with fail
  refine Calls.mono H9.out ?_
  rintro e wB ⟨aB, mB, cB, rfl, hbB, oB⟩
  dsimp only at oB ⊢
  have hbaB := bel_alloc wB (.cells #[.string t.name, .string t.text, .bool t.leaf, .slice aB mB cB] 48)
  have hbBB := bel_trans hbB hbaB
  have hzB : w9.heap.size ≤ wB.heap.size := hbB.size
  have HLB := (show Hid (LSt w d t w.heap.size w5.heap.size wB.heap.size wA.heap.size w5.heap.size w9.heap.size wB.heap.size (.slice a0 d.terms.length p0) (.slice a1 d.nons.length p1) (.slice a3 d.prods.length p3) (.slice a5 m5 c5) (.slice aB mB cB) (wB.alloc (.cells #[.string t.name, .string t.text, .bool t.leaf, .slice aB mB cB] 48))) from ⟨Four.still TH.out (bel_trans HB9.out.2 hbBB), Four.still HFP9.out hbBB, four_box wB _ _ _ _ 48, T.Lies.still HP9.out hbBB, T.Own.still oB hbaB, bel_trans HB9.out.1 hbBB⟩)
  have HXB := (show Hid _ from HX9.out.still hbBB)
  have HN := (show Hid (w.heap.size < w5.heap.size ∧ w5.heap.size + 1 ≤ w6.heap.size ∧ w6.heap.size + 1 < w8.heap.size ∧ w8.heap.size < w9.heap.size ∧ w9.heap.size ≤ wB.heap.size) from ⟨HA5.out, hz6, hz8, hz9, hzB⟩)
  have HZB := (show Hid (wB.heap.size + 1 ≤ (wB.alloc (.cells #[.string t.name, .string t.text, .bool t.leaf, .slice aB mB cB] 48)).heap.size) from by show _ ≤ _; simp)
  clear hbB oB hbaB hbBB H9 HB9 HP9 HFP9 HX9 TH X0 X1 X2 X3 HA5 hz6 hz8 hz9 hzB
  obtain ⟨P0, P1, P2, P3⟩ := HLB.out.fp
  obtain ⟨G0, G1, G2, G3⟩ := HLB.out.fg
  go_wp2_with fail
  generalize wB.alloc (.cells #[.string t.name, .string t.text, .bool t.leaf, .slice aB mB cB] 48) = wb at *
  clear P0 P1 P2 P3 G0 G1 G2 G3
  refine Calls.mono (T.eq_any t _ _ wb (T.Own.lies HLB.out.g0) HLB.out.p0) ?_
  rintro e w11 ⟨rfl, hb11⟩
  have HL11 := (show Hid _ from HLB.out.still hb11)
  have HX11 := (show Hid _ from HXB.out.still hb11)
  have HZ11 := (show Hid _ from Nat.le_trans HZB.out hb11.size)
  clear hb11 HLB HXB HZB
  obtain ⟨T0, T1, T2, T3⟩ := HL11.out.fa
  obtain ⟨X0, X1, X2, X3⟩ := HX11.out.fx
  have H10 := (show Hid _ from HTO.out w11.drew HL11.out.bel.drew HS.out)
  have H12 := (show Hid _ from fun (w9 : World) (S9 : Nat → Prop) (y0 y1 y3 : Value) (hb : Below w11.drew.heap.size w11.drew w9) (hd : BOwn w9 S9 d y0 y1 y3) => eqBnf_any d _ _ _ y0 y1 y3 w9 (BLies.still HX11.out.x0.lies (((Below.refl _ _).drew).trans hb)) hd.lies)
  go_wp2_with fail
  go_cut [69] from 65 to 68 (fun v wx => v = .bool false ∧ Hid (Below w11.heap.size w11 wx))
  case first =>
    go_region_with (first
      | (go_at_call 12; refine Calls.mono (H12.out _ _ _ _ _ hbA DA) ?_; rintro e wB ⟨rfl, hbB⟩)
      | (go_at_call 8; refine Calls.mono H10.out ?_; rintro e wA ⟨y0, y1, y3, rfl, hbA, DA⟩; obtain ⟨Y0, Y1, Y2, Y3⟩ := Four.still HX11.out.fx (Below.trans ((Below.refl _ _).drew) hbA)))
    all_goals
      go_wp2_with fail
      go_meet
      exact ⟨rfl, bel_trans (((Below.refl w11.heap.size w11).drew).trans hbA) hbB⟩
  case rest =>
    obtain ⟨rfl, HC⟩ := hcut
    have HL12 := (show Hid _ from HL11.out.still HC.out)
    have HX12 := (show Hid _ from HX11.out.still HC.out)
    have HZ12 := (show Hid _ from Nat.le_trans HZ11.out HC.out.size)
    clear HC HL11 HX11 HZ11 H10 H12 T0 T1 T2 T3 X0 X1 X2 X3
    go_wp2_with fail
    refine Calls.mono (HTI.out _ HL12.out.bel hll) ?_
    rintro e w13 ⟨rfl, hb13, hW13⟩
    have HL13 := (show Hid _ from HL12.out.still hb13)
    have HX13 := (show Hid _ from HX12.out.still hb13)
    have HZ13 := (show Hid _ from Nat.le_trans HZ12.out hb13.size)
    have HW13 := (show Hid _ from IRow.own hW13 HLM.out); clear hW13 hb13 HL12 HZ12 HX12
    go_wp2_with fail
    refine Calls.mono (eqInts_any L _ _ w13 HX13.out.x1.ints (OwnI.ints HW13.out)) ?_
    rintro e w14 ⟨rfl, hb14⟩
    have HL14 := (show Hid _ from HL13.out.still hb14)
    have HX14 := (show Hid _ from HX13.out.still hb14)
    have HZ14 := (show Hid _ from Nat.le_trans HZ13.out hb14.size)
    clear hb14 HL13 HZ13 HW13 HX13
    go_wp2_with fail
    refine Calls.mono (HTW.out _ HL14.out.bel hwl) ?_
    rintro e w15 ⟨rfl, hb15, hW15⟩
    have HL15 := (show Hid _ from HL14.out.still hb15)
    have HX15 := (show Hid _ from HX14.out.still hb15)
    have HZ15 := (show Hid _ from Nat.le_trans HZ14.out hb15.size)
    have HW15 := (show Hid _ from hW15); clear hW15 hb15 HL14 HZ14 HX14
    go_wp2_with fail
    refine Calls.mono (eqWds_any ws _ _ w15 (WdsR.lies HX15.out.x2 HWM.out) (WdsR.lies HW15.out HWM.out)) ?_
    rintro e w16 ⟨rfl, hb16⟩
    have HL16 := (show Hid _ from HL15.out.still hb16)
    have HX16 := (show Hid _ from HX15.out.still hb16)
    have HZ16 := (show Hid _ from Nat.le_trans HZ15.out hb16.size)
    clear hb16 HL15 HZ15 HW15 HX15
    obtain ⟨X0, X1, X2, X3⟩ := HX16.out.fx
    go_wp2_with fail
    refine Calls.mono (markBnf_any d _ _ _ w16 (w5.heap.size + 1) w6.heap.size HX16.out.x0 (by have := HN.out; have := HZ16.out; omega)) ?_
    rintro e w17 ⟨K1, rfl, hK1, hK1', ho17⟩
    have hN := HN.out
    have HL17 := (show Hid _ from HL16.out.out ho17 (by omega) (by omega) (by omega) (by omega) (by omega) (by omega))
    have HI17 := (show Hid _ from HX16.out.x1.out ho17 (by omega))
    have HW17 := (show Hid _ from HX16.out.x2.keep (ho17.2.2.2.2 _ HX16.out.x2.lt (by omega)))
    have HZ17 := (show Hid _ from Nat.le_trans HZ16.out ho17.2.2.2.1)
    clear ho17 HL16 HZ16 HX16 X0 X1 X2 X3
    go_wp2_with fail
    refine Calls.mono (markInts_any L (w6.heap.size + 1) K1 _ w17 HI17.out (by omega)) ?_
    rintro e w18 ⟨rfl, ho18, -⟩
    have HL18 := (show Hid _ from HL17.out.out ho18 (by omega) (by omega) (by omega) (by omega) (by omega) (by omega))
    have HW18 := (show Hid _ from HW17.out.keep (ho18.2.2.2.2 _ HW17.out.lt (by omega)))
    have HZ18 := (show Hid _ from Nat.le_trans HZ17.out ho18.2.2.2.1)
    clear ho18 HL17 HZ17 HI17 HW17
    generalize hK : K1 + L.length = K2 at *
    have hK2 : 1 ≤ K2 ∧ K2 ≤ 35184373137408 := by omega
    clear hK hK1 hK1'
    go_wp2_with fail
    refine Calls.mono (markWds_any ws.length w8.heap.size K2 w18 (by obtain ⟨f, hf, _⟩ := HW18.out.ex; exact ⟨f, hf⟩) hwl (by omega) (by omega)) ?_
    rintro e w19 ⟨rfl, ho19⟩
    have HL19 := (show Hid _ from HL18.out.out ho19 (by omega) (by omega) (by omega) (by omega) (by omega) (by omega))
    have HZ19 := (show Hid _ from Nat.le_trans HZ18.out ho19.2.2.2.1)
    clear ho19 HL18 HZ18 HW18
    generalize hK : K2 + ws.length * 6 = K at *
    have hK0 : ¬ ((K : Int) < 0) := by omega
    clear hK hK2
    obtain ⟨P0, P1, P2, P3⟩ := HL19.out.fp
    obtain ⟨G0, G1, G2, G3⟩ := HL19.out.fg
    go_wp2_with fail
    refine Calls.mono (T.eq_any t _ _ w19 (T.Own.lies HL19.out.g0) HL19.out.p0) ?_
    rintro e w20 ⟨rfl, hb20⟩
    have HL20 := (show Hid _ from HL19.out.still hb20)
    have HZ20 := (show Hid _ from Nat.le_trans HZ19.out hb20.size)
    clear hb20 HL19 HZ19 P0 P1 P2 P3 G0 G1 G2 G3
    obtain ⟨G0, G1, G2, G3⟩ := HL20.out.fg
    have hn := T.mkN_le HCN.out
    go_wp2_with fail
    refine Calls.mono (T.mark_one t _ w20 w9.heap.size wB.heap.size HL20.out.g0 (by have := HZ20.out; omega) HCN.out) ?_
    rintro e w21 ⟨rfl, hu21, ho21⟩
    clear G0 G1 G2 G3
    have hou : Out w9.heap.size wB.heap.size w20 w21 := hu21
    have hpz : w5.heap.size < w20.heap.size := lt_of_cell HL20.out.fp.1
    have HH := (show Hid _ from fun (w' : World) (hw : Below w21.heap.size w21 w') => T.held_one t _ w' (T.Own.still ho21 hw) HCN.out)
    have HFA := (show Hid _ from HL20.out.fa.out hou (by omega))
    have HFP := (show Hid _ from HL20.out.fp.out hou (by omega))
    have HFG := (show Hid _ from HL20.out.fg.out hou (by omega))
    have HPL := (show Hid (T.Lies w21 (fun q => wA.heap.size ≤ q ∧ q < w5.heap.size) t (.slice a5 m5 c5)) from T.Lies.keep (fun q hq => hou.2.2.2.2 q (by omega) (.inl (by omega))) HL20.out.p0)
    have HBE := (show Hid _ from out_belowT HL20.out.bel hou (by omega) HL20.out.bel.size)
    generalize T.mkN t = M at *
    have hM : ((M : Int) != M) = false := by simp
    have hM0 : ¬ ((M : Int) < 0) := by omega
    clear hu21 ho21 hou HL20 HZ20 hpz
    obtain ⟨G0, G1, G2, G3⟩ := HFG.out
    go_wp2_with fail
    refine Calls.mono (HH.out _ (Below.refl _ _)) ?_
    rintro e w22 ⟨rfl, hb22⟩
    have HX22 := (show Hid _ from hb22)
    clear hb22 G0 G1 G2 G3
    obtain ⟨T0, T1, T2, T3⟩ := Four.still HFA.out HX22.out
    go_wp2_with fail
    refine Calls.mono (HTO.out _ (bel_trans HBE.out HX22.out) HS.out) ?_
    rintro e w23 ⟨y0, y1, y3, rfl, hb23, hB23⟩
    obtain ⟨_, _, _, _, _, _, rfl, rfl, rfl⟩ := hB23.lies.form
    have HX23 := (show Hid _ from bel_trans HX22.out hb23)
    have HO23 := (show Hid _ from hB23); clear hB23 T0 T1 T2 T3 hb23 HX22
    go_wp2_with fail
    refine Calls.mono (HTI.out _ (bel_trans HBE.out HX23.out) hll) ?_
    rintro e w24 ⟨rfl, hb24, hW24⟩
    have HX24 := (show Hid _ from bel_trans HX23.out hb24)
    have HO24 := (show Hid _ from BLies.still (BOwn.lies HO23.out) hb24)
    have HI24 := (show Hid _ from IRow.own hW24 HLM.out)
    clear hb24 hW24 HO23 HX23
    go_wp2_with fail
    refine Calls.mono (HTW.out _ (bel_trans HBE.out HX24.out) hwl) ?_
    rintro e w25 ⟨rfl, hb25, hW25⟩
    have HX25 := (show Hid _ from bel_trans HX24.out hb25)
    have H26 := (show Hid _ from HIM.out _ _ _ _ _ _ _ w25 (BLies.still HO24.out hb25) (OwnI.ints (OwnI.still HI24.out hb25)) hW25 HWM.out HWS.out)
    clear hb25 hW25 HO24 HI24 HX24
    go_wp2_with fail
    refine Calls.mono H26.out ?_
    rintro e w26 ⟨a6, m6, c6, rfl, hb26, o6⟩
    dsimp only at o6 ⊢
    have hba6 := bel_alloc w26 (.cells #[.string t.name, .string t.text, .bool t.leaf, .slice a6 m6 c6] 48)
    have HO6 := (show Hid _ from T.Own.still o6 hba6)
    have HX6 := (show Hid _ from bel_trans (bel_trans HX25.out hb26) hba6)
    obtain ⟨P0, P1, P2, P3⟩ := Four.still HFP.out (bel_trans (bel_trans HX25.out hb26) hba6)
    obtain ⟨Z0, Z1, Z2, Z3⟩ := four_box w26 (.string t.name) (.string t.text) (.bool t.leaf) (.slice a6 m6 c6) 48
    clear hb26 o6 hba6 H26 HX25
    go_wp2_with fail
    generalize w26.alloc (.cells #[.string t.name, .string t.text, .bool t.leaf, .slice a6 m6 c6] 48) = wc at *
    clear P0 P1 P2 P3 Z0 Z1 Z2 Z3
    refine Calls.mono (T.eq_any t _ _ wc (T.Own.lies HO6.out) (T.Lies.still HPL.out HX6.out)) ?_
    rintro e w27 ⟨rfl, hb27⟩
    have HX27 := (show Hid _ from bel_trans HX6.out hb27); clear hb27 HX6 HO6
    obtain ⟨G0, G1, G2, G3⟩ := Four.still HFG.out HX27.out
    go_wp2_with fail
    refine Calls.mono (HH.out _ HX27.out) ?_
    rintro e w29 ⟨rfl, hb29⟩
    have HX29 := (show Hid _ from bel_trans HBE.out (bel_trans HX27.out hb29)); clear hb29 HX27 G0 G1 G2 G3
    go_wp2_with fail
    go_ret
    exact ⟨rfl, HX29.out⟩
end Go.Proofs.Ytpmlagenakcdfaa
