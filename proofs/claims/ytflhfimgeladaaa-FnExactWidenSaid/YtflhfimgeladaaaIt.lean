import Derived.Test.YtflhfimgeladaaaIr
import Derived.Laws.EntriesVeiled
/-! The program: TableOK, whole. -/
namespace Go.Proofs.Ytflhfimgeladaaa
open Go.RowKit Go.Deep
set_option linter.unusedVariables false
set_option maxRecDepth 100000
set_option linter.unusedSimpArgs false

theorem bnB_sz {d : Bn} (h : bnB d = true) : d.terms.length ≤ 60 ∧ d.nons.length ≤ 100 ∧ d.prods.length ≤ 120 := by
  unfold bnB at h
  rw [Bool.and_eq_true] at h
  have h1 := h.1
  simp only [szB, decide_eq_true_eq] at h1
  omega
theorem tbB_bn {d : Bn} {t : Tb} (h : bnB d = false) : tbB d t = false := by unfold tbB; rw [h, Bool.false_and]
theorem tbB_sz {d : Bn} {t : Tb} (h : ¬ (1 ≤ t.acts.length ∧ t.acts.length ≤ 250 ∧ t.gotos.length = t.acts.length)) : tbB d t = false := by unfold tbB; rw [decide_eq_false h]; simp
theorem tbB_in {d : Bn} {t : Tb} (hb : bnB d = true) (h : 1 ≤ t.acts.length ∧ t.acts.length ≤ 250 ∧ t.gotos.length = t.acts.length) : tbB d t = (t.acts.all (rAB t.acts.length d.prods.length d.terms.length) && t.gotos.all (rGB t.acts.length d.nons.length)) := by unfold tbB; rw [hb, decide_eq_true h]; simp
set_option maxHeartbeats 3200000 in
theorem iTab_any {S S' : Nat → Prop} (d : Bn) (t : Tb) (v0 v1 v3 x0 x1 : Value) (w : World) (h : BLies w S d v0 v1 v3) (ht : TLies w S' t x0 x1) :
    Calls Try.prog 11 #[.agg #[v0, v1, .int .i64 d.own, v3], .agg #[x0, x1]] w fun e w' => e = .returned (.bool (tbB d t)) ∧ Below w.heap.size w w' := by
  have HLA := (show Hid _ from ht.acts)
  have HLG := (show Hid _ from ht.gotos)
  have hma := ht.acts.form
  have hmg := ht.gotos.form
  obtain ⟨a0, c0, a1, c1, a3, c3, rfl, rfl, rfl⟩ := h.form
  obtain ⟨e0, f0, rfl, hma⟩ := hma
  obtain ⟨e1, f1, rfl, hmg⟩ := hmg
  unfold maxLen at hma hmg
  have hb0 : Below w.heap.size w (((w.alloc (.cells #[.slice a0 d.terms.length c0, .slice a1 d.nons.length c1, .int .i64 d.own, .slice a3 d.prods.length c3] 37)).alloc (.cells #[.slice e0 t.acts.length f0, .slice e1 t.gotos.length f1] 41)).alloc (.cells #[.int .i64 t.acts.length] 3)) := bel_trans (bel_trans (bel_alloc _ _) (bel_alloc _ _)) (bel_alloc _ _)
  have HBN := (show Hid _ from iBnf_any d _ _ _ _ (h.still hb0))
  have q4 := ((Box4.new w 37 (.slice a0 d.terms.length c0) (.slice a1 d.nons.length c1) (.int .i64 d.own) (.slice a3 d.prods.length c3)).still (bel_alloc _ (.cells #[.slice e0 t.acts.length f0, .slice e1 t.gotos.length f1] 41))).still (bel_alloc _ (.cells #[.int .i64 t.acts.length] 3))
  have q2 := (box2_alloc (w.alloc (.cells #[.slice a0 d.terms.length c0, .slice a1 d.nons.length c1, .int .i64 d.own, .slice a3 d.prods.length c3] 37)) 41 (.slice e0 t.acts.length f0) (.slice e1 t.gotos.length f1)).still (bel_alloc _ (.cells #[.int .i64 t.acts.length] 3))
  simp only [World.size_alloc] at q2
  have q1 : (((w.alloc (.cells #[.slice a0 d.terms.length c0, .slice a1 d.nons.length c1, .int .i64 d.own, .slice a3 d.prods.length c3] 37)).alloc (.cells #[.slice e0 t.acts.length f0, .slice e1 t.gotos.length f1] 41)).alloc (.cells #[.int .i64 t.acts.length] 3)).cell? ⟨w.heap.size + 1 + 1, 0, none⟩ = some (.int .i64 t.acts.length) := by simp [go_sem]
  have hszW : (((w.alloc (.cells #[.slice a0 d.terms.length c0, .slice a1 d.nons.length c1, .int .i64 d.own, .slice a3 d.prods.length c3] 37)).alloc (.cells #[.slice e0 t.acts.length f0, .slice e1 t.gotos.length f1] 41)).alloc (.cells #[.int .i64 t.acts.length] 3)).heap.size = w.heap.size + 1 + 1 + 1 := by simp
  have HQ := (show Hid _ from fun (w' : World) (hb : Below (((w.alloc (.cells #[.slice a0 d.terms.length c0, .slice a1 d.nons.length c1, .int .i64 d.own, .slice a3 d.prods.length c3] 37)).alloc (.cells #[.slice e0 t.acts.length f0, .slice e1 t.gotos.length f1] 41)).alloc (.cells #[.int .i64 t.acts.length] 3)).heap.size (((w.alloc (.cells #[.slice a0 d.terms.length c0, .slice a1 d.nons.length c1, .int .i64 d.own, .slice a3 d.prods.length c3] 37)).alloc (.cells #[.slice e0 t.acts.length f0, .slice e1 t.gotos.length f1] 41)).alloc (.cells #[.int .i64 t.acts.length] 3)) w') => (⟨q4.still hb, (q2.still hb).cells.1, (hb.cell (lt_of_cell q1)).trans q1⟩ : _ ∧ _ ∧ _))
  have HB0 := (show Hid _ from hb0)
  have HEV := (show Hid _ from fun (w1 : World) (hb : Below (((w.alloc (.cells #[.slice a0 d.terms.length c0, .slice a1 d.nons.length c1, .int .i64 d.own, .slice a3 d.prods.length c3] 37)).alloc (.cells #[.slice e0 t.acts.length f0, .slice e1 t.gotos.length f1] 41)).alloc (.cells #[.int .i64 t.acts.length] 3)).heap.size (((w.alloc (.cells #[.slice a0 d.terms.length c0, .slice a1 d.nons.length c1, .int .i64 d.own, .slice a3 d.prods.length c3] 37)).alloc (.cells #[.slice e0 t.acts.length f0, .slice e1 t.gotos.length f1] 41)).alloc (.cells #[.int .i64 t.acts.length] 3)) w1) => (⟨(q4.still hb).still (bel_alloc _ (.cells #[(.func (.func 38) #[] #[.pointer (some ⟨w.heap.size + 1 + 1, 0, none⟩), .pointer (some ⟨w.heap.size, 0, none⟩)])] 78)), (((bel_alloc w1 (.cells #[(.func (.func 38) #[] #[.pointer (some ⟨w.heap.size + 1 + 1, 0, none⟩), .pointer (some ⟨w.heap.size, 0, none⟩)])] 78)).cell (lt_of_cell ((hb.cell (lt_of_cell q1)).trans q1))).trans ((hb.cell (lt_of_cell q1)).trans q1)), by simp [go_sem]⟩ : Env (w1.alloc (.cells #[(.func (.func 38) #[] #[.pointer (some ⟨w.heap.size + 1 + 1, 0, none⟩), .pointer (some ⟨w.heap.size, 0, none⟩)])] 78)) d (.slice a0 d.terms.length c0) (.slice a1 d.nons.length c1) (.slice a3 d.prods.length c3) w.heap.size (w.heap.size + 1 + 1) w1.heap.size t.acts.length))
  clear h ht q4 q2 q1 hszW hb0
  cases hbn : bnB d
  · rw [tbB_bn hbn]
    rw [hbn] at HBN
    obtain ⟨z4, ⟨y0, y1⟩, y2⟩ := HQ.out _ (Below.refl _ _)
    obtain ⟨z0, z1, z2, z3⟩ := z4.cells
    clear hbn z4
    go_enter Try.func11, Try.ntmps11
    go_wp2_with fail
    refine Calls.mono HBN.out ?_
    rintro e w1 ⟨rfl, hb1⟩
    have HN := (show Hid _ from bel_trans HB0.out hb1); clear hb1
    go_wp2_with fail
    go_ret
    exact ⟨rfl, HN.out⟩
  obtain ⟨hT, hN, hP⟩ := bnB_sz hbn
  have HA1 := (show Hid _ from fun (w' : World) (gf : Nat) (hb : Below w.heap.size w w') (he : Env w' d (.slice a0 d.terms.length c0) (.slice a1 d.nons.length c1) (.slice a3 d.prods.length c3) w.heap.size (w.heap.size + 1 + 1) gf t.acts.length) => allActs_any d t.acts _ a0 a1 a3 c0 c1 c3 t.acts.length w' w.heap.size (w.heap.size + 1 + 1) gf he (ARows.still HLA.out hb) hP hT)
  have HA2 := (show Hid _ from fun (w' : World) (gf : Nat) (hn : t.acts.length ≤ 250) (hb : Below w.heap.size w w') (he : Env w' d (.slice a0 d.terms.length c0) (.slice a1 d.nons.length c1) (.slice a3 d.prods.length c3) w.heap.size (w.heap.size + 1 + 1) gf t.acts.length) => allGotos_any d t.gotos _ a0 a1 a3 c0 c1 c3 t.acts.length w' w.heap.size (w.heap.size + 1 + 1) gf he (IRows.still HLG.out hb) hn hN)
  rw [hbn] at HBN
  clear HLA HLG
  by_cases h1 : t.acts.length < 1
  · rw [tbB_sz (by omega)]
    have i1 : decide ((t.acts.length : Int) < 1) = true := by simp; omega
    obtain ⟨z4, ⟨y0, y1⟩, y2⟩ := HQ.out _ (Below.refl _ _)
    obtain ⟨z0, z1, z2, z3⟩ := z4.cells
    clear hbn z4 HA1 HA2 HEV
    go_enter Try.func11, Try.ntmps11
    go_wp2_with fail
    refine Calls.mono HBN.out ?_
    rintro e w1 ⟨rfl, hb1⟩
    have HN := (show Hid _ from bel_trans HB0.out hb1)
    clear z0 z1 z2 z3 y0 y1 y2
    obtain ⟨_, ⟨y0, y1⟩, y2⟩ := HQ.out _ hb1
    clear hb1 h1
    go_wp2_with fail
    go_ret
    exact ⟨rfl, HN.out⟩
  have i1 : decide ((t.acts.length : Int) < 1) = false := by simp; omega
  by_cases h2 : t.acts.length > 250
  · rw [tbB_sz (by omega)]
    have i2 : decide ((t.acts.length : Int) > 250) = true := by simp; omega
    obtain ⟨z4, ⟨y0, y1⟩, y2⟩ := HQ.out _ (Below.refl _ _)
    obtain ⟨z0, z1, z2, z3⟩ := z4.cells
    clear hbn z4 HA1 HA2 HEV
    go_enter Try.func11, Try.ntmps11
    go_wp2_with fail
    refine Calls.mono HBN.out ?_
    rintro e w1 ⟨rfl, hb1⟩
    have HN := (show Hid _ from bel_trans HB0.out hb1)
    clear z0 z1 z2 z3 y0 y1 y2
    obtain ⟨_, ⟨y0, y1⟩, y2⟩ := HQ.out _ hb1
    clear hb1 h1 h2
    go_wp2_with fail
    go_ret
    exact ⟨rfl, HN.out⟩
  have i2 : decide ((t.acts.length : Int) > 250) = false := by simp; omega
  by_cases h3 : t.gotos.length = t.acts.length
  case neg =>
    rw [tbB_sz (by omega)]
    have i3 : ((t.gotos.length : Int) != (t.acts.length : Int)) = true := by simp; omega
    obtain ⟨z4, ⟨y0, y1⟩, y2⟩ := HQ.out _ (Below.refl _ _)
    obtain ⟨z0, z1, z2, z3⟩ := z4.cells
    clear hbn z4 HA1 HA2 HEV
    go_enter Try.func11, Try.ntmps11
    go_wp2_with fail
    refine Calls.mono HBN.out ?_
    rintro e w1 ⟨rfl, hb1⟩
    have HN := (show Hid _ from bel_trans HB0.out hb1)
    clear z0 z1 z2 z3 y0 y1 y2
    obtain ⟨_, ⟨y0, y1⟩, y2⟩ := HQ.out _ hb1
    clear hb1 h1 h2 h3
    go_wp2_with fail
    go_ret
    exact ⟨rfl, HN.out⟩
  have i3 : ((t.gotos.length : Int) != (t.acts.length : Int)) = false := by simp; omega
  rw [tbB_in hbn (by omega)]
  have HH2 : Hid (t.acts.length ≤ 250) := by show t.acts.length ≤ 250; omega
  generalize t.acts.all (rAB t.acts.length d.prods.length d.terms.length) = B1 at *
  generalize t.gotos.all (rGB t.acts.length d.nons.length) = B2 at *
  obtain ⟨z4, ⟨y0, y1⟩, y2⟩ := HQ.out _ (Below.refl _ _)
  obtain ⟨z0, z1, z2, z3⟩ := z4.cells
  clear hbn z4 h1 h2 h3 hT hN hP
  go_enter Try.func11, Try.ntmps11
  go_wp2_with fail
  refine Calls.mono HBN.out ?_
  rintro e w1 ⟨rfl, hb1⟩
  have HN1 := (show Hid _ from bel_trans HB0.out hb1)
  clear z0 z1 z2 z3 y0 y1 y2
  obtain ⟨_, ⟨y0, y1⟩, y2⟩ := HQ.out _ hb1
  have HE1 := (show Hid _ from HEV.out w1 hb1)
  have HW2 := (show Hid _ from bel_alloc w1 (.cells #[(.func (.func 38) #[] #[.pointer (some ⟨w.heap.size + 1 + 1, 0, none⟩), .pointer (some ⟨w.heap.size, 0, none⟩)])] 78))
  have y0' := ((HW2.out.cell (lt_of_cell y0)).trans y0)
  have y1' := ((HW2.out.cell (lt_of_cell y1)).trans y1)
  have HQ1 := (show Hid _ from fun (w' : World) (hb : Below w1.heap.size w1 w') => (HQ.out w' (bel_trans hb1 hb)).2.1)
  have HC1 := (show Hid _ from HA1.out _ _ (bel_trans HN1.out HW2.out) HE1.out)
  clear hb1 HBN HEV HQ
  go_wp2_with fail
  refine Calls.mono HC1.out ?_
  rintro e w2 ⟨rfl, hb2⟩
  have HN2 := (show Hid _ from bel_trans (bel_trans HN1.out HW2.out) hb2)
  cases B1
  · clear hb2 y0 y1 y2 y0' y1'
    go_wp2_with fail
    go_ret
    exact ⟨rfl, HN2.out⟩
  · have HC2 := (show Hid _ from HA2.out w2 _ HH2.out HN2.out (HE1.out.still hb2))
    clear y0 y1 y2 y0' y1'
    obtain ⟨y0, y1⟩ := HQ1.out w2 (bel_trans HW2.out hb2)
    clear hb2
    go_wp2_with fail
    refine Calls.mono HC2.out ?_
    rintro e w3 ⟨rfl, hb3⟩
    have HN3 := (show Hid _ from bel_trans HN2.out hb3)
    clear hb3 y0 y1
    go_wp2_with fail
    go_ret
    exact ⟨by cases B2 <;> rfl, HN3.out⟩
end Go.Proofs.Ytflhfimgeladaaa
