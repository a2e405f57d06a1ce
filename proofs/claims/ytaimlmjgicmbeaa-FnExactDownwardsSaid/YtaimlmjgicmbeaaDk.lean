import Derived.Test.YtaimlmjgicmbeaaDj
/-! The program: readDerivation, whole. -/
namespace Go.Proofs.Ytaimlmjgicmbeaa
open Go.RowKit Go.Deep
set_option linter.unusedVariables false
set_option maxRecDepth 100000
set_option linter.unusedSimpArgs false

/-- What readDerivation answers. -/
def RiA (d : Bn) (L : List Int) (non : Int) (w : World) (e : Ending) (w' : World) : Prop :=
  Below w.heap.size w w' ∧ (cdR d non L.length ≠ 0 → e = .returned (.tuple #[.pointer none, .int .i64 (cdR d non L.length)])) ∧ (cdR d non L.length = 0 → (rd d L (L.length + 1) (d.terms.length + non) 0 = some L.length → ∃ pv, e = .returned (.tuple #[.pointer pv, .int .i64 0]) ∧ DP d L w' (fun t => w.heap.size ≤ t) (L.length + 1) 0 (.pointer pv)) ∧ (rd d L (L.length + 1) (d.terms.length + non) 0 ≠ some L.length → e = .returned (.tuple #[.pointer none, .int .i64 2])))
/-- The boxes. -/
structure RBx (w w' : World) (u0 : Value) (bs : List Value) : Prop where
  bel : Below w.heap.size w w'
  sz : w.heap.size + 3 ≤ w'.heap.size
  b : Box w' w.heap.size 34 bs
  p0 : Box w' (w.heap.size + 1) 55 [u0]
  p1 : Box w' (w.heap.size + 1 + 1) 3 [.int .i64 0]
theorem RBx.still {w w' w'' : World} {u0 : Value} {bs : List Value} (h : RBx w w' u0 bs) (hb : Below w'.heap.size w' w'') : RBx w w'' u0 bs := ⟨bel_trans h.bel hb, Nat.le_trans h.sz hb.size, h.b.still hb, h.p0.still hb, h.p1.still hb⟩
set_option maxHeartbeats 6400000 in
theorem iReadD {S : Nat → Prop} (d : Bn) (L : List Int) (v0 v1 v3 vd : Value) (non : Int) (w : World) (h : BLies w S d v0 v1 v3) (hd : Ints w S L vd) (hS : ∀ b, S b → b < w.heap.size) :
    Calls Try.prog 26 #[.agg #[v0, v1, .int .i64 d.own, v3], .int .i64 non, vd] w fun e w' => RiA d L non w e w' := by
  have hmf := make_func
  obtain ⟨a0, c0, a1, c1, a3, c3, rfl, rfl, rfl⟩ := h.form
  obtain ⟨ad, cd, rfl, hdm⟩ := hd.form
  unfold maxLen at hdm
  have hX0 : RBx w (((w.alloc (.cells #[.slice a0 d.terms.length c0, .slice a1 d.nons.length c1, .int .i64 d.own, .slice a3 d.prods.length c3] 34)).alloc (.cells #[.pointer none] 55)).alloc (.cells #[.int .i64 0] 3)) (.pointer none) [.slice a0 d.terms.length c0, .slice a1 d.nons.length c1, .int .i64 d.own, .slice a3 d.prods.length c3] := by
    have h1 := ((Box.new w 34 [.slice a0 d.terms.length c0, .slice a1 d.nons.length c1, .int .i64 d.own, .slice a3 d.prods.length c3]).still (bel_alloc _ (.cells #[.pointer none] 55))).still (bel_alloc _ (.cells #[.int .i64 0] 3))
    have h2 := (Box.new (w.alloc (.cells #[.slice a0 d.terms.length c0, .slice a1 d.nons.length c1, .int .i64 d.own, .slice a3 d.prods.length c3] 34)) 55 [.pointer none]).still (bel_alloc _ (.cells #[.int .i64 0] 3))
    have h3 := Box.new ((w.alloc (.cells #[.slice a0 d.terms.length c0, .slice a1 d.nons.length c1, .int .i64 d.own, .slice a3 d.prods.length c3] 34)).alloc (.cells #[.pointer none] 55)) 3 [.int .i64 0]
    simp only [World.size_alloc] at h2 h3
    exact ⟨bel_trans (bel_trans (bel_alloc _ _) (bel_alloc _ _)) (bel_alloc _ _), by simp, h1, h2, h3⟩
  have HX0 := (show Hid _ from hX0)
  have HBN := (show Hid _ from iBnf_any d _ _ _ (((w.alloc (.cells #[.slice a0 d.terms.length c0, .slice a1 d.nons.length c1, .int .i64 d.own, .slice a3 d.prods.length c3] 34)).alloc (.cells #[.pointer none] 55)).alloc (.cells #[.int .i64 0] 3)) (h.still hX0.bel))
  have x0 := hX0.b.cell 0 (by simp)
  have x1 := hX0.b.cell 1 (by simp)
  have x2 := hX0.b.cell 2 (by simp)
  have x3 := hX0.b.cell 3 (by simp)
  simp only [List.getD_cons_zero, List.getD_cons_succ] at x0 x1 x2 x3
  have HR := (show Hid (cdR d non L.length = if bnB d = false ∨ 4000 < L.length then 1 else if wiB non 0 ((d.nons.length : Int) - 1) = false then 4 else 0) from rfl)
  have HLI := (show Hid _ from h)
  have HDI := (show Hid _ from hd)
  have HSS := (show Hid _ from hS)
  clear hX0 h hd hS
  cases hbn : bnB d
  · have hcd : cdR d non L.length = 1 := by rw [HR.out, if_pos (.inl hbn)]
    rw [hbn] at HBN
    go_enter_defers Try.func26, Try.ntmps26
    go_wp2_with fail
    refine Calls.mono HBN.out ?_
    rintro e w1 ⟨rfl, hb1⟩
    have hX := RBx.still HX0.out hb1
    clear hb1 x0 x1 x2 x3 HBN HX0 hbn
    have q0 := hX.p0
    have q1 := hX.p1
    have r0 := ((q0.set 0 (.pointer none)).past (q := w.heap.size + 1 + 1) (o := 0) (u := .int .i64 1) (by omega)).cell 0 (by simp)
    have r1 := ((q1.past (q := w.heap.size + 1) (o := 0) (u := .pointer none) (by omega)).set 0 (.int .i64 1)).cell 0 (by simp)
    have c0' := q0.cell 0 (by simp)
    have f0 := q0.frozen 0
    have c1' := (q1.past (q := w.heap.size + 1) (o := 0) (u := .pointer none) (by omega)).cell 0 (by simp)
    have f1 := (q1.past (q := w.heap.size + 1) (o := 0) (u := .pointer none) (by omega)).frozen 0
    simp only [List.set_cons_zero, List.getD_cons_zero] at r0 r1 c0' c1'
    have HBF := (show Hid _ from ((hX.bel.setCell (p := ⟨w.heap.size + 1, 0, none⟩) (by show w.heap.size ≤ w.heap.size + 1; omega) (.pointer none)).setCell (p := ⟨w.heap.size + 1 + 1, 0, none⟩) (by show w.heap.size ≤ w.heap.size + 1 + 1; omega) (.int .i64 1)))
    clear hX q0 q1
    go_wp2_with fail
    refine leaves_cons (f := 46) (args := #[.pointer (some ⟨w.heap.size + 1, 0, none⟩), .pointer (some ⟨w.heap.size + 1 + 1, 0, none⟩)]) (by simp) (by simp [go_sem]) ?_
    refine (catchR_idle _ _ _).mono ?_
    rintro e u' w'' ⟨rfl, rfl, rfl⟩
    exact ⟨.tuple #[.pointer none, .int .i64 1], by simp [results, Try.results26, go_sem, r0, r1], HBF.out, fun _ => by rw [hcd], fun hh => by rw [hcd] at hh; cases hh⟩
  by_cases h4 : 4000 < L.length
  · have hcd : cdR d non L.length = 1 := by rw [HR.out, if_pos (.inr h4)]
    rw [hbn] at HBN
    go_enter_defers Try.func26, Try.ntmps26
    go_wp2_with fail
    refine Calls.mono HBN.out ?_
    rintro e w1 ⟨rfl, hb1⟩
    have hX := RBx.still HX0.out hb1
    clear hb1 x0 x1 x2 x3 HBN HX0 hbn
    have q0 := hX.p0
    have q1 := hX.p1
    have r0 := ((q0.set 0 (.pointer none)).past (q := w.heap.size + 1 + 1) (o := 0) (u := .int .i64 1) (by omega)).cell 0 (by simp)
    have r1 := ((q1.past (q := w.heap.size + 1) (o := 0) (u := .pointer none) (by omega)).set 0 (.int .i64 1)).cell 0 (by simp)
    have c0' := q0.cell 0 (by simp)
    have f0 := q0.frozen 0
    have c1' := (q1.past (q := w.heap.size + 1) (o := 0) (u := .pointer none) (by omega)).cell 0 (by simp)
    have f1 := (q1.past (q := w.heap.size + 1) (o := 0) (u := .pointer none) (by omega)).frozen 0
    simp only [List.set_cons_zero, List.getD_cons_zero] at r0 r1 c0' c1'
    have HBF := (show Hid _ from ((hX.bel.setCell (p := ⟨w.heap.size + 1, 0, none⟩) (by show w.heap.size ≤ w.heap.size + 1; omega) (.pointer none)).setCell (p := ⟨w.heap.size + 1 + 1, 0, none⟩) (by show w.heap.size ≤ w.heap.size + 1 + 1; omega) (.int .i64 1)))
    clear hX q0 q1
    go_wp2_with fail
    refine leaves_cons (f := 46) (args := #[.pointer (some ⟨w.heap.size + 1, 0, none⟩), .pointer (some ⟨w.heap.size + 1 + 1, 0, none⟩)]) (by simp) (by simp [go_sem]) ?_
    refine (catchR_idle _ _ _).mono ?_
    rintro e u' w'' ⟨rfl, rfl, rfl⟩
    exact ⟨.tuple #[.pointer none, .int .i64 1], by simp [results, Try.results26, go_sem, r0, r1], HBF.out, fun _ => by rw [hcd], fun hh => by rw [hcd] at hh; cases hh⟩
  have h5 : L.length ≤ 4000 := by omega
  obtain ⟨hT, jk1, hNn, jk3, jk4, hPn⟩ := szB_of hbn
  clear jk1 jk3 jk4
  have HNC := (show Hid _ from (fun hh => by rcases hh with hh | hh; (rw [hbn] at hh; cases hh); (exact h4 hh) : ¬ (bnB d = false ∨ 4000 < L.length)))
  have HBN2 := (show Hid _ from hbn)
  rw [hbn] at HBN
  go_enter_defers Try.func26, Try.ntmps26
  go_wp2_with fail
  refine Calls.mono HBN.out ?_
  rintro e w1 ⟨rfl, hb1⟩
  have hX1 := RBx.still HX0.out hb1
  clear x0 x1 x2 x3 hb1 HBN HX0 hbn
  have HX1 := (show Hid _ from hX1)
  have x0 := hX1.b.cell 0 (by simp)
  have x1 := hX1.b.cell 1 (by simp)
  have x2 := hX1.b.cell 2 (by simp)
  have x3 := hX1.b.cell 3 (by simp)
  simp only [List.getD_cons_zero, List.getD_cons_succ] at x0 x1 x2 x3
  have HHN := (show Hid _ from hasNon_i (.slice a0 d.terms.length c0) a1 d.nons.length c1 (.int .i64 d.own) (.slice a3 d.prods.length c3) non w1 (by omega))
  clear hX1
  cases hw : wiB non 0 ((d.nons.length : Int) - 1)
  · have hcd : cdR d non L.length = 4 := by rw [HR.out, if_neg HNC.out, if_pos hw]
    rw [hw] at HHN
    go_wp2_with fail
    refine Calls.mono HHN.out ?_
    rintro e w2 ⟨rfl, rfl⟩
    have hX := RBx.still HX1.out (bel_alloc w1 (.cells #[.slice a0 d.terms.length c0, .slice a1 d.nons.length c1, .int .i64 d.own, .slice a3 d.prods.length c3] 34))
    clear x0 x1 x2 x3 HHN HX1 hw
    have q0 := hX.p0
    have q1 := hX.p1
    have r0 := ((q0.set 0 (.pointer none)).past (q := w.heap.size + 1 + 1) (o := 0) (u := .int .i64 4) (by omega)).cell 0 (by simp)
    have r1 := ((q1.past (q := w.heap.size + 1) (o := 0) (u := .pointer none) (by omega)).set 0 (.int .i64 4)).cell 0 (by simp)
    have c0' := q0.cell 0 (by simp)
    have f0 := q0.frozen 0
    have c1' := (q1.past (q := w.heap.size + 1) (o := 0) (u := .pointer none) (by omega)).cell 0 (by simp)
    have f1 := (q1.past (q := w.heap.size + 1) (o := 0) (u := .pointer none) (by omega)).frozen 0
    simp only [List.set_cons_zero, List.getD_cons_zero] at r0 r1 c0' c1'
    have HBF := (show Hid _ from ((hX.bel.setCell (p := ⟨w.heap.size + 1, 0, none⟩) (by show w.heap.size ≤ w.heap.size + 1; omega) (.pointer none)).setCell (p := ⟨w.heap.size + 1 + 1, 0, none⟩) (by show w.heap.size ≤ w.heap.size + 1 + 1; omega) (.int .i64 4)))
    clear hX q0 q1
    go_wp2_with fail
    refine leaves_cons (f := 46) (args := #[.pointer (some ⟨w.heap.size + 1, 0, none⟩), .pointer (some ⟨w.heap.size + 1 + 1, 0, none⟩)]) (by simp) (by simp [go_sem]) ?_
    refine (catchR_idle _ _ _).mono ?_
    rintro e u' w'' ⟨rfl, rfl, rfl⟩
    exact ⟨.tuple #[.pointer none, .int .i64 4], by simp [results, Try.results26, go_sem, r0, r1], HBF.out, fun _ => by rw [hcd], fun hh => by rw [hcd] at hh; cases hh⟩
  have hcd : cdR d non L.length = 0 := by rw [HR.out, if_neg HNC.out, if_neg (by rw [hw]; simp)]
  have hnn : 0 ≤ non ∧ non ≤ (d.nons.length : Int) - 1 := by unfold wiB at hw; simpa using hw
  obtain ⟨hn0, hn1⟩ := hnn
  rw [hw] at HHN
  clear hw
  go_wp2_with fail
  refine Calls.mono HHN.out ?_
  rintro e w2 ⟨rfl, rfl⟩
  obtain ⟨w2, hw2⟩ : ∃ w2, w1.alloc (.cells #[.slice a0 d.terms.length c0, .slice a1 d.nons.length c1, .int .i64 d.own, .slice a3 d.prods.length c3] 34) = w2 := ⟨_, rfl⟩
  have hX2 := RBx.still HX1.out (bel_alloc w1 (.cells #[.slice a0 d.terms.length c0, .slice a1 d.nons.length c1, .int .i64 d.own, .slice a3 d.prods.length c3] 34))
  rw [hw2] at hX2 ⊢
  clear x0 x1 x2 x3 HHN HX1 hw2
  have HX2 := (show Hid _ from hX2)
  have x0 := hX2.b.cell 0 (by simp)
  have x1 := hX2.b.cell 1 (by simp)
  have x2 := hX2.b.cell 2 (by simp)
  have x3 := hX2.b.cell 3 (by simp)
  simp only [List.getD_cons_zero, List.getD_cons_succ] at x0 x1 x2 x3
  have hb4 := bel_alloc w2 (.cells #[.slice a0 d.terms.length c0, .slice a1 d.nons.length c1, .int .i64 d.own, .slice a3 d.prods.length c3, .slice ad L.length cd] 87)
  have hX4 := RBx.still hX2 hb4
  have hz4 : (w2.alloc (.cells #[.slice a0 d.terms.length c0, .slice a1 d.nons.length c1, .int .i64 d.own, .slice a3 d.prods.length c3, .slice ad L.length cd] 87)).heap.size = w2.heap.size + 1 := by simp
  have hrd0 : RdI d L S w2.heap.size (.slice a0 d.terms.length c0) (.slice a1 d.nons.length c1) (.slice a3 d.prods.length c3) (w2.alloc (.cells #[.slice a0 d.terms.length c0, .slice a1 d.nons.length c1, .int .i64 d.own, .slice a3 d.prods.length c3, .slice ad L.length cd] 87)) 0 := ⟨⟨_, Box.new w2 87 [.slice a0 d.terms.length c0, .slice a1 d.nons.length c1, .int .i64 d.own, .slice a3 d.prods.length c3, .slice ad L.length cd], (Num.of (Ints.still (S := S) (l := L) HDI.out hX4.bel))⟩, HLI.out.still hX4.bel, fun b hb => by have := HSS.out b hb; have := hX2.sz; omega⟩
  have HCL := (show Hid _ from read_n HBN2.out (L.length + 1) (d.terms.length + non) 0 _ hrd0 (by omega) (by omega) (by omega) (by omega))
  have HX4 := (show Hid _ from hX4)
  have y0 := hX4.b.cell 0 (by simp)
  simp only [List.getD_cons_zero] at y0
  have kw : IntKind.i64.wrap ((d.terms.length : Int) + non) = (d.terms.length : Int) + non := by simp [IntKind.wrap, IntKind.bits, IntKind.signed]; omega
  have hsz2 := hX2.sz
  clear hX4 hrd0 hX2 hb4
  go_wp2_with fail
  refine Calls.mono HCL.out ?_
  rintro e w5 ⟨hk, hno, hyes⟩
  rw [hz4] at hk
  have hk5 := hk.size
  rw [hz4] at hk5
  have hbl : ∀ b, b < w2.heap.size → w5.heap[b]? = (w2.alloc (.cells #[.slice a0 d.terms.length c0, .slice a1 d.nons.length c1, .int .i64 d.own, .slice a3 d.prods.length c3, .slice ad L.length cd] 87)).heap[b]? := fun b hb => hk.block b (by omega) (by omega)
  have hX : RBx w w5 (.pointer none) [.slice a0 d.terms.length c0, .slice a1 d.nons.length c1, .int .i64 d.own, .slice a3 d.prods.length c3] := ⟨HX4.out.bel.trans ((hk.mono (B' := w.heap.size) (by omega)).below (by omega)), by omega, HX4.out.b.keep (hbl _ (by omega)), HX4.out.p0.keep (hbl _ (by omega)), HX4.out.p1.keep (hbl _ (by omega))⟩
  clear x0 x1 x2 x3 y0 HCL hk hbl HX4 HX2
  cases hrd : rd d L (L.length + 1) (d.terms.length + non) 0 with
  | none =>
    obtain rfl := hno hrd
    have q0 := hX.p0
    have q1 := hX.p1
    have HXX := (show Hid _ from hX)
    have HFF : Hid (∀ w', Below w.heap.size w w' → RiA d L non w (.returned (.tuple #[.pointer none, .int .i64 2])) w') := fun w' hb => ⟨hb, fun hh => absurd hcd hh, fun _ => ⟨(fun hh => by rw [hrd] at hh; cases hh), fun _ => rfl⟩⟩
    clear hX hno hyes hrd
    go_wp2_with fail
    refine leaves_cons (f := 46) (args := #[.pointer (some ⟨w.heap.size + 1, 0, none⟩), .pointer (some ⟨w.heap.size + 1 + 1, 0, none⟩)]) (by simp) (by simp [go_sem]) ?_
    refine (catchR_panicking _ _ 2 0 [] w5 _ _ (q0.cell 0 (by simp)) (q1.cell 0 (by simp)) (q0.frozen 0) (q1.frozen 0) (by omega)).mono ?_
    rintro e u' w'' ⟨rfl, rfl, w6, hb6, rfl⟩
    have hX6 := RBx.still HXX.out hb6
    have r0 := ((hX6.p0.set 0 (.pointer none)).past (q := w.heap.size + 1 + 1) (o := 0) (u := .int .i64 2) (by omega)).cell 0 (by simp)
    have r1 := ((hX6.p1.past (q := w.heap.size + 1) (o := 0) (u := .pointer none) (by omega)).set 0 (.int .i64 2)).cell 0 (by simp)
    simp only [List.set_cons_zero, List.getD_cons_zero] at r0 r1
    refine ⟨.tuple #[.pointer none, .int .i64 2], by simp [results, Try.results26, go_sem, r0, r1], HFF.out _ ?_⟩
    exact (hX6.bel.setCell (by show w.heap.size ≤ w.heap.size + 1; omega) _).setCell (by show w.heap.size ≤ w.heap.size + 1 + 1; omega) _
  | some b =>
    obtain ⟨v, rfl, hri, hdp⟩ := hyes b hrd
    obtain ⟨pv, rfl⟩ : ∃ pv, v = .pointer pv := by obtain ⟨g, _, _, _, _, _, hv, _⟩ := hdp; exact ⟨_, hv⟩
    obtain ⟨⟨vn, hbx, hnum⟩, _, _⟩ := hri
    obtain ⟨an, c, bn, on, rfl, hc, hm, _⟩ := hnum
    have hble := (rd_gt d L _ _ _ _ hrd).2
    have q0 := hX.p0
    have q1 := hX.p1
    have c0' := q0.cell 0 (by simp)
    have f0 := q0.frozen 0
    simp only [List.getD_cons_zero] at c0'
    have n4 := (hbx.past (q := w.heap.size + 1) (o := 0) (u := .pointer pv) (by omega)).cell 4 (by simp)
    simp only [List.getD_cons_zero, List.getD_cons_succ] at n4
    have p6 := q0.set 0 (.pointer pv)
    have k6 := q1.past (q := w.heap.size + 1) (o := 0) (u := .pointer pv) (by omega)
    have d0 := p6.cell 0 (by simp)
    have g0 := p6.frozen 0
    simp only [List.set_cons_zero, List.getD_cons_zero] at d0 p6
    by_cases hbL : b = L.length
    · have hN : L.length - b = 0 := by omega
      rw [hN] at n4
      have k7 := k6.past (q := w.heap.size + 1) (o := 0) (u := .pointer pv) (by omega)
      have d1 := k7.cell 0 (by simp)
      have g1 := k7.frozen 0
      have r0 := ((p6.set 0 (.pointer pv)).past (q := w.heap.size + 1 + 1) (o := 0) (u := .int .i64 0) (by omega)).cell 0 (by simp)
      have r1 := (k7.set 0 (.int .i64 0)).cell 0 (by simp)
      simp only [List.set_cons_zero, List.getD_cons_zero] at d1 r0 r1
      have HFF : Hid (RiA d L non w (.returned (.tuple #[.pointer pv, .int .i64 0])) (((w5.setCell ⟨w.heap.size + 1, 0, none⟩ (.pointer pv)).setCell ⟨w.heap.size + 1, 0, none⟩ (.pointer pv)).setCell ⟨w.heap.size + 1 + 1, 0, none⟩ (.int .i64 0))) := by
        refine ⟨((hX.bel.setCell (by show w.heap.size ≤ w.heap.size + 1; omega) _).setCell (by show w.heap.size ≤ w.heap.size + 1; omega) _).setCell (by show w.heap.size ≤ w.heap.size + 1 + 1; omega) _, fun hh => absurd hcd hh, fun _ => ⟨fun _ => ⟨pv, rfl, DP.mono (fun t ht => by omega) _ _ _ (DP.keep (fun t ht hlt => ?_) _ _ _ hdp)⟩, fun hh => absurd (by rw [hrd, hbL]) hh⟩⟩
        rw [Below.heap_setCell _ _ _ _ (by show t ≠ w.heap.size + 1 + 1; omega), Below.heap_setCell _ _ _ _ (by show t ≠ w.heap.size + 1; omega), Below.heap_setCell _ _ _ _ (by show t ≠ w.heap.size + 1; omega)]
      clear hX hno hyes hrd hdp hbx q0 q1 p6 k6 k7 hbL hN
      go_wp2_with fail
      refine leaves_cons (f := 46) (args := #[.pointer (some ⟨w.heap.size + 1, 0, none⟩), .pointer (some ⟨w.heap.size + 1 + 1, 0, none⟩)]) (by simp) (by simp [go_sem]) ?_
      refine (catchR_idle _ _ _).mono ?_
      rintro e u' w'' ⟨rfl, rfl, rfl⟩
      exact ⟨.tuple #[.pointer pv, .int .i64 0], by simp [results, Try.results26, go_sem, r0, r1], HFF.out⟩
    · obtain ⟨N, hN⟩ : ∃ N, L.length - b = N + 1 := ⟨L.length - b - 1, by omega⟩
      rw [hN] at n4
      have k7 := k6.past (q := w.heap.size + 1) (o := 0) (u := .pointer none) (by omega)
      have d1 := k7.cell 0 (by simp)
      have g1 := k7.frozen 0
      have r0 := ((p6.set 0 (.pointer none)).past (q := w.heap.size + 1 + 1) (o := 0) (u := .int .i64 2) (by omega)).cell 0 (by simp)
      have r1 := (k7.set 0 (.int .i64 2)).cell 0 (by simp)
      simp only [List.set_cons_zero, List.getD_cons_zero] at d1 r0 r1
      have hcN : N + 1 ≤ c := by omega
      have hmN : N ≤ 4000 := by omega
      have HFF : Hid (RiA d L non w (.returned (.tuple #[.pointer none, .int .i64 2])) (((w5.setCell ⟨w.heap.size + 1, 0, none⟩ (.pointer pv)).setCell ⟨w.heap.size + 1, 0, none⟩ (.pointer none)).setCell ⟨w.heap.size + 1 + 1, 0, none⟩ (.int .i64 2))) :=
        ⟨((hX.bel.setCell (by show w.heap.size ≤ w.heap.size + 1; omega) _).setCell (by show w.heap.size ≤ w.heap.size + 1; omega) _).setCell (by show w.heap.size ≤ w.heap.size + 1 + 1; omega) _, fun hh => absurd hcd hh, fun _ => ⟨fun hh => absurd (by rw [hrd] at hh; simpa using hh) hbL, fun _ => rfl⟩⟩
      clear hX hno hyes hrd hdp hbx q0 q1 p6 k6 k7 hbL hN
      go_wp2_with fail
      refine leaves_cons (f := 46) (args := #[.pointer (some ⟨w.heap.size + 1, 0, none⟩), .pointer (some ⟨w.heap.size + 1 + 1, 0, none⟩)]) (by simp) (by simp [go_sem]) ?_
      refine (catchR_idle _ _ _).mono ?_
      rintro e u' w'' ⟨rfl, rfl, rfl⟩
      exact ⟨.tuple #[.pointer none, .int .i64 2], by simp [results, Try.results26, go_sem, r0, r1], HFF.out⟩
end Go.Proofs.Ytaimlmjgicmbeaa
