import Derived.Test.YtboffildchoelaaXd
/-! A meaning as it lies: size, copy, comparison. -/
namespace Go.Proofs.Ytboffildchoelaa
open Go.RowKit Go.Deep Go.Lib Go.ChangeShapes Go.WideShapes
set_option linter.unusedVariables false
set_option maxRecDepth 100000
set_option linter.unusedSimpArgs false

set_option maxHeartbeats 1600000 in
theorem toRulesM (rl : List Rw) (v : Value) (w : World) (h : RLy w rl v) (hwt : rwt rl ≤ 1048576) :
    Calls Try.prog 18 #[v] w fun e w' => e = .returned (.slice (some ⟨w.heap.size, 0, none⟩) rl.length rl.length) ∧ Below w.heap.size w w' ∧ MadeU rl w.heap.size rl.length w' := by
  obtain ⟨a, cap, b, off, sv, tv, rfl, hc, hm, ha, hx, hcell, hk, hk'⟩ := h
  have hlen : rl.length ≤ 1048576 := by unfold rwt at hwt; omega
  have HW := (show Hid (∀ i (hi : i < rl.length), rl[i].left.wt ≤ 1048576 ∧ rl[i].right.wt ≤ 1048576) from fun i hi => by
    have := rwL_mem rl i hi
    unfold rwt at hwt
    unfold rw1 at this
    omega)
  have HX := (show Hid _ from hx)
  clear hx hwt
  unfold maxLen at hm
  have HC := (show Hid _ from hcell); clear hcell
  have HK := (show Hid _ from hk); clear hk
  have HK' := (show Hid _ from hk'); clear hk'
  have HA := (show Hid _ from ha); clear ha
  have hmk := run_makeRules rl.length hlen
  go_enter Try.func18, Try.ntmps18
  go_wp2_with fail
  go_loopw [4] (fun i wr => ∃ j : Nat, j ≤ rl.length ∧ i = .int .i64 j ∧ Hid (Below w.heap.size w wr) ∧ Hid (MadeU rl w.heap.size j wr)) (fun i _ => rl.length - (intOf i).toNat)
  case atStart =>
    obtain ⟨f, hf⟩ := row_made w #[.string ByteArray.empty, .string ByteArray.empty, .string ByteArray.empty, .bool false, .slice none 0 0, .string ByteArray.empty, .string ByteArray.empty, .bool false, .slice none 0 0] (rl.length * 9) 44
    exact ⟨0, Nat.zero_le _, rfl, bel_alloc _ _, f, hf, fun i hi => absurd hi (Nat.not_lt_zero _), fun i hi => absurd hi (Nat.not_lt_zero _), fun i hi => absurd hi (Nat.not_lt_zero _)⟩
  case round =>
    obtain ⟨j, hj, rfl, HB, HM⟩ := hrel
    by_cases hlt : j < rl.length
    · have hbel := HB.out
      obtain rfl := HA.out (by omega)
      obtain ⟨c0, c1, c2, c3, c4, c5, c6, c7, c8⟩ := HC.out j hlt
      rw [← hbel.cell (lt_of_cell c0)] at c0
      rw [← hbel.cell (lt_of_cell c1)] at c1
      rw [← hbel.cell (lt_of_cell c2)] at c2
      rw [← hbel.cell (lt_of_cell c3)] at c3
      rw [← hbel.cell (lt_of_cell c4)] at c4
      rw [← hbel.cell (lt_of_cell c5)] at c5
      rw [← hbel.cell (lt_of_cell c6)] at c6
      rw [← hbel.cell (lt_of_cell c7)] at c7
      rw [← hbel.cell (lt_of_cell c8)] at c8
      obtain ⟨a4, l4, p4, e4⟩ := (HK.out j hlt).form
      obtain ⟨a5, l5, p5, e5⟩ := (HK'.out j hlt).form
      have HCL := (show Hid _ from toRule65 rl[j] (sv j) (tv j) wr ((HK.out j hlt).still hbel) ((HK'.out j hlt).still hbel) (HW.out j hlt).1 (HW.out j hlt).2)
      rw [e4] at c4 HCL
      rw [e5] at c8 HCL
      have q1 : (j : Int) < (rl.length : Int) := by omega
      clear hbel e4 e5
      go_wp2_with fail
      refine Calls.mono HCL.out ?_
      rintro e w1 ⟨u, u', rfl, hb1, hl1, hl2⟩
      clear c0 c1 c2 c3 c4 c5 c6 c7 c8
      obtain ⟨f, hrow, _⟩ := HM.out
      have hg := hrow.lt
      have hrow1 := hrow.of_block (hb1.block _ hrow.lt)
      have e0 := hrow1.cell (i := j * 9) (by omega)
      have z0 := hrow1.frozen (j * 9)
      have e1 := hrow1.cell (i := j * 9 + 1) (by omega)
      have z1 := hrow1.frozen (j * 9 + 1)
      have e2 := hrow1.cell (i := j * 9 + 2) (by omega)
      have z2 := hrow1.frozen (j * 9 + 2)
      have e3 := hrow1.cell (i := j * 9 + 3) (by omega)
      have z3 := hrow1.frozen (j * 9 + 3)
      have e4 := hrow1.cell (i := j * 9 + 4) (by omega)
      have z4 := hrow1.frozen (j * 9 + 4)
      have e5 := hrow1.cell (i := j * 9 + 5) (by omega)
      have z5 := hrow1.frozen (j * 9 + 5)
      have e6 := hrow1.cell (i := j * 9 + 6) (by omega)
      have z6 := hrow1.frozen (j * 9 + 6)
      have e7 := hrow1.cell (i := j * 9 + 7) (by omega)
      have z7 := hrow1.frozen (j * 9 + 7)
      have e8 := hrow1.cell (i := j * 9 + 8) (by omega)
      have z8 := hrow1.frozen (j * 9 + 8)
      obtain ⟨a1, l1, p1, rfl⟩ := hl1.form
      obtain ⟨a2, l2, p2, rfl⟩ := hl2.form
      have H1 := (show Hid _ from madeU_step hlt HM.out hg hb1 hl1 hl2)
      have HB2 := (show Hid _ from bel_trans HB.out hb1)
      clear hrow hrow1 hl1 hl2 hb1 HCL HB HM
      go_wp2_with fail
      exact ⟨⟨j + 1, by omega, by go_num, ((((((((HB2.out.setCell (Nat.le_refl _) _).setCell (Nat.le_refl _) _).setCell (Nat.le_refl _) _).setCell (Nat.le_refl _) _).setCell (Nat.le_refl _) _).setCell (Nat.le_refl _) _).setCell (Nat.le_refl _) _).setCell (Nat.le_refl _) _).setCell (Nat.le_refl _) _, H1⟩, by simp [intOf]; omega⟩
    · have q1 : ¬ ((j : Int) < (rl.length : Int)) := by omega
      go_wp2_with fail
      go_ret
      have : j = rl.length := by omega
      subst this
      exact ⟨rfl, HB.out, HM.out⟩
set_option maxHeartbeats 1600000 in
theorem toShapesM (l : List Shp) (v : Value) (w : World) (h : ShLy w l v) (hwt : swt l ≤ 1048576) :
    Calls Try.prog 20 #[v] w fun e w' => e = .returned (.slice (some ⟨w.heap.size, 0, none⟩) l.length l.length) ∧ Below w.heap.size w w' ∧ MadeH l w.heap.size l.length w' := by
  obtain ⟨a, cap, b, off, rfl, hc, hm, ha, hx, hcell⟩ := h
  have hlen : l.length ≤ 1048576 := by unfold swt at hwt; omega
  have HX := (show Hid _ from hx)
  clear hx hwt
  unfold maxLen at hm
  have HC := (show Hid _ from hcell); clear hcell
  have HA := (show Hid _ from ha); clear ha
  have hmk := run_makeShapes l.length hlen
  go_enter Try.func20, Try.ntmps20
  go_wp2_with fail
  go_loopw [4] (fun i wr => ∃ j : Nat, j ≤ l.length ∧ i = .int .i64 j ∧ Hid (Below w.heap.size w wr) ∧ Hid (MadeH l w.heap.size j wr)) (fun i _ => l.length - (intOf i).toNat)
  case atStart =>
    obtain ⟨f, hf⟩ := row_made w #[.string ByteArray.empty, .string ByteArray.empty, .bool false, .int .i64 0] (l.length * 4) 49
    exact ⟨0, Nat.zero_le _, rfl, bel_alloc _ _, f, hf, fun i hi => absurd hi (Nat.not_lt_zero _)⟩
  case round =>
    obtain ⟨j, hj, rfl, HB, HM⟩ := hrel
    by_cases hlt : j < l.length
    · have hbel := HB.out
      obtain rfl := HA.out (by omega)
      obtain ⟨c0, c1, c2, c3⟩ := HC.out j hlt
      rw [← hbel.cell (lt_of_cell c0)] at c0
      rw [← hbel.cell (lt_of_cell c1)] at c1
      rw [← hbel.cell (lt_of_cell c2)] at c2
      rw [← hbel.cell (lt_of_cell c3)] at c3
      have HCL := (show Hid _ from toShape37 l[j] wr)
      have q1 : (j : Int) < (l.length : Int) := by omega
      clear hbel
      go_wp2_with fail
      refine Calls.mono HCL.out ?_
      rintro e w1 ⟨rfl, hb1⟩
      clear c0 c1 c2 c3
      obtain ⟨f, hrow, _⟩ := HM.out
      have hg := hrow.lt
      have hrow1 := hrow.of_block (hb1.block _ hrow.lt)
      have e0 := hrow1.cell (i := j * 4) (by omega)
      have z0 := hrow1.frozen (j * 4)
      have e1 := hrow1.cell (i := j * 4 + 1) (by omega)
      have z1 := hrow1.frozen (j * 4 + 1)
      have e2 := hrow1.cell (i := j * 4 + 2) (by omega)
      have z2 := hrow1.frozen (j * 4 + 2)
      have e3 := hrow1.cell (i := j * 4 + 3) (by omega)
      have z3 := hrow1.frozen (j * 4 + 3)
      have H1 := (show Hid _ from madeH_step hlt HM.out hg hb1)
      have HB2 := (show Hid _ from bel_trans HB.out hb1)
      clear hrow hrow1 hb1 HCL HB HM
      go_wp2_with fail
      refine ⟨⟨j + 1, by omega, by go_num, ?_, H1⟩, by simp [intOf]; omega⟩
      exact (((HB2.out.setCell (Nat.le_refl _) _).setCell (Nat.le_refl _) _).setCell (Nat.le_refl _) _).setCell (Nat.le_refl _) _
    · have q1 : ¬ ((j : Int) < (l.length : Int)) := by omega
      go_wp2_with fail
      go_ret
      have : j = l.length := by omega
      subst this
      exact ⟨rfl, HB.out, HM.out⟩

/-- A meaning. -/
structure Se where
  rl : List Rw
  vs : List Tr
  cs : List Tr
  hs : List Shp
/-- As it lies: four rows. -/
structure SLy (w : World) (s : Se) (r1 v1 c1 h1 : Option Addr) (r2 v2 c2 h2 : Nat) : Prop where
  r : RLy w s.rl (.slice r1 s.rl.length r2)
  v : Trs w (fun _ => True) s.vs (.slice v1 s.vs.length v2)
  c : Trs w (fun _ => True) s.cs (.slice c1 s.cs.length c2)
  h : ShLy w s.hs (.slice h1 s.hs.length h2)
theorem SLy.still {w w' : World} {s : Se} {r1 v1 c1 h1 : Option Addr} {r2 v2 c2 h2 : Nat} (x : SLy w s r1 v1 c1 h1 r2 v2 c2 h2) (hb : Below w.heap.size w w') : SLy w' s r1 v1 c1 h1 r2 v2 c2 h2 := ⟨x.r.still hb, x.v.still hb, x.c.still hb, x.h.still hb⟩
def tw (k : List Tr) : Nat := k.length + Tr.wtL k
def seW (s : Se) : Nat := rwt s.rl + tw s.vs + tw s.cs + swt s.hs
theorem szTrs10 {S : Nat → Prop} (k : List Tr) (v : Value) (w : World) (left : Int) (h : Trs w S k v) (h0 : 0 ≤ left) (h1 : left ≤ 1048576) :
    Calls Try.prog 10 #[v, .int .i64 left] w fun e w' => e = .returned (.int .i64 (szR (tw k) left)) ∧ Below w.heap.size w w' := by
  obtain ⟨a, cap, b, off, sv, rfl, hc, hm, ha, hcell, hr⟩ := h
  exact szS_any k a cap b off sv S hc hm ha (fun i hi w left hl h0 h1 => sz_any k[i] (sv i) w left hl h0 h1) w left h0 h1 hcell hr
theorem toTrs19 {S : Nat → Prop} (k : List Tr) (v : Value) (w : World) (h : Trs w S k v) (hs : tw k ≤ 1048576) :
    Calls Try.prog 19 #[v] w fun e w' => e = .returned (.slice (some ⟨w.heap.size, 0, none⟩) k.length k.length) ∧ Below w.heap.size w w' ∧ Made k w.heap.size k.length w' := by
  obtain ⟨a, cap, b, off, sv, rfl, hc, hm, ha, hcell, hr⟩ := h
  unfold tw at hs
  exact toS_any k a cap b off sv S hc hm ha (by omega) (fun i hi w hl => to_any k[i] (sv i) w hl (by have := Tr.wt_mem k i hi; omega)) w hcell hr
theorem eqTrs23 {S S' : Nat → Prop} (k : List Tr) (v v' : Value) (w : World) (h : Trs w S k v) (h' : Trs w S' k v') :
    Calls Try.prog 23 #[v, v'] w fun e w' => e = .returned (.bool true) ∧ Below w.heap.size w w' := by
  obtain ⟨a, cap, b, off, sv, rfl, hc, hm, ha, hcell, hr⟩ := h
  obtain ⟨a', cap', b', off', sv', rfl, hc', hm', ha', hcell', hr'⟩ := h'
  exact eqS_any k a a' cap b off cap' b' off' sv sv' S S' hc hm hc' hm' ha ha' (fun i hi w h1 h2 => eq_any k[i] (sv i) (sv' i) w h1 h2) w hcell hcell' hr hr'
/-- All from g on is as it was. -/
def Kg3 (g : Nat) (w w' : World) : Prop := ∀ q, g ≤ q → q < w.heap.size → w'.heap[q]? = w.heap[q]?
theorem lies_kg {w w' : World} {g : Nat} {t : Tr} {v : Value} (h : Lies w (fun b => g < b) t v) (hk : Kg3 g w w') : Lies w' (fun _ => True) t v :=
  (Lies.keep (fun q (hq : g < q ∧ q < w.heap.size) => hk q (by omega) hq.2) h.lt).mono (fun _ _ => trivial)
theorem madeU_kg {rl : List Rw} {g : Nat} {w w' : World} (h : MadeU rl g rl.length w) (hk : Kg3 g w w') (hl : rl.length ≤ maxLen) (hx : ∀ i (hi : i < rl.length), rl[i].name.size ≤ maxLen) : RLy w' rl (.slice (some ⟨g, 0, none⟩) rl.length rl.length) := by
  obtain ⟨f, hrow, hcs, hls, hrs⟩ := h
  have hrow' := hrow.of_block (hk g (Nat.le_refl _) hrow.lt)
  refine ⟨_, _, g, 0, fun i => f (i * 9 + 4), fun i => f (i * 9 + 8), rfl, Nat.le_refl _, hl, fun _ => rfl, hx, fun i hi => ?_, fun i hi => lies_kg (hls i hi hi) hk, fun i hi => lies_kg (hrs i hi hi) hk⟩
  obtain ⟨q0, q1, q2, q3, q5, q6, q7⟩ := hcs i hi hi
  rw [Nat.zero_add]
  exact ⟨by rw [hrow'.cell (by omega), q0], by rw [hrow'.cell (by omega), q1], by rw [hrow'.cell (by omega), q2], by rw [hrow'.cell (by omega), q3], hrow'.cell (by omega), by rw [hrow'.cell (by omega), q5], by rw [hrow'.cell (by omega), q6], by rw [hrow'.cell (by omega), q7], hrow'.cell (by omega)⟩
theorem made_kg {k : List Tr} {g : Nat} {w w' : World} (h : Made k g k.length w) (hk : Kg3 g w w') (hl : k.length ≤ maxLen) : Trs w' (fun _ => True) k (.slice (some ⟨g, 0, none⟩) k.length k.length) := by
  obtain ⟨f, sv, hrow, hcs, hls⟩ := h
  have hrow' := hrow.of_block (hk g (Nat.le_refl _) hrow.lt)
  refine ⟨_, _, g, 0, sv, rfl, Nat.le_refl _, hl, fun _ => ⟨rfl, trivial⟩, fun i hi => ?_, fun i hi => lies_kg (hls i hi hi) hk⟩
  obtain ⟨q0, q1, q2, q3⟩ := hcs i hi hi
  rw [← q0, ← q1, ← q2, ← q3]
  simp only [Nat.zero_add]
  exact ⟨hrow'.cell (by omega), hrow'.cell (by omega), hrow'.cell (by omega), hrow'.cell (by omega)⟩
theorem madeH_kg {l : List Shp} {g : Nat} {w w' : World} (h : MadeH l g l.length w) (hk : Kg3 g w w') (hl : l.length ≤ maxLen) (hx : ∀ i (hi : i < l.length), l[i].name.size ≤ maxLen ∧ l[i].text.size ≤ maxLen) : ShLy w' l (.slice (some ⟨g, 0, none⟩) l.length l.length) := by
  obtain ⟨f, hrow, hcs⟩ := h
  have hrow' := hrow.of_block (hk g (Nat.le_refl _) hrow.lt)
  refine ⟨_, _, g, 0, rfl, Nat.le_refl _, hl, fun _ => rfl, hx, fun i hi => ?_⟩
  obtain ⟨q0, q1, q2, q3⟩ := hcs i hi hi
  rw [Nat.zero_add]
  exact ⟨by rw [hrow'.cell (by omega), q0], by rw [hrow'.cell (by omega), q1], by rw [hrow'.cell (by omega), q2], by rw [hrow'.cell (by omega), q3]⟩
theorem kg_refl (g : Nat) (w : World) : Kg3 g w w := fun _ _ _ => rfl
theorem kg_set {g c o : Nat} {w wa : World} {u : Value} (h : Kg3 g w wa) (hc : c < g) : Kg3 g w (wa.setCell ⟨c, o, none⟩ u) := fun q hq hs => (blk_setCell_other _ _ _ _ (by show q ≠ c; omega)).trans (h q hq hs)
theorem kg_bel {g : Nat} {w wa wb : World} (h : Kg3 g w wa) (hz : w.heap.size ≤ wa.heap.size) (hb : Below wa.heap.size wa wb) : Kg3 g w wb := fun q hq hs => (hb.block q (by omega)).trans (h q hq hs)
theorem sz_two {a b : Nat} {left : Int} (h : 0 ≤ szR a left) : szR b (szR a left) = szR (a + b) left := by
  unfold szR at h ⊢
  split at h
  · rename_i h1
    rw [if_pos h1]
    split
    · rw [if_pos (by omega)]; omega
    · rw [if_neg (by omega)]
  · omega
theorem sz_neg {a b : Nat} {left : Int} (h : szR a left < 0) (h0 : 0 ≤ left) : szR (a + b) left = -1 := by
  unfold szR at h ⊢
  split at h
  · omega
  · rw [if_neg (by omega)]
theorem sz_le {a : Nat} {left : Int} (h : left ≤ 1048576) (h0 : 0 ≤ left) : szR a left ≤ 1048576 := by
  unfold szR
  split <;> omega
set_option maxHeartbeats 1600000 in
theorem szSem4 (s : Se) (r1 v1 c1 h1 : Option Addr) (r2 v2 c2 h2 : Nat) (w : World) (h : SLy w s r1 v1 c1 h1 r2 v2 c2 h2) :
    Calls Try.prog 4 #[.agg #[.slice r1 s.rl.length r2, .slice v1 s.vs.length v2, .slice c1 s.cs.length c2, .slice h1 s.hs.length h2], .int .i64 1048576] w fun e w' => e = .returned (.int .i64 (szR (seW s) 1048576)) ∧ Below w.heap.size w w' := by
  have HBL := (show Hid (Below w.heap.size w (w.alloc (.cells #[.slice r1 s.rl.length r2, .slice v1 s.vs.length v2, .slice c1 s.cs.length c2, .slice h1 s.hs.length h2] 26))) from bel_alloc _ _)
  have HBX := (show Hid (∀ wq : World, Below (w.alloc (.cells #[.slice r1 s.rl.length r2, .slice v1 s.vs.length v2, .slice c1 s.cs.length c2, .slice h1 s.hs.length h2] 26)).heap.size (w.alloc (.cells #[.slice r1 s.rl.length r2, .slice v1 s.vs.length v2, .slice c1 s.cs.length c2, .slice h1 s.hs.length h2] 26)) wq → Box wq w.heap.size 26 [.slice r1 s.rl.length r2, .slice v1 s.vs.length v2, .slice c1 s.cs.length c2, .slice h1 s.hs.length h2]) from fun wq hq => (Box.new w 26 _).still hq)
  have H1 := (show Hid (∀ (wq : World) (lf : Int), Below w.heap.size w wq → 0 ≤ lf → lf ≤ 1048576 → Calls Try.prog 9 #[.slice r1 s.rl.length r2, .int .i64 lf] wq fun e w' => e = .returned (.int .i64 (szR (rwt s.rl) lf)) ∧ Below wq.heap.size wq w') from fun wq lf hb g0 g1 => szRules26 _ _ _ _ (h.r.still hb) g0 g1)
  have H2 := (show Hid (∀ (wq : World) (lf : Int), Below w.heap.size w wq → 0 ≤ lf → lf ≤ 1048576 → Calls Try.prog 10 #[.slice v1 s.vs.length v2, .int .i64 lf] wq fun e w' => e = .returned (.int .i64 (szR (tw s.vs) lf)) ∧ Below wq.heap.size wq w') from fun wq lf hb g0 g1 => szTrs10 _ _ _ _ (h.v.still hb) g0 g1)
  have H3 := (show Hid (∀ (wq : World) (lf : Int), Below w.heap.size w wq → 0 ≤ lf → lf ≤ 1048576 → Calls Try.prog 10 #[.slice c1 s.cs.length c2, .int .i64 lf] wq fun e w' => e = .returned (.int .i64 (szR (tw s.cs) lf)) ∧ Below wq.heap.size wq w') from fun wq lf hb g0 g1 => szTrs10 _ _ _ _ (h.c.still hb) g0 g1)
  have H4 := (show Hid (∀ (wq : World) (lf : Int), Below w.heap.size w wq → 0 ≤ lf → lf ≤ 1048576 → Calls Try.prog 11 #[.slice h1 s.hs.length h2, .int .i64 lf] wq fun e w' => e = .returned (.int .i64 (szR (swt s.hs) lf)) ∧ Below wq.heap.size wq w') from fun wq lf hb g0 g1 => szShapes11 _ _ _ _ (h.h.still hb) g0 g1)
  clear h
  unfold seW
  generalize rwt s.rl = W1 at *
  generalize tw s.vs = W2 at *
  generalize tw s.cs = W3 at *
  generalize swt s.hs = W4 at *
  generalize s.rl.length = n1 at *
  generalize s.vs.length = n2 at *
  generalize s.cs.length = n3 at *
  generalize s.hs.length = n4 at *
  go_enter Try.func4, Try.ntmps4
  go_wp2_with fail
  refine Calls.mono (H1.out _ _ HBL.out (by omega) (by omega)) ?_
  rintro e w1 ⟨rfl, hb1⟩
  have bx1 := HBX.out w1 hb1
  have x1 : w1.cell? ⟨w.heap.size, 1, none⟩ = some (.slice v1 n2 v2) := bx1.cell 1 (by simp)
  have B1 := (show Hid _ from hb1)
  clear hb1 bx1 H1
  by_cases hz1 : szR W1 1048576 < 0
  · have HE := (show Hid (szR (W1 + W2 + W3 + W4) 1048576 = -1) from by rw [Nat.add_assoc, Nat.add_assoc]; exact sz_neg hz1 (by omega))
    generalize szR W1 1048576 = L1 at *
    go_wp2_with fail
    go_ret
    exact ⟨ret_int HE.out.symm, bel_box B1.out⟩
  have HZ1 := (show Hid _ from (⟨sz_two (b := W2) (by omega : 0 ≤ szR W1 1048576), sz_le (a := W1) (by omega : (1048576 : Int) ≤ 1048576) (by omega)⟩ : _ ∧ _))
  have hq1 : ¬ (szR W1 1048576 < 0) := hz1
  generalize hL1 : szR W1 1048576 = L1 at *
  have hq1n : 0 ≤ L1 := by omega
  have hq1m : L1 ≤ 1048576 := HZ1.out.2
  clear hz1 hL1
  go_wp2_with fail
  refine Calls.mono (H2.out _ _ (bel_box B1.out) hq1n hq1m) ?_
  rintro e w2 ⟨rfl, hb2⟩
  have B2 := (show Hid _ from bel_trans B1.out hb2)
  have bx2 := HBX.out w2 B2.out
  have x2 : w2.cell? ⟨w.heap.size, 2, none⟩ = some (.slice c1 n3 c2) := bx2.cell 2 (by simp)
  clear hb2 bx2 H2 x1 B1
  rw [HZ1.out.1]
  by_cases hz2 : szR (W1 + W2) 1048576 < 0
  · have HE := (show Hid (szR (W1 + W2 + W3 + W4) 1048576 = -1) from by rw [Nat.add_assoc]; exact sz_neg hz2 (by omega))
    generalize szR (W1 + W2) 1048576 = L2 at *
    go_wp2_with fail
    go_ret
    exact ⟨ret_int HE.out.symm, bel_box B2.out⟩
  have HZ2 := (show Hid _ from (⟨sz_two (b := W3) (by omega : 0 ≤ szR (W1 + W2) 1048576), sz_le (a := W1 + W2) (by omega : (1048576 : Int) ≤ 1048576) (by omega)⟩ : _ ∧ _))
  clear HZ1
  have hq2 : ¬ (szR (W1 + W2) 1048576 < 0) := hz2
  generalize hL2 : szR (W1 + W2) 1048576 = L2 at *
  have hq2n : 0 ≤ L2 := by omega
  have hq2m : L2 ≤ 1048576 := HZ2.out.2
  clear hz2 hL2
  go_wp2_with fail
  refine Calls.mono (H3.out _ _ (bel_box B2.out) hq2n hq2m) ?_
  rintro e w3 ⟨rfl, hb3⟩
  have B3 := (show Hid _ from bel_trans B2.out hb3)
  have bx3 := HBX.out w3 B3.out
  have x3 : w3.cell? ⟨w.heap.size, 3, none⟩ = some (.slice h1 n4 h2) := bx3.cell 3 (by simp)
  clear hb3 bx3 H3 x2 B2
  rw [HZ2.out.1]
  by_cases hz3 : szR (W1 + W2 + W3) 1048576 < 0
  · have HE := (show Hid (szR (W1 + W2 + W3 + W4) 1048576 = -1) from sz_neg hz3 (by omega))
    generalize szR (W1 + W2 + W3) 1048576 = L3 at *
    go_wp2_with fail
    go_ret
    exact ⟨ret_int HE.out.symm, bel_box B3.out⟩
  have HZ3 := (show Hid _ from (⟨sz_two (b := W4) (by omega : 0 ≤ szR (W1 + W2 + W3) 1048576), sz_le (a := W1 + W2 + W3) (by omega : (1048576 : Int) ≤ 1048576) (by omega)⟩ : _ ∧ _))
  clear HZ2
  have hq3 : ¬ (szR (W1 + W2 + W3) 1048576 < 0) := hz3
  generalize hL3 : szR (W1 + W2 + W3) 1048576 = L3 at *
  have hq3n : 0 ≤ L3 := by omega
  have hq3m : L3 ≤ 1048576 := HZ3.out.2
  clear hz3 hL3
  go_wp2_with fail
  refine Calls.mono (H4.out _ _ (bel_box B3.out) hq3n hq3m) ?_
  rintro e w4 ⟨rfl, hb4⟩
  have B4 := (show Hid _ from bel_trans B3.out hb4)
  clear hb4 H4 x3 B3
  rw [HZ3.out.1]
  have HN := (show Hid (∀ L : Int, szR (W1 + W2 + W3 + W4) 1048576 = L → L < 0 → szR (W1 + W2 + W3 + W4) 1048576 = -1) from fun L hL h => by
    rw [← hL] at h
    unfold szR at h ⊢
    split at h
    · omega
    · rename_i h1; rw [if_neg h1])
  generalize hL4 : szR (W1 + W2 + W3 + W4) 1048576 = L4
  have HL4 := (show Hid _ from hL4)
  clear hL4
  by_cases hz4 : L4 < 0
  · go_wp2_with fail
    go_ret
    exact ⟨ret_int (HN.out L4 HL4.out hz4).symm, bel_box B4.out⟩
  · go_wp2_with fail
    go_ret
    exact ⟨ret_int HL4.out.symm, bel_box B4.out⟩
set_option maxHeartbeats 1600000 in
theorem eqSem8 (s : Se) (r1 v1 c1 h1 r3 v3 c3 h3 : Option Addr) (r2 v2 c2 h2 r4 v4 c4 h4 : Nat) (w : World) (h : SLy w s r1 v1 c1 h1 r2 v2 c2 h2) (h' : SLy w s r3 v3 c3 h3 r4 v4 c4 h4) :
    Calls Try.prog 8 #[.agg #[.slice r1 s.rl.length r2, .slice v1 s.vs.length v2, .slice c1 s.cs.length c2, .slice h1 s.hs.length h2], .agg #[.slice r3 s.rl.length r4, .slice v3 s.vs.length v4, .slice c3 s.cs.length c4, .slice h3 s.hs.length h4]] w fun e w' => e = .returned (.bool true) ∧ Below w.heap.size w w' := by
  have HBL := (show Hid (Below w.heap.size w ((w.alloc (.cells #[.slice r1 s.rl.length r2, .slice v1 s.vs.length v2, .slice c1 s.cs.length c2, .slice h1 s.hs.length h2] 33)).alloc (.cells #[.slice r3 s.rl.length r4, .slice v3 s.vs.length v4, .slice c3 s.cs.length c4, .slice h3 s.hs.length h4] 33))) from (bel_alloc _ _).alloc (by simp) _)
  have HBX := (show Hid (∀ wq : World, Below ((w.alloc (.cells #[.slice r1 s.rl.length r2, .slice v1 s.vs.length v2, .slice c1 s.cs.length c2, .slice h1 s.hs.length h2] 33)).alloc (.cells #[.slice r3 s.rl.length r4, .slice v3 s.vs.length v4, .slice c3 s.cs.length c4, .slice h3 s.hs.length h4] 33)).heap.size ((w.alloc (.cells #[.slice r1 s.rl.length r2, .slice v1 s.vs.length v2, .slice c1 s.cs.length c2, .slice h1 s.hs.length h2] 33)).alloc (.cells #[.slice r3 s.rl.length r4, .slice v3 s.vs.length v4, .slice c3 s.cs.length c4, .slice h3 s.hs.length h4] 33)) wq → Box wq w.heap.size 33 [.slice r1 s.rl.length r2, .slice v1 s.vs.length v2, .slice c1 s.cs.length c2, .slice h1 s.hs.length h2] ∧ Box wq (w.heap.size + 1) 33 [.slice r3 s.rl.length r4, .slice v3 s.vs.length v4, .slice c3 s.cs.length c4, .slice h3 s.hs.length h4]) from fun wq hq => ⟨((Box.new w 33 _).still (bel_alloc _ _)).still hq, by
    have := (Box.new (w.alloc (.cells #[.slice r1 s.rl.length r2, .slice v1 s.vs.length v2, .slice c1 s.cs.length c2, .slice h1 s.hs.length h2] 33)) 33 [.slice r3 s.rl.length r4, .slice v3 s.vs.length v4, .slice c3 s.cs.length c4, .slice h3 s.hs.length h4]).still hq
    simpa using this⟩)
  have H1 := (show Hid (∀ (wq : World), Below w.heap.size w wq → Calls Try.prog 22 #[.slice r1 s.rl.length r2, .slice r3 s.rl.length r4] wq fun e w' => e = .returned (.bool true) ∧ Below wq.heap.size wq w') from fun wq hb => eqRules30 _ _ _ _ (h.r.still hb) (h'.r.still hb))
  have H2 := (show Hid (∀ (wq : World), Below w.heap.size w wq → Calls Try.prog 23 #[.slice v1 s.vs.length v2, .slice v3 s.vs.length v4] wq fun e w' => e = .returned (.bool true) ∧ Below wq.heap.size wq w') from fun wq hb => eqTrs23 _ _ _ _ (h.v.still hb) (h'.v.still hb))
  have H3 := (show Hid (∀ (wq : World), Below w.heap.size w wq → Calls Try.prog 23 #[.slice c1 s.cs.length c2, .slice c3 s.cs.length c4] wq fun e w' => e = .returned (.bool true) ∧ Below wq.heap.size wq w') from fun wq hb => eqTrs23 _ _ _ _ (h.c.still hb) (h'.c.still hb))
  have H4 := (show Hid (∀ (wq : World), Below w.heap.size w wq → Calls Try.prog 24 #[.slice h1 s.hs.length h2, .slice h3 s.hs.length h4] wq fun e w' => e = .returned (.bool true) ∧ Below wq.heap.size wq w') from fun wq hb => eqShapes24 _ _ _ _ (h.h.still hb) (h'.h.still hb))
  clear h h'
  generalize s.rl.length = n1 at *
  generalize s.vs.length = n2 at *
  generalize s.cs.length = n3 at *
  generalize s.hs.length = n4 at *
  go_enter Try.func8, Try.ntmps8
  go_wp2_with fail
  refine Calls.mono (H1.out _ HBL.out) ?_
  rintro e w1 ⟨rfl, hb1⟩
  have B1 := (show Hid _ from hb1)
  obtain ⟨bx, by1⟩ := HBX.out w1 hb1
  have x1 : w1.cell? ⟨w.heap.size, 1, none⟩ = some (.slice v1 n2 v2) := bx.cell 1 (by simp)
  have y1 : w1.cell? ⟨w.heap.size + 1, 1, none⟩ = some (.slice v3 n2 v4) := by1.cell 1 (by simp)
  clear hb1 bx by1 H1
  go_wp2_with fail
  refine Calls.mono (H2.out _ (HBL.out.trans (B1.out.mono HBL.out.size))) ?_
  rintro e w2 ⟨rfl, hb2⟩
  have B2 := (show Hid _ from bel_trans B1.out hb2)
  obtain ⟨bx, by1⟩ := HBX.out w2 B2.out
  have x2 : w2.cell? ⟨w.heap.size, 2, none⟩ = some (.slice c1 n3 c2) := bx.cell 2 (by simp)
  have y2 : w2.cell? ⟨w.heap.size + 1, 2, none⟩ = some (.slice c3 n3 c4) := by1.cell 2 (by simp)
  clear hb2 bx by1 H2 x1 y1 B1
  go_wp2_with fail
  refine Calls.mono (H3.out _ (HBL.out.trans (B2.out.mono HBL.out.size))) ?_
  rintro e w3 ⟨rfl, hb3⟩
  have B3 := (show Hid _ from bel_trans B2.out hb3)
  obtain ⟨bx, by1⟩ := HBX.out w3 B3.out
  have x3 : w3.cell? ⟨w.heap.size, 3, none⟩ = some (.slice h1 n4 h2) := bx.cell 3 (by simp)
  have y3 : w3.cell? ⟨w.heap.size + 1, 3, none⟩ = some (.slice h3 n4 h4) := by1.cell 3 (by simp)
  clear hb3 bx by1 H3 x2 y2 B2
  go_wp2_with fail
  refine Calls.mono (H4.out _ (HBL.out.trans (B3.out.mono HBL.out.size))) ?_
  rintro e w4 ⟨rfl, hb4⟩
  have B4 := (show Hid _ from bel_trans B3.out hb4)
  clear hb4 H4 x3 y3 B3
  go_wp2_with fail
  go_ret
  exact ⟨rfl, HBL.out.trans (B4.out.mono HBL.out.size)⟩
set_option maxHeartbeats 3200000 in
theorem toSem6 (s : Se) (r1 v1 c1 h1 : Option Addr) (r2 v2 c2 h2 : Nat) (w : World) (h : SLy w s r1 v1 c1 h1 r2 v2 c2 h2) (hw : seW s ≤ 1048576) :
    Calls Try.prog 6 #[.agg #[.slice r1 s.rl.length r2, .slice v1 s.vs.length v2, .slice c1 s.cs.length c2, .slice h1 s.hs.length h2]] w fun e w' => ∃ (r3 v3 c3 h3 : Option Addr) (r4 v4 c4 h4 : Nat), e = .returned (.agg #[.slice r3 s.rl.length r4, .slice v3 s.vs.length v4, .slice c3 s.cs.length c4, .slice h3 s.hs.length h4]) ∧ Below w.heap.size w w' ∧ SLy w' s r3 v3 c3 h3 r4 v4 c4 h4 := by
  unfold seW at hw
  have hw1 : rwt s.rl ≤ 1048576 := by omega
  have hw2 : tw s.vs ≤ 1048576 := by omega
  have hw3 : tw s.cs ≤ 1048576 := by omega
  have hw4 : swt s.hs ≤ 1048576 := by omega
  have l1 : s.rl.length ≤ maxLen := by unfold maxLen; unfold rwt at hw1; omega
  have l2 : s.vs.length ≤ maxLen := by unfold maxLen; unfold tw at hw2; omega
  have l3 : s.cs.length ≤ maxLen := by unfold maxLen; unfold tw at hw3; omega
  have l4 : s.hs.length ≤ maxLen := by unfold maxLen; unfold swt at hw4; omega
  have HX1 := (show Hid (∀ i (hi : i < s.rl.length), s.rl[i].name.size ≤ maxLen) from by obtain ⟨_, _, _, _, _, _, _, _, _, _, hx, _⟩ := h.r; exact hx)
  have HX4 := (show Hid (∀ i (hi : i < s.hs.length), s.hs[i].name.size ≤ maxLen ∧ s.hs[i].text.size ≤ maxLen) from by obtain ⟨_, _, _, _, _, _, _, _, hx, _⟩ := h.h; exact hx)
  have H1 := (show Hid (∀ (wq : World), Below w.heap.size w wq → Calls Try.prog 18 #[.slice r1 s.rl.length r2] wq fun e w' => e = .returned (.slice (some ⟨wq.heap.size, 0, none⟩) s.rl.length s.rl.length) ∧ Below wq.heap.size wq w' ∧ MadeU s.rl wq.heap.size s.rl.length w') from fun wq hb => toRulesM _ _ _ (h.r.still hb) hw1)
  have H2 := (show Hid (∀ (wq : World), Below w.heap.size w wq → Calls Try.prog 19 #[.slice v1 s.vs.length v2] wq fun e w' => e = .returned (.slice (some ⟨wq.heap.size, 0, none⟩) s.vs.length s.vs.length) ∧ Below wq.heap.size wq w' ∧ Made s.vs wq.heap.size s.vs.length w') from fun wq hb => toTrs19 _ _ _ (h.v.still hb) hw2)
  have H3 := (show Hid (∀ (wq : World), Below w.heap.size w wq → Calls Try.prog 19 #[.slice c1 s.cs.length c2] wq fun e w' => e = .returned (.slice (some ⟨wq.heap.size, 0, none⟩) s.cs.length s.cs.length) ∧ Below wq.heap.size wq w' ∧ Made s.cs wq.heap.size s.cs.length w') from fun wq hb => toTrs19 _ _ _ (h.c.still hb) hw3)
  have H4 := (show Hid (∀ (wq : World), Below w.heap.size w wq → Calls Try.prog 20 #[.slice h1 s.hs.length h2] wq fun e w' => e = .returned (.slice (some ⟨wq.heap.size, 0, none⟩) s.hs.length s.hs.length) ∧ Below wq.heap.size wq w' ∧ MadeH s.hs wq.heap.size s.hs.length w') from fun wq hb => toShapesM _ _ _ (h.h.still hb) hw4)
  have HK1 := (show Hid (∀ (g : Nat) (wa wb : World), MadeU s.rl g s.rl.length wa → Kg3 g wa wb → RLy wb s.rl (.slice (some ⟨g, 0, none⟩) s.rl.length s.rl.length)) from fun g wa wb a b => madeU_kg a b l1 HX1.out)
  have HK2 := (show Hid (∀ (g : Nat) (wa wb : World), Made s.vs g s.vs.length wa → Kg3 g wa wb → Trs wb (fun _ => True) s.vs (.slice (some ⟨g, 0, none⟩) s.vs.length s.vs.length)) from fun g wa wb a b => made_kg a b l2)
  have HK3 := (show Hid (∀ (g : Nat) (wa wb : World), Made s.cs g s.cs.length wa → Kg3 g wa wb → Trs wb (fun _ => True) s.cs (.slice (some ⟨g, 0, none⟩) s.cs.length s.cs.length)) from fun g wa wb a b => made_kg a b l3)
  have HK4 := (show Hid (∀ (g : Nat) (wa wb : World), MadeH s.hs g s.hs.length wa → Kg3 g wa wb → ShLy wb s.hs (.slice (some ⟨g, 0, none⟩) s.hs.length s.hs.length)) from fun g wa wb a b => madeH_kg a b l4 HX4.out)
  have HF := (show Hid (∀ (wf : World) (g1 g2 g3 g4 : Nat), RLy wf s.rl (.slice (some ⟨g1, 0, none⟩) s.rl.length s.rl.length) → Trs wf (fun _ => True) s.vs (.slice (some ⟨g2, 0, none⟩) s.vs.length s.vs.length) → Trs wf (fun _ => True) s.cs (.slice (some ⟨g3, 0, none⟩) s.cs.length s.cs.length) → ShLy wf s.hs (.slice (some ⟨g4, 0, none⟩) s.hs.length s.hs.length) → SLy wf s (some ⟨g1, 0, none⟩) (some ⟨g2, 0, none⟩) (some ⟨g3, 0, none⟩) (some ⟨g4, 0, none⟩) s.rl.length s.vs.length s.cs.length s.hs.length) from fun wf g1 g2 g3 g4 a b c d => ⟨a, b, c, d⟩)
  clear h hw hw1 hw2 hw3 hw4 HX1 HX4
  unfold maxLen at l1 l2 l3 l4
  go_enter Try.func6, Try.ntmps6
  go_wp2_with fail
  refine Calls.mono (H1.out _ ?b1) ?_
  case b1 => exact ((bel_alloc _ _).alloc (by simp) _).alloc (by simp; omega) _
  rintro e w1 ⟨rfl, hb1, hm1⟩
  obtain ⟨hcc, hff⟩ := bcell hb1
  have hsz : w.heap.size + 3 ≤ w1.heap.size := by have := hb1.size; simp at this; omega
  have HB1 := (show Hid (Below w.heap.size w w1) from (((bel_alloc _ _).alloc (by simp) _).alloc (by simp; omega) _).trans (hb1.mono (by simp; omega)))
  have HM1 := (show Hid (MadeU s.rl (w.heap.size + 3) s.rl.length w1) from (show MadeU _ _ _ _ from (by simpa using hm1)))
  clear hb1 hm1 H1
  simp only [World.size_alloc] at *
  go_wp2_with fail
  refine Calls.mono (H2.out _ ?b2) ?_
  case b2 => exact HB1.out.setCell (by simp; omega) _
  rintro e w2 ⟨rfl, hb2, hm2⟩
  obtain ⟨hcd0, hfg0⟩ := bcell hb2
  have hcd := fun b o (h : b < w.heap.size + 1 + 1 + 1) => hcd0 b o (by simp; omega)
  have hfg := fun b o (h : b < w.heap.size + 1 + 1 + 1) => hfg0 b o (by simp; omega)
  clear hcd0 hfg0
  have hsz2 : w1.heap.size ≤ w2.heap.size := by have := hb2.size; simp at this; omega
  have HB2 := (show Hid (Below w.heap.size w w2) from (HB1.out.setCell (by simp; omega) _).trans (hb2.mono (by simp; omega)))
  have HG1 := (show Hid (Kg3 (w.heap.size + 3) w1 w2) from kg_bel (kg_set (kg_refl _ _) (by omega)) (by simp) hb2)
  have HM2 := (show Hid (Made s.vs w1.heap.size s.vs.length w2) from (show Made _ _ _ _ from (by simpa using hm2)))
  clear hb2 hm2 H2 HB1
  simp only [World.size_setCell] at *
  go_wp2_with fail
  refine Calls.mono (H3.out _ ?b3) ?_
  case b3 => exact HB2.out.setCell (by simp; omega) _
  rintro e w3 ⟨rfl, hb3, hm3⟩
  obtain ⟨hce0, hfh0⟩ := bcell hb3
  have hce := fun b o (h : b < w.heap.size + 1 + 1 + 1) => hce0 b o (by simp; omega)
  have hfh := fun b o (h : b < w.heap.size + 1 + 1 + 1) => hfh0 b o (by simp; omega)
  clear hce0 hfh0
  have hsz3 : w2.heap.size ≤ w3.heap.size := by have := hb3.size; simp at this; omega
  have HB3 := (show Hid (Below w.heap.size w w3) from (HB2.out.setCell (by simp; omega) _).trans (hb3.mono (by simp; omega)))
  have HG1b := (show Hid (Kg3 (w.heap.size + 3) w1 w3) from kg_bel (kg_set HG1.out (by omega)) (by simp; omega) hb3)
  have HG2 := (show Hid (Kg3 w1.heap.size w2 w3) from kg_bel (kg_set (kg_refl _ _) (by omega)) (by simp) hb3)
  have HM3 := (show Hid (Made s.cs w2.heap.size s.cs.length w3) from (show Made _ _ _ _ from (by simpa using hm3)))
  clear hb3 hm3 H3 HB2 HG1
  go_wp2_with fail
  refine Calls.mono (H4.out _ ?b4) ?_
  case b4 => exact HB3.out.setCell (by simp; omega) _
  rintro e w4 ⟨rfl, hb4, hm4⟩
  obtain ⟨hcf0, hfi0⟩ := bcell hb4
  have hcf := fun b o (h : b < w.heap.size + 1 + 1 + 1) => hcf0 b o (by simp; omega)
  have hfi := fun b o (h : b < w.heap.size + 1 + 1 + 1) => hfi0 b o (by simp; omega)
  clear hcf0 hfi0
  have hsz4 : w3.heap.size ≤ w4.heap.size := by have := hb4.size; simp at this; omega
  have HB4 := (show Hid (Below w.heap.size w w4) from (HB3.out.setCell (by simp; omega) _).trans (hb4.mono (by simp; omega)))
  have HG1c := (show Hid (Kg3 (w.heap.size + 3) w1 w4) from kg_bel (kg_set HG1b.out (by omega)) (by simp; omega) hb4)
  have HG2b := (show Hid (Kg3 w1.heap.size w2 w4) from kg_bel (kg_set HG2.out (by omega)) (by simp; omega) hb4)
  have HG3 := (show Hid (Kg3 w2.heap.size w3 w4) from kg_bel (kg_set (kg_refl _ _) (by omega)) (by simp) hb4)
  have HM4 := (show Hid (MadeH s.hs w3.heap.size s.hs.length w4) from (show MadeH _ _ _ _ from (by simpa using hm4)))
  clear hb4 hm4 H4 HB3 HG1b HG2
  go_wp2_with fail
  refine bodyPost_ret (v := .agg #[.slice (some ⟨w.heap.size + 1 + 1 + 1, 0, none⟩) s.rl.length s.rl.length, .slice (some ⟨w1.heap.size, 0, none⟩) s.vs.length s.vs.length, .slice (some ⟨w2.heap.size, 0, none⟩) s.cs.length s.cs.length, .slice (some ⟨w3.heap.size, 0, none⟩) s.hs.length s.hs.length]) (by simp [results, Try.results6, go_sem, hcc, hcd, hce, hcf]) rfl ⟨_, _, _, _, _, _, _, _, rfl, ?_, ?_⟩
  · iterate 5 (refine Below.setCell ?_ (by simp <;> omega) _)
    exact HB4.out
  · refine HF.out _ _ _ _ _ (HK1.out _ _ _ HM1.out ?_) (HK2.out _ _ _ HM2.out ?_) (HK3.out _ _ _ HM3.out ?_) (HK4.out _ _ _ HM4.out ?_)
    · iterate 5 (refine kg_set ?_ (by omega))
      exact HG1c.out
    · iterate 5 (refine kg_set ?_ (by omega))
      exact HG2b.out
    · iterate 5 (refine kg_set ?_ (by omega))
      exact HG3.out
    · iterate 5 (refine kg_set ?_ (by omega))
      exact kg_refl _ _
end Go.Proofs.Ytboffildchoelaa
