import Derived.Test.YtledclkmeikgdaaSz
import Derived.Test.YtledclkmeikgdaaSw
import Derived.Test.YtledclkmeikgdaaSm
import Derived.Test.YtledclkmeikgdaaGEq
import Derived.Test.YtledclkmeikgdaaXSz
import Derived.Test.YtledclkmeikgdaaXEq
import Derived.Deep.RegionHeld3
import Derived.Deep.CutRange
/-! The law FnExactScopesOf, walked. -/
namespace Go.Proofs.Ytledclkmeikgdaa
open Go.RowKit Go.Deep Go.Lib
open Go.Proofs.Ytledclkmeikgdaa.T (Tr)
set_option linter.unusedVariables false
set_option maxRecDepth 100000
set_option linter.unusedSimpArgs false

/-- What is answered, with the values as they are. -/
theorem ScA.parts {s : Sw} {cd : Int} {w w' : World} {e : Ending} (h : ScA (s, cd) w e w') : ∃ (A : Nat) (a1 a2 a3 a4 a5 : Option Addr) (p1 p2 p3 p4 p5 : Nat) (D R : Nat → Value), e = .returned (.tuple #[.agg #[.int .i64 (s.n : Nat), .slice a1 s.es.length p1, .slice a2 s.ds.length p2, .slice a3 s.rs.length p3], .slice a4 s.dp.length p4, .slice a5 s.rp.length p5, .int .i64 cd]) ∧ w.heap.size ≤ A ∧ Below w.heap.size w w' ∧ Ow w' A s ⟨.slice a1 s.es.length p1, .slice a2 s.ds.length p2, .slice a3 s.rs.length p3, .slice a4 s.dp.length p4, .slice a5 s.rp.length p5, D, R⟩ := by
  obtain ⟨A, c, he, hA, hb, ho⟩ := h
  obtain ⟨v1, v2, v3, v4, v5, D, R⟩ := c
  obtain ⟨a1, p1, e1, _⟩ := own_ne ho.e
  obtain ⟨a2, p2, e2, _⟩ := own_ne ho.d
  obtain ⟨a3, p3, e3, _⟩ := own_ne ho.r
  obtain ⟨a4, p4, e4, _⟩ := own_ne ho.dp.out
  obtain ⟨a5, p5, e5, _⟩ := own_ne ho.rp.out
  dsimp only at e1 e2 e3 e4 e5
  subst e1 e2 e3 e4 e5
  exact ⟨A, a1, a2, a3, a4, a5, p1, p2, p3, p4, p5, D, R, he, hA, hb, ho⟩
theorem cells4 {w : World} {b ty : Nat} {c0 c1 c2 c3 : Value} (h : Box w b ty [c0, c1, c2, c3]) : w.cell? ⟨b, 0, none⟩ = some c0 ∧ w.cell? ⟨b, 1, none⟩ = some c1 ∧ w.cell? ⟨b, 2, none⟩ = some c2 ∧ w.cell? ⟨b, 3, none⟩ = some c3 :=
  ⟨h.cell 0 (by simp), h.cell 1 (by simp), h.cell 2 (by simp), h.cell 3 (by simp)⟩
/-- Behind the program's answer: all up to Y0 is as it was; the copy, its box, the answer, its box. -/
structure LP (Y0 : World) (t : Tr) (X0 X1 Ag X5 : Nat) (xv : Value) (s : Sw) (c : CV) (bx bg : List Value) (W : World) : Prop where
  bel : Below Y0.heap.size Y0 W
  x : T.Own W X0 X1 t xv
  bx : Box W X1 40 bx
  og : Ow W Ag s c
  bg : Box W X5 27 bg
  o : Y0.heap.size ≤ X0 ∧ X0 ≤ X1 ∧ X1 < Ag ∧ X1 < X5
theorem LP.still {Y0 W W' : World} {t : Tr} {X0 X1 Ag X5 : Nat} {xv : Value} {s : Sw} {c : CV} {bx bg : List Value} (h : LP Y0 t X0 X1 Ag X5 xv s c bx bg W) (hb : Below W.heap.size W W') : LP Y0 t X0 X1 Ag X5 xv s c bx bg W' :=
  ⟨h.bel.trans (hb.mono h.bel.size), h.x.still hb, h.bx.still hb, h.og.still hb, h.bg.still hb, h.o⟩
/-- Behind the copy's marks. -/
structure LR (Y0 : World) (Ag X5 : Nat) (s : Sw) (c : CV) (bg : List Value) (W : World) : Prop where
  bel : Below Y0.heap.size Y0 W
  og : Ow W Ag s c
  bg : Box W X5 27 bg
  o : Y0.heap.size ≤ Ag ∧ Y0.heap.size ≤ X5
theorem LR.still {Y0 W W' : World} {Ag X5 : Nat} {s : Sw} {c : CV} {bg : List Value} (h : LR Y0 Ag X5 s c bg W) (hb : Below W.heap.size W W') : LR Y0 Ag X5 s c bg W' :=
  ⟨h.bel.trans (hb.mono h.bel.size), h.og.still hb, h.bg.still hb, h.o⟩
theorem LP.marked {Y0 W W' : World} {t : Tr} {X0 X1 Ag X5 : Nat} {xv : Value} {s : Sw} {c : CV} {bx bg : List Value} (h : LP Y0 t X0 X1 Ag X5 xv s c bx bg W) (ho : T.Out X0 X1 W W') : LR Y0 Ag X5 s c bg W' := by
  have o := h.o
  have hz := h.bel.size
  have ho' : ∀ k, k < W.heap.size → k < X0 ∨ X1 ≤ k → W'.heap[k]? = W.heap[k]? := ho.2.2.2.2
  refine ⟨⟨ho.1.trans h.bel.os, ho.2.1.trans h.bel.tape, ho.2.2.1.trans h.bel.output, Nat.le_trans h.bel.size ho.2.2.2.1, fun k hk => (ho' k (by omega) (by omega)).trans (h.bel.block k hk)⟩, h.og.keep (fun b h1 h2 => ho' b h2 (by omega)), h.bg.keep (ho' X5 h.bg.lt (by omega)), by omega, by omega⟩
/-- Behind the answer's marks, all of them. -/
structure LM (Y0 : World) (X5 : Nat) (s : Sw) (c : CV) (b1 b2 b3 m : Nat) (bg : List Value) (W : World) : Prop where
  bel : Below Y0.heap.size Y0 W
  ma : MkS W s c b1 b2 b3 m
  bg : Box W X5 27 bg
theorem LM.still {Y0 W W' : World} {X5 : Nat} {s : Sw} {c : CV} {b1 b2 b3 m : Nat} {bg : List Value} (h : LM Y0 X5 s c b1 b2 b3 m bg W) (hb : Below W.heap.size W W') : LM Y0 X5 s c b1 b2 b3 m bg W' :=
  ⟨h.bel.trans (hb.mono h.bel.size), h.ma.still hb, h.bg.still hb⟩
/-- Behind the Sg's marks; behind those of the first row of paths. -/
structure LNa (Y0 : World) (Ag X5 : Nat) (s : Sw) (c : CV) (b1 b2 b3 : Nat) (bg : List Value) (W : World) : Prop where
  bel : Below Y0.heap.size Y0 W
  ma : MkA W Ag s c b1 b2 b3
  bg : Box W X5 27 bg
  o : Y0.heap.size ≤ Ag
structure LNb (Y0 : World) (Ag X5 : Nat) (s : Sw) (c : CV) (b1 b2 b3 m : Nat) (bg : List Value) (W : World) : Prop where
  bel : Below Y0.heap.size Y0 W
  ma : MkB W Ag s c b1 b2 b3 m
  bg : Box W X5 27 bg
  o : Y0.heap.size ≤ Ag
theorem LR.marked {Y0 W W' : World} {Ag X5 b1 b2 b3 : Nat} {s : Sw} {c : CV} {bg : List Value} (h : LR Y0 Ag X5 s c bg W) (e1 : 0 < s.es.length → c.v1.ownBlock = some b1) (e2 : 0 < s.ds.length → c.v2.ownBlock = some b2) (e3 : 0 < s.rs.length → c.v3.ownBlock = some b3)
    (ho : Out Ag W.heap.size W W') (hk : ∀ k, k < W.heap.size → (0 < s.es.length → k ≠ b1) → (0 < s.ds.length → k ≠ b2) → (0 < s.rs.length → k ≠ b3) → W'.heap[k]? = W.heap[k]?) (hm : Mg3 W' b1 b2 b3 s.es.length s.ds.length s.rs.length 1 c.v1 c.v2 c.v3) : LNa Y0 Ag X5 s c b1 b2 b3 bg W' := by
  have o := h.o
  have hz := h.bel.size
  refine ⟨⟨ho.1.trans h.bel.os, ho.2.1.trans h.bel.tape, ho.2.2.1.trans h.bel.output, Nat.le_trans h.bel.size ho.2.2.2.1, fun k hkk => (ho.2.2.2.2 k (by omega) (by omega)).trans (h.bel.block k hkk)⟩, h.og.marked e1 e2 e3 hk hm, h.bg.keep (hk X5 h.bg.lt (fun p e => ?_) (fun p e => ?_) (fun p e => ?_)), o.1⟩
  · exact own_box h.og.e h.bg (by decide) (e1 p) e.symm
  · exact own_box h.og.d h.bg (by decide) (e2 p) e.symm
  · exact own_box h.og.r h.bg (by decide) (e3 p) e.symm
theorem LNa.marked {Y0 W W' : World} {Ag X5 b1 b2 b3 m : Nat} {s : Sw} {c : CV} {bg : List Value} (h : LNa Y0 Ag X5 s c b1 b2 b3 bg W) (hb : Below (min Ag W.heap.size) W W') (hd : RRv W' Ag (mkJ m s.dp s.dp.length) c.v4 c.D) (ho : ∀ k, k < W.heap.size → (∀ i, i < s.dp.length → (c.D i).ownBlock ≠ some k) → W'.heap[k]? = W.heap[k]?) : LNb Y0 Ag X5 s c b1 b2 b3 m bg W' := by
  have o := h.o
  have hz := h.bel.size
  exact ⟨h.bel.trans (hb.mono (by omega)), h.ma.next hd ho, h.bg.keep (ho X5 h.bg.lt (fun i hi e => own_box (h.ma.dp.row i hi) h.bg (by decide) e rfl)), o⟩
theorem LNb.marked {Y0 W W' : World} {Ag X5 b1 b2 b3 m : Nat} {s : Sw} {c : CV} {bg : List Value} (h : LNb Y0 Ag X5 s c b1 b2 b3 m bg W) (hb : Below (min Ag W.heap.size) W W') (hd : RRv W' Ag (mkJ (m + ro s.dp s.dp.length) s.rp s.rp.length) c.v5 c.R) (ho : ∀ k, k < W.heap.size → (∀ i, i < s.rp.length → (c.R i).ownBlock ≠ some k) → W'.heap[k]? = W.heap[k]?) : LM Y0 X5 s c b1 b2 b3 m bg W' := by
  have o := h.o
  have hz := h.bel.size
  exact ⟨h.bel.trans (hb.mono (by omega)), h.ma.done hd ho, h.bg.keep (ho X5 h.bg.lt (fun i hi e => own_box (h.ma.rp.row i hi) h.bg (by decide) e rfl))⟩
set_option maxHeartbeats 25600000 in
theorem lawSc {S : Nat → Prop} (t : Tr) (v : Value) (w : World) (h : T.Lies w S t v) :
    Calls Try.prog 5 #[t.val v] w fun e w' => e = .returned (.bool true) ∧ Below w.heap.size w w' := by
  have HSZ := (show Hid (∀ w', Below w.heap.size w w' → Calls Try.prog 18 #[t.val v, .int .i64 1048576] w' fun e w'' => e = .returned (.int .i64 (T.szR t.wt 1048576)) ∧ Below w'.heap.size w' w'') from fun w' hb => T.sz_any t v w' 1048576 (h.still hb) (by omega) (by omega))
  have HTO := (show Hid (∀ w', Below w.heap.size w w' → t.wt ≤ 1048576 → Calls Try.prog 19 #[t.val v] w' fun e w'' => ∃ v', e = .returned (t.val v') ∧ Below w'.heap.size w' w'' ∧ T.Own w'' w'.heap.size w''.heap.size t v') from fun w' hb hs => T.toO_any t v w' (h.still hb) hs)
  have HSP := (show Hid (∀ (wq : World) (v' : Value), T.Lies wq (fun b => b < wq.heap.size) t v' → Calls Try.prog 13 #[t.val v'] wq (ScA (scR t) wq)) from fun wq v' hl => sc13 t v' wq hl)
  have HIM := (show Hid (∀ (wq : World) (v' : Value), T.Lies wq (fun b => b < wq.heap.size) t v' → Calls Try.prog 14 #[t.val v'] wq (ScA (scR t) wq)) from fun wq v' hl => iSc14 t v' wq hl)
  have HNM := (show Hid (scR t).1.Nm from scR_nm t)
  have hfew := scR_few t
  generalize (scR t) = R at *
  obtain ⟨s, cd⟩ := R
  dsimp only at hfew HNM
  have HEQ := (show Hid (∀ (wq : World) (A1 A2 : Nat) (c1 c2 : CV), Ow wq A1 s c1 → Ow wq A2 s c2 → Calls Try.prog 20 #[.agg #[.int .i64 (s.n : Nat), c1.v1, c1.v2, c1.v3], .agg #[.int .i64 (s.n : Nat), c2.v1, c2.v2, c2.v3]] wq fun e w' => e = .returned (.bool true) ∧ Below wq.heap.size wq w') from fun wq A1 A2 c1 c2 h1 h2 => eqSg_any (sgW s) _ _ _ _ _ _ wq (h1.sg HNM.out) (h2.sg HNM.out))
  have HER := (show Hid (∀ (wq : World) (ls : List (List Nat)) (v1 v2 : Value), RdR wq ls v1 → RdR wq ls v2 → Calls Try.prog 21 #[v1, v2] wq fun e w' => e = .returned (.bool true) ∧ Below wq.heap.size wq w') from fun wq ls v1 v2 h1 h2 => eqRows23 ls v1 v2 wq h1 h2)
  obtain ⟨a, len, cap, rfl⟩ := h.form
  have HLI := (show Hid (∀ w', Below w.heap.size w w' → T.Lies w' S t (.slice a len cap)) from fun w' hb => h.still hb)
  clear h
  simp only [T.Tr.val] at HSZ HTO HSP HIM ⊢
  have hb0 := bel_alloc w (.cells #[.string t.name, .string t.text, .bool t.leaf, .slice a len cap] 51)
  have TH := (show Hid (Box _ w.heap.size 51 [.string t.name, .string t.text, .bool t.leaf, .slice a len cap]) from Box.new w 51 [.string t.name, .string t.text, .bool t.leaf, .slice a len cap])
  obtain ⟨T0, T1, T2, T3⟩ := cells4 TH.out
  have HC0 := (show Hid _ from HSZ.out _ hb0)
  go_enter Try.func5, Try.ntmps5
  go_wp2_with fail
  refine Calls.mono HC0.out ?_
  rintro e w1 ⟨rfl, hb1⟩
  have hbw1 := hb0.trans (hb1.mono hb0.size)
  by_cases hwt : (t.wt : Int) ≤ 1048576
  case neg =>
    rw [T.szR_no (by omega)]
    go_wp2_with fail
    go_ret
    exact ⟨rfl, hbw1⟩
  rw [T.szR_yes hwt]
  have HWT := (show Hid (t.wt ≤ 1048576) from by show _ ≤ _; omega)
  have hz : decide ((1048576 : Int) - t.wt < 0) = false := by simp; omega
  have TH1 := (show Hid _ from TH.out.still hb1)
  clear T0 T1 T2 T3 TH HC0
  obtain ⟨T0, T1, T2, T3⟩ := cells4 TH1.out
  have HC1 := (show Hid _ from HTO.out _ hbw1 HWT.out)
  generalize (1048576 : Int) - t.wt = lf at *
  go_wp2_with fail
  refine Calls.mono HC1.out ?_
  rintro e w2 ⟨v2, rfl, hb2, D2⟩
  have HC2 := (show Hid _ from HSP.out w2 v2 (D2.lies.mono (fun b h => h.2)))
  have hbw2 := hbw1.trans (hb2.mono hbw1.size)
  go_wp2_with fail
  refine Calls.mono HC2.out ?_
  intro e w3 h3
  obtain ⟨As, s1, s2, s3, s4, s5, s1p, s2p, s3p, s4p, s5p, sD, sR, rfl, hAs, hb3, hos⟩ := h3.parts
  clear h3
  obtain ⟨Y0, hY0⟩ : ∃ Y0, w3.alloc (.cells #[.int .i64 (s.n : Nat), .slice s1 s.es.length s1p, .slice s2 s.ds.length s2p, .slice s3 s.rs.length s3p] 27) = Y0 := ⟨_, rfl⟩
  have hbw3 := hbw2.trans (hb3.mono hbw2.size)
  have HA := (show Hid (∀ wq, Below Y0.heap.size Y0 wq → Below w.heap.size w wq ∧ Box wq w.heap.size 51 [.string t.name, .string t.text, .bool t.leaf, .slice a len cap] ∧ Ow wq As s ⟨.slice s1 s.es.length s1p, .slice s2 s.ds.length s2p, .slice s3 s.rs.length s3p, .slice s4 s.dp.length s4p, .slice s5 s.rp.length s5p, sD, sR⟩ ∧ Box wq w3.heap.size 27 [.int .i64 (s.n : Nat), .slice s1 s.es.length s1p, .slice s2 s.ds.length s2p, .slice s3 s.rs.length s3p]) from fun wq hq => by
    have hbY : Below w3.heap.size w3 Y0 := by rw [← hY0]; exact bel_alloc _ _
    have hBY : Box Y0 w3.heap.size 27 [.int .i64 (s.n : Nat), .slice s1 s.es.length s1p, .slice s2 s.ds.length s2p, .slice s3 s.rs.length s3p] := by rw [← hY0]; exact Box.new _ _ _
    have h3q := hbY.trans (hq.mono hbY.size)
    exact ⟨hbw3.trans (h3q.mono hbw3.size), (TH1.out.still (hb2.trans (hb3.mono hb2.size))).still h3q, hos.still h3q, hBY.still hq⟩)
  clear hbw1 hbw2 hbw3 hb0 hb1 hb2 hb3 hos TH1 HC1 HC2 D2 HSZ T0 T1 T2 T3 hz hAs
  have H3 := HA.out Y0 (Below.refl _ _)
  obtain ⟨T0, T1, T2, T3⟩ := cells4 H3.2.1
  have HC3 := (show Hid _ from HTO.out _ H3.1 HWT.out)
  clear H3
  go_wp2_with fail
  refine Calls.mono HC3.out ?_
  rintro e w4 ⟨xv, rfl, hb4, D4⟩
  obtain ⟨xa, xl, xp, rfl⟩ := D4.form
  have hba := bel_alloc w4 (.cells #[.string t.name, .string t.text, .bool t.leaf, .slice xa xl xp] 40)
  have H4 := (show Hid (Below Y0.heap.size Y0 (w4.alloc (.cells #[.string t.name, .string t.text, .bool t.leaf, .slice xa xl xp] 40)) ∧ Box (w4.alloc (.cells #[.string t.name, .string t.text, .bool t.leaf, .slice xa xl xp] 40)) w4.heap.size 40 [.string t.name, .string t.text, .bool t.leaf, .slice xa xl xp] ∧ T.Own (w4.alloc (.cells #[.string t.name, .string t.text, .bool t.leaf, .slice xa xl xp] 40)) Y0.heap.size w4.heap.size t (.slice xa xl xp) ∧ Y0.heap.size ≤ w4.heap.size) from ⟨hb4.trans (hba.mono hb4.size), Box.new _ _ _, D4.still hba, hb4.size⟩)
  clear hb4 hba D4 HC3 T0 T1 T2 T3 hY0
  obtain ⟨X0, X1, X2, X3⟩ := cells4 H4.out.2.1
  have HC4 := (show Hid _ from HIM.out (w4.alloc (.cells #[.string t.name, .string t.text, .bool t.leaf, .slice xa xl xp] 40)) (.slice xa xl xp) (H4.out.2.2.1.lies.mono (fun b h => by have h := h.2; simp; omega)))
  simp only [T.Tr.val] at HC4 ⊢
  go_wp2_with fail
  refine Calls.mono HC4.out ?_
  intro e w5 h5
  obtain ⟨Ag, g1, g2, g3, g4, g5, g1p, g2p, g3p, g4p, g5p, gD, gR, rfl, hAg, hb5, hog⟩ := h5.parts
  have hba5 := bel_alloc w5 (.cells #[.int .i64 (s.n : Nat), .slice g1 s.es.length g1p, .slice g2 s.ds.length g2p, .slice g3 s.rs.length g3p] 27)
  have hz4 : (w4.alloc (.cells #[.string t.name, .string t.text, .bool t.leaf, .slice xa xl xp] 40)).heap.size = w4.heap.size + 1 := by simp
  rw [hz4] at hAg
  have hs5 := hb5.size
  rw [hz4] at hs5
  have HL := (show Hid (LP Y0 t Y0.heap.size w4.heap.size Ag w5.heap.size (.slice xa xl xp) s ⟨.slice g1 s.es.length g1p, .slice g2 s.ds.length g2p, .slice g3 s.rs.length g3p, .slice g4 s.dp.length g4p, .slice g5 s.rp.length g5p, gD, gR⟩ [.string t.name, .string t.text, .bool t.leaf, .slice xa xl xp] [.int .i64 (s.n : Nat), .slice g1 s.es.length g1p, .slice g2 s.ds.length g2p, .slice g3 s.rs.length g3p] (w5.alloc (.cells #[.int .i64 (s.n : Nat), .slice g1 s.es.length g1p, .slice g2 s.ds.length g2p, .slice g3 s.rs.length g3p] 27))) from ⟨(H4.out.1.trans (hb5.mono H4.out.1.size)).trans (hba5.mono (by have := H4.out.1.size; have := hb5.size; omega)), (H4.out.2.2.1.still hb5).still hba5, (H4.out.2.1.still hb5).still hba5, hog.still hba5, Box.new _ _ _, ⟨Nat.le_refl _, H4.out.2.2.2, by omega, by omega⟩⟩)
  clear h5 hb5 hog HC4 H4 X0 X1 X2 X3 hba5 hz4 hAg hs5
  obtain ⟨Y5, hY5⟩ : ∃ Y5, w5.alloc (.cells #[.int .i64 (s.n : Nat), .slice g1 s.es.length g1p, .slice g2 s.ds.length g2p, .slice g3 s.rs.length g3p] 27) = Y5 := ⟨_, rfl⟩
  rw [hY5] at HL
  generalize w4.heap.size = Z1 at *
  obtain ⟨Z5, hZ5⟩ : ∃ Z5, w5.heap.size = Z5 := ⟨_, rfl⟩
  obtain ⟨Z8, hZ8⟩ : ∃ Z8, w3.heap.size = Z8 := ⟨_, rfl⟩
  rw [hZ5] at HL
  rw [hZ8] at HA
  have HQ : Hid (∀ (wq : World) (Aq : Nat) (q1 q2 q3 q4 q5 : Option Addr) (r1 r2 r3 r4 r5 : Nat) (qD qR : Nat → Value), Ow wq Aq s ⟨.slice q1 s.es.length r1, .slice q2 s.ds.length r2, .slice q3 s.rs.length r3, .slice q4 s.dp.length r4, .slice q5 s.rp.length r5, qD, qR⟩ → Ow wq As s ⟨.slice s1 s.es.length s1p, .slice s2 s.ds.length s2p, .slice s3 s.rs.length s3p, .slice s4 s.dp.length s4p, .slice s5 s.rp.length s5p, sD, sR⟩ → Calls Try.prog 20 #[.agg #[.int .i64 (s.n : Nat), .slice q1 s.es.length r1, .slice q2 s.ds.length r2, .slice q3 s.rs.length r3], .agg #[.int .i64 (s.n : Nat), .slice s1 s.es.length s1p, .slice s2 s.ds.length s2p, .slice s3 s.rs.length s3p]] wq fun e w' => e = .returned (.bool true) ∧ Below wq.heap.size wq w') := fun wq Aq q1 q2 q3 q4 q5 r1 r2 r3 r4 r5 qD qR h1 h2 => by
    have h := HEQ.out wq Aq As _ _ h1 h2
    exact h
  have HQ2 : Hid (∀ (wq : World) (Aq : Nat) (cq : CV), Ow wq Aq s cq → Ow wq As s ⟨.slice s1 s.es.length s1p, .slice s2 s.ds.length s2p, .slice s3 s.rs.length s3p, .slice s4 s.dp.length s4p, .slice s5 s.rp.length s5p, sD, sR⟩ → (∀ w', Below wq.heap.size wq w' → Calls Try.prog 21 #[cq.v4, (.slice s4 s.dp.length s4p)] w' fun e w'' => e = .returned (.bool true) ∧ Below w'.heap.size w' w'') ∧ (∀ w', Below wq.heap.size wq w' → Calls Try.prog 21 #[cq.v5, (.slice s5 s.rp.length s5p)] w' fun e w'' => e = .returned (.bool true) ∧ Below w'.heap.size w' w'')) := fun wq Aq cq h1 h2 => by
    refine ⟨fun w' hb => ?_, fun w' hb => ?_⟩
    · have h := HER.out w' s.dp _ _ (h1.still hb).rd.1 (h2.still hb).rd.1
      exact h
    · have h := HER.out w' s.rp _ _ (h1.still hb).rd.2 (h2.still hb).rd.2
      exact h
  have hCC : (cd != cd) = false := by simp
  have HC5 := (show Hid _ from HQ.out Y5 Ag _ _ _ _ _ _ _ _ _ _ _ _ HL.out.og (HA.out Y5 HL.out.bel).2.2.1)
  have HD5 := (show Hid _ from HQ2.out Y5 Ag ⟨.slice g1 s.es.length g1p, .slice g2 s.ds.length g2p, .slice g3 s.rs.length g3p, .slice g4 s.dp.length g4p, .slice g5 s.rp.length g5p, gD, gR⟩ HL.out.og (HA.out Y5 HL.out.bel).2.2.1)
  obtain ⟨X0, X1, X2, X3⟩ := cells4 HL.out.bg
  obtain ⟨P0, P1, P2, P3⟩ := cells4 (HA.out Y5 HL.out.bel).2.2.2
  go_wp2_with fail
  refine Calls.mono HC5.out ?_
  rintro e w6 ⟨rfl, hb6⟩
  have HC6 := (show Hid _ from HD5.out.1 w6 hb6)
  clear X0 X1 X2 X3 P0 P1 P2 P3
  go_wp2_with fail
  refine Calls.mono HC6.out ?_
  rintro e w7 ⟨rfl, hb7⟩
  have hb67 := hb6.trans (hb7.mono hb6.size)
  have HC7 := (show Hid _ from HD5.out.2 w7 hb67)
  clear hb6 hb7 HC6
  go_wp2_with fail
  refine Calls.mono HC7.out ?_
  rintro e w8 ⟨rfl, hb8⟩
  have HL8 := (show Hid (LP Y0 t Y0.heap.size Z1 Ag Z5 (.slice xa xl xp) s ⟨.slice g1 s.es.length g1p, .slice g2 s.ds.length g2p, .slice g3 s.rs.length g3p, .slice g4 s.dp.length g4p, .slice g5 s.rp.length g5p, gD, gR⟩ [.string t.name, .string t.text, .bool t.leaf, .slice xa xl xp] [.int .i64 (s.n : Nat), .slice g1 s.es.length g1p, .slice g2 s.ds.length g2p, .slice g3 s.rs.length g3p] w8) from HL.out.still (hb67.trans (hb8.mono hb67.size)))
  clear hb67 hb8 HL HC5 HC7 HD5
  have HC := (show Hid (∀ wq, Below w8.heap.size w8 wq → (wq.cell? ⟨Z1, 0, none⟩ = some (.string t.name) ∧ wq.cell? ⟨Z1, 1, none⟩ = some (.string t.text) ∧ wq.cell? ⟨Z1, 2, none⟩ = some (.bool t.leaf) ∧ wq.cell? ⟨Z1, 3, none⟩ = some (.slice xa xl xp)) ∧ wq.cell? ⟨w.heap.size, 0, none⟩ = some (.string t.name) ∧ wq.cell? ⟨w.heap.size, 1, none⟩ = some (.string t.text) ∧ wq.cell? ⟨w.heap.size, 2, none⟩ = some (.bool t.leaf) ∧ wq.cell? ⟨w.heap.size, 3, none⟩ = some (.slice a len cap)) from fun wq hq => ⟨cells4 (HL8.out.bx.still hq), cells4 ((HA.out _ HL8.out.bel).2.1.still hq)⟩)
  have HB8 := (show Hid (Below w.heap.size w w8) from (HA.out _ HL8.out.bel).1)
  have HXL := (show Hid (T.Lies w8 (fun b => Y0.heap.size ≤ b ∧ b < Z1) t (.slice xa xl xp)) from HL8.out.x.lies)
  have HEG := (show Hid (∀ (wq : World) (ya : Option Addr) (yl yp : Nat) (lo hi : Nat), Below w8.heap.size w8 wq → T.Own wq lo hi t (.slice ya yl yp) → Calls Try.prog 22 #[.agg #[.string t.name, .string t.text, .bool t.leaf, .slice xa xl xp], .agg #[.string t.name, .string t.text, .bool t.leaf, .slice ya yl yp]] wq fun e w' => e = .returned (.bool true) ∧ Below wq.heap.size wq w') from fun wq ya yl yp lo hi hq hd => T.eq_any t (.slice xa xl xp) (.slice ya yl yp) wq (HXL.out.still hq) hd.lies)
  go_wp2_with fail
  go_cut [67] from 63 to 66 (fun v wx => v = .bool false ∧ Hid (Below w8.heap.size w8 wx))
  case first =>
    have hbd := (Below.refl w8.heap.size w8).drew
    have hS0 := HC.out _ hbd
    have hB0 := HB8.out.trans (hbd.mono HB8.out.size)
    go_region_held3 (fun wq => (wq.cell? ⟨Z1, 0, none⟩ = some (.string t.name) ∧ wq.cell? ⟨Z1, 1, none⟩ = some (.string t.text) ∧ wq.cell? ⟨Z1, 2, none⟩ = some (.bool t.leaf) ∧ wq.cell? ⟨Z1, 3, none⟩ = some (.slice xa xl xp)) ∧ wq.cell? ⟨w.heap.size, 0, none⟩ = some (.string t.name) ∧ wq.cell? ⟨w.heap.size, 1, none⟩ = some (.string t.text) ∧ wq.cell? ⟨w.heap.size, 2, none⟩ = some (.bool t.leaf) ∧ wq.cell? ⟨w.heap.size, 3, none⟩ = some (.slice a len cap)) (first | with_reducible exact hS0 | with_reducible exact hS1 | with_reducible exact hS2) ((first
      | (go_at_call 22; refine Calls.mono (HEG.out _ _ _ _ _ _ hF1 D7) ?_; rintro e w8 ⟨rfl, hb8⟩; have hF2 := hF1.trans (hb8.mono hF1.size); have hS2 := HC.out _ hF2)
      | (go_at_call 19; refine Calls.mono (HTO.out _ hB0 HWT.out) ?_; rintro e w7 ⟨y, rfl, hb7, D7⟩; obtain ⟨ya, yl, yp, rfl⟩ := D7.form; have hF1 := hbd.trans (hb7.mono (Nat.le_refl _)); have hS1 := HC.out _ hF1)))
    all_goals go_wp2_with fail
    all_goals go_meet
    all_goals exact ⟨rfl, hF2⟩
  case rest =>
    obtain ⟨rfl, HXD⟩ := hcut
    obtain ⟨wy, rfl⟩ : ∃ wy, wy = wc := ⟨_, rfl⟩
    have HL9 := (show Hid (LP Y0 t Y0.heap.size Z1 Ag Z5 (.slice xa xl xp) s ⟨.slice g1 s.es.length g1p, .slice g2 s.ds.length g2p, .slice g3 s.rs.length g3p, .slice g4 s.dp.length g4p, .slice g5 s.rp.length g5p, gD, gR⟩ [.string t.name, .string t.text, .bool t.leaf, .slice xa xl xp] [.int .i64 (s.n : Nat), .slice g1 s.es.length g1p, .slice g2 s.ds.length g2p, .slice g3 s.rs.length g3p] wy) from HL8.out.still HXD.out)
    clear HXD HC HB8 HXL HEG HL8
    obtain ⟨X0, X1, X2, X3⟩ := cells4 HL9.out.bx
    have HC9 := (show Hid (Calls Try.prog 23 #[.agg #[.string t.name, .string t.text, .bool t.leaf, .slice xa xl xp], .int .i64 1] wy fun e w' => (∃ k : Nat, e = .returned (.int .i64 (k : Nat))) ∧ T.Out Y0.heap.size Z1 wy w') from by
      have hk : 1 + 3 * T.Tr.cntL t.kids ≤ 67108864 := by
        have h1 := T.Tr.cnt_le_wt t
        have h2 := T.cnt_eq t
        have h3 := HWT.out
        omega
      have h := T.mark23 t (.slice xa xl xp) wy Y0.heap.size Z1 1 HL9.out.x (Nat.le_of_lt HL9.out.bx.lt) (by omega) hk
      exact Calls.mono h (fun e w' h => ⟨⟨_, h.1⟩, h.2⟩))
    go_wp2_with fail
    refine Calls.mono HC9.out ?_
    rintro e w10 ⟨⟨K, rfl⟩, ho10⟩
    have HL10 := (show Hid (LR Y0 Ag Z5 s ⟨.slice g1 s.es.length g1p, .slice g2 s.ds.length g2p, .slice g3 s.rs.length g3p, .slice g4 s.dp.length g4p, .slice g5 s.rp.length g5p, gD, gR⟩ [.int .i64 (s.n : Nat), .slice g1 s.es.length g1p, .slice g2 s.ds.length g2p, .slice g3 s.rs.length g3p] w10) from HL9.out.marked ho10)
    clear ho10 HL9 HC9 X0 X1 X2 X3
    have hK0 : decide ((K : Int) < 0) = false := by simp
    have HC5 := (show Hid _ from HQ.out w10 Ag _ _ _ _ _ _ _ _ _ _ _ _ HL10.out.og (HA.out w10 HL10.out.bel).2.2.1)
    have HD5 := (show Hid _ from HQ2.out w10 Ag ⟨.slice g1 s.es.length g1p, .slice g2 s.ds.length g2p, .slice g3 s.rs.length g3p, .slice g4 s.dp.length g4p, .slice g5 s.rp.length g5p, gD, gR⟩ HL10.out.og (HA.out w10 HL10.out.bel).2.2.1)
    obtain ⟨X0, X1, X2, X3⟩ := cells4 HL10.out.bg
    obtain ⟨P0, P1, P2, P3⟩ := cells4 (HA.out w10 HL10.out.bel).2.2.2
    go_wp2_with fail
    refine Calls.mono HC5.out ?_
    rintro e w6 ⟨rfl, hb6⟩
    have HC6 := (show Hid _ from HD5.out.1 w6 hb6)
    clear X0 X1 X2 X3 P0 P1 P2 P3
    go_wp2_with fail
    refine Calls.mono HC6.out ?_
    rintro e w7 ⟨rfl, hb7⟩
    have hb67 := hb6.trans (hb7.mono hb6.size)
    have HC7 := (show Hid _ from HD5.out.2 w7 hb67)
    clear hb6 hb7 HC6
    go_wp2_with fail
    refine Calls.mono HC7.out ?_
    rintro e w11 ⟨rfl, hb8⟩
    have HL11 := (show Hid (LR Y0 Ag Z5 s ⟨.slice g1 s.es.length g1p, .slice g2 s.ds.length g2p, .slice g3 s.rs.length g3p, .slice g4 s.dp.length g4p, .slice g5 s.rp.length g5p, gD, gR⟩ [.int .i64 (s.n : Nat), .slice g1 s.es.length g1p, .slice g2 s.ds.length g2p, .slice g3 s.rs.length g3p] w11) from HL10.out.still (hb67.trans (hb8.mono hb67.size)))
    clear hb67 hb8 HL10 HC5 HC7 HD5 hK0
    obtain ⟨b1, b2, b3, hrg, e1, e2, e3⟩ := HL11.out.og.rg hfew.1 hfew.2.1 hfew.2.2.1
    have HEB := (show Hid _ from (⟨e1, e2, e3⟩ : _ ∧ _ ∧ _))
    have HF := (show Hid (s.es.length ≤ 5000 ∧ s.ds.length ≤ 5000 ∧ s.rs.length ≤ 5000 ∧ ro s.dp s.dp.length ≤ 300000 ∧ ro s.rp s.rp.length ≤ 300000) from hfew)
    have HC12 := (show Hid _ from mkG24b (s.n : Nat) _ _ _ 1 w11 hrg (Nat.le_refl _) (by omega) (by omega))
    clear hrg e1 e2 e3
    obtain ⟨M1, hM1⟩ : ∃ M1, 1 + s.es.length * 3 + s.ds.length * 2 + s.rs.length * 2 = M1 := ⟨_, rfl⟩
    have HM1 := (show Hid (1 + s.es.length * 3 + s.ds.length * 2 + s.rs.length * 2 = M1 ∧ M1 ≤ 100000) from ⟨hM1, by omega⟩)
    rw [hM1] at HC12
    clear hM1
    obtain ⟨X0, X1, X2, X3⟩ := cells4 HL11.out.bg
    clear hfew
    go_wp2_with fail
    refine Calls.mono HC12.out ?_
    rintro e w12 ⟨rfl, ⟨ho12, hk12⟩, hm12⟩
    have HN12 := (show Hid (LNa Y0 Ag Z5 s ⟨.slice g1 s.es.length g1p, .slice g2 s.ds.length g2p, .slice g3 s.rs.length g3p, .slice g4 s.dp.length g4p, .slice g5 s.rp.length g5p, gD, gR⟩ b1 b2 b3 [.int .i64 (s.n : Nat), .slice g1 s.es.length g1p, .slice g2 s.ds.length g2p, .slice g3 s.rs.length g3p] w12) from HL11.out.marked HEB.out.1 HEB.out.2.1 HEB.out.2.2 ho12 hk12 hm12)
    clear ho12 hk12 hm12 HL11 HC12 X0 X1 X2 X3 HEB
    obtain ⟨M2, hM2⟩ : ∃ M2, M1 + ro s.dp s.dp.length = M2 := ⟨_, rfl⟩
    obtain ⟨M3, hM3⟩ : ∃ M3, M2 + ro s.rp s.rp.length = M3 := ⟨_, rfl⟩
    have HM2 := (show Hid (M1 + ro s.dp s.dp.length = M2 ∧ M2 + ro s.rp s.rp.length = M3 ∧ M2 ≤ 500000 ∧ M3 ≤ 1000000) from ⟨hM2, hM3, by have := HM1.out.2; have := HF.out.2.2.2.1; omega, by have := HM1.out.2; have := HF.out.2.2.2; omega⟩)
    clear hM2 hM3
    have HC13 := (show Hid _ from markRows24 s.dp (.slice g4 s.dp.length g4p) gD M1 w12 HN12.out.ma.dp (by have := HM2.out; omega))
    rw [HM2.out.1] at HC13
    go_wp2_with fail
    refine Calls.mono HC13.out ?_
    rintro e w13 ⟨rfl, hb13, hd13, hk13⟩
    have HN13 := (show Hid (LNb Y0 Ag Z5 s ⟨.slice g1 s.es.length g1p, .slice g2 s.ds.length g2p, .slice g3 s.rs.length g3p, .slice g4 s.dp.length g4p, .slice g5 s.rp.length g5p, gD, gR⟩ b1 b2 b3 M1 [.int .i64 (s.n : Nat), .slice g1 s.es.length g1p, .slice g2 s.ds.length g2p, .slice g3 s.rs.length g3p] w13) from HN12.out.marked hb13 hd13 hk13)
    clear hb13 hd13 hk13 HN12 HC13
    have HC14 := (show Hid _ from markRows24 s.rp (.slice g5 s.rp.length g5p) gR M2 w13 HN13.out.ma.rp (by have := HM2.out; omega))
    rw [HM2.out.2.1] at HC14
    go_wp2_with fail
    refine Calls.mono HC14.out ?_
    rintro e w14 ⟨rfl, hb14, hd14, hk14⟩
    have HN14 := (show Hid (LM Y0 Z5 s ⟨.slice g1 s.es.length g1p, .slice g2 s.ds.length g2p, .slice g3 s.rs.length g3p, .slice g4 s.dp.length g4p, .slice g5 s.rp.length g5p, gD, gR⟩ b1 b2 b3 M1 [.int .i64 (s.n : Nat), .slice g1 s.es.length g1p, .slice g2 s.ds.length g2p, .slice g3 s.rs.length g3p] w14) from HN13.out.marked hb14 (by rw [HM2.out.1]; exact hd14) hk14)
    clear hb14 hd14 hk14 HN13 HC14
    have HHD := (show Hid (∀ wq, MkS wq s ⟨.slice g1 s.es.length g1p, .slice g2 s.ds.length g2p, .slice g3 s.rs.length g3p, .slice g4 s.dp.length g4p, .slice g5 s.rp.length g5p, gD, gR⟩ b1 b2 b3 M1 → (Calls Try.prog 26 #[.agg #[.int .i64 (s.n : Nat), .slice g1 s.es.length g1p, .slice g2 s.ds.length g2p, .slice g3 s.rs.length g3p], .int .i64 1] wq fun e w' => e = .returned (.int .i64 (M1 : Nat)) ∧ Below wq.heap.size wq w') ∧ (∀ w', Below wq.heap.size wq w' → Calls Try.prog 27 #[(.slice g4 s.dp.length g4p), .int .i64 (M1 : Nat)] w' fun e w'' => e = .returned (.int .i64 (M2 : Nat)) ∧ w'' = w') ∧ (∀ w', Below wq.heap.size wq w' → Calls Try.prog 27 #[(.slice g5 s.rp.length g5p), .int .i64 (M2 : Nat)] w' fun e w'' => e = .returned (.int .i64 (M3 : Nat)) ∧ w'' = w')) from fun wq hm => by
      refine ⟨?_, fun w' hb => ?_, fun w' hb => ?_⟩
      · have h := held24 (s.n : Nat) _ _ _ 1 wq hm.sg (by omega) (by have := HF.out; omega)
        rw [HM1.out.1] at h
        exact h
      · have h := heldRows25 s.dp (.slice g4 s.dp.length g4p) M1 w' (hm.still hb).dp (by have := HM2.out; omega)
        rw [HM2.out.1] at h
        exact h
      · have h := heldRows25 s.rp (.slice g5 s.rp.length g5p) M2 w' (by have := (hm.still hb).rp; rw [HM2.out.1] at this; exact this) (by have := HM2.out; omega)
        rw [HM2.out.2.1] at h
        exact h)
    have hD1 : decide ((M1 : Int) < 0) = false := by simp
    have hD2 : decide ((M2 : Int) < 0) = false := by simp
    have hD3 : decide ((M3 : Int) < 0) = false := by simp
    have hD4 : ((M3 : Int) != (M3 : Int)) = false := by simp
    have HC15 := (show Hid _ from HHD.out w14 HN14.out.ma)
    clear HM1 HM2 HF
    obtain ⟨X0, X1, X2, X3⟩ := cells4 HN14.out.bg
    go_wp2_with fail
    refine Calls.mono HC15.out.1 ?_
    rintro e w15 ⟨rfl, hb15⟩
    have HC16 := (show Hid _ from HC15.out.2.1 w15 hb15)
    have HC17 := (show Hid _ from HC15.out.2.2 w15 hb15)
    have HN15 := (show Hid (LM Y0 Z5 s ⟨.slice g1 s.es.length g1p, .slice g2 s.ds.length g2p, .slice g3 s.rs.length g3p, .slice g4 s.dp.length g4p, .slice g5 s.rp.length g5p, gD, gR⟩ b1 b2 b3 M1 [.int .i64 (s.n : Nat), .slice g1 s.es.length g1p, .slice g2 s.ds.length g2p, .slice g3 s.rs.length g3p] w15) from HN14.out.still hb15)
    clear hb15 HN14 HC15 X0 X1 X2 X3
    go_wp2_with fail
    refine Calls.mono HC16.out ?_
    rintro e w16 ⟨rfl, hw16⟩
    rw [hw16]
    clear hw16 w16
    go_wp2_with fail
    refine Calls.mono HC17.out ?_
    rintro e w16 ⟨rfl, hw16⟩
    rw [hw16]
    clear hw16 w16 HC16 HC17
    have H15 := HA.out w15 HN15.out.bel
    obtain ⟨T0, T1, T2, T3⟩ := cells4 H15.2.1
    have HC18 := (show Hid _ from HTO.out w15 H15.1 HWT.out)
    clear H15
    go_wp2_with fail
    refine Calls.mono HC18.out ?_
    rintro e w18 ⟨y, rfl, hb18, D18⟩
    have HN18 := (show Hid (LM Y0 Z5 s ⟨.slice g1 s.es.length g1p, .slice g2 s.ds.length g2p, .slice g3 s.rs.length g3p, .slice g4 s.dp.length g4p, .slice g5 s.rp.length g5p, gD, gR⟩ b1 b2 b3 M1 [.int .i64 (s.n : Nat), .slice g1 s.es.length g1p, .slice g2 s.ds.length g2p, .slice g3 s.rs.length g3p] w18) from HN15.out.still hb18)
    have HC19 := (show Hid _ from HIM.out w18 y (D18.lies.mono (fun b h => h.2)))
    clear hb18 D18 HN15 HC18 T0 T1 T2 T3
    go_wp2_with fail
    refine Calls.mono HC19.out ?_
    intro e w19 h19
    obtain ⟨Ah, h1, h2, h3, h4, h5, h1p, h2p, h3p, h4p, h5p, hD, hR, rfl, _, hb19, hoh⟩ := h19.parts
    have hba19 := bel_alloc w19 (.cells #[.int .i64 (s.n : Nat), .slice h1 s.es.length h1p, .slice h2 s.ds.length h2p, .slice h3 s.rs.length h3p] 27)
    have HN20 := (show Hid (LM Y0 Z5 s ⟨.slice g1 s.es.length g1p, .slice g2 s.ds.length g2p, .slice g3 s.rs.length g3p, .slice g4 s.dp.length g4p, .slice g5 s.rp.length g5p, gD, gR⟩ b1 b2 b3 M1 [.int .i64 (s.n : Nat), .slice g1 s.es.length g1p, .slice g2 s.ds.length g2p, .slice g3 s.rs.length g3p] (w19.alloc (.cells #[.int .i64 (s.n : Nat), .slice h1 s.es.length h1p, .slice h2 s.ds.length h2p, .slice h3 s.rs.length h3p] 27))) from (HN18.out.still hb19).still hba19)
    have HC5 := (show Hid _ from HQ.out (w19.alloc (.cells #[.int .i64 (s.n : Nat), .slice h1 s.es.length h1p, .slice h2 s.ds.length h2p, .slice h3 s.rs.length h3p] 27)) Ah _ _ _ _ _ _ _ _ _ _ _ _ (hoh.still hba19) (HA.out _ HN20.out.bel).2.2.1)
    have HD5 := (show Hid _ from HQ2.out (w19.alloc (.cells #[.int .i64 (s.n : Nat), .slice h1 s.es.length h1p, .slice h2 s.ds.length h2p, .slice h3 s.rs.length h3p] 27)) Ah ⟨.slice h1 s.es.length h1p, .slice h2 s.ds.length h2p, .slice h3 s.rs.length h3p, .slice h4 s.dp.length h4p, .slice h5 s.rp.length h5p, hD, hR⟩ (hoh.still hba19) (HA.out _ HN20.out.bel).2.2.1)
    obtain ⟨P0, P1, P2, P3⟩ := cells4 (HA.out _ HN20.out.bel).2.2.2
    clear h19 hb19 hoh HN18 HC19 hba19
    go_wp2_with fail
    refine Calls.mono HC5.out ?_
    rintro e w6 ⟨rfl, hb6⟩
    have HC6 := (show Hid _ from HD5.out.1 w6 hb6)
    clear P0 P1 P2 P3
    go_wp2_with fail
    refine Calls.mono HC6.out ?_
    rintro e w7 ⟨rfl, hb7⟩
    have hb67 := hb6.trans (hb7.mono hb6.size)
    have HC7 := (show Hid _ from HD5.out.2 w7 hb67)
    clear hb6 hb7 HC6
    go_wp2_with fail
    refine Calls.mono HC7.out ?_
    rintro e w21 ⟨rfl, hb8⟩
    have HN21 := (show Hid (LM Y0 Z5 s ⟨.slice g1 s.es.length g1p, .slice g2 s.ds.length g2p, .slice g3 s.rs.length g3p, .slice g4 s.dp.length g4p, .slice g5 s.rp.length g5p, gD, gR⟩ b1 b2 b3 M1 [.int .i64 (s.n : Nat), .slice g1 s.es.length g1p, .slice g2 s.ds.length g2p, .slice g3 s.rs.length g3p] w21) from HN20.out.still (hb67.trans (hb8.mono hb67.size)))
    clear hb67 hb8 HN20 HC5 HC7 HD5
    have HC15 := (show Hid _ from HHD.out w21 HN21.out.ma)
    obtain ⟨X0, X1, X2, X3⟩ := cells4 HN21.out.bg
    go_wp2_with fail
    refine Calls.mono HC15.out.1 ?_
    rintro e w22 ⟨rfl, hb22⟩
    have HC16 := (show Hid _ from HC15.out.2.1 w22 hb22)
    have HC17 := (show Hid _ from HC15.out.2.2 w22 hb22)
    have HE := (show Hid (Below w.heap.size w w22) from (HA.out _ (HN21.out.still hb22).bel).1)
    clear hb22 HN21 HC15 X0 X1 X2 X3
    go_wp2_with fail
    refine Calls.mono HC16.out ?_
    rintro e w23 ⟨rfl, hw23⟩
    rw [hw23]
    clear hw23 w23
    go_wp2_with fail
    refine Calls.mono HC17.out ?_
    rintro e w23 ⟨rfl, hw23⟩
    rw [hw23]
    clear hw23 w23
    go_wp2_with fail
    go_ret
    exact ⟨rfl, HE.out⟩
end Go.Proofs.Ytledclkmeikgdaa
