import Derived.Test.YtnmdgbnbnpibhaaCo
import Derived.Test.YtnmdgbnbnpibhaaBk
import Derived.Deep.RegionHeld3
/-! The law FnExactAgOK, walked. -/
namespace Go.Proofs.Ytnmdgbnbnpibhaa
open Go.RowKit Go.Deep
set_option linter.unusedVariables false
set_option maxRecDepth 100000
set_option linter.unusedSimpArgs false

theorem blies_any {w : World} {S : Nat → Prop} {d : Bn} {v0 v1 v3 : Value} (h : BLies w S d v0 v1 v3) : BLies w (fun _ => True) d v0 v1 v3 :=
  ⟨h.terms.mono (fun _ _ => trivial), h.nons.mono (fun _ _ => trivial), h.prods.mono (fun _ _ => trivial)⟩
set_option maxHeartbeats 12800000 in
theorem lawAg {S S' : Nat → Prop} (d : Bn) (g : DAg) (v0 v1 v3 u0 u1 : Value) (w : World) (h : BLies w S d v0 v1 v3) (hg : DAgL w S' g u0 u1) :
    Calls Try.prog 3 #[.agg #[v0, v1, .int .i64 d.own, v3], .agg #[u0, u1]] w fun e w' => e = .returned (.bool true) ∧ Below w.heap.size w w' := by
  have HZB : Hid (∀ wq, Below w.heap.size w wq → Calls Try.prog 4 #[.agg #[v0, v1, .int .i64 d.own, v3], .int .i64 1048576] wq fun e w' => Left 1048576 d.Small e ∧ Below wq.heap.size wq w') := fun wq hb => szBnf_any d v0 v1 v3 wq 1048576 (h.still hb) (Nat.le_refl _)
  have HZA : Hid (∀ wq (n : Nat), Below w.heap.size w wq → n ≤ 1048576 → Calls Try.prog 5 #[.agg #[u0, u1], .int .i64 n] wq fun e w' => LeftG n g.Sm e ∧ Below wq.heap.size wq w') := fun wq n hb hn => szAg_any g u0 u1 wq n (hg.still hb) hn
  have HTB : Hid (d.Small → ∀ wq, Below w.heap.size w wq → Calls Try.prog 7 #[.agg #[v0, v1, .int .i64 d.own, v3]] wq fun e w' => ∃ a0 a1 a3, e = .returned (.agg #[a0, a1, .int .i64 d.own, a3]) ∧ Below wq.heap.size wq w' ∧ BLies w' (fun b => wq.heap.size ≤ b) d a0 a1 a3) := fun hs wq hb => toBnf_any d v0 v1 v3 wq (h.still hb) hs
  have HTA : Hid (g.Sm → ∀ wq, Below w.heap.size w wq → Calls Try.prog 8 #[.agg #[u0, u1]] wq fun e w' => ∃ a0 a1, e = .returned (.agg #[a0, a1]) ∧ Below wq.heap.size wq w' ∧ DAgL w' (fun b => wq.heap.size ≤ b) g a0 a1) := fun hs wq hb => (toAg_any g u0 u1 wq (hg.still hb) hs).mono (fun e w' ⟨a0, a1, e1, e2, e3⟩ => ⟨a0, a1, e1, e2, e3.lies⟩)
  have HSP : Hid (∀ (wq : World) (S1 S2 : Nat → Prop) (a0 a1 a3 c0 c1 : Value), BLies wq S1 d a0 a1 a3 → DAgL wq S2 g c0 c1 → Calls Try.prog 6 #[.agg #[a0, a1, .int .i64 d.own, a3], .agg #[c0, c1]] wq fun e w' => e = .returned (.bool (agB d g)) ∧ Below wq.heap.size wq w') := fun wq S1 S2 a0 a1 a3 c0 c1 h1 h2 => sAg d g a0 a1 a3 c0 c1 wq h1 h2
  have HIM : Hid (∀ (wq : World) (S1 S2 : Nat → Prop) (a0 a1 a3 c0 c1 : Value), BLies wq S1 d a0 a1 a3 → DAgL wq S2 g c0 c1 → Calls Try.prog 9 #[.agg #[a0, a1, .int .i64 d.own, a3], .agg #[c0, c1]] wq fun e w' => e = .returned (.bool (agB d g)) ∧ Below wq.heap.size wq w') := fun wq S1 S2 a0 a1 a3 c0 c1 h1 h2 => iAg9 d g a0 a1 a3 c0 c1 wq h1 h2
  have HEB : Hid (∀ (wq : World) (S1 S2 : Nat → Prop) (a0 a1 a3 c0 c1 c3 : Value), BLies wq S1 d a0 a1 a3 → BLies wq S2 d c0 c1 c3 → Calls Try.prog 10 #[.agg #[a0, a1, .int .i64 d.own, a3], .agg #[c0, c1, .int .i64 d.own, c3]] wq fun e w' => e = .returned (.bool true) ∧ Below wq.heap.size wq w') := fun wq S1 S2 a0 a1 a3 c0 c1 c3 h1 h2 => eqBnf_any d a0 a1 a3 c0 c1 c3 wq h1 h2
  have HEA : Hid (∀ (wq : World) (S1 S2 : Nat → Prop) (a0 a1 c0 c1 : Value), DAgL wq S1 g a0 a1 → DAgL wq S2 g c0 c1 → Calls Try.prog 11 #[.agg #[a0, a1], .agg #[c0, c1]] wq fun e w' => e = .returned (.bool true) ∧ Below wq.heap.size wq w') := fun wq S1 S2 a0 a1 c0 c1 h1 h2 => eqAg_any g a0 c0 a1 c1 wq h1 h2
  obtain ⟨x0, x1, x2, x3, x4, x5, rfl, rfl, rfl⟩ := h.form
  obtain ⟨y0, y1, y2, y3, rfl, rfl⟩ := hg.form
  clear h hg
  have hb1 := bel_alloc w (.cells #[.slice x0 d.terms.length x1, .slice x2 d.nons.length x3, .int .i64 d.own, .slice x4 d.prods.length x5] 26)
  have hb2 : Below w.heap.size w ((w.alloc (.cells #[.slice x0 d.terms.length x1, .slice x2 d.nons.length x3, .int .i64 d.own, .slice x4 d.prods.length x5] 26)).alloc (.cells #[.slice y0 g.attrs.length y1, .slice y2 g.eqs.length y3] 30)) := bel_trans hb1 (bel_alloc _ _)
  have b1 := (Box.new w 26 [.slice x0 d.terms.length x1, .slice x2 d.nons.length x3, .int .i64 d.own, .slice x4 d.prods.length x5]).still (bel_alloc (w.alloc (.cells #[.slice x0 d.terms.length x1, .slice x2 d.nons.length x3, .int .i64 d.own, .slice x4 d.prods.length x5] 26)) (.cells #[.slice y0 g.attrs.length y1, .slice y2 g.eqs.length y3] 30))
  have b2 := Box.new (w.alloc (.cells #[.slice x0 d.terms.length x1, .slice x2 d.nons.length x3, .int .i64 d.own, .slice x4 d.prods.length x5] 26)) 30 [.slice y0 g.attrs.length y1, .slice y2 g.eqs.length y3]
  rw [show (w.alloc (.cells #[.slice x0 d.terms.length x1, .slice x2 d.nons.length x3, .int .i64 d.own, .slice x4 d.prods.length x5] 26)).heap.size = w.heap.size + 1 by simp] at b2
  have H0 := (show Hid (_ ∧ _ ∧ _) from ⟨hb2, b1, b2⟩)
  have C1 := (show Hid _ from HZB.out _ hb2)
  clear hb1 hb2 b1 b2 HZB
  generalize agB d g = R at *
  obtain ⟨q0, q1, q2, q3⟩ := boxg4 H0.out.2.1 (Below.refl _ _)
  go_enter Try.func3, Try.ntmps3
  go_wp2_with fail
  refine Calls.mono C1.out ?_
  rintro e w1 ⟨rfl | ⟨m1, rfl, hm1, hsm1⟩, hb1⟩
  · have HE := (show Hid _ from bel_trans H0.out.1 hb1); clear hb1
    go_wp2_with fail
    go_ret
    exact ⟨rfl, HE.out⟩
  have H1 := (show Hid (Below w.heap.size w w1 ∧ Box w1 w.heap.size 26 [.slice x0 d.terms.length x1, .slice x2 d.nons.length x3, .int .i64 d.own, .slice x4 d.prods.length x5] ∧ Box w1 (w.heap.size + 1) 30 [.slice y0 g.attrs.length y1, .slice y2 g.eqs.length y3]) from ⟨bel_trans H0.out.1 hb1, H0.out.2.1.still hb1, H0.out.2.2.still hb1⟩)
  have HUB := (show Hid _ from HTB.out hsm1)
  clear hb1 H0 C1 hsm1 HTB q0 q1 q2 q3
  have C2 := (show Hid _ from HZA.out w1 m1 H1.out.1 hm1)
  obtain ⟨p0, p1⟩ := boxg2 H1.out.2.2 (Below.refl _ _)
  have hm0 : ¬ (m1 : Int) < 0 := by omega
  clear HZA
  go_wp2_with fail
  refine Calls.mono C2.out ?_
  rintro e w2 ⟨rfl | ⟨m2, rfl, hm2, hsm2⟩, hb2⟩
  · have HE := (show Hid _ from bel_trans H1.out.1 hb2); clear hb2
    go_wp2_with fail
    go_ret
    exact ⟨rfl, HE.out⟩
  have H2 := (show Hid (Below w.heap.size w w2 ∧ Box w2 w.heap.size 26 [.slice x0 d.terms.length x1, .slice x2 d.nons.length x3, .int .i64 d.own, .slice x4 d.prods.length x5] ∧ Box w2 (w.heap.size + 1) 30 [.slice y0 g.attrs.length y1, .slice y2 g.eqs.length y3]) from ⟨bel_trans H1.out.1 hb2, H1.out.2.1.still hb2, H1.out.2.2.still hb2⟩)
  have HUA := (show Hid _ from HTA.out hsm2)
  clear hb2 H1 C2 hsm2 HTA p0 p1
  have hm3 : ¬ (m2 : Int) < 0 := by omega
  have HC := (show Hid (∀ wq, Below w2.heap.size w2 wq → (wq.cell? ⟨w.heap.size, 0, none⟩ = some (.slice x0 d.terms.length x1) ∧ wq.cell? ⟨w.heap.size, 1, none⟩ = some (.slice x2 d.nons.length x3) ∧ wq.cell? ⟨w.heap.size, 2, none⟩ = some (.int .i64 d.own) ∧ wq.cell? ⟨w.heap.size, 3, none⟩ = some (.slice x4 d.prods.length x5)) ∧ wq.cell? ⟨w.heap.size + 1, 0, none⟩ = some (.slice y0 g.attrs.length y1) ∧ wq.cell? ⟨w.heap.size + 1, 1, none⟩ = some (.slice y2 g.eqs.length y3)) from fun wq hq => ⟨⟨(H2.out.2.1.still hq).cell 0 (by simp), (H2.out.2.1.still hq).cell 1 (by simp), (H2.out.2.1.still hq).cell 2 (by simp), (H2.out.2.1.still hq).cell 3 (by simp)⟩, (H2.out.2.2.still hq).cell 0 (by simp), (H2.out.2.2.still hq).cell 1 (by simp)⟩)
  go_wp2_with fail
  go_cut [6] from 20 to 24 (fun v6 wx => v6 = .bool R ∧ Hid (Below w2.heap.size w2 wx))
  case first =>
    have hbd := (Below.refl w2.heap.size w2).drew
    have hS0 := HC.out _ hbd
    have hB0 := bel_trans H2.out.1 hbd
    go_region_held3 (fun wq => (wq.cell? ⟨w.heap.size, 0, none⟩ = some (.slice x0 d.terms.length x1) ∧ wq.cell? ⟨w.heap.size, 1, none⟩ = some (.slice x2 d.nons.length x3) ∧ wq.cell? ⟨w.heap.size, 2, none⟩ = some (.int .i64 d.own) ∧ wq.cell? ⟨w.heap.size, 3, none⟩ = some (.slice x4 d.prods.length x5)) ∧ wq.cell? ⟨w.heap.size + 1, 0, none⟩ = some (.slice y0 g.attrs.length y1) ∧ wq.cell? ⟨w.heap.size + 1, 1, none⟩ = some (.slice y2 g.eqs.length y3)) (first | with_reducible exact hS0 | with_reducible exact hS1 | with_reducible exact hS2 | with_reducible exact hS3) ((first
      | (go_at_call 6; refine Calls.mono (HSP.out _ _ _ _ _ _ _ _ LA LB) ?_; rintro e w5 ⟨rfl, hb5⟩; have hF := bel_trans hF2 hb5; have hS3 := HC.out _ hF)
      | (go_at_call 7; with_reducible refine Calls.mono (HUB.out _ hBb) ?_; rintro e w4 ⟨a0, a1, a3, rfl, hb4, lA⟩; obtain ⟨k0, k1, k2, k3, k4, k5, rfl, rfl, rfl⟩ := lA.form; have LA := lA; have LB := DAgL.still lBb hb4; have hF2 := bel_trans hFb hb4; have hS2 := HC.out _ hF2)
      | (go_at_call 8; with_reducible refine Calls.mono (HUA.out _ hBa) ?_; rintro e w4 ⟨a0, a1, rfl, hb4, lB⟩; obtain ⟨k0, k1, k2, k3, rfl, rfl⟩ := lB.form; have LB := lB; have LA := BLies.still lAa hb4; have hF2 := bel_trans hFa hb4; have hS2 := HC.out _ hF2)
      | (go_at_call 7; with_reducible refine Calls.mono (HUB.out _ hB0) ?_; rintro e w3 ⟨a0, a1, a3, rfl, hb3, lAa⟩; obtain ⟨n0, n1, n2, n3, n4, n5, rfl, rfl, rfl⟩ := lAa.form; have hFa := bel_trans hbd hb3; have hBa := bel_trans hB0 hb3; have hS1 := HC.out _ hFa)
      | (go_at_call 8; with_reducible refine Calls.mono (HUA.out _ hB0) ?_; rintro e w3 ⟨a0, a1, rfl, hb3, lBb⟩; obtain ⟨n0, n1, n2, n3, rfl, rfl⟩ := lBb.form; have hFb := bel_trans hbd hb3; have hBb := bel_trans hB0 hb3; have hS1 := HC.out _ hFb)))
    all_goals go_wp2_with fail
    all_goals go_meet
    all_goals exact ⟨rfl, hF⟩
  case rest =>
    obtain ⟨rfl, HXC⟩ := hcut
    obtain ⟨wz, rfl⟩ : ∃ wz, wz = wc := ⟨_, rfl⟩
    have H3 := (show Hid (Below w.heap.size w wz ∧ Box wz w.heap.size 26 [.slice x0 d.terms.length x1, .slice x2 d.nons.length x3, .int .i64 d.own, .slice x4 d.prods.length x5] ∧ Box wz (w.heap.size + 1) 30 [.slice y0 g.attrs.length y1, .slice y2 g.eqs.length y3]) from ⟨bel_trans H2.out.1 HXC.out, H2.out.2.1.still HXC.out, H2.out.2.2.still HXC.out⟩)
    clear HXC HC H2 HSP
    obtain ⟨q0, q1, q2, q3⟩ := boxg4 H3.out.2.1 (Below.refl _ _)
    have C3 := (show Hid _ from HUB.out _ H3.out.1)
    go_wp2_with fail
    refine Calls.mono C3.out ?_
    rintro e w3 ⟨a0, a1, a3, rfl, hb3, LX⟩
    obtain ⟨e0, e1, e2, e3, e4, e5, rfl, rfl, rfl⟩ := LX.form
    have hba := bel_alloc w3 (.cells #[.slice e0 d.terms.length e1, .slice e2 d.nons.length e3, .int .i64 d.own, .slice e4 d.prods.length e5] 37)
    have H4 := (show Hid (Below w.heap.size w (w3.alloc (.cells #[.slice e0 d.terms.length e1, .slice e2 d.nons.length e3, .int .i64 d.own, .slice e4 d.prods.length e5] 37)) ∧ (Box (w3.alloc (.cells #[.slice e0 d.terms.length e1, .slice e2 d.nons.length e3, .int .i64 d.own, .slice e4 d.prods.length e5] 37)) w.heap.size 26 [.slice x0 d.terms.length x1, .slice x2 d.nons.length x3, .int .i64 d.own, .slice x4 d.prods.length x5] ∧ Box (w3.alloc (.cells #[.slice e0 d.terms.length e1, .slice e2 d.nons.length e3, .int .i64 d.own, .slice e4 d.prods.length e5] 37)) (w.heap.size + 1) 30 [.slice y0 g.attrs.length y1, .slice y2 g.eqs.length y3]) ∧ Box (w3.alloc (.cells #[.slice e0 d.terms.length e1, .slice e2 d.nons.length e3, .int .i64 d.own, .slice e4 d.prods.length e5] 37)) w3.heap.size 37 [.slice e0 d.terms.length e1, .slice e2 d.nons.length e3, .int .i64 d.own, .slice e4 d.prods.length e5] ∧ BLies (w3.alloc (.cells #[.slice e0 d.terms.length e1, .slice e2 d.nons.length e3, .int .i64 d.own, .slice e4 d.prods.length e5] 37)) (fun b => wz.heap.size ≤ b) d (.slice e0 d.terms.length e1) (.slice e2 d.nons.length e3) (.slice e4 d.prods.length e5)) from
      ⟨bel_trans (bel_trans H3.out.1 hb3) hba, ⟨(H3.out.2.1.still hb3).still hba, (H3.out.2.2.still hb3).still hba⟩, Box.new w3 37 [.slice e0 d.terms.length e1, .slice e2 d.nons.length e3, .int .i64 d.own, .slice e4 d.prods.length e5], LX.still hba⟩)
    clear hba hb3 LX H3 C3 q0 q1 q2 q3
    have C4 := (show Hid _ from HUA.out _ H4.out.1)
    obtain ⟨q0, q1⟩ := boxg2 H4.out.2.1.2 (Below.refl _ _)
    go_wp2_with fail
    refine Calls.mono C4.out ?_
    rintro e w4 ⟨a0, a1, rfl, hb4, LY⟩
    obtain ⟨f0, f1, f2, f3, rfl, rfl⟩ := LY.form
    have hba := bel_alloc w4 (.cells #[.slice f0 g.attrs.length f1, .slice f2 g.eqs.length f3] 42)
    have H5 := (show Hid (Below w.heap.size w (w4.alloc (.cells #[.slice f0 g.attrs.length f1, .slice f2 g.eqs.length f3] 42)) ∧ (Box (w4.alloc (.cells #[.slice f0 g.attrs.length f1, .slice f2 g.eqs.length f3] 42)) w.heap.size 26 [.slice x0 d.terms.length x1, .slice x2 d.nons.length x3, .int .i64 d.own, .slice x4 d.prods.length x5] ∧ Box (w4.alloc (.cells #[.slice f0 g.attrs.length f1, .slice f2 g.eqs.length f3] 42)) (w.heap.size + 1) 30 [.slice y0 g.attrs.length y1, .slice y2 g.eqs.length y3]) ∧ (Box (w4.alloc (.cells #[.slice f0 g.attrs.length f1, .slice f2 g.eqs.length f3] 42)) w3.heap.size 37 [.slice e0 d.terms.length e1, .slice e2 d.nons.length e3, .int .i64 d.own, .slice e4 d.prods.length e5] ∧ BLies (w4.alloc (.cells #[.slice f0 g.attrs.length f1, .slice f2 g.eqs.length f3] 42)) (fun _ => True) d (.slice e0 d.terms.length e1) (.slice e2 d.nons.length e3) (.slice e4 d.prods.length e5)) ∧ Box (w4.alloc (.cells #[.slice f0 g.attrs.length f1, .slice f2 g.eqs.length f3] 42)) w4.heap.size 42 [.slice f0 g.attrs.length f1, .slice f2 g.eqs.length f3] ∧ DAgL (w4.alloc (.cells #[.slice f0 g.attrs.length f1, .slice f2 g.eqs.length f3] 42)) (fun _ => True) g (.slice f0 g.attrs.length f1) (.slice f2 g.eqs.length f3)) from
      ⟨bel_trans (bel_trans H4.out.1 hb4) hba, ⟨(H4.out.2.1.1.still hb4).still hba, (H4.out.2.1.2.still hb4).still hba⟩, ⟨(H4.out.2.2.1.still hb4).still hba, blies_any ((H4.out.2.2.2.still hb4).still hba)⟩, Box.new w4 42 [.slice f0 g.attrs.length f1, .slice f2 g.eqs.length f3], DAgL.mono (LY.still hba) (fun _ _ => trivial)⟩)
    clear hba hb4 LY H4 C4 q0 q1
    have C5 := (show Hid _ from HIM.out _ _ _ _ _ _ _ _ H5.out.2.2.1.2 H5.out.2.2.2.2)
    obtain ⟨q0, q1, q2, q3⟩ := boxg4 H5.out.2.2.1.1 (Below.refl _ _)
    obtain ⟨r0, r1⟩ := boxg2 H5.out.2.2.2.1 (Below.refl _ _)
    have hRR : (R != R) = false := by simp
    go_wp2_with fail
    refine Calls.mono C5.out ?_
    rintro e w5 ⟨rfl, hb5⟩
    have H6 := (show Hid (Below w.heap.size w w5 ∧ (Box w5 w.heap.size 26 [.slice x0 d.terms.length x1, .slice x2 d.nons.length x3, .int .i64 d.own, .slice x4 d.prods.length x5] ∧ Box w5 (w.heap.size + 1) 30 [.slice y0 g.attrs.length y1, .slice y2 g.eqs.length y3]) ∧ (Box w5 w3.heap.size 37 [.slice e0 d.terms.length e1, .slice e2 d.nons.length e3, .int .i64 d.own, .slice e4 d.prods.length e5] ∧ BLies w5 (fun _ => True) d (.slice e0 d.terms.length e1) (.slice e2 d.nons.length e3) (.slice e4 d.prods.length e5)) ∧ Box w5 w4.heap.size 42 [.slice f0 g.attrs.length f1, .slice f2 g.eqs.length f3] ∧ DAgL w5 (fun _ => True) g (.slice f0 g.attrs.length f1) (.slice f2 g.eqs.length f3)) from
      ⟨bel_trans H5.out.1 hb5, ⟨H5.out.2.1.1.still hb5, H5.out.2.1.2.still hb5⟩, ⟨H5.out.2.2.1.1.still hb5, H5.out.2.2.1.2.still hb5⟩, H5.out.2.2.2.1.still hb5, H5.out.2.2.2.2.still hb5⟩)
    clear hb5 H5 C5 q0 q1 q2 q3 r0 r1 HIM
    generalize hp3 : w3.heap.size = p3 at *
    generalize hp4 : w4.heap.size = p4 at *
    clear hp3 hp4
    have HCA := (show Hid (∀ wq, Below w5.heap.size w5 wq → (wq.cell? ⟨p3, 0, none⟩ = some (.slice e0 d.terms.length e1) ∧ wq.cell? ⟨p3, 1, none⟩ = some (.slice e2 d.nons.length e3) ∧ wq.cell? ⟨p3, 2, none⟩ = some (.int .i64 d.own) ∧ wq.cell? ⟨p3, 3, none⟩ = some (.slice e4 d.prods.length e5)) ∧ wq.cell? ⟨w.heap.size, 0, none⟩ = some (.slice x0 d.terms.length x1) ∧ wq.cell? ⟨w.heap.size, 1, none⟩ = some (.slice x2 d.nons.length x3) ∧ wq.cell? ⟨w.heap.size, 2, none⟩ = some (.int .i64 d.own) ∧ wq.cell? ⟨w.heap.size, 3, none⟩ = some (.slice x4 d.prods.length x5)) from fun wq hq => ⟨⟨(H6.out.2.2.1.1.still hq).cell 0 (by simp), (H6.out.2.2.1.1.still hq).cell 1 (by simp), (H6.out.2.2.1.1.still hq).cell 2 (by simp), (H6.out.2.2.1.1.still hq).cell 3 (by simp)⟩, (H6.out.2.1.1.still hq).cell 0 (by simp), (H6.out.2.1.1.still hq).cell 1 (by simp), (H6.out.2.1.1.still hq).cell 2 (by simp), (H6.out.2.1.1.still hq).cell 3 (by simp)⟩)
    go_wp2_with fail
    go_cut [39] from 35 to 38 (fun v wx => v = .bool false ∧ Hid (Below w5.heap.size w5 wx))
    case first =>
      have hbd := (Below.refl w5.heap.size w5).drew
      have hS0 := HCA.out _ hbd
      have hB0 := bel_trans H6.out.1 hbd
      go_region_held3 (fun wq => (wq.cell? ⟨p3, 0, none⟩ = some (.slice e0 d.terms.length e1) ∧ wq.cell? ⟨p3, 1, none⟩ = some (.slice e2 d.nons.length e3) ∧ wq.cell? ⟨p3, 2, none⟩ = some (.int .i64 d.own) ∧ wq.cell? ⟨p3, 3, none⟩ = some (.slice e4 d.prods.length e5)) ∧ wq.cell? ⟨w.heap.size, 0, none⟩ = some (.slice x0 d.terms.length x1) ∧ wq.cell? ⟨w.heap.size, 1, none⟩ = some (.slice x2 d.nons.length x3) ∧ wq.cell? ⟨w.heap.size, 2, none⟩ = some (.int .i64 d.own) ∧ wq.cell? ⟨w.heap.size, 3, none⟩ = some (.slice x4 d.prods.length x5)) (first | with_reducible exact hS0 | with_reducible exact hS1 | with_reducible exact hS2) ((first
        | (go_at_call 10; refine Calls.mono (HEB.out _ _ _ _ _ _ _ _ _ LX LC) ?_; rintro e w7 ⟨rfl, hb7⟩; have hF2 := bel_trans hF1 hb7; have hS2 := HCA.out _ hF2)
        | (go_at_call 7; refine Calls.mono (HUB.out _ hB0) ?_; rintro e w6 ⟨a0, a1, a3, rfl, hb6, LC⟩; obtain ⟨z0, z1, z2, z3, z4, z5, rfl, rfl, rfl⟩ := LC.form; have hF1 := bel_trans hbd hb6; have LX := BLies.still H6.out.2.2.1.2 hF1; have hS1 := HCA.out _ hF1)))
      all_goals go_wp2_with fail
      all_goals go_meet
      all_goals exact ⟨rfl, hF2⟩
    case rest =>
      obtain ⟨rfl, HXD⟩ := hcut
      obtain ⟨wy, rfl⟩ : ∃ wy, wy = wc := ⟨_, rfl⟩
      have H7 := (show Hid (Below w.heap.size w wy ∧ Box wy (w.heap.size + 1) 30 [.slice y0 g.attrs.length y1, .slice y2 g.eqs.length y3] ∧ Box wy p4 42 [.slice f0 g.attrs.length f1, .slice f2 g.eqs.length f3] ∧ DAgL wy (fun _ => True) g (.slice f0 g.attrs.length f1) (.slice f2 g.eqs.length f3)) from ⟨bel_trans H6.out.1 HXD.out, H6.out.2.1.2.still HXD.out, H6.out.2.2.2.1.still HXD.out, H6.out.2.2.2.2.still HXD.out⟩)
      clear HXD HCA H6
      have HCB := (show Hid (∀ wq, Below wy.heap.size wy wq → (wq.cell? ⟨p4, 0, none⟩ = some (.slice f0 g.attrs.length f1) ∧ wq.cell? ⟨p4, 1, none⟩ = some (.slice f2 g.eqs.length f3)) ∧ wq.cell? ⟨w.heap.size + 1, 0, none⟩ = some (.slice y0 g.attrs.length y1) ∧ wq.cell? ⟨w.heap.size + 1, 1, none⟩ = some (.slice y2 g.eqs.length y3)) from fun wq hq => ⟨⟨(H7.out.2.2.1.still hq).cell 0 (by simp), (H7.out.2.2.1.still hq).cell 1 (by simp)⟩, (H7.out.2.1.still hq).cell 0 (by simp), (H7.out.2.1.still hq).cell 1 (by simp)⟩)
      go_wp2_with fail
      go_cut [44] from 40 to 43 (fun v wx => v = .bool false ∧ Hid (Below wy.heap.size wy wx))
      case first =>
        have hbd := (Below.refl wy.heap.size wy).drew
        have hS0 := HCB.out _ hbd
        have hB0 := bel_trans H7.out.1 hbd
        go_region_held3 (fun wq => (wq.cell? ⟨p4, 0, none⟩ = some (.slice f0 g.attrs.length f1) ∧ wq.cell? ⟨p4, 1, none⟩ = some (.slice f2 g.eqs.length f3)) ∧ wq.cell? ⟨w.heap.size + 1, 0, none⟩ = some (.slice y0 g.attrs.length y1) ∧ wq.cell? ⟨w.heap.size + 1, 1, none⟩ = some (.slice y2 g.eqs.length y3)) (first | with_reducible exact hS0 | with_reducible exact hS1 | with_reducible exact hS2) ((first
          | (go_at_call 11; refine Calls.mono (HEA.out _ _ _ _ _ _ _ LX LC) ?_; rintro e w7 ⟨rfl, hb7⟩; have hF2 := bel_trans hF1 hb7; have hS2 := HCB.out _ hF2)
          | (go_at_call 8; refine Calls.mono (HUA.out _ hB0) ?_; rintro e w6 ⟨a0, a1, rfl, hb6, LC⟩; obtain ⟨z0, z1, z2, z3, rfl, rfl⟩ := LC.form; have hF1 := bel_trans hbd hb6; have LX := DAgL.still H7.out.2.2.2 hF1; have hS1 := HCB.out _ hF1)))
        all_goals go_wp2_with fail
        all_goals go_meet
        all_goals exact ⟨rfl, hF2⟩
      case rest =>
        obtain ⟨rfl, HXE⟩ := hcut
        have HE := (show Hid _ from bel_trans H7.out.1 HXE.out)
        clear HXE H7 HCB
        go_wp2_with fail
        go_ret
        exact ⟨rfl, HE.out⟩
end Go.Proofs.Ytnmdgbnbnpibhaa
