import Derived.Test.YtnmdgbnbnpibhaaCn
/-! The program: AgOK. -/
namespace Go.Proofs.Ytnmdgbnbnpibhaa
open Go.RowKit Go.Deep
set_option linter.unusedVariables false
set_option maxRecDepth 100000
set_option linter.unusedSimpArgs false

theorem boxg4 {w w' : World} {g T : Nat} {c0 c1 c2 c3 : Value} (h : Box w g T [c0, c1, c2, c3]) (hb : Below w.heap.size w w') :
    w'.cell? ⟨g, 0, none⟩ = some c0 ∧ w'.cell? ⟨g, 1, none⟩ = some c1 ∧ w'.cell? ⟨g, 2, none⟩ = some c2 ∧ w'.cell? ⟨g, 3, none⟩ = some c3 :=
  ⟨(h.still hb).cell 0 (by simp), (h.still hb).cell 1 (by simp), (h.still hb).cell 2 (by simp), (h.still hb).cell 3 (by simp)⟩
theorem boxg2 {w w' : World} {g T : Nat} {c0 c1 : Value} (h : Box w g T [c0, c1]) (hb : Below w.heap.size w w') :
    w'.cell? ⟨g, 0, none⟩ = some c0 ∧ w'.cell? ⟨g, 1, none⟩ = some c1 :=
  ⟨(h.still hb).cell 0 (by simp), (h.still hb).cell 1 (by simp)⟩
set_option maxHeartbeats 6400000 in
theorem iAg9 {S S' : Nat → Prop} (d : Bn) (g : DAg) (v0 v1 v3 u0 u1 : Value) (w : World) (h : BLies w S d v0 v1 v3) (hg : DAgL w S' g u0 u1) :
    Calls Try.prog 9 #[.agg #[v0, v1, .int .i64 d.own, v3], .agg #[u0, u1]] w fun e w' => e = .returned (.bool (agB d g)) ∧ Below w.heap.size w w' := by
  have HBN : Hid (∀ wq, Below w.heap.size w wq → Calls Try.prog 29 #[.agg #[v0, v1, .int .i64 d.own, v3]] wq fun e w' => e = .returned (.bool (bnB d)) ∧ Below wq.heap.size wq w') := fun wq hb => iBnf_any d v0 v1 v3 wq (h.still hb)
  have HAT : Hid (d.nons.length ≤ 100 → g.attrs.length ≤ 20 → ∀ wq, Below w.heap.size w wq → Calls Try.prog 30 #[.agg #[v0, v1, .int .i64 d.own, v3, u0, u1]] wq fun e w' => e = .returned (.bool ((List.range g.attrs.length).all (attB d g))) ∧ Below wq.heap.size wq w') := fun h1 h2 wq hb => atr30 d g v0 v1 v3 u0 u1 wq (h.still hb) (hg.still hb) h1 h2
  have HEQ : Hid ((∀ i (hi : i < g.attrs.length), 0 ≤ g.attrs[i].non ∧ g.attrs[i].non ≤ 1000) → d.terms.length ≤ 1000000 → ∀ wq, Below w.heap.size w wq → Calls Try.prog 31 #[u1, .func (.func 32) #[.agg #[v0, v1, .int .i64 d.own, v3, u0, u1]] #[]] wq fun e w' => e = .returned (.bool (g.eqs.all (erB d g))) ∧ Below wq.heap.size wq w') := fun h1 h2 wq hb => all31 d g v0 v1 v3 u0 u1 wq (h.still hb) (hg.still hb) h1 h2
  have HON : Hid ((∀ i (hi : i < g.attrs.length), 0 ≤ g.attrs[i].non ∧ g.attrs[i].non ≤ 1000) → BnK d → g.attrs.length ≤ 20 → g.eqs.length ≤ 300 → g.eqs.all (erB d g) = true → ∀ wq, Below w.heap.size w wq → Calls Try.prog 33 #[.agg #[v0, v1, .int .i64 d.own, v3, u0, u1]] wq fun e w' => e = .returned (.bool (hoB d g)) ∧ Below wq.heap.size wq w') :=
    fun h1 hK h3 h4 h5 wq hb => one33 d g v0 v1 v3 u0 u1 wq (h.still hb) (hg.still hb) h1 (by have := hK.terms; omega) hK.prods hK.len h3 h4 (fun i hi => er_sl hK h3 (List.all_eq_true.1 h5 _ (List.getElem_mem hi)))
  have hma : g.attrs.length ≤ maxLen := by obtain ⟨_, _, _, h⟩ := hg.attrs.form; exact h
  have hme : g.eqs.length ≤ maxLen := by obtain ⟨_, _, _, h⟩ := hg.eqs.form; exact h
  unfold maxLen at hma hme
  obtain ⟨x0, x1, x2, x3, x4, x5, rfl, rfl, rfl⟩ := h.form
  obtain ⟨y0, y1, y2, y3, rfl, rfl⟩ := hg.form
  clear h hg
  have hb1 := bel_alloc w (.cells #[.slice x0 d.terms.length x1, .slice x2 d.nons.length x3, .int .i64 d.own, .slice x4 d.prods.length x5] 37)
  have hb2 : Below w.heap.size w ((w.alloc (.cells #[.slice x0 d.terms.length x1, .slice x2 d.nons.length x3, .int .i64 d.own, .slice x4 d.prods.length x5] 37)).alloc (.cells #[.slice y0 g.attrs.length y1, .slice y2 g.eqs.length y3] 42)) := bel_trans hb1 (bel_alloc _ _)
  have b1 := (Box.new w 37 [.slice x0 d.terms.length x1, .slice x2 d.nons.length x3, .int .i64 d.own, .slice x4 d.prods.length x5]).still (bel_alloc (w.alloc (.cells #[.slice x0 d.terms.length x1, .slice x2 d.nons.length x3, .int .i64 d.own, .slice x4 d.prods.length x5] 37)) (.cells #[.slice y0 g.attrs.length y1, .slice y2 g.eqs.length y3] 42))
  have b2 := Box.new (w.alloc (.cells #[.slice x0 d.terms.length x1, .slice x2 d.nons.length x3, .int .i64 d.own, .slice x4 d.prods.length x5] 37)) 42 [.slice y0 g.attrs.length y1, .slice y2 g.eqs.length y3]
  rw [show (w.alloc (.cells #[.slice x0 d.terms.length x1, .slice x2 d.nons.length x3, .int .i64 d.own, .slice x4 d.prods.length x5] 37)).heap.size = w.heap.size + 1 by simp] at b2
  have H0 := (show Hid (_ ∧ _ ∧ _) from ⟨hb2, b1, b2⟩)
  have HB1 := (show Hid _ from HBN.out _ hb2)
  clear hb1 hb2 b1 b2 HBN
  obtain ⟨q0, q1, q2, q3⟩ := boxg4 H0.out.2.1 (Below.refl _ _)
  obtain ⟨p0, p1⟩ := boxg2 H0.out.2.2 (Below.refl _ _)
  cases hbn : bnB d
  case false =>
    have HF := (show Hid (agB d g = false) from by show _ = _; unfold agB; rw [hbn]; rfl)
    rw [hbn] at HB1
    clear hbn
    generalize agB d g = R at *
    go_enter Try.func9, Try.ntmps9
    go_wp2_with fail
    refine Calls.mono HB1.out ?_
    rintro e w3 ⟨rfl, hb3⟩
    have HE := (show Hid _ from bel_trans H0.out.1 hb3); clear hb3
    go_wp2_with fail
    go_ret
    exact ⟨ret_bool HF.out.symm, HE.out⟩
  have hK := bnk hbn
  rw [hbn] at HB1
  by_cases hA : 20 < g.attrs.length
  · have HF := (show Hid (agB d g = false) from by show _ = _; unfold agB; rw [decide_eq_false (p := g.attrs.length ≤ 20) (by omega)]; simp)
    clear hbn hK
    generalize agB d g = R at *
    have hA' : (20 : Int) < (g.attrs.length : Int) := by omega
    go_enter Try.func9, Try.ntmps9
    go_wp2_with fail
    refine Calls.mono HB1.out ?_
    rintro e w3 ⟨rfl, hb3⟩
    have HE := (show Hid _ from bel_trans H0.out.1 hb3)
    clear q0 q1 q2 q3 p0 p1
    obtain ⟨p0, p1⟩ := boxg2 H0.out.2.2 hb3
    clear hb3
    go_wp2_with fail
    go_ret
    exact ⟨ret_bool HF.out.symm, HE.out⟩
  by_cases hE : 300 < g.eqs.length
  · have HF := (show Hid (agB d g = false) from by show _ = _; unfold agB; rw [decide_eq_false (p := g.eqs.length ≤ 300) (by omega)]; simp)
    clear hbn hK
    generalize agB d g = R at *
    have hE' : (300 : Int) < (g.eqs.length : Int) := by omega
    go_enter Try.func9, Try.ntmps9
    go_wp2_with fail
    refine Calls.mono HB1.out ?_
    rintro e w3 ⟨rfl, hb3⟩
    have HE := (show Hid _ from bel_trans H0.out.1 hb3)
    clear q0 q1 q2 q3 p0 p1
    obtain ⟨p0, p1⟩ := boxg2 H0.out.2.2 hb3
    clear hb3
    go_wp2_with fail
    go_ret
    exact ⟨ret_bool HF.out.symm, HE.out⟩
  have HAT1 := (show Hid _ from HAT.out hK.nons (by omega))
  have HAN := (show Hid ((List.range g.attrs.length).all (attB d g) = false → agB d g = false) from ag_att_no)
  have HAY := (show Hid ((List.range g.attrs.length).all (attB d g) = true → agB d g = (g.eqs.all (erB d g) && hoB d g) ∧ (∀ i (hi : i < g.attrs.length), 0 ≤ g.attrs[i].non ∧ g.attrs[i].non ≤ 1000)) from fun h3 => ⟨ag_eq hbn (by omega) (by omega) h3, fun i hi => by
    have h4 := atk (d := d) (g := g) (fun i hi => List.all_eq_true.1 h3 i (List.mem_range.2 hi)) i hi
    have := hK.nons
    omega⟩)
  have HK := (show Hid (BnK d) from hK)
  have HEQ1 := (show Hid _ from fun h1 => HEQ.out h1 (by have := hK.terms; omega))
  have HON1 := (show Hid _ from fun h1 h5 => HON.out h1 hK (by omega) (by omega) h5)
  clear hbn hK HAT HEQ HON
  generalize agB d g = R at *
  generalize (List.range g.attrs.length).all (attB d g) = A at *
  go_enter Try.func9, Try.ntmps9
  go_wp2_with fail
  refine Calls.mono HB1.out ?_
  rintro e w3 ⟨rfl, hb3⟩
  have H3 := (show Hid (Below w.heap.size w w3 ∧ Box w3 w.heap.size 37 [.slice x0 d.terms.length x1, .slice x2 d.nons.length x3, .int .i64 d.own, .slice x4 d.prods.length x5] ∧ Box w3 (w.heap.size + 1) 42 [.slice y0 g.attrs.length y1, .slice y2 g.eqs.length y3]) from ⟨bel_trans H0.out.1 hb3, H0.out.2.1.still hb3, H0.out.2.2.still hb3⟩)
  clear hb3 H0 q0 q1 q2 q3 p0 p1 HB1
  obtain ⟨q0, q1, q2, q3⟩ := boxg4 H3.out.2.1 (Below.refl _ _)
  obtain ⟨p0, p1⟩ := boxg2 H3.out.2.2 (Below.refl _ _)
  have hba := bel_alloc w3 (.cells #[.slice x0 d.terms.length x1, .slice x2 d.nons.length x3, .int .i64 d.own, .slice x4 d.prods.length x5, .slice y0 g.attrs.length y1, .slice y2 g.eqs.length y3] 76)
  have H4 := (show Hid (Below w.heap.size w (w3.alloc (.cells #[.slice x0 d.terms.length x1, .slice x2 d.nons.length x3, .int .i64 d.own, .slice x4 d.prods.length x5, .slice y0 g.attrs.length y1, .slice y2 g.eqs.length y3] 76)) ∧ Box (w3.alloc (.cells #[.slice x0 d.terms.length x1, .slice x2 d.nons.length x3, .int .i64 d.own, .slice x4 d.prods.length x5, .slice y0 g.attrs.length y1, .slice y2 g.eqs.length y3] 76)) w3.heap.size 76 [.slice x0 d.terms.length x1, .slice x2 d.nons.length x3, .int .i64 d.own, .slice x4 d.prods.length x5, .slice y0 g.attrs.length y1, .slice y2 g.eqs.length y3] ∧ Box (w3.alloc (.cells #[.slice x0 d.terms.length x1, .slice x2 d.nons.length x3, .int .i64 d.own, .slice x4 d.prods.length x5, .slice y0 g.attrs.length y1, .slice y2 g.eqs.length y3] 76)) (w.heap.size + 1) 42 [.slice y0 g.attrs.length y1, .slice y2 g.eqs.length y3]) from ⟨bel_trans H3.out.1 hba, Box.new w3 76 [.slice x0 d.terms.length x1, .slice x2 d.nons.length x3, .int .i64 d.own, .slice x4 d.prods.length x5, .slice y0 g.attrs.length y1, .slice y2 g.eqs.length y3], H3.out.2.2.still hba⟩)
  have HC1 := (show Hid _ from HAT1.out _ H4.out.1)
  clear hba H3
  go_wp2_with fail
  refine Calls.mono HC1.out ?_
  rintro e w5 ⟨rfl, hb5⟩
  have H5 := (show Hid (Below w.heap.size w w5 ∧ Box w5 w3.heap.size 76 [.slice x0 d.terms.length x1, .slice x2 d.nons.length x3, .int .i64 d.own, .slice x4 d.prods.length x5, .slice y0 g.attrs.length y1, .slice y2 g.eqs.length y3] ∧ Box w5 (w.heap.size + 1) 42 [.slice y0 g.attrs.length y1, .slice y2 g.eqs.length y3]) from ⟨bel_trans H4.out.1 hb5, H4.out.2.1.still hb5, H4.out.2.2.still hb5⟩)
  clear hb5 H4 HC1 q0 q1 q2 q3 p0 p1
  cases A
  · have HF := (show Hid (R = false) from HAN.out rfl)
    go_wp2_with fail
    go_ret
    exact ⟨ret_bool HF.out.symm, H5.out.1⟩
  obtain ⟨hR, hsm⟩ := HAY.out rfl
  have HR := (show Hid _ from hR); clear hR
  have HC2 := (show Hid _ from HEQ1.out hsm _ H5.out.1)
  have HON2 := (show Hid _ from HON1.out hsm)
  clear hsm HAY HAN HEQ1 HON1
  generalize g.eqs.all (erB d g) = B at *
  obtain ⟨q0, q1, q2, q3, q4, q5⟩ := box6 H5.out.2.1 (Below.refl _ _)
  obtain ⟨p0, p1⟩ := boxg2 H5.out.2.2 (Below.refl _ _)
  go_wp2_with fail
  refine Calls.mono HC2.out ?_
  rintro e w6 ⟨rfl, hb6⟩
  have H6 := (show Hid (Below w.heap.size w w6 ∧ Box w6 w3.heap.size 76 [.slice x0 d.terms.length x1, .slice x2 d.nons.length x3, .int .i64 d.own, .slice x4 d.prods.length x5, .slice y0 g.attrs.length y1, .slice y2 g.eqs.length y3]) from ⟨bel_trans H5.out.1 hb6, H5.out.2.1.still hb6⟩)
  clear hb6 H5 HC2 q0 q1 q2 q3 q4 q5 p0 p1
  cases B
  · have HF := (show Hid (R = false) from HR.out)
    go_wp2_with fail
    go_ret
    exact ⟨ret_bool HF.out.symm, H6.out.1⟩
  have HC3 := (show Hid _ from HON2.out rfl _ H6.out.1)
  have HF := (show Hid (R = hoB d g) from HR.out)
  generalize hoB d g = C at *
  obtain ⟨q0, q1, q2, q3, q4, q5⟩ := box6 H6.out.2 (Below.refl _ _)
  go_wp2_with fail
  refine Calls.mono HC3.out ?_
  rintro e w7 ⟨rfl, hb7⟩
  have HE := (show Hid _ from bel_trans H6.out.1 hb7)
  clear hb7 q0 q1 q2 q3 q4 q5 HC3 H6
  go_wp2_with fail
  go_ret
  exact ⟨ret_bool HF.out.symm, HE.out⟩
end Go.Proofs.Ytnmdgbnbnpibhaa
