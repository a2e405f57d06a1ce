import Derived.Test.YtnmdgbnbnpibhaaCf
import Derived.BigQuiet
import Derived.Deep.QuietTactic
/-! The program: an Eq is right. -/
namespace Go.Proofs.Ytnmdgbnbnpibhaa
open Go.RowKit Go.Deep
set_option linter.unusedVariables false
set_option maxRecDepth 100000
set_option linter.unusedSimpArgs false

/-- An Eq is right, as the program asks. -/
def erB (d : Bn) (g : DAg) (E : DEq) : Bool := decide (0 ≤ E.prod) && (decide (E.prod < (d.prods.length : Int)) && (decide ((E.args.length : Int) = argN E.op) && (setB d g (pdN d E.prod) E.pos E.attr && E.args.all (arB d g (pdN d E.prod)))))
theorem er_1 {d : Bn} {g : DAg} {E : DEq} (h : E.prod < 0) : erB d g E = false := by unfold erB; rw [decide_eq_false (p := 0 ≤ E.prod) (by omega)]; rfl
theorem er_2 {d : Bn} {g : DAg} {E : DEq} (h : (d.prods.length : Int) ≤ E.prod) : erB d g E = false := by unfold erB; rw [decide_eq_false (p := E.prod < (d.prods.length : Int)) (by omega)]; simp
theorem er_3 {d : Bn} {g : DAg} {E : DEq} (h : ¬ (E.args.length : Int) = argN E.op) : erB d g E = false := by unfold erB; rw [decide_eq_false h]; simp
theorem er_4 {d : Bn} {g : DAg} {E : DEq} (h0 : 0 ≤ E.prod) (h1 : E.prod < (d.prods.length : Int)) (h : (E.args.length : Int) = argN E.op) : erB d g E = (setB d g (pdN d E.prod) E.pos E.attr && E.args.all (arB d g (pdN d E.prod))) := by
  unfold erB; rw [decide_eq_true h, decide_eq_true h0, decide_eq_true h1]; rfl
set_option maxHeartbeats 6400000 in
theorem eqr32 {S S' S3 : Nat → Prop} (d : Bn) (g : DAg) (E : DEq) (v0 v1 v3 u0 u1 av : Value) (w : World) (h : BLies w S d v0 v1 v3) (hg : DAgL w S' g u0 u1) (hA : RefR w S3 E.args av) (hsm : ∀ i (hi : i < g.attrs.length), 0 ≤ g.attrs[i].non ∧ g.attrs[i].non ≤ 1000) (hT : d.terms.length ≤ 1000000) :
    Calls Try.prog 32 #[.agg #[v0, v1, .int .i64 d.own, v3, u0, u1], .agg #[.int .i64 E.prod, .int .i64 E.pos, .int .i64 E.attr, .int .i64 E.op, av]] w fun e w' => e = .returned (.bool (erB d g E)) ∧ Below w.heap.size w w' := by
  have HARG := (show Hid _ from fun (w' : World) => args60 E.op w')
  have HH := (show Hid (BLies w S d v0 v1 v3 ∧ DAgL w S' g u0 u1 ∧ RefR w S3 E.args av) from ⟨h, hg, hA⟩)
  obtain ⟨ea, ec, rfl, hem⟩ := hA.form
  obtain ⟨x0, x1, x2, x3, x4, x5, rfl, rfl, rfl⟩ := h.form
  obtain ⟨y0, y1, y2, y3, rfl, rfl⟩ := hg.form
  have hpd := h.prods
  unfold maxLen at hem
  have hb1 := bel_alloc w (.cells #[.slice x0 d.terms.length x1, .slice x2 d.nons.length x3, .int .i64 d.own, .slice x4 d.prods.length x5, .slice y0 g.attrs.length y1, .slice y2 g.eqs.length y3] 76)
  have hb2 : Below w.heap.size w ((w.alloc (.cells #[.slice x0 d.terms.length x1, .slice x2 d.nons.length x3, .int .i64 d.own, .slice x4 d.prods.length x5, .slice y0 g.attrs.length y1, .slice y2 g.eqs.length y3] 76)).alloc (.cells #[.int .i64 E.prod, .int .i64 E.pos, .int .i64 E.attr, .int .i64 E.op, .slice ea E.args.length ec] 59)) := bel_trans hb1 (bel_alloc _ _)
  have HBB := (show Hid (Below w.heap.size w ((w.alloc (.cells #[.slice x0 d.terms.length x1, .slice x2 d.nons.length x3, .int .i64 d.own, .slice x4 d.prods.length x5, .slice y0 g.attrs.length y1, .slice y2 g.eqs.length y3] 76)).alloc (.cells #[.int .i64 E.prod, .int .i64 E.pos, .int .i64 E.attr, .int .i64 E.op, .slice ea E.args.length ec] 59))) from hb2)
  have hs1 : (w.alloc (.cells #[.slice x0 d.terms.length x1, .slice x2 d.nons.length x3, .int .i64 d.own, .slice x4 d.prods.length x5, .slice y0 g.attrs.length y1, .slice y2 g.eqs.length y3] 76)).heap.size = w.heap.size + 1 := by simp
  have B1 := (Box.new w 76 [.slice x0 d.terms.length x1, .slice x2 d.nons.length x3, .int .i64 d.own, .slice x4 d.prods.length x5, .slice y0 g.attrs.length y1, .slice y2 g.eqs.length y3]).still (bel_alloc (w.alloc (.cells #[.slice x0 d.terms.length x1, .slice x2 d.nons.length x3, .int .i64 d.own, .slice x4 d.prods.length x5, .slice y0 g.attrs.length y1, .slice y2 g.eqs.length y3] 76)) (.cells #[.int .i64 E.prod, .int .i64 E.pos, .int .i64 E.attr, .int .i64 E.op, .slice ea E.args.length ec] 59))
  have B2 := Box.new (w.alloc (.cells #[.slice x0 d.terms.length x1, .slice x2 d.nons.length x3, .int .i64 d.own, .slice x4 d.prods.length x5, .slice y0 g.attrs.length y1, .slice y2 g.eqs.length y3] 76)) 59 [.int .i64 E.prod, .int .i64 E.pos, .int .i64 E.attr, .int .i64 E.op, .slice ea E.args.length ec]
  rw [hs1] at B2
  obtain ⟨q0, q1, q2, q3, q4, q5⟩ := box6 B1 (Below.refl _ _)
  obtain ⟨p0, p1, p2, p3, p4⟩ := box5 B2 (Below.refl _ _)
  have HX := (show Hid (_ ∧ _) from ⟨B1, B2⟩)
  clear B1 B2 hb1 hb2 hs1 h hg hA
  by_cases h1 : E.prod < 0
  · have HE := (show Hid _ from er_1 (d := d) (g := g) h1)
    have k1 : decide (E.prod < 0) = true := decide_eq_true h1
    clear hpd
    generalize erB d g E = R at *
    go_enter Try.func32, Try.ntmps32
    go_wp2_with fail
    go_quiet (fail)
    go_wp2_with fail
    go_ret
    exact ⟨by rw [HE.out]; rfl, bel_drewS HBB.out _⟩
  have k1 : decide (E.prod < 0) = false := decide_eq_false h1
  by_cases h2 : (d.prods.length : Int) ≤ E.prod
  · have HE := (show Hid _ from er_2 (g := g) h2)
    have k2 : decide ((d.prods.length : Int) ≤ E.prod) = true := decide_eq_true h2
    clear hpd
    generalize erB d g E = R at *
    go_enter Try.func32, Try.ntmps32
    go_wp2_with fail
    go_quiet (fail)
    go_wp2_with fail
    go_ret
    exact ⟨by rw [HE.out]; rfl, bel_drewS HBB.out _⟩
  have k2 : decide ((d.prods.length : Int) ≤ E.prod) = false := decide_eq_false h2
  by_cases h3 : ¬ (E.args.length : Int) = argN E.op
  · have HE := (show Hid _ from er_3 (d := d) (g := g) h3)
    clear hpd
    generalize erB d g E = R at *
    generalize argN E.op = AN at *
    have k3 : ((E.args.length : Int) != AN) = true := by simp [h3]
    go_enter Try.func32, Try.ntmps32
    go_wp2_with fail
    go_quiet ((go_at_call 60; refine Calls.quiet_of_same (HARG.out _)))
    go_wp2_with fail
    go_ret
    exact ⟨by rw [HE.out]; rfl, bel_drewS HBB.out _⟩
  have h3' : (E.args.length : Int) = argN E.op := Classical.not_not.1 h3
  have HER := (show Hid _ from er_4 (d := d) (g := g) (by omega) (by omega) h3')
  have k3 : ((E.args.length : Int) != argN E.op) = false := by rw [h3']; simp
  clear h3 h3'
  obtain ⟨i, hie⟩ : ∃ i : Nat, E.prod = (i : Int) := ⟨E.prod.toNat, by omega⟩
  have hil : i < d.prods.length := by omega
  obtain ⟨a, cap, b, off, sv, hv, hc, hm, ha, hcell, hr⟩ := hpd
  have hv1 : x4 = a := by injection hv
  have hv2 : x5 = cap := by injection hv
  subst hv1 hv2
  clear hv
  obtain ⟨ha1, _⟩ := ha (by omega)
  subst ha1
  unfold maxLen at hm
  obtain ⟨c0, c1, c2, c3, c4, _⟩ := hcell i hil
  have hrr := hr i hil
  obtain ⟨pa, pc, hpe, _⟩ := hrr.form
  rw [hpe] at c1 hrr
  have HP := (show Hid (pdN d E.prod = d.prods[i]) from by show _ = _; rw [hie, pdN_eq hil])
  rw [HP.out] at HER
  generalize hPP : d.prods[i] = P at *
  clear hPP hr hcell ha hpe HP
  have HRR := (show Hid (Ints w S P.right (.slice pa P.right.length pc)) from hrr); clear hrr
  rw [← HBB.out.cell (lt_of_cell c0)] at c0
  rw [← HBB.out.cell (lt_of_cell c1)] at c1
  rw [← HBB.out.cell (lt_of_cell c2)] at c2
  rw [← HBB.out.cell (lt_of_cell c3)] at c3
  rw [← HBB.out.cell (lt_of_cell c4)] at c4
  rw [hie] at k1 k2 p0 h1 h2
  have HST := (show Hid (∀ wq : World, Below w.heap.size w wq → Calls Try.prog 61 #[.agg #[.slice x0 d.terms.length x1, .slice x2 d.nons.length x3, .int .i64 d.own, .slice (some ⟨b, off, none⟩) d.prods.length x5, .slice y0 g.attrs.length y1, .slice y2 g.eqs.length y3], .agg #[.int .i64 P.left, .slice pa P.right.length pc, .string P.label, .int .i64 P.lev, .int .i64 P.asc], .int .i64 E.pos, .int .i64 E.attr] wq fun e w' => e = .returned (.bool (setB d g P E.pos E.attr)) ∧ Below wq.heap.size wq w') from
    fun wq hb => set61 d g P _ _ _ _ _ _ E.pos E.attr wq (HH.out.1.still hb) (HH.out.2.1.still hb) (HRR.out.still hb) hsm hT)
  have HAL := (show Hid (∀ (q p : Nat) (wq : World), Below w.heap.size w wq → Box wq q 76 [.slice x0 d.terms.length x1, .slice x2 d.nons.length x3, .int .i64 d.own, .slice (some ⟨b, off, none⟩) d.prods.length x5, .slice y0 g.attrs.length y1, .slice y2 g.eqs.length y3] → Box wq p 67 [.int .i64 P.left, .slice pa P.right.length pc, .string P.label, .int .i64 P.lev, .int .i64 P.asc] → Calls Try.prog 62 #[.slice ea E.args.length ec, .func (.func 63) #[] #[.pointer (some ⟨q, 0, none⟩), .pointer (some ⟨p, 0, none⟩)]] wq fun e w' => e = .returned (.bool (E.args.all (arB d g P))) ∧ Below wq.heap.size wq w') from
    fun q p wq hb b1 b2 => all62 d g P _ _ _ _ _ _ _ E.args q p wq (HH.out.1.still hb) (HH.out.2.1.still hb) (HRR.out.still hb) hsm hT b1 b2 (HH.out.2.2.still hb))
  clear HH HRR hsm hT
  rw [hie] at HBB HX q0 q1 q2 q3 q4 q5 p1 p2 p3 p4 c0 c1 c2 c3 c4
  generalize erB d g E = R at *
  generalize argN E.op = AN at *
  generalize setB d g P E.pos E.attr = A at *
  generalize E.args.all (arB d g P) = B at *
  rw [hie]
  clear hie
  go_enter Try.func32, Try.ntmps32
  go_wp2_with fail
  go_quiet ((go_at_call 60; refine Calls.quiet_of_same (HARG.out _)))
  have k2n : decide (d.prods.length ≤ i) = false := decide_eq_false (by omega)
  generalize hnq : nq = nq0
  clear hnq
  have hbq : Below w.heap.size w (((w.alloc (.cells #[.slice x0 d.terms.length x1, .slice x2 d.nons.length x3, .int .i64 d.own, .slice (some ⟨b, off, none⟩) d.prods.length x5, .slice y0 g.attrs.length y1, .slice y2 g.eqs.length y3] 76)).alloc (.cells #[.int .i64 (i : Int), .int .i64 E.pos, .int .i64 E.attr, .int .i64 E.op, .slice ea E.args.length ec] 59)).drewN nq0) := bel_drewS HBB.out nq0
  have hb3 : Below w.heap.size w ((((w.alloc (.cells #[.slice x0 d.terms.length x1, .slice x2 d.nons.length x3, .int .i64 d.own, .slice (some ⟨b, off, none⟩) d.prods.length x5, .slice y0 g.attrs.length y1, .slice y2 g.eqs.length y3] 76)).alloc (.cells #[.int .i64 (i : Int), .int .i64 E.pos, .int .i64 E.attr, .int .i64 E.op, .slice ea E.args.length ec] 59)).drewN nq0).alloc (.cells #[.int .i64 P.left, .slice pa P.right.length pc, .string P.label, .int .i64 P.lev, .int .i64 P.asc] 67)) := hbq.alloc hbq.size _
  have hb4 : Below (((w.alloc (.cells #[.slice x0 d.terms.length x1, .slice x2 d.nons.length x3, .int .i64 d.own, .slice (some ⟨b, off, none⟩) d.prods.length x5, .slice y0 g.attrs.length y1, .slice y2 g.eqs.length y3] 76)).alloc (.cells #[.int .i64 (i : Int), .int .i64 E.pos, .int .i64 E.attr, .int .i64 E.op, .slice ea E.args.length ec] 59)).drewN nq0).heap.size (((w.alloc (.cells #[.slice x0 d.terms.length x1, .slice x2 d.nons.length x3, .int .i64 d.own, .slice (some ⟨b, off, none⟩) d.prods.length x5, .slice y0 g.attrs.length y1, .slice y2 g.eqs.length y3] 76)).alloc (.cells #[.int .i64 (i : Int), .int .i64 E.pos, .int .i64 E.attr, .int .i64 E.op, .slice ea E.args.length ec] 59)).drewN nq0) ((((w.alloc (.cells #[.slice x0 d.terms.length x1, .slice x2 d.nons.length x3, .int .i64 d.own, .slice (some ⟨b, off, none⟩) d.prods.length x5, .slice y0 g.attrs.length y1, .slice y2 g.eqs.length y3] 76)).alloc (.cells #[.int .i64 (i : Int), .int .i64 E.pos, .int .i64 E.attr, .int .i64 E.op, .slice ea E.args.length ec] 59)).drewN nq0).alloc (.cells #[.int .i64 P.left, .slice pa P.right.length pc, .string P.label, .int .i64 P.lev, .int .i64 P.asc] 67)) := bel_alloc _ _
  have hsz : (((w.alloc (.cells #[.slice x0 d.terms.length x1, .slice x2 d.nons.length x3, .int .i64 d.own, .slice (some ⟨b, off, none⟩) d.prods.length x5, .slice y0 g.attrs.length y1, .slice y2 g.eqs.length y3] 76)).alloc (.cells #[.int .i64 (i : Int), .int .i64 E.pos, .int .i64 E.attr, .int .i64 E.op, .slice ea E.args.length ec] 59)).drewN nq0).heap.size = w.heap.size + 1 + 1 := by show ((w.alloc (.cells #[.slice x0 d.terms.length x1, .slice x2 d.nons.length x3, .int .i64 d.own, .slice (some ⟨b, off, none⟩) d.prods.length x5, .slice y0 g.attrs.length y1, .slice y2 g.eqs.length y3] 76)).alloc (.cells #[.int .i64 (i : Int), .int .i64 E.pos, .int .i64 E.attr, .int .i64 E.op, .slice ea E.args.length ec] 59)).heap.size = _; simp
  have b1 : Box ((((w.alloc (.cells #[.slice x0 d.terms.length x1, .slice x2 d.nons.length x3, .int .i64 d.own, .slice (some ⟨b, off, none⟩) d.prods.length x5, .slice y0 g.attrs.length y1, .slice y2 g.eqs.length y3] 76)).alloc (.cells #[.int .i64 (i : Int), .int .i64 E.pos, .int .i64 E.attr, .int .i64 E.op, .slice ea E.args.length ec] 59)).drewN nq0).alloc (.cells #[.int .i64 P.left, .slice pa P.right.length pc, .string P.label, .int .i64 P.lev, .int .i64 P.asc] 67)) w.heap.size 76 [.slice x0 d.terms.length x1, .slice x2 d.nons.length x3, .int .i64 d.own, .slice (some ⟨b, off, none⟩) d.prods.length x5, .slice y0 g.attrs.length y1, .slice y2 g.eqs.length y3] := (HX.out.1.keep (w' := ((w.alloc (.cells #[.slice x0 d.terms.length x1, .slice x2 d.nons.length x3, .int .i64 d.own, .slice (some ⟨b, off, none⟩) d.prods.length x5, .slice y0 g.attrs.length y1, .slice y2 g.eqs.length y3] 76)).alloc (.cells #[.int .i64 (i : Int), .int .i64 E.pos, .int .i64 E.attr, .int .i64 E.op, .slice ea E.args.length ec] 59)).drewN nq0) rfl).still hb4
  have b2 : Box ((((w.alloc (.cells #[.slice x0 d.terms.length x1, .slice x2 d.nons.length x3, .int .i64 d.own, .slice (some ⟨b, off, none⟩) d.prods.length x5, .slice y0 g.attrs.length y1, .slice y2 g.eqs.length y3] 76)).alloc (.cells #[.int .i64 (i : Int), .int .i64 E.pos, .int .i64 E.attr, .int .i64 E.op, .slice ea E.args.length ec] 59)).drewN nq0).alloc (.cells #[.int .i64 P.left, .slice pa P.right.length pc, .string P.label, .int .i64 P.lev, .int .i64 P.asc] 67)) (w.heap.size + 1) 59 [.int .i64 (i : Int), .int .i64 E.pos, .int .i64 E.attr, .int .i64 E.op, .slice ea E.args.length ec] := (HX.out.2.keep (w' := ((w.alloc (.cells #[.slice x0 d.terms.length x1, .slice x2 d.nons.length x3, .int .i64 d.own, .slice (some ⟨b, off, none⟩) d.prods.length x5, .slice y0 g.attrs.length y1, .slice y2 g.eqs.length y3] 76)).alloc (.cells #[.int .i64 (i : Int), .int .i64 E.pos, .int .i64 E.attr, .int .i64 E.op, .slice ea E.args.length ec] 59)).drewN nq0) rfl).still hb4
  have b3 := Box.new (((w.alloc (.cells #[.slice x0 d.terms.length x1, .slice x2 d.nons.length x3, .int .i64 d.own, .slice (some ⟨b, off, none⟩) d.prods.length x5, .slice y0 g.attrs.length y1, .slice y2 g.eqs.length y3] 76)).alloc (.cells #[.int .i64 (i : Int), .int .i64 E.pos, .int .i64 E.attr, .int .i64 E.op, .slice ea E.args.length ec] 59)).drewN nq0) 67 [.int .i64 P.left, .slice pa P.right.length pc, .string P.label, .int .i64 P.lev, .int .i64 P.asc]
  rw [hsz] at b3
  have HY := (show Hid (Below w.heap.size w ((((w.alloc (.cells #[.slice x0 d.terms.length x1, .slice x2 d.nons.length x3, .int .i64 d.own, .slice (some ⟨b, off, none⟩) d.prods.length x5, .slice y0 g.attrs.length y1, .slice y2 g.eqs.length y3] 76)).alloc (.cells #[.int .i64 (i : Int), .int .i64 E.pos, .int .i64 E.attr, .int .i64 E.op, .slice ea E.args.length ec] 59)).drewN nq0).alloc (.cells #[.int .i64 P.left, .slice pa P.right.length pc, .string P.label, .int .i64 P.lev, .int .i64 P.asc] 67)) ∧ Box ((((w.alloc (.cells #[.slice x0 d.terms.length x1, .slice x2 d.nons.length x3, .int .i64 d.own, .slice (some ⟨b, off, none⟩) d.prods.length x5, .slice y0 g.attrs.length y1, .slice y2 g.eqs.length y3] 76)).alloc (.cells #[.int .i64 (i : Int), .int .i64 E.pos, .int .i64 E.attr, .int .i64 E.op, .slice ea E.args.length ec] 59)).drewN nq0).alloc (.cells #[.int .i64 P.left, .slice pa P.right.length pc, .string P.label, .int .i64 P.lev, .int .i64 P.asc] 67)) w.heap.size 76 [.slice x0 d.terms.length x1, .slice x2 d.nons.length x3, .int .i64 d.own, .slice (some ⟨b, off, none⟩) d.prods.length x5, .slice y0 g.attrs.length y1, .slice y2 g.eqs.length y3] ∧ Box ((((w.alloc (.cells #[.slice x0 d.terms.length x1, .slice x2 d.nons.length x3, .int .i64 d.own, .slice (some ⟨b, off, none⟩) d.prods.length x5, .slice y0 g.attrs.length y1, .slice y2 g.eqs.length y3] 76)).alloc (.cells #[.int .i64 (i : Int), .int .i64 E.pos, .int .i64 E.attr, .int .i64 E.op, .slice ea E.args.length ec] 59)).drewN nq0).alloc (.cells #[.int .i64 P.left, .slice pa P.right.length pc, .string P.label, .int .i64 P.lev, .int .i64 P.asc] 67)) (w.heap.size + 1) 59 [.int .i64 (i : Int), .int .i64 E.pos, .int .i64 E.attr, .int .i64 E.op, .slice ea E.args.length ec] ∧ Box ((((w.alloc (.cells #[.slice x0 d.terms.length x1, .slice x2 d.nons.length x3, .int .i64 d.own, .slice (some ⟨b, off, none⟩) d.prods.length x5, .slice y0 g.attrs.length y1, .slice y2 g.eqs.length y3] 76)).alloc (.cells #[.int .i64 (i : Int), .int .i64 E.pos, .int .i64 E.attr, .int .i64 E.op, .slice ea E.args.length ec] 59)).drewN nq0).alloc (.cells #[.int .i64 P.left, .slice pa P.right.length pc, .string P.label, .int .i64 P.lev, .int .i64 P.asc] 67)) (w.heap.size + 1 + 1) 67 [.int .i64 P.left, .slice pa P.right.length pc, .string P.label, .int .i64 P.lev, .int .i64 P.asc]) from ⟨hb3, b1, b2, b3⟩)
  have HSC := (show Hid _ from HST.out _ hb3)
  clear b1 b2 b3 hb3 hb4 hbq HX HBB
  obtain ⟨q0, q1, q2, q3, q4, q5⟩ := box6 HY.out.2.1 (Below.refl _ _)
  obtain ⟨p0, p1, p2, p3, p4⟩ := box5 HY.out.2.2.1 (Below.refl _ _)
  obtain ⟨r0, r1, r2, r3, r4⟩ := box5 HY.out.2.2.2 (Below.refl _ _)
  go_wp2_with fail
  refine Calls.mono HSC.out ?_
  rintro e w5 ⟨rfl, hb5⟩
  have HZ := (show Hid (Below w.heap.size w w5 ∧ Box w5 w.heap.size 76 [.slice x0 d.terms.length x1, .slice x2 d.nons.length x3, .int .i64 d.own, .slice (some ⟨b, off, none⟩) d.prods.length x5, .slice y0 g.attrs.length y1, .slice y2 g.eqs.length y3] ∧ Box w5 (w.heap.size + 1) 59 [.int .i64 (i : Int), .int .i64 E.pos, .int .i64 E.attr, .int .i64 E.op, .slice ea E.args.length ec] ∧ Box w5 (w.heap.size + 1 + 1) 67 [.int .i64 P.left, .slice pa P.right.length pc, .string P.label, .int .i64 P.lev, .int .i64 P.asc]) from ⟨bel_trans HY.out.1 hb5, HY.out.2.1.still hb5, HY.out.2.2.1.still hb5, HY.out.2.2.2.still hb5⟩)
  clear hb5 HY HSC q0 q1 q2 q3 q4 q5 p0 p1 p2 p3 p4 r0 r1 r2 r3 r4 c0 c1 c2 c3 c4
  cases A
  · have HF := (show Hid (R = false) from HER.out)
    go_wp2_with fail
    go_ret
    exact ⟨ret_bool HF.out.symm, HZ.out.1⟩
  have HF := (show Hid (R = B) from HER.out)
  obtain ⟨p0, p1, p2, p3, p4⟩ := box5 HZ.out.2.2.1 (Below.refl _ _)
  go_wp2_with fail
  refine Calls.mono (HAL.out _ _ _ HZ.out.1 HZ.out.2.1 HZ.out.2.2.2) ?_
  rintro e w6 ⟨rfl, hb6⟩
  have HW := (show Hid _ from bel_trans HZ.out.1 hb6); clear hb6
  go_wp2_with fail
  go_ret
  exact ⟨ret_bool HF.out.symm, HW.out⟩
end Go.Proofs.Ytnmdgbnbnpibhaa
