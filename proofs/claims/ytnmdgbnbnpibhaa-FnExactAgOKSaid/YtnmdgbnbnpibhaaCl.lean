import Derived.Test.YtnmdgbnbnpibhaaCk
import Derived.Deep.RegionHeld3
/-! The program: what is needed has one Eq each. -/
namespace Go.Proofs.Ytnmdgbnbnpibhaa
open Go.RowKit Go.Deep Go.Maps Go.WideMaps Go.ChangeMaps
set_option linter.unusedVariables false
set_option maxRecDepth 100000
set_option linter.unusedSimpArgs false

theorem step_look {P : Program} (w : World) {ops : Array Oper} {o : Oper} {a : Act} {K : Act → World → Prop} {Q : Exit → Act → World → Prop} {E : Prop} (hgd : o.guard = none) (m x : Operand) (t : TypeId)
    (ho : o.op = .lookup t m x false) {mv kv v : Value} (hm : a.eval m = mv) (hx : a.eval x = kv) (hr : (Instr.lookup t mv kv false).run P w = .ok v w) (h : K (a.put o.dst v) w) :
    if Region.wanted o (yielded ops a.tmps) = true then Oper.wp P o a w K Q else E := by
  have hw : Region.wanted o (yielded ops a.tmps) = true := by simp [Region.wanted, hgd]
  rw [if_pos hw]
  unfold Oper.wp
  simp [execOp, ho, hm, hx, hr, Result.andThen]
  exact h
theorem step_entry {P : Program} (w : World) {ops : Array Oper} {o : Oper} {a : Act} {K : Act → World → Prop} {Q : Exit → Act → World → Prop} {E : Prop} (hgd : o.guard = none) (m x : Operand) (t : TypeId)
    (ho : o.op = .mapEntry t m x) {mv kv v : Value} {w' : World} (hm : a.eval m = mv) (hx : a.eval x = kv) (hr : (Instr.mapEntry t mv kv).run P w = .ok v w') (h : K (a.put o.dst v) w') :
    if Region.wanted o (yielded ops a.tmps) = true then Oper.wp P o a w K Q else E := by
  have hw : Region.wanted o (yielded ops a.tmps) = true := by simp [Region.wanted, hgd]
  rw [if_pos hw]
  unfold Oper.wp
  simp [execOp, ho, hm, hx, hr, Result.andThen]
  exact h
theorem step_estore {P : Program} (w : World) {ops : Array Oper} {o : Oper} {a : Act} {K : Act → World → Prop} {Q : Exit → Act → World → Prop} {E : Prop} (hgd : o.guard = none) (m s x : Operand) (t : TypeId)
    (ho : o.op = .entryStore t m s x) {mv sv xv : Value} {w' : World} (hm : a.eval m = mv) (hs : a.eval s = sv) (hx : a.eval x = xv) (hr : (Instr.entryStore t mv sv xv).run P w = .ok () w') (h : K (a.put o.dst undef) w') :
    if Region.wanted o (yielded ops a.tmps) = true then Oper.wp P o a w K Q else E := by
  have hw : Region.wanted o (yielded ops a.tmps) = true := by simp [Region.wanted, hgd]
  rw [if_pos hw]
  unfold Oper.wp
  simp [execOp, ho, hm, hs, hx, hr, Result.andThen]
  exact h
abbrev oM0 : Oper := { dst := some 19, op := Go.Op.move (Go.Operand.tmp 3), type := 117, pos := "l10_attributes.go:213", after := #[], guard := none }
abbrev oM1 : Oper := { dst := some 20, op := Go.Op.fieldAddr 59 (Go.Operand.tmp 5) 0, type := 0, pos := "l10_attributes.go:213", after := #[], guard := none }
abbrev oM2 : Oper := { dst := some 21, op := Go.Op.load 3 (Go.Operand.tmp 20), type := 3, pos := "l10_attributes.go:213", after := #[{ on := 1, ground := Go.Ground.data }], guard := none }
abbrev oM3 : Oper := { dst := some 22, op := Go.Op.fieldAddr 59 (Go.Operand.tmp 5) 1, type := 0, pos := "l10_attributes.go:213", after := #[], guard := none }
abbrev oM4 : Oper := { dst := some 23, op := Go.Op.load 3 (Go.Operand.tmp 22), type := 3, pos := "l10_attributes.go:213", after := #[{ on := 3, ground := Go.Ground.data }], guard := none }
abbrev oM5 : Oper := { dst := some 24, op := Go.Op.fieldAddr 59 (Go.Operand.tmp 5) 2, type := 0, pos := "l10_attributes.go:213", after := #[], guard := none }
abbrev oM6 : Oper := { dst := some 25, op := Go.Op.load 3 (Go.Operand.tmp 24), type := 3, pos := "l10_attributes.go:213", after := #[{ on := 5, ground := Go.Ground.data }], guard := none }
abbrev oM7 : Oper := { dst := some 26, op := Go.Op.build 119 #[(0, Go.Operand.tmp 21), (1, Go.Operand.tmp 23), (2, Go.Operand.tmp 25)], type := 119, pos := "l10_attributes.go:213", after := #[{ on := 2, ground := Go.Ground.data }, { on := 4, ground := Go.Ground.data }, { on := 6, ground := Go.Ground.data }], guard := none }
abbrev oM8 : Oper := { dst := some 27, op := Go.Op.lookup 117 (Go.Operand.tmp 19) (Go.Operand.tmp 26) false, type := 3, pos := "l10_attributes.go:213", after := #[{ on := 0, ground := Go.Ground.data }, { on := 7, ground := Go.Ground.data }], guard := none }
abbrev oM9 : Oper := { dst := some 28, op := Go.Op.binOp Go.BinOp.add 3 (Go.Operand.tmp 27) (Go.Operand.const (Go.Value.int Go.IntKind.i64 1)) 3, type := 3, pos := "l10_attributes.go:213", after := #[{ on := 8, ground := Go.Ground.data }], guard := none }
abbrev oM10 : Oper := { dst := some 29, op := Go.Op.mapEntry 117 (Go.Operand.tmp 19) (Go.Operand.tmp 26), type := 0, pos := "l10_attributes.go:213", after := #[{ on := 0, ground := Go.Ground.data }, { on := 7, ground := Go.Ground.data }, { on := 0, ground := Go.Ground.phase }, { on := 1, ground := Go.Ground.phase }, { on := 2, ground := Go.Ground.phase }, { on := 3, ground := Go.Ground.phase }, { on := 4, ground := Go.Ground.phase }, { on := 5, ground := Go.Ground.phase }, { on := 6, ground := Go.Ground.phase }, { on := 7, ground := Go.Ground.phase }, { on := 8, ground := Go.Ground.textOnly Go.Departure.mapOpAssignEntry }, { on := 9, ground := Go.Ground.textOnly Go.Departure.mapOpAssignEntry }], guard := none }
abbrev oM11 : Oper := { dst := some 30, op := Go.Op.extract (Go.Operand.tmp 29) 1, type := 3, pos := "l10_attributes.go:213", after := #[{ on := 10, ground := Go.Ground.data }], guard := none }
abbrev oM12 : Oper := { dst := none, op := Go.Op.entryStore 117 (Go.Operand.tmp 19) (Go.Operand.tmp 30) (Go.Operand.tmp 28), type := 0, pos := "l10_attributes.go:213", after := #[{ on := 0, ground := Go.Ground.data }, { on := 11, ground := Go.Ground.data }, { on := 9, ground := Go.Ground.data }, { on := 10, ground := Go.Ground.chain }, { on := 0, ground := Go.Ground.phase }, { on := 1, ground := Go.Ground.phase }, { on := 2, ground := Go.Ground.phase }, { on := 3, ground := Go.Ground.phase }, { on := 4, ground := Go.Ground.phase }, { on := 5, ground := Go.Ground.phase }, { on := 6, ground := Go.Ground.phase }, { on := 7, ground := Go.Ground.phase }, { on := 8, ground := Go.Ground.phase }, { on := 9, ground := Go.Ground.phase }, { on := 10, ground := Go.Ground.phase }, { on := 11, ground := Go.Ground.phase }], guard := none }
/-- How many of the first so many are for it. -/
def cF (g : DAg) (j : Nat) : Int → Int → Int → Nat := fun x i k => ((g.eqs.take j).filter (hitB x i k)).length
theorem cF_zero (g : DAg) : cF g 0 = fun _ _ _ => 0 := by funext x i k; simp [cF]
theorem cF_end (g : DAg) (x i k : Int) : cF g g.eqs.length x i k = cntE g x i k := by unfold cF cntE; rw [List.take_length]
theorem cF_le (g : DAg) (j : Nat) (x i k : Int) : cF g j x i k ≤ j := by
  unfold cF
  exact Nat.le_trans (List.length_filter_le _ _) (by simp; omega)
theorem cF_next {g : DAg} {j : Nat} (h : j < g.eqs.length) : cF g (j + 1) = addF (cF g j) g.eqs[j].prod g.eqs[j].pos g.eqs[j].attr := by
  funext x i k
  unfold addF
  have e0 : ∀ x i k, cF g (j + 1) x i k = cF g j x i k + (if hitB x i k g.eqs[j] = true then 1 else 0) := fun x i k => by
    unfold cF
    rw [List.take_succ_eq_append_getElem h, List.filter_append, List.length_append]
    congr 1
    by_cases e : hitB x i k g.eqs[j] = true
    · rw [if_pos e, List.filter_cons_of_pos e]; rfl
    · rw [if_neg e, List.filter_cons_of_neg e]; rfl
  rw [e0]
  by_cases e : x = g.eqs[j].prod ∧ i = g.eqs[j].pos ∧ k = g.eqs[j].attr
  · obtain ⟨rfl, rfl, rfl⟩ := e
    rw [if_pos (show hitB _ _ _ _ = true from by unfold hitB; simp), if_pos ⟨rfl, rfl, rfl⟩]
  · have h3 : ¬ hitB x i k g.eqs[j] = true := fun h2 => e (by
      unfold hitB at h2
      simp only [Bool.and_eq_true, decide_eq_true_eq] at h2
      exact ⟨h2.1.symm, h2.2.1.symm, h2.2.2.symm⟩)
    rw [if_neg h3, if_neg e]; rfl
/-- As the program asks. -/
def okB (d : Bn) (g : DAg) (p pos a : Nat) : Bool := !(setB d g (pdN d p) pos a && !decide (cntE g p pos a = 1))
def hoB (d : Bn) (g : DAg) : Bool := (List.range d.prods.length).all fun p => (List.range ((pdN d p).right.length + 1)).all fun pos => (List.range g.attrs.length).all fun a => okB d g p pos a
theorem ho_yes {d : Bn} {g : DAg} (h : ∀ p (hp : p < d.prods.length), ∀ pos, pos < d.prods[p].right.length + 1 → ∀ a, a < g.attrs.length → okB d g p pos a = true) : hoB d g = true := by
  unfold hoB
  rw [List.all_eq_true]; intro p hp; rw [List.all_eq_true]; intro pos hpos; rw [List.all_eq_true]; intro a ha
  have hp' := List.mem_range.1 hp
  rw [pdN_eq hp'] at hpos
  exact h p hp' pos (List.mem_range.1 hpos) a (List.mem_range.1 ha)
theorem ho_no {d : Bn} {g : DAg} {p pos a : Nat} (hp : p < d.prods.length) (hpos : pos < d.prods[p].right.length + 1) (ha : a < g.attrs.length) (h : okB d g p pos a = false) : hoB d g = false := by
  unfold hoB
  rw [List.all_eq_false]
  refine ⟨p, List.mem_range.2 hp, ?_⟩
  rw [Bool.not_eq_true, List.all_eq_false]
  refine ⟨pos, List.mem_range.2 (by rw [pdN_eq hp]; exact hpos), ?_⟩
  rw [Bool.not_eq_true, List.all_eq_false]
  exact ⟨a, List.mem_range.2 ha, by rw [h]; simp⟩
set_option maxHeartbeats 12800000 in
theorem one33 {S S' : Nat → Prop} (d : Bn) (g : DAg) (v0 v1 v3 u0 u1 : Value) (w : World) (h : BLies w S d v0 v1 v3) (hg : DAgL w S' g u0 u1) (hsm : ∀ i (hi : i < g.attrs.length), 0 ≤ g.attrs[i].non ∧ g.attrs[i].non ≤ 1000) (hT : d.terms.length ≤ 1000000)
    (hP : d.prods.length ≤ 120) (hR : ∀ p (hp : p < d.prods.length), d.prods[p].right.length ≤ 12) (hA : g.attrs.length ≤ 20) (hE : g.eqs.length ≤ 300) (hQ : ∀ i (hi : i < g.eqs.length), Sl g.eqs[i].prod ∧ Sl g.eqs[i].pos ∧ Sl g.eqs[i].attr) :
    Calls Try.prog 33 #[.agg #[v0, v1, .int .i64 d.own, v3, u0, u1]] w fun e w' => e = .returned (.bool (hoB d g)) ∧ Below w.heap.size w w' := by
  have HSET := (show Hid (∀ (P : Pd) (pv : Value) (pos a : Int) (wq : World), Below w.heap.size w wq → Ints w S P.right pv → Calls Try.prog 61 #[.agg #[v0, v1, .int .i64 d.own, v3, u0, u1], .agg #[.int .i64 P.left, pv, .string P.label, .int .i64 P.lev, .int .i64 P.asc], .int .i64 pos, .int .i64 a] wq fun e w' => e = .returned (.bool (setB d g P pos a)) ∧ Below wq.heap.size wq w') from
    fun P pv pos a wq hb hi => set61 d g P v0 v1 v3 u0 u1 pv pos a wq (h.still hb) (hg.still hb) (hi.still hb) hsm hT)
  have hpd := h.prods
  have hle := hg.eqs
  obtain ⟨x0, x1, x2, x3, x4, x5, rfl, rfl, rfl⟩ := h.form
  obtain ⟨y0, y1, y2, y3, rfl, rfl⟩ := hg.form
  clear h hg hsm hT
  obtain ⟨ae, cape, be, offe, s4, hve, hce, hme, hae, hcelle, here⟩ := hle
  have hv1 : y2 = ae := by injection hve
  have hv2 : y3 = cape := by injection hve
  subst hv1 hv2
  clear hve
  have HEC := (show Hid _ from hcelle); clear hcelle
  have HEA := (show Hid _ from hae); clear hae
  have HER := (show Hid _ from here); clear here
  obtain ⟨ap, capp, bp, offp, sv, hvp, hcp, hmp, hap, hcellp, hrp⟩ := hpd
  have hv1 : x4 = ap := by injection hvp
  have hv2 : x5 = capp := by injection hvp
  subst hv1 hv2
  clear hvp
  have HPC := (show Hid _ from hcellp); clear hcellp
  have HPA := (show Hid _ from hap); clear hap
  have HPR := (show Hid _ from hrp); clear hrp
  have HRL := (show Hid _ from hR); clear hR
  have HQ := (show Hid _ from hQ); clear hQ
  unfold maxLen at hme hmp
  have HYES := (show Hid _ from ho_yes (d := d) (g := g))
  have HNO := (show Hid (∀ (p pos a : Nat) (hp : p < d.prods.length), pos < d.prods[p].right.length + 1 → a < g.attrs.length → okB d g p pos a = false → hoB d g = false) from fun p pos a hp h1 h2 h3 => ho_no hp h1 h2 h3)
  generalize hoB d g = R at *
  have hmk := fun w => run_makeMap (P := Try.prog) 117 w
  have hb1 := bel_alloc w (.cells #[.slice x0 d.terms.length x1, .slice x2 d.nons.length x3, .int .i64 d.own, .slice x4 d.prods.length x5, .slice y0 g.attrs.length y1, .slice y2 g.eqs.length y3] 76)
  have hb2 : Below w.heap.size w ((w.alloc (.cells #[.slice x0 d.terms.length x1, .slice x2 d.nons.length x3, .int .i64 d.own, .slice x4 d.prods.length x5, .slice y0 g.attrs.length y1, .slice y2 g.eqs.length y3] 76)).alloc (.map #[] 0)) := bel_trans hb1 (bel_alloc _ _)
  have b1 := (Box.new w 76 [.slice x0 d.terms.length x1, .slice x2 d.nons.length x3, .int .i64 d.own, .slice x4 d.prods.length x5, .slice y0 g.attrs.length y1, .slice y2 g.eqs.length y3]).still (bel_alloc (w.alloc (.cells #[.slice x0 d.terms.length x1, .slice x2 d.nons.length x3, .int .i64 d.own, .slice x4 d.prods.length x5, .slice y0 g.attrs.length y1, .slice y2 g.eqs.length y3] 76)) (.map #[] 0))
  have m1 := Cm.new (w.alloc (.cells #[.slice x0 d.terms.length x1, .slice x2 d.nons.length x3, .int .i64 d.own, .slice x4 d.prods.length x5, .slice y0 g.attrs.length y1, .slice y2 g.eqs.length y3] 76))
  rw [show (w.alloc (.cells #[.slice x0 d.terms.length x1, .slice x2 d.nons.length x3, .int .i64 d.own, .slice x4 d.prods.length x5, .slice y0 g.attrs.length y1, .slice y2 g.eqs.length y3] 76)).heap.size = w.heap.size + 1 by simp] at m1
  have H0 := (show Hid (_ ∧ _ ∧ Cm ((w.alloc (.cells #[.slice x0 d.terms.length x1, .slice x2 d.nons.length x3, .int .i64 d.own, .slice x4 d.prods.length x5, .slice y0 g.attrs.length y1, .slice y2 g.eqs.length y3] 76)).alloc (.map #[] 0)) (w.heap.size + 1) 0 (cF g 0)) from ⟨hb2, b1, by rw [cF_zero]; exact m1⟩)
  clear hb1 hb2 b1 m1
  obtain ⟨q0, q1, q2, q3, q4, q5⟩ := box6 H0.out.2.1 (Below.refl _ _)
  go_enter Try.func33, Try.ntmps33
  go_wp2_with fail
  clear q0 q1 q2 q3 q4 q5
  go_loopw [15] (fun i wr => ∃ j : Nat, i = .int .i64 j ∧ j ≤ g.eqs.length ∧ Hid (Below w.heap.size w wr ∧ Box wr w.heap.size 76 [.slice x0 d.terms.length x1, .slice x2 d.nons.length x3, .int .i64 d.own, .slice x4 d.prods.length x5, .slice y0 g.attrs.length y1, .slice y2 g.eqs.length y3] ∧ Cm wr (w.heap.size + 1) j (cF g j))) (fun i _ => g.eqs.length - (intOf i).toNat)
  case atStart => exact ⟨0, rfl, Nat.zero_le _, H0⟩
  case round =>
    obtain ⟨w0, rfl⟩ : ∃ w0, w0 = wr := ⟨_, rfl⟩
    obtain ⟨j, rfl, hj, HW⟩ := hrel
    clear H0 hmk
    by_cases hjl : j < g.eqs.length
    · obtain ⟨ea, _⟩ := HEA.out (by omega)
      obtain ⟨c0, c1, c2, c3, c4⟩ := HEC.out j hjl
      have hbel := HW.out.1
      rw [← hbel.cell (lt_of_cell c0)] at c0
      rw [← hbel.cell (lt_of_cell c1)] at c1
      rw [← hbel.cell (lt_of_cell c2)] at c2
      rw [← hbel.cell (lt_of_cell c3)] at c3
      rw [← hbel.cell (lt_of_cell c4)] at c4
      have HCN := (show Hid _ from cF_next hjl)
      obtain ⟨sl0, sl1, sl2⟩ := HQ.out j hjl
      generalize g.eqs[j].prod = z0 at *
      generalize g.eqs[j].pos = z1 at *
      generalize g.eqs[j].attr = z2 at *
      generalize g.eqs[j].op = z3 at *
      obtain ⟨l, hkl⟩ := key119 sl0 sl1 sl2
      clear sl0 sl1 sl2
      have hfl : cF g j z0 z1 z2 ≤ j := cF_le g j z0 z1 z2
      subst ea
      clear HSET HPC HPA HPR HRL HQ HYES HNO
      obtain ⟨s4v, hs4⟩ : ∃ x, s4 j = x := ⟨_, rfl⟩
      rw [hs4] at c4
      obtain ⟨pa4, pl4, pc4, hs4f⟩ : ∃ a n c, s4v = .slice a n c := by
        rw [← hs4]
        obtain ⟨a, c, e, _⟩ := (HER.out j hjl).form
        exact ⟨_, _, _, e⟩
      clear hs4
      subst hs4f
      have hba : Below w0.heap.size w0 (w0.alloc (.cells #[.int .i64 z0, .int .i64 z1, .int .i64 z2, .int .i64 z3, .slice pa4 pl4 pc4] 59)).drew := (bel_alloc w0 (.cells #[.int .i64 z0, .int .i64 z1, .int .i64 z2, .int .i64 z3, .slice pa4 pl4 pc4] 59)).drew
      have hbw : Below w.heap.size w (w0.alloc (.cells #[.int .i64 z0, .int .i64 z1, .int .i64 z2, .int .i64 z3, .slice pa4 pl4 pc4] 59)).drew := bel_trans hbel hba
      have hbx := (Box.new w0 59 [.int .i64 z0, .int .i64 z1, .int .i64 z2, .int .i64 z3, .slice pa4 pl4 pc4]).keep (w' := (w0.alloc (.cells #[.int .i64 z0, .int .i64 z1, .int .i64 z2, .int .i64 z3, .slice pa4 pl4 pc4] 59)).drew) rfl
      have hcm : Cm (w0.alloc (.cells #[.int .i64 z0, .int .i64 z1, .int .i64 z2, .int .i64 z3, .slice pa4 pl4 pc4] 59)).drew (w.heap.size + 1) j (cF g j) := HW.out.2.2.keep (hba.block _ HW.out.2.2.lt)
      have hb6 := HW.out.2.1.still hba
      have hlt1 := HW.out.2.2.lt
      obtain ⟨st, w1, w3, u1, u2, u3, u4, k1, k3, cm3⟩ := hcm.bump (by unfold maxLen; omega) hkl (by omega)
      have HU := (show Hid (_ ∧ _ ∧ _ ∧ _) from ⟨u1, u2, u3, u4⟩)
      have hx3 := hbx.keep (k3.block _ hbx.lt (by omega))
      have hx1 := hbx.keep (k1.block _ hbx.lt (by omega))
      obtain ⟨e0, e1, e2, _, _⟩ := box5 hbx (Below.refl _ _)
      have HS0 := (show Hid ((w0.alloc (.cells #[.int .i64 z0, .int .i64 z1, .int .i64 z2, .int .i64 z3, .slice pa4 pl4 pc4] 59)).drew.cell? ⟨w0.heap.size, 0, none⟩ = some (.int .i64 z0) ∧ (w0.alloc (.cells #[.int .i64 z0, .int .i64 z1, .int .i64 z2, .int .i64 z3, .slice pa4 pl4 pc4] 59)).drew.cell? ⟨w0.heap.size, 1, none⟩ = some (.int .i64 z1) ∧ (w0.alloc (.cells #[.int .i64 z0, .int .i64 z1, .int .i64 z2, .int .i64 z3, .slice pa4 pl4 pc4] 59)).drew.cell? ⟨w0.heap.size, 2, none⟩ = some (.int .i64 z2)) from ⟨e0, e1, e2⟩)
      obtain ⟨e0, e1, e2, _, _⟩ := box5 hx1 (Below.refl _ _)
      have HS1 := (show Hid (w1.cell? ⟨w0.heap.size, 0, none⟩ = some (.int .i64 z0) ∧ w1.cell? ⟨w0.heap.size, 1, none⟩ = some (.int .i64 z1) ∧ w1.cell? ⟨w0.heap.size, 2, none⟩ = some (.int .i64 z2)) from ⟨e0, e1, e2⟩)
      obtain ⟨e0, e1, e2, _, _⟩ := box5 hx3 (Below.refl _ _)
      have HS3 := (show Hid (w3.cell? ⟨w0.heap.size, 0, none⟩ = some (.int .i64 z0) ∧ w3.cell? ⟨w0.heap.size, 1, none⟩ = some (.int .i64 z1) ∧ w3.cell? ⟨w0.heap.size, 2, none⟩ = some (.int .i64 z2)) from ⟨e0, e1, e2⟩)
      have HN := (show Hid (Below w.heap.size w w3 ∧ Box w3 w.heap.size 76 [.slice x0 d.terms.length x1, .slice x2 d.nons.length x3, .int .i64 d.own, .slice x4 d.prods.length x5, .slice y0 g.attrs.length y1, .slice (some ⟨be, offe, none⟩) g.eqs.length y3] ∧ Cm w3 (w.heap.size + 1) (j + 1) (cF g (j + 1))) from
        ⟨hbw.trans (k3.below (by omega) hbw.size), hb6.keep (k3.block _ hb6.lt (by omega)), by rw [HCN.out]; exact cm3⟩)
      have hwf : IntKind.i64.wrap ((cF g j z0 z1 z2 : Int) + 1) = (cF g j z0 z1 z2 : Int) + 1 := by rw [IntKind.wrap_i64]; omega
      clear u1 u2 u3 u4 k1 k3 cm3 hx1 hx3 e0 e1 e2 hbx hcm hb6 hbw hba hbel hkl HW HCN HEC HER
      generalize cF g j z0 z1 z2 = cn at *
      go_wp2_with fail
      refine wp_region_held_drew (S := fun wq => wq.cell? ⟨w0.heap.size, 0, none⟩ = some (.int .i64 z0) ∧ wq.cell? ⟨w0.heap.size, 1, none⟩ = some (.int .i64 z1) ∧ wq.cell? ⟨w0.heap.size, 2, none⟩ = some (.int .i64 z2)) (by kernel_rfl) HS0.out (fun hHeld => ?_)
      refine wpAnyH_take (i := 0) (oi := oM0) (v := ?v1) rfl (by kernel_rfl) (by kernel_rfl) (by kernel_rfl) (fun _ _ _ h => h) (Or.inl ⟨by rfl, ?h1⟩) hHeld ?r1
      case h1 => (intro w hSw; (try dsimp only at hSw); go_simp; try with_reducible rfl)
      try simp only [Act.put, List.setIfInBounds_toArray, List.set_cons_zero, List.set_cons_succ]
      refine wpAnyH_take (i := 1) (oi := oM1) (v := ?v2) rfl (by kernel_rfl) (by kernel_rfl) (by kernel_rfl) (fun _ _ _ h => h) (Or.inl ⟨by rfl, ?h2⟩) hHeld ?r2
      case h2 => (intro w hSw; (try dsimp only at hSw); go_simp; try with_reducible rfl)
      try simp only [Act.put, List.setIfInBounds_toArray, List.set_cons_zero, List.set_cons_succ]
      refine wpAnyH_take (i := 2) (oi := oM2) (v := ?v3) rfl (by kernel_rfl) (by kernel_rfl) (by kernel_rfl) (fun _ _ _ h => h) (Or.inl ⟨by rfl, ?h3⟩) hHeld ?r3
      case h3 => (intro w hSw; (try dsimp only at hSw); go_simp; try with_reducible rfl)
      try simp only [Act.put, List.setIfInBounds_toArray, List.set_cons_zero, List.set_cons_succ]
      refine wpAnyH_take (i := 3) (oi := oM3) (v := ?v4) rfl (by kernel_rfl) (by kernel_rfl) (by kernel_rfl) (fun _ _ _ h => h) (Or.inl ⟨by rfl, ?h4⟩) hHeld ?r4
      case h4 => (intro w hSw; (try dsimp only at hSw); go_simp; try with_reducible rfl)
      try simp only [Act.put, List.setIfInBounds_toArray, List.set_cons_zero, List.set_cons_succ]
      refine wpAnyH_take (i := 4) (oi := oM4) (v := ?v5) rfl (by kernel_rfl) (by kernel_rfl) (by kernel_rfl) (fun _ _ _ h => h) (Or.inl ⟨by rfl, ?h5⟩) hHeld ?r5
      case h5 => (intro w hSw; (try dsimp only at hSw); go_simp; try with_reducible rfl)
      try simp only [Act.put, List.setIfInBounds_toArray, List.set_cons_zero, List.set_cons_succ]
      refine wpAnyH_take (i := 5) (oi := oM5) (v := ?v6) rfl (by kernel_rfl) (by kernel_rfl) (by kernel_rfl) (fun _ _ _ h => h) (Or.inl ⟨by rfl, ?h6⟩) hHeld ?r6
      case h6 => (intro w hSw; (try dsimp only at hSw); go_simp; try with_reducible rfl)
      try simp only [Act.put, List.setIfInBounds_toArray, List.set_cons_zero, List.set_cons_succ]
      refine wpAnyH_take (i := 6) (oi := oM6) (v := ?v7) rfl (by kernel_rfl) (by kernel_rfl) (by kernel_rfl) (fun _ _ _ h => h) (Or.inl ⟨by rfl, ?h7⟩) hHeld ?r7
      case h7 => (intro w hSw; (try dsimp only at hSw); go_simp; try with_reducible rfl)
      try simp only [Act.put, List.setIfInBounds_toArray, List.set_cons_zero, List.set_cons_succ]
      refine wpAnyH_take (i := 7) (oi := oM7) (v := ?v8) rfl (by kernel_rfl) (by kernel_rfl) (by kernel_rfl) (fun _ _ _ h => h) (Or.inl ⟨by rfl, ?h8⟩) hHeld ?r8
      case h8 => (intro w hSw; (try dsimp only at hSw); go_simp; try with_reducible rfl)
      try simp only [Act.put, List.setIfInBounds_toArray, List.set_cons_zero, List.set_cons_succ]
      refine wpAnyH_ready (rs := [8, 10]) (by kernel_rfl) (by simp) ?_
      refine (AllReadyH.cons (o := oM8) rfl (fun K hK => ?yc10) (AllReadyH.cons (o := oM10) rfl (fun K hK => ?yc9) AllReadyH.nil))
      case yc10 =>
        refine step_look (P := Try.prog) _ rfl _ _ 117 rfl rfl rfl HU.out.2.1 ?_
        clear hHeld
        refine hK.out _ _ (HS0.out) (fun hHeld => ?_)
        clear hK K
        try simp only [Act.put, List.setIfInBounds_toArray, List.set_cons_zero, List.set_cons_succ]
        refine wpAnyH_take (i := 9) (oi := oM9) (v := ?v11) rfl (by kernel_rfl) (by kernel_rfl) (by kernel_rfl) (fun _ _ _ h => h) (Or.inl ⟨by rfl, ?h11⟩) hHeld ?r11
        case h11 => (intro w hSw; (try dsimp only at hSw); go_simp; try with_reducible rfl)
        try simp only [Act.put, List.setIfInBounds_toArray, List.set_cons_zero, List.set_cons_succ]
        refine wpAnyH_ready (rs := [10]) (by kernel_rfl) (by simp) ?_
        refine (AllReadyH.cons (o := oM10) rfl (fun K hK => ?_) AllReadyH.nil)
        refine step_entry (P := Try.prog) _ rfl _ _ 117 rfl rfl rfl HU.out.1 ?_
        clear hHeld
        refine hK.out _ _ (HS1.out) (fun hHeld => ?_)
        clear hK K
        try simp only [Act.put, List.setIfInBounds_toArray, List.set_cons_zero, List.set_cons_succ]
        refine wpAnyH_take (i := 11) (oi := oM11) (v := ?v12) rfl (by kernel_rfl) (by kernel_rfl) (by kernel_rfl) (fun _ _ _ h => h) (Or.inl ⟨by rfl, ?h12⟩) hHeld ?r12
        case h12 => (intro w hSw; (try dsimp only at hSw); go_simp; try with_reducible rfl)
        try simp only [Act.put, List.setIfInBounds_toArray, List.set_cons_zero, List.set_cons_succ]
        refine wpAnyH_ready (rs := [12]) (by kernel_rfl) (by simp) ?_
        refine (AllReadyH.cons (o := oM12) rfl (fun K hK => ?_) AllReadyH.nil)
        refine step_estore (P := Try.prog) _ rfl _ _ _ 117 rfl rfl rfl rfl HU.out.2.2.2 ?_
        clear hHeld
        refine hK.out _ _ (HS3.out) (fun hHeld => ?_)
        clear hK K
        try simp only [Act.put, List.setIfInBounds_toArray, List.set_cons_zero, List.set_cons_succ]
        refine wpAnyH_done (by kernel_rfl) ?_ _
        (try refine NoPanic.normal ?_)
        go_wp2_with fail
        exact ⟨⟨j + 1, by go_num, by omega, HN⟩, by simp [intOf]; omega⟩
      case yc9 =>
        refine step_entry (P := Try.prog) _ rfl _ _ 117 rfl rfl rfl HU.out.1 ?_
        clear hHeld
        refine hK.out _ _ (HS1.out) (fun hHeld => ?_)
        clear hK K
        try simp only [Act.put, List.setIfInBounds_toArray, List.set_cons_zero, List.set_cons_succ]
        refine wpAnyH_take (i := 11) (oi := oM11) (v := ?v13) rfl (by kernel_rfl) (by kernel_rfl) (by kernel_rfl) (fun _ _ _ h => h) (Or.inl ⟨by rfl, ?h13⟩) hHeld ?r13
        case h13 => (intro w hSw; (try dsimp only at hSw); go_simp; try with_reducible rfl)
        try simp only [Act.put, List.setIfInBounds_toArray, List.set_cons_zero, List.set_cons_succ]
        refine wpAnyH_ready (rs := [8]) (by kernel_rfl) (by simp) ?_
        refine (AllReadyH.cons (o := oM8) rfl (fun K hK => ?_) AllReadyH.nil)
        refine step_look (P := Try.prog) _ rfl _ _ 117 rfl rfl rfl HU.out.2.2.1 ?_
        clear hHeld
        refine hK.out _ _ (HS1.out) (fun hHeld => ?_)
        clear hK K
        try simp only [Act.put, List.setIfInBounds_toArray, List.set_cons_zero, List.set_cons_succ]
        refine wpAnyH_take (i := 9) (oi := oM9) (v := ?v14) rfl (by kernel_rfl) (by kernel_rfl) (by kernel_rfl) (fun _ _ _ h => h) (Or.inl ⟨by rfl, ?h14⟩) hHeld ?r14
        case h14 => (intro w hSw; (try dsimp only at hSw); go_simp; try with_reducible rfl)
        try simp only [Act.put, List.setIfInBounds_toArray, List.set_cons_zero, List.set_cons_succ]
        refine wpAnyH_ready (rs := [12]) (by kernel_rfl) (by simp) ?_
        refine (AllReadyH.cons (o := oM12) rfl (fun K hK => ?_) AllReadyH.nil)
        refine step_estore (P := Try.prog) _ rfl _ _ _ 117 rfl rfl rfl rfl HU.out.2.2.2 ?_
        clear hHeld
        refine hK.out _ _ (HS3.out) (fun hHeld => ?_)
        clear hK K
        try simp only [Act.put, List.setIfInBounds_toArray, List.set_cons_zero, List.set_cons_succ]
        refine wpAnyH_done (by kernel_rfl) ?_ _
        (try refine NoPanic.normal ?_)
        go_wp2_with fail
        exact ⟨⟨j + 1, by go_num, by omega, HN⟩, by simp [intOf]; omega⟩
    · obtain rfl : j = g.eqs.length := by omega
      clear HEC HEA HER HQ
      have HCE := (show Hid (∀ x i k, cF g g.eqs.length x i k = cntE g x i k) from cF_end g)
      obtain ⟨q0, q1, q2, q3, q4, q5⟩ := box6 HW.out.2.1 (Below.refl _ _)
      go_wp2_with fail
      clear q0 q1 q2 q3 q4 q5
      go_loopw [36] (fun i wx => ∃ p : Nat, i = .int .i64 p ∧ p ≤ d.prods.length ∧ Hid (∀ p' (hp : p' < d.prods.length), p' < p → ∀ pos, pos < d.prods[p'].right.length + 1 → ∀ a, a < g.attrs.length → okB d g p' pos a = true) ∧ Hid (Below w.heap.size w wx ∧ Box wx w.heap.size 76 [.slice x0 d.terms.length x1, .slice x2 d.nons.length x3, .int .i64 d.own, .slice x4 d.prods.length x5, .slice y0 g.attrs.length y1, .slice y2 g.eqs.length y3] ∧ Cm wx (w.heap.size + 1) g.eqs.length (cF g g.eqs.length))) (fun i _ => d.prods.length - (intOf i).toNat)
      case atStart => exact ⟨0, rfl, Nat.zero_le _, fun p' hp h => absurd h (Nat.not_lt_zero _), HW⟩
      case round =>
        obtain ⟨w2, rfl⟩ : ∃ w2, w2 = wr := ⟨_, rfl⟩
        obtain ⟨p, rfl, hp, HJ, HV⟩ := hrel
        clear HW
        by_cases hpl : p < d.prods.length
        · obtain ⟨eap, _⟩ := HPA.out (by omega)
          obtain ⟨c0, c1, c2, c3, c4, _⟩ := HPC.out p hpl
          have hbel := HV.out.1
          rw [← hbel.cell (lt_of_cell c0)] at c0
          rw [← hbel.cell (lt_of_cell c1)] at c1
          rw [← hbel.cell (lt_of_cell c2)] at c2
          rw [← hbel.cell (lt_of_cell c3)] at c3
          rw [← hbel.cell (lt_of_cell c4)] at c4
          have hint := HPR.out p hpl
          obtain ⟨pa, pc, hpe, _⟩ := hint.form
          rw [hpe] at c1 hint
          clear hpe
          have hr12 := HRL.out p hpl
          have HNX := (show Hid ((∀ pos, pos < d.prods[p].right.length + 1 → ∀ a, a < g.attrs.length → okB d g p pos a = true) → ∀ p' (hp : p' < d.prods.length), p' < p + 1 → ∀ pos, pos < d.prods[p'].right.length + 1 → ∀ a, a < g.attrs.length → okB d g p' pos a = true) from fun h p' hp' hlt pos h1 a h2 => by
            by_cases e : p' = p
            · subst e; exact h pos h1 a h2
            · exact HJ.out p' hp' (by omega) pos h1 a h2)
          have HNP := (show Hid (∀ pos a : Nat, pos < d.prods[p].right.length + 1 → a < g.attrs.length → okB d g p pos a = false → R = false) from fun pos a h1 h2 h3 => HNO.out p pos a hpl h1 h2 h3)
          have HOKB := (show Hid (∀ pos a : Nat, okB d g p pos a = !(setB d g d.prods[p] pos a && !decide (cntE g p pos a = 1))) from fun pos a => by unfold okB; rw [pdN_eq hpl])
          obtain ⟨P, hPP⟩ : ∃ P, P = d.prods[p] := ⟨_, rfl⟩
          rw [← hPP] at c0 c1 c2 c3 c4 hint hr12 HNX HNP HOKB
          clear hPP
          have HINT := (show Hid (Ints w S P.right (.slice pa P.right.length pc)) from hint); clear hint
          have hba := bel_alloc w2 (.cells #[.int .i64 P.left, .slice pa P.right.length pc, .string P.label, .int .i64 P.lev, .int .i64 P.asc] 67)
          have HY := (show Hid (_ ∧ Box _ w.heap.size 76 [.slice x0 d.terms.length x1, .slice x2 d.nons.length x3, .int .i64 d.own, .slice x4 d.prods.length x5, .slice y0 g.attrs.length y1, .slice y2 g.eqs.length y3] ∧ Cm (w2.alloc (.cells #[.int .i64 P.left, .slice pa P.right.length pc, .string P.label, .int .i64 P.lev, .int .i64 P.asc] 67)) (w.heap.size + 1) g.eqs.length (cF g g.eqs.length) ∧ Box _ w2.heap.size 67 [.int .i64 P.left, .slice pa P.right.length pc, .string P.label, .int .i64 P.lev, .int .i64 P.asc]) from
            ⟨bel_trans hbel hba, HV.out.2.1.still hba, HV.out.2.2.keep (hba.block _ HV.out.2.2.lt), Box.new w2 67 [.int .i64 P.left, .slice pa P.right.length pc, .string P.label, .int .i64 P.lev, .int .i64 P.asc]⟩)
          clear hba hbel HV HJ HNO HYES
          subst eap
          go_wp2_with fail
          clear c0 c1 c2 c3 c4
          go_loopw [45] (fun i wx => ∃ pos : Nat, i = .int .i64 pos ∧ pos ≤ P.right.length + 1 ∧ Hid (∀ pos', pos' < pos → ∀ a, a < g.attrs.length → okB d g p pos' a = true) ∧ Hid (Below w.heap.size w wx ∧ Box wx w.heap.size 76 [.slice x0 d.terms.length x1, .slice x2 d.nons.length x3, .int .i64 d.own, .slice (some ⟨bp, offp, none⟩) d.prods.length x5, .slice y0 g.attrs.length y1, .slice y2 g.eqs.length y3] ∧ Cm wx (w.heap.size + 1) g.eqs.length (cF g g.eqs.length) ∧ Box wx w2.heap.size 67 [.int .i64 P.left, .slice pa P.right.length pc, .string P.label, .int .i64 P.lev, .int .i64 P.asc])) (fun i _ => P.right.length + 1 - (intOf i).toNat)
          case atStart => exact ⟨0, rfl, Nat.zero_le _, fun p' h => absurd h (Nat.not_lt_zero _), HY⟩
          case round =>
            obtain ⟨pos, rfl, hpos, HJ3, HV3⟩ := hrel
            clear HY
            by_cases hposl : pos < P.right.length + 1
            · have hposi : (pos : Int) < (P.right.length : Int) + 1 := by omega
              have HN3 := (show Hid ((∀ a, a < g.attrs.length → okB d g p pos a = true) → ∀ pos', pos' < pos + 1 → ∀ a, a < g.attrs.length → okB d g p pos' a = true) from fun h p' hlt a h2 => by
                by_cases e : p' = pos
                · subst e; exact h a h2
                · exact HJ3.out p' (by omega) a h2)
              have HN4 := (show Hid (∀ a : Nat, a < g.attrs.length → okB d g p pos a = false → R = false) from fun a h2 h3 => HNP.out pos a hposl h2 h3)
              obtain ⟨q0, q1, q2, q3, q4, q5⟩ := box6 HV3.out.2.1 (Below.refl _ _)
              go_wp2_with fail
              clear q0 q1 q2 q3 q4 q5
              go_loopw [52] (fun i wx => ∃ a : Nat, i = .int .i64 a ∧ a ≤ g.attrs.length ∧ Hid (∀ a', a' < a → okB d g p pos a' = true) ∧ Hid (Below w.heap.size w wx ∧ Box wx w.heap.size 76 [.slice x0 d.terms.length x1, .slice x2 d.nons.length x3, .int .i64 d.own, .slice (some ⟨bp, offp, none⟩) d.prods.length x5, .slice y0 g.attrs.length y1, .slice y2 g.eqs.length y3] ∧ Cm wx (w.heap.size + 1) g.eqs.length (cF g g.eqs.length) ∧ Box wx w2.heap.size 67 [.int .i64 P.left, .slice pa P.right.length pc, .string P.label, .int .i64 P.lev, .int .i64 P.asc])) (fun i _ => g.attrs.length - (intOf i).toNat)
              case atStart => exact ⟨0, rfl, Nat.zero_le _, fun p' h => absurd h (Nat.not_lt_zero _), HV3⟩
              case round =>
                obtain ⟨a, rfl, ha, HJ4, HV4⟩ := hrel
                clear HV3 HJ3
                by_cases hal : a < g.attrs.length
                · have HT4 := (show Hid (okB d g p pos a = true → ∀ a', a' < a + 1 → okB d g p pos a' = true) from fun h p' hlt => by
                    by_cases e : p' = a
                    · subst e; exact h
                    · exact HJ4.out p' (by omega))
                  have HF4 := (show Hid (okB d g p pos a = false → R = false) from fun h => HN4.out a hal h)
                  have HOB := (show Hid _ from HOKB.out pos a)
                  have HSC := (show Hid _ from HSET.out P (.slice pa P.right.length pc) pos a wr HV4.out.1 HINT.out)
                  obtain ⟨l, hkl⟩ := key119 (x := (p : Int)) (i := (pos : Int)) (j := (a : Int)) ⟨by omega, by omega⟩ ⟨by omega, by omega⟩ ⟨by omega, by omega⟩
                  have HKL := (show Hid _ from hkl); clear hkl
                  obtain ⟨q0, q1, q2, q3, q4, q5⟩ := box6 HV4.out.2.1 (Below.refl _ _)
                  obtain ⟨r0, r1, r2, r3, r4⟩ := box5 HV4.out.2.2.2 (Below.refl _ _)
                  generalize okB d g p pos a = OB at *
                  generalize setB d g P pos a = A at *
                  go_wp2_with fail
                  refine Calls.mono HSC.out ?_
                  rintro e w5 ⟨rfl, hb5⟩
                  have HV5 := (show Hid (Below w.heap.size w w5 ∧ Box w5 w.heap.size 76 [.slice x0 d.terms.length x1, .slice x2 d.nons.length x3, .int .i64 d.own, .slice (some ⟨bp, offp, none⟩) d.prods.length x5, .slice y0 g.attrs.length y1, .slice y2 g.eqs.length y3] ∧ Cm w5 (w.heap.size + 1) g.eqs.length (cF g g.eqs.length) ∧ Box w5 w2.heap.size 67 [.int .i64 P.left, .slice pa P.right.length pc, .string P.label, .int .i64 P.lev, .int .i64 P.asc]) from
                    ⟨bel_trans HV4.out.1 hb5, HV4.out.2.1.still hb5, HV4.out.2.2.1.keep (hb5.block _ HV4.out.2.2.1.lt), HV4.out.2.2.2.still hb5⟩)
                  clear hb5 HV4 HSC q0 q1 q2 q3 q4 q5 r0 r1 r2 r3 r4
                  cases A
                  · have HT := (show Hid _ from HT4.out (by rw [HOB.out]; rfl))
                    go_wp2_with fail
                    exact ⟨⟨a + 1, by go_num, by omega, HT, HV5⟩, by simp [intOf]; omega⟩
                  have hlk := HV5.out.2.2.1.look HKL.out
                  rw [HCE.out] at hlk
                  generalize cntE g p pos a = cn at *
                  unfold kv3 at hlk
                  by_cases hcn : cn = 1
                  · have HT := (show Hid _ from HT4.out (by rw [HOB.out, hcn]; rfl))
                    subst hcn
                    go_wp2_with fail
                    exact ⟨⟨a + 1, by go_num, by omega, HT, HV5⟩, by simp [intOf]; omega⟩
                  · have HF := (show Hid (R = false) from HF4.out (by rw [HOB.out, decide_eq_false hcn]; rfl))
                    have hcn' : ¬ (cn : Int) = 1 := by omega
                    have hcb : ((cn : Int) != 1) = true := by simp; omega
                    clear hcn
                    go_wp2_with fail
                    go_ret
                    exact ⟨ret_bool HF.out.symm, HV5.out.1⟩
                · have HT := (show Hid _ from HN3.out (fun a' ha' => HJ4.out a' (by omega)))
                  go_wp2_with fail
                  exact ⟨⟨pos + 1, by go_num, by omega, HT, HV4⟩, by simp [intOf]; omega⟩
            · have hposi : ¬ (pos : Int) < (P.right.length : Int) + 1 := by omega
              have HT := (show Hid _ from HNX.out (fun pos' h1 a h2 => HJ3.out pos' (by omega) a h2))
              have HV6 := (show Hid (_ ∧ _ ∧ _) from ⟨HV3.out.1, HV3.out.2.1, HV3.out.2.2.1⟩)
              go_wp2_with fail
              exact ⟨⟨p + 1, by go_num, by omega, HT, HV6⟩, by simp [intOf]; omega⟩
        · have HF := (show Hid (R = true) from HYES.out (fun p' hp' => HJ.out p' hp' (by omega)))
          go_wp2_with fail
          go_ret
          exact ⟨ret_bool HF.out.symm, HV.out.1⟩
end Go.Proofs.Ytnmdgbnbnpibhaa
