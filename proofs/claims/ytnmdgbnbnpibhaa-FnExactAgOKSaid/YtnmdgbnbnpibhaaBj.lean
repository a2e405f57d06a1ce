import Derived.Test.YtnmdgbnbnpibhaaBi
import Derived.Deep.RegionHeld3
import Derived.BigQuiet
import Derived.Deep.QuietTactic
/-! The specification: AgOK where attributes and Eqs are right by themselves. -/
namespace Go.Proofs.Ytnmdgbnbnpibhaa
open Go.RowKit Go.Deep
set_option linter.unusedVariables false
set_option maxRecDepth 100000
set_option linter.unusedSimpArgs false

theorem eq_all {d : Bn} {g : DAg} {e : DEq} (h : eqB d g e = true) : hasB d g e.prod e.pos e.attr = true ∧ ((atN g e.attr).down == decide (e.pos = 0)) = false ∧ argN e.op = (e.args.length : Int) ∧ ∀ k (hk : k < e.args.length), argB d g e.prod e.args[k] = true := by
  refine ⟨?_, ?_, ?_, fun k hk => ?_⟩
  · cases x : hasB d g e.prod e.pos e.attr
    · rw [eq_no_has x] at h; exact h
    · rfl
  · cases x : ((atN g e.attr).down == decide (e.pos = 0))
    · rfl
    · rw [eq_no_dn x] at h; exact h.symm
  · exact Classical.byContradiction fun x => by rw [eq_no_n x] at h; exact absurd h (by simp)
  · cases x : argB d g e.prod e.args[k]
    · rw [eq_no_arg k hk x] at h; exact h
    · rfl
theorem bn_right {d : Bn} (h : bnB d = true) (i : Nat) (hi : i < d.prods.length) : d.prods[i].right.length ≤ 12 := by
  unfold bnB at h
  simp only [Bool.and_eq_true] at h
  have := List.all_eq_true.1 h.2.2.2 d.prods[i] (List.getElem_mem hi)
  unfold pdB at this
  simp only [Bool.and_eq_true, decide_eq_true_eq] at this
  exact this.2.1
theorem onc_has {d : Bn} {g : DAg} {p pos a : Nat} (h : hasB d g p pos a = false) : oncB d g p pos a = true := by unfold oncB; rw [h]; rfl
theorem onc_dn {d : Bn} {g : DAg} {p pos a : Nat} (ha : a < g.attrs.length) (h : (g.attrs[a].down == decide ((pos : Int) = 0)) = true) : oncB d g p pos a = true := by unfold oncB; rw [atN_eq ha, h]; simp
theorem onc_one {d : Bn} {g : DAg} {p pos a : Nat} (h : cntE g p pos a = 1) : oncB d g p pos a = true := by unfold oncB; rw [decide_eq_true h]; simp
theorem onc_no {d : Bn} {g : DAg} {p pos a : Nat} (ha : a < g.attrs.length) (h1 : hasB d g p pos a = true) (h2 : (g.attrs[a].down == decide ((pos : Int) = 0)) = false) (h3 : ¬ cntE g p pos a = 1) : oncB d g p pos a = false := by unfold oncB; rw [atN_eq ha, h1, h2, decide_eq_false h3]; rfl
set_option maxHeartbeats 6400000 in
theorem ag6_onc {S S' : Nat → Prop} (d : Bn) (g : DAg) (v0 v1 v3 u0 u1 : Value) (w : World) (h : BLies w S d v0 v1 v3) (hg : DAgL w S' g u0 u1) (hbn : bnB d = true) (hA : g.attrs.length ≤ 20) (hE : g.eqs.length ≤ 300) (hat : ∀ i, i < g.attrs.length → attB d g i = true) (heq : ∀ i (hi : i < g.eqs.length), eqB d g g.eqs[i] = true) :
    Calls Try.prog 6 #[.agg #[v0, v1, .int .i64 d.own, v3], .agg #[u0, u1]] w fun e w' => e = .returned (.bool (agB d g)) ∧ Below w.heap.size w w' := by
  obtain ⟨x0, x1, x2, x3, x4, x5, rfl, rfl, rfl⟩ := h.form
  obtain ⟨y0, y1, y2, y3, rfl, rfl⟩ := hg.form
  obtain ⟨dT, dN, dP⟩ := bn_is hbn
  have hb2 : Below w.heap.size w ((w.alloc (.cells #[.slice x0 d.terms.length x1, .slice x2 d.nons.length x3, .int .i64 d.own, .slice x4 d.prods.length x5] 37)).alloc (.cells #[.slice y0 g.attrs.length y1, .slice y2 g.eqs.length y3] 42)) := bel_trans (bel_alloc _ _) (bel_alloc _ _)
  have hs1 : (w.alloc (.cells #[.slice x0 d.terms.length x1, .slice x2 d.nons.length x3, .int .i64 d.own, .slice x4 d.prods.length x5] 37)).heap.size = w.heap.size + 1 := by simp
  have B4 := (Box.new w 37 [.slice x0 d.terms.length x1, .slice x2 d.nons.length x3, .int .i64 d.own, .slice x4 d.prods.length x5]).still (bel_alloc (w.alloc (.cells #[.slice x0 d.terms.length x1, .slice x2 d.nons.length x3, .int .i64 d.own, .slice x4 d.prods.length x5] 37)) (.cells #[.slice y0 g.attrs.length y1, .slice y2 g.eqs.length y3] 42))
  have B5 := Box.new (w.alloc (.cells #[.slice x0 d.terms.length x1, .slice x2 d.nons.length x3, .int .i64 d.own, .slice x4 d.prods.length x5] 37)) 42 [.slice y0 g.attrs.length y1, .slice y2 g.eqs.length y3]
  rw [hs1] at B5
  have HQ := (show Hid (∀ wq : World, Below ((w.alloc (.cells #[.slice x0 d.terms.length x1, .slice x2 d.nons.length x3, .int .i64 d.own, .slice x4 d.prods.length x5] 37)).alloc (.cells #[.slice y0 g.attrs.length y1, .slice y2 g.eqs.length y3] 42)).heap.size ((w.alloc (.cells #[.slice x0 d.terms.length x1, .slice x2 d.nons.length x3, .int .i64 d.own, .slice x4 d.prods.length x5] 37)).alloc (.cells #[.slice y0 g.attrs.length y1, .slice y2 g.eqs.length y3] 42)) wq → wq.cell? ⟨w.heap.size, 0, none⟩ = some (.slice x0 d.terms.length x1) ∧ wq.cell? ⟨w.heap.size, 1, none⟩ = some (.slice x2 d.nons.length x3) ∧ wq.cell? ⟨w.heap.size, 2, none⟩ = some (.int .i64 d.own) ∧ wq.cell? ⟨w.heap.size, 3, none⟩ = some (.slice x4 d.prods.length x5) ∧ wq.cell? ⟨w.heap.size + 1, 0, none⟩ = some (.slice y0 g.attrs.length y1) ∧ wq.cell? ⟨w.heap.size + 1, 1, none⟩ = some (.slice y2 g.eqs.length y3)) from fun wq hq => ⟨(B4.still hq).cell 0 (by simp), (B4.still hq).cell 1 (by simp), (B4.still hq).cell 2 (by simp), (B4.still hq).cell 3 (by simp), (B5.still hq).cell 0 (by simp), (B5.still hq).cell 1 (by simp)⟩)
  obtain ⟨q0, q1, q2, q3, r0, r1⟩ := HQ.out _ (Below.refl _ _)
  have HBB := (show Hid (Below w.heap.size w ((w.alloc (.cells #[.slice x0 d.terms.length x1, .slice x2 d.nons.length x3, .int .i64 d.own, .slice x4 d.prods.length x5] 37)).alloc (.cells #[.slice y0 g.attrs.length y1, .slice y2 g.eqs.length y3] 42))) from hb2)
  have HBN := (show Hid (Calls Try.prog 17 #[.agg #[.slice x0 d.terms.length x1, .slice x2 d.nons.length x3, .int .i64 d.own, .slice x4 d.prods.length x5]] ((w.alloc (.cells #[.slice x0 d.terms.length x1, .slice x2 d.nons.length x3, .int .i64 d.own, .slice x4 d.prods.length x5] 37)).alloc (.cells #[.slice y0 g.attrs.length y1, .slice y2 g.eqs.length y3] 42)) fun e w' => e = .returned (.bool (bnB d)) ∧ Below ((w.alloc (.cells #[.slice x0 d.terms.length x1, .slice x2 d.nons.length x3, .int .i64 d.own, .slice x4 d.prods.length x5] 37)).alloc (.cells #[.slice y0 g.attrs.length y1, .slice y2 g.eqs.length y3] 42)).heap.size ((w.alloc (.cells #[.slice x0 d.terms.length x1, .slice x2 d.nons.length x3, .int .i64 d.own, .slice x4 d.prods.length x5] 37)).alloc (.cells #[.slice y0 g.attrs.length y1, .slice y2 g.eqs.length y3] 42)) w') from sBnf_any d _ _ _ ((w.alloc (.cells #[.slice x0 d.terms.length x1, .slice x2 d.nons.length x3, .int .i64 d.own, .slice x4 d.prods.length x5] 37)).alloc (.cells #[.slice y0 g.attrs.length y1, .slice y2 g.eqs.length y3] 42)) (h.still hb2))
  have HT1 := (show Hid (∀ (x y z : Int) (wq : World), Calls Try.prog 18 #[.int .i64 x, .int .i64 y, .int .i64 z] wq fun e w' => e = .returned (.bool (wiB x y z)) ∧ w' = wq) from fun x y z wq => between_any x y z wq)
  have HT2 := (show Hid (∀ (s : ByteArray) (_ : s.size ≤ maxLen) (wq : World), Calls Try.prog 19 #[.string s] wq fun e w' => e = .returned (.bool (nmB s)) ∧ w' = wq) from fun s hs wq => sName s hs wq)
  rw [hbn] at HBN
  have HAT := (show Hid _ from fun i hi => att_all hi (hat i hi))
  have hsm : ∀ i (hi : i < g.attrs.length), 0 ≤ g.attrs[i].non ∧ g.attrs[i].non ≤ 1000 := fun i hi => att_non hi dN (hat i hi)
  have HHA := (show Hid (∀ (p pos x : Int) (wq : World), Below w.heap.size w wq → Calls Try.prog 20 #[.agg #[.slice x0 d.terms.length x1, .slice x2 d.nons.length x3, .int .i64 d.own, .slice x4 d.prods.length x5], .agg #[.slice y0 g.attrs.length y1, .slice y2 g.eqs.length y3], .int .i64 p, .int .i64 pos, .int .i64 x] wq fun e w' => e = .returned (.bool (hasB d g p pos x)) ∧ Below wq.heap.size wq w') from fun p pos x wq hq => has20 d g _ _ _ _ _ p pos x wq (h.still hq) (hg.still hq) hsm (by omega))
  have HAR := (show Hid (∀ (p : Int) (r : DRef) (wq : World), Below w.heap.size w wq → Calls Try.prog 22 #[.agg #[.slice x0 d.terms.length x1, .slice x2 d.nons.length x3, .int .i64 d.own, .slice x4 d.prods.length x5], .agg #[.slice y0 g.attrs.length y1, .slice y2 g.eqs.length y3], .int .i64 p, .agg #[.int .i64 r.pos, .int .i64 r.attr, .int .i64 r.n]] wq fun e w' => e = .returned (.bool (argB d g p r)) ∧ Below wq.heap.size wq w') from fun p r wq hq => arg22 d g _ _ _ _ _ p r wq (h.still hq) (hg.still hq) hsm (by omega))
  have HEL := (show Hid (EqR w S' g.eqs (.slice y2 g.eqs.length y3)) from hg.eqs)
  clear hsm
  have HEQ := (show Hid _ from fun i hi => eq_all (heq i hi))
  have H23 := (show Hid (∀ (p pos x : Int) (wq : World), Below w.heap.size w wq → Calls Try.prog 23 #[.agg #[.slice y0 g.attrs.length y1, .slice y2 g.eqs.length y3], .int .i64 p, .int .i64 pos, .int .i64 x] wq fun e w' => (∃ z : Int, e = .returned (.tuple #[.int .i64 z, .int .i64 (cntE g p pos x : Nat)])) ∧ Below wq.heap.size wq w') from fun p pos x wq hq => eq23 g _ _ p pos x wq (hg.still hq))
  have HPL := (show Hid _ from h.prods)
  have HRB := (show Hid _ from bn_right hbn)
  have HYS := (show Hid ((∀ p pos a : Nat, p < d.prods.length → pos ≤ (pdN d p).right.length → a < g.attrs.length → oncB d g p pos a = true) → agB d g = true) from fun h5 => ag_yes hbn hA hE hat heq h5)
  clear heq hat
  obtain ⟨a, cap, b, off, hv, hc, hm, ha, hcell⟩ := hg.attrs
  simp only [Value.slice.injEq] at hv
  obtain ⟨rfl, _, rfl⟩ := hv
  have HA := (show Hid _ from ha)
  have HC := (show Hid _ from hcell)
  clear B4 B5 hb2 hs1 h hg ha hcell hbn
  go_enter Try.func6, Try.ntmps6
  go_wp2_with fail
  refine Calls.mono HBN.out ?_
  rintro e w2 ⟨rfl, hb2⟩
  clear q0 q1 q2 q3 r0 r1 HBN
  obtain ⟨q0, q1, q2, q3, r0, r1⟩ := HQ.out _ hb2
  go_wp2_with fail
  clear q0 q1 q2 q3 r0 r1
  generalize ((w.alloc (.cells #[.slice x0 d.terms.length x1, .slice x2 d.nons.length x3, .int .i64 d.own, .slice x4 d.prods.length x5] 37)).alloc (.cells #[.slice y0 g.attrs.length y1, .slice y2 g.eqs.length y3] 42)) = W at *
  go_loopw [5, 7] (fun i k wr => ∃ j : Nat, i = .int .i64 j ∧ j ≤ g.attrs.length ∧ Below W.heap.size W wr) (fun i _ _ => g.attrs.length - (intOf i).toNat)
  case atStart => exact ⟨0, rfl, Nat.zero_le _, hb2⟩
  case round =>
    clear hb2
    obtain ⟨j, rfl, hj, hbel⟩ := hrel
    obtain ⟨q0, q1, q2, q3, r0, r1⟩ := HQ.out _ hbel
    have HBW := (show Hid (Below w.heap.size w wr) from bel_trans HBB.out hbel)
    by_cases hlt : j < g.attrs.length
    · obtain ⟨rfl, _⟩ := HA.out (by omega)
      obtain ⟨c0, c1, c2, hs⟩ := HC.out j hlt
      rw [← HBW.out.cell (lt_of_cell c0)] at c0
      rw [← HBW.out.cell (lt_of_cell c1)] at c1
      rw [← HBW.out.cell (lt_of_cell c2)] at c2
      have i1 : (0 : Int) ≤ (j : Int) := by omega
      have i2 : (j : Int) < (g.attrs.length : Int) := by omega
      have HN1 := (show Hid _ from fun wq => HT1.out g.attrs[j].non 0 ((d.nons.length : Int) - 1) wq)
      have HN2 := (show Hid _ from fun wq => HT2.out g.attrs[j].name hs wq)
      obtain ⟨_, q1', _, _, _, _⟩ := HQ.out _ (bel_trans hbel (bel_alloc wr (.cells #[.int .i64 g.attrs[j].non, .string g.attrs[j].name, .bool g.attrs[j].down] 54)))
      have HBX := (show Hid (∀ o, Below w.heap.size w (wr.alloc o)) from fun o => bel_trans HBW.out (bel_alloc _ _))
      obtain ⟨hw, hn, hsame⟩ := HAT.out j hlt
      have HY := (show Hid _ from hsame)
      rw [hw] at HN1
      rw [hn] at HN2
      clear hw hn hsame
      go_wp2_with fail
      refine Calls.mono (HN1.out _) ?_
      rintro e w3 ⟨rfl, rfl⟩
      go_wp2_with fail
      refine Calls.mono (HN2.out _) ?_
      rintro e w3 ⟨rfl, rfl⟩
      go_wp2_with fail
      clear q0 q1 q1' q2 q3 r0 r1 c0 c1 c2 HN1 HN2
      have hbl : Below W.heap.size W (wr.alloc (.cells #[.int .i64 g.attrs[j].non, .string g.attrs[j].name, .bool g.attrs[j].down] 54)) := bel_trans hbel (bel_alloc _ _)
      have HV := (show Hid (∀ wq : World, Below (wr.alloc (.cells #[.int .i64 g.attrs[j].non, .string g.attrs[j].name, .bool g.attrs[j].down] 54)).heap.size (wr.alloc (.cells #[.int .i64 g.attrs[j].non, .string g.attrs[j].name, .bool g.attrs[j].down] 54)) wq → wq.cell? ⟨wr.heap.size, 0, none⟩ = some (.int .i64 g.attrs[j].non) ∧ wq.cell? ⟨wr.heap.size, 1, none⟩ = some (.string g.attrs[j].name)) from fun wq hq => ⟨((Box.new wr 54 [.int .i64 g.attrs[j].non, .string g.attrs[j].name, .bool g.attrs[j].down]).still hq).cell 0 (by simp), ((Box.new wr 54 [.int .i64 g.attrs[j].non, .string g.attrs[j].name, .bool g.attrs[j].down]).still hq).cell 1 (by simp)⟩)
      generalize hW1 : wr.alloc (.cells #[.int .i64 g.attrs[j].non, .string g.attrs[j].name, .bool g.attrs[j].down] 54) = W1 at *
      have HL := (show Hid (Below W.heap.size W W1) from hbl)
      clear hbl hbel hW1 HBX HBW
      go_loopw [7] (fun i wq => ∃ k : Nat, i = .int .i64 k ∧ k ≤ j ∧ Below W1.heap.size W1 wq) (fun i _ => j - (intOf i).toNat)
      case atStart => exact ⟨0, rfl, Nat.zero_le _, Below.refl _ _⟩
      case round =>
        obtain ⟨k, rfl, hk, hbq⟩ := hrel
        have hbw : Below W.heap.size W wr := bel_trans HL.out hbq
        obtain ⟨q0, q1, q2, q3, r0, r1⟩ := HQ.out _ hbw
        obtain ⟨s0, s1⟩ := HV.out _ hbq
        have HB1 := (show Hid (∀ m, Below W1.heap.size W1 (wr.drewN m)) from fun m => bel_drewS hbq m)
        by_cases hkj : k < j
        · have hkl : k < g.attrs.length := by omega
          obtain ⟨c0, c1, c2, hs2⟩ := HC.out k hkl
          rw [← (bel_trans HBB.out hbw).cell (lt_of_cell c0)] at c0
          rw [← (bel_trans HBB.out hbw).cell (lt_of_cell c1)] at c1
          clear c2 hbw
          have k1 : (0 : Int) ≤ (k : Int) := by omega
          have k2 : (k : Int) < (g.attrs.length : Int) := by omega
          by_cases he : g.attrs[k].non = g.attrs[j].non
          · have hbe := ne_bytes (fun e2 => HY.out k hkj ⟨he, e2⟩)
            rw [he] at c0
            clear he
            go_wp2_with fail
            go_quiet (fail)
            go_wp2_with fail
            exact ⟨⟨k + 1, by go_num, by omega, HB1.out _⟩, by simp [intOf]; omega⟩
          · have hbe : (g.attrs[k].non == g.attrs[j].non) = false := by simpa using he
            clear he
            go_wp2_with fail
            go_quiet (fail)
            go_wp2_with fail
            exact ⟨⟨k + 1, by go_num, by omega, HB1.out _⟩, by simp [intOf]; omega⟩
        · have hkj' : k = j := by omega
          have HW := (show Hid (Below W.heap.size W wr) from hbw)
          clear hkj' hbw
          go_wp2_with fail
          exact ⟨⟨j + 1, by go_num, by omega, HW.out⟩, by simp [intOf]; omega⟩
    · have HW1 := (show Hid (Below W.heap.size W wr) from hbel)
      clear HBW
      go_wp2_with fail
      clear q0 q1 q2 q3 r0 r1 hbel
      go_loopw [8] (fun i wr => ∃ j : Nat, i = .int .i64 j ∧ j ≤ g.eqs.length ∧ Below W.heap.size W wr) (fun i _ => g.eqs.length - (intOf i).toNat)
      case atStart => exact ⟨0, rfl, Nat.zero_le _, HW1.out⟩
      case round =>
        clear HW1
        obtain ⟨j, rfl, hj, hbel⟩ := hrel
        obtain ⟨q0, q1, q2, q3, r0, r1⟩ := HQ.out _ hbel
        have HBW := (show Hid (Below w.heap.size w wr) from bel_trans HBB.out hbel)
        by_cases hlt : j < g.eqs.length
        · obtain ⟨a2, cap2, b2, off2, s4, hv2, hc2, hm2, ha2, hcell2, hrr2⟩ := HEL.out
          simp only [Value.slice.injEq] at hv2
          obtain ⟨rfl, _, rfl⟩ := hv2
          obtain ⟨rfl, _⟩ := ha2 (by omega)
          obtain ⟨c0, c1, c2, c3, c4⟩ := hcell2 j hlt
          obtain ⟨ra, rc, rb, roff, hrv, hrc, hrm, hra, hrcell⟩ := hrr2 j hlt
          rw [hrv] at c4
          rw [← HBW.out.cell (lt_of_cell c0)] at c0
          rw [← HBW.out.cell (lt_of_cell c1)] at c1
          rw [← HBW.out.cell (lt_of_cell c2)] at c2
          rw [← HBW.out.cell (lt_of_cell c3)] at c3
          rw [← HBW.out.cell (lt_of_cell c4)] at c4
          unfold maxLen at hrm
          have HRA := (show Hid _ from hra)
          have HRC := (show Hid _ from hrcell)
          clear ha2 hcell2 hrr2 hra hrcell hrv
          have i1 : (0 : Int) ≤ (j : Int) := by omega
          have i2 : (j : Int) < (g.eqs.length : Int) := by omega
          have HHE := (show Hid _ from HHA.out g.eqs[j].prod g.eqs[j].pos g.eqs[j].attr)
          have HRE := (show Hid _ from HAR.out g.eqs[j].prod)
          have H21 := (show Hid (∀ wq : World, Calls Try.prog 21 #[.int .i64 g.eqs[j].op] wq fun e w' => e = .returned (.int .i64 (argN g.eqs[j].op)) ∧ w' = wq) from fun wq => args21 _ wq)
          have HEA := (show Hid _ from HEQ.out j hlt)
          generalize g.eqs[j].prod = ep at *
          generalize g.eqs[j].pos = eo at *
          generalize g.eqs[j].attr = ea at *
          generalize g.eqs[j].op = eop at *
          generalize g.eqs[j].args = rl at *
          obtain ⟨hh, hd, hn, hargs⟩ := HEA.out
          have HYE := (show Hid (∀ k (hk : k < rl.length), argB d g ep rl[k] = true) from hargs)
          clear HEA hargs
          obtain ⟨ia, hxi, hia⟩ := has_at hh
          rw [hh] at HHE
          obtain ⟨rfl, _⟩ := HA.out (by omega)
          obtain ⟨_, _, cd, _⟩ := HC.out ia hia
          subst hxi
          rw [atN_eq hia] at hd
          have HCD := (show Hid _ from cd)
          clear cd
          have n1 : (0 : Int) ≤ (ia : Int) := by omega
          have n2 : (ia : Int) < (g.attrs.length : Int) := by omega
          have kz : (eo == 0) = decide (eo = 0) := by rw [Bool.eq_iff_iff]; simp
          generalize g.attrs[ia].down = dn at *
          generalize decide (eo = 0) = pz at *
          have kn : (argN eop != (rl.length : Int)) = false := by simpa using hn
          clear hh hn
          have HBV := (show Hid (Below w.heap.size w (wr.alloc (.cells #[.int .i64 ep, .int .i64 eo, .int .i64 (ia : Int), .int .i64 eop, .slice ra rl.length rc] 59))) from bel_trans HBW.out (bel_alloc _ _))
          have HLV := (show Hid (Below W.heap.size W (wr.alloc (.cells #[.int .i64 ep, .int .i64 eo, .int .i64 (ia : Int), .int .i64 eop, .slice ra rl.length rc] 59))) from bel_trans hbel (bel_alloc _ _))
          have hd0 : Below (wr.alloc (.cells #[.int .i64 ep, .int .i64 eo, .int .i64 (ia : Int), .int .i64 eop, .slice ra rl.length rc] 59)).heap.size (wr.alloc (.cells #[.int .i64 ep, .int .i64 eo, .int .i64 (ia : Int), .int .i64 eop, .slice ra rl.length rc] 59)) (wr.alloc (.cells #[.int .i64 ep, .int .i64 eo, .int .i64 (ia : Int), .int .i64 eop, .slice ra rl.length rc] 59)).drew := (Below.refl _ _).drew
          have HDD := (show Hid _ from hd0)
          have HDW := (show Hid (Below w.heap.size w (wr.alloc (.cells #[.int .i64 ep, .int .i64 eo, .int .i64 (ia : Int), .int .i64 eop, .slice ra rl.length rc] 59)).drew) from bel_trans HBV.out hd0)
          have HC8 := (show Hid _ from HHE.out (wr.alloc (.cells #[.int .i64 ep, .int .i64 eo, .int .i64 (ia : Int), .int .i64 eop, .slice ra rl.length rc] 59)).drew HDW.out)
          have HSK := (show Hid (∀ wq : World, Below (wr.alloc (.cells #[.int .i64 ep, .int .i64 eo, .int .i64 (ia : Int), .int .i64 eop, .slice ra rl.length rc] 59)).heap.size (wr.alloc (.cells #[.int .i64 ep, .int .i64 eo, .int .i64 (ia : Int), .int .i64 eop, .slice ra rl.length rc] 59)) wq → wq.cell? ⟨w.heap.size, 0, none⟩ = some (.slice x0 d.terms.length x1) ∧ wq.cell? ⟨w.heap.size, 1, none⟩ = some (.slice x2 d.nons.length x3) ∧ wq.cell? ⟨w.heap.size, 2, none⟩ = some (.int .i64 d.own) ∧ wq.cell? ⟨w.heap.size, 3, none⟩ = some (.slice x4 d.prods.length x5) ∧ wq.cell? ⟨w.heap.size + 1, 0, none⟩ = some (.slice (some ⟨b, off, none⟩) g.attrs.length y1) ∧ wq.cell? ⟨w.heap.size + 1, 1, none⟩ = some (.slice (some ⟨b2, off2, none⟩) g.eqs.length y3) ∧ wq.cell? ⟨wr.heap.size, 0, none⟩ = some (.int .i64 ep) ∧ wq.cell? ⟨wr.heap.size, 1, none⟩ = some (.int .i64 eo) ∧ wq.cell? ⟨wr.heap.size, 2, none⟩ = some (.int .i64 (ia : Int)) ∧ wq.cell? ⟨wr.heap.size, 3, none⟩ = some (.int .i64 eop) ∧ wq.cell? ⟨wr.heap.size, 4, none⟩ = some (.slice ra rl.length rc) ∧ wq.cell? ⟨b, off + ia * 3 + 2, none⟩ = some (.bool dn)) from fun wq hq => ⟨(HQ.out wq (bel_trans HLV.out hq)).1, (HQ.out wq (bel_trans HLV.out hq)).2.1, (HQ.out wq (bel_trans HLV.out hq)).2.2.1, (HQ.out wq (bel_trans HLV.out hq)).2.2.2.1, (HQ.out wq (bel_trans HLV.out hq)).2.2.2.2.1, (HQ.out wq (bel_trans HLV.out hq)).2.2.2.2.2, ((Box.new wr 59 [.int .i64 ep, .int .i64 eo, .int .i64 (ia : Int), .int .i64 eop, .slice ra rl.length rc]).still hq).cell 0 (by simp), ((Box.new wr 59 [.int .i64 ep, .int .i64 eo, .int .i64 (ia : Int), .int .i64 eop, .slice ra rl.length rc]).still hq).cell 1 (by simp), ((Box.new wr 59 [.int .i64 ep, .int .i64 eo, .int .i64 (ia : Int), .int .i64 eop, .slice ra rl.length rc]).still hq).cell 2 (by simp), ((Box.new wr 59 [.int .i64 ep, .int .i64 eo, .int .i64 (ia : Int), .int .i64 eop, .slice ra rl.length rc]).still hq).cell 3 (by simp), ((Box.new wr 59 [.int .i64 ep, .int .i64 eo, .int .i64 (ia : Int), .int .i64 eop, .slice ra rl.length rc]).still hq).cell 4 (by simp), ((bel_trans HBV.out hq).cell (lt_of_cell HCD.out)).trans HCD.out⟩)
          have hS0 := HSK.out _ hd0
          clear hd0
          go_wp2_with fail
          clear q0 q1 q2 q3 r0 r1 c0 c1 c2 c3 c4
          refine wp_region_held_drew (S := fun wq => wq.cell? ⟨w.heap.size, 0, none⟩ = some (.slice x0 d.terms.length x1) ∧ wq.cell? ⟨w.heap.size, 1, none⟩ = some (.slice x2 d.nons.length x3) ∧ wq.cell? ⟨w.heap.size, 2, none⟩ = some (.int .i64 d.own) ∧ wq.cell? ⟨w.heap.size, 3, none⟩ = some (.slice x4 d.prods.length x5) ∧ wq.cell? ⟨w.heap.size + 1, 0, none⟩ = some (.slice (some ⟨b, off, none⟩) g.attrs.length y1) ∧ wq.cell? ⟨w.heap.size + 1, 1, none⟩ = some (.slice (some ⟨b2, off2, none⟩) g.eqs.length y3) ∧ wq.cell? ⟨wr.heap.size, 0, none⟩ = some (.int .i64 ep) ∧ wq.cell? ⟨wr.heap.size, 1, none⟩ = some (.int .i64 eo) ∧ wq.cell? ⟨wr.heap.size, 2, none⟩ = some (.int .i64 (ia : Int)) ∧ wq.cell? ⟨wr.heap.size, 3, none⟩ = some (.int .i64 eop) ∧ wq.cell? ⟨wr.heap.size, 4, none⟩ = some (.slice ra rl.length rc) ∧ wq.cell? ⟨b, off + ia * 3 + 2, none⟩ = some (.bool dn)) (by kernel_rfl) hS0 (fun hHeld => ?_)
          refine wpAnyH_take (i := 0) (oi := oE0) (v := ?v301) rfl (by kernel_rfl) (by kernel_rfl) (by kernel_rfl) (fun _ _ _ h => h) (Or.inl ⟨by rfl, ?h301⟩) hHeld ?r301
          case h301 => (intro w hSw; (try dsimp only at hSw); go_simp; try with_reducible rfl)
          try simp only [Act.put, List.setIfInBounds_toArray, List.set_cons_zero, List.set_cons_succ]
          refine wpAnyH_take (i := 1) (oi := oE1) (v := ?v302) rfl (by kernel_rfl) (by kernel_rfl) (by kernel_rfl) (fun _ _ _ h => h) (Or.inl ⟨by rfl, ?h302⟩) hHeld ?r302
          case h302 => (intro w hSw; (try dsimp only at hSw); go_simp; try with_reducible rfl)
          try simp only [Act.put, List.setIfInBounds_toArray, List.set_cons_zero, List.set_cons_succ]
          refine wpAnyH_take (i := 2) (oi := oE2) (v := ?v303) rfl (by kernel_rfl) (by kernel_rfl) (by kernel_rfl) (fun _ _ _ h => h) (Or.inl ⟨by rfl, ?h303⟩) hHeld ?r303
          case h303 => (intro w hSw; (try dsimp only at hSw); go_simp; try with_reducible rfl)
          try simp only [Act.put, List.setIfInBounds_toArray, List.set_cons_zero, List.set_cons_succ]
          refine wpAnyH_take (i := 3) (oi := oE3) (v := ?v304) rfl (by kernel_rfl) (by kernel_rfl) (by kernel_rfl) (fun _ _ _ h => h) (Or.inl ⟨by rfl, ?h304⟩) hHeld ?r304
          case h304 => (intro w hSw; (try dsimp only at hSw); go_simp; try with_reducible rfl)
          try simp only [Act.put, List.setIfInBounds_toArray, List.set_cons_zero, List.set_cons_succ]
          refine wpAnyH_take (i := 4) (oi := oE4) (v := ?v305) rfl (by kernel_rfl) (by kernel_rfl) (by kernel_rfl) (fun _ _ _ h => h) (Or.inl ⟨by rfl, ?h305⟩) hHeld ?r305
          case h305 => (intro w hSw; (try dsimp only at hSw); go_simp; try with_reducible rfl)
          try simp only [Act.put, List.setIfInBounds_toArray, List.set_cons_zero, List.set_cons_succ]
          refine wpAnyH_take (i := 5) (oi := oE5) (v := ?v306) rfl (by kernel_rfl) (by kernel_rfl) (by kernel_rfl) (fun _ _ _ h => h) (Or.inl ⟨by rfl, ?h306⟩) hHeld ?r306
          case h306 => (intro w hSw; (try dsimp only at hSw); go_simp; try with_reducible rfl)
          try simp only [Act.put, List.setIfInBounds_toArray, List.set_cons_zero, List.set_cons_succ]
          refine wpAnyH_take (i := 6) (oi := oE6) (v := ?v307) rfl (by kernel_rfl) (by kernel_rfl) (by kernel_rfl) (fun _ _ _ h => h) (Or.inl ⟨by rfl, ?h307⟩) hHeld ?r307
          case h307 => (intro w hSw; (try dsimp only at hSw); go_simp; try with_reducible rfl)
          try simp only [Act.put, List.setIfInBounds_toArray, List.set_cons_zero, List.set_cons_succ]
          refine wpAnyH_take (i := 7) (oi := oE7) (v := ?v308) rfl (by kernel_rfl) (by kernel_rfl) (by kernel_rfl) (fun _ _ _ h => h) (Or.inl ⟨by rfl, ?h308⟩) hHeld ?r308
          case h308 => (intro w hSw; (try dsimp only at hSw); go_simp; try with_reducible rfl)
          try simp only [Act.put, List.setIfInBounds_toArray, List.set_cons_zero, List.set_cons_succ]
          refine wpAnyH_ready (rs := [8]) (by kernel_rfl) (by simp) ?_
          refine (AllReadyH.cons (o := oE8) rfl (fun K hK => ?_) AllReadyH.nil)
          go_simp
          refine Calls.mono HC8.out ?_
          rintro e w4 ⟨rfl, hb4⟩
          dsimp only
          have hS1 := HSK.out w4 (bel_trans HDD.out hb4)
          have HB4 := (show Hid (Below w.heap.size w w4) from bel_trans HDW.out hb4)
          clear hHeld
          refine hK.out _ _ (hS1) (fun hHeld => ?_)
          clear hK K
          try simp only [Act.put, List.setIfInBounds_toArray, List.set_cons_zero, List.set_cons_succ]
          refine wpAnyH_take (i := 9) (oi := oE9) (v := ?v309) rfl (by kernel_rfl) (by kernel_rfl) (by kernel_rfl) (fun _ _ _ h => h) (Or.inl ⟨by rfl, ?h309⟩) hHeld ?r309
          case h309 => (intro w hSw; (try dsimp only at hSw); go_simp; try with_reducible rfl)
          try simp only [Act.put, List.setIfInBounds_toArray, List.set_cons_zero, List.set_cons_succ]
          refine wpAnyH_take (i := 10) (oi := oE10) (v := ?v310) rfl (by kernel_rfl) (by kernel_rfl) (by kernel_rfl) (fun _ _ _ h => h) (Or.inl ⟨by rfl, ?h310⟩) hHeld ?r310
          case h310 => (intro w hSw; (try dsimp only at hSw); go_simp; try with_reducible rfl)
          try simp only [Act.put, List.setIfInBounds_toArray, List.set_cons_zero, List.set_cons_succ]
          refine wpAnyH_take (i := 11) (oi := oE11) (v := ?v311) rfl (by kernel_rfl) (by kernel_rfl) (by kernel_rfl) (fun _ _ _ h => h) (Or.inl ⟨by rfl, ?h311⟩) hHeld ?r311
          case h311 => (intro w hSw; (try dsimp only at hSw); go_simp; try with_reducible rfl)
          try simp only [Act.put, List.setIfInBounds_toArray, List.set_cons_zero, List.set_cons_succ]
          refine wpAnyH_take (i := 12) (oi := oE12) (v := ?v312) rfl (by kernel_rfl) (by kernel_rfl) (by kernel_rfl) (fun _ _ _ h => h) (Or.inl ⟨by rfl, ?h312⟩) hHeld ?r312
          case h312 => (intro w hSw; (try dsimp only at hSw); go_simp; try with_reducible rfl)
          try simp only [Act.put, List.setIfInBounds_toArray, List.set_cons_zero, List.set_cons_succ]
          refine wpAnyH_take (i := 13) (oi := oE13) (v := ?v313) rfl (by kernel_rfl) (by kernel_rfl) (by kernel_rfl) (fun _ _ _ h => h) (Or.inl ⟨by rfl, ?h313⟩) hHeld ?r313
          case h313 => (intro w hSw; (try dsimp only at hSw); go_simp; try with_reducible rfl)
          try simp only [Act.put, List.setIfInBounds_toArray, List.set_cons_zero, List.set_cons_succ]
          refine wpAnyH_take (i := 14) (oi := oE14) (v := ?v314) rfl (by kernel_rfl) (by kernel_rfl) (by kernel_rfl) (fun _ _ _ h => h) (Or.inl ⟨by rfl, ?h314⟩) hHeld ?r314
          case h314 => (intro w hSw; (try dsimp only at hSw); go_simp; try with_reducible rfl)
          try simp only [Act.put, List.setIfInBounds_toArray, List.set_cons_zero, List.set_cons_succ]
          refine wpAnyH_take (i := 15) (oi := oE15) (v := ?v315) rfl (by kernel_rfl) (by kernel_rfl) (by kernel_rfl) (fun _ _ _ h => h) (Or.inl ⟨by rfl, ?h315⟩) hHeld ?r315
          case h315 => (intro w hSw; (try dsimp only at hSw); go_simp; try with_reducible rfl)
          try simp only [Act.put, List.setIfInBounds_toArray, List.set_cons_zero, List.set_cons_succ]
          refine wpAnyH_take (i := 16) (oi := oE16) (v := ?v316) rfl (by kernel_rfl) (by kernel_rfl) (by kernel_rfl) (fun _ _ _ h => h) (Or.inl ⟨by rfl, ?h316⟩) hHeld ?r316
          case h316 => (intro w hSw; (try dsimp only at hSw); go_simp; try with_reducible rfl)
          try simp only [Act.put, List.setIfInBounds_toArray, List.set_cons_zero, List.set_cons_succ]
          refine wpAnyH_take (i := 17) (oi := oE17) (v := ?v317) rfl (by kernel_rfl) (by kernel_rfl) (by kernel_rfl) (fun _ _ _ h => h) (Or.inl ⟨by rfl, ?h317⟩) hHeld ?r317
          case h317 => (intro w hSw; (try dsimp only at hSw); go_simp; try with_reducible rfl)
          try simp only [Act.put, List.setIfInBounds_toArray, List.set_cons_zero, List.set_cons_succ]
          refine wpAnyH_take (i := 18) (oi := oE18) (v := ?v318) rfl (by kernel_rfl) (by kernel_rfl) (by kernel_rfl) (fun _ _ _ h => h) (Or.inl ⟨by rfl, ?h318⟩) hHeld ?r318
          case h318 => (intro w hSw; (try dsimp only at hSw); go_simp; try with_reducible rfl)
          try simp only [Act.put, List.setIfInBounds_toArray, List.set_cons_zero, List.set_cons_succ]
          refine wpAnyH_take (i := 19) (oi := oE19) (v := ?v319) rfl (by kernel_rfl) (by kernel_rfl) (by kernel_rfl) (fun _ _ _ h => h) (Or.inl ⟨by rfl, ?h319⟩) hHeld ?r319
          case h319 => (intro w hSw; (try dsimp only at hSw); go_simp; try with_reducible rfl)
          try simp only [Act.put, List.setIfInBounds_toArray, List.set_cons_zero, List.set_cons_succ]
          refine wpAnyH_take (i := 20) (oi := oE20) (v := ?v320) rfl (by kernel_rfl) (by kernel_rfl) (by kernel_rfl) (fun _ _ _ h => h) (Or.inl ⟨by rfl, ?h320⟩) hHeld ?r320
          case h320 => (intro w hSw; (try dsimp only at hSw); go_simp; try with_reducible rfl)
          try simp only [Act.put, List.setIfInBounds_toArray, List.set_cons_zero, List.set_cons_succ]
          refine wpAnyH_take (i := 21) (oi := oE21) (v := ?v321) rfl (by kernel_rfl) (by kernel_rfl) (by kernel_rfl) (fun _ _ _ h => h) (Or.inl ⟨by rfl, ?h321⟩) hHeld ?r321
          case h321 => (intro w hSw; (try dsimp only at hSw); go_simp; try with_reducible rfl)
          try simp only [Act.put, List.setIfInBounds_toArray, List.set_cons_zero, List.set_cons_succ]
          refine wpAnyH_take (i := 22) (oi := oE22) (v := ?v322) rfl (by kernel_rfl) (by kernel_rfl) (by kernel_rfl) (fun _ _ _ h => h) (Or.inl ⟨by rfl, ?h322⟩) hHeld ?r322
          case h322 => (intro w hSw; (try dsimp only at hSw); go_simp; try with_reducible rfl)
          try simp only [Act.put, List.setIfInBounds_toArray, List.set_cons_zero, List.set_cons_succ]
          refine wpAnyH_take (i := 23) (oi := oE23) (v := ?v323) rfl (by kernel_rfl) (by kernel_rfl) (by kernel_rfl) (fun _ _ _ h => h) (Or.inl ⟨by rfl, ?h323⟩) hHeld ?r323
          case h323 => (intro w hSw; (try dsimp only at hSw); go_simp; try with_reducible rfl)
          try simp only [Act.put, List.setIfInBounds_toArray, List.set_cons_zero, List.set_cons_succ]
          refine wpAnyH_take (i := 24) (oi := oE24) (v := ?v324) rfl (by kernel_rfl) (by kernel_rfl) (by kernel_rfl) (fun _ _ _ h => h) (Or.inl ⟨by rfl, ?h324⟩) hHeld ?r324
          case h324 => (intro w hSw; (try dsimp only at hSw); go_simp; try with_reducible rfl)
          try simp only [Act.put, List.setIfInBounds_toArray, List.set_cons_zero, List.set_cons_succ]
          refine wpAnyH_take (i := 25) (oi := oE25) (v := ?v325) rfl (by kernel_rfl) (by kernel_rfl) (by kernel_rfl) (fun _ _ _ h => h) (Or.inl ⟨by rfl, ?h325⟩) hHeld ?r325
          case h325 => (intro w hSw; (try dsimp only at hSw); go_simp; try with_reducible rfl)
          try simp only [Act.put, List.setIfInBounds_toArray, List.set_cons_zero, List.set_cons_succ]
          refine wpAnyH_take (i := 27) (oi := oE27) (v := ?v326) rfl (by kernel_rfl) (by kernel_rfl) (by kernel_rfl) (fun _ _ _ h => h) (Or.inl ⟨by rfl, ?h326⟩) hHeld ?r326
          case h326 => (intro w hSw; (try dsimp only at hSw); go_simp; try with_reducible rfl)
          try simp only [Act.put, List.setIfInBounds_toArray, List.set_cons_zero, List.set_cons_succ]
          refine wpAnyH_take (i := 28) (oi := oE28) (v := ?v327) rfl (by kernel_rfl) (by kernel_rfl) (by kernel_rfl) (fun _ _ _ h => h) (Or.inl ⟨by rfl, ?h327⟩) hHeld ?r327
          case h327 => (intro w hSw; (try dsimp only at hSw); go_simp; try with_reducible rfl)
          try simp only [Act.put, List.setIfInBounds_toArray, List.set_cons_zero, List.set_cons_succ]
          refine wpAnyH_take (i := 29) (oi := oE29) (v := ?v328) rfl (by kernel_rfl) (by kernel_rfl) (by kernel_rfl) (fun _ _ _ h => h) (Or.inl ⟨by rfl, ?h328⟩) hHeld ?r328
          case h328 => (intro w hSw; (try dsimp only at hSw); go_simp; try with_reducible rfl)
          try simp only [Act.put, List.setIfInBounds_toArray, List.set_cons_zero, List.set_cons_succ]
          refine wpAnyH_ready (rs := [26]) (by kernel_rfl) (by simp) ?_
          refine (AllReadyH.cons (o := oE26) rfl (fun K hK => ?_) AllReadyH.nil)
          go_simp
          refine Calls.mono (H21.out _) ?_
          rintro e w5 ⟨rfl, rfl⟩
          dsimp only
          clear hHeld
          refine hK.out _ _ (hS1) (fun hHeld => ?_)
          clear hK K
          try simp only [Act.put, List.setIfInBounds_toArray, List.set_cons_zero, List.set_cons_succ]
          refine wpAnyH_take (i := 30) (oi := oE30) (v := ?v329) rfl (by kernel_rfl) (by kernel_rfl) (by kernel_rfl) (fun _ _ _ h => h) (Or.inl ⟨by rfl, ?h329⟩) hHeld ?r329
          case h329 => (intro w hSw; (try dsimp only at hSw); go_simp; try with_reducible rfl)
          try simp only [Act.put, List.setIfInBounds_toArray, List.set_cons_zero, List.set_cons_succ]
          refine wpAnyH_take (i := 31) (oi := oE31) (v := ?v330) rfl (by kernel_rfl) (by kernel_rfl) (by kernel_rfl) (fun _ _ _ h => h) (Or.inl ⟨by rfl, ?h330⟩) hHeld ?r330
          case h330 => (intro w hSw; (try dsimp only at hSw); go_simp; try with_reducible rfl)
          try simp only [Act.put, List.setIfInBounds_toArray, List.set_cons_zero, List.set_cons_succ]
          refine wpAnyH_done (by kernel_rfl) ?_ _
          (try refine NoPanic.normal ?_)
          go_wp2_with fail
          have hbl : Below W.heap.size W w5 := bel_trans HLV.out (bel_trans HDD.out hb4)
          have HV := (show Hid (∀ wq : World, Below w5.heap.size w5 wq → wq.cell? ⟨wr.heap.size, 0, none⟩ = some (.int .i64 ep) ∧ wq.cell? ⟨wr.heap.size, 1, none⟩ = some (.int .i64 eo) ∧ wq.cell? ⟨wr.heap.size, 2, none⟩ = some (.int .i64 (ia : Int)) ∧ wq.cell? ⟨wr.heap.size, 3, none⟩ = some (.int .i64 eop) ∧ wq.cell? ⟨wr.heap.size, 4, none⟩ = some (.slice ra rl.length rc)) from fun wq hq => by
            have := HSK.out wq (bel_trans (bel_trans HDD.out hb4) hq)
            exact ⟨this.2.2.2.2.2.2.1, this.2.2.2.2.2.2.2.1, this.2.2.2.2.2.2.2.2.1, this.2.2.2.2.2.2.2.2.2.1, this.2.2.2.2.2.2.2.2.2.2.1⟩)
          have HL := (show Hid (Below W.heap.size W w5) from hbl)
          clear hbl hb4 hS1 hS0 HSK HB4 HLV HDD HDW HBV HC8 HCD hbel
          generalize wr.heap.size = rr6 at *
          go_loopw [10] (fun i wq => ∃ k : Nat, i = .int .i64 k ∧ k ≤ rl.length ∧ Below w5.heap.size w5 wq) (fun i _ => rl.length - (intOf i).toNat)
          case atStart => exact ⟨0, rfl, Nat.zero_le _, Below.refl _ _⟩
          case round =>
            obtain ⟨k, rfl, hk, hbq⟩ := hrel
            have HWW := (show Hid (Below W.heap.size W wr) from bel_trans HL.out hbq)
            have HBX := (show Hid (Below w.heap.size w wr) from bel_trans HBB.out HWW.out)
            obtain ⟨q0, q1, q2, q3, r0, r1⟩ := HQ.out _ HWW.out
            obtain ⟨s0, s1, s2, s3, s4'⟩ := HV.out _ hbq
            by_cases hkl : k < rl.length
            · obtain ⟨rfl, _⟩ := HRA.out (by omega)
              obtain ⟨d0, d1, d2⟩ := HRC.out k hkl
              rw [← HBX.out.cell (lt_of_cell d0)] at d0
              rw [← HBX.out.cell (lt_of_cell d1)] at d1
              rw [← HBX.out.cell (lt_of_cell d2)] at d2
              have k1 : (0 : Int) ≤ (k : Int) := by omega
              have k2 : (k : Int) < (rl.length : Int) := by omega
              have hd0 : Below wr.heap.size wr wr.drew := (Below.refl _ _).drew
              have HDD := (show Hid _ from hd0)
              have HC9 := (show Hid _ from HRE.out rl[k] wr.drew (bel_trans HBX.out hd0))
              have HQ4 := (show Hid (Below w5.heap.size w5 wr) from hbq)
              rw [HYE.out k hkl] at HC9
              generalize rl[k].pos = xp at *
              generalize rl[k].attr = xa at *
              generalize rl[k].n = xn at *
              have HS3 := (show Hid (∀ wq : World, Below wr.heap.size wr wq → wq.cell? ⟨w.heap.size, 0, none⟩ = some (.slice x0 d.terms.length x1) ∧ wq.cell? ⟨w.heap.size, 1, none⟩ = some (.slice x2 d.nons.length x3) ∧ wq.cell? ⟨w.heap.size, 2, none⟩ = some (.int .i64 d.own) ∧ wq.cell? ⟨w.heap.size, 3, none⟩ = some (.slice x4 d.prods.length x5) ∧ wq.cell? ⟨w.heap.size + 1, 0, none⟩ = some (.slice (some ⟨b, off, none⟩) g.attrs.length y1) ∧ wq.cell? ⟨w.heap.size + 1, 1, none⟩ = some (.slice (some ⟨b2, off2, none⟩) g.eqs.length y3) ∧ wq.cell? ⟨rr6, 0, none⟩ = some (.int .i64 ep) ∧ wq.cell? ⟨rr6, 1, none⟩ = some (.int .i64 eo) ∧ wq.cell? ⟨rr6, 2, none⟩ = some (.int .i64 (ia : Int)) ∧ wq.cell? ⟨rr6, 3, none⟩ = some (.int .i64 eop) ∧ wq.cell? ⟨rr6, 4, none⟩ = some (.slice (some ⟨rb, roff, none⟩) rl.length rc) ∧ wq.cell? ⟨rb, roff + k * 3, none⟩ = some (.int .i64 xp) ∧ wq.cell? ⟨rb, roff + k * 3 + 1, none⟩ = some (.int .i64 xa) ∧ wq.cell? ⟨rb, roff + k * 3 + 2, none⟩ = some (.int .i64 xn)) from fun wq hq => ⟨(hq.cell (lt_of_cell q0)).trans q0, (hq.cell (lt_of_cell q1)).trans q1, (hq.cell (lt_of_cell q2)).trans q2, (hq.cell (lt_of_cell q3)).trans q3, (hq.cell (lt_of_cell r0)).trans r0, (hq.cell (lt_of_cell r1)).trans r1, (hq.cell (lt_of_cell s0)).trans s0, (hq.cell (lt_of_cell s1)).trans s1, (hq.cell (lt_of_cell s2)).trans s2, (hq.cell (lt_of_cell s3)).trans s3, (hq.cell (lt_of_cell s4')).trans s4', (hq.cell (lt_of_cell d0)).trans d0, (hq.cell (lt_of_cell d1)).trans d1, (hq.cell (lt_of_cell d2)).trans d2⟩)
              have hS0 := HS3.out _ hd0
              clear hd0 hbq
              go_wp2_with fail
              clear q0 q1 q2 q3 r0 r1 s0 s1 s2 s3 s4' d0 d1 d2
              refine wp_region_held_drew (S := fun wq => wq.cell? ⟨w.heap.size, 0, none⟩ = some (.slice x0 d.terms.length x1) ∧ wq.cell? ⟨w.heap.size, 1, none⟩ = some (.slice x2 d.nons.length x3) ∧ wq.cell? ⟨w.heap.size, 2, none⟩ = some (.int .i64 d.own) ∧ wq.cell? ⟨w.heap.size, 3, none⟩ = some (.slice x4 d.prods.length x5) ∧ wq.cell? ⟨w.heap.size + 1, 0, none⟩ = some (.slice (some ⟨b, off, none⟩) g.attrs.length y1) ∧ wq.cell? ⟨w.heap.size + 1, 1, none⟩ = some (.slice (some ⟨b2, off2, none⟩) g.eqs.length y3) ∧ wq.cell? ⟨rr6, 0, none⟩ = some (.int .i64 ep) ∧ wq.cell? ⟨rr6, 1, none⟩ = some (.int .i64 eo) ∧ wq.cell? ⟨rr6, 2, none⟩ = some (.int .i64 (ia : Int)) ∧ wq.cell? ⟨rr6, 3, none⟩ = some (.int .i64 eop) ∧ wq.cell? ⟨rr6, 4, none⟩ = some (.slice (some ⟨rb, roff, none⟩) rl.length rc) ∧ wq.cell? ⟨rb, roff + k * 3, none⟩ = some (.int .i64 xp) ∧ wq.cell? ⟨rb, roff + k * 3 + 1, none⟩ = some (.int .i64 xa) ∧ wq.cell? ⟨rb, roff + k * 3 + 2, none⟩ = some (.int .i64 xn)) (by kernel_rfl) hS0 (fun hHeld => ?_)
              refine wpAnyH_take (i := 0) (oi := oF0) (v := ?v601) rfl (by kernel_rfl) (by kernel_rfl) (by kernel_rfl) (fun _ _ _ h => h) (Or.inl ⟨by rfl, ?h601⟩) hHeld ?r601
              case h601 => (intro w hSw; (try dsimp only at hSw); go_simp; try with_reducible rfl)
              try simp only [Act.put, List.setIfInBounds_toArray, List.set_cons_zero, List.set_cons_succ]
              refine wpAnyH_take (i := 1) (oi := oF1) (v := ?v602) rfl (by kernel_rfl) (by kernel_rfl) (by kernel_rfl) (fun _ _ _ h => h) (Or.inl ⟨by rfl, ?h602⟩) hHeld ?r602
              case h602 => (intro w hSw; (try dsimp only at hSw); go_simp; try with_reducible rfl)
              try simp only [Act.put, List.setIfInBounds_toArray, List.set_cons_zero, List.set_cons_succ]
              refine wpAnyH_take (i := 2) (oi := oF2) (v := ?v603) rfl (by kernel_rfl) (by kernel_rfl) (by kernel_rfl) (fun _ _ _ h => h) (Or.inl ⟨by rfl, ?h603⟩) hHeld ?r603
              case h603 => (intro w hSw; (try dsimp only at hSw); go_simp; try with_reducible rfl)
              try simp only [Act.put, List.setIfInBounds_toArray, List.set_cons_zero, List.set_cons_succ]
              refine wpAnyH_take (i := 3) (oi := oF3) (v := ?v604) rfl (by kernel_rfl) (by kernel_rfl) (by kernel_rfl) (fun _ _ _ h => h) (Or.inl ⟨by rfl, ?h604⟩) hHeld ?r604
              case h604 => (intro w hSw; (try dsimp only at hSw); go_simp; try with_reducible rfl)
              try simp only [Act.put, List.setIfInBounds_toArray, List.set_cons_zero, List.set_cons_succ]
              refine wpAnyH_take (i := 4) (oi := oF4) (v := ?v605) rfl (by kernel_rfl) (by kernel_rfl) (by kernel_rfl) (fun _ _ _ h => h) (Or.inl ⟨by rfl, ?h605⟩) hHeld ?r605
              case h605 => (intro w hSw; (try dsimp only at hSw); go_simp; try with_reducible rfl)
              try simp only [Act.put, List.setIfInBounds_toArray, List.set_cons_zero, List.set_cons_succ]
              refine wpAnyH_take (i := 5) (oi := oF5) (v := ?v606) rfl (by kernel_rfl) (by kernel_rfl) (by kernel_rfl) (fun _ _ _ h => h) (Or.inl ⟨by rfl, ?h606⟩) hHeld ?r606
              case h606 => (intro w hSw; (try dsimp only at hSw); go_simp; try with_reducible rfl)
              try simp only [Act.put, List.setIfInBounds_toArray, List.set_cons_zero, List.set_cons_succ]
              refine wpAnyH_take (i := 6) (oi := oF6) (v := ?v607) rfl (by kernel_rfl) (by kernel_rfl) (by kernel_rfl) (fun _ _ _ h => h) (Or.inl ⟨by rfl, ?h607⟩) hHeld ?r607
              case h607 => (intro w hSw; (try dsimp only at hSw); go_simp; try with_reducible rfl)
              try simp only [Act.put, List.setIfInBounds_toArray, List.set_cons_zero, List.set_cons_succ]
              refine wpAnyH_take (i := 7) (oi := oF7) (v := ?v608) rfl (by kernel_rfl) (by kernel_rfl) (by kernel_rfl) (fun _ _ _ h => h) (Or.inl ⟨by rfl, ?h608⟩) hHeld ?r608
              case h608 => (intro w hSw; (try dsimp only at hSw); go_simp; try with_reducible rfl)
              try simp only [Act.put, List.setIfInBounds_toArray, List.set_cons_zero, List.set_cons_succ]
              refine wpAnyH_take (i := 8) (oi := oF8) (v := ?v609) rfl (by kernel_rfl) (by kernel_rfl) (by kernel_rfl) (fun _ _ _ h => h) (Or.inl ⟨by rfl, ?h609⟩) hHeld ?r609
              case h609 => (intro w hSw; (try dsimp only at hSw); go_simp; try with_reducible rfl)
              try simp only [Act.put, List.setIfInBounds_toArray, List.set_cons_zero, List.set_cons_succ]
              refine wpAnyH_ready (rs := [9]) (by kernel_rfl) (by simp) ?_
              refine (AllReadyH.cons (o := oF9) rfl (fun K hK => ?_) AllReadyH.nil)
              go_simp
              refine Calls.mono HC9.out ?_
              rintro e w7 ⟨rfl, hb7⟩
              dsimp only
              have hb8 := bel_trans HDD.out hb7
              have hS1 := HS3.out w7 hb8
              clear hHeld
              refine hK.out _ _ (hS1) (fun hHeld => ?_)
              clear hK K
              try simp only [Act.put, List.setIfInBounds_toArray, List.set_cons_zero, List.set_cons_succ]
              refine wpAnyH_take (i := 10) (oi := oF10) (v := ?v610) rfl (by kernel_rfl) (by kernel_rfl) (by kernel_rfl) (fun _ _ _ h => h) (Or.inl ⟨by rfl, ?h610⟩) hHeld ?r610
              case h610 => (intro w hSw; (try dsimp only at hSw); go_simp; try with_reducible rfl)
              try simp only [Act.put, List.setIfInBounds_toArray, List.set_cons_zero, List.set_cons_succ]
              refine wpAnyH_done (by kernel_rfl) ?_ _
              (try refine NoPanic.normal ?_)
              go_wp2_with fail
              exact ⟨⟨k + 1, by go_num, by omega, bel_trans HQ4.out hb8⟩, by simp [intOf]; omega⟩
            · have hke : k = rl.length := by omega
              subst hke
              go_wp2_with fail
              exact ⟨⟨j + 1, by go_num, by omega, HWW.out⟩, by simp [intOf]; omega⟩
        · have HW1 := (show Hid (Below W.heap.size W wr) from hbel)
          clear HBW
          go_wp2_with fail
          clear q0 q1 q2 q3 r0 r1 hbel
          go_loopw [11] (fun i wr => ∃ p : Nat, i = .int .i64 p ∧ p ≤ d.prods.length ∧ Below W.heap.size W wr ∧ Hid (∀ q pos a : Nat, q < p → pos ≤ (pdN d q).right.length → a < g.attrs.length → oncB d g q pos a = true)) (fun i _ => d.prods.length - (intOf i).toNat)
          case atStart => exact ⟨0, rfl, Nat.zero_le _, HW1.out, fun q pos a h0 => absurd h0 (Nat.not_lt_zero _)⟩
          case round =>
            clear HW1
            obtain ⟨p, rfl, hp, hbel, HX⟩ := hrel
            obtain ⟨q0, q1, q2, q3, r0, r1⟩ := HQ.out _ hbel
            have HBW := (show Hid (Below w.heap.size w wr) from bel_trans HBB.out hbel)
            by_cases hlt : p < d.prods.length
            · obtain ⟨pa, pcap, pb, poff, psv, pv, phc, phm, pha, pcell, pr⟩ := HPL.out
              simp only [Value.slice.injEq] at pv
              obtain ⟨rfl, _, rfl⟩ := pv
              obtain ⟨rfl, _⟩ := pha (by omega)
              obtain ⟨_, c1, _, _, _, _⟩ := pcell p hlt
              obtain ⟨ia, icap, ib, ioff, hiv, hic, him, hia, hicell⟩ := pr p hlt
              rw [hiv] at c1
              unfold maxLen at him
              have HC1 := (show Hid _ from c1)
              have hrb := HRB.out p hlt
              have HL := (show Hid (Below W.heap.size W wr) from hbel)
              have HPE := (show Hid ((pdN d p).right.length = d.prods[p].right.length) from by show _ = _; rw [pdN_eq hlt])
              have i1 : (0 : Int) ≤ (p : Int) := by omega
              have i2 : (p : Int) < (d.prods.length : Int) := by omega
              clear pcell pr hia hicell hiv c1 hbel HBW pha
              generalize d.prods[p].right.length = RL at *
              go_wp2_with fail
              clear q0 q1 q2 q3 r0 r1
              go_loopw [12] (fun i wr => ∃ q : Nat, i = .int .i64 q ∧ q ≤ RL + 1 ∧ Below W.heap.size W wr ∧ Hid (∀ pos a : Nat, pos < q → a < g.attrs.length → oncB d g p pos a = true)) (fun i _ => RL + 1 - (intOf i).toNat)
              case atStart => exact ⟨0, rfl, Nat.zero_le _, HL.out, fun pos a h0 => absurd h0 (Nat.not_lt_zero _)⟩
              case round =>
                clear HL
                obtain ⟨q, rfl, hq, hbel, HY⟩ := hrel
                obtain ⟨q0, q1, q2, q3, r0, r1⟩ := HQ.out _ hbel
                have c1 := HC1.out
                rw [← (bel_trans HBB.out hbel).cell (lt_of_cell c1)] at c1
                have HL := (show Hid (Below W.heap.size W wr) from hbel)
                clear hbel
                by_cases hql : q ≤ RL
                · go_wp2_with fail
                  clear q0 q1 q2 q3 r0 r1 c1
                  go_loopw [13] (fun i wr => ∃ x : Nat, i = .int .i64 x ∧ x ≤ g.attrs.length ∧ Below W.heap.size W wr ∧ Hid (∀ a : Nat, a < x → oncB d g p q a = true)) (fun i _ => g.attrs.length - (intOf i).toNat)
                  case atStart => exact ⟨0, rfl, Nat.zero_le _, HL.out, fun a h0 => absurd h0 (Nat.not_lt_zero _)⟩
                  case round =>
                    clear HL
                    obtain ⟨x, rfl, hx, hbel, HZ⟩ := hrel
                    obtain ⟨q0, q1, q2, q3, r0, r1⟩ := HQ.out _ hbel
                    have HL := (show Hid (Below W.heap.size W wr) from hbel)
                    have HC23 := (show Hid _ from H23.out p q x wr (bel_trans HBB.out hbel))
                    have HC20 := (show Hid _ from fun wq hq => HHA.out p q x wq hq)
                    clear hbel
                    by_cases hxl : x < g.attrs.length
                    · have HO1 := (show Hid _ from onc_has (d := d) (g := g) (p := p) (pos := q) (a := x))
                      have HO2 := (show Hid _ from onc_dn (d := d) (p := p) (pos := q) hxl)
                      have HO3 := (show Hid _ from onc_one (d := d) (g := g) (p := p) (pos := q) (a := x))
                      have HO4 := (show Hid _ from onc_no (d := d) (p := p) (pos := q) hxl)
                      have HF := (show Hid (oncB d g p q x = false → agB d g = false) from ag_no_onc p q x hlt (by rw [HPE.out]; exact hql) hxl)
                      have HNX := (show Hid (oncB d g p q x = true → ∀ a : Nat, a < x + 1 → oncB d g p q a = true) from fun hh a hax => by
                        by_cases e : a = x
                        · subst e; exact hh
                        · exact HZ.out a (by omega))
                      obtain ⟨rfl, _⟩ := HA.out (by omega)
                      obtain ⟨_, _, cd, _⟩ := HC.out x hxl
                      have HCD := (show Hid _ from cd)
                      have j1 : (0 : Int) ≤ (x : Int) := by omega
                      have j2 : (x : Int) < (g.attrs.length : Int) := by omega
                      have kz : ((q : Int) == 0) = decide ((q : Int) = 0) := by rw [Bool.eq_iff_iff]; simp
                      clear cd HZ
                      generalize oncB d g p q x = ob at *
                      generalize cntE g p q x = cn at *
                      generalize g.attrs[x].down = dn at *
                      generalize decide ((q : Int) = 0) = pz at *
                      go_wp2_with fail
                      refine Calls.mono HC23.out ?_
                      rintro e w5 ⟨⟨z, rfl⟩, hb5⟩
                      have HL5 := (show Hid (Below W.heap.size W w5) from bel_trans HL.out hb5)
                      clear HL HC23 hb5 q0 q1 q2 q3 r0 r1
                      obtain ⟨q0, q1, q2, q3, r0, r1⟩ := HQ.out _ HL5.out
                      have HC2 := (show Hid _ from HC20.out w5 (bel_trans HBB.out HL5.out))
                      go_wp2_with fail
                      refine Calls.mono HC2.out ?_
                      rintro e w6 ⟨rfl, hb6⟩
                      have HL6 := (show Hid (Below W.heap.size W w6) from bel_trans HL5.out hb6)
                      have HB6 := (show Hid (Below w.heap.size w w6) from bel_trans HBB.out HL6.out)
                      clear HC2 HC20 hb6 q0 q1 q2 q3 r0 r1
                      obtain ⟨q0, q1, q2, q3, r0, r1⟩ := HQ.out _ HL6.out
                      have cd := HCD.out
                      rw [← HB6.out.cell (lt_of_cell cd)] at cd
                      cases hh : hasB d g p q x
                      · have HN := (show Hid _ from HNX.out (HO1.out hh))
                        clear hh HO1 HO2 HO3 HO4 HF HNX
                        go_wp2_with fail
                        exact ⟨⟨x + 1, by go_num, by omega, HL6.out, HN⟩, by simp [intOf]; omega⟩
                      by_cases h1 : cn = 1
                      · have HN := (show Hid _ from HNX.out (HO3.out h1))
                        subst h1
                        clear hh HO1 HO2 HO3 HO4 HF HNX
                        cases dn <;> cases pz
                        all_goals
                          go_wp2_with fail
                          exact ⟨⟨x + 1, by go_num, by omega, HL6.out, HN⟩, by simp [intOf]; omega⟩
                      · have k1 : ((cn : Int) != 1) = true := by simp; omega
                        cases hd : (dn == pz)
                        · have HG := (show Hid _ from HF.out (HO4.out hh hd h1))
                          clear hh HO1 HO2 HO3 HO4 HF HNX h1
                          cases dn <;> cases pz
                          all_goals first
                            | (exfalso; revert hd; decide)
                            | (clear hd; go_wp2_with fail; go_ret; exact ⟨by rw [HG.out]; rfl, HB6.out⟩)
                        · have HN := (show Hid _ from HNX.out (HO2.out hd))
                          clear hh HO1 HO2 HO3 HO4 HF HNX h1
                          cases dn <;> cases pz
                          all_goals first
                            | (exfalso; revert hd; decide)
                            | (clear hd; go_wp2_with fail; exact ⟨⟨x + 1, by go_num, by omega, HL6.out, HN⟩, by simp [intOf]; omega⟩)
                    · have hxe : x = g.attrs.length := by omega
                      have HN := (show Hid (∀ pos a : Nat, pos < q + 1 → a < g.attrs.length → oncB d g p pos a = true) from fun pos a h0 ha => by
                        by_cases e : pos = q
                        · subst e; exact HZ.out a (by omega)
                        · exact HY.out pos a (by omega) ha)
                      clear hxe HC23 HC20
                      go_wp2_with fail
                      exact ⟨⟨q + 1, by go_num, by omega, HL.out, HN⟩, by simp [intOf]; omega⟩
                · have hqe : q = RL + 1 := by omega
                  have HN := (show Hid (∀ r pos a : Nat, r < p + 1 → pos ≤ (pdN d r).right.length → a < g.attrs.length → oncB d g r pos a = true) from fun r pos a h0 hpos ha => by
                    by_cases e : r = p
                    · subst e; exact HY.out pos a (by rw [HPE.out] at hpos; omega) ha
                    · exact HX.out r pos a (by omega) hpos ha)
                  clear hqe
                  go_wp2_with fail
                  exact ⟨⟨p + 1, by go_num, by omega, HL.out, HN⟩, by simp [intOf]; omega⟩
            · have hpe : p = d.prods.length := by omega
              have HN := (show Hid (agB d g = true) from HYS.out fun r pos a hr hpos ha => HX.out r pos a (by omega) hpos ha)
              clear hpe hbel
              go_wp2_with fail
              go_ret
              exact ⟨by rw [HN.out]; rfl, HBW.out⟩
end Go.Proofs.Ytnmdgbnbnpibhaa
