import Derived.Test.YtnmdgbnbnpibhaaBg
import Derived.BigQuiet
import Derived.Deep.QuietTactic
/-! The specification: AgOK where an attribute is not right. -/
namespace Go.Proofs.Ytnmdgbnbnpibhaa
open Go.RowKit Go.Deep
set_option linter.unusedVariables false
set_option maxRecDepth 100000
set_option linter.unusedSimpArgs false

set_option maxHeartbeats 6400000 in
theorem ag6_att {S S' : Nat → Prop} (d : Bn) (g : DAg) (v0 v1 v3 u0 u1 : Value) (w : World) (h : BLies w S d v0 v1 v3) (hg : DAgL w S' g u0 u1) (hbn : bnB d = true) (hA : g.attrs.length ≤ 20) (hE : g.eqs.length ≤ 300) (hno : ¬ ∀ i, i < g.attrs.length → attB d g i = true) :
    Calls Try.prog 6 #[.agg #[v0, v1, .int .i64 d.own, v3], .agg #[u0, u1]] w fun e w' => e = .returned (.bool (agB d g)) ∧ Below w.heap.size w w' := by
  obtain ⟨x0, x1, x2, x3, x4, x5, rfl, rfl, rfl⟩ := h.form
  obtain ⟨y0, y1, y2, y3, rfl, rfl⟩ := hg.form
  obtain ⟨dT, dN, dP⟩ := bn_is hbn
  have hb2 : Below w.heap.size w ((w.alloc (.cells #[.slice x0 d.terms.length x1, .slice x2 d.nons.length x3, .int .i64 d.own, .slice x4 d.prods.length x5] 37)).alloc (.cells #[.slice y0 g.attrs.length y1, .slice y2 g.eqs.length y3] 42)) := bel_trans (bel_alloc _ _) (bel_alloc _ _)
  have hs1 : (w.alloc (.cells #[.slice x0 d.terms.length x1, .slice x2 d.nons.length x3, .int .i64 d.own, .slice x4 d.prods.length x5] 37)).heap.size = w.heap.size + 1 := by simp
  have B4 := (Box.new w 37 [.slice x0 d.terms.length x1, .slice x2 d.nons.length x3, .int .i64 d.own, .slice x4 d.prods.length x5]).still (bel_alloc (w.alloc (.cells #[.slice x0 d.terms.length x1, .slice x2 d.nons.length x3, .int .i64 d.own, .slice x4 d.prods.length x5] 37)) (.cells #[.slice y0 g.attrs.length y1, .slice y2 g.eqs.length y3] 42))
  have B5 := Box.new (w.alloc (.cells #[.slice x0 d.terms.length x1, .slice x2 d.nons.length x3, .int .i64 d.own, .slice x4 d.prods.length x5] 37)) 42 [.slice y0 g.attrs.length y1, .slice y2 g.eqs.length y3]
  rw [hs1] at B5
  have HQ := (show Hid (∀ wq : World, Below ((w.alloc (.cells #[.slice x0 d.terms.length x1, .slice x2 d.nons.length x3, .int .i64 d.own, .slice x4 d.prods.length x5] 37)).alloc (.cells #[.slice y0 g.attrs.length y1, .slice y2 g.eqs.length y3] 42)).heap.size ((w.alloc (.cells #[.slice x0 d.terms.length x1, .slice x2 d.nons.length x3, .int .i64 d.own, .slice x4 d.prods.length x5] 37)).alloc (.cells #[.slice y0 g.attrs.length y1, .slice y2 g.eqs.length y3] 42)) wq → wq.cell? ⟨w.heap.size, 0, none⟩ = some (.slice x0 d.terms.length x1) ∧ wq.cell? ⟨w.heap.size, 1, none⟩ = some (.slice x2 d.nons.length x3) ∧ wq.cell? ⟨w.heap.size, 2, none⟩ = some (.int .i64 d.own) ∧ wq.cell? ⟨w.heap.size, 3, none⟩ = some (.slice x4 d.prods.length x5) ∧ wq.cell? ⟨w.heap.size + 1, 0, none⟩ = some (.slice y0 g.attrs.length y1) ∧ wq.cell? ⟨w.heap.size + 1, 1, none⟩ = some (.slice y2 g.eqs.length y3)) from fun wq hq => ⟨(B4.still hq).cell 0 (by simp), (B4.still hq).cell 1 (by simp), (B4.still hq).cell 2 (by simp), (B4.still hq).cell 3 (by simp), (B5.still hq).cell 0 (by simp), (B5.still hq).cell 1 (by simp)⟩)
  obtain ⟨q0, q1, q2, q3, r0, r1⟩ := HQ.out _ (Below.refl _ _)
  have HBB := (show Hid (Below w.heap.size w ((w.alloc (.cells #[.slice x0 d.terms.length x1, .slice x2 d.nons.length x3, .int .i64 d.own, .slice x4 d.prods.length x5] 37)).alloc (.cells #[.slice y0 g.attrs.length y1, .slice y2 g.eqs.length y3] 42))) from hb2)
  have HBN := (show Hid (Calls Try.prog 17 #[.agg #[.slice x0 d.terms.length x1, .slice x2 d.nons.length x3, .int .i64 d.own, .slice x4 d.prods.length x5]] ((w.alloc (.cells #[.slice x0 d.terms.length x1, .slice x2 d.nons.length x3, .int .i64 d.own, .slice x4 d.prods.length x5] 37)).alloc (.cells #[.slice y0 g.attrs.length y1, .slice y2 g.eqs.length y3] 42)) fun e w' => e = .returned (.bool (bnB d)) ∧ Below ((w.alloc (.cells #[.slice x0 d.terms.length x1, .slice x2 d.nons.length x3, .int .i64 d.own, .slice x4 d.prods.length x5] 37)).alloc (.cells #[.slice y0 g.attrs.length y1, .slice y2 g.eqs.length y3] 42)).heap.size ((w.alloc (.cells #[.slice x0 d.terms.length x1, .slice x2 d.nons.length x3, .int .i64 d.own, .slice x4 d.prods.length x5] 37)).alloc (.cells #[.slice y0 g.attrs.length y1, .slice y2 g.eqs.length y3] 42)) w') from sBnf_any d _ _ _ ((w.alloc (.cells #[.slice x0 d.terms.length x1, .slice x2 d.nons.length x3, .int .i64 d.own, .slice x4 d.prods.length x5] 37)).alloc (.cells #[.slice y0 g.attrs.length y1, .slice y2 g.eqs.length y3] 42)) (h.still hb2))
  have HT1 := (show Hid (∀ (x y z : Int) (wq : World), Calls Try.prog 18 #[.int .i64 x, .int .i64 y, .int .i64 z] wq fun e w' => e = .returned (.bool (wiB x y z)) ∧ w' = wq) from fun x y z wq => between_any x y z wq)
  have HT2 := (show Hid (∀ (s : ByteArray) (_ : s.size ≤ maxLen) (wq : World), Calls Try.prog 19 #[.string s] wq fun e w' => e = .returned (.bool (nmB s)) ∧ w' = wq) from fun s hs wq => sName s hs wq)
  rw [hbn] at HBN
  obtain ⟨a, cap, b, off, hv, hc, hm, ha, hcell⟩ := hg.attrs
  simp only [Value.slice.injEq] at hv
  obtain ⟨rfl, _, rfl⟩ := hv
  have HA := (show Hid _ from ha)
  have HC := (show Hid _ from hcell)
  clear B4 B5 hb2 hs1 h hg ha hcell hbn
  go_enter Try.func6, Try.ntmps6
  go_wp2_with fail
  refine Calls.mono HBN.out ?_
  rintro e w2 ⟨rfl, hb2⟩
  clear q0 q1 q2 q3 r0 r1 HBN
  obtain ⟨q0, q1, q2, q3, r0, r1⟩ := HQ.out _ hb2
  go_wp2_with fail
  clear q0 q1 q2 q3 r0 r1
  generalize ((w.alloc (.cells #[.slice x0 d.terms.length x1, .slice x2 d.nons.length x3, .int .i64 d.own, .slice x4 d.prods.length x5] 37)).alloc (.cells #[.slice y0 g.attrs.length y1, .slice y2 g.eqs.length y3] 42)) = W at *
  go_loopw [5, 7] (fun i k wr => ∃ j : Nat, i = .int .i64 j ∧ j ≤ g.attrs.length ∧ Below W.heap.size W wr ∧ Hid (∀ i, i < j → attB d g i = true)) (fun i _ _ => g.attrs.length - (intOf i).toNat)
  case atStart => exact ⟨0, rfl, Nat.zero_le _, hb2, fun i h0 => absurd h0 (Nat.not_lt_zero _)⟩
  case round =>
    clear hb2
    obtain ⟨j, rfl, hj, hbel, HX⟩ := hrel
    obtain ⟨q0, q1, q2, q3, r0, r1⟩ := HQ.out _ hbel
    have HBW := (show Hid (Below w.heap.size w wr) from bel_trans HBB.out hbel)
    by_cases hlt : j < g.attrs.length
    · obtain ⟨rfl, _⟩ := HA.out (by omega)
      obtain ⟨c0, c1, c2, hs⟩ := HC.out j hlt
      rw [← HBW.out.cell (lt_of_cell c0)] at c0
      rw [← HBW.out.cell (lt_of_cell c1)] at c1
      rw [← HBW.out.cell (lt_of_cell c2)] at c2
      have i1 : (0 : Int) ≤ (j : Int) := by omega
      have i2 : (j : Int) < (g.attrs.length : Int) := by omega
      have HN1 := (show Hid _ from fun wq => HT1.out g.attrs[j].non 0 ((d.nons.length : Int) - 1) wq)
      have HN2 := (show Hid _ from fun wq => HT2.out g.attrs[j].name hs wq)
      obtain ⟨_, q1', _, _, _, _⟩ := HQ.out _ (bel_trans hbel (bel_alloc wr (.cells #[.int .i64 g.attrs[j].non, .string g.attrs[j].name, .bool g.attrs[j].down] 54)))
      have HBX := (show Hid (∀ o, Below w.heap.size w (wr.alloc o)) from fun o => bel_trans HBW.out (bel_alloc _ _))
      cases hw : wiB g.attrs[j].non 0 ((d.nons.length : Int) - 1)
      · have HF := (show Hid _ from ag_no_att j hlt (att_no_non hlt hw))
        rw [hw] at HN1
        clear hw
        go_wp2_with fail
        refine Calls.mono (HN1.out _) ?_
        rintro e w3 ⟨rfl, rfl⟩
        go_wp2_with fail
        go_ret
        exact ⟨by rw [HF.out]; rfl, HBX.out _⟩
      cases hn : nmB g.attrs[j].name
      · have HF := (show Hid _ from ag_no_att (d := d) j hlt (att_no_name hlt hn))
        rw [hw] at HN1
        rw [hn] at HN2
        clear hw hn
        go_wp2_with fail
        refine Calls.mono (HN1.out _) ?_
        rintro e w3 ⟨rfl, rfl⟩
        go_wp2_with fail
        refine Calls.mono (HN2.out _) ?_
        rintro e w3 ⟨rfl, rfl⟩
        go_wp2_with fail
        go_ret
        exact ⟨by rw [HF.out]; rfl, HBX.out _⟩
      · have HY := (show Hid _ from att_yes hlt hw hn)
        rw [hw] at HN1
        rw [hn] at HN2
        clear hw hn
        go_wp2_with fail
        refine Calls.mono (HN1.out _) ?_
        rintro e w3 ⟨rfl, rfl⟩
        go_wp2_with fail
        refine Calls.mono (HN2.out _) ?_
        rintro e w3 ⟨rfl, rfl⟩
        go_wp2_with fail
        clear q0 q1 q1' q2 q3 r0 r1 c0 c1 c2 HN1 HN2
        have hbl : Below W.heap.size W (wr.alloc (.cells #[.int .i64 g.attrs[j].non, .string g.attrs[j].name, .bool g.attrs[j].down] 54)) := bel_trans hbel (bel_alloc _ _)
        have HV := (show Hid (∀ wq : World, Below (wr.alloc (.cells #[.int .i64 g.attrs[j].non, .string g.attrs[j].name, .bool g.attrs[j].down] 54)).heap.size (wr.alloc (.cells #[.int .i64 g.attrs[j].non, .string g.attrs[j].name, .bool g.attrs[j].down] 54)) wq → wq.cell? ⟨wr.heap.size, 0, none⟩ = some (.int .i64 g.attrs[j].non) ∧ wq.cell? ⟨wr.heap.size, 1, none⟩ = some (.string g.attrs[j].name)) from fun wq hq => ⟨((Box.new wr 54 [.int .i64 g.attrs[j].non, .string g.attrs[j].name, .bool g.attrs[j].down]).still hq).cell 0 (by simp), ((Box.new wr 54 [.int .i64 g.attrs[j].non, .string g.attrs[j].name, .bool g.attrs[j].down]).still hq).cell 1 (by simp)⟩)
        generalize hW1 : wr.alloc (.cells #[.int .i64 g.attrs[j].non, .string g.attrs[j].name, .bool g.attrs[j].down] 54) = W1 at *
        have HL := (show Hid (Below W.heap.size W W1) from hbl)
        clear hbl hbel hW1 HBX HBW
        go_loopw [7] (fun i wq => ∃ k : Nat, i = .int .i64 k ∧ k ≤ j ∧ Below W1.heap.size W1 wq ∧ Hid (∀ i (hi : i < g.attrs.length), i < k → ¬ (g.attrs[i].non = g.attrs[j].non ∧ g.attrs[i].name = g.attrs[j].name))) (fun i _ => j - (intOf i).toNat)
        case atStart => exact ⟨0, rfl, Nat.zero_le _, Below.refl _ _, fun i hi h0 => absurd h0 (Nat.not_lt_zero _)⟩
        case round =>
          obtain ⟨k, rfl, hk, hbq, HK⟩ := hrel
          have hbw : Below W.heap.size W wr := bel_trans HL.out hbq
          obtain ⟨q0, q1, q2, q3, r0, r1⟩ := HQ.out _ hbw
          obtain ⟨s0, s1⟩ := HV.out _ hbq
          have HBW := (show Hid (∀ m, Below w.heap.size w (wr.drewN m)) from fun m => bel_drewS (bel_trans HBB.out hbw) m)
          have HB1 := (show Hid (∀ m, Below W1.heap.size W1 (wr.drewN m)) from fun m => bel_drewS hbq m)
          by_cases hkj : k < j
          · have hkl : k < g.attrs.length := by omega
            obtain ⟨c0, c1, c2, hs2⟩ := HC.out k hkl
            rw [← (bel_trans HBB.out hbw).cell (lt_of_cell c0)] at c0
            rw [← (bel_trans HBB.out hbw).cell (lt_of_cell c1)] at c1
            clear c2 hbw
            have k1 : (0 : Int) ≤ (k : Int) := by omega
            have k2 : (k : Int) < (g.attrs.length : Int) := by omega
            by_cases he : g.attrs[k].non = g.attrs[j].non
            · by_cases he2 : g.attrs[k].name = g.attrs[j].name
              · have HF := (show Hid _ from ag_no_att (d := d) j hlt (att_no_same hkj hlt he he2))
                rw [he] at c0
                rw [he2] at c1
                clear he he2
                go_wp2_with fail
                go_quiet (fail)
                go_wp2_with fail
                go_ret
                exact ⟨by rw [HF.out]; rfl, HBW.out _⟩
              · have HN : Hid (∀ i (hi : i < g.attrs.length), i < k + 1 → ¬ (g.attrs[i].non = g.attrs[j].non ∧ g.attrs[i].name = g.attrs[j].name)) := fun i hi hik => by
                  by_cases e : i = k
                  · subst e; exact fun h => he2 h.2
                  · exact HK.out i hi (by omega)
                have hbe := ne_bytes he2
                rw [he] at c0
                clear he he2
                go_wp2_with fail
                go_quiet (fail)
                go_wp2_with fail
                exact ⟨⟨k + 1, by go_num, by omega, HB1.out _, HN⟩, by simp [intOf]; omega⟩
            · have HN : Hid (∀ i (hi : i < g.attrs.length), i < k + 1 → ¬ (g.attrs[i].non = g.attrs[j].non ∧ g.attrs[i].name = g.attrs[j].name)) := fun i hi hik => by
                by_cases e : i = k
                · subst e; exact fun h => he h.1
                · exact HK.out i hi (by omega)
              have hbe : (g.attrs[k].non == g.attrs[j].non) = false := by simpa using he
              clear he
              go_wp2_with fail
              go_quiet (fail)
              go_wp2_with fail
              exact ⟨⟨k + 1, by go_num, by omega, HB1.out _, HN⟩, by simp [intOf]; omega⟩
          · have hkj' : k = j := by omega
            have HN : Hid (∀ i, i < j + 1 → attB d g i = true) := fun i hij => by
              by_cases e : i = j
              · subst e; exact HY.out fun q hq => HK.out q (by omega) (by omega)
              · exact HX.out i (by omega)
            have HW := (show Hid (Below W.heap.size W wr) from hbw)
            clear hkj' hbw
            go_wp2_with fail
            exact ⟨⟨j + 1, by go_num, by omega, HW.out, HN⟩, by simp [intOf]; omega⟩
    · exact absurd (fun i hi => HX.out i (by omega)) hno
end Go.Proofs.Ytnmdgbnbnpibhaa
