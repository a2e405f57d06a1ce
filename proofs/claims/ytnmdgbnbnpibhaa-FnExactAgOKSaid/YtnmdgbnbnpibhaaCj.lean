import Derived.Test.YtnmdgbnbnpibhaaCi
/-! The program: attributes that are right. -/
namespace Go.Proofs.Ytnmdgbnbnpibhaa
open Go.RowKit Go.Deep Go.Maps Go.WideMaps Go.ChangeMaps
set_option linter.unusedVariables false
set_option maxRecDepth 100000
set_option linter.unusedSimpArgs false

theorem K1.below {a B : Nat} {x y : World} (h : K1 a x y) (ha : B ≤ a) (hB : B ≤ x.heap.size) : Below B x y :=
  ⟨h.os, h.tape, h.output, h.size, fun k hk => h.block k (by omega) (by omega)⟩
/-- The keys of the first so many. -/
def ksA (g : DAg) (j : Nat) : List Value := (g.attrs.take j).map fun t => kvA t.non t.name
theorem ksA_len {g : DAg} {j : Nat} (h : j ≤ g.attrs.length) : (ksA g j).length = j := by simp [ksA]; omega
theorem ksA_next {g : DAg} {j : Nat} (h : j < g.attrs.length) : ksA g (j + 1) = ksA g j ++ [kvA g.attrs[j].non g.attrs[j].name] := by
  unfold ksA; rw [List.take_succ_eq_append_getElem h, List.map_append]; rfl
theorem kvA_inj {n m : Int} {s r : ByteArray} (h : kvA n s = kvA m r) : n = m ∧ s = r := by
  simp [kvA] at h
  exact h
theorem attq_hit {d : Bn} {g : DAg} {j n : Nat} (hj : j < g.attrs.length) (h : (ksA g j)[n]? = some (kvA g.attrs[j].non g.attrs[j].name)) : n < j ∧ attB d g j = false := by
  unfold ksA at h
  rw [List.getElem?_map, List.getElem?_take] at h
  by_cases hn : n < j
  · rw [if_pos hn, List.getElem?_eq_getElem (by omega)] at h
    simp only [Option.map_some, Option.some.injEq] at h
    obtain ⟨e1, e2⟩ := kvA_inj h
    refine ⟨hn, ?_⟩
    unfold attB
    have e : ((List.range j).all fun k => !(decide ((atN g k).non = (atN g j).non) && decide ((atN g k).name.data = (atN g j).name.data))) = false := by
      rw [List.all_eq_false]
      refine ⟨n, List.mem_range.2 hn, ?_⟩
      rw [atN_eq (show n < g.attrs.length by omega), atN_eq hj, e1, e2]
      simp
    rw [e]; simp
  · rw [if_neg hn] at h; simp at h
theorem attq_new {d : Bn} {g : DAg} {j : Nat} (hj : j < g.attrs.length) (h1 : wiB g.attrs[j].non 0 ((d.nons.length : Int) - 1) = true) (h2 : nmB g.attrs[j].name = true) (h : kvA g.attrs[j].non g.attrs[j].name ∉ ksA g j) : attB d g j = true := by
  unfold attB
  rw [atN_eq hj, h1, h2, Bool.true_and, Bool.true_and, List.all_eq_true]
  intro k hk
  have hk' := List.mem_range.1 hk
  rw [atN_eq (show k < g.attrs.length by omega)]
  cases e : (decide (g.attrs[k].non = g.attrs[j].non) && decide (g.attrs[k].name.data = g.attrs[j].name.data))
  · rfl
  · exfalso
    rw [Bool.and_eq_true, decide_eq_true_eq, decide_eq_true_eq] at e
    apply h
    unfold ksA
    refine List.mem_map.2 ⟨g.attrs[k], List.mem_take_iff_getElem.2 ⟨k, by omega, rfl⟩, ?_⟩
    have e2 : g.attrs[k].name = g.attrs[j].name := by
      have := e.2
      cases hx : g.attrs[k].name; cases hy : g.attrs[j].name
      rw [hx, hy] at this
      exact congrArg ByteArray.mk this
    rw [e.1, e2]
theorem attq_non {d : Bn} {g : DAg} {j : Nat} (hj : j < g.attrs.length) (h1 : wiB g.attrs[j].non 0 ((d.nons.length : Int) - 1) = false) : attB d g j = false := by
  unfold attB; rw [atN_eq hj, h1]; rfl
theorem attq_nam {d : Bn} {g : DAg} {j : Nat} (hj : j < g.attrs.length) (h1 : nmB g.attrs[j].name = false) : attB d g j = false := by
  unfold attB; rw [atN_eq hj, h1]; simp
theorem box3 {w w' : World} {g T : Nat} {c0 c1 c2 : Value} (h : Box w g T [c0, c1, c2]) (hb : Below w.heap.size w w') :
    w'.cell? ⟨g, 0, none⟩ = some c0 ∧ w'.cell? ⟨g, 1, none⟩ = some c1 ∧ w'.cell? ⟨g, 2, none⟩ = some c2 :=
  ⟨(h.still hb).cell 0 (by simp), (h.still hb).cell 1 (by simp), (h.still hb).cell 2 (by simp)⟩
set_option maxHeartbeats 6400000 in
theorem atr30 {S S' : Nat → Prop} (d : Bn) (g : DAg) (v0 v1 v3 u0 u1 : Value) (w : World) (h : BLies w S d v0 v1 v3) (hg : DAgL w S' g u0 u1) (hN : d.nons.length ≤ 100) (hA : g.attrs.length ≤ 20) :
    Calls Try.prog 30 #[.agg #[v0, v1, .int .i64 d.own, v3, u0, u1]] w fun e w' => e = .returned (.bool ((List.range g.attrs.length).all (attB d g))) ∧ Below w.heap.size w w' := by
  have hl := hg.attrs
  obtain ⟨x0, x1, x2, x3, x4, x5, rfl, rfl, rfl⟩ := h.form
  obtain ⟨y0, y1, y2, y3, rfl, rfl⟩ := hg.form
  clear h hg
  obtain ⟨a, cap, b, off, hv, hc, hm, ha, hcell⟩ := hl
  have hv1 : y0 = a := by injection hv
  have hv2 : y1 = cap := by injection hv
  subst hv1 hv2
  clear hv
  have HC := (show Hid _ from hcell); clear hcell
  have HA := (show Hid _ from ha); clear ha
  unfold maxLen at hm
  have HNON := (show Hid _ from fun (x : Int) (w' : World) => hasNon57 d (.slice x0 0 0) (.slice x4 0 0) x2 x0 x4 x1 x3 x5 d.terms.length d.prods.length x w')
  generalize hRes : (List.range g.attrs.length).all (attB d g) = R
  have HYES := (show Hid ((∀ k, k < g.attrs.length → attB d g k = true) → R = true) from fun h => by
    rw [← hRes, List.all_eq_true]; exact fun k hk => h k (List.mem_range.1 hk))
  have HNO := (show Hid (∀ k, k < g.attrs.length → attB d g k = false → R = false) from fun k hk h => by
    rw [← hRes, List.all_eq_false]; exact ⟨k, List.mem_range.2 hk, by rw [h]; simp⟩)
  clear hRes
  have hmk := fun w => run_makeMap (P := Try.prog) 110 w
  have hb1 := bel_alloc w (.cells #[.slice x0 d.terms.length x1, .slice x2 d.nons.length x3, .int .i64 d.own, .slice x4 d.prods.length x5, .slice y0 g.attrs.length y1, .slice y2 g.eqs.length y3] 76)
  have hb2 : Below w.heap.size w ((w.alloc (.cells #[.slice x0 d.terms.length x1, .slice x2 d.nons.length x3, .int .i64 d.own, .slice x4 d.prods.length x5, .slice y0 g.attrs.length y1, .slice y2 g.eqs.length y3] 76)).alloc (.map #[] 0)) := bel_trans hb1 (bel_alloc _ _)
  have b1 := (Box.new w 76 [.slice x0 d.terms.length x1, .slice x2 d.nons.length x3, .int .i64 d.own, .slice x4 d.prods.length x5, .slice y0 g.attrs.length y1, .slice y2 g.eqs.length y3]).still (bel_alloc (w.alloc (.cells #[.slice x0 d.terms.length x1, .slice x2 d.nons.length x3, .int .i64 d.own, .slice x4 d.prods.length x5, .slice y0 g.attrs.length y1, .slice y2 g.eqs.length y3] 76)) (.map #[] 0))
  have m1 := Mn.new (w.alloc (.cells #[.slice x0 d.terms.length x1, .slice x2 d.nons.length x3, .int .i64 d.own, .slice x4 d.prods.length x5, .slice y0 g.attrs.length y1, .slice y2 g.eqs.length y3] 76)) 54
  rw [show (w.alloc (.cells #[.slice x0 d.terms.length x1, .slice x2 d.nons.length x3, .int .i64 d.own, .slice x4 d.prods.length x5, .slice y0 g.attrs.length y1, .slice y2 g.eqs.length y3] 76)).heap.size = w.heap.size + 1 by simp] at m1
  have H0 := (show Hid (_ ∧ _ ∧ Mn ((w.alloc (.cells #[.slice x0 d.terms.length x1, .slice x2 d.nons.length x3, .int .i64 d.own, .slice x4 d.prods.length x5, .slice y0 g.attrs.length y1, .slice y2 g.eqs.length y3] 76)).alloc (.map #[] 0)) (w.heap.size + 1) 54 (ksA g 0)) from ⟨hb2, b1, by simpa [ksA] using m1⟩)
  clear hb1 hb2 b1 m1
  obtain ⟨q0, q1, q2, q3, q4, q5⟩ := box6 H0.out.2.1 (Below.refl _ _)
  go_enter Try.func30, Try.ntmps30
  go_wp2_with fail
  clear q0 q1 q2 q3 q4 q5
  go_loopw [11] (fun i wr => ∃ j : Nat, i = .int .i64 j ∧ j ≤ g.attrs.length ∧ Hid (∀ k, k < j → attB d g k = true) ∧ Hid (Below w.heap.size w wr ∧ Box wr w.heap.size 76 [.slice x0 d.terms.length x1, .slice x2 d.nons.length x3, .int .i64 d.own, .slice x4 d.prods.length x5, .slice y0 g.attrs.length y1, .slice y2 g.eqs.length y3] ∧ Mn wr (w.heap.size + 1) 54 (ksA g j))) (fun i _ => g.attrs.length - (intOf i).toNat)
  case atStart => exact ⟨0, rfl, Nat.zero_le _, fun k hk => absurd hk (Nat.not_lt_zero _), H0⟩
  case round =>
    obtain ⟨j, rfl, hj, HJ, HW⟩ := hrel
    clear H0 hmk
    by_cases hjl : j < g.attrs.length
    · obtain ⟨ea, _⟩ := HA.out (by omega)
      obtain ⟨c0, c1, c2, zc⟩ := HC.out j hjl
      have hbel := HW.out.1
      rw [← hbel.cell (lt_of_cell c0)] at c0
      rw [← hbel.cell (lt_of_cell c1)] at c1
      rw [← hbel.cell (lt_of_cell c2)] at c2
      have HNX := (show Hid (attB d g j = true → ∀ k, k < j + 1 → attB d g k = true) from fun h k hk => by
        by_cases e : k = j
        · subst e; exact h
        · exact HJ.out k (by omega))
      have HF1 := (show Hid (wiB g.attrs[j].non 0 ((d.nons.length : Int) - 1) = false → R = false) from fun h => HNO.out j hjl (attq_non hjl h))
      have HF2 := (show Hid (nmB g.attrs[j].name = false → R = false) from fun h => HNO.out j hjl (attq_nam hjl h))
      have HF3 := (show Hid (∀ n, (ksA g j)[n]? = some (kvA g.attrs[j].non g.attrs[j].name) → n < j ∧ R = false) from fun n h => ⟨(attq_hit (d := d) hjl h).1, HNO.out j hjl (attq_hit hjl h).2⟩)
      have HT3 := (show Hid (wiB g.attrs[j].non 0 ((d.nons.length : Int) - 1) = true → nmB g.attrs[j].name = true → kvA g.attrs[j].non g.attrs[j].name ∉ ksA g j → ∀ k, k < j + 1 → attB d g k = true) from fun h1 h2 h3 => HNX.out (attq_new hjl h1 h2 h3))
      have HKN := (show Hid (ksA g (j + 1) = ksA g j ++ [kvA g.attrs[j].non g.attrs[j].name]) from ksA_next hjl)
      have HKL := (show Hid ((ksA g j).length = j) from ksA_len (by omega))
      have HKEY := (show Hid (wiB g.attrs[j].non 0 ((d.nons.length : Int) - 1) = true → nmB g.attrs[j].name = true → ∃ l, keyOf Try.prog 54 (kvA g.attrs[j].non g.attrs[j].name) = some l) from fun h1 h2 => by
        refine key54 ?_ ?_
        · unfold wiB at h1; have := of_decide_eq_true h1; exact ⟨by omega, by omega⟩
        · have := (nmB_iff.1 h2).2.1; omega)
      have HNM := (show Hid _ from fun (w' : World) => iName g.attrs[j].name zc w')
      clear HNX
      generalize g.attrs[j].non = z0 at *
      generalize g.attrs[j].name = z1 at *
      generalize g.attrs[j].down = z2 at *
      have HN1 := (show Hid _ from fun (w' : World) => HNON.out z0 w')
      have hbe := hbel.alloc hbel.size (.cells #[.int .i64 z0, .string z1, .bool z2] 54)
      have hba := bel_alloc wr (.cells #[.int .i64 z0, .string z1, .bool z2] 54)
      have HV := (show Hid (_ ∧ Box _ w.heap.size 76 [.slice x0 d.terms.length x1, .slice x2 d.nons.length x3, .int .i64 d.own, .slice x4 d.prods.length x5, .slice y0 g.attrs.length y1, .slice y2 g.eqs.length y3] ∧ Mn (wr.alloc (.cells #[.int .i64 z0, .string z1, .bool z2] 54)) (w.heap.size + 1) 54 (ksA g j) ∧ Box _ wr.heap.size 54 [.int .i64 z0, .string z1, .bool z2]) from ⟨hbe, HW.out.2.1.still hba, HW.out.2.2.keep (hba.block _ HW.out.2.2.lt), Box.new wr 54 [.int .i64 z0, .string z1, .bool z2]⟩)
      have HP := (show Hid (w.heap.size < wr.heap.size ∧ w.heap.size + 1 < wr.heap.size) from ⟨HW.out.2.1.lt, HW.out.2.2.lt⟩)
      clear hbe hba hbel HW
      obtain ⟨q0, q1, q2, q3, q4, q5⟩ := box6 HV.out.2.1 (Below.refl _ _)
      obtain ⟨w0, hw0⟩ : ∃ w0, w0 = wr := ⟨_, rfl⟩
      subst ea
      generalize wiB z0 0 ((d.nons.length : Int) - 1) = A at *
      generalize nmB z1 = NB at *
      cases A
      · have HF := (show Hid (R = false) from HF1.out rfl)
        go_wp2_with fail
        refine Calls.mono (HN1.out _) ?_
        rintro e w1 ⟨rfl, hb1⟩
        have HE := (show Hid _ from bel_trans HV.out.1 hb1); clear hb1
        go_wp2_with fail
        go_ret
        exact ⟨ret_bool HF.out.symm, HE.out⟩
      go_wp2_with fail
      refine Calls.mono (HN1.out _) ?_
      rintro e w1 ⟨rfl, hb1⟩
      have HV1 := (show Hid (Below w.heap.size w w1 ∧ Box w1 w.heap.size 76 [.slice x0 d.terms.length x1, .slice x2 d.nons.length x3, .int .i64 d.own, .slice x4 d.prods.length x5, .slice (some ⟨b, off, none⟩) g.attrs.length y1, .slice y2 g.eqs.length y3] ∧ Mn w1 (w.heap.size + 1) 54 (ksA g j) ∧ Box w1 w0.heap.size 54 [.int .i64 z0, .string z1, .bool z2]) from by
        rw [hw0]
        exact ⟨bel_trans HV.out.1 hb1, HV.out.2.1.still hb1, HV.out.2.2.1.keep (hb1.block _ HV.out.2.2.1.lt), HV.out.2.2.2.still hb1⟩)
      clear hb1 q0 q1 q2 q3 q4 q5 HV c0 c1 c2
      subst hw0
      obtain ⟨t0, t1, t2⟩ := box3 HV1.out.2.2.2 (Below.refl _ _)
      cases NB
      · have HF := (show Hid (R = false) from HF2.out rfl)
        go_wp2_with fail
        refine Calls.mono (HNM.out _) ?_
        rintro e w2 ⟨rfl, rfl⟩
        go_wp2_with fail
        go_ret
        exact ⟨ret_bool HF.out.symm, HV1.out.1⟩
      obtain ⟨l, hkl⟩ := HKEY.out (by simp) (by simp)
      have HNU : Hid (Calls Try.prog 59 #[.map (some (w.heap.size + 1)), .agg #[.int .i64 z0, .string z1, .bool false]] w1 (NoR (w.heap.size + 1) 54 (ksA g j) (kvA z0 z1) w1)) := number59 (w.heap.size + 1) (ksA g j) z0 z1 l w1 hkl HV1.out.2.2.1 (by rw [HKL.out]; omega)
      clear hkl HKEY
      go_wp2_with fail
      refine Calls.mono (HNM.out _) ?_
      rintro e w2 ⟨rfl, hw2⟩
      obtain rfl := hw2.symm
      go_wp2_with fail
      refine Calls.mono HNU.out ?_
      rintro e w3 ⟨n, rfl, hk1, hcase⟩
      have hb3 : Below w.heap.size w w3 := HV1.out.1.trans (hk1.below (by omega) HV1.out.1.size)
      have HB3 := (show Hid _ from hb3); clear hb3
      rcases hcase with ⟨hit, hmn⟩ | ⟨hnew, hn, hmn⟩
      · obtain ⟨hnj, hF⟩ := HF3.out n hit
        have HF := (show Hid (R = false) from hF)
        clear hit hmn hk1 hF t0 t1 t2
        have hne : ((n : Int) != (j : Int)) = true := by simp; omega
        go_wp2_with fail
        go_ret
        exact ⟨ret_bool HF.out.symm, HB3.out⟩
      · rw [HKL.out] at hn
        have HJ2 := (show Hid _ from HT3.out (by simp) (by simp) hnew)
        have HW2 := (show Hid (Below w.heap.size w w3 ∧ Box w3 w.heap.size 76 [.slice x0 d.terms.length x1, .slice x2 d.nons.length x3, .int .i64 d.own, .slice x4 d.prods.length x5, .slice (some ⟨b, off, none⟩) g.attrs.length y1, .slice y2 g.eqs.length y3] ∧ Mn w3 (w.heap.size + 1) 54 (ksA g (j + 1))) from
          ⟨HB3.out, HV1.out.2.1.keep (hk1.block _ HV1.out.2.1.lt (by omega)), by rw [HKN.out]; exact hmn⟩)
        subst hn
        clear hmn hk1 hnew t0 t1 t2
        have hne : ((n : Int) != (n : Int)) = false := by simp
        go_wp2_with fail
        exact ⟨⟨n + 1, by go_num, by omega, HJ2, HW2⟩, by simp [intOf]; omega⟩
    · have HF := (show Hid (R = true) from HYES.out (fun k hk => HJ.out k (by omega)))
      go_wp2_with fail
      go_ret
      exact ⟨ret_bool HF.out.symm, HW.out.1⟩
end Go.Proofs.Ytnmdgbnbnpibhaa
