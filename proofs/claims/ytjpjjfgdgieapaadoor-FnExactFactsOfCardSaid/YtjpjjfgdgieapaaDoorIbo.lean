import Derived.Test.YtjpjjfgdgieapaaDoorBok
import Derived.Deep.AppendLies
/-! The program's BnfOK. -/
namespace Go.Proofs.YtjpjjfgdgieapaaDoor
open Go.RowKit Go.Deep
set_option linter.unusedVariables false
set_option maxRecDepth 100000
set_option linter.unusedSimpArgs false

theorem bel2 (w : World) (o o' : Obj) : Below w.heap.size w ((w.alloc o).alloc o') := (bel_alloc _ _).alloc (by simp) _
set_option maxHeartbeats 1600000 in
theorem prodRight_any {S : Nat → Prop} (d : Bn) (p : Pd) (v0 v1 v3 vr : Value) (w : World) (h : BLies w S d v0 v1 v3) (hr : Ints w S p.right vr) (hl : p.label.size ≤ maxLen) (hT : d.terms.length ≤ 60) (hN : d.nons.length ≤ 100) :
    Calls Tryd.prog 60 #[.agg #[v0, v1, .int .i64 d.own, v3], .agg #[.int .i64 p.left, vr, .string p.label, .int .i64 p.lev, .int .i64 p.asc]] w fun e w' => e = .returned (.bool (pdB d.terms.length d.nons.length p)) ∧ Below w.heap.size w w' := by
  obtain ⟨a0, p0, a1, p1, a3, p3, rfl, rfl, rfl⟩ := h.form
  obtain ⟨ar, cr, rfl, hm⟩ := hr.form
  have HW := (show Hid _ from fun (w' : World) (hb : Below w.heap.size w w') => within_any p.right 0 ((d.terms.length : Int) + d.nons.length - 1) _ w' (hr.still hb))
  have HM := (show Hid _ from fun (w' : World) => iName p.label hl w')
  have HS := (show Hid _ from fun (w' : World) => strength_i p.lev p.asc w')
  clear h hr
  unfold maxLen at hm
  have hE := isEmpty_iff p.label
  unfold pdB
  generalize p.right.all (fun x => wiB x 0 ((d.terms.length : Int) + d.nons.length - 1)) = B4 at *
  generalize nmB p.label = B6 at *
  generalize stB p.lev p.asc = B7 at *
  generalize d.terms.length = T at *
  generalize d.nons.length = N at *
  generalize p.right.length = R at *
  by_cases c1 : (T : Int) ≤ p.left
  · by_cases c2 : p.left ≤ (T : Int) + N - 1
    · have e1 : wiB p.left T ((T : Int) + N - 1) = true := by simp [wiB]; omega
      rw [e1]
      by_cases c3 : R ≤ 12
      · cases B4
        · go_enter Tryd.func60, Tryd.ntmps60
          go_wp2_with fail
          refine Calls.mono (HW.out _ (bel2 _ _ _)) ?_
          rintro e w1 ⟨rfl, rfl⟩
          go_wp2_with fail
          go_ret
          exact ⟨ret_bool (by simp), bel2 _ _ _⟩
        · by_cases c5 : p.label.size = 0
          · rw [decide_eq_true c5] at hE
            rw [decide_eq_true c5]
            go_enter Tryd.func60, Tryd.ntmps60
            go_wp2_with fail
            refine Calls.mono (HW.out _ (bel2 _ _ _)) ?_
            rintro e w1 ⟨rfl, rfl⟩
            go_wp2_with fail
            refine Calls.mono (HS.out _) ?_
            rintro e w1 ⟨rfl, rfl⟩
            go_wp2_with fail
            go_ret
            exact ⟨ret_bool (by simp [c3]), bel2 _ _ _⟩
          · rw [decide_eq_false c5] at hE
            rw [decide_eq_false c5]
            cases B6
            · go_enter Tryd.func60, Tryd.ntmps60
              go_wp2_with fail
              refine Calls.mono (HW.out _ (bel2 _ _ _)) ?_
              rintro e w1 ⟨rfl, rfl⟩
              go_wp2_with fail
              refine Calls.mono (HM.out _) ?_
              rintro e w1 ⟨rfl, rfl⟩
              go_wp2_with fail
              go_ret
              exact ⟨ret_bool (by simp), bel2 _ _ _⟩
            · go_enter Tryd.func60, Tryd.ntmps60
              go_wp2_with fail
              refine Calls.mono (HW.out _ (bel2 _ _ _)) ?_
              rintro e w1 ⟨rfl, rfl⟩
              go_wp2_with fail
              refine Calls.mono (HM.out _) ?_
              rintro e w1 ⟨rfl, rfl⟩
              go_wp2_with fail
              refine Calls.mono (HS.out _) ?_
              rintro e w1 ⟨rfl, rfl⟩
              go_wp2_with fail
              go_ret
              exact ⟨ret_bool (by simp [c3]), bel2 _ _ _⟩
      · go_enter Tryd.func60, Tryd.ntmps60
        go_wp2_with fail
        go_ret
        exact ⟨ret_bool (by simp [c3]), bel2 _ _ _⟩
    · have e1 : wiB p.left T ((T : Int) + N - 1) = false := by simp [wiB]; omega
      rw [e1]
      go_enter Tryd.func60, Tryd.ntmps60
      go_wp2_with fail
      go_ret
      exact ⟨ret_bool (by simp), bel2 _ _ _⟩
  · have e1 : wiB p.left T ((T : Int) + N - 1) = false := by simp [wiB]; omega
    rw [e1]
    go_enter Tryd.func60, Tryd.ntmps60
    go_wp2_with fail
    go_ret
    exact ⟨ret_bool (by simp), bel2 _ _ _⟩
end Go.Proofs.YtjpjjfgdgieapaaDoor

namespace Go.Proofs.YtjpjjfgdgieapaaDoor
open Go.RowKit Go.Deep
set_option linter.unusedVariables false
set_option maxRecDepth 100000
set_option linter.unusedSimpArgs false

set_option maxHeartbeats 1600000 in
theorem dollar_any {S : Nat → Prop} (d : Bn) (p : Pd) (v0 v1 v3 vr : Value) (w : World) (g : Nat) (h : BLies w S d v0 v1 v3) (hg : Box4 w g 38 v0 v1 (.int .i64 d.own) v3) (hr : Ints w S p.right vr) (hl : p.label.size ≤ maxLen) (hT : d.terms.length ≤ 60) (hN : d.nons.length ≤ 100) :
    Calls Tryd.prog 59 #[.agg #[.int .i64 p.left, vr, .string p.label, .int .i64 p.lev, .int .i64 p.asc], .pointer (some ⟨g, 0, none⟩)] w fun e w' => e = .returned (.bool (pdB d.terms.length d.nons.length p)) ∧ Below w.heap.size w w' := by
  have HP := (show Hid _ from fun (w' : World) (hb : Below w.heap.size w w') => prodRight_any d p v0 v1 v3 vr w' (h.still hb) (hr.still hb) hl hT hN)
  have q := hg.still (bel_alloc w (.cells #[.int .i64 p.left, vr, .string p.label, .int .i64 p.lev, .int .i64 p.asc] 82))
  obtain ⟨a0, p0, a1, p1, a3, p3, rfl, rfl, rfl⟩ := h.form
  obtain ⟨ar, cr, rfl, hm⟩ := hr.form
  obtain ⟨x0, x1, x2, x3⟩ := q.cells
  clear q h hr hg
  generalize pdB d.terms.length d.nons.length p = R at *
  go_enter Tryd.func59, Tryd.ntmps59
  go_wp2_with fail
  refine Calls.mono (HP.out _ (bel_alloc _ _)) ?_
  rintro e w1 ⟨rfl, hb⟩
  have HB := (show Hid _ from bel_trans (bel_alloc _ _) hb); clear hb x0 x1 x2 x3
  go_wp2_with fail
  go_ret
  exact ⟨rfl, HB.out⟩
set_option maxHeartbeats 1600000 in
theorem all_any {S : Nat → Prop} (d : Bn) (v0 v1 v3 : Value) (w : World) (g : Nat) (h : BLies w S d v0 v1 v3) (hg : Box4 w g 38 v0 v1 (.int .i64 d.own) v3) (hT : d.terms.length ≤ 60) (hN : d.nons.length ≤ 100) :
    Calls Tryd.prog 58 #[v3, .func (.func 59) #[] #[.pointer (some ⟨g, 0, none⟩)]] w fun e w' => e = .returned (.bool (d.prods.all (pdB d.terms.length d.nons.length))) ∧ Below w.heap.size w w' := by
  have HD := (show Hid _ from fun (j : Nat) (hj : j < d.prods.length) (sv : Value) (hs : Ints w S d.prods[j].right sv) (hl : d.prods[j].label.size ≤ maxLen) (w' : World) (hb : Below w.heap.size w w') => dollar_any d d.prods[j] v0 v1 v3 sv w' g (h.still hb) (hg.still hb) (hs.still hb) hl hT hN)
  obtain ⟨a, cap, b, off, sv, rfl, hc, hm, ha, hcell, hr⟩ := h.prods
  have HC := (show Hid _ from hcell); clear hcell
  have HA := (show Hid _ from ha); clear ha
  have HR := (show Hid _ from hr); clear hr
  unfold maxLen at hm
  clear h hg
  generalize hRes : d.prods.all (pdB d.terms.length d.nons.length) = R
  have HRes := (show Hid _ from hRes); clear hRes
  go_enter Tryd.func58, Tryd.ntmps58
  go_wp2_with fail
  go_loopw [9] (fun i wr => ∃ j : Nat, i = .int .i64 j ∧ j ≤ d.prods.length ∧ Hid (∀ i (hi : i < d.prods.length), i < j → pdB d.terms.length d.nons.length d.prods[i] = true) ∧ Below w.heap.size w wr) (fun i _ => d.prods.length - (intOf i).toNat)
  case atStart => exact ⟨0, rfl, Nat.zero_le _, fun i hi h0 => absurd h0 (Nat.not_lt_zero _), Below.refl _ _⟩
  case round =>
    obtain ⟨j, rfl, hj, HJ, hbel⟩ := hrel
    by_cases hjl : j < d.prods.length
    · have hjl' := hjl
      obtain ⟨rfl, _⟩ := HA.out (by omega)
      obtain ⟨c0, c1, c2, c3, c4, hs⟩ := HC.out j hjl'
      rw [← hbel.cell (lt_of_cell c0)] at c0
      rw [← hbel.cell (lt_of_cell c1)] at c1
      rw [← hbel.cell (lt_of_cell c2)] at c2
      rw [← hbel.cell (lt_of_cell c3)] at c3
      rw [← hbel.cell (lt_of_cell c4)] at c4
      have hcl := HD.out j hjl' (sv j) (HR.out j hjl') hs
      obtain ⟨a2, cap2, e2, _⟩ := (HR.out j hjl').form
      rw [e2] at c1 hcl
      have HCL := (show Hid _ from hcl); clear hcl e2
      generalize hB : pdB d.terms.length d.nons.length d.prods[j] = B at HCL
      have HB := (show Hid _ from hB); clear hB
      cases B
      · have HF : Hid (R = false) := by
          show R = false
          rw [← HRes.out, List.all_eq_false]
          exact ⟨d.prods[j], List.getElem_mem hjl', by rw [HB.out]; simp⟩
        go_wp2_with fail
        go_at_call 59
        refine Calls.mono (HCL.out _ (hbel.alloc hbel.size _)) ?_
        rintro e w1 ⟨rfl, hb1⟩
        have HE := (show Hid _ from bel_trans (hbel.alloc hbel.size _) hb1); clear hb1 c0 c1 c2 c3 c4 hbel
        go_wp2_with fail
        go_ret
        exact ⟨by rw [HF.out]; rfl, HE.out⟩
      · have HN : Hid (∀ i (hi : i < d.prods.length), i < j + 1 → pdB d.terms.length d.nons.length d.prods[i] = true) := fun i hi hij => by
          by_cases e : i = j
          · subst e; exact HB.out
          · exact HJ.out i hi (by omega)
        go_wp2_with fail
        go_at_call 59
        refine Calls.mono (HCL.out _ (hbel.alloc hbel.size _)) ?_
        rintro e w1 ⟨rfl, hb1⟩
        have HE := (show Hid _ from bel_trans (hbel.alloc hbel.size _) hb1); clear hb1 c0 c1 c2 c3 c4 hbel
        go_wp2_with fail
        exact ⟨⟨j + 1, by go_num, by omega, HN, HE.out⟩, by simp [intOf]; omega⟩
    · have HF : Hid (R = true) := by
        show R = true
        rw [← HRes.out, List.all_eq_true]
        intro x hx
        obtain ⟨i, hi, rfl⟩ := List.mem_iff_getElem.1 hx
        exact HJ.out i hi (by omega)
      go_wp2_with fail
      go_ret
      exact ⟨by rw [HF.out]; rfl, hbel⟩
end Go.Proofs.YtjpjjfgdgieapaaDoor

namespace Go.Proofs.YtjpjjfgdgieapaaDoor
open Go.RowKit Go.Deep
set_option linter.unusedVariables false
set_option maxRecDepth 100000
set_option linter.unusedSimpArgs false

theorem own_still {w w' : World} {L e z n : Nat} {v : Value} {xs : List Value} (h : w.ownsRow L e z v n xs) (hb : Below w.heap.size w w') : w'.ownsRow L e z v n xs := by
  refine ⟨h.1, ?_⟩
  rcases h.2 with h0 | ⟨g, cap, cur, hv, hB, hg, r⟩
  · exact .inl h0
  · exact .inr ⟨g, cap, cur, hv, hB, (hb.block g (Array.getElem?_eq_some_iff.1 hg).1).trans hg, r⟩
theorem grown_below' {L : Nat} {o : Option Nat} {w0 w w' : World} (h : Below L w0 w) (g : w.grownBy w' o) (hb : ∀ b, o = some b → L ≤ b) (hL : L ≤ w.heap.size) : Below L w0 w' :=
  ⟨g.os.trans h.os, g.tape.trans h.tape, g.output.trans h.output, Nat.le_trans h.size g.size, fun k hk => (g.block k (by omega) (fun e => by have := hb k e.symm; omega)).trans (h.block k hk)⟩
theorem own_strs {w : World} {L n : Nat} {v : Value} {ts : List ByteArray} (h : w.ownsRow L 9 1 v n (ts.map .string)) (hn : n = ts.length) (hs : ∀ t ∈ ts, t.size ≤ maxLen) : Strs w (fun b => L ≤ b) ts v := by
  rcases h.2 with ⟨rfl, h0⟩ | ⟨g, cap, cur, rfl, hB, hg, hnc, hcm, hcs, htk⟩
  · obtain rfl : ts = [] := List.eq_nil_of_length_eq_zero (by omega)
    exact ⟨none, 0, 0, 0, rfl, Nat.le_refl _, Nat.zero_le _, fun h => absurd h (Nat.not_lt_zero _), fun i hi => absurd hi (Nat.not_lt_zero _)⟩
  · subst hn
    refine ⟨some ⟨g, 0, none⟩, cap, g, 0, rfl, hnc, hcm, fun _ => ⟨rfl, hB⟩, fun i hi => ⟨?_, hs _ (List.getElem_mem hi)⟩⟩
    have e0 := World.news_of_block hg i (.string ts[i])
    have e1 : (⟨g, 0, none⟩ : Addr).add i = ⟨g, 0 + i, none⟩ := by
      unfold Addr.add
      split
      · next h0 => subst h0; rfl
      · rfl
    rw [e1] at e0
    refine e0 ?_
    have e := congrArg (·[i]?) htk
    simp only [Nat.mul_one, List.getElem?_take, if_pos hi, List.getElem?_map, List.getElem?_eq_getElem hi] at e
    exact e
/-- The names of the first j Terms, as values. -/
def nmv (l : List Tm) (j : Nat) : List Value := ((l.take j).map (·.name)).map .string
theorem nmv_succ {l : List Tm} {j : Nat} (h : j < l.length) : nmv l (j + 1) = nmv l j ++ [.string l[j].name] := by
  unfold nmv
  rw [List.take_add_one, List.getElem?_eq_getElem h, List.map_append, List.map_append]
  rfl
set_option maxHeartbeats 1600000 in
theorem termsRight_any {S : Nat → Prop} (l : List Tm) (v : Value) (w : World) (h : Tms w S l v) (hl : l.length ≤ 60) :
    Calls Tryd.prog 56 #[v] w fun e w' => e = .returned (.bool (l.all (fun t => stB t.lev t.asc) && apB (l.map (·.name)))) ∧ Below w.heap.size w w' := by
  obtain ⟨a, cap, b, off, rfl, hc, hm, ha, hcell⟩ := h
  have HC := (show Hid _ from hcell); clear hcell
  have HA := (show Hid _ from ha); clear ha
  have HS := (show Hid _ from fun (l a : Int) (w : World) => strength_i l a w)
  unfold maxLen at hm
  obtain ⟨i9, hi9, hzz⟩ := Option.map_eq_some_iff.1 info9i
  simp only [Prod.mk.injEq] at hzz
  obtain ⟨hz0, hz1, hz2⟩ := hzz
  generalize hRes : (l.all (fun t => stB t.lev t.asc) && apB (l.map (·.name))) = R
  have HRes := (show Hid _ from hRes); clear hRes
  go_enter Tryd.func56, Tryd.ntmps56
  go_wp2_with fail
  go_loopw [3, 8] (fun u i wr => ∃ (j : Nat) (a : Option Addr) (c : Nat), u = .slice a j c ∧ i = .int .i64 j ∧ j ≤ l.length ∧ Hid (∀ i (hi : i < l.length), i < j → stB l[i].lev l[i].asc = true) ∧ Hid (wr.ownsRow w.heap.size 9 1 u j (nmv l j) ∧ Below w.heap.size w wr)) (fun _ i _ => l.length - (intOf i).toNat)
  case atStart => exact ⟨0, none, 0, rfl, rfl, Nat.zero_le _, fun i hi h0 => absurd h0 (Nat.not_lt_zero _), World.ownsRow_nil _ _ _ _, Below.refl _ _⟩
  case round =>
    obtain ⟨j, ar, cr, rfl, rfl, hj, HJ, HO⟩ := hrel
    have hbel := HO.out.2
    by_cases hjl : j < l.length
    · obtain ⟨rfl, _⟩ := HA.out (by omega)
      obtain ⟨c0, c1, c2, hs⟩ := HC.out j hjl
      rw [← hbel.cell (lt_of_cell c0)] at c0
      rw [← hbel.cell (lt_of_cell c1)] at c1
      rw [← hbel.cell (lt_of_cell c2)] at c2
      have HST := (show Hid _ from HS.out l[j].lev l[j].asc)
      generalize hB : stB l[j].lev l[j].asc = B at HST
      have HB := (show Hid _ from hB); clear hB
      cases B
      · have HF : Hid (R = false) := by
          show R = false
          rw [← HRes.out, Bool.and_eq_false_iff]
          left
          rw [List.all_eq_false]
          exact ⟨l[j], List.getElem_mem hjl, by rw [HB.out]; simp⟩
        have HE := (show Hid _ from fun o => hbel.alloc hbel.size o); clear hbel
        go_wp2_with fail
        refine Calls.mono (HST.out _) ?_
        rintro e w1 ⟨rfl, rfl⟩
        go_wp2_with fail
        go_ret
        exact ⟨by rw [HF.out]; rfl, HE.out _⟩
      · have HN : Hid (∀ i (hi : i < l.length), i < j + 1 → stB l[i].lev l[i].asc = true) := fun i hi hij => by
          by_cases e : i = j
          · subst e; exact HB.out
          · exact HJ.out i hi (by omega)
        have htk := nmv_succ hjl
        have hb2 : Below wr.heap.size wr ((wr.alloc (.cells #[.string l[j].name, .int .i64 l[j].lev, .int .i64 l[j].asc] 80)).alloc (.cells #[.string l[j].name] 9)) := bel2 _ _ _
        have hw2 := own_still HO.out.1 hb2
        have HX := (show Hid _ from (⟨hw2, bel_trans hbel hb2, hbel.size, HO.out.1⟩ : _ ∧ _ ∧ w.heap.size ≤ wr.heap.size ∧ _)); clear hw2 hb2 hbel
        have HK := (show Hid _ from htk); clear htk
        go_wp2_with fail
        refine Calls.mono (HST.out _) ?_
        rintro e w1 ⟨rfl, rfl⟩
        go_wp2_with (at_builtin; refine wpList_append_lies _ rfl (.tmp 18) (.tmp 21) 23 rfl w.heap.size 9 i9 _ 1 16 Tryd.underlying23 hi9 hz0 hz1 hz2 rfl (by decide) _ j _ rfl HX.out.1 ⟨wr.heap.size + 1, 0, none⟩ 1 1 [.string l[j].name] rfl rfl ?c1 ?c2 (by decide) ?c3 (by omega) ?c4 _ rfl ?nx)
        case c1 =>
          have hn := World.news_of_block (cs := #[.string l[j].name]) (blk_alloc_new (wr.alloc (.cells #[.string l[j].name, .int .i64 l[j].lev, .int .i64 l[j].asc] 80)) (.cells #[.string l[j].name] 9))
          simp only [World.size_alloc] at hn
          exact hn
        case c2 => intro u hu; simp at hu; subst hu; rfl
        case c3 => unfold maxLen; omega
        case c4 => have := HX.out.2.2.1; simp; omega
        case nx =>
          intro g3 cap3 w6 hown6 hgr6 hat6 hlt6
          rw [← HK.out] at hown6
          have hb6 := grown_below' HX.out.2.1 hgr6 (fun b hb => (HX.out.1.lt b hb).1) (by have := HX.out.2.2.1; simp; omega)
          have HY := (show Hid _ from (⟨hown6, hb6⟩ : _ ∧ _)); clear hown6 hb6 hgr6 hat6 hlt6 c0 c1 c2
          go_wp2_with fail
          exact ⟨⟨j + 1, _, _, rfl, by go_num, by omega, HN, HY.out⟩, by simp [intOf]; omega⟩
    · have hje : j = l.length := by omega
      have hown := HO.out.1
      rw [hje] at hown
      unfold nmv at hown
      rw [List.take_length] at hown
      have hstr := own_strs hown (by simp) (fun t ht => by
        obtain ⟨x, hx, rfl⟩ := List.mem_map.1 ht
        obtain ⟨i, hi, rfl⟩ := List.mem_iff_getElem.1 hx
        exact (HC.out i hi).2.2.2)
      have hap := apart_any _ _ wr hstr (by simp; omega)
      have hR : R = apB (l.map (·.name)) := by
        rw [← HRes.out]
        have : l.all (fun t => stB t.lev t.asc) = true := by
          rw [List.all_eq_true]
          intro x hx
          obtain ⟨i, hi, rfl⟩ := List.mem_iff_getElem.1 hx
          exact HJ.out i hi (by omega)
        rw [this, Bool.true_and]
      rw [← hR, ← hje] at hap
      have HAP := (show Hid _ from hap); clear hap hR hstr hown
      clear hje
      go_wp2_with fail
      refine Calls.mono HAP.out ?_
      rintro e w1 ⟨rfl, hb1⟩
      have HE := (show Hid _ from bel_trans hbel hb1); clear hb1 hbel
      go_wp2_with fail
      go_ret
      exact ⟨rfl, HE.out⟩
end Go.Proofs.YtjpjjfgdgieapaaDoor

namespace Go.Proofs.YtjpjjfgdgieapaaDoor
open Go.RowKit Go.Deep
set_option linter.unusedVariables false
set_option maxRecDepth 100000
set_option linter.unusedSimpArgs false

set_option maxHeartbeats 1600000 in
/-- What the program's BnfOK answers. -/
theorem iBnf_any {S : Nat → Prop} (d : Bn) (v0 v1 v3 : Value) (w : World) (h : BLies w S d v0 v1 v3) :
    Calls Tryd.prog 25 #[.agg #[v0, v1, .int .i64 d.own, v3]] w fun e w' => e = .returned (.bool (bnB d)) ∧ Below w.heap.size w w' := by
  have hQ := Box4.new w 38 v0 v1 (.int .i64 d.own) v3
  have hT := h.terms.form
  have hN := h.nons.form
  have hP := h.prods.form
  obtain ⟨a0, p0, rfl, hT⟩ := hT
  obtain ⟨a1, p1, rfl, hN⟩ := hN
  obtain ⟨a3, p3, rfl, hP⟩ := hP
  have hb0 := bel_alloc w (.cells #[.slice a0 d.terms.length p0, .slice a1 d.nons.length p1, .int .i64 d.own, .slice a3 d.prods.length p3] 38)
  have HH := (show Hid _ from (⟨h.still hb0, hQ, hb0⟩ : _ ∧ _ ∧ _)); clear h hQ hb0
  unfold maxLen at hT hN hP
  by_cases hz : szB d = true
  · have hz' := hz
    simp only [szB, decide_eq_true_eq] at hz'
    obtain ⟨k1, k2, k3, k4, k5, k6⟩ := hz'
    have hE : bnB d = ((d.terms.all (fun t => stB t.lev t.asc) && apB (d.terms.map (·.name))) && (apB d.nons && d.prods.all (pdB d.terms.length d.nons.length))) := by unfold bnB; rw [hz, Bool.true_and]
    rw [hE]
    clear hE hz
    have HT := (show Hid _ from termsRight_any _ _ _ HH.out.1.terms k1)
    have HA := (show Hid _ from fun (w' : World) (hb : Below (w.alloc (.cells #[.slice a0 d.terms.length p0, .slice a1 d.nons.length p1, .int .i64 d.own, .slice a3 d.prods.length p3] 38)).heap.size (w.alloc (.cells #[.slice a0 d.terms.length p0, .slice a1 d.nons.length p1, .int .i64 d.own, .slice a3 d.prods.length p3] 38)) w') => apart_any _ _ w' (HH.out.1.nons.still hb) (by omega))
    have HL := (show Hid _ from fun (w' : World) (hb : Below (w.alloc (.cells #[.slice a0 d.terms.length p0, .slice a1 d.nons.length p1, .int .i64 d.own, .slice a3 d.prods.length p3] 38)).heap.size (w.alloc (.cells #[.slice a0 d.terms.length p0, .slice a1 d.nons.length p1, .int .i64 d.own, .slice a3 d.prods.length p3] 38)) w') => all_any d _ _ _ w' w.heap.size (HH.out.1.still hb) (HH.out.2.1.still hb) k1 k3)
    generalize (d.terms.all (fun t => stB t.lev t.asc) && apB (d.terms.map (·.name))) = B1 at *
    generalize apB d.nons = B2 at *
    generalize d.prods.all (pdB d.terms.length d.nons.length) = B3 at *
    cases B1
    · go_enter Tryd.func25, Tryd.ntmps25
      go_wp2_with fail
      refine Calls.mono HT.out ?_
      rintro e w1 ⟨rfl, hb1⟩
      have HB1 := (show Hid _ from bel_trans HH.out.2.2 hb1); clear hb1
      go_wp2_with fail
      go_ret
      exact ⟨rfl, HB1.out⟩
    · go_enter Tryd.func25, Tryd.ntmps25
      go_wp2_with fail
      refine Calls.mono HT.out ?_
      rintro e w1 ⟨rfl, hb1⟩
      obtain ⟨x0, x1, x2, x3⟩ := (HH.out.2.1.still hb1).cells
      have HB1 := (show Hid _ from hb1); clear hb1
      cases B2
      · go_wp2_with fail
        refine Calls.mono (HA.out _ HB1.out) ?_
        rintro e w2 ⟨rfl, hb2⟩
        have HB2 := (show Hid _ from bel_trans HH.out.2.2 (bel_trans HB1.out hb2)); clear hb2 x0 x1 x2 x3
        go_wp2_with fail
        go_ret
        exact ⟨rfl, HB2.out⟩
      · go_wp2_with fail
        refine Calls.mono (HA.out _ HB1.out) ?_
        rintro e w2 ⟨rfl, hb2⟩
        clear x0 x1 x2 x3
        obtain ⟨x0, x1, x2, x3⟩ := ((HH.out.2.1.still HB1.out).still hb2).cells
        have HB2 := (show Hid _ from bel_trans HB1.out hb2); clear hb2
        go_wp2_with fail
        refine Calls.mono (HL.out _ HB2.out) ?_
        rintro e w3 ⟨rfl, hb3⟩
        have HB3 := (show Hid _ from bel_trans HH.out.2.2 (bel_trans HB2.out hb3)); clear hb3 x0 x1 x2 x3
        go_wp2_with fail
        go_ret
        exact ⟨by cases B3 <;> rfl, HB3.out⟩
  · have hE : bnB d = false := by unfold bnB; rw [Bool.eq_false_iff.2 hz, Bool.false_and]
    rw [hE]
    simp only [szB, decide_eq_true_eq] at hz
    clear hE
    by_cases c1 : d.terms.length ≤ 60
    · by_cases c2 : d.nons.length ≤ 100
      · by_cases c3 : d.prods.length ≤ 120
        · by_cases c4 : 1 ≤ d.own
          · have c5 : ¬ d.own ≤ d.nons.length := fun h5 => hz ⟨c1, by omega, c2, c4, h5, c3⟩
            clear hz
            go_enter Tryd.func25, Tryd.ntmps25
            go_wp2_with fail
            go_ret
            exact ⟨rfl, HH.out.2.2⟩
          · clear hz
            go_enter Tryd.func25, Tryd.ntmps25
            go_wp2_with fail
            go_ret
            exact ⟨rfl, HH.out.2.2⟩
        · clear hz
          go_enter Tryd.func25, Tryd.ntmps25
          go_wp2_with fail
          go_ret
          exact ⟨rfl, HH.out.2.2⟩
      · clear hz
        go_enter Tryd.func25, Tryd.ntmps25
        go_wp2_with fail
        go_ret
        exact ⟨rfl, HH.out.2.2⟩
    · clear hz
      go_enter Tryd.func25, Tryd.ntmps25
      go_wp2_with fail
      go_ret
      exact ⟨rfl, HH.out.2.2⟩
end Go.Proofs.YtjpjjfgdgieapaaDoor
