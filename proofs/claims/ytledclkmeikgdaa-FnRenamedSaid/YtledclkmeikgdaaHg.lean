import Derived.Test.YtledclkmeikgdaaHc
import Derived.Lib.AppendZerosOnto
import Derived.Lib.Walk
import Derived.Lib.SliceRun
import Derived.BigQuiet
/-! The program: slices.Grow of nothing, slices.Concat. -/
namespace Go.Proofs.Ytledclkmeikgdaa
open Go.RowKit Go.Deep
set_option linter.unusedVariables false
set_option maxRecDepth 100000
set_option linter.unusedSimpArgs false

end Go.Proofs.Ytledclkmeikgdaa

/-! Unused: what is answered; the program. -/
namespace Go.Proofs.Ytledclkmeikgdaa
open Go.RowKit Go.Deep
set_option linter.unusedVariables false
set_option maxRecDepth 100000
set_option linter.unusedSimpArgs false

end Go.Proofs.Ytledclkmeikgdaa

/-! Unused: the specification. -/
namespace Go.Proofs.Ytledclkmeikgdaa
open Go.RowKit Go.Deep
set_option linter.unusedVariables false
set_option maxRecDepth 100000
set_option linter.unusedSimpArgs false

theorem belDrewN {B : Nat} {a w : World} (h : Below B a w) (n : Nat) : Below B a (w.drewN n) := h.trans ⟨rfl, rfl, rfl, Nat.le_refl _, fun _ _ => rfl⟩
end Go.Proofs.Ytledclkmeikgdaa

/-! Rows compared: l05SameInts, slices.Equal. -/
namespace Go.Proofs.Ytledclkmeikgdaa
open Go.RowKit Go.Deep
set_option linter.unusedVariables false
set_option maxRecDepth 100000
set_option linter.unusedSimpArgs false

set_option maxHeartbeats 1600000 in
theorem same60 {S S' : Nat → Prop} (l l' : List Int) (v v' : Value) (w : World) (h : Ints w S l v) (h' : Ints w S' l' v') :
    Calls Try.prog 37 #[v, v'] w fun e w' => e = .returned (.bool (decide (l = l'))) ∧ Below w.heap.size w w' := by
  obtain ⟨a, cap, b, off, rfl, hc, hm, ha, hcell⟩ := h
  obtain ⟨a', cap', b', off', rfl, hc', hm', ha', hcell'⟩ := h'
  have HC := (show Hid _ from hcell); clear hcell
  have HA := (show Hid _ from ha); clear ha
  have HC' := (show Hid _ from hcell'); clear hcell'
  have HA' := (show Hid _ from ha'); clear ha'
  unfold maxLen at hm hm'
  by_cases hlen : l.length = l'.length
  case neg =>
    have hq : ((l.length : Int) != (l'.length : Int)) = true := by simp; omega
    rw [decide_eq_false (fun e => hlen (by rw [e]))]
    clear hlen
    go_enter Try.func37, Try.ntmps37
    go_wp2_with fail
    go_ret
    exact ⟨rfl, Below.refl _ _⟩
  have hq : ((l.length : Int) != (l'.length : Int)) = false := by simp; omega
  have HLE := (show Hid _ from hlen); clear hlen
  generalize hR : decide (l = l') = R
  have HR := (show Hid _ from hR); clear hR
  go_enter Try.func37, Try.ntmps37
  go_wp2_with fail
  go_loopw [5] (fun i wr => ∃ j : Nat, i = .int .i64 j ∧ j ≤ l.length ∧ Hid (∀ i (hi : i < l.length) (hi' : i < l'.length), i < j → l[i] = l'[i]) ∧ Hid (Below w.heap.size w wr)) (fun i _ => l.length - (intOf i).toNat)
  case atStart => exact ⟨0, rfl, Nat.zero_le _, fun i hi hi' h0 => absurd h0 (Nat.not_lt_zero _), Below.refl _ _⟩
  case round =>
    obtain ⟨j, rfl, hj, HJ, HB⟩ := hrel
    by_cases hjl : j < l.length
    · have hjl' : j < l'.length := by have := HLE.out; omega
      obtain ⟨rfl, _⟩ := HA.out (by omega)
      obtain ⟨rfl, _⟩ := HA'.out (by omega)
      have c0 := HC.out j hjl
      have c1 := HC'.out j hjl'
      rw [← HB.out.cell (lt_of_cell c0)] at c0
      rw [← HB.out.cell (lt_of_cell c1)] at c1
      by_cases he : l[j] = l'[j]
      · have HN := (show Hid (∀ i (hi : i < l.length) (hi' : i < l'.length), i < j + 1 → l[i] = l'[i]) from fun i hi hi' hij => by
          by_cases e : i = j
          · subst e; exact he
          · exact HJ.out i hi hi' (by omega))
        rw [he] at c0
        have hz : (l'[j] != l'[j]) = false := by simp
        generalize l'[j] = y at *
        clear he
        go_wp2_with fail
        go_quiet (fail)
        go_wp2_with fail
        exact ⟨⟨j + 1, by go_num, by omega, HN, belDrewN HB.out _⟩, by simp [intOf]; omega⟩
      · have HF := (show Hid (R = false) from by
          show R = false
          rw [← HR.out]
          refine decide_eq_false (fun e => he ?_)
          subst e; rfl)
        have hz : (l[j] != l'[j]) = true := by simpa using he
        generalize l[j] = x at *
        generalize l'[j] = y at *
        clear he
        go_wp2_with fail
        go_quiet (fail)
        go_wp2_with fail
        go_ret
        exact ⟨ret_bool HF.out.symm, belDrewN HB.out _⟩
    · have HF := (show Hid (R = true) from by
        show R = true
        rw [← HR.out]
        refine decide_eq_true (List.ext_getElem HLE.out (fun i h1 h2 => HJ.out i h1 h2 (by omega))))
      go_wp2_with fail
      go_ret
      exact ⟨ret_bool HF.out.symm, HB.out⟩
set_option maxHeartbeats 1600000 in
theorem equal95 {S S' : Nat → Prop} (l l' : List Int) (v v' : Value) (w : World) (h : Ints w S l v) (h' : Ints w S' l' v') :
    Calls Try.prog 87 #[v, v'] w fun e w' => e = .returned (.bool (decide (l = l'))) ∧ Below w.heap.size w w' := by
  obtain ⟨a, cap, b, off, rfl, hc, hm, ha, hcell⟩ := h
  obtain ⟨a', cap', b', off', rfl, hc', hm', ha', hcell'⟩ := h'
  have HC := (show Hid _ from hcell); clear hcell
  have HA := (show Hid _ from ha); clear ha
  have HC' := (show Hid _ from hcell'); clear hcell'
  have HA' := (show Hid _ from ha'); clear ha'
  unfold maxLen at hm hm'
  by_cases hlen : l.length = l'.length
  case neg =>
    have hq : ((l.length : Int) != (l'.length : Int)) = true := by simp; omega
    rw [decide_eq_false (fun e => hlen (by rw [e]))]
    clear hlen
    go_enter Try.func87, Try.ntmps87
    go_wp2_with fail
    go_ret
    exact ⟨rfl, Below.refl _ _⟩
  have hq : ((l.length : Int) != (l'.length : Int)) = false := by simp; omega
  have HLE := (show Hid _ from hlen); clear hlen
  generalize hR : decide (l = l') = R
  have HR := (show Hid _ from hR); clear hR
  go_enter Try.func87, Try.ntmps87
  go_wp2_with fail
  go_loopw [13] (fun i wr => ∃ j : Nat, i = .int .i64 j ∧ j ≤ l.length ∧ Hid (∀ i (hi : i < l.length) (hi' : i < l'.length), i < j → l[i] = l'[i]) ∧ Hid (Below w.heap.size w wr)) (fun i _ => l.length - (intOf i).toNat)
  case atStart => exact ⟨0, rfl, Nat.zero_le _, fun i hi hi' h0 => absurd h0 (Nat.not_lt_zero _), Below.refl _ _⟩
  case round =>
    obtain ⟨j, rfl, hj, HJ, HB⟩ := hrel
    by_cases hjl : j < l.length
    · have hjl' : j < l'.length := by have := HLE.out; omega
      obtain ⟨rfl, _⟩ := HA.out (by omega)
      obtain ⟨rfl, _⟩ := HA'.out (by omega)
      have c0 := HC.out j hjl
      have c1 := HC'.out j hjl'
      rw [← HB.out.cell (lt_of_cell c0)] at c0
      rw [← HB.out.cell (lt_of_cell c1)] at c1
      by_cases he : l[j] = l'[j]
      · have HN := (show Hid (∀ i (hi : i < l.length) (hi' : i < l'.length), i < j + 1 → l[i] = l'[i]) from fun i hi hi' hij => by
          by_cases e : i = j
          · subst e; exact he
          · exact HJ.out i hi hi' (by omega))
        rw [he] at c0
        have hz : (l'[j] != l'[j]) = false := by simp
        generalize l'[j] = y at *
        clear he
        go_wp2_with fail
        go_quiet (fail)
        go_wp2_with fail
        exact ⟨⟨j + 1, by go_num, by omega, HN, belDrewN HB.out _⟩, by simp [intOf]; omega⟩
      · have HF := (show Hid (R = false) from by
          show R = false
          rw [← HR.out]
          refine decide_eq_false (fun e => he ?_)
          subst e; rfl)
        have hz : (l[j] != l'[j]) = true := by simpa using he
        generalize l[j] = x at *
        generalize l'[j] = y at *
        clear he
        go_wp2_with fail
        go_quiet (fail)
        go_wp2_with fail
        go_ret
        exact ⟨ret_bool HF.out.symm, belDrewN HB.out _⟩
    · have HF := (show Hid (R = true) from by
        show R = true
        rw [← HR.out]
        refine decide_eq_true (List.ext_getElem HLE.out (fun i h1 h2 => HJ.out i h1 h2 (by omega))))
      go_wp2_with fail
      go_ret
      exact ⟨ret_bool HF.out.symm, HB.out⟩
theorem clo94 {S S' : Nat → Prop} (l l' : List Int) (v v' : Value) (w : World) (h : Ints w S l v) (h' : Ints w S' l' v') :
    Calls Try.prog 86 #[v, v'] w fun e w' => e = .returned (.bool (decide (l = l'))) ∧ Below w.heap.size w w' := by
  have HC := (show Hid _ from equal95 l l' v v' w h h')
  obtain ⟨a, cap, b, off, rfl, hc, hm, ha, hcell⟩ := h
  obtain ⟨a', cap', b', off', rfl, hc', hm', ha', hcell'⟩ := h'
  clear hcell hcell' ha ha'
  go_enter Try.func86, Try.ntmps86
  go_wp2_with fail
  refine Calls.mono HC.out ?_
  rintro e w1 ⟨rfl, hb1⟩
  have HB := (show Hid _ from hb1); clear hb1
  go_wp2_with fail
  go_ret
  exact ⟨rfl, HB.out⟩
/-- A row of rows, as it may be read. -/
def RwR (w : World) (ls : List (List Int)) (v : Value) : Prop := ∃ (a : Option Addr) (cap b off : Nat) (sv : Nat → Value), v = .slice a ls.length cap ∧ ls.length ≤ maxLen ∧ (0 < ls.length → a = some ⟨b, off, none⟩) ∧ (∀ i (hi : i < ls.length), w.cell? ⟨b, off + i, none⟩ = some (sv i)) ∧ ∀ i (hi : i < ls.length), Ints w (fun _ => True) ls[i] (sv i)
theorem RwR.still {w w' : World} {ls : List (List Int)} {v : Value} (h : RwR w ls v) (hb : Below w.heap.size w w') : RwR w' ls v := by
  obtain ⟨a, cap, b, off, sv, h1, h2, h3, h4, h5⟩ := h
  exact ⟨a, cap, b, off, sv, h1, h2, h3, fun i hi => (hb.cell (lt_of_cell (h4 i hi))).trans (h4 i hi), fun i hi => (h5 i hi).still hb⟩
theorem RRow.read {w : World} {B : Nat} {ls : List (List Int)} {a : Option Addr} {cp : Nat} (h : RRow w B ls (.slice a ls.length cp)) (hl : ls.length ≤ 120) : RwR w ls (.slice a ls.length cp) := by
  obtain ⟨vs, hvl, hown, hin⟩ := h
  rcases hown.2 with ⟨e, h0⟩ | ⟨g, cap, cur, e, hB, hg, hnc, hcm, hcs, htk⟩
  · exact ⟨a, cp, 0, 0, fun _ => .bool false, rfl, by unfold maxLen; omega, fun h => by omega, fun i hi => by omega, fun i hi => by omega⟩
  · injection e with e1 e2 e3
    refine ⟨a, cp, g, 0, fun i => vs.getD i (.bool false), rfl, by unfold maxLen; omega, fun _ => e1, fun i hi => ?_, fun i hi => ?_⟩
    · have e := congrArg (·[i]?) htk
      simp only [Nat.mul_one, List.getElem?_take, if_pos hi, List.getElem?_eq_getElem (show i < vs.length by omega)] at e
      rw [Nat.zero_add, cell_of_row w g i cur 34 (0, 0) hg]
      simp only [List.getD_eq_getElem?_getD, List.getElem?_eq_getElem (show i < vs.length by omega), Option.getD_some]
      simpa using e
    · obtain ⟨xa, xc, e1, e2⟩ := hin i (by omega) hi
      simp only [List.getD_eq_getElem?_getD, List.getElem?_eq_getElem (show i < vs.length by omega), Option.getD_some]
      rw [e1]
      exact ownInts e2
set_option maxHeartbeats 1600000 in
theorem eqf93 (ls ls' : List (List Int)) (v v' : Value) (w : World) (h : RwR w ls v) (h' : RwR w ls' v') :
    Calls Try.prog 85 #[v, v', .func (.func 86) #[] #[]] w fun e w' => e = .returned (.bool (decide (ls = ls'))) ∧ Below w.heap.size w w' := by
  obtain ⟨a, cap, b, off, sv, rfl, hm, ha, hcell, hin⟩ := h
  obtain ⟨a', cap', b', off', sv', rfl, hm', ha', hcell', hin'⟩ := h'
  have HC := (show Hid _ from hcell); clear hcell
  have HA := (show Hid _ from ha); clear ha
  have HC' := (show Hid _ from hcell'); clear hcell'
  have HA' := (show Hid _ from ha'); clear ha'
  have HCL := (show Hid (∀ i (hi : i < ls.length) (hi' : i < ls'.length) (wq : World), Below w.heap.size w wq → Calls Try.prog 86 #[sv i, sv' i] wq fun e w' => e = .returned (.bool (decide (ls[i] = ls'[i]))) ∧ Below wq.heap.size wq w') from fun i hi hi' wq hb => clo94 ls[i] ls'[i] _ _ wq ((hin i hi).still hb) ((hin' i hi').still hb))
  have HFM := (show Hid (∀ i (hi : i < ls.length), ∃ x y z, sv i = .slice x y z) from fun i hi => by obtain ⟨x, z, _, _, e, _⟩ := hin i hi; exact ⟨x, _, z, e⟩)
  have HFM' := (show Hid (∀ i (hi : i < ls'.length), ∃ x y z, sv' i = .slice x y z) from fun i hi => by obtain ⟨x, z, _, _, e, _⟩ := hin' i hi; exact ⟨x, _, z, e⟩)
  clear hin hin'
  unfold maxLen at hm hm'
  by_cases hlen : ls.length = ls'.length
  case neg =>
    have hq : ((ls.length : Int) != (ls'.length : Int)) = true := by simp; omega
    rw [decide_eq_false (fun e => hlen (by rw [e]))]
    clear hlen
    go_enter Try.func85, Try.ntmps85
    go_wp2_with fail
    go_ret
    exact ⟨rfl, Below.refl _ _⟩
  have hq : ((ls.length : Int) != (ls'.length : Int)) = false := by simp; omega
  have HLE := (show Hid _ from hlen); clear hlen
  generalize hR : decide (ls = ls') = R
  have HR := (show Hid _ from hR); clear hR
  go_enter Try.func85, Try.ntmps85
  go_wp2_with fail
  go_loopw [17] (fun i wr => ∃ j : Nat, i = .int .i64 j ∧ j ≤ ls.length ∧ Hid (∀ i (hi : i < ls.length) (hi' : i < ls'.length), i < j → ls[i] = ls'[i]) ∧ Hid (Below w.heap.size w wr)) (fun i _ => ls.length - (intOf i).toNat)
  case atStart => exact ⟨0, rfl, Nat.zero_le _, fun i hi hi' h0 => absurd h0 (Nat.not_lt_zero _), Below.refl _ _⟩
  case round =>
    obtain ⟨j, rfl, hj, HJ, HB⟩ := hrel
    by_cases hjl : j < ls.length
    · have hjl' : j < ls'.length := by have := HLE.out; omega
      obtain rfl := HA.out (by omega)
      obtain rfl := HA'.out (by omega)
      have c0 := HC.out j hjl
      have c1 := HC'.out j hjl'
      rw [← HB.out.cell (lt_of_cell c0)] at c0
      rw [← HB.out.cell (lt_of_cell c1)] at c1
      obtain ⟨x1, x2, x3, ex⟩ := HFM.out j hjl
      obtain ⟨y1, y2, y3, ey⟩ := HFM'.out j hjl'
      have hcl := HCL.out j hjl hjl' wr HB.out
      rw [ex] at c0 hcl
      rw [ey] at c1 hcl
      have HX := (show Hid (Calls Try.prog 86 #[.slice x1 x2 x3, .slice y1 y2 y3] wr fun e w' => e = .returned (.bool (decide (ls[j] = ls'[j]))) ∧ Below wr.heap.size wr w') from hcl); clear hcl ex ey
      have HNX := (show Hid (decide (ls[j] = ls'[j]) = true → ∀ i (hi : i < ls.length) (hi' : i < ls'.length), i < j + 1 → ls[i] = ls'[i]) from fun h i hi hi' hij => by
        by_cases e : i = j
        · subst e; exact of_decide_eq_true h
        · exact HJ.out i hi hi' (by omega))
      have HFX := (show Hid (decide (ls[j] = ls'[j]) = false → R = false) from fun h => by
        rw [← HR.out]
        refine decide_eq_false (fun e => of_decide_eq_false h ?_)
        subst e; rfl)
      generalize decide (ls[j] = ls'[j]) = K at *
      go_wp2_with fail
      go_at_call 86
      refine Calls.mono HX.out ?_
      rintro e w1 ⟨rfl, hb1⟩
      have HB1 := (show Hid _ from bel_trans HB.out hb1); clear hb1 c0 c1 HX
      cases K
      · have HF := (show Hid _ from HFX.out rfl)
        go_wp2_with fail
        go_ret
        exact ⟨ret_bool HF.out.symm, HB1.out⟩
      · have HN := (show Hid _ from HNX.out rfl)
        go_wp2_with fail
        exact ⟨⟨j + 1, by go_num, by omega, HN, HB1⟩, by simp [intOf]; omega⟩
    · have HF := (show Hid (R = true) from by
        show R = true
        rw [← HR.out]
        refine decide_eq_true (List.ext_getElem HLE.out (fun i h1 h2 => HJ.out i h1 h2 (by omega))))
      go_wp2_with fail
      go_ret
      exact ⟨ret_bool HF.out.symm, HB.out⟩
theorem same63 (ls ls' : List (List Int)) (v v' : Value) (w : World) (h : RwR w ls v) (h' : RwR w ls' v') :
    Calls Try.prog 43 #[v, v'] w fun e w' => e = .returned (.bool (decide (ls = ls'))) ∧ Below w.heap.size w w' := by
  have HC := (show Hid _ from eqf93 ls ls' v v' w h h')
  obtain ⟨a, cap, b, off, sv, rfl, hm, ha, hcell, hin⟩ := h
  obtain ⟨a', cap', b', off', sv', rfl, hm', ha', hcell', hin'⟩ := h'
  clear hcell hcell' ha ha' hin hin'
  go_enter Try.func43, Try.ntmps43
  go_wp2_with fail
  refine Calls.mono HC.out ?_
  rintro e w1 ⟨rfl, hb1⟩
  have HB := (show Hid _ from hb1); clear hb1
  go_wp2_with fail
  go_ret
  exact ⟨rfl, HB.out⟩
end Go.Proofs.Ytledclkmeikgdaa
