import Derived.Test.YtkkebcbcbihbiaaHc
import Derived.Lib.AppendZerosOnto
import Derived.Lib.Walk
import Derived.Lib.SliceRun
/-! The program: slices.Grow of nothing, slices.Concat. -/
namespace Go.Proofs.Ytkkebcbcbihbiaa
open Go.RowKit Go.Deep
set_option linter.unusedVariables false
set_option maxRecDepth 100000
set_option linter.unusedSimpArgs false

set_option maxHeartbeats 1600000 in
theorem grow89 (n : Nat) (hn : n ≤ 14400) (w : World) :
    Calls Try.prog 89 #[.slice none 0 0, .int .i64 (n : Int)] w fun e w' => ∃ (a : Option Addr) (cp : Nat), e = .returned (.slice a 0 cp) ∧ Below w.heap.size w w' ∧ w'.ownsRow w.heap.size 3 1 (.slice a 0 cp) 0 [] := by
  by_cases h0 : n = 0
  · subst h0
    go_enter Try.func89, Try.ntmps89
    go_wp2_with fail
    go_ret
    exact ⟨_, _, rfl, Below.refl _ _, ownNil _ _ _ _⟩
  obtain ⟨i3, hi3, hzz⟩ := Option.map_eq_some_iff.1 info3g
  simp only [Prod.mk.injEq] at hzz
  obtain ⟨hz0, hz1, hz2⟩ := hzz
  have hold : (Builtin.firstCells i3.size 0 (.slice none 0 0)).run Try.prog w.drew = .ok ([] : List Value).toArray w.drew := by simp [Builtin.firstCells]
  have hrz : ∀ ty, (Builtin.append_ #[35, 3] ty #[.slice none 0 0, .int .i64 (n : Int)]).run Try.prog w = .ok (.slice (some ⟨w.heap.size, 0, none⟩) n (grownCap w n 0 3)) (w.drew.alloc (.cells (([] : List Value).toArray ++ Builtin.zeroCells (Value.int .i64 0).cells n ++ Builtin.zeroCells (Value.int .i64 0).cells (grownCap w n 0 3 - n)) 3)) := fun ty => by
    have h := Lib.run_append_grow_zeros w 35 3 ty 3 i3 (.int .i64 0) .i64 .i64 Try.underlying35 Try.underlying3 hi3 hz0 none 0 0 [] hold n (by omega) (by omega) (by omega) (by omega) (by rw [hz2]; omega) (by rw [hz2]; exact growslice_fits (by omega) (by omega))
    simpa using h
  have hGn : n ≤ grownCap w n 0 3 := grownCap_ge w _ _ _
  have hG63 : grownCap w n 0 3 ≤ maxLen := grownCap_le_maxLen w n 0 3 (by unfold maxLen; omega)
  generalize grownCap w n 0 3 = G at *
  have HG := (show Hid (n ≤ G ∧ G ≤ maxLen) from ⟨hGn, hG63⟩)
  have hgp : (0 : Int) < (n : Int) := by omega
  have hG2 : G ≤ 9223372036854775807 := by unfold maxLen at hG63; omega
  clear hold hGn hG63
  go_enter Try.func89, Try.ntmps89
  go_wp2_with (at_builtin; refine Lib.wpList_append_run _ rfl _ _ _ _ rfl _ _ rfl rfl _ _ (hrz _) ?_)
  all_goals go_ret
  all_goals refine ⟨_, _, rfl, (Below.refl _ _).drew.alloc (Nat.le_refl _) _, by simp, .inr ⟨_, G, _, rfl, Nat.le_refl _, blk_alloc_new _ _, by omega, HG.out.2, ?_, by simp⟩⟩
  all_goals (have := HG.out.1; simp [Builtin.zeroCells, Value.cells]; omega)
/-- The first j, one behind the other. -/
def flT (ls : List (List Int)) (j : Nat) : List Int := (ls.take j).flatten
theorem flT_zero (ls : List (List Int)) : flT ls 0 = [] := rfl
theorem flT_all (ls : List (List Int)) : flT ls ls.length = ls.flatten := by unfold flT; rw [List.take_length]
/-- Their lengths. -/
def sln (ls : List (List Int)) (j : Nat) : Nat := (flT ls j).length
theorem sln_succ {ls : List (List Int)} {j : Nat} (h : j < ls.length) : sln ls (j + 1) = sln ls j + ls[j].length := by
  unfold sln flT; rw [← List.take_append_getElem h, List.flatten_append, List.length_append]; simp
theorem sln_le {ls : List (List Int)} (h : ∀ l ∈ ls, l.length ≤ 120) : ∀ j, j ≤ ls.length → sln ls j ≤ j * 120
  | 0, _ => by simp [sln, flT]
  | j + 1, hj => by
    have := sln_le h j (by omega)
    have h2 := h ls[j] (List.getElem_mem (by omega))
    rw [sln_succ (by omega)]
    omega
theorem fl_succ {ls : List (List Int)} {j : Nat} (h : j < ls.length) : flT ls (j + 1) = flT ls j ++ ls[j] := by
  unfold flT
  rw [← List.take_append_getElem h, List.flatten_append]; simp
theorem appNil (w : World) (a : Option Addr) (n cp : Nat) (hn : n ≤ cp) (xa : Option Addr) (xc : Nat) (ty : TypeId) : (Builtin.append_ #[35, 35] ty #[.slice a n cp, .slice xa 0 xc]).run Try.prog w = .ok (.slice a n cp) w := by
  obtain ⟨i3, hi3, hzz⟩ := Option.map_eq_some_iff.1 info3g
  simp only [Prod.mk.injEq] at hzz
  cases a <;> cases xa <;> simp [loadCells, loadCellsFrom, storeCells, Builtin.append_, run_underlying Try.underlying35, sizeOf, typeInfo, hi3, hn, Builtin.firstCells, Builtin.lenOf, storeCells]
set_option maxHeartbeats 6400000 in
theorem concat56 {B : Nat} (ls : List (List Int)) (a : Option Addr) (cp : Nat) (w : World) (h : RRow w B ls (.slice a ls.length cp)) (hll : ls.length ≤ 120) (hl : ∀ l ∈ ls, l.length ≤ 120) :
    Calls Try.prog 56 #[.slice a ls.length cp] w (InA ls.flatten w) := by
  obtain ⟨vs, hvl, hown, hin⟩ := h
  have hrow : ∃ (b : Nat), (0 < ls.length → a = some ⟨b, 0, none⟩) ∧ ∀ i (hi : i < ls.length), w.cell? ⟨b, i, none⟩ = some (vs[i]'(by omega)) := by
    rcases hown.2 with ⟨e, h0⟩ | ⟨g, cap, cur, e, hB, hg, hnc, hcm, hcs, htk⟩
    · exact ⟨0, fun h => by omega, fun i hi => by omega⟩
    · injection e with e1 e2 e3
      refine ⟨g, fun _ => e1, fun i hi => ?_⟩
      have e := congrArg (·[i]?) htk
      simp only [Nat.mul_one, List.getElem?_take, if_pos hi, List.getElem?_eq_getElem (show i < vs.length by omega)] at e
      rw [cell_of_row w g i cur 35 (0, 0) hg]
      simpa using e
  obtain ⟨b, ha, hcell⟩ := hrow
  have HC := (show Hid (∀ i (hi : i < ls.length), ∃ (xa : Option Addr) (xc : Nat), w.cell? ⟨b, i, none⟩ = some (.slice xa ls[i].length xc) ∧ w.ownsRow B 3 1 (.slice xa ls[i].length xc) ls[i].length (iv ls[i])) from fun i hi => by
    obtain ⟨xa, xc, e1, e2⟩ := hin i (by omega) hi
    exact ⟨xa, xc, by rw [hcell i hi, e1], e2⟩)
  have HA := (show Hid _ from ha)
  have HSL := (show Hid (∀ j, j ≤ ls.length → sln ls j ≤ 14400) from fun j hj => by have := sln_le hl j hj; have : j * 120 ≤ 120 * 120 := Nat.mul_le_mul_right _ (by omega); omega)
  obtain ⟨i3, hi3, hzz⟩ := Option.map_eq_some_iff.1 info3g
  simp only [Prod.mk.injEq] at hzz
  obtain ⟨hz0, hz1, hz2⟩ := hzz
  clear hin hcell ha hown hvl hl
  go_enter Try.func56, Try.ntmps56
  go_wp2_with fail
  go_loopw [3, 11] (fun u i wr => ∃ j : Nat, i = .int .i64 j ∧ j ≤ ls.length ∧ u = .int .i64 (sln ls j : Nat) ∧ wr = w) (fun _ i _ => ls.length - (intOf i).toNat)
  case atStart => exact ⟨0, rfl, Nat.zero_le _, by simp [sln, flT], rfl⟩
  case round =>
    obtain ⟨j, rfl, hj, rfl, rfl⟩ := hrel
    by_cases hjl : j < ls.length
    · obtain rfl := HA.out (by omega)
      obtain ⟨xa, xc, c0, _⟩ := HC.out j hjl
      have hs0 := HSL.out j hj
      have hs1 := HSL.out (j + 1) (by omega)
      have hss := sln_succ hjl
      rw [hss] at hs1
      have kw : IntKind.i64.wrap ((sln ls j : Int) + (ls[j].length : Int)) = (sln ls j : Int) + (ls[j].length : Int) := by simp [IntKind.wrap, IntKind.bits, IntKind.signed]; omega
      have hd : decide ((sln ls j : Int) + (ls[j].length : Int) < 0) = false := by simp; omega
      have HSS := (show Hid _ from hss); clear hss
      generalize sln ls j = A at *
      go_wp2_with fail
      exact ⟨⟨j + 1, by go_num, by omega, by rw [HSS.out]; simp, trivial⟩, by simp [intOf]; omega⟩
    · obtain rfl : j = ls.length := by omega
      obtain ⟨w0, rfl⟩ : ∃ w0, w0 = wr := ⟨_, rfl⟩
      have HC89 := (show Hid _ from grow89 (sln ls ls.length) (HSL.out _ (Nat.le_refl _)) w0)
      go_wp2_with fail
      refine Calls.mono HC89.out ?_
      rintro e w2 ⟨ga, gc, rfl, hb2, ho2⟩
      have HST := (show Hid (Below w0.heap.size w0 w2 ∧ w2.ownsRow w0.heap.size 3 1 (.slice ga (flT ls 0).length gc) (flT ls 0).length (iv (flT ls 0))) from ⟨hb2, by rw [flT_zero]; exact ho2⟩)
      clear hb2 ho2 HC89
      go_wp2_with fail
      go_loopw [6, 27] (fun u i wx => ∃ (j : Nat) (ua : Option Addr) (uc : Nat), i = .int .i64 j ∧ j ≤ ls.length ∧ u = .slice ua (flT ls j).length uc ∧ Hid (Below w0.heap.size w0 wx ∧ wx.ownsRow w0.heap.size 3 1 (.slice ua (flT ls j).length uc) (flT ls j).length (iv (flT ls j)))) (fun _ i _ => ls.length - (intOf i).toNat)
      case atStart => exact ⟨0, ga, gc, rfl, Nat.zero_le _, by rw [flT_zero]; rfl, HST⟩
      case round =>
        obtain ⟨j, ua, uc, rfl, hj, rfl, HI⟩ := hrel
        clear HST
        by_cases hjl : j < ls.length
        · obtain rfl := HA.out (by omega)
          obtain ⟨xa, xc, c0, hox⟩ := HC.out j hjl
          rw [← HI.out.1.cell (lt_of_cell c0)] at c0
          have hs0 := HSL.out j hj
          have hs1 := HSL.out (j + 1) (by omega)
          rw [sln_succ hjl] at hs1
          unfold sln at hs0 hs1
          have HFL := (show Hid _ from fl_succ hjl)
          have HOX := (show Hid _ from ownBel (C := 0) hox HI.out.1)
          have HOB := (show Hid (∀ k, (Value.slice ua (flT ls j).length uc).ownBlock = some k → w0.heap.size ≤ k) from fun k hk => (World.ownsRow.lt HI.out.2 k hk).1)
          by_cases hx0 : ls[j].length = 0
          · rw [hx0] at c0
            have hlj : ls[j] = [] := List.eq_nil_of_length_eq_zero hx0
            have huc : (flT ls j).length ≤ uc := by
              rcases HI.out.2.2 with ⟨e2, h3⟩ | ⟨_, _, _, e2, _, _, h3, _⟩
              · omega
              · injection e2 with _ _ e3; omega
            have hap := fun ty => appNil wr ua (flT ls j).length uc huc xa xc ty
            have HFE := (show Hid (flT ls (j + 1) = flT ls j) from by show _ = _; rw [HFL.out, hlj, List.append_nil])
            clear hox hx0 hlj huc
            go_wp2_with (at_builtin; refine Lib.wpList_append_run _ rfl _ _ _ _ rfl _ _ rfl rfl _ _ (hap _) ?_)
            rw [← HFE.out]
            exact ⟨⟨j + 1, ua, uc, by go_num, by omega, rfl, by rw [HFE.out]; exact HI⟩, by simp [intOf]; omega⟩
          · have hmp : 0 < ls[j].length := by omega
            obtain ⟨g, cap, cur, e, hB, hg, hnc, hcm, hcs, htk⟩ : ∃ g cap cur, Value.slice xa ls[j].length xc = .slice (some ⟨g, 0, none⟩) ls[j].length cap ∧ B ≤ g ∧ w0.heap[g]? = some (.cells cur 3) ∧ ls[j].length ≤ cap ∧ cap ≤ maxLen ∧ cur.size = cap * 1 ∧ cur.toList.take (ls[j].length * 1) = iv ls[j] := by
              rcases hox.2 with ⟨e, h0⟩ | h
              · omega
              · exact h
            rw [e] at c0
            injection e with e1 e2 e3
            subst e1 e3
            have HCL := (show Hid (∀ q u, (iv ls[j])[q]? = some u → wr.cell? (Addr.add ⟨g, 0, none⟩ q) = some u) from fun q u hu => by
              have hq : q < ls[j].length := by
                have := (List.getElem?_eq_some_iff.1 hu).1
                simpa using this
              have hcq : w0.cell? ⟨g, 0 + q, none⟩ = some u := by
                rw [Nat.zero_add, cell_of_row w0 g q cur 3 (0, 0) hg]
                have e := congrArg (·[q]?) htk
                simp only [Nat.mul_one, List.getElem?_take, if_pos hq] at e
                rw [hu] at e
                simpa using e
              rw [WideShapes.add_plain]
              exact (HI.out.1.cell (lt_of_cell hcq)).trans hcq)
            have hNN : (flT ls j).length + ls[j].length ≤ 14400 := hs1
            generalize hNl : (flT ls j).length = NN at *
            have HNl := (show Hid _ from hNl)
            have HSZ := (show Hid (w0.heap.size ≤ wr.heap.size) from HI.out.1.size)
            have HML := (show Hid _ from (rfl : (iv ls[j]).length = (iv ls[j]).length))
            generalize hLJ : ls[j] = LJ at *
            clear hNl hox hLJ htk hg hcs hcm hnc hB HC e2
            obtain ⟨v7, w7, hr7, hown7, hgr7, _, hat7⟩ := run_append_own_at (P := Try.prog) wr w0.heap.size 35 35 3 i3 _ 1 8 Try.underlying35 hi3 hz0 hz1 hz2 rfl (by decide) (.slice ua NN uc) NN _ HI.out.2 ⟨g, 0, none⟩ LJ.length xc (iv LJ) (by simp) HCL.out (fun u hu => by simp at hu; obtain ⟨x, _, rfl⟩ := hu; rfl) (by unfold maxLen; omega) (by omega) HSZ.out
            obtain ⟨a7, c7, rfl⟩ : ∃ a7 c7, v7 = .slice a7 (NN + LJ.length) c7 := by
              rcases hown7.2 with ⟨rfl, h0⟩ | ⟨g', cp', cur', rfl, _⟩
              · exact ⟨none, 0, by rw [h0]⟩
              · exact ⟨_, _, rfl⟩
            have HX := (show Hid (Below w0.heap.size w0 w7 ∧ w7.ownsRow w0.heap.size 3 1 (.slice a7 (NN + LJ.length) c7) (flT ls (j + 1)).length (iv (flT ls (j + 1)))) from by
              refine ⟨HI.out.1.grown hgr7 HSZ.out HOB.out, ?_⟩
              rw [HFL.out, List.length_append, HNl.out]
              simpa [iv] using hown7)
            have HLN := (show Hid ((flT ls (j + 1)).length = NN + LJ.length) from by show _ = _; rw [HFL.out, List.length_append, HNl.out])
            clear hown7 hgr7 hat7
            go_wp2_with (at_builtin; refine Lib.wpList_append_run _ rfl _ _ _ _ rfl _ _ rfl rfl _ _ hr7 ?_)
            exact ⟨⟨j + 1, _, _, by go_num, by omega, by rw [HLN.out], by rw [HLN.out]; have := HX; rw [HLN.out] at this; exact this⟩, by simp [intOf]; omega⟩
        · obtain rfl : j = ls.length := by omega
          have HX := HI
          rw [flT_all] at HX ⊢
          go_wp2_with fail
          go_ret
          exact ⟨_, _, rfl, HX.out.1, HX.out.2⟩
end Go.Proofs.Ytkkebcbcbihbiaa
