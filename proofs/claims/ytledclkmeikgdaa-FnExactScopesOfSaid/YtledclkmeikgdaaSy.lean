import Derived.Test.YtledclkmeikgdaaSx
import Derived.Deep.RegionHeld3
import Derived.BigQuiet
/-! The law: rows of rows of numbers are compared, marked, and held. -/
namespace Go.Proofs.Ytledclkmeikgdaa
open Go.RowKit Go.Deep Go.Lib
set_option linter.unusedVariables false
set_option maxRecDepth 100000
set_option linter.unusedSimpArgs false

/-- Numbers that may be read. -/
def RdI (w : World) (xs : List Nat) (v : Value) : Prop :=
  ∃ (a : Option Addr) (cap b : Nat), v = .slice a xs.length cap ∧ xs.length ≤ 9223372036854775807 ∧ (0 < xs.length → a = some ⟨b, 0, none⟩) ∧ ∀ i (hi : i < xs.length), w.cell? ⟨b, i, none⟩ = some (.int .i64 (xs[i] : Nat))
theorem own_rdi {w : World} {B : Nat} {xs : List Nat} {v : Value} (h : w.ownsRow B 3 1 v xs.length (nums xs)) : RdI w xs v := by
  rcases h.2 with ⟨rfl, h0⟩ | ⟨g, cap, cur, rfl, _, _, h4, h5, _⟩
  · exact ⟨none, 0, 0, by rw [h0], by omega, fun h => by omega, fun i hi => by omega⟩
  · refine ⟨some ⟨g, 0, none⟩, cap, g, rfl, by unfold maxLen at h5; omega, fun _ => rfl, fun i hi => ?_⟩
    rw [World.ownsRow.cellAt h _ (by omega)]
    simp [nums, hi]
/-- Rows of numbers that may be read. -/
def RdR (w : World) (ls : List (List Nat)) (v : Value) : Prop :=
  ∃ (a : Option Addr) (cap b : Nat) (vs : Nat → Value), v = .slice a ls.length cap ∧ ls.length ≤ 9223372036854775807 ∧ (0 < ls.length → a = some ⟨b, 0, none⟩) ∧ (∀ i (hi : i < ls.length), w.cell? ⟨b, i, none⟩ = some (vs i)) ∧ ∀ i (hi : i < ls.length), RdI w ls[i] (vs i)
theorem RdI.still {w w' : World} {xs : List Nat} {v : Value} (h : RdI w xs v) (hb : Below w.heap.size w w') : RdI w' xs v := by
  obtain ⟨a, cap, b, h1, h2, h3, h4⟩ := h
  exact ⟨a, cap, b, h1, h2, h3, fun i hi => (hb.cell (lt_of_cell (h4 i hi))).trans (h4 i hi)⟩
theorem RdI.form {w : World} {xs : List Nat} {v : Value} (h : RdI w xs v) : ∃ a c, v = .slice a xs.length c := by
  obtain ⟨a, cap, b, h1, _⟩ := h
  exact ⟨a, cap, h1⟩
theorem RdR.still {w w' : World} {ls : List (List Nat)} {v : Value} (h : RdR w ls v) (hb : Below w.heap.size w w') : RdR w' ls v := by
  obtain ⟨a, cap, b, vs, h1, h2, h3, h4, h5⟩ := h
  exact ⟨a, cap, b, vs, h1, h2, h3, fun i hi => (hb.cell (lt_of_cell (h4 i hi))).trans (h4 i hi), fun i hi => (h5 i hi).still hb⟩
theorem rdr_of {w : World} {B : Nat} {ls : List (List Nat)} {v : Value} {vs : Nat → Value} (h : w.ownsRow B 34 1 v ls.length (slv vs ls.length)) (h' : ∀ i (hi : i < ls.length), RdI w ls[i] (vs i)) : RdR w ls v := by
  rcases h.2 with ⟨rfl, h0⟩ | ⟨g, cap, cur, rfl, _, _, h4, h5, _⟩
  · exact ⟨none, 0, 0, vs, by rw [h0], by omega, fun h => by omega, fun i hi => by omega, h'⟩
  · refine ⟨some ⟨g, 0, none⟩, cap, g, vs, rfl, by unfold maxLen at h5; omega, fun _ => rfl, fun i hi => ?_, h'⟩
    rw [World.ownsRow.cellAt h _ (by omega), slv_get vs hi]
theorem RRv.rd {w : World} {B : Nat} {ls : List (List Nat)} {v : Value} {vs : Nat → Value} (h : RRv w B ls v vs) : RdR w ls v := rdr_of h.out (fun i hi => own_rdi (h.row i hi))
theorem bel_drewM {B : Nat} {a w : World} (h : Below B a w) (n : Nat) : Below B a (w.drewN n) := h.trans ⟨rfl, rfl, rfl, Nat.le_refl _, fun _ _ => rfl⟩
set_option maxHeartbeats 1600000 in
theorem eqInts58 (xs : List Nat) (v v' : Value) (w : World) (h : RdI w xs v) (h' : RdI w xs v') :
    Calls Try.prog 65 #[v, v'] w fun e w' => e = .returned (.bool true) ∧ Below w.heap.size w w' := by
  obtain ⟨a1, cap1, b1, rfl, hm, ha1, hc1⟩ := h
  obtain ⟨a2, cap2, b2, rfl, _, ha2, hc2⟩ := h'
  have HD := (show Hid _ from (⟨ha1, hc1, ha2, hc2⟩ : _ ∧ _ ∧ _ ∧ _)); clear ha1 hc1 ha2 hc2
  go_enter Try.func65, Try.ntmps65
  go_wp2_with fail
  go_loopw [5] (fun i wr => ∃ j : Nat, i = .int .i64 j ∧ j ≤ xs.length ∧ Hid (Below w.heap.size w wr)) (fun i _ => xs.length - (intOf i).toNat)
  case atStart => exact ⟨0, rfl, Nat.zero_le _, Below.refl _ _⟩
  case round =>
    obtain ⟨j, rfl, hj, HJ⟩ := hrel
    by_cases hlt : j < xs.length
    · obtain rfl := HD.out.1 (by omega)
      obtain rfl := HD.out.2.2.1 (by omega)
      have c1 := HD.out.2.1 j hlt
      have c2 := HD.out.2.2.2 j hlt
      rw [← HJ.out.cell (lt_of_cell c1)] at c1
      rw [← HJ.out.cell (lt_of_cell c2)] at c2
      have i1 : (0 : Int) ≤ (j : Int) := by omega
      have i2 : (j : Int) < (xs.length : Int) := by omega
      have HN := (show Hid (∀ n, Below w.heap.size w (wr.drewN n)) from fun n => bel_drewM HJ.out n)
      generalize xs[j] = y at *
      have hne : ((y : Int) != (y : Int)) = false := by simp
      go_wp2_with fail
      go_quiet (fail)
      go_wp2_with fail
      exact ⟨⟨j + 1, by go_num, by omega, HN.out _⟩, by simp [intOf]; omega⟩
    · have q1 : ¬ ((j : Int) < (xs.length : Int)) := by omega
      go_wp2_with fail
      go_ret
      exact ⟨rfl, HJ.out⟩
set_option maxHeartbeats 1600000 in
theorem eqRows23 (ls : List (List Nat)) (v v' : Value) (w : World) (h : RdR w ls v) (h' : RdR w ls v') :
    Calls Try.prog 21 #[v, v'] w fun e w' => e = .returned (.bool true) ∧ Below w.heap.size w w' := by
  obtain ⟨a1, cap1, b1, vs1, rfl, hm, ha1, hc1, hl1⟩ := h
  obtain ⟨a2, cap2, b2, vs2, rfl, _, ha2, hc2, hl2⟩ := h'
  have HD := (show Hid _ from (⟨ha1, hc1, hl1⟩ : _ ∧ _ ∧ _)); clear ha1 hc1 hl1
  have HD' := (show Hid _ from (⟨ha2, hc2, hl2⟩ : _ ∧ _ ∧ _)); clear ha2 hc2 hl2
  go_enter Try.func21, Try.ntmps21
  go_wp2_with fail
  go_loopw [5] (fun i wr => ∃ j : Nat, i = .int .i64 j ∧ j ≤ ls.length ∧ Hid (Below w.heap.size w wr)) (fun i _ => ls.length - (intOf i).toNat)
  case atStart => exact ⟨0, rfl, Nat.zero_le _, Below.refl _ _⟩
  case round =>
    obtain ⟨j, rfl, hj, HJ⟩ := hrel
    by_cases hlt : j < ls.length
    · obtain rfl := HD.out.1 (by omega)
      obtain rfl := HD'.out.1 (by omega)
      have d1 := HD.out.2.1 j hlt
      have f1 := HD'.out.2.1 j hlt
      obtain ⟨x1, x2, hq⟩ := (HD.out.2.2 j hlt).form
      obtain ⟨y1, y2, hr⟩ := (HD'.out.2.2 j hlt).form
      have hl1 := HD.out.2.2 j hlt
      have hl2 := HD'.out.2.2 j hlt
      rw [hq] at d1 hl1
      rw [hr] at f1 hl2
      have HSK := (show Hid (∀ w' : World, Below wr.heap.size wr w' → w'.cell? ⟨b1, j, none⟩ = some (.slice x1 ls[j].length x2) ∧ w'.cell? ⟨b2, j, none⟩ = some (.slice y1 ls[j].length y2)) from fun w' hb => by
        have hbw := bel_trans HJ.out hb
        have mv : ∀ {b o : Nat} {v : Value}, w.cell? ⟨b, o, none⟩ = some v → w'.cell? ⟨b, o, none⟩ = some v := fun h => (hbw.cell (lt_of_cell h)).trans h
        exact ⟨mv d1, mv f1⟩)
      have hd0 : Below wr.heap.size wr wr.drew := (Below.refl _ _).drew
      have HCL := (show Hid _ from eqInts58 ls[j] _ _ wr.drew (hl1.still (bel_trans HJ.out hd0)) (hl2.still (bel_trans HJ.out hd0)))
      have hS0 := HSK.out _ hd0
      have HD0 := (show Hid _ from hd0)
      have i1 : (0 : Int) ≤ (j : Int) := by omega
      have i2 : (j : Int) < (ls.length : Int) := by omega
      clear d1 f1 hl1 hl2 hq hr hd0
      generalize ls[j].length = m0 at *
      go_wp2_with fail
      go_region_held3 (fun wq => wq.cell? ⟨b1, j, none⟩ = some (.slice x1 m0 x2) ∧ wq.cell? ⟨b2, j, none⟩ = some (.slice y1 m0 y2)) (first | with_reducible exact hS0 | with_reducible exact hS1) ((first | (go_at_call 65; refine Calls.mono HCL.out ?_; rintro e w3 ⟨rfl, hb3⟩; have hx1 : Below wr.heap.size wr w3 := HD0.out.trans (hb3.mono (Nat.le_refl _)); have hS1 := HSK.out w3 hx1)))
      have HE := (show Hid _ from bel_trans HJ.out hx1)
      clear hS0 hS1 hb3 hx1
      go_wp2_with fail
      exact ⟨⟨j + 1, by go_num, by omega, HE⟩, by simp [intOf]; omega⟩
    · have q1 : ¬ ((j : Int) < (ls.length : Int)) := by omega
      have HE := (show Hid _ from HJ.out)
      go_wp2_with fail
      go_ret
      exact ⟨rfl, HE.out⟩
/-- The marks of a row. -/
def mkI (n : Nat) (m : Nat) : List Nat := (List.range m).map fun i => n + i
theorem mkI_len (n m : Nat) : (mkI n m).length = m := by simp [mkI]
theorem mkI_get (n m i : Nat) (h : i < m) : (mkI n m)[i]'(by rw [mkI_len]; exact h) = n + i := by simp [mkI]
/-- How many marks the first j rows take. -/
def ro (ls : List (List Nat)) (j : Nat) : Nat := ((ls.take j).map List.length).sum
theorem ro_succ (ls : List (List Nat)) {j : Nat} (h : j < ls.length) : ro ls (j + 1) = ro ls j + ls[j].length := by
  unfold ro
  rw [List.take_succ_eq_append_getElem h, List.map_append, List.sum_append]
  simp only [List.map_cons, List.map_nil, List.sum_cons, List.sum_nil, Nat.add_zero]
theorem ro_le (ls : List (List Nat)) (j : Nat) : ro ls j ≤ ro ls ls.length := by
  unfold ro
  rw [List.take_length]
  have h : ((ls.take j).map List.length).sum + ((ls.drop j).map List.length).sum = (ls.map List.length).sum := by
    rw [← List.sum_append, ← List.map_append, List.take_append_drop]
  omega
/-- The rows with their marks, the first j of them. -/
def mkJ (n : Nat) (ls : List (List Nat)) (j : Nat) : List (List Nat) := (List.range ls.length).map fun i => if i < j then mkI (n + ro ls i) (ls.getD i []).length else ls.getD i []
theorem mkJ_len (n : Nat) (ls : List (List Nat)) (j : Nat) : (mkJ n ls j).length = ls.length := by simp [mkJ]
theorem mkJ_get (n : Nat) (ls : List (List Nat)) (j i : Nat) (h : i < ls.length) : (mkJ n ls j)[i]'(by rw [mkJ_len]; exact h) = if i < j then mkI (n + ro ls i) ls[i].length else ls[i] := by
  simp [mkJ, List.getD_eq_getElem?_getD, h]
theorem mkJ_zero (n : Nat) (ls : List (List Nat)) : mkJ n ls 0 = ls := by
  apply List.ext_getElem
  · exact mkJ_len n ls 0
  · intro i h1 h2
    rw [mkJ_get n ls 0 i h2, if_neg (by omega)]
/-- One cell of a row is set. -/
theorem own_set {w : World} {B g n cap j : Nat} {xs : List Nat} {y : Nat} (h : w.ownsRow B 3 1 (.slice (some ⟨g, 0, none⟩) n cap) n (nums xs)) (hj : j < xs.length) : (w.setCell ⟨g, j, none⟩ (.int .i64 (y : Nat))).ownsRow B 3 1 (.slice (some ⟨g, 0, none⟩) n cap) n (nums (xs.set j y)) := by
  have hl := h.1
  have hnl : (nums xs).length = xs.length := by simp [nums]
  refine ⟨by simp [nums] at hl ⊢; exact hl, ?_⟩
  rcases h.2 with ⟨e, _⟩ | ⟨g', cap', cur, e1, h2, h3, h4, h5, h6, h7⟩
  · cases e
  · injection e1 with e1 _ e3
    injection e1 with e1
    injection e1 with e1
    subst e1 e3
    have hjc : j < cur.size := by
      rw [h6]
      omega
    refine .inr ⟨g, cap, cur.set j (.int .i64 (y : Nat)) hjc, rfl, h2, ?_, h4, h5, by simpa using h6, ?_⟩
    · have hr : w.rowIs g 3 cur.size (fun i => (cur[i]?).getD .nilFunc) := ⟨cur, h3, rfl, fun i hi => by simp [hi]⟩
      obtain ⟨c, hc1, hc2, hc3⟩ := World.rowIs.set hr j (.int .i64 (y : Nat))
      have : c = cur.set j (.int .i64 (y : Nat)) hjc := by
        apply Array.ext_getElem?
        intro i
        by_cases hi : i < cur.size
        · rw [hc3 i hi, Array.getElem?_set]
          dsimp only
          by_cases e : i = j
          · subst e; simp
          · rw [if_neg e, if_neg (fun h => e h.symm)]; simp [hi]
        · rw [Array.getElem?_eq_none (by omega), Array.getElem?_eq_none (by simp; omega)]
      rw [← this]
      exact hc1
    · rw [Array.toList_set, List.take_set, h7]
      simp [nums, List.map_set]
set_option maxHeartbeats 1600000 in
theorem markInts59 {B : Nat} (xs : List Nat) (v : Value) (n : Nat) (w : World) (h : w.ownsRow B 3 1 v xs.length (nums xs)) (hn : n + xs.length ≤ 67108864) :
    Calls Try.prog 70 #[v, .int .i64 (n : Nat)] w fun e w' => e = .returned (.int .i64 (n + xs.length : Nat)) ∧ w.grownBy w' v.ownBlock ∧ w'.ownsRow B 3 1 v xs.length (nums (mkI n xs.length)) := by
  obtain ⟨a, cap, rfl, _⟩ := own_ne h
  have HO := (show Hid (w.ownsRow B 3 1 (.slice a xs.length cap) xs.length (nums xs)) from h)
  have HM := (show Hid (∀ (wr : World) (ys : List Nat), ys.length = xs.length → (∀ i (hi : i < ys.length), ys[i] = n + i) → wr.ownsRow B 3 1 (.slice a xs.length cap) xs.length (nums ys) → wr.ownsRow B 3 1 (.slice a xs.length cap) xs.length (nums (mkI n xs.length))) from fun wr ys h1 h2 h3 => by
    have e : ys = mkI n xs.length := by
      apply List.ext_getElem
      · rw [mkI_len, h1]
      · intro i i1 i2
        rw [h2 i i1, mkI_get n xs.length i (by omega)]
    rw [← e]
    exact h3)
  have HA := (show Hid (0 < xs.length → ∃ g, a = some ⟨g, 0, none⟩) from fun h0 => by
    rcases h.2 with ⟨e, e0⟩ | ⟨g, cap', cur, e, _⟩
    · omega
    · injection e with e _ _
      exact ⟨g, e⟩)
  clear h
  generalize hL : xs.length = L at *
  go_enter Try.func70, Try.ntmps70
  go_wp2_with fail
  go_loopw [1, 5] (fun u i wr => ∃ (j q : Nat) (ys : List Nat), j ≤ L ∧ i = .int .i64 j ∧ u = .int .i64 q ∧ q ≤ 67108864 ∧ Hid (q = n + j) ∧ Hid (ys.length = L ∧ (∀ i (hi : i < ys.length), i < j → ys[i] = n + i) ∧ wr.ownsRow B 3 1 (.slice a L cap) L (nums ys) ∧ w.grownBy wr (Value.slice a L cap).ownBlock)) (fun _ i _ => L - (intOf i).toNat)
  case atStart => exact ⟨0, n, xs, Nat.zero_le _, rfl, rfl, by omega, (rfl : n = n + 0), hL, fun i _ h => absurd h (Nat.not_lt_zero _), HO.out, ⟨rfl, rfl, rfl, Nat.le_refl _, fun _ _ _ => rfl⟩⟩
  case round =>
    obtain ⟨j, q, ys, hj, rfl, rfl, hq, HQ, HY⟩ := hrel
    by_cases hlt : j < L
    · obtain ⟨g, rfl⟩ := HA.out (by omega)
      have i1 : (0 : Int) ≤ (j : Int) := by omega
      have i2 : (j : Int) < (L : Int) := by omega
      obtain ⟨c1, z1, HN⟩ : (∃ y : Value, wr.cell? ⟨g, j, none⟩ = some y) ∧ wr.frozen? ⟨g, j, none⟩ = false ∧ Hid ((ys.set j q).length = L ∧ (∀ i (hi : i < (ys.set j q).length), i < j + 1 → (ys.set j q)[i] = n + i) ∧ (wr.setCell ⟨g, j, none⟩ (.int .i64 (q : Nat))).ownsRow B 3 1 (.slice (some ⟨g, 0, none⟩) L cap) L (nums (ys.set j q)) ∧ w.grownBy (wr.setCell ⟨g, j, none⟩ (.int .i64 (q : Nat))) (Value.slice (some ⟨g, 0, none⟩) L cap).ownBlock) := by
        obtain ⟨y1, y2, y3, y4⟩ := HY.out
        refine ⟨⟨.int .i64 (ys[j]'(by omega) : Nat), ?_⟩, ?_, by rw [List.length_set]; exact y1, fun i hi hij => ?_, own_set y3 (by omega), ⟨y4.os, y4.tape, y4.output, by simpa using y4.size, fun k hk hne => (blk_setCell_other _ _ _ _ (by show k ≠ g; intro e; subst e; exact hne rfl)).trans (y4.block k hk hne)⟩⟩
        · rw [World.ownsRow.cellAt y3 _ (by omega)]
          simp [nums, show j < ys.length by omega]
        · rcases y3.2 with ⟨e, _⟩ | ⟨g', cap', cur, e1, h2, h3, _⟩
          · cases e
          · injection e1 with e1 _ e3
            injection e1 with e1
            injection e1 with e1
            subst e1
            simp [World.frozen?, h3]
        · rw [List.getElem_set]
          split
          · rename_i e; rw [← e, HQ.out]
          · rw [List.length_set] at hi
            exact y2 i hi (by omega)
      obtain ⟨y, c1⟩ := c1
      have HQ2 := (show Hid (q + 1 = n + (j + 1)) from (by show _ = _; have := HQ.out; omega))
      have hq2 : q + 1 ≤ 67108864 := by have := HQ.out; omega
      clear HY HQ
      go_wp2_with fail
      exact ⟨⟨j + 1, q + 1, ys.set j q, by omega, by go_num, by go_num, hq2, HQ2, HN⟩, by simp [intOf]; omega⟩
    · have hje : j = L := by omega
      subst hje
      have q1 : ¬ ((j : Int) < (j : Int)) := by omega
      have HE := (show Hid (q = n + j ∧ w.grownBy wr (Value.slice a j cap).ownBlock ∧ wr.ownsRow B 3 1 (.slice a j cap) j (nums (mkI n j))) from ⟨HQ.out, HY.out.2.2.2, HM.out wr ys HY.out.1 (fun i hi => HY.out.2.1 i hi (by have := HY.out.1; omega)) HY.out.2.2.1⟩)
      clear HY HQ
      go_wp2_with fail
      go_ret
      exact ⟨T.ret_int (k := .i64) (a := (q : Int)) (by have := HE.out.1; omega), HE.out.2.1, HE.out.2.2⟩
/-- One row of rows is written anew. -/
theorem RRv.turn {W W' : World} {B j : Nat} {ls : List (List Nat)} {v : Value} {vs : Nat → Value} {L' : List (List Nat)} (h : RRv W B ls v vs) (hj : j < ls.length) (hg : W.grownBy W' (vs j).ownBlock) (hl : L'.length = ls.length) (h1 : ∀ i (hi : i < ls.length), i ≠ j → L'[i]'(by omega) = ls[i]) (h2 : W'.ownsRow B 3 1 (vs j) (L'[j]'(by omega)).length (nums (L'[j]'(by omega)))) : RRv W' B L' v vs := by
  refine ⟨?_, fun i hi => ?_, fun i hi => h.apart i (by omega), fun i k hik hk => h.dis i k hik (by omega)⟩
  · rw [hl]
    exact own_keep1 h.out (fun q hq => hg.block q (World.ownsRow.lt h.out q hq).2 (fun e => h.apart j hj q e.symm hq))
  · by_cases e : i = j
    · subst e
      exact h2
    · have hi2 : i < ls.length := by omega
      rw [h1 i hi2 e]
      refine own_keep1 (h.row i hi2) (fun q hq => hg.block q (World.ownsRow.lt (h.row i hi2) q hq).2 (fun eq => ?_))
      rcases Nat.lt_or_gt_of_ne e with g | g
      · exact h.dis i j g hj q hq eq.symm
      · exact h.dis j i g hi2 q eq.symm hq
set_option maxHeartbeats 1600000 in
theorem markRows24 {B : Nat} (ls : List (List Nat)) (v : Value) (vs : Nat → Value) (n : Nat) (w : World) (h : RRv w B ls v vs) (hn : n + ro ls ls.length ≤ 67108864) :
    Calls Try.prog 25 #[v, .int .i64 (n : Nat)] w fun e w' => e = .returned (.int .i64 (n + ro ls ls.length : Nat)) ∧ Below (min B w.heap.size) w w' ∧ RRv w' B (mkJ n ls ls.length) v vs ∧ ∀ k, k < w.heap.size → (∀ i, i < ls.length → (vs i).ownBlock ≠ some k) → w'.heap[k]? = w.heap[k]? := by
  obtain ⟨a, cap, rfl, _⟩ := own_ne h.out
  have hm : ls.length ≤ 9223372036854775807 := by
    rcases h.out.2 with ⟨_, h0⟩ | ⟨g, cap', cur, _, _, _, h4, h5, _⟩
    · omega
    · unfold maxLen at h5; omega
  have HA := (show Hid (0 < ls.length → ∃ g, a = some ⟨g, 0, none⟩) from fun h0 => by
    rcases h.out.2 with ⟨e, e0⟩ | ⟨g, cap', cur, e, _⟩
    · omega
    · injection e with e _ _
      exact ⟨g, e⟩)
  have HO := (show Hid (RRv w B ls (.slice a ls.length cap) vs) from h)
  clear h
  go_enter Try.func25, Try.ntmps25
  go_wp2_with fail
  go_loopw [1, 5] (fun u i wr => ∃ (j q : Nat), j ≤ ls.length ∧ i = .int .i64 j ∧ u = .int .i64 q ∧ q ≤ 67108864 ∧ Hid (q = n + ro ls j) ∧ Hid (RRv wr B (mkJ n ls j) (.slice a ls.length cap) vs ∧ Below (min B w.heap.size) w wr ∧ ∀ k, k < w.heap.size → (∀ i, i < ls.length → (vs i).ownBlock ≠ some k) → wr.heap[k]? = w.heap[k]?)) (fun _ i _ => ls.length - (intOf i).toNat)
  case atStart => exact ⟨0, n, Nat.zero_le _, rfl, rfl, by omega, (by show n = _; simp [ro]), by rw [mkJ_zero]; exact HO.out, Below.refl _ _, fun _ _ _ => rfl⟩
  case round =>
    obtain ⟨j, q, hj, rfl, rfl, hq, HQ, HR⟩ := hrel
    by_cases hlt : j < ls.length
    · obtain ⟨g, rfl⟩ := HA.out (by omega)
      have i1 : (0 : Int) ≤ (j : Int) := by omega
      have i2 : (j : Int) < (ls.length : Int) := by omega
      have hrow := HR.out.1.row j (by rw [mkJ_len]; exact hlt)
      have hgj := mkJ_get n ls j j hlt
      rw [if_neg (by omega)] at hgj
      rw [hgj] at hrow
      obtain ⟨ra, rc, er, _⟩ := own_ne hrow
      have hout := HR.out.1.out
      rw [mkJ_len] at hout
      have c1 : wr.cell? ⟨g, j, none⟩ = some (.slice ra ls[j].length rc) := by
        rw [World.ownsRow.cellAt hout _ (by omega), slv_get vs hlt, er]
      have hro := ro_succ ls hlt
      have hrl := ro_le ls (j + 1)
      have hq1 := HQ.out
      have HCL := (show Hid _ from markInts59 ls[j] (vs j) q wr hrow (by omega))
      rw [er] at HCL
      have HER := (show Hid (vs j = .slice ra ls[j].length rc) from er)
      have HQ2 := (show Hid (q + ls[j].length = n + ro ls (j + 1)) from (by show _ = _; omega))
      have hq2 : q + ls[j].length ≤ 67108864 := by omega
      have HNX := (show Hid (∀ w1 : World, wr.grownBy w1 (Value.slice ra ls[j].length rc).ownBlock → w1.ownsRow B 3 1 (.slice ra ls[j].length rc) ls[j].length (nums (mkI q ls[j].length)) → RRv w1 B (mkJ n ls (j + 1)) (.slice (some ⟨g, 0, none⟩) ls.length cap) vs ∧ Below (min B w.heap.size) w w1 ∧ ∀ k, k < w.heap.size → (∀ i, i < ls.length → (vs i).ownBlock ≠ some k) → w1.heap[k]? = w.heap[k]?) from fun w1 hg1 ho1 => by
        have hb : Below (min B w.heap.size) w w1 := HR.out.2.1.grown hg1 (by have := HR.out.2.1.size; omega) (fun k hk => by
          rw [← HER.out] at hk
          have := (World.ownsRow.lt hrow k hk).1
          omega)
        refine ⟨RRv.turn HR.out.1 (j := j) (by rw [mkJ_len]; exact hlt) (by rw [HER.out]; exact hg1) (by rw [mkJ_len, mkJ_len]) (fun i hi hne => ?_) ?_, hb, fun k hk hne => (hg1.block k (by have := HR.out.2.1.size; omega) (fun e => hne j hlt (by rw [HER.out]; exact e.symm))).trans (HR.out.2.2 k hk hne)⟩
        · rw [mkJ_len] at hi
          rw [mkJ_get n ls (j + 1) i hi, mkJ_get n ls j i hi]
          by_cases e : i < j
          · rw [if_pos (by omega), if_pos e]
          · rw [if_neg (by omega), if_neg e]
        · have e := mkJ_get n ls (j + 1) j hlt
          rw [if_pos (by omega)] at e
          rw [e, mkI_len, HER.out, ← HQ.out]
          exact ho1)
      clear hrow hgj er hout hro hrl hq1 HR HQ
      generalize ls[j].length = m0 at *
      go_wp2_with fail
      refine Calls.mono HCL.out ?_
      rintro e w1 ⟨rfl, hg1, ho1⟩
      have HE := (show Hid _ from HNX.out w1 hg1 ho1)
      clear hg1 ho1 HNX HCL HER c1
      generalize q + m0 = q2 at *
      go_wp2_with fail
      exact ⟨⟨j + 1, q2, by omega, by go_num, rfl, hq2, HQ2, HE⟩, by simp [intOf]; omega⟩
    · have hje : j = ls.length := by omega
      subst hje
      have q1 : ¬ ((ls.length : Int) < (ls.length : Int)) := by omega
      have HE := (show Hid _ from (⟨HQ.out, HR.out⟩ : _ ∧ _))
      clear HR HQ
      go_wp2_with fail
      go_ret
      exact ⟨T.ret_int (k := .i64) (a := (q : Int)) (by have := HE.out.1; omega), HE.out.2.2.1, HE.out.2.1, HE.out.2.2.2⟩
set_option maxHeartbeats 1600000 in
theorem heldInts60 (n m : Nat) (v : Value) (w : World) (h : RdI w (mkI n m) v) (hn : n + m ≤ 67108864) :
    Calls Try.prog 73 #[v, .int .i64 (n : Nat)] w fun e w' => e = .returned (.int .i64 (n + m : Nat)) ∧ w' = w := by
  obtain ⟨a, cap, b, rfl, _, ha, hc⟩ := h
  have HC := (show Hid (∀ i, i < m → w.cell? ⟨b, i, none⟩ = some (.int .i64 (n + i : Nat))) from fun i hi => by
    have := hc i (by rw [mkI_len]; exact hi)
    rw [mkI_get n m i hi] at this
    exact this)
  rw [mkI_len] at ha ⊢
  have HA := (show Hid _ from ha); clear ha
  clear hc
  go_enter Try.func73, Try.ntmps73
  go_wp2_with fail
  go_loop [1, 5] (fun u i => ∃ (j q : Nat), j ≤ m ∧ i = .int .i64 j ∧ u = .int .i64 q ∧ q ≤ 67108864 ∧ Hid (q = n + j)) (fun _ i => m - (intOf i).toNat)
  case atStart => exact ⟨0, n, Nat.zero_le _, rfl, rfl, by omega, (rfl : n = n + 0)⟩
  case round =>
    obtain ⟨j, q, hj, rfl, rfl, hq, HQ⟩ := hrel
    by_cases hlt : j < m
    · obtain rfl := HA.out (by omega)
      have c1 := HC.out j hlt
      rw [← HQ.out] at c1
      have i1 : (0 : Int) ≤ (j : Int) := by omega
      have i2 : (j : Int) < (m : Int) := by omega
      have hne : ((q : Int) != (q : Int)) = false := by simp
      have HQ2 := (show Hid (q + 1 = n + (j + 1)) from (by show _ = _; have := HQ.out; omega))
      have hq2 : q + 1 ≤ 67108864 := by have := HQ.out; omega
      clear HQ
      go_wp2_with fail
      go_round
      case rel => exact ⟨j + 1, q + 1, by omega, by go_num, by go_num, hq2, HQ2⟩
      case measure => simp [intOf]; omega
    · have hje : j = m := by omega
      subst hje
      have q1 : ¬ ((j : Int) < (j : Int)) := by omega
      have HE := (show Hid _ from HQ.out)
      clear HQ
      go_wp2_with fail
      go_ret
      exact ⟨T.ret_int (k := .i64) (a := (q : Int)) (by have := HE.out; omega), rfl⟩
set_option maxHeartbeats 1600000 in
theorem heldRows25 (ls : List (List Nat)) (v : Value) (n : Nat) (w : World) (h : RdR w (mkJ n ls ls.length) v) (hn : n + ro ls ls.length ≤ 67108864) :
    Calls Try.prog 27 #[v, .int .i64 (n : Nat)] w fun e w' => e = .returned (.int .i64 (n + ro ls ls.length : Nat)) ∧ w' = w := by
  obtain ⟨a, cap, b, vs, rfl, hm, ha, hc, hl⟩ := h
  rw [mkJ_len] at hm ha ⊢
  have HA := (show Hid _ from ha); clear ha
  have HC := (show Hid (∀ i (hi : i < ls.length), w.cell? ⟨b, i, none⟩ = some (vs i) ∧ RdI w (mkI (n + ro ls i) ls[i].length) (vs i)) from fun i hi => by
    have h1 := hc i (by rw [mkJ_len]; exact hi)
    have h2 := hl i (by rw [mkJ_len]; exact hi)
    rw [mkJ_get n ls ls.length i hi, if_pos hi] at h2
    exact ⟨h1, h2⟩)
  clear hc hl
  go_enter Try.func27, Try.ntmps27
  go_wp2_with fail
  go_loop [1, 5] (fun u i => ∃ (j q : Nat), j ≤ ls.length ∧ i = .int .i64 j ∧ u = .int .i64 q ∧ q ≤ 67108864 ∧ Hid (q = n + ro ls j)) (fun _ i => ls.length - (intOf i).toNat)
  case atStart => exact ⟨0, n, Nat.zero_le _, rfl, rfl, by omega, (by show n = _; simp [ro])⟩
  case round =>
    obtain ⟨j, q, hj, rfl, rfl, hq, HQ⟩ := hrel
    by_cases hlt : j < ls.length
    · obtain rfl := HA.out (by omega)
      obtain ⟨c1, hr⟩ := HC.out j hlt
      rw [← HQ.out] at hr
      have i1 : (0 : Int) ≤ (j : Int) := by omega
      have i2 : (j : Int) < (ls.length : Int) := by omega
      obtain ⟨ra, rc, er⟩ := hr.form
      rw [mkI_len] at er
      have hro := ro_succ ls hlt
      have hrl := ro_le ls (j + 1)
      have hq1 := HQ.out
      have HCL := (show Hid _ from heldInts60 q ls[j].length (vs j) w hr (by omega))
      rw [er] at c1 HCL
      have HQ2 := (show Hid (q + ls[j].length = n + ro ls (j + 1)) from (by show _ = _; omega))
      have hq2 : q + ls[j].length ≤ 67108864 := by omega
      clear hr er hro hrl hq1 HQ
      generalize ls[j].length = m0 at *
      go_wp2_with fail
      refine Calls.mono HCL.out ?_
      rintro e w1 ⟨rfl, rfl⟩
      clear HCL
      generalize q + m0 = q2 at *
      have hq0 : ¬ ((q2 : Int) < 0) := by omega
      go_wp2_with fail
      go_round
      case rel => exact ⟨j + 1, q2, by omega, by go_num, rfl, hq2, HQ2⟩
      case measure => simp [intOf]; omega
    · have hje : j = ls.length := by omega
      subst hje
      have q1 : ¬ ((ls.length : Int) < (ls.length : Int)) := by omega
      have HE := (show Hid _ from HQ.out)
      clear HQ
      go_wp2_with fail
      go_ret
      exact ⟨T.ret_int (k := .i64) (a := (q : Int)) (by have := HE.out; omega), rfl⟩
end Go.Proofs.Ytledclkmeikgdaa
