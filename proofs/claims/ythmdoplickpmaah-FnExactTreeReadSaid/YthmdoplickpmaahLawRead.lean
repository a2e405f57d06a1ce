import Derived.Test.YthmdoplickpmaahRdr8
import Derived.Test.YthmdoplickpmaahEq
/-! The law FnExactTreeRead, walked. -/
namespace Go.Proofs.Ythmdoplickpmaah
open Go.RowKit Go.Deep Go.Lib
set_option linter.unusedVariables false
set_option maxRecDepth 100000
set_option linter.unusedSimpArgs false

theorem rd_cnt (s : ByteArray) : (rd s).1.cnt ≤ 1000 := by
  have hz : zt.cnt ≤ 1000 := by unfold zt; rw [Tr.cnt_mk]; simp [Tr.cntL]
  unfold rd
  split
  · exact hz
  · cases pAll s with
    | error j => exact hz
    | ok t =>
      dsimp only
      split
      · rename_i hok
        unfold Tr.ok at hok
        simp at hok
        exact hok.1.1
      · exact hz
/-- How far the marks of a tree go, from 1 on. -/
def mkN (t : Tr) : Nat := 1 + 3 * Tr.cntL t.kids
theorem mkN_le {t : Tr} (h : t.cnt ≤ 1000) : mkN t ≤ 4000 := by
  have e : t.cnt = 1 + Tr.cntL t.kids := by cases t; rw [Tr.cnt_mk]
  unfold mkN
  omega
theorem mark_one (t : Tr) (v : Value) (w : World) (lo hi : Nat) (h : Own w lo hi t v) (hhi : hi ≤ w.heap.size) (hc : t.cnt ≤ 1000) :
    Calls Try.prog 19 #[t.val v, .int .i64 1] w fun e w' => e = .returned (.int .i64 (mkN t : Nat)) ∧ Out lo hi w w' ∧ Own w' lo hi (mk t 1) v :=
  mark_any t v w lo hi 1 h hhi (by decide) (by have := mkN_le hc; unfold mkN at this; omega)
theorem held_one {lo hi : Nat} (t : Tr) (v : Value) (w : World) (h : Own w lo hi (mk t 1) v) (hc : t.cnt ≤ 1000) :
    Calls Try.prog 20 #[t.val v, .int .i64 1] w fun e w' => e = .returned (.int .i64 (mkN t : Nat)) ∧ Below w.heap.size w w' :=
  held_any t t.name t.text t.leaf v w 1 (Own.lies h) (by decide) (by have := mkN_le hc; unfold mkN at this; omega) _ _ _

set_option maxHeartbeats 6400000 in
theorem lawRead (s : ByteArray) (w : World) (hs : s.size ≤ maxLen) :
    Calls Try.prog 6 #[.string s] w fun e w' => e = .returned (.bool true) ∧ Below w.heap.size w w' := by
  unfold maxLen at hs
  by_cases hbig : 1048576 < s.size
  · go_enter Try.func6, Try.ntmps6
    go_wp2_with fail
    go_ret
    exact ⟨rfl, Below.refl _ _⟩
  have hc := rd_cnt s
  have HS := (show Hid _ from fun w1 => sRead_any s w1 (by omega))
  have HI := (show Hid _ from fun w1 => iRead_any s w1 (by omega))
  generalize rd s = r at *
  obtain ⟨t, C, A⟩ := r
  dsimp only at hc
  have hn := mkN_le hc
  have hC : (C != C) = false := by simp
  have hA : (A != A) = false := by simp
  have HC := (show Hid _ from hc); clear hc
  go_enter Try.func6, Try.ntmps6
  go_wp2_with fail
  refine Calls.mono (HS.out w) ?_
  rintro e w1 ⟨a1, m1, c1, rfl, hb1, ho1⟩
  dsimp only at ho1 ⊢
  have hbx1 := bel_alloc w1 (.cells #[.string t.name, .string t.text, .bool t.leaf, .slice a1 m1 c1] 29)
  have HO1 := (show Hid _ from Own.still ho1 hbx1)
  have HF1 := (show Hid _ from four_box w1 (.string t.name) (.string t.text) (.bool t.leaf) (.slice a1 m1 c1) 29)
  have HB1 := (show Hid _ from bel_trans hb1 hbx1)
  have hs1 := hb1.size
  clear hb1 ho1 hbx1
  go_wp2_with fail
  refine Calls.mono (HI.out _) ?_
  rintro e w2 ⟨a2, m2, c2, rfl, hb2, ho2⟩
  dsimp only at ho2 ⊢
  have hs2 := hb2.size
  simp only [World.size_alloc] at ho2 hs2
  have hbx2 := bel_alloc w2 (.cells #[.string t.name, .string t.text, .bool t.leaf, .slice a2 m2 c2] 29)
  have HO2 := (show Hid _ from Own.still ho2 hbx2)
  have HF2 := (show Hid _ from four_box w2 (.string t.name) (.string t.text) (.bool t.leaf) (.slice a2 m2 c2) 29)
  have HO1b := (show Hid _ from Own.still HO1.out (bel_trans hb2 hbx2))
  have HF1b := (show Hid _ from Four.still HF1.out (bel_trans hb2 hbx2))
  have HB2 := (show Hid _ from bel_trans HB1.out (bel_trans hb2 hbx2))
  have hszb : (w2.alloc (.cells #[.string t.name, .string t.text, .bool t.leaf, .slice a2 m2 c2] 29)).heap.size = w2.heap.size + 1 := by simp
  obtain ⟨X0, X1, X2, X3⟩ := Four.still HF1.out (bel_trans hb2 hbx2)
  obtain ⟨Y0, Y1, Y2, Y3⟩ := four_box w2 (.string t.name) (.string t.text) (.bool t.leaf) (.slice a2 m2 c2) 29
  have HSZ := (show Hid _ from hszb)
  clear hb2 ho2 hbx2 HO1 HF1 HB1 hszb
  go_wp2_with fail
  generalize w2.alloc (.cells #[.string t.name, .string t.text, .bool t.leaf, .slice a2 m2 c2] 29) = wb at *
  clear X0 X1 X2 X3 Y0 Y1 Y2 Y3
  refine Calls.mono (eq_any t _ _ wb (Own.lies HO2.out) (Own.lies HO1b.out)) ?_
  rintro e w3 ⟨rfl, hb3⟩
  have hs3 := hb3.size
  have hsb := HSZ.out
  have HO3 := (show Hid _ from Own.still HO2.out hb3)
  have HF3 := (show Hid _ from Four.still HF2.out hb3)
  have HO1c := (show Hid _ from Own.still HO1b.out hb3)
  have HF1c := (show Hid _ from Four.still HF1b.out hb3)
  have HB3 := (show Hid _ from bel_trans HB2.out hb3)
  clear hb3 HO2 HF2 HO1b HF1b HB2
  obtain ⟨Y0, Y1, Y2, Y3⟩ := HF3.out
  go_wp2_with fail
  refine Calls.mono (mark_one t _ w3 (w1.heap.size + 1) w2.heap.size HO3.out (by omega) HC.out) ?_
  rintro e w4 ⟨rfl, hu4, ho4⟩
  clear Y0 Y1 Y2 Y3
  have hs4 := hu4.2.2.2.1
  have hheld := fun (w' : World) (hw : Below w4.heap.size w4 w') => held_one t _ w' (ho4.still hw) HC.out
  have HH := (show Hid _ from hheld); clear hheld
  have HF4 := (show Hid _ from Four.keep5 HF3.out (hu4.2.2.2.2 _ (by omega) (by omega)))
  have HF1d := (show Hid _ from Four.keep5 HF1c.out (hu4.2.2.2.2 _ (by omega) (by omega)))
  have HO1d := (show Hid _ from Own.keep HO1c.out (Nat.le_refl _) (Nat.le_refl _) (fun q h1 h2 h3 => hu4.2.2.2.2 q h3 (by omega)))
  have HB4 := (show Hid _ from (Below.trans HB3.out ⟨hu4.1, hu4.2.1, hu4.2.2.1, hu4.2.2.2.1, fun k hk => hu4.2.2.2.2 k (by omega) (by omega)⟩ : Below w.heap.size w w4))
  generalize mkN t = M at *
  have hM : ((M : Int) != M) = false := by simp
  clear hu4 ho4 HO3 HF3 HO1c HF1c HB3
  obtain ⟨Y0, Y1, Y2, Y3⟩ := HF4.out
  go_wp2_with fail
  refine Calls.mono (HH.out _ (Below.refl _ _)) ?_
  rintro e w5 ⟨rfl, hb5⟩
  clear Y0 Y1 Y2 Y3
  have HB5 := (show Hid _ from hb5)
  have hs5 := hb5.size
  clear hb5
  go_wp2_with fail
  refine Calls.mono (HI.out w5) ?_
  rintro e w6 ⟨a6, m6, c6, rfl, hb6, ho6⟩
  dsimp only at ho6 ⊢
  have hbx6 := bel_alloc w6 (.cells #[.string t.name, .string t.text, .bool t.leaf, .slice a6 m6 c6] 29)
  have HO6 := (show Hid _ from Own.still ho6 hbx6)
  have HX6 := (show Hid _ from bel_trans (bel_trans HB5.out hb6) hbx6)
  obtain ⟨X0, X1, X2, X3⟩ := Four.still HF1d.out (bel_trans (bel_trans HB5.out hb6) hbx6)
  obtain ⟨Z0, Z1, Z2, Z3⟩ := four_box w6 (.string t.name) (.string t.text) (.bool t.leaf) (.slice a6 m6 c6) 29
  clear hb6 ho6 hbx6
  go_wp2_with fail
  generalize w6.alloc (.cells #[.string t.name, .string t.text, .bool t.leaf, .slice a6 m6 c6] 29) = wc at *
  clear X0 X1 X2 X3 Z0 Z1 Z2 Z3
  refine Calls.mono (eq_any t _ _ wc (Own.lies HO6.out) (Own.lies (Own.still HO1d.out HX6.out))) ?_
  rintro e w7 ⟨rfl, hb7⟩
  have HX7 := (show Hid _ from bel_trans HX6.out hb7); clear hb7
  obtain ⟨Y0, Y1, Y2, Y3⟩ := Four.still HF4.out HX7.out
  go_wp2_with fail
  refine Calls.mono (HH.out _ HX7.out) ?_
  rintro e w8 ⟨rfl, hb8⟩
  have hbe := bel_trans HB4.out (bel_trans HX7.out hb8)
  clear Y0 Y1 Y2 Y3 hb8
  go_wp2_with fail
  go_ret
  exact ⟨rfl, hbe⟩
end Go.Proofs.Ythmdoplickpmaah
