import Derived.Test.YtanbdfeoijflaaaDoorPa
import Derived.Test.YtanbdfeoijflaaaDoorKit
import Derived.Outline
import Derived.BigQuiet
import Derived.Deep.RegionWith
/-! Programs that are right: the specification. -/
namespace Go.Proofs.YtanbdfeoijflaaaDoor
open Go.RowKit Go.Deep
set_option linter.unusedVariables false
set_option maxRecDepth 100000
set_option linter.unusedSimpArgs false

theorem pgB_len {l : List DIns} (h : ¬ (1 ≤ l.length ∧ l.length ≤ 50000)) : pgB l = false := by
  unfold pgB
  rw [show btB l.length 1 50000 = false from by
    unfold btB
    by_cases h1 : (1 : Int) ≤ l.length
    · rw [decide_eq_false (p := (l.length : Int) ≤ 50000) (by omega)]; simp
    · rw [decide_eq_false h1]; rfl]
  rfl
theorem pgB_in {l : List DIns} (h : 1 ≤ l.length ∧ l.length ≤ 50000) : pgB l = (l.all (inB l.length) && !gsB (lsO l)) := by
  unfold pgB
  rw [show btB l.length 1 50000 = true from by unfold btB; rw [decide_eq_true (by omega), decide_eq_true (by omega)]; rfl]
  rfl
theorem btB_len {n : Nat} (h : ¬ (1 ≤ n ∧ n ≤ 50000)) : btB n 1 50000 = false := by
  unfold btB
  by_cases h1 : (1 : Int) ≤ n
  · rw [decide_eq_false (p := (n : Int) ≤ 50000) (by omega)]; simp
  · rw [decide_eq_false h1]; rfl
theorem btB_lenT {n : Nat} (h : (1 ≤ n ∧ n ≤ 50000)) : btB n 1 50000 = true := by
  unfold btB; rw [decide_eq_true (by omega), decide_eq_true (by omega)]; rfl
set_option maxHeartbeats 3200000 in
theorem sPg9 {S : Nat → Prop} (l : List DIns) (v : Value) (w : World) (h : InsR w S l v) :
    Calls Tryd.prog 14 #[v] w fun e w' => e = .returned (.bool (pgB l)) ∧ Below w.heap.size w w' := by
  obtain ⟨a, cap, b, off, rfl, hc, hm, ha, hcell⟩ := h
  have HC := (show Hid _ from hcell); clear hcell
  have HA := (show Hid _ from ha); clear ha
  unfold maxLen at hm
  have HBT := (show Hid _ from fun (x a b : Int) (w' : World) => bet31 x a b w')
  have HHT := (show Hid _ from fun (x : Int) (w' : World) => hasTo32 x w')
  have HHN := (show Hid _ from fun (x : Int) (w' : World) => hasN33 x w')
  by_cases hlen : 1 ≤ l.length ∧ l.length ≤ 50000
  case neg =>
    rw [pgB_len hlen]
    have H0 := (show Hid _ from HBT.out l.length 1 50000 w)
    rw [btB_len hlen] at H0
    clear hlen
    go_enter Tryd.func14, Tryd.ntmps14
    go_wp2_with fail
    refine Calls.mono H0.out ?_
    rintro e w1 ⟨rfl, rfl⟩
    go_wp2_with fail
    go_ret
    exact ⟨rfl, Below.refl _ _⟩
  rw [pgB_in hlen]
  have H0 := (show Hid _ from HBT.out l.length 1 50000 w)
  rw [btB_lenT hlen] at H0
  obtain ⟨hl1, hl2⟩ := hlen
  have HLS := (show Hid _ from lsO_at (l := l) (by omega))
  generalize hRes : (l.all (inB l.length) && !gsB (lsO l)) = R
  have HRes := (show Hid _ from hRes); clear hRes
  have kw : IntKind.i64.wrap ((l.length : Int) - 1) = (l.length : Int) - 1 := by simp [IntKind.wrap, IntKind.bits, IntKind.signed]; omega
  go_enter Tryd.func14, Tryd.ntmps14
  go_wp2_with fail
  refine Calls.mono H0.out ?_
  rintro e w1 ⟨rfl, rfl⟩
  go_wp2_with fail
  go_loopw [3] (fun i wr => ∃ j : Nat, i = .int .i64 j ∧ j ≤ l.length ∧ Hid (∀ i (hi : i < l.length), i < j → inB l.length l[i] = true) ∧ Below w1.heap.size w1 wr) (fun i _ => l.length - (intOf i).toNat)
  case atStart => exact ⟨0, rfl, Nat.zero_le _, fun i hi h0 => absurd h0 (Nat.not_lt_zero _), Below.refl _ _⟩
  case round =>
    obtain ⟨j, rfl, hj, HJ, hbel⟩ := hrel
    by_cases hjl : j < l.length
    · obtain ⟨rfl, _⟩ := HA.out (by omega)
      obtain ⟨c0, c1, c2⟩ := HC.out j hjl
      rw [← hbel.cell (lt_of_cell c0)] at c0
      rw [← hbel.cell (lt_of_cell c1)] at c1
      rw [← hbel.cell (lt_of_cell c2)] at c2
      have HNX := (show Hid (inB l.length l[j] = true → ∀ i (hi : i < l.length), i < j + 1 → inB l.length l[i] = true) from fun h i hi hij => by
        by_cases e : i = j
        · subst e; exact h
        · exact HJ.out i hi (by omega))
      have HFX := (show Hid (inB l.length l[j] = false → R = false) from fun h => by
        rw [← HRes.out, show l.all (inB l.length) = false from by rw [List.all_eq_false]; exact ⟨l[j], List.getElem_mem hjl, by rw [h]; simp⟩]; rfl)
      have HIN := (show Hid (inB l.length l[j] = (btB l[j].op 1 10 && (btB l[j].to_ 0 (if htB l[j].op = true then (l.length : Int) - 1 else 0) && (if l[j].op = 10 then decide (l[j].n = 2) || decide (l[j].n = 4) else if hnB l[j].op = true then btB l[j].n 0 1000 else decide (l[j].n = 0))))) from rfl)
      generalize inB l.length l[j] = Q at *
      generalize l[j].op = xo at *
      generalize l[j].n = xn at *
      generalize l[j].to_ = xt at *
      have H1 := (show Hid _ from fun (w' : World) => HHT.out xo w')
      have H2 := (show Hid _ from fun (w' : World) => HBT.out xo 1 10 w')
      have H3 := (show Hid _ from fun (m : Int) (w' : World) => HBT.out xt 0 m w')
      have H4 := (show Hid _ from fun (w' : World) => HHN.out xo w')
      have H5 := (show Hid _ from fun (w' : World) => HBT.out xn 0 1000 w')
      have HBX := (show Hid _ from hbel.alloc hbel.size (.cells #[.int .i64 xo, .int .i64 xn, .int .i64 xt] 38))
      clear hbel
      generalize htB xo = A at *
      generalize btB xo 1 10 = B at *
      generalize hnB xo = D at *
      generalize btB xn 0 1000 = E at *
      go_wp2_with fail
      refine Calls.mono (H1.out _) ?_
      rintro e w2 ⟨rfl, rfl⟩
      have HK : Hid (∃ m : Int, (if A = true then (l.length : Int) - 1 else 0) = m ∧ (A = true → m = (l.length : Int) - 1) ∧ (A = false → m = 0)) := ⟨_, rfl, fun h => if_pos h, fun h => if_neg (by simp [h])⟩
      clear HK
      cases A
      · rw [if_neg (by decide : ¬ (false = true))] at HIN
        go_wp2_with fail
        refine Calls.mono (H2.out _) ?_
        rintro e w3 ⟨rfl, rfl⟩
        cases B
        · have HF := (show Hid (R = false) from HFX.out (by simp [HIN.out]))
          go_wp2_with fail
          go_ret
          exact ⟨ret_bool HF.out.symm, HBX.out⟩
        go_wp2_with fail
        refine Calls.mono (H3.out _ _) ?_
        rintro e w3 ⟨rfl, rfl⟩
        generalize btB xt 0 0 = G at *
        cases G
        · have HF := (show Hid (R = false) from HFX.out (by simp [HIN.out]))
          go_wp2_with fail
          go_ret
          exact ⟨ret_bool HF.out.symm, HBX.out⟩
        by_cases k10 : xo = 10
        · subst k10
          by_cases n2 : xn = 2
          · have HN2 := (show Hid _ from HNX.out (by simp [HIN.out, n2]))
            subst n2
            go_wp2_with fail
            exact ⟨⟨j + 1, by go_num, by omega, HN2, HBX.out⟩, by simp [intOf]; omega⟩
          by_cases n4 : xn = 4
          · have HN2 := (show Hid _ from HNX.out (by simp [HIN.out, n4]))
            subst n4
            go_wp2_with fail
            exact ⟨⟨j + 1, by go_num, by omega, HN2, HBX.out⟩, by simp [intOf]; omega⟩
          have HF := (show Hid (R = false) from HFX.out (by simp [HIN.out, n2, n4]))
          have q2 : (xn != 2) = true := by simpa using n2
          have q4 : (xn != 4) = true := by simpa using n4
          clear n2 n4
          go_wp2_with fail
          go_ret
          exact ⟨ret_bool HF.out.symm, HBX.out⟩
        have q10 : (xo == 10) = false := by simpa using k10
        rw [if_neg k10] at HIN
        clear k10
        go_wp2_with fail
        refine Calls.mono (H4.out _) ?_
        rintro e w3 ⟨rfl, rfl⟩
        cases D
        · by_cases n0 : xn = 0
          · have HN2 := (show Hid _ from HNX.out (by simp [HIN.out, n0]))
            subst n0
            go_wp2_with fail
            exact ⟨⟨j + 1, by go_num, by omega, HN2, HBX.out⟩, by simp [intOf]; omega⟩
          have HF := (show Hid (R = false) from HFX.out (by simp [HIN.out, n0]))
          have q0 : (xn != 0) = true := by simpa using n0
          clear n0
          go_wp2_with fail
          go_ret
          exact ⟨ret_bool HF.out.symm, HBX.out⟩
        · go_wp2_with fail
          refine Calls.mono (H5.out _) ?_
          rintro e w3 ⟨rfl, rfl⟩
          cases E
          · have HF := (show Hid (R = false) from HFX.out (by simp [HIN.out]))
            go_wp2_with fail
            go_ret
            exact ⟨ret_bool HF.out.symm, HBX.out⟩
          · have HN2 := (show Hid _ from HNX.out (by simp [HIN.out]))
            go_wp2_with fail
            exact ⟨⟨j + 1, by go_num, by omega, HN2, HBX.out⟩, by simp [intOf]; omega⟩
      · rw [if_pos (rfl : true = true)] at HIN
        go_wp2_with fail
        refine Calls.mono (H2.out _) ?_
        rintro e w3 ⟨rfl, rfl⟩
        cases B
        · have HF := (show Hid (R = false) from HFX.out (by simp [HIN.out]))
          go_wp2_with fail
          go_ret
          exact ⟨ret_bool HF.out.symm, HBX.out⟩
        go_wp2_with fail
        refine Calls.mono (H3.out _ _) ?_
        rintro e w3 ⟨rfl, rfl⟩
        generalize btB xt 0 ((l.length : Int) - 1) = G at *
        cases G
        · have HF := (show Hid (R = false) from HFX.out (by simp [HIN.out]))
          go_wp2_with fail
          go_ret
          exact ⟨ret_bool HF.out.symm, HBX.out⟩
        by_cases k10 : xo = 10
        · subst k10
          by_cases n2 : xn = 2
          · have HN2 := (show Hid _ from HNX.out (by simp [HIN.out, n2]))
            subst n2
            go_wp2_with fail
            exact ⟨⟨j + 1, by go_num, by omega, HN2, HBX.out⟩, by simp [intOf]; omega⟩
          by_cases n4 : xn = 4
          · have HN2 := (show Hid _ from HNX.out (by simp [HIN.out, n4]))
            subst n4
            go_wp2_with fail
            exact ⟨⟨j + 1, by go_num, by omega, HN2, HBX.out⟩, by simp [intOf]; omega⟩
          have HF := (show Hid (R = false) from HFX.out (by simp [HIN.out, n2, n4]))
          have q2 : (xn != 2) = true := by simpa using n2
          have q4 : (xn != 4) = true := by simpa using n4
          clear n2 n4
          go_wp2_with fail
          go_ret
          exact ⟨ret_bool HF.out.symm, HBX.out⟩
        have q10 : (xo == 10) = false := by simpa using k10
        rw [if_neg k10] at HIN
        clear k10
        go_wp2_with fail
        refine Calls.mono (H4.out _) ?_
        rintro e w3 ⟨rfl, rfl⟩
        cases D
        · by_cases n0 : xn = 0
          · have HN2 := (show Hid _ from HNX.out (by simp [HIN.out, n0]))
            subst n0
            go_wp2_with fail
            exact ⟨⟨j + 1, by go_num, by omega, HN2, HBX.out⟩, by simp [intOf]; omega⟩
          have HF := (show Hid (R = false) from HFX.out (by simp [HIN.out, n0]))
          have q0 : (xn != 0) = true := by simpa using n0
          clear n0
          go_wp2_with fail
          go_ret
          exact ⟨ret_bool HF.out.symm, HBX.out⟩
        · go_wp2_with fail
          refine Calls.mono (H5.out _) ?_
          rintro e w3 ⟨rfl, rfl⟩
          cases E
          · have HF := (show Hid (R = false) from HFX.out (by simp [HIN.out]))
            go_wp2_with fail
            go_ret
            exact ⟨ret_bool HF.out.symm, HBX.out⟩
          · have HN2 := (show Hid _ from HNX.out (by simp [HIN.out]))
            go_wp2_with fail
            exact ⟨⟨j + 1, by go_num, by omega, HN2, HBX.out⟩, by simp [intOf]; omega⟩
    · have HF := (show Hid (R = !gsB (lsO l)) from by
        show R = _
        rw [← HRes.out, show l.all (inB l.length) = true from by
          rw [List.all_eq_true]
          intro x hx
          obtain ⟨i, hi, rfl⟩ := List.mem_iff_getElem.1 hx
          exact HJ.out i hi (by omega)]
        rfl)
      obtain ⟨rfl, _⟩ := HA.out (by omega)
      obtain ⟨c0, c1, c2⟩ := HC.out (l.length - 1) (by omega)
      rw [← hbel.cell (lt_of_cell c0)] at c0
      rw [← HLS.out, show ((l.length - 1 : Nat)) * 3 = (l.length - 1) * 3 from rfl] at c0
      clear c1 c2
      have HG := (show Hid _ from fun (w' : World) => goes34 (lsO l) w')
      have kz : ((l.length : Int) - 1).toNat = l.length - 1 := by omega
      generalize lsO l = o at *
      generalize gsB o = G at *
      go_wp2_with fail
      refine Calls.mono (HG.out _) ?_
      rintro e w3 ⟨rfl, rfl⟩
      go_wp2_with fail
      go_ret
      exact ⟨ret_bool HF.out.symm, hbel⟩
end Go.Proofs.YtanbdfeoijflaaaDoor
