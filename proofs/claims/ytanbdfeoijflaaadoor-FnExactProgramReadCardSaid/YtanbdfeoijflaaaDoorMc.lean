import Derived.Test.YtanbdfeoijflaaaDoorMb
/-! Reading a program: all words are numbers. -/
namespace Go.Proofs.YtanbdfeoijflaaaDoor
open Go.RowKit Go.Deep
set_option linter.unusedVariables false
set_option maxRecDepth 100000
set_option linter.unusedSimpArgs false

theorem dec59 (s : ByteArray) (hs : s.size ≤ maxLen) (w : World) : Calls Tryd.prog 59 #[.string s] w fun e w' => e = .returned (.bool (numB s)) ∧ Below w.heap.size w w' := by
  have HN := (show Hid _ from fun w' => num60 s hs w')
  generalize numB s = B at *
  go_enter Tryd.func59, Tryd.ntmps59
  go_wp2_with fail
  refine Calls.mono (HN.out _) ?_
  rintro e w1 ⟨rfl, hb1⟩
  go_wp2_with fail
  go_ret
  exact ⟨rfl, hb1⟩
/-- Words as they lie. -/
structure WdL (w : World) (v : Value) (xs : List (List UInt8)) : Prop where
  ex : ∃ (a : Option Addr) (g off cap : Nat), v = .slice a xs.length cap ∧ xs.length ≤ cap ∧ cap ≤ 1000000000 ∧ (0 < xs.length → a = some ⟨g, off, none⟩) ∧ ∀ i (hi : i < xs.length), w.cell? ⟨g, off + i, none⟩ = some (.string (bs xs[i]))
  sz : ∀ i (hi : i < xs.length), xs[i].length ≤ 1000000000
theorem WdL.still {w w' : World} {v : Value} {xs : List (List UInt8)} (h : WdL w v xs) (hb : Below w.heap.size w w') : WdL w' v xs := by
  obtain ⟨⟨a, g, off, cap, h1, h2, h3, h4, h5⟩, h6⟩ := h
  exact ⟨⟨a, g, off, cap, h1, h2, h3, h4, fun i hi => by rw [hb.cell (lt_of_cell (h5 i hi))]; exact h5 i hi⟩, h6⟩
set_option maxHeartbeats 1600000 in
theorem all61 (xs : List (List UInt8)) (v : Value) (w : World) (h : WdL w v xs) :
    Calls Tryd.prog 61 #[v, .func (.func 59) #[] #[]] w fun e w' => e = .returned (.bool (xs.all fun x => numB (bs x))) ∧ Below w.heap.size w w' := by
  obtain ⟨⟨a, g, off, cap, rfl, hc, hm, ha, hcell⟩, hsz⟩ := h
  have HC := (show Hid _ from hcell); clear hcell
  have HA := (show Hid _ from ha); clear ha
  have HZ := (show Hid _ from hsz); clear hsz
  generalize hRes : (xs.all fun x => numB (bs x)) = R
  have HRes := (show Hid _ from hRes); clear hRes
  go_enter Tryd.func61, Tryd.ntmps61
  go_wp2_with fail
  go_loopw [9] (fun i wr => ∃ j : Nat, i = .int .i64 j ∧ j ≤ xs.length ∧ Hid (∀ i (hi : i < xs.length), i < j → numB (bs xs[i]) = true) ∧ Below w.heap.size w wr) (fun i _ => xs.length - (intOf i).toNat)
  case atStart => exact ⟨0, rfl, Nat.zero_le _, fun i hi h0 => absurd h0 (Nat.not_lt_zero _), Below.refl _ _⟩
  case round =>
    obtain ⟨j, rfl, hj, HJ, hbel⟩ := hrel
    by_cases hjl : j < xs.length
    · obtain rfl := HA.out (by omega)
      have c0 := HC.out j hjl
      rw [← hbel.cell (lt_of_cell c0)] at c0
      have HCL := (show Hid _ from dec59 (bs xs[j]) (by rw [bs_size]; have := HZ.out j hjl; unfold maxLen; omega) wr)
      generalize hB : numB (bs xs[j]) = B at HCL
      have HB := (show Hid _ from hB); clear hB
      have HNX := (show Hid (B = true → ∀ i (hi : i < xs.length), i < j + 1 → numB (bs xs[i]) = true) from fun h i hi hij => by
        by_cases e : i = j
        · subst e; exact HB.out.trans h
        · exact HJ.out i hi (by omega))
      have HFX := (show Hid (B = false → R = false) from fun h => by
        rw [← HRes.out, List.all_eq_false]
        exact ⟨xs[j], List.getElem_mem hjl, by rw [HB.out, h]; simp⟩)
      clear HB HRes
      generalize bs xs[j] = sX at *
      cases B
      · have HF := (show Hid (R = false) from HFX.out rfl)
        go_wp2_with fail
        go_at_call 59
        refine Calls.mono HCL.out ?_
        rintro e w1 ⟨rfl, hb1⟩
        have HE := (show Hid _ from bel_trans hbel hb1); clear hb1 c0 hbel
        go_wp2_with fail
        go_ret
        exact ⟨by rw [HF.out]; rfl, HE.out⟩
      · have HN := (show Hid _ from HNX.out rfl)
        go_wp2_with fail
        go_at_call 59
        refine Calls.mono HCL.out ?_
        rintro e w1 ⟨rfl, hb1⟩
        have HE := (show Hid _ from bel_trans hbel hb1); clear hb1 c0 hbel
        go_wp2_with fail
        exact ⟨⟨j + 1, by go_num, by omega, HN, HE.out⟩, by simp [intOf]; omega⟩
    · have HF := (show Hid (R = true) from by
        show R = true
        rw [← HRes.out, List.all_eq_true]
        intro x hx
        obtain ⟨i, hi, rfl⟩ := List.mem_iff_getElem.1 hx
        exact HJ.out i hi (by omega))
      go_wp2_with fail
      go_ret
      exact ⟨by rw [HF.out]; rfl, hbel⟩
end Go.Proofs.YtanbdfeoijflaaaDoor
