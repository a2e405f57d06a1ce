import Derived.Test.YtboffildchoelaaKe
import Derived.Test.YtboffildchoelaaPs
/-! The specification: a rule is right. -/
namespace Go.Proofs.Ytboffildchoelaa
open Go.RowKit Go.Deep Go.Lib Go.ChangeShapes Go.WideShapes
set_option linter.unusedVariables false
set_option maxRecDepth 100000
set_option linter.unusedSimpArgs false

theorem eqS_id (n : ByteArray) : (n.toList == [105, 100]) = eqS n idN := by
  have hv : (idN : ByteArray).toList = [105, 100] := by rw [ByteArray.toList_eq]; rfl
  by_cases e : n = idN
  · subst e
    rw [eqS_refl, hv]
    rfl
  · rw [eqS_no e, ← hv]
    exact ne_bytes e
theorem eqS_fail (n : ByteArray) : (n.toList == [102, 97, 105, 108]) = eqS n failN := by
  have hv : (failN : ByteArray).toList = [102, 97, 105, 108] := by rw [ByteArray.toList_eq]; rfl
  by_cases e : n = failN
  · subst e
    rw [eqS_refl, hv]
    rfl
  · rw [eqS_no e, ← hv]
    exact ne_bytes e
theorem SRow.still {w w' : World} {l : List ByteArray} {v : Value} (h : SRow w l v) (hb : Below w.heap.size w w') : SRow w' l v := by
  obtain ⟨a, cap, b, off, h1, h2, h3, h4, h5⟩ := h
  exact ⟨a, cap, b, off, h1, h2, h3, h4, fun i hi => (hb.cell (lt_of_cell (h5 i hi))).trans (h5 i hi)⟩
theorem word85 (s : ByteArray) (w : World) :
    Calls Try.prog 28 #[.string s] w fun e w' => e = .returned (.bool (hasS pw7 s)) ∧ Below w.heap.size w w' := by
  have HA := (show Hid (Calls Try.prog 30 #[.slice (some ⟨w.heap.size, 0, none⟩) 7 7, .string s] (w.alloc (.cells #[.string ⟨#[97, 108, 108]⟩, .string ⟨#[111, 110, 101]⟩, .string ⟨#[116, 114, 121]⟩, .string ⟨#[114, 101, 112, 101, 97, 116]⟩, .string ⟨#[100, 111, 119, 110]⟩, .string ⟨#[117, 112]⟩, .string ⟨#[105, 110, 110, 101, 114]⟩] 9)) fun e w' => ∃ i : Int, e = .returned (.int .i64 i) ∧ decide (i < 0) = !(hasS pw7 s) ∧ w' = (w.alloc (.cells #[.string ⟨#[97, 108, 108]⟩, .string ⟨#[111, 110, 101]⟩, .string ⟨#[116, 114, 121]⟩, .string ⟨#[114, 101, 112, 101, 97, 116]⟩, .string ⟨#[100, 111, 119, 110]⟩, .string ⟨#[117, 112]⟩, .string ⟨#[105, 110, 110, 101, 114]⟩] 9))) from at80 pw7 s _ _ ⟨some ⟨w.heap.size, 0, none⟩, 7, w.heap.size, 0, rfl, by decide, by unfold maxLen; omega, fun _ => rfl, fun i hi => by
    have hi' : i < 7 := hi
    rcases (show i = 0 ∨ i = 1 ∨ i = 2 ∨ i = 3 ∨ i = 4 ∨ i = 5 ∨ i = 6 by omega) with rfl | rfl | rfl | rfl | rfl | rfl | rfl <;> simp [go_sem, pw7]⟩)
  have HB := (show Hid (Below w.heap.size w (w.alloc (.cells #[.string ⟨#[97, 108, 108]⟩, .string ⟨#[111, 110, 101]⟩, .string ⟨#[116, 114, 121]⟩, .string ⟨#[114, 101, 112, 101, 97, 116]⟩, .string ⟨#[100, 111, 119, 110]⟩, .string ⟨#[117, 112]⟩, .string ⟨#[105, 110, 110, 101, 114]⟩] 9))) from bel_alloc _ _)
  go_enter Try.func28, Try.ntmps28
  go_wp2_with fail
  refine Calls.mono HA.out ?_
  rintro e w1 ⟨i, rfl, hi, rfl⟩
  have HI := (show Hid (decide (0 ≤ i) = hasS pw7 s) from (by
    show decide (0 ≤ i) = hasS pw7 s
    cases e : hasS pw7 s
    · rw [e] at hi
      simp at hi
      exact decide_eq_false (by omega)
    · rw [e] at hi
      simp at hi
      exact decide_eq_true (by omega)))
  clear hi HA
  go_wp2_with fail
  go_ret
  exact ⟨by rw [← HI.out]; rfl, HB.out⟩
/-- Where a rule of this name is first. -/
def FdW (rl : List Rw) (s : ByteArray) (i : Int) : Prop := (i = -1 ∧ hasS (nms rl) s = false) ∨ ∃ j : Nat, i = (j : Int) ∧ ∃ hj : j < rl.length, rl[j].name = s ∧ hasS (nms (rl.take j)) s = false
theorem nms_take_no {rl : List Rw} {s : ByteArray} {j : Nat} (h : ∀ i (hi : i < rl.length), i < j → ¬ rl[i].name = s) : hasS (nms (rl.take j)) s = false := by
  unfold hasS nms
  rw [List.any_eq_false]
  intro y hy e
  rw [List.mem_map] at hy
  obtain ⟨r, h1, h2⟩ := hy
  obtain ⟨i, hi, rfl⟩ := List.mem_iff_getElem.1 h1
  rw [List.length_take] at hi
  rw [List.getElem_take] at h2
  rw [eqS_iff] at e
  exact h i (by omega) (by omega) (h2.trans e)
theorem find63 (rl : List Rw) (s : ByteArray) (v : Value) (w : World) (h : RLy w rl v) :
    Calls Try.prog 13 #[v, .string s] w fun e w' => ∃ i : Int, e = .returned (.int .i64 i) ∧ FdW rl s i ∧ w' = w := by
  obtain ⟨a, cap, b, off, sv, tv, rfl, hc, hm, ha, hx, hcell, hk, hk'⟩ := h
  clear hx hk hk'
  have HC := (show Hid (∀ i (hi : i < rl.length), w.cell? ⟨b, off + i * 9, none⟩ = some (.string rl[i].name)) from fun i hi => (hcell i hi).1); clear hcell
  have HA := (show Hid _ from ha); clear ha
  unfold maxLen at hm
  go_enter Try.func13, Try.ntmps13
  go_wp2_with fail
  go_loop [5] (fun i => ∃ j : Nat, i = .int .i64 j ∧ j ≤ rl.length ∧ Hid (∀ i (hi : i < rl.length), i < j → ¬ rl[i].name = s)) (fun i => rl.length - (intOf i).toNat)
  case atStart => exact ⟨0, rfl, Nat.zero_le _, fun i _ h0 => absurd h0 (Nat.not_lt_zero _)⟩
  case round =>
    obtain ⟨j, rfl, hj, HJ⟩ := hrel
    by_cases hlt : j < rl.length
    · obtain rfl := HA.out (by omega)
      have c1 := HC.out j hlt
      have q1 : (j : Int) < (rl.length : Int) := by omega
      by_cases he : rl[j].name = s
      · have HH := (show Hid (FdW rl s (j : Int)) from .inr ⟨j, rfl, hlt, he, nms_take_no (fun i hi hij => HJ.out i hi hij)⟩)
        rw [he] at c1
        clear he
        go_wp2_with fail
        go_ret
        exact ⟨(j : Int), rfl, HH.out, rfl⟩
      · have hd := ne_bytes he
        have HN := (show Hid (∀ i (hi : i < rl.length), i < j + 1 → ¬ rl[i].name = s) from fun i hi hij => by
          by_cases e : i = j
          · subst e; exact he
          · exact HJ.out i hi (by omega))
        generalize rl[j].name = y at *
        clear he HJ
        go_wp2_with fail
        go_round
        case rel => exact ⟨j + 1, by go_num, by omega, HN⟩
        case measure => simp [intOf]; omega
    · have HH := (show Hid (FdW rl s (-1)) from .inl ⟨rfl, by
        have := nms_take_no (rl := rl) (s := s) (j := rl.length) (fun i hi _ => HJ.out i hi (by omega))
        rwa [List.take_length] at this⟩)
      clear HJ
      go_wp2_with fail
      go_ret
      exact ⟨-1, rfl, HH.out, rfl⟩
theorem pwB_eq (s : ByteArray) : pwB s = (eqS idN s || (eqS failN s || hasS pw7 s)) := rfl
end Go.Proofs.Ytboffildchoelaa
