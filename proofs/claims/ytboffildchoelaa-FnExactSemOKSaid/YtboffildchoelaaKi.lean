import Derived.Test.YtboffildchoelaaKg
import Derived.Test.YtboffildchoelaaMn
import Derived.Test.YtboffildchoelaaXa
/-! The program: all rules are right. -/
namespace Go.Proofs.Ytboffildchoelaa
open Go.RowKit Go.Deep Go.Maps Go.WideMaps Go.ChangeMaps Go.Lib
set_option linter.unusedVariables false
set_option maxRecDepth 100000
set_option linter.unusedSimpArgs false

/-- The names of the first j rules, as keys. -/
def kyN (rl : List Rw) (j : Nat) : List Value := (nms (rl.take j)).map Value.string
theorem nms_len (rl : List Rw) : (nms rl).length = rl.length := by simp [nms]
theorem kyN_len {rl : List Rw} {j : Nat} (h : j ≤ rl.length) : (kyN rl j).length = j := by
  unfold kyN
  rw [List.length_map, nms_len, List.length_take]
  omega
theorem nms_take_succ {rl : List Rw} {j : Nat} (h : j < rl.length) : nms (rl.take (j + 1)) = nms (rl.take j) ++ [rl[j].name] := by
  unfold nms
  rw [List.take_succ_eq_append_getElem h, List.map_append]
  rfl
theorem kyN_succ {rl : List Rw} {j : Nat} (h : j < rl.length) : kyN rl (j + 1) = kyN rl j ++ [.string rl[j].name] := by
  unfold kyN
  rw [nms_take_succ h, List.map_append]
  rfl
theorem kyN_mem {rl : List Rw} {j : Nat} {s : ByteArray} : Value.string s ∈ kyN rl j ↔ hasS (nms (rl.take j)) s = true := by
  unfold kyN
  rw [List.mem_map]
  constructor
  · rintro ⟨y, h1, h2⟩
    injection h2 with h2
    subst h2
    unfold hasS
    rw [List.any_eq_true]
    exact ⟨y, h1, eqS_refl y⟩
  · intro h
    exact ⟨s, hasS_iff.1 h, rfl⟩
theorem nms_get {rl : List Rw} {j : Nat} (h : j < rl.length) : (nms rl)[j]'(by rw [nms_len]; exact h) = rl[j].name := by
  unfold nms
  rw [List.getElem_map]
set_option maxHeartbeats 1600000 in
theorem first112 (rl : List Rw) (v : Value) (w : World) (h : SRow w (nms rl) v) (hx : ∀ i (hi : i < rl.length), rl[i].name.size ≤ maxLen) (hlen : rl.length ≤ 20) :
    Calls Try.prog 65 #[v] w fun e w' => ∃ s, e = .returned (.tuple #[.string s, .bool (!(onJ rl rl.length))]) ∧ Below w.heap.size w w' := by
  obtain ⟨a, cap, b, off, rfl, hc, hm, ha, hcell⟩ := h
  rw [nms_len] at ha hc ⊢
  have HC := (show Hid (∀ i (hi : i < rl.length), w.cell? ⟨b, off + i, none⟩ = some (.string rl[i].name)) from fun i hi => by
    rw [hcell i (by rw [nms_len]; exact hi), nms_get hi]); clear hcell
  have HA := (show Hid _ from ha); clear ha
  have HX := (show Hid _ from hx); clear hx hm
  have HNO := (show Hid (∀ j (hj : j < rl.length), hasS (nms (rl.take j)) rl[j].name = true → onJ rl rl.length = false) from fun j hj h => onJ_false rl rl.length (i := j + 1) (by omega) (by rw [onJ_succ hj, h]; simp))
  have HYS := (show Hid (∀ j (hj : j < rl.length), onJ rl j = true → hasS (nms (rl.take j)) rl[j].name = false → onJ rl (j + 1) = true) from fun j hj h1 h2 => by rw [onJ_succ hj, h1, h2]; rfl)
  have HEQ := (show Hid (∀ j, j = rl.length → onJ rl j = true → onJ rl rl.length = true) from fun j h h1 => by rw [← h]; exact h1)
  generalize hD : onJ rl rl.length = D at *
  clear hD
  have hmk := fun w => run_makeMap (P := Try.prog) 110 w
  go_enter Try.func65, Try.ntmps65
  go_wp2_with fail
  go_loopw [10] (fun i wr => ∃ j : Nat, i = .int .i64 j ∧ j ≤ rl.length ∧ Hid (onJ rl j = true) ∧ Hid (Below w.heap.size w wr ∧ w.heap.size < wr.heap.size ∧ Mn wr w.heap.size 9 (kyN rl j))) (fun i _ => rl.length - (intOf i).toNat)
  case atStart => exact ⟨0, rfl, Nat.zero_le _, (rfl : onJ rl 0 = true), bel_alloc _ _, by simp, Mn.new w 9⟩
  case round =>
    obtain ⟨j, rfl, hj, HJ, HI⟩ := hrel
    by_cases hlt : j < rl.length
    · have q1 : (j : Int) < (rl.length : Int) := by omega
      have q0 : (0 : Int) ≤ (j : Int) := by omega
      obtain rfl := HA.out (by omega)
      have c0 := HC.out j hlt
      rw [← HI.out.1.cell (lt_of_cell c0)] at c0
      have HKL := (show Hid _ from kyN_len hj)
      have HNU := (show Hid _ from number81 w.heap.size (kyN rl j) rl[j].name _ wr (keyOf_string_mk (P := Try.prog) Try.underlying9 (HX.out j hlt)) HI.out.2.2 (by rw [HKL.out]; omega))
      have HMM := (show Hid (Value.string rl[j].name ∈ kyN rl j ↔ hasS (nms (rl.take j)) rl[j].name = true) from kyN_mem)
      have HKT := (show Hid _ from kyN_succ hlt)
      have HN := (show Hid _ from HNO.out j hlt)
      have HY := (show Hid _ from HYS.out j hlt HJ.out)
      unfold NoR at HNU
      clear HJ
      generalize rl[j].name = x0 at *
      generalize hasS (nms (rl.take j)) x0 = al at *
      go_wp2_with fail
      refine Calls.mono HNU.out ?_
      rintro e w4 ⟨n, rfl, hk4, hor⟩
      have HB4 := (show Hid (Below w.heap.size w w4 ∧ w.heap.size < w4.heap.size) from (by
        obtain ⟨h1, h2, _⟩ := HI.out
        exact ⟨⟨hk4.os.trans h1.os, hk4.tape.trans h1.tape, hk4.output.trans h1.output, Nat.le_trans h1.size hk4.size, fun q hq => (hk4.block q (by omega) (by omega)).trans (h1.block q hq)⟩, Nat.lt_of_lt_of_le h2 hk4.size⟩))
      cases al
      · obtain ⟨hn, hmn⟩ : n = j ∧ Mn w4 w.heap.size 9 (kyN rl (j + 1)) := by
          rcases hor with ⟨h1, h2⟩ | ⟨_, h1, h2⟩
          · have := HMM.out.1 (List.mem_of_getElem? h1)
            cases this
          · rw [HKL.out] at h1
            rw [HKT.out]
            exact ⟨h1, h2⟩
        have HF := (show Hid _ from HY.out rfl)
        have hij : ((n : Int) != (j : Int)) = false := by simp; omega
        have HI4 := (show Hid (Below w.heap.size w w4 ∧ w.heap.size < w4.heap.size ∧ Mn w4 w.heap.size 9 (kyN rl (j + 1))) from ⟨HB4.out.1, HB4.out.2, hmn⟩)
        clear hor hk4 hmn hn HNU HMM HKT HKL HN HY HI c0 HB4
        go_wp2_with fail
        exact ⟨⟨j + 1, by go_num, by omega, HF, HI4⟩, by simp [intOf]; omega⟩
      · have hn : n < j := by
          rcases hor with ⟨h1, h2⟩ | ⟨h1, _⟩
          · have := (List.getElem?_eq_some_iff.1 h1).1
            rw [HKL.out] at this
            exact this
          · exact absurd (HMM.out.2 rfl) h1
        have HF := (show Hid _ from HN.out rfl)
        have hij : ((n : Int) != (j : Int)) = true := by simp; omega
        clear hor hk4 hn HNU HMM HKT HKL HN HY HI c0
        go_wp2_with fail
        go_ret2
        exact ⟨_, by rw [HF.out]; rfl, HB4.out.1⟩
    · have q1 : ¬ ((j : Int) < (rl.length : Int)) := by omega
      have HF := (show Hid (D = true) from HEQ.out j (by omega) HJ.out)
      go_wp2_with fail
      go_ret2
      first | exact ⟨by rw [HF.out]; rfl, HI.out.1⟩ | exact ⟨by simp [HF.out], HI.out.1⟩
theorem apart103 (rl : List Rw) (v : Value) (w : World) (h : SRow w (nms rl) v) (hx : ∀ i (hi : i < rl.length), rl[i].name.size ≤ maxLen) (hlen : rl.length ≤ 20) :
    Calls Try.prog 59 #[v] w fun e w' => e = .returned (.bool (onJ rl rl.length)) ∧ Below w.heap.size w w' := by
  have HC := (show Hid _ from first112 rl v w h hx hlen)
  obtain ⟨a, cap, b, off, rfl, _⟩ := h
  generalize onJ rl rl.length = D at *
  go_enter Try.func59, Try.ntmps59
  go_wp2_with fail
  refine Calls.mono HC.out ?_
  rintro e w1 ⟨s, rfl, hb1⟩
  have HB := (show Hid _ from hb1)
  clear hb1 HC
  go_wp2_with fail
  go_ret
  exact ⟨by cases D <;> rfl, HB.out⟩
end Go.Proofs.Ytboffildchoelaa
