import Derived.Test.YtokncahlcphhnaaTc
import Derived.Test.YtokncahlcphhnaaEq
import Derived.Test.YtokncahlcphhnaaLf
/-! Truth values: the law's copies, and how it compares them. -/
namespace Go.Proofs.Ytokncahlcphhnaa
open Go.RowKit Go.Deep
set_option linter.unusedVariables false
set_option maxRecDepth 100000
set_option linter.unusedSimpArgs false

theorem run_makeBls (n : Nat) (hn : n ≤ 1048576) (w : World) :
    (Instr.makeSlice 29 (.int .i64 (n : Int)) (.int .i64 (n : Int))).run Try.prog w = .ok (.slice (some ⟨w.heap.size, 0, none⟩) n n) (w.alloc (.cells (madeCells #[.bool false] (n)) 4)) := by
  obtain ⟨i, hi, hzz⟩ := Option.map_eq_some_iff.1 info4
  simp only [Prod.mk.injEq] at hzz
  obtain ⟨hz, hs, hb⟩ := hzz
  have hr := run_make (P := Try.prog) w 29 4 i _ Try.underlying29 hi hz .i64 .i64 n n (by omega) (Int.le_refl _) (by rw [hb]; omega) (by omega)
  simp only [Int.toNat_natCast, hs, Nat.mul_one] at hr
  exact hr
set_option maxHeartbeats 3200000 in
theorem toBls_any {S : Nat → Prop} (l : List Bool) (v : Value) (w : World) (h : Bls w S l v) (hsm : l.length ≤ 1048576) :
    Calls Try.prog 12 #[v] w fun e w' => ∃ v', e = .returned v' ∧ Below w.heap.size w w' ∧ Bls w' (fun b => w.heap.size ≤ b) l v' := by
  obtain ⟨a, cap, b, off, rfl, hc, hm, ha, hcell⟩ := h
  have HC := (show Hid _ from hcell); clear hcell
  have HA := (show Hid _ from ha); clear ha
  have hlen : l.length ≤ 1048576 := hsm
  clear hsm
  unfold maxLen at hm
  have hmk := run_makeBls l.length hlen
  go_enter Try.func12, Try.ntmps12
  go_wp2_with fail
  go_loopw [4] (fun i wr => ∃ j : Nat, j ≤ l.length ∧ i = .int .i64 j ∧ Below w.heap.size w wr ∧ Hid (∃ f, wr.rowIs w.heap.size 4 (l.length) f ∧ ∀ i (_ : i < j) (hi : i < l.length), (f (i) = .bool l[i]))) (fun i _ => l.length - (intOf i).toNat)
  case atStart =>
    obtain ⟨f, hf⟩ := row_made w #[.bool false] (l.length) 4
    exact ⟨0, Nat.zero_le _, rfl, bel_alloc _ _, f, hf, fun i hi => absurd hi (Nat.not_lt_zero _)⟩
  case round =>
    obtain ⟨j, hj, rfl, hbel, HM⟩ := hrel
    by_cases hlt : j < l.length
    · obtain ⟨rfl, _⟩ := HA.out (by omega)
      have c0 := HC.out j (by omega)
      rw [← hbel.cell (lt_of_cell c0)] at c0
      obtain ⟨f, hrow, hf⟩ := HM.out
      have hg := World.rowIs.lt hrow
      have hrow1 := hrow
      have hbw := hbel
      have e0 := hrow1.cell (i := j) (by omega)
      have z0 := hrow1.frozen (j)
      have hf1 : ∀ i (_ : i < j) (hi : i < l.length), (f (i) = .bool l[i]) := hf
      have HN := (show Hid _ from (⟨hrow1, hf1⟩ : _ ∧ _)); clear hrow hf hrow1 hf1 hg HM 
      go_wp2_with fail
      refine ⟨⟨j + 1, by omega, by go_num, (Below.setCell hbw (Nat.le_refl _) _), _, (World.rowIs.set HN.out.1 (j) _), fun i hi hl => ?_⟩, by simp [intOf]; omega⟩
      by_cases e : i = j
      · subst e
        simp
      · have g0 := HN.out.2 i (by omega) hl
        exact by rw [if_neg (by omega)]; exact g0
    · go_wp2_with fail
      go_ret
      obtain ⟨f, hrow, hf⟩ := HM.out
      refine ⟨_, rfl, hbel, _, l.length, w.heap.size, 0, rfl, Nat.le_refl _, by unfold maxLen; omega, fun _ => ⟨rfl, Nat.le_refl _⟩, fun i hi => ?_⟩
      rw [Nat.zero_add, hrow.cell hi, hf i (by omega) hi]
set_option maxHeartbeats 3200000 in
theorem eqBls_any {S S' : Nat → Prop} (l : List Bool) (v v' : Value) (w : World) (h : Bls w S l v) (h' : Bls w S' l v') :
    Calls Try.prog 14 #[v, v'] w fun e w' => e = .returned (.bool true) ∧ Below w.heap.size w w' := by
  obtain ⟨a, cap, b, off, rfl, hc, hm, ha, hcell⟩ := h
  have HC := (show Hid _ from hcell); clear hcell
  have HA := (show Hid _ from ha); clear ha
  obtain ⟨a', cap', b', off', rfl, hc', hm', ha', hcell'⟩ := h'
  have HC' := (show Hid _ from hcell'); clear hcell'
  have HA' := (show Hid _ from ha'); clear ha'
  unfold maxLen at hm hm'
  go_enter Try.func14, Try.ntmps14
  go_wp2_with fail
  go_loopw [5] (fun i wr => ∃ j : Nat, j ≤ l.length ∧ i = .int .i64 j ∧ Below w.heap.size w wr) (fun i _ => l.length - (intOf i).toNat)
  case atStart => exact ⟨0, Nat.zero_le _, rfl, Below.refl _ _⟩
  case round =>
    obtain ⟨j, hj, rfl, hbel⟩ := hrel
    by_cases hlt : j < l.length
    · obtain ⟨rfl, _⟩ := HA.out (by omega)
      obtain ⟨rfl, _⟩ := HA'.out (by omega)
      have c0 := HC.out j (by omega)
      rw [← hbel.cell (lt_of_cell c0)] at c0
      have d0 := HC'.out j (by omega)
      rw [← hbel.cell (lt_of_cell d0)] at d0
      have hbd := hbel.drew
      generalize l[j] = B at *
      have hBB : (B != B) = false := by simp
      go_wp2_with fail
      go_region
      all_goals
        go_wp2_with fail
        exact ⟨⟨j + 1, by omega, by go_num, hbd⟩, by simp [intOf]; omega⟩
    · go_wp2_with fail
      go_ret
      exact ⟨rfl, hbel⟩
end Go.Proofs.Ytokncahlcphhnaa
