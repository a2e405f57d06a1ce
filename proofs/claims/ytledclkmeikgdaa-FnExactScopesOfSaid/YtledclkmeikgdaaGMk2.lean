import Derived.Test.YtledclkmeikgdaaGMk
/-! Marks: numbers, texts, Terms, Prods, plain rules. -/
namespace Go.Proofs.Ytledclkmeikgdaa
open Go.RowKit Go.Deep
set_option linter.unusedVariables false
set_option maxRecDepth 100000
set_option linter.unusedSimpArgs false

/-- Numbers in the row b, which may be longer. -/
def OwnI (w : World) (b : Nat) (l : List Int) (v : Value) : Prop :=
  ∃ (a : Option Addr) (cap : Nat) (f : Nat → Value), v = .slice a l.length cap ∧ l.length ≤ cap ∧ cap ≤ maxLen ∧ (0 < l.length → a = some ⟨b, 0, none⟩ ∧ w.rowIs b 3 cap f) ∧ ∀ i (hi : i < l.length), f i = .int .i64 l[i]
theorem OwnI.keep {w w' : World} {b : Nat} {l : List Int} {v : Value} (h : OwnI w b l v) (hb : b < w.heap.size → w'.heap[b]? = w.heap[b]?) : OwnI w' b l v := by
  obtain ⟨a, cap, f, hv, hc, hm, ha, hf⟩ := h
  exact ⟨a, cap, f, hv, hc, hm, fun h0 => ⟨(ha h0).1, World.rowIs.of_block (ha h0).2 (hb (World.rowIs.lt (ha h0).2))⟩, hf⟩
theorem OwnI.still {w w' : World} {b : Nat} {l : List Int} {v : Value} (h : OwnI w b l v) (hb : Below w.heap.size w w') : OwnI w' b l v := h.keep (fun hlt => hb.block b hlt)
theorem OwnI.out {w w' : World} {b lo hi : Nat} {l : List Int} {v : Value} (h : OwnI w b l v) (ho : Out lo hi w w') (hb : b < lo ∨ hi ≤ b) : OwnI w' b l v := h.keep (fun hlt => ho.2.2.2.2 b hlt hb)
theorem OwnI.form {w : World} {b : Nat} {l : List Int} {v : Value} (h : OwnI w b l v) : ∃ a cap, v = .slice a l.length cap ∧ l.length ≤ maxLen := by
  obtain ⟨a, cap, f, hv, hc, hm, _⟩ := h
  exact ⟨_, _, hv, by omega⟩
theorem OwnI.ints {w : World} {b : Nat} {l : List Int} {v : Value} (h : OwnI w b l v) : Ints w (fun c => c = b) l v := by
  obtain ⟨a, cap, f, hv, hc, hm, ha, hf⟩ := h
  refine ⟨a, cap, b, 0, hv, hc, hm, fun h0 => ⟨(ha h0).1, rfl⟩, fun i hi => ?_⟩
  rw [Nat.zero_add, (ha (by omega)).2.cell (by omega), hf i hi]
theorem IRow.own {w : World} {b : Nat} {l : List Int} (h : IRow w b l) (hl : l.length ≤ maxLen) : OwnI w b l (.slice (some ⟨b, 0, none⟩) l.length l.length) :=
  ⟨_, _, _, rfl, Nat.le_refl _, hl, fun _ => ⟨rfl, h⟩, fun i hi => by simp [List.getD_eq_getElem?_getD, hi]⟩
/-- Numbers from n on. -/
def cnt (n m : Nat) : List Int := (List.range m).map fun i => ((n + i : Nat) : Int)
theorem cnt_len (n m : Nat) : (cnt n m).length = m := by simp [cnt]
theorem cnt_get (n m i : Nat) (h : i < (cnt n m).length) : (cnt n m)[i] = ((n + i : Nat) : Int) := by simp [cnt]

set_option maxHeartbeats 800000 in
theorem markInts_any (l : List Int) (b n : Nat) (v : Value) (w : World) (h : OwnI w b l v) (hn : n + l.length ≤ 1125899906842624) :
    Calls Try.prog 70 #[v, .int .i64 n] w fun e w' => e = .returned (.int .i64 (n + l.length : Nat)) ∧ Out b (b + 1) w w' ∧ OwnI w' b (cnt n l.length) v := by
  obtain ⟨a, cap, f0, rfl, hc, hm, ha, hf⟩ := h
  have HA := (show Hid _ from ha); clear ha
  clear hf
  unfold maxLen at hm
  go_enter Try.func70, Try.ntmps70
  go_wp2_with fail
  go_loopw [1, 5] (fun u i wr => ∃ (j : Nat), j ≤ l.length ∧ i = .int .i64 j ∧ u = .int .i64 (n + j : Nat) ∧ Out b (b + 1) w wr ∧ Hid (0 < l.length → ∃ f, wr.rowIs b 3 cap f ∧ ∀ i, i < j → f i = .int .i64 (n + i : Nat))) (fun _ i _ => l.length - (intOf i).toNat)
  case atStart => exact ⟨0, Nat.zero_le _, rfl, rfl, Out.refl _ _ _, fun h0 => ⟨_, (HA.out h0).2, fun i hi => absurd hi (Nat.not_lt_zero _)⟩⟩
  case round =>
    obtain ⟨j, hj, rfl, rfl, hout, HM⟩ := hrel
    by_cases hlt : j < l.length
    · obtain ⟨rfl, _⟩ := HA.out (by omega)
      obtain ⟨f, hrow, hf⟩ := HM.out (by omega)
      have e0 := hrow.cell (i := j) (by omega)
      have z0 := hrow.frozen j
      have HR := (show Hid _ from (⟨hrow, hf⟩ : _ ∧ _)); clear hrow hf
      go_wp2_with fail
      refine ⟨⟨j + 1, by omega, by go_num, by go_num, hout.trans (Out.set _ _ (Nat.le_refl _) (by omega)), fun _ => ⟨_, World.rowIs.set HR.out.1 j _, fun i hi => ?_⟩⟩, by simp [intOf]; omega⟩
      by_cases e : i = j
      · subst e; simp
      · rw [if_neg e]; exact HR.out.2 i (by omega)
    · obtain rfl : j = l.length := by omega
      go_wp2_with fail
      go_ret
      refine ⟨rfl, hout, ?_⟩
      by_cases h0 : 0 < l.length
      · obtain ⟨f, hrow, hf⟩ := HM.out h0
        refine ⟨a, cap, f, by rw [cnt_len], by rw [cnt_len]; exact hc, by unfold maxLen; omega, fun _ => ⟨(HA.out h0).1, hrow⟩, fun i hi => ?_⟩
        rw [cnt_get, hf i (by rw [cnt_len] at hi; exact hi)]
      · refine ⟨a, cap, fun _ => .bool false, by rw [cnt_len], by rw [cnt_len]; exact hc, by unfold maxLen; omega, fun h1 => absurd (by rw [cnt_len] at h1; exact h1) h0, fun i hi => absurd (by rw [cnt_len] at hi; omega) h0⟩
set_option maxHeartbeats 800000 in
theorem heldInts_any (b n m : Nat) (v : Value) (w : World) (h : OwnI w b (cnt n m) v) (hn : n + m ≤ 1125899906842624) :
    Calls Try.prog 73 #[v, .int .i64 n] w fun e w' => e = .returned (.int .i64 (n + m : Nat)) ∧ Below w.heap.size w w' := by
  obtain ⟨a, cap, c, off, hv, hc, hm, ha, hcell⟩ := h.ints
  rw [cnt_len] at hv hc ha
  subst hv
  have HC := (show Hid (∀ i, i < m → w.cell? ⟨c, off + i, none⟩ = some (.int .i64 (n + i : Nat))) from fun i hi => by
    have := hcell i (by rw [cnt_len]; exact hi)
    rw [cnt_get] at this
    exact this)
  clear hcell h
  have HA := (show Hid _ from ha); clear ha
  unfold maxLen at hm
  go_enter Try.func73, Try.ntmps73
  go_wp2_with fail
  go_loopw [1, 5] (fun u i wr => ∃ (j : Nat), j ≤ m ∧ i = .int .i64 j ∧ u = .int .i64 (n + j : Nat) ∧ wr = w) (fun _ i _ => m - (intOf i).toNat)
  case atStart => exact ⟨0, Nat.zero_le _, rfl, rfl, rfl⟩
  case round =>
    obtain ⟨j, hj, rfl, rfl, rfl⟩ := hrel
    by_cases hlt : j < m
    · obtain ⟨rfl, hcb⟩ := HA.out (by omega)
      clear hcb
      have c0 := HC.out j hlt
      have hne : (((n + j : Nat) : Int) != ((n + j : Nat) : Int)) = false := by simp
      go_wp2_with fail
      exact ⟨⟨j + 1, by omega, by go_num, by go_num, trivial⟩, by simp [intOf]; omega⟩
    · obtain rfl : j = m := by omega
      go_wp2_with fail
      go_ret
      exact ⟨rfl, Below.refl _ _⟩
end Go.Proofs.Ytledclkmeikgdaa
