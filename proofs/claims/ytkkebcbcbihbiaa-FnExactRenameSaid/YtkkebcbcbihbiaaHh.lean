import Derived.Test.YtkkebcbcbihbiaaHg
/-! Marks of a Sg that was answered, and whether they are still there. -/
namespace Go.Proofs.Ytkkebcbcbihbiaa
open Go.RowKit Go.Deep
set_option linter.unusedVariables false
set_option maxRecDepth 100000
set_option linter.unusedSimpArgs false

/-- A row of so many cells that may be marked. -/
structure Rk (w : World) (b T l k : Nat) (v : Value) : Prop where
  ex : ∃ (a : Option Addr) (cap m : Nat), v = .slice a l cap ∧ l ≤ 1048576 ∧ (0 < l → a = some ⟨b, 0, none⟩ ∧ l * k ≤ m ∧ ∃ f, w.rowIs b T m f)
/-- Edges marked from n on. -/
structure Me (w : World) (b l n : Nat) (v : Value) : Prop where
  ex : ∃ (a : Option Addr) (cap : Nat), v = .slice a l cap ∧ l ≤ 1048576 ∧ (0 < l → a = some ⟨b, 0, none⟩) ∧ ∀ i, i < l → w.cell? ⟨b, i * 3, none⟩ = some (.int .i64 ((n + i * 3 : Nat) : Int)) ∧ w.cell? ⟨b, i * 3 + 1, none⟩ = some (.int .i64 ((n + i * 3 + 1 : Nat) : Int)) ∧ w.cell? ⟨b, i * 3 + 2, none⟩ = some (.int .i64 ((n + i * 3 + 2 : Nat) : Int))
structure Ms (w : World) (b l n : Nat) (v : Value) : Prop where
  ex : ∃ (a : Option Addr) (cap : Nat), v = .slice a l cap ∧ l ≤ 1048576 ∧ (0 < l → a = some ⟨b, 0, none⟩) ∧ ∀ i, i < l → w.cell? ⟨b, i * 2, none⟩ = some (.int .i64 ((n + i * 2 : Nat) : Int)) ∧ w.cell? ⟨b, i * 2 + 1, none⟩ = some (.string (mt (n + i * 2 + 1)))
theorem Rk.keep {w w' : World} {b T l k : Nat} {v : Value} (h : Rk w b T l k v) (hb : b < w.heap.size → w'.heap[b]? = w.heap[b]?) : Rk w' b T l k v := by
  obtain ⟨a, cap, m, h1, h2, h3⟩ := h
  refine ⟨a, cap, m, h1, h2, fun h0 => ?_⟩
  obtain ⟨q1, q2, f, q3⟩ := h3 h0
  exact ⟨q1, q2, f, World.rowIs.of_block q3 (hb (World.rowIs.lt q3))⟩
theorem Me.keep {w w' : World} {b l n : Nat} {v : Value} (h : Me w b l n v) (hb : b < w.heap.size → w'.heap[b]? = w.heap[b]?) : Me w' b l n v := by
  obtain ⟨a, cap, h1, h2, h3, h4⟩ := h
  have mv : ∀ {o : Nat} {x : Value}, w.cell? ⟨b, o, none⟩ = some x → w'.cell? ⟨b, o, none⟩ = some x := fun hc => (World.cell?_of_block (a := ⟨b, _, none⟩) (hb (lt_of_cell hc))).trans hc
  exact ⟨a, cap, h1, h2, h3, fun i hi => ⟨mv (h4 i hi).1, mv (h4 i hi).2.1, mv (h4 i hi).2.2⟩⟩
theorem Ms.keep {w w' : World} {b l n : Nat} {v : Value} (h : Ms w b l n v) (hb : b < w.heap.size → w'.heap[b]? = w.heap[b]?) : Ms w' b l n v := by
  obtain ⟨a, cap, h1, h2, h3, h4⟩ := h
  have mv : ∀ {o : Nat} {x : Value}, w.cell? ⟨b, o, none⟩ = some x → w'.cell? ⟨b, o, none⟩ = some x := fun hc => (World.cell?_of_block (a := ⟨b, _, none⟩) (hb (lt_of_cell hc))).trans hc
  exact ⟨a, cap, h1, h2, h3, fun i hi => ⟨mv (h4 i hi).1, mv (h4 i hi).2⟩⟩
set_option maxHeartbeats 1600000 in
theorem mk53 (lo hi l b n : Nat) (v : Value) (w : World) (h : Rk w b 68 l 3 v) (hlh : 0 < l → lo ≤ b ∧ b < hi) (hn : n + l * 3 ≤ 1125899906842624) :
    Calls Try.prog 53 #[v, .int .i64 n] w fun e w' => e = .returned (.int .i64 (n + l * 3 : Nat)) ∧ Out lo hi w w' ∧ Me w' b l n v := by
  obtain ⟨a, cap, m, rfl, hl, hrow⟩ := h
  have HA := (show Hid (0 < l → a = some ⟨b, 0, none⟩ ∧ l * 3 ≤ m) from fun h0 => ⟨(hrow h0).1, (hrow h0).2.1⟩)
  have HR0 := (show Hid (0 < l → ∃ f, w.rowIs b 68 m f ∧ ∀ i, i < 0 → f (i * 3) = .int .i64 ((n + i * 3 : Nat) : Int) ∧ f (i * 3 + 1) = .int .i64 ((n + i * 3 + 1 : Nat) : Int) ∧ f (i * 3 + 2) = .int .i64 ((n + i * 3 + 2 : Nat) : Int)) from fun h0 => by obtain ⟨f, hf⟩ := (hrow h0).2.2; exact ⟨f, hf, fun i hi => absurd hi (Nat.not_lt_zero _)⟩)
  clear hrow
  go_enter Try.func53, Try.ntmps53
  go_wp2_with fail
  go_loopw [1, 5] (fun u i wr => ∃ (j : Nat), j ≤ l ∧ i = .int .i64 j ∧ u = .int .i64 (n + j * 3 : Nat) ∧ Out lo hi w wr ∧ Hid (0 < l → ∃ f, wr.rowIs b 68 m f ∧ ∀ i, i < j → f (i * 3) = .int .i64 ((n + i * 3 : Nat) : Int) ∧ f (i * 3 + 1) = .int .i64 ((n + i * 3 + 1 : Nat) : Int) ∧ f (i * 3 + 2) = .int .i64 ((n + i * 3 + 2 : Nat) : Int))) (fun _ i _ => l - (intOf i).toNat)
  case atStart => exact ⟨0, Nat.zero_le _, rfl, by simp, Out.refl _ _ _, HR0⟩
  case round =>
    obtain ⟨j, hj, rfl, rfl, hout, HM⟩ := hrel
    by_cases hlt : j < l
    · obtain ⟨f, hrow, hff⟩ := HM.out (by omega)
      obtain ⟨rfl, hlm⟩ := HA.out (by omega)
      clear HM
      have HR := (show Hid _ from hrow); clear hrow
      have HFF := (show Hid _ from hff); clear hff
      have e0 := World.rowIs.cell HR.out (i := j * 3) (by omega)
      have z0 := World.rowIs.frozen HR.out (j * 3)
      have e1 := World.rowIs.cell HR.out (i := j * 3 + 1) (by omega)
      have z1 := World.rowIs.frozen HR.out (j * 3 + 1)
      have e2 := World.rowIs.cell HR.out (i := j * 3 + 2) (by omega)
      have z2 := World.rowIs.frozen HR.out (j * 3 + 2)
      have HLH := (show Hid _ from hlh (by omega))
      have HO0 := (show Hid _ from hout); clear hout
      go_wp2_with fail
      refine ⟨⟨j + 1, by omega, by go_num, by go_num, (Out.trans (Out.trans (Out.trans HO0.out (Out.set _ _ HLH.out.1 HLH.out.2)) (Out.set _ _ HLH.out.1 HLH.out.2)) (Out.set _ _ HLH.out.1 HLH.out.2)), fun _ => ⟨_, (World.rowIs.set (World.rowIs.set (World.rowIs.set HR.out (j * 3) _) (j * 3 + 1) _) (j * 3 + 2) _), fun i hi => ?_⟩⟩, by simp [intOf]; omega⟩
      by_cases e : i = j
      · subst e
        refine ⟨?_, ?_, ?_⟩ <;> simp <;> omega
      · have hf := HFF.out i (by omega)
        refine ⟨?_, ?_, ?_⟩
        · rw [if_neg (by omega), if_neg (by omega), if_neg (by omega)]; exact hf.1
        · rw [if_neg (by omega), if_neg (by omega), if_neg (by omega)]; exact hf.2.1
        · rw [if_neg (by omega), if_neg (by omega), if_neg (by omega)]; exact hf.2.2
    · obtain rfl : j = l := by omega
      go_wp2_with fail
      go_ret
      refine ⟨rfl, hout, ⟨a, cap, rfl, hl, fun h0 => (HA.out h0).1, fun i hi => ?_⟩⟩
      obtain ⟨f, hf, hff⟩ := HM.out (by omega)
      obtain ⟨_, hlm⟩ := HA.out (by omega)
      have hi3 := hff i hi
      refine ⟨?_, ?_, ?_⟩
      · rw [World.rowIs.cell hf (by omega), hi3.1]
      · rw [World.rowIs.cell hf (by omega), hi3.2.1]
      · rw [World.rowIs.cell hf (by omega), hi3.2.2]
set_option maxHeartbeats 1600000 in
theorem held64 (l b n : Nat) (v : Value) (w : World) (h : Me w b l n v) (hn : n + l * 3 ≤ 1125899906842624) :
    Calls Try.prog 64 #[v, .int .i64 n] w fun e w' => e = .returned (.int .i64 (n + l * 3 : Nat)) ∧ Below w.heap.size w w' := by
  obtain ⟨a, cap, rfl, hl, ha, hcell⟩ := h
  have HA := (show Hid _ from ha); clear ha
  have HC := (show Hid _ from hcell); clear hcell
  go_enter Try.func64, Try.ntmps64
  go_wp2_with fail
  go_loopw [1, 5] (fun u i wr => ∃ (j : Nat), j ≤ l ∧ i = .int .i64 j ∧ u = .int .i64 (n + j * 3 : Nat) ∧ wr = w) (fun _ i _ => l - (intOf i).toNat)
  case atStart => exact ⟨0, Nat.zero_le _, rfl, by simp, rfl⟩
  case round =>
    obtain ⟨j, hj, rfl, rfl, rfl⟩ := hrel
    by_cases hlt : j < l
    · obtain rfl := HA.out (by omega)
      obtain ⟨c0, c1, c2⟩ := HC.out j hlt
      go_wp2_with fail
      exact ⟨⟨j + 1, by omega, by go_num, by go_num, trivial⟩, by simp [intOf]; omega⟩
    · obtain rfl : j = l := by omega
      go_wp2_with fail
      go_ret
      exact ⟨rfl, Below.refl _ _⟩
end Go.Proofs.Ytkkebcbcbihbiaa
