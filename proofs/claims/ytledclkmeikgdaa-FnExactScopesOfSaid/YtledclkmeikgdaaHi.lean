import Derived.Test.YtledclkmeikgdaaGMk2
import Derived.Deep.CutRange
import Derived.Deep.RegionHeld3
/-! Marks of a Sg that was answered, and whether they are still there. -/
namespace Go.Proofs.Ytledclkmeikgdaa
open Go.RowKit Go.Deep
set_option linter.unusedVariables false
set_option maxRecDepth 100000
set_option linter.unusedSimpArgs false

/-- A row of so many cells that may be marked. -/
structure Rk (w : World) (b T l k : Nat) (v : Value) : Prop where
  ex : ∃ (a : Option Addr) (cap m : Nat), v = .slice a l cap ∧ l ≤ 1048576 ∧ (0 < l → a = some ⟨b, 0, none⟩ ∧ l * k ≤ m ∧ ∃ f, w.rowIs b T m f)
/-- Edges marked from n on. -/
structure Me (w : World) (b l n : Nat) (v : Value) : Prop where
  ex : ∃ (a : Option Addr) (cap : Nat), v = .slice a l cap ∧ l ≤ 1048576 ∧ (0 < l → a = some ⟨b, 0, none⟩) ∧ ∀ i, i < l → w.cell? ⟨b, i * 3, none⟩ = some (.int .i64 ((n + i * 3 : Nat) : Int)) ∧ w.cell? ⟨b, i * 3 + 1, none⟩ = some (.int .i64 ((n + i * 3 + 1 : Nat) : Int)) ∧ w.cell? ⟨b, i * 3 + 2, none⟩ = some (.int .i64 ((n + i * 3 + 2 : Nat) : Int))
structure Ms (w : World) (b l n : Nat) (v : Value) : Prop where
  ex : ∃ (a : Option Addr) (cap : Nat), v = .slice a l cap ∧ l ≤ 1048576 ∧ (0 < l → a = some ⟨b, 0, none⟩) ∧ ∀ i, i < l → w.cell? ⟨b, i * 2, none⟩ = some (.int .i64 ((n + i * 2 : Nat) : Int)) ∧ w.cell? ⟨b, i * 2 + 1, none⟩ = some (.string (mt (n + i * 2 + 1)))
theorem Rk.keep {w w' : World} {b T l k : Nat} {v : Value} (h : Rk w b T l k v) (hb : b < w.heap.size → w'.heap[b]? = w.heap[b]?) : Rk w' b T l k v := by
  obtain ⟨a, cap, m, h1, h2, h3⟩ := h
  refine ⟨a, cap, m, h1, h2, fun h0 => ?_⟩
  obtain ⟨q1, q2, f, q3⟩ := h3 h0
  exact ⟨q1, q2, f, World.rowIs.of_block q3 (hb (World.rowIs.lt q3))⟩
theorem Me.keep {w w' : World} {b l n : Nat} {v : Value} (h : Me w b l n v) (hb : b < w.heap.size → w'.heap[b]? = w.heap[b]?) : Me w' b l n v := by
  obtain ⟨a, cap, h1, h2, h3, h4⟩ := h
  have mv : ∀ {o : Nat} {x : Value}, w.cell? ⟨b, o, none⟩ = some x → w'.cell? ⟨b, o, none⟩ = some x := fun hc => (World.cell?_of_block (a := ⟨b, _, none⟩) (hb (lt_of_cell hc))).trans hc
  exact ⟨a, cap, h1, h2, h3, fun i hi => ⟨mv (h4 i hi).1, mv (h4 i hi).2.1, mv (h4 i hi).2.2⟩⟩
theorem Ms.keep {w w' : World} {b l n : Nat} {v : Value} (h : Ms w b l n v) (hb : b < w.heap.size → w'.heap[b]? = w.heap[b]?) : Ms w' b l n v := by
  obtain ⟨a, cap, h1, h2, h3, h4⟩ := h
  have mv : ∀ {o : Nat} {x : Value}, w.cell? ⟨b, o, none⟩ = some x → w'.cell? ⟨b, o, none⟩ = some x := fun hc => (World.cell?_of_block (a := ⟨b, _, none⟩) (hb (lt_of_cell hc))).trans hc
  exact ⟨a, cap, h1, h2, h3, fun i hi => ⟨mv (h4 i hi).1, mv (h4 i hi).2⟩⟩
set_option maxHeartbeats 1600000 in
theorem mk53 (lo hi l b n : Nat) (v : Value) (w : World) (h : Rk w b 74 l 3 v) (hlh : 0 < l → lo ≤ b ∧ b < hi) (hn : n + l * 3 ≤ 1125899906842624) :
    Calls Try.prog 68 #[v, .int .i64 n] w fun e w' => e = .returned (.int .i64 (n + l * 3 : Nat)) ∧ Out lo hi w w' ∧ Me w' b l n v := by
  obtain ⟨a, cap, m, rfl, hl, hrow⟩ := h
  have HA := (show Hid (0 < l → a = some ⟨b, 0, none⟩ ∧ l * 3 ≤ m) from fun h0 => ⟨(hrow h0).1, (hrow h0).2.1⟩)
  have HR0 := (show Hid (0 < l → ∃ f, w.rowIs b 74 m f ∧ ∀ i, i < 0 → f (i * 3) = .int .i64 ((n + i * 3 : Nat) : Int) ∧ f (i * 3 + 1) = .int .i64 ((n + i * 3 + 1 : Nat) : Int) ∧ f (i * 3 + 2) = .int .i64 ((n + i * 3 + 2 : Nat) : Int)) from fun h0 => by obtain ⟨f, hf⟩ := (hrow h0).2.2; exact ⟨f, hf, fun i hi => absurd hi (Nat.not_lt_zero _)⟩)
  clear hrow
  go_enter Try.func68, Try.ntmps68
  go_wp2_with fail
  go_loopw [1, 5] (fun u i wr => ∃ (j : Nat), j ≤ l ∧ i = .int .i64 j ∧ u = .int .i64 (n + j * 3 : Nat) ∧ Out lo hi w wr ∧ Hid (0 < l → ∃ f, wr.rowIs b 74 m f ∧ ∀ i, i < j → f (i * 3) = .int .i64 ((n + i * 3 : Nat) : Int) ∧ f (i * 3 + 1) = .int .i64 ((n + i * 3 + 1 : Nat) : Int) ∧ f (i * 3 + 2) = .int .i64 ((n + i * 3 + 2 : Nat) : Int))) (fun _ i _ => l - (intOf i).toNat)
  case atStart => exact ⟨0, Nat.zero_le _, rfl, by simp, Out.refl _ _ _, HR0⟩
  case round =>
    obtain ⟨j, hj, rfl, rfl, hout, HM⟩ := hrel
    by_cases hlt : j < l
    · obtain ⟨f, hrow, hff⟩ := HM.out (by omega)
      obtain ⟨rfl, hlm⟩ := HA.out (by omega)
      clear HM
      have HR := (show Hid _ from hrow); clear hrow
      have HFF := (show Hid _ from hff); clear hff
      have e0 := World.rowIs.cell HR.out (i := j * 3) (by omega)
      have z0 := World.rowIs.frozen HR.out (j * 3)
      have e1 := World.rowIs.cell HR.out (i := j * 3 + 1) (by omega)
      have z1 := World.rowIs.frozen HR.out (j * 3 + 1)
      have e2 := World.rowIs.cell HR.out (i := j * 3 + 2) (by omega)
      have z2 := World.rowIs.frozen HR.out (j * 3 + 2)
      have HLH := (show Hid _ from hlh (by omega))
      have HO0 := (show Hid _ from hout); clear hout
      go_wp2_with fail
      refine ⟨⟨j + 1, by omega, by go_num, by go_num, (Out.trans (Out.trans (Out.trans HO0.out (Out.set _ _ HLH.out.1 HLH.out.2)) (Out.set _ _ HLH.out.1 HLH.out.2)) (Out.set _ _ HLH.out.1 HLH.out.2)), fun _ => ⟨_, (World.rowIs.set (World.rowIs.set (World.rowIs.set HR.out (j * 3) _) (j * 3 + 1) _) (j * 3 + 2) _), fun i hi => ?_⟩⟩, by simp [intOf]; omega⟩
      by_cases e : i = j
      · subst e
        refine ⟨?_, ?_, ?_⟩ <;> simp <;> omega
      · have hf := HFF.out i (by omega)
        refine ⟨?_, ?_, ?_⟩
        · rw [if_neg (by omega), if_neg (by omega), if_neg (by omega)]; exact hf.1
        · rw [if_neg (by omega), if_neg (by omega), if_neg (by omega)]; exact hf.2.1
        · rw [if_neg (by omega), if_neg (by omega), if_neg (by omega)]; exact hf.2.2
    · obtain rfl : j = l := by omega
      go_wp2_with fail
      go_ret
      refine ⟨rfl, hout, ⟨a, cap, rfl, hl, fun h0 => (HA.out h0).1, fun i hi => ?_⟩⟩
      obtain ⟨f, hf, hff⟩ := HM.out (by omega)
      obtain ⟨_, hlm⟩ := HA.out (by omega)
      have hi3 := hff i hi
      refine ⟨?_, ?_, ?_⟩
      · rw [World.rowIs.cell hf (by omega), hi3.1]
      · rw [World.rowIs.cell hf (by omega), hi3.2.1]
      · rw [World.rowIs.cell hf (by omega), hi3.2.2]
set_option maxHeartbeats 1600000 in
theorem held64 (l b n : Nat) (v : Value) (w : World) (h : Me w b l n v) (hn : n + l * 3 ≤ 1125899906842624) :
    Calls Try.prog 71 #[v, .int .i64 n] w fun e w' => e = .returned (.int .i64 (n + l * 3 : Nat)) ∧ Below w.heap.size w w' := by
  obtain ⟨a, cap, rfl, hl, ha, hcell⟩ := h
  have HA := (show Hid _ from ha); clear ha
  have HC := (show Hid _ from hcell); clear hcell
  go_enter Try.func71, Try.ntmps71
  go_wp2_with fail
  go_loopw [1, 5] (fun u i wr => ∃ (j : Nat), j ≤ l ∧ i = .int .i64 j ∧ u = .int .i64 (n + j * 3 : Nat) ∧ wr = w) (fun _ i _ => l - (intOf i).toNat)
  case atStart => exact ⟨0, Nat.zero_le _, rfl, by simp, rfl⟩
  case round =>
    obtain ⟨j, hj, rfl, rfl, rfl⟩ := hrel
    by_cases hlt : j < l
    · obtain rfl := HA.out (by omega)
      obtain ⟨c0, c1, c2⟩ := HC.out j hlt
      go_wp2_with fail
      exact ⟨⟨j + 1, by omega, by go_num, by go_num, trivial⟩, by simp [intOf]; omega⟩
    · obtain rfl : j = l := by omega
      go_wp2_with fail
      go_ret
      exact ⟨rfl, Below.refl _ _⟩
end Go.Proofs.Ytledclkmeikgdaa

/-! Marks of spots that were answered; of a whole Sg. -/
namespace Go.Proofs.Ytledclkmeikgdaa
open Go.RowKit Go.Deep
set_option linter.unusedVariables false
set_option maxRecDepth 100000
set_option linter.unusedSimpArgs false

set_option maxHeartbeats 3200000 in
theorem mk54 (lo hi l b n : Nat) (v : Value) (w : World) (h : Rk w b 33 l 2 v) (hlh : 0 < l → lo ≤ b ∧ b < hi) (h0 : 0 < n) (hn : n + l * 2 ≤ 1125899906842624) :
    Calls Try.prog 69 #[v, .int .i64 n] w fun e w' => e = .returned (.int .i64 (n + l * 2 : Nat)) ∧ Out lo hi w w' ∧ Ms w' b l n v := by
  obtain ⟨a, cap, m, rfl, hl, hrow⟩ := h
  have HA := (show Hid (0 < l → a = some ⟨b, 0, none⟩ ∧ l * 2 ≤ m) from fun h0 => ⟨(hrow h0).1, (hrow h0).2.1⟩)
  have HR0 := (show Hid (0 < l → ∃ f, w.rowIs b 33 m f ∧ ∀ i, i < 0 → f (i * 2) = .int .i64 ((n + i * 2 : Nat) : Int) ∧ f (i * 2 + 1) = .string (mt (n + i * 2 + 1))) from fun h0 => by obtain ⟨f, hf⟩ := (hrow h0).2.2; exact ⟨f, hf, fun i hi => absurd hi (Nat.not_lt_zero _)⟩)
  clear hrow
  go_enter Try.func69, Try.ntmps69
  go_wp2_with fail
  go_loopw [1, 5] (fun u i wr => ∃ (j : Nat), j ≤ l ∧ i = .int .i64 j ∧ u = .int .i64 (n + j * 2 : Nat) ∧ Out lo hi w wr ∧ Hid (0 < l → ∃ f, wr.rowIs b 33 m f ∧ ∀ i, i < j → f (i * 2) = .int .i64 ((n + i * 2 : Nat) : Int) ∧ f (i * 2 + 1) = .string (mt (n + i * 2 + 1)))) (fun _ i _ => l - (intOf i).toNat)
  case atStart => exact ⟨0, Nat.zero_le _, rfl, by simp, Out.refl _ _ _, HR0⟩
  case round =>
    obtain ⟨j, hj, rfl, rfl, hout, HM⟩ := hrel
    by_cases hlt : j < l
    · obtain ⟨f, hrow, hff⟩ := HM.out (by omega)
      obtain ⟨rfl, hlm⟩ := HA.out (by omega)
      clear HM
      have HR := (show Hid _ from hrow); clear hrow
      have HFF := (show Hid _ from hff); clear hff
      have HT := (show Hid _ from fun (k : Int) (w : World) (h0 : 0 < k) (hk : k ≤ 1125899906842624) => markText_any k w h0 hk)
      have e0 := World.rowIs.cell HR.out (i := j * 2) (by omega)
      have z0 := World.rowIs.frozen HR.out (j * 2)
      have HLH := (show Hid _ from hlh (by omega))
      have HO0 := (show Hid _ from hout); clear hout
      go_wp2_with fail
      refine Calls.mono (HT.out _ _ (by omega) (by omega)) ?_
      rintro e x0 ⟨s0, rfl, hs0, hb0⟩
      have HR2 := (show Hid (∃ f, x0.rowIs b 33 m f ∧ (∀ i, i < j → f (i * 2) = .int .i64 ((n + i * 2 : Nat) : Int) ∧ f (i * 2 + 1) = .string (mt (n + i * 2 + 1))) ∧ f (j * 2) = .int .i64 ((n + j * 2 : Nat) : Int)) from ⟨_, World.rowIs.of_block (World.rowIs.set HR.out (j * 2) _) (hb0.block b (Nat.lt_of_lt_of_le (World.rowIs.lt HR.out) (by simp [World.setCell]))), fun i hi => by
        have hf := HFF.out i hi
        rw [if_neg (by omega), if_neg (by omega)]
        exact hf, by rw [if_pos rfl]; simp⟩)
      obtain ⟨f2, hrow2, hff2, hfj2⟩ := HR2.out
      clear HR2
      have HR2 := (show Hid _ from hrow2); clear hrow2
      have HF2 := (show Hid _ from (⟨hff2, hfj2⟩ : _ ∧ _)); clear hff2 hfj2
      have HS0 := (show Hid (s0 = mt (n + j * 2 + 1)) from by show s0 = _; rw [hs0]; congr 1); clear hs0
      have HO1 := (show Hid _ from Out.trans (Out.trans HO0.out (Out.set _ _ HLH.out.1 HLH.out.2)) (Out.of_below hb0)); clear hb0 e0 z0
      have e1 := World.rowIs.cell HR2.out (i := j * 2 + 1) (by omega)
      have z1 := World.rowIs.frozen HR2.out (j * 2 + 1)
      go_wp2_with fail
      refine ⟨⟨j + 1, by omega, by go_num, by go_num, (Out.trans HO1.out (Out.set _ _ HLH.out.1 HLH.out.2)), fun _ => ⟨_, (World.rowIs.set HR2.out (j * 2 + 1) _), fun i hi => ?_⟩⟩, by simp [intOf]; omega⟩
      by_cases e : i = j
      · subst e
        refine ⟨?_, ?_⟩
        · rw [if_neg (by omega)]; exact HF2.out.2
        · rw [if_pos rfl, HS0.out]
      · have hf := HF2.out.1 i (by omega)
        refine ⟨?_, ?_⟩
        · rw [if_neg (by omega)]; exact hf.1
        · rw [if_neg (by omega)]; exact hf.2
    · obtain rfl : j = l := by omega
      go_wp2_with fail
      go_ret
      refine ⟨rfl, hout, ⟨a, cap, rfl, hl, fun h0 => (HA.out h0).1, fun i hi => ?_⟩⟩
      obtain ⟨f, hf, hff⟩ := HM.out (by omega)
      obtain ⟨_, hlm⟩ := HA.out (by omega)
      have hi3 := hff i hi
      refine ⟨?_, ?_⟩
      · rw [World.rowIs.cell hf (by omega), hi3.1]
      · rw [World.rowIs.cell hf (by omega), hi3.2]
set_option maxHeartbeats 3200000 in
theorem held65 (l b n : Nat) (v : Value) (w : World) (h : Ms w b l n v) (h0 : 0 < n) (hn : n + l * 2 ≤ 1125899906842624) :
    Calls Try.prog 72 #[v, .int .i64 n] w fun e w' => e = .returned (.int .i64 (n + l * 2 : Nat)) ∧ Below w.heap.size w w' := by
  obtain ⟨a, cap, rfl, hl, ha, hcell⟩ := h
  have HA := (show Hid _ from ha); clear ha
  have HC := (show Hid _ from hcell); clear hcell
  go_enter Try.func72, Try.ntmps72
  go_wp2_with fail
  go_loopw [1, 5] (fun u i wr => ∃ (j : Nat), j ≤ l ∧ i = .int .i64 j ∧ u = .int .i64 (n + j * 2 : Nat) ∧ Hid (Below w.heap.size w wr)) (fun _ i _ => l - (intOf i).toNat)
  case atStart => exact ⟨0, Nat.zero_le _, rfl, by simp, Below.refl _ _⟩
  case round =>
    obtain ⟨j, hj, rfl, rfl, HB⟩ := hrel
    by_cases hlt : j < l
    · obtain rfl := HA.out (by omega)
      obtain ⟨c0, c1⟩ := HC.out j hlt
      have HCE := (show Hid (∀ wq, Below wr.heap.size wr wq → wq.cell? ⟨b, j * 2 + 1, none⟩ = some (.string (mt (n + j * 2 + 1)))) from fun wq hq => by
        have hbq := bel_trans HB.out hq
        exact (hbq.cell (lt_of_cell c1)).trans c1)
      rw [← HB.out.cell (lt_of_cell c0)] at c0
      clear c1
      have kw : IntKind.i64.wrap (((n + j * 2 : Nat) : Int) + 1) = ((n + j * 2 : Nat) : Int) + 1 := by simp [IntKind.wrap, IntKind.bits, IntKind.signed]; omega
      have HT := (show Hid (∀ wq, Calls Try.prog 106 #[.int .i64 (((n + j * 2 : Nat) : Int) + 1)] wq fun e w' => e = .returned (.string (mt (n + j * 2 + 1))) ∧ Below wq.heap.size wq w') from fun wq => by
        have := markText_nat (n + j * 2 + 1) (by omega) (by omega) wq
        simpa using this)
      generalize hT : mt (n + j * 2 + 1) = T at *
      have HTL := (show Hid _ from hT); clear hT
      have hneq : (T.toList != T.toList) = false := by simp
      generalize hM : n + j * 2 = M at *
      have hMb : M + 2 ≤ 1125899906842624 := by omega
      have HM2 := (show Hid _ from hM); clear hM
      go_wp2_with fail
      go_cut [28] from 21 to 27 (fun v wx => v = .bool false ∧ Hid (Below wr.heap.size wr wx))
      case first =>
        have hbd := (Below.refl wr.heap.size wr).drew
        have hS0 := HCE.out _ hbd
        go_region_held3 (fun wq => wq.cell? ⟨b, j * 2 + 1, none⟩ = some (.string T)) (first | with_reducible exact hS0 | with_reducible exact hS1) ((first
          | (go_at_call 106; refine Calls.mono (HT.out _) ?_; rintro e w3 ⟨rfl, hb3⟩; have hF := bel_trans hbd hb3; have hS1 := HCE.out _ hF)))
        all_goals go_wp2_with fail
        all_goals go_meet
        all_goals exact ⟨rfl, hF⟩
      case rest =>
        obtain ⟨rfl, HX⟩ := hcut
        obtain ⟨wz, rfl⟩ : ∃ wz, wz = wc := ⟨_, rfl⟩
        have HBZ := (show Hid _ from bel_trans HB.out HX.out)
        clear HCE HT c0
        go_wp2_with fail
        exact ⟨⟨j + 1, by omega, by go_num, by have h := HM2.out; rw [show (n + (j + 1) * 2 : Nat) = M + 2 from by omega]; go_num, HBZ⟩, by simp [intOf]; omega⟩
    · obtain rfl : j = l := by omega
      go_wp2_with fail
      go_ret
      exact ⟨rfl, HB.out⟩
end Go.Proofs.Ytledclkmeikgdaa
