import Derived.Test.YtanbdfeoijflaaaDoorMe
/-! Reading a program: the numbers that are written. -/
namespace Go.Proofs.YtanbdfeoijflaaaDoor
open Go.RowKit Go.Deep
set_option linter.unusedVariables false
set_option maxRecDepth 100000
set_option linter.unusedSimpArgs false

set_option maxHeartbeats 3200000 in
theorem nums51_yes (xs : List (List UInt8)) (ls : List Nat) (k p : Nat) (v u : Value) (w : World) (h : WdL w v xs) (hp : PtL w p ls u) (hls : ∀ j (hj : j < ls.length), ls[j] = 1 ∨ ls[j] = 2) (hbx : Box w p 38 [.int .i64 (k : Nat), .int .i64 (0 : Nat), .int .i64 (0 : Nat)]) (hl2 : ls.length ≤ 2) (hlen : xs.length = ls.length) (hall : (xs.all fun x => numB (bs x)) = true) :
    Calls Tryd.prog 51 #[v, u] w fun e w' => e = .returned (.bool true) ∧ w.grownBy w' (some p) ∧ Box w' p 38 [.int .i64 (k : Nat), .int .i64 ((nuN ls xs ls.length).1 : Nat), .int .i64 ((nuN ls xs ls.length).2 : Nat)] := by
  have HAL := (show Hid _ from all61 xs v w h)
  rw [hall] at HAL
  obtain ⟨a0, g0, off0, cap0, rfl, hc0, hm0, ha0, hcell0⟩ := h.ex
  obtain ⟨a1, g1, cap1, rfl, hc1, hm1, ha1, hcell1⟩ := id hp
  unfold maxLen at hm1
  have HX := (show Hid (∀ j (hj : j < xs.length), numB (bs xs[j]) = true) from fun j hj => (List.all_eq_true.1 hall) _ (List.getElem_mem hj))
  have hg0 : 0 < xs.length → g0 ≠ p := fun h0 e => by
    subst e
    exact Box.not_str hbx (hcell0 0 h0)
  have hg1 : 0 < ls.length → g1 ≠ p := fun h0 e => by
    subst e
    obtain ⟨_, cur, fz, hh⟩ := ha1 h0
    exact Box.not_66 hbx hh
  have HCE := (show Hid (∀ W', w.grownBy W' (some p) → ∀ j (hj : j < xs.length) (hj2 : j < ls.length), a0 = some ⟨g0, off0, none⟩ ∧ a1 = some ⟨g1, 0, none⟩ ∧ W'.cell? ⟨g0, off0 + j, none⟩ = some (.string (bs xs[j])) ∧ W'.cell? ⟨g1, j, none⟩ = some (.pointer (some ⟨p, ls[j], none⟩))) from fun W' hg j hj hj2 => by
    have c0 := hcell0 j hj
    have c1 := hcell1 j hj2
    refine ⟨ha0 (by omega), (ha1 (by omega)).1, ?_, ?_⟩
    · exact (World.cell?_of_block (a := ⟨g0, off0 + j, none⟩) (hg.block g0 (lt_of_cell c0) (fun e => hg0 (by omega) (Option.some.inj e)))).trans c0
    · exact (World.cell?_of_block (a := ⟨g1, j, none⟩) (hg.block g1 (lt_of_cell c1) (fun e => hg1 (by omega) (Option.some.inj e)))).trans c1)
  have HGB := (show Hid (∀ W1, Below w.heap.size w W1 → w.grownBy W1 (some p) ∧ Box W1 p 38 [.int .i64 (k : Nat), .int .i64 (0 : Nat), .int .i64 (0 : Nat)]) from fun W1 hb => ⟨⟨hb.os, hb.tape, hb.output, hb.size, fun i hi _ => hb.block i hi⟩, hbx.still hb⟩)
  have HLS := (show Hid _ from hls)
  have q1 : ((xs.length : Int) != (ls.length : Int)) = false := by simp; omega
  clear h hp hcell0 hcell1 ha0 ha1 hg0 hg1 hbx hls hall
  obtain ⟨nx, hnx⟩ : ∃ nx, xs.length = nx := ⟨_, rfl⟩
  have HNX := (show Hid (xs.length = nx) from hnx)
  have HNL := (show Hid (ls.length = nx) from by show _ = _; omega)
  rw [hnx] at q1 hc0 HAL
  rw [hnx] at hlen ⊢
  rw [← hlen] at q1 hl2 hc1 ⊢
  clear hlen hnx
  go_enter Tryd.func51, Tryd.ntmps51
  go_wp2_with fail
  refine Calls.mono HAL.out ?_
  rintro e w1 ⟨rfl, hb1⟩
  obtain ⟨hgb1, hbx1⟩ := HGB.out w1 hb1
  have HG1 := (show Hid (w.grownBy w1 (some p)) from hgb1)
  have HX1 := (show Hid (Box w1 p 38 [.int .i64 (k : Nat), .int .i64 (0 : Nat), .int .i64 (0 : Nat)]) from hbx1)
  clear hb1 hgb1 hbx1 HGB HAL
  go_wp2_with fail
  go_loopw [21] (fun i wr => ∃ j : Nat, i = .int .i64 j ∧ j ≤ nx ∧ Hid (w.grownBy wr (some p) ∧ Box wr p 38 [.int .i64 (k : Nat), .int .i64 ((nuN ls xs j).1 : Nat), .int .i64 ((nuN ls xs j).2 : Nat)])) (fun i _ => nx - (RowKit.intOf i).toNat)
  case atStart => exact ⟨0, rfl, Nat.zero_le _, HG1.out, HX1.out⟩
  case round =>
    obtain ⟨j, rfl, hj, HJ⟩ := hrel
    by_cases hlt : j < nx
    · have hjx : j < xs.length := by have := HNX.out; omega
      have hjl : j < ls.length := by have := HNL.out; omega
      obtain ⟨rfl, rfl, c0, c1⟩ := HCE.out wr HJ.out.1 j hjx hjl
      obtain ⟨hat, hvl⟩ := numB_atoi (HX.out j hjx)
      have h6 := (numB_dig (HX.out j hjx)).1
      have HCL := (show Hid _ from fun w' => atoi62 xs[j] _ (by omega) hat w')
      have HLO := (show Hid _ from HLS.out j hjl)
      have HNU := (show Hid (nuN ls xs (j + 1) = if ls[j] = 1 then (vlN xs[j], (nuN ls xs j).2) else ((nuN ls xs j).1, vlN xs[j])) from by
        show _ = _
        have e1 : ls.getD j 0 = ls[j] := by simp [hjl]
        have e2 : xs.getD j [] = xs[j] := by simp [hjx]
        show (if ls.getD j 0 = 1 then (vlN (xs.getD j []), (nuN ls xs j).2) else ((nuN ls xs j).1, vlN (xs.getD j []))) = _
        rw [e1, e2])
      have HST := (show Hid (∀ w5, Below wr.heap.size wr w5 → w5.cell? ⟨g1, j, none⟩ = some (.pointer (some ⟨p, ls[j], none⟩)) ∧ (∃ u5, w5.cell? ⟨p, ls[j], none⟩ = some u5) ∧ w5.frozen? ⟨p, ls[j], none⟩ = false ∧ w.grownBy (w5.setCell ⟨p, ls[j], none⟩ (.int .i64 (vlN xs[j] : Nat))) (some p) ∧ Box (w5.setCell ⟨p, ls[j], none⟩ (.int .i64 (vlN xs[j] : Nat))) p 38 [.int .i64 (k : Nat), .int .i64 ((nuN ls xs (j + 1)).1 : Nat), .int .i64 ((nuN ls xs (j + 1)).2 : Nat)]) from fun w5 hb => by
        have b5 := HJ.out.2.still hb
        have hl := HLO.out
        refine ⟨by rw [hb.cell (lt_of_cell c1)]; exact c1, ?_, b5.frozen _, ?_, ?_⟩
        · exact ⟨_, b5.cell ls[j] (by simp; omega)⟩
        · have hg := HJ.out.1
          exact ⟨hb.os.trans hg.os, hb.tape.trans hg.tape, hb.output.trans hg.output, by have := hb.size; have := hg.size; simp; omega, fun i hi hne => by
            rw [blk_setCell_other _ _ _ _ (by intro e; exact hne (congrArg some e))]
            exact (hb.block i (by have := hg.size; omega)).trans (hg.block i hi hne)⟩
        · have b6 := b5.set ls[j] (.int .i64 (vlN xs[j] : Nat))
          rw [HNU.out]
          rcases hl with e | e
          · rw [e] at b6 ⊢
            rw [if_pos rfl]
            exact b6
          · rw [e] at b6 ⊢
            rw [if_neg (by decide)]
            exact b6)
      have HAT := (show Hid (∀ w', Below wr.heap.size wr w' → Calls Tryd.prog 62 #[.string (bs xs[j])] w' fun e w'' => e = .returned (.tuple #[.int .i64 (vlN xs[j] : Nat), .nilIface]) ∧ Below wr.heap.size wr w'') from fun w' hb => by
        refine Calls.mono (HCL.out w') ?_
        rintro e w'' ⟨rfl, t, rfl⟩
        exact ⟨rfl, hb.trans (Joins.below_bytesWorld wr.heap.size w' 5 t hb.size)⟩)
      clear HNU HLO HCL HJ hvl
      obtain ⟨w0c, ⟨u0, w0d⟩, w0e, _, _⟩ := HST.out wr (Below.refl _ _)
      generalize vlN xs[j] = vN at *
      generalize ls[j] = oN at *
      generalize bs xs[j] = sX at *
      have HBD := (show Hid (Below wr.heap.size wr wr.drew) from (Below.refl _ _).drew)
      go_wp2_with fail
      go_region_with (go_at_call 62; refine Calls.mono (HAT.out _ HBD.out) ?_; rintro e w5 ⟨rfl, hb5⟩; obtain ⟨z1, ⟨u5, z2⟩, z3, z4, z5⟩ := HST.out w5 hb5)
      all_goals (
        have HE := (show Hid _ from z4)
        have HF := (show Hid _ from z5)
        clear z1 z2 z3 z4 z5
        go_wp2_with fail
        exact ⟨⟨j + 1, by go_num, by omega, HE.out, HF.out⟩, by simp [RowKit.intOf]; omega⟩)
    · obtain rfl : j = nx := by omega
      clear HCE HX
      go_wp2_with fail
      go_ret
      exact ⟨rfl, HJ.out.1, HJ.out.2⟩
end Go.Proofs.YtanbdfeoijflaaaDoor
