import Derived.Test.YthmdoplickpmaahOutf
import Derived.Deep.RegionHeld3
namespace Go.Proofs.Ythmdoplickpmaah
open Go.RowKit Go.Deep Go.Lib
set_option linter.unusedVariables false
set_option maxRecDepth 100000
set_option linter.unusedSimpArgs false

/-- What the box of the fault holds. -/
def FD (g : Nat) (c a : Int) (w : World) : Prop := w.cell? ⟨g, 0, none⟩ = some (.int .i64 c) ∧ w.cell? ⟨g, 1, none⟩ = some (.int .i64 a)
theorem FD.set {g q o : Nat} {c a : Int} {w : World} {v : Value} (h : FD g c a w) (hq : q ≠ g) : FD g c a (w.setCell ⟨q, o, none⟩ v) :=
  ⟨(World.cell?_of_block (w := w) (blk_setCell_other _ _ _ _ (by show g ≠ q; exact fun e => hq e.symm))).trans h.1, (World.cell?_of_block (w := w) (blk_setCell_other _ _ _ _ (by show g ≠ q; exact fun e => hq e.symm))).trans h.2⟩
theorem FD.dr {g : Nat} {c a : Int} {w : World} (h : FD g c a w) : FD g c a w.drew := h
set_option maxHeartbeats 3200000 in
theorem catch2_panicking (p0 p1 p2 : Nat) (c a : Int) (older : List PanicEntry) (w : World) (u1 u2 : Value) (b0 b1 b2 b3 : Value)
    (hB : Box4 w p0 b0 b1 b2 b3) (h1 : w.cell? ⟨p1, 0, none⟩ = some u1) (h2 : w.cell? ⟨p2, 0, none⟩ = some u2)
    (z1 : w.frozen? ⟨p1, 0, none⟩ = false) (z2 : w.frozen? ⟨p2, 0, none⟩ = false) (n01 : p0 ≠ p1) (n02 : p0 ≠ p2) (n12 : p1 ≠ p2) :
    CallsD Try.prog 38 #[.pointer (some ⟨p0, 0, none⟩), .pointer (some ⟨p1, 0, none⟩), .pointer (some ⟨p2, 0, none⟩)] (.panicking ({ v := .iface 47 (.agg #[.int .i64 c, .int .i64 a]), recovered := false } :: older)) w fun e u' w' =>
      e = .returned (.tuple #[]) ∧ u' = .panicking ({ v := .iface 47 (.agg #[.int .i64 c, .int .i64 a]), recovered := true } :: older) ∧
        ∃ w1, Below w.heap.size w w1 ∧ w' = ((((((w1.setCell ⟨p0, 0, none⟩ (.string ByteArray.empty)).setCell ⟨p0, 1, none⟩ (.string ByteArray.empty)).setCell ⟨p0, 2, none⟩ (.bool false)).setCell ⟨p0, 3, none⟩ (.slice none 0 0)).setCell ⟨p1, 0, none⟩ (.int .i64 c)).setCell ⟨p2, 0, none⟩ (.int .i64 a)).drew := by
  have q1 := lt_of_cell h1
  have q2 := lt_of_cell h2
  have HBX := (show Hid _ from hB); clear hB
  have HQ := (show Hid _ from (⟨h1, h2, z1, z2⟩ : _ ∧ _ ∧ _ ∧ _)); clear h1 h2 z1 z2
  refine callsD_of_wpS Try.func38 rfl fun c₀ cs hu => ?_
  apply wpS_seq
  apply wpS_region
  simp [wpOpsS, go_sem, recoverD, hu, Try.ntmps38, Exit.thenS]
  refine wpS_of_wp ?_
  go_wp2_with fail
  refine Calls.mono (faultIn_any c a w) ?_
  rintro e w1 ⟨rfl, hb1⟩
  have hbx := bel_alloc w1 (.cells #[.int .i64 c, .int .i64 a] 47)
  have hbw := bel_trans hb1 hbx
  have B2 := Box4.still HBX.out hbw
  obtain ⟨x0, x1, x2, x3⟩ := B2.cells
  have y0 := B2.frozen 0
  have y1 := B2.frozen 1
  have y2 := B2.frozen 2
  have y3 := B2.frozen 3
  have h1 := (hbw.cell (lt_of_cell HQ.out.1)).trans HQ.out.1
  have h2 := (hbw.cell (lt_of_cell HQ.out.2.1)).trans HQ.out.2.1
  have z1 := (hbw.frozen (p := ⟨p1, 0, none⟩) q1).trans HQ.out.2.2.1
  have z2 := (hbw.frozen (p := ⟨p2, 0, none⟩) q2).trans HQ.out.2.2.2
  have t0 : (w1.alloc (.cells #[.int .i64 c, .int .i64 a] 47)).cell? ⟨w1.heap.size, 0, none⟩ = some (.int .i64 c) := by simp [go_sem]
  have t1 : (w1.alloc (.cells #[.int .i64 c, .int .i64 a] 47)).cell? ⟨w1.heap.size, 1, none⟩ = some (.int .i64 a) := by simp [go_sem]
  have q0 := Box4.lt HBX.out
  have hs1 := hb1.size
  have g0 : w1.heap.size ≠ p0 := by omega
  have g1 : w1.heap.size ≠ p1 := by omega
  have g2 : w1.heap.size ≠ p2 := by omega
  have g0' := g0.symm
  have g1' := g1.symm
  have g2' := g2.symm
  have n01' := n01.symm
  have n02' := n02.symm
  have n12' := n12.symm
  have HW := (show Hid _ from hbw); clear hbw hbx hb1 B2 hs1
  go_wp2_with fail
  generalize w1.alloc (.cells #[.int .i64 c, .int .i64 a] 47) = W at *
  generalize w1.heap.size = g at *
  have hD0 : FD g c a W := ⟨t0, t1⟩
  have hD1 : FD g c a W.drew := hD0
  go_region_held3 (fun w' => w'.cell? ⟨g, 0, none⟩ = some (.int .i64 c) ∧ w'.cell? ⟨g, 1, none⟩ = some (.int .i64 a)) ((show FD g c a _; first | with_reducible exact hD0 | with_reducible exact hD1 | with_reducible exact FD.set (FD.set (FD.set (FD.set hD0 g0') g0') g0') g0' | with_reducible exact FD.set (FD.set (FD.set (FD.set (FD.set hD0 g0') g0') g0') g0') g1' | with_reducible exact FD.set (FD.set (FD.set (FD.set (FD.set (FD.set hD0 g0') g0') g0') g0') g1') g2' | with_reducible exact FD.dr (FD.set (FD.set (FD.set (FD.set hD0 g0') g0') g0') g0') | with_reducible exact FD.dr (FD.set (FD.set (FD.set (FD.set (FD.set hD0 g0') g0') g0') g0') g1') | with_reducible exact FD.dr (FD.set (FD.set (FD.set (FD.set (FD.set (FD.set hD0 g0') g0') g0') g0') g1') g2') | with_reducible exact FD.set hD0 g1' | with_reducible exact FD.dr (FD.set hD0 g1') | with_reducible exact FD.set (FD.set hD0 g1') g2')) (first | fail)
  exact ⟨rfl, _, rfl, _, by simp [results, Try.results38], rfl, rfl, W, HW.out, rfl⟩

set_option maxHeartbeats 400000 in
theorem catch2_idle (p0 p1 p2 : Nat) (w : World) :
    CallsD Try.prog 38 #[.pointer (some ⟨p0, 0, none⟩), .pointer (some ⟨p1, 0, none⟩), .pointer (some ⟨p2, 0, none⟩)] .returning w fun e u' w' =>
      e = .returned (.tuple #[]) ∧ u' = .returning ∧ w' = w := by
  refine callsD_of_wpS Try.func38 rfl fun c₀ cs hu => ?_
  apply wpS_seq
  apply wpS_region
  simp [wpOpsS, go_sem, recoverD, hu, Try.ntmps38, Exit.thenS]
  refine wpS_of_wp ?_
  go_wp2_with fail
  cases c₀
  simp_all [bodyPostS, results, Try.results38]
end Go.Proofs.Ythmdoplickpmaah
