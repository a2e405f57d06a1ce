import Derived.Test.YthmdoplickpmaaiRxWhole
import Derived.Test.YthmdoplickpmaaiSize
import Derived.Deep.RegionHeld3
namespace Go.Proofs.Ythmdoplickpmaai
open Go.RowKit Go.Deep Go.Lib
set_option linter.unusedVariables false
set_option maxRecDepth 100000
set_option linter.unusedSimpArgs false

/-- What the box of the fault holds. -/
def FD (g : Nat) (c a : Int) (w : World) : Prop := w.cell? ⟨g, 0, none⟩ = some (.int .i64 c) ∧ w.cell? ⟨g, 1, none⟩ = some (.int .i64 a)
theorem FD.set {g q o : Nat} {c a : Int} {w : World} {v : Value} (h : FD g c a w) (hq : q ≠ g) : FD g c a (w.setCell ⟨q, o, none⟩ v) :=
  ⟨(World.cell?_of_block (w := w) (blk_setCell_other _ _ _ _ (by show g ≠ q; exact fun e => hq e.symm))).trans h.1, (World.cell?_of_block (w := w) (blk_setCell_other _ _ _ _ (by show g ≠ q; exact fun e => hq e.symm))).trans h.2⟩
theorem FD.dr {g : Nat} {c a : Int} {w : World} (h : FD g c a w) : FD g c a w.drew := h
set_option maxHeartbeats 3200000 in
theorem rxcatch_panicking (p1 p2 : Nat) (c a : Int) (older : List PanicEntry) (w : World) (u1 u2 : Value)
    (h1 : w.cell? ⟨p1, 0, none⟩ = some u1) (h2 : w.cell? ⟨p2, 0, none⟩ = some u2)
    (z1 : w.frozen? ⟨p1, 0, none⟩ = false) (z2 : w.frozen? ⟨p2, 0, none⟩ = false) (n12 : p1 ≠ p2) :
    CallsD Try.prog 39 #[.pointer (some ⟨p1, 0, none⟩), .pointer (some ⟨p2, 0, none⟩)] (.panicking ({ v := .iface 71 (.agg #[.int .i64 c, .int .i64 a]), recovered := false } :: older)) w fun e u' w' =>
      e = .returned (.tuple #[]) ∧ u' = .panicking ({ v := .iface 71 (.agg #[.int .i64 c, .int .i64 a]), recovered := true } :: older) ∧
        ∃ w1, Below w.heap.size w w1 ∧ w' = ((w1.setCell ⟨p1, 0, none⟩ (.int .i64 c)).setCell ⟨p2, 0, none⟩ (.int .i64 a)).drew := by
  have q1 := lt_of_cell h1
  have q2 := lt_of_cell h2
  have HQ := (show Hid _ from (⟨h1, h2, z1, z2⟩ : _ ∧ _ ∧ _ ∧ _)); clear h1 h2 z1 z2
  refine callsD_of_wpS Try.func39 rfl fun c₀ cs hu => ?_
  apply wpS_seq
  apply wpS_region
  simp [wpOpsS, go_sem, recoverD, hu, Try.ntmps39, Exit.thenS]
  refine wpS_of_wp ?_
  go_wp2_with fail
  refine Calls.mono (faultIn_any c a w) ?_
  rintro e w1 ⟨rfl, hb1⟩
  have hbx := bel_alloc w1 (.cells #[.int .i64 c, .int .i64 a] 71)
  have hbw := bel_trans hb1 hbx
  have h1 := (hbw.cell (lt_of_cell HQ.out.1)).trans HQ.out.1
  have h2 := (hbw.cell (lt_of_cell HQ.out.2.1)).trans HQ.out.2.1
  have z1 := (hbw.frozen (p := ⟨p1, 0, none⟩) q1).trans HQ.out.2.2.1
  have z2 := (hbw.frozen (p := ⟨p2, 0, none⟩) q2).trans HQ.out.2.2.2
  have t0 : (w1.alloc (.cells #[.int .i64 c, .int .i64 a] 71)).cell? ⟨w1.heap.size, 0, none⟩ = some (.int .i64 c) := by simp [go_sem]
  have t1 : (w1.alloc (.cells #[.int .i64 c, .int .i64 a] 71)).cell? ⟨w1.heap.size, 1, none⟩ = some (.int .i64 a) := by simp [go_sem]
  have hs1 := hb1.size
  have g1 : w1.heap.size ≠ p1 := by omega
  have g2 : w1.heap.size ≠ p2 := by omega
  have g1' := g1.symm
  have g2' := g2.symm
  have n12' := n12.symm
  have HW := (show Hid _ from hbw); clear hbw hbx hb1 hs1
  go_wp2_with fail
  generalize w1.alloc (.cells #[.int .i64 c, .int .i64 a] 71) = W at *
  generalize w1.heap.size = g at *
  have hD0 : FD g c a W := ⟨t0, t1⟩
  have hD1 : FD g c a W.drew := hD0
  go_region_held3 (fun w' => w'.cell? ⟨g, 0, none⟩ = some (.int .i64 c) ∧ w'.cell? ⟨g, 1, none⟩ = some (.int .i64 a)) ((show FD g c a _; first | with_reducible exact hD0 | with_reducible exact hD1 | with_reducible exact FD.set hD0 g1' | with_reducible exact FD.set hD0 g2' | with_reducible exact FD.dr (FD.set hD0 g1') | with_reducible exact FD.dr (FD.set hD0 g2') | with_reducible exact FD.set (FD.set hD0 g1') g2' | with_reducible exact FD.set (FD.set hD0 g2') g1' | with_reducible exact FD.dr (FD.set (FD.set hD0 g1') g2'))) (first | fail)
  exact ⟨rfl, _, rfl, _, by simp [results, Try.results39], rfl, rfl, W, HW.out, rfl⟩

set_option maxHeartbeats 400000 in
theorem rxcatch_idle (p1 p2 : Nat) (w : World) :
    CallsD Try.prog 39 #[.pointer (some ⟨p1, 0, none⟩), .pointer (some ⟨p2, 0, none⟩)] .returning w fun e u' w' =>
      e = .returned (.tuple #[]) ∧ u' = .returning ∧ w' = w := by
  refine callsD_of_wpS Try.func39 rfl fun c₀ cs hu => ?_
  apply wpS_seq
  apply wpS_region
  simp [wpOpsS, go_sem, recoverD, hu, Try.ntmps39, Exit.thenS]
  refine wpS_of_wp ?_
  go_wp2_with fail
  cases c₀
  simp_all [bodyPostS, results, Try.results39]

/-- The two numbers that RxOK answers, laid ahead. -/
abbrev W2 (w : World) : World := (w.alloc (.cells #[.int .i64 0] 3)).alloc (.cells #[.int .i64 0] 3)
theorem w2_facts (w : World) : Below w.heap.size w (W2 w) ∧ (W2 w).heap.size = w.heap.size + 2 ∧ ((W2 w).cell? ⟨w.heap.size, 0, none⟩ = some (.int .i64 0) ∧ (W2 w).cell? ⟨w.heap.size + 1, 0, none⟩ = some (.int .i64 0)) ∧ (W2 w).frozen? ⟨w.heap.size, 0, none⟩ = false ∧ (W2 w).frozen? ⟨w.heap.size + 1, 0, none⟩ = false :=
  ⟨(bel_alloc _ _).alloc (by simp) _, by simp, by simp [go_sem], by simp [go_sem]⟩

set_option maxHeartbeats 3200000 in
theorem iRx_any (s : ByteArray) (w : World) (hsm : s.size ≤ 1048576) :
    Calls Try.prog 22 #[.string s] w fun e w' => e = .returned (.tuple #[.int .i64 (rxR s).1, .int .i64 (rxR s).2]) ∧ Below w.heap.size w w' := by
  have hmf : ∀ (fn : Fn) (first cap : Array Value) (w : World), (Instr.makeFunc fn first cap).run Try.prog w = .ok (.func fn first cap) w := fun _ _ _ _ => rfl
  by_cases hbig : 100 < s.size
  · have hr : rxR s = (1, 0) := if_pos hbig
    rw [hr]
    clear hr
    have hbig' : (100 : Int) < s.size := by omega
    go_enter_defers Try.func22, Try.ntmps22
    go_wp2_with fail
    refine leaves_cons (f := 39) (args := #[.pointer (some ⟨w.heap.size, 0, none⟩), .pointer (some ⟨w.heap.size + 1, 0, none⟩)]) (by simp) (by simp [go_sem]) ?_
    refine (rxcatch_idle _ _ _).mono ?_
    rintro e u' w'' ⟨rfl, rfl, rfl⟩
    exact ⟨.tuple #[.int .i64 1, .int .i64 0], by simp [results, Try.results22, go_sem], rfl, (bel_alloc _ _).alloc (by simp) _⟩
  have hr : rxR s = (match xAll s with
    | none => (0, 0)
    | some j => (2, (j : Int))) := by unfold rxR; rw [if_neg hbig]; cases xAll s <;> rfl
  rw [hr]
  clear hr
  have hbig' : (s.size : Int) ≤ 100 := by omega
  obtain ⟨hb2, hz2, ⟨c0, c1⟩, ⟨f0, f1⟩⟩ := w2_facts w
  have hnw := newAtomNet_any (W2 w)
  simp only [World.size_alloc] at hnw
  have HNW := (show Hid _ from hnw); clear hnw
  have HSC := (show Hid _ from fun (w' : World) (h : Net w' (w.heap.size + 1 + 1) (w.heap.size + 1 + 1 + 1) 20 (w.heap.size + 1 + 1)) => scanned_any w' h hsm (by omega))
  have H2 := (show Hid _ from (⟨hb2, hz2, c0, c1, f0, f1⟩ : Below w.heap.size w (W2 w) ∧ (W2 w).heap.size = w.heap.size + 2 ∧ _ ∧ _ ∧ _ ∧ _)); clear hb2 hz2 c0 c1 f0 f1
  generalize xAll s = R at *
  cases R with
  | none =>
    dsimp only
    go_enter_defers Try.func22, Try.ntmps22
    go_wp2_with fail
    refine Calls.mono HNW.out ?_
    rintro e w3 ⟨rfl, hb3, hn3⟩
    have HS := (show Hid _ from HSC.out w3 hn3)
    have HB3 := (show Hid _ from hb3); clear hb3 hn3
    go_wp2_with fail
    refine Calls.mono HS.out ?_
    rintro e w4 ⟨hb4, v, rfl, f, cc, rfl⟩
    have hb24 : Below (W2 w).heap.size (W2 w) w4 := by rw [H2.out.2.1]; exact HB3.out.trans hb4
    obtain ⟨hb2, hz2, c0, c1, f0, f1⟩ := H2.out
    have k0 := (hb24.cell (lt_of_cell c0)).trans c0
    have k1 := (hb24.cell (lt_of_cell c1)).trans c1
    have y0 := (hb24.frozen (p := ⟨w.heap.size, 0, none⟩) (lt_of_cell c0)).trans f0
    have y1 := (hb24.frozen (p := ⟨w.heap.size + 1, 0, none⟩) (lt_of_cell c1)).trans f1
    have HB4 := (show Hid _ from (hb2.trans (hb24.mono (by omega)) : Below w.heap.size w w4))
    clear hb2 hz2 c0 c1 f0 f1 hb24 hb4
    go_wp2_with fail
    refine leaves_cons (f := 39) (args := #[.pointer (some ⟨w.heap.size, 0, none⟩), .pointer (some ⟨w.heap.size + 1, 0, none⟩)]) (by simp) (by simp [go_sem]) ?_
    refine (rxcatch_idle _ _ _).mono ?_
    rintro e u' w'' ⟨rfl, rfl, rfl⟩
    exact ⟨.tuple #[.int .i64 0, .int .i64 0], by simp [results, Try.results22, go_sem, k0, k1], rfl, (Below.setCell HB4.out (by show w.heap.size ≤ w.heap.size; omega) _).setCell (by show w.heap.size ≤ w.heap.size + 1; omega) _⟩
  | some j =>
    dsimp only
    go_enter_defers Try.func22, Try.ntmps22
    go_wp2_with fail
    refine Calls.mono HNW.out ?_
    rintro e w3 ⟨rfl, hb3, hn3⟩
    have HS := (show Hid _ from HSC.out w3 hn3)
    have HB3 := (show Hid _ from hb3); clear hb3 hn3
    go_wp2_with fail
    refine Calls.mono HS.out ?_
    rintro e w4 ⟨hb4, hg4⟩
    obtain rfl : e = .panicked [flt j] := hg4
    have hb24 : Below (W2 w).heap.size (W2 w) w4 := by rw [H2.out.2.1]; exact HB3.out.trans hb4
    have HB4 := (show Hid _ from hb24); clear hb24 hb4
    go_wp2_with fail
    obtain ⟨hb2, hz2, c0, c1, f0, f1⟩ := H2.out
    have k0 := (HB4.out.cell (lt_of_cell c0)).trans c0
    have k1 := (HB4.out.cell (lt_of_cell c1)).trans c1
    have y0 := (HB4.out.frozen (p := ⟨w.heap.size, 0, none⟩) (lt_of_cell c0)).trans f0
    have y1 := (HB4.out.frozen (p := ⟨w.heap.size + 1, 0, none⟩) (lt_of_cell c1)).trans f1
    refine leaves_cons (f := 39) (args := #[.pointer (some ⟨w.heap.size, 0, none⟩), .pointer (some ⟨w.heap.size + 1, 0, none⟩)]) (by simp) (by simp [go_sem]) ?_
    refine (rxcatch_panicking _ _ 2 j [] w4 _ _ k0 k1 y0 y1 (by omega)).mono ?_
    rintro e u' w'' ⟨rfl, rfl, w5, hb5, rfl⟩
    have k0' := (hb5.cell (lt_of_cell k0)).trans k0
    have k1' := (hb5.cell (lt_of_cell k1)).trans k1
    have hb : Below w.heap.size w w5 := (hb2.trans (HB4.out.mono (by omega))).trans (hb5.mono (by have := HB4.out.size; omega))
    exact ⟨.tuple #[.int .i64 2, .int .i64 j], by simp [results, Try.results22, go_sem, k0', k1'], rfl, belDrew ((hb.setCell (by show w.heap.size ≤ w.heap.size; omega) _).setCell (by show w.heap.size ≤ w.heap.size + 1; omega) _)⟩
end Go.Proofs.Ythmdoplickpmaai
