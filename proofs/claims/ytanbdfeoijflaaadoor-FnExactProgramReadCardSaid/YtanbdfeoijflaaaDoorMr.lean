import Derived.Test.YtanbdfeoijflaaaDoorMq
/-! Reading a program: words and numbers that are gathered. -/
namespace Go.Proofs.YtanbdfeoijflaaaDoor
open Go.RowKit Go.Deep
set_option linter.unusedVariables false
set_option maxRecDepth 100000
set_option linter.unusedSimpArgs false

theorem info9WA : (Tryd.prog.info? 9).map (fun i => (i.zero, i.size, i.bytes)) = some (some (.string ⟨#[]⟩), 1, 16) := by kernel_rfl
/-- Words, as they lie. -/
def cWA (l : List (List UInt8)) : List Value := l.map fun x => .string (bs x)
structure WA (B : Nat) (w0 W : World) (v : Value) (l : List (List UInt8)) : Prop where
  own : W.ownsRow B 9 1 v l.length (cWA l)
  bel : Below B w0 W
  bz : B ≤ W.heap.size
theorem WA.still {B : Nat} {w0 W W1 : World} {v : Value} {l : List (List UInt8)} (h : WA B w0 W v l) (hb : Below W.heap.size W W1) : WA B w0 W1 v l :=
  ⟨own_keep1 h.own (fun k e => hb.block k (World.ownsRow.lt h.own k e).2), h.bel.trans (hb.mono h.bz), by have := hb.size; have := h.bz; omega⟩
theorem WA.new {B : Nat} {w0 W : World} (hb : Below B w0 W) (hz : B ≤ W.heap.size) : WA B w0 (W.alloc (.cells #[] 9)) (.slice (some ⟨W.heap.size, 0, none⟩) 0 0) [] :=
  ⟨World.ownsRow_lit (base := B) (e := 9) (size := 1) W #[] 0 hz (Nat.zero_le _) rfl, hb.trans ((bel_alloc W _).mono hz), by simp; omega⟩
theorem WA.add0 {B : Nat} {w0 W : World} {v : Value} {l : List (List UInt8)} (h : WA B w0 W v l) (x : (List UInt8)) (hl : l.length ≤ 1000000000) :
    ∃ a c w', (Builtin.append_ #[68, 68] 68 #[v, .slice (some ⟨W.heap.size, 0, none⟩) 1 1]).run Tryd.prog (W.alloc (.cells #[.string (bs x)] 9)) = .ok (.slice a (l.length + 1) c) w' ∧ WA B w0 w' (.slice a (l.length + 1) c) (l ++ [x]) := by
  obtain ⟨i5, hi5, hzz⟩ := Option.map_eq_some_iff.1 info9WA
  simp only [Prod.mk.injEq] at hzz
  obtain ⟨hz0, hz1, hz2⟩ := hzz
  have hba := bel_alloc W (.cells #[.string (bs x)] 9)
  have hown := own_keep1 h.own (fun k e => hba.block k (World.ownsRow.lt h.own k e).2)
  have hl0 := World.ownsRow.lt h.own
  have hnews : ∀ j y, [.string (bs x)][j]? = some y → (W.alloc (.cells #[.string (bs x)] 9)).cell? ((⟨W.heap.size, 0, none⟩ : Addr).add j) = some y := fun j y hj => by
    match j, hj with
    | 0, hj => simp at hj; subst hj; simp [go_sem, Addr.add]
    | j + 1, hj => simp at hj
  obtain ⟨v', w', hr, h2, h3, h4, h5⟩ := run_append_own_at (P := Tryd.prog) (W.alloc (.cells #[.string (bs x)] 9)) B 68 68 9 i5 (.string ⟨#[]⟩) 1 16 Tryd.underlying68 hi5 hz0 hz1 hz2 (by kernel_rfl) (by decide) v l.length (cWA l) hown ⟨W.heap.size, 0, none⟩ 1 1 [.string (bs x)] rfl hnews (fun y hy => by simp at hy; subst hy; rfl) (by unfold maxLen; omega) (by omega) (by have := h.bz; simp; omega)
  obtain ⟨a, c, rfl⟩ := own_ne h2
  have hb1 : Below B w0 (W.alloc (.cells #[.string (bs x)] 9)) := h.bel.trans (hba.mono h.bz)
  refine ⟨a, c, w', hr, ?_, hb1.grown h3 (by have := h.bz; simp; omega) (fun k hk => (hl0 k hk).1), by have h6 := h3.size; have := h.bz; simp at h6; omega⟩
  have e1 : (l ++ [x]).length = l.length + 1 := by simp
  have e2 : cWA (l ++ [x]) = cWA l ++ [.string (bs x)] := by simp [cWA]
  rw [e1, e2]
  exact h2
theorem WA.add {B : Nat} {w0 W : World} {v : Value} {l : List (List UInt8)} (h : WA B w0 W v l) (x : (List UInt8)) (N M : Nat) (hl : l.length ≤ 1000000000) (hN : W.heap.size = N) (hM : l.length + 1 = M) :
    ∃ a c w', (Builtin.append_ #[68, 68] 68 #[v, .slice (some ⟨N, 0, none⟩) 1 1]).run Tryd.prog (W.alloc (.cells #[.string (bs x)] 9)) = .ok (.slice a M c) w' ∧ WA B w0 w' (.slice a M c) (l ++ [x]) := by
  subst hN hM
  exact h.add0 x hl
theorem WA.cells {B : Nat} {w0 W : World} {v : Value} {l : List (List UInt8)} (h : WA B w0 W v l) : ∃ (a : Option Addr) (g cap : Nat), v = .slice a l.length cap ∧ l.length ≤ cap ∧ cap ≤ maxLen ∧ (0 < l.length → a = some ⟨g, 0, none⟩) ∧ ∀ i (hi : i < l.length), W.cell? ⟨g, i, none⟩ = some (.string (bs l[i])) := by
  rcases h.own.2 with ⟨rfl, h0⟩ | ⟨g, cap, cur, rfl, r2, r3, r4, r5, r6, r7⟩
  · exact ⟨none, 0, 0, by rw [h0], by omega, by unfold maxLen; omega, fun h => by omega, fun i hi => by omega⟩
  · refine ⟨some ⟨g, 0, none⟩, g, cap, rfl, r4, r5, fun _ => rfl, fun i hi => ?_⟩
    rw [World.ownsRow.cellAt h.own i (by omega)]
    simp [cWA, hi]
theorem info3IA : (Tryd.prog.info? 3).map (fun i => (i.zero, i.size, i.bytes)) = some (some (.int .i64 0), 1, 8) := by kernel_rfl
/-- Numbers, as they lie. -/
def cIA (l : List Nat) : List Value := l.map fun x => .int .i64 (x : Nat)
structure IA (B : Nat) (w0 W : World) (v : Value) (l : List Nat) : Prop where
  own : W.ownsRow B 3 1 v l.length (cIA l)
  bel : Below B w0 W
  bz : B ≤ W.heap.size
theorem IA.still {B : Nat} {w0 W W1 : World} {v : Value} {l : List Nat} (h : IA B w0 W v l) (hb : Below W.heap.size W W1) : IA B w0 W1 v l :=
  ⟨own_keep1 h.own (fun k e => hb.block k (World.ownsRow.lt h.own k e).2), h.bel.trans (hb.mono h.bz), by have := hb.size; have := h.bz; omega⟩
theorem IA.new {B : Nat} {w0 W : World} (hb : Below B w0 W) (hz : B ≤ W.heap.size) : IA B w0 (W.alloc (.cells #[] 3)) (.slice (some ⟨W.heap.size, 0, none⟩) 0 0) [] :=
  ⟨World.ownsRow_lit (base := B) (e := 3) (size := 1) W #[] 0 hz (Nat.zero_le _) rfl, hb.trans ((bel_alloc W _).mono hz), by simp; omega⟩
theorem IA.add0 {B : Nat} {w0 W : World} {v : Value} {l : List Nat} (h : IA B w0 W v l) (x : Nat) (hl : l.length ≤ 1000000000) :
    ∃ a c w', (Builtin.append_ #[69, 69] 69 #[v, .slice (some ⟨W.heap.size, 0, none⟩) 1 1]).run Tryd.prog (W.alloc (.cells #[.int .i64 (x : Nat)] 3)) = .ok (.slice a (l.length + 1) c) w' ∧ IA B w0 w' (.slice a (l.length + 1) c) (l ++ [x]) := by
  obtain ⟨i5, hi5, hzz⟩ := Option.map_eq_some_iff.1 info3IA
  simp only [Prod.mk.injEq] at hzz
  obtain ⟨hz0, hz1, hz2⟩ := hzz
  have hba := bel_alloc W (.cells #[.int .i64 (x : Nat)] 3)
  have hown := own_keep1 h.own (fun k e => hba.block k (World.ownsRow.lt h.own k e).2)
  have hl0 := World.ownsRow.lt h.own
  have hnews : ∀ j y, [.int .i64 (x : Nat)][j]? = some y → (W.alloc (.cells #[.int .i64 (x : Nat)] 3)).cell? ((⟨W.heap.size, 0, none⟩ : Addr).add j) = some y := fun j y hj => by
    match j, hj with
    | 0, hj => simp at hj; subst hj; simp [go_sem, Addr.add]
    | j + 1, hj => simp at hj
  obtain ⟨v', w', hr, h2, h3, h4, h5⟩ := run_append_own_at (P := Tryd.prog) (W.alloc (.cells #[.int .i64 (x : Nat)] 3)) B 69 69 3 i5 (.int .i64 0) 1 8 Tryd.underlying69 hi5 hz0 hz1 hz2 (by kernel_rfl) (by decide) v l.length (cIA l) hown ⟨W.heap.size, 0, none⟩ 1 1 [.int .i64 (x : Nat)] rfl hnews (fun y hy => by simp at hy; subst hy; rfl) (by unfold maxLen; omega) (by omega) (by have := h.bz; simp; omega)
  obtain ⟨a, c, rfl⟩ := own_ne h2
  have hb1 : Below B w0 (W.alloc (.cells #[.int .i64 (x : Nat)] 3)) := h.bel.trans (hba.mono h.bz)
  refine ⟨a, c, w', hr, ?_, hb1.grown h3 (by have := h.bz; simp; omega) (fun k hk => (hl0 k hk).1), by have h6 := h3.size; have := h.bz; simp at h6; omega⟩
  have e1 : (l ++ [x]).length = l.length + 1 := by simp
  have e2 : cIA (l ++ [x]) = cIA l ++ [.int .i64 (x : Nat)] := by simp [cIA]
  rw [e1, e2]
  exact h2
theorem IA.add {B : Nat} {w0 W : World} {v : Value} {l : List Nat} (h : IA B w0 W v l) (x : Nat) (N M : Nat) (hl : l.length ≤ 1000000000) (hN : W.heap.size = N) (hM : l.length + 1 = M) :
    ∃ a c w', (Builtin.append_ #[69, 69] 69 #[v, .slice (some ⟨N, 0, none⟩) 1 1]).run Tryd.prog (W.alloc (.cells #[.int .i64 (x : Nat)] 3)) = .ok (.slice a M c) w' ∧ IA B w0 w' (.slice a M c) (l ++ [x]) := by
  subst hN hM
  exact h.add0 x hl
theorem IA.cells {B : Nat} {w0 W : World} {v : Value} {l : List Nat} (h : IA B w0 W v l) : ∃ (a : Option Addr) (g cap : Nat), v = .slice a l.length cap ∧ l.length ≤ cap ∧ cap ≤ maxLen ∧ (0 < l.length → a = some ⟨g, 0, none⟩) ∧ ∀ i (hi : i < l.length), W.cell? ⟨g, i, none⟩ = some (.int .i64 (l[i] : Nat)) := by
  rcases h.own.2 with ⟨rfl, h0⟩ | ⟨g, cap, cur, rfl, r2, r3, r4, r5, r6, r7⟩
  · exact ⟨none, 0, 0, by rw [h0], by omega, by unfold maxLen; omega, fun h => by omega, fun i hi => by omega⟩
  · refine ⟨some ⟨g, 0, none⟩, g, cap, rfl, r4, r5, fun _ => rfl, fun i hi => ?_⟩
    rw [World.ownsRow.cellAt h.own i (by omega)]
    simp [cIA, hi]
end Go.Proofs.YtanbdfeoijflaaaDoor
