import Derived.Test.YtjpjjfgdgieapaaDoorAl
import Derived.Deep.RegionWith
import Derived.Test.YtjpjjfgdgieapaaDoorFa
/-! The program: one Prod leads further. -/
namespace Go.Proofs.YtjpjjfgdgieapaaDoor
open Go.RowKit Go.Deep
set_option linter.unusedVariables false
set_option maxRecDepth 100000
set_option linter.unusedSimpArgs false

theorem alo_sub (L : Nat → Int) (r : List Int) : (alo L r).length ≤ r.length ∧ ∀ x ∈ alo L r, x ∈ r := by
  unfold alo
  split
  · exact ⟨Nat.le_refl _, fun x hx => hx⟩
  · split
    · exact ⟨List.length_filter_le _ _, fun x hx => (List.mem_filter.1 hx).1⟩
    · exact ⟨Nat.zero_le _, fun x hx => by simp at hx⟩
/-- Whether a set has grown. -/
def grew (V W : List Nat) (l : Nat) : Bool := !((((V.getD (l * 3) 0 : Nat) : Int) == ((W.getD (l * 3) 0 : Nat) : Int)) && ((((V.getD (l * 3 + 1) 0 : Nat) : Int) == ((W.getD (l * 3 + 1) 0 : Nat) : Int)) && (((V.getD (l * 3 + 2) 0 : Nat) : Int) == ((W.getD (l * 3 + 2) 0 : Nat) : Int))))

end Go.Proofs.YtjpjjfgdgieapaaDoor

/-! The program: what leads where, whatever is picked. -/
namespace Go.Proofs.YtjpjjfgdgieapaaDoor
open Go.RowKit Go.Deep
set_option linter.unusedVariables false
set_option maxRecDepth 100000
set_option linter.unusedSimpArgs false

def dflP : Pd := ⟨0, [], ByteArray.empty, 0, 0⟩
theorem grew_no {V W : List Nat} {l : Nat} (hlen : V.length = W.length) (ho : ∀ i, ¬ (l * 3 ≤ i ∧ i < l * 3 + 3) → V.getD i 0 = W.getD i 0) (h : grew V W l = false) : V = W := by
  unfold grew at h
  simp only [Bool.not_eq_false', Bool.and_eq_true, beq_iff_eq] at h
  refine ext_getD hlen fun i => ?_
  by_cases hi : l * 3 ≤ i ∧ i < l * 3 + 3
  · have : i = l * 3 ∨ i = l * 3 + 1 ∨ i = l * 3 + 2 := by omega
    rcases this with rfl | rfl | rfl
    · have := h.1; omega
    · have := h.2.1; omega
    · have := h.2.2; omega
  · exact ho i hi
theorem grew_yes {V W : List Nat} {l : Nat} (h : grew V W l = true) : V ≠ W := by
  intro e
  subst e
  unfold grew at h
  simp at h
theorem zero_row (w : World) (n : Nat) : WRow (w.alloc (.cells (madeCells #[.int .u64 0, .int .u64 0, .int .u64 0] n) 102)) w.heap.size (List.replicate n 0) := by
  refine ⟨_, blk_alloc_new _ _, by rw [size_madeCells]; simp, fun i hi => ?_⟩
  simp at hi
  show _ = some (Value.int .u64 (((List.replicate n 0).getD i 0 : Nat) : Int))
  have e : (List.replicate n 0).getD i 0 = 0 := by simp [List.getD_eq_getElem?_getD, hi]
  rw [e]
  have h3 : i % 3 = 0 ∨ i % 3 = 1 ∨ i % 3 = 2 := by omega
  rcases h3 with h | h | h <;> simp [madeCells, hi, h]
theorem info102 : (Tryd.prog.info? 102).map (fun i => (i.zero, i.size, i.bytes)) = some (some (.agg #[.int .u64 0, .int .u64 0, .int .u64 0]), 3, 24) := by kernel_rfl
theorem run_makeSets (n : Nat) (hn : n ≤ 1048576) (w : World) :
    (Instr.makeSlice 103 (.int .i64 (n : Int)) (.int .i64 (n : Int))).run Tryd.prog w = .ok (.slice (some ⟨w.heap.size, 0, none⟩) n n) (w.alloc (.cells (madeCells #[.int .u64 0, .int .u64 0, .int .u64 0] (n * 3)) 102)) := by
  obtain ⟨i, hi, hzz⟩ := Option.map_eq_some_iff.1 info102
  simp only [Prod.mk.injEq] at hzz
  obtain ⟨hz0, hz1, hz2⟩ := hzz
  have hr := run_make (P := Tryd.prog) w 103 102 i _ Tryd.underlying103 hi hz0 .i64 .i64 n n (by omega) (Int.le_refl _) (by rw [hz2]; omega) (by omega)
  simp only [Int.toNat_natCast, hz1] at hr
  exact hr
theorem mem_zero (n a y : Nat) : mem (List.replicate n 0) a y = false := by
  unfold mem
  have : (List.replicate n 0).getD (a * 3 + y / 64) 0 = 0 := by
    by_cases h : a * 3 + y / 64 < n
    · simp [List.getD_eq_getElem?_getD, h]
    · simp [List.getD_eq_getElem?_getD, Nat.le_of_not_lt h]
  rw [this]
  simp
end Go.Proofs.YtjpjjfgdgieapaaDoor
