import Derived.Test.YtofobmdljelmgaaNr
/-! Rows of numbers: copies, comparison, marks. -/
namespace Go.Proofs.Ytofobmdljelmgaa
open Go.RowKit Go.Deep
set_option linter.unusedVariables false
set_option maxRecDepth 100000
set_option linter.unusedSimpArgs false

/-- Numbers in the row b, which may be longer. -/
def OwnI (w : World) (b : Nat) (l : List Int) (v : Value) : Prop :=
  ∃ (a : Option Addr) (cap : Nat) (f : Nat → Value), v = .slice a l.length cap ∧ l.length ≤ cap ∧ cap ≤ maxLen ∧ (0 < l.length → a = some ⟨b, 0, none⟩ ∧ w.rowIs b 3 cap f) ∧ ∀ i (hi : i < l.length), f i = .int .i64 l[i]
theorem OwnI.keep {w w' : World} {b : Nat} {l : List Int} {v : Value} (h : OwnI w b l v) (hb : b < w.heap.size → w'.heap[b]? = w.heap[b]?) : OwnI w' b l v := by
  obtain ⟨a, cap, f, hv, hc, hm, ha, hf⟩ := h
  exact ⟨a, cap, f, hv, hc, hm, fun h0 => ⟨(ha h0).1, World.rowIs.of_block (ha h0).2 (hb (World.rowIs.lt (ha h0).2))⟩, hf⟩
theorem OwnI.still {w w' : World} {b : Nat} {l : List Int} {v : Value} (h : OwnI w b l v) (hb : Below w.heap.size w w') : OwnI w' b l v := h.keep (fun hlt => hb.block b hlt)
theorem OwnI.out {w w' : World} {b lo hi : Nat} {l : List Int} {v : Value} (h : OwnI w b l v) (ho : Out lo hi w w') (hb : b < lo ∨ hi ≤ b) : OwnI w' b l v := h.keep (fun hlt => ho.2.2.2.2 b hlt hb)
theorem OwnI.form {w : World} {b : Nat} {l : List Int} {v : Value} (h : OwnI w b l v) : ∃ a cap, v = .slice a l.length cap ∧ l.length ≤ maxLen := by
  obtain ⟨a, cap, f, hv, hc, hm, _⟩ := h
  exact ⟨_, _, hv, by omega⟩
theorem OwnI.ints {w : World} {b : Nat} {l : List Int} {v : Value} (h : OwnI w b l v) : Ints w (fun c => c = b) l v := by
  obtain ⟨a, cap, f, hv, hc, hm, ha, hf⟩ := h
  refine ⟨a, cap, b, 0, hv, hc, hm, fun h0 => ⟨(ha h0).1, rfl⟩, fun i hi => ?_⟩
  rw [Nat.zero_add, (ha (by omega)).2.cell (by omega), hf i hi]
theorem IRow.own {w : World} {b : Nat} {l : List Int} (h : IRow w b l) (hl : l.length ≤ maxLen) : OwnI w b l (.slice (some ⟨b, 0, none⟩) l.length l.length) :=
  ⟨_, _, _, rfl, Nat.le_refl _, hl, fun _ => ⟨rfl, h⟩, fun i hi => by simp [List.getD_eq_getElem?_getD, hi]⟩
/-- Numbers from n on. -/
def cnt (n m : Nat) : List Int := (List.range m).map fun i => ((n + i : Nat) : Int)
theorem cnt_len (n m : Nat) : (cnt n m).length = m := by simp [cnt]
theorem cnt_get (n m i : Nat) (h : i < (cnt n m).length) : (cnt n m)[i] = ((n + i : Nat) : Int) := by simp [cnt]
end Go.Proofs.Ytofobmdljelmgaa
