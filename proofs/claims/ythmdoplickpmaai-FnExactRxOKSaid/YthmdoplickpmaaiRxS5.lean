import Derived.Test.YthmdoplickpmaaiRxS4
import Derived.Test.YthmdoplickpmaaiRxSet2
import Derived.Deep.CutRange
import Derived.Deep.Light
namespace Go.Proofs.Ythmdoplickpmaai
open Go.RowKit Go.Deep Go.Lib
set_option linter.unusedVariables false
set_option maxRecDepth 100000
set_option linter.unusedSimpArgs false

/-- A node in its box. -/
structure Node (w : World) (B : Nat) : Prop where
  ex : ∃ f, w.rowIs B 113 258 f ∧ (∀ i, i < 256 → ∃ b : Bool, f (i + 1) = .bool b) ∧ ∀ i, i < 258 → (f i).oneCell' = true
theorem Node.lt {w : World} {B : Nat} (h : Node w B) : B < w.heap.size := by obtain ⟨f, h, _⟩ := h; exact h.lt
theorem Node.keep {w w' : World} {B : Nat} (h : Node w B) (hk : w'.heap[B]? = w.heap[B]?) : Node w' B := by obtain ⟨f, h, e⟩ := h; exact ⟨f, h.of_block hk, e⟩
theorem Node.cell {w : World} {B : Nat} (h : Node w B) (i : Nat) (hi : i < 256) : (∃ b : Bool, w.cell? ⟨B, i + 1, none⟩ = some (.bool b)) ∧ w.frozen? ⟨B, i + 1, none⟩ = false := by
  obtain ⟨f, h, e, _⟩ := h
  obtain ⟨b, hb⟩ := e i hi
  exact ⟨⟨b, by rw [h.cell (by omega), hb]⟩, h.frozen _⟩
theorem Node.set {w : World} {B : Nat} (h : Node w B) (i : Nat) (b : Bool) : Node (w.setCell ⟨B, i + 1, none⟩ (.bool b)) B := by
  obtain ⟨f, h, e, e1⟩ := h
  refine ⟨_, h.set (i + 1) _, fun j hj => ?_, fun j hj => ?_⟩
  · by_cases hij : j + 1 = i + 1
    · exact ⟨b, if_pos hij⟩
    · obtain ⟨b', hb'⟩ := e j hj
      exact ⟨b', by rw [if_neg hij]; exact hb'⟩
  · split
    · rfl
    · exact e1 j hj
theorem Node.drewN {w : World} {B : Nat} (h : Node w B) (n : Nat) : Node (w.drewN n) B := h.keep rfl
theorem Rdx.out {w w' : World} {p B : Nat} {s : ByteArray} {z b : Int} {n : Nat} {g : Option Nat} (h : Rdx w p s z b n g) (ho : Out B (B + 1) w w') (hB : B ≠ p) (hg : g ≠ some B) : Rdx w' p s z b n g :=
  h.keep (ho.2.2.2.2 p h.lt.1 (by omega)) (fun k hk => ho.2.2.2.2 k (h.lt.2.1 k hk).1 (by have : k ≠ B := fun e => hg (e ▸ hk); omega))
theorem Rd.out {w w' : World} {p k c B : Nat} {s : ByteArray} {g : Option Nat} (h : Rd w p s k c g) (ho : Out B (B + 1) w w') (hB : B ≠ p) (hg : g ≠ some B) : Rd w' p s k c g := by
  obtain ⟨h1, n, h2, h3⟩ := h; exact ⟨h1, n, h2.out ho hB hg, h3⟩
theorem Bd.out {w w' : World} {p j c B : Nat} {s : ByteArray} {g : Option Nat} (h : Bd w p s j c g) (ho : Out B (B + 1) w w') (hB : B ≠ p) (hg : g ≠ some B) : Bd w' p s j c g := by
  obtain ⟨z, n, h2, h3⟩ := h; exact ⟨z, n, h2.out ho hB hg, h3⟩
theorem Mv.out2 {p B : Nat} {g : Option Nat} {w w' : World} (h : Mv p none w g w') : Out2 p B w w' := ⟨h.fr.1, h.fr.2.1, h.fr.2.2.1, h.fr.2.2.2.1, fun k hk h1 _ => h.fr.2.2.2.2 k hk h1 (by simp)⟩
/-- What the reading of a set leaves: the reader's box and the node's. -/
structure Ob (p B : Nat) (g : Option Nat) (w w' : World) : Prop where
  fr : w'.os = w.os ∧ w'.tape = w.tape ∧ w'.output = w.output ∧ w.heap.size ≤ w'.heap.size ∧ ∀ k, k < w.heap.size → k ≠ p → k ≠ B → g ≠ some k → w'.heap[k]? = w.heap[k]?
theorem Ob.refl (p B : Nat) (g : Option Nat) (w : World) : Ob p B g w w := ⟨rfl, rfl, rfl, Nat.le_refl _, fun _ _ _ _ _ => rfl⟩
theorem Ob.trans {p B : Nat} {g : Option Nat} {w w' w'' : World} (h : Ob p B g w w') (k : Ob p B g w' w'') : Ob p B g w w'' :=
  ⟨k.fr.1.trans h.fr.1, k.fr.2.1.trans h.fr.2.1, k.fr.2.2.1.trans h.fr.2.2.1, Nat.le_trans h.fr.2.2.2.1 k.fr.2.2.2.1, fun i hi h1 h2 h3 => (k.fr.2.2.2.2 i (Nat.lt_of_lt_of_le hi h.fr.2.2.2.1) h1 h2 h3).trans (h.fr.2.2.2.2 i hi h1 h2 h3)⟩
theorem Ob.mv {p B : Nat} {g : Option Nat} {w w' : World} (h : Mv p g w g w') : Ob p B g w w' := ⟨h.fr.1, h.fr.2.1, h.fr.2.2.1, h.fr.2.2.2.1, fun k hk h1 _ h3 => h.fr.2.2.2.2 k hk h1 h3⟩
theorem Ob.out {p B : Nat} {g : Option Nat} {w w' : World} (h : Out B (B + 1) w w') : Ob p B g w w' := ⟨h.1, h.2.1, h.2.2.1, h.2.2.2.1, fun k hk _ h2 _ => h.2.2.2.2 k hk (by omega)⟩
theorem Ob.drewN {p B : Nat} {g : Option Nat} {w w' : World} (h : Ob p B g w w') (n : Nat) : Ob p B g w (w'.drewN n) := ⟨h.fr⟩
theorem Node.mv {w w' : World} {p B : Nat} {g : Option Nat} (h : Node w B) (v : Mv p g w g w') (hB : B ≠ p) (hg : g ≠ some B) : Node w' B := h.keep (v.fr.2.2.2.2 B h.lt hB hg)
/-- The items of a set: the first one is due, or not. -/
def xMore (s : ByteArray) (b : Bool) (k : Nat) : Except Nat Nat := if b then (match xItem s k with
    | .error j => .error j
    | .ok k2 => xItems s (s.size + 1 - k2) k2) else xItems s (s.size + 1 - k) k
/-- A set behind its bracket. -/
def xBeh (s : ByteArray) (k : Nat) : Except Nat Nat := fin (xMore s true (if seesB s k 94 then k + 1 else k))
theorem xSet_beh (s : ByteArray) (k : Nat) : xSet s k = xBeh s (k + 1) := by
  unfold xSet xBeh xMore
  simp only [if_true]
  have e : (if seesB s (k + 1) 94 = true then k + 2 else k + 1) = (if seesB s (k + 1) 94 = true then k + 1 + 1 else k + 1) := by split <;> rfl
  rw [e]
  cases xItem s (if seesB s (k + 1) 94 = true then k + 1 + 1 else k + 1) with
  | error j => rfl
  | ok k2 => dsimp only; cases xItems s (s.size + 1 - k2) k2 <;> rfl
/-- Whether one more item is read. -/
def onB (s : ByteArray) (b : Bool) (k : Nat) : Bool := b || (decide (k < s.size) && !(seesB s k 93))
theorem xMore_go {s : ByteArray} {b : Bool} {k : Nat} (hk : k ≤ s.size) (h : onB s b k = true) : xMore s b k = (match xItem s k with
    | .error j => .error j
    | .ok k2 => xItems s (s.size + 1 - k2) k2) := by
  unfold xMore
  cases b
  · simp [onB] at h
    rw [if_neg (by simp), xItems_step hk h.2]
    cases xItem s k <;> rfl
  · rw [if_pos rfl]
theorem xMore_stop {s : ByteArray} {b : Bool} {k : Nat} (hk : k ≤ s.size) (h : onB s b k = false) : xMore s b k = if k < s.size then .ok k else .error k := by
  unfold onB at h
  rw [Bool.or_eq_false_iff] at h
  obtain ⟨rfl, h⟩ := h
  unfold xMore
  rw [if_neg (by simp)]
  by_cases hlt : k < s.size
  · rw [if_pos hlt]
    simp [hlt] at h
    exact xItems_stop hk h
  · rw [if_neg hlt]
    obtain rfl : k = s.size := by omega
    have hf : seesB s s.size 93 = false := by unfold seesB; simp
    rw [xItems_step hk hf]
    have : xItem s s.size = .error s.size := by
      unfold xItem xOne xPlain seesB
      simp
    rw [this]
/-- What the items leave of the reader. -/
def SO (r : Except Nat Nat) (p : Nat) (s : ByteArray) (c : Nat) (g : Option Nat) (w' : World) : Prop := match r with
  | .ok k => Rd w' p s k c g
  | .error j => Bd w' p s j c g
theorem SO.out {r : Except Nat Nat} {w w' : World} {p c B : Nat} {s : ByteArray} {g : Option Nat} (h : SO r p s c g w) (ho : Out B (B + 1) w w') (hB : B ≠ p) (hg : g ≠ some B) : SO r p s c g w' := by
  cases r with
  | ok k => exact Rd.out h ho hB hg
  | error j => exact Bd.out h ho hB hg
theorem SO.bad {r : Except Nat Nat} {w : World} {p c : Nat} {s : ByteArray} {g : Option Nat} (h : SO r p s c g w) : ∃ b : Int, w.cell? ⟨p, 2, none⟩ = some (.int .i64 b) ∧ (match r with
  | .ok _ => b = -1
  | .error _ => 0 ≤ b) := by
  cases r with
  | ok k => exact ⟨-1, (Rd.cells h).2.2.1, rfl⟩
  | error j => obtain ⟨z, _, x2, _⟩ := Bd.cells h; exact ⟨j, x2, by simp⟩
end Go.Proofs.Ythmdoplickpmaai
