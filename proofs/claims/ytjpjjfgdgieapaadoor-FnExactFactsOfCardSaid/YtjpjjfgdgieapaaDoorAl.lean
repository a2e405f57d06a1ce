import Derived.Test.YtjpjjfgdgieapaaDoorPb
import Derived.Deep.AppendLies
/-! The program: symbols that stand alone. -/
namespace Go.Proofs.YtjpjjfgdgieapaaDoor
open Go.RowKit Go.Deep
set_option linter.unusedVariables false
set_option maxRecDepth 100000
set_option linter.unusedSimpArgs false

/-- Numbers as cells. -/
def icl (l : List Int) : List Value := l.map (.int .i64)
theorem al_grown {w w' : World} (h : Below w.heap.size w w') (o : Option Nat) : w.grownBy w' o := ⟨h.os, h.tape, h.output, h.size, fun b hb _ => h.block b hb⟩
theorem al_still {w w' : World} {base : Nat} {e : TypeId} {size : Nat} {v : Value} {n : Nat} {xs : List Value} (h : w.ownsRow base e size v n xs) (hb : Below w.heap.size w w') : w'.ownsRow base e size v n xs :=
  h.kept (al_grown hb none) (by cases v.ownBlock <;> simp)
theorem al_box (w : World) (u : Value) (T : TypeId) : ∀ j x, [u][j]? = some x → (w.alloc (.cells #[u] T)).cell? ((⟨w.heap.size, 0, none⟩ : Addr).add j) = some x := by
  intro j x h
  cases j with
  | zero => simp at h; subst h; simp [Addr.add, go_sem]
  | succ j => simp at h
/-- A row of numbers that is owned, read. -/
theorem al_ints {w : World} {B : Nat} {v : Value} {l : List Int} (h : w.ownsRow B 3 1 v l.length (icl l)) : Ints w (fun c => B ≤ c) l v := by
  obtain ⟨hl, h⟩ := h
  rcases h with ⟨rfl, e⟩ | ⟨g, cap, cur, rfl, hB, hg, hn, hm, hsz, htk⟩
  · have : l = [] := List.length_eq_zero_iff.1 e
    subst this
    exact ⟨none, 0, 0, 0, rfl, Nat.le_refl _, Nat.zero_le _, fun h => absurd h (Nat.not_lt_zero _), fun i hi => absurd hi (Nat.not_lt_zero _)⟩
  · refine ⟨_, cap, g, 0, rfl, hn, hm, fun _ => ⟨rfl, hB⟩, fun i hi => ?_⟩
    rw [Nat.zero_add, cell_of_row w g i cur _ (0, 0) hg]
    have : (icl l)[i]? = some (.int .i64 l[i]) := by simp [icl, hi]
    rw [← htk, List.getElem?_take] at this
    split at this
    · simpa using this
    · simp at this
/-- Those beside which there are only ones that make the empty word. -/
def alo (L : Nat → Int) (r : List Int) : List Int :=
  if (r.filter fun x => L x.toNat != 0).length = 0 then r
  else if (r.filter fun x => L x.toNat != 0).length = 1 then r.filter fun x => L x.toNat != 0
  else []
theorem Ints.blk {w : World} {S : Nat → Prop} {l : List Int} {v : Value} (h : Ints w S l v) : Ints w (fun c => c < w.heap.size) l v := by
  obtain ⟨a, cap, b, off, hv, hc, hm, ha, hcell⟩ := h
  exact ⟨a, cap, b, off, hv, hc, hm, fun h0 => ⟨(ha h0).1, lt_of_cell (hcell 0 h0)⟩, hcell⟩
theorem Ints.bt {w w' : World} {b0 : Nat} {l : List Int} {v : Value} (h : Ints w (fun c => c ≠ b0) l v) (hb : Bt b0 w w') : Ints w' (fun c => c ≠ b0) l v := h.keep (fun b hb1 hb2 => hb.block b hb2 hb1)
theorem Box.bt {w w' : World} {b0 g T : Nat} {cs : List Value} (h : Box w g T cs) (hb : Bt b0 w w') (hg : g ≠ b0) : Box w' g T cs := h.keep (hb.block g h.lt hg)
theorem St.bt {w w' : World} {b0 g b : Nat} {v0 v1 vo v3 : Value} {L : List Int} (h : St w g b v0 v1 vo v3 L) (hb : Bt b0 w w') (hg : g ≠ b0) (hbb : b ≠ b0) : St w' g b v0 v1 vo v3 L :=
  ⟨h.box.bt hb hg, World.rowIs.of_block h.row (hb.block b (World.rowIs.lt h.row) hbb), h.ne⟩
end Go.Proofs.YtjpjjfgdgieapaaDoor
