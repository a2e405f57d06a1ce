import Derived.Test.YthmdoplickpmaaiRxNet2
namespace Go.Proofs.Ythmdoplickpmaai
open Go.RowKit Go.Deep Go.Lib
set_option linter.unusedVariables false
set_option maxRecDepth 100000
set_option linter.unusedSimpArgs false

/-- The spec's reader in its box p: at z, its fault b, its nodes n in block g. -/
def Rdx (w : World) (p : Nat) (s : ByteArray) (z b : Int) (n : Nat) (g : Option Nat) : Prop :=
  ∃ f xs, w.rowIs p 91 4 f ∧ f 0 = .string s ∧ f 1 = .int .i64 z ∧ f 2 = .int .i64 b ∧ (f 3).ownBlock = g ∧ w.ownsRow 0 113 258 (f 3) n xs ∧ g ≠ some p ∧ s.size ≤ 1048576
/-- .. without a fault yet, at place k. -/
structure Rd (w : World) (p : Nat) (s : ByteArray) (k c : Nat) (g : Option Nat) : Prop where
  le : k ≤ s.size
  ex : ∃ n, Rdx w p s k (-1) n g ∧ n + 3 * s.size ≤ 3 * k + c
/-- .. with one. -/
structure Bd (w : World) (p : Nat) (s : ByteArray) (j c : Nat) (g : Option Nat) : Prop where
  ex : ∃ z n, Rdx w p s z j n g ∧ n ≤ c
theorem ownlt {w : World} {e : TypeId} {z n : Nat} {v : Value} {xs : List Value} {k : Nat} (h : w.ownsRow 0 e z v n xs) (hk : v.ownBlock = some k) : k < w.heap.size := (World.ownsRow.lt h k hk).2
theorem own_of {w w' : World} {e : TypeId} {z n : Nat} {v : Value} {xs : List Value} (h : w.ownsRow 0 e z v n xs) (hk : ∀ k, v.ownBlock = some k → w'.heap[k]? = w.heap[k]?) : w'.ownsRow 0 e z v n xs := by
  obtain ⟨h1, h2⟩ := h
  refine ⟨h1, ?_⟩
  rcases h2 with h2 | ⟨g', cap', cur, rfl, hb, hc, hr⟩
  · exact .inl h2
  · exact .inr ⟨g', cap', cur, rfl, hb, (hk g' rfl).trans hc, hr⟩
theorem Rdx.keep {w w' : World} {p : Nat} {s : ByteArray} {z b : Int} {n : Nat} {g : Option Nat} (h : Rdx w p s z b n g) (hp : w'.heap[p]? = w.heap[p]?) (hg : ∀ k, g = some k → w'.heap[k]? = w.heap[k]?) : Rdx w' p s z b n g := by
  obtain ⟨f, xs, h1, h2, h3, h4, h5, h6, h7, h8⟩ := h
  exact ⟨f, xs, h1.of_block hp, h2, h3, h4, h5, own_of h6 (fun k hk => hg k (by rw [← h5, hk])), h7, h8⟩
theorem Rdx.lt {w : World} {p : Nat} {s : ByteArray} {z b : Int} {n : Nat} {g : Option Nat} (h : Rdx w p s z b n g) : p < w.heap.size ∧ (∀ k, g = some k → k < w.heap.size ∧ k ≠ p) ∧ s.size ≤ 1048576 := by
  obtain ⟨f, xs, h1, h2, h3, h4, h5, h6, h7, h8⟩ := h
  refine ⟨h1.lt, fun k hk => ⟨ownlt h6 (by rw [h5, hk]), fun e => ?_⟩, h8⟩
  subst e
  exact h7 hk
theorem Rdx.cells {w : World} {p : Nat} {s : ByteArray} {z b : Int} {n : Nat} {g : Option Nat} (h : Rdx w p s z b n g) : w.cell? ⟨p, 0, none⟩ = some (.string s) ∧ w.cell? ⟨p, 1, none⟩ = some (.int .i64 z) ∧ w.cell? ⟨p, 2, none⟩ = some (.int .i64 b) ∧ w.frozen? ⟨p, 1, none⟩ = false ∧ w.frozen? ⟨p, 2, none⟩ = false ∧ w.frozen? ⟨p, 3, none⟩ = false := by
  obtain ⟨f, xs, h1, h2, h3, h4, h5, h6, h7, h8⟩ := h
  exact ⟨by rw [h1.cell (by omega), h2], by rw [h1.cell (by omega), h3], by rw [h1.cell (by omega), h4], h1.frozen 1, h1.frozen 2, h1.frozen 3⟩
theorem Rdx.setAt {w : World} {p : Nat} {s : ByteArray} {z b : Int} {n : Nat} {g : Option Nat} (h : Rdx w p s z b n g) (z' : Int) : Rdx (w.setCell ⟨p, 1, none⟩ (.int .i64 z')) p s z' b n g := by
  obtain ⟨f, xs, h1, h2, h3, h4, h5, h6, h7, h8⟩ := h
  exact ⟨_, xs, h1.set 1 _, by rw [if_neg (by omega)]; exact h2, if_pos rfl, by rw [if_neg (by omega)]; exact h4, by rw [if_neg (by omega)]; exact h5, by
    rw [if_neg (by omega)]
    exact own_of h6 (fun k hk => blk_setCell_other _ _ _ _ (by show k ≠ p; intro e; subst e; rw [h5] at hk; exact h7 hk)), h7, h8⟩
theorem Rdx.setBad {w : World} {p : Nat} {s : ByteArray} {z b : Int} {n : Nat} {g : Option Nat} (h : Rdx w p s z b n g) (b' : Int) : Rdx (w.setCell ⟨p, 2, none⟩ (.int .i64 b')) p s z b' n g := by
  obtain ⟨f, xs, h1, h2, h3, h4, h5, h6, h7, h8⟩ := h
  exact ⟨_, xs, h1.set 2 _, by rw [if_neg (by omega)]; exact h2, by rw [if_neg (by omega)]; exact h3, if_pos rfl, by rw [if_neg (by omega)]; exact h5, by
    rw [if_neg (by omega)]
    exact own_of h6 (fun k hk => blk_setCell_other _ _ _ _ (by show k ≠ p; intro e; subst e; rw [h5] at hk; exact h7 hk)), h7, h8⟩
/-- What a step of the reader leaves as it was. -/
structure Mv (p : Nat) (g : Option Nat) (w : World) (g' : Option Nat) (w' : World) : Prop where
  fr : w'.os = w.os ∧ w'.tape = w.tape ∧ w'.output = w.output ∧ w.heap.size ≤ w'.heap.size ∧ ∀ k, k < w.heap.size → k ≠ p → g ≠ some k → w'.heap[k]? = w.heap[k]?
  to : g' = g ∨ ∃ x, g' = some x ∧ w.heap.size ≤ x
theorem Mv.refl (p : Nat) (g : Option Nat) (w : World) : Mv p g w g w := ⟨⟨rfl, rfl, rfl, Nat.le_refl _, fun _ _ _ _ => rfl⟩, .inl rfl⟩
theorem Mv.trans {p : Nat} {g g' g'' : Option Nat} {w w' w'' : World} (h : Mv p g w g' w') (k : Mv p g' w' g'' w'') : Mv p g w g'' w'' := by
  obtain ⟨⟨a1, a2, a3, a4, a5⟩, a6⟩ := h
  obtain ⟨⟨b1, b2, b3, b4, b5⟩, b6⟩ := k
  refine ⟨⟨b1.trans a1, b2.trans a2, b3.trans a3, Nat.le_trans a4 b4, fun k hk h1 h2 => (b5 k (by omega) h1 ?_).trans (a5 k hk h1 h2)⟩, ?_⟩
  · rcases a6 with rfl | ⟨x, rfl, hx⟩
    · exact h2
    · intro e; cases e; omega
  · rcases b6 with rfl | ⟨x, rfl, hx⟩
    · exact a6
    · exact .inr ⟨x, rfl, by omega⟩
theorem Mv.set1 {p : Nat} {g : Option Nat} {w : World} (o : Nat) (x : Value) : Mv p g w g (w.setCell ⟨p, o, none⟩ x) :=
  ⟨⟨rfl, rfl, rfl, by simp, fun k hk h1 h2 => blk_setCell_other _ _ _ _ (by exact h1)⟩, .inl rfl⟩
theorem Mv.bel {p : Nat} {g : Option Nat} {w w' : World} (h : Below w.heap.size w w') : Mv p g w g w' := ⟨⟨h.os, h.tape, h.output, h.size, fun k hk _ _ => h.block k hk⟩, .inl rfl⟩
theorem Mv.drewN {p : Nat} {g g' : Option Nat} {w w' : World} (h : Mv p g w g' w') (n : Nat) : Mv p g w g' (w'.drewN n) := ⟨h.fr, h.to⟩
theorem Rdx.bel {w w' : World} {p : Nat} {s : ByteArray} {z b : Int} {n : Nat} {g : Option Nat} (h : Rdx w p s z b n g) (hb : Below w.heap.size w w') : Rdx w' p s z b n g := h.keep (hb.block p h.lt.1) (fun k hk => hb.block k (h.lt.2.1 k hk).1)
theorem Rd.bel {w w' : World} {p k c : Nat} {s : ByteArray} {g : Option Nat} (h : Rd w p s k c g) (hb : Below w.heap.size w w') : Rd w' p s k c g := by
  obtain ⟨h1, n, h2, h3⟩ := h; exact ⟨h1, n, h2.bel hb, h3⟩
theorem Bd.bel {w w' : World} {p j c : Nat} {s : ByteArray} {g : Option Nat} (h : Bd w p s j c g) (hb : Below w.heap.size w w') : Bd w' p s j c g := by
  obtain ⟨z, n, h2, h3⟩ := h; exact ⟨z, n, h2.bel hb, h3⟩
theorem Rd.drewN {w : World} {p k c : Nat} {s : ByteArray} {g : Option Nat} (h : Rd w p s k c g) (m : Nat) : Rd (w.drewN m) p s k c g := by
  obtain ⟨h1, n, h2, h3⟩ := h; exact ⟨h1, n, h2.keep rfl (fun _ _ => rfl), h3⟩
theorem Bd.drewN {w : World} {p j c : Nat} {s : ByteArray} {g : Option Nat} (h : Bd w p s j c g) (m : Nat) : Bd (w.drewN m) p s j c g := by
  obtain ⟨z, n, h2, h3⟩ := h; exact ⟨z, n, h2.keep rfl (fun _ _ => rfl), h3⟩
theorem Rd.mono {w : World} {p k c c' : Nat} {s : ByteArray} {g : Option Nat} (h : Rd w p s k c g) (hc : c ≤ c') : Rd w p s k c' g := by
  obtain ⟨h1, n, h2, h3⟩ := h; exact ⟨h1, n, h2, by omega⟩
theorem Bd.mono {w : World} {p j c c' : Nat} {s : ByteArray} {g : Option Nat} (h : Bd w p s j c g) (hc : c ≤ c') : Bd w p s j c' g := by
  obtain ⟨z, n, h2, h3⟩ := h; exact ⟨z, n, h2, by omega⟩
/-- One byte further: three of the slack. -/
theorem Rd.next {w : World} {p k c : Nat} {s : ByteArray} {g : Option Nat} (h : Rd w p s k c g) (hk : k < s.size) : 3 ≤ c ∧ Rd (w.setCell ⟨p, 1, none⟩ (.int .i64 ((k : Int) + 1))) p s (k + 1) (c - 3) g := by
  obtain ⟨h1, n, h2, h3⟩ := h
  have hc : 3 ≤ c := by omega
  exact ⟨hc, hk, n, h2.setAt _, by omega⟩
theorem Rd.fail {w : World} {p k c : Nat} {s : ByteArray} {g : Option Nat} (h : Rd w p s k c g) (j : Nat) : Bd (w.setCell ⟨p, 2, none⟩ (.int .i64 j)) p s j c g := by
  obtain ⟨h1, n, h2, h3⟩ := h
  exact ⟨_, n, h2.setBad _, by omega⟩
theorem Rd.cells {w : World} {p k c : Nat} {s : ByteArray} {g : Option Nat} (h : Rd w p s k c g) : w.cell? ⟨p, 0, none⟩ = some (.string s) ∧ w.cell? ⟨p, 1, none⟩ = some (.int .i64 k) ∧ w.cell? ⟨p, 2, none⟩ = some (.int .i64 (-1)) ∧ w.frozen? ⟨p, 1, none⟩ = false ∧ w.frozen? ⟨p, 2, none⟩ = false ∧ w.frozen? ⟨p, 3, none⟩ = false := by
  obtain ⟨h1, n, h2, h3⟩ := h; exact h2.cells
theorem Rd.small {w : World} {p k c : Nat} {s : ByteArray} {g : Option Nat} (h : Rd w p s k c g) : s.size ≤ 1048576 := by obtain ⟨h1, n, h2, h3⟩ := h; exact h2.lt.2.2

set_option maxHeartbeats 800000 in
theorem more_ok {p k c : Nat} {s : ByteArray} {g : Option Nat} (w : World) (h : Rd w p s k c g) :
    Calls Try.prog 50 #[.pointer (some ⟨p, 0, none⟩)] w fun e w' => e = .returned (.bool (decide (k < s.size))) ∧ ∃ m, w' = w.drewN m := by
  obtain ⟨x0, x1, x2, _⟩ := h.cells
  have hs := h.small
  have hn : decide ((-1 : Int) < 0) = true := by decide
  clear h
  by_cases hlt : k < s.size
  · have hd : decide ((k : Int) < s.size) = true := by simp; omega
    rw [show decide (k < s.size) = true by simp [hlt]]
    go_enter Try.func50, Try.ntmps50
    go_wp2_with fail
    go_quiet (fail)
    go_wp2_with fail
    go_ret
    exact ⟨by first | rfl | simp [hd] | simp, _, rfl⟩
  · have hd : decide ((k : Int) < s.size) = false := by simp; omega
    rw [show decide (k < s.size) = false by simp [hlt]]
    go_enter Try.func50, Try.ntmps50
    go_wp2_with fail
    go_quiet (fail)
    go_wp2_with fail
    go_ret
    exact ⟨by first | rfl | simp [hd] | simp, _, rfl⟩
set_option maxHeartbeats 800000 in
theorem more_bad {p j c : Nat} {s : ByteArray} {g : Option Nat} (w : World) (h : Bd w p s j c g) :
    Calls Try.prog 50 #[.pointer (some ⟨p, 0, none⟩)] w fun e w' => e = .returned (.bool false) ∧ ∃ m, w' = w.drewN m := by
  obtain ⟨z, n, h, _⟩ := h
  obtain ⟨x0, x1, x2, _⟩ := h.cells
  have hn : decide ((j : Int) < 0) = false := by simp
  clear h
  go_enter Try.func50, Try.ntmps50
  go_wp2_with fail
  go_quiet (fail)
  go_wp2_with fail
  go_ret
  exact ⟨rfl, _, rfl⟩
theorem fail_ok {p k c : Nat} {s : ByteArray} {g : Option Nat} (j : Nat) (w : World) (h : Rd w p s k c g) :
    Calls Try.prog 51 #[.pointer (some ⟨p, 0, none⟩), .int .i64 j] w fun e w' => e = .returned (.tuple #[]) ∧ Bd w' p s j c g ∧ Mv p g w g w' := by
  obtain ⟨x0, x1, x2, _, y2, _⟩ := h.cells
  have H := (show Hid _ from h.fail j); clear h
  go_enter Try.func51, Try.ntmps51
  go_wp2_with fail
  go_end0
  exact ⟨rfl, H.out, Mv.set1 _ _⟩
theorem fail_bad {p j c : Nat} {s : ByteArray} {g : Option Nat} (i : Int) (w : World) (h : Bd w p s j c g) :
    Calls Try.prog 51 #[.pointer (some ⟨p, 0, none⟩), .int .i64 i] w fun e w' => e = .returned (.tuple #[]) ∧ w' = w := by
  obtain ⟨z, n, h, _⟩ := h
  obtain ⟨x0, x1, x2, _, y2, _⟩ := h.cells
  have hn : ¬ ((j : Int) < 0) := by omega
  have hn' : (0 : Int) ≤ j := by omega
  clear h
  go_enter Try.func51, Try.ntmps51
  go_wp2_with fail
  go_end0
  exact ⟨rfl, rfl⟩
end Go.Proofs.Ythmdoplickpmaai
