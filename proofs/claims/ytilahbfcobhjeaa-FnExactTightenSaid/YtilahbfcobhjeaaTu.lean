import Derived.Test.YtilahbfcobhjeaaTk
/-! Programs that are made tighter: staying. -/
namespace Go.Proofs.Ytilahbfcobhjeaa
open Go.RowKit Go.Deep Go.Shelf
set_option linter.unusedVariables false
set_option maxRecDepth 100000
set_option linter.unusedSimpArgs false

theorem setRow_two (w : World) (c c' : Array Value) (t : TypeId) (o : Obj) : ((w.alloc (.cells c t)).alloc o).setRow w.heap.size c' = (w.alloc (.cells c' t)).alloc o := by
  simp only [World.setRow, World.alloc]
  congr 1
  apply Array.ext_getElem?
  intro i
  rw [Array.getElem?_modify]
  by_cases h : w.heap.size = i
  · subst h
    simp [Array.getElem?_push]
  · rw [if_neg h]
    simp only [Array.getElem?_push, Array.size_push]
    by_cases h2 : i = w.heap.size + 1
    · simp [h2]
    · simp only [if_neg h2]
      rw [if_neg (fun e => h e.symm), if_neg (fun e => h e.symm)]
theorem sto65h (w0 : World) (o : Obj) : (storeCells ⟨w0.heap.size, 0, none⟩ tbA.toList).run Try.prog ((w0.alloc (.cells zrA 65)).alloc o) = .ok () ((w0.alloc (.cells tbA 65)).alloc o) := by
  have hh : ((w0.alloc (.cells zrA 65)).alloc o).heap[w0.heap.size]? = some (.cells zrA 65) := ((bel_alloc (w0.alloc (.cells zrA 65)) o).block w0.heap.size (by simp)).trans (heap_alloc_last w0 _)
  have h := run_storeVar_row (P := Try.prog) _ _ 65 65 zrA tbA hh info65 (by kernel_rfl) tbA_one
  rw [setRow_two] at h
  cases hq : Try.prog.info? 65 with
  | none => have := info65; rw [hq] at this; cases this
  | some i =>
    have hs : tbA.size = i.size := by have := info65; rw [hq] at this; injection this with this; exact this.symm
    simpa [storeVar, sizeOf, typeInfo, hq, Value.cells, hs] using h
theorem back106 (a : Option Addr) (n c : Nat) (w : World) : Calls Try.prog 106 #[.slice a n c] w fun e w' => e = .returned (.func (.func 123) #[] #[.pointer (some ⟨w.heap.size, 0, none⟩)]) ∧ w' = w.alloc (.cells #[.slice a n c] 25) := by
  go_enter Try.func106, Try.ntmps106
  go_wp2_with fail
  go_ret
  exact ⟨rfl, rfl⟩
/-- What stands while one goes from the last to the first. -/
structure StI (w3 : World) (L : List DIns) (bs : List Bool) (gB gh : Nat) (pre : List Nat) (W : World) : Prop where
  os : W.os = w3.os
  tape : W.tape = w3.tape
  output : W.output = w3.output
  size : w3.heap.size ≤ W.heap.size
  block : ∀ q, q < w3.heap.size → q ≠ gB → q ≠ gh → W.heap[q]? = w3.heap[q]?
  st : ∃ (st : List Bool) (nx : Nat), BR W gB st ∧ Box W gh 3 [.int .i64 (nx : Int)] ∧ st.length = L.length ∧ Bw L (notB bs) (notB st) (L.length - pre.length) nx ∧ ∀ j, j < L.length - pre.length → st.getD j false = bs.getD j false
def TS (gB gh : Nat) (W : World) (q : Nat) : Prop := q = gB ∨ q = gh
section
variable {w3 : World} {L : List DIns} {bs : List Bool} {gB gh : Nat} {pre : List Nat} {W W' : World}
theorem StI.grown {row : Option Nat} (h : StI w3 L bs gB gh pre W) (hg : W.grownBy W' row) (hr : ∀ r, row = some r → w3.heap.size ≤ r ∧ r ≠ gB ∧ r ≠ gh) : StI w3 L bs gB gh pre W' := by
  obtain ⟨st, nx, b1, b2, b3, b4, b5⟩ := h.st
  have hs := h.size
  refine ⟨hg.os.trans h.os, hg.tape.trans h.tape, hg.output.trans h.output, Nat.le_trans hs hg.size, fun q h1 h2 h3 => (hg.block q (by omega) (fun e => by have := (hr q e.symm).1; omega)).trans (h.block q h1 h2 h3), st, nx, ?_, ?_, b3, b4, b5⟩
  · exact b1.keep (hg.block gB b1.lt (fun e => (hr gB e.symm).2.1 rfl))
  · exact b2.keep (hg.block gh b2.lt (fun e => (hr gh e.symm).2.2 rfl))
theorem StI.bears : BearsT w3.heap.size (TS gB gh) (StI w3 L bs gB gh) := fun s W W' row h hg hr =>
  ⟨h.grown hg (fun r e => ⟨(hr r e).1, fun e2 => (hr r e).2 (.inl e2), fun e2 => (hr r e).2 (.inr e2)⟩), fun q hq => hq⟩
theorem notB_setB {st : List Bool} {i : Nat} {u : Bool} : notB (st.set i u) = (notB st).set i (!u) := by
  unfold notB
  rw [List.map_set]
theorem notB_getF {st : List Bool} {i : Nat} (h : i < st.length) : (notB st).getD i false = !st.getD i false := by
  rw [notB_at h, getD_at h]
/-- One more, by what comes of it. -/
theorem StI.next {st : List Bool} {nx : Nat} (h : StI w3 L bs gB gh pre W) (hbs : bs.length = L.length) (hpre : pre.length < L.length) {i : Nat} (hi : i = L.length - 1 - pre.length)
    (b3 : st.length = L.length) (b4 : Bw L (notB bs) (notB st) (L.length - pre.length) nx) (b5 : ∀ j, j < L.length - pre.length → st.getD j false = bs.getD j false)
    (hto : htB (insAt L i).op = true → (insAt L i).to_ ≤ L.length) {u : Bool} (hu : u = true ↔ (bs.getD i false = true ∧ ¬ (htB (insAt L i).op = true ∧ (i : Int) < (insAt L i).to_ ∧ (insAt L i).to_ ≤ nx)))
    (hW : W'.os = W.os ∧ W'.tape = W.tape ∧ W'.output = W.output ∧ W'.heap.size = W.heap.size ∧ ∀ q, q ≠ gB → q ≠ gh → W'.heap[q]? = W.heap[q]?)
    (hB : BR W' gB (st.set i u)) (hh : Box W' gh 3 [.int .i64 ((if u = true then i else nx : Nat) : Int)]) : StI w3 L bs gB gh (pre ++ [i]) W' := by
  obtain ⟨e1, e2, e3, e4, e5⟩ := hW
  have hil : i < L.length := by omega
  have hk : L.length - pre.length = i + 1 := by omega
  have hk2 : L.length - (pre ++ [i]).length = i := by rw [List.length_append]; simp; omega
  rw [hk] at b4 b5
  refine ⟨e1.trans h.os, e2.trans h.tape, e3.trans h.output, by rw [e4]; exact h.size, fun q h1 h2 h3 => (e5 q h2 h3).trans (h.block q h1 h2 h3), st.set i u, if u = true then i else nx, hB, hh, by simpa using b3, ?_, fun j hj => ?_⟩
  · have hs := b4.step hil hto (v := !u) (by
      rw [notB_getF (by omega)]
      cases u with
      | true =>
        have := hu.1 rfl
        constructor
        · intro h; cases h
        · rintro (h | h)
          · rw [this.1] at h; cases h
          · exact absurd h this.2
      | false =>
        constructor
        · intro _
          by_cases hb : bs.getD i false = true
          · refine .inr (Decidable.byContradiction (fun hn => ?_))
            have := hu.2 ⟨hb, hn⟩
            cases this
          · exact .inl (by simpa using hb)
        · intro _; rfl)
    rw [hk2, notB_setB]
    cases u with
    | true => simpa using hs
    | false => simpa using hs
  · rw [hk2] at hj
    rw [getD_set_ne (by omega)]
    exact b5 j (by omega)
end
end Go.Proofs.Ytilahbfcobhjeaa
