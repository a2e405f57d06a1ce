import Derived.Test.YtaimlmjgicmbeaaMet2
/-! Plain rules, as data and in memory. -/
namespace Go.Proofs.Ytaimlmjgicmbeaa
open Go.RowKit Go.Deep
set_option linter.unusedVariables false
set_option maxRecDepth 100000
set_option linter.unusedSimpArgs false

structure Tm where
  name : ByteArray
  lev : Int
  asc : Int
structure Pd where
  left : Int
  right : List Int
  label : ByteArray
  lev : Int
  asc : Int
structure Bn where
  terms : List Tm
  nons : List ByteArray
  own : Int
  prods : List Pd
/-- Terms behind a slice. -/
def Tms (w : World) (S : Nat → Prop) (l : List Tm) (v : Value) : Prop :=
  ∃ (a : Option Addr) (cap b off : Nat), v = .slice a l.length cap ∧ l.length ≤ cap ∧ cap ≤ maxLen ∧ (0 < l.length → a = some ⟨b, off, none⟩ ∧ S b) ∧ ∀ i (hi : i < l.length), w.cell? ⟨b, off + i * 3, none⟩ = some (.string l[i].name) ∧ w.cell? ⟨b, off + i * 3 + 1, none⟩ = some (.int .i64 l[i].lev) ∧ w.cell? ⟨b, off + i * 3 + 2, none⟩ = some (.int .i64 l[i].asc) ∧ l[i].name.size ≤ maxLen
theorem Tms.keep {w w' : World} {S : Nat → Prop} {l : List Tm} {v : Value} (h : Tms w S l v) (hb : ∀ b, S b → b < w.heap.size → w'.heap[b]? = w.heap[b]?) : Tms w' S l v := by
  obtain ⟨a, cap, b, off, hv, hc, hm, ha, hcell⟩ := h
  refine ⟨a, cap, b, off, hv, hc, hm, ha, fun i hi => ?_⟩
  obtain ⟨h0, h1, h2, h3⟩ := hcell i hi
  have hbk := hb b (ha (by omega)).2 (lt_of_cell h0)
  exact ⟨(World.cell?_of_block (w := w) hbk).trans h0, (World.cell?_of_block (w := w) hbk).trans h1, (World.cell?_of_block (w := w) hbk).trans h2, h3⟩
theorem Tms.still {w w' : World} {S : Nat → Prop} {l : List Tm} {v : Value} (h : Tms w S l v) (hb : Below w.heap.size w w') : Tms w' S l v := h.keep (fun b _ hlt => hb.block b hlt)
theorem Tms.mono {w : World} {S S' : Nat → Prop} {l : List Tm} {v : Value} (h : Tms w S l v) (hS : ∀ b, S b → S' b) : Tms w S' l v := by
  obtain ⟨a, cap, b, off, hv, hc, hm, ha, hcell⟩ := h
  exact ⟨a, cap, b, off, hv, hc, hm, fun h0 => ⟨(ha h0).1, hS _ (ha h0).2⟩, hcell⟩
theorem Tms.form {w : World} {S : Nat → Prop} {l : List Tm} {v : Value} (h : Tms w S l v) : ∃ a cap, v = .slice a l.length cap ∧ l.length ≤ maxLen := by
  obtain ⟨a, cap, b, off, hv, hc, hm, _⟩ := h
  exact ⟨_, _, hv, by omega⟩
/-- Prods behind a slice. -/
def Pds (w : World) (S : Nat → Prop) (l : List Pd) (v : Value) : Prop :=
  ∃ (a : Option Addr) (cap b off : Nat) (sv : Nat → Value), v = .slice a l.length cap ∧ l.length ≤ cap ∧ cap ≤ maxLen ∧ (0 < l.length → a = some ⟨b, off, none⟩ ∧ S b) ∧
    (∀ i (hi : i < l.length), w.cell? ⟨b, off + i * 5, none⟩ = some (.int .i64 l[i].left) ∧ w.cell? ⟨b, off + i * 5 + 1, none⟩ = some (sv i) ∧ w.cell? ⟨b, off + i * 5 + 2, none⟩ = some (.string l[i].label) ∧ w.cell? ⟨b, off + i * 5 + 3, none⟩ = some (.int .i64 l[i].lev) ∧ w.cell? ⟨b, off + i * 5 + 4, none⟩ = some (.int .i64 l[i].asc) ∧ l[i].label.size ≤ maxLen) ∧
    ∀ i (hi : i < l.length), Ints w S l[i].right (sv i)
theorem Pds.keep {w w' : World} {S : Nat → Prop} {l : List Pd} {v : Value} (h : Pds w S l v) (hb : ∀ b, S b → b < w.heap.size → w'.heap[b]? = w.heap[b]?) : Pds w' S l v := by
  obtain ⟨a, cap, b, off, sv, hv, hc, hm, ha, hcell, hr⟩ := h
  refine ⟨a, cap, b, off, sv, hv, hc, hm, ha, fun i hi => ?_, fun i hi => (hr i hi).keep hb⟩
  obtain ⟨h0, h1, h2, h3, h4, h5⟩ := hcell i hi
  have hbk := hb b (ha (by omega)).2 (lt_of_cell h0)
  exact ⟨(World.cell?_of_block (w := w) hbk).trans h0, (World.cell?_of_block (w := w) hbk).trans h1, (World.cell?_of_block (w := w) hbk).trans h2, (World.cell?_of_block (w := w) hbk).trans h3, (World.cell?_of_block (w := w) hbk).trans h4, h5⟩
theorem Pds.still {w w' : World} {S : Nat → Prop} {l : List Pd} {v : Value} (h : Pds w S l v) (hb : Below w.heap.size w w') : Pds w' S l v := h.keep (fun b _ hlt => hb.block b hlt)
theorem Pds.mono {w : World} {S S' : Nat → Prop} {l : List Pd} {v : Value} (h : Pds w S l v) (hS : ∀ b, S b → S' b) : Pds w S' l v := by
  obtain ⟨a, cap, b, off, sv, hv, hc, hm, ha, hcell, hr⟩ := h
  exact ⟨a, cap, b, off, sv, hv, hc, hm, fun h0 => ⟨(ha h0).1, hS _ (ha h0).2⟩, hcell, fun i hi => (hr i hi).mono hS⟩
theorem Pds.form {w : World} {S : Nat → Prop} {l : List Pd} {v : Value} (h : Pds w S l v) : ∃ a cap, v = .slice a l.length cap ∧ l.length ≤ maxLen := by
  obtain ⟨a, cap, b, off, sv, hv, hc, hm, _⟩ := h
  exact ⟨_, _, hv, by omega⟩
/-- Plain rules in memory: their three slices. -/
structure BLies (w : World) (S : Nat → Prop) (d : Bn) (v0 v1 v3 : Value) : Prop where
  terms : Tms w S d.terms v0
  nons : Strs w S d.nons v1
  prods : Pds w S d.prods v3
theorem BLies.still {w w' : World} {S : Nat → Prop} {d : Bn} {v0 v1 v3 : Value} (h : BLies w S d v0 v1 v3) (hb : Below w.heap.size w w') : BLies w' S d v0 v1 v3 := ⟨h.terms.still hb, h.nons.still hb, h.prods.still hb⟩
theorem BLies.form {w : World} {S : Nat → Prop} {d : Bn} {v0 v1 v3 : Value} (h : BLies w S d v0 v1 v3) : ∃ a0 c0 a1 c1 a3 c3, v0 = .slice a0 d.terms.length c0 ∧ v1 = .slice a1 d.nons.length c1 ∧ v3 = .slice a3 d.prods.length c3 := by
  obtain ⟨a0, c0, e0, _⟩ := h.terms.form
  obtain ⟨a1, c1, e1, _⟩ := h.nons.form
  obtain ⟨a3, c3, e3, _⟩ := h.prods.form
  exact ⟨_, _, _, _, _, _, e0, e1, e3⟩
/-- All its rows are short enough to be made. -/
structure Bn.Small (d : Bn) : Prop where
  terms : d.terms.length ≤ 1048576
  nons : d.nons.length ≤ 1048576
  prods : d.prods.length ≤ 1048576
  right : ∀ i (hi : i < d.prods.length), d.prods[i].right.length ≤ 1048576

/-- How much is left. -/
def Left (n : Nat) (P : Prop) (e : Ending) : Prop := e = .returned (.int .i64 (-1)) ∨ ∃ m : Nat, e = .returned (.int .i64 m) ∧ m ≤ n ∧ P
theorem szInts_any {S : Nat → Prop} (l : List Int) (v : Value) (w : World) (n : Nat) (h : Ints w S l v) (hn : n ≤ 1048576) :
    Calls Try.prog 56 #[v, .int .i64 n] w fun e w' => Left n (l.length ≤ 1048576) e ∧ Below w.heap.size w w' := by
  obtain ⟨a, cap, rfl, hm⟩ := h.form
  unfold maxLen at hm
  clear h
  generalize l.length = len at *
  by_cases hlt : (n : Int) - len < 0
  · go_enter Try.func56, Try.ntmps56
    go_wp2_with fail
    go_ret
    exact ⟨.inl rfl, Below.refl _ _⟩
  · go_enter Try.func56, Try.ntmps56
    go_wp2_with fail
    go_ret
    exact ⟨.inr ⟨n - len, by rw [show ((n - len : Nat) : Int) = (n : Int) - len by omega]; rfl, by omega, by omega⟩, Below.refl _ _⟩
set_option maxHeartbeats 400000 in
theorem szTerm_any (t : Tm) (w : World) (n : Nat) (hs : t.name.size ≤ maxLen) (hn : n ≤ 1048576) :
    Calls Try.prog 40 #[.agg #[.string t.name, .int .i64 t.lev, .int .i64 t.asc], .int .i64 n] w fun e w' => Left n True e ∧ Below w.heap.size w w' := by
  unfold maxLen at hs
  by_cases hlt : (n : Int) - t.name.size < 0
  · go_enter Try.func40, Try.ntmps40
    go_wp2_with fail
    go_ret
    exact ⟨.inl rfl, bel_alloc _ _⟩
  · go_enter Try.func40, Try.ntmps40
    go_wp2_with fail
    go_ret
    exact ⟨.inr ⟨n - t.name.size, by rw [show ((n - t.name.size : Nat) : Int) = (n : Int) - t.name.size by omega]; rfl, by omega, trivial⟩, bel_alloc _ _⟩
set_option maxHeartbeats 400000 in
theorem szTerms_any {S : Nat → Prop} (l : List Tm) (v : Value) (w : World) (n : Nat) (h : Tms w S l v) (hn : n ≤ 1048576) :
    Calls Try.prog 17 #[v, .int .i64 n] w fun e w' => Left n (l.length ≤ 1048576) e ∧ Below w.heap.size w w' := by
  obtain ⟨a, cap, b, off, rfl, hc, hm, ha, hcell⟩ := h
  have HC := (show Hid _ from hcell); clear hcell
  have HA := (show Hid _ from ha); clear ha
  unfold maxLen at hm
  by_cases hlt : (n : Int) - l.length < 0
  · go_enter Try.func17, Try.ntmps17
    go_wp2_with fail
    go_ret
    exact ⟨.inl rfl, Below.refl _ _⟩
  · go_enter Try.func17, Try.ntmps17
    go_wp2_with fail
    go_loopw [1, 5] (fun u i wr => ∃ (j m : Nat), j ≤ l.length ∧ i = .int .i64 j ∧ u = .int .i64 m ∧ m ≤ n ∧ Below w.heap.size w wr) (fun _ i _ => l.length - (intOf i).toNat)
    case atStart => exact ⟨0, n - l.length, Nat.zero_le _, rfl, by go_num, by omega, Below.refl _ _⟩
    case round =>
      obtain ⟨j, m, hj, rfl, rfl, hmn, hbel⟩ := hrel
      by_cases hjl : j < l.length
      · obtain ⟨rfl, _⟩ := HA.out (by omega)
        obtain ⟨c0, c1, c2, hs⟩ := HC.out j (by omega)
        rw [← hbel.cell (lt_of_cell c0)] at c0
        rw [← hbel.cell (lt_of_cell c1)] at c1
        rw [← hbel.cell (lt_of_cell c2)] at c2
        have HCL := (show Hid _ from szTerm_any l[j] wr m hs (by omega))
        go_wp2_with fail
        refine Calls.mono HCL.out ?_
        rintro e w1 ⟨rfl | ⟨m1, rfl, hm1, _⟩, hb1⟩
        · have hbw := bel_trans hbel hb1
          go_wp2_with fail
          go_ret
          exact ⟨.inl rfl, hbw⟩
        · have hbw := bel_trans hbel hb1
          clear c0 c1 c2
          go_wp2_with fail
          exact ⟨⟨j + 1, m1, by omega, by go_num, rfl, by omega, hbw⟩, by simp [intOf]; omega⟩
      · obtain rfl : j = l.length := by omega
        go_wp2_with fail
        go_ret
        exact ⟨.inr ⟨m, rfl, hmn, by omega⟩, hbel⟩
end Go.Proofs.Ytaimlmjgicmbeaa
