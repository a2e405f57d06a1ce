import Derived.Test.YtflhfimgeladaaaSz
/-! Tables, as data and in memory; how much they hold. -/
namespace Go.Proofs.Ytflhfimgeladaaa
open Go.RowKit Go.Deep
set_option linter.unusedVariables false
set_option maxRecDepth 100000
set_option linter.unusedSimpArgs false

/-- Acts behind a slice. -/
def Acs (w : World) (S : Nat → Prop) (l : List (Int × Int)) (v : Value) : Prop :=
  ∃ (a : Option Addr) (cap b off : Nat), v = .slice a l.length cap ∧ l.length ≤ cap ∧ cap ≤ maxLen ∧ (0 < l.length → a = some ⟨b, off, none⟩ ∧ S b) ∧ ∀ i (hi : i < l.length), w.cell? ⟨b, off + i * 2, none⟩ = some (.int .i64 l[i].1) ∧ w.cell? ⟨b, off + i * 2 + 1, none⟩ = some (.int .i64 l[i].2)
theorem Acs.keep {w w' : World} {S : Nat → Prop} {l : List (Int × Int)} {v : Value} (h : Acs w S l v) (hb : ∀ b, S b → b < w.heap.size → w'.heap[b]? = w.heap[b]?) : Acs w' S l v := by
  obtain ⟨a, cap, b, off, hv, hc, hm, ha, hcell⟩ := h
  refine ⟨a, cap, b, off, hv, hc, hm, ha, fun i hi => ?_⟩
  obtain ⟨h0, h1⟩ := hcell i hi
  have hbk := hb b (ha (by omega)).2 (lt_of_cell h0)
  exact ⟨(World.cell?_of_block (w := w) hbk).trans h0, (World.cell?_of_block (w := w) hbk).trans h1⟩
theorem Acs.still {w w' : World} {S : Nat → Prop} {l : List (Int × Int)} {v : Value} (h : Acs w S l v) (hb : Below w.heap.size w w') : Acs w' S l v := h.keep (fun b _ hlt => hb.block b hlt)
theorem Acs.mono {w : World} {S S' : Nat → Prop} {l : List (Int × Int)} {v : Value} (h : Acs w S l v) (hS : ∀ b, S b → S' b) : Acs w S' l v := by
  obtain ⟨a, cap, b, off, hv, hc, hm, ha, hcell⟩ := h
  exact ⟨a, cap, b, off, hv, hc, hm, fun h0 => ⟨(ha h0).1, hS _ (ha h0).2⟩, hcell⟩
theorem Acs.form {w : World} {S : Nat → Prop} {l : List (Int × Int)} {v : Value} (h : Acs w S l v) : ∃ a cap, v = .slice a l.length cap ∧ l.length ≤ maxLen := by
  obtain ⟨a, cap, b, off, hv, hc, hm, _⟩ := h
  exact ⟨_, _, hv, by omega⟩
/-- Rows of Acts that lie behind a slice, all in blocks of S. -/
def ARows (w : World) (S : Nat → Prop) (ls : List (List (Int × Int))) (v : Value) : Prop :=
  ∃ (a : Option Addr) (cap b off : Nat) (sv : Nat → Value), v = .slice a ls.length cap ∧ ls.length ≤ cap ∧ cap ≤ maxLen ∧ (0 < ls.length → a = some ⟨b, off, none⟩ ∧ S b) ∧
    (∀ i (hi : i < ls.length), w.cell? ⟨b, off + i, none⟩ = some (sv i)) ∧ ∀ i (hi : i < ls.length), Acs w S ls[i] (sv i)
theorem ARows.still {w w' : World} {S : Nat → Prop} {l : List (List (Int × Int))} {v : Value} (h : ARows w S l v) (hb : Below w.heap.size w w') : ARows w' S l v := by
  obtain ⟨a, cap, b, off, sv, hv, hc, hm, ha, hcell, hr⟩ := h
  exact ⟨a, cap, b, off, sv, hv, hc, hm, ha, fun i hi => (hb.cell (lt_of_cell (hcell i hi))).trans (hcell i hi), fun i hi => (hr i hi).still hb⟩
theorem ARows.form {w : World} {S : Nat → Prop} {l : List (List (Int × Int))} {v : Value} (h : ARows w S l v) : ∃ a cap, v = .slice a l.length cap ∧ l.length ≤ maxLen := by
  obtain ⟨a, cap, b, off, sv, hv, hc, hm, _⟩ := h
  exact ⟨_, _, hv, by omega⟩

theorem ARows.keep {w w' : World} {S : Nat → Prop} {l : List (List (Int × Int))} {v : Value} (h : ARows w S l v) (hb : ∀ b, S b → b < w.heap.size → w'.heap[b]? = w.heap[b]?) : ARows w' S l v := by
  obtain ⟨a, cap, b, off, sv, hv, hc, hm, ha, hcell, hr⟩ := h
  exact ⟨a, cap, b, off, sv, hv, hc, hm, ha, fun i hi => (World.cell?_of_block (w := w) (hb b (ha (by omega)).2 (lt_of_cell (hcell i hi)))).trans (hcell i hi), fun i hi => (hr i hi).keep hb⟩
theorem ARows.mono {w : World} {S S' : Nat → Prop} {l : List (List (Int × Int))} {v : Value} (h : ARows w S l v) (hS : ∀ b, S b → S' b) : ARows w S' l v := by
  obtain ⟨a, cap, b, off, sv, hv, hc, hm, ha, hcell, hr⟩ := h
  exact ⟨a, cap, b, off, sv, hv, hc, hm, fun h0 => ⟨(ha h0).1, hS _ (ha h0).2⟩, hcell, fun i hi => (hr i hi).mono hS⟩
/-- A box of two cells that may be written. -/
def Box2 (w : World) (g T : Nat) (c0 c1 : Value) : Prop := ∃ f, w.rowIs g T 2 f ∧ f 0 = c0 ∧ f 1 = c1
theorem box2_alloc (w : World) (T : Nat) (c0 c1 : Value) : Box2 (w.alloc (.cells #[c0, c1] T)) w.heap.size T c0 c1 :=
  ⟨fun i => #[c0, c1].getD i c0, ⟨#[c0, c1], blk_alloc_new _ _, rfl, fun i hi => by
    match i, hi with
    | 0, _ => rfl
    | 1, _ => rfl⟩, rfl, rfl⟩
theorem Box2.lt {w : World} {g T : Nat} {c0 c1 : Value} (h : Box2 w g T c0 c1) : g < w.heap.size := by
  obtain ⟨f, h, _⟩ := h
  exact World.rowIs.lt h
theorem Box2.keep {w w' : World} {g T : Nat} {c0 c1 : Value} (h : Box2 w g T c0 c1) (hb : w'.heap[g]? = w.heap[g]?) : Box2 w' g T c0 c1 := by
  obtain ⟨f, h, e⟩ := h
  exact ⟨f, World.rowIs.of_block h hb, e⟩
theorem Box2.still {w w' : World} {g T : Nat} {c0 c1 : Value} (h : Box2 w g T c0 c1) (hb : Below w.heap.size w w') : Box2 w' g T c0 c1 := h.keep (hb.block g h.lt)
/-- What its two cells hold. -/
def Two (w : World) (g : Nat) (c0 c1 : Value) : Prop := w.cell? ⟨g, 0, none⟩ = some c0 ∧ w.cell? ⟨g, 1, none⟩ = some c1
theorem Box2.cells {w : World} {g T : Nat} {c0 c1 : Value} (h : Box2 w g T c0 c1) : Two w g c0 c1 ∧ w.frozen? ⟨g, 0, none⟩ = false ∧ w.frozen? ⟨g, 1, none⟩ = false := by
  obtain ⟨f, h, rfl, rfl⟩ := h
  exact ⟨⟨h.cell (by omega), h.cell (by omega)⟩, h.frozen 0, h.frozen 1⟩
theorem Box2.set0 {w : World} {g T : Nat} {c0 c1 : Value} (h : Box2 w g T c0 c1) (u : Value) : Box2 (w.setCell ⟨g, 0, none⟩ u) g T u c1 := by
  obtain ⟨f, h, e0, e1⟩ := h
  exact ⟨_, h.set 0 u, if_pos rfl, by rw [if_neg (by omega)]; exact e1⟩
theorem Box2.set1 {w : World} {g T : Nat} {c0 c1 : Value} (h : Box2 w g T c0 c1) (u : Value) : Box2 (w.setCell ⟨g, 1, none⟩ u) g T c0 u := by
  obtain ⟨f, h, e0, e1⟩ := h
  exact ⟨_, h.set 1 u, by rw [if_neg (by omega)]; exact e0, if_pos rfl⟩
/-- A table, as data. -/
structure Tb where
  acts : List (List (Int × Int))
  gotos : List (List Int)
/-- .. in memory: its two slices. -/
structure TLies (w : World) (S : Nat → Prop) (t : Tb) (v0 v1 : Value) : Prop where
  acts : ARows w S t.acts v0
  gotos : IRows w S t.gotos v1
theorem TLies.still {w w' : World} {S : Nat → Prop} {t : Tb} {v0 v1 : Value} (h : TLies w S t v0 v1) (hb : Below w.heap.size w w') : TLies w' S t v0 v1 := ⟨h.acts.still hb, h.gotos.still hb⟩
theorem TLies.form {w : World} {S : Nat → Prop} {t : Tb} {v0 v1 : Value} (h : TLies w S t v0 v1) : ∃ a0 c0 a1 c1, v0 = .slice a0 t.acts.length c0 ∧ v1 = .slice a1 t.gotos.length c1 := by
  obtain ⟨a0, c0, e0, _⟩ := h.acts.form
  obtain ⟨a1, c1, e1, _⟩ := h.gotos.form
  exact ⟨_, _, _, _, e0, e1⟩
/-- All its rows are short enough to be made. -/
structure Tb.Small (t : Tb) : Prop where
  acts : t.acts.length ≤ 1048576
  act : ∀ i (hi : i < t.acts.length), t.acts[i].length ≤ 1048576
  gotos : t.gotos.length ≤ 1048576
  goto : ∀ i (hi : i < t.gotos.length), t.gotos[i].length ≤ 1048576

theorem szAcs_any {S : Nat → Prop} (l : List (Int × Int)) (v : Value) (w : World) (n : Nat) (h : Acs w S l v) (hn : n ≤ 1048576) :
    Calls Try.prog 74 #[v, .int .i64 n] w fun e w' => (e = .returned (.int .i64 (-1)) ∨ ∃ m : Nat, e = .returned (.int .i64 m) ∧ m ≤ n ∧ l.length ≤ 1048576) ∧ Below w.heap.size w w' := by
  obtain ⟨a, cap, rfl, hm⟩ := h.form
  unfold maxLen at hm
  clear h
  generalize l.length = len at *
  by_cases hlt : (n : Int) - len < 0
  · go_enter Try.func74, Try.ntmps74
    go_wp2_with fail
    go_ret
    exact ⟨.inl rfl, Below.refl _ _⟩
  · go_enter Try.func74, Try.ntmps74
    go_wp2_with fail
    go_ret
    exact ⟨.inr ⟨n - len, by rw [show ((n - len : Nat) : Int) = (n : Int) - len by omega]; rfl, by omega, by omega⟩, Below.refl _ _⟩

set_option maxHeartbeats 400000 in
theorem szARows_any {S : Nat → Prop} (ls : List (List (Int × Int))) (v : Value) (w : World) (n : Nat) (h : ARows w S ls v) (hn : n ≤ 1048576) :
    Calls Try.prog 28 #[v, .int .i64 n] w fun e w' => (e = .returned (.int .i64 (-1)) ∨ ∃ m : Nat, e = .returned (.int .i64 m) ∧ m ≤ n ∧ ls.length ≤ 1048576 ∧ ∀ i (hi : i < ls.length), ls[i].length ≤ 1048576) ∧ Below w.heap.size w w' := by
  obtain ⟨a, cap, b, off, sv, rfl, hc, hm, ha, hcell, hr⟩ := h
  have HC := (show Hid _ from hcell); clear hcell
  have HA := (show Hid _ from ha); clear ha
  have HR := (show Hid _ from hr); clear hr
  unfold maxLen at hm
  by_cases hlt : (n : Int) - ls.length < 0
  · go_enter Try.func28, Try.ntmps28
    go_wp2_with fail
    go_ret
    exact ⟨.inl rfl, Below.refl _ _⟩
  · go_enter Try.func28, Try.ntmps28
    go_wp2_with fail
    go_loopw [1, 5] (fun u i wr => ∃ (j m : Nat), j ≤ ls.length ∧ i = .int .i64 j ∧ u = .int .i64 m ∧ m ≤ n ∧ Below w.heap.size w wr ∧ Hid (∀ i (hi : i < ls.length), i < j → ls[i].length ≤ 1048576)) (fun _ i _ => ls.length - (intOf i).toNat)
    case atStart => exact ⟨0, n - ls.length, Nat.zero_le _, rfl, by go_num, by omega, Below.refl _ _, fun i hi h0 => absurd h0 (Nat.not_lt_zero _)⟩
    case round =>
      obtain ⟨j, m, hj, rfl, rfl, hmn, hbel, HX⟩ := hrel
      by_cases hjl : j < ls.length
      · obtain ⟨rfl, _⟩ := HA.out (by omega)
        have c0 := HC.out j (by omega)
        rw [← hbel.cell (lt_of_cell c0)] at c0
        have hcl := szAcs_any _ _ wr m ((HR.out j (by omega)).still hbel) (by omega)
        have HCL := (show Hid _ from hcl); clear hcl
        obtain ⟨a2, cap2, e2, _⟩ := (HR.out j (by omega)).form
        rw [e2] at c0 HCL
        clear e2
        go_wp2_with fail
        refine Calls.mono HCL.out ?_
        rintro e w1 ⟨rfl | ⟨m1, rfl, hm1, hl1⟩, hb1⟩
        · have hbw := bel_trans hbel hb1
          go_wp2_with fail
          go_ret
          exact ⟨.inl rfl, hbw⟩
        · have hbw := bel_trans hbel hb1
          have HN := (show Hid (∀ i (hi : i < ls.length), i < j + 1 → ls[i].length ≤ 1048576) from fun i hi hij => by
            by_cases e : i = j
            · subst e; exact hl1
            · exact HX.out i hi (by omega))
          clear hl1
          go_wp2_with fail
          exact ⟨⟨j + 1, m1, by omega, by go_num, rfl, by omega, hbw, HN⟩, by simp [intOf]; omega⟩
      · obtain rfl : j = ls.length := by omega
        go_wp2_with fail
        go_ret
        exact ⟨.inr ⟨m, rfl, hmn, by omega, fun i hi => HX.out i hi hi⟩, hbel⟩

set_option maxHeartbeats 400000 in
theorem szRows_any {S : Nat → Prop} (ls : List (List Int)) (v : Value) (w : World) (n : Nat) (h : IRows w S ls v) (hn : n ≤ 1048576) :
    Calls Try.prog 29 #[v, .int .i64 n] w fun e w' => (e = .returned (.int .i64 (-1)) ∨ ∃ m : Nat, e = .returned (.int .i64 m) ∧ m ≤ n ∧ ls.length ≤ 1048576 ∧ ∀ i (hi : i < ls.length), ls[i].length ≤ 1048576) ∧ Below w.heap.size w w' := by
  obtain ⟨a, cap, b, off, sv, rfl, hc, hm, ha, hcell, hr⟩ := h
  have HC := (show Hid _ from hcell); clear hcell
  have HA := (show Hid _ from ha); clear ha
  have HR := (show Hid _ from hr); clear hr
  unfold maxLen at hm
  by_cases hlt : (n : Int) - ls.length < 0
  · go_enter Try.func29, Try.ntmps29
    go_wp2_with fail
    go_ret
    exact ⟨.inl rfl, Below.refl _ _⟩
  · go_enter Try.func29, Try.ntmps29
    go_wp2_with fail
    go_loopw [1, 5] (fun u i wr => ∃ (j m : Nat), j ≤ ls.length ∧ i = .int .i64 j ∧ u = .int .i64 m ∧ m ≤ n ∧ Below w.heap.size w wr ∧ Hid (∀ i (hi : i < ls.length), i < j → ls[i].length ≤ 1048576)) (fun _ i _ => ls.length - (intOf i).toNat)
    case atStart => exact ⟨0, n - ls.length, Nat.zero_le _, rfl, by go_num, by omega, Below.refl _ _, fun i hi h0 => absurd h0 (Nat.not_lt_zero _)⟩
    case round =>
      obtain ⟨j, m, hj, rfl, rfl, hmn, hbel, HX⟩ := hrel
      by_cases hjl : j < ls.length
      · obtain ⟨rfl, _⟩ := HA.out (by omega)
        have c0 := HC.out j (by omega)
        rw [← hbel.cell (lt_of_cell c0)] at c0
        have hcl := szInts_any _ _ wr m ((HR.out j (by omega)).still hbel) (by omega)
        have HCL := (show Hid _ from hcl); clear hcl
        obtain ⟨a2, cap2, e2, _⟩ := (HR.out j (by omega)).form
        rw [e2] at c0 HCL
        clear e2
        go_wp2_with fail
        refine Calls.mono HCL.out ?_
        rintro e w1 ⟨rfl | ⟨m1, rfl, hm1, hl1⟩, hb1⟩
        · have hbw := bel_trans hbel hb1
          go_wp2_with fail
          go_ret
          exact ⟨.inl rfl, hbw⟩
        · have hbw := bel_trans hbel hb1
          have HN := (show Hid (∀ i (hi : i < ls.length), i < j + 1 → ls[i].length ≤ 1048576) from fun i hi hij => by
            by_cases e : i = j
            · subst e; exact hl1
            · exact HX.out i hi (by omega))
          clear hl1
          go_wp2_with fail
          exact ⟨⟨j + 1, m1, by omega, by go_num, rfl, by omega, hbw, HN⟩, by simp [intOf]; omega⟩
      · obtain rfl : j = ls.length := by omega
        go_wp2_with fail
        go_ret
        exact ⟨.inr ⟨m, rfl, hmn, by omega, fun i hi => HX.out i hi hi⟩, hbel⟩

end Go.Proofs.Ytflhfimgeladaaa
