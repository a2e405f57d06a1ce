import Derived.Test.YtledclkmeikgdaaSk
/-! The specification: ScopesOf. -/
namespace Go.Proofs.Ytledclkmeikgdaa
open Go.RowKit Go.Deep Go.Lib
open Go.Proofs.Ytledclkmeikgdaa.T (Tr)
set_option linter.unusedVariables false
set_option maxRecDepth 100000
set_option linter.unusedSimpArgs false

/-- What is answered, as it is owned. -/
structure Ow (w : World) (A : Nat) (s : Sw) (c : CV) : Prop where
  e : w.ownsRow A 74 3 c.v1 s.es.length (edL s.es)
  d : w.ownsRow A 33 2 c.v2 s.ds.length (spL s.ds)
  r : w.ownsRow A 33 2 c.v3 s.rs.length (spL s.rs)
  dp : RRv w A s.dp c.v4 c.D
  rp : RRv w A s.rp c.v5 c.R
  dr : ∀ b, c.v2.ownBlock = some b → c.v3.ownBlock ≠ some b
  pp : ∀ b, c.v4.ownBlock = some b → c.v5.ownBlock ≠ some b
  px : ∀ i j, i < s.dp.length → j < s.rp.length → ∀ b, (c.D i).ownBlock = some b → (c.R j).ownBlock ≠ some b
theorem Co.ow {w : World} {A q ty : Nat} {s : Sw} {c : CV} (h : Co w A q ty s c) : Ow w A s c := ⟨h.e, h.d, h.r, h.dp, h.rp, h.dr, h.pp, h.px⟩
theorem Ow.still {w w' : World} {A : Nat} {s : Sw} {c : CV} (h : Ow w A s c) (hb : Below w.heap.size w w') : Ow w' A s c :=
  ⟨own_keep1 h.e (fun b e => hb.block b (World.ownsRow.lt h.e b e).2), own_keep1 h.d (fun b e => hb.block b (World.ownsRow.lt h.d b e).2), own_keep1 h.r (fun b e => hb.block b (World.ownsRow.lt h.r b e).2), h.dp.still hb, h.rp.still hb, h.dr, h.pp, h.px⟩
/-- As it is kept: a step away from its blocks. -/
theorem Ow.keep {w w' : World} {A : Nat} {s : Sw} {c : CV} (h : Ow w A s c) (hb : ∀ b, A ≤ b → b < w.heap.size → w'.heap[b]? = w.heap[b]?) : Ow w' A s c :=
  ⟨own_keep1 h.e (fun b e => hb b (World.ownsRow.lt h.e b e).1 (World.ownsRow.lt h.e b e).2), own_keep1 h.d (fun b e => hb b (World.ownsRow.lt h.d b e).1 (World.ownsRow.lt h.d b e).2), own_keep1 h.r (fun b e => hb b (World.ownsRow.lt h.r b e).1 (World.ownsRow.lt h.r b e).2),
    h.dp.keep (fun b e => hb b (World.ownsRow.lt h.dp.out b e).1 (World.ownsRow.lt h.dp.out b e).2) (fun i hi b e => hb b (World.ownsRow.lt (h.dp.row i hi) b e).1 (World.ownsRow.lt (h.dp.row i hi) b e).2), h.rp.keep (fun b e => hb b (World.ownsRow.lt h.rp.out b e).1 (World.ownsRow.lt h.rp.out b e).2) (fun i hi b e => hb b (World.ownsRow.lt (h.rp.row i hi) b e).1 (World.ownsRow.lt (h.rp.row i hi) b e).2), h.dr, h.pp, h.px⟩
def sgW (s : Sw) : DSg := ⟨s.n, s.es, s.ds, s.rs⟩
theorem edL_len (l : List DSEdge) : (edL l).length = l.length * 3 := by induction l with
  | nil => rfl
  | cons x l ih => simp [edL] at ih ⊢; omega
theorem spL_len (l : List DSpot) : (spL l).length = l.length * 2 := by induction l with
  | nil => rfl
  | cons x l ih => simp [spL] at ih ⊢; omega
theorem edL_at (l : List DSEdge) : ∀ (i : Nat) (hi : i < l.length), (edL l)[i * 3]? = some (.int .i64 l[i].from_) ∧ (edL l)[i * 3 + 1]? = some (.int .i64 l[i].to_) ∧ (edL l)[i * 3 + 2]? = some (.int .i64 l[i].kind) := by
  induction l with
  | nil => intro i hi; exact absurd hi (Nat.not_lt_zero _)
  | cons x l ih =>
    intro i hi
    have e : edL (x :: l) = [.int .i64 x.from_, .int .i64 x.to_, .int .i64 x.kind] ++ edL l := rfl
    cases i with
    | zero => exact ⟨rfl, rfl, rfl⟩
    | succ i =>
      have := ih i (by simpa using hi)
      rw [e, List.getElem?_append_right (by simp; omega), List.getElem?_append_right (by simp; omega), List.getElem?_append_right (by simp; omega)]
      simp only [List.length_cons, List.length_nil]
      rw [show (i + 1) * 3 - (0 + 1 + 1 + 1) = i * 3 by omega, show (i + 1) * 3 + 1 - (0 + 1 + 1 + 1) = i * 3 + 1 by omega, show (i + 1) * 3 + 2 - (0 + 1 + 1 + 1) = i * 3 + 2 by omega]
      exact this
theorem spL_at (l : List DSpot) : ∀ (i : Nat) (hi : i < l.length), (spL l)[i * 2]? = some (.int .i64 l[i].scope) ∧ (spL l)[i * 2 + 1]? = some (.string l[i].name) := by
  induction l with
  | nil => intro i hi; exact absurd hi (Nat.not_lt_zero _)
  | cons x l ih =>
    intro i hi
    have e : spL (x :: l) = [.int .i64 x.scope, .string x.name] ++ spL l := rfl
    cases i with
    | zero => exact ⟨rfl, rfl⟩
    | succ i =>
      have := ih i (by simpa using hi)
      rw [e, List.getElem?_append_right (by simp; omega), List.getElem?_append_right (by simp; omega)]
      simp only [List.length_cons, List.length_nil]
      rw [show (i + 1) * 2 - (0 + 1 + 1) = i * 2 by omega, show (i + 1) * 2 + 1 - (0 + 1 + 1) = i * 2 + 1 by omega]
      exact this
theorem own_cells {w : World} {B e z n : Nat} {v : Value} {xs : List Value} (h : w.ownsRow B e z v n xs) : ∃ (a : Option Addr) (cap b : Nat), v = .slice a n cap ∧ n ≤ cap ∧ cap ≤ maxLen ∧ (0 < n → a = some ⟨b, 0, none⟩ ∧ B ≤ b) ∧ ∀ j u, xs[j]? = some u → 0 < n → w.cell? ⟨b, j, none⟩ = some u := by
  rcases h.2 with ⟨rfl, rfl⟩ | ⟨g, cap, cur, rfl, r1, r2, r3, r4, r5⟩
  · exact ⟨none, 0, 0, rfl, Nat.le_refl _, Nat.zero_le _, fun h => absurd h (Nat.lt_irrefl _), fun j u _ h => absurd h (Nat.lt_irrefl _)⟩
  · refine ⟨_, cap, g, rfl, r3, r4, fun _ => ⟨rfl, r1⟩, fun j u hu _ => ?_⟩
    have h1 := World.ownsRow.cells h (g := g) rfl j u hu
    have e : (⟨g, 0, none⟩ : Addr).add j = ⟨g, j, none⟩ := by cases j <;> simp [Addr.add]
    rw [e] at h1
    exact h1
theorem nm_size {x : ByteArray} (h : T.nmB x = true) : x.size ≤ maxLen := by
  have := (T.nmB_iff.1 h)
  obtain ⟨_, h1, _⟩ := this
  unfold maxLen
  omega
/-- Scopes that are answered may be read. -/
theorem Ow.sg {w : World} {A : Nat} {s : Sw} {c : CV} (h : Ow w A s c) (hn : s.Nm) : DSgL w (fun b => A ≤ b) (sgW s) c.v1 c.v2 c.v3 := by
  refine ⟨?_, ?_, ?_⟩
  · obtain ⟨a, cap, b, hv, h1, h2, h3, h4⟩ := own_cells h.e
    refine ⟨a, cap, b, 0, hv, h1, h2, h3, fun i hi => ?_⟩
    obtain ⟨q0, q1, q2⟩ := edL_at s.es i hi
    simp only [Nat.zero_add]
    exact ⟨h4 _ _ q0 (Nat.lt_of_le_of_lt (Nat.zero_le _) hi), h4 _ _ q1 (Nat.lt_of_le_of_lt (Nat.zero_le _) hi), h4 _ _ q2 (Nat.lt_of_le_of_lt (Nat.zero_le _) hi)⟩
  · obtain ⟨a, cap, b, hv, h1, h2, h3, h4⟩ := own_cells h.d
    refine ⟨a, cap, b, 0, hv, h1, h2, h3, fun i hi => ?_⟩
    obtain ⟨q0, q1⟩ := spL_at s.ds i hi
    simp only [Nat.zero_add]
    exact ⟨h4 _ _ q0 (Nat.lt_of_le_of_lt (Nat.zero_le _) hi), h4 _ _ q1 (Nat.lt_of_le_of_lt (Nat.zero_le _) hi), nm_size (hn.1 _ (List.getElem_mem hi))⟩
  · obtain ⟨a, cap, b, hv, h1, h2, h3, h4⟩ := own_cells h.r
    refine ⟨a, cap, b, 0, hv, h1, h2, h3, fun i hi => ?_⟩
    obtain ⟨q0, q1⟩ := spL_at s.rs i hi
    simp only [Nat.zero_add]
    exact ⟨h4 _ _ q0 (Nat.lt_of_le_of_lt (Nat.zero_le _) hi), h4 _ _ q1 (Nat.lt_of_le_of_lt (Nat.zero_le _) hi), nm_size (hn.2 _ (List.getElem_mem hi))⟩
def sw0 (n : Nat) : Sw := ⟨n, [], [], [], [], []⟩
/-- What ScopesOf answers. -/
def scR (t : Tr) : Sw × Int := if (t.ok && T.tm t) = false then (sw0 0, 1) else if sgB (sgW (sw t 0 [] (sw0 1))) = false then (sw0 0, 3) else (sw t 0 [] (sw0 1), 0)
theorem nm_sw0 (n : Nat) : (sw0 n).Nm := ⟨fun y hy => absurd hy (by simp [sw0]), fun y hy => absurd hy (by simp [sw0])⟩
theorem scR_nm (t : Tr) : (scR t).1.Nm := by
  unfold scR
  split
  · exact nm_sw0 _
  · rename_i h
    split
    · exact nm_sw0 _
    · have : T.tm t = true := by
        have h : (t.ok && T.tm t) = true := by simpa using h
        rw [Bool.and_eq_true] at h
        exact h.2
      exact sw_nm t 0 [] (sw0 1) this (nm_sw0 _)
/-- .. and leaves. -/
def ScA (R : Sw × Int) (w : World) (e : Ending) (w' : World) : Prop :=
  ∃ (A : Nat) (c : CV), e = .returned (.tuple #[.agg #[.int .i64 (R.1.n : Nat), c.v1, c.v2, c.v3], c.v4, c.v5, .int .i64 R.2]) ∧ w.heap.size ≤ A ∧ Below w.heap.size w w' ∧ Ow w' A R.1 c
def nilC : CV := ⟨.slice none 0 0, .slice none 0 0, .slice none 0 0, .slice none 0 0, .slice none 0 0, fun _ => .slice none 0 0, fun _ => .slice none 0 0⟩
theorem Ow.nil (w : World) (A n : Nat) (v4 v5 : Value) (h4 : w.ownsRow A 34 1 v4 0 []) (h5 : w.ownsRow A 34 1 v5 0 []) (h : ∀ b, v4.ownBlock = some b → v5.ownBlock ≠ some b) : Ow w A (sw0 n) { nilC with v4 := v4, v5 := v5 } :=
  ⟨own_nil _ _ _ _, own_nil _ _ _ _, own_nil _ _ _ _, ⟨h4, fun i hi => absurd hi (Nat.not_lt_zero _), fun i hi => absurd hi (Nat.not_lt_zero _), fun i j _ hj => absurd hj (Nat.not_lt_zero _)⟩, ⟨h5, fun i hi => absurd hi (Nat.not_lt_zero _), fun i hi => absurd hi (Nat.not_lt_zero _), fun i j _ hj => absurd hj (Nat.not_lt_zero _)⟩, (fun b e => by cases e), h, fun i j hi => absurd hi (Nat.not_lt_zero _)⟩
theorem Co.start (w : World) (ty : Nat) (hty : ty ≠ 74 ∧ ty ≠ 33 ∧ ty ≠ 34 ∧ ty ≠ 3) : Co (w.alloc (.cells #[.int .i64 1, .slice none 0 0, .slice none 0 0, .slice none 0 0, .slice none 0 0, .slice none 0 0] ty)) w.heap.size w.heap.size ty (sw0 1) nilC :=
  ⟨Box.new w ty [.int .i64 1, .slice none 0 0, .slice none 0 0, .slice none 0 0, .slice none 0 0, .slice none 0 0], own_nil _ _ _ _, own_nil _ _ _ _, own_nil _ _ _ _, RRv.nil _ _, RRv.nil _ _, (fun b e => by cases e), (fun b e => by cases e), fun i j hi => absurd hi (Nat.not_lt_zero _), Nat.le_refl _, hty⟩
end Go.Proofs.Ytledclkmeikgdaa
