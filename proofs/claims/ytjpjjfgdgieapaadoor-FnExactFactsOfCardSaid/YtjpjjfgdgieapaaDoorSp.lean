import Derived.Test.YtjpjjfgdgieapaaDoorSo
import Derived.Test.YtjpjjfgdgieapaaDoorPb
/-! Who leads to whom, in rows of truth values. -/
namespace Go.Proofs.YtjpjjfgdgieapaaDoor
open Go.RowKit Go.Deep
set_option linter.unusedVariables false
set_option maxRecDepth 100000
set_option linter.unusedSimpArgs false

/-- A square of truth values: its rows lie one behind the other. -/
structure MxF (w : World) (T n : Nat) (F : Nat → Nat → Bool) : Prop where
  head : w.rowIs T 28 n (fun i => .slice (some ⟨T + 1 + i, 0, none⟩) n n)
  rows : ∀ i, i < n → w.rowIs (T + 1 + i) 4 n (fun j => .bool (F i j))
theorem MxF.still {w w' : World} {T n : Nat} {F : Nat → Nat → Bool} (h : MxF w T n F) (hb : Below w.heap.size w w') : MxF w' T n F :=
  ⟨World.rowIs.of_block h.head (hb.block _ (World.rowIs.lt h.head)), fun i hi => World.rowIs.of_block (h.rows i hi) (hb.block _ (World.rowIs.lt (h.rows i hi)))⟩
theorem MxF.same {w : World} {T n : Nat} {F G : Nat → Nat → Bool} (h : MxF w T n F) (hFG : ∀ a b, a < n → b < n → F a b = G a b) : MxF w T n G :=
  ⟨h.head, fun i hi => by
    obtain ⟨c, h1, h2, h3⟩ := h.rows i hi
    exact ⟨c, h1, h2, fun j hj => by rw [h3 j hj]; simp [hFG i j hi hj]⟩⟩
theorem MxF.set {w : World} {T n : Nat} {F : Nat → Nat → Bool} (h : MxF w T n F) {i j : Nat} (hi : i < n) (hj : j < n) (u : Bool) : MxF (w.setCell ⟨T + 1 + i, j, none⟩ (.bool u)) T n (fun a b => if a = i ∧ b = j then u else F a b) := by
  refine ⟨World.rowIs.of_block h.head (blk_setCell_other _ _ _ _ (by show T ≠ T + 1 + i; omega)), fun a ha => ?_⟩
  by_cases e : a = i
  · subst e
    obtain ⟨c, h1, h2, h3⟩ := World.rowIs.set (h.rows a hi) j (.bool u)
    refine ⟨c, h1, h2, fun b hb => ?_⟩
    rw [h3 b hb]
    by_cases e2 : b = j
    · simp [e2]
    · simp [e2]
  · have := World.rowIs.of_block (h.rows a ha) (w' := w.setCell ⟨T + 1 + i, j, none⟩ (.bool u)) (blk_setCell_other _ _ _ _ (by show T + 1 + a ≠ T + 1 + i; omega))
    obtain ⟨c, h1, h2, h3⟩ := this
    exact ⟨c, h1, h2, fun b hb => by rw [h3 b hb]; simp [e]⟩
theorem MxF.hcell {w : World} {T n : Nat} {F : Nat → Nat → Bool} (h : MxF w T n F) {i : Nat} (hi : i < n) : w.cell? ⟨T, i, none⟩ = some (.slice (some ⟨T + 1 + i, 0, none⟩) n n) := World.rowIs.cell h.head hi
theorem MxF.cell {w : World} {T n : Nat} {F : Nat → Nat → Bool} (h : MxF w T n F) {i j : Nat} (hi : i < n) (hj : j < n) : w.cell? ⟨T + 1 + i, j, none⟩ = some (.bool (F i j)) := World.rowIs.cell (h.rows i hi) hj
theorem MxF.frozen {w : World} {T n : Nat} {F : Nat → Nat → Bool} (h : MxF w T n F) {i : Nat} (hi : i < n) (j : Nat) : w.frozen? ⟨T + 1 + i, j, none⟩ = false := World.rowIs.frozen (h.rows i hi) j
/-- The square, as far as j rows are made. -/
structure MxP (w : World) (T n j : Nat) : Prop where
  head : w.rowIs T 28 n (fun i => if i < j then .slice (some ⟨T + 1 + i, 0, none⟩) n n else .slice none 0 0)
  rows : ∀ i, i < j → w.rowIs (T + 1 + i) 4 n (fun _ => .bool false)
  size : w.heap.size = T + 1 + j
theorem MxP.done {w : World} {T n : Nat} (h : MxP w T n n) : MxF w T n (fun _ _ => false) :=
  ⟨by
    obtain ⟨c, h1, h2, h3⟩ := h.head
    exact ⟨c, h1, h2, fun i hi => by rw [h3 i hi]; simp [hi]⟩, h.rows⟩
theorem bools_made (w : World) (n : Nat) : (w.alloc (.cells (madeCells #[.bool false] n) 4)).rowIs w.heap.size 4 n (fun _ => .bool false) := by
  refine ⟨_, blk_alloc_new _ _, by rw [size_madeCells], fun i hi => ?_⟩
  have h1 : i % 1 = 0 := Nat.mod_one i
  simp [madeCells, hi, h1]
theorem slices_made (w : World) (n : Nat) : (w.alloc (.cells (madeCells #[.slice none 0 0] n) 28)).rowIs w.heap.size 28 n (fun _ => .slice none 0 0) := by
  refine ⟨_, blk_alloc_new _ _, by rw [size_madeCells], fun i hi => ?_⟩
  have h1 : i % 1 = 0 := Nat.mod_one i
  simp [madeCells, hi, h1]
theorem MxP.next {w : World} {T n j : Nat} (h : MxP w T n j) (hj : j < n) : MxP ((w.alloc (.cells (madeCells #[.bool false] n) 4)).setCell ⟨T, j, none⟩ (.slice (some ⟨T + 1 + j, 0, none⟩) n n)) T n (j + 1) := by
  have hT : T < w.heap.size := World.rowIs.lt h.head
  refine ⟨?_, fun i hi => ?_, by simp [World.setCell, h.size]; omega⟩
  · have h0 := World.rowIs.of_block h.head (w' := w.alloc (.cells (madeCells #[.bool false] n) 4)) (blk_alloc_lt _ _ _ hT)
    obtain ⟨c, h1, h2, h3⟩ := World.rowIs.set h0 j (.slice (some ⟨T + 1 + j, 0, none⟩) n n)
    refine ⟨c, h1, h2, fun i hi => ?_⟩
    rw [h3 i hi]
    by_cases e : i = j
    · subst e; simp
    · by_cases e2 : i < j
      · simp [e, e2, Nat.lt_succ_of_lt e2]
      · simp [e, e2, show ¬ i < j + 1 by omega]
  · refine World.rowIs.of_block (w := w.alloc (.cells (madeCells #[.bool false] n) 4)) ?_ (blk_setCell_other _ _ _ _ (by show T + 1 + i ≠ T; omega))
    by_cases e : i = j
    · subst e
      have := bools_made w n
      rw [h.size] at this
      exact this
    · have h1 := h.rows i (by omega)
      exact World.rowIs.of_block h1 (blk_alloc_lt _ _ _ (World.rowIs.lt h1))
theorem info28 : (Tryd.prog.info? 28).map (fun i => (i.zero, i.size, i.bytes)) = some (some (.slice none 0 0), 1, 24) := by kernel_rfl
theorem run_makeRows (n : Nat) (hn : n ≤ 1048576) (w : World) :
    (Instr.makeSlice 53 (.int .i64 (n : Int)) (.int .i64 (n : Int))).run Tryd.prog w = .ok (.slice (some ⟨w.heap.size, 0, none⟩) n n) (w.alloc (.cells (madeCells #[.slice none 0 0] n) 28)) := by
  obtain ⟨i, hi, hzz⟩ := Option.map_eq_some_iff.1 info28
  simp only [Prod.mk.injEq] at hzz
  obtain ⟨hz0, hz1, hz2⟩ := hzz
  have hr := run_make (P := Tryd.prog) w 53 28 i _ Tryd.underlying53 hi hz0 .i64 .i64 n n (by omega) (Int.le_refl _) (by rw [hz2]; omega) (by omega)
  simp only [Int.toNat_natCast, hz1, Nat.mul_one] at hr
  exact hr
/-- While node k is gone through: rows above i are done, of row i what is ahead of j. -/
def wst (M : Nat → Nat → Bool) (k i j : Nat) : Nat → Nat → Bool := fun a b => M a b || (M a k && M k b && (decide (a < i) || (decide (a = i) && decide (b < j))))
theorem wst_start (M : Nat → Nat → Bool) (k a b : Nat) : wst M k 0 0 a b = M a b := by simp [wst]
theorem wst_row {M : Nat → Nat → Bool} {k i n : Nat} {a b : Nat} (hb : b < n) : wst M k i n a b = wst M k (i + 1) 0 a b := by
  unfold wst
  have : (decide (a < i) || (decide (a = i) && decide (b < n))) = (decide (a < i + 1) || (decide (a = i + 1) && decide (b < 0))) := by
    by_cases h1 : a < i
    · simp [h1, Nat.lt_succ_of_lt h1]
    · by_cases h2 : a = i
      · simp [h2, hb]
      · simp [h1, h2, show ¬ a < i + 1 by omega]
  rw [this]
theorem wst_skip {M : Nat → Nat → Bool} {k i : Nat} (h : M i k = false) (a b : Nat) : wst M k i 0 a b = wst M k (i + 1) 0 a b := by
  unfold wst
  by_cases e : a = i
  · subst e; simp [h]
  · have : (decide (a < i) || (decide (a = i) && decide (b < 0))) = (decide (a < i + 1) || (decide (a = i + 1) && decide (b < 0))) := by
      by_cases h1 : a < i
      · simp [h1, Nat.lt_succ_of_lt h1]
      · simp [h1, e, show ¬ a < i + 1 by omega]
    rw [this]
/-- Column k stays as it was, and row k. -/
theorem wst_col (M : Nat → Nat → Bool) (k i j a : Nat) : wst M k i j a k = M a k := by
  unfold wst; cases M a k <;> simp
theorem wst_rowk (M : Nat → Nat → Bool) (k i j b : Nat) : wst M k i j k b = M k b := by
  unfold wst; cases M k b <;> simp
theorem wst_next {M : Nat → Nat → Bool} {k i j : Nat} (h : M i k = true) (a b : Nat) : (if a = i ∧ b = j then (wst M k i j i j || wst M k i j k j) else wst M k i j a b) = wst M k i (j + 1) a b := by
  by_cases e : a = i ∧ b = j
  · obtain ⟨rfl, rfl⟩ := e
    rw [if_pos ⟨rfl, rfl⟩, wst_rowk]
    unfold wst
    simp [h]
  · rw [if_neg e]
    unfold wst
    congr 2
    by_cases h1 : a = i
    · subst h1
      have : b ≠ j := fun e2 => e ⟨rfl, e2⟩
      have : (decide (b < j)) = (decide (b < j + 1)) := by
        by_cases h2 : b < j
        · simp [h2, Nat.lt_succ_of_lt h2]
        · simp [h2, show ¬ b < j + 1 by omega]
      simp [this]
    · simp [h1]
/-- Through all nodes ahead of k it is closed. -/
def clo (M : Nat → Nat → Bool) (k : Nat) : Prop := ∀ m, m < k → ∀ i j, M i m = true → M m j = true → M i j = true
theorem clo_next {M : Nat → Nat → Bool} {k n : Nat} (h : clo M k) : clo (fun a b => M a b || (M a k && M k b)) (k + 1) := by
  intro m hm i j h1 h2
  simp only [Bool.or_eq_true, Bool.and_eq_true] at h1 h2 ⊢
  by_cases e : m = k
  · subst e
    have g1 : M i m = true := by rcases h1 with h1 | h1; exact h1; exact h1.1
    have g2 : M m j = true := by rcases h2 with h2 | h2; exact h2; exact h2.2
    exact .inr ⟨g1, g2⟩
  · have hmk : m < k := by omega
    rcases h1 with h1 | h1 <;> rcases h2 with h2 | h2
    · exact .inl (h m hmk i j h1 h2)
    · exact .inr ⟨h m hmk i k h1 h2.1, h2.2⟩
    · exact .inr ⟨h1.1, h m hmk k j h1.2 h2⟩
    · exact .inr ⟨h1.1, h2.2⟩
end Go.Proofs.YtjpjjfgdgieapaaDoor

/-! The specification: l04Leads. -/
namespace Go.Proofs.YtjpjjfgdgieapaaDoor
open Go.RowKit Go.Deep
set_option linter.unusedVariables false
set_option maxRecDepth 100000
set_option linter.unusedSimpArgs false

/-- A place in a Prod's Right that leads on: from the Left to a Non; where lf, only ones that make the empty word stand ahead of it. -/
def Pl (lf : Bool) (d : Bn) (k i a b : Nat) : Prop := ∃ hk : k < d.prods.length, d.prods[k].left.toNat = d.terms.length + a ∧ ∃ hi : i < d.prods[k].right.length, d.prods[k].right[i].toNat = d.terms.length + b ∧ (lf = true → ∀ j (hj : j < d.prods[k].right.length), j < i → Lens d.terms.length (bps d) [d.prods[k].right[j].toNat] 0)
def En (lf : Bool) (d : Bn) (a b : Nat) : Prop := ∃ k i, Pl lf d k i a b
theorem take_ints {w : World} {S : Nat → Prop} {l : List Int} {a : Option Addr} {c m : Nat} (h : Ints w S l (.slice a l.length c)) (hm : m ≤ l.length) : Ints w S (l.take m) (.slice a m c) := by
  obtain ⟨a', cap, b, off, e, hc, hmx, ha, hcell⟩ := h
  injection e with e1 e2 e3
  subst e1 e3
  have hl : (l.take m).length = m := by simp [hm]
  refine ⟨a, c, b, off, by rw [hl], by rw [hl]; omega, hmx, fun h0 => ha (by rw [hl] at h0; omega), fun i hi => ?_⟩
  rw [hl] at hi
  rw [List.getElem_take]
  exact hcell i (by omega)
theorem drop_ints {w : World} {S : Nat → Prop} {l : List Int} {b off c m : Nat} (h : Ints w S l (.slice (some ⟨b, off, none⟩) l.length c)) (hm : m ≤ l.length) (hc : m < c) : Ints w S (l.drop m) (.slice (some ⟨b, off + m, none⟩) (l.length - m) (c - m)) := by
  obtain ⟨a', cap, b', off', e, hc', hmx, ha, hcell⟩ := h
  injection e with e1 e2 e3
  subst e1 e3
  have hl : (l.drop m).length = l.length - m := by simp
  refine ⟨_, c - m, b, off + m, by rw [hl], by rw [hl]; omega, by omega, fun h0 => ⟨rfl, ?_⟩, fun i hi => ?_⟩
  · have h1 := ha (by rw [hl] at h0; omega)
    injection h1.1 with h2
    cases h2
    exact h1.2
  · rw [hl] at hi
    have h1 := ha (by omega)
    injection h1.1 with h2
    cases h2
    rw [List.getElem_drop, Nat.add_assoc]
    exact hcell (m + i) (by omega)
theorem nall_take1 {f : Nat → Bool} {r : List Int} {m : Nat} (hm : m < r.length) : nall f (nats (r.take m)) = true ↔ ∀ j (hj : j < r.length), j < m → f r[j].toNat = true := by
  unfold nall nats
  simp only [List.all_map, List.all_eq_true, Function.comp]
  constructor
  · intro h1 j hj hjm
    exact h1 _ (List.mem_iff_getElem.2 ⟨j, by simp; omega, by simp⟩)
  · intro h x hx
    obtain ⟨j, hj, rfl⟩ := List.mem_iff_getElem.1 hx
    simp at hj
    rw [List.getElem_take]
    exact h j (by omega) (by omega)
/-- The square has all edges of the Prods ahead of k, and of Prod k those at places ahead of m; no other. -/
structure Eds (lf : Bool) (d : Bn) (k m : Nat) (F : Nat → Nat → Bool) : Prop where
  is : ∀ a b, F a b = true → En lf d a b
  all : ∀ k' i a b, k' < k ∨ (k' = k ∧ i < m) → Pl lf d k' i a b → F a b = true
theorem Eds.row {lf : Bool} {d : Bn} {k m : Nat} {F : Nat → Nat → Bool} (h : Eds lf d k m F) (hm : ∀ hk : k < d.prods.length, d.prods[k].right.length ≤ m) : Eds lf d (k + 1) 0 F :=
  ⟨h.is, fun k' i a b hk hp => h.all k' i a b (by
    by_cases e : k' = k
    · subst e
      obtain ⟨hk2, _, hi, _⟩ := hp
      exact .inr ⟨rfl, by have := hm hk2; omega⟩
    · exact .inl (by omega)) hp⟩
theorem Eds.skip {lf : Bool} {d : Bn} {k m : Nat} {F : Nat → Nat → Bool} (h : Eds lf d k m F) (hn : ∀ a b, ¬ Pl lf d k m a b) : Eds lf d k (m + 1) F :=
  ⟨h.is, fun k' i a b hk hp => h.all k' i a b (by
    rcases hk with hk | ⟨rfl, hk⟩
    · exact .inl hk
    · by_cases e : i = m
      · subst e; exact absurd hp (hn a b)
      · exact .inr ⟨rfl, by omega⟩) hp⟩
theorem Eds.put {lf : Bool} {d : Bn} {k m a0 b0 : Nat} {F : Nat → Nat → Bool} (h : Eds lf d k m F) (hp : Pl lf d k m a0 b0) : Eds lf d k (m + 1) (fun a b => if a = a0 ∧ b = b0 then true else F a b) := by
  refine ⟨fun a b hf => ?_, fun k' i a b hk hq => ?_⟩
  · by_cases e : a = a0 ∧ b = b0
    · obtain ⟨rfl, rfl⟩ := e; exact ⟨k, m, hp⟩
    · simp only [if_neg e] at hf; exact h.is a b hf
  · by_cases e : a = a0 ∧ b = b0
    · simp [e]
    · simp only [if_neg e]
      refine h.all k' i a b ?_ hq
      rcases hk with hk | ⟨rfl, hk⟩
      · exact .inl hk
      · by_cases e2 : i = m
        · subst e2
          obtain ⟨_, q1, _, q2, _⟩ := hp
          obtain ⟨_, r1, _, r2, _⟩ := hq
          exact absurd ⟨by omega, by omega⟩ e
        · exact .inr ⟨rfl, by omega⟩
end Go.Proofs.YtjpjjfgdgieapaaDoor
