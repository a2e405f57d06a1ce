import Derived.Test.YtaimlmjgicmbeaaDb
import Derived.Deep.AppendLies
/-! Derivations in memory: boxes, what is kept, the program's and the specification's trees. -/
namespace Go.Proofs.Ytaimlmjgicmbeaa
open Go.RowKit Go.Deep
set_option linter.unusedVariables false
set_option maxRecDepth 100000
set_option linter.unusedSimpArgs false

/-- A struct in a block of its own. -/
structure Box (w : World) (g T : Nat) (cs : List Value) : Prop where
  ex : w.rowIs g T cs.length (fun i => cs.getD i .nilFunc)
theorem Box.new (w : World) (T : Nat) (cs : List Value) : Box (w.alloc (.cells cs.toArray T)) w.heap.size T cs :=
  ⟨⟨cs.toArray, blk_alloc_new _ _, by simp, fun i hi => by simp [List.getD_eq_getElem?_getD, hi]⟩⟩
theorem Box.lt {w : World} {g T : Nat} {cs : List Value} (h : Box w g T cs) : g < w.heap.size := World.rowIs.lt h.ex
theorem Box.keep {w w' : World} {g T : Nat} {cs : List Value} (h : Box w g T cs) (hb : w'.heap[g]? = w.heap[g]?) : Box w' g T cs := ⟨World.rowIs.of_block h.ex hb⟩
theorem Box.still {w w' : World} {g T : Nat} {cs : List Value} (h : Box w g T cs) (hb : Below w.heap.size w w') : Box w' g T cs := h.keep (hb.block g h.lt)
theorem Box.cell {w : World} {g T : Nat} {cs : List Value} (h : Box w g T cs) (i : Nat) (hi : i < cs.length) : w.cell? ⟨g, i, none⟩ = some (cs.getD i .nilFunc) := h.ex.cell hi
theorem Box.frozen {w : World} {g T : Nat} {cs : List Value} (h : Box w g T cs) (i : Nat) : w.frozen? ⟨g, i, none⟩ = false := h.ex.frozen i
theorem Box.set {w : World} {g T : Nat} {cs : List Value} (h : Box w g T cs) (i : Nat) (u : Value) : Box (w.setCell ⟨g, i, none⟩ u) g T (cs.set i u) := by
  have h2 := h.ex.set i u
  obtain ⟨c, a1, a2, a3⟩ := h2
  refine ⟨⟨c, a1, by simpa using a2, fun j hj => ?_⟩⟩
  have hj' : j < cs.length := by simpa using hj
  rw [a3 j hj']
  by_cases e : j = i
  · subst e; simp [List.getD_eq_getElem?_getD, hj']
  · simp [List.getD_eq_getElem?_getD, e, List.getElem?_set, Ne.symm e]
theorem Box.past {w : World} {g T q o : Nat} {cs : List Value} {u : Value} (h : Box w g T cs) (hq : g ≠ q) : Box (w.setCell ⟨q, o, none⟩ u) g T cs := h.keep (blk_setCell_other _ _ _ _ (by exact hq))

/-- All but block R is as it was; more may have come. -/
structure Kp (B R : Nat) (w w' : World) : Prop where
  os : w'.os = w.os
  tape : w'.tape = w.tape
  output : w'.output = w.output
  size : w.heap.size ≤ w'.heap.size
  block : ∀ k, k < B → k ≠ R → w'.heap[k]? = w.heap[k]?
theorem Kp.refl (B R : Nat) (w : World) : Kp B R w w := ⟨rfl, rfl, rfl, Nat.le_refl _, fun _ _ _ => rfl⟩
theorem Kp.trans {B R : Nat} {a b c : World} (h : Kp B R a b) (k : Kp B R b c) : Kp B R a c := ⟨k.os.trans h.os, k.tape.trans h.tape, k.output.trans h.output, Nat.le_trans h.size k.size, fun i hi hr => (k.block i hi hr).trans (h.block i hi hr)⟩
theorem Kp.mono {B B' R : Nat} {w w' : World} (h : Kp B R w w') (hB : B' ≤ B) : Kp B' R w w' := ⟨h.os, h.tape, h.output, h.size, fun k hk => h.block k (Nat.lt_of_lt_of_le hk hB)⟩
theorem Below.kp {B : Nat} {w w' : World} (h : Below B w w') (R : Nat) : Kp B R w w' := ⟨h.os, h.tape, h.output, h.size, fun k hk _ => h.block k hk⟩
theorem Kp.below {B R : Nat} {w w' : World} (h : Kp B R w w') (hR : B ≤ R) : Below B w w' := ⟨h.os, h.tape, h.output, h.size, fun k hk => h.block k hk (by omega)⟩
theorem Kp.grown {B R : Nat} {a w w' : World} {row : Option Nat} (h : Kp B R a w) (hg : w.grownBy w' row) (hB : B ≤ w.heap.size) (hr : ∀ k, row = some k → B ≤ k) : Kp B R a w' :=
  h.trans ⟨hg.os, hg.tape, hg.output, hg.size, fun k hk _ => hg.block k (by omega) (fun e => by have := hr k e.symm; omega)⟩
theorem Kp.setCell {B R : Nat} {a w : World} (h : Kp B R a w) {p : Addr} (hp : p.block = R ∨ B ≤ p.block) (u : Value) : Kp B R a (w.setCell p u) :=
  h.trans ⟨rfl, rfl, rfl, by simp [World.setCell], fun k hk hr => Below.heap_setCell _ _ _ _ (by omega)⟩
theorem Kp.drewN {B R : Nat} {a w : World} (h : Kp B R a w) (n : Nat) : Kp B R a (w.drewN n) := h.trans ⟨rfl, rfl, rfl, Nat.le_refl _, fun _ _ _ => rfl⟩
theorem Kp.drew {B R : Nat} {a w : World} (h : Kp B R a w) : Kp B R a w.drew := h.trans ⟨rfl, rfl, rfl, Nat.le_refl _, fun _ _ _ => rfl⟩
theorem Kp.cell {B R : Nat} {w w' : World} (h : Kp B R w w') {p : Addr} (h1 : p.block < B) (h2 : p.block ≠ R) : w'.cell? p = w.cell? p := World.cell?_of_block (h.block _ h1 h2)

/-- The place where symbol i of a Prod's Right begins. -/
def atP (d : Bn) (L : List Int) (f a i : Nat) : Option Nat := rdk d.terms.length (rd d L f) ((pa d L a).right.take i) (a + 1)
/-- The program's tree for the derivation at a place: all in blocks of K. -/
def DP (d : Bn) (L : List Int) (w : World) (K : Nat → Prop) : Nat → Nat → Value → Prop
  | 0, _, _ => False
  | f + 1, a, v => ∃ (g kb kc : Nat) (ka : Option Addr) (vs : Nat → Value) (ats : Nat → Nat), v = .pointer (some ⟨g, 0, none⟩) ∧ K g ∧ w.cell? ⟨g, 0, none⟩ = some (.int .i64 (numAt L a)) ∧ w.cell? ⟨g, 1, none⟩ = some (.slice ka (pa d L a).right.length kc) ∧ (pa d L a).right.length ≤ kc ∧
      (0 < (pa d L a).right.length → ka = some ⟨kb, 0, none⟩ ∧ K kb) ∧ (∀ i (hi : i < (pa d L a).right.length), atP d L f a i = some (ats i) ∧ w.cell? ⟨kb, i, none⟩ = some (vs i) ∧ ((pa d L a).right[i] < (d.terms.length : Int) → vs i = .pointer none) ∧ (¬ (pa d L a).right[i] < (d.terms.length : Int) → DP d L w K f (ats i) (vs i))) ∧ ∃ n : Int, w.cell? ⟨g, 2, none⟩ = some (.int .i64 n) ∧ 0 ≤ n ∧ n ≤ 1073741825
theorem DP.keep {d : Bn} {L : List Int} {w w' : World} {K : Nat → Prop} (hb : ∀ b, K b → b < w.heap.size → w'.heap[b]? = w.heap[b]?) : ∀ (f a : Nat) (v : Value), DP d L w K f a v → DP d L w' K f a v
  | 0, _, _, h => h
  | f + 1, a, v, h => by
    obtain ⟨g, kb, kc, ka, vs, ats, h1, h2, h3, h4, h5, h6, h7, n, h8, h9⟩ := h
    have hg := hb g h2 (lt_of_cell h3)
    refine ⟨g, kb, kc, ka, vs, ats, h1, h2, (World.cell?_of_block hg).trans h3, (World.cell?_of_block hg).trans h4, h5, h6, fun i hi => ?_, n, (World.cell?_of_block hg).trans h8, h9⟩
    obtain ⟨k1, k2, k3, k4⟩ := h7 i hi
    exact ⟨k1, (World.cell?_of_block (hb kb (h6 (by omega)).2 (lt_of_cell k2))).trans k2, k3, fun hn => DP.keep hb f _ _ (k4 hn)⟩
theorem DP.mono {d : Bn} {L : List Int} {w : World} {K K' : Nat → Prop} (hK : ∀ b, K b → K' b) : ∀ (f a : Nat) (v : Value), DP d L w K f a v → DP d L w K' f a v
  | 0, _, _, h => h
  | f + 1, a, v, h => by
    obtain ⟨g, kb, kc, ka, vs, ats, h1, h2, h3, h4, h5, h6, h7, h8⟩ := h
    refine ⟨g, kb, kc, ka, vs, ats, h1, hK _ h2, h3, h4, h5, fun h0 => ⟨(h6 h0).1, hK _ (h6 h0).2⟩, fun i hi => ?_, h8⟩
    obtain ⟨k1, k2, k3, k4⟩ := h7 i hi
    exact ⟨k1, k2, k3, fun hn => DP.mono hK f _ _ (k4 hn)⟩
/-- How many Nons there are among symbols. -/
def cn (T : Nat) (ss : List Int) : Nat := ss.countP (fun s => decide (¬ s < (T : Int)))
theorem cn_take (T : Nat) (ss : List Int) (i : Nat) (hi : i < ss.length) : cn T (ss.take (i + 1)) = cn T (ss.take i) + (if ss[i] < (T : Int) then 0 else 1) := by
  unfold cn
  rw [List.take_succ_eq_append_getElem hi, List.countP_append, List.countP_singleton]
  by_cases h : ss[i] < (T : Int) <;> simp [h]
theorem cn_le (T : Nat) (ss : List Int) : cn T ss ≤ ss.length := List.countP_le_length
/-- The specification's tree for the derivation at a place: its Kids. -/
def SP (d : Bn) (L : List Int) (w : World) (K : Nat → Prop) : Nat → Nat → Value → Prop
  | 0, _, _ => False
  | f + 1, a, v => ∃ (kb kc : Nat) (ka : Option Addr) (sv : Nat → Value) (ats : Nat → Nat), v = .slice ka (cn d.terms.length (pa d L a).right) kc ∧ cn d.terms.length (pa d L a).right ≤ kc ∧ (0 < cn d.terms.length (pa d L a).right → ka = some ⟨kb, 0, none⟩ ∧ K kb) ∧
      ∀ i (hi : i < (pa d L a).right.length), atP d L f a i = some (ats i) ∧ (¬ (pa d L a).right[i] < (d.terms.length : Int) → w.cell? ⟨kb, cn d.terms.length ((pa d L a).right.take i) * 2, none⟩ = some (.int .i64 (numAt L (ats i))) ∧ w.cell? ⟨kb, cn d.terms.length ((pa d L a).right.take i) * 2 + 1, none⟩ = some (sv i) ∧ SP d L w K f (ats i) (sv i))
theorem cn_pos {T : Nat} {ss : List Int} {i : Nat} (hi : i < ss.length) (h : ¬ ss[i] < (T : Int)) : 0 < cn T ss := by
  unfold cn
  rw [List.countP_pos_iff]
  exact ⟨ss[i], List.getElem_mem hi, by simp; omega⟩
theorem SP.keep {d : Bn} {L : List Int} {w w' : World} {K : Nat → Prop} (hb : ∀ b, K b → b < w.heap.size → w'.heap[b]? = w.heap[b]?) : ∀ (f a : Nat) (v : Value), SP d L w K f a v → SP d L w' K f a v
  | 0, _, _, h => h
  | f + 1, a, v, h => by
    obtain ⟨kb, kc, ka, sv, ats, h1, h2, h3, h4⟩ := h
    refine ⟨kb, kc, ka, sv, ats, h1, h2, h3, fun i hi => ?_⟩
    obtain ⟨k1, k2⟩ := h4 i hi
    refine ⟨k1, fun hn => ?_⟩
    obtain ⟨m1, m2, m3⟩ := k2 hn
    have hk := (h3 (cn_pos hi hn)).2
    exact ⟨(World.cell?_of_block (hb kb hk (lt_of_cell m1))).trans m1, (World.cell?_of_block (hb kb hk (lt_of_cell m2))).trans m2, SP.keep hb f _ _ m3⟩
theorem SP.mono {d : Bn} {L : List Int} {w : World} {K K' : Nat → Prop} (hK : ∀ b, K b → K' b) : ∀ (f a : Nat) (v : Value), SP d L w K f a v → SP d L w K' f a v
  | 0, _, _, h => h
  | f + 1, a, v, h => by
    obtain ⟨kb, kc, ka, sv, ats, h1, h2, h3, h4⟩ := h
    refine ⟨kb, kc, ka, sv, ats, h1, h2, fun h0 => ⟨(h3 h0).1, hK _ (h3 h0).2⟩, fun i hi => ?_⟩
    obtain ⟨k1, k2⟩ := h4 i hi
    refine ⟨k1, fun hn => ?_⟩
    obtain ⟨m1, m2, m3⟩ := k2 hn
    exact ⟨m1, m2, SP.mono hK f _ _ m3⟩
end Go.Proofs.Ytaimlmjgicmbeaa
