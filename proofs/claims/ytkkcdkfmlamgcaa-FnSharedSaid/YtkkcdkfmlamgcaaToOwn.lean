import Derived.Test.YtkkcdkfmlamgcaaMark2
import Derived.Deep.RegionWith
namespace Go.Proofs.Ytkkcdkfmlamgcaa
open Go.RowKit Go.Deep Go.Lib
set_option linter.unusedVariables false
set_option linter.unusedSimpArgs false

end Go.Proofs.Ytkkcdkfmlamgcaa

namespace Go.Proofs.Ytkkcdkfmlamgcaa
open Go.RowKit Go.Deep Go.Lib
set_option linter.unusedVariables false
set_option maxRecDepth 100000
set_option linter.unusedSimpArgs false

/-- Numbers that lie behind a slice, in a block of S. -/
def Ints (w : World) (S : Nat → Prop) (l : List Int) (v : Value) : Prop :=
  ∃ (a : Option Addr) (cap b off : Nat), v = .slice a l.length cap ∧ l.length ≤ cap ∧ cap ≤ maxLen ∧ (0 < l.length → a = some ⟨b, off, none⟩ ∧ S b) ∧ ∀ i (hi : i < l.length), w.cell? ⟨b, off + i, none⟩ = some (.int .i64 l[i])
theorem Ints.still {w w' : World} {S : Nat → Prop} {l : List Int} {v : Value} (h : Ints w S l v) (hb : Below w.heap.size w w') : Ints w' S l v := by
  obtain ⟨a, cap, b, off, hv, hc, hm, ha, hcell⟩ := h
  exact ⟨a, cap, b, off, hv, hc, hm, ha, fun i hi => (hb.cell (lt_of_cell (hcell i hi))).trans (hcell i hi)⟩
theorem Ints.keep {w w' : World} {S : Nat → Prop} {l : List Int} {v : Value} (h : Ints w S l v) (hb : ∀ b, S b → b < w.heap.size → w'.heap[b]? = w.heap[b]?) : Ints w' S l v := by
  obtain ⟨a, cap, b, off, hv, hc, hm, ha, hcell⟩ := h
  exact ⟨a, cap, b, off, hv, hc, hm, ha, fun i hi => (World.cell?_of_block (w := w) (hb b (ha (by omega)).2 (lt_of_cell (hcell i hi)))).trans (hcell i hi)⟩
theorem Ints.form {w : World} {S : Nat → Prop} {l : List Int} {v : Value} (h : Ints w S l v) : ∃ a len cap, v = .slice a len cap := by
  obtain ⟨a, cap, b, off, hv, _⟩ := h
  exact ⟨_, _, _, hv⟩
/-- .. in a row of its own. -/
def IRow (w : World) (b : Nat) (l : List Int) : Prop := w.rowIs b 3 l.length (fun i => .int .i64 (l.getD i 0))
theorem IRow.ints {w : World} {b : Nat} {l : List Int} (h : IRow w b l) (hl : l.length ≤ maxLen) : Ints w (fun c => c = b) l (.slice (some ⟨b, 0, none⟩) l.length l.length) := by
  refine ⟨_, _, b, 0, rfl, Nat.le_refl _, hl, fun _ => ⟨rfl, rfl⟩, fun i hi => ?_⟩
  rw [Nat.zero_add, h.cell hi]
  simp [List.getD_eq_getElem?_getD, hi]

theorem info3i : (Try.prog.info? 3).map (fun i => (i.zero, i.size, i.bytes)) = some (some (.int .i64 0), 1, 8) := by kernel_rfl
theorem run_makeInts (n : Nat) (hn : n ≤ 1048576) (w : World) :
    (Instr.makeSlice 25 (.int .i64 (n : Int)) (.int .i64 (n : Int))).run Try.prog w = .ok (.slice (some ⟨w.heap.size, 0, none⟩) n n) (w.alloc (.cells (madeCells #[.int .i64 0] n) 3)) := by
  obtain ⟨i, hi, hz, hs, hb⟩ := info_parts info3i
  have hr := run_make (P := Try.prog) w 25 3 i _ Try.underlying25 hi hz .i64 .i64 n n (by omega) (Int.le_refl _) (by rw [hb]; omega) (by omega)
  simp only [Int.toNat_natCast, hs, Nat.mul_one] at hr
  exact hr

end Go.Proofs.Ytkkcdkfmlamgcaa

namespace Go.Proofs.Ytkkcdkfmlamgcaa
open Go.RowKit Go.Deep Go.Lib
set_option linter.unusedVariables false
set_option maxRecDepth 100000
set_option linter.unusedSimpArgs false

/-- What the loop of toTreeS has made of the first j Kids: each owns a range behind the row g. -/
def MadeO (k : List Tr) (g : Nat) (j : Nat) (wr : World) : Prop :=
  ∃ (f : Nat → Value) (l h : Nat → Nat), wr.rowIs g 39 (k.length * 4) f ∧
    (∀ i (_ : i < j) (hi : i < k.length), f (i * 4) = .string k[i].name ∧ f (i * 4 + 1) = .string k[i].text ∧ f (i * 4 + 2) = .bool k[i].leaf) ∧
    (∀ i (_ : i < j) (hi : i < k.length), Own wr (l i) (h i) k[i] (f (i * 4 + 3))) ∧ (∀ i, i < j → g < l i ∧ h i ≤ wr.heap.size) ∧ ∀ i i', i < i' → i' < j → h i ≤ l i'

theorem Own.past {w : World} {t : Tr} {v u : Value} {lo hi g o : Nat} (h : Own w lo hi t v) (hg : g < lo ∨ hi ≤ g) : Own (w.setCell ⟨g, o, none⟩ u) lo hi t v :=
  h.keep (Nat.le_refl _) (Nat.le_refl _) (fun k h1 h2 _ => blk_setCell_other _ _ _ _ (by show k ≠ g; omega))
theorem Own.still {w w' : World} {t : Tr} {v : Value} {lo hi : Nat} (h : Own w lo hi t v) (hb : Below w.heap.size w w') : Own w' lo hi t v :=
  h.keep (Nat.le_refl _) (Nat.le_refl _) (fun k _ _ hk => hb.block k hk)

theorem madeO_step {k : List Tr} {g j : Nat} {wr w1 : World} (hj : j < k.length) (hM : MadeO k g j wr) (hg : g < wr.heap.size) (hb1 : Below wr.heap.size wr w1) {v : Value} (hl : Own w1 wr.heap.size w1.heap.size k[j] v) :
    MadeO k g (j + 1) ((((w1.setCell ⟨g, j * 4, none⟩ (.string k[j].name)).setCell ⟨g, j * 4 + 1, none⟩ (.string k[j].text)).setCell ⟨g, j * 4 + 2, none⟩ (.bool k[j].leaf)).setCell ⟨g, j * 4 + 3, none⟩ v) := by
  obtain ⟨f, l, h, hrow, hcs, hls, hr, hd⟩ := hM
  have hrow1 := hrow.of_block (hb1.block _ hrow.lt)
  have hs := hb1.size
  refine ⟨_, fun i => if i = j then wr.heap.size else l i, fun i => if i = j then w1.heap.size else h i, (((hrow1.set _ _).set _ _).set _ _).set _ _, fun i hi hk => ?_, fun i hi hk => ?_, fun i hi => ?_, fun i i' hii hi' => ?_⟩
  · by_cases e : i = j
    · subst e; simp
    · obtain ⟨q0, q1, q2⟩ := hcs i (by omega) hk
      refine ⟨?_, ?_, ?_⟩
      · rw [if_neg (by omega), if_neg (by omega), if_neg (by omega), if_neg (by omega)]; exact q0
      · rw [if_neg (by omega), if_neg (by omega), if_neg (by omega), if_neg (by omega)]; exact q1
      · rw [if_neg (by omega), if_neg (by omega), if_neg (by omega), if_neg (by omega)]; exact q2
  · by_cases e : i = j
    · subst e
      simp only [if_true]
      exact (((hl.past (.inl hg)).past (.inl hg)).past (.inl hg)).past (.inl hg)
    · rw [if_neg (by omega), if_neg (by omega), if_neg (by omega), if_neg (by omega)]
      simp only [if_neg e]
      have hlt := (hr i (by omega)).1
      exact (((((hls i (by omega) hk).still hb1).past (.inl hlt)).past (.inl hlt)).past (.inl hlt)).past (.inl hlt)
  · by_cases e : i = j
    · subst e; simp; exact hg
    · simp only [if_neg e]; have := hr i (by omega); simp; omega
  · by_cases e : i' = j
    · subst e
      simp only [if_true]
      rw [if_neg (by omega)]
      exact (hr i (by omega)).2
    · dsimp only; rw [if_neg e, if_neg (by omega)]; exact hd i i' hii (by omega)

theorem madeO_own {k : List Tr} {g : Nat} {w : World} (h : MadeO k g k.length w) {n x : ByteArray} {l : Bool} (hn : n.size ≤ maxLen) (hx : x.size ≤ maxLen) (hk : k.length ≤ maxLen) :
    Own w g w.heap.size (.mk n x l k) (.slice (some ⟨g, 0, none⟩) k.length k.length) := by
  obtain ⟨f, l, h, hrow, hcs, hls, hr, hd⟩ := h
  exact Own.shut ⟨_, _, g, f, l, h, rfl, hn, hx, Nat.le_refl _, hk, fun _ => ⟨rfl, Nat.le_refl _, hrow.lt, hrow⟩, fun i hi => hcs i hi hi, fun i hi => hls i hi hi, fun i hi => ⟨Nat.le_of_lt (hr i hi).1, (hr i hi).2, .inl (hr i hi).1⟩, fun i j hij hj => .inl (hd i j hij hj)⟩

end Go.Proofs.Ytkkcdkfmlamgcaa
