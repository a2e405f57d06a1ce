import Derived.Test.YtofobmdljelmgaaChecked
import Derived.Test.YtofobmdljelmgaaBase
import Derived.Outline
import Derived.Deep.OwnRows
import Derived.KernelRfl
namespace Go.Proofs.Ytofobmdljelmgaa
set_option linter.unusedVariables false
set_option linter.unusedSimpArgs false
open Go.RowKit

/-- What is left of 'left' behind so much: -1 where it is not enough. -/
def szR (n : Nat) (left : Int) : Int := if (n : Int) ≤ left then left - n else -1

theorem szR_yes {n : Nat} {left : Int} (h : (n : Int) ≤ left) : szR n left = left - n := if_pos h
theorem szR_no {n : Nat} {left : Int} (h : left < n) : szR n left = -1 := if_neg (by omega)

end Go.Proofs.Ytofobmdljelmgaa

namespace Go.Proofs.Ytofobmdljelmgaa
open Go.RowKit Go.Deep
set_option linter.unusedVariables false
set_option linter.unusedSimpArgs false

theorem info39 : (Try.prog.info? 39).map (fun i => (i.zero, i.size, i.bytes)) = some (some (.agg #[.string ByteArray.empty, .string ByteArray.empty, .bool false, .slice none 0 0]), 4, 64) := by kernel_rfl

/-- 'make([]Tree, n)'. -/
theorem run_makeTrees (n : Nat) (hn : n ≤ 1048576) (w : World) :
    (Instr.makeSlice 30 (.int .i64 (n : Int)) (.int .i64 (n : Int))).run Try.prog w = .ok (.slice (some ⟨w.heap.size, 0, none⟩) n n) (w.alloc (.cells (madeCells #[.string ByteArray.empty, .string ByteArray.empty, .bool false, .slice none 0 0] (n * 4)) 39)) := by
  obtain ⟨i, hi, hzz⟩ := Option.map_eq_some_iff.1 info39
  simp only [Prod.mk.injEq] at hzz
  obtain ⟨hz, hs, hb⟩ := hzz
  have hr := run_make (P := Try.prog) w 30 39 i _ Try.underlying30 hi hz .i64 .i64 n n (by omega) (Int.le_refl _) (by rw [hb]; omega) (by omega)
  simp only [Int.toNat_natCast, hs] at hr
  exact hr

theorem row_made (w : World) (z : Array Value) (n : Nat) (t : TypeId) : ∃ f, (w.alloc (.cells (madeCells z n) t)).rowIs w.heap.size t n f :=
  ⟨fun i => z[i % z.size]!, _, blk_alloc_new _ _, size_madeCells _ _, fun i hi => by simp [madeCells, hi]⟩

/-- What the loop of toTreeS has made: of the first j Kids the copies stand in the row g, and lie behind it. -/
def Made (k : List Tr) (g : Nat) (j : Nat) (wr : World) : Prop :=
  ∃ (f : Nat → Value) (sv : Nat → Value), wr.rowIs g 39 (k.length * 4) f ∧
    (∀ i (_ : i < j) (hi : i < k.length), f (i * 4) = .string k[i].name ∧ f (i * 4 + 1) = .string k[i].text ∧ f (i * 4 + 2) = .bool k[i].leaf ∧ f (i * 4 + 3) = sv i) ∧
    ∀ i (_ : i < j) (hi : i < k.length), Lies wr (fun b => g < b) k[i] (sv i)

theorem lies_setCell {w : World} {g o : Nat} {u v : Value} {t : Tr} (h : Lies w (fun b => g < b) t v) : Lies (w.setCell ⟨g, o, none⟩ u) (fun b => g < b) t v :=
  h.keep (fun b hb => blk_setCell_other _ _ _ _ (by show b ≠ g; omega))

/-- A store into a block ahead of all that it lies in. -/
theorem lies_past {w : World} {g c o : Nat} {u v : Value} {t : Tr} (h : Lies w (fun b => g ≤ b) t v) (hc : c < g) : Lies (w.setCell ⟨c, o, none⟩ u) (fun b => g ≤ b) t v :=
  h.keep (fun b (hb : g ≤ b) => blk_setCell_other _ _ _ _ (by show b ≠ c; omega))

theorem made_step {k : List Tr} {g j : Nat} {w1 : World} (hj : j < k.length) {f svp : Nat → Value} (hrow : w1.rowIs g 39 (k.length * 4) f)
    (hcs : ∀ i (_ : i < j) (hi : i < k.length), f (i * 4) = .string k[i].name ∧ f (i * 4 + 1) = .string k[i].text ∧ f (i * 4 + 2) = .bool k[i].leaf ∧ f (i * 4 + 3) = svp i)
    (hls : ∀ i (_ : i < j) (hi : i < k.length), Lies w1 (fun b => g < b) k[i] (svp i)) {v : Value} (hl : Lies w1 (fun b => g < b) k[j] v) :
    Made k g (j + 1) ((((w1.setCell ⟨g, j * 4, none⟩ (.string k[j].name)).setCell ⟨g, j * 4 + 1, none⟩ (.string k[j].text)).setCell ⟨g, j * 4 + 2, none⟩ (.bool k[j].leaf)).setCell ⟨g, j * 4 + 3, none⟩ v) := by
  refine ⟨_, fun i => if i = j then v else svp i, (((hrow.set _ _).set _ _).set _ _).set _ _, fun i hi hk => ?_, fun i hi hk => ?_⟩
  · by_cases e : i = j
    · subst e; simp
    · obtain ⟨q0, q1, q2, q3⟩ := hcs i (by omega) hk
      refine ⟨?_, ?_, ?_, ?_⟩
      · rw [if_neg (by omega), if_neg (by omega), if_neg (by omega), if_neg (by omega)]; exact q0
      · rw [if_neg (by omega), if_neg (by omega), if_neg (by omega), if_neg (by omega)]; exact q1
      · rw [if_neg (by omega), if_neg (by omega), if_neg (by omega), if_neg (by omega)]; exact q2
      · rw [if_neg (by omega), if_neg (by omega), if_neg (by omega), if_neg (by omega)]; simp only [if_neg e]; exact q3
  · by_cases e : i = j
    · subst e
      simp only [if_true]
      exact lies_setCell (lies_setCell (lies_setCell (lies_setCell hl)))
    · simp only [if_neg e]
      exact lies_setCell (lies_setCell (lies_setCell (lies_setCell (hls i (by omega) hk))))

theorem made_lies {k : List Tr} {g : Nat} {w : World} (h : Made k g k.length w) {n x : ByteArray} {l : Bool} (hn : n.size ≤ maxLen) (hx : x.size ≤ maxLen) (hk : k.length ≤ maxLen) :
    Lies w (fun b => g ≤ b) (.mk n x l k) (.slice (some ⟨g, 0, none⟩) k.length k.length) := by
  obtain ⟨f, sv, hrow, hcs, hls⟩ := h
  refine Lies.shut ⟨_, _, g, 0, sv, rfl, hn, hx, Nat.le_refl _, hk, fun _ => ⟨rfl, Nat.le_refl _⟩, fun i hi => ?_, fun i hi => (hls i hi hi).mono (fun b (hb : g < b) => by omega)⟩
  dsimp only at hi ⊢
  obtain ⟨q0, q1, q2, q3⟩ := hcs i hi hi
  rw [← q0, ← q1, ← q2, ← q3]
  simp only [Nat.zero_add]
  exact ⟨hrow.cell (by omega), hrow.cell (by omega), hrow.cell (by omega), hrow.cell (by omega)⟩

end Go.Proofs.Ytofobmdljelmgaa
