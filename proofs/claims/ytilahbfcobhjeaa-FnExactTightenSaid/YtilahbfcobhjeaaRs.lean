import Derived.Test.YtilahbfcobhjeaaRx1
import Derived.Test.YtilahbfcobhjeaaRx2
import Derived.Test.YtilahbfcobhjeaaRx3
import Derived.Test.YtilahbfcobhjeaaRx4
import Derived.Test.YtilahbfcobhjeaaRx5
import Derived.Test.YtilahbfcobhjeaaRx6
/-! A run of a program: a step of the specification, whole; what is answered. -/
namespace Go.Proofs.Ytilahbfcobhjeaa
open Go.RowKit Go.Deep
set_option linter.unusedVariables false
set_option maxRecDepth 100000
set_option linter.unusedSimpArgs false

/-- A step of the specification, whatever the instruction. -/
theorem step42 {S S' : Nat → Prop} (l : List DIns) (wd : List Int) (q A : Nat) (vl vw vp vt : Value) (r : Rn) (w : World) (h : RunM w q A 73 (sC vl vw r vp vt 0 false) vp vt r) (hl : InsR w S l vl) (hw : Ints w S' wd vw) (hS : ∀ b, S' b → b < A ∧ b ≠ q) (hwl : wd.length ≤ 200) (hp : pgB l = true) (ho : r.Ok l wd) :
    Calls Try.prog 42 #[.pointer (some ⟨q, 0, none⟩)] w fun e w' => StA q A vl vw (dO wd (insAt l r.pc) r.nx) w e w' := by
  obtain ⟨f1, f2, _⟩ := in_facts (pg_at hp ho.pc).1
  have hk : (l[r.pc]'ho.pc).op = 1 ∨ (l[r.pc]'ho.pc).op = 2 ∨ (l[r.pc]'ho.pc).op = 3 ∨ (l[r.pc]'ho.pc).op = 4 ∨ (l[r.pc]'ho.pc).op = 5 ∨ (l[r.pc]'ho.pc).op = 6 ∨ (l[r.pc]'ho.pc).op = 7 ∨ (l[r.pc]'ho.pc).op = 8 ∨ (l[r.pc]'ho.pc).op = 9 ∨ (l[r.pc]'ho.pc).op = 10 := by omega
  rcases hk with e | e | e | e | e | e | e | e | e | e
  · exact step42_1 l wd q A vl vw vp vt r w h hl hw hS hwl hp ho e
  · exact step42_2 l wd q A vl vw vp vt r w h hl hw hS hwl hp ho e
  · exact step42_3 l wd q A vl vw vp vt r w h hl hw hS hwl hp ho e
  · exact step42_4 l wd q A vl vw vp vt r w h hl hw hS hwl hp ho e
  · exact step42_5 l wd q A vl vw vp vt r w h hl hw hS hwl hp ho e
  · exact step42_6 l wd q A vl vw vp vt r w h hl hw hS hwl hp ho e
  · exact step42_7 l wd q A vl vw vp vt r w h hl hw hS hwl hp ho e
  · exact step42_8 l wd q A vl vw vp vt r w h hl hw hS hwl hp ho e
  · exact step42_9 l wd q A vl vw vp vt r w h hl hw hS hwl hp ho e
  · exact step42_10 l wd q A vl vw vp vt r w h hl hw hS hwl hp ho e
theorem reB_parts (l : List DIns) (wd : List Int) (fuel : Int) : reB l wd fuel = (pgB l && (decide (wd.length ≤ 200) && (wdB wd && btB fuel 0 1000000))) := rfl
/-- An answer of RunProgram: its list is owned, all else is as it was. -/
def RuA (R : List Int × Int × Nat × Nat) (w : World) (e : Ending) (w' : World) : Prop :=
  ∃ u, e = .returned (.tuple #[u, .int .i64 R.2.1, .int .i64 (R.2.2.1 : Nat), .int .i64 (R.2.2.2 : Nat)]) ∧ Below w.heap.size w w' ∧ w'.ownsRow w.heap.size 3 1 u R.1.length (iv R.1)
theorem reR_no {l : List DIns} {wd : List Int} {fuel : Int} (h : reB l wd fuel = false) : reR l wd fuel = ([], 1, 0, 0) := by
  unfold reR
  rw [h]
  rfl
theorem reR_yes {l : List DIns} {wd : List Int} {fuel : Int} (h : reB l wd fuel = true) : reR l wd fuel = rnF l wd fuel.toNat 0 ⟨0, 0, [], []⟩ := by
  unfold reR
  rw [if_pos h]
theorem rnF_zero (l : List DIns) (wd : List Int) (n : Nat) (r : Rn) : rnF l wd 0 n r = (r.told, 11, r.place, n) := rfl
theorem rnF_on {l : List DIns} {wd : List Int} {f n : Nat} {r : Rn} (h : (dO wd (insAt l r.pc) r.nx).1 = -1) : rnF l wd (f + 1) n r = rnF l wd f (n + 1) (dO wd (insAt l r.pc) r.nx).2 := by
  rw [rnF, if_pos h]
theorem rnF_stop {l : List DIns} {wd : List Int} {f n : Nat} {r : Rn} (h : ¬ (dO wd (insAt l r.pc) r.nx).1 = -1) : rnF l wd (f + 1) n r = ((dO wd (insAt l r.pc) r.nx).2.told, (dO wd (insAt l r.pc) r.nx).1, (dO wd (insAt l r.pc) r.nx).2.place, n + 1) := by
  rw [rnF, if_neg h]
theorem wdB_all (wd : List Int) : wdB wd = wd.all (fun y => decide (0 ≤ y)) := rfl
end Go.Proofs.Ytilahbfcobhjeaa
