import Derived.Test.YtilahbfcobhjeaaRb
import Derived.Outline
import Derived.BigQuiet
import Derived.Deep.RegionWith
import Derived.Deep.CutRange
import Derived.Deep.RegionHeld3
/-! A run of a program: a step of the specification; to stop. -/
namespace Go.Proofs.Ytilahbfcobhjeaa
open Go.RowKit Go.Deep
set_option linter.unusedVariables false
set_option maxRecDepth 100000
set_option linter.unusedSimpArgs false

/-- The cells of a run. -/
abbrev sC (vl vw : Value) (r : Rn) (vp vt : Value) (c : Int) (e : Bool) : List Value := [vl, vw, .int .i64 r.pc, vp, vt, .int .i64 r.place, .int .i64 c, .bool e]
/-- What a step leaves. -/
def StA (q A : Nat) (vl vw : Value) (d : Int × Rn) (w : World) (e : Ending) (w' : World) : Prop :=
  e = .returned (.tuple #[]) ∧ Kp q A w w' ∧ ∃ vp vt, RunM w' q A 73 (sC vl vw d.2 vp vt (if d.1 = -1 then 0 else d.1) (decide (d.1 ≠ -1))) vp vt d.2
theorem RunM.re {w : World} {q A T : Nat} {cs cs' : List Value} {vp vt : Value} {r : Rn} (h : RunM w q A T cs vp vt r) (e : cs = cs') : RunM w q A T cs' vp vt r := e ▸ h
theorem StA.on {q A : Nat} {vl vw : Value} {d : Int × Rn} {w w' : World} {r : Rn} (hd : d = (-1, r)) (hk : Kp q A w w') {vp vt : Value} (h : RunM w' q A 73 (sC vl vw r vp vt 0 false) vp vt r) : StA q A vl vw d w (.returned (.tuple #[])) w' := by
  subst hd
  exact ⟨rfl, hk, vp, vt, h⟩
theorem StA.stop {q A : Nat} {vl vw : Value} {d : Int × Rn} {w w' : World} {r : Rn} {c : Int} (hd : d = (c, r)) (hc : c ≠ -1) (hk : Kp q A w w') {vp vt : Value} (h : RunM w' q A 73 (sC vl vw r vp vt 0 false) vp vt r) : StA q A vl vw d w (.returned (.tuple #[])) ((w'.setCell ⟨q, 6, none⟩ (.int .i64 c)).setCell ⟨q, 7, none⟩ (.bool true)) := by
  subst hd
  refine ⟨rfl, (hk.set 6 _).set 7 _, vp, vt, ?_⟩
  rw [if_neg hc, decide_eq_true hc]
  exact (h.set 6 (.int .i64 c)).set 7 (.bool true)
theorem RunM.jump {w : World} {q A : Nat} {vl vw vp vt : Value} {r : Rn} {c xt : Int} {e : Bool} (h : RunM w q A 73 (sC vl vw r vp vt c e) vp vt r) (hx : 0 ≤ xt) : RunM (w.setCell ⟨q, 2, none⟩ (.int .i64 xt)) q A 73 (sC vl vw ⟨xt.toNat, r.place, r.pile, r.told⟩ vp vt c e) vp vt ⟨xt.toNat, r.place, r.pile, r.told⟩ := by
  have h2 := (h.set 2 (.int .i64 xt)).turn (r' := ⟨xt.toNat, r.place, r.pile, r.told⟩) rfl rfl
  refine h2.re ?_
  have e : ((xt.toNat : Nat) : Int) = xt := Int.toNat_of_nonneg hx
  simp only [sC, e]
  rfl
theorem info3p : (Try.prog.info? 3).map (fun i => (i.zero, i.size, i.bytes)) = some (some (.int .i64 0), 1, 8) := by kernel_rfl
set_option maxHeartbeats 800000 in
theorem stop41 (q : Nat) (c : Int) (w : World) (a0 a1 a2 a3 a4 a5 a6 a7 : Value) (h : Box w q 73 [a0, a1, a2, a3, a4, a5, a6, a7]) :
    Calls Try.prog 41 #[.pointer (some ⟨q, 0, none⟩), .int .i64 c] w fun e w' => e = .returned (.tuple #[]) ∧ w' = (w.setCell ⟨q, 6, none⟩ (.int .i64 c)).setCell ⟨q, 7, none⟩ (.bool true) := by
  have c6 : w.cell? ⟨q, 6, none⟩ = some a6 := h.cell 6 (by simp)
  have f6 := h.frozen 6
  have h2 := h.set 6 (.int .i64 c)
  have c7 : (w.setCell ⟨q, 6, none⟩ (.int .i64 c)).cell? ⟨q, 7, none⟩ = some a7 := h2.cell 7 (by simp)
  have f7 := h2.frozen 7
  clear h h2
  go_enter Try.func41, Try.ntmps41
  go_wp2_with fail
  refine bodyPost_end (v := .tuple #[]) (by simp [results, Try.results41]) rfl ⟨rfl, rfl⟩
end Go.Proofs.Ytilahbfcobhjeaa
