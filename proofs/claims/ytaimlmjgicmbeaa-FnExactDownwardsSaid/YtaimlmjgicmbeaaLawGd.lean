import Derived.Test.YtaimlmjgicmbeaaDe0
import Derived.BigQuiet
import Derived.BigRegion
import Derived.Deep.CutRange
import Derived.Deep.RegionHeld3
import Derived.Test.YtaimlmjgicmbeaaDi
import Derived.Test.YtaimlmjgicmbeaaDo
import Derived.Test.YtaimlmjgicmbeaaTo3
import Derived.Test.YtaimlmjgicmbeaaEq
/-! The specification: l06Good. -/
namespace Go.Proofs.Ytaimlmjgicmbeaa
open Go.RowKit Go.Deep
set_option linter.unusedVariables false
set_option maxRecDepth 100000
set_option linter.unusedSimpArgs false

theorem cn_take_le (T : Nat) (ss : List Int) (i : Nat) : cn T (ss.take i) ≤ cn T ss := (List.take_sublist i ss).countP_le
/-- The cells that a test reads. -/
def S8 (b0 kb m bp oq : Nat) (vp vk : Value) (kq : Nat) (Q : Pd) (vr : Value) (w' : World) : Prop := w'.cell? ⟨b0, 3, none⟩ = some vp ∧ w'.cell? ⟨b0 + 1, 1, none⟩ = some vk ∧ w'.cell? ⟨kb, m * 2, none⟩ = some (.int .i64 kq) ∧ w'.cell? ⟨bp, oq, none⟩ = some (.int .i64 Q.left) ∧ w'.cell? ⟨bp, oq + 1, none⟩ = some vr ∧ w'.cell? ⟨bp, oq + 2, none⟩ = some (.string Q.label) ∧ w'.cell? ⟨bp, oq + 3, none⟩ = some (.int .i64 Q.lev) ∧ w'.cell? ⟨bp, oq + 4, none⟩ = some (.int .i64 Q.asc)
/-- .. and of a Level's test. -/
def S6 (b0 b1 bi oi : Nat) (P Q : Pd) (vr : Value) (X : Int) (w' : World) : Prop := w'.cell? ⟨b0 + 2, 0, none⟩ = some (.int .i64 P.left) ∧ w'.cell? ⟨b0 + 2, 1, none⟩ = some vr ∧ w'.cell? ⟨b0 + 2, 3, none⟩ = some (.int .i64 P.lev) ∧ w'.cell? ⟨b0 + 2, 4, none⟩ = some (.int .i64 P.asc) ∧ w'.cell? ⟨bi, oi, none⟩ = some (.int .i64 X) ∧ w'.cell? ⟨b1, 3, none⟩ = some (.int .i64 Q.lev)
end Go.Proofs.Ytaimlmjgicmbeaa

/-! The specification: Good. -/
namespace Go.Proofs.Ytaimlmjgicmbeaa
open Go.RowKit Go.Deep
set_option linter.unusedVariables false
set_option maxRecDepth 100000
set_option linter.unusedSimpArgs false

end Go.Proofs.Ytaimlmjgicmbeaa

/-! The law FnExactGood, walked. -/
namespace Go.Proofs.Ytaimlmjgicmbeaa
open Go.RowKit Go.Deep
set_option linter.unusedVariables false
set_option maxRecDepth 100000
set_option linter.unusedSimpArgs false

theorem Ints.lt' {w : World} {S : Nat → Prop} {l : List Int} {v : Value} (h : Ints w S l v) : Ints w (fun b => b < w.heap.size) l v := by
  obtain ⟨a, cap, b, off, hv, hc, hm, ha, hcell⟩ := h
  exact ⟨a, cap, b, off, hv, hc, hm, fun h0 => ⟨(ha h0).1, lt_of_cell (hcell 0 h0)⟩, hcell⟩
theorem Tms.lt' {w : World} {S : Nat → Prop} {l : List Tm} {v : Value} (h : Tms w S l v) : Tms w (fun b => b < w.heap.size) l v := by
  obtain ⟨a, cap, b, off, hv, hc, hm, ha, hcell⟩ := h
  exact ⟨a, cap, b, off, hv, hc, hm, fun h0 => ⟨(ha h0).1, lt_of_cell (hcell 0 h0).1⟩, hcell⟩
theorem Strs.lt' {w : World} {S : Nat → Prop} {l : List ByteArray} {v : Value} (h : Strs w S l v) : Strs w (fun b => b < w.heap.size) l v := by
  obtain ⟨a, cap, b, off, hv, hc, hm, ha, hcell⟩ := h
  exact ⟨a, cap, b, off, hv, hc, hm, fun h0 => ⟨(ha h0).1, lt_of_cell (hcell 0 h0).1⟩, hcell⟩
theorem Pds.lt' {w : World} {S : Nat → Prop} {l : List Pd} {v : Value} (h : Pds w S l v) : Pds w (fun b => b < w.heap.size) l v := by
  obtain ⟨a, cap, b, off, sv, hv, hc, hm, ha, hcell, hr⟩ := h
  exact ⟨a, cap, b, off, sv, hv, hc, hm, fun h0 => ⟨(ha h0).1, lt_of_cell (hcell 0 h0).1⟩, hcell, fun i hi => (hr i hi).lt'⟩
theorem BLies.lt' {w : World} {S : Nat → Prop} {d : Bn} {v0 v1 v3 : Value} (h : BLies w S d v0 v1 v3) : BLies w (fun b => b < w.heap.size) d v0 v1 v3 := ⟨h.terms.lt', h.nons.lt', h.prods.lt'⟩
end Go.Proofs.Ytaimlmjgicmbeaa
