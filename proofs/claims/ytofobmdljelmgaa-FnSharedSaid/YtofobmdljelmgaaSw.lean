import Derived.Test.YtofobmdljelmgaaCo
/-! The specification: SharedWith. -/
namespace Go.Proofs.Ytofobmdljelmgaa
open Go.RowKit Go.Deep
set_option linter.unusedVariables false
set_option maxRecDepth 100000
set_option linter.unusedSimpArgs false

/-- The nodes of two trees, the first one's number of nodes, the second one's number. -/
def n2 (a b : Tr) : List Nd := (putT b (putT a []).1).1
def m2 (a : Tr) : Nat := (putT a []).1.length
def q2 (a b : Tr) : Nat := (putT b (putT a []).1).2
theorem putTs2 (a b : Tr) : putTs [a, b] [] = (n2 a b, [(putT a []).2, q2 a b]) := rfl
theorem putTs1 (a : Tr) : putTs [a] [] = ((putT a []).1, [(putT a []).2]) := rfl
def okB (a b : Tr) : Bool := a.ok && b.ok
def swN (a b : Tr) : Nat := if okB a b then vv (kf (m2 a)) (n2 a b) (q2 a b) else 0
def swC (a b : Tr) : Int := if okB a b then 0 else 1
theorem ok_cnt {t : Tr} (h : t.ok = true) : t.cnt ≤ 1000 := by
  unfold Tr.ok at h
  simp only [Bool.and_eq_true, decide_eq_true_eq] at h
  exact h.1.1
theorem gd_nil : gdN [] := fun q n h => by simp at h
theorem n2_facts (a b : Tr) : (n2 a b).Nodup ∧ gdN (n2 a b) ∧ isT b (n2 a b) (q2 a b) ∧ (n2 a b).length ≤ a.cnt + b.cnt ∧ m2 a ≤ a.cnt := by
  have h1 := (putT_keep a [] (by simp)).2.1
  have h2 := (putT_keep b _ h1).2.1
  have h3 := putT_len a []
  have h4 := putT_len b (putT a []).1
  simp only [List.length_nil] at h3
  exact ⟨h2, putT_gd b _ h1 (putT_gd a [] (by simp) gd_nil), isT_put b _, by unfold n2; omega, by unfold m2; omega⟩
theorem Lies.in' {w : World} {S : Nat → Prop} {t : Tr} {v : Value} (h : Lies w S t v) : Lies w (fun q => q < w.heap.size) t v :=
  Lies.carry (S' := fun q => q < w.heap.size) (fun b _ hb => hb) (fun b o _ _ => rfl) (fun b o v h => lt_of_cell h) h
theorem Lies.to' {w w' : World} {S : Nat → Prop} {t : Tr} {v : Value} {B : Nat} (h : Lies w S t v) (hb : Below w.heap.size w w') (hB : w.heap.size ≤ B) : Lies w' (fun q => q < B) t v :=
  Lies.carry (S' := fun q => q < B) (fun b _ hb => by omega) (fun b o _ hlt => World.cell?_of_block (w := w) (hb.block b hlt)) (fun b o v h => lt_of_cell h) h
/-- Two trees in a row that was made. -/
theorem trs2 {w : World} {S S' : Nat → Prop} {a b : Tr} {va vb : Value} (ha : Lies w S a va) (hb : Lies w S' b vb) : Trs (w.alloc (.cells #[.string a.name, .string a.text, .bool a.leaf, va, .string b.name, .string b.text, .bool b.leaf, vb] 39)) (fun q => q < w.heap.size + 1) [a, b] (.slice (some ⟨w.heap.size, 0, none⟩) 2 2) := by
  have hbx := Box.new w 39 [.string a.name, .string a.text, .bool a.leaf, va, .string b.name, .string b.text, .bool b.leaf, vb]
  have hba := bel_alloc w (.cells #[.string a.name, .string a.text, .bool a.leaf, va, .string b.name, .string b.text, .bool b.leaf, vb] 39)
  refine ⟨some ⟨w.heap.size, 0, none⟩, 2, w.heap.size, 0, fun i => if i = 0 then va else vb, rfl, Nat.le_refl _, by decide, fun _ => ⟨rfl, by omega⟩, fun i hi => ?_, fun i hi => ?_⟩
  · match i, hi with
    | 0, _ => exact ⟨hbx.cell 0 (by simp), hbx.cell 1 (by simp), hbx.cell 2 (by simp), hbx.cell 3 (by simp)⟩
    | 1, _ => exact ⟨hbx.cell 4 (by simp), hbx.cell 5 (by simp), hbx.cell 6 (by simp), hbx.cell 7 (by simp)⟩
  · match i, hi with
    | 0, _ => exact ha.to' hba (by omega)
    | 1, _ => exact hb.to' hba (by omega)
theorem trs1 {w : World} {S : Nat → Prop} {a : Tr} {va : Value} (ha : Lies w S a va) : Trs (w.alloc (.cells #[.string a.name, .string a.text, .bool a.leaf, va] 39)) (fun q => q < w.heap.size + 1) [a] (.slice (some ⟨w.heap.size, 0, none⟩) 1 1) := by
  have hbx := Box.new w 39 [.string a.name, .string a.text, .bool a.leaf, va]
  have hba := bel_alloc w (.cells #[.string a.name, .string a.text, .bool a.leaf, va] 39)
  refine ⟨some ⟨w.heap.size, 0, none⟩, 1, w.heap.size, 0, fun i => va, rfl, Nat.le_refl _, by decide, fun _ => ⟨rfl, by omega⟩, fun i hi => ?_, fun i hi => ?_⟩
  · match i, hi with
    | 0, _ => exact ⟨hbx.cell 0 (by simp), hbx.cell 1 (by simp), hbx.cell 2 (by simp), hbx.cell 3 (by simp)⟩
  · match i, hi with
    | 0, _ => exact ha.to' hba (by omega)
theorem cntL2 (a b : Tr) : Tr.cntL [a, b] = a.cnt + b.cnt := by simp [Tr.cntL]
theorem cntL1 (a : Tr) : Tr.cntL [a] = a.cnt := by simp [Tr.cntL]
theorem run_field35 (u r : Value) (w : World) : (Instr.field 27 (.agg #[u, r]) 0).run Try.prog w = .ok u w := by
  unfold Instr.field
  simp [run_underlying Try.underlying27, asAgg, part, isAgg, run_underlying Try.underlying24]
/-- What SharedWith answers. -/
def SwR (a b : Tr) (w : World) (e : Ending) (w' : World) : Prop := e = .returned (.tuple #[.int .i64 (swN a b : Nat), .int .i64 (swC a b)]) ∧ Below w.heap.size w w'
end Go.Proofs.Ytofobmdljelmgaa
