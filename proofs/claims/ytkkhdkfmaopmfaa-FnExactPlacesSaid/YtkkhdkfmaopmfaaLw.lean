import Derived.Test.YtkkhdkfmaopmfaaIm
import Derived.Test.YtkkhdkfmaopmfaaIp
import Derived.Test.YtkkhdkfmaopmfaaBo
import Derived.Test.YtkkhdkfmaopmfaaSm
import Derived.Test.YtkkhdkfmaopmfaaSz
import Derived.Test.YtkkhdkfmaopmfaaToOwn
import Derived.Test.YtkkhdkfmaopmfaaEq
/-! What the law FnExactMatch keeps. -/
namespace Go.Proofs.Ytkkhdkfmaopmfaa
open Go.RowKit Go.Deep
set_option linter.unusedVariables false
set_option maxRecDepth 100000
set_option linter.unusedSimpArgs false

theorem liesAny {w : World} {S : Nat → Prop} {t : Tr} {v : Value} (h : Lies w S t v) : Lies w (fun _ => True) t v :=
  Lies.carry (S' := fun _ => True) (fun b _ _ => trivial) (fun b o _ _ => rfl) (fun b o v h => lt_of_cell h) h
theorem outBelow {w Z Z' : World} {lo hi B : Nat} (h : Below B w Z) (ho : Out lo hi Z Z') (hB : B ≤ lo) (hz : B ≤ Z.heap.size) : Below B w Z' :=
  ⟨ho.1.trans h.os, ho.2.1.trans h.tape, ho.2.2.1.trans h.output, Nat.le_trans h.size ho.2.2.2.1, fun k hk => (ho.2.2.2.2 k (by omega) (by omega)).trans (h.block k hk)⟩
theorem BGr.outs {bl : List (ByteArray × Tr)} {B j lo hi : Nat} {v : Value} {w w' : World} (h : BGr bl B j v w) (ho : Out lo hi w w') (hB : hi ≤ B) : BGr bl B j v w' := by
  obtain ⟨fs, l, hh, h1, h2, h3, h4⟩ := h
  have hlt := h1.lt
  refine ⟨fs, l, hh, own_keep1 h1 (fun k hk => ho.2.2.2.2 k (hlt k hk).2 (.inr (by have := (hlt k hk).1; omega))), fun i hi' => (h2 i hi').keep (Nat.le_refl _) (Nat.le_refl _) (fun k k1 k2 k3 => ho.2.2.2.2 k k3 (.inr (by have := (h3 i hi').1; omega))), fun i hi' => ⟨(h3 i hi').1, Nat.le_trans (h3 i hi').2.1 ho.2.2.2.1, (h3 i hi').2.2⟩, h4⟩
theorem Own.outs {w w' : World} {t : Tr} {v : Value} {lo hi a c : Nat} (h : Own w lo hi t v) (ho : Out a c w w') (hr : hi ≤ a ∨ c ≤ lo) : Own w' lo hi t v :=
  h.keep (Nat.le_refl _) (Nat.le_refl _) (fun k k1 k2 k3 => ho.2.2.2.2 k k3 (by omega))
/-- Eight cells. -/
def E8 (p q : Nat) (an ax : ByteArray) (af : Bool) (va : Value) (bn bx : ByteArray) (bf : Bool) (vb : Value) (wq : World) : Prop :=
  (wq.cell? ⟨p, 0, none⟩ = some (.string an) ∧ wq.cell? ⟨p, 1, none⟩ = some (.string ax) ∧ wq.cell? ⟨p, 2, none⟩ = some (.bool af) ∧ wq.cell? ⟨p, 3, none⟩ = some va) ∧ wq.cell? ⟨q, 0, none⟩ = some (.string bn) ∧ wq.cell? ⟨q, 1, none⟩ = some (.string bx) ∧ wq.cell? ⟨q, 2, none⟩ = some (.bool bf) ∧ wq.cell? ⟨q, 3, none⟩ = some vb
theorem E8.of {p q T T' : Nat} {an ax : ByteArray} {af : Bool} {va : Value} {bn bx : ByteArray} {bf : Bool} {vb : Value} {wq : World} (h : Box wq p T [.string an, .string ax, .bool af, va]) (h' : Box wq q T' [.string bn, .string bx, .bool bf, vb]) : E8 p q an ax af va bn bx bf vb wq :=
  ⟨⟨h.cell 0 (by simp), h.cell 1 (by simp), h.cell 2 (by simp), h.cell 3 (by simp)⟩, h'.cell 0 (by simp), h'.cell 1 (by simp), h'.cell 2 (by simp), h'.cell 3 (by simp)⟩
/-- markTree. -/
theorem mark13 (t : Tr) (v : Value) (w : World) (lo hi n : Nat) (h : Own w lo hi t v) (hhi : hi ≤ w.heap.size) (hn : 0 < n) (hnk : n + 3 * Tr.cntL t.kids ≤ 67108864) :
    Calls Try.prog 13 #[t.val v, .int .i64 n] w fun e w' => e = .returned (.int .i64 (n + 3 * Tr.cntL t.kids : Nat)) ∧ Out lo hi w w' := by
  have hcl := markS_any t v (w.alloc (.cells #[.string t.name, .string t.text, .bool t.leaf, v] 31)) lo hi n (h.keep (Nat.le_refl _) (Nat.le_refl _) (fun k _ _ hk => (bel_alloc w _).block k hk)) (by simp; omega) hn hnk
  obtain ⟨a, len, cap, rfl⟩ := h.form
  have HCL := (show Hid _ from hcl); clear hcl h
  simp only [Tr.val]
  go_enter Try.func13, Try.ntmps13
  go_wp2_with fail
  refine Calls.mono HCL.out ?_
  rintro e w1 ⟨rfl, ho, hown⟩
  have HO := (show Hid _ from (⟨ho, hown⟩ : _ ∧ _)); clear ho hown
  go_wp2_with fail
  go_ret
  exact ⟨rfl, (Out.of_below (bel_alloc _ _)).trans HO.out.1⟩
/-- What lies there behind the specification's answer and the program's: the copies with their boxes, and the program's binds. -/
structure LMa (W3 : World) (p t : Tr) (M : List (ByteArray × Tr)) (X0 X1 b0 Y0 Y1 b1 B : Nat) (xv yv g : Value) (c0 c1 : List Value) (T : Nat) (W : World) : Prop where
  bel : Below W3.heap.size W3 W
  x : Own W X0 X1 p xv
  bx : Box W b0 T c0
  y : Own W Y0 Y1 t yv
  by1 : Box W b1 T c1
  g : BGr M B M.length g W
  o : W3.heap.size ≤ X0 ∧ X0 ≤ X1 ∧ X1 ≤ b0 ∧ b0 < Y0 ∧ Y0 ≤ Y1 ∧ Y1 ≤ b1 ∧ b1 < B
theorem LMa.still {W3 W W' : World} {p t : Tr} {M : List (ByteArray × Tr)} {X0 X1 b0 Y0 Y1 b1 B : Nat} {xv yv g : Value} {c0 c1 : List Value} {T : Nat} (h : LMa W3 p t M X0 X1 b0 Y0 Y1 b1 B xv yv g c0 c1 T W) (hb : Below W.heap.size W W') : LMa W3 p t M X0 X1 b0 Y0 Y1 b1 B xv yv g c0 c1 T W' :=
  ⟨h.bel.trans (hb.mono h.bel.size), h.x.still hb, h.bx.still hb, h.y.still hb, h.by1.still hb, h.g.still hb, h.o⟩
/-- .. the first copy is marked: it is let go. -/
structure LMb (W3 : World) (t : Tr) (M : List (ByteArray × Tr)) (Y0 Y1 b1 B : Nat) (yv g : Value) (c1 : List Value) (T : Nat) (W : World) : Prop where
  bel : Below W3.heap.size W3 W
  y : Own W Y0 Y1 t yv
  by1 : Box W b1 T c1
  g : BGr M B M.length g W
  o : W3.heap.size ≤ Y0 ∧ Y0 ≤ Y1 ∧ Y1 ≤ b1 ∧ b1 < B
theorem LMa.marked {W3 W W' : World} {p t : Tr} {M : List (ByteArray × Tr)} {X0 X1 b0 Y0 Y1 b1 B : Nat} {xv yv g : Value} {c0 c1 : List Value} {T : Nat} (h : LMa W3 p t M X0 X1 b0 Y0 Y1 b1 B xv yv g c0 c1 T W) (ho : Out X0 X1 W W') : LMb W3 t M Y0 Y1 b1 B yv g c1 T W' := by
  have o := h.o
  exact ⟨outBelow h.bel ho (by omega) h.bel.size, h.y.outs ho (by omega), h.by1.out ho (by omega), h.g.outs ho (by omega), by omega⟩
/-- .. and the second one. -/
structure LMc (W3 : World) (M : List (ByteArray × Tr)) (B : Nat) (g : Value) (W : World) : Prop where
  bel : Below W3.heap.size W3 W
  g : BGr M B M.length g W
  o : W3.heap.size ≤ B
theorem LMb.marked {W3 W W' : World} {t : Tr} {M : List (ByteArray × Tr)} {Y0 Y1 b1 B : Nat} {yv g : Value} {c1 : List Value} {T : Nat} (h : LMb W3 t M Y0 Y1 b1 B yv g c1 T W) (ho : Out Y0 Y1 W W') : LMc W3 M B g W' := by
  have o := h.o
  exact ⟨outBelow h.bel ho (by omega) h.bel.size, h.g.outs ho (by omega), by omega⟩
theorem LMc.still {W3 W W' : World} {M : List (ByteArray × Tr)} {B : Nat} {g : Value} (h : LMc W3 M B g W) (hb : Below W.heap.size W W') : LMc W3 M B g W' :=
  ⟨h.bel.trans (hb.mono h.bel.size), h.g.still hb, h.o⟩
/-- The binds are marked. -/
theorem markG14 {W3 W : World} {M : List (ByteArray × Tr)} {B : Nat} {g : Value} (h : LMc W3 M B g W) (hnk : 1 + bo M M.length ≤ 67108864) :
    Calls Try.prog 14 #[g, .int .i64 1] W fun e w' => e = .returned (.int .i64 (1 + bo M M.length : Nat)) ∧ Below W3.heap.size W3 w' ∧ BHd M 1 g w' := by
  obtain ⟨a, cap, b, sv, l, hh, rfl, hr⟩ := h.g.rows
  refine Calls.mono (markBinds14 M 1 B W.heap.size a cap b sv l hh W hr (Nat.le_refl _) (by omega) hnk) ?_
  rintro e w' ⟨rfl, ho, hd⟩
  exact ⟨rfl, outBelow h.bel ho h.o h.bel.size, hd⟩
end Go.Proofs.Ytkkhdkfmaopmfaa
