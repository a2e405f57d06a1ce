import Derived.Test.YtblfeifedcddnaaVp
import Derived.Test.YtblfeifedcddnaaVd
import Derived.Test.YtblfeifedcddnaaVe
import Derived.Test.YtblfeifedcddnaaHeld
/-! What the law FnExactPatch keeps. -/
namespace Go.Proofs.Ytblfeifedcddnaa
open Go.RowKit Go.Deep
set_option linter.unusedVariables false
set_option maxRecDepth 100000
set_option linter.unusedSimpArgs false

theorem liesAny {w : World} {S : Nat → Prop} {t : Tr} {v : Value} (h : Lies w S t v) : Lies w (fun _ => True) t v := h.mono (fun _ _ => trivial)
theorem outBelow {w Z Z' : World} {lo hi B : Nat} (h : Below B w Z) (ho : Out lo hi Z Z') (hB : B ≤ lo) (hz : B ≤ Z.heap.size) : Below B w Z' :=
  ⟨ho.1.trans h.os, ho.2.1.trans h.tape, ho.2.2.1.trans h.output, Nat.le_trans h.size ho.2.2.2.1, fun k hk => (ho.2.2.2.2 k (by omega) (by omega)).trans (h.block k hk)⟩
theorem Own.outs {w w' : World} {t : Tr} {v : Value} {lo hi a c : Nat} (h : Own w lo hi t v) (ho : Out a c w w') (hr : hi ≤ a ∨ c ≤ lo) : Own w' lo hi t v :=
  h.keep (Nat.le_refl _) (Nat.le_refl _) (fun k k1 k2 k3 => ho.2.2.2.2 k k3 (by omega))
theorem held38 (t : Tr) (v : Value) (w : World) (lo hi n : Nat) (h : Own w lo hi (mk t n) v) (hn : 0 < n) (hnk : n + 3 * Tr.cntL t.kids ≤ 67108864) :
    Calls Try.prog 38 #[t.val v, .int .i64 n] w fun e w' => e = .returned (.int .i64 (n + 3 * Tr.cntL t.kids : Nat)) ∧ Below w.heap.size w w' := by
  have hl : Lies w (fun _ => True) ⟨t.name, t.text, t.leaf, (mkP t).2 n⟩ v := liesAny h.lies
  have hcl := heldS_any t t.name t.text t.leaf v (w.alloc (.cells #[.string t.name, .string t.text, .bool t.leaf, v] 51)) n (hl.still (bel_alloc _ _)) hn hnk
  obtain ⟨a, len, cap, rfl⟩ := h.form
  have HCL := (show Hid _ from hcl); clear hcl h hl
  simp only [Tr.val]
  generalize n + 3 * Tr.cntL t.kids = m at *
  have hm : ¬ ((m : Int) < 0) := by omega
  go_enter Try.func38, Try.ntmps38
  go_wp2_with fail
  refine Calls.mono HCL.out ?_
  rintro e w1 ⟨rfl, hb⟩
  have HB := (show Hid _ from bel_box hb); clear hb
  go_wp2_with fail
  go_ret
  exact ⟨rfl, HB.out⟩
theorem pt_cnt (a : Tr) (d : De) : 3 * Tr.cntL (ptR a d).1.kids ≤ 3000 := by
  have key : (ptR a d).1.ok = true ∨ (ptR a d).1 = noTr := by
    unfold ptR
    split
    · split
      · exact .inr rfl
      · split
        · rename_i h
          exact .inl h
        · exact .inr rfl
    · exact .inr rfl
  rcases key with h | h
  · have h1 := ok_cntF h
    have h2 := cnt_eq (ptR a d).1
    omega
  · rw [h]
    simp [noTr, Tr.cntL]
/-- What lies there behind both answers: the copies, and the program's tree. -/
structure LQa (W3 : World) (a M : Tr) (d : De) (X0 X1 b0 Y0 Y1 b1 G0 G1 b2 : Nat) (xv tv kv gv : Value) (c0 c1 c2 : List Value) (W : World) : Prop where
  bel : Below W3.heap.size W3 W
  x : Own W X0 X1 a xv
  bx : Box W b0 51 c0
  y : DOwn W Y0 Y1 d tv kv
  by1 : Box W b1 57 c1
  g : Own W G0 G1 M gv
  bg : Box W b2 51 c2
  o : W3.heap.size ≤ X0 ∧ X0 ≤ X1 ∧ X1 ≤ b0 ∧ b0 < Y0 ∧ Y0 ≤ Y1 ∧ Y1 ≤ b1 ∧ b1 < G0 ∧ G0 ≤ G1 ∧ G1 ≤ b2
theorem LQa.still {W3 W W' : World} {a M : Tr} {d : De} {X0 X1 b0 Y0 Y1 b1 G0 G1 b2 : Nat} {xv tv kv gv : Value} {c0 c1 c2 : List Value} (h : LQa W3 a M d X0 X1 b0 Y0 Y1 b1 G0 G1 b2 xv tv kv gv c0 c1 c2 W) (hb : Below W.heap.size W W') : LQa W3 a M d X0 X1 b0 Y0 Y1 b1 G0 G1 b2 xv tv kv gv c0 c1 c2 W' :=
  ⟨h.bel.trans (hb.mono h.bel.size), h.x.still hb, h.bx.still hb, h.y.still hb, h.by1.still hb, h.g.still hb, h.bg.still hb, h.o⟩
/-- .. the copy of the tree is marked: it is let go. -/
structure LQb (W3 : World) (M : Tr) (d : De) (Y0 Y1 b1 G0 G1 b2 : Nat) (tv kv gv : Value) (c1 c2 : List Value) (W : World) : Prop where
  bel : Below W3.heap.size W3 W
  y : DOwn W Y0 Y1 d tv kv
  by1 : Box W b1 57 c1
  g : Own W G0 G1 M gv
  bg : Box W b2 51 c2
  o : W3.heap.size ≤ Y0 ∧ Y0 ≤ Y1 ∧ Y1 ≤ b1 ∧ b1 < G0 ∧ G0 ≤ G1 ∧ G1 ≤ b2
theorem LQa.marked {W3 W W' : World} {a M : Tr} {d : De} {X0 X1 b0 Y0 Y1 b1 G0 G1 b2 : Nat} {xv tv kv gv : Value} {c0 c1 c2 : List Value} (h : LQa W3 a M d X0 X1 b0 Y0 Y1 b1 G0 G1 b2 xv tv kv gv c0 c1 c2 W) (ho : Out X0 X1 W W') : LQb W3 M d Y0 Y1 b1 G0 G1 b2 tv kv gv c1 c2 W' := by
  have o := h.o
  exact ⟨outBelow h.bel ho (by omega) h.bel.size, h.y.outs ho (by omega), h.by1.out ho (by omega), h.g.outs ho (by omega), h.bg.out ho (by omega), by omega⟩
/-- .. and that of the change. -/
structure LQc (W3 : World) (M : Tr) (G0 G1 b1 : Nat) (gv : Value) (c1 : List Value) (W : World) : Prop where
  bel : Below W3.heap.size W3 W
  g : Own W G0 G1 M gv
  bg : Box W b1 51 c1
  o : W3.heap.size ≤ G0 ∧ G0 ≤ G1 ∧ G1 ≤ b1
theorem LQb.marked {W3 W W' : World} {M : Tr} {d : De} {Y0 Y1 b1 G0 G1 b2 : Nat} {tv kv gv : Value} {c1 c2 : List Value} (h : LQb W3 M d Y0 Y1 b1 G0 G1 b2 tv kv gv c1 c2 W) (ho : Out Y0 Y1 W W') : LQc W3 M G0 G1 b2 gv c2 W' := by
  have o := h.o
  exact ⟨outBelow h.bel ho (by omega) h.bel.size, h.g.outs ho (by omega), h.bg.out ho (by omega), by omega⟩
theorem LQc.still {W3 W W' : World} {M : Tr} {G0 G1 b1 : Nat} {gv : Value} {c1 : List Value} (h : LQc W3 M G0 G1 b1 gv c1 W) (hb : Below W.heap.size W W') : LQc W3 M G0 G1 b1 gv c1 W' :=
  ⟨h.bel.trans (hb.mono h.bel.size), h.g.still hb, h.bg.still hb, h.o⟩
theorem LQc.marked {W3 W W' : World} {M M' : Tr} {G0 G1 b1 : Nat} {gv : Value} {c1 : List Value} (h : LQc W3 M G0 G1 b1 gv c1 W) (ho : Out G0 G1 W W') (hg : Own W' G0 G1 M' gv) : LQc W3 M' G0 G1 b1 gv c1 W' := by
  have o := h.o
  exact ⟨outBelow h.bel ho (by omega) h.bel.size, hg, h.bg.out ho (by omega), by omega⟩
/-- The cells of a tree and of a change in two boxes. -/
def E10 (p q : Nat) (an ax : ByteArray) (af : Bool) (va : Value) (dc : Int) (dn dx : ByteArray) (df : Bool) (tv kv : Value) (wq : World) : Prop :=
  (wq.cell? ⟨p, 0, none⟩ = some (.string an) ∧ wq.cell? ⟨p, 1, none⟩ = some (.string ax) ∧ wq.cell? ⟨p, 2, none⟩ = some (.bool af) ∧ wq.cell? ⟨p, 3, none⟩ = some va) ∧ wq.cell? ⟨q, 0, none⟩ = some (.int .i64 dc) ∧ wq.cell? ⟨q, 1, none⟩ = some (.string dn) ∧ wq.cell? ⟨q, 2, none⟩ = some (.string dx) ∧ wq.cell? ⟨q, 3, none⟩ = some (.bool df) ∧ wq.cell? ⟨q, 4, none⟩ = some tv ∧ wq.cell? ⟨q, 5, none⟩ = some kv
theorem E10.of {p q T T' : Nat} {an ax : ByteArray} {af : Bool} {va : Value} {dc : Int} {dn dx : ByteArray} {df : Bool} {tv kv : Value} {wq : World} (h : Box wq p T [.string an, .string ax, .bool af, va]) (h' : Box wq q T' [.int .i64 dc, .string dn, .string dx, .bool df, tv, kv]) : E10 p q an ax af va dc dn dx df tv kv wq :=
  ⟨⟨h.cell 0 (by simp), h.cell 1 (by simp), h.cell 2 (by simp), h.cell 3 (by simp)⟩, h'.cell 0 (by simp), h'.cell 1 (by simp), h'.cell 2 (by simp), h'.cell 3 (by simp), h'.cell 4 (by simp), h'.cell 5 (by simp)⟩
end Go.Proofs.Ytblfeifedcddnaa
