import Derived.Test.YtkkhdkfmaopmfaaLw
import Derived.Test.YtkkhdkfmaopmfaaRm
import Derived.Test.YtkkhdkfmaopmfaaIl
import Derived.Deep.CutRange
import Derived.Deep.RegionHeld3
import Derived.Deep.RegionWith
/-! The law FnExactPlaces, walked. -/
namespace Go.Proofs.Ytkkhdkfmaopmfaa
open Go.RowKit Go.Deep
set_option linter.unusedVariables false
set_option maxRecDepth 100000
set_option linter.unusedSimpArgs false

theorem spK_mem {α : Type} {y : α} (xs : List Nat) : ∀ (fs : List (List Nat → List α)) (i : Nat), y ∈ spK fs i xs → ∃ q, ∃ h : q < fs.length, y ∈ fs[q] (xs ++ [i + q])
  | [], i, h => by simp [spK] at h
  | f :: fs, i, h => by
    rw [spK] at h
    rcases List.mem_append.1 h with g | g
    · exact ⟨0, by simp, by simpa using g⟩
    · obtain ⟨q, hq, e⟩ := spK_mem xs fs (i + 1) g
      refine ⟨q + 1, by simp; omega, ?_⟩
      simpa [show i + (q + 1) = i + 1 + q from by omega] using e
theorem ps_path (t : Tr) : ∀ xs y, y ∈ ps t xs → y.2.length ≤ xs.length + t.cnt := by
  refine Tr.ind (P := fun t => ∀ xs y, y ∈ ps t xs → y.2.length ≤ xs.length + t.cnt) ?_ t
  intro n x lf k ih xs y hy
  rw [ps_mk] at hy
  rw [Tr.cnt_mk]
  rcases List.mem_cons.1 hy with e | e
  · subst e
    dsimp only
    omega
  · obtain ⟨q, hq, e⟩ := spK_mem xs (k.map ps) 0 e
    rw [List.length_map] at hq
    rw [List.getElem_map] at e
    have h1 := ih q hq _ _ e
    have h2 := Tr.cntL_take_succ k q hq
    have h3 := Tr.cntL_take_le k (q + 1)
    rw [List.length_append] at h1
    simp at h1
    omega
theorem ro_bound (ls : List (List Nat)) (C : Nat) (h : ∀ l ∈ ls, l.length ≤ C) : ro ls ls.length ≤ ls.length * C := by
  unfold ro
  rw [List.take_length]
  induction ls with
  | nil => simp
  | cons l r ih =>
    have h1 := h l (by simp)
    have h2 := ih (fun x hx => h x (by simp [hx]))
    rw [List.map_cons, List.sum_cons, List.length_cons, Nat.add_mul, Nat.one_mul]
    omega
/-- The marks suffice. -/
theorem pl_marks (p t : Tr) : 1 + ro (plR p t).1 (plR p t).1.length ≤ 67108864 := by
  unfold plR
  split
  · rename_i hok
    rw [Bool.and_eq_true] at hok
    have ht := ok_cnt hok.2
    dsimp only
    have h1 := plT_len p t []
    have h2 := ro_bound (plT p t []) 1000 (fun l hl => by
      unfold plT at hl
      obtain ⟨y, hy, rfl⟩ := List.mem_map.1 hl
      have := ps_path t [] y (List.mem_filter.1 hy).1
      simp at this
      omega)
    have : (plT p t []).length * 1000 ≤ 1000 * 1000 := Nat.mul_le_mul_right _ (by omega)
    omega
  · simp [ro]
/-- Rows of rows that are owned. -/
def GRr (M : List (List Nat)) (B : Nat) (g : Value) (W : World) : Prop := ∃ vs, RRv W B M g vs
theorem GRr.still {M : List (List Nat)} {B : Nat} {g : Value} {W W' : World} (h : GRr M B g W) (hb : Below W.heap.size W W') : GRr M B g W' := by
  obtain ⟨vs, h⟩ := h
  exact ⟨vs, h.still hb⟩
theorem GRr.rd {M : List (List Nat)} {B : Nat} {g : Value} {W : World} (h : GRr M B g W) : RdR W M g := by
  obtain ⟨vs, h⟩ := h
  exact h.rd
theorem GRr.outs {M : List (List Nat)} {B lo hi : Nat} {g : Value} {W W' : World} (h : GRr M B g W) (ho : Out lo hi W W') (hB : hi ≤ B) : GRr M B g W' := by
  obtain ⟨vs, h⟩ := h
  have h1 := World.ownsRow.lt h.out
  exact ⟨vs, h.keep (fun q hq => ho.2.2.2.2 q (h1 q hq).2 (.inr (by have := (h1 q hq).1; omega))) (fun i hi q hq => ho.2.2.2.2 q (World.ownsRow.lt (h.row i hi) q hq).2 (.inr (by have := (World.ownsRow.lt (h.row i hi) q hq).1; omega)))⟩
/-- What is marked. -/
def RHd (M : List (List Nat)) (g : Value) (W : World) : Prop := RdR W (mkJ 1 M M.length) g
theorem RHd.still {M : List (List Nat)} {g : Value} {W W' : World} (h : RHd M g W) (hb : Below W.heap.size W W') : RHd M g W' := RdR.still h hb
/-- What lies there behind both answers: the copies with their boxes, and the program's rows. -/
structure LPa (W3 : World) (p t : Tr) (M : List (List Nat)) (X0 X1 b0 Y0 Y1 b1 B : Nat) (xv yv g : Value) (c0 c1 : List Value) (T : Nat) (W : World) : Prop where
  bel : Below W3.heap.size W3 W
  x : Own W X0 X1 p xv
  bx : Box W b0 T c0
  y : Own W Y0 Y1 t yv
  by1 : Box W b1 T c1
  g : GRr M B g W
  o : W3.heap.size ≤ X0 ∧ X0 ≤ X1 ∧ X1 ≤ b0 ∧ b0 < Y0 ∧ Y0 ≤ Y1 ∧ Y1 ≤ b1 ∧ b1 < B
theorem LPa.still {W3 W W' : World} {p t : Tr} {M : List (List Nat)} {X0 X1 b0 Y0 Y1 b1 B : Nat} {xv yv g : Value} {c0 c1 : List Value} {T : Nat} (h : LPa W3 p t M X0 X1 b0 Y0 Y1 b1 B xv yv g c0 c1 T W) (hb : Below W.heap.size W W') : LPa W3 p t M X0 X1 b0 Y0 Y1 b1 B xv yv g c0 c1 T W' :=
  ⟨h.bel.trans (hb.mono h.bel.size), h.x.still hb, h.bx.still hb, h.y.still hb, h.by1.still hb, h.g.still hb, h.o⟩
structure LPb (W3 : World) (t : Tr) (M : List (List Nat)) (Y0 Y1 b1 B : Nat) (yv g : Value) (c1 : List Value) (T : Nat) (W : World) : Prop where
  bel : Below W3.heap.size W3 W
  y : Own W Y0 Y1 t yv
  by1 : Box W b1 T c1
  g : GRr M B g W
  o : W3.heap.size ≤ Y0 ∧ Y0 ≤ Y1 ∧ Y1 ≤ b1 ∧ b1 < B
theorem LPa.marked {W3 W W' : World} {p t : Tr} {M : List (List Nat)} {X0 X1 b0 Y0 Y1 b1 B : Nat} {xv yv g : Value} {c0 c1 : List Value} {T : Nat} (h : LPa W3 p t M X0 X1 b0 Y0 Y1 b1 B xv yv g c0 c1 T W) (ho : Out X0 X1 W W') : LPb W3 t M Y0 Y1 b1 B yv g c1 T W' := by
  have o := h.o
  exact ⟨outBelow h.bel ho (by omega) h.bel.size, h.y.outs ho (by omega), h.by1.out ho (by omega), h.g.outs ho (by omega), by omega⟩
structure LPc (W3 : World) (M : List (List Nat)) (B : Nat) (g : Value) (W : World) : Prop where
  bel : Below W3.heap.size W3 W
  g : GRr M B g W
  o : W3.heap.size ≤ B
theorem LPb.marked {W3 W W' : World} {t : Tr} {M : List (List Nat)} {Y0 Y1 b1 B : Nat} {yv g : Value} {c1 : List Value} {T : Nat} (h : LPb W3 t M Y0 Y1 b1 B yv g c1 T W) (ho : Out Y0 Y1 W W') : LPc W3 M B g W' := by
  have o := h.o
  exact ⟨outBelow h.bel ho (by omega) h.bel.size, h.g.outs ho (by omega), by omega⟩
theorem LPc.still {W3 W W' : World} {M : List (List Nat)} {B : Nat} {g : Value} (h : LPc W3 M B g W) (hb : Below W.heap.size W W') : LPc W3 M B g W' :=
  ⟨h.bel.trans (hb.mono h.bel.size), h.g.still hb, h.o⟩
theorem markG24 {W3 W : World} {M : List (List Nat)} {B : Nat} {g : Value} (h : LPc W3 M B g W) (hnk : 1 + ro M M.length ≤ 67108864) :
    Calls Try.prog 24 #[g, .int .i64 1] W fun e w' => e = .returned (.int .i64 (1 + ro M M.length : Nat)) ∧ Below W3.heap.size W3 w' ∧ RHd M g w' := by
  obtain ⟨vs, hr⟩ := h.g
  refine Calls.mono (markRows24 M g vs 1 W hr hnk) ?_
  rintro e w' ⟨rfl, hb, hd⟩
  have ho := h.o
  have hs := h.bel.size
  exact ⟨rfl, h.bel.trans (hb.mono (by omega)), hd.rd⟩
set_option maxHeartbeats 12800000 in
theorem lawPl {S S' : Nat → Prop} (a b : Tr) (va vb : Value) (w : World) (ha : Lies w S a va) (hb : Lies w S' b vb) :
    Calls Try.prog 5 #[a.val va, b.val vb] w fun e w' => e = .returned (.bool true) ∧ Below w.heap.size w w' := by
  have hbb : Below w.heap.size w ((w.alloc (.cells #[.string a.name, .string a.text, .bool a.leaf, va] 24)).alloc (.cells #[.string b.name, .string b.text, .bool b.leaf, vb] 24)) := (bel_alloc _ _).alloc (by simp) _
  have B1 := (Box.new w 24 [.string a.name, .string a.text, .bool a.leaf, va]).still (bel_alloc _ (.cells #[.string b.name, .string b.text, .bool b.leaf, vb] 24))
  have B2 : Box ((w.alloc (.cells #[.string a.name, .string a.text, .bool a.leaf, va] 24)).alloc (.cells #[.string b.name, .string b.text, .bool b.leaf, vb] 24)) (w.heap.size + 1) 24 [.string b.name, .string b.text, .bool b.leaf, vb] := by
    have := Box.new (w.alloc (.cells #[.string a.name, .string a.text, .bool a.leaf, va] 24)) 24 [.string b.name, .string b.text, .bool b.leaf, vb]
    simpa using this
  have HZA : Hid (∀ wq, Below w.heap.size w wq → Calls Try.prog 7 #[.agg #[.string a.name, .string a.text, .bool a.leaf, va], .int .i64 1048576] wq fun e w' => e = .returned (.int .i64 (szR a.wt 1048576)) ∧ Below wq.heap.size wq w') := fun wq h => sz_any a va wq 1048576 (ha.still h) (by omega) (Int.le_refl _)
  have HZB : Hid (∀ wq (left : Int), Below w.heap.size w wq → 0 ≤ left → left ≤ 1048576 → Calls Try.prog 7 #[.agg #[.string b.name, .string b.text, .bool b.leaf, vb], .int .i64 left] wq fun e w' => e = .returned (.int .i64 (szR b.wt left)) ∧ Below wq.heap.size wq w') := fun wq left h h0 h1 => sz_any b vb wq left (hb.still h) h0 h1
  have HTA : Hid (∀ wq, Below w.heap.size w wq → a.wt ≤ 1048576 → Calls Try.prog 9 #[.agg #[.string a.name, .string a.text, .bool a.leaf, va]] wq fun e w' => ∃ v', e = .returned (.agg #[.string a.name, .string a.text, .bool a.leaf, v']) ∧ Below wq.heap.size wq w' ∧ Own w' wq.heap.size w'.heap.size a v') := fun wq h hs => toO_any a va wq (ha.still h) hs
  have HTB : Hid (∀ wq, Below w.heap.size w wq → b.wt ≤ 1048576 → Calls Try.prog 9 #[.agg #[.string b.name, .string b.text, .bool b.leaf, vb]] wq fun e w' => ∃ v', e = .returned (.agg #[.string b.name, .string b.text, .bool b.leaf, v']) ∧ Below wq.heap.size wq w' ∧ Own w' wq.heap.size w'.heap.size b v') := fun wq h hs => toO_any b vb wq (hb.still h) hs
  have HSP : Hid (∀ (wq : World) (l1 h1 l2 h2 : Nat) (v1 v2 : Value), Own wq l1 h1 a v1 → Own wq l2 h2 b v2 → Calls Try.prog 21 #[.agg #[.string a.name, .string a.text, .bool a.leaf, v1], .agg #[.string b.name, .string b.text, .bool b.leaf, v2]] wq fun e w' => ∃ b0 cap : Nat, e = .returned (.tuple #[.slice (some ⟨b0, 0, none⟩) (plR a b).1.length cap, .int .i64 (plR a b).2]) ∧ Below wq.heap.size wq w' ∧ RdR w' (plR a b).1 (.slice (some ⟨b0, 0, none⟩) (plR a b).1.length cap)) := fun wq l1 h1 l2 h2 v1 v2 g1 g2 => Calls.mono (sPlaces21 a b v1 v2 wq (liesAny g1.lies) (liesAny g2.lies)) (fun e w' h => by
    obtain ⟨b0, cap, vs, e1, e2, e3⟩ := h
    exact ⟨b0, cap, e1, e2, e3.rd⟩)
  have HIM : Hid (∀ (wq : World) (l1 h1 l2 h2 : Nat) (v1 v2 : Value), Own wq l1 h1 a v1 → Own wq l2 h2 b v2 → Calls Try.prog 22 #[.agg #[.string a.name, .string a.text, .bool a.leaf, v1], .agg #[.string b.name, .string b.text, .bool b.leaf, v2]] wq fun e w' => ∃ (ua : Option Addr) (cap B : Nat), e = .returned (.tuple #[.slice ua (plR a b).1.length cap, .int .i64 (plR a b).2]) ∧ Below wq.heap.size wq w' ∧ wq.heap.size ≤ B ∧ GRr (plR a b).1 B (.slice ua (plR a b).1.length cap) w') := fun wq l1 h1 l2 h2 v1 v2 g1 g2 => Calls.mono (iPlaces22 a b v1 v2 wq g1.lies g2.lies) (fun e w' h => by
    obtain ⟨va, vc, B, vs, e1, e2, e3, e4⟩ := h
    exact ⟨va, vc, B, e1, e2, e3, vs, e4⟩)
  have HEA : Hid (∀ (wq : World) (l1 h1 l2 h2 : Nat) (v1 v2 : Value), Own wq l1 h1 a v1 → Own wq l2 h2 a v2 → Calls Try.prog 12 #[.agg #[.string a.name, .string a.text, .bool a.leaf, v1], .agg #[.string a.name, .string a.text, .bool a.leaf, v2]] wq fun e w' => e = .returned (.bool true) ∧ Below wq.heap.size wq w') := fun wq l1 h1 l2 h2 v1 v2 g1 g2 => eq_any a v1 v2 wq g1.lies g2.lies
  have HEB : Hid (∀ (wq : World) (l1 h1 l2 h2 : Nat) (v1 v2 : Value), Own wq l1 h1 b v1 → Own wq l2 h2 b v2 → Calls Try.prog 12 #[.agg #[.string b.name, .string b.text, .bool b.leaf, v1], .agg #[.string b.name, .string b.text, .bool b.leaf, v2]] wq fun e w' => e = .returned (.bool true) ∧ Below wq.heap.size wq w') := fun wq l1 h1 l2 h2 v1 v2 g1 g2 => eq_any b v1 v2 wq g1.lies g2.lies
  have HMA : Hid (∀ (wq : World) (lo hi n : Nat) (v : Value), Own wq lo hi a v → hi ≤ wq.heap.size → 0 < n → n + 3 * Tr.cntL a.kids ≤ 67108864 → Calls Try.prog 13 #[.agg #[.string a.name, .string a.text, .bool a.leaf, v], .int .i64 n] wq fun e w' => e = .returned (.int .i64 (n + 3 * Tr.cntL a.kids : Nat)) ∧ Out lo hi wq w') := fun wq lo hi n v h1 h2 h3 h4 => mark13 a v wq lo hi n h1 h2 h3 h4
  have HMB : Hid (∀ (wq : World) (lo hi n : Nat) (v : Value), Own wq lo hi b v → hi ≤ wq.heap.size → 0 < n → n + 3 * Tr.cntL b.kids ≤ 67108864 → Calls Try.prog 13 #[.agg #[.string b.name, .string b.text, .bool b.leaf, v], .int .i64 n] wq fun e w' => e = .returned (.int .i64 (n + 3 * Tr.cntL b.kids : Nat)) ∧ Out lo hi wq w') := fun wq lo hi n v h1 h2 h3 h4 => mark13 b v wq lo hi n h1 h2 h3 h4
  have HKA := (show Hid (a.wt ≤ 1048576 → 3 * Tr.cntL a.kids ≤ 3145728) from fun h => by
    have := Tr.cnt_le_wt a
    have := cnt_eq a
    omega)
  have HKB := (show Hid (b.wt ≤ 1048576 → 3 * Tr.cntL b.kids ≤ 3145728) from fun h => by
    have := Tr.cnt_le_wt b
    have := cnt_eq b
    omega)
  have HBO := (show Hid (1 + ro (plR a b).1 (plR a b).1.length ≤ 67108864) from pl_marks a b)
  obtain ⟨aa, al, ap, rfl⟩ := ha.form
  obtain ⟨ba, bl, bp, rfl⟩ := hb.form
  clear ha hb
  have HX := (show Hid _ from (⟨hbb, B1, B2⟩ : _ ∧ _ ∧ _)); clear hbb B1 B2
  simp only [Tr.val]
  generalize a.name = an at *
  generalize a.text = ax at *
  generalize a.leaf = af at *
  generalize b.name = bn at *
  generalize b.text = bx at *
  generalize b.leaf = bf at *
  generalize 3 * Tr.cntL a.kids = ka at *
  generalize 3 * Tr.cntL b.kids = kb at *
  generalize hM : (plR a b).1 = M at *
  generalize hC : (plR a b).2 = C at *
  clear hM hC
  have HEQ := (show Hid (∀ (wq : World) (v v' : Value), RdR wq M v → RdR wq M v' → Calls Try.prog 23 #[v, v'] wq fun e w' => e = .returned (.bool true) ∧ Below wq.heap.size wq w') from fun wq v v' h h' => eqRows23 M v v' wq h h')
  have HHD := (show Hid (∀ (wq : World) (v : Value), RHd M v wq → Calls Try.prog 25 #[v, .int .i64 1] wq fun e w' => e = .returned (.int .i64 (1 + ro M M.length : Nat)) ∧ Below wq.heap.size wq w') from fun wq v h => Calls.mono (heldRows25 M v 1 wq h HBO.out) (fun e w' h => ⟨h.1, by rw [h.2]; exact Below.refl _ _⟩))
  have HMG := (show Hid (∀ (W3 W : World) (B : Nat) (g : Value), LPc W3 M B g W → Calls Try.prog 24 #[g, .int .i64 1] W fun e w' => e = .returned (.int .i64 (1 + ro M M.length : Nat)) ∧ Below W3.heap.size W3 w' ∧ RHd M g w') from fun W3 W B g h => markG24 h HBO.out)
  clear HBO
  generalize 1 + ro M M.length = D at *
  have C1 : Hid (Calls Try.prog 7 #[.agg #[.string an, .string ax, .bool af, .slice aa al ap], .int .i64 1048576] ((w.alloc (.cells #[.string an, .string ax, .bool af, .slice aa al ap] 24)).alloc (.cells #[.string bn, .string bx, .bool bf, .slice ba bl bp] 24)) fun e w' => e = .returned (.int .i64 (szR a.wt 1048576)) ∧ Below ((w.alloc (.cells #[.string an, .string ax, .bool af, .slice aa al ap] 24)).alloc (.cells #[.string bn, .string bx, .bool bf, .slice ba bl bp] 24)).heap.size ((w.alloc (.cells #[.string an, .string ax, .bool af, .slice aa al ap] 24)).alloc (.cells #[.string bn, .string bx, .bool bf, .slice ba bl bp] 24)) w') := HZA.out _ HX.out.1
  by_cases hwa : (a.wt : Int) ≤ 1048576
  case neg =>
    rw [szR_no (by omega)] at C1
    clear HZA HZB HTA HTB HSP HIM HEA HEB HMA HMB HKA HKB HEQ HHD HMG hwa
    go_enter Try.func5, Try.ntmps5
    go_wp2_with fail
    refine Calls.mono C1.out ?_
    rintro e w1 ⟨rfl, hb1⟩
    have HE := (show Hid _ from bel_trans HX.out.1 hb1); clear hb1
    go_wp2_with fail
    go_ret
    exact ⟨rfl, HE.out⟩
  rw [szR_yes hwa] at C1
  generalize hlf : (1048576 : Int) - (a.wt : Int) = lf at *
  have hlf0 : 0 ≤ lf := by omega
  have hlf1 : lf ≤ 1048576 := by omega
  have hlfd : decide (lf < 0) = false := by simp; omega
  have HWA := (show Hid (a.wt ≤ 1048576) from (by show _ ≤ _; omega)); clear hwa hlf HZA
  go_enter Try.func5, Try.ntmps5
  go_wp2_with fail
  refine Calls.mono C1.out ?_
  rintro e w1 ⟨rfl, hb1⟩
  have H1 := (show Hid (Below w.heap.size w w1 ∧ Box w1 w.heap.size 24 [.string an, .string ax, .bool af, .slice aa al ap] ∧ Box w1 (w.heap.size + 1) 24 [.string bn, .string bx, .bool bf, .slice ba bl bp]) from ⟨bel_trans HX.out.1 hb1, HX.out.2.1.still hb1, HX.out.2.2.still hb1⟩)
  clear hb1 HX C1
  have s0 : w1.cell? ⟨w.heap.size + 1, 0, none⟩ = some (.string bn) := H1.out.2.2.cell 0 (by simp)
  have s1 : w1.cell? ⟨w.heap.size + 1, 1, none⟩ = some (.string bx) := H1.out.2.2.cell 1 (by simp)
  have s2 : w1.cell? ⟨w.heap.size + 1, 2, none⟩ = some (.bool bf) := H1.out.2.2.cell 2 (by simp)
  have s3 : w1.cell? ⟨w.heap.size + 1, 3, none⟩ = some (.slice ba bl bp) := H1.out.2.2.cell 3 (by simp)
  have C2 : Hid (Calls Try.prog 7 #[.agg #[.string bn, .string bx, .bool bf, .slice ba bl bp], .int .i64 lf] w1 fun e w' => e = .returned (.int .i64 (szR b.wt lf)) ∧ Below w1.heap.size w1 w') := HZB.out _ lf H1.out.1 hlf0 hlf1
  by_cases hwb : (b.wt : Int) ≤ lf
  case neg =>
    rw [szR_no (by omega)] at C2
    clear HZB HTA HTB HSP HIM HEA HEB HMA HMB HKA HKB HEQ HHD HMG hwb
    go_wp2_with fail
    refine Calls.mono C2.out ?_
    rintro e w2 ⟨rfl, hb2⟩
    have HE := (show Hid _ from bel_trans H1.out.1 hb2); clear hb2
    go_wp2_with fail
    go_ret
    exact ⟨rfl, HE.out⟩
  rw [szR_yes hwb] at C2
  generalize hlg : lf - (b.wt : Int) = lg at *
  have hlgd : decide (lg < 0) = false := by simp; omega
  have HWB := (show Hid (b.wt ≤ 1048576) from (by show _ ≤ _; omega)); clear hwb hlg HZB
  have HUA : Hid (∀ wq, Below w.heap.size w wq → Calls Try.prog 9 #[.agg #[.string an, .string ax, .bool af, .slice aa al ap]] wq fun e w' => ∃ v', e = .returned (.agg #[.string an, .string ax, .bool af, v']) ∧ Below wq.heap.size wq w' ∧ Own w' wq.heap.size w'.heap.size a v') := fun wq h => HTA.out wq h HWA.out
  have HUB : Hid (∀ wq, Below w.heap.size w wq → Calls Try.prog 9 #[.agg #[.string bn, .string bx, .bool bf, .slice ba bl bp]] wq fun e w' => ∃ v', e = .returned (.agg #[.string bn, .string bx, .bool bf, v']) ∧ Below wq.heap.size wq w' ∧ Own w' wq.heap.size w'.heap.size b v') := fun wq h => HTB.out wq h HWB.out
  have HKK := (show Hid (ka ≤ 3145728 ∧ kb ≤ 3145728) from ⟨HKA.out HWA.out, HKB.out HWB.out⟩)
  clear HTA HTB HKA HKB
  go_wp2_with fail
  refine Calls.mono C2.out ?_
  rintro e w2 ⟨rfl, hb2⟩
  have H2 := (show Hid (Below w.heap.size w w2 ∧ Box w2 w.heap.size 24 [.string an, .string ax, .bool af, .slice aa al ap] ∧ Box w2 (w.heap.size + 1) 24 [.string bn, .string bx, .bool bf, .slice ba bl bp]) from ⟨bel_trans H1.out.1 hb2, H1.out.2.1.still hb2, H1.out.2.2.still hb2⟩)
  clear hb2 H1 C2 s0 s1 s2 s3
  have HC := (show Hid (∀ wq, Below w2.heap.size w2 wq → E8 w.heap.size (w.heap.size + 1) an ax af (.slice aa al ap) bn bx bf (.slice ba bl bp) wq) from fun wq h => E8.of (H2.out.2.1.still h) (H2.out.2.2.still h))
  go_wp2_with fail
  go_cut [6, 7] from 27 to 34 (fun v6 v8 wx => ∃ b0 cap : Nat, v6 = .slice (some ⟨b0, 0, none⟩) M.length cap ∧ v8 = .int .i64 C ∧ Hid (Below w2.heap.size w2 wx ∧ RdR wx M (.slice (some ⟨b0, 0, none⟩) M.length cap)))
  case first =>
    have hbd := (Below.refl w2.heap.size w2).drew
    have hS0 := HC.out _ hbd
    have hB0 := bel_trans H2.out.1 hbd
    unfold E8 at hS0
    go_region_held3 (fun wq => (wq.cell? ⟨w.heap.size, 0, none⟩ = some (.string an) ∧ wq.cell? ⟨w.heap.size, 1, none⟩ = some (.string ax) ∧ wq.cell? ⟨w.heap.size, 2, none⟩ = some (.bool af) ∧ wq.cell? ⟨w.heap.size, 3, none⟩ = some (.slice aa al ap)) ∧ wq.cell? ⟨w.heap.size + 1, 0, none⟩ = some (.string bn) ∧ wq.cell? ⟨w.heap.size + 1, 1, none⟩ = some (.string bx) ∧ wq.cell? ⟨w.heap.size + 1, 2, none⟩ = some (.bool bf) ∧ wq.cell? ⟨w.heap.size + 1, 3, none⟩ = some (.slice ba bl bp)) (first | with_reducible exact hS0 | with_reducible exact hS1 | with_reducible exact hS2 | with_reducible exact hS3) ((first
      | (go_at_call 21; refine Calls.mono (HSP.out _ _ _ _ _ _ _ LA LB) ?_; rintro e w5 ⟨b0, cap, rfl, hb5, hrd⟩; have hF := bel_trans hF2 hb5; have hS3 := (show E8 _ _ _ _ _ _ _ _ _ _ _ from HC.out _ hF); unfold E8 at hS3)
      | (go_at_call 9; with_reducible refine Calls.mono (HUA.out _ hBb) ?_; rintro e w4 ⟨v4, rfl, hb4, lA⟩; obtain ⟨x1, x2, x3, rfl⟩ := lA.form; have LA := lA; have LB := Own.still lBb hb4; have hF2 := bel_trans hFb hb4; have hS2 := (show E8 _ _ _ _ _ _ _ _ _ _ _ from HC.out _ hF2); unfold E8 at hS2)
      | (go_at_call 9; with_reducible refine Calls.mono (HUB.out _ hBa) ?_; rintro e w4 ⟨v4, rfl, hb4, lB⟩; obtain ⟨x1, x2, x3, rfl⟩ := lB.form; have LB := lB; have LA := Own.still lAa hb4; have hF2 := bel_trans hFa hb4; have hS2 := (show E8 _ _ _ _ _ _ _ _ _ _ _ from HC.out _ hF2); unfold E8 at hS2)
      | (go_at_call 9; with_reducible refine Calls.mono (HUA.out _ hB0) ?_; rintro e w3 ⟨v3, rfl, hb3, lAa⟩; obtain ⟨y1, y2, y3, rfl⟩ := lAa.form; have hFa := bel_trans hbd hb3; have hBa := bel_trans hB0 hb3; have hS1 := (show E8 _ _ _ _ _ _ _ _ _ _ _ from HC.out _ hFa); unfold E8 at hS1)
      | (go_at_call 9; with_reducible refine Calls.mono (HUB.out _ hB0) ?_; rintro e w3 ⟨v3, rfl, hb3, lBb⟩; obtain ⟨y1, y2, y3, rfl⟩ := lBb.form; have hFb := bel_trans hbd hb3; have hBb := bel_trans hB0 hb3; have hS1 := (show E8 _ _ _ _ _ _ _ _ _ _ _ from HC.out _ hFb); unfold E8 at hS1)))
    all_goals go_wp2_with fail
    all_goals go_meet
    all_goals exact ⟨_, _, rfl, rfl, hF, hrd⟩
  case rest =>
    obtain ⟨b0, cap0, rfl, rfl, HXC⟩ := hcut
    obtain ⟨wz, rfl⟩ : ∃ wz, wz = wc := ⟨_, rfl⟩
    have HA := (show Hid (∀ wq, Below wz.heap.size wz wq → Below w.heap.size w wq ∧ Box wq w.heap.size 24 [.string an, .string ax, .bool af, .slice aa al ap] ∧ Box wq (w.heap.size + 1) 24 [.string bn, .string bx, .bool bf, .slice ba bl bp] ∧ RdR wq M (.slice (some ⟨b0, 0, none⟩) M.length cap0)) from fun wq h => ⟨bel_trans (bel_trans H2.out.1 HXC.out.1) h, (H2.out.2.1.still HXC.out.1).still h, (H2.out.2.2.still HXC.out.1).still h, HXC.out.2.still h⟩)
    clear HXC HC H2 HSP
    have H3 := HA.out wz (Below.refl _ _)
    have r0 : wz.cell? ⟨w.heap.size, 0, none⟩ = some (.string an) := H3.2.1.cell 0 (by simp)
    have r1 : wz.cell? ⟨w.heap.size, 1, none⟩ = some (.string ax) := H3.2.1.cell 1 (by simp)
    have r2 : wz.cell? ⟨w.heap.size, 2, none⟩ = some (.bool af) := H3.2.1.cell 2 (by simp)
    have r3 : wz.cell? ⟨w.heap.size, 3, none⟩ = some (.slice aa al ap) := H3.2.1.cell 3 (by simp)
    have C3 : Hid (Calls Try.prog 9 #[.agg #[.string an, .string ax, .bool af, .slice aa al ap]] wz fun e w' => ∃ v', e = .returned (.agg #[.string an, .string ax, .bool af, v']) ∧ Below wz.heap.size wz w' ∧ Own w' wz.heap.size w'.heap.size a v') := HUA.out _ H3.1
    clear H3
    go_wp2_with fail
    refine Calls.mono C3.out ?_
    rintro e w3 ⟨v3, rfl, hb3, lx⟩
    obtain ⟨xa, xl, xp, rfl⟩ := lx.form
    have hbX := bel_alloc w3 (.cells #[.string an, .string ax, .bool af, .slice xa xl xp] 31)
    have H4 := (show Hid (Below wz.heap.size wz (w3.alloc (.cells #[.string an, .string ax, .bool af, .slice xa xl xp] 31)) ∧ Box (w3.alloc (.cells #[.string an, .string ax, .bool af, .slice xa xl xp] 31)) w3.heap.size 31 [.string an, .string ax, .bool af, .slice xa xl xp] ∧ Own (w3.alloc (.cells #[.string an, .string ax, .bool af, .slice xa xl xp] 31)) wz.heap.size w3.heap.size a (.slice xa xl xp) ∧ wz.heap.size ≤ w3.heap.size) from ⟨bel_trans hb3 hbX, Box.new _ _ _, lx.still hbX, hb3.size⟩)
    clear hb3 hbX lx r0 r1 r2 r3 C3
    have H5 := HA.out _ H4.out.1
    have s0 : (w3.alloc (.cells #[.string an, .string ax, .bool af, .slice xa xl xp] 31)).cell? ⟨w.heap.size + 1, 0, none⟩ = some (.string bn) := H5.2.2.1.cell 0 (by simp)
    have s1 : (w3.alloc (.cells #[.string an, .string ax, .bool af, .slice xa xl xp] 31)).cell? ⟨w.heap.size + 1, 1, none⟩ = some (.string bx) := H5.2.2.1.cell 1 (by simp)
    have s2 : (w3.alloc (.cells #[.string an, .string ax, .bool af, .slice xa xl xp] 31)).cell? ⟨w.heap.size + 1, 2, none⟩ = some (.bool bf) := H5.2.2.1.cell 2 (by simp)
    have s3 : (w3.alloc (.cells #[.string an, .string ax, .bool af, .slice xa xl xp] 31)).cell? ⟨w.heap.size + 1, 3, none⟩ = some (.slice ba bl bp) := H5.2.2.1.cell 3 (by simp)
    have C4 : Hid (Calls Try.prog 9 #[.agg #[.string bn, .string bx, .bool bf, .slice ba bl bp]] (w3.alloc (.cells #[.string an, .string ax, .bool af, .slice xa xl xp] 31)) fun e w' => ∃ v', e = .returned (.agg #[.string bn, .string bx, .bool bf, v']) ∧ Below (w3.alloc (.cells #[.string an, .string ax, .bool af, .slice xa xl xp] 31)).heap.size (w3.alloc (.cells #[.string an, .string ax, .bool af, .slice xa xl xp] 31)) w' ∧ Own w' (w3.alloc (.cells #[.string an, .string ax, .bool af, .slice xa xl xp] 31)).heap.size w'.heap.size b v') := HUB.out _ H5.1
    clear H5
    go_wp2_with fail
    refine Calls.mono C4.out ?_
    rintro e w4 ⟨v4, rfl, hb4, ly⟩
    obtain ⟨ya, yl, yp, rfl⟩ := ly.form
    have hbY := bel_alloc w4 (.cells #[.string bn, .string bx, .bool bf, .slice ya yl yp] 31)
    have hsz : (w3.alloc (.cells #[.string an, .string ax, .bool af, .slice xa xl xp] 31)).heap.size = w3.heap.size + 1 := by simp
    have hsb := hb4.size
    rw [hsz] at ly hsb
    have H6 := (show Hid (Below wz.heap.size wz (w4.alloc (.cells #[.string bn, .string bx, .bool bf, .slice ya yl yp] 31)) ∧ Box (w4.alloc (.cells #[.string bn, .string bx, .bool bf, .slice ya yl yp] 31)) w3.heap.size 31 [.string an, .string ax, .bool af, .slice xa xl xp] ∧ Own (w4.alloc (.cells #[.string bn, .string bx, .bool bf, .slice ya yl yp] 31)) wz.heap.size w3.heap.size a (.slice xa xl xp) ∧ Box (w4.alloc (.cells #[.string bn, .string bx, .bool bf, .slice ya yl yp] 31)) w4.heap.size 31 [.string bn, .string bx, .bool bf, .slice ya yl yp] ∧ Own (w4.alloc (.cells #[.string bn, .string bx, .bool bf, .slice ya yl yp] 31)) (w3.heap.size + 1) w4.heap.size b (.slice ya yl yp) ∧ wz.heap.size ≤ w3.heap.size ∧ w3.heap.size + 1 ≤ w4.heap.size ∧ (w4.alloc (.cells #[.string bn, .string bx, .bool bf, .slice ya yl yp] 31)).heap.size = w4.heap.size + 1) from ⟨bel_trans H4.out.1 (bel_trans hb4 hbY), H4.out.2.1.still (bel_trans hb4 hbY), H4.out.2.2.1.still (bel_trans hb4 hbY), Box.new _ _ _, ly.still hbY, H4.out.2.2.2, hsb, by simp⟩)
    clear hb4 hbY ly H4 C4 s0 s1 s2 s3 hsz hsb
    have x0 : (w4.alloc (.cells #[.string bn, .string bx, .bool bf, .slice ya yl yp] 31)).cell? ⟨w3.heap.size, 0, none⟩ = some (.string an) := H6.out.2.1.cell 0 (by simp)
    have x1 : (w4.alloc (.cells #[.string bn, .string bx, .bool bf, .slice ya yl yp] 31)).cell? ⟨w3.heap.size, 1, none⟩ = some (.string ax) := H6.out.2.1.cell 1 (by simp)
    have x2 : (w4.alloc (.cells #[.string bn, .string bx, .bool bf, .slice ya yl yp] 31)).cell? ⟨w3.heap.size, 2, none⟩ = some (.bool af) := H6.out.2.1.cell 2 (by simp)
    have x3 : (w4.alloc (.cells #[.string bn, .string bx, .bool bf, .slice ya yl yp] 31)).cell? ⟨w3.heap.size, 3, none⟩ = some (.slice xa xl xp) := H6.out.2.1.cell 3 (by simp)
    have y0 : (w4.alloc (.cells #[.string bn, .string bx, .bool bf, .slice ya yl yp] 31)).cell? ⟨w4.heap.size, 0, none⟩ = some (.string bn) := H6.out.2.2.2.1.cell 0 (by simp)
    have y1 : (w4.alloc (.cells #[.string bn, .string bx, .bool bf, .slice ya yl yp] 31)).cell? ⟨w4.heap.size, 1, none⟩ = some (.string bx) := H6.out.2.2.2.1.cell 1 (by simp)
    have y2 : (w4.alloc (.cells #[.string bn, .string bx, .bool bf, .slice ya yl yp] 31)).cell? ⟨w4.heap.size, 2, none⟩ = some (.bool bf) := H6.out.2.2.2.1.cell 2 (by simp)
    have y3 : (w4.alloc (.cells #[.string bn, .string bx, .bool bf, .slice ya yl yp] 31)).cell? ⟨w4.heap.size, 3, none⟩ = some (.slice ya yl yp) := H6.out.2.2.2.1.cell 3 (by simp)
    have C5 := (show Hid _ from HIM.out _ _ _ _ _ _ _ H6.out.2.2.1 H6.out.2.2.2.2.1)
    go_wp2_with fail
    refine Calls.mono C5.out ?_
    rintro e w5 ⟨ga, gc, B, rfl, hb5, hB5, hg5⟩
    have HL := (show Hid (LPa wz a b M wz.heap.size w3.heap.size w3.heap.size (w3.heap.size + 1) w4.heap.size w4.heap.size B (.slice xa xl xp) (.slice ya yl yp) (.slice ga M.length gc) [.string an, .string ax, .bool af, .slice xa xl xp] [.string bn, .string bx, .bool bf, .slice ya yl yp] 31 w5) from ⟨bel_trans H6.out.1 hb5, H6.out.2.2.1.still hb5, H6.out.2.1.still hb5, H6.out.2.2.2.2.1.still hb5, H6.out.2.2.2.1.still hb5, hg5, by have := H6.out.2.2.2.2.2; rw [this.2.2] at hB5; omega⟩)
    clear hb5 hB5 hg5 H6 C5 x0 x1 x2 x3 y0 y1 y2 y3
    generalize hp3 : w3.heap.size = p3 at *
    generalize hp4 : w4.heap.size = p4 at *
    clear hp3 hp4
    have C6 : Hid (Calls Try.prog 23 #[.slice ga M.length gc, .slice (some ⟨b0, 0, none⟩) M.length cap0] w5 fun e w' => e = .returned (.bool true) ∧ Below w5.heap.size w5 w') := HEQ.out w5 _ _ HL.out.g.rd (HA.out _ HL.out.bel).2.2.2
    have hneC : ((C : Int) != C) = false := by simp
    go_wp2_with fail
    refine Calls.mono C6.out ?_
    rintro e w6 ⟨rfl, hb6⟩
    have HL6 := (show Hid (LPa wz a b M wz.heap.size p3 p3 (p3 + 1) p4 p4 B (.slice xa xl xp) (.slice ya yl yp) (.slice ga M.length gc) [.string an, .string ax, .bool af, .slice xa xl xp] [.string bn, .string bx, .bool bf, .slice ya yl yp] 31 w6) from HL.out.still hb6)
    clear hb6 HL C6
    have HCA := (show Hid (∀ wq, Below w6.heap.size w6 wq → E8 p3 w.heap.size an ax af (.slice xa xl xp) an ax af (.slice aa al ap) wq) from fun wq h => E8.of (HL6.out.bx.still h) ((HA.out _ HL6.out.bel).2.1.still h))
    have HOX := (show Hid (Own w6 wz.heap.size p3 a (.slice xa xl xp)) from HL6.out.x)
    have HB6 := (show Hid (Below w.heap.size w w6) from (HA.out _ HL6.out.bel).1)
    go_wp2_with fail
    go_cut [58] from 54 to 57 (fun v wx => v = .bool false ∧ Hid (Below w6.heap.size w6 wx))
    case first =>
      have hbd := (Below.refl w6.heap.size w6).drew
      have hS0 := HCA.out _ hbd
      have hB0 := bel_trans HB6.out hbd
      unfold E8 at hS0
      go_region_held3 (fun wq => (wq.cell? ⟨p3, 0, none⟩ = some (.string an) ∧ wq.cell? ⟨p3, 1, none⟩ = some (.string ax) ∧ wq.cell? ⟨p3, 2, none⟩ = some (.bool af) ∧ wq.cell? ⟨p3, 3, none⟩ = some (.slice xa xl xp)) ∧ wq.cell? ⟨w.heap.size, 0, none⟩ = some (.string an) ∧ wq.cell? ⟨w.heap.size, 1, none⟩ = some (.string ax) ∧ wq.cell? ⟨w.heap.size, 2, none⟩ = some (.bool af) ∧ wq.cell? ⟨w.heap.size, 3, none⟩ = some (.slice aa al ap)) (first | with_reducible exact hS0 | with_reducible exact hS1 | with_reducible exact hS2) ((first
        | (go_at_call 12; refine Calls.mono (HEA.out _ _ _ _ _ _ _ LX LC) ?_; rintro e w7 ⟨rfl, hb7⟩; have hF2 := bel_trans hF1 hb7; have hS2 := (show E8 _ _ _ _ _ _ _ _ _ _ _ from HCA.out _ hF2); unfold E8 at hS2)
        | (go_at_call 9; refine Calls.mono (HUA.out _ hB0) ?_; rintro e w6 ⟨v6, rfl, hb6, LC⟩; obtain ⟨z1, z2, z3, rfl⟩ := LC.form; have hF1 := bel_trans hbd hb6; have LX := Own.still HOX.out hF1; have hS1 := (show E8 _ _ _ _ _ _ _ _ _ _ _ from HCA.out _ hF1); unfold E8 at hS1)))
      all_goals go_wp2_with fail
      all_goals go_meet
      all_goals exact ⟨rfl, hF2⟩
    case rest =>
      obtain ⟨rfl, HXD⟩ := hcut
      obtain ⟨wy, rfl⟩ : ∃ wy, wy = wc := ⟨_, rfl⟩
      have HL7 := (show Hid (LPa wz a b M wz.heap.size p3 p3 (p3 + 1) p4 p4 B (.slice xa xl xp) (.slice ya yl yp) (.slice ga M.length gc) [.string an, .string ax, .bool af, .slice xa xl xp] [.string bn, .string bx, .bool bf, .slice ya yl yp] 31 wy) from HL6.out.still HXD.out)
      clear HXD HCA HOX HB6 HL6
      have HCB := (show Hid (∀ wq, Below wy.heap.size wy wq → E8 p4 (w.heap.size + 1) bn bx bf (.slice ya yl yp) bn bx bf (.slice ba bl bp) wq) from fun wq h => E8.of (HL7.out.by1.still h) ((HA.out _ HL7.out.bel).2.2.1.still h))
      have HOY := (show Hid (Own wy (p3 + 1) p4 b (.slice ya yl yp)) from HL7.out.y)
      have HB7 := (show Hid (Below w.heap.size w wy) from (HA.out _ HL7.out.bel).1)
      go_wp2_with fail
      go_cut [63] from 59 to 62 (fun v wx => v = .bool false ∧ Hid (Below wy.heap.size wy wx))
      case first =>
        have hbd := (Below.refl wy.heap.size wy).drew
        have hS0 := HCB.out _ hbd
        have hB0 := bel_trans HB7.out hbd
        unfold E8 at hS0
        go_region_held3 (fun wq => (wq.cell? ⟨p4, 0, none⟩ = some (.string bn) ∧ wq.cell? ⟨p4, 1, none⟩ = some (.string bx) ∧ wq.cell? ⟨p4, 2, none⟩ = some (.bool bf) ∧ wq.cell? ⟨p4, 3, none⟩ = some (.slice ya yl yp)) ∧ wq.cell? ⟨w.heap.size + 1, 0, none⟩ = some (.string bn) ∧ wq.cell? ⟨w.heap.size + 1, 1, none⟩ = some (.string bx) ∧ wq.cell? ⟨w.heap.size + 1, 2, none⟩ = some (.bool bf) ∧ wq.cell? ⟨w.heap.size + 1, 3, none⟩ = some (.slice ba bl bp)) (first | with_reducible exact hS0 | with_reducible exact hS1 | with_reducible exact hS2) ((first
          | (go_at_call 12; refine Calls.mono (HEB.out _ _ _ _ _ _ _ LX LC) ?_; rintro e w7 ⟨rfl, hb7⟩; have hF2 := bel_trans hF1 hb7; have hS2 := (show E8 _ _ _ _ _ _ _ _ _ _ _ from HCB.out _ hF2); unfold E8 at hS2)
          | (go_at_call 9; refine Calls.mono (HUB.out _ hB0) ?_; rintro e w6 ⟨v6, rfl, hb6, LC⟩; obtain ⟨z1, z2, z3, rfl⟩ := LC.form; have hF1 := bel_trans hbd hb6; have LX := Own.still HOY.out hF1; have hS1 := (show E8 _ _ _ _ _ _ _ _ _ _ _ from HCB.out _ hF1); unfold E8 at hS1)))
        all_goals go_wp2_with fail
        all_goals go_meet
        all_goals exact ⟨rfl, hF2⟩
      case rest =>
        obtain ⟨rfl, HXE⟩ := hcut
        obtain ⟨w8, rfl⟩ : ∃ w8, w8 = wc := ⟨_, rfl⟩
        have HL8 := (show Hid (LPa wz a b M wz.heap.size p3 p3 (p3 + 1) p4 p4 B (.slice xa xl xp) (.slice ya yl yp) (.slice ga M.length gc) [.string an, .string ax, .bool af, .slice xa xl xp] [.string bn, .string bx, .bool bf, .slice ya yl yp] 31 w8) from HL7.out.still HXE.out)
        clear HXE HL7 HCB HOY HB7 HEA HEB
        have x0 : w8.cell? ⟨p3, 0, none⟩ = some (.string an) := HL8.out.bx.cell 0 (by simp)
        have x1 : w8.cell? ⟨p3, 1, none⟩ = some (.string ax) := HL8.out.bx.cell 1 (by simp)
        have x2 : w8.cell? ⟨p3, 2, none⟩ = some (.bool af) := HL8.out.bx.cell 2 (by simp)
        have x3 : w8.cell? ⟨p3, 3, none⟩ = some (.slice xa xl xp) := HL8.out.bx.cell 3 (by simp)
        have C9 : Hid (Calls Try.prog 13 #[.agg #[.string an, .string ax, .bool af, .slice xa xl xp], .int .i64 1] w8 fun e w' => e = .returned (.int .i64 (1 + ka : Nat)) ∧ Out wz.heap.size p3 w8 w') := HMA.out w8 _ _ 1 _ HL8.out.x (Nat.le_of_lt HL8.out.bx.lt) (by omega) (by have := HKK.out; omega)
        have HK1 := (show Hid (0 < 1 + ka ∧ 1 + ka ≤ 3145729) from ⟨by omega, by have := HKK.out; omega⟩)
        clear HMA
        generalize 1 + ka = K1 at *
        go_wp2_with fail
        refine Calls.mono C9.out ?_
        rintro e w9 ⟨rfl, ho9⟩
        have HL9 := (show Hid (LPb wz b M (p3 + 1) p4 p4 B (.slice ya yl yp) (.slice ga M.length gc) [.string bn, .string bx, .bool bf, .slice ya yl yp] 31 w9) from HL8.out.marked ho9)
        clear ho9 HL8 C9 x0 x1 x2 x3
        have y0 : w9.cell? ⟨p4, 0, none⟩ = some (.string bn) := HL9.out.by1.cell 0 (by simp)
        have y1 : w9.cell? ⟨p4, 1, none⟩ = some (.string bx) := HL9.out.by1.cell 1 (by simp)
        have y2 : w9.cell? ⟨p4, 2, none⟩ = some (.bool bf) := HL9.out.by1.cell 2 (by simp)
        have y3 : w9.cell? ⟨p4, 3, none⟩ = some (.slice ya yl yp) := HL9.out.by1.cell 3 (by simp)
        have C10 : Hid (Calls Try.prog 13 #[.agg #[.string bn, .string bx, .bool bf, .slice ya yl yp], .int .i64 (K1 : Nat)] w9 fun e w' => e = .returned (.int .i64 (K1 + kb : Nat)) ∧ Out (p3 + 1) p4 w9 w') := HMB.out w9 _ _ K1 _ HL9.out.y (Nat.le_of_lt HL9.out.by1.lt) HK1.out.1 (by have := HKK.out; have := HK1.out; omega)
        clear HMB
        generalize K1 + kb = K2 at *
        have hK2 : decide ((K2 : Int) < 0) = false := by simp
        go_wp2_with fail
        refine Calls.mono C10.out ?_
        rintro e w10 ⟨rfl, ho10⟩
        have HL10 := (show Hid (LPc wz M B (.slice ga M.length gc) w10) from HL9.out.marked ho10)
        clear ho10 HL9 C10 y0 y1 y2 y3
        have C11 : Hid (Calls Try.prog 23 #[.slice ga M.length gc, .slice (some ⟨b0, 0, none⟩) M.length cap0] w10 fun e w' => e = .returned (.bool true) ∧ Below w10.heap.size w10 w') := HEQ.out w10 _ _ HL10.out.g.rd (HA.out _ HL10.out.bel).2.2.2
        go_wp2_with fail
        refine Calls.mono C11.out ?_
        rintro e w11 ⟨rfl, hb11⟩
        have HL11 := (show Hid (LPc wz M B (.slice ga M.length gc) w11) from HL10.out.still hb11)
        clear hb11 HL10 C11 hK2
        have C12 : Hid (Calls Try.prog 24 #[.slice ga M.length gc, .int .i64 1] w11 fun e w' => e = .returned (.int .i64 (D : Nat)) ∧ Below wz.heap.size wz w' ∧ RHd M (.slice ga M.length gc) w') := HMG.out wz w11 B _ HL11.out
        clear HMG
        have hD0 : decide ((D : Int) < 0) = false := by simp
        have hD1 : ((D : Int) != (D : Int)) = false := by simp
        go_wp2_with fail
        refine Calls.mono C12.out ?_
        rintro e w12 ⟨rfl, hb12, hd12⟩
        have H12 := (show Hid (Below wz.heap.size wz w12 ∧ RHd M (.slice ga M.length gc) w12) from ⟨hb12, hd12⟩)
        have C13 : Hid (Calls Try.prog 25 #[.slice ga M.length gc, .int .i64 1] w12 fun e w' => e = .returned (.int .i64 (D : Nat)) ∧ Below w12.heap.size w12 w') := HHD.out w12 _ hd12
        clear hb12 hd12 HL11 C12
        go_wp2_with fail
        refine Calls.mono C13.out ?_
        rintro e w13 ⟨rfl, hb13⟩
        have H13 := (show Hid (Below wz.heap.size wz w13 ∧ RHd M (.slice ga M.length gc) w13) from ⟨bel_trans H12.out.1 hb13, H12.out.2.still hb13⟩)
        clear hb13 H12 C13
        have HCC := (show Hid (∀ wq, Below w13.heap.size w13 wq → E8 w.heap.size (w.heap.size + 1) an ax af (.slice aa al ap) bn bx bf (.slice ba bl bp) wq) from fun wq h => E8.of (HA.out _ (bel_trans H13.out.1 h)).2.1 (HA.out _ (bel_trans H13.out.1 h)).2.2.1)
        have HBZ := (show Hid (Below w.heap.size w w13) from (HA.out _ H13.out.1).1)
        go_wp2_with fail
        go_cut [15, 16] from 94 to 101 (fun v6 v8 wx => ∃ (ua : Option Addr) (cap : Nat), v6 = .slice ua M.length cap ∧ v8 = .int .i64 C ∧ Hid (Below w13.heap.size w13 wx ∧ RdR wx M (.slice ua M.length cap)))
        case first =>
          have hbd := (Below.refl w13.heap.size w13).drew
          have hS0 := HCC.out _ hbd
          have hB0 := bel_trans HBZ.out hbd
          unfold E8 at hS0
          go_region_held3 (fun wq => (wq.cell? ⟨w.heap.size, 0, none⟩ = some (.string an) ∧ wq.cell? ⟨w.heap.size, 1, none⟩ = some (.string ax) ∧ wq.cell? ⟨w.heap.size, 2, none⟩ = some (.bool af) ∧ wq.cell? ⟨w.heap.size, 3, none⟩ = some (.slice aa al ap)) ∧ wq.cell? ⟨w.heap.size + 1, 0, none⟩ = some (.string bn) ∧ wq.cell? ⟨w.heap.size + 1, 1, none⟩ = some (.string bx) ∧ wq.cell? ⟨w.heap.size + 1, 2, none⟩ = some (.bool bf) ∧ wq.cell? ⟨w.heap.size + 1, 3, none⟩ = some (.slice ba bl bp)) (first | with_reducible exact hS0 | with_reducible exact hS1 | with_reducible exact hS2 | with_reducible exact hS3) ((first
            | (go_at_call 22; refine Calls.mono (HIM.out _ _ _ _ _ _ _ LA LB) ?_; rintro e w5 ⟨ua, cap, Bq, rfl, hb5, hBq, hg5⟩; have hrd := GRr.rd hg5; have hF := bel_trans hF2 hb5; have hS3 := (show E8 _ _ _ _ _ _ _ _ _ _ _ from HCC.out _ hF); unfold E8 at hS3)
            | (go_at_call 9; with_reducible refine Calls.mono (HUA.out _ hBb) ?_; rintro e w4 ⟨v4, rfl, hb4, lA⟩; obtain ⟨x1, x2, x3, rfl⟩ := lA.form; have LA := lA; have LB := Own.still lBb hb4; have hF2 := bel_trans hFb hb4; have hS2 := (show E8 _ _ _ _ _ _ _ _ _ _ _ from HCC.out _ hF2); unfold E8 at hS2)
            | (go_at_call 9; with_reducible refine Calls.mono (HUB.out _ hBa) ?_; rintro e w4 ⟨v4, rfl, hb4, lB⟩; obtain ⟨x1, x2, x3, rfl⟩ := lB.form; have LB := lB; have LA := Own.still lAa hb4; have hF2 := bel_trans hFa hb4; have hS2 := (show E8 _ _ _ _ _ _ _ _ _ _ _ from HCC.out _ hF2); unfold E8 at hS2)
            | (go_at_call 9; with_reducible refine Calls.mono (HUA.out _ hB0) ?_; rintro e w3 ⟨v3, rfl, hb3, lAa⟩; obtain ⟨y1, y2, y3, rfl⟩ := lAa.form; have hFa := bel_trans hbd hb3; have hBa := bel_trans hB0 hb3; have hS1 := (show E8 _ _ _ _ _ _ _ _ _ _ _ from HCC.out _ hFa); unfold E8 at hS1)
            | (go_at_call 9; with_reducible refine Calls.mono (HUB.out _ hB0) ?_; rintro e w3 ⟨v3, rfl, hb3, lBb⟩; obtain ⟨y1, y2, y3, rfl⟩ := lBb.form; have hFb := bel_trans hbd hb3; have hBb := bel_trans hB0 hb3; have hS1 := (show E8 _ _ _ _ _ _ _ _ _ _ _ from HCC.out _ hFb); unfold E8 at hS1)))
          all_goals go_wp2_with fail
          all_goals go_meet
          all_goals exact ⟨_, _, rfl, rfl, hF, hrd⟩
        case rest =>
          obtain ⟨ha, hc, rfl, rfl, HXF⟩ := hcut
          obtain ⟨w14, rfl⟩ : ∃ w14, w14 = wc := ⟨_, rfl⟩
          have H14 := (show Hid (Below wz.heap.size wz w14 ∧ RHd M (.slice ga M.length gc) w14) from ⟨bel_trans H13.out.1 HXF.out.1, H13.out.2.still HXF.out.1⟩)
          have C15 : Hid (Calls Try.prog 23 #[.slice ha M.length hc, .slice (some ⟨b0, 0, none⟩) M.length cap0] w14 fun e w' => e = .returned (.bool true) ∧ Below w14.heap.size w14 w') := HEQ.out w14 _ _ HXF.out.2 (HA.out _ H14.out.1).2.2.2
          clear HXF H13 HCC HBZ HIM
          go_wp2_with fail
          refine Calls.mono C15.out ?_
          rintro e w15 ⟨rfl, hb15⟩
          have H15 := (show Hid (Below wz.heap.size wz w15) from bel_trans H14.out.1 hb15)
          have C16 : Hid (Calls Try.prog 25 #[.slice ga M.length gc, .int .i64 1] w15 fun e w' => e = .returned (.int .i64 (D : Nat)) ∧ Below w15.heap.size w15 w') := HHD.out w15 _ (H14.out.2.still hb15)
          clear hb15 H14 C15
          go_wp2_with fail
          refine Calls.mono C16.out ?_
          rintro e w16 ⟨rfl, hb16⟩
          have HE := (show Hid _ from (HA.out _ (bel_trans H15.out hb16)).1)
          clear hb16 H15 C16
          go_wp2_with fail
          go_ret
          exact ⟨rfl, HE.out⟩
end Go.Proofs.Ytkkhdkfmaopmfaa
