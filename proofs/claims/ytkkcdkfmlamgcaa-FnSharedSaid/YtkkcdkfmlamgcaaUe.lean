import Derived.Test.YtkkcdkfmlamgcaaUs
import Derived.BigQuiet
/-! The program's sameDag: rows of numbers, nodes. -/
namespace Go.Proofs.Ytkkcdkfmlamgcaa
open Go.RowKit Go.Deep
set_option linter.unusedVariables false
set_option maxRecDepth 100000
set_option linter.unusedSimpArgs false

theorem bel_drewU {B : Nat} {a w : World} (h : Below B a w) (n : Nat) : Below B a (w.drewN n) := h.trans ⟨rfl, rfl, rfl, Nat.le_refl _, fun _ _ => rfl⟩
theorem same_allU {l l' : List Int} (h : l.length = l'.length) (ha : ∀ i (h1 : i < l.length) (h2 : i < l'.length), l[i] = l'[i]) : decide (l = l') = true := by
  rw [decide_eq_true_eq]
  exact List.ext_getElem h ha
set_option maxHeartbeats 3200000 in
theorem equal64 {S S' : Nat → Prop} (l l' : List Int) (v v' : Value) (w : World) (h : Ints w S l v) (h' : Ints w S' l' v') :
    Calls Try.prog 37 #[v, v'] w fun e w' => e = .returned (.bool (decide (l = l'))) ∧ Below w.heap.size w w' := by
  obtain ⟨a, cap, b, off, rfl, hc, hm, ha, hcell⟩ := h
  obtain ⟨a', cap', b', off', rfl, hc', hm', ha', hcell'⟩ := h'
  unfold maxLen at hm hm'
  by_cases hlen : l.length = l'.length
  · have i0 : ((l.length : Int) != (l'.length : Int)) = false := by simp; omega
    have HCE := (show Hid _ from (⟨hcell, hcell', ha, ha'⟩ : _ ∧ _ ∧ _ ∧ _))
    have HL := (show Hid _ from hlen)
    have HSA := (show Hid _ from fun ha => same_allU hlen ha)
    obtain ⟨RB, hRB⟩ : ∃ RB, decide (l = l') = RB := ⟨_, rfl⟩
    rw [hRB] at HSA ⊢
    have HRB := (show Hid _ from hRB)
    clear hcell hcell' ha ha' hlen hRB
    go_enter Try.func37, Try.ntmps37
    go_wp2_with fail
    go_loopw [13] (fun i wr => ∃ j : Nat, i = .int .i64 j ∧ j ≤ l.length ∧ Hid (Below w.heap.size w wr ∧ ∀ i (h1 : i < l.length) (h2 : i < l'.length), i < j → l[i] = l'[i])) (fun i _ => l.length - (intOf i).toNat)
    case atStart => exact ⟨0, rfl, Nat.zero_le _, Below.refl _ _, fun i _ _ h => absurd h (Nat.not_lt_zero _)⟩
    case round =>
      obtain ⟨j, rfl, hj, HJ⟩ := hrel
      by_cases hlt : j < l.length
      · have hlt' : j < l'.length := by rw [← HL.out]; exact hlt
        obtain ⟨q1, q2, q3, q4⟩ := HCE.out
        have c1 := q1 j hlt
        have c2 := q2 j hlt'
        obtain ⟨rfl, _⟩ := q3 (by omega)
        obtain ⟨rfl, _⟩ := q4 (by omega)
        have c1' := (World.cell?_of_block (w := w) (HJ.out.1.block _ (lt_of_cell c1))).trans c1
        have c2' := (World.cell?_of_block (w := w) (HJ.out.1.block _ (lt_of_cell c2))).trans c2
        have hi1 : (0 : Int) ≤ (j : Int) ∧ (j : Int) < (l.length : Int) := by omega
        have hi2 : (0 : Int) ≤ (j : Int) ∧ (j : Int) < (l'.length : Int) := by omega
        have hjb : j < 9223372036854775807 := by omega
        by_cases hx : l[j] = l'[j]
        · have i1 : (l[j] != l'[j]) = false := by simp [hx]
          have HN := (show Hid (∀ n, Below w.heap.size w (wr.drewN n) ∧ ∀ i (h1 : i < l.length) (h2 : i < l'.length), i < j + 1 → l[i] = l'[i]) from fun n => ⟨bel_drewU HJ.out.1 n, fun i h1 h2 h3 => by
            by_cases e : i = j
            · subst e; exact hx
            · exact HJ.out.2 i h1 h2 (by omega)⟩)
          clear hx q1 q2 q3 q4 c1 c2 HJ
          generalize l[j] = y1 at *
          generalize l'[j] = y2 at *
          go_upto_region 6 with fail
          go_quiet (fail)
          go_wp2_with fail
          exact ⟨⟨j + 1, by go_num, by omega, HN.out _⟩, by simp [intOf]; omega⟩
        · have i1 : (l[j] != l'[j]) = true := by simp [hx]
          have HN := (show Hid (RB = false ∧ ∀ n, Below w.heap.size w (wr.drewN n)) from ⟨by rw [← HRB.out]; simp; intro e; subst e; exact hx rfl, fun n => bel_drewU HJ.out.1 n⟩)
          clear hx q1 q2 q3 q4 c1 c2 HJ
          generalize l[j] = y1 at *
          generalize l'[j] = y2 at *
          go_upto_region 6 with fail
          go_quiet (fail)
          go_wp2_with fail
          go_ret
          exact ⟨by rw [HN.out.1]; rfl, HN.out.2 _⟩
      · have HN := (show Hid (RB = true ∧ Below w.heap.size w wr) from ⟨HSA.out (fun i h1 h2 => HJ.out.2 i h1 h2 (by omega)), HJ.out.1⟩)
        go_wp2_with fail
        go_ret
        exact ⟨by rw [HN.out.1]; rfl, HN.out.2⟩
  · have i0 : ((l.length : Int) != (l'.length : Int)) = true := by simp; omega
    have HN := (show Hid (decide (l = l') = false) from by show _ = _; simp; intro e; subst e; exact hlen rfl)
    clear hcell hcell' ha ha' hlen
    go_enter Try.func37, Try.ntmps37
    go_wp2_with fail
    go_ret
    exact ⟨by rw [HN.out]; rfl, Below.refl _ _⟩
/-- The same node. -/
def rdB (x y : Rd) : Bool := decide (x.nm = y.nm) && (decide (x.tx = y.tx) && (decide (x.lf = y.lf) && decide (x.ks = y.ks)))
theorem rdB_iff {x y : Rd} : rdB x y = true ↔ x = y := by
  obtain ⟨a, b, c, d⟩ := x
  obtain ⟨a', b', c', d'⟩ := y
  simp [rdB]
set_option maxHeartbeats 1600000 in
theorem sameNode66 {S S' : Nat → Prop} (x y : Rd) (v v' : Value) (w : World) (h : Ints w S x.ks v) (h' : Ints w S' y.ks v') :
    Calls Try.prog 39 #[.agg #[.string x.nm, .string x.tx, .bool x.lf, v], .agg #[.string y.nm, .string y.tx, .bool y.lf, v']] w fun e w' => e = .returned (.bool (rdB x y)) ∧ Below w.heap.size w w' := by
  have hb2 : Below w.heap.size w ((w.alloc (.cells #[.string x.nm, .string x.tx, .bool x.lf, v] 34)).alloc (.cells #[.string y.nm, .string y.tx, .bool y.lf, v'] 34)) := (bel_alloc _ _).alloc (by simp) _
  have HB2 := (show Hid _ from hb2)
  have HS := (show Hid _ from equal64 x.ks y.ks v v' _ (h.still hb2) (h'.still hb2))
  have HE := (show Hid (rdB x y = (decide (x.nm = y.nm) && (decide (x.tx = y.tx) && (decide (x.lf = y.lf) && decide (x.ks = y.ks))))) from rfl)
  obtain ⟨a1, l1, p1, rfl⟩ := h.form
  obtain ⟨a2, l2, p2, rfl⟩ := h'.form
  clear h h' hb2
  generalize rdB x y = R at *
  generalize decide (x.ks = y.ks) = K at *
  obtain ⟨xn, xt, xl, xk⟩ := x
  obtain ⟨yn, yt, yl, yk⟩ := y
  dsimp only at *
  by_cases e1 : xn = yn
  · subst e1
    by_cases e2 : xt = yt
    · subst e2
      by_cases e3 : xl = yl
      · subst e3
        have HF := (show Hid (R = K) from (by show R = K; rw [HE.out]; simp))
        go_enter Try.func39, Try.ntmps39
        go_wp2_with fail
        refine Calls.mono HS.out ?_
        rintro e w1 ⟨rfl, hb1⟩
        have HN := (show Hid _ from HB2.out.trans (hb1.mono HB2.out.size)); clear hb1
        go_wp2_with fail
        go_ret
        exact ⟨by rw [HF.out]; rfl, HN.out⟩
      · have HF := (show Hid (R = false) from (by show R = false; rw [HE.out]; simp [e3]))
        have hd : (xl == yl) = false := by simpa using e3
        go_enter Try.func39, Try.ntmps39
        go_wp2_with fail
        go_ret
        exact ⟨by rw [HF.out]; rfl, HB2.out⟩
    · have HF := (show Hid (R = false) from (by show R = false; rw [HE.out]; simp [e2]))
      have hd2 := ne_bytes e2
      go_enter Try.func39, Try.ntmps39
      go_wp2_with fail
      go_ret
      exact ⟨by rw [HF.out]; rfl, HB2.out⟩
  · have HF := (show Hid (R = false) from (by show R = false; rw [HE.out]; simp [e1]))
    have hd2 := ne_bytes e1
    go_enter Try.func39, Try.ntmps39
    go_wp2_with fail
    go_ret
    exact ⟨by rw [HF.out]; rfl, HB2.out⟩
end Go.Proofs.Ytkkcdkfmlamgcaa
