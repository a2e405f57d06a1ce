import Derived.Test.YtilahbfcobhjeaaTm
/-! Programs that are made tighter: jumpEnds of the program. -/
namespace Go.Proofs.Ytilahbfcobhjeaa
open Go.RowKit Go.Deep
set_option linter.unusedVariables false
set_option maxRecDepth 100000
set_option linter.unusedSimpArgs false

/-- How many numbers say -2. -/
def isM : Option Value → Nat
  | some (.int _ x) => if x = -2 then 1 else 0
  | _ => 0
def cmN (w : World) (g n : Nat) : Nat := ((List.range n).map (fun i => isM (w.cell? ⟨g, i, none⟩))).sum
def cmF (f : Nat → Int) (n : Nat) : Nat := ((List.range n).map (fun i => if f i = -2 then 1 else 0)).sum
theorem cmN_eq {w : World} {g n : Nat} {f : Nat → Int} (h : IF w g n f) : cmN w g n = cmF f n := by
  unfold cmN cmF
  congr 1
  apply List.map_congr_left
  intro i hi
  rw [h.cell (by simpa using hi)]
  rfl
theorem cmF_succ (f : Nat → Int) (n : Nat) : cmF f (n + 1) = cmF f n + (if f n = -2 then 1 else 0) := by
  unfold cmF
  rw [List.range_succ, List.map_append, List.sum_append]
  simp
theorem cmF_le (f : Nat → Int) (n : Nat) : cmF f n ≤ n := by
  induction n with
  | zero => simp [cmF]
  | succ n ih => rw [cmF_succ]; split <;> omega
theorem cmF_set {f : Nat → Int} {a : Nat} (h2 : f a = -2) : ∀ n, (a < n → cmF (fun x => if x = a then -1 else f x) n + 1 = cmF f n) ∧ (n ≤ a → cmF (fun x => if x = a then -1 else f x) n = cmF f n) := by
  intro n
  induction n with
  | zero => exact ⟨fun h => absurd h (Nat.not_lt_zero _), fun _ => rfl⟩
  | succ n ih =>
    rw [cmF_succ, cmF_succ]
    constructor
    · intro h
      by_cases e : n = a
      · subst e
        rw [ih.2 (Nat.le_refl _)]
        simp [h2]
      · have := ih.1 (by omega)
        simp only [if_neg e]
        omega
    · intro h
      have e : n ≠ a := by omega
      rw [ih.2 (by omega)]
      simp only [if_neg e]
/-- As the places stand before one goes along. -/
def st0 (l : List DIns) (i : Nat) : Int := if (insAt l i).op = 5 then -2 else (i : Int)
theorem IF.to {w : World} {g n : Nat} {f f' : Nat → Int} (h : IF w g n f) (e : ∀ i, i < n → f i = f' i) : IF w g n f' := by
  obtain ⟨c, F, h, h1, h2⟩ := h
  exact ⟨c, F, h, h1, fun i hi => by rw [h2 i hi, e i hi]⟩
theorem bel_trans0 {g : Nat} {w wr : World} {o : Obj} (h : Below g w wr) (hg : g ≤ wr.heap.size) : Below g w (wr.alloc o) := h.alloc hg o
set_option maxHeartbeats 20000000 in
theorem jump103 {S : Nat → Prop} (l : List DIns) (v : Value) (w : World) (h : InsR w S l v) (h1 : 1 ≤ l.length) (hl : l.length ≤ 50000) (hin : ∀ i (hi : i < l.length), inB l.length l[i] = true) :
    Calls Try.prog 103 #[v] w (JeA l w) := by
  obtain ⟨i3, hi3, hzz⟩ := Option.map_eq_some_iff.1 info3p
  simp only [Prod.mk.injEq] at hzz
  obtain ⟨hz0, hz1, hz2⟩ := hzz
  obtain ⟨a, cap, b, off, rfl, hc, hm, ha, hcell⟩ := h
  obtain ⟨rfl, _⟩ := ha (by omega)
  have HC := (show Hid _ from hcell)
  have HIN := (show Hid _ from hin)
  have hmk := run_makeI l.length hl w
  have H0 := (show Hid (Below w.heap.size w (w.alloc (.cells (madeCells #[.int .i64 0] l.length) 3)) ∧ IF (w.alloc (.cells (madeCells #[.int .i64 0] l.length) 3)) w.heap.size l.length (fun _ => 0)) from ⟨bel_alloc _ _, IF.made w l.length⟩)
  unfold maxLen at hm
  clear ha hcell hin
  go_enter Try.func103, Try.ntmps103
  go_wp2_with fail
  generalize hW1 : w.alloc (.cells (madeCells #[.int .i64 0] l.length) 3) = w1 at *
  clear hW1 hmk
  generalize hgE : w.heap.size = gE at *
  go_loopw [16] (fun i wr => ∃ (j : Nat) (f : Nat → Int), i = .int .i64 j ∧ j ≤ l.length ∧ Hid (Below gE w wr ∧ IF wr gE l.length f ∧ ∀ i, i < j → f i = st0 l i)) (fun i _ => l.length - (intOf i).toNat)
  case atStart => exact ⟨0, _, rfl, Nat.zero_le _, H0.out.1, H0.out.2, fun i hi => absurd hi (Nat.not_lt_zero _)⟩
  case round =>
    obtain ⟨j, f, rfl, hj, HJ⟩ := hrel
    obtain ⟨q1, q2, q3⟩ := HJ.out
    by_cases hjl : j < l.length
    case pos =>
      obtain ⟨c0, c1, c2⟩ := HC.out j hjl
      have hbb : b < gE := by rw [← hgE]; exact lt_of_cell c0
      rw [← q1.cell (by exact hbb)] at c0
      rw [← q1.cell (by exact hbb)] at c1
      rw [← q1.cell (by exact hbb)] at c2
      have hgw : gE < wr.heap.size := q2.lt
      have hbw : b < wr.heap.size := by omega
      have ce := q2.cell hjl
      have fe := q2.frozen j
      have hat := insAt_at hjl
      have HST := (show Hid (st0 l j = if l[j].op = 5 then -2 else (j : Int)) from (by show _ = _; unfold st0; rw [hat]))
      have HQ := (show Hid _ from HJ.out)
      clear HJ q1 q2 q3 hat
      generalize l[j].op = xo at *
      generalize l[j].n = xn at *
      generalize l[j].to_ = xt at *
      by_cases h5 : xo = 5
      case pos =>
        subst h5
        have hst5 : st0 l j = -2 := by rw [HST.out]; rfl
        have HS5 := (show Hid _ from hst5); clear hst5
        go_wp2_with fail
        refine ⟨⟨j + 1, _, by go_num, by omega, bel_trans0 ((HQ.out.1.setCell (by exact Nat.le_refl _) _).setCell (by exact Nat.le_refl _) _) (by simp; omega), ((HQ.out.2.1.set j (j : Int)).set j (-2)).still (bel_alloc _ _), fun i hi => ?_⟩, by simp [intOf]; omega⟩
        by_cases e : i = j
        · subst e; simp [HS5.out]
        · simp only [if_neg e]; exact HQ.out.2.2 i (by omega)
      case neg =>
        have h5b : (xo == 5) = false := by simpa using h5
        have hst5 : st0 l j = (j : Int) := by rw [HST.out, if_neg h5]
        have HS5 := (show Hid _ from hst5); clear hst5 h5
        go_wp2_with fail
        refine ⟨⟨j + 1, _, by go_num, by omega, bel_trans0 (HQ.out.1.setCell (by exact Nat.le_refl _) _) (by simp; omega), (HQ.out.2.1.set j (j : Int)).still (bel_alloc _ _), fun i hi => ?_⟩, by simp [intOf]; omega⟩
        by_cases e : i = j
        · subst e; simp [HS5.out]
        · simp only [if_neg e]; exact HQ.out.2.2 i (by omega)
    case neg =>
      obtain rfl : j = l.length := by omega
      have H2 := (show Hid (Below gE w wr ∧ IF wr gE l.length (st0 l)) from ⟨q1, q2.to (fun i hi => q3 i hi)⟩)
      clear HJ q1 q2 q3 hj hjl H0
      go_wp2_with fail
      rename World => wo
      go_loopw [34] (fun i wr => ∃ (p : Nat) (f : Nat → Int), i = .int .i64 p ∧ p ≤ l.length ∧ Hid (Below gE w wr ∧ IF wr gE l.length f ∧ (∀ x, x < l.length → f x = enF l x ∨ (f x = -2 ∧ (insAt l x).op = 5)) ∧ ∀ x, x < p → f x ≠ -2)) (fun i _ => l.length - (intOf i).toNat)
      case atStart =>
        refine ⟨0, st0 l, rfl, Nat.zero_le _, H2.out.1, H2.out.2, fun x hx => ?_, fun x hx => absurd hx (Nat.not_lt_zero _)⟩
        unfold st0
        by_cases h5 : (insAt l x).op = 5
        · exact .inr ⟨if_pos h5, h5⟩
        · exact .inl (by rw [if_neg h5, enF_self h5])
      case round =>
        rename World => wp
        obtain ⟨p, f0, rfl, hp, HP⟩ := hrel
        by_cases hpl : p < l.length
        case neg =>
          obtain rfl : p = l.length := by omega
          have HE := (show Hid (JeA l w (.returned (.slice (some ⟨gE, 0, none⟩) l.length l.length)) wp) from by
            obtain ⟨q1, q2, q3, q4⟩ := HP.out
            refine ⟨gE, rfl, by rw [hgE]; exact q1, q2.to (fun i hi => (q3 i hi).resolve_right (fun h => q4 i hi h.1)), by rw [hgE]; exact Nat.le_refl _⟩)
          go_wp2_with fail
          go_ret
          exact HE.out
        case pos =>
          have HW0 := (show Hid _ from Wy.start (k := p) hpl HP.out.2.2.1)
          go_wp2_with fail
          go_loopw [7, 8] (fun v7 v8 wq => ∃ (W : List Nat) (at_ : Nat) (a' : Option Addr) (c' : Nat) (f : Nat → Int), v7 = .slice a' W.length c' ∧ v8 = .int .i64 at_ ∧ Hid (Below gE w wq ∧ IF wq gE l.length f ∧ Wy l f W at_ ∧ wq.ownsRow (gE + 1) 3 1 (.slice a' W.length c') W.length (iv (nL W)) ∧ (∀ x, x < p → f x ≠ -2) ∧ (p ∈ W ∨ at_ = p) ∧ W.length + cmF f l.length ≤ l.length)) (fun _ _ wq => cmN wq gE l.length)
          case atStart =>
            exact ⟨[], p, none, 0, f0, rfl, rfl, HP.out.1, HP.out.2.1, HW0.out, ⟨rfl, .inl ⟨rfl, rfl⟩⟩, HP.out.2.2.2, .inr rfl, by simpa using cmF_le f0 l.length⟩
          case round =>
            rename World => wq
            obtain ⟨W, at_, a', c', f, rfl, rfl, HQ⟩ := hrel
            obtain ⟨q1, q2, q3, q4, q5, q6, q7⟩ := HQ.out
            have hal := q3.at_l
            have ce := q2.cell hal
            have fe := q2.frozen at_
            have hgw : gE < wq.heap.size := q2.lt
            by_cases h2 : f at_ = -2
            case pos =>
              rw [h2] at ce
              obtain ⟨h5, hnW, hwy⟩ := q3.step HIN.out h2
              rw [insAt_at hal] at hwy h5
              obtain ⟨_, _, f3, f4, _, _⟩ := in_facts (HIN.out at_ hal)
              have f5 := f4 (by rw [h5]; rfl)
              have cw := (HC.out at_ hal).2.2
              have hbb : b < gE := by rw [← hgE]; exact lt_of_cell cw
              obtain ⟨t, ht⟩ : ∃ t : Nat, l[at_].to_ = t := ⟨l[at_].to_.toNat, by omega⟩
              rw [ht] at cw hwy f5
              rw [Int.toNat_natCast] at hwy
              have HCW := (show Hid (∀ w', Below gE w w' → w'.cell? ⟨b, off + at_ * 3 + 2, none⟩ = some (.int .i64 (t : Int))) from fun w' hb' => (hb'.cell (by exact hbb)).trans cw)
              have HWY := (show Hid _ from hwy)
              have HI1 := (show Hid (IF ((wq.setCell ⟨gE, at_, none⟩ (.int .i64 (-1))).alloc (.cells #[.int .i64 (at_ : Int)] 3)) gE l.length (fun x => if x = at_ then -1 else f x)) from (q2.set at_ (-1)).still (bel_alloc _ _))
              have o1 : (wq.setCell ⟨gE, at_, none⟩ (.int .i64 (-1))).ownsRow (gE + 1) 3 1 (.slice a' W.length c') W.length (iv (nL W)) := own_keep q4 (fun q hq => blk_setCell_other _ _ _ _ (by show q ≠ gE; have := (own_lt q4 hq).1; omega))
              have HO2 := (show Hid (((wq.setCell ⟨gE, at_, none⟩ (.int .i64 (-1))).alloc (.cells #[.int .i64 (at_ : Int)] 3)).ownsRow (gE + 1) 3 1 (.slice a' W.length c') W.length (iv (nL W))) from own_keep o1 (fun q hq => (bel_alloc _ _).block q (own_lt o1 hq).2))
              have HB2 := (show Hid (Below gE w ((wq.setCell ⟨gE, at_, none⟩ (.int .i64 (-1))).alloc (.cells #[.int .i64 (at_ : Int)] 3))) from bel_trans0 (q1.setCell (by exact Nat.le_refl _) _) (by simp; omega))
              have hnb := World.news_of_block (blk_alloc_new (wq.setCell ⟨gE, at_, none⟩ (.int .i64 (-1))) (.cells #[.int .i64 (at_ : Int)] 3))
              rw [show (wq.setCell ⟨gE, at_, none⟩ (.int .i64 (-1))).heap.size = wq.heap.size by simp] at hnb
              have HNB := (show Hid _ from hnb)
              have HCM := (show Hid (cmF (fun x => if x = at_ then -1 else f x) l.length + 1 = cmF f l.length) from (cmF_set h2 l.length).1 hal)
              have HME := (show Hid (cmN wq gE l.length = cmF f l.length) from cmN_eq q2)
              have HQ5 := (show Hid (∀ x, x < p → (if x = at_ then (-1 : Int) else f x) ≠ -2) from fun x hx => by
                by_cases e : x = at_
                · rw [if_pos e]; omega
                · rw [if_neg e]; exact q5 x hx)
              have HQ6 := (show Hid (p ∈ W ++ [at_] ∨ t = p) from .inl (by rcases q6 with h | h; exact List.mem_append.2 (.inl h); (rw [h]; simp)))
              have HQ7 := (show Hid _ from q7)
              clear HQ q1 q2 q3 q4 q5 q6 hwy o1 hnb ht f3 f4 f5 h5 cw h2
              go_wp2_with (at_builtin; refine wpList_append_lies _ rfl (.tmp 46) (.tmp 48) 29 rfl (gE + 1) 3 i3 _ 1 8 Try.underlying29 hi3 hz0 hz1 hz2 rfl (by decide) _ W.length (iv (nL W)) rfl HO2.out ⟨wq.heap.size, 0, none⟩ 1 1 [.int .i64 (at_ : Int)] rfl rfl HNB.out (by intro u hu; simp at hu; subst hu; rfl) (by decide) (by unfold maxLen; have := HQ7.out; omega) (by have := HQ7.out; omega) (by simp; omega) _ rfl ?_; intro g8 cap8 w8 hown8 hgr8 hat8 hlt8; have HB8 := (show Hid (Below gE w w8) from HB2.out.grown hgr8 (by simp; omega) (fun q hq => by have := (own_lt HO2.out hq).1; omega)); have c8 := HCW.out w8 HB8.out; have HI8 := (show Hid _ from HI1.out.keep (hgr8.block gE HI1.out.lt (fun e => by have := (own_lt HO2.out e.symm).1; omega))); have HO8 := (show Hid _ from hown8); clear hown8 hgr8 hat8 hlt8)
              refine ⟨⟨W ++ [at_], t, some ⟨g8, 0, none⟩, cap8, _, by simp, rfl, HB8.out, HI8.out, HWY.out, ?_, HQ5.out, HQ6.out, ?_⟩, ?_⟩
              · have e : iv (nL (W ++ [at_])) = iv (nL W) ++ [.int .i64 (at_ : Int)] := by simp [nL, iv]
                rw [e, List.length_append]
                exact HO8.out
              · have h1 := HQ7.out
                have h2 := HCM.out
                simp only [List.length_append, List.length_cons, List.length_nil]
                omega
              · rw [cmN_eq HI8.out, HME.out]
                have h2 := HCM.out
                omega
            case neg =>
              have h2b : (f at_ == -2) = false := by simpa using h2
              have HDN := (show Hid _ from q3.done h2)
              have HWL := (show Hid (∀ x, x ∈ W → x < l.length) from fun x hx => (q3.inW x hx).1)
              have HOU := (show Hid _ from q3.out)
              have HQ5 := (show Hid _ from q5)
              have HQ6 := (show Hid _ from q6)
              have HB := (show Hid _ from q1)
              have HI := (show Hid _ from q2)
              have HO := (show Hid _ from q4)
              have HNE := (show Hid (f at_ ≠ -2) from h2)
              obtain ⟨E, hE⟩ : ∃ E, E = f at_ := ⟨_, rfl⟩
              rw [← hE] at ce h2b
              have HE := (show Hid _ from hE)
              clear HQ q1 q2 q3 q4 q5 q6 q7 h2 hE
              go_wp2_with fail
              rename World => w4
              go_loopw [57] (fun i wz => ∃ (k : Nat) (g : Nat → Int), i = .int .i64 k ∧ k ≤ W.length ∧ Hid (Below gE w wz ∧ IF wz gE l.length g ∧ wz.ownsRow (gE + 1) 3 1 (.slice a' W.length c') W.length (iv (nL W)) ∧ ∀ x, g x = if x ∈ W.take k then E else f x)) (fun i _ => W.length - (intOf i).toNat)
              case atStart => exact ⟨0, f, rfl, Nat.zero_le _, HB.out, HI.out, HO.out, fun x => by simp⟩
              case round =>
                rename World => wz
                obtain ⟨k, g, rfl, hk, HZ⟩ := hrel
                obtain ⟨z1, z2, z3, z4⟩ := HZ.out
                by_cases hkl : k < W.length
                case pos =>
                  obtain ⟨gw, rfl⟩ : ∃ gw, a' = some ⟨gw, 0, none⟩ := by
                    rcases z3.2 with ⟨e, h0⟩ | ⟨g', cap', cur, e, _⟩
                    · omega
                    · injection e with e1 e2 e3; exact ⟨g', e1⟩
                  have hfo := (own_row z3).1
                  have hfm := (own_row z3).2.1
                  unfold maxLen at hfm
                  have cwk := own_cell z3 rfl (i := k) (by rw [nL_len]; exact hkl)
                  have cwk' : wz.cell? ⟨gw, k, none⟩ = some (.int .i64 (W[k] : Int)) := by rw [cwk]; simp [nL]
                  have hxl := HWL.out W[k] (List.getElem_mem hkl)
                  have cat := z2.cell hal
                  have gat : g at_ = E := by rw [z4 at_]; split; rfl; exact HE.out.symm
                  rw [gat] at cat
                  have cx := z2.cell hxl
                  have fx := z2.frozen W[k]
                  have hgz : gE < wz.heap.size := z2.lt
                  have HN := (show Hid (Below gE w (wz.setCell ⟨gE, W[k], none⟩ (.int .i64 E)) ∧ IF (wz.setCell ⟨gE, W[k], none⟩ (.int .i64 E)) gE l.length (fun x => if x = W[k] then E else g x) ∧ (wz.setCell ⟨gE, W[k], none⟩ (.int .i64 E)).ownsRow (gE + 1) 3 1 (.slice (some ⟨gw, 0, none⟩) W.length c') W.length (iv (nL W)) ∧ ∀ x, (if x = W[k] then E else g x) = if x ∈ W.take (k + 1) then E else f x) from by
                    refine ⟨z1.setCell (by exact Nat.le_refl _) _, z2.set W[k] E, own_keep z3 (fun q hq => blk_setCell_other _ _ _ _ (by show q ≠ gE; have := (own_lt z3 hq).1; omega)), fun x => ?_⟩
                    rw [List.take_succ_eq_append_getElem hkl]
                    by_cases e : x = W[k]
                    · rw [if_pos e, if_pos (List.mem_append.2 (.inr (List.mem_singleton.2 e)))]
                    · rw [if_neg e, z4 x]
                      have hm : (x ∈ W.take k ++ [W[k]]) ↔ x ∈ W.take k := ⟨fun h => (List.mem_append.1 h).resolve_right (fun q => e (List.mem_singleton.1 q)), fun h => List.mem_append.2 (.inl h)⟩
                      simp only [hm])
                  clear HZ z1 z2 z3 z4 cwk gat
                  generalize W[k] = WK at *
                  go_wp2_with fail
                  exact ⟨⟨k + 1, _, by go_num, by omega, HN.out⟩, by simp [intOf]; omega⟩
                case neg =>
                  obtain rfl : k = W.length := by omega
                  have HN := (show Hid (Below gE w wz ∧ IF wz gE l.length g ∧ (∀ x, x < l.length → g x = enF l x ∨ (g x = -2 ∧ (insAt l x).op = 5)) ∧ ∀ x, x < p + 1 → g x ≠ -2) from by
                    have hE2 : E ≠ -2 := by rw [HE.out]; exact HNE.out
                    rw [List.take_length] at z4
                    refine ⟨z1, z2, fun x hx => ?_, fun x hx => ?_⟩
                    · rw [z4 x]
                      by_cases e : x ∈ W
                      · rw [if_pos e]; exact .inl (by rw [HDN.out.2 x e, HE.out])
                      · rw [if_neg e]; exact HOU.out x hx e
                    · rw [z4 x]
                      by_cases e : x ∈ W
                      · rw [if_pos e]; exact hE2
                      · rw [if_neg e]
                        by_cases ex : x < p
                        · exact HQ5.out x ex
                        · have exp : x = p := by omega
                          subst exp
                          rcases HQ6.out with h | h
                          · exact absurd h e
                          · rw [← h]; exact HNE.out)
                  clear HZ z1 z2 z3 z4
                  go_wp2_with fail
                  exact ⟨⟨p + 1, g, by go_num, by omega, HN.out⟩, by simp [intOf]; omega⟩
end Go.Proofs.Ytilahbfcobhjeaa
