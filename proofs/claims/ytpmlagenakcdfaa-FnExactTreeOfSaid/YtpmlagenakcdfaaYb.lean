import Derived.Test.YtpmlagenakcdfaaDe0
import Derived.BigQuiet
import Derived.WalkLawsBesides
import Derived.BigRegion
import Derived.Deep.CutRange
import Derived.Deep.RegionHeld3
/-! The program: the word of a derivation. -/
namespace Go.Proofs.Ytpmlagenakcdfaa
open Go.RowKit Go.Deep
set_option linter.unusedVariables false
set_option maxRecDepth 100000
set_option linter.unusedSimpArgs false

theorem info3y : (Try.prog.info? 3).map (fun i => (i.zero, i.size, i.bytes)) = some (some (.int .i64 0), 1, 8) := by kernel_rfl
/-- The cells of a Prod in memory, and where they lie. -/
theorem prod_cellsY {w : World} {S : Nat → Prop} {d : Bn} {v0 v1 v3 : Value} (h : BLies w S d v0 v1 v3) : ∃ (a3 : Option Addr) (c3 bp op : Nat), v3 = .slice a3 d.prods.length c3 ∧ d.prods.length ≤ c3 ∧ ∀ k (hk : k < d.prods.length), a3 = some ⟨bp, op, none⟩ ∧ S bp ∧ ∃ (ai : Option Addr) (ci bi oi : Nat), w.cell? ⟨bp, op + k * 5 + 1, none⟩ = some (.slice ai d.prods[k].right.length ci) ∧ d.prods[k].right.length ≤ ci ∧ ∀ i (hi : i < d.prods[k].right.length), ai = some ⟨bi, oi, none⟩ ∧ S bi ∧ w.cell? ⟨bi, oi + i, none⟩ = some (.int .i64 d.prods[k].right[i]) := by
  obtain ⟨a3, c3, bp, op, sv, e3, hcp, hmp, hap, hcellp, hrp⟩ := h.prods
  refine ⟨a3, c3, bp, op, e3, hcp, fun k hk => ⟨(hap (by omega)).1, (hap (by omega)).2, ?_⟩⟩
  obtain ⟨q0, q1, q2, q3, q4, _⟩ := hcellp k hk
  obtain ⟨ai, ci, bi, oi, ei, hci, hmi, hai, hcelli⟩ := hrp k hk
  rw [ei] at q1
  exact ⟨ai, ci, bi, oi, q1, hci, fun i hi => ⟨(hai (by omega)).1, (hai (by omega)).2, hcelli i hi⟩⟩
theorem atP_le {d : Bn} {L : List Int} {f a i x b : Nat} (hx : atP d L f a i = some x) (hb : atP d L f a (pa d L a).right.length = some b) : x ≤ b := by
  unfold atP at hx hb
  rw [List.take_length, ← List.take_append_drop i (pa d L a).right, rdk_append, hx] at hb
  exact (rdk_ge (rd_gt d L f) _ _ _ hb).1
theorem wp_len {d : Bn} {L : List Int} (hok : bnB d = true) {f a i x : Nat} (hx : atP d L f a i = some x) : a + 1 ≤ x ∧ (wp d L f a i).length ≤ i + 12 * (x - (a + 1)) := by
  have h1 := wdk_len (T := d.terms.length) (g := wd d L f) (fun s a b e => ⟨(rd_gt d L f s a b e).1, wd_len hok f s a b e⟩) ((pa d L a).right.take i) (a + 1) x hx
  have h2 : ((pa d L a).right.take i).length ≤ i := by simp; omega
  unfold wp
  omega
/-- A row grows: all but it is as it was, and it is where it was or in a new block. -/
structure GW (w w' : World) (u u' : Value) : Prop where
  g : w.grownBy w' u.ownBlock
  at' : u'.ownBlock = u.ownBlock ∨ ∃ q, u'.ownBlock = some q ∧ w.heap.size ≤ q
theorem GW.of_below {w w' : World} {u : Value} (h : Below w.heap.size w w') : GW w w' u u := ⟨⟨h.os, h.tape, h.output, h.size, fun k hk _ => h.block k hk⟩, .inl rfl⟩
theorem GW.trans {w w1 w2 : World} {u u1 u2 : Value} (h : GW w w1 u u1) (k : GW w1 w2 u1 u2) : GW w w2 u u2 := by
  have s1 := h.g.size
  have s2 := k.g.size
  refine ⟨⟨k.g.os.trans h.g.os, k.g.tape.trans h.g.tape, k.g.output.trans h.g.output, by omega, fun q hq hne => ?_⟩, ?_⟩
  · refine (k.g.block q (by omega) (fun e => ?_)).trans (h.g.block q hq hne)
    rcases h.at' with e1 | ⟨p, e1, hp⟩
    · exact hne (e.trans e1)
    · rw [e1] at e
      injection e with e
      omega
  · rcases k.at' with e1 | ⟨p, e1, hp⟩
    · rcases h.at' with e2 | ⟨p, e2, hp⟩
      · exact .inl (e1.trans e2)
      · exact .inr ⟨p, e1.trans e2, hp⟩
    · exact .inr ⟨p, e1, by omega⟩
theorem GW.drewN {w w' : World} {u u' : Value} (h : GW w w' u u') (n : Nat) : GW w (w'.drewN n) u u' := ⟨⟨h.g.os, h.g.tape, h.g.output, h.g.size, h.g.block⟩, h.at'⟩
theorem GW.cell {w w' : World} {u u' : Value} (h : GW w w' u u') {p : Addr} {v : Value} (hc : w.cell? p = some v) (hne : u.ownBlock ≠ some p.block) : w'.cell? p = some v :=
  (World.cell?_of_block (w := w) (h.g.block p.block (lt_of_cell hc) (fun e => hne e.symm))).trans hc
theorem GW.step {w w' : World} {u : Value} {g n cap H : Nat} (h : w.grownBy w' u.ownBlock) (hat : u.ownBlock = some g ∨ g = H) (hH : w.heap.size ≤ H) : GW w w' u (.slice (some ⟨g, 0, none⟩) n cap) := by
  refine ⟨h, ?_⟩
  rcases hat with e | e
  · exact .inl e.symm
  · exact .inr ⟨g, rfl, by omega⟩
theorem own_keep1 {w w' : World} {B e z : Nat} {v : Value} {n : Nat} {xs : List Value} (h : w.ownsRow B e z v n xs) (hb : ∀ k, v.ownBlock = some k → w'.heap[k]? = w.heap[k]?) : w'.ownsRow B e z v n xs := by
  refine ⟨h.1, ?_⟩
  rcases h.2 with h0 | ⟨g, cp, cur, r1, r2, r3, r4⟩
  · exact .inl h0
  · exact .inr ⟨g, cp, cur, r1, r2, by rw [hb g (by rw [r1]; rfl)]; exact r3, r4⟩
theorem DPg_form {d : Bn} {L : List Int} {w : World} {K : Nat → Prop} {f a : Nat} {v : Value} (h : DP d L w K f a v) : ∃ gq, v = .pointer (some ⟨gq, 0, none⟩) ∧ w.cell? ⟨gq, 0, none⟩ = some (.int .i64 (numAt L a)) := by
  cases f with
  | zero => exact h.elim
  | succ f =>
    obtain ⟨g, kb, kc, ka, vs, ats, h1, h2, h3, _⟩ := h
    exact ⟨g, h1, h3⟩
theorem iv_len (l : List Int) : (iv l).length = l.length := by simp
set_option maxHeartbeats 12800000 in
theorem word_i {S K : Nat → Prop} {B : Nat} (d : Bn) (L : List Int) (hok : bnB d = true) (hS : ∀ q, S q → q < B) (hK : ∀ q, K q → q < B) : ∀ (f a b : Nat) (s : Int) (v0 v1 v3 v u : Value) (xs : List Int) (w : World), BLies w S d v0 v1 v3 → DP d L w K f a v → rd d L f s a = some b → B ≤ w.heap.size → w.ownsRow B 3 1 u xs.length (iv xs) → xs.length + 12 * (b - a) ≤ 1000000 →
    Calls Try.prog 37 #[v, .agg #[v0, v1, .int .i64 d.own, v3], u] w fun e w' => ∃ u', e = .returned u' ∧ GW w w' u u' ∧ w'.ownsRow B 3 1 u' (xs ++ wd d L f a).length (iv (xs ++ wd d L f a)) := by
  intro f
  induction f with
  | zero => intro a b s v0 v1 v3 v u xs w h hp hr; cases hr
  | succ f ih =>
  intro a b s v0 v1 v3 v u xs w h hp hr hB ho hlen
  have IH := (show Hid _ from ih)
  clear ih
  obtain ⟨ho1, hend⟩ := rd_succ hr
  obtain ⟨k, hk, hnum, hpa, hleft, hal⟩ := okAt_prod ho1
  have HDP := (show Hid _ from hp)
  obtain ⟨g, kb, kc, ka, vs, ats, rfl, hKg, u0, u1, hkc, hka, hkid, _⟩ := hp
  rw [hnum] at u0
  obtain ⟨hT, jk1, jk2, jk3, jk4, hPn⟩ := szB_of hok
  clear jk1 jk2 jk3 jk4
  have HLB := (show Hid _ from h)
  obtain ⟨a0, c0, a1, c1, a3', c3', rfl, rfl, jk0⟩ := h.form
  clear jk0 a3' c3'
  obtain ⟨a3, c3, bp, op, rfl, hcp, hpr⟩ := prod_cellsY h
  obtain ⟨rfl, hSp, ai, ci, bi, oi, q1, hci, hri⟩ := hpr k hk
  obtain ⟨jk1, jk2, hl12, hrr, jk3, jk4⟩ := pd_of hok hk
  clear jk1 jk2 jk3 jk4 hpr
  rw [← hpa] at q1 hl12 hci
  have HRI := (show Hid (∀ i (hi : i < (pa d L a).right.length), ai = some ⟨bi, oi, none⟩ ∧ S bi ∧ w.cell? ⟨bi, oi + i, none⟩ = some (.int .i64 (pa d L a).right[i])) from fun i hi => by
    simp only [hpa] at hi ⊢
    exact hri i hi)
  have hrow : ∀ q, u.ownBlock = some q → B ≤ q ∧ q < w.heap.size := fun q hq => World.ownsRow.lt ho q hq
  -- the world behind the box
  have hb1 := bel_alloc w (.cells #[.slice a0 d.terms.length c0, .slice a1 d.nons.length c1, .int .i64 d.own, .slice (some ⟨bp, op, none⟩) d.prods.length c3] 34)
  have hbx := Box.new w 34 [.slice a0 d.terms.length c0, .slice a1 d.nons.length c1, .int .i64 d.own, .slice (some ⟨bp, op, none⟩) d.prods.length c3]
  have hz1 : (w.alloc (.cells #[.slice a0 d.terms.length c0, .slice a1 d.nons.length c1, .int .i64 d.own, .slice (some ⟨bp, op, none⟩) d.prods.length c3] 34)).heap.size = w.heap.size + 1 := by simp
  obtain ⟨w1, hw1⟩ : ∃ w1, w.alloc (.cells #[.slice a0 d.terms.length c0, .slice a1 d.nons.length c1, .int .i64 d.own, .slice (some ⟨bp, op, none⟩) d.prods.length c3] 34) = w1 := ⟨_, rfl⟩
  have hbx : Box w1 w.heap.size 34 [.slice a0 d.terms.length c0, .slice a1 d.nons.length c1, .int .i64 d.own, .slice (some ⟨bp, op, none⟩) d.prods.length c3] := by rw [← hw1]; exact hbx
  rw [hw1] at hb1 hz1
  have x3 : w1.cell? ⟨w.heap.size, 3, none⟩ = some (.slice (some ⟨bp, op, none⟩) d.prods.length c3) := hbx.cell 3 (by simp)
  have y0 : w1.cell? ⟨g, 0, none⟩ = some (.int .i64 (k : Nat)) := (World.cell?_of_block (w := w) (hb1.block g (lt_of_cell u0))).trans u0
  have y1 : w1.cell? ⟨bp, op + k * 5 + 1, none⟩ = some (.slice ai (pa d L a).right.length ci) := (World.cell?_of_block (w := w) (hb1.block bp (lt_of_cell q1))).trans q1
  -- what is read in a round
  have HC := (show Hid (∀ (wr : World) (u' : Value), GW w1 wr u u' → wr.cell? ⟨w.heap.size, 0, none⟩ = some (.slice a0 d.terms.length c0) ∧ wr.cell? ⟨w.heap.size, 1, none⟩ = some (.slice a1 d.nons.length c1) ∧ wr.cell? ⟨w.heap.size, 2, none⟩ = some (.int .i64 d.own) ∧ wr.cell? ⟨w.heap.size, 3, none⟩ = some (.slice (some ⟨bp, op, none⟩) d.prods.length c3) ∧ wr.cell? ⟨g, 1, none⟩ = some (.slice ka (pa d L a).right.length kc) ∧ (∀ q o v, q < B → w.cell? ⟨q, o, none⟩ = some v → wr.cell? ⟨q, o, none⟩ = some v) ∧ (∀ q, q < B → q < w.heap.size → wr.heap[q]? = w.heap[q]?)) from fun wr u' hG => by
    have hne : u.ownBlock ≠ some w.heap.size := fun e => by have := (hrow _ e).2; omega
    have hlow : ∀ q, q < B → u.ownBlock ≠ some q := fun q hq e => by have := (hrow _ e).1; omega
    have hcell : ∀ q o v, q < B → w.cell? ⟨q, o, none⟩ = some v → wr.cell? ⟨q, o, none⟩ = some v := fun q o v hq hc => hG.cell (p := ⟨q, o, none⟩) ((World.cell?_of_block (w := w) (hb1.block q (lt_of_cell hc))).trans hc) (hlow q hq)
    refine ⟨hG.cell (p := ⟨w.heap.size, 0, none⟩) (hbx.cell 0 (by simp)) hne, hG.cell (p := ⟨w.heap.size, 1, none⟩) (hbx.cell 1 (by simp)) hne, hG.cell (p := ⟨w.heap.size, 2, none⟩) (hbx.cell 2 (by simp)) hne, hG.cell (p := ⟨w.heap.size, 3, none⟩) (hbx.cell 3 (by simp)) hne, hcell g 1 _ (hK g hKg) u1, hcell, fun q hq hlt => ?_⟩
    have h1 := hG.g.block q (by omega) (fun e => hlow q hq e.symm)
    rw [h1]
    exact hb1.block q hlt)
  have HKD := (show Hid _ from hkid)
  have HKB := (show Hid _ from hka)
  have HA0 := (show Hid (atP d L f a 0 = some (a + 1)) from atP_zero d L f a)
  have HKA := (show Hid _ from fun (i x : Nat) (hi : i < (pa d L a).right.length) (hx : atP d L f a i = some x) => kid_at hend hi hx)
  have HWS := (show Hid _ from fun (i x : Nat) (hi : i < (pa d L a).right.length) (hx : atP d L f a i = some x) => wp_succ hi hx)
  have HWA := (show Hid _ from wp_all d L f a)
  have HLE := (show Hid (∀ (i x : Nat), atP d L f a i = some x → i ≤ (pa d L a).right.length → x ≤ b ∧ a + 1 ≤ x ∧ (wp d L f a i).length ≤ i + 12 * (x - (a + 1))) from fun i x hx hi => ⟨atP_le hx hend, wp_len hok hx⟩)
  have HI0 := (show Hid (∀ n, GW w1 (w1.drewN n) u u ∧ (w1.drewN n).ownsRow B 3 1 u (xs ++ wp d L f a 0).length (iv (xs ++ wp d L f a 0))) from fun n => by
    rw [wp_zero, List.append_nil]
    exact ⟨(GW.of_below (Below.refl _ _)).drewN n, own_keep1 ho (fun q hq => hb1.block q (hrow q hq).2)⟩)
  have HG1 := (show Hid (GW w w1 u u) from GW.of_below hb1)
  have hab : a < b := (rd_gt d L _ _ _ _ hr).1
  have HSP := (show Hid _ from hS)
  have HKP := (show Hid _ from hK)
  have hkp : k ≤ 120 := by omega
  have HZ1 := (show Hid (B ≤ w.heap.size ∧ w1.heap.size = w.heap.size + 1) from ⟨hB, hz1⟩)
  clear hkid hka hend hr ho1 h hleft hnum hpa hri u0 u1 q1 hbx hb1 hz1 ho hrow hB hal
  obtain ⟨i3, hi3, hzz⟩ := Option.map_eq_some_iff.1 info3y
  simp only [Prod.mk.injEq] at hzz
  obtain ⟨hz0, hz1, hz2⟩ := hzz
  obtain ⟨P, hP⟩ : ∃ P, pa d L a = P := ⟨_, rfl⟩
  have HP := (show Hid _ from hP)
  rw [hP] at y1 hl12 hci hkc
  clear hP
  go_enter Try.func37, Try.ntmps37
  go_upto_region 1 with fail
  clear hw1
  go_quiet (fail)
  go_wp2_with fail
  go_loopw [2, 20] (fun u' i wr => ∃ j x : Nat, i = .int .i64 j ∧ j ≤ P.right.length ∧ Hid (atP d L f a j = some x ∧ GW w1 wr u u' ∧ wr.ownsRow B 3 1 u' (xs ++ wp d L f a j).length (iv (xs ++ wp d L f a j)))) (fun _ i _ => P.right.length - (intOf i).toNat)
  case atStart => exact ⟨0, a + 1, rfl, Nat.zero_le _, HA0.out, HI0.out _⟩
  case round =>
    obtain ⟨j, x, rfl, hj, HJ⟩ := hrel
    have HXJ := (show Hid _ from HJ.out.1)
    have HGW := (show Hid _ from HJ.out.2.1)
    have HOW := (show Hid _ from HJ.out.2.2)
    clear HJ
    by_cases hlt : j < P.right.length
    · have hltA : j < (pa d L a).right.length := by rw [HP.out]; exact hlt
      obtain ⟨e1, hSi, r0⟩ := HRI.out j hltA
      subst e1
      obtain ⟨b0, b1, b2, b3, b4, hlow, hblk⟩ := HC.out wr u2 HGW.out
      have r0' := hlow bi _ _ (HSP.out _ hSi) r0
      obtain ⟨y, hy⟩ : ∃ y, (pa d L a).right[j] = y := ⟨_, rfl⟩
      rw [hy] at r0'
      obtain ⟨e2, hKk⟩ := HKB.out (by omega)
      subst e2
      obtain ⟨k1, k2, k3, k4⟩ := HKD.out j hltA
      rw [HXJ.out] at k1
      have k1 : x = ats j := by simpa using k1
      rw [← k1] at k4
      have k2' := hlow kb _ _ (HKP.out _ hKk) k2
      have hws := HWS.out j x hltA HXJ.out
      have hka2 := HKA.out j x hltA HXJ.out
      obtain ⟨le1, le2, le3⟩ := HLE.out j x HXJ.out (by omega)
      rw [hy] at hws k3 k4 hka2
      rw [HP.out] at b4
      have hjm : j ≤ 12 := by omega
      clear hlow r0 hSi hKk k2 k1
      by_cases hyt : y < (d.terms.length : Int)
      · rw [if_pos hyt] at hws
        have hat := hka2.1 hyt
        have hv := k3 hyt
        rw [hv] at k2'
        have HN := (show Hid _ from (⟨hat, hws⟩ : _ ∧ _))
        have hba := bel_alloc wr (.cells #[.int .i64 y] 3)
        have HO1 := (show Hid _ from own_keep1 HOW.out (fun q hq => hba.block q (World.ownsRow.lt HOW.out q hq).2))
        have hsz : w1.heap.size ≤ wr.heap.size := HGW.out.g.size
        have hlx : (xs ++ wp d L f a j).length ≤ 1000000 := by rw [List.length_append]; omega
        have HLX := (show Hid _ from (⟨hlx, by have := HZ1.out; omega⟩ : (xs ++ wp d L f a j).length ≤ 1000000 ∧ B ≤ wr.heap.size))
        have HBA := (show Hid (GW wr (wr.alloc (.cells #[.int .i64 y] 3)) u2 u2) from GW.of_below hba)
        clear hka2 hat hws hv k3 k4 hba hsz hlx b0 b1 b2 b3 hblk hy le1 le2 le3
        generalize hNN : (xs ++ wp d L f a j).length = NN at *
        go_wp2_with (at_builtin; refine wpList_append_lies _ rfl (.tmp 38) (.tmp 40) 27 rfl B 3 i3 _ 1 8 Try.underlying27 hi3 hz0 hz1 hz2 rfl (by decide) _ NN _ rfl HO1.out ⟨wr.heap.size, 0, none⟩ 1 1 [.int .i64 y] rfl rfl ?c1 ?c2 (by decide) ?c3 ?c5 ?c4 _ rfl ?nx)
        case c2 => rfl
        case c3 => have := HLX.out.1; unfold maxLen; omega
        case c5 => have := HLX.out.1; omega
        case c4 => have := HLX.out.2; simp; omega
        case nx =>
          intro g7 cap7 w7 hown7 hgr7 hat7 hlt7
          have HF : Hid (atP d L f a (j + 1) = some x ∧ GW w1 w7 u (.slice (some ⟨g7, 0, none⟩) (NN + 1) cap7) ∧ w7.ownsRow B 3 1 (.slice (some ⟨g7, 0, none⟩) (NN + 1) cap7) (xs ++ wp d L f a (j + 1)).length (iv (xs ++ wp d L f a (j + 1)))) := by
            refine ⟨HN.out.1, (HGW.out.trans HBA.out).trans (GW.step hgr7 hat7 (by simp)), ?_⟩
            rw [HN.out.2, ← List.append_assoc]
            have e1 : (xs ++ wp d L f a j ++ [y]).length = NN + 1 := by rw [List.length_append, hNN]; rfl
            rw [e1]
            simpa [iv, List.append_assoc] using hown7
          clear hown7 hgr7 hat7 hlt7
          go_wp2_with fail
          exact ⟨⟨j + 1, x, by go_num, by omega, HF⟩, by simp [intOf]; omega⟩
      · rw [if_neg hyt] at hws
        obtain ⟨c, hc, hat⟩ := hka2.2 (by omega)
        have hdp := k4 (by omega)
        obtain ⟨le4, _, _⟩ := HLE.out (j + 1) c hat (by omega)
        obtain ⟨gq, hv, _⟩ := DPg_form hdp
        rw [hv] at k2' hdp
        have hsz : w1.heap.size ≤ wr.heap.size := HGW.out.g.size
        have hxc := (rd_gt d L _ _ _ _ hc).1
        have HIH := (show Hid _ from IH.out x c y _ _ _ (.pointer (some ⟨gq, 0, none⟩)) u2 (xs ++ wp d L f a j) wr (HLB.out.keep' (fun q hq hlt => hblk q (HSP.out q hq) hlt)) (DP.keep (fun q hq hlt => hblk q (HKP.out q hq) hlt) _ _ _ hdp) hc (by have := HZ1.out; omega) HOW.out (by rw [List.length_append]; omega))
        have HN := (show Hid _ from (⟨hat, hws⟩ : _ ∧ _))
        clear hka2 hat hws k3 k4 hdp hsz hblk hy le1 le2 le3 le4 hc hxc hv
        go_wp2_with fail
        refine Calls.mono HIH.out ?_
        rintro e w7 ⟨u7, rfl, hg7, ho7⟩
        have HF : Hid (atP d L f a (j + 1) = some c ∧ GW w1 w7 u u7 ∧ w7.ownsRow B 3 1 u7 (xs ++ wp d L f a (j + 1)).length (iv (xs ++ wp d L f a (j + 1)))) := by
          refine ⟨HN.out.1, HGW.out.trans hg7, ?_⟩
          rw [HN.out.2, ← List.append_assoc]
          exact ho7
        clear hg7 ho7 HIH
        go_wp2_with fail
        exact ⟨⟨j + 1, c, by go_num, by omega, HF⟩, by simp [intOf]; omega⟩
    · have hje : j = (pa d L a).right.length := by rw [HP.out]; omega
      have HE : Hid (GW w wr u u2 ∧ wr.ownsRow B 3 1 u2 (xs ++ wd d L (f + 1) a).length (iv (xs ++ wd d L (f + 1) a))) := by
        have h1 := HOW.out
        rw [hje, HWA.out] at h1
        exact ⟨HG1.out.trans HGW.out, h1⟩
      clear hje
      go_wp2_with fail
      go_ret
      exact ⟨u2, rfl, HE.out⟩
end Go.Proofs.Ytpmlagenakcdfaa
