import Derived.Test.YtaimlmjgicmbeaaYb
import Derived.Test.YtaimlmjgicmbeaaDo
import Derived.Test.YtaimlmjgicmbeaaWp
/-! The program: Yield. -/
namespace Go.Proofs.Ytaimlmjgicmbeaa
open Go.RowKit Go.Deep
set_option linter.unusedVariables false
set_option maxRecDepth 100000
set_option linter.unusedSimpArgs false

theorem yldR_cd {d : Bn} {non : Int} {L : List Int} (h : cdR d non L.length ≠ 0) : yldR d non L = ([], cdR d non L.length) := by
  unfold yldR
  rw [if_pos h]
theorem yldR_rd {d : Bn} {non : Int} {L : List Int} (h : cdR d non L.length = 0) : yldR d non L = (if rd d L (L.length + 1) (d.terms.length + non) 0 = some L.length then (if 200 < (wd d L (L.length + 1) 0).length then ([], 3) else (wd d L (L.length + 1) 0, 0)) else ([], 2)) := by
  unfold yldR
  rw [if_neg (by omega)]
theorem DP.top {d : Bn} {L : List Int} {w : World} {K : Nat → Prop} : ∀ (f a : Nat) (v : Value), DP d L w K f a v → DP d L w (fun q => K q ∧ q < w.heap.size) f a v
  | 0, _, _, h => h
  | f + 1, a, v, h => by
    obtain ⟨g, kb, kc, ka, vs, ats, h1, h2, h3, h4, h5, h6, h7, h8⟩ := h
    refine ⟨g, kb, kc, ka, vs, ats, h1, ⟨h2, lt_of_cell h3⟩, h3, h4, h5, fun h0 => ⟨(h6 h0).1, (h6 h0).2, lt_of_cell (h7 0 h0).2.1⟩, fun i hi => ?_, h8⟩
    obtain ⟨k1, k2, k3, k4⟩ := h7 i hi
    exact ⟨k1, k2, k3, fun hn => DP.top f _ _ (k4 hn)⟩
theorem GW.below {w w' : World} {u u' : Value} (h : GW w w' u u') (hn : u.ownBlock = none) : Below w.heap.size w w' := by
  refine ⟨h.g.os, h.g.tape, h.g.output, h.g.size, fun k hk => h.g.block k hk (fun e => ?_)⟩
  rw [hn] at e
  cases e
end Go.Proofs.Ytaimlmjgicmbeaa

/-! The program: a derivation from below. -/
namespace Go.Proofs.Ytaimlmjgicmbeaa
open Go.RowKit Go.Deep
set_option linter.unusedVariables false
set_option maxRecDepth 100000
set_option linter.unusedSimpArgs false

set_option maxHeartbeats 6400000 in
theorem up_i {K : Nat → Prop} {B : Nat} (d : Bn) (L : List Int) (hok : bnB d = true) (hK : ∀ q, K q → q < B) : ∀ (f a b : Nat) (s : Int) (v u : Value) (xs : List Int) (w : World), DP d L w K f a v → rd d L f s a = some b → B ≤ w.heap.size → w.ownsRow B 3 1 u xs.length (iv xs) → xs.length + (b - a) ≤ 8000 →
    Calls Try.prog 27 #[v, u] w fun e w' => ∃ u', e = .returned u' ∧ GW w w' u u' ∧ w'.ownsRow B 3 1 u' (xs ++ up d L f a).length (iv (xs ++ up d L f a)) := by
  intro f
  induction f with
  | zero => intro a b s v u xs w hp hr; cases hr
  | succ f ih =>
  intro a b s v u xs w hp hr hB ho hlen
  have IH := (show Hid _ from ih)
  clear ih
  obtain ⟨ho1, hend⟩ := rd_succ hr
  obtain ⟨k, hk, hnum, hpa, hleft, hal⟩ := okAt_prod ho1
  obtain ⟨g, kb, kc, ka, vs, ats, rfl, hKg, cz0, cz1, hkc, hka, hkid, _⟩ := hp
  obtain ⟨hT, jk1, jk2, jk3, jk4, hPn⟩ := szB_of hok
  clear jk1 jk2 jk3 jk4
  obtain ⟨jk1, jk2, hl12, hrr, jk3, jk4⟩ := pd_of hok hk
  clear jk1 jk2 jk3 jk4 hrr
  rw [← hpa] at hl12
  have hrow : ∀ q, u.ownBlock = some q → B ≤ q ∧ q < w.heap.size := fun q hq => World.ownsRow.lt ho q hq
  have hab : a < b := (rd_gt d L _ _ _ _ hr).1
  have HC := (show Hid (∀ (wr : World) (u' : Value), GW w wr u u' → (∀ q o v, q < B → w.cell? ⟨q, o, none⟩ = some v → wr.cell? ⟨q, o, none⟩ = some v) ∧ (∀ q, q < B → q < w.heap.size → wr.heap[q]? = w.heap[q]?)) from fun wr u' hG => by
    have hlow : ∀ q, q < B → u.ownBlock ≠ some q := fun q hq e => by have := (hrow _ e).1; omega
    exact ⟨fun q o v hq hc => hG.cell (p := ⟨q, o, none⟩) hc (hlow q hq), fun q hq hlt => hG.g.block q hlt (fun e => hlow q hq e.symm)⟩)
  have HKD := (show Hid _ from hkid)
  have HKB := (show Hid _ from hka)
  have HKP := (show Hid _ from hK)
  have HA0 := (show Hid (atP d L f a 0 = some (a + 1)) from atP_zero d L f a)
  have HKA := (show Hid _ from fun (i x : Nat) (hi : i < (pa d L a).right.length) (hx : atP d L f a i = some x) => kid_at hend hi hx)
  have HWS := (show Hid _ from fun (i x : Nat) (hi : i < (pa d L a).right.length) (hx : atP d L f a i = some x) => ukp_succ hi hx)
  have HWA := (show Hid _ from ukp_all d L f a)
  have HLE := (show Hid (∀ (i x : Nat), atP d L f a i = some x → x ≤ b ∧ a + 1 ≤ x ∧ ((ukp d L f a i).flatMap (up d L f)).length = x - (a + 1)) from fun i x hx => ⟨atP_le hx hend, ukp_len hx⟩)
  have HI0 := (show Hid (GW w w u u ∧ w.ownsRow B 3 1 u (xs ++ (ukp d L f a 0).flatMap (up d L f)).length (iv (xs ++ (ukp d L f a 0).flatMap (up d L f)))) from by
    rw [ukp_zero, List.flatMap_nil, List.append_nil]
    exact ⟨GW.of_below (Below.refl _ _), ho⟩)
  have HB := (show Hid _ from hB)
  have HKg := (show Hid _ from hK g hKg)
  have HU0 := (show Hid _ from cz0)
  clear hkid hka hend hr ho1 hleft hnum hpa hal ho hrow hB
  obtain ⟨i3, hi3, hzz⟩ := Option.map_eq_some_iff.1 info3y
  simp only [Prod.mk.injEq] at hzz
  obtain ⟨hz0, hz1, hz2⟩ := hzz
  obtain ⟨P, hP⟩ : ∃ P, pa d L a = P := ⟨_, rfl⟩
  have HP := (show Hid _ from hP)
  rw [hP] at cz1 hl12 hkc
  clear hP cz0
  generalize hAX : xs ++ up d L (f + 1) a = AX
  have HAX := (show Hid _ from hAX)
  clear hAX
  go_enter Try.func27, Try.ntmps27
  go_wp2_with fail
  go_loopw [1, 12] (fun u' i wr => ∃ j x : Nat, i = .int .i64 j ∧ j ≤ P.right.length ∧ Hid (atP d L f a j = some x ∧ GW w wr u u' ∧ wr.ownsRow B 3 1 u' (xs ++ (ukp d L f a j).flatMap (up d L f)).length (iv (xs ++ (ukp d L f a j).flatMap (up d L f))))) (fun _ i _ => P.right.length - (intOf i).toNat)
  case atStart => exact ⟨0, a + 1, rfl, Nat.zero_le _, HA0.out, HI0.out⟩
  case round =>
    obtain ⟨j, x, rfl, hj, HJ⟩ := hrel
    have HXJ := (show Hid _ from HJ.out.1)
    have HGW := (show Hid _ from HJ.out.2.1)
    have HOW := (show Hid _ from HJ.out.2.2)
    clear HJ
    by_cases hlt : j < P.right.length
    · have hltA : j < (pa d L a).right.length := by rw [HP.out]; exact hlt
      obtain ⟨hlow, hblk⟩ := HC.out wr u1 HGW.out
      obtain ⟨e2, hKk⟩ := HKB.out (by omega)
      subst e2
      obtain ⟨k1, k2, k3, k4⟩ := HKD.out j hltA
      rw [HXJ.out] at k1
      have k1 : x = ats j := by simpa using k1
      rw [← k1] at k4
      have k2' := hlow kb _ _ (HKP.out _ hKk) k2
      have hws := HWS.out j x hltA HXJ.out
      have hka2 := HKA.out j x hltA HXJ.out
      obtain ⟨le1, le2, le3⟩ := HLE.out j x HXJ.out
      obtain ⟨y, hy⟩ : ∃ y, (pa d L a).right[j] = y := ⟨_, rfl⟩
      rw [hy] at hws k3 k4 hka2
      have hjm : j ≤ 12 := by omega
      clear hlow hKk k2 k1
      by_cases hyt : y < (d.terms.length : Int)
      · rw [if_pos hyt, List.append_nil] at hws
        have hat := hka2.1 hyt
        have hv := k3 hyt
        rw [hv] at k2'
        have HF := (show Hid (atP d L f a (j + 1) = some x ∧ GW w wr u u1 ∧ wr.ownsRow B 3 1 u1 (xs ++ (ukp d L f a (j + 1)).flatMap (up d L f)).length (iv (xs ++ (ukp d L f a (j + 1)).flatMap (up d L f)))) from ⟨hat, HGW.out, by rw [hws]; exact HOW.out⟩)
        clear hka2 hat hws hv k3 k4 hblk hy le1 le2 le3
        go_wp2_with fail
        exact ⟨⟨j + 1, x, by go_num, by omega, HF⟩, by simp [intOf]; omega⟩
      · rw [if_neg hyt] at hws
        obtain ⟨c, hc, hat⟩ := hka2.2 (by omega)
        have hdp := k4 (by omega)
        obtain ⟨le4, le5, le6⟩ := HLE.out (j + 1) c hat
        obtain ⟨gq, hv, _⟩ := DPg_form hdp
        rw [hv] at k2' hdp
        have hsz : w.heap.size ≤ wr.heap.size := HGW.out.g.size
        have hxc := (rd_gt d L _ _ _ _ hc).1
        have HIH := (show Hid _ from IH.out x c y (.pointer (some ⟨gq, 0, none⟩)) u1 (xs ++ (ukp d L f a j).flatMap (up d L f)) wr (DP.keep (fun q hq hlt => hblk q (HKP.out q hq) hlt) _ _ _ hdp) hc (by have := HB.out; omega) HOW.out (by rw [List.length_append]; omega))
        have HN := (show Hid _ from (⟨hat, hws⟩ : _ ∧ _))
        clear hka2 hat hws k3 k4 hdp hsz hblk hy le1 le2 le3 le4 le5 le6 hc hxc hv
        go_wp2_with fail
        refine Calls.mono HIH.out ?_
        rintro e w7 ⟨u7, rfl, hg7, ho7⟩
        have HF : Hid (atP d L f a (j + 1) = some c ∧ GW w w7 u u7 ∧ w7.ownsRow B 3 1 u7 (xs ++ (ukp d L f a (j + 1)).flatMap (up d L f)).length (iv (xs ++ (ukp d L f a (j + 1)).flatMap (up d L f)))) := by
          refine ⟨HN.out.1, HGW.out.trans hg7, ?_⟩
          rw [HN.out.2, List.flatMap_append, ← List.append_assoc]
          simpa using ho7
        clear hg7 ho7 HIH
        go_wp2_with fail
        exact ⟨⟨j + 1, c, by go_num, by omega, HF⟩, by simp [intOf]; omega⟩
    · have hje : j = (pa d L a).right.length := by rw [HP.out]; omega
      have h1 := HOW.out
      obtain ⟨le1, le2, le3⟩ := HLE.out j x HXJ.out
      rw [hje, HWA.out] at h1 le3
      obtain ⟨hlow, hblk⟩ := HC.out wr u1 HGW.out
      have z0 := hlow g _ _ HKg.out HU0.out
      have hba := bel_alloc wr (.cells #[.int .i64 (numAt L a)] 3)
      have HO1 := (show Hid _ from own_keep1 h1 (fun q hq => hba.block q (World.ownsRow.lt h1 q hq).2))
      have hsz : w.heap.size ≤ wr.heap.size := HGW.out.g.size
      have HBA := (show Hid (GW wr (wr.alloc (.cells #[.int .i64 (numAt L a)] 3)) u1 u1) from GW.of_below hba)
      have hlx : (xs ++ (ukA d L f a).flatMap (up d L f)).length ≤ 8000 := by rw [List.length_append]; omega
      have HLX := (show Hid (B ≤ wr.heap.size) from by have := HB.out; show B ≤ wr.heap.size; omega)
      have HUP := (show Hid _ from up_succ d L f a)
      clear hje h1 le1 le2 le3 hlow hblk hba hsz
      generalize hNN : (xs ++ (ukA d L f a).flatMap (up d L f)).length = NN at *
      generalize numAt L a = y at *
      have HNB := (show Hid _ from World.news_of_block (blk_alloc_new wr (.cells #[.int .i64 y] 3)))
      go_wp2_with (at_builtin; refine wpList_append_lies _ rfl (.tmp 22) (.tmp 27) 27 rfl B 3 i3 _ 1 8 Try.underlying27 hi3 hz0 hz1 hz2 rfl (by decide) _ NN _ rfl HO1.out ⟨wr.heap.size, 0, none⟩ 1 1 [.int .i64 y] rfl rfl HNB.out (by intro u hu; simp at hu; subst hu; rfl) (by decide) (by unfold maxLen; omega) (by omega) (by have := HLX.out; simp; omega) _ rfl ?_; intro g7 cap7 w7 hown7 hgr7 hat7 hlt7)
      go_ret
      refine ⟨_, rfl, (HGW.out.trans HBA.out).trans (GW.step hgr7 hat7 (by simp)), ?_⟩
      rw [← HAX.out, HUP.out, ← List.append_assoc]
      have e1 : (xs ++ (ukA d L f a).flatMap (up d L f) ++ [y]).length = NN + 1 := by rw [List.length_append, hNN]; rfl
      rw [e1]
      simpa [iv, List.append_assoc] using hown7
end Go.Proofs.Ytaimlmjgicmbeaa
