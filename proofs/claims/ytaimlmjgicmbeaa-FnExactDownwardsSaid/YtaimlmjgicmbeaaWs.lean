import Derived.Test.YtaimlmjgicmbeaaYb
import Derived.Test.YtaimlmjgicmbeaaWi
import Derived.Test.YtaimlmjgicmbeaaDi
import Derived.Test.YtaimlmjgicmbeaaWp
/-! The specification: the word of a derivation. -/
namespace Go.Proofs.Ytaimlmjgicmbeaa
open Go.RowKit Go.Deep
set_option linter.unusedVariables false
set_option maxRecDepth 100000
set_option linter.unusedSimpArgs false

theorem cn_take_leY (T : Nat) (ss : List Int) (i : Nat) : cn T (ss.take i) ≤ cn T ss := (List.take_sublist i ss).countP_le
end Go.Proofs.Ytaimlmjgicmbeaa

/-! The specification: Yield. -/
namespace Go.Proofs.Ytaimlmjgicmbeaa
open Go.RowKit Go.Deep
set_option linter.unusedVariables false
set_option maxRecDepth 100000
set_option linter.unusedSimpArgs false

end Go.Proofs.Ytaimlmjgicmbeaa

/-! The specification: a derivation from below. -/
namespace Go.Proofs.Ytaimlmjgicmbeaa
open Go.RowKit Go.Deep
set_option linter.unusedVariables false
set_option maxRecDepth 100000
set_option linter.unusedSimpArgs false

theorem fm_take {l : List Nat} {g : Nat → List Int} (m : Nat) : ((l.take m).flatMap g).length ≤ (l.flatMap g).length := by
  have h : l.flatMap g = (l.take m).flatMap g ++ (l.drop m).flatMap g := by rw [← List.flatMap_append, List.take_append_drop]
  rw [h, List.length_append]
  omega
theorem fm_succ {l : List Nat} {g : Nat → List Int} {m x : Nat} (h : l[m]? = some x) : (l.take (m + 1)).flatMap g = (l.take m).flatMap g ++ g x := by
  rw [List.take_add_one, h, List.flatMap_append]
  simp
theorem up_ne {d : Bn} {L : List Int} {f a b : Nat} {s : Int} (h : rd d L f s a = some b) : 0 < (up d L f a).length := by
  have := up_len f s a b h
  have := (rd_gt d L _ _ _ _ h).1
  omega
set_option maxHeartbeats 6400000 in
theorem up_s {K : Nat → Prop} (d : Bn) (L : List Int) (hok : bnB d = true) : ∀ (f a b : Nat) (s : Int) (v : Value) (w : World), SP d L w K f a v → rd d L f s a = some b → b - a ≤ 4000 →
    Calls Try.prog 22 #[.agg #[.int .i64 (numAt L a), v]] w fun e w' => ∃ g c, e = .returned (.slice (some ⟨g, 0, none⟩) (up d L f a).length c) ∧ Below w.heap.size w w' ∧ w'.ownsRow w.heap.size 3 1 (.slice (some ⟨g, 0, none⟩) (up d L f a).length c) (up d L f a).length (iv (up d L f a)) := by
  intro f
  induction f with
  | zero => intro a b s v w hp hr; cases hr
  | succ f ih =>
    intro a b s v w hp hr hlen
    have IH := (show Hid _ from ih)
    clear ih
    have hul := up_len _ _ _ _ hr
    obtain ⟨ho, hend⟩ := rd_succ hr
    obtain ⟨k, hk, hnum, hpa, hleft, hal⟩ := okAt_prod ho
    obtain ⟨kb, kc, ka, sv, ats, rfl, hkc, hka, hkid⟩ := hp
    have hend' := hend
    unfold atP at hend'
    rw [List.take_length] at hend'
    obtain ⟨jk1, jk2, hl12, hrr, jk3, jk4⟩ := pd_of hok hk
    clear jk1 jk2 jk3 jk4 hrr
    rw [← hpa] at hl12
    have hcnl := cn_le d.terms.length (pa d L a).right
    have hul2 : ((ukA d L f a).flatMap (up d L f)).length ≤ 4000 := by
      rw [up_succ, List.length_append] at hul
      omega
    have HKL := (show Hid ((ukA d L f a).length = cn d.terms.length (pa d L a).right) from kpk_len _ _ _ _)
    have HKM := (show Hid (∀ m, m < cn d.terms.length (pa d L a).right → ∃ (x c : Nat) (y : Int) (u : Value), (ukA d L f a)[m]? = some x ∧ w.cell? ⟨kb, m * 2, none⟩ = some (.int .i64 (numAt L x)) ∧ w.cell? ⟨kb, m * 2 + 1, none⟩ = some u ∧ SP d L w K f x u ∧ rd d L f y x = some c ∧ c - x ≤ 4000) from fun m hm => by
      obtain ⟨i, hi, x, h1, h2, h3, h4⟩ := kpk_inv d.terms.length (rd d L f) (pa d L a).right (a + 1) b m hend' (by rw [kpk_len]; exact hm)
      obtain ⟨e1, e2⟩ := hkid i hi
      have hx : atP d L f a i = some x := h3
      have e3 : ats i = x := by have := e1.symm.trans hx; simpa using this
      obtain ⟨q1, q2, q3⟩ := e2 h1
      rw [h2, e3] at q1
      rw [h2] at q2
      rw [e3] at q3
      obtain ⟨c, hc, hat⟩ := (kid_at hend hi hx).2 (by omega)
      have hle := atP_le hat hend
      have hge := (ukp_len hx).1
      exact ⟨x, c, _, sv i, h4, q1, q2, q3, hc, by omega⟩)
    have HKB := (show Hid _ from hka)
    have HTK := (show Hid _ from fun m => Nat.le_trans (fm_take (l := ukA d L f a) (g := up d L f) m) hul2)
    have HUP := (show Hid _ from up_succ d L f a)
    have HAL := (show Hid ((ukA d L f a).take (cn d.terms.length (pa d L a).right) = ukA d L f a) from by rw [← HKL.out]; exact List.take_length)
    obtain ⟨W2, hW2⟩ : ∃ W2, (w.alloc (.cells #[.int .i64 (numAt L a), .slice ka (cn d.terms.length (pa d L a).right) kc] 48)).alloc (.cells #[] 3) = W2 := ⟨_, rfl⟩
    have hb2 : Below w.heap.size w W2 := by rw [← hW2]; exact bel_trans (bel_alloc _ _) (bel_alloc _ _)
    have hz2 : W2.heap.size = w.heap.size + 2 := by rw [← hW2]; simp
    have x1 : Box W2 w.heap.size 48 [.int .i64 (numAt L a), .slice ka (cn d.terms.length (pa d L a).right) kc] := by rw [← hW2]; exact (Box.new w 48 _).still (bel_alloc _ _)
    have hw0 : W2.ownsRow (w.heap.size + 1) 3 1 (.slice (some ⟨w.heap.size + 1, 0, none⟩) 0 0) 0 [] := by
      refine ⟨rfl, .inr ⟨w.heap.size + 1, 0, #[], rfl, Nat.le_refl _, ?_, Nat.le_refl _, Nat.zero_le _, rfl, rfl⟩⟩
      rw [← hW2]
      have := blk_alloc_new (w.alloc (.cells #[.int .i64 (numAt L a), .slice ka (cn d.terms.length (pa d L a).right) kc] 48)) (.cells #[] 3)
      simpa using this
    have HC := (show Hid (∀ (wr : World) (u : Value), GW W2 wr (.slice (some ⟨w.heap.size + 1, 0, none⟩) 0 0) u → Below w.heap.size w wr ∧ wr.cell? ⟨w.heap.size, 0, none⟩ = some (.int .i64 (numAt L a)) ∧ wr.cell? ⟨w.heap.size, 1, none⟩ = some (.slice ka (cn d.terms.length (pa d L a).right) kc) ∧ w.heap.size + 2 ≤ wr.heap.size) from fun wr u hG => by
      have hne : ∀ q, q < w.heap.size + 1 → (Value.slice (some ⟨w.heap.size + 1, 0, none⟩) 0 0).ownBlock ≠ some q := fun q hq e => by
        have e : w.heap.size + 1 = q := by simpa [Value.ownBlock] using e
        omega
      have hsz := hG.g.size
      exact ⟨⟨hG.g.os.trans hb2.os, hG.g.tape.trans hb2.tape, hG.g.output.trans hb2.output, by omega, fun q hq => (hG.g.block q (by omega) (fun e => hne q (by omega) e.symm)).trans (hb2.block q hq)⟩, hG.cell (p := ⟨w.heap.size, 0, none⟩) (x1.cell 0 (by simp)) (hne w.heap.size (by omega)), hG.cell (p := ⟨w.heap.size, 1, none⟩) (x1.cell 1 (by simp)) (hne w.heap.size (by omega)), by omega⟩)
    have HI0 := (show Hid (GW W2 W2 (.slice (some ⟨w.heap.size + 1, 0, none⟩) 0 0) (.slice (some ⟨w.heap.size + 1, 0, none⟩) 0 0) ∧ W2.ownsRow (w.heap.size + 1) 3 1 (.slice (some ⟨w.heap.size + 1, 0, none⟩) 0 0) 0 []) from ⟨GW.of_below (Below.refl _ _), hw0⟩)
    clear hkid hka hend hend' hr ho hleft hal hb2 x1 hw0 hz2 hpa hnum hul hul2
    obtain ⟨i3, hi3, hzz⟩ := Option.map_eq_some_iff.1 info3y
    simp only [Prod.mk.injEq] at hzz
    obtain ⟨hz0, hz1, hz2⟩ := hzz
    obtain ⟨CN, hCN⟩ : ∃ CN, cn d.terms.length (pa d L a).right = CN := ⟨_, rfl⟩
    rw [hCN] at hcnl hkc hW2 HKB HKM HC HAL HKL ⊢
    have hcn12 : CN ≤ 12 := by omega
    clear hCN
    generalize numAt L a = NA at *
    generalize ukA d L f a = KS at *
    go_enter Try.func22, Try.ntmps22
    go_wp2_with fail
    generalize (w.alloc (.cells #[.int .i64 NA, .slice ka CN kc] 48)).alloc (.cells #[] 3) = W9 at *
    subst hW2
    go_loopw [3, 4] (fun u i wr => ∃ j g c : Nat, u = .slice (some ⟨g, 0, none⟩) ((KS.take j).flatMap (up d L f)).length c ∧ i = .int .i64 j ∧ j ≤ CN ∧ Hid (GW W9 wr (.slice (some ⟨w.heap.size + 1, 0, none⟩) 0 0) (.slice (some ⟨g, 0, none⟩) ((KS.take j).flatMap (up d L f)).length c) ∧ wr.ownsRow (w.heap.size + 1) 3 1 (.slice (some ⟨g, 0, none⟩) ((KS.take j).flatMap (up d L f)).length c) ((KS.take j).flatMap (up d L f)).length (iv ((KS.take j).flatMap (up d L f))))) (fun _ i _ => CN - (intOf i).toNat)
    case atStart => exact ⟨0, w.heap.size + 1, 0, rfl, rfl, Nat.zero_le _, HI0.out⟩
    case round =>
      obtain ⟨j, gu, cu, rfl, rfl, hj, HJ⟩ := hrel
      have HGW := (show Hid _ from HJ.out.1)
      have HOW := (show Hid _ from HJ.out.2)
      clear HJ
      obtain ⟨hbw, y0, y1, hzr⟩ := HC.out wr _ HGW.out
      have HLX := (show Hid _ from HTK.out j)
      by_cases hlt : j < CN
      · obtain ⟨rfl, _⟩ := HKB.out (by omega)
        obtain ⟨x, c, y, uv, hx, c0, c1, hsp, hrd, hc4⟩ := HKM.out j hlt
        have c0' := (World.cell?_of_block (w := w) (hbw.block kb (lt_of_cell c0))).trans c0
        have c1' := (World.cell?_of_block (w := w) (hbw.block kb (lt_of_cell c1))).trans c1
        have HIH := (show Hid _ from IH.out x c y uv wr (SP.keep (fun t _ ht => hbw.block t ht) _ _ _ hsp) hrd hc4)
        have hul := up_len _ _ _ _ hrd
        have hne := up_ne hrd
        have HNX := (show Hid _ from fm_succ (g := up d L f) hx)
        have HTN := (show Hid _ from HTK.out (j + 1))
        rw [HNX.out, List.length_append] at HTN
        have HZR := (show Hid _ from hzr)
        clear hx c0 c1 hsp hrd hbw y0
        generalize numAt L x = NX at *
        obtain ⟨uf, huf⟩ : ∃ uf, up d L f x = uf := ⟨_, rfl⟩
        rw [huf] at HIH HNX HTN hul hne
        clear huf
        obtain ⟨ob, hob⟩ : ∃ ob, (KS.take j).flatMap (up d L f) = ob := ⟨_, rfl⟩
        rw [hob] at HGW HOW HLX HNX HTN ⊢
        clear hob
        obtain ⟨NN, hNN⟩ : ∃ NN, ob.length = NN := ⟨_, rfl⟩
        obtain ⟨MM, hMM⟩ : ∃ MM, uf.length = MM := ⟨_, rfl⟩
        have HOB := (show Hid _ from (⟨hNN, hMM⟩ : _ ∧ _))
        rw [hNN] at HGW HOW HLX HTN ⊢
        rw [hMM] at HIH HTN hne hul
        have hNM : NN + MM ≤ 4000 := HTN.out
        clear hNN hMM hul HTN HLX
        go_wp2_with fail
        refine Calls.mono HIH.out ?_
        rintro e w7 ⟨g7, c7, rfl, hb7, ho7⟩
        have HO1 := (show Hid _ from own_keep1 HOW.out (fun q hq => hb7.block q (World.ownsRow.lt HOW.out q hq).2))
        have HG7 := (show Hid _ from HGW.out.trans (GW.of_below hb7))
        have HSZ := (show Hid (w.heap.size + 1 ≤ w7.heap.size) from by have h1 := HZR.out; have h2 := hb7.size; show w.heap.size + 1 ≤ w7.heap.size; omega)
        have HNW := (show Hid (∀ j u, (iv uf)[j]? = some u → w7.cell? ((⟨g7, 0, none⟩ : Addr).add j) = some u) from fun j u hu => World.ownsRow.cells ho7 (g := g7) rfl j u hu)
        clear ho7 hb7 HIH c0' c1' y1
        go_wp2_with (at_builtin; refine wpList_append_lies _ rfl (.tmp 13) (.tmp 19) 27 rfl (w.heap.size + 1) 3 i3 _ 1 8 Try.underlying27 hi3 hz0 hz1 hz2 rfl (by decide) _ NN _ rfl HO1.out ⟨g7, 0, none⟩ MM c7 (iv uf) rfl (by simp [HOB.out.2]) HNW.out (by intro u hu; simp at hu; obtain ⟨z, _, rfl⟩ := hu; rfl) hne (by unfold maxLen; omega) (by omega) HSZ.out _ rfl ?_; intro g8 cap8 w8 hown8 hgr8 hat8 hlt8)
        have HF := (show Hid (GW W9 w8 (.slice (some ⟨w.heap.size + 1, 0, none⟩) 0 0) (.slice (some ⟨g8, 0, none⟩) ((KS.take (j + 1)).flatMap (up d L f)).length cap8) ∧ w8.ownsRow (w.heap.size + 1) 3 1 (.slice (some ⟨g8, 0, none⟩) ((KS.take (j + 1)).flatMap (up d L f)).length cap8) ((KS.take (j + 1)).flatMap (up d L f)).length (iv ((KS.take (j + 1)).flatMap (up d L f)))) from by
          rw [HNX.out, List.length_append, HOB.out.1, HOB.out.2]
          refine ⟨HG7.out.trans (GW.step hgr8 hat8 (Nat.le_refl _)), ?_⟩
          simpa [iv] using hown8)
        have HLN := (show Hid (((KS.take (j + 1)).flatMap (up d L f)).length = NN + MM) from (show ((KS.take (j + 1)).flatMap (up d L f)).length = NN + MM from by rw [HNX.out, List.length_append, HOB.out.1, HOB.out.2]))
        clear hown8 hgr8 hat8 hlt8
        go_wp2_with fail
        exact ⟨⟨j + 1, g8, cap8, by rw [HLN.out], by go_num, by omega, HF.out⟩, by simp [intOf]; omega⟩
      · obtain rfl : j = CN := by omega
        have h1 := HOW.out
        have hba := bel_alloc wr (.cells #[.int .i64 NA] 3)
        have HO1 := (show Hid _ from own_keep1 h1 (fun q hq => hba.block q (World.ownsRow.lt h1 q hq).2))
        have HG1 := (show Hid _ from HGW.out.trans (GW.of_below hba))
        have HZR := (show Hid _ from hzr)
        have HNB := (show Hid _ from World.news_of_block (blk_alloc_new wr (.cells #[.int .i64 NA] 3)))
        clear h1 hba hzr hbw
        rw [HAL.out] at HO1 HG1 HLX ⊢
        obtain ⟨ob, hob⟩ : ∃ ob, KS.flatMap (up d L f) = ob := ⟨_, rfl⟩
        rw [hob] at HO1 HG1 HLX HUP ⊢
        obtain ⟨NN, hNN⟩ : ∃ NN, ob.length = NN := ⟨_, rfl⟩
        rw [hNN] at HO1 HG1 HLX ⊢
        have HNN := (show Hid _ from hNN)
        have hN4 : NN ≤ 4000 := HLX.out
        clear hob hNN HLX HGW HOW
        go_wp2_with (at_builtin; refine wpList_append_lies _ rfl (.tmp 21) (.tmp 24) 27 rfl (w.heap.size + 1) 3 i3 _ 1 8 Try.underlying27 hi3 hz0 hz1 hz2 rfl (by decide) _ NN _ rfl HO1.out ⟨wr.heap.size, 0, none⟩ 1 1 [.int .i64 NA] rfl rfl HNB.out (by intro u hu; simp at hu; subst hu; rfl) (by decide) (by unfold maxLen; omega) (by omega) (by have := HZR.out; simp; omega) _ rfl ?_; intro g8 cap8 w8 hown8 hgr8 hat8 hlt8)
        go_ret
        have hfin := HC.out w8 (.slice (some ⟨g8, 0, none⟩) (NN + 1) cap8) (HG1.out.trans (GW.step hgr8 hat8 (Nat.le_refl _)))
        rw [HUP.out, List.length_append, HNN.out]
        refine ⟨g8, cap8, rfl, hfin.1, ?_⟩
        have h9 : w8.ownsRow w.heap.size 3 1 (.slice (some ⟨g8, 0, none⟩) (NN + 1) cap8) (NN + 1) (iv ob ++ [.int .i64 NA]) := by
          refine ⟨hown8.1, ?_⟩
          rcases hown8.2 with h0 | ⟨g, cp, cur, r1, r2, r3⟩
          · exact .inl h0
          · exact .inr ⟨g, cp, cur, r1, by omega, r3⟩
        simpa [iv] using h9
end Go.Proofs.Ytaimlmjgicmbeaa
