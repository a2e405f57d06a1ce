import Derived.Test.YtgjnlhidbjpdkajGreatS4
/-! The specification's l03SayAlts: alternatives, shown. -/
namespace Go.Proofs.YtgjnlhidbjpdkajGreat
open Go.RowKit Go.Deep
set_option linter.unusedVariables false
set_option maxRecDepth 100000
set_option linter.unusedSimpArgs false

theorem len_wsz (l : List ByteArray) : l.length ≤ wsz l := by
  induction l with
  | nil => exact Nat.le_refl _
  | cons x r ih => simp only [List.length_cons, wsz]; omega
theorem mem_wsz (l : List ByteArray) : ∀ i (hi : i < l.length), l[i].size ≤ wsz l := by
  induction l with
  | nil => intro i hi; exact absurd hi (Nat.not_lt_zero _)
  | cons x r ih =>
    intro i hi
    cases i with
    | zero => simp only [List.getElem_cons_zero, wsz]; omega
    | succ i => have := ih i (by simpa using hi); simp only [List.getElem_cons_succ, wsz]; omega

set_option maxHeartbeats 3200000 in
theorem sayAlts_step {S : Nat → Prop} (say : Int → ByteArray) (nm : ByteArray) (a1 a2 a3 a4 : Option Addr) (n1 p1 n2 p2 n3 p3 n4 p4 : Nat) (alts : List (List Int)) (v : Value) (w : World) (hA : IRws w S alts v) (hW : wsz (bars (fun it => it.map say) alts) ≤ 4398046511104)
    (hsay : ∀ (k : Nat) (hk : k < alts.length) (w' : World) (v' : Value), Below w.heap.size w w' → Ints w' S alts[k] v' → Calls Tryz.prog 36 #[.agg #[.string nm, .slice a1 n1 p1, .slice a2 n2 p2, .slice a3 n3 p3, .slice a4 n4 p4], v'] w' fun e w'' => ∃ g c, e = .returned (.slice (some ⟨g, 0, none⟩) alts[k].length c) ∧ Below w'.heap.size w' w'' ∧ w''.ownsRow w'.heap.size 9 1 (.slice (some ⟨g, 0, none⟩) alts[k].length c) alts[k].length (sc (alts[k].map say))) :
    Calls Tryz.prog 96 #[.agg #[.string nm, .slice a1 n1 p1, .slice a2 n2 p2, .slice a3 n3 p3, .slice a4 n4 p4], v] w fun e w' => e = .returned (.string (jn (bars (fun it => it.map say) alts))) ∧ Below w.heap.size w w' := by
  obtain ⟨aa, ca, ba, oa, s0, rfl, hc, hm, ha, hcell, hin⟩ := hA
  have HC := (show Hid _ from hcell); clear hcell
  have HI := (show Hid _ from hin); clear hin
  have HS := (show Hid _ from hsay); clear hsay
  unfold maxLen at hm
  obtain ⟨i9, hi9, hzz⟩ := Option.map_eq_some_iff.1 info9s
  simp only [Prod.mk.injEq] at hzz
  obtain ⟨hz0, hz1, hz2⟩ := hzz
  have HB0 := (show Hid _ from Box.new w 36 [.string nm, .slice a1 n1 p1, .slice a2 n2 p2, .slice a3 n3 p3, .slice a4 n4 p4])
  go_enter Tryz.func96, Tryz.ntmps96
  go_wp2_with fail
  go_loopw [5, 6] (fun u i wr => ∃ (j : Nat) (dn : List ByteArray) (a' : Option Addr) (c' : Nat), u = .slice a' dn.length c' ∧ i = .int .i64 j ∧ j ≤ alts.length ∧ Hid (Below w.heap.size w wr ∧ Box wr w.heap.size 36 [.string nm, .slice a1 n1 p1, .slice a2 n2 p2, .slice a3 n3 p3, .slice a4 n4 p4] ∧ wr.ownsRow (w.heap.size + 1) 9 1 (.slice a' dn.length c') dn.length (sc dn) ∧ dn ++ bark (fun it => it.map say) alts j = bars (fun it => it.map say) alts)) (fun _ i _ => alts.length - (intOf i).toNat)
  case atStart =>
    refine ⟨0, [], _, _, rfl, rfl, Nat.zero_le _, bel2 _ _ _, HB0.out.still (bel_alloc _ _), ?_, rfl⟩
    have h := own_made0 (w.alloc (.cells #[.string nm, .slice a1 n1 p1, .slice a2 n2 p2, .slice a3 n3 p3, .slice a4 n4 p4] 36)) 9
    simp only [World.size_alloc] at h
    simpa [sc] using h
  case round =>
    obtain ⟨j, d0, a', c', rfl, rfl, hj, HR⟩ := hrel
    by_cases hlt : j < alts.length
    · have hlt' := hlt
      obtain ⟨rfl, _⟩ := ha (by omega)
      by_cases h0 : 0 < j
      · have h02 : decide ((0 : Int) < j) = true := by simp; omega
        have hd0 : d0.length + 1 ≤ 4398046511104 := by
          have h1 := len_wsz (bars (fun it => it.map say) alts)
          rw [← HR.out.2.2.2, bark_next hlt' h0, List.length_append, List.length_cons] at h1
          rw [← bark_next hlt' h0, HR.out.2.2.2] at h1
          omega
        have HO1 := (show Hid _ from own_still HR.out.2.2.1 (bel_alloc wr (.cells #[.string ⟨#[124]⟩] 9)))
        have hwz0 : w.heap.size + 1 ≤ wr.heap.size := HR.out.2.1.lt
        go_wp2_with (at_builtin; refine wpList_append_lies _ rfl (.tmp 16) (.tmp 17) 47 rfl (w.heap.size + 1) 9 i9 _ 1 16 Tryz.underlying47 hi9 hz0 hz1 hz2 rfl (by decide) _ d0.length (sc d0) rfl HO1.out ⟨wr.heap.size, 0, none⟩ 1 1 [.string ⟨#[124]⟩] rfl rfl (cell_one_box _ _ _) (by intro u hu; simp at hu; subst hu; rfl) (by decide) ?c1 ?c2 ?c3 _ rfl ?nx)
        case c1 => unfold maxLen; omega
        case c2 => omega
        case c3 => first | omega | (simp; omega)
        case nx =>
          intro g2 cap2 U hown2 hgr2 hat2 hlt2
          have hbU : Below w.heap.size w U := ((bel_trans HR.out.1 (bel_alloc wr (.cells #[.string ⟨#[124]⟩] 9))).grown hgr2 (by have := HR.out.1.size; simp; omega) (fun q hq => by
            have := (World.ownsRow.lt HR.out.2.2.1 q hq).1
            omega))
          have hxU : Box U w.heap.size 36 [.string nm, .slice a1 n1 p1, .slice a2 n2 p2, .slice a3 n3 p3, .slice a4 n4 p4] := (Box.still HR.out.2.1 (bel_alloc _ _)).keep (hgr2.block _ (by simp; omega) (fun e => by have := (World.ownsRow.lt HR.out.2.2.1 _ e.symm).1; omega))
          have hmU : (d0 ++ [ByteArray.mk #[124]]) ++ (alts[j].map say ++ bark (fun it => it.map say) alts (j + 1)) = bars (fun it => it.map say) alts := by
            rw [← HR.out.2.2.2, bark_next hlt' h0, List.append_assoc]; rfl
          have hoU : U.ownsRow (w.heap.size + 1) 9 1 (.slice (some ⟨g2, 0, none⟩) (d0 ++ [ByteArray.mk #[124]]).length cap2) (d0 ++ [ByteArray.mk #[124]]).length (sc (d0 ++ [ByteArray.mk #[124]])) := by
            rw [sc_append, List.length_append]; exact hown2
          have hlU : d0.length + 1 = (d0 ++ [ByteArray.mk #[124]]).length := by simp
          have HU := (show Hid _ from (⟨hbU, hxU, hoU, hmU⟩ : _ ∧ _ ∧ _ ∧ _))
          clear hbU hxU hoU hmU hown2 hgr2 hat2 HO1 HR hd0
          rw [hlU]
          clear hlU
          generalize d0 ++ [ByteArray.mk #[124]] = dn at *
          obtain ⟨si, ci', ei, mi⟩ := (HI.out j hlt').form
          have c0 := (HC.out j hlt')
          rw [ei] at c0
          rw [← HU.out.1.cell (lt_of_cell c0)] at c0
          have T0 : U.cell? ⟨w.heap.size, 0, none⟩ = some (.string nm) := HU.out.2.1.cell 0 (by simp)
          have T1 : U.cell? ⟨w.heap.size, 1, none⟩ = some (.slice a1 n1 p1) := HU.out.2.1.cell 1 (by simp)
          have T2 : U.cell? ⟨w.heap.size, 2, none⟩ = some (.slice a2 n2 p2) := HU.out.2.1.cell 2 (by simp)
          have T3 : U.cell? ⟨w.heap.size, 3, none⟩ = some (.slice a3 n3 p3) := HU.out.2.1.cell 3 (by simp)
          have T4 : U.cell? ⟨w.heap.size, 4, none⟩ = some (.slice a4 n4 p4) := HU.out.2.1.cell 4 (by simp)
          have hdr := (Below.refl U.heap.size U).drew
          have hwz : w.heap.size + 1 ≤ U.heap.size := HU.out.2.1.lt
          have hcl := HS.out j hlt' U.drew (s0 j) HU.out.1.drew ((HI.out j hlt').still HU.out.1.drew)
          rw [ei] at hcl
          have HCL := (show Hid _ from hcl); clear hcl ei
          have hln : dn.length + alts[j].length ≤ 4398046511104 := by
            have h1 := len_wsz (bars (fun it => it.map say) alts)
            rw [← HU.out.2.2.2, List.length_append, List.length_append, List.length_map] at h1
            rw [HU.out.2.2.2] at h1
            omega
          have HN0 := (show Hid _ from (by
            have h1 := HU.out.2.2.2
            rw [← List.append_assoc] at h1
            exact h1 : (dn ++ alts[j].map say) ++ bark (fun it => it.map say) alts (j + 1) = bars (fun it => it.map say) alts))
          have hgl : (sc (alts[j].map say)).length = alts[j].length * 1 := by simp [sc]
          have hal : (dn ++ alts[j].map say).length = dn.length + alts[j].length := by simp
          have hsc : sc (dn ++ alts[j].map say) = sc dn ++ sc (alts[j].map say) := sc_append _ _
          generalize alts[j].map say = gm at *
          generalize alts[j].length = gn at *
          go_wp2_with fail
          go_region_law (first
            | (refine step_append_at _ rfl (.tmp 19) (.tmp 25) 47 rfl (w.heap.size + 1) 9 i9 _ 1 16 Tryz.underlying47 hi9 hz0 hz1 hz2 rfl (by decide) _ dn.length _ (by simp [Act.eval, Act.put]) HO2.out ⟨g1, 0, none⟩ gn c1 (sc gm) (by simp [Act.eval, Act.put]) hgl (own_cells hw1) (sc_one _) (by unfold maxLen; omega) (by omega) (by omega) ?_; intro q3 cap3 w3 hown3 hgr3)
            | (go_simp; go_at_call 36; refine Calls.mono HCL.out ?_; rintro e w1 ⟨g1, c1, rfl, hb1, hw1⟩; have hbA := hdr.trans (hb1.mono (Nat.le_refl _)); have hs1 : U.heap.size ≤ w1.heap.size := hbA.size; have HO2 := (show Hid _ from own_still HU.out.2.2.1 hbA)))
          all_goals
            have hb3 : Below w.heap.size w w3 := ((bel_trans HU.out.1 hbA).grown hgr3 (by have := HU.out.1.size; omega) (fun q hq => by
              have := (World.ownsRow.lt HU.out.2.2.1 q hq).1
              omega))
            have hx3 : Box w3 w.heap.size 36 [.string nm, .slice a1 n1 p1, .slice a2 n2 p2, .slice a3 n3 p3, .slice a4 n4 p4] := (Box.still HU.out.2.1 hbA).keep (hgr3.block _ (by omega) (fun e => by have := (World.ownsRow.lt HU.out.2.2.1 _ e.symm).1; omega))
            rw [← hsc, ← hal] at hown3
            have HN := (show Hid _ from (⟨hb3, hx3, hown3, HN0.out⟩ : _ ∧ _ ∧ _ ∧ _))
            clear hb3 hx3 hown3 hgr3 T0 T1 T2 T3 T4 c0 HO2
            go_wp2_with fail
            exact ⟨⟨j + 1, _, _, _, by rw [hal], by go_num, by omega, HN⟩, by simp [intOf]; omega⟩
      · obtain rfl : j = 0 := by omega
        have HU := (show Hid _ from (⟨HR.out.1, HR.out.2.1, HR.out.2.2.1, by rw [← bark_first hlt']; exact HR.out.2.2.2⟩ : Below w.heap.size w wr ∧ Box wr w.heap.size 36 [.string nm, .slice a1 n1 p1, .slice a2 n2 p2, .slice a3 n3 p3, .slice a4 n4 p4] ∧ wr.ownsRow (w.heap.size + 1) 9 1 (.slice a' d0.length c') d0.length (sc d0) ∧ d0 ++ (alts[0].map say ++ bark (fun it => it.map say) alts (0 + 1)) = bars (fun it => it.map say) alts))
        clear HR
        obtain ⟨si, ci', ei, mi⟩ := (HI.out 0 hlt').form
        have c0 := (HC.out 0 hlt')
        rw [ei, Nat.add_zero] at c0
        rw [← HU.out.1.cell (lt_of_cell c0)] at c0
        have T0 : wr.cell? ⟨w.heap.size, 0, none⟩ = some (.string nm) := HU.out.2.1.cell 0 (by simp)
        have T1 : wr.cell? ⟨w.heap.size, 1, none⟩ = some (.slice a1 n1 p1) := HU.out.2.1.cell 1 (by simp)
        have T2 : wr.cell? ⟨w.heap.size, 2, none⟩ = some (.slice a2 n2 p2) := HU.out.2.1.cell 2 (by simp)
        have T3 : wr.cell? ⟨w.heap.size, 3, none⟩ = some (.slice a3 n3 p3) := HU.out.2.1.cell 3 (by simp)
        have T4 : wr.cell? ⟨w.heap.size, 4, none⟩ = some (.slice a4 n4 p4) := HU.out.2.1.cell 4 (by simp)
        have hdr := (Below.refl wr.heap.size wr).drew
        have hwz : w.heap.size + 1 ≤ wr.heap.size := HU.out.2.1.lt
        have hcl := HS.out 0 hlt' wr.drew (s0 0) HU.out.1.drew ((HI.out 0 hlt').still HU.out.1.drew)
        rw [ei] at hcl
        have HCL := (show Hid _ from hcl); clear hcl ei
        have hln : d0.length + alts[0].length ≤ 4398046511104 := by
          have h1 := len_wsz (bars (fun it => it.map say) alts)
          rw [← HU.out.2.2.2, List.length_append, List.length_append, List.length_map] at h1
          rw [HU.out.2.2.2] at h1
          omega
        have HN0 := (show Hid _ from (by
          have h1 := HU.out.2.2.2
          rw [← List.append_assoc] at h1
          exact h1 : (d0 ++ alts[0].map say) ++ bark (fun it => it.map say) alts (0 + 1) = bars (fun it => it.map say) alts))
        have hgl : (sc (alts[0].map say)).length = alts[0].length * 1 := by simp [sc]
        have hal : (d0 ++ alts[0].map say).length = d0.length + alts[0].length := by simp
        have hsc : sc (d0 ++ alts[0].map say) = sc d0 ++ sc (alts[0].map say) := sc_append _ _
        generalize alts[0].map say = gm at *
        generalize alts[0].length = gn at *
        go_wp2_with fail
        go_region_law (first
          | (refine step_append_at _ rfl (.tmp 19) (.tmp 25) 47 rfl (w.heap.size + 1) 9 i9 _ 1 16 Tryz.underlying47 hi9 hz0 hz1 hz2 rfl (by decide) _ d0.length _ (by simp [Act.eval, Act.put]) HO2.out ⟨g1, 0, none⟩ gn c1 (sc gm) (by simp [Act.eval, Act.put]) hgl (own_cells hw1) (sc_one _) (by unfold maxLen; omega) (by omega) (by omega) ?_; intro q3 cap3 w3 hown3 hgr3)
          | (go_simp; go_at_call 36; refine Calls.mono HCL.out ?_; rintro e w1 ⟨g1, c1, rfl, hb1, hw1⟩; have hbA := hdr.trans (hb1.mono (Nat.le_refl _)); have hs1 : wr.heap.size ≤ w1.heap.size := hbA.size; have HO2 := (show Hid _ from own_still HU.out.2.2.1 hbA)))
        all_goals
          have hb3 : Below w.heap.size w w3 := ((bel_trans HU.out.1 hbA).grown hgr3 (by have := HU.out.1.size; omega) (fun q hq => by
            have := (World.ownsRow.lt HU.out.2.2.1 q hq).1
            omega))
          have hx3 : Box w3 w.heap.size 36 [.string nm, .slice a1 n1 p1, .slice a2 n2 p2, .slice a3 n3 p3, .slice a4 n4 p4] := (Box.still HU.out.2.1 hbA).keep (hgr3.block _ (by omega) (fun e => by have := (World.ownsRow.lt HU.out.2.2.1 _ e.symm).1; omega))
          rw [← hsc, ← hal] at hown3
          have HN := (show Hid _ from (⟨hb3, hx3, hown3, HN0.out⟩ : _ ∧ _ ∧ _ ∧ _))
          clear hb3 hx3 hown3 hgr3 T0 T1 T2 T3 T4 c0 HO2
          go_wp2_with fail
          exact ⟨⟨0 + 1, _, _, _, by rw [hal], by go_num, by omega, HN⟩, by simp [intOf]; omega⟩
    · have hdn : d0 = bars (fun it => it.map say) alts := by
        have h1 := HR.out.2.2.2
        rw [bark_end (by omega), List.append_nil] at h1
        exact h1
      subst hdn
      have HN := (show Hid _ from (⟨HR.out.1, words_any _ _ wr (own_strs HR.out.2.2.1 (fun i hi => Nat.le_trans (mem_wsz _ i hi) (by unfold maxLen; omega))) (Nat.le_trans (jn_size _) (by unfold maxLen; omega))⟩ : _ ∧ _))
      clear HR
      go_wp2_with fail
      refine Calls.mono HN.out.2 ?_
      rintro e w9 ⟨rfl, rfl⟩
      go_wp2_with fail
      go_ret
      exact ⟨rfl, HN.out.1⟩
end Go.Proofs.YtgjnlhidbjpdkajGreat
