import Derived.Test.YthmdoplickpmaaiShow2
namespace Go.Proofs.Ythmdoplickpmaai
open Go.RowKit Go.Deep Go.Lib
set_option linter.unusedVariables false
set_option maxRecDepth 100000
set_option linter.unusedSimpArgs false

namespace Tr
/-- A tree's text. -/
def sh : Tr → List UInt8 := fold fun n x l ks => if l then n.data.toList ++ quo x.data.toList else 40 :: (n.data.toList ++ (ks.flatMap (fun s => 32 :: s) ++ [41]))
def shL (k : List Tr) : List UInt8 := k.flatMap fun t => 32 :: sh t
theorem sh_leaf (n x : ByteArray) (k : List Tr) : sh ⟨n, x, true, k⟩ = n.data.toList ++ quo x.data.toList := by
  unfold sh; rw [fold_mk]; simp
theorem sh_node (n x : ByteArray) (k : List Tr) : sh ⟨n, x, false, k⟩ = 40 :: (n.data.toList ++ (shL k ++ [41])) := by
  unfold shL sh; rw [fold_mk]; simp [List.flatMap_map]
theorem shL_take_succ (k : List Tr) (i : Nat) (h : i < k.length) : shL (k.take (i + 1)) = shL (k.take i) ++ 32 :: sh k[i] := by
  unfold shL
  rw [List.take_succ_eq_append_getElem h, List.flatMap_append]
  simp only [List.flatMap_cons, List.flatMap_nil, List.append_nil]
theorem shL_len (k : List Tr) (h : ∀ i (hi : i < k.length), (sh k[i]).length ≤ 4 * wt k[i] + 3 * cnt k[i]) : (shL k).length ≤ k.length + 4 * wtL k + 3 * cntL k := by
  induction k with
  | nil => simp [shL]
  | cons t r ih =>
    have h0 := h 0 (by simp)
    have h1 := ih (fun i hi => h (i + 1) (by simp; omega))
    have e1 : shL (t :: r) = (32 :: sh t) ++ shL r := rfl
    have e2 : wtL (t :: r) = wt t + wtL r := by simp [wtL]
    have e3 : cntL (t :: r) = cnt t + cntL r := by simp [cntL]
    rw [e1, e2, e3, List.length_append, List.length_cons, List.length_cons]
    simp at h0
    omega
theorem sh_len (t : Tr) : (sh t).length ≤ 4 * wt t + 3 * cnt t := by
  refine ind (P := fun t => (sh t).length ≤ 4 * wt t + 3 * cnt t) ?_ t
  intro n x l k ih
  have h := shL_len k ih
  have hn : n.data.toList.length = n.size := rfl
  have hx : x.data.toList.length = x.size := rfl
  have hq := quo_len x.data.toList
  cases l
  · rw [sh_node, wt_mk, cnt_mk, List.length_cons, List.length_append, List.length_append, List.length_singleton]; omega
  · rw [sh_leaf, wt_mk, cnt_mk, List.length_append]; omega
end Tr

theorem method_showL (X : Value) (w : World) : (method 262 83 X "loop.example/g00037/impl.show").run Try.prog w = .ok (125, X) w := by kernel_rfl
theorem method_showN (X : Value) (w : World) : (method 262 86 X "loop.example/g00037/impl.show").run Try.prog w = .ok (130, X) w := by kernel_rfl

theorem nilA_showL (X : Value) (w : World) : (nilAhead 262 83 X "loop.example/g00037/impl.show").run Try.prog w = .ok (some false) w := by kernel_rfl
theorem nilA_showN (X : Value) (w : World) : (nilAhead 262 86 X "loop.example/g00037/impl.show").run Try.prog w = .ok (some false) w := by kernel_rfl

theorem invoked_leaf {fl fn : Nat} {X v : Value} {w : World} {R : Ending → World → Prop} (h : Invoked fl fn (.iface 83 X) v w R) : Calls Try.prog fl #[X, v] w R := by
  rcases h with ⟨Y, e, h⟩ | ⟨Y, e, h⟩
  · cases e; exact h
  · cases e
theorem invoked_node {fl fn : Nat} {X v : Value} {w : World} {R : Ending → World → Prop} (h : Invoked fl fn (.iface 86 X) v w R) : Calls Try.prog fn #[X, v] w R := by
  rcases h with ⟨Y, e, h⟩ | ⟨Y, e, h⟩
  · cases e
  · cases e; exact h

set_option maxHeartbeats 1600000 in
theorem show_any (B : Nat) (t : Tr) : ∀ (u v : Value) (n : Nat) (xs : List Value) (w : World), Form w (fun b => b < B) t u → B ≤ w.heap.size → w.ownsRow B 5 1 v n xs → n + 4 * t.wt + 3 * t.cnt ≤ 16777216 →
    Invoked 125 130 u v w fun e w' => WroteK B w n xs t.sh e w' := by
  refine Tr.ind (P := fun t => ∀ (u v : Value) (n : Nat) (xs : List Value) (w : World), Form w (fun b => b < B) t u → B ≤ w.heap.size → w.ownsRow B 5 1 v n xs → n + 4 * t.wt + 3 * t.cnt ≤ 16777216 →
    Invoked 125 130 u v w fun e w' => WroteK B w n xs t.sh e w') ?_ t
  intro nm x l k ih u v n xs w hform hB hown hwt
  rw [Tr.wt_mk, Tr.cnt_mk] at hwt
  rcases hform.out with ⟨rfl, _, _, rfl⟩ | ⟨rfl, hn, cap, b, fv, rfl, hc, hm, hSb, hb, hcell, hk⟩
  · rw [Tr.sh_leaf]
    exact .inl ⟨_, rfl, leafShow B nm x v n xs w hB hown (by omega)⟩
  · rw [Tr.sh_node]
    refine .inr ⟨_, rfl, ?_⟩
    dsimp only at hn hc hcell hk ⊢
    have HI := (show Hid _ from ih); clear ih
    have HC := (show Hid _ from hcell); clear hcell
    have HK := (show Hid _ from hk); clear hk
    unfold maxLen at hm
    obtain ⟨i5, hi5, hz0, hz1, hz2⟩ := info_parts info5
    obtain ⟨a0, c0, rfl⟩ := own_slice hown
    have hst := St.start hB hown (.string nm) (.slice (some ⟨b, 0, none⟩) k.length cap) 86
    have HO0 := (show Hid _ from (hown.alloc (.cells #[.string nm, .slice (some ⟨b, 0, none⟩) k.length cap] 86)).alloc (.cells #[.int .u8 40] 5))
    clear hown
    have H0 := (show Hid _ from hst); clear hst
    have hnl : nm.data.toList.length = nm.size := rfl
    go_enter Try.func130, Try.ntmps130
    go_wp2_with (at_builtin; refine wpList_append_own _ rfl (.tmp 7) (.tmp 8) 65 rfl B 5 i5 (.int .u8 0) 1 1 Try.underlying65 hi5 hz0 hz1 hz2 rfl (by decide) _ n xs rfl HO0.out ⟨w.heap.size + 1, 0, none⟩ 1 1 [.int .u8 40] rfl rfl ?d0 (by intro u hu; simp at hu; subst hu; rfl) ?d1 ?d2 ?d3 ?nx)
    case d1 => unfold maxLen; omega
    case d2 => omega
    case d3 => first | omega | (simp; omega)
    case nx =>
      intro v1 w1 hown1 hgr1 _
      have hst1 : St B w n xs w.heap.size (.string nm) (.slice (some ⟨b, 0, none⟩) k.length cap) 86 [40] v1 w1 :=
        St.grown (l := []) (l' := [40]) (by decide) (St.alloc H0.out _) (by simpa [bc] using hown1) hgr1
      obtain ⟨a1, m1, c1, rfl⟩ := hst1.slice
      have cN1 := (St.cells hst1).1
      have H1 := (show Hid _ from hst1); clear hst1 hown1 hgr1
      have HO1 : Hid (World.ownsRow w1 B 5 1 (.slice a1 m1 c1) (n + [(40 : UInt8)].length) (xs ++ bc [40])) := H1.out.1
      go_wp2_with (at_builtin; refine wpList_append_own_string (w := _) rfl (.tmp 10) (.tmp 12) 65 9 rfl B 5 i5 Try.underlying65 Try.underlying9 hi5 hz0 hz1 hz2 _ _ _ rfl HO1.out nm rfl ?e1 ?e2 ?e3 ?nx)
      case e1 => unfold maxLen; simp only [List.length_singleton]; omega
      case e2 => simp only [List.length_singleton]; omega
      case e3 => exact H1.out.2.2.2.1
      case nx =>
        intro v2 w2 hown2 hgr2 _
        have hst2 : St B w n xs w.heap.size (.string nm) (.slice (some ⟨b, 0, none⟩) k.length cap) 86 (40 :: nm.data.toList) v2 w2 :=
          St.grown (l := [40]) (l' := nm.data.toList) (by decide) H1.out (by simpa [strCells, bc] using hown2) hgr2
        obtain ⟨a2, m2, c2, rfl⟩ := hst2.slice
        have cK2 := (St.cells hst2).2
        have H2 := (show Hid _ from hst2); clear hst2 hown2 hgr2
        go_wp2_with fail
        go_loopw [1, 17] (fun o i wr => ∃ j : Nat, j ≤ k.length ∧ i = .int .i64 j ∧ (∃ a m c, o = .slice a m c) ∧ Hid (St B w n xs w.heap.size (.string nm) (.slice (some ⟨b, 0, none⟩) k.length cap) 86 (40 :: (nm.data.toList ++ Tr.shL (k.take j))) o wr)) (fun _ i _ => k.length - (intOf i).toNat)
        case atStart =>
          have e0 : 40 :: (nm.data.toList ++ Tr.shL (k.take 0)) = 40 :: nm.data.toList := by simp [Tr.shL]
          exact ⟨0, Nat.zero_le _, rfl, ⟨a2, m2, c2, rfl⟩, by rw [e0]; exact H2.out⟩
        case round =>
          obtain ⟨j, hj, rfl, ⟨a3, m3, c3, rfl⟩, HS⟩ := hrel
          by_cases hlt : j < k.length
          · have cK := HC.out j hlt
            rw [← (HS.out.2.1).cell (by exact hSb)] at cK
            have hform := HK.out j hlt
            have hfj : Form w (fun b => b < B) k[j] (fv j) := hform
            have hsl := Tr.sh_len k[j]
            have hl1 := Tr.shL_len (k.take j) (fun i hi => Tr.sh_len _)
            have hw1 := Tr.wtL_take_succ k j hlt
            have hw2 := Tr.wtL_take_le k (j + 1)
            have hc1 := Tr.cntL_take_succ k j hlt
            have hc2 := Tr.cntL_take_le k (j + 1)
            have htl : (k.take j).length ≤ j := List.length_take_le _ _
            have hts := Tr.shL_take_succ k j hlt
            have hLl : (40 :: (nm.data.toList ++ Tr.shL (k.take j))).length + 2 + 4 * k[j].wt + 3 * k[j].cnt ≤ nm.size + 4 * k.length + 4 * Tr.wtL k + 3 * Tr.cntL k + 3 := by
              rw [List.length_cons, List.length_append]; omega
            have eLs : (40 :: (nm.data.toList ++ Tr.shL (k.take j))) ++ [32] ++ k[j].sh = 40 :: (nm.data.toList ++ Tr.shL (k.take (j + 1))) := by rw [hts]; simp
            generalize hL : (40 :: (nm.data.toList ++ Tr.shL (k.take j))) = L at *
            have HLS := (show Hid _ from eLs); clear eLs hL hts hsl hl1 hw1 hw2 hc1 hc2 htl
            have hsx := St.alloc HS.out (.cells #[.int .u8 32] 5)
            have HOX : Hid (World.ownsRow (wr.alloc (.cells #[.int .u8 32] 5)).drew B 5 1 (.slice a3 m3 c3) (n + L.length) (xs ++ bc L)) := hsx.1
            have HSX : Hid (St B w n xs w.heap.size (.string nm) (.slice (some ⟨b, 0, none⟩) k.length cap) 86 L (.slice a3 m3 c3) (wr.alloc (.cells #[.int .u8 32] 5)).drew) := ⟨hsx.1, hsx.2.1.drew, hsx.2.2.1, hsx.2.2.2.1, hsx.2.2.2.2⟩
            have HCX := (show Hid _ from cells_box wr [.int .u8 32] 5)
            have HBX : Hid (B ≤ (wr.alloc (.cells #[.int .u8 32] 5)).drew.heap.size) := hsx.2.2.2.1
            have hb63 : n + L.length + 1 ≤ maxLen := by unfold maxLen; omega
            have hbb : (n + L.length + 1) * 1 ≤ 140737488355328 := by omega
            clear hsx
            rcases hform.out with ⟨_, _, _, hX⟩ | ⟨_, _, cap2, b2, fv2, hX, _⟩
            · obtain ⟨X, hX⟩ : ∃ X, fv j = .iface 83 X := ⟨_, hX⟩
              rw [hX] at cK hfj
              clear hform
              have hcl : ∀ (w5 : World) (v5 : Value), St B w n xs w.heap.size (.string nm) (.slice (some ⟨b, 0, none⟩) k.length cap) 86 (L ++ [32]) v5 w5 →
                  Calls Try.prog 125 #[X, v5] w5 fun e w' => WroteK B w5 (n + (L ++ [32]).length) (xs ++ bc (L ++ [32])) k[j].sh e w' := fun w5 v5 h5 =>
                invoked_leaf (HI.out j hlt _ v5 _ _ w5 (hfj.carry (fun b hb _ => ⟨hb, Nat.lt_of_lt_of_le hb h5.2.2.2.1⟩) (fun b o hb _ => h5.2.1.cell (p := ⟨b, o, none⟩) hb)) h5.2.2.2.1 h5.1 (by rw [List.length_append, List.length_singleton]; omega))
              have HCL := (show Hid _ from hcl); clear hcl hfj
              have hna := nilA_showL X
              have hme := method_showL X
              go_wp2_with fail
              go_region_law (first
                | (refine step_append_lies _ rfl (.tmp 22) (.tmp 23) 65 rfl B 5 i5 (.int .u8 0) 1 1 Try.underlying65 hi5 hz0 hz1 hz2 rfl (by decide) _ _ _ (by simp [Act.eval, Act.put]) HOX.out ⟨wr.heap.size, 0, none⟩ 1 1 [.int .u8 32] (by simp [Act.eval, Act.put]) rfl (by exact HCX.out) (by intro u hu; simp at hu; subst hu; rfl) (by decide) hb63 hbb HBX.out _ rfl ?_; intro g5 cap5 w5 hown5 hgr5 _ _; have hst5 := St.grown (l' := [32]) (by decide) HSX.out (by simpa [bc] using hown5) hgr5)
                | (go_simp; go_at_call 125; refine Calls.mono (HCL.out _ _ hst5) ?_; rintro e w6 hw6; obtain ⟨o6, rfl, hst6⟩ := St.wrote (by decide) hst5 hw6; obtain ⟨a6, m6, c6, rfl⟩ := hst6.slice))
              all_goals
                rw [HLS.out] at hst6
                have H6 := (show Hid _ from hst6); clear hst6 hw6 hst5 hown5 hgr5
                go_wp2_with fail
                exact ⟨⟨j + 1, by omega, by go_num, ⟨a6, m6, c6, rfl⟩, H6⟩, by simp [intOf]; omega⟩
            · obtain ⟨X, hX⟩ : ∃ X, fv j = .iface 86 X := ⟨_, hX⟩
              rw [hX] at cK hfj
              clear hform
              have hcl : ∀ (w5 : World) (v5 : Value), St B w n xs w.heap.size (.string nm) (.slice (some ⟨b, 0, none⟩) k.length cap) 86 (L ++ [32]) v5 w5 →
                  Calls Try.prog 130 #[X, v5] w5 fun e w' => WroteK B w5 (n + (L ++ [32]).length) (xs ++ bc (L ++ [32])) k[j].sh e w' := fun w5 v5 h5 =>
                invoked_node (HI.out j hlt _ v5 _ _ w5 (hfj.carry (fun b hb _ => ⟨hb, Nat.lt_of_lt_of_le hb h5.2.2.2.1⟩) (fun b o hb _ => h5.2.1.cell (p := ⟨b, o, none⟩) hb)) h5.2.2.2.1 h5.1 (by rw [List.length_append, List.length_singleton]; omega))
              have HCL := (show Hid _ from hcl); clear hcl hfj
              have hna := nilA_showN X
              have hme := method_showN X
              go_wp2_with fail
              go_region_law (first
                | (refine step_append_lies _ rfl (.tmp 22) (.tmp 23) 65 rfl B 5 i5 (.int .u8 0) 1 1 Try.underlying65 hi5 hz0 hz1 hz2 rfl (by decide) _ _ _ (by simp [Act.eval, Act.put]) HOX.out ⟨wr.heap.size, 0, none⟩ 1 1 [.int .u8 32] (by simp [Act.eval, Act.put]) rfl (by exact HCX.out) (by intro u hu; simp at hu; subst hu; rfl) (by decide) hb63 hbb HBX.out _ rfl ?_; intro g5 cap5 w5 hown5 hgr5 _ _; have hst5 := St.grown (l' := [32]) (by decide) HSX.out (by simpa [bc] using hown5) hgr5)
                | (go_simp; go_at_call 130; refine Calls.mono (HCL.out _ _ hst5) ?_; rintro e w6 hw6; obtain ⟨o6, rfl, hst6⟩ := St.wrote (by decide) hst5 hw6; obtain ⟨a6, m6, c6, rfl⟩ := hst6.slice))
              all_goals
                rw [HLS.out] at hst6
                have H6 := (show Hid _ from hst6); clear hst6 hw6 hst5 hown5 hgr5
                go_wp2_with fail
                exact ⟨⟨j + 1, by omega, by go_num, ⟨a6, m6, c6, rfl⟩, H6⟩, by simp [intOf]; omega⟩
          · have hje : j = k.length := by omega
            have hst4 := HS.out
            have eL : 40 :: (nm.data.toList ++ Tr.shL (k.take j)) = 40 :: (nm.data.toList ++ Tr.shL k) := by rw [List.take_of_length_le (by omega)]
            have hq : 40 :: (nm.data.toList ++ (Tr.shL k ++ [41])) = (40 :: (nm.data.toList ++ Tr.shL k)) ++ [41] := by simp
            rw [eL] at hst4
            have hl1 := Tr.shL_len k (fun i hi => Tr.sh_len _)
            have hLl : (40 :: (nm.data.toList ++ Tr.shL k)).length ≤ nm.size + 1 + k.length + 4 * Tr.wtL k + 3 * Tr.cntL k := by rw [List.length_cons, List.length_append]; omega
            have HQ := (show Hid _ from hq); clear hq eL hl1
            have H4 := (show Hid _ from hst4); clear hst4 HS
            have HO4 := (show Hid _ from (St.alloc H4.out (.cells #[.int .u8 41] 5)).1)
            generalize hL : (40 :: (nm.data.toList ++ Tr.shL k)) = L at *
            clear hL
            go_wp2_with (at_builtin; refine wpList_append_own _ rfl (.tmp 30) (.tmp 31) 65 rfl B 5 i5 (.int .u8 0) 1 1 Try.underlying65 hi5 hz0 hz1 hz2 rfl (by decide) _ _ _ rfl HO4.out ⟨wr.heap.size, 0, none⟩ 1 1 [.int .u8 41] rfl rfl (cells_box _ _ _) (by intro u hu; simp at hu; subst hu; rfl) ?f1 ?f2 ?f3 ?nx)
            case f1 => unfold maxLen; omega
            case f2 => omega
            case f3 => have := H4.out.2.2.2.1; simp; omega
            case nx =>
              intro v5 w5 hown5 hgr5 _
              have hst5 : St B w n xs w.heap.size (.string nm) (.slice (some ⟨b, 0, none⟩) k.length cap) 86 (L ++ [41]) v5 w5 :=
                St.grown (l' := [41]) (by decide) (St.alloc H4.out _) (by simpa [bc] using hown5) hgr5
              obtain ⟨a5, m5, c5, rfl⟩ := hst5.slice
              have H5 := (show Hid _ from hst5); clear hst5 hown5 hgr5
              go_wp2_with fail
              go_ret
              have := St.out H5.out
              rw [HQ.out]
              exact this
end Go.Proofs.Ythmdoplickpmaai
