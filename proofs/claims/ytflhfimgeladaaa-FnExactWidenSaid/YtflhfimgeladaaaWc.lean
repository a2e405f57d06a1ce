import Derived.Test.YtflhfimgeladaaaWa
/-! The program: the rows again. -/
namespace Go.Proofs.Ytflhfimgeladaaa
open Go.RowKit Go.Deep
set_option linter.unusedVariables false
set_option maxRecDepth 100000
set_option linter.unusedSimpArgs false

/-- Between two rounds. -/
structure AgA (w wr : World) (ls : List (List (Int × Int))) (N : List Int) (j : Nat) (rv : List (Value × List (Int × Int))) (u : Value) : Prop where
  bel : Below w.heap.size w wr
  own : Own wr w.heap.size (⟨69, 1, u, rv.length, rv.map (·.1)⟩ :: rv.map entA)
  som : ∀ p ∈ rv, ∃ ad c, p.1 = .slice (some ad) p.2.length c
  eq : rv.map (·.2) = agn ls (N.take j)
  len : rv.length = j
set_option maxHeartbeats 6400000 in
theorem againA_any {S S' : Nat → Prop} (ls : List (List (Int × Int))) (N : List Int) (v nv : Value) (w : World) (h : ARowsN w S ls v) (hN : Ints w S' N nv) (hlen : N.length ≤ 250) (hin : N.all (wnB 0 ((ls.length : Int) - 1)) = true) (hrl : ∀ i (hi : i < ls.length), ls[i].length ≤ 1048576) :
    Calls Try.prog 68 #[v, nv] w fun e w' => ∃ (u : Value) (rv : List (Value × List (Int × Int))), e = .returned u ∧ Below w.heap.size w w' ∧ Own w' w.heap.size (⟨69, 1, u, rv.length, rv.map (·.1)⟩ :: rv.map entA) ∧ (∀ p ∈ rv, ∃ ad c, p.1 = .slice (some ad) p.2.length c) ∧ rv.map (·.2) = agn ls N := by
  obtain ⟨ih, hih, hyy⟩ := Option.map_eq_some_iff.1 info69i
  simp only [Prod.mk.injEq] at hyy
  obtain ⟨hy0, hy1, hy2⟩ := hyy
  obtain ⟨a, cap, b, off, sv, rfl, hc, hm, ha, hcell, hr, hnn⟩ := h
  obtain ⟨a', cap', b', off', rfl, hc', hm', ha', hcell'⟩ := hN
  have HC := (show Hid _ from hcell); clear hcell
  have HA := (show Hid _ from ha); clear ha
  have HR := (show Hid _ from hr); clear hr
  have HNN := (show Hid _ from hnn); clear hnn
  have HRL := (show Hid _ from hrl); clear hrl
  have HC' := (show Hid _ from hcell'); clear hcell'
  have HA' := (show Hid _ from ha'); clear ha'
  have HIN := (show Hid _ from hin); clear hin
  unfold maxLen at hm hm'
  go_enter Try.func68, Try.ntmps68
  go_wp2_with fail
  go_loopw [5, 10] (fun u i wr => ∃ (j : Nat) (rv : List (Value × List (Int × Int))) (a : Option Addr) (c : Nat), u = .slice a rv.length c ∧ i = .int .i64 j ∧ j ≤ N.length ∧ Hid (AgA w wr ls N j rv u)) (fun _ i _ => N.length - (intOf i).toNat)
  case atStart =>
    exact ⟨0, [], none, 0, rfl, rfl, Nat.zero_le _, Below.refl _ _, ⟨fun e he => by
      simp only [List.map_nil, List.mem_cons, List.not_mem_nil, or_false] at he
      subst he
      exact World.ownsRow_nil _ _ _ _, List.pairwise_cons.2 ⟨fun x hx => absurd hx (by simp), List.Pairwise.nil⟩⟩, fun p hp => absurd hp (by simp), by simp [agn], rfl⟩
  case round =>
    obtain ⟨j, rv, a1, p1, rfl, rfl, hj, HI⟩ := hrel
    by_cases hjl : j < N.length
    · have hjl' := hjl
      obtain ⟨k, hk, hkl⟩ := agn_at ls N j hjl' HIN.out
      obtain ⟨rfl, _⟩ := HA.out (by omega)
      obtain ⟨rfl, _⟩ := HA'.out (by omega)
      have hbel := HI.out.bel
      have hsz : w.heap.size ≤ wr.heap.size := hbel.size
      have m0 := HC'.out j hjl'
      rw [← hbel.cell (lt_of_cell m0), hk] at m0
      have k0 := HC.out k hkl
      rw [← hbel.cell (lt_of_cell k0)] at k0
      have hrow := (HR.out k hkl).still hbel
      obtain ⟨ad, cr, er⟩ := HNN.out k hkl
      rw [er] at k0 hrow
      have HLEN := (show Hid _ from HI.out.len)
      have hrb : rv.length ≤ 250 := by have := HLEN.out; omega
      have HCL := (show Hid _ from cloneA_some ls[k] ad cr wr hrow (HRL.out k hkl))
      have HK := (show Hid _ from hk)
      have HO2 := (show Hid _ from (⟨HI.out.own, hbel, HI.out.som, HI.out.eq⟩ : _ ∧ _ ∧ _ ∧ _))
      clear hrow er hk HI
      go_wp2_with fail
      refine Calls.mono HCL.out ?_
      rintro e w3 ⟨g5, c5, rfl, hb3, ho3⟩
      have hadd := HO2.out.1.add (e' := entA (Value.slice (some ⟨g5, 0, none⟩) ls[k].length c5, ls[k])) hb3 (by
        show w3.ownsRow w.heap.size 71 2 (Value.slice (some ⟨g5, 0, none⟩) ls[k].length c5) ls[k].length (encA ls[k])
        refine ⟨ho3.1, ?_⟩
        rcases ho3.2 with h0 | ⟨g, cp, cur, r1, r2, r3⟩
        · exact .inl h0
        · exact .inr ⟨g, cp, cur, r1, Nat.le_trans HO2.out.2.1.size r2, r3⟩) (fun k hk => (ho3.lt k hk).1)
      have hb4 := bel_alloc w3 (.cells #[Value.slice (some ⟨g5, 0, none⟩) ls[k].length c5] 69)
      have HO4 := (show Hid _ from (⟨hadd.still hb4, bel_trans (bel_trans HO2.out.2.1 hb3) hb4⟩ : Own (w3.alloc (.cells #[Value.slice (some ⟨g5, 0, none⟩) ls[k].length c5] 69)) w.heap.size (entA (Value.slice (some ⟨g5, 0, none⟩) ls[k].length c5, ls[k]) :: ⟨69, 1, (.slice a1 rv.length p1), rv.length, rv.map (·.1)⟩ :: rv.map entA) ∧ Below w.heap.size w (w3.alloc (.cells #[Value.slice (some ⟨g5, 0, none⟩) ls[k].length c5] 69))))
      have HH4 := (show Hid _ from HO4.out.1.ok _ (List.mem_cons_of_mem _ (List.mem_cons_self ..)))
      have HSE := (show Hid _ from HO2.out.2.2)
      clear hadd hb4 hb3 ho3 HO2 HCL k0 m0 hbel
      go_wp2_with (at_builtin; refine wpList_append_lies _ rfl (.tmp 14) (.tmp 20) 39 rfl w.heap.size 69 ih _ 1 24 Try.underlying39 hih hy0 hy1 hy2 rfl (by decide) _ rv.length _ rfl HH4.out ⟨w3.heap.size, 0, none⟩ 1 1 [Value.slice (some ⟨g5, 0, none⟩) ls[k].length c5] rfl rfl ?d1 ?d2 (by decide) ?d3 (by omega) ?d4 _ rfl ?ny)
      case d1 =>
        have hn := World.news_of_block (cs := #[Value.slice (some ⟨g5, 0, none⟩) ls[k].length c5]) (blk_alloc_new w3 (.cells #[Value.slice (some ⟨g5, 0, none⟩) ls[k].length c5] 69))
        exact hn
      case d2 => intro y hy; simp at hy; subst hy; rfl
      case d3 => unfold maxLen; omega
      case d4 => exact HO4.out.2.size
      case ny =>
        intro g6 cap6 w5 hown5 hgr5 hat5 hlt5
        have hp4 := HO4.out.1.perm (List.Perm.swap _ _ _)
        have hg5 := hp4.grow (e' := ⟨69, 1, .slice (some ⟨g6, 0, none⟩) (rv.length + 1) cap6, (rv ++ [(Value.slice (some ⟨g5, 0, none⟩) ls[k].length c5, ls[k])]).length, (rv ++ [(Value.slice (some ⟨g5, 0, none⟩) ls[k].length c5, ls[k])]).map (·.1)⟩) hgr5 (by show w5.ownsRow _ _ _ _ _ _; simpa using hown5) (fun k hk => by
          have : g6 = k := by simpa [Value.ownBlock] using hk
          subst this
          rcases hat5 with h | h
          · exact .inl h
          · exact .inr (by first | omega | (simp at h ⊢; done) | (simp at h ⊢; omega)))
        have ho5 : Own w5 w.heap.size (⟨69, 1, .slice (some ⟨g6, 0, none⟩) (rv.length + 1) cap6, (rv ++ [(Value.slice (some ⟨g5, 0, none⟩) ls[k].length c5, ls[k])]).length, (rv ++ [(Value.slice (some ⟨g5, 0, none⟩) ls[k].length c5, ls[k])]).map (·.1)⟩ :: (rv ++ [(Value.slice (some ⟨g5, 0, none⟩) ls[k].length c5, ls[k])]).map entA) := by
          refine hg5.perm (List.Perm.cons _ ?_)
          rw [List.map_append, List.map_cons, List.map_nil]
          exact List.perm_append_comm (l₁ := [entA (Value.slice (some ⟨g5, 0, none⟩) ls[k].length c5, ls[k])]) (l₂ := rv.map entA)
        have hb5 := grown_bel HO4.out.2 hgr5 (fun k hk => (World.ownsRow.lt HH4.out k hk).1) HO4.out.2.size
        have HX : Hid (AgA w w5 ls N (j + 1) (rv ++ [(Value.slice (some ⟨g5, 0, none⟩) ls[k].length c5, ls[k])]) (.slice (some ⟨g6, 0, none⟩) (rv.length + 1) cap6)) := ⟨hb5, ho5, fun p hp => by
          rcases List.mem_append.1 hp with hp | hp
          · exact HSE.out.1 p hp
          · have := List.mem_singleton.1 hp
            subst this
            exact ⟨_, _, rfl⟩, agn_next ls N j k hjl' HK.out hkl _ HSE.out.2 _, by simp; exact HLEN.out⟩
        clear hown5 hgr5 hat5 hlt5 hp4 hg5 ho5 hb5 HO4 HH4
        go_wp2_with fail
        exact ⟨⟨j + 1, rv ++ [(Value.slice (some ⟨g5, 0, none⟩) ls[k].length c5, ls[k])], some ⟨g6, 0, none⟩, cap6, by simp, by go_num, by omega, HX⟩, by simp [intOf]; omega⟩
    · have hje : j = N.length := by omega
      have heq := HI.out.eq
      rw [List.take_of_length_le (by omega)] at heq
      have HF := (show Hid _ from (⟨HI.out.bel, HI.out.own, HI.out.som, heq⟩ : _ ∧ _ ∧ _ ∧ _))
      clear HI heq hje
      go_wp2_with fail
      go_ret
      exact ⟨_, rv, rfl, HF.out.1, HF.out.2.1, HF.out.2.2.1, HF.out.2.2.2⟩
/-- Between two rounds. -/
structure AgI (w wr : World) (ls : List (List Int)) (N : List Int) (j : Nat) (rv : List (Value × List Int)) (u : Value) : Prop where
  bel : Below w.heap.size w wr
  own : Own wr w.heap.size (⟨46, 1, u, rv.length, rv.map (·.1)⟩ :: rv.map entI)
  som : ∀ p ∈ rv, ∃ ad c, p.1 = .slice (some ad) p.2.length c
  eq : rv.map (·.2) = agn ls (N.take j)
  len : rv.length = j
set_option maxHeartbeats 6400000 in
theorem againI_any {S S' : Nat → Prop} (ls : List (List Int)) (N : List Int) (v nv : Value) (w : World) (h : IRowsN w S ls v) (hN : Ints w S' N nv) (hlen : N.length ≤ 250) (hin : N.all (wnB 0 ((ls.length : Int) - 1)) = true) (hrl : ∀ i (hi : i < ls.length), ls[i].length ≤ 1048576) :
    Calls Try.prog 69 #[v, nv] w fun e w' => ∃ (u : Value) (rv : List (Value × List Int)), e = .returned u ∧ Below w.heap.size w w' ∧ Own w' w.heap.size (⟨46, 1, u, rv.length, rv.map (·.1)⟩ :: rv.map entI) ∧ (∀ p ∈ rv, ∃ ad c, p.1 = .slice (some ad) p.2.length c) ∧ rv.map (·.2) = agn ls N := by
  obtain ⟨ih, hih, hyy⟩ := Option.map_eq_some_iff.1 info46i
  simp only [Prod.mk.injEq] at hyy
  obtain ⟨hy0, hy1, hy2⟩ := hyy
  obtain ⟨a, cap, b, off, sv, rfl, hc, hm, ha, hcell, hr, hnn⟩ := h
  obtain ⟨a', cap', b', off', rfl, hc', hm', ha', hcell'⟩ := hN
  have HC := (show Hid _ from hcell); clear hcell
  have HA := (show Hid _ from ha); clear ha
  have HR := (show Hid _ from hr); clear hr
  have HNN := (show Hid _ from hnn); clear hnn
  have HRL := (show Hid _ from hrl); clear hrl
  have HC' := (show Hid _ from hcell'); clear hcell'
  have HA' := (show Hid _ from ha'); clear ha'
  have HIN := (show Hid _ from hin); clear hin
  unfold maxLen at hm hm'
  go_enter Try.func69, Try.ntmps69
  go_wp2_with fail
  go_loopw [5, 10] (fun u i wr => ∃ (j : Nat) (rv : List (Value × List Int)) (a : Option Addr) (c : Nat), u = .slice a rv.length c ∧ i = .int .i64 j ∧ j ≤ N.length ∧ Hid (AgI w wr ls N j rv u)) (fun _ i _ => N.length - (intOf i).toNat)
  case atStart =>
    exact ⟨0, [], none, 0, rfl, rfl, Nat.zero_le _, Below.refl _ _, ⟨fun e he => by
      simp only [List.map_nil, List.mem_cons, List.not_mem_nil, or_false] at he
      subst he
      exact World.ownsRow_nil _ _ _ _, List.pairwise_cons.2 ⟨fun x hx => absurd hx (by simp), List.Pairwise.nil⟩⟩, fun p hp => absurd hp (by simp), by simp [agn], rfl⟩
  case round =>
    obtain ⟨j, rv, a1, p1, rfl, rfl, hj, HI⟩ := hrel
    by_cases hjl : j < N.length
    · have hjl' := hjl
      obtain ⟨k, hk, hkl⟩ := agn_at ls N j hjl' HIN.out
      obtain ⟨rfl, _⟩ := HA.out (by omega)
      obtain ⟨rfl, _⟩ := HA'.out (by omega)
      have hbel := HI.out.bel
      have hsz : w.heap.size ≤ wr.heap.size := hbel.size
      have m0 := HC'.out j hjl'
      rw [← hbel.cell (lt_of_cell m0), hk] at m0
      have k0 := HC.out k hkl
      rw [← hbel.cell (lt_of_cell k0)] at k0
      have hrow := (HR.out k hkl).still hbel
      obtain ⟨ad, cr, er⟩ := HNN.out k hkl
      rw [er] at k0 hrow
      have HLEN := (show Hid _ from HI.out.len)
      have hrb : rv.length ≤ 250 := by have := HLEN.out; omega
      have HCL := (show Hid _ from cloneI_some ls[k] ad cr wr hrow (HRL.out k hkl))
      have HK := (show Hid _ from hk)
      have HO2 := (show Hid _ from (⟨HI.out.own, hbel, HI.out.som, HI.out.eq⟩ : _ ∧ _ ∧ _ ∧ _))
      clear hrow er hk HI
      go_wp2_with fail
      refine Calls.mono HCL.out ?_
      rintro e w3 ⟨g5, c5, rfl, hb3, ho3⟩
      have hadd := HO2.out.1.add (e' := entI (Value.slice (some ⟨g5, 0, none⟩) ls[k].length c5, ls[k])) hb3 (by
        show w3.ownsRow w.heap.size 3 1 (Value.slice (some ⟨g5, 0, none⟩) ls[k].length c5) ls[k].length (encI ls[k])
        refine ⟨ho3.1, ?_⟩
        rcases ho3.2 with h0 | ⟨g, cp, cur, r1, r2, r3⟩
        · exact .inl h0
        · exact .inr ⟨g, cp, cur, r1, Nat.le_trans HO2.out.2.1.size r2, r3⟩) (fun k hk => (ho3.lt k hk).1)
      have hb4 := bel_alloc w3 (.cells #[Value.slice (some ⟨g5, 0, none⟩) ls[k].length c5] 46)
      have HO4 := (show Hid _ from (⟨hadd.still hb4, bel_trans (bel_trans HO2.out.2.1 hb3) hb4⟩ : Own (w3.alloc (.cells #[Value.slice (some ⟨g5, 0, none⟩) ls[k].length c5] 46)) w.heap.size (entI (Value.slice (some ⟨g5, 0, none⟩) ls[k].length c5, ls[k]) :: ⟨46, 1, (.slice a1 rv.length p1), rv.length, rv.map (·.1)⟩ :: rv.map entI) ∧ Below w.heap.size w (w3.alloc (.cells #[Value.slice (some ⟨g5, 0, none⟩) ls[k].length c5] 46))))
      have HH4 := (show Hid _ from HO4.out.1.ok _ (List.mem_cons_of_mem _ (List.mem_cons_self ..)))
      have HSE := (show Hid _ from HO2.out.2.2)
      clear hadd hb4 hb3 ho3 HO2 HCL k0 m0 hbel
      go_wp2_with (at_builtin; refine wpList_append_lies _ rfl (.tmp 14) (.tmp 20) 28 rfl w.heap.size 46 ih _ 1 24 Try.underlying28 hih hy0 hy1 hy2 rfl (by decide) _ rv.length _ rfl HH4.out ⟨w3.heap.size, 0, none⟩ 1 1 [Value.slice (some ⟨g5, 0, none⟩) ls[k].length c5] rfl rfl ?d1 ?d2 (by decide) ?d3 (by omega) ?d4 _ rfl ?ny)
      case d1 =>
        have hn := World.news_of_block (cs := #[Value.slice (some ⟨g5, 0, none⟩) ls[k].length c5]) (blk_alloc_new w3 (.cells #[Value.slice (some ⟨g5, 0, none⟩) ls[k].length c5] 46))
        exact hn
      case d2 => intro y hy; simp at hy; subst hy; rfl
      case d3 => unfold maxLen; omega
      case d4 => exact HO4.out.2.size
      case ny =>
        intro g6 cap6 w5 hown5 hgr5 hat5 hlt5
        have hp4 := HO4.out.1.perm (List.Perm.swap _ _ _)
        have hg5 := hp4.grow (e' := ⟨46, 1, .slice (some ⟨g6, 0, none⟩) (rv.length + 1) cap6, (rv ++ [(Value.slice (some ⟨g5, 0, none⟩) ls[k].length c5, ls[k])]).length, (rv ++ [(Value.slice (some ⟨g5, 0, none⟩) ls[k].length c5, ls[k])]).map (·.1)⟩) hgr5 (by show w5.ownsRow _ _ _ _ _ _; simpa using hown5) (fun k hk => by
          have : g6 = k := by simpa [Value.ownBlock] using hk
          subst this
          rcases hat5 with h | h
          · exact .inl h
          · exact .inr (by first | omega | (simp at h ⊢; done) | (simp at h ⊢; omega)))
        have ho5 : Own w5 w.heap.size (⟨46, 1, .slice (some ⟨g6, 0, none⟩) (rv.length + 1) cap6, (rv ++ [(Value.slice (some ⟨g5, 0, none⟩) ls[k].length c5, ls[k])]).length, (rv ++ [(Value.slice (some ⟨g5, 0, none⟩) ls[k].length c5, ls[k])]).map (·.1)⟩ :: (rv ++ [(Value.slice (some ⟨g5, 0, none⟩) ls[k].length c5, ls[k])]).map entI) := by
          refine hg5.perm (List.Perm.cons _ ?_)
          rw [List.map_append, List.map_cons, List.map_nil]
          exact List.perm_append_comm (l₁ := [entI (Value.slice (some ⟨g5, 0, none⟩) ls[k].length c5, ls[k])]) (l₂ := rv.map entI)
        have hb5 := grown_bel HO4.out.2 hgr5 (fun k hk => (World.ownsRow.lt HH4.out k hk).1) HO4.out.2.size
        have HX : Hid (AgI w w5 ls N (j + 1) (rv ++ [(Value.slice (some ⟨g5, 0, none⟩) ls[k].length c5, ls[k])]) (.slice (some ⟨g6, 0, none⟩) (rv.length + 1) cap6)) := ⟨hb5, ho5, fun p hp => by
          rcases List.mem_append.1 hp with hp | hp
          · exact HSE.out.1 p hp
          · have := List.mem_singleton.1 hp
            subst this
            exact ⟨_, _, rfl⟩, agn_next ls N j k hjl' HK.out hkl _ HSE.out.2 _, by simp; exact HLEN.out⟩
        clear hown5 hgr5 hat5 hlt5 hp4 hg5 ho5 hb5 HO4 HH4
        go_wp2_with fail
        exact ⟨⟨j + 1, rv ++ [(Value.slice (some ⟨g5, 0, none⟩) ls[k].length c5, ls[k])], some ⟨g6, 0, none⟩, cap6, by simp, by go_num, by omega, HX⟩, by simp [intOf]; omega⟩
    · have hje : j = N.length := by omega
      have heq := HI.out.eq
      rw [List.take_of_length_le (by omega)] at heq
      have HF := (show Hid _ from (⟨HI.out.bel, HI.out.own, HI.out.som, heq⟩ : _ ∧ _ ∧ _ ∧ _))
      clear HI heq hje
      go_wp2_with fail
      go_ret
      exact ⟨_, rv, rfl, HF.out.1, HF.out.2.1, HF.out.2.2.1, HF.out.2.2.2⟩
end Go.Proofs.Ytflhfimgeladaaa
