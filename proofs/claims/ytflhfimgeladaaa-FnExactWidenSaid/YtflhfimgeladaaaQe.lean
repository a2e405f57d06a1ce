import Derived.Test.YtflhfimgeladaaaQc
/-! The program: each row of Acts once. -/
namespace Go.Proofs.Ytflhfimgeladaaa
open Go.RowKit Go.Deep
set_option linter.unusedVariables false
set_option maxRecDepth 100000
set_option linter.unusedSimpArgs false

/-- Rows none of which is nil. -/
def ARowsN (w : World) (S : Nat → Prop) (ls : List (List (Int × Int))) (v : Value) : Prop :=
  ∃ (a : Option Addr) (cap b off : Nat) (sv : Nat → Value), v = .slice a ls.length cap ∧ ls.length ≤ cap ∧ cap ≤ maxLen ∧ (0 < ls.length → a = some ⟨b, off, none⟩ ∧ S b) ∧
    (∀ i (hi : i < ls.length), w.cell? ⟨b, off + i, none⟩ = some (sv i)) ∧ (∀ i (hi : i < ls.length), Acs w S ls[i] (sv i)) ∧ ∀ i (hi : i < ls.length), ∃ ad c, sv i = .slice (some ad) ls[i].length c
theorem ARowsN.rows {w : World} {S : Nat → Prop} {ls : List (List (Int × Int))} {v : Value} (h : ARowsN w S ls v) : ARows w S ls v := by
  obtain ⟨a, cap, b, off, sv, hv, hc, hm, ha, hcell, hr, _⟩ := h
  exact ⟨a, cap, b, off, sv, hv, hc, hm, ha, hcell, hr⟩
theorem ARowsN.still {w w' : World} {S : Nat → Prop} {ls : List (List (Int × Int))} {v : Value} (h : ARowsN w S ls v) (hb : Below w.heap.size w w') : ARowsN w' S ls v := by
  obtain ⟨a, cap, b, off, sv, hv, hc, hm, ha, hcell, hr, hn⟩ := h
  exact ⟨a, cap, b, off, sv, hv, hc, hm, ha, fun i hi => (hb.cell (lt_of_cell (hcell i hi))).trans (hcell i hi), fun i hi => (hr i hi).still hb, hn⟩
/-- Rows none of which is nil. -/
def IRowsN (w : World) (S : Nat → Prop) (ls : List (List Int)) (v : Value) : Prop :=
  ∃ (a : Option Addr) (cap b off : Nat) (sv : Nat → Value), v = .slice a ls.length cap ∧ ls.length ≤ cap ∧ cap ≤ maxLen ∧ (0 < ls.length → a = some ⟨b, off, none⟩ ∧ S b) ∧
    (∀ i (hi : i < ls.length), w.cell? ⟨b, off + i, none⟩ = some (sv i)) ∧ (∀ i (hi : i < ls.length), Ints w S ls[i] (sv i)) ∧ ∀ i (hi : i < ls.length), ∃ ad c, sv i = .slice (some ad) ls[i].length c
theorem IRowsN.rows {w : World} {S : Nat → Prop} {ls : List (List Int)} {v : Value} (h : IRowsN w S ls v) : IRows w S ls v := by
  obtain ⟨a, cap, b, off, sv, hv, hc, hm, ha, hcell, hr, _⟩ := h
  exact ⟨a, cap, b, off, sv, hv, hc, hm, ha, hcell, hr⟩
theorem IRowsN.still {w w' : World} {S : Nat → Prop} {ls : List (List Int)} {v : Value} (h : IRowsN w S ls v) (hb : Below w.heap.size w w') : IRowsN w' S ls v := by
  obtain ⟨a, cap, b, off, sv, hv, hc, hm, ha, hcell, hr, hn⟩ := h
  exact ⟨a, cap, b, off, sv, hv, hc, hm, ha, fun i hi => (hb.cell (lt_of_cell (hcell i hi))).trans (hcell i hi), fun i hi => (hr i hi).still hb, hn⟩
/-- Between two rounds. -/
structure OnA (w wr : World) (ls : List (List (Int × Int))) (R : List (List (Int × Int)) × List Int) (j : Nat) (rv : List (Value × List (Int × Int))) (N : List Int) (u v : Value) : Prop where
  bel : Below w.heap.size w wr
  own : Own wr w.heap.size (⟨69, 1, u, rv.length, rv.map (·.1)⟩ :: ⟨3, 1, v, N.length, encI N⟩ :: rv.map entA)
  eq : onc (rv.map (·.2)) N (ls.drop j) = R
  len : rv.length ≤ j ∧ N.length = j
theorem OnA.next {w wr w' : World} {ls : List (List (Int × Int))} {R : List (List (Int × Int)) × List Int} {j : Nat} {rv : List (Value × List (Int × Int))} {N : List Int} {u v v' : Value} {x : Int} (hb : Below w.heap.size w wr) (hB : w.heap.size ≤ wr.heap.size) (ho : Own wr w.heap.size (⟨69, 1, u, rv.length, rv.map (·.1)⟩ :: ⟨3, 1, v, N.length, encI N⟩ :: rv.map entA)) (hg : wr.grownBy w' v.ownBlock) (hn : w'.ownsRow w.heap.size 3 1 v' (N.length + 1) (encI N ++ [.int .i64 x])) (hat : ∀ k, v'.ownBlock = some k → v.ownBlock = some k ∨ wr.heap.size ≤ k)
    (heq : onc (rv.map (·.2)) (N ++ [x]) (ls.drop (j + 1)) = R) (hl : rv.length ≤ j + 1 ∧ N.length = j) : OnA w w' ls R (j + 1) rv (N ++ [x]) u v' := by
  have hnum := ho.ok _ (List.mem_cons_of_mem _ (List.mem_cons_self ..))
  refine ⟨grown_bel hb hg (fun k hk => (World.ownsRow.lt hnum k hk).1) hB, ?_, heq, hl.1, by simp; omega⟩
  have h1 := ho.perm (List.Perm.swap _ _ _)
  have h2 := h1.grow (e' := ⟨3, 1, v', (N ++ [x]).length, encI (N ++ [x])⟩) hg (by show w'.ownsRow _ _ _ _ _ _; simpa [encI] using hn) hat
  exact h2.perm (List.Perm.swap _ _ _)
set_option maxHeartbeats 6400000 in
theorem onceA_any {S : Nat → Prop} (ls : List (List (Int × Int))) (v : Value) (w : World) (h : ARowsN w S ls v) (hlen : ls.length ≤ 250) (hrl : ∀ i (hi : i < ls.length), ls[i].length ≤ 1048576) :
    Calls Try.prog 55 #[v] w fun e w' => ∃ (u x : Value) (rv : List (Value × List (Int × Int))) (N : List Int), e = .returned (.tuple #[u, x]) ∧ Below w.heap.size w w' ∧ Own w' w.heap.size (⟨69, 1, u, rv.length, rv.map (·.1)⟩ :: ⟨3, 1, x, N.length, encI N⟩ :: rv.map entA) ∧ onc [] [] ls = (rv.map (·.2), N) := by
  obtain ⟨i3, hi3, hzz⟩ := Option.map_eq_some_iff.1 info3i
  simp only [Prod.mk.injEq] at hzz
  obtain ⟨hz0, hz1, hz2⟩ := hzz
  obtain ⟨ih, hih, hyy⟩ := Option.map_eq_some_iff.1 info69i
  simp only [Prod.mk.injEq] at hyy
  obtain ⟨hy0, hy1, hy2⟩ := hyy
  obtain ⟨a, cap, b, off, sv, rfl, hc, hm, ha, hcell, hr, hnn⟩ := h
  have HC := (show Hid _ from hcell); clear hcell
  have HA := (show Hid _ from ha); clear ha
  have HR := (show Hid _ from hr); clear hr
  have HNN := (show Hid _ from hnn); clear hnn
  have HRL := (show Hid _ from hrl); clear hrl
  unfold maxLen at hm
  generalize hRes : onc [] [] ls = R
  have HRes := (show Hid _ from hRes); clear hRes
  go_enter Try.func55, Try.ntmps55
  go_wp2_with fail
  go_loopw [4, 5, 11] (fun u x i wr => ∃ (j : Nat) (rv : List (Value × List (Int × Int))) (N : List Int) (a : Option Addr) (c : Nat) (a' : Option Addr) (c' : Nat), u = .slice a rv.length c ∧ x = .slice a' N.length c' ∧ i = .int .i64 j ∧ j ≤ ls.length ∧ Hid (OnA w wr ls R j rv N u x)) (fun _ _ i _ => ls.length - (intOf i).toNat)
  case atStart =>
    exact ⟨0, [], [], none, 0, none, 0, rfl, rfl, rfl, Nat.zero_le _, Below.refl _ _, ⟨fun e he => by
      simp only [List.map_nil, List.mem_cons, List.not_mem_nil, or_false] at he
      rcases he with rfl | rfl
      · exact World.ownsRow_nil _ _ _ _
      · exact World.ownsRow_nil _ _ _ _, by
      refine List.pairwise_cons.2 ⟨fun x hx k hk => ?_, List.pairwise_cons.2 ⟨fun x hx => absurd hx (by simp), List.Pairwise.nil⟩⟩
      simp [Value.ownBlock] at hk⟩, HRes.out, Nat.le_refl _, rfl⟩
  case round =>
    obtain ⟨j, rv, N, a1, p1, a2, p2, rfl, rfl, rfl, hj, HI⟩ := hrel
    by_cases hjl : j < ls.length
    · have hjl' := hjl
      obtain ⟨rfl, _⟩ := HA.out (by omega)
      have hbel := HI.out.bel
      have hsz : w.heap.size ≤ wr.heap.size := hbel.size
      have k0 := HC.out j hjl'
      rw [← hbel.cell (lt_of_cell k0)] at k0
      have hrow := (HR.out j hjl').still hbel
      obtain ⟨ad, cr, er⟩ := HNN.out j hjl'
      rw [er] at k0 hrow
      have hb1 := bel_alloc wr (.cells #[.slice (some ad) ls[j].length cr] 69)
      have hown1 := HI.out.own.still hb1
      have hhd := hown1.ok _ (List.mem_cons_self ..)
      have HIX := (show Hid _ from indexA_any (rv.map (·.2)) ls[j] (.slice a1 rv.length p1) (.slice (some ad) ls[j].length cr) wr.heap.size (wr.alloc (.cells #[.slice (some ad) ls[j].length cr] 69)) (own_arows hhd (fun p hp => hown1.ok _ (List.mem_cons_of_mem _ (List.mem_cons_of_mem _ (List.mem_map.2 ⟨p, hp, rfl⟩))))) (hrow.still hb1) (by simp [go_sem]))
      have HO1 := (show Hid _ from (⟨hown1, bel_trans hbel hb1, hrow.still hb1⟩ : _ ∧ _ ∧ _))
      have hix := ixO_le ls[j] (rv.map (·.2))
      have HLEN := (show Hid _ from HI.out.len)
      have hNb : N.length ≤ 250 := by have := HLEN.out; omega
      have hrb : rv.length ≤ 250 := by have := HLEN.out; omega
      have heq := HI.out.eq
      rw [List.drop_eq_getElem_cons hjl'] at heq
      unfold onc at heq
      have HEQ := (show Hid _ from heq)
      clear hown1 hhd hrow hb1 heq er
      simp only [List.length_map] at hix
      by_cases hx : ixO ls[j] (rv.map (·.2)) < (rv.map (·.2)).length
      · rw [if_pos hx] at HIX HEQ
        have hge : ¬ ((ixO ls[j] (rv.map (·.2)) : Int) < 0) := by omega
        clear hx
        go_wp2_with fail
        refine Calls.mono HIX.out ?_
        rintro e w2 ⟨rfl, hb2⟩
        have hb3 := bel_trans hb2 (bel_alloc w2 (.cells #[.int .i64 ((ixO ls[j] (rv.map (·.2)) : Nat) : Int)] 3))
        have HO3 := (show Hid _ from (⟨HO1.out.1.still hb3, bel_trans HO1.out.2.1 hb3⟩ : _ ∧ _))
        have hn3 := HO3.out.1.ok _ (List.mem_cons_of_mem _ (List.mem_cons_self ..))
        have HN3 := (show Hid _ from hn3)
        clear hb2 hb3 hn3 k0 hbel HIX HO1 HI
        go_wp2_with (at_builtin; refine wpList_append_lies _ rfl (.tmp 27) (.tmp 29) 46 rfl w.heap.size 3 i3 _ 1 8 Try.underlying46 hi3 hz0 hz1 hz2 rfl (by decide) _ N.length _ rfl HN3.out ⟨w2.heap.size, 0, none⟩ 1 1 [.int .i64 ((ixO ls[j] (rv.map (·.2)) : Nat) : Int)] rfl rfl ?c1 ?c2 (by decide) ?c3 (by omega) ?c4 _ rfl ?nx)
        case c1 =>
          have hn := World.news_of_block (cs := #[.int .i64 ((ixO ls[j] (rv.map (·.2)) : Nat) : Int)]) (blk_alloc_new w2 (.cells #[.int .i64 ((ixO ls[j] (rv.map (·.2)) : Nat) : Int)] 3))
          exact hn
        case c2 => intro y hy; simp at hy; subst hy; rfl
        case c3 => unfold maxLen; omega
        case c4 => exact HO3.out.2.size
        case nx =>
          intro g3 cap3 w6 hown6 hgr6 hat6 hlt6
          have HX := (show Hid _ from OnA.next (v' := .slice (some ⟨g3, 0, none⟩) (N.length + 1) cap3) HO3.out.2 HO3.out.2.size HO3.out.1 hgr6 hown6 (fun k hk => by
            have : g3 = k := by simpa [Value.ownBlock] using hk
            subst this
            rcases hat6 with h | h
            · exact .inl h
            · exact .inr (by first | omega | (simp at h ⊢; done) | (simp at h ⊢; omega))) HEQ.out ⟨by have := HLEN.out; omega, HLEN.out.2⟩)
          clear hown6 hgr6 hat6 hlt6
          go_wp2_with fail
          exact ⟨⟨j + 1, rv, N ++ [((ixO ls[j] (rv.map (·.2)) : Nat) : Int)], _, _, some ⟨g3, 0, none⟩, cap3, rfl, by simp, by go_num, by omega, HX⟩, by simp [intOf]; omega⟩
      · rw [if_neg hx] at HIX HEQ
        have hxe : ixO ls[j] (rv.map (·.2)) = rv.length := by simp at hx; omega
        clear hx
        have HXE := (show Hid _ from hxe)
        clear hxe
        go_wp2_with fail
        refine Calls.mono HIX.out ?_
        rintro e w2 ⟨rfl, hb2⟩
        have HO2 := (show Hid _ from (⟨HO1.out.1.still hb2, bel_trans HO1.out.2.1 hb2, HO1.out.2.2.still hb2⟩ : _ ∧ _ ∧ _))
        have hbx : w2.cell? ⟨wr.heap.size, 0, none⟩ = some (.slice (some ad) ls[j].length cr) := (hb2.cell (by show wr.heap.size < _; simp)).trans (by simp [go_sem])
        have HCL := (show Hid _ from cloneA_any ls[j] ad cr w2 HO2.out.2.2 (HRL.out j hjl'))
        clear hb2 k0 hbel HIX HO1 HI
        go_wp2_with fail
        refine Calls.mono HCL.out ?_
        rintro e w3 ⟨v3, rfl, hb3, ho3⟩
        obtain ⟨a5, c5, _, e5, _⟩ := own_cell ho3
        subst e5
        have hadd := HO2.out.1.add (e' := entA (Value.slice a5 ls[j].length c5, ls[j])) hb3 (by
          show w3.ownsRow w.heap.size 71 2 (Value.slice a5 ls[j].length c5) ls[j].length (encA ls[j])
          refine ⟨ho3.1, ?_⟩
          rcases ho3.2 with h0 | ⟨g, cp, cur, r1, r2, r3⟩
          · exact .inl h0
          · exact .inr ⟨g, cp, cur, r1, Nat.le_trans HO2.out.2.1.size r2, r3⟩) (fun k hk => (ho3.lt k hk).1)
        have hb4 := bel_alloc w3 (.cells #[Value.slice a5 ls[j].length c5] 69)
        have HO4 := (show Hid _ from (⟨hadd.still hb4, bel_trans (bel_trans HO2.out.2.1 hb3) hb4⟩ : Own (w3.alloc (.cells #[Value.slice a5 ls[j].length c5] 69)) w.heap.size (entA (Value.slice a5 ls[j].length c5, ls[j]) :: ⟨69, 1, (.slice a1 rv.length p1), rv.length, rv.map (·.1)⟩ :: ⟨3, 1, (.slice a2 N.length p2), N.length, encI N⟩ :: rv.map entA) ∧ Below w.heap.size w (w3.alloc (.cells #[Value.slice a5 ls[j].length c5] 69))))
        have HH4 := (show Hid _ from HO4.out.1.ok _ (List.mem_cons_of_mem _ (List.mem_cons_self ..)))
        have h1c : (Value.slice a5 ls[j].length c5).oneCell' = true := rfl
        have H1C := (show Hid _ from h1c)
        clear hadd hb4 hb3 ho3 hbx HO2 HCL h1c
        go_wp2_with (at_builtin; refine wpList_append_lies _ rfl (.tmp 22) (.tmp 25) 39 rfl w.heap.size 69 ih _ 1 24 Try.underlying39 hih hy0 hy1 hy2 rfl (by decide) _ rv.length _ rfl HH4.out ⟨w3.heap.size, 0, none⟩ 1 1 [Value.slice a5 ls[j].length c5] rfl rfl ?d1 ?d2 (by decide) ?d3 (by omega) ?d4 _ rfl ?ny)
        case d1 =>
          have hn := World.news_of_block (cs := #[Value.slice a5 ls[j].length c5]) (blk_alloc_new w3 (.cells #[Value.slice a5 ls[j].length c5] 69))
          exact hn
        case d2 => intro y hy; simp at hy; subst hy; exact H1C.out
        case d3 => unfold maxLen; omega
        case d4 => exact HO4.out.2.size
        case ny =>
          intro g5 cap5 w5 hown5 hgr5 hat5 hlt5
          have hp4 := HO4.out.1.perm (List.Perm.swap _ _ _)
          have hg5 := hp4.grow (e' := ⟨69, 1, .slice (some ⟨g5, 0, none⟩) (rv.length + 1) cap5, (rv ++ [(Value.slice a5 ls[j].length c5, ls[j])]).length, (rv ++ [(Value.slice a5 ls[j].length c5, ls[j])]).map (·.1)⟩) hgr5 (by show w5.ownsRow _ _ _ _ _ _; simpa using hown5) (fun k hk => by
            have : g5 = k := by simpa [Value.ownBlock] using hk
            subst this
            rcases hat5 with h | h
            · exact .inl h
            · exact .inr (by first | omega | (simp at h ⊢; done) | (simp at h ⊢; omega)))
          have ho5 : Own w5 w.heap.size (⟨69, 1, .slice (some ⟨g5, 0, none⟩) (rv.length + 1) cap5, (rv ++ [(Value.slice a5 ls[j].length c5, ls[j])]).length, (rv ++ [(Value.slice a5 ls[j].length c5, ls[j])]).map (·.1)⟩ :: ⟨3, 1, (.slice a2 N.length p2), N.length, encI N⟩ :: (rv ++ [(Value.slice a5 ls[j].length c5, ls[j])]).map entA) := by
            refine hg5.perm (List.Perm.cons _ ?_)
            rw [List.map_append, List.map_cons, List.map_nil]
            exact ((List.Perm.swap _ _ _).trans (List.Perm.cons _ (List.perm_append_comm (l₁ := [entA (Value.slice a5 ls[j].length c5, ls[j])]) (l₂ := rv.map entA))))
          have hb5 := grown_bel HO4.out.2 hgr5 (fun k hk => (World.ownsRow.lt HH4.out k hk).1) HO4.out.2.size
          have hb6 := bel_alloc w5 (.cells #[.int .i64 ((rv.length : Nat) : Int)] 3)
          have HO6 := (show Hid _ from (⟨ho5.still hb6, bel_trans hb5 hb6⟩ : _ ∧ _))
          have HN6 := (show Hid _ from HO6.out.1.ok _ (List.mem_cons_of_mem _ (List.mem_cons_self ..)))
          clear hown5 hgr5 hat5 hlt5 hp4 hg5 ho5 hb5 hb6 HO4 HH4
          go_wp2_with (at_builtin; refine wpList_append_lies _ rfl (.tmp 27) (.tmp 29) 46 rfl w.heap.size 3 i3 _ 1 8 Try.underlying46 hi3 hz0 hz1 hz2 rfl (by decide) _ N.length _ rfl HN6.out ⟨w5.heap.size, 0, none⟩ 1 1 [.int .i64 ((rv.length : Nat) : Int)] rfl rfl ?c1 ?c2 (by decide) ?c3 (by omega) ?c4 _ rfl ?nx)
          case c2 => (first | (intro y hy; simp at hy; subst hy; rfl) | rfl | simp [Value.oneCell'])
          case c3 => unfold maxLen; omega
          case c4 => (first | exact HO6.out.2.size | (have := HO6.out.2.size; simp at this; omega))
          case nx =>
            intro g7 cap7 w7 hown7 hgr7 hat7 hlt7
            have HX := (show Hid _ from OnA.next (rv := rv ++ [(Value.slice a5 ls[j].length c5, ls[j])]) (u := .slice (some ⟨g5, 0, none⟩) (rv.length + 1) cap5) (v' := .slice (some ⟨g7, 0, none⟩) (N.length + 1) cap7) HO6.out.2 HO6.out.2.size HO6.out.1 hgr7 hown7 (fun k hk => by
              have : g7 = k := by simpa [Value.ownBlock] using hk
              subst this
              rcases hat7 with h | h
              · exact .inl h
              · exact .inr (by first | omega | (simp at h ⊢; done) | (simp at h ⊢; omega))) (by have hq := HEQ.out; have hx := HXE.out; first | exact hq | (rw [hx] at hq; exact hq) | (simp [hx] at hq ⊢; exact hq)) ⟨by have := HLEN.out; first | omega | (simp; done) | (simp; omega), HLEN.out.2⟩)
            clear hown7 hgr7 hat7 hlt7
            go_wp2_with fail
            exact ⟨⟨j + 1, rv ++ [(Value.slice a5 ls[j].length c5, ls[j])], N ++ [((rv.length : Nat) : Int)], some ⟨g5, 0, none⟩, cap5, some ⟨g7, 0, none⟩, cap7, by simp, by simp, by go_num, by omega, HX⟩, by simp [intOf]; omega⟩
    · have hje : j = ls.length := by omega
      have heq := HI.out.eq
      rw [List.drop_eq_nil_of_le (by omega)] at heq
      unfold onc at heq
      have HF := (show Hid _ from (⟨HI.out.bel, HI.out.own, heq⟩ : _ ∧ _ ∧ _))
      clear HI heq hje
      go_wp2_with fail
      exact bodyPost_ret (v := .tuple #[.slice a1 rv.length p1, .slice a2 N.length p2]) (by simp [results, Try.results55, go_sem]) rfl ⟨_, _, rv, N, rfl, HF.out.1, HF.out.2.1, HF.out.2.2.symm⟩
end Go.Proofs.Ytflhfimgeladaaa
