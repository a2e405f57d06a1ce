import Derived.Test.YtaimlmjgicmbeaaIbm
import Derived.Deep.AppendLies
namespace Go.Proofs.Ytaimlmjgicmbeaa
open Go.RowKit Go.Deep
set_option linter.unusedVariables false
set_option maxRecDepth 100000
set_option linter.unusedSimpArgs false

theorem own_still {w w' : World} {L e z n : Nat} {v : Value} {xs : List Value} (h : w.ownsRow L e z v n xs) (hb : Below w.heap.size w w') : w'.ownsRow L e z v n xs := by
  refine ⟨h.1, ?_⟩
  rcases h.2 with h0 | ⟨g, cap, cur, hv, hB, hg, r⟩
  · exact .inl h0
  · exact .inr ⟨g, cap, cur, hv, hB, (hb.block g (Array.getElem?_eq_some_iff.1 hg).1).trans hg, r⟩
theorem grown_below' {L : Nat} {o : Option Nat} {w0 w w' : World} (h : Below L w0 w) (g : w.grownBy w' o) (hb : ∀ b, o = some b → L ≤ b) (hL : L ≤ w.heap.size) : Below L w0 w' :=
  ⟨g.os.trans h.os, g.tape.trans h.tape, g.output.trans h.output, Nat.le_trans h.size g.size, fun k hk => (g.block k (by omega) (fun e => by have := hb k e.symm; omega)).trans (h.block k hk)⟩
theorem own_strs {w : World} {L n : Nat} {v : Value} {ts : List ByteArray} (h : w.ownsRow L 9 1 v n (ts.map .string)) (hn : n = ts.length) (hs : ∀ t ∈ ts, t.size ≤ maxLen) : Strs w (fun b => L ≤ b) ts v := by
  rcases h.2 with ⟨rfl, h0⟩ | ⟨g, cap, cur, rfl, hB, hg, hnc, hcm, hcs, htk⟩
  · obtain rfl : ts = [] := List.eq_nil_of_length_eq_zero (by omega)
    exact ⟨none, 0, 0, 0, rfl, Nat.le_refl _, Nat.zero_le _, fun h => absurd h (Nat.not_lt_zero _), fun i hi => absurd hi (Nat.not_lt_zero _)⟩
  · subst hn
    refine ⟨some ⟨g, 0, none⟩, cap, g, 0, rfl, hnc, hcm, fun _ => ⟨rfl, hB⟩, fun i hi => ⟨?_, hs _ (List.getElem_mem hi)⟩⟩
    have e0 := World.news_of_block hg i (.string ts[i])
    have e1 : (⟨g, 0, none⟩ : Addr).add i = ⟨g, 0 + i, none⟩ := by
      unfold Addr.add
      split
      · next h0 => subst h0; rfl
      · rfl
    rw [e1] at e0
    refine e0 ?_
    have e := congrArg (·[i]?) htk
    simp only [Nat.mul_one, List.getElem?_take, if_pos hi, List.getElem?_map, List.getElem?_eq_getElem hi] at e
    exact e
/-- The names of the first j Terms, as values. -/
def nmv (l : List Tm) (j : Nat) : List Value := ((l.take j).map (·.name)).map .string
theorem nmv_succ {l : List Tm} {j : Nat} (h : j < l.length) : nmv l (j + 1) = nmv l j ++ [.string l[j].name] := by
  unfold nmv
  rw [List.take_add_one, List.getElem?_eq_getElem h, List.map_append, List.map_append]
  rfl
set_option maxHeartbeats 1600000 in
theorem termsRight_any {S : Nat → Prop} (l : List Tm) (v : Value) (w : World) (h : Tms w S l v) (hl : l.length ≤ 60) :
    Calls Try.prog 60 #[v] w fun e w' => e = .returned (.bool (l.all (fun t => stB t.lev t.asc) && apB (l.map (·.name)))) ∧ Below w.heap.size w w' := by
  obtain ⟨a, cap, b, off, rfl, hc, hm, ha, hcell⟩ := h
  have HC := (show Hid _ from hcell); clear hcell
  have HA := (show Hid _ from ha); clear ha
  have HS := (show Hid _ from fun (l a : Int) (w : World) => strength_i l a w)
  unfold maxLen at hm
  obtain ⟨i9, hi9, hzz⟩ := Option.map_eq_some_iff.1 info9i
  simp only [Prod.mk.injEq] at hzz
  obtain ⟨hz0, hz1, hz2⟩ := hzz
  generalize hRes : (l.all (fun t => stB t.lev t.asc) && apB (l.map (·.name))) = R
  have HRes := (show Hid _ from hRes); clear hRes
  go_enter Try.func60, Try.ntmps60
  go_wp2_with fail
  go_loopw [3, 8] (fun u i wr => ∃ (j : Nat) (a : Option Addr) (c : Nat), u = .slice a j c ∧ i = .int .i64 j ∧ j ≤ l.length ∧ Hid (∀ i (hi : i < l.length), i < j → stB l[i].lev l[i].asc = true) ∧ Hid (wr.ownsRow w.heap.size 9 1 u j (nmv l j) ∧ Below w.heap.size w wr)) (fun _ i _ => l.length - (intOf i).toNat)
  case atStart => exact ⟨0, none, 0, rfl, rfl, Nat.zero_le _, fun i hi h0 => absurd h0 (Nat.not_lt_zero _), World.ownsRow_nil _ _ _ _, Below.refl _ _⟩
  case round =>
    obtain ⟨j, ar, cr, rfl, rfl, hj, HJ, HO⟩ := hrel
    have hbel := HO.out.2
    by_cases hjl : j < l.length
    · obtain ⟨rfl, _⟩ := HA.out (by omega)
      obtain ⟨c0, c1, c2, hs⟩ := HC.out j hjl
      rw [← hbel.cell (lt_of_cell c0)] at c0
      rw [← hbel.cell (lt_of_cell c1)] at c1
      rw [← hbel.cell (lt_of_cell c2)] at c2
      have HST := (show Hid _ from HS.out l[j].lev l[j].asc)
      generalize hB : stB l[j].lev l[j].asc = B at HST
      have HB := (show Hid _ from hB); clear hB
      cases B
      · have HF : Hid (R = false) := by
          show R = false
          rw [← HRes.out, Bool.and_eq_false_iff]
          left
          rw [List.all_eq_false]
          exact ⟨l[j], List.getElem_mem hjl, by rw [HB.out]; simp⟩
        have HE := (show Hid _ from fun o => hbel.alloc hbel.size o); clear hbel
        go_wp2_with fail
        refine Calls.mono (HST.out _) ?_
        rintro e w1 ⟨rfl, rfl⟩
        go_wp2_with fail
        go_ret
        exact ⟨by rw [HF.out]; rfl, HE.out _⟩
      · have HN : Hid (∀ i (hi : i < l.length), i < j + 1 → stB l[i].lev l[i].asc = true) := fun i hi hij => by
          by_cases e : i = j
          · subst e; exact HB.out
          · exact HJ.out i hi (by omega)
        have htk := nmv_succ hjl
        have hb2 : Below wr.heap.size wr ((wr.alloc (.cells #[.string l[j].name, .int .i64 l[j].lev, .int .i64 l[j].asc] 79)).alloc (.cells #[.string l[j].name] 9)) := bel2 _ _ _
        have hw2 := own_still HO.out.1 hb2
        have HX := (show Hid _ from (⟨hw2, bel_trans hbel hb2, hbel.size, HO.out.1⟩ : _ ∧ _ ∧ w.heap.size ≤ wr.heap.size ∧ _)); clear hw2 hb2 hbel
        have HK := (show Hid _ from htk); clear htk
        go_wp2_with fail
        refine Calls.mono (HST.out _) ?_
        rintro e w1 ⟨rfl, rfl⟩
        go_wp2_with (at_builtin; refine wpList_append_lies _ rfl (.tmp 18) (.tmp 21) 23 rfl w.heap.size 9 i9 _ 1 16 Try.underlying23 hi9 hz0 hz1 hz2 rfl (by decide) _ j _ rfl HX.out.1 ⟨wr.heap.size + 1, 0, none⟩ 1 1 [.string l[j].name] rfl rfl ?c1 ?c2 (by decide) ?c3 (by omega) ?c4 _ rfl ?nx)
        case c1 =>
          have hn := World.news_of_block (cs := #[.string l[j].name]) (blk_alloc_new (wr.alloc (.cells #[.string l[j].name, .int .i64 l[j].lev, .int .i64 l[j].asc] 79)) (.cells #[.string l[j].name] 9))
          simp only [World.size_alloc] at hn
          exact hn
        case c2 => intro u hu; simp at hu; subst hu; rfl
        case c3 => unfold maxLen; omega
        case c4 => have := HX.out.2.2.1; simp; omega
        case nx =>
          intro g3 cap3 w6 hown6 hgr6 hat6 hlt6
          rw [← HK.out] at hown6
          have hb6 := grown_below' HX.out.2.1 hgr6 (fun b hb => (HX.out.1.lt b hb).1) (by have := HX.out.2.2.1; simp; omega)
          have HY := (show Hid _ from (⟨hown6, hb6⟩ : _ ∧ _)); clear hown6 hb6 hgr6 hat6 hlt6 c0 c1 c2
          go_wp2_with fail
          exact ⟨⟨j + 1, _, _, rfl, by go_num, by omega, HN, HY.out⟩, by simp [intOf]; omega⟩
    · have hje : j = l.length := by omega
      have hown := HO.out.1
      rw [hje] at hown
      unfold nmv at hown
      rw [List.take_length] at hown
      have hstr := own_strs hown (by simp) (fun t ht => by
        obtain ⟨x, hx, rfl⟩ := List.mem_map.1 ht
        obtain ⟨i, hi, rfl⟩ := List.mem_iff_getElem.1 hx
        exact (HC.out i hi).2.2.2)
      have hap := apart_any _ _ wr hstr (by simp; omega)
      have hR : R = apB (l.map (·.name)) := by
        rw [← HRes.out]
        have : l.all (fun t => stB t.lev t.asc) = true := by
          rw [List.all_eq_true]
          intro x hx
          obtain ⟨i, hi, rfl⟩ := List.mem_iff_getElem.1 hx
          exact HJ.out i hi (by omega)
        rw [this, Bool.true_and]
      rw [← hR, ← hje] at hap
      have HAP := (show Hid _ from hap); clear hap hR hstr hown
      clear hje
      go_wp2_with fail
      refine Calls.mono HAP.out ?_
      rintro e w1 ⟨rfl, hb1⟩
      have HE := (show Hid _ from bel_trans hbel hb1); clear hb1 hbel
      go_wp2_with fail
      go_ret
      exact ⟨rfl, HE.out⟩
end Go.Proofs.Ytaimlmjgicmbeaa
