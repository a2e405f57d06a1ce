import Derived.Test.YtjpjjfgdgieapaaDoorPa
import Derived.Test.YtjpjjfgdgieapaaDoorDat
/-! Going round as long as there is news. -/
namespace Go.Proofs.YtjpjjfgdgieapaaDoor
open Go.RowKit Go.Deep
set_option linter.unusedVariables false
set_option maxRecDepth 100000
set_option linter.unusedSimpArgs false

/-- A box whose cells may be written. -/
structure Box (w : World) (g T : Nat) (cs : List Value) : Prop where
  ex : w.rowIs g T cs.length (fun i => cs.getD i .nilFunc)
theorem Box.new (w : World) (T : Nat) (cs : List Value) : Box (w.alloc (.cells cs.toArray T)) w.heap.size T cs :=
  ⟨cs.toArray, blk_alloc_new _ _, by simp, fun i hi => by simp [List.getD_eq_getElem?_getD, hi]⟩
theorem Box.lt {w : World} {g T : Nat} {cs : List Value} (h : Box w g T cs) : g < w.heap.size := World.rowIs.lt h.ex
theorem Box.keep {w w' : World} {g T : Nat} {cs : List Value} (h : Box w g T cs) (hb : w'.heap[g]? = w.heap[g]?) : Box w' g T cs := ⟨World.rowIs.of_block h.ex hb⟩
theorem Box.still {w w' : World} {g T : Nat} {cs : List Value} (h : Box w g T cs) (hb : Below w.heap.size w w') : Box w' g T cs := h.keep (hb.block g h.lt)
theorem Box.cell {w : World} {g T : Nat} {cs : List Value} (h : Box w g T cs) (i : Nat) (hi : i < cs.length) : w.cell? ⟨g, i, none⟩ = some (cs.getD i .nilFunc) := h.ex.cell hi
theorem Box.frozen {w : World} {g T : Nat} {cs : List Value} (h : Box w g T cs) (i : Nat) : w.frozen? ⟨g, i, none⟩ = false := h.ex.frozen i
/-- How much is left to do, as the world shows it. -/
theorem toDo_ex {α : Type} {Inv : α → World → Prop} {m : α → Nat} (hu : ∀ a b w, Inv a w → Inv b w → m a = m b) : ∃ f : World → Nat, ∀ a w, Inv a w → f w = m a := by
  classical
  refine ⟨fun w => if h : ∃ a, Inv a w then m h.choose else 0, fun a w h => ?_⟩
  have hx : ∃ a, Inv a w := ⟨a, h⟩
  show (if h : ∃ a, Inv a w then m h.choose else 0) = m a
  rw [dif_pos hx]
  exact hu _ _ _ hx.choose_spec h
def boolOf : Value → Bool
  | .bool b => b
  | _ => false

set_option maxHeartbeats 3200000 in
theorem settle78 {S : Nat → Prop} {α : Type} (g g2 : Nat) (prods : List Pd) (v : Value) (W0 : World) (hP : Pds W0 S prods v) (Inv : α → World → Prop) (m : α → Nat) (news : α → Nat → Bool) (nxt : α → Nat → α)
    (hbel : ∀ a w, Inv a w → Below W0.heap.size W0 w) (hu : ∀ a b w, Inv a w → Inv b w → m a = m b) (hall : ∀ a w o, Inv a w → Inv a (w.alloc o))
    (hdec : ∀ a k w, k < prods.length → Inv a w → news a k = true → m (nxt a k) < m a) (hsame : ∀ a k, news a k = false → nxt a k = a)
    (hcall : ∀ k (hk : k < prods.length) (a : α) (w : World) (vr : Value), Inv a w → Ints W0 S prods[k].right vr → Calls Tryd.prog 63 #[.pointer (some ⟨g, 0, none⟩), .agg #[.int .i64 prods[k].left, vr, .string prods[k].label, .int .i64 prods[k].lev, .int .i64 prods[k].asc]] w fun e w' => e = .returned (.bool (news a k)) ∧ Inv (nxt a k) w')
    (a0 : α) (w : World) (h0 : Inv a0 w) :
    Calls Tryd.prog 62 #[v, .func (.func 63) #[.pointer (some ⟨g, 0, none⟩)] #[]] w fun e w' => e = .returned (.tuple #[]) ∧ ∃ a, Inv a w' ∧ ∀ k, k < prods.length → news a k = false := by
  obtain ⟨a, cap, b, off, sv, rfl, hc, hm, ha, hcell, hr⟩ := hP
  have HC := (show Hid _ from hcell); clear hcell
  have HA := (show Hid _ from ha); clear ha
  have HR := (show Hid _ from hr); clear hr
  have HCALL := (show Hid _ from hcall); clear hcall
  have HBEL := (show Hid _ from hbel); clear hbel
  obtain ⟨toDo, htd⟩ := toDo_ex hu
  have HU := (show Hid (∀ a w, Inv a w → toDo w = m a) from htd); clear hu htd
  have HALL := (show Hid _ from hall); clear hall
  have HDEC := (show Hid _ from hdec); clear hdec
  have HSAME := (show Hid _ from hsame); clear hsame
  have H0 := (show Hid _ from h0); clear h0
  unfold maxLen at hm
  go_enter Tryd.func62, Tryd.ntmps62
  go_wp2_with fail
  go_loopw [4] (fun u wr => ∃ again : Bool, u = .bool again ∧ Hid (∃ x, Inv x wr ∧ (again = false → ∀ k, k < prods.length → news x k = false))) (fun u wr => if boolOf u then toDo wr + 1 else 0)
  case atStart => exact ⟨true, rfl, a0, H0.out, fun h => by cases h⟩
  case round =>
    obtain ⟨again, rfl, HI⟩ := hrel
    obtain ⟨x0, hx0, hq0⟩ := HI.out
    cases again
    · have HN := (show Hid _ from (⟨x0, hx0, hq0 rfl⟩ : ∃ a, Inv a wr ∧ ∀ k, k < prods.length → news a k = false)); clear hx0 hq0 HI
      go_wp2_with fail
      refine bodyPost_end (v := .tuple #[]) (by simp [results, Tryd.results62]) rfl ?_
      exact ⟨rfl, HN.out⟩
    · have hM : toDo wr = m x0 := HU.out _ _ hx0
      have HM := (show Hid (boolOf (.bool true) = true ∧ toDo wr = m x0) from ⟨rfl, hM⟩); clear hM
      have HX0 := (show Hid _ from hx0); clear hx0 hq0 HI
      go_wp2_with fail
      go_loopw [4, 10] (fun u i wi => ∃ (ag : Bool) (j : Nat), u = .bool ag ∧ i = .int .i64 j ∧ j ≤ prods.length ∧ Hid (∃ x, Inv x wi ∧ (ag = true → m x < m x0) ∧ (ag = false → x = x0 ∧ ∀ k, k < j → news x0 k = false))) (fun _ i _ => prods.length - (intOf i).toNat)
      case atStart => exact ⟨false, 0, rfl, rfl, Nat.zero_le _, x0, HX0.out, (fun h => by cases h), fun _ => ⟨rfl, fun k hk => absurd hk (Nat.not_lt_zero _)⟩⟩
      case round =>
        obtain ⟨ag, j, rfl, rfl, hj, HJ⟩ := hrel
        by_cases hlt : j < prods.length
        · have hlt' := hlt
          obtain ⟨rfl, _⟩ := HA.out (by omega)
          obtain ⟨x, hx, hx1, hx2⟩ := HJ.out
          have hbw := HBEL.out x _ hx
          obtain ⟨c0, c1, c2, c3, c4, _⟩ := HC.out j hlt'
          have hri := HR.out j hlt'
          obtain ⟨ai, ci, ei, _⟩ := hri.form
          rw [ei] at c1 hri
          rw [← hbw.cell (lt_of_cell c0)] at c0
          rw [← hbw.cell (lt_of_cell c1)] at c1
          rw [← hbw.cell (lt_of_cell c2)] at c2
          rw [← hbw.cell (lt_of_cell c3)] at c3
          rw [← hbw.cell (lt_of_cell c4)] at c4
          have HV := (show Hid _ from HCALL.out j hlt' x _ _ (HALL.out x _ (.cells #[.int .i64 prods[j].left, .slice ai prods[j].right.length ci, .string prods[j].label, .int .i64 prods[j].lev, .int .i64 prods[j].asc] 82) hx) hri)
          have HXX := (show Hid _ from (⟨hx1, hx2, fun h => HDEC.out x j _ hlt' hx h, fun h => HSAME.out x j h⟩ : _ ∧ _ ∧ (news x j = true → m (nxt x j) < m x) ∧ (news x j = false → nxt x j = x)))
          clear hx hx1 hx2 hri ei hbw HJ
          generalize prods[j] = P at *
          cases hnw : news x j
          · rw [hnw] at HV
            have HNW := (show Hid _ from hnw); clear hnw
            go_wp2_with fail
            go_at_call 63
            refine Calls.mono HV.out ?_
            rintro e w1 ⟨rfl, hi1⟩
            have HN : Hid (∃ y, Inv y w1 ∧ (ag = true → m y < m x0) ∧ (ag = false → y = x0 ∧ ∀ k, k < j + 1 → news x0 k = false)) := by
              refine ⟨nxt x j, hi1, fun h => ?_, fun h => ?_⟩
              · rw [HXX.out.2.2.2 HNW.out]; exact HXX.out.1 h
              · obtain ⟨e1, e2⟩ := HXX.out.2.1 h
                refine ⟨by rw [HXX.out.2.2.2 HNW.out, e1], fun k hk => ?_⟩
                by_cases ek : k = j
                · subst ek; rw [← e1]; exact HNW.out
                · exact e2 k (by omega)
            clear hi1 HV c0 c1 c2 c3 c4 HXX
            go_wp2_with fail
            exact ⟨⟨ag, j + 1, by rfl, by go_num, by omega, HN⟩, by simp [intOf]; omega⟩
          · rw [hnw] at HV
            have HNW := (show Hid _ from hnw); clear hnw
            go_wp2_with fail
            go_at_call 63
            refine Calls.mono HV.out ?_
            rintro e w1 ⟨rfl, hi1⟩
            have HN : Hid (∃ y, Inv y w1 ∧ m y < m x0) := by
              refine ⟨nxt x j, hi1, ?_⟩
              have h1 := HXX.out.2.2.1 HNW.out
              cases ag
              · rw [(HXX.out.2.1 rfl).1] at h1 ⊢; exact h1
              · exact Nat.lt_trans h1 (HXX.out.1 rfl)
            clear hi1 HV c0 c1 c2 c3 c4 HXX
            go_wp2_with fail
            exact ⟨⟨true, j + 1, by rfl, by go_num, by omega, by obtain ⟨y, h1, h2⟩ := HN.out; exact ⟨y, h1, (fun _ => h2), fun h => by cases h⟩⟩, by simp [intOf]; omega⟩
        · obtain ⟨x, hx, hx1, hx2⟩ := HJ.out
          have HN : Hid (∃ x, Inv x wr ∧ (ag = false → ∀ k, k < prods.length → news x k = false)) := ⟨x, hx, fun h => by
            obtain ⟨e1, e2⟩ := hx2 h
            subst e1
            exact fun k hk => e2 k (by omega)⟩
          have HLT : Hid ((if boolOf (.bool ag) then toDo wr + 1 else 0) < m x0 + 1) := by
            show (if boolOf (.bool ag) then toDo wr + 1 else 0) < m x0 + 1
            cases ag
            · simp [boolOf]
            · have h1 := hx1 rfl
              have h2 : toDo wr = m x := HU.out _ _ hx
              simp only [boolOf, if_true, h2]
              omega
          clear hx hx1 hx2 HJ
          go_wp2_with fail
          refine ⟨⟨ag, by rfl, HN⟩, ?_⟩
          have h1 := HLT.out
          have h2 := HM.out.2
          simp only [boolOf, if_true] at h1 ⊢
          omega

set_option maxHeartbeats 3200000 in
theorem settle107 {S : Nat → Prop} {α : Type} (g g2 : Nat) (prods : List Pd) (v : Value) (W0 : World) (hP : Pds W0 S prods v) (Inv : α → World → Prop) (m : α → Nat) (news : α → Nat → Bool) (nxt : α → Nat → α)
    (hbel : ∀ a w, Inv a w → Below W0.heap.size W0 w) (hu : ∀ a b w, Inv a w → Inv b w → m a = m b) (hall : ∀ a w o, Inv a w → Inv a (w.alloc o))
    (hdec : ∀ a k w, k < prods.length → Inv a w → news a k = true → m (nxt a k) < m a) (hsame : ∀ a k, news a k = false → nxt a k = a)
    (hcall : ∀ k (hk : k < prods.length) (a : α) (w : World) (vr : Value), Inv a w → Ints W0 S prods[k].right vr → Calls Tryd.prog 86 #[.agg #[.int .i64 prods[k].left, vr, .string prods[k].label, .int .i64 prods[k].lev, .int .i64 prods[k].asc], .pointer (some ⟨g, 0, none⟩), .pointer (some ⟨g2, 0, none⟩)] w fun e w' => e = .returned (.bool (news a k)) ∧ Inv (nxt a k) w')
    (a0 : α) (w : World) (h0 : Inv a0 w) :
    Calls Tryd.prog 62 #[v, .func (.func 86) #[] #[.pointer (some ⟨g, 0, none⟩), .pointer (some ⟨g2, 0, none⟩)]] w fun e w' => e = .returned (.tuple #[]) ∧ ∃ a, Inv a w' ∧ ∀ k, k < prods.length → news a k = false := by
  obtain ⟨a, cap, b, off, sv, rfl, hc, hm, ha, hcell, hr⟩ := hP
  have HC := (show Hid _ from hcell); clear hcell
  have HA := (show Hid _ from ha); clear ha
  have HR := (show Hid _ from hr); clear hr
  have HCALL := (show Hid _ from hcall); clear hcall
  have HBEL := (show Hid _ from hbel); clear hbel
  obtain ⟨toDo, htd⟩ := toDo_ex hu
  have HU := (show Hid (∀ a w, Inv a w → toDo w = m a) from htd); clear hu htd
  have HALL := (show Hid _ from hall); clear hall
  have HDEC := (show Hid _ from hdec); clear hdec
  have HSAME := (show Hid _ from hsame); clear hsame
  have H0 := (show Hid _ from h0); clear h0
  unfold maxLen at hm
  go_enter Tryd.func62, Tryd.ntmps62
  go_wp2_with fail
  go_loopw [4] (fun u wr => ∃ again : Bool, u = .bool again ∧ Hid (∃ x, Inv x wr ∧ (again = false → ∀ k, k < prods.length → news x k = false))) (fun u wr => if boolOf u then toDo wr + 1 else 0)
  case atStart => exact ⟨true, rfl, a0, H0.out, fun h => by cases h⟩
  case round =>
    obtain ⟨again, rfl, HI⟩ := hrel
    obtain ⟨x0, hx0, hq0⟩ := HI.out
    cases again
    · have HN := (show Hid _ from (⟨x0, hx0, hq0 rfl⟩ : ∃ a, Inv a wr ∧ ∀ k, k < prods.length → news a k = false)); clear hx0 hq0 HI
      go_wp2_with fail
      refine bodyPost_end (v := .tuple #[]) (by simp [results, Tryd.results62]) rfl ?_
      exact ⟨rfl, HN.out⟩
    · have hM : toDo wr = m x0 := HU.out _ _ hx0
      have HM := (show Hid (boolOf (.bool true) = true ∧ toDo wr = m x0) from ⟨rfl, hM⟩); clear hM
      have HX0 := (show Hid _ from hx0); clear hx0 hq0 HI
      go_wp2_with fail
      go_loopw [4, 10] (fun u i wi => ∃ (ag : Bool) (j : Nat), u = .bool ag ∧ i = .int .i64 j ∧ j ≤ prods.length ∧ Hid (∃ x, Inv x wi ∧ (ag = true → m x < m x0) ∧ (ag = false → x = x0 ∧ ∀ k, k < j → news x0 k = false))) (fun _ i _ => prods.length - (intOf i).toNat)
      case atStart => exact ⟨false, 0, rfl, rfl, Nat.zero_le _, x0, HX0.out, (fun h => by cases h), fun _ => ⟨rfl, fun k hk => absurd hk (Nat.not_lt_zero _)⟩⟩
      case round =>
        obtain ⟨ag, j, rfl, rfl, hj, HJ⟩ := hrel
        by_cases hlt : j < prods.length
        · have hlt' := hlt
          obtain ⟨rfl, _⟩ := HA.out (by omega)
          obtain ⟨x, hx, hx1, hx2⟩ := HJ.out
          have hbw := HBEL.out x _ hx
          obtain ⟨c0, c1, c2, c3, c4, _⟩ := HC.out j hlt'
          have hri := HR.out j hlt'
          obtain ⟨ai, ci, ei, _⟩ := hri.form
          rw [ei] at c1 hri
          rw [← hbw.cell (lt_of_cell c0)] at c0
          rw [← hbw.cell (lt_of_cell c1)] at c1
          rw [← hbw.cell (lt_of_cell c2)] at c2
          rw [← hbw.cell (lt_of_cell c3)] at c3
          rw [← hbw.cell (lt_of_cell c4)] at c4
          have HV := (show Hid _ from HCALL.out j hlt' x _ _ (HALL.out x _ (.cells #[.int .i64 prods[j].left, .slice ai prods[j].right.length ci, .string prods[j].label, .int .i64 prods[j].lev, .int .i64 prods[j].asc] 82) hx) hri)
          have HXX := (show Hid _ from (⟨hx1, hx2, fun h => HDEC.out x j _ hlt' hx h, fun h => HSAME.out x j h⟩ : _ ∧ _ ∧ (news x j = true → m (nxt x j) < m x) ∧ (news x j = false → nxt x j = x)))
          clear hx hx1 hx2 hri ei hbw HJ
          generalize prods[j] = P at *
          cases hnw : news x j
          · rw [hnw] at HV
            have HNW := (show Hid _ from hnw); clear hnw
            go_wp2_with fail
            go_at_call 86
            refine Calls.mono HV.out ?_
            rintro e w1 ⟨rfl, hi1⟩
            have HN : Hid (∃ y, Inv y w1 ∧ (ag = true → m y < m x0) ∧ (ag = false → y = x0 ∧ ∀ k, k < j + 1 → news x0 k = false)) := by
              refine ⟨nxt x j, hi1, fun h => ?_, fun h => ?_⟩
              · rw [HXX.out.2.2.2 HNW.out]; exact HXX.out.1 h
              · obtain ⟨e1, e2⟩ := HXX.out.2.1 h
                refine ⟨by rw [HXX.out.2.2.2 HNW.out, e1], fun k hk => ?_⟩
                by_cases ek : k = j
                · subst ek; rw [← e1]; exact HNW.out
                · exact e2 k (by omega)
            clear hi1 HV c0 c1 c2 c3 c4 HXX
            go_wp2_with fail
            exact ⟨⟨ag, j + 1, by rfl, by go_num, by omega, HN⟩, by simp [intOf]; omega⟩
          · rw [hnw] at HV
            have HNW := (show Hid _ from hnw); clear hnw
            go_wp2_with fail
            go_at_call 86
            refine Calls.mono HV.out ?_
            rintro e w1 ⟨rfl, hi1⟩
            have HN : Hid (∃ y, Inv y w1 ∧ m y < m x0) := by
              refine ⟨nxt x j, hi1, ?_⟩
              have h1 := HXX.out.2.2.1 HNW.out
              cases ag
              · rw [(HXX.out.2.1 rfl).1] at h1 ⊢; exact h1
              · exact Nat.lt_trans h1 (HXX.out.1 rfl)
            clear hi1 HV c0 c1 c2 c3 c4 HXX
            go_wp2_with fail
            exact ⟨⟨true, j + 1, by rfl, by go_num, by omega, by obtain ⟨y, h1, h2⟩ := HN.out; exact ⟨y, h1, (fun _ => h2), fun h => by cases h⟩⟩, by simp [intOf]; omega⟩
        · obtain ⟨x, hx, hx1, hx2⟩ := HJ.out
          have HN : Hid (∃ x, Inv x wr ∧ (ag = false → ∀ k, k < prods.length → news x k = false)) := ⟨x, hx, fun h => by
            obtain ⟨e1, e2⟩ := hx2 h
            subst e1
            exact fun k hk => e2 k (by omega)⟩
          have HLT : Hid ((if boolOf (.bool ag) then toDo wr + 1 else 0) < m x0 + 1) := by
            show (if boolOf (.bool ag) then toDo wr + 1 else 0) < m x0 + 1
            cases ag
            · simp [boolOf]
            · have h1 := hx1 rfl
              have h2 : toDo wr = m x := HU.out _ _ hx
              simp only [boolOf, if_true, h2]
              omega
          clear hx hx1 hx2 HJ
          go_wp2_with fail
          refine ⟨⟨ag, by rfl, HN⟩, ?_⟩
          have h1 := HLT.out
          have h2 := HM.out.2
          simp only [boolOf, if_true] at h1 ⊢
          omega
end Go.Proofs.YtjpjjfgdgieapaaDoor
