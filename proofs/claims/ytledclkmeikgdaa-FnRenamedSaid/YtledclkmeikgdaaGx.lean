import Derived.Test.YtledclkmeikgdaaGw
/-! The program: slices.Index, slices.Contains, ledTo, declared. -/
namespace Go.Proofs.Ytledclkmeikgdaa
open Go.RowKit Go.Deep
set_option linter.unusedVariables false
set_option maxRecDepth 100000
set_option linter.unusedSimpArgs false

theorem ownInts {w : World} {B : Nat} {v : Value} {l : List Int} (h : w.ownsRow B 3 1 v l.length (iv l)) : Ints w (fun _ => True) l v := by
  rcases h.2 with ⟨rfl, h0⟩ | ⟨g, cap, cur, rfl, hB, hg, hnc, hcm, hcs, htk⟩
  · exact ⟨none, 0, 0, 0, by rw [h0], by omega, by unfold maxLen; omega, fun h => by omega, fun i hi => by omega⟩
  · refine ⟨_, cap, g, 0, rfl, hnc, hcm, fun _ => ⟨rfl, trivial⟩, fun i hi => ?_⟩
    have e := congrArg (·[i]?) htk
    simp only [Nat.mul_one, List.getElem?_take, if_pos hi, List.getElem?_map, List.getElem?_eq_getElem hi, Option.map_some] at e
    have e2 : cur[i]? = some (.int .i64 l[i]) := by simpa using e
    rw [Nat.zero_add, cell_of_row w g i cur 3 (0, 0) hg]
    exact e2
set_option maxHeartbeats 800000 in
theorem index90 {S : Nat → Prop} (l : List Int) (v : Value) (x : Int) (w : World) (h : Ints w S l v) :
    Calls Try.prog 84 #[v, .int .i64 x] w fun e w' => (∃ r : Int, e = .returned (.int .i64 r) ∧ decide (0 ≤ r) = hasI l x) ∧ w' = w := by
  obtain ⟨a, cap, b, off, rfl, hc, hm, ha, hcell⟩ := h
  have HC := (show Hid _ from hcell); clear hcell
  have HA := (show Hid _ from ha); clear ha
  unfold maxLen at hm
  go_enter Try.func84, Try.ntmps84
  go_wp2_with fail
  go_loopw [8] (fun i wr => ∃ j : Nat, i = .int .i64 j ∧ j ≤ l.length ∧ Hid (∀ i (hi : i < l.length), i < j → ¬ l[i] = x) ∧ wr = w) (fun i _ => l.length - (intOf i).toNat)
  case atStart => exact ⟨0, rfl, Nat.zero_le _, fun i hi h0 => absurd h0 (Nat.not_lt_zero _), rfl⟩
  case round =>
    obtain ⟨j, rfl, hj, HJ, rfl⟩ := hrel
    by_cases hjl : j < l.length
    · obtain ⟨rfl, _⟩ := HA.out (by omega)
      have c0 := HC.out j hjl
      by_cases he : l[j] = x
      · have HF := (show Hid (hasI l x = true) from by show hasI l x = true; unfold hasI; exact decide_eq_true (he ▸ List.getElem_mem hjl))
        rw [he] at c0
        clear he
        go_wp2_with fail
        go_ret
        exact ⟨⟨(j : Int), rfl, by rw [HF.out]; simp⟩, rfl⟩
      · have HN := (show Hid (∀ i (hi : i < l.length), i < j + 1 → ¬ l[i] = x) from fun i hi hij => by
          by_cases e : i = j
          · subst e; exact he
          · exact HJ.out i hi (by omega))
        have hq : (x == l[j]) = false := by simp; exact fun e => he e.symm
        generalize l[j] = y at *
        clear he
        go_wp2_with fail
        exact ⟨⟨j + 1, by go_num, by omega, HN, trivial⟩, by simp [intOf]; omega⟩
    · have HF := (show Hid (hasI l x = false) from by
        show hasI l x = false
        unfold hasI
        refine decide_eq_false (fun h => ?_)
        obtain ⟨i, hi, e⟩ := List.mem_iff_getElem.1 h
        exact HJ.out i hi (by omega) e)
      go_wp2_with fail
      go_ret
      exact ⟨⟨-1, rfl, by rw [HF.out]; rfl⟩, rfl⟩
theorem contains58 {S : Nat → Prop} (l : List Int) (v : Value) (x : Int) (w : World) (h : Ints w S l v) :
    Calls Try.prog 42 #[v, .int .i64 x] w fun e w' => e = .returned (.bool (hasI l x)) ∧ w' = w := by
  have HI := (show Hid _ from index90 l v x w h)
  obtain ⟨a, cap, b, off, rfl, hc, hm, ha, hcell⟩ := h
  clear hcell ha
  go_enter Try.func42, Try.ntmps42
  go_wp2_with fail
  refine Calls.mono HI.out ?_
  rintro e w1 ⟨⟨r, rfl, hr⟩, rfl⟩
  go_wp2_with fail
  go_ret
  exact ⟨ret_bool (by simp), rfl⟩
set_option maxHeartbeats 3200000 in
theorem led86 {S S' : Nat → Prop} (es : List DSEdge) (v1 : Value) (P : List Int) (pv : Value) (kd : Int) (p : Nat) (w : World) (hes : SEdgeR w S es v1) (hP : Ints w S' P pv) (k1 : w.cell? ⟨p, 1, none⟩ = some v1) (hl : es.length ≤ 120) :
    Calls Try.prog 89 #[.pointer (some ⟨p, 0, none⟩), pv, .int .i64 kd] w (InA (led es (hasI P) kd es.length) w) := by
  have HCT := (show Hid (∀ (w' : World) (x : Int), Below w.heap.size w w' → Calls Try.prog 42 #[pv, .int .i64 x] w' fun e w'' => e = .returned (.bool (hasI P x)) ∧ w'' = w') from fun w' x hb => contains58 P pv x w' (hP.still hb))
  obtain ⟨a0, cap0, _, _, rfl, _⟩ := hP
  obtain ⟨a1, p1, c, off, rfl, hc, hm, ha, hcell⟩ := hes
  have HC := (show Hid _ from hcell); clear hcell
  have HA := (show Hid _ from ha); clear ha
  unfold maxLen at hm
  obtain ⟨i3, hi3, hzz⟩ := Option.map_eq_some_iff.1 info3g
  simp only [Prod.mk.injEq] at hzz
  obtain ⟨hz0, hz1, hz2⟩ := hzz
  have HDL := (show Hid (∀ j, (led es (hasI P) kd j).length ≤ j) from led_le es (hasI P) kd)
  have HST := (show Hid (w.ownsRow w.heap.size 3 1 (.slice none (led es (hasI P) kd 0).length 0) (led es (hasI P) kd 0).length (iv (led es (hasI P) kd 0))) from ownNil _ _ _ _)
  go_enter Try.func89, Try.ntmps89
  go_wp2_with fail
  go_loopw [7, 16] (fun u i wr => ∃ (j : Nat) (a : Option Addr) (cp : Nat), i = .int .i64 j ∧ j ≤ es.length ∧ u = .slice a (led es (hasI P) kd j).length cp ∧ Hid (Below w.heap.size w wr ∧ wr.ownsRow w.heap.size 3 1 (.slice a (led es (hasI P) kd j).length cp) (led es (hasI P) kd j).length (iv (led es (hasI P) kd j)))) (fun _ i _ => es.length - (intOf i).toNat)
  case atStart => exact ⟨0, none, 0, rfl, Nat.zero_le _, rfl, Below.refl _ _, HST.out⟩
  case round =>
    obtain ⟨j, ua, cp, rfl, hj, rfl, HI⟩ := hrel
    clear HST k1
    by_cases hjl : j < es.length
    · obtain ⟨rfl, _⟩ := HA.out (by omega)
      obtain ⟨c0, c1, c2⟩ := HC.out j hjl
      rw [← HI.out.1.cell (lt_of_cell c0)] at c0
      rw [← HI.out.1.cell (lt_of_cell c1)] at c1
      rw [← HI.out.1.cell (lt_of_cell c2)] at c2
      have HYES := (show Hid ((es[j].kind == kd && hasI P es[j].from_) = true → led es (hasI P) kd (j + 1) = led es (hasI P) kd j ++ [es[j].to_]) from fun h => led_yes hjl h)
      have HNO := (show Hid ((es[j].kind == kd && hasI P es[j].from_) = false → led es (hasI P) kd (j + 1) = led es (hasI P) kd j) from fun h => led_no hjl h)
      generalize es[j].from_ = ef at *
      generalize es[j].to_ = et at *
      generalize es[j].kind = ek at *
      have HB1 := (show Hid (Below w.heap.size w (wr.alloc (.cells #[.int .i64 ef, .int .i64 et, .int .i64 ek] 74))) from HI.out.1.alloc HI.out.1.size _)
      have HO0 := (show Hid ((wr.alloc (.cells #[.int .i64 ef, .int .i64 et, .int .i64 ek] 74)).ownsRow w.heap.size 3 1 (.slice ua (led es (hasI P) kd j).length cp) (led es (hasI P) kd j).length (iv (led es (hasI P) kd j))) from ownBel (C := 0) HI.out.2 (bel_alloc _ _))
      have HCX := (show Hid (Calls Try.prog 42 #[.slice a0 P.length cap0, .int .i64 ef] (wr.alloc (.cells #[.int .i64 ef, .int .i64 et, .int .i64 ek] 74)) fun e w'' => e = .returned (.bool (hasI P ef)) ∧ w'' = (wr.alloc (.cells #[.int .i64 ef, .int .i64 et, .int .i64 ek] 74))) from HCT.out (wr.alloc (.cells #[.int .i64 ef, .int .i64 et, .int .i64 ek] 74)) ef HB1.out)
      by_cases he : ek = kd
      case neg =>
        have hk : (ek == kd) = false := by simpa using he
        have HF := (show Hid _ from HNO.out (by rw [hk]; rfl))
        clear he
        go_wp2_with fail
        rw [← HF.out]
        exact ⟨⟨j + 1, ua, cp, by go_num, by omega, rfl, by rw [HF.out]; exact ⟨HB1.out, HO0.out⟩⟩, by simp [intOf]; omega⟩
      case pos =>
        have hk : (ek == kd) = true := by simpa using he
        clear he
        generalize hH : hasI P ef = HH at *
        clear hH
        go_wp2_with fail
        refine Calls.mono HCX.out ?_
        rintro e w2 ⟨rfl, rfl⟩
        cases HH
        case false =>
          have HF := (show Hid _ from HNO.out (by rw [hk]; rfl))
          go_wp2_with fail
          rw [← HF.out]
          exact ⟨⟨j + 1, ua, cp, by go_num, by omega, rfl, by rw [HF.out]; exact ⟨HB1.out, HO0.out⟩⟩, by simp [intOf]; omega⟩
        case true =>
          have HF := (show Hid _ from HYES.out (by rw [hk]; rfl))
          have hba := bel_alloc (wr.alloc (.cells #[.int .i64 ef, .int .i64 et, .int .i64 ek] 74)) (.cells #[.int .i64 et] 3)
          have HO1 := (show Hid _ from ownBel (C := 0) HO0.out hba)
          have HB2 := (show Hid (Below w.heap.size w ((wr.alloc (.cells #[.int .i64 ef, .int .i64 et, .int .i64 ek] 74)).alloc (.cells #[.int .i64 et] 3))) from HB1.out.alloc HB1.out.size _)
          have hNN := HDL.out j
          have HOB := (show Hid (∀ k, (Value.slice ua (led es (hasI P) kd j).length cp).ownBlock = some k → w.heap.size ≤ k) from fun k hk => (World.ownsRow.lt HI.out.2 k hk).1)
          generalize hNl : (led es (hasI P) kd j).length = NN at *
          have HNl := (show Hid _ from hNl); clear hNl hba
          go_wp2_with (at_builtin; refine wpList_append_lies _ rfl (.tmp 30) (.tmp 33) 34 rfl w.heap.size 3 i3 _ 1 8 Try.underlying34 hi3 hz0 hz1 hz2 rfl (by decide) _ NN _ rfl HO1.out ⟨wr.heap.size + 1, 0, none⟩ 1 1 [.int .i64 et] rfl rfl ?c1 ?c2 (by decide) ?c3 ?c5 ?c4 _ rfl ?nx)
          case c1 =>
            intro q u hu
            cases q with
            | zero => simp at hu; subst hu; simp [Addr.add, go_sem]
            | succ q => simp at hu
          case c2 => intro u hu; simp at hu; subst hu; rfl
          case c3 => unfold maxLen; omega
          case c5 => omega
          case c4 => have := HB2.out.size; exact this
          case nx =>
            intro g7 cap7 w7 hown7 hgr7 hat7 hlt7
            have HX := (show Hid (Below w.heap.size w w7 ∧ w7.ownsRow w.heap.size 3 1 (.slice (some ⟨g7, 0, none⟩) (NN + 1) cap7) (led es (hasI P) kd (j + 1)).length (iv (led es (hasI P) kd (j + 1)))) from by
              refine ⟨HB2.out.grown hgr7 HB2.out.size HOB.out, ?_⟩
              rw [HF.out, List.length_append, HNl.out]
              simpa [iv] using hown7)
            have HLN := (show Hid ((led es (hasI P) kd (j + 1)).length = NN + 1) from by show _ = _; rw [HF.out, List.length_append, HNl.out]; rfl)
            clear hown7 hgr7 hat7 hlt7 HB2 HO1 HO0 HCX
            go_wp2_with fail
            exact ⟨⟨j + 1, _, _, by go_num, by omega, by rw [HLN.out], by rw [HLN.out]; have := HX; rw [HLN.out] at this; exact this⟩, by simp [intOf]; omega⟩
    · obtain rfl : j = es.length := by omega
      go_wp2_with fail
      go_ret
      exact ⟨_, _, rfl, HI.out.1, HI.out.2⟩
set_option maxHeartbeats 3200000 in
theorem decl87 {S S' : Nat → Prop} (ds : List DSpot) (v2 : Value) (P : List Int) (pv : Value) (nm : ByteArray) (p : Nat) (w : World) (hds : SpotR w S ds v2) (hP : Ints w S' P pv) (k2 : w.cell? ⟨p, 2, none⟩ = some v2) (hl : ds.length ≤ 120) :
    Calls Try.prog 90 #[.pointer (some ⟨p, 0, none⟩), .string nm, pv] w (InA (dcl ds nm (hasI P) ds.length) w) := by
  have HCT := (show Hid (∀ (w' : World) (x : Int), Below w.heap.size w w' → Calls Try.prog 42 #[pv, .int .i64 x] w' fun e w'' => e = .returned (.bool (hasI P x)) ∧ w'' = w') from fun w' x hb => contains58 P pv x w' (hP.still hb))
  obtain ⟨a0, cap0, _, _, rfl, _⟩ := hP
  obtain ⟨a2, p2, c, off, rfl, hc, hm, ha, hcell⟩ := hds
  have HC := (show Hid _ from hcell); clear hcell
  have HA := (show Hid _ from ha); clear ha
  unfold maxLen at hm
  obtain ⟨i3, hi3, hzz⟩ := Option.map_eq_some_iff.1 info3g
  simp only [Prod.mk.injEq] at hzz
  obtain ⟨hz0, hz1, hz2⟩ := hzz
  have HDL := (show Hid (∀ j, (dcl ds nm (hasI P) j).length ≤ j) from dcl_le ds nm (hasI P))
  have HST := (show Hid (w.ownsRow w.heap.size 3 1 (.slice none (dcl ds nm (hasI P) 0).length 0) (dcl ds nm (hasI P) 0).length (iv (dcl ds nm (hasI P) 0))) from ownNil _ _ _ _)
  go_enter Try.func90, Try.ntmps90
  go_wp2_with fail
  go_loopw [7, 16] (fun u i wr => ∃ (j : Nat) (a : Option Addr) (cp : Nat), i = .int .i64 j ∧ j ≤ ds.length ∧ u = .slice a (dcl ds nm (hasI P) j).length cp ∧ Hid (Below w.heap.size w wr ∧ wr.ownsRow w.heap.size 3 1 (.slice a (dcl ds nm (hasI P) j).length cp) (dcl ds nm (hasI P) j).length (iv (dcl ds nm (hasI P) j)))) (fun _ i _ => ds.length - (intOf i).toNat)
  case atStart => exact ⟨0, none, 0, rfl, Nat.zero_le _, rfl, Below.refl _ _, HST.out⟩
  case round =>
    obtain ⟨j, ua, cp, rfl, hj, rfl, HI⟩ := hrel
    clear HST k2
    by_cases hjl : j < ds.length
    · obtain ⟨rfl, _⟩ := HA.out (by omega)
      obtain ⟨c0, c1, _⟩ := HC.out j hjl
      rw [← HI.out.1.cell (lt_of_cell c0)] at c0
      rw [← HI.out.1.cell (lt_of_cell c1)] at c1
      have HDB := (show Hid (dcB ds nm (hasI P) j = (hasI P ds[j].scope && eqS ds[j].name nm)) from dcB_at hjl)
      generalize ds[j].scope = sc at *
      generalize ds[j].name = kn at *
      have HB1 := (show Hid (Below w.heap.size w (wr.alloc (.cells #[.int .i64 sc, .string kn] 33))) from HI.out.1.alloc HI.out.1.size _)
      have HO0 := (show Hid ((wr.alloc (.cells #[.int .i64 sc, .string kn] 33)).ownsRow w.heap.size 3 1 (.slice ua (dcl ds nm (hasI P) j).length cp) (dcl ds nm (hasI P) j).length (iv (dcl ds nm (hasI P) j))) from ownBel (C := 0) HI.out.2 (bel_alloc _ _))
      have HCX := (show Hid (Calls Try.prog 42 #[.slice a0 P.length cap0, .int .i64 sc] (wr.alloc (.cells #[.int .i64 sc, .string kn] 33)) fun e w'' => e = .returned (.bool (hasI P sc)) ∧ w'' = (wr.alloc (.cells #[.int .i64 sc, .string kn] 33))) from HCT.out (wr.alloc (.cells #[.int .i64 sc, .string kn] 33)) sc HB1.out)
      by_cases hE : kn = nm
      case neg =>
        have HF := (show Hid _ from dcl_no (show dcB ds nm (hasI P) j = false from by rw [HDB.out, eqS_no hE]; simp))
        have hd := neBytes hE
        clear hE
        go_wp2_with fail
        rw [← HF.out]
        exact ⟨⟨j + 1, ua, cp, by go_num, by omega, rfl, by rw [HF.out]; exact ⟨HB1.out, HO0.out⟩⟩, by simp [intOf]; omega⟩
      case pos =>
        have HES := (show Hid (eqS kn nm = true) from eqS_yes hE)
        have hd : (kn.toList == nm.toList) = true := by rw [hE]; simp
        clear hE
        generalize hH : hasI P sc = HH at *
        clear hH
        go_wp2_with fail
        refine Calls.mono HCX.out ?_
        rintro e w2 ⟨rfl, rfl⟩
        cases HH
        case false =>
          have HF := (show Hid _ from dcl_no (show dcB ds nm (hasI P) j = false from HDB.out))
          go_wp2_with fail
          rw [← HF.out]
          exact ⟨⟨j + 1, ua, cp, by go_num, by omega, rfl, by rw [HF.out]; exact ⟨HB1.out, HO0.out⟩⟩, by simp [intOf]; omega⟩
        case true =>
          have HF := (show Hid _ from dcl_yes (show dcB ds nm (hasI P) j = true from by rw [HDB.out, HES.out]; rfl))
          have hba := bel_alloc (wr.alloc (.cells #[.int .i64 sc, .string kn] 33)) (.cells #[.int .i64 (j : Int)] 3)
          have HO1 := (show Hid _ from ownBel (C := 0) HO0.out hba)
          have HB2 := (show Hid (Below w.heap.size w ((wr.alloc (.cells #[.int .i64 sc, .string kn] 33)).alloc (.cells #[.int .i64 (j : Int)] 3))) from HB1.out.alloc HB1.out.size _)
          have hNN := HDL.out j
          have HOB := (show Hid (∀ k, (Value.slice ua (dcl ds nm (hasI P) j).length cp).ownBlock = some k → w.heap.size ≤ k) from fun k hk => (World.ownsRow.lt HI.out.2 k hk).1)
          generalize hNl : (dcl ds nm (hasI P) j).length = NN at *
          have HNl := (show Hid _ from hNl); clear hNl hba
          go_wp2_with (at_builtin; refine wpList_append_lies _ rfl (.tmp 31) (.tmp 33) 34 rfl w.heap.size 3 i3 _ 1 8 Try.underlying34 hi3 hz0 hz1 hz2 rfl (by decide) _ NN _ rfl HO1.out ⟨wr.heap.size + 1, 0, none⟩ 1 1 [.int .i64 (j : Int)] rfl rfl ?c1 ?c2 (by decide) ?c3 ?c5 ?c4 _ rfl ?nx)
          case c1 =>
            intro q u hu
            cases q with
            | zero => simp at hu; subst hu; simp [Addr.add, go_sem]
            | succ q => simp at hu
          case c2 => intro u hu; simp at hu; subst hu; rfl
          case c3 => unfold maxLen; omega
          case c5 => omega
          case c4 => have := HB2.out.size; exact this
          case nx =>
            intro g7 cap7 w7 hown7 hgr7 hat7 hlt7
            have HX := (show Hid (Below w.heap.size w w7 ∧ w7.ownsRow w.heap.size 3 1 (.slice (some ⟨g7, 0, none⟩) (NN + 1) cap7) (dcl ds nm (hasI P) (j + 1)).length (iv (dcl ds nm (hasI P) (j + 1)))) from by
              refine ⟨HB2.out.grown hgr7 HB2.out.size HOB.out, ?_⟩
              rw [HF.out, List.length_append, HNl.out]
              simpa [iv] using hown7)
            have HLN := (show Hid ((dcl ds nm (hasI P) (j + 1)).length = NN + 1) from by show _ = _; rw [HF.out, List.length_append, HNl.out]; rfl)
            clear hown7 hgr7 hat7 hlt7 HB2 HO1 HO0 HCX
            go_wp2_with fail
            exact ⟨⟨j + 1, _, _, by go_num, by omega, by rw [HLN.out], by rw [HLN.out]; have := HX; rw [HLN.out] at this; exact this⟩, by simp [intOf]; omega⟩
    · obtain rfl : j = ds.length := by omega
      go_wp2_with fail
      go_ret
      exact ⟨_, _, rfl, HI.out.1, HI.out.2⟩
end Go.Proofs.Ytledclkmeikgdaa
