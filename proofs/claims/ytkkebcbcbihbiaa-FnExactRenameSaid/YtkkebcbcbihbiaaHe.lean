import Derived.Test.YtkkebcbcbihbiaaHd
/-! Unused: what is answered; the program. -/
namespace Go.Proofs.Ytkkebcbcbihbiaa
open Go.RowKit Go.Deep
set_option linter.unusedVariables false
set_option maxRecDepth 100000
set_option linter.unusedSimpArgs false

/-- Whether some reference stands for it. -/
def usd (t : DSg) (d : Int) : Bool := hasI ((t.refs.map (rsv t)).flatten) d
def unL (t : DSg) (j : Nat) : List Int := ((List.range j).filter fun i => !usd t ((i : Nat) : Int)).map fun i => ((i : Nat) : Int)
def unR (t : DSg) : List Int × Int := if sgB t = true then (unL t t.decls.length, 0) else ([], 1)
theorem unL_zero (t : DSg) : unL t 0 = [] := rfl
theorem unL_yes {t : DSg} {j : Nat} (h : usd t (j : Int) = false) : unL t (j + 1) = unL t j ++ [(j : Int)] := by
  unfold unL; rw [List.range_succ, List.filter_append, List.map_append]; simp [h]
theorem unL_no {t : DSg} {j : Nat} (h : usd t (j : Int) = true) : unL t (j + 1) = unL t j := by
  unfold unL; rw [List.range_succ, List.filter_append, List.map_append]; simp [h]
theorem unL_le (t : DSg) (j : Nat) : (unL t j).length ≤ j := by
  unfold unL; rw [List.length_map]
  have := List.length_filter_le (fun i => !usd t ((i : Nat) : Int)) (List.range j)
  rwa [List.length_range] at this
theorem unR_bad {t : DSg} (h : sgB t = false) : unR t = ([], 1) := by unfold unR; rw [if_neg (by rw [h]; simp)]
theorem unR_ok {t : DSg} (h : sgB t = true) : unR t = (unL t t.decls.length, 0) := by unfold unR; rw [if_pos h]
theorem unR_le (t : DSg) : (unR t).1.length ≤ 120 := by
  unfold unR
  split
  · rename_i h
    obtain ⟨_, _, _, _, _, f4, _⟩ := sg_facts h
    exact Nat.le_trans (unL_le _ _) f4
  · simp
set_option maxHeartbeats 3200000 in
theorem iUn21 {S : Nat → Prop} (t : DSg) (v1 v2 v3 : Value) (w : World) (h : DSgL w S t v1 v2 v3) :
    Calls Try.prog 21 #[.agg #[.int .i64 t.scopes, v1, v2, v3]] w (ReA (unR t) w) := by
  have HOK := (show Hid (∀ w', Below w.heap.size w w' → Calls Try.prog 12 #[.agg #[.int .i64 t.scopes, v1, v2, v3]] w' fun e w'' => e = .returned (.bool (sgB t)) ∧ Below w'.heap.size w' w'') from fun w' hb => iSg12 t v1 v2 v3 w' (h.still hb))
  have HAL := (show Hid (∀ w', Below w.heap.size w w' → sgB t = true → Calls Try.prog 57 #[.agg #[.int .i64 t.scopes, v1, v2, v3]] w' (RaA (t.refs.map (rsv t)) w')) from fun w' hb hok => all57 t v1 v2 v3 w' (h.still hb) hok)
  obtain ⟨a1, p1, rfl, _⟩ := h.edges.form
  obtain ⟨a2, p2, rfl, hm2⟩ := h.decls.form
  obtain ⟨a3, p3, rfl, _⟩ := h.refs.form
  clear h
  have HB0 := (show Hid (Below w.heap.size w (w.alloc (.cells #[.int .i64 t.scopes, .slice a1 t.edges.length p1, .slice a2 t.decls.length p2, .slice a3 t.refs.length p3] 31))) from bel_alloc _ _)
  have HG0 := (show Hid (G4 w.heap.size t.scopes (.slice a1 t.edges.length p1) (.slice a2 t.decls.length p2) (.slice a3 t.refs.length p3) (w.alloc (.cells #[.int .i64 t.scopes, .slice a1 t.edges.length p1, .slice a2 t.decls.length p2, .slice a3 t.refs.length p3] 31))) from G4.new w t.scopes (.slice a1 t.edges.length p1) (.slice a2 t.decls.length p2) (.slice a3 t.refs.length p3))
  cases hok : sgB t
  case false =>
    rw [unR_bad hok]
    rw [hok] at HOK
    clear HAL hok
    go_enter Try.func21, Try.ntmps21
    go_wp2_with fail
    refine Calls.mono (HOK.out _ HB0.out) ?_
    rintro e w1 ⟨rfl, hb1⟩
    have HB1 := (show Hid _ from bel_trans HB0.out hb1); clear hb1
    go_wp2_with fail
    go_ret2
    exact ⟨_, _, rfl, HB1.out, ownNil _ _ _ _⟩
  case true =>
    rw [unR_ok hok]
    rw [hok] at HOK
    have HKT := (show Hid _ from hok)
    have f45 : t.decls.length ≤ 120 ∧ t.refs.length ≤ 120 := by
      obtain ⟨_, _, _, _, _, f4, f5, _⟩ := sg_facts hok
      exact ⟨f4, f5⟩
    obtain ⟨f4, f5⟩ := f45
    have HLS := (show Hid (∀ l ∈ t.refs.map (rsv t), l.length ≤ 120) from fun l hl => by
      obtain ⟨r, _, rfl⟩ := List.mem_map.1 hl
      exact Nat.le_trans (rs_leH _ _ _ _ _) f4)
    have HLL := (show Hid ((t.refs.map (rsv t)).length ≤ 120) from by show _ ≤ _; rw [List.length_map]; exact f5)
    have HUS := (show Hid (∀ d, hasI ((t.refs.map (rsv t)).flatten) d = usd t d) from fun d => rfl)
    have HC1 := (show Hid _ from HOK.out _ HB0.out)
    clear hok
    generalize hLS : t.refs.map (rsv t) = LS at *
    clear hLS
    obtain ⟨i3, hi3, hzz⟩ := Option.map_eq_some_iff.1 info3g
    simp only [Prod.mk.injEq] at hzz
    obtain ⟨hz0, hz1, hz2⟩ := hzz
    have HDL := (show Hid (∀ j, (unL t j).length ≤ j) from unL_le t)
    go_enter Try.func21, Try.ntmps21
    go_wp2_with fail
    refine Calls.mono HC1.out ?_
    rintro e w2 ⟨rfl, hb1⟩
    have HB1 := (show Hid (Below w.heap.size w w2) from bel_trans HB0.out hb1)
    have HG1 := (show Hid (G4 w.heap.size t.scopes (.slice a1 t.edges.length p1) (.slice a2 t.decls.length p2) (.slice a3 t.refs.length p3) w2) from HG0.out.still hb1)
    clear hb1 HC1
    obtain ⟨k0, k1, k2, k3⟩ := HG1.out
    have HC2 := (show Hid _ from HAL.out w2 HB1.out HKT.out)
    go_wp2_with fail
    refine Calls.mono HC2.out ?_
    rintro e w3 ⟨ra, rc, rfl, hb3, hr3⟩
    have HB3 := (show Hid (Below w.heap.size w w3) from bel_trans HB1.out hb3)
    have HG3 := (show Hid (G4 w.heap.size t.scopes (.slice a1 t.edges.length p1) (.slice a2 t.decls.length p2) (.slice a3 t.refs.length p3) w3) from HG1.out.still hb3)
    have HC3 := (show Hid _ from concat56 LS ra rc w3 hr3 HLL.out HLS.out)
    clear hb3 hr3 HC2 k0 k1 k2 k3
    go_wp2_with fail
    refine Calls.mono HC3.out ?_
    rintro e w4 ⟨ua, uc, rfl, hb4, ho4⟩
    have HB4 := (show Hid (Below w.heap.size w w4) from bel_trans HB3.out hb4)
    obtain ⟨k0, k1, k2, k3⟩ := HG3.out.still hb4
    have HCT := (show Hid (∀ (w' : World) (x : Int), Below w4.heap.size w4 w' → Calls Try.prog 58 #[.slice ua LS.flatten.length uc, .int .i64 x] w' fun e w'' => e = .returned (.bool (usd t x)) ∧ w'' = w') from fun w' x hb => by rw [← HUS.out]; exact contains58 _ _ x w' ((ownInts ho4).still hb))
    clear hb4 ho4 HC3
    generalize LS.flatten.length = FN at *
    have HST := (show Hid (w4.ownsRow w4.heap.size 3 1 (.slice none (unL t 0).length 0) (unL t 0).length (iv (unL t 0))) from ownNil _ _ _ _)
    go_wp2_with fail
    clear k0 k1 k2 k3
    go_loopw [5, 16] (fun u i wr => ∃ (j : Nat) (a : Option Addr) (cp : Nat), i = .int .i64 j ∧ j ≤ t.decls.length ∧ u = .slice a (unL t j).length cp ∧ Hid (Below w4.heap.size w4 wr ∧ wr.ownsRow w4.heap.size 3 1 (.slice a (unL t j).length cp) (unL t j).length (iv (unL t j)))) (fun _ i _ => t.decls.length - (intOf i).toNat)
    case atStart => exact ⟨0, none, 0, rfl, Nat.zero_le _, rfl, Below.refl _ _, HST.out⟩
    case round =>
      obtain ⟨j, xa, xc, rfl, hj, rfl, HI⟩ := hrel
      clear HST
      by_cases hjl : j < t.decls.length
      · have HCX := (show Hid (Calls Try.prog 58 #[.slice ua FN uc, .int .i64 (j : Int)] wr fun e w'' => e = .returned (.bool (usd t (j : Int))) ∧ w'' = wr) from HCT.out wr (j : Int) HI.out.1)
        have HYES := (show Hid _ from fun h => unL_yes (t := t) (j := j) h)
        have HNO := (show Hid _ from fun h => unL_no (t := t) (j := j) h)
        generalize usd t (j : Int) = UB at *
        go_wp2_with fail
        refine Calls.mono HCX.out ?_
        rintro e w5 ⟨rfl, rfl⟩
        cases UB
        case true =>
          have HF := (show Hid _ from HNO.out rfl)
          go_wp2_with fail
          rw [← HF.out]
          exact ⟨⟨j + 1, xa, xc, by go_num, by omega, rfl, by rw [HF.out]; exact HI⟩, by simp [intOf]; omega⟩
        case false =>
          have HF := (show Hid _ from HYES.out rfl)
          have hba := bel_alloc w5 (.cells #[.int .i64 (j : Int)] 3)
          have HO1 := (show Hid _ from ownBel (C := 0) HI.out.2 hba)
          have HB2 := (show Hid (Below w4.heap.size w4 (w5.alloc (.cells #[.int .i64 (j : Int)] 3))) from HI.out.1.alloc HI.out.1.size _)
          have hNN := HDL.out j
          have HOB := (show Hid (∀ k, (Value.slice xa (unL t j).length xc).ownBlock = some k → w4.heap.size ≤ k) from fun k hk => (World.ownsRow.lt HI.out.2 k hk).1)
          generalize hNl : (unL t j).length = NN at *
          have HNl := (show Hid _ from hNl); clear hNl hba
          go_wp2_with (at_builtin; refine wpList_append_lies _ rfl (.tmp 23) (.tmp 25) 35 rfl w4.heap.size 3 i3 _ 1 8 Try.underlying35 hi3 hz0 hz1 hz2 rfl (by decide) _ NN _ rfl HO1.out ⟨w5.heap.size, 0, none⟩ 1 1 [.int .i64 (j : Int)] rfl rfl ?c1 ?c2 (by decide) ?c3 ?c5 ?c4 _ rfl ?nx)
          case c1 =>
            intro q u hu
            cases q with
            | zero => simp at hu; subst hu; simp [Addr.add, go_sem]
            | succ q => simp at hu
          case c2 => intro u hu; simp at hu; subst hu; rfl
          case c3 => unfold maxLen; omega
          case c5 => omega
          case c4 => have := HB2.out.size; exact this
          case nx =>
            intro g7 cap7 w7 hown7 hgr7 hat7 hlt7
            have HX := (show Hid (Below w4.heap.size w4 w7 ∧ w7.ownsRow w4.heap.size 3 1 (.slice (some ⟨g7, 0, none⟩) (NN + 1) cap7) (unL t (j + 1)).length (iv (unL t (j + 1)))) from by
              refine ⟨HB2.out.grown hgr7 HB2.out.size HOB.out, ?_⟩
              rw [HF.out, List.length_append, HNl.out]
              simpa [iv] using hown7)
            have HLN := (show Hid ((unL t (j + 1)).length = NN + 1) from by show _ = _; rw [HF.out, List.length_append, HNl.out]; rfl)
            clear hown7 hgr7 hat7 hlt7 HB2 HO1 HCX
            go_wp2_with fail
            exact ⟨⟨j + 1, _, _, by go_num, by omega, by rw [HLN.out], by rw [HLN.out]; have := HX; rw [HLN.out] at this; exact this⟩, by simp [intOf]; omega⟩
      · obtain rfl : j = t.decls.length := by omega
        go_wp2_with fail
        go_ret2
        exact ⟨_, _, rfl, bel_trans HB4.out HI.out.1, ownLow HI.out.2 HB4.out.size⟩
end Go.Proofs.Ytkkebcbcbihbiaa
