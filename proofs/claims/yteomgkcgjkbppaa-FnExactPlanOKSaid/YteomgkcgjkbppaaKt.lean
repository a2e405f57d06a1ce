import Derived.Test.YteomgkcgjkbppaaKs
/-! The program's reader of plans: a prim. -/
namespace Go.Proofs.Yteomgkcgjkbppaa
open Go.RowKit Go.Deep Go.Lib Go.ChangeShapes Go.WideShapes
set_option linter.unusedVariables false
set_option maxRecDepth 100000
set_option linter.unusedSimpArgs false

theorem behind125a (x : ByteArray) (p : Nat) (w : World) (h : (eqS x idN || eqS x failN) = true) :
    Calls Try.prog 126 #[.pointer (some ⟨p, 0, none⟩), .string x] w fun e w' => (∃ (T : TypeId) (u : Value), e = .returned (.iface T u)) ∧ w' = w := by
  have g0 := eqS_id x
  have g1 := eqS_fail x
  cases hA : eqS x idN
  · rw [hA, Bool.false_or] at h
    rw [hA] at g0
    rw [h] at g1
    clear hA h
    go_enter Try.func126, Try.ntmps126
    go_wp2_with fail
    go_ret
    exact ⟨⟨_, _, rfl⟩, rfl⟩
  · rw [hA] at g0
    clear hA h g1
    go_enter Try.func126, Try.ntmps126
    go_wp2_with fail
    go_ret
    exact ⟨⟨_, _, rfl⟩, rfl⟩
set_option maxHeartbeats 1600000 in
theorem behind125b {w0 : World} {p : Nat} {rv : Value} {s : ByteArray} {rn : ByteArray → Bool} {f : Nat} (x : ByteArray) (ih : PdC w0 p rv s rn 121 3 f) (i : Nat) (w : World) (R : Bool × Nat) (hbx : PB w p s i rv) (hi : i ≤ s.size) (hb0 : Below w0.heap.size w0 w) (hrd : rd s rn f 3 i = some R) (h1 : eqS x idN = false) (h2 : eqS x failN = false) :
    Calls Try.prog 126 #[.pointer (some ⟨p, 0, none⟩), .string x] w (PdA p s rv R w) := by
  have HCL := (show Hid _ from ih i w R hbx hi hb0 hrd)
  unfold PdA at HCL
  have g0 := eqS_id x
  have g1 := eqS_fail x
  have g2 := eqS_w2 x
  have g3 := eqS_w3 x
  rw [h1] at g0
  rw [h2] at g1
  have HYES := (show Hid (∀ (T : TypeId) (u : Value) (j : Nat) (w' : World), R = (true, j) → But p w w' → PB w' p s j rv → j ≤ s.size → PdA p s rv R w (.returned (.iface T u)) w') from fun T u j w' h1 h2 h3 h4 => pd_yes h1 h2 h3 h4)
  have HNO := (show Hid (∀ (j : Nat) (w' : World), R = (false, j) → But p w w' → PdA p s rv R w (.panicked [flt j]) w') from fun j w' h1 h2 => pd_no h1 h2)
  clear hbx hb0 ih hrd h1 h2
  cases e2 : eqS x (⟨#[97, 108, 108]⟩ : ByteArray)
  · cases e3 : eqS x (⟨#[111, 110, 101]⟩ : ByteArray)
    · rw [e2] at g2
      rw [e3] at g3
      clear e2 e3
      go_enter Try.func126, Try.ntmps126
      go_wp2_with fail
      refine Calls.mono HCL.out ?_
      rintro e w2 ⟨hbt2, h2, h2'⟩
      obtain ⟨b, j⟩ := R
      cases b with
      | false =>
        obtain rfl := h2' (by first | rfl | trivial)
        have HE := (show Hid (PdA p s rv (false, j) w (.panicked [flt j]) w2) from HNO.out _ w2 rfl hbt2)
        clear h2 h2' hbt2 HCL HYES HNO
        go_wp2_with fail
        exact ⟨rfl, HE.out⟩
      | true =>
        obtain ⟨T2, u2, rfl, hb2, hj⟩ := h2 (by first | rfl | trivial)
        have HE := (show Hid (∀ T u, PdA p s rv (true, j) w (.returned (.iface T u)) w2) from fun T u => HYES.out T u j w2 rfl hbt2 hb2 hj)
        clear h2 h2' hbt2 HCL HYES HNO hb2 hj
        go_wp2_with fail
        go_ret
        exact HE.out _ _
    · rw [e2] at g2
      rw [e3] at g3
      clear e2 e3
      go_enter Try.func126, Try.ntmps126
      go_wp2_with fail
      refine Calls.mono HCL.out ?_
      rintro e w2 ⟨hbt2, h2, h2'⟩
      obtain ⟨b, j⟩ := R
      cases b with
      | false =>
        obtain rfl := h2' (by first | rfl | trivial)
        have HE := (show Hid (PdA p s rv (false, j) w (.panicked [flt j]) w2) from HNO.out _ w2 rfl hbt2)
        clear h2 h2' hbt2 HCL HYES HNO
        go_wp2_with fail
        exact ⟨rfl, HE.out⟩
      | true =>
        obtain ⟨T2, u2, rfl, hb2, hj⟩ := h2 (by first | rfl | trivial)
        have HE := (show Hid (∀ T u, PdA p s rv (true, j) w (.returned (.iface T u)) w2) from fun T u => HYES.out T u j w2 rfl hbt2 hb2 hj)
        clear h2 h2' hbt2 HCL HYES HNO hb2 hj
        go_wp2_with fail
        go_ret
        exact HE.out _ _
  · rw [e2] at g2
    clear e2 g3
    go_enter Try.func126, Try.ntmps126
    go_wp2_with fail
    refine Calls.mono HCL.out ?_
    rintro e w2 ⟨hbt2, h2, h2'⟩
    obtain ⟨b, j⟩ := R
    cases b with
    | false =>
      obtain rfl := h2' (by first | rfl | trivial)
      have HE := (show Hid (PdA p s rv (false, j) w (.panicked [flt j]) w2) from HNO.out _ w2 rfl hbt2)
      clear h2 h2' hbt2 HCL HYES HNO
      go_wp2_with fail
      exact ⟨rfl, HE.out⟩
    | true =>
      obtain ⟨T2, u2, rfl, hb2, hj⟩ := h2 (by first | rfl | trivial)
      have HE := (show Hid (∀ T u, PdA p s rv (true, j) w (.returned (.iface T u)) w2) from fun T u => HYES.out T u j w2 rfl hbt2 hb2 hj)
      clear h2 h2' hbt2 HCL HYES HNO hb2 hj
      go_wp2_with fail
      go_ret
      exact HE.out _ _
theorem cell_other {w : World} {p q o : Nat} {v u : Value} (h : w.cell? ⟨q, 0, none⟩ = some v) (hn : q ≠ p) : ((w.setCell ⟨p, o, none⟩ u).drew).cell? ⟨q, 0, none⟩ = some v :=
  (But.cell (But.drewN (But.set p o w u) 1) hn h : _)
theorem fdw_no {rl : List Rw} {x : ByteArray} {i : Int} (h : FdW rl x i) (hn : hasS (nms rl) x = false) : i = -1 := by
  rcases h with ⟨rfl, _⟩ | ⟨j, rfl, hj, h1, h2⟩
  · rfl
  · exfalso
    have : hasS (nms rl) x = true := by
      unfold hasS nms
      rw [List.any_eq_true]
      exact ⟨rl[j].name, List.mem_map.2 ⟨rl[j], List.getElem_mem hj, rfl⟩, eqS_iff.2 h1⟩
    rw [hn] at this
    cases this
theorem fdw_yes {rl : List Rw} {x : ByteArray} {i : Int} (h : FdW rl x i) (hn : hasS (nms rl) x = true) : ∃ j : Nat, i = (j : Int) ∧ j < rl.length := by
  rcases h with ⟨rfl, h⟩ | ⟨j, rfl, hj, h1, h2⟩
  · rw [hn] at h
    cases h
  · exact ⟨j, rfl, hj⟩
theorem pw_no {x : ByteArray} (h : pwB x = false) : eqS x idN = false ∧ eqS x failN = false ∧ hasS pw7 x = false := by
  rw [pwB_eq, eqS_comm idN, eqS_comm failN] at h
  cases h1 : eqS x idN <;> cases h2 : eqS x failN <;> cases h3 : hasS pw7 x <;> simp [h1, h2, h3] at h ⊢
theorem pw_yes {x : ByteArray} (h : pwB x = true) (h1 : eqS x idN = false) (h2 : eqS x failN = false) : hasS pw7 x = true := by
  rw [pwB_eq, eqS_comm idN, eqS_comm failN, h1, h2] at h
  exact h
set_option maxHeartbeats 6400000 in
theorem prim118 {w0 : World} {p : Nat} {s : ByteArray} {rl : List Rw} {ra : Option Addr} {rc f : Nat} (hs : s.size ≤ 300) (hp : w0.heap.size ≤ p) (hrl : RLy w0 rl (.slice ra rl.length rc)) (ih : PdC w0 p (.slice ra rl.length rc) s (hasS (nms rl)) 121 3 f) : PdC w0 p (.slice ra rl.length rc) s (hasS (nms rl)) 119 0 (f + 1) := by
  intro i w R hbx hi hb0 hrd
  have hpl := hbx.lt
  have HS := (show Hid _ from sees113 s 40 i p _ w hbx hs)
  have HIH := (show Hid _ from ih)
  have HB0 := (show Hid _ from hb0)
  have HRL := (show Hid (RLy w0 rl (.slice ra rl.length rc)) from hrl)
  have HYES := (show Hid (∀ (T : TypeId) (u : Value) (j : Nat) (w' : World), R = (true, j) → But p w w' → PB w' p s j (.slice ra rl.length rc) → j ≤ s.size → PdA p s (.slice ra rl.length rc) R w (.returned (.iface T u)) w') from fun T u j w' h1 h2 h3 h4 => pd_yes h1 h2 h3 h4)
  have HNO := (show Hid (∀ (j : Nat) (w' : World), R = (false, j) → But p w w' → PdA p s (.slice ra rl.length rc) R w (.panicked [flt j]) w') from fun j w' h1 h2 => pd_no h1 h2)
  rw [rd] at hrd
  have HRD := (show Hid _ from hrd)
  clear hrd hbx hb0 ih hrl
  by_cases h40 : bt s i = 40
  case pos =>
    have HR := (show Hid (rd s (hasS (nms rl)) f 3 i = some R) from (by
      have := HRD.out
      rw [if_pos h40] at this
      exact this))
    rw [show decide (bt s i = ((40 : Nat) : Int)) = true from decide_eq_true h40] at HS
    clear HRD h40
    go_enter Try.func119, Try.ntmps119
    go_wp2_with fail
    refine Calls.mono HS.out ?_
    rintro e w1 ⟨rfl, hb1, ht1⟩
    have HCL := (show Hid _ from HIH.out i w1 R hb1 hi (But.below' ht1 HB0.out hp) HR.out)
    unfold PdA at HCL
    have HT := (show Hid (But p w w1) from ht1)
    clear hb1 ht1 HS HIH HR HRL
    go_wp2_with fail
    refine Calls.mono HCL.out ?_
    rintro e w2 ⟨hbt2, h2, h2'⟩
    obtain ⟨b, j⟩ := R
    cases b with
    | false =>
      obtain rfl := h2' (by first | rfl | trivial)
      have HE := (show Hid (PdA p s (.slice ra rl.length rc) (false, j) w (.panicked [flt j]) w2) from HNO.out _ w2 rfl (But.trans HT.out hbt2))
      clear h2 h2' hbt2 HCL HYES HNO
      go_wp2_with fail
      exact ⟨rfl, HE.out⟩
    | true =>
      obtain ⟨T2, u2, rfl, hb2, hj⟩ := h2 (by first | rfl | trivial)
      have HE := (show Hid (∀ T u, PdA p s (.slice ra rl.length rc) (true, j) w (.returned (.iface T u)) w2) from fun T u => HYES.out T u j w2 rfl (But.trans HT.out hbt2) hb2 hj)
      clear h2 h2' hbt2 HCL HYES HNO hb2 hj
      go_wp2_with fail
      go_ret
      exact HE.out _ _
  case neg =>
    rw [show decide (bt s i = ((40 : Nat) : Int)) = false from decide_eq_false h40] at HS
    have HRJ := (show Hid ((if (eqS (s.extract i (nd s i)) idN || (eqS (s.extract i (nd s i)) failN || hasS (nms rl) (s.extract i (nd s i)))) = true then some (true, sk s (nd s i)) else if hasS pw7 (s.extract i (nd s i)) = true then rd s (hasS (nms rl)) f 3 (sk s (nd s i)) else some (false, i)) = some R) from (by
      have := HRD.out
      rw [if_neg h40] at this
      exact this))
    clear HRD h40
    have hn1 : i ≤ nd s i := past_le nbB s i
    have hn2 : nd s i ≤ s.size := past_size (p := nbB) hi
    have hne := nd_ext (s := s) (i := i) hi
    have hxe : (s.extract i s.size).extract 0 (nd (s.extract i s.size) 0) = s.extract i (nd s i) := by
      rw [← ext_ext (s := s) (i := i) hn2, show nd s i - i = nd (s.extract i s.size) 0 by omega]
    have hkr : (nd (s.extract i s.size) 0 : Int) ≤ ((s.extract i s.size).size : Int) := by
      have := past_size (p := nbB) (s := s.extract i s.size) (i := 0) (Nat.zero_le _)
      have h2 : nd (s.extract i s.size) 0 ≤ (s.extract i s.size).size := this
      omega
    have HSZ := (show Hid (((nd s i : Nat) : Int) = (i : Int) + ((s.extract i (nd s i)).size : Int)) from (by
      show ((nd s i : Nat) : Int) = (i : Int) + ((s.extract i (nd s i)).size : Int)
      rw [ByteArray.size_extract]
      omega))
    have HSP := (show Hid (∀ wq : World, Calls Try.prog 122 #[.string (s.extract i s.size), .func (.func 123) #[] #[]] wq fun e w' => e = .returned (.int .i64 (nd (s.extract i s.size) 0 : Nat)) ∧ Below wq.heap.size wq w') from fun wq => span121 _ (by rw [ByteArray.size_extract]; unfold maxLen; omega) wq)
    have HN2 := (show Hid (sk s (nd s i) ≤ s.size) from past_size hn2)
    have hxz : (s.extract i (nd s i)).size ≤ 300 := by rw [ByteArray.size_extract]; omega
    generalize hk : nd (s.extract i s.size) 0 = k0 at *
    clear hk hne
    have hi0 : (0 : Int) ≤ (i : Int) := by omega
    have hi1 : (i : Int) ≤ (s.size : Int) := by omega
    have hk0 : (0 : Int) ≤ (k0 : Int) := by omega
    go_enter Try.func119, Try.ntmps119
    go_wp2_with fail
    refine Calls.mono HS.out ?_
    rintro e w1 ⟨rfl, hb1, ht1⟩
    have x0 : w1.cell? ⟨p, 0, none⟩ = some (.string s) := hb1.cell 0 (by simp)
    have x1 : w1.cell? ⟨p, 1, none⟩ = some (.int .i64 (i : Int)) := hb1.cell 1 (by simp)
    have HX1 := (show Hid _ from hb1)
    have HT1 := (show Hid (But p w w1) from ht1)
    clear hb1 ht1 HS
    go_wp2_with fail
    go_quiet (fail)
    go_wp2_with fail
    refine Calls.mono (HSP.out _) ?_
    rintro e w2 ⟨rfl, hb2⟩
    have hx2 : PB w2 p s i (.slice ra rl.length rc) := (HX1.out.keep (w' := w1.drewN nq) rfl).still hb2
    have ht2 : But p w w2 := But.still (But.drewN HT1.out nq) hb2
    have HX2 := (show Hid (PB w2 p s i (.slice ra rl.length rc)) from hx2)
    have HT2 := (show Hid (But p w w2) from ht2)
    clear hb2 HSP HX1 HT1 x0 x1
    have hpq : p ≠ w2.heap.size := by have := hx2.lt; omega
    have hx3 : PB (w2.alloc (.cells #[.string (s.extract i (nd s i))] 9)) p s i (.slice ra rl.length rc) := hx2.still (bel_alloc _ _)
    have ht3 : But p w (w2.alloc (.cells #[.string (s.extract i (nd s i))] 9)) := But.still ht2 (bel_alloc _ _)
    have hq3 : (w2.alloc (.cells #[.string (s.extract i (nd s i))] 9)).cell? ⟨w2.heap.size, 0, none⟩ = some (.string (s.extract i (nd s i))) := (Box.new w2 9 [.string (s.extract i (nd s i))]).cell 0 (by simp)
    have x2 : (w2.alloc (.cells #[.string (s.extract i (nd s i))] 9)).cell? ⟨p, 2, none⟩ = some (.slice ra rl.length rc) := hx3.cell 2 (by simp)
    have HIX := (show Hid _ from index123 rl (s.extract i (nd s i)) w2.heap.size _ (w2.alloc (.cells #[.string (s.extract i (nd s i))] 9)) (RLy.still HRL.out (But.below' ht3 HB0.out hp)) hq3)
    have HQ3 := (show Hid _ from hq3)
    have HX3 := (show Hid (PB (w2.alloc (.cells #[.string (s.extract i (nd s i))] 9)) p s i (.slice ra rl.length rc)) from hx3)
    have HT3 := (show Hid (But p w (w2.alloc (.cells #[.string (s.extract i (nd s i))] 9))) from ht3)
    clear hx2 ht2 hx3 ht3 hq3
    have HXE := (show Hid _ from hxe)
    go_wp2_with fail
    refine Calls.mono HIX.out ?_
    rintro e w4 ⟨pl, rfl, hfd, hb4⟩
    have HFD := (show Hid (FdW rl (s.extract i (nd s i)) pl) from hfd)
    have HXC := (show Hid (PB w4 p s i (.slice ra rl.length rc)) from Box.still HX3.out hb4)
    have HBC := (show Hid (But p w w4) from But.still HT3.out hb4)
    have HQC := (show Hid (w4.cell? ⟨w2.heap.size, 0, none⟩ = some (.string (s.extract i (nd s i)))) from (hb4.cell (lt_of_cell HQ3.out)).trans HQ3.out)
    clear hfd hb4 HIX HQ3 HX3 HT3 HXE hxe x2 HX2 HT2 hkr hk0
    generalize s.extract i (nd s i) = x at *
    generalize w2.heap.size = q at *
    have xq : w4.cell? ⟨q, 0, none⟩ = some (.string x) := HQC.out
    cases hr : hasS (nms rl) x
    · obtain rfl := fdw_no HFD.out hr
      have HW := (show Hid _ from word111 x w4)
      cases hw : pwB x
      · have HRR := (show Hid (R = (false, i)) from (by
          obtain ⟨h1, h2, h3⟩ := pw_no hw
          have := HRJ.out
          rw [hr, h1, h2, h3] at this
          simp at this
          exact this.symm))
        rw [hw] at HW
        clear hw HRJ hr HFD
        go_wp2_with fail
        refine Calls.mono HW.out ?_
        rintro e w5 ⟨rfl, rfl⟩
        have HF := (show Hid _ from fault106 s i p _ w5 HXC.out)
        clear HW
        go_wp2_with fail
        refine Calls.mono HF.out ?_
        rintro e w6 ⟨rfl, hb6⟩
        have HE := (show Hid (PdA p s (.slice ra rl.length rc) R w (.panicked [flt i]) w6) from HNO.out _ w6 HRR.out (But.still HBC.out hb6))
        clear hb6 HF
        go_wp2_with fail
        exact ⟨rfl, HE.out⟩
      · rw [hw] at HW
        have x1 : w4.cell? ⟨p, 1, none⟩ = some (.int .i64 (i : Int)) := Box.cell HXC.out 1 (by simp)
        have y1 : w4.frozen? ⟨p, 1, none⟩ = false := Box.frozen HXC.out 1
        go_wp2_with fail
        refine Calls.mono HW.out ?_
        rintro e w5 ⟨rfl, rfl⟩
        clear HW
        have hb8 : PB (w5.setCell ⟨p, 1, none⟩ (.int .i64 ((i : Int) + (x.size : Int)))) p s (nd s i) (.slice ra rl.length rc) := by
          have h8 := Box.set HXC.out 1 (.int .i64 ((i : Int) + (x.size : Int)))
          have e8 : ((nd s i : Nat) : Int) = (i : Int) + (x.size : Int) := HSZ.out
          show Box _ _ _ _
          rw [e8]
          simpa using h8
        have HBL := (show Hid _ from blanks104 s (nd s i) p _ ((w5.setCell ⟨p, 1, none⟩ (.int .i64 ((i : Int) + (x.size : Int)))).drew) (Box.keep hb8 rfl) hs hn2)
        have HB8 := (show Hid (But p w ((w5.setCell ⟨p, 1, none⟩ (.int .i64 ((i : Int) + (x.size : Int)))).drew)) from But.put HBC.out _)
        have HQ8 := (show Hid (((w5.setCell ⟨p, 1, none⟩ (.int .i64 ((i : Int) + (x.size : Int)))).drew).cell? ⟨q, 0, none⟩ = some (.string x)) from cell_other xq (Ne.symm hpq))
        clear hb8
        go_wp2_with fail
        go_region
        go_wp2_with fail
        refine Calls.mono HBL.out ?_
        rintro e w6 ⟨rfl, hb6, ht6⟩
        have HX6 := (show Hid (PB w6 p s (sk s (nd s i)) (.slice ra rl.length rc)) from hb6)
        have HB6 := (show Hid (But p w w6) from But.trans HB8.out ht6)
        have q6 : w6.cell? ⟨q, 0, none⟩ = some (.string x) := But.cell ht6 (Ne.symm hpq) HQ8.out
        clear hb6 ht6 HB8 HQ8 HBL x1 y1 xq
        cases hA : (eqS x idN || eqS x failN)
        · have hA1 : eqS x idN = false := by
            cases e : eqS x idN
            · rfl
            · rw [e] at hA; cases hA
          have hA2 : eqS x failN = false := by
            cases e : eqS x failN
            · rfl
            · rw [e] at hA; simp at hA
          have HCL := (show Hid _ from behind125b x HIH.out (sk s (nd s i)) w6 R HX6.out HN2.out (But.below' HB6.out HB0.out hp) (by
            have := HRJ.out
            rw [hr, hA1, hA2, pw_yes hw hA1 hA2] at this
            simpa using this) hA1 hA2)
          unfold PdA at HCL
          clear hA hA1 hA2 hw hr HRJ
          go_wp2_with fail
          refine Calls.mono HCL.out ?_
          rintro e w7 ⟨hbt7, h7, h7'⟩
          obtain ⟨b, j⟩ := R
          cases b with
          | false =>
            obtain rfl := h7' (by first | rfl | trivial)
            have HE := (show Hid (PdA p s (.slice ra rl.length rc) (false, j) w (.panicked [flt j]) w7) from HNO.out _ w7 rfl (But.trans HB6.out hbt7))
            clear h7 h7' hbt7 HCL HYES HNO
            go_wp2_with fail
            exact ⟨rfl, HE.out⟩
          | true =>
            obtain ⟨T7, u7, rfl, hb7, hj7⟩ := h7 (by first | rfl | trivial)
            have HE := (show Hid (∀ T u, PdA p s (.slice ra rl.length rc) (true, j) w (.returned (.iface T u)) w7) from fun T u => HYES.out T u j w7 rfl (But.trans HB6.out hbt7) hb7 hj7)
            clear h7 h7' hbt7 HCL HYES HNO hb7 hj7
            go_wp2_with fail
            go_ret
            exact HE.out _ _
        · have HCL := (show Hid _ from behind125a x p w6 hA)
          have HE := (show Hid (∀ T u, PdA p s (.slice ra rl.length rc) R w (.returned (.iface T u)) w6) from fun T u => HYES.out T u (sk s (nd s i)) w6 (by
            have := HRJ.out
            rw [← Bool.or_assoc, hA] at this
            simp at this
            exact this.symm) HB6.out HX6.out HN2.out)
          clear hA hw hr HRJ
          go_wp2_with fail
          refine Calls.mono HCL.out ?_
          rintro e w7 ⟨⟨T7, u7, rfl⟩, rfl⟩
          go_wp2_with fail
          go_ret
          exact HE.out _ _
    · obtain ⟨j, rfl, hj⟩ := fdw_yes HFD.out hr
      have HRR := (show Hid (R = (true, sk s (nd s i))) from (by
        have := HRJ.out
        rw [hr] at this
        simp at this
        exact this.symm))
      clear HRJ hr HFD
      have hj0 : (0 : Int) ≤ (j : Int) := by omega
      have hj1 : (j : Int) < (rl.length : Int) := by omega
      have x1 : w4.cell? ⟨p, 1, none⟩ = some (.int .i64 (i : Int)) := Box.cell HXC.out 1 (by simp)
      have y1 : w4.frozen? ⟨p, 1, none⟩ = false := Box.frozen HXC.out 1
      have hb8 : PB (w4.setCell ⟨p, 1, none⟩ (.int .i64 ((i : Int) + (x.size : Int)))) p s (nd s i) (.slice ra rl.length rc) := by
        have h8 := Box.set HXC.out 1 (.int .i64 ((i : Int) + (x.size : Int)))
        have e8 : ((nd s i : Nat) : Int) = (i : Int) + (x.size : Int) := HSZ.out
        show Box _ _ _ _
        rw [e8]
        simpa using h8
      have HBL := (show Hid _ from blanks104 s (nd s i) p _ ((w4.setCell ⟨p, 1, none⟩ (.int .i64 ((i : Int) + (x.size : Int)))).drew) (Box.keep hb8 rfl) hs hn2)
      have HB8 := (show Hid (But p w ((w4.setCell ⟨p, 1, none⟩ (.int .i64 ((i : Int) + (x.size : Int)))).drew)) from But.put HBC.out _)
      have HQ8 := (show Hid (((w4.setCell ⟨p, 1, none⟩ (.int .i64 ((i : Int) + (x.size : Int)))).drew).cell? ⟨q, 0, none⟩ = some (.string x)) from cell_other xq (Ne.symm hpq))
      clear hb8
      go_wp2_with fail
      go_region
      go_wp2_with fail
      refine Calls.mono HBL.out ?_
      rintro e w6 ⟨rfl, hb6, ht6⟩
      have HB6 := (show Hid (But p w w6) from But.trans HB8.out ht6)
      have x2 : w6.cell? ⟨p, 2, none⟩ = some (.slice ra rl.length rc) := Box.cell hb6 2 (by simp)
      have HE := (show Hid (∀ T u, PdA p s (.slice ra rl.length rc) R w (.returned (.iface T u)) w6) from fun T u => HYES.out T u (sk s (nd s i)) w6 HRR.out HB6.out hb6 HN2.out)
      obtain ⟨a, cap, b, off, sv, tv, hv, hc, hm, ha, hx, hcell, hk1, hk2⟩ := RLy.still HRL.out (But.below' HB6.out HB0.out hp)
      simp only [Value.slice.injEq] at hv
      obtain ⟨ea, _, ec⟩ := hv
      rw [ha (by omega)] at ea
      obtain ⟨c0, c1, c2, c3, c4, c5, c6, c7, c8⟩ := hcell j hj
      subst ea
      clear hb6 ht6 HB8 HQ8 HBL x1 y1 xq hcell hk1 hk2 hx ha ec hc hm
      go_wp2_with fail
      go_ret
      exact HE.out _ _
end Go.Proofs.Yteomgkcgjkbppaa
