import Derived.Test.YteomgkcgjkbppaaKo
import Derived.Test.YteomgkcgjkbppaaKv
/-! The specification's reader of plans, whole; PlanOK of the specification. -/
namespace Go.Proofs.Yteomgkcgjkbppaa
open Go.RowKit Go.Deep Go.Lib Go.ChangeShapes Go.WideShapes
set_option linter.unusedVariables false
set_option maxRecDepth 100000
set_option linter.unusedSimpArgs false

theorem tieS {w0 : World} {p : Nat} {s : ByteArray} {rl : List Rw} {ra : Option Addr} {rc : Nat} (hs : s.size ≤ 300) (hp : w0.heap.size ≤ p) (hrl : RLy w0 rl (.slice ra rl.length rc)) (hpw : ∀ x, hasS (nms rl) x = true → hasS pw7 x = false) :
    ∀ f, f ≤ 100000 → ∀ g, g ≤ f → RdC w0 p (.slice ra rl.length rc) s (hasS (nms rl)) 110 0 g ∧ RdC w0 p (.slice ra rl.length rc) s (hasS (nms rl)) 100 1 g ∧ RdC w0 p (.slice ra rl.length rc) s (hasS (nms rl)) 86 2 g ∧ RdC w0 p (.slice ra rl.length rc) s (hasS (nms rl)) 116 3 g := by
  intro f
  induction f with
  | zero =>
    intro _ g hg
    obtain rfl : g = 0 := by omega
    refine ⟨?_, ?_, ?_, ?_⟩ <;> (intro i w R _ _ _ hrd; simp only [rd] at hrd; cases hrd)
  | succ f ih =>
    intro hf g hg
    have ih' := ih (by omega)
    by_cases e : g ≤ f
    · exact ih' g e
    · obtain rfl : g = f + 1 := by omega
      refine ⟨prim110 hs hp hrl hpw (ih' f (Nat.le_refl _)).2.2.2, seq100 hs hp (by omega) (fun g hg => (ih' g hg).1), plan86 hs hp (by omega) (fun g hg => (ih' g hg).2.1), bracket116 hs hp (ih' f (Nat.le_refl _)).2.2.1⟩
/-- Where the fault is, or -1. -/
def whV (s : ByteArray) (rn : ByteArray → Bool) : Int := match whR s rn with
  | some j => (j : Int)
  | none => -1
set_option maxHeartbeats 6400000 in
theorem read64 (rl : List Rw) (s : ByteArray) (ra : Option Addr) (rc : Nat) (w : World) (hrl : RLy w rl (.slice ra rl.length rc)) (hs : s.size ≤ 300) (hok : rlsB rl = true) :
    Calls Try.prog 64 #[.slice ra rl.length rc, .string s] w fun e w' => ∃ (k n : ByteArray) (a : Option Addr) (l c : Nat), e = .returned (.tuple #[.agg #[.string k, .string n, .slice a l c], .int .i64 (whV s (hasS (nms rl)))]) ∧ Below w.heap.size w w' := by
  have hx : sk s 0 ≤ s.size := past_size (Nat.zero_le _)
  obtain ⟨b, j, hr, hj1, hj2, _⟩ := rd_some s (hasS (nms rl)) (rls_nm hok) (fu 2 s.size) 2 (sk s 0) hx (by unfold fu; simp only; omega)
  have HW := (show Hid (whR s (hasS (nms rl)) = if b = true then (if j < s.size then some j else none) else some j) from (show whR s (hasS (nms rl)) = _ by unfold whR; rw [hr]; cases b <;> rfl))
  have hz := (Box.new w 102 [.string ⟨#[]⟩, .string ⟨#[]⟩, .slice none 0 0]).still (bel_alloc (w.alloc (.cells #[.string ⟨#[]⟩, .string ⟨#[]⟩, .slice none 0 0] 102)) (.cells #[.slice ra rl.length rc, .string s, .int .i64 0, .int .i64 (-1)] 129))
  have hbx := Box.new (w.alloc (.cells #[.string ⟨#[]⟩, .string ⟨#[]⟩, .slice none 0 0] 102)) 129 [.slice ra rl.length rc, .string s, .int .i64 0, .int .i64 (-1)]
  have hsz : (w.alloc (.cells #[.string ⟨#[]⟩, .string ⟨#[]⟩, .slice none 0 0] 102)).heap.size = w.heap.size + 1 := by simp
  rw [hsz] at hbx
  have hb2 : Below w.heap.size w ((w.alloc (.cells #[.string ⟨#[]⟩, .string ⟨#[]⟩, .slice none 0 0] 102)).alloc (.cells #[.slice ra rl.length rc, .string s, .int .i64 0, .int .i64 (-1)] 129)) := bel_trans (bel_alloc _ _) (bel_alloc _ _)
  have HCL := (show Hid _ from (tieS (w0 := w) (p := w.heap.size + 1) hs (by omega) hrl (rls_pw hok) (fu 2 s.size) (fu_le hs) (fu 2 s.size) (Nat.le_refl _)).2.2.1 0 _ (b, j) hbx (Nat.zero_le _) hb2 hr)
  unfold RdA at HCL
  have HZ := (show Hid _ from hz)
  have HB2 := (show Hid _ from hb2)
  have HFIN := (show Hid (∀ (k n : ByteArray) (a : Option Addr) (l c : Nat) (B : Int) (w' : World), Below w.heap.size w w' → B = whV s (hasS (nms rl)) → ∃ (k' n' : ByteArray) (a' : Option Addr) (l' c' : Nat), (Ending.returned (.tuple #[.agg #[.string k, .string n, .slice a l c], .int .i64 B])) = .returned (.tuple #[.agg #[.string k', .string n', .slice a' l' c'], .int .i64 (whV s (hasS (nms rl)))]) ∧ Below w.heap.size w w') from fun k n a l c B w' h1 h2 => by
    subst h2
    exact ⟨k, n, a, l, c, rfl, h1⟩)
  have HWV := (show Hid (whV s (hasS (nms rl)) = match whR s (hasS (nms rl)) with
  | some j => (j : Int)
  | none => -1) from rfl)
  clear hz hbx hb2 hrl hr
  go_enter Try.func64, Try.ntmps64
  go_wp2_with fail
  refine Calls.mono HCL.out ?_
  rintro e w3 ⟨k3, n3, a3, l3, c3, i3, bad3, rfl, hb3, hbt3, hi3, ht3, hf3⟩
  have hb4 := hb3.still (bel_alloc w3 (.cells #[.string k3, .string n3, .slice a3 l3 c3] 102))
  have HS := (show Hid _ from sign87 s 0 i3 (w.heap.size + 1) bad3 _ _ hb4 hi3 hs)
  have HZ4 := (show Hid (Box (w3.alloc (.cells #[.string k3, .string n3, .slice a3 l3 c3] 102)) w.heap.size 102 [.string ⟨#[]⟩, .string ⟨#[]⟩, .slice none 0 0]) from (HZ.out.but hbt3 (by omega)).still (bel_alloc _ _))
  have HQ4 := (show Hid (Box (w3.alloc (.cells #[.string k3, .string n3, .slice a3 l3 c3] 102)) w3.heap.size 102 [.string k3, .string n3, .slice a3 l3 c3]) from Box.new w3 102 _)
  have HB4 := (show Hid (Below w.heap.size w (w3.alloc (.cells #[.string k3, .string n3, .slice a3 l3 c3] 102))) from bel_trans (But.below' hbt3 HB2.out (by omega)) (bel_alloc _ _))
  have hq : w.heap.size + 1 < w3.heap.size := hb3.lt
  have HT3 := (show Hid (b = true → bad3 = -1 ∧ sk s i3 = j) from fun h => ht3 h)
  have HF3 := (show Hid (b = false → bad3 = (j : Int)) from fun h => hf3 h)
  clear hb3 hbt3 hb4 HZ HB2 HCL ht3 hf3
  have hxs : sk s i3 ≤ s.size := past_size hi3
  go_wp2_with fail
  refine Calls.mono HS.out ?_
  rintro e w5 ⟨rfl, hb5, hbt5⟩
  have HZ5 := (show Hid _ from HZ4.out.but hbt5 (by omega))
  have HQ5 := (show Hid _ from HQ4.out.but hbt5 (by omega))
  have HB5 := (show Hid (Below w.heap.size w w5) from But.below' hbt5 HB4.out (by omega))
  have HX5 := (show Hid _ from hb5)
  have x2 : w5.cell? ⟨w.heap.size + 1, 2, none⟩ = some (.int .i64 ((sk s i3 : Nat) : Int)) := hb5.cell 2 (by simp)
  clear hb5 hbt5 HS HZ4 HQ4 HB4
  generalize hy : sk s i3 = y at *
  by_cases hlt : y < s.size
  · have hlt' : (y : Int) < (s.size : Int) := by omega
    have HF := (show Hid _ from fail88 s y y (w.heap.size + 1) bad3 _ w5 HX5.out)
    have HBE := (show Hid ((if bad3 < 0 then (y : Int) else bad3) = whV s (hasS (nms rl))) from (by
      show (if bad3 < 0 then (y : Int) else bad3) = whV s (hasS (nms rl))
      rw [HWV.out, HW.out]
      cases b with
      | true =>
        obtain ⟨q1, q2⟩ := HT3.out rfl
        rw [q1, if_pos (by omega), if_pos rfl, ← q2, if_pos hlt]
      | false =>
        rw [HF3.out rfl, if_neg (by omega), if_neg (by simp)]))
    clear HW HWV HT3 HF3 HX5
    go_wp2_with fail
    refine Calls.mono HF.out ?_
    rintro e wc ⟨rfl, hbc, hbtc⟩
    have HZC := (show Hid _ from HZ5.out.but hbtc (by omega))
    have HQC := (show Hid _ from HQ5.out.but hbtc (by omega))
    have HBC := (show Hid (Below w.heap.size w wc) from But.below' hbtc HB5.out (by omega))
    have HXC := (show Hid _ from hbc)
    clear hbc hbtc HF HZ5 HQ5 HB5 x2
    generalize (if bad3 < 0 then (y : Int) else bad3) = B at *
    have z0 : wc.cell? ⟨w.heap.size, 0, none⟩ = some (.string ⟨#[]⟩) := HZC.out.cell 0 (by simp)
    have z1 : wc.cell? ⟨w.heap.size, 1, none⟩ = some (.string ⟨#[]⟩) := HZC.out.cell 1 (by simp)
    have z2 : wc.cell? ⟨w.heap.size, 2, none⟩ = some (.slice none 0 0) := HZC.out.cell 2 (by simp)
    have y0 : wc.frozen? ⟨w.heap.size, 0, none⟩ = false := HZC.out.frozen 0
    have y1 : wc.frozen? ⟨w.heap.size, 1, none⟩ = false := HZC.out.frozen 1
    have y2 : wc.frozen? ⟨w.heap.size, 2, none⟩ = false := HZC.out.frozen 2
    have t0 : wc.cell? ⟨w3.heap.size, 0, none⟩ = some (.string k3) := HQC.out.cell 0 (by simp)
    have t1 : wc.cell? ⟨w3.heap.size, 1, none⟩ = some (.string n3) := HQC.out.cell 1 (by simp)
    have t2 : wc.cell? ⟨w3.heap.size, 2, none⟩ = some (.slice a3 l3 c3) := HQC.out.cell 2 (by simp)
    have r3 : wc.cell? ⟨w.heap.size + 1, 3, none⟩ = some (.int .i64 (B)) := HXC.out.cell 3 (by simp)
    go_wp2_with fail
    go_region
    all_goals
      go_wp2_with fail
      refine bodyPost_ret (v := .tuple #[.agg #[.string k3, .string n3, .slice a3 l3 c3], .int .i64 (B)]) (by simp [results, Try.results64, go_sem, z0, z1, z2]) rfl ?_
      refine HFIN.out _ _ _ _ _ _ _ ?_ HBE.out
      exact bel_drewN (((HBC.out.setCell (p := ⟨w.heap.size, 0, none⟩) (Nat.le_refl _) _).setCell (p := ⟨w.heap.size, 1, none⟩) (Nat.le_refl _) _).setCell (p := ⟨w.heap.size, 2, none⟩) (Nat.le_refl _) _) 1
  · have hlt' : ¬ ((y : Int) < (s.size : Int)) := by omega
    have HBE := (show Hid (bad3 = whV s (hasS (nms rl))) from (by
      show bad3 = whV s (hasS (nms rl))
      rw [HWV.out, HW.out]
      cases b with
      | true =>
        obtain ⟨q1, q2⟩ := HT3.out rfl
        rw [q1, if_pos rfl, ← q2, if_neg hlt]
      | false =>
        rw [HF3.out rfl, if_neg (by simp)]))
    clear HW HWV HT3 HF3
    obtain ⟨wc, hwc⟩ : ∃ wc, wc = w5 := ⟨_, rfl⟩
    subst hwc
    have HZC := HZ5
    have HQC := HQ5
    have HBC := HB5
    have HXC := HX5
    clear HZ5 HQ5 HB5 HX5
    have z0 : wc.cell? ⟨w.heap.size, 0, none⟩ = some (.string ⟨#[]⟩) := HZC.out.cell 0 (by simp)
    have z1 : wc.cell? ⟨w.heap.size, 1, none⟩ = some (.string ⟨#[]⟩) := HZC.out.cell 1 (by simp)
    have z2 : wc.cell? ⟨w.heap.size, 2, none⟩ = some (.slice none 0 0) := HZC.out.cell 2 (by simp)
    have y0 : wc.frozen? ⟨w.heap.size, 0, none⟩ = false := HZC.out.frozen 0
    have y1 : wc.frozen? ⟨w.heap.size, 1, none⟩ = false := HZC.out.frozen 1
    have y2 : wc.frozen? ⟨w.heap.size, 2, none⟩ = false := HZC.out.frozen 2
    have t0 : wc.cell? ⟨w3.heap.size, 0, none⟩ = some (.string k3) := HQC.out.cell 0 (by simp)
    have t1 : wc.cell? ⟨w3.heap.size, 1, none⟩ = some (.string n3) := HQC.out.cell 1 (by simp)
    have t2 : wc.cell? ⟨w3.heap.size, 2, none⟩ = some (.slice a3 l3 c3) := HQC.out.cell 2 (by simp)
    have r3 : wc.cell? ⟨w.heap.size + 1, 3, none⟩ = some (.int .i64 (bad3)) := HXC.out.cell 3 (by simp)
    go_wp2_with fail
    go_region
    all_goals
      go_wp2_with fail
      refine bodyPost_ret (v := .tuple #[.agg #[.string k3, .string n3, .slice a3 l3 c3], .int .i64 (bad3)]) (by simp [results, Try.results64, go_sem, z0, z1, z2]) rfl ?_
      refine HFIN.out _ _ _ _ _ _ _ ?_ HBE.out
      exact bel_drewN (((HBC.out.setCell (p := ⟨w.heap.size, 0, none⟩) (Nat.le_refl _) _).setCell (p := ⟨w.heap.size, 1, none⟩) (Nat.le_refl _) _).setCell (p := ⟨w.heap.size, 2, none⟩) (Nat.le_refl _) _) 1
end Go.Proofs.Yteomgkcgjkbppaa

/-! PlanOK of the specification. -/
namespace Go.Proofs.Yteomgkcgjkbppaa
open Go.RowKit Go.Deep Go.Lib Go.ChangeShapes Go.WideShapes
set_option linter.unusedVariables false
set_option maxRecDepth 100000
set_option linter.unusedSimpArgs false

theorem fdw_at {rl : List Rw} {j : Nat} (hj : j < rl.length) {i : Int} (h : FdW rl rl[j].name i) : ∃ m : Nat, i = (m : Int) ∧ (hasS (nms (rl.take j)) rl[j].name = false → m = j) ∧ (hasS (nms (rl.take j)) rl[j].name = true → m ≠ j) := by
  rcases h with ⟨rfl, h⟩ | ⟨m, rfl, hm, h1, h2⟩
  · exfalso
    have : hasS (nms rl) rl[j].name = true := by
      unfold hasS nms
      rw [List.any_eq_true]
      exact ⟨rl[j].name, List.mem_map.2 ⟨rl[j], List.getElem_mem hj, rfl⟩, eqS_refl _⟩
    rw [h] at this
    cases this
  · refine ⟨m, rfl, fun h => ?_, fun h e => ?_⟩
    · by_cases hlt : m < j
      · exfalso
        have : hasS (nms (rl.take j)) rl[j].name = true := by
          unfold hasS nms
          rw [List.any_eq_true]
          refine ⟨rl[m].name, List.mem_map.2 ⟨rl[m], ?_, rfl⟩, eqS_iff.2 h1⟩
          exact List.mem_iff_getElem.2 ⟨m, by rw [List.length_take]; omega, by rw [List.getElem_take]⟩
        rw [h] at this
        cases this
      · by_cases hgt : j < m
        · exfalso
          have : hasS (nms (rl.take m)) rl[j].name = true := by
            unfold hasS nms
            rw [List.any_eq_true]
            refine ⟨rl[j].name, List.mem_map.2 ⟨rl[j], ?_, rfl⟩, eqS_refl _⟩
            exact List.mem_iff_getElem.2 ⟨j, by rw [List.length_take]; omega, by rw [List.getElem_take]⟩
          rw [h2] at this
          cases this
        · omega
    · subst e
      rw [h2] at h
      cases h
set_option maxHeartbeats 6400000 in
theorem sPlan27 (rl : List Rw) (s : ByteArray) (v : Value) (w : World) (h : RLy w rl v) (hs : s.size ≤ maxLen) :
    Calls Try.prog 27 #[v, .string s] w fun e w' => e = .returned (.tuple #[.int .i64 (pkR rl s).1, .int .i64 (pkR rl s).2]) ∧ Below w.heap.size w w' := by
  have HRL := (show Hid (RLy w rl v) from h)
  obtain ⟨a, cap, b, off, sv, tv, rfl, hc, hm, ha, hx, hcell, hk, hk'⟩ := h
  have HX := (show Hid _ from hx); clear hx
  unfold maxLen at hm hs
  have HC := (show Hid _ from hcell); clear hcell
  have HK := (show Hid _ from hk); clear hk
  have HK' := (show Hid _ from hk'); clear hk'
  have HA := (show Hid _ from ha); clear ha
  have HBAD := (show Hid ((decide (s.size ≤ 300) && rlsB rl) = false → pkR rl s = (1, 0)) from pk_bad)
  have HNO := (show Hid (s.size ≤ 300 → rlsB rl = true → whR s (hasS (nms rl)) = none → pkR rl s = (0, 0)) from pk_none)
  have HSO := (show Hid (∀ j, s.size ≤ 300 → rlsB rl = true → whR s (hasS (nms rl)) = some j → pkR rl s = (2, (j : Int))) from fun j => pk_some)
  generalize hP : pkR rl s = P at *
  obtain ⟨P1, P2⟩ := P
  clear hP
  by_cases h20 : rl.length ≤ 20
  case neg =>
    have h20' : (20 : Int) < (rl.length : Int) := by omega
    have HE := (show Hid _ from HBAD.out (by rw [len_false (by omega), Bool.and_false]))
    simp only [Prod.mk.injEq] at HE
    obtain ⟨rfl, rfl⟩ := HE.out
    clear HBAD HNO HSO HE
    go_enter Try.func27, Try.ntmps27
    go_wp2_with fail
    exact bodyPost_ret (v := .tuple #[.int .i64 1, .int .i64 0]) (by simp [results, Try.results27, go_sem]) rfl ⟨rfl, Below.refl _ _⟩
  have h20' : ¬ ((20 : Int) < (rl.length : Int)) := by omega
  by_cases h3 : s.size ≤ 300
  case neg =>
    have h3' : (300 : Int) < (s.size : Int) := by omega
    have HE := (show Hid _ from HBAD.out (by rw [decide_eq_false h3]; rfl))
    simp only [Prod.mk.injEq] at HE
    obtain ⟨rfl, rfl⟩ := HE.out
    clear HBAD HNO HSO HE
    go_enter Try.func27, Try.ntmps27
    go_wp2_with fail
    exact bodyPost_ret (v := .tuple #[.int .i64 1, .int .i64 0]) (by simp [results, Try.results27, go_sem]) rfl ⟨rfl, Below.refl _ _⟩
  have h3' : ¬ ((300 : Int) < (s.size : Int)) := by omega
  have HB1 := (show Hid (rlsB rl = false → (P1, P2) = (1, 0)) from fun h => HBAD.out (by rw [h, Bool.and_false]))
  clear HBAD
  go_enter Try.func27, Try.ntmps27
  go_wp2_with fail
  go_loopw [6] (fun i wr => ∃ j : Nat, i = .int .i64 j ∧ j ≤ rl.length ∧ Hid (Below w.heap.size w wr) ∧ Hid ((∀ i (hi : i < rl.length), i < j → rulB rl[i] = true) ∧ onJ rl j = true)) (fun i _ => rl.length - (intOf i).toNat)
  case atStart => exact ⟨0, rfl, Nat.zero_le _, Below.refl _ _, fun i _ h => absurd h (Nat.not_lt_zero _), rfl⟩
  case round =>
    obtain ⟨j, rfl, hj, HB, HJ⟩ := hrel
    by_cases hlt : j < rl.length
    · have q1 : (j : Int) < (rl.length : Int) := by omega
      have q0 : (0 : Int) ≤ (j : Int) := by omega
      have hbel := HB.out
      obtain rfl := HA.out (by omega)
      obtain ⟨c0, c1, c2, c3, c4, c5, c6, c7, c8⟩ := HC.out j hlt
      have c0w := c0
      rw [← hbel.cell (lt_of_cell c0)] at c0
      rw [← hbel.cell (lt_of_cell c1)] at c1
      rw [← hbel.cell (lt_of_cell c2)] at c2
      rw [← hbel.cell (lt_of_cell c3)] at c3
      rw [← hbel.cell (lt_of_cell c4)] at c4
      rw [← hbel.cell (lt_of_cell c5)] at c5
      rw [← hbel.cell (lt_of_cell c6)] at c6
      rw [← hbel.cell (lt_of_cell c7)] at c7
      rw [← hbel.cell (lt_of_cell c8)] at c8
      have hl1 := HK.out j hlt
      have hl2 := HK'.out j hlt
      obtain ⟨a4, l4, p4, e4⟩ := hl1.form
      obtain ⟨a5, l5, p5, e5⟩ := hl2.form
      rw [e4] at c4 hl1
      rw [e5] at c8 hl2
      have HCL := (show Hid _ from rule62 rl[j] a4 a5 l4 p4 l5 p5 wr (hl1.still hbel) (hl2.still hbel) (HX.out j hlt))
      have HFD := (show Hid (∀ wq : World, Below w.heap.size w wq → Calls Try.prog 63 #[.slice (some ⟨b, off, none⟩) rl.length cap, .string rl[j].name] wq fun e w' => ∃ i : Int, e = .returned (.int .i64 i) ∧ FdW rl rl[j].name i ∧ w' = wq) from fun wq hq => find63 rl _ _ wq (RLy.still HRL.out hq))
      have HFX := (show Hid (rulB rl[j] = false → rlsB rl = false) from rul_false hlt)
      have HON := (show Hid (hasS (nms (rl.take j)) rl[j].name = true → rlsB rl = false) from fun h => on_false (j := j + 1) (by omega) (by rw [onJ_succ hlt, h, Bool.not_true, Bool.and_false]))
      have HNX := (show Hid (rulB rl[j] = true → hasS (nms (rl.take j)) rl[j].name = false → (∀ i (hi : i < rl.length), i < j + 1 → rulB rl[i] = true) ∧ onJ rl (j + 1) = true) from fun h h2 => ⟨fun i hi hij => (by
        by_cases e : i = j
        · subst e; exact h
        · exact HJ.out.1 i hi (by omega)), by rw [onJ_succ hlt, HJ.out.2, h2]; rfl⟩)
      have HAT := (show Hid (∀ i : Int, FdW rl rl[j].name i → ∃ m : Nat, i = (m : Int) ∧ (hasS (nms (rl.take j)) rl[j].name = false → m = j) ∧ (hasS (nms (rl.take j)) rl[j].name = true → m ≠ j)) from fun i h => fdw_at hlt h)
      have HB2 := (show Hid _ from hbel)
      clear hbel e4 e5 HJ HB hl1 hl2
      generalize hasS (nms (rl.take j)) rl[j].name = tw at *
      generalize rulB rl[j] = r at *
      generalize rl[j].name = y0 at *
      generalize rl[j].left.name = y1 at *
      generalize rl[j].left.text = y2 at *
      generalize rl[j].left.leaf = y3 at *
      generalize rl[j].right.name = y5 at *
      generalize rl[j].right.text = y6 at *
      generalize rl[j].right.leaf = y7 at *
      go_wp2_with fail
      refine Calls.mono HCL.out ?_
      rintro e w1 ⟨rfl, hb1⟩
      have HB3 := (show Hid (Below w.heap.size w w1) from bel_trans HB2.out hb1)
      have d0 : w1.cell? ⟨b, off + j * 9, none⟩ = some (.string y0) := (HB3.out.cell (lt_of_cell c0w)).trans c0w
      clear hb1 HB2 HCL
      clear c0 c1 c2 c3 c4 c5 c6 c7 c8 c0w
      cases r
      · have HF := (show Hid _ from HB1.out (HFX.out rfl))
        simp only [Prod.mk.injEq] at HF
        obtain ⟨rfl, rfl⟩ := HF.out
        clear HNX HFX HF HON HAT HFD
        go_wp2_with fail
        exact bodyPost_ret (v := .tuple #[.int .i64 1, .int .i64 0]) (by simp [results, Try.results27, go_sem]) rfl ⟨rfl, HB3.out⟩
      · have HF := (show Hid _ from HNX.out rfl)
        clear HNX HFX
        go_wp2_with fail
        refine Calls.mono (HFD.out _ HB3.out) ?_
        rintro e w2 ⟨i2, rfl, hf2, rfl⟩
        obtain ⟨m, rfl, hm1, hm2⟩ := HAT.out _ hf2
        clear hf2 HFD HAT d0
        cases tw
        · obtain rfl := hm1 rfl
          have HG := (show Hid _ from HF.out rfl)
          clear hm1 hm2 HF HON
          go_wp2_with fail
          exact ⟨⟨m + 1, by go_num, by omega, HB3, HG⟩, by simp [intOf]; omega⟩
        · have hne := hm2 rfl
          have HF2 := (show Hid _ from HB1.out (HON.out rfl))
          simp only [Prod.mk.injEq] at HF2
          obtain ⟨rfl, rfl⟩ := HF2.out
          have hd : ((m : Int) != (j : Int)) = true := by
            simp
            omega
          clear hm1 hm2 HF HON HF2
          go_wp2_with fail
          exact bodyPost_ret (v := .tuple #[.int .i64 1, .int .i64 0]) (by simp [results, Try.results27, go_sem]) rfl ⟨rfl, HB3.out⟩
    · have q1 : ¬ ((j : Int) < (rl.length : Int)) := by omega
      have hok : rlsB rl = true := rls_true h20 (fun i hi => HJ.out.1 i hi (by omega)) (by
        have := HJ.out.2
        rwa [show j = rl.length by omega] at this)
      have HCL := (show Hid _ from read64 rl s a cap wr (RLy.still HRL.out HB.out) h3 hok)
      have HV := (show Hid (∀ B : Int, B = whV s (hasS (nms rl)) → (B = -1 ∧ (P1, P2) = (0, 0)) ∨ ∃ k : Nat, B = (k : Int) ∧ (P1, P2) = (2, (k : Int))) from fun B hB => by
        unfold whV at hB
        cases e : whR s (hasS (nms rl)) with
        | none => rw [e] at hB; exact .inl ⟨hB, HNO.out h3 hok e⟩
        | some k => rw [e] at hB; exact .inr ⟨k, hB, HSO.out k h3 hok e⟩)
      generalize whV s (hasS (nms rl)) = V at *
      clear hok HNO HSO HJ
      go_wp2_with fail
      refine Calls.mono HCL.out ?_
      rintro e w1 ⟨k1, n1, a1, l1, c1, rfl, hb1⟩
      have HB3 := (show Hid (Below w.heap.size w (w1.alloc (.cells #[.string k1, .string n1, .slice a1 l1 c1] 102))) from bel_trans (bel_trans HB.out hb1) (bel_alloc _ _))
      have hv := HV.out V rfl
      clear hb1 HCL HV HB
      rcases hv with ⟨rfl, hp⟩ | ⟨k, rfl, hp⟩
      · simp only [Prod.mk.injEq] at hp
        obtain ⟨rfl, rfl⟩ := hp
        go_wp2_with fail
        exact bodyPost_ret (v := .tuple #[.int .i64 0, .int .i64 0]) (by simp [results, Try.results27, go_sem]) rfl ⟨rfl, HB3.out⟩
      · simp only [Prod.mk.injEq] at hp
        obtain ⟨rfl, rfl⟩ := hp
        have hk0 : (0 : Int) ≤ (k : Int) := by omega
        go_wp2_with fail
        exact bodyPost_ret (v := .tuple #[.int .i64 2, .int .i64 (k : Int)]) (by simp [results, Try.results27, go_sem]) rfl ⟨rfl, HB3.out⟩
end Go.Proofs.Yteomgkcgjkbppaa
