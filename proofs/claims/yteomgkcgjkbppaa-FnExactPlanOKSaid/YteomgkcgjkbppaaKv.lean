import Derived.Test.YteomgkcgjkbppaaKt
import Derived.Test.YteomgkcgjkbppaaSize
/-! The program's reader of plans: a whole text. -/
namespace Go.Proofs.Yteomgkcgjkbppaa
open Go.RowKit Go.Deep Go.Lib Go.ChangeShapes Go.WideShapes
set_option linter.unusedVariables false
set_option maxRecDepth 100000
set_option linter.unusedSimpArgs false

theorem rls_of {rl : List Rw} (h : rlsB rl = true) {x : ByteArray} (hx : hasS (nms rl) x = true) : nmB x = true ∧ pwB x = false := by
  unfold rlsB at h
  rw [Bool.and_eq_true, Bool.and_eq_true] at h
  have hm := hasS_mem hx
  unfold nms at hm
  rw [List.mem_map] at hm
  obtain ⟨r, h1, rfl⟩ := hm
  have hr := List.all_eq_true.1 h.2.1 r h1
  unfold rulB at hr
  rw [Bool.and_eq_true, Bool.and_eq_true] at hr
  refine ⟨hr.1, ?_⟩
  cases e : pwB r.name
  · rfl
  · rw [e] at hr
    cases hr.2.1
theorem rls_nm {rl : List Rw} (h : rlsB rl = true) (x : ByteArray) (hx : hasS (nms rl) x = true) : 0 < x.size := by
  obtain ⟨h1, _⟩ := nmB_iff.1 (rls_of h hx).1
  omega
theorem rls_pw {rl : List Rw} (h : rlsB rl = true) (x : ByteArray) (hx : hasS (nms rl) x = true) : hasS pw7 x = false := (pw_no (rls_of h hx).2).2.2
theorem tieP {w0 : World} {p : Nat} {s : ByteArray} {rl : List Rw} {ra : Option Addr} {rc : Nat} (hs : s.size ≤ 300) (hp : w0.heap.size ≤ p) (hrl : RLy w0 rl (.slice ra rl.length rc)) :
    ∀ f, f ≤ 100000 → ∀ g, g ≤ f → PdC w0 p (.slice ra rl.length rc) s (hasS (nms rl)) 119 0 g ∧ PdC w0 p (.slice ra rl.length rc) s (hasS (nms rl)) 115 1 g ∧ PdC w0 p (.slice ra rl.length rc) s (hasS (nms rl)) 105 2 g ∧ PdC w0 p (.slice ra rl.length rc) s (hasS (nms rl)) 121 3 g := by
  intro f
  induction f with
  | zero =>
    intro _ g hg
    obtain rfl : g = 0 := by omega
    refine ⟨?_, ?_, ?_, ?_⟩ <;> (intro i w R _ _ _ hrd; simp only [rd] at hrd; cases hrd)
  | succ f ih =>
    intro hf g hg
    have ih' := ih (by omega)
    by_cases e : g ≤ f
    · exact ih' g e
    · obtain rfl : g = f + 1 := by omega
      refine ⟨prim118 hs hp hrl (ih' f (Nat.le_refl _)).2.2.2, read115 hs hp (by omega) (fun g hg => (ih' g hg).1), read105 hs hp (by omega) (fun g hg => (ih' g hg).2.1), bracketed120 hs hp (ih' f (Nat.le_refl _)).2.2.1⟩
theorem fu_le {n : Nat} (h : n ≤ 300) : fu 2 n ≤ 100000 := by
  unfold fu
  simp only
  omega
set_option maxHeartbeats 1600000 in
theorem whole92 {w0 : World} {p : Nat} {s : ByteArray} {rl : List Rw} {ra : Option Addr} {rc : Nat} (hs : s.size ≤ 300) (hp : w0.heap.size ≤ p) (hrl : RLy w0 rl (.slice ra rl.length rc)) (hok : rlsB rl = true) (w : World) (hbx : PB w p s 0 (.slice ra rl.length rc)) (hb0 : Below w0.heap.size w0 w) :
    Calls Try.prog 92 #[.pointer (some ⟨p, 0, none⟩)] w fun e w' => But p w w' ∧ (whR s (hasS (nms rl)) = none → ∃ (T : TypeId) (u : Value), e = .returned (.iface T u)) ∧ (∀ j, whR s (hasS (nms rl)) = some j → e = .panicked [flt j]) := by
  have HB := (show Hid _ from blanks104 s 0 p _ w hbx hs (Nat.zero_le _))
  have hx : sk s 0 ≤ s.size := past_size (Nat.zero_le _)
  obtain ⟨b, j, hr, hj1, hj2, _⟩ := rd_some s (hasS (nms rl)) (rls_nm hok) (fu 2 s.size) 2 (sk s 0) hx (by unfold fu; simp only; omega)
  have HW := (show Hid (whR s (hasS (nms rl)) = if b = true then (if j < s.size then some j else none) else some j) from (show whR s (hasS (nms rl)) = _ by unfold whR; rw [hr]; cases b <;> rfl))
  have HPL := (show Hid _ from (tieP hs hp hrl (fu 2 s.size) (fu_le hs) (fu 2 s.size) (Nat.le_refl _)).2.2.1)
  have HB0 := (show Hid _ from hb0)
  have HRD := (show Hid _ from hr)
  clear hbx hb0 hr hrl
  go_enter Try.func92, Try.ntmps92
  go_wp2_with fail
  refine Calls.mono HB.out ?_
  rintro e w1 ⟨rfl, hb1, ht1⟩
  have HCL := (show Hid _ from HPL.out (sk s 0) w1 (b, j) hb1 hx (But.below' ht1 HB0.out hp) HRD.out)
  unfold PdA at HCL
  have HT1 := (show Hid (But p w w1) from ht1)
  clear hb1 ht1 HB HPL HRD
  go_wp2_with fail
  refine Calls.mono HCL.out ?_
  rintro e w2 ⟨ht2, h2, h2'⟩
  have HT2 := (show Hid (But p w w2) from But.trans HT1.out ht2)
  clear ht2 HCL HT1
  cases b with
  | false =>
    obtain rfl := h2' (by first | rfl | trivial)
    have HE := (show Hid (whR s (hasS (nms rl)) = some j) from HW.out)
    clear h2 h2' HW
    go_wp2_with fail
    exact ⟨rfl, HT2.out, fun h => (by rw [HE.out] at h; cases h), fun k h => (by rw [HE.out] at h; injection h with h; rw [h])⟩
  | true =>
    obtain ⟨T2, u2, rfl, hb2, hj⟩ := h2 (by first | rfl | trivial)
    have x0 : w2.cell? ⟨p, 0, none⟩ = some (.string s) := hb2.cell 0 (by simp)
    have x1 : w2.cell? ⟨p, 1, none⟩ = some (.int .i64 (j : Int)) := hb2.cell 1 (by simp)
    have HX2 := (show Hid (PB w2 p s j (.slice ra rl.length rc)) from hb2)
    clear h2 h2' hb2
    have HW2 := (show Hid (whR s (hasS (nms rl)) = if j < s.size then some j else none) from HW.out)
    clear HW
    by_cases hlt : j < s.size
    · have HE := (show Hid (whR s (hasS (nms rl)) = some j) from HW2.out.trans (if_pos hlt))
      have hlt' : (j : Int) < (s.size : Int) := by omega
      have HF := (show Hid (∀ n : Nat, Calls Try.prog 106 #[.pointer (some ⟨p, 0, none⟩)] (w2.drewN n) fun e w' => e = .returned (.agg #[.int .i64 2, .int .i64 (j : Int)]) ∧ Below (w2.drewN n).heap.size (w2.drewN n) w') from fun n => fault106 s j p _ (w2.drewN n) (Box.keep HX2.out rfl))
      clear HW2
      go_wp2_with fail
      go_quiet (fail)
      go_wp2_with fail
      refine Calls.mono (HF.out _) ?_
      rintro e w3 ⟨rfl, hb3⟩
      have HT3 := (show Hid (But p w w3) from But.still (But.drewN HT2.out _) hb3)
      clear hb3 HF
      go_wp2_with fail
      exact ⟨rfl, HT3.out, fun h => (by rw [HE.out] at h; cases h), fun k h => (by rw [HE.out] at h; injection h with h; rw [h])⟩
    · have HE := (show Hid (whR s (hasS (nms rl)) = none) from HW2.out.trans (if_neg hlt))
      have hlt' : ¬ ((j : Int) < (s.size : Int)) := by omega
      clear HW2
      go_wp2_with fail
      go_quiet (fail)
      go_wp2_with fail
      go_ret
      exact ⟨But.drewN HT2.out _, fun _ => ⟨_, _, rfl⟩, fun k h => (by rw [HE.out] at h; cases h)⟩
end Go.Proofs.Yteomgkcgjkbppaa

/-! The program: readPlan and PlanOK. -/
namespace Go.Proofs.Yteomgkcgjkbppaa
open Go.RowKit Go.Deep Go.Lib Go.ChangeShapes Go.WideShapes
set_option linter.unusedVariables false
set_option maxRecDepth 100000
set_option linter.unusedSimpArgs false

set_option maxHeartbeats 800000 in
theorem catch89_panicking (p0 p1 p2 : Nat) (c a : Int) (older : List PanicEntry) (w : World) (u0 u1 u2 : Value)
    (h0 : w.cell? ⟨p0, 0, none⟩ = some u0) (h1 : w.cell? ⟨p1, 0, none⟩ = some u1) (h2 : w.cell? ⟨p2, 0, none⟩ = some u2)
    (z0 : w.frozen? ⟨p0, 0, none⟩ = false) (z1 : w.frozen? ⟨p1, 0, none⟩ = false) (z2 : w.frozen? ⟨p2, 0, none⟩ = false) (n01 : p0 ≠ p1) (n02 : p0 ≠ p2) (n12 : p1 ≠ p2) :
    CallsD Try.prog 89 #[.pointer (some ⟨p0, 0, none⟩), .pointer (some ⟨p1, 0, none⟩), .pointer (some ⟨p2, 0, none⟩)] (.panicking ({ v := .iface 133 (.agg #[.int .i64 c, .int .i64 a]), recovered := false } :: older)) w fun e u' w' =>
      e = .returned (.tuple #[]) ∧ u' = .panicking ({ v := .iface 133 (.agg #[.int .i64 c, .int .i64 a]), recovered := true } :: older) ∧
        ∃ w1, Below w.heap.size w w1 ∧ w' = (((w1.setCell ⟨p0, 0, none⟩ .nilIface).setCell ⟨p1, 0, none⟩ (.int .i64 c)).setCell ⟨p2, 0, none⟩ (.int .i64 a)).drew := by
  have q0 := lt_of_cell h0
  have q1 := lt_of_cell h1
  have q2 := lt_of_cell h2
  refine callsD_of_wpS Try.func89 rfl fun c₀ cs hu => ?_
  apply wpS_seq
  apply wpS_region
  simp [wpOpsS, go_sem, recoverD, hu, Try.ntmps89, Exit.thenS]
  refine wpS_of_wp ?_
  go_wp2_with fail
  refine Calls.mono (faultIn_any c a w) ?_
  rintro e w1 ⟨rfl, hb1⟩
  have hb2 : Below w.heap.size w (w1.alloc (.cells #[.int .i64 c, .int .i64 a] 133)) := bel_trans hb1 (bel_alloc _ _)
  have x0 : (w1.alloc (.cells #[.int .i64 c, .int .i64 a] 133)).cell? ⟨w1.heap.size, 0, none⟩ = some (.int .i64 c) := (Box.new w1 133 [.int .i64 c, .int .i64 a]).cell 0 (by simp)
  have x1 : (w1.alloc (.cells #[.int .i64 c, .int .i64 a] 133)).cell? ⟨w1.heap.size, 1, none⟩ = some (.int .i64 a) := (Box.new w1 133 [.int .i64 c, .int .i64 a]).cell 1 (by simp)
  rw [← hb2.cell (lt_of_cell h0)] at h0
  rw [← hb2.cell (lt_of_cell h1)] at h1
  rw [← hb2.cell (lt_of_cell h2)] at h2
  rw [← hb2.frozen (by assumption)] at z0
  rw [← hb2.frozen (by assumption)] at z1
  rw [← hb2.frozen (by assumption)] at z2
  have HB2 := (show Hid _ from hb2)
  have m := hb1.size
  have k0 : p0 ≠ w1.heap.size := by omega
  have k1 : p1 ≠ w1.heap.size := by omega
  have k2 : p2 ≠ w1.heap.size := by omega
  have n10 := Ne.symm n01
  have n20 := Ne.symm n02
  have n21 := Ne.symm n12
  have k0' := Ne.symm k0
  have k1' := Ne.symm k1
  have k2' := Ne.symm k2
  clear hb1 hb2 m
  cases c₀
  go_wp2_with fail
  go_region
  all_goals
    go_wp2_with fail
  all_goals
    exact ⟨rfl, _, rfl, _, by simp [results, Try.results89], rfl, rfl, _, HB2.out, rfl⟩
set_option maxHeartbeats 400000 in
theorem catch89_idle (p0 p1 p2 : Nat) (w : World) :
    CallsD Try.prog 89 #[.pointer (some ⟨p0, 0, none⟩), .pointer (some ⟨p1, 0, none⟩), .pointer (some ⟨p2, 0, none⟩)] .returning w fun e u' w' =>
      e = .returned (.tuple #[]) ∧ u' = .returning ∧ w' = w := by
  refine callsD_of_wpS Try.func89 rfl fun c₀ cs hu => ?_
  apply wpS_seq
  apply wpS_region
  simp [wpOpsS, go_sem, recoverD, hu, Try.ntmps89, Exit.thenS]
  refine wpS_of_wp ?_
  go_wp2_with fail
  cases c₀
  simp_all [bodyPostS, results, Try.results89]
/-- What readPlan lays ahead of its reading. -/
structure RB3 (w w' : World) (u0 u1 u2 : Value) : Prop where
  bel : Below w.heap.size w w'
  sz : w.heap.size + 3 ≤ w'.heap.size
  p0 : Box w' w.heap.size 107 [u0]
  p1 : Box w' (w.heap.size + 1) 3 [u1]
  p2 : Box w' (w.heap.size + 1 + 1) 3 [u2]
theorem RB3.still {w w' w'' : World} {u0 u1 u2 : Value} (h : RB3 w w' u0 u1 u2) (hb : Below w'.heap.size w' w'') : RB3 w w'' u0 u1 u2 := ⟨bel_trans h.bel hb, Nat.le_trans h.sz hb.size, h.p0.still hb, h.p1.still hb, h.p2.still hb⟩
theorem RB3.drew {w w' : World} {u0 u1 u2 : Value} (h : RB3 w w' u0 u1 u2) : RB3 w w'.drew u0 u1 u2 := ⟨bel_drewN h.bel 1, h.sz, h.p0.keep rfl, h.p1.keep rfl, h.p2.keep rfl⟩
abbrev W3 (w : World) : World := ((w.alloc (.cells #[.nilIface] 107)).alloc (.cells #[.int .i64 0] 3)).alloc (.cells #[.int .i64 0] 3)
theorem RB3.new (w : World) (u0 u1 u2 : Value) : RB3 w (((w.alloc (.cells #[u0] 107)).alloc (.cells #[u1] 3)).alloc (.cells #[u2] 3)) u0 u1 u2 := by
  have h0 := ((Box.new w 107 [u0]).still (bel_alloc _ (.cells #[u1] 3))).still (bel_alloc _ (.cells #[u2] 3))
  have h1 := (Box.new (w.alloc (.cells #[u0] 107)) 3 [u1]).still (bel_alloc _ (.cells #[u2] 3))
  have h2 := Box.new ((w.alloc (.cells #[u0] 107)).alloc (.cells #[u1] 3)) 3 [u2]
  simp only [World.size_alloc] at h1 h2
  exact ⟨bel_trans (bel_trans (bel_alloc _ _) (bel_alloc _ _)) (bel_alloc _ _), by simp, h0, h1, h2⟩
theorem RB3.put {w w' : World} {u0 u1 u2 : Value} (h : RB3 w w' u0 u1 u2) (v0 v1 v2 : Value) : RB3 w (((w'.setCell ⟨w.heap.size, 0, none⟩ v0).setCell ⟨w.heap.size + 1, 0, none⟩ v1).setCell ⟨w.heap.size + 1 + 1, 0, none⟩ v2) v0 v1 v2 := by
  refine ⟨?_, ?_, ?_, ?_, ?_⟩
  · exact ((h.bel.setCell (by show w.heap.size ≤ w.heap.size; omega) _).setCell (by show w.heap.size ≤ w.heap.size + 1; omega) _).setCell (by show w.heap.size ≤ w.heap.size + 1 + 1; omega) _
  · have := h.sz
    simpa using this
  · exact ((h.p0.set 0 v0).past (by omega)).past (by omega)
  · exact ((h.p1.past (by omega)).set 0 v1).past (by omega)
  · exact ((h.p2.past (by omega)).past (by omega)).set 0 v2
theorem bel_trans' {w a b : World} {p : Nat} (h : Below w.heap.size w a) (hb : But p a b) (hp : w.heap.size ≤ p) : Below w.heap.size w b := But.below' hb h hp
/-- What readPlan leaves. -/
def RpA (rl : List Rw) (s : ByteArray) (w : World) (e : Ending) (w' : World) : Prop :=
  Below w.heap.size w w' ∧ ∃ v : Value, e = .returned (.tuple #[v, .int .i64 (pkR rl s).1, .int .i64 (pkR rl s).2])
theorem pk_bad {rl : List Rw} {s : ByteArray} (h : (decide (s.size ≤ 300) && rlsB rl) = false) : pkR rl s = (1, 0) := by
  unfold pkR
  rw [h]
  rfl
theorem pk_none {rl : List Rw} {s : ByteArray} (h1 : s.size ≤ 300) (h2 : rlsB rl = true) (h : whR s (hasS (nms rl)) = none) : pkR rl s = (0, 0) := by
  unfold pkR
  rw [if_pos (by rw [decide_eq_true h1, h2]; rfl), h]
theorem pk_some {rl : List Rw} {s : ByteArray} {j : Nat} (h1 : s.size ≤ 300) (h2 : rlsB rl = true) (h : whR s (hasS (nms rl)) = some j) : pkR rl s = (2, (j : Int)) := by
  unfold pkR
  rw [if_pos (by rw [decide_eq_true h1, h2]; rfl), h]
theorem make_func66 (fn : Fn) (first cap : Array Value) (w : World) : (Instr.makeFunc fn first cap).run Try.prog w = .ok (.func fn first cap) w := rfl
set_option maxHeartbeats 6400000 in
theorem read66 (rl : List Rw) (s : ByteArray) (v : Value) (w : World) (h : RLy w rl v) (hs : s.size ≤ maxLen) :
    Calls Try.prog 66 #[v, .string s] w (RpA rl s w) := by
  have hmf := make_func66
  obtain ⟨ra, rc, rfl⟩ := h.form
  unfold maxLen at hs
  have hX0 := RB3.new w .nilIface (.int .i64 0) (.int .i64 0)
  have HRL := (show Hid (RLy w rl (.slice ra rl.length rc)) from h)
  have HR := (show Hid _ from rules91 rl _ (W3 w) (h.still hX0.bel))
  have HX0 := (show Hid _ from hX0)
  have HFIN := (show Hid (∀ (u0 : Value) (w' : World), RB3 w w' u0 (.int .i64 (pkR rl s).1) (.int .i64 (pkR rl s).2) → RpA rl s w (.returned (.tuple #[u0, .int .i64 (pkR rl s).1, .int .i64 (pkR rl s).2])) w') from fun u0 w' h => ⟨h.bel, u0, rfl⟩)
  clear h hX0
  by_cases h3 : s.size ≤ 300
  case neg =>
    have hpk : pkR rl s = (1, 0) := pk_bad (by rw [decide_eq_false h3]; rfl)
    rw [hpk] at HFIN
    have h3' : (300 : Int) < (s.size : Int) := by omega
    clear HR
    go_enter_defers Try.func66, Try.ntmps66
    go_wp2_with fail
    have hX := RB3.new w .nilIface (.int .i64 1) (.int .i64 0)
    have r0 := hX.p0.cell 0 (by simp)
    have r1 := hX.p1.cell 0 (by simp)
    have r2 := hX.p2.cell 0 (by simp)
    simp only [List.getD_cons_zero] at r0 r1 r2
    refine leaves_cons (f := 89) (args := #[.pointer (some ⟨w.heap.size, 0, none⟩), .pointer (some ⟨w.heap.size + 1, 0, none⟩), .pointer (some ⟨w.heap.size + 1 + 1, 0, none⟩)]) (by simp) (by simp [go_sem]) ?_
    refine (catch89_idle _ _ _ _).mono ?_
    rintro e u' w'' ⟨rfl, rfl, rfl⟩
    exact ⟨.tuple #[.nilIface, .int .i64 1, .int .i64 0], by simp [results, Try.results66, go_sem, r0, r1, r2], HFIN.out _ _ hX⟩
  case pos =>
    have h3' : ¬ ((300 : Int) < (s.size : Int)) := by omega
    cases hok : rlsB rl
    · have hpk : pkR rl s = (1, 0) := pk_bad (by rw [hok, Bool.and_false])
      rw [hpk] at HFIN
      rw [hok] at HR
      go_enter_defers Try.func66, Try.ntmps66
      go_wp2_with fail
      refine Calls.mono HR.out ?_
      rintro e w1 ⟨rfl, hb1⟩
      have HX1 := (show Hid _ from RB3.still HX0.out hb1)
      clear hb1 HR
      have c0 := HX1.out.p0.cell 0 (by simp)
      have f0 := HX1.out.p0.frozen 0
      have c1 := (HX1.out.p1.past (q := w.heap.size) (o := 0) (u := Value.nilIface) (by omega)).cell 0 (by simp)
      have f1 := (HX1.out.p1.past (q := w.heap.size) (o := 0) (u := Value.nilIface) (by omega)).frozen 0
      have c2 := ((HX1.out.p2.past (q := w.heap.size) (o := 0) (u := Value.nilIface) (by omega)).past (q := w.heap.size + 1) (o := 0) (u := Value.int .i64 1) (by omega)).cell 0 (by simp)
      have f2 := ((HX1.out.p2.past (q := w.heap.size) (o := 0) (u := Value.nilIface) (by omega)).past (q := w.heap.size + 1) (o := 0) (u := Value.int .i64 1) (by omega)).frozen 0
      simp only [List.getD_cons_zero] at c0 c1 c2
      go_wp2_with fail
      have hX := HX1.out.put (Value.nilIface) (Value.int .i64 1) (Value.int .i64 0)
      have r0 := hX.p0.cell 0 (by simp)
      have r1 := hX.p1.cell 0 (by simp)
      have r2 := hX.p2.cell 0 (by simp)
      simp only [List.getD_cons_zero] at r0 r1 r2
      refine leaves_cons (f := 89) (args := #[.pointer (some ⟨w.heap.size, 0, none⟩), .pointer (some ⟨w.heap.size + 1, 0, none⟩), .pointer (some ⟨w.heap.size + 1 + 1, 0, none⟩)]) (by simp) (by simp [go_sem]) ?_
      refine (catch89_idle _ _ _ _).mono ?_
      rintro e u' w'' ⟨rfl, rfl, rfl⟩
      exact ⟨.tuple #[.nilIface, .int .i64 1, .int .i64 0], by simp [results, Try.results66, go_sem, r0, r1, r2], HFIN.out _ _ hX⟩
    · rw [hok] at HR
      go_enter_defers Try.func66, Try.ntmps66
      go_wp2_with fail
      refine Calls.mono HR.out ?_
      rintro e w1 ⟨rfl, hb1⟩
      have hX1 := RB3.still HX0.out hb1
      have hX2 := hX1.still (bel_alloc w1 (.cells #[.string s, .int .i64 0, .slice ra rl.length rc] 139))
      have hsz := hX1.sz
      have HWH := (show Hid _ from whole92 (w0 := w) (p := w1.heap.size) h3 (by omega) HRL.out hok (w1.alloc (.cells #[.string s, .int .i64 0, .slice ra rl.length rc] 139)) (Box.new w1 139 [.string s, .int .i64 0, .slice ra rl.length rc]) hX2.bel)
      have HX2 := (show Hid _ from hX2)
      clear hb1 HR hX1 hX2 HX0
      go_wp2_with fail
      refine Calls.mono HWH.out ?_
      rintro e w3 ⟨ht3, hn3, hs3⟩
      have hX3 : RB3 w w3 .nilIface (.int .i64 0) (.int .i64 0) := ⟨bel_trans' HX2.out.bel ht3 (by omega), Nat.le_trans HX2.out.sz ht3.size, HX2.out.p0.but ht3 (by omega), HX2.out.p1.but ht3 (by omega), HX2.out.p2.but ht3 (by omega)⟩
      have HX3 := (show Hid _ from hX3)
      clear ht3 HWH HX2 hX3
      cases hwh : whR s (hasS (nms rl)) with
      | none =>
        obtain ⟨T, u, rfl⟩ := hn3 hwh
        rw [pk_none h3 hok hwh] at HFIN
        clear hn3 hs3 hwh
        have c0 := HX3.out.p0.cell 0 (by simp)
        have f0 := HX3.out.p0.frozen 0
        have c1 := (HX3.out.p1.past (q := w.heap.size) (o := 0) (u := Value.iface T u) (by omega)).cell 0 (by simp)
        have f1 := (HX3.out.p1.past (q := w.heap.size) (o := 0) (u := Value.iface T u) (by omega)).frozen 0
        have c2 := ((HX3.out.p2.past (q := w.heap.size) (o := 0) (u := Value.iface T u) (by omega)).past (q := w.heap.size + 1) (o := 0) (u := Value.int .i64 0) (by omega)).cell 0 (by simp)
        have f2 := ((HX3.out.p2.past (q := w.heap.size) (o := 0) (u := Value.iface T u) (by omega)).past (q := w.heap.size + 1) (o := 0) (u := Value.int .i64 0) (by omega)).frozen 0
        simp only [List.getD_cons_zero] at c0 c1 c2
        go_wp2_with fail
        have hX := HX3.out.put (Value.iface T u) (Value.int .i64 0) (Value.int .i64 0)
        have r0 := hX.p0.cell 0 (by simp)
        have r1 := hX.p1.cell 0 (by simp)
        have r2 := hX.p2.cell 0 (by simp)
        simp only [List.getD_cons_zero] at r0 r1 r2
        refine leaves_cons (f := 89) (args := #[.pointer (some ⟨w.heap.size, 0, none⟩), .pointer (some ⟨w.heap.size + 1, 0, none⟩), .pointer (some ⟨w.heap.size + 1 + 1, 0, none⟩)]) (by simp) (by simp [go_sem]) ?_
        refine (catch89_idle _ _ _ _).mono ?_
        rintro e u' w'' ⟨rfl, rfl, rfl⟩
        exact ⟨.tuple #[.iface T u, .int .i64 0, .int .i64 0], by simp [results, Try.results66, go_sem, r0, r1, r2], HFIN.out _ _ hX⟩
      | some j =>
        obtain rfl := hs3 j hwh
        rw [pk_some h3 hok hwh] at HFIN
        clear hn3 hs3 hwh
        go_wp2_with fail
        refine leaves_cons (f := 89) (args := #[.pointer (some ⟨w.heap.size, 0, none⟩), .pointer (some ⟨w.heap.size + 1, 0, none⟩), .pointer (some ⟨w.heap.size + 1 + 1, 0, none⟩)]) (by simp) (by simp [go_sem]) ?_
        refine (catch89_panicking _ _ _ 2 (j : Int) [] w3 _ _ _ (HX3.out.p0.cell 0 (by simp)) (HX3.out.p1.cell 0 (by simp)) (HX3.out.p2.cell 0 (by simp)) (HX3.out.p0.frozen 0) (HX3.out.p1.frozen 0) (HX3.out.p2.frozen 0) (by omega) (by omega) (by omega)).mono ?_
        rintro e u' w'' ⟨rfl, rfl, w6, hb6, rfl⟩
        have hX := ((RB3.still HX3.out hb6).put .nilIface (.int .i64 2) (.int .i64 (j : Int))).drew
        have r0 := hX.p0.cell 0 (by simp)
        have r1 := hX.p1.cell 0 (by simp)
        have r2 := hX.p2.cell 0 (by simp)
        simp only [List.getD_cons_zero] at r0 r1 r2
        exact ⟨.tuple #[.nilIface, .int .i64 2, .int .i64 (j : Int)], by simp [results, Try.results66, go_sem, r0, r1, r2], HFIN.out _ _ hX⟩
/-- PlanOK, the program's. -/
theorem iPlan29 (rl : List Rw) (s : ByteArray) (v : Value) (w : World) (h : RLy w rl v) (hs : s.size ≤ maxLen) :
    Calls Try.prog 29 #[v, .string s] w fun e w' => e = .returned (.tuple #[.int .i64 (pkR rl s).1, .int .i64 (pkR rl s).2]) ∧ Below w.heap.size w w' := by
  have HCL := (show Hid _ from read66 rl s v w h hs)
  unfold RpA at HCL
  obtain ⟨ra, rc, rfl⟩ := h.form
  clear h
  go_enter Try.func29, Try.ntmps29
  go_wp2_with fail
  refine Calls.mono HCL.out ?_
  rintro e w1 ⟨hb1, u, rfl⟩
  have HB := (show Hid _ from hb1)
  clear hb1 HCL
  go_wp2_with fail
  exact bodyPost_ret (v := .tuple #[.int .i64 (pkR rl s).1, .int .i64 (pkR rl s).2]) (by simp [results, Try.results29, go_sem]) rfl ⟨rfl, HB.out⟩
end Go.Proofs.Yteomgkcgjkbppaa
