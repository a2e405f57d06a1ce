import Derived.Test.YtjpjjfgdgieapaaDoorWc
/-! The law's marks in what is known. -/
namespace Go.Proofs.YtjpjjfgdgieapaaDoor
open Go.RowKit Go.Deep
set_option linter.unusedVariables false
set_option maxRecDepth 100000
set_option linter.unusedSimpArgs false

/-- All seven rows, and theirs, bear marks, from k on. -/
structure FaM (w : World) (B k n0 n1 n2 n3 n4 : Nat) (RF RO : List (Value × List Int)) (u0 u1 u2 u3 u4 u5 u6 : Value) : Prop where
  m0 : w.ownsRow B 4 1 u0 n0 (cntb k n0)
  m1 : w.ownsRow B 4 1 u1 n1 (cntb (k + n0) n1)
  m2 : w.ownsRow B 4 1 u2 n2 (cntb (k + n0 + n1) n2)
  m3 : w.ownsRow B 4 1 u3 n3 (cntb (k + n0 + n1 + n2) n3)
  m4 : w.ownsRow B 3 1 u4 n4 (cntc (k + n0 + n1 + n2 + n3) n4)
  m5 : w.ownsRow B 29 1 u5 RF.length (RF.map (·.1))
  r5 : ∀ e ∈ mkE (k + n0 + n1 + n2 + n3 + n4) (RF.map entI), e.ok w B
  m6 : w.ownsRow B 29 1 u6 RO.length (RO.map (·.1))
  r6 : ∀ e ∈ mkE (k + n0 + n1 + n2 + n3 + n4 + tot (RF.map entI)) (RO.map entI), e.ok w B
theorem FaM.still {w w' : World} {B k n0 n1 n2 n3 n4 : Nat} {RF RO : List (Value × List Int)} {u0 u1 u2 u3 u4 u5 u6 : Value} (h : FaM w B k n0 n1 n2 n3 n4 RF RO u0 u1 u2 u3 u4 u5 u6) (hb : Below w.heap.size w w') : FaM w' B k n0 n1 n2 n3 n4 RF RO u0 u1 u2 u3 u4 u5 u6 :=
  ⟨al_still h.m0 hb, al_still h.m1 hb, al_still h.m2 hb, al_still h.m3 hb, al_still h.m4 hb, al_still h.m5 hb, fun e he => al_still (h.r5 e he) hb, al_still h.m6 hb, fun e he => al_still (h.r6 e he) hb⟩
theorem tot_entI {R : List (Value × List Int)} (hs : ∀ p ∈ R, p.2.length ≤ 1000) (hl : R.length ≤ 1000) : tot (R.map entI) ≤ 1000000 := by
  have h1 := tot_le (es := R.map entI) (m := 1000) (fun e he => by
    obtain ⟨p, hp, rfl⟩ := List.mem_map.1 he
    simpa [entI, encI] using hs p hp)
  rw [List.length_map] at h1
  have : R.length * 1000 ≤ 1000 * 1000 := Nat.mul_le_mul_right _ hl
  omega
set_option maxHeartbeats 6400000 in
theorem heldFacts_any (B k n0 n1 n2 n3 n4 : Nat) (RF RO : List (Value × List Int)) (u0 u1 u2 u3 u4 u5 u6 : Value) (w : World) (h : FaM w B k n0 n1 n2 n3 n4 RF RO u0 u1 u2 u3 u4 u5 u6) (h0 : n0 ≤ 1000) (h1 : n1 ≤ 1000) (h2 : n2 ≤ 1000) (h3 : n3 ≤ 1000) (h4 : n4 ≤ 1000) (h5 : RF.length ≤ 1000) (h6 : RO.length ≤ 1000) (hs5 : ∀ p ∈ RF, p.2.length ≤ 1000) (hs6 : ∀ p ∈ RO, p.2.length ≤ 1000) (hk : k ≤ 1000) :
    Calls Tryd.prog 12 #[.agg #[u0, u1, u2, u3, u4, u5, u6], .int .i64 k] w fun e w' => e = .returned (.int .i64 (k + n0 + n1 + n2 + n3 + n4 + tot (RF.map entI) + tot (RO.map entI) : Nat)) ∧ Below w.heap.size w w' := by
  have ht5 := tot_entI hs5 h5
  have ht6 := tot_entI hs6 h6
  obtain ⟨a0, c0, g0, rfl, _⟩ := own_cell h.m0
  obtain ⟨a1, c1, g1, rfl, _⟩ := own_cell h.m1
  obtain ⟨a2, c2, g2, rfl, _⟩ := own_cell h.m2
  obtain ⟨a3, c3, g3, rfl, _⟩ := own_cell h.m3
  obtain ⟨a4, c4, g4, rfl, _⟩ := own_cell h.m4
  obtain ⟨a5, c5, g5, rfl, _⟩ := own_cell h.m5
  obtain ⟨a6, c6, g6, rfl, _⟩ := own_cell h.m6
  have hb := bel_alloc w (.cells #[.slice a0 n0 c0, .slice a1 n1 c1, .slice a2 n2 c2, .slice a3 n3 c3, .slice a4 n4 c4, .slice a5 RF.length c5, .slice a6 RO.length c6] 32)
  have hx := Box.new w 32 [.slice a0 n0 c0, .slice a1 n1 c1, .slice a2 n2 c2, .slice a3 n3 c3, .slice a4 n4 c4, .slice a5 RF.length c5, .slice a6 RO.length c6]
  have hm := h.still hb
  have q0 := heldB_any B n0 k _ (w.alloc (.cells #[.slice a0 n0 c0, .slice a1 n1 c1, .slice a2 n2 c2, .slice a3 n3 c3, .slice a4 n4 c4, .slice a5 RF.length c5, .slice a6 RO.length c6] 32)) hm.m0 (by omega) (by omega)
  have q1 := heldB_any B n1 (k + n0) _ (w.alloc (.cells #[.slice a0 n0 c0, .slice a1 n1 c1, .slice a2 n2 c2, .slice a3 n3 c3, .slice a4 n4 c4, .slice a5 RF.length c5, .slice a6 RO.length c6] 32)) hm.m1 (by omega) (by omega)
  have q2 := heldB_any B n2 (k + n0 + n1) _ (w.alloc (.cells #[.slice a0 n0 c0, .slice a1 n1 c1, .slice a2 n2 c2, .slice a3 n3 c3, .slice a4 n4 c4, .slice a5 RF.length c5, .slice a6 RO.length c6] 32)) hm.m2 (by omega) (by omega)
  have q3 := heldB_any B n3 (k + n0 + n1 + n2) _ (w.alloc (.cells #[.slice a0 n0 c0, .slice a1 n1 c1, .slice a2 n2 c2, .slice a3 n3 c3, .slice a4 n4 c4, .slice a5 RF.length c5, .slice a6 RO.length c6] 32)) hm.m3 (by omega) (by omega)
  have q4 := heldI_any B n4 (k + n0 + n1 + n2 + n3) _ (w.alloc (.cells #[.slice a0 n0 c0, .slice a1 n1 c1, .slice a2 n2 c2, .slice a3 n3 c3, .slice a4 n4 c4, .slice a5 RF.length c5, .slice a6 RO.length c6] 32)) hm.m4 (by omega) (by omega)
  have q5 := heldRI_any B (k + n0 + n1 + n2 + n3 + n4) _ RF (w.alloc (.cells #[.slice a0 n0 c0, .slice a1 n1 c1, .slice a2 n2 c2, .slice a3 n3 c3, .slice a4 n4 c4, .slice a5 RF.length c5, .slice a6 RO.length c6] 32)) hm.m5 hm.r5 (by omega) (fun p hp => by have := hs5 p hp; omega) (by omega)
  have q6 := heldRI_any B (k + n0 + n1 + n2 + n3 + n4 + tot (RF.map entI)) _ RO (w.alloc (.cells #[.slice a0 n0 c0, .slice a1 n1 c1, .slice a2 n2 c2, .slice a3 n3 c3, .slice a4 n4 c4, .slice a5 RF.length c5, .slice a6 RO.length c6] 32)) hm.m6 hm.r6 (by omega) (fun p hp => by have := hs6 p hp; omega) (by omega)
  obtain ⟨k1, e1⟩ : ∃ x, k + n0 = x := ⟨_, rfl⟩
  rw [e1] at q0
  rw [e1] at q1
  rw [e1] at q2
  rw [e1] at q3
  rw [e1] at q4
  rw [e1] at q5
  rw [e1] at q6
  rw [e1]
  obtain ⟨k2, e2⟩ : ∃ x, k1 + n1 = x := ⟨_, rfl⟩
  rw [e2] at q1
  rw [e2] at q2
  rw [e2] at q3
  rw [e2] at q4
  rw [e2] at q5
  rw [e2] at q6
  rw [e2]
  obtain ⟨k3, e3⟩ : ∃ x, k2 + n2 = x := ⟨_, rfl⟩
  rw [e3] at q2
  rw [e3] at q3
  rw [e3] at q4
  rw [e3] at q5
  rw [e3] at q6
  rw [e3]
  obtain ⟨k4, e4⟩ : ∃ x, k3 + n3 = x := ⟨_, rfl⟩
  rw [e4] at q3
  rw [e4] at q4
  rw [e4] at q5
  rw [e4] at q6
  rw [e4]
  obtain ⟨k5, e5⟩ : ∃ x, k4 + n4 = x := ⟨_, rfl⟩
  rw [e5] at q4
  rw [e5] at q5
  rw [e5] at q6
  rw [e5]
  obtain ⟨k6, e6⟩ : ∃ x, k5 + tot (RF.map entI) = x := ⟨_, rfl⟩
  rw [e6] at q5
  rw [e6] at q6
  rw [e6]
  obtain ⟨k7, e7⟩ : ∃ x, k6 + tot (RO.map entI) = x := ⟨_, rfl⟩
  rw [e7] at q6
  rw [e7]
  have l1 : k1 ≤ 3000000 := by omega
  have l2 : k2 ≤ 3000000 := by omega
  have l3 : k3 ≤ 3000000 := by omega
  have l4 : k4 ≤ 3000000 := by omega
  have l5 : k5 ≤ 3000000 := by omega
  have l6 : k6 ≤ 3000000 := by omega
  have l7 : k7 ≤ 3000000 := by omega
  have Q0 := (show Hid _ from q0)
  have Q1 := (show Hid _ from q1)
  have Q2 := (show Hid _ from q2)
  have Q3 := (show Hid _ from q3)
  have Q4 := (show Hid _ from q4)
  have Q5 := (show Hid _ from q5)
  have Q6 := (show Hid _ from q6)
  have HB := (show Hid _ from hb)
  have x0 : (w.alloc (.cells #[.slice a0 n0 c0, .slice a1 n1 c1, .slice a2 n2 c2, .slice a3 n3 c3, .slice a4 n4 c4, .slice a5 RF.length c5, .slice a6 RO.length c6] 32)).cell? ⟨w.heap.size, 0, none⟩ = some (.slice a0 n0 c0) := hx.cell 0 (by simp)
  have x1 : (w.alloc (.cells #[.slice a0 n0 c0, .slice a1 n1 c1, .slice a2 n2 c2, .slice a3 n3 c3, .slice a4 n4 c4, .slice a5 RF.length c5, .slice a6 RO.length c6] 32)).cell? ⟨w.heap.size, 1, none⟩ = some (.slice a1 n1 c1) := hx.cell 1 (by simp)
  have x2 : (w.alloc (.cells #[.slice a0 n0 c0, .slice a1 n1 c1, .slice a2 n2 c2, .slice a3 n3 c3, .slice a4 n4 c4, .slice a5 RF.length c5, .slice a6 RO.length c6] 32)).cell? ⟨w.heap.size, 2, none⟩ = some (.slice a2 n2 c2) := hx.cell 2 (by simp)
  have x3 : (w.alloc (.cells #[.slice a0 n0 c0, .slice a1 n1 c1, .slice a2 n2 c2, .slice a3 n3 c3, .slice a4 n4 c4, .slice a5 RF.length c5, .slice a6 RO.length c6] 32)).cell? ⟨w.heap.size, 3, none⟩ = some (.slice a3 n3 c3) := hx.cell 3 (by simp)
  have x4 : (w.alloc (.cells #[.slice a0 n0 c0, .slice a1 n1 c1, .slice a2 n2 c2, .slice a3 n3 c3, .slice a4 n4 c4, .slice a5 RF.length c5, .slice a6 RO.length c6] 32)).cell? ⟨w.heap.size, 4, none⟩ = some (.slice a4 n4 c4) := hx.cell 4 (by simp)
  have x5 : (w.alloc (.cells #[.slice a0 n0 c0, .slice a1 n1 c1, .slice a2 n2 c2, .slice a3 n3 c3, .slice a4 n4 c4, .slice a5 RF.length c5, .slice a6 RO.length c6] 32)).cell? ⟨w.heap.size, 5, none⟩ = some (.slice a5 RF.length c5) := hx.cell 5 (by simp)
  have x6 : (w.alloc (.cells #[.slice a0 n0 c0, .slice a1 n1 c1, .slice a2 n2 c2, .slice a3 n3 c3, .slice a4 n4 c4, .slice a5 RF.length c5, .slice a6 RO.length c6] 32)).cell? ⟨w.heap.size, 6, none⟩ = some (.slice a6 RO.length c6) := hx.cell 6 (by simp)
  clear h hb hx hm ht5 ht6 q0 e1 q1 e2 q2 e3 q3 e4 q4 e5 q5 e6 q6 e7
  go_enter Tryd.func12, Tryd.ntmps12
  go_wp2_with fail
  refine Calls.mono Q0.out ?_
  rintro e w0 ⟨rfl, hw⟩
  rw [hw]
  clear hw w0
  go_wp2_with fail
  refine Calls.mono Q1.out ?_
  rintro e w1 ⟨rfl, hw⟩
  rw [hw]
  clear hw w1
  go_wp2_with fail
  refine Calls.mono Q2.out ?_
  rintro e w2 ⟨rfl, hw⟩
  rw [hw]
  clear hw w2
  go_wp2_with fail
  refine Calls.mono Q3.out ?_
  rintro e w3 ⟨rfl, hw⟩
  rw [hw]
  clear hw w3
  go_wp2_with fail
  refine Calls.mono Q4.out ?_
  rintro e w4 ⟨rfl, hw⟩
  rw [hw]
  clear hw w4
  go_wp2_with fail
  refine Calls.mono Q5.out ?_
  rintro e w5 ⟨rfl, hw⟩
  rw [hw]
  clear hw w5
  go_wp2_with fail
  refine Calls.mono Q6.out ?_
  rintro e w6 ⟨rfl, hw⟩
  rw [hw]
  clear hw w6
  go_wp2_with fail
  go_ret
  exact ⟨rfl, HB.out⟩
end Go.Proofs.YtjpjjfgdgieapaaDoor

/-! The law's marks: markFacts. -/
namespace Go.Proofs.YtjpjjfgdgieapaaDoor
open Go.RowKit Go.Deep
set_option linter.unusedVariables false
set_option maxRecDepth 100000
set_option linter.unusedSimpArgs false

theorem Own.turn {w : World} {B : Nat} {e : Ent} {l : List Ent} (h : Own w B (e :: l)) : Own w B (l ++ [e]) := h.perm (List.perm_append_singleton _ _).symm
set_option maxHeartbeats 12800000 in
theorem markFacts_any (B k n0 n1 n2 n3 n4 : Nat) (RF RO : List (Value × List Int)) (s0 s1 s2 s3 s4 : List Value) (fs : List Ent) (u0 u1 u2 u3 u4 u5 u6 : Value) (w : World) (h : Own w B (⟨4, 1, u0, n0, s0⟩ :: ⟨4, 1, u1, n1, s1⟩ :: ⟨4, 1, u2, n2, s2⟩ :: ⟨4, 1, u3, n3, s3⟩ :: ⟨3, 1, u4, n4, s4⟩ :: ⟨29, 1, u5, RF.length, (RF.map (fun p : Value × List Int => p.1))⟩ :: ⟨29, 1, u6, RO.length, (RO.map (fun p : Value × List Int => p.1))⟩   :: (RF.map entI ++ (RO.map entI ++ fs)))) (hBw : B ≤ w.heap.size) (h0 : n0 ≤ 1000) (h1 : n1 ≤ 1000) (h2 : n2 ≤ 1000) (h3 : n3 ≤ 1000) (h4 : n4 ≤ 1000) (h5 : RF.length ≤ 1000) (h6 : RO.length ≤ 1000) (hs5 : ∀ p ∈ RF, p.2.length ≤ 1000) (hs6 : ∀ p ∈ RO, p.2.length ≤ 1000) (hk : k ≤ 1000) :
    Calls Tryd.prog 11 #[.agg #[u0, u1, u2, u3, u4, u5, u6], .int .i64 k] w fun e w' => e = .returned (.int .i64 (k + n0 + n1 + n2 + n3 + n4 + tot (RF.map entI) + tot (RO.map entI) : Nat)) ∧ Below B w w' ∧ FaM w' B k n0 n1 n2 n3 n4 RF RO u0 u1 u2 u3 u4 u5 u6 ∧ ∀ e ∈ fs, e.ok w' B := by
  have ht5 := tot_entI hs5 h5
  have ht6 := tot_entI hs6 h6
  obtain ⟨a0, c0, rfl⟩ : ∃ a c, u0 = .slice a n0 c := by
    obtain ⟨a, c, _, e, _⟩ := own_cell (show World.ownsRow w B 4 1 u0 n0 s0 from h.ok ⟨4, 1, u0, n0, s0⟩ (by simp))
    exact ⟨a, c, e⟩
  obtain ⟨a1, c1, rfl⟩ : ∃ a c, u1 = .slice a n1 c := by
    obtain ⟨a, c, _, e, _⟩ := own_cell (show World.ownsRow w B 4 1 u1 n1 s1 from h.ok ⟨4, 1, u1, n1, s1⟩ (by simp))
    exact ⟨a, c, e⟩
  obtain ⟨a2, c2, rfl⟩ : ∃ a c, u2 = .slice a n2 c := by
    obtain ⟨a, c, _, e, _⟩ := own_cell (show World.ownsRow w B 4 1 u2 n2 s2 from h.ok ⟨4, 1, u2, n2, s2⟩ (by simp))
    exact ⟨a, c, e⟩
  obtain ⟨a3, c3, rfl⟩ : ∃ a c, u3 = .slice a n3 c := by
    obtain ⟨a, c, _, e, _⟩ := own_cell (show World.ownsRow w B 4 1 u3 n3 s3 from h.ok ⟨4, 1, u3, n3, s3⟩ (by simp))
    exact ⟨a, c, e⟩
  obtain ⟨a4, c4, rfl⟩ : ∃ a c, u4 = .slice a n4 c := by
    obtain ⟨a, c, _, e, _⟩ := own_cell (show World.ownsRow w B 3 1 u4 n4 s4 from h.ok ⟨3, 1, u4, n4, s4⟩ (by simp))
    exact ⟨a, c, e⟩
  obtain ⟨a5, c5, rfl⟩ : ∃ a c, u5 = .slice a RF.length c := by
    obtain ⟨a, c, _, e, _⟩ := own_cell (show World.ownsRow w B 29 1 u5 RF.length (RF.map (fun p : Value × List Int => p.1)) from h.ok ⟨29, 1, u5, RF.length, (RF.map (fun p : Value × List Int => p.1))⟩ (by simp))
    exact ⟨a, c, e⟩
  obtain ⟨a6, c6, rfl⟩ : ∃ a c, u6 = .slice a RO.length c := by
    obtain ⟨a, c, _, e, _⟩ := own_cell (show World.ownsRow w B 29 1 u6 RO.length (RO.map (fun p : Value × List Int => p.1)) from h.ok ⟨29, 1, u6, RO.length, (RO.map (fun p : Value × List Int => p.1))⟩ (by simp))
    exact ⟨a, c, e⟩
  have hb := bel_alloc w (.cells #[.slice a0 n0 c0, .slice a1 n1 c1, .slice a2 n2 c2, .slice a3 n3 c3, .slice a4 n4 c4, .slice a5 RF.length c5, .slice a6 RO.length c6] 32)
  have hO := (h.box #[.slice a0 n0 c0, .slice a1 n1 c1, .slice a2 n2 c2, .slice a3 n3 c3, .slice a4 n4 c4, .slice a5 RF.length c5, .slice a6 RO.length c6] (T := 32) (k := 7) hBw rfl).turn
  simp only [List.cons_append, List.append_assoc] at hO
  have hO2 : Own (w.alloc (.cells #[.slice a0 n0 c0, .slice a1 n1 c1, .slice a2 n2 c2, .slice a3 n3 c3, .slice a4 n4 c4, .slice a5 RF.length c5, .slice a6 RO.length c6] 32)) B (⟨4, 1, .slice a0 n0 c0, n0, s0⟩ :: ⟨4, 1, .slice a1 n1 c1, n1, s1⟩ :: ⟨4, 1, .slice a2 n2 c2, n2, s2⟩ :: ⟨4, 1, .slice a3 n3 c3, n3, s3⟩ :: ⟨3, 1, .slice a4 n4 c4, n4, s4⟩ :: ⟨29, 1, .slice a5 RF.length c5, RF.length, (RF.map (fun p : Value × List Int => p.1))⟩ :: (RF.map entI ++ ⟨29, 1, .slice a6 RO.length c6, RO.length, (RO.map (fun p : Value × List Int => p.1))⟩ :: (RO.map entI ++ (fs ++ [bx 32 7 w.heap.size [.slice a0 n0 c0, .slice a1 n1 c1, .slice a2 n2 c2, .slice a3 n3 c3, .slice a4 n4 c4, .slice a5 RF.length c5, .slice a6 RO.length c6]])))) := hO.perm (List.Perm.cons _ (List.Perm.cons _ (List.Perm.cons _ (List.Perm.cons _ (List.Perm.cons _ (List.Perm.cons _ (List.perm_middle).symm))))))
  have HO0 := (show Hid _ from hO2)
  have HB0 := (show Hid (Below B w (w.alloc (.cells #[.slice a0 n0 c0, .slice a1 n1 c1, .slice a2 n2 c2, .slice a3 n3 c3, .slice a4 n4 c4, .slice a5 RF.length c5, .slice a6 RO.length c6] 32)) ∧ B ≤ (w.alloc (.cells #[.slice a0 n0 c0, .slice a1 n1 c1, .slice a2 n2 c2, .slice a3 n3 c3, .slice a4 n4 c4, .slice a5 RF.length c5, .slice a6 RO.length c6] 32)).heap.size) from ⟨hb.mono hBw, Nat.le_trans hBw hb.size⟩)
  obtain ⟨k1, e1⟩ : ∃ x, k + n0 = x := ⟨_, rfl⟩
  rw [e1]
  obtain ⟨k2, e2⟩ : ∃ x, k1 + n1 = x := ⟨_, rfl⟩
  rw [e2]
  obtain ⟨k3, e3⟩ : ∃ x, k2 + n2 = x := ⟨_, rfl⟩
  rw [e3]
  obtain ⟨k4, e4⟩ : ∃ x, k3 + n3 = x := ⟨_, rfl⟩
  rw [e4]
  obtain ⟨k5, e5⟩ : ∃ x, k4 + n4 = x := ⟨_, rfl⟩
  rw [e5]
  obtain ⟨k6, e6⟩ : ∃ x, k5 + tot (RF.map entI) = x := ⟨_, rfl⟩
  rw [e6]
  obtain ⟨k7, e7⟩ : ∃ x, k6 + tot (RO.map entI) = x := ⟨_, rfl⟩
  rw [e7]
  have l1 : k1 ≤ 3000000 := by omega
  have l2 : k2 ≤ 3000000 := by omega
  have l3 : k3 ≤ 3000000 := by omega
  have l4 : k4 ≤ 3000000 := by omega
  have l5 : k5 ≤ 3000000 := by omega
  have l6 : k6 ≤ 3000000 := by omega
  have l7 : k7 ≤ 3000000 := by omega
  have E1 := (show Hid _ from e1)
  have E2 := (show Hid _ from e2)
  have E3 := (show Hid _ from e3)
  have E4 := (show Hid _ from e4)
  have E5 := (show Hid _ from e5)
  have E6 := (show Hid _ from e6)
  have E7 := (show Hid _ from e7)
  have x0 : (w.alloc (.cells #[.slice a0 n0 c0, .slice a1 n1 c1, .slice a2 n2 c2, .slice a3 n3 c3, .slice a4 n4 c4, .slice a5 RF.length c5, .slice a6 RO.length c6] 32)).cell? ⟨w.heap.size, 0, none⟩ = some (.slice a0 n0 c0) := bx_cell (HO0.out.ok (bx 32 7 w.heap.size [.slice a0 n0 c0, .slice a1 n1 c1, .slice a2 n2 c2, .slice a3 n3 c3, .slice a4 n4 c4, .slice a5 RF.length c5, .slice a6 RO.length c6]) (by simp)) rfl
  have HS5 := (show Hid _ from hs5)
  have HS6 := (show Hid _ from hs6)
  clear h hb hO hO2 ht5 ht6 hs5 hs6 hBw e1 e2 e3 e4 e5 e6 e7
  have Q0 := (show Hid _ from (markB_any B n0 k _ s0 (w.alloc (.cells #[.slice a0 n0 c0, .slice a1 n1 c1, .slice a2 n2 c2, .slice a3 n3 c3, .slice a4 n4 c4, .slice a5 RF.length c5, .slice a6 RO.length c6] 32)) (HO0.out.ok _ (List.mem_cons_self ..)) (by omega) (by omega)))
  rw [E1.out] at Q0
  go_enter Tryd.func11, Tryd.ntmps11
  go_wp2_with fail
  refine Calls.mono Q0.out ?_
  rintro e w1 ⟨rfl, hg, hok⟩
  have HB1 := (show Hid (Below B w w1 ∧ B ≤ w1.heap.size) from ⟨HB0.out.1.grown hg HB0.out.2 (fun q hq => (HO0.out.ok _ (List.mem_cons_self ..)).lt q hq |>.1), Nat.le_trans HB0.out.2 hg.size⟩)
  have hO := (HO0.out.grow (e' := ⟨4, 1, .slice a0 n0 c0, n0, (cntb k n0)⟩) hg hok (fun q hq => .inl hq)).turn
  simp only [List.cons_append, List.append_assoc] at hO
  have HO1 := (show Hid _ from hO)
  clear hg hok hO HO0 HB0 Q0 x0
  have x1 : w1.cell? ⟨w.heap.size, 1, none⟩ = some (.slice a1 n1 c1) := bx_cell (HO1.out.ok (bx 32 7 w.heap.size [.slice a0 n0 c0, .slice a1 n1 c1, .slice a2 n2 c2, .slice a3 n3 c3, .slice a4 n4 c4, .slice a5 RF.length c5, .slice a6 RO.length c6]) (by simp)) rfl
  have Q1 := (show Hid _ from (markB_any B n1 k1 _ s1 w1 (HO1.out.ok _ (List.mem_cons_self ..)) (by omega) (by omega)))
  rw [E2.out] at Q1
  go_wp2_with fail
  refine Calls.mono Q1.out ?_
  rintro e w2 ⟨rfl, hg, hok⟩
  have HB2 := (show Hid (Below B w w2 ∧ B ≤ w2.heap.size) from ⟨HB1.out.1.grown hg HB1.out.2 (fun q hq => (HO1.out.ok _ (List.mem_cons_self ..)).lt q hq |>.1), Nat.le_trans HB1.out.2 hg.size⟩)
  have hO := (HO1.out.grow (e' := ⟨4, 1, .slice a1 n1 c1, n1, (cntb k1 n1)⟩) hg hok (fun q hq => .inl hq)).turn
  simp only [List.cons_append, List.append_assoc] at hO
  have HO2 := (show Hid _ from hO)
  clear hg hok hO HO1 HB1 Q1 x1
  have x2 : w2.cell? ⟨w.heap.size, 2, none⟩ = some (.slice a2 n2 c2) := bx_cell (HO2.out.ok (bx 32 7 w.heap.size [.slice a0 n0 c0, .slice a1 n1 c1, .slice a2 n2 c2, .slice a3 n3 c3, .slice a4 n4 c4, .slice a5 RF.length c5, .slice a6 RO.length c6]) (by simp)) rfl
  have Q2 := (show Hid _ from (markB_any B n2 k2 _ s2 w2 (HO2.out.ok _ (List.mem_cons_self ..)) (by omega) (by omega)))
  rw [E3.out] at Q2
  go_wp2_with fail
  refine Calls.mono Q2.out ?_
  rintro e w3 ⟨rfl, hg, hok⟩
  have HB3 := (show Hid (Below B w w3 ∧ B ≤ w3.heap.size) from ⟨HB2.out.1.grown hg HB2.out.2 (fun q hq => (HO2.out.ok _ (List.mem_cons_self ..)).lt q hq |>.1), Nat.le_trans HB2.out.2 hg.size⟩)
  have hO := (HO2.out.grow (e' := ⟨4, 1, .slice a2 n2 c2, n2, (cntb k2 n2)⟩) hg hok (fun q hq => .inl hq)).turn
  simp only [List.cons_append, List.append_assoc] at hO
  have HO3 := (show Hid _ from hO)
  clear hg hok hO HO2 HB2 Q2 x2
  have x3 : w3.cell? ⟨w.heap.size, 3, none⟩ = some (.slice a3 n3 c3) := bx_cell (HO3.out.ok (bx 32 7 w.heap.size [.slice a0 n0 c0, .slice a1 n1 c1, .slice a2 n2 c2, .slice a3 n3 c3, .slice a4 n4 c4, .slice a5 RF.length c5, .slice a6 RO.length c6]) (by simp)) rfl
  have Q3 := (show Hid _ from (markB_any B n3 k3 _ s3 w3 (HO3.out.ok _ (List.mem_cons_self ..)) (by omega) (by omega)))
  rw [E4.out] at Q3
  go_wp2_with fail
  refine Calls.mono Q3.out ?_
  rintro e w4 ⟨rfl, hg, hok⟩
  have HB4 := (show Hid (Below B w w4 ∧ B ≤ w4.heap.size) from ⟨HB3.out.1.grown hg HB3.out.2 (fun q hq => (HO3.out.ok _ (List.mem_cons_self ..)).lt q hq |>.1), Nat.le_trans HB3.out.2 hg.size⟩)
  have hO := (HO3.out.grow (e' := ⟨4, 1, .slice a3 n3 c3, n3, (cntb k3 n3)⟩) hg hok (fun q hq => .inl hq)).turn
  simp only [List.cons_append, List.append_assoc] at hO
  have HO4 := (show Hid _ from hO)
  clear hg hok hO HO3 HB3 Q3 x3
  have x4 : w4.cell? ⟨w.heap.size, 4, none⟩ = some (.slice a4 n4 c4) := bx_cell (HO4.out.ok (bx 32 7 w.heap.size [.slice a0 n0 c0, .slice a1 n1 c1, .slice a2 n2 c2, .slice a3 n3 c3, .slice a4 n4 c4, .slice a5 RF.length c5, .slice a6 RO.length c6]) (by simp)) rfl
  have Q4 := (show Hid _ from (markI_any B n4 k4 _ s4 w4 (HO4.out.ok _ (List.mem_cons_self ..)) (by omega) (by omega)))
  rw [E5.out] at Q4
  go_wp2_with fail
  refine Calls.mono Q4.out ?_
  rintro e w5 ⟨rfl, hg, hok⟩
  have HB5 := (show Hid (Below B w w5 ∧ B ≤ w5.heap.size) from ⟨HB4.out.1.grown hg HB4.out.2 (fun q hq => (HO4.out.ok _ (List.mem_cons_self ..)).lt q hq |>.1), Nat.le_trans HB4.out.2 hg.size⟩)
  have hO := (HO4.out.grow (e' := ⟨3, 1, .slice a4 n4 c4, n4, (cntc k4 n4)⟩) hg hok (fun q hq => .inl hq)).turn
  simp only [List.cons_append, List.append_assoc] at hO
  have HO5 := (show Hid _ from hO)
  clear hg hok hO HO4 HB4 Q4 x4
  have x5 : w5.cell? ⟨w.heap.size, 5, none⟩ = some (.slice a5 RF.length c5) := bx_cell (HO5.out.ok (bx 32 7 w.heap.size [.slice a0 n0 c0, .slice a1 n1 c1, .slice a2 n2 c2, .slice a3 n3 c3, .slice a4 n4 c4, .slice a5 RF.length c5, .slice a6 RO.length c6]) (by simp)) rfl
  have Q5 := (show Hid _ from (markRI_any B k5 _ RF _ w5 HO5.out (by omega) (fun p hp => by have := HS5.out p hp; omega) HB5.out.2 (by omega)))
  rw [E6.out] at Q5
  go_wp2_with fail
  refine Calls.mono Q5.out ?_
  rintro e w6 ⟨rfl, hb, hO⟩
  have HB6 := (show Hid (Below B w w6 ∧ B ≤ w6.heap.size) from ⟨HB5.out.1.trans hb, Nat.le_trans HB5.out.2 hb.size⟩)
  have hO2 : Own w6 B ((⟨29, 1, .slice a5 RF.length c5, RF.length, (RF.map (fun p : Value × List Int => p.1))⟩ :: mkE k5 (RF.map entI)) ++ (⟨29, 1, .slice a6 RO.length c6, RO.length, (RO.map (fun p : Value × List Int => p.1))⟩ :: (RO.map entI ++ (fs ++ [bx 32 7 w.heap.size [.slice a0 n0 c0, .slice a1 n1 c1, .slice a2 n2 c2, .slice a3 n3 c3, .slice a4 n4 c4, .slice a5 RF.length c5, .slice a6 RO.length c6], ⟨4, 1, .slice a0 n0 c0, n0, (cntb k n0)⟩, ⟨4, 1, .slice a1 n1 c1, n1, (cntb k1 n1)⟩, ⟨4, 1, .slice a2 n2 c2, n2, (cntb k2 n2)⟩, ⟨4, 1, .slice a3 n3 c3, n3, (cntb k3 n3)⟩, ⟨3, 1, .slice a4 n4 c4, n4, (cntc k4 n4)⟩])))) := by simpa using hO
  have hO3 : Own w6 B (⟨29, 1, .slice a6 RO.length c6, RO.length, (RO.map (fun p : Value × List Int => p.1))⟩ :: (RO.map entI ++ ((fs ++ [bx 32 7 w.heap.size [.slice a0 n0 c0, .slice a1 n1 c1, .slice a2 n2 c2, .slice a3 n3 c3, .slice a4 n4 c4, .slice a5 RF.length c5, .slice a6 RO.length c6], ⟨4, 1, .slice a0 n0 c0, n0, (cntb k n0)⟩, ⟨4, 1, .slice a1 n1 c1, n1, (cntb k1 n1)⟩, ⟨4, 1, .slice a2 n2 c2, n2, (cntb k2 n2)⟩, ⟨4, 1, .slice a3 n3 c3, n3, (cntb k3 n3)⟩, ⟨3, 1, .slice a4 n4 c4, n4, (cntc k4 n4)⟩]) ++ (⟨29, 1, .slice a5 RF.length c5, RF.length, (RF.map (fun p : Value × List Int => p.1))⟩ :: mkE k5 (RF.map entI))))) := by
    have h9 := hO2.perm List.perm_append_comm
    rw [List.cons_append, List.append_assoc] at h9
    exact h9
  have HO6 := (show Hid _ from hO3)
  clear hb hO hO2 hO3 HO5 HB5 Q5 x5
  have x6 : w6.cell? ⟨w.heap.size, 6, none⟩ = some (.slice a6 RO.length c6) := bx_cell (HO6.out.ok (bx 32 7 w.heap.size [.slice a0 n0 c0, .slice a1 n1 c1, .slice a2 n2 c2, .slice a3 n3 c3, .slice a4 n4 c4, .slice a5 RF.length c5, .slice a6 RO.length c6]) (by simp)) rfl
  have Q6 := (show Hid _ from (markRI_any B k6 _ RO _ w6 HO6.out (by omega) (fun p hp => by have := HS6.out p hp; omega) HB6.out.2 (by omega)))
  rw [E7.out] at Q6
  go_wp2_with fail
  refine Calls.mono Q6.out ?_
  rintro e w7 ⟨rfl, hb, hO⟩
  have HF : Hid (Below B w w7 ∧ FaM w7 B k n0 n1 n2 n3 n4 RF RO (.slice a0 n0 c0) (.slice a1 n1 c1) (.slice a2 n2 c2) (.slice a3 n3 c3) (.slice a4 n4 c4) (.slice a5 RF.length c5) (.slice a6 RO.length c6) ∧ ∀ e ∈ fs, e.ok w7 B) := by
    have E1 := E1.out
    have E2 := E2.out
    have E3 := E3.out
    have E4 := E4.out
    have E5 := E5.out
    have E6 := E6.out
    subst E1
    subst E2
    subst E3
    subst E4
    subst E5
    subst E6
    refine ⟨HB6.out.1.trans hb, ⟨?_, ?_, ?_, ?_, ?_, ?_, fun e he => hO.ok e (by simp [he]), ?_, fun e he => hO.ok e (by simp [he])⟩, fun e he => hO.ok e (by simp [he])⟩
    · exact hO.ok ⟨4, 1, .slice a0 n0 c0, n0, (cntb k n0)⟩ (by simp)
    · exact hO.ok ⟨4, 1, .slice a1 n1 c1, n1, (cntb (k + n0) n1)⟩ (by simp)
    · exact hO.ok ⟨4, 1, .slice a2 n2 c2, n2, (cntb (k + n0 + n1) n2)⟩ (by simp)
    · exact hO.ok ⟨4, 1, .slice a3 n3 c3, n3, (cntb (k + n0 + n1 + n2) n3)⟩ (by simp)
    · exact hO.ok ⟨3, 1, .slice a4 n4 c4, n4, (cntc (k + n0 + n1 + n2 + n3) n4)⟩ (by simp)
    · exact hO.ok ⟨29, 1, .slice a5 RF.length c5, RF.length, (RF.map (fun p : Value × List Int => p.1))⟩ (by simp)
    · exact hO.ok ⟨29, 1, .slice a6 RO.length c6, RO.length, (RO.map (fun p : Value × List Int => p.1))⟩ (by simp)
  clear hb hO HO6 HB6 Q6 x6
  go_wp2_with fail
  go_ret
  exact ⟨rfl, HF.out⟩
end Go.Proofs.YtjpjjfgdgieapaaDoor
