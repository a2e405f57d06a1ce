import Derived.Test.YtflhfimgeladaaaQp
import Derived.Test.YtflhfimgeladaaaTe
/-! What is marked is held; two packed tables are the same. -/
namespace Go.Proofs.Ytflhfimgeladaaa
open Go.RowKit Go.Deep
set_option linter.unusedVariables false
set_option maxRecDepth 100000
set_option linter.unusedSimpArgs false

set_option maxHeartbeats 3200000 in
theorem heldP_any (B : Nat) (u0 u1 u2 u3 : Value) (ra : List (Value × List (Int × Int))) (rg : List (Value × List Int)) (n2 n3 : Nat) (w : World) (h : ∀ e ∈ PMk 1 u0 u1 u2 u3 ra rg n2 n3, e.ok w B) (hla : ra.length ≤ 1048576) (hlg : rg.length ≤ 1048576) (hsa : ∀ p ∈ ra, p.2.length ≤ 1048576) (hsg : ∀ p ∈ rg, p.2.length ≤ 1048576) (hna : n2 ≤ 1048576) (hng : n3 ≤ 1048576) :
    Calls Try.prog 19 #[.agg #[u0, u1, u2, u3], .int .i64 1] w fun e w' => e = .returned (.int .i64 (1 + tot (ra.map entA) + tot (rg.map entI) + n2 + n3 : Nat)) ∧ Below w.heap.size w w' := by
  have hA0 : w.ownsRow B 69 1 u0 ra.length (ra.map (·.1)) := h (hdA u0 ra) (by simp [PMk])
  have hG0 : w.ownsRow B 46 1 u1 rg.length (rg.map (·.1)) := h (hdG u1 rg) (by simp [PMk])
  have hN2 : w.ownsRow B 3 1 u2 n2 (cntc (1 + tot (ra.map entA) + tot (rg.map entI)) n2) := h ⟨3, 1, u2, n2, cntc (1 + tot (ra.map entA) + tot (rg.map entI)) n2⟩ (by simp [PMk])
  have hN3 : w.ownsRow B 3 1 u3 n3 (cntc (1 + tot (ra.map entA) + tot (rg.map entI) + n2) n3) := h ⟨3, 1, u3, n3, cntc (1 + tot (ra.map entA) + tot (rg.map entI) + n2) n3⟩ (by simp [PMk])
  have hrA : ∀ e ∈ mkE 1 (ra.map entA), e.ok w B := fun e he => h e (by simp [PMk, he])
  have hrG : ∀ e ∈ mkE (1 + tot (ra.map entA)) (rg.map entI), e.ok w B := fun e he => h e (by simp [PMk, he])
  have htA := totA_le hla hsa
  have htG := totI_le hlg hsg
  have hb := bel_alloc w (.cells #[u0, u1, u2, u3] 48)
  have HC1 := (show Hid _ from heldRA_any B 1 u0 ra (w.alloc (.cells #[u0, u1, u2, u3] 48)) (own_still hA0 hb) (fun e he => own_still (hrA e he) hb) hla hsa (by omega))
  have HC2 := (show Hid _ from heldRI_any B (1 + tot (ra.map entA)) u1 rg (w.alloc (.cells #[u0, u1, u2, u3] 48)) (own_still hG0 hb) (fun e he => own_still (hrG e he) hb) hlg hsg (by omega))
  have HC3 := (show Hid _ from heldI_any B n2 (1 + tot (ra.map entA) + tot (rg.map entI)) u2 (w.alloc (.cells #[u0, u1, u2, u3] 48)) (own_still hN2 hb) hna (by omega))
  have HC4 := (show Hid _ from heldI_any B n3 (1 + tot (ra.map entA) + tot (rg.map entI) + n2) u3 (w.alloc (.cells #[u0, u1, u2, u3] 48)) (own_still hN3 hb) hng (by omega))
  obtain ⟨c0, c1, c2, c3⟩ := four_box w u0 u1 u2 u3 48
  have HB := (show Hid _ from hb)
  obtain ⟨p0, q0, _, rfl, _⟩ := own_cell hA0
  obtain ⟨p1, q1, _, rfl, _⟩ := own_cell hG0
  obtain ⟨p2, q2, _, rfl, _⟩ := own_cell hN2
  obtain ⟨p3, q3, _, rfl, _⟩ := own_cell hN3
  clear h hb hA0 hG0 hN2 hN3 hrA hrG
  generalize tot (ra.map entA) = tA at *
  generalize tot (rg.map entI) = tG at *
  obtain ⟨M1, hM1⟩ : ∃ M, 1 + tA = M := ⟨_, rfl⟩
  rw [hM1] at HC1 HC2 HC3 HC4 ⊢
  obtain ⟨M2, hM2⟩ : ∃ M, M1 + tG = M := ⟨_, rfl⟩
  rw [hM2] at HC2 HC3 HC4 ⊢
  obtain ⟨M3, hM3⟩ : ∃ M, M2 + n2 = M := ⟨_, rfl⟩
  rw [hM3] at HC3 HC4 ⊢
  obtain ⟨M4, hM4⟩ : ∃ M, M3 + n3 = M := ⟨_, rfl⟩
  rw [hM4] at HC4 ⊢
  have s1 : ¬ ((M1 : Int) < 0) := by omega
  have s2 : ¬ ((M2 : Int) < 0) := by omega
  have s3 : ¬ ((M3 : Int) < 0) := by omega
  have s4 : ¬ ((M4 : Int) < 0) := by omega
  clear hM1 hM2 hM3 hM4 htA htG
  go_enter Try.func19, Try.ntmps19
  go_wp2_with fail
  refine Calls.mono HC1.out ?_
  rintro e w1 ⟨rfl, rfl⟩
  go_wp2_with fail
  refine Calls.mono HC2.out ?_
  rintro e w1 ⟨rfl, rfl⟩
  go_wp2_with fail
  refine Calls.mono HC3.out ?_
  rintro e w1 ⟨rfl, rfl⟩
  go_wp2_with fail
  refine Calls.mono HC4.out ?_
  rintro e w1 ⟨rfl, rfl⟩
  clear c0 c1 c2 c3
  go_wp2_with fail
  go_ret
  exact ⟨rfl, HB.out⟩
/-- A packed table as data. -/
structure PL (w : World) (S : Nat → Prop) (R : PkD) (v0 v1 v2 v3 : Value) : Prop where
  acts : ARows w S R.1 v0
  gotos : IRows w S R.2.1 v1
  arow : Ints w S R.2.2.1 v2
  grow : Ints w S R.2.2.2 v3
theorem PL.still {w w' : World} {S : Nat → Prop} {R : PkD} {v0 v1 v2 v3 : Value} (h : PL w S R v0 v1 v2 v3) (hb : Below w.heap.size w w') : PL w' S R v0 v1 v2 v3 := ⟨h.acts.still hb, h.gotos.still hb, h.arow.still hb, h.grow.still hb⟩
theorem pl_of {w : World} {B : Nat} {u0 u1 u2 u3 : Value} {ra : List (Value × List (Int × Int))} {rg : List (Value × List Int)} {na ng : List Int} (h : ∀ e ∈ PEnt u0 u1 u2 u3 ra rg na ng [], e.ok w B) : PL w (fun b => B ≤ b) (ra.map (·.2), rg.map (·.2), na, ng) u0 u1 u2 u3 :=
  ⟨own_arows (h (hdA u0 ra) (by simp [PEnt])) (fun p hp => h _ (by simp only [PEnt, List.mem_append]; exact .inr (.inl (List.mem_map.2 ⟨p, hp, rfl⟩)))), own_irows (h (hdG u1 rg) (by simp [PEnt])) (fun p hp => h _ (by simp only [PEnt, List.mem_append]; exact .inr (.inr (.inr (.inl (List.mem_map.2 ⟨p, hp, rfl⟩)))))), own_ints (h (nmI u2 na) (by simp [PEnt])), own_ints (h (nmI u3 ng) (by simp [PEnt]))⟩
set_option maxHeartbeats 1600000 in
theorem eqP_any {S S' : Nat → Prop} (R : PkD) (v0 v1 v2 v3 u0 u1 u2 u3 : Value) (w : World) (h : PL w S R v0 v1 v2 v3) (h' : PL w S' R u0 u1 u2 u3) :
    Calls Try.prog 16 #[.agg #[v0, v1, v2, v3], .agg #[u0, u1, u2, u3]] w fun e w' => e = .returned (.bool true) ∧ Below w.heap.size w w' := by
  have hb0 := bel_trans (bel_alloc w (.cells #[v0, v1, v2, v3] 48)) (bel_alloc _ (.cells #[u0, u1, u2, u3] 48))
  have q1 := (four_box w v0 v1 v2 v3 48).still (bel_alloc _ (.cells #[u0, u1, u2, u3] 48))
  have q2 := four_box (w.alloc (.cells #[v0, v1, v2, v3] 48)) u0 u1 u2 u3 48
  simp only [World.size_alloc] at q2
  have HQ := (show Hid _ from fun (w' : World) (hb : Below ((w.alloc (.cells #[v0, v1, v2, v3] 48)).alloc (.cells #[u0, u1, u2, u3] 48)).heap.size ((w.alloc (.cells #[v0, v1, v2, v3] 48)).alloc (.cells #[u0, u1, u2, u3] 48)) w') => (⟨q1.still hb, q2.still hb, bel_trans hb0 hb⟩ : Four w' w.heap.size v0 v1 v2 v3 ∧ Four w' (w.heap.size + 1) u0 u1 u2 u3 ∧ Below w.heap.size w w'))
  have H1 := (show Hid _ from eqARows_any R.1 v0 u0 _ (h.acts.still hb0) (h'.acts.still hb0))
  have H2 := (show Hid _ from fun w' (hb : Below w.heap.size w w') => eqRows_any R.2.1 v1 u1 w' (h.gotos.still hb) (h'.gotos.still hb))
  have H3 := (show Hid _ from fun w' (hb : Below w.heap.size w w') => eqInts_any R.2.2.1 v2 u2 w' (h.arow.still hb) (h'.arow.still hb))
  have H4 := (show Hid _ from fun w' (hb : Below w.heap.size w w') => eqInts_any R.2.2.2 v3 u3 w' (h.grow.still hb) (h'.grow.still hb))
  obtain ⟨a0, d0, rfl, _⟩ := h.acts.form
  obtain ⟨a1, d1, rfl, _⟩ := h.gotos.form
  obtain ⟨a2, d2, rfl, _⟩ := h.arow.form
  obtain ⟨a3, d3, rfl, _⟩ := h.grow.form
  obtain ⟨b0, f0, rfl, _⟩ := h'.acts.form
  obtain ⟨b1, f1, rfl, _⟩ := h'.gotos.form
  obtain ⟨b2, f2, rfl, _⟩ := h'.arow.form
  obtain ⟨b3, f3, rfl, _⟩ := h'.grow.form
  clear h h' q1 q2 hb0
  obtain ⟨⟨c0, c1, c2, c3⟩, ⟨e0, e1, e2, e3⟩, _⟩ := HQ.out _ (Below.refl _ _)
  go_enter Try.func16, Try.ntmps16
  go_wp2_with fail
  refine Calls.mono H1.out ?_
  rintro e w1 ⟨rfl, hb1⟩
  have HB1 := (show Hid _ from hb1)
  clear c0 c1 c2 c3 e0 e1 e2 e3 hb1
  obtain ⟨⟨c0, c1, c2, c3⟩, ⟨e0, e1, e2, e3⟩, hw1⟩ := HQ.out _ HB1.out
  go_wp2_with fail
  refine Calls.mono (H2.out _ hw1) ?_
  rintro e w2 ⟨rfl, hb2⟩
  have HB2 := (show Hid _ from bel_trans HB1.out hb2)
  clear c0 c1 c2 c3 e0 e1 e2 e3 hb2 hw1
  obtain ⟨⟨c0, c1, c2, c3⟩, ⟨e0, e1, e2, e3⟩, hw2⟩ := HQ.out _ HB2.out
  go_wp2_with fail
  refine Calls.mono (H3.out _ hw2) ?_
  rintro e w3 ⟨rfl, hb3⟩
  have HB3 := (show Hid _ from bel_trans HB2.out hb3)
  clear c0 c1 c2 c3 e0 e1 e2 e3 hb3 hw2
  obtain ⟨⟨c0, c1, c2, c3⟩, ⟨e0, e1, e2, e3⟩, hw3⟩ := HQ.out _ HB3.out
  go_wp2_with fail
  refine Calls.mono (H4.out _ hw3) ?_
  rintro e w4 ⟨rfl, hb4⟩
  have HF := (show Hid _ from (HQ.out _ (bel_trans HB3.out hb4)).2.2)
  clear c0 c1 c2 c3 e0 e1 e2 e3 hb4 hw3
  go_wp2_with fail
  go_ret
  exact ⟨rfl, HF.out⟩
end Go.Proofs.Ytflhfimgeladaaa
