import Derived.Test.YtkkhdkfmaopmfaaSl
/-! The specification: Places. -/
namespace Go.Proofs.Ytkkhdkfmaopmfaa
open Go.RowKit Go.Deep Go.Lib
set_option linter.unusedVariables false
set_option maxRecDepth 100000
set_option linter.unusedSimpArgs false

/-- What the specification's Places leaves. -/
def SqA (p t : Tr) (w : World) (e : Ending) (w' : World) : Prop :=
  ∃ (g c : Nat) (vs : Nat → Value), e = .returned (.tuple #[.slice (some ⟨g, 0, none⟩) (plR p t).1.length c, .int .i64 (plR p t).2]) ∧ Below w.heap.size w w' ∧ RS w' w.heap.size (plR p t).1 (.slice (some ⟨g, 0, none⟩) (plR p t).1.length c) vs
set_option maxHeartbeats 3200000 in
theorem sPlaces21 (p t : Tr) (pv tv : Value) (w : World) (hp : Lies w (fun _ => True) p pv) (ht : Lies w (fun _ => True) t tv) :
    Calls Try.prog 21 #[p.val pv, t.val tv] w (SqA p t w) := by
  obtain ⟨pa, pl, pc, rfl⟩ := hp.form
  obtain ⟨ta, tl, tc, rfl⟩ := ht.form
  have HPT := (show Hid (∀ wq : World, Below w.heap.size w wq → Calls Try.prog 32 #[p.val (.slice pa pl pc)] wq fun e w' => e = .returned (.bool (patB p)) ∧ Below wq.heap.size wq w') from fun wq h => pat32 p _ wq (hp.still h))
  have HOK := (show Hid (∀ wq : World, Below w.heap.size w wq → Calls Try.prog 33 #[t.val (.slice ta tl tc)] wq fun e w' => e = .returned (.bool t.ok) ∧ Below wq.heap.size wq w') from fun wq h => sOK_any t _ wq (ht.still h))
  have HPL := (show Hid (patB p = true → t.ok = true → ∀ w1 : World, Below w.heap.size w w1 → Calls Try.prog 55 #[p.val (.slice pa pl pc), t.val (.slice ta tl tc), .slice (some ⟨w1.heap.size, 0, none⟩) 0 0] (w1.alloc (.cells #[] 3)) (PlA (plT p t []) (w1.alloc (.cells #[] 3)))) from fun h1 h2 w1 hb => by
    have hb2 := bel_trans hb (bel_alloc w1 (.cells #[] 3))
    unfold patB at h1
    rw [Bool.and_eq_true] at h1
    have hpc := ok_cnt h1.1
    have htc := ok_cnt h2
    exact places55 w p _ hp hpc t _ [] w1.heap.size 0 _ ht hb2 (World.ownsRow_made w1 #[] 0 (Nat.zero_le _) (Nat.zero_le _) rfl) (by simp; omega) htc)
  have HR0 := (show Hid (patB p = false ∨ t.ok = false → plR p t = ([], 1)) from fun h => by
    unfold plR
    rw [if_neg]
    rcases h with h | h <;> simp [h])
  have HR1 := (show Hid (patB p = true → t.ok = true → plR p t = (plT p t [], 0)) from fun h h' => by
    unfold plR
    rw [if_pos (by rw [h, h']; rfl)])
  have HNO := (show Hid (∀ w1 : World, plR p t = ([], 1) → Below w.heap.size w w1 → SqA p t w (.returned (.tuple #[.slice (some ⟨w1.heap.size, 0, none⟩) 0 0, .int .i64 1])) (w1.alloc (.cells #[] 86))) from fun w1 h h' => ⟨w1.heap.size, 0, fun _ => .slice none 0 0, by rw [h]; rfl, bel_trans h' (bel_alloc _ _), by rw [h]; exact ⟨World.ownsRow_made w1 #[] 0 h'.size (Nat.zero_le _) rfl, fun i hi => absurd hi (Nat.not_lt_zero _)⟩⟩)
  have HYS := (show Hid (∀ (w1 w' : World) (g c : Nat) (vs : Nat → Value), plR p t = (plT p t [], 0) → Below w.heap.size w w1 → Below (w1.alloc (.cells #[] 3)).heap.size (w1.alloc (.cells #[] 3)) w' → RS w' (w1.alloc (.cells #[] 3)).heap.size (plT p t []) (.slice (some ⟨g, 0, none⟩) (plT p t []).length c) vs → SqA p t w (.returned (.tuple #[.slice (some ⟨g, 0, none⟩) (plT p t []).length c, .int .i64 0])) w') from fun w1 w' g c vs h h1 h2 h3 => by
    have hb := bel_trans h1 (bel_trans (bel_alloc w1 (.cells #[] 3)) h2)
    refine ⟨g, c, vs, by rw [h], hb, ?_⟩
    rw [h]
    exact ⟨own_base h3.out (by have := h1.size; simp; omega), h3.row⟩)
  have HAN := (show Hid (∀ wq : World, Below (w.heap.size + 2) ((w.alloc (.cells #[.string p.name, .string p.text, .bool p.leaf, .slice pa pl pc] 31)).alloc (.cells #[.string t.name, .string t.text, .bool t.leaf, .slice ta tl tc] 31)) wq → Below w.heap.size w wq ∧ Box wq w.heap.size 31 [.string p.name, .string p.text, .bool p.leaf, .slice pa pl pc] ∧ Box wq (w.heap.size + 1) 31 [.string t.name, .string t.text, .bool t.leaf, .slice ta tl tc] ∧ w.heap.size + 2 ≤ wq.heap.size) from fun wq h => by
    have h1 : Below w.heap.size w ((w.alloc (.cells #[.string p.name, .string p.text, .bool p.leaf, .slice pa pl pc] 31)).alloc (.cells #[.string t.name, .string t.text, .bool t.leaf, .slice ta tl tc] 31)) := (bel_alloc _ _).alloc (by simp) _
    refine ⟨h1.trans (h.mono (by omega)), ?_, ?_, by have := h.size; simpa using this⟩
    · exact ((Box.new w 31 _).still (bel_alloc _ _)).keep (h.block _ (by omega))
    · have h2 := Box.new (w.alloc (.cells #[.string p.name, .string p.text, .bool p.leaf, .slice pa pl pc] 31)) 31 [.string t.name, .string t.text, .bool t.leaf, .slice ta tl tc]
      rw [show (w.alloc (.cells #[.string p.name, .string p.text, .bool p.leaf, .slice pa pl pc] 31)).heap.size = w.heap.size + 1 from by simp] at h2
      exact h2.keep (h.block _ (by omega)))
  have HP0 := (show Hid _ from HPT.out _ (HAN.out _ (Below.refl _ _)).1)
  have hz2 : ((w.alloc (.cells #[.string p.name, .string p.text, .bool p.leaf, .slice pa pl pc] 31)).alloc (.cells #[.string t.name, .string t.text, .bool t.leaf, .slice ta tl tc] 31)).heap.size = w.heap.size + 2 := by simp
  rw [hz2] at HP0
  clear hz2 HPT hp ht
  simp only [Tr.val] at HP0 HOK HPL ⊢
  generalize p.name = p0 at *
  generalize p.text = p1 at *
  generalize p.leaf = p2 at *
  generalize t.name = t0 at *
  generalize t.text = t1 at *
  generalize t.leaf = t2 at *
  cases hpb : patB p
  · rw [hpb] at HP0
    have HF := (show Hid _ from HR0.out (.inl hpb))
    clear hpb HR0 HR1 HOK HPL HYS
    go_enter Try.func21, Try.ntmps21
    go_wp2_with fail
    refine Calls.mono HP0.out ?_
    rintro e w1 ⟨rfl, hb1⟩
    have HE := (show Hid _ from HNO.out w1 HF.out (HAN.out w1 hb1).1)
    clear hb1 HP0 HAN HNO
    go_wp2_with fail
    refine bodyPost_ret (v := .tuple #[.slice (some ⟨w1.heap.size, 0, none⟩) 0 0, .int .i64 1]) (by simp [results, Try.results21, go_sem]) rfl HE.out
  rw [hpb] at HP0
  go_enter Try.func21, Try.ntmps21
  go_wp2_with fail
  refine Calls.mono HP0.out ?_
  rintro e w1 ⟨rfl, hb1⟩
  obtain ⟨hbw, bx1, bx2, hz1⟩ := HAN.out w1 hb1
  have HB1 := (show Hid (Below (w.heap.size + 2) ((w.alloc (.cells #[.string p0, .string p1, .bool p2, .slice pa pl pc] 31)).alloc (.cells #[.string t0, .string t1, .bool t2, .slice ta tl tc] 31)) w1) from hb1)
  have r0 : w1.cell? ⟨w.heap.size + 1, 0, none⟩ = some (.string t0) := bx2.cell 0 (by simp)
  have r1 : w1.cell? ⟨w.heap.size + 1, 1, none⟩ = some (.string t1) := bx2.cell 1 (by simp)
  have r2 : w1.cell? ⟨w.heap.size + 1, 2, none⟩ = some (.bool t2) := bx2.cell 2 (by simp)
  have r3 : w1.cell? ⟨w.heap.size + 1, 3, none⟩ = some (.slice ta tl tc) := bx2.cell 3 (by simp)
  have C2 := (show Hid _ from HOK.out w1 hbw)
  clear hb1 HP0 hbw bx1 bx2 HOK
  cases hok : t.ok
  · rw [hok] at C2
    have HF := (show Hid _ from HR0.out (.inr hok))
    clear hpb hok HR0 HR1 HPL HYS
    go_wp2_with fail
    refine Calls.mono C2.out ?_
    rintro e w2 ⟨rfl, hb2⟩
    have HE := (show Hid _ from HNO.out w2 HF.out (HAN.out w2 (HB1.out.trans (hb2.mono hz1))).1)
    clear hb2 C2 HNO HAN
    go_wp2_with fail
    refine bodyPost_ret (v := .tuple #[.slice (some ⟨w2.heap.size, 0, none⟩) 0 0, .int .i64 1]) (by simp [results, Try.results21, go_sem]) rfl HE.out
  rw [hok] at C2
  have HF := (show Hid _ from HR1.out hpb hok)
  have HPM := (show Hid _ from HPL.out hpb hok)
  clear hpb hok HR0 HR1 HPL HNO
  go_wp2_with fail
  refine Calls.mono C2.out ?_
  rintro e w2 ⟨rfl, hb2⟩
  obtain ⟨hbw, bx1, bx2, _⟩ := HAN.out w2 (HB1.out.trans (hb2.mono hz1))
  clear r0 r1 r2 r3
  have s0 : w2.cell? ⟨w.heap.size, 0, none⟩ = some (.string p0) := bx1.cell 0 (by simp)
  have s1 : w2.cell? ⟨w.heap.size, 1, none⟩ = some (.string p1) := bx1.cell 1 (by simp)
  have s2 : w2.cell? ⟨w.heap.size, 2, none⟩ = some (.bool p2) := bx1.cell 2 (by simp)
  have s3 : w2.cell? ⟨w.heap.size, 3, none⟩ = some (.slice pa pl pc) := bx1.cell 3 (by simp)
  have r0 : w2.cell? ⟨w.heap.size + 1, 0, none⟩ = some (.string t0) := bx2.cell 0 (by simp)
  have r1 : w2.cell? ⟨w.heap.size + 1, 1, none⟩ = some (.string t1) := bx2.cell 1 (by simp)
  have r2 : w2.cell? ⟨w.heap.size + 1, 2, none⟩ = some (.bool t2) := bx2.cell 2 (by simp)
  have r3 : w2.cell? ⟨w.heap.size + 1, 3, none⟩ = some (.slice ta tl tc) := bx2.cell 3 (by simp)
  have C3 := (show Hid _ from HPM.out w2 hbw)
  have HBW := (show Hid (Below w.heap.size w w2) from hbw)
  clear hb2 C2 bx1 bx2 hbw HPM HB1 HAN
  unfold PlA at C3
  go_wp2_with fail
  refine Calls.mono C3.out ?_
  rintro e w3 ⟨g, c, vs, rfl, hb3, hrs⟩
  have HE := (show Hid _ from HYS.out w2 w3 g c vs HF.out HBW.out hb3 hrs)
  clear hb3 hrs C3 HYS
  generalize (plT p t []).length = L at *
  go_wp2_with fail
  refine bodyPost_ret (v := .tuple #[.slice (some ⟨g, 0, none⟩) L c, .int .i64 0]) (by simp [results, Try.results21, go_sem]) rfl HE.out
end Go.Proofs.Ytkkhdkfmaopmfaa
