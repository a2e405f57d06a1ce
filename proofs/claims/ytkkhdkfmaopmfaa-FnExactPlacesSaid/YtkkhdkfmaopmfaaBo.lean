import Derived.Test.YtkkhdkfmaopmfaaBm
import Derived.Test.YtkkhdkfmaopmfaaInts
/-! The law: marks of binds are held. -/
namespace Go.Proofs.Ytkkhdkfmaopmfaa
open Go.RowKit Go.Deep Go.Lib
set_option linter.unusedVariables false
set_option maxRecDepth 100000
set_option linter.unusedSimpArgs false

set_option maxHeartbeats 3200000 in
theorem heldBinds15 (bl : List (ByteArray × Tr)) (n : Nat) (v : Value) (w : World) (h : BHd bl n v w) (hn0 : 0 < n) (hnk : n + bo bl bl.length ≤ 67108864) :
    Calls Try.prog 15 #[v, .int .i64 n] w fun e w' => e = .returned (.int .i64 (n + bo bl bl.length : Nat)) ∧ Below w.heap.size w w' := by
  obtain ⟨a, cap, b, sv, rfl, hm, ha, hc, hl⟩ := h
  have HD := (show Hid _ from (⟨ha, hc, hl⟩ : _ ∧ _ ∧ _)); clear ha hc hl
  go_enter Try.func15, Try.ntmps15
  go_wp2_with fail
  go_loopw [1, 5] (fun u i wr => ∃ (j q : Nat), j ≤ bl.length ∧ i = .int .i64 j ∧ u = .int .i64 q ∧ q ≤ 67108864 ∧ 0 < q ∧ Hid (q = n + bo bl j) ∧ Hid (Below w.heap.size w wr)) (fun _ i _ => bl.length - (intOf i).toNat)
  case atStart => exact ⟨0, n, Nat.zero_le _, rfl, rfl, by omega, hn0, by show n = _; simp [bo], Below.refl _ _⟩
  case round =>
    obtain ⟨j, q, hj, rfl, rfl, hq1, hq0, HQ, HW⟩ := hrel
    by_cases hlt : j < bl.length
    · obtain rfl := HD.out.1 (by omega)
      obtain ⟨c0, c1, c2, c3, c4⟩ := HD.out.2.1 j hlt
      obtain ⟨n1, x1, le1, hkj⟩ := HD.out.2.2 j hlt
      rw [← HQ.out] at c0 c1 c2 c3 hkj
      have hq2 : q + (4 + 3 * Tr.cntL (nb bl j).2.kids) ≤ 67108864 := by
        have hqe := HQ.out
        have := bo_le bl (i := j + 1) bl.length (by omega)
        rw [bo] at this
        omega
      have eb : decide ((q + 3) % 3 = 0) = (((q : Int) + 1 + 1 + 1) % 3 == 0) := by
        rw [Bool.eq_iff_iff]
        simp
        omega
      rw [eb] at c3
      clear eb
      obtain ⟨a1, l1, p1, hsvj⟩ := hkj.form
      rw [hsvj] at c4
      have HS := (show Hid (∀ w' : World, Below wr.heap.size wr w' → w'.cell? ⟨b, j * 5, none⟩ = some (.string (mt q)) ∧ w'.cell? ⟨b, j * 5 + 1, none⟩ = some (.string (mt (q + 1))) ∧ w'.cell? ⟨b, j * 5 + 2, none⟩ = some (.string (mt (q + 2))) ∧ w'.cell? ⟨b, j * 5 + 3, none⟩ = some (.bool (((q : Int) + 1 + 1 + 1) % 3 == 0)) ∧ w'.cell? ⟨b, j * 5 + 4, none⟩ = some (.slice a1 l1 p1)) from fun w' hb => by
        have hbw := bel_trans HW.out hb
        have mv : ∀ {b o : Nat} {v : Value}, w.cell? ⟨b, o, none⟩ = some v → w'.cell? ⟨b, o, none⟩ = some v := fun h => (hbw.cell (lt_of_cell h)).trans h
        exact ⟨mv c0, mv c1, mv c2, mv c3, mv c4⟩)
      have HCL := (show Hid (∀ w' : World, Below wr.heap.size wr w' → Calls Try.prog 45 #[.slice a1 l1 p1, .int .i64 ((q + 4 : Nat) : Int)] w' fun e w'' => e = .returned (.int .i64 (q + 4 + 3 * Tr.cntL (nb bl j).2.kids : Nat)) ∧ Below w'.heap.size w' w'') from fun w' hb => by
        have := heldS_any (nb bl j).2 n1 x1 le1 (sv j) w' (q + 4) (hkj.still (bel_trans HW.out hb)) (by omega) (by omega)
        rw [hsvj] at this
        exact this)
      have HM0 := (show Hid _ from fun (w' : World) => markText_any q hq0 hq1 w')
      have HM1 := (show Hid _ from fun (w' : World) => markText_any (q + 1) (by omega) (by omega) w')
      have HM2 := (show Hid (∀ w' : World, Calls Try.prog 44 #[.int .i64 ((q : Int) + 1 + 1)] w' fun e w'' => e = .returned (.string (mt (q + 2))) ∧ Below w'.heap.size w' w'') from fun (w' : World) => by
        have h := markText_any (q + 2) (by omega) (by omega) w'
        rw [show ((q + 2 : Nat) : Int) = (q : Int) + 1 + 1 from by omega] at h
        exact h)
      have i1 : (0 : Int) ≤ (j : Int) := by omega
      have i2 : (j : Int) < (bl.length : Int) := by omega
      have HD0 := (show Hid (Below wr.heap.size wr wr.drew) from (Below.refl _ _).drew)
      have hS0 := (HS.out _ HD0.out).1
      clear c0 c1 c2 c3 c4 hkj hsvj
      go_wp2_with fail
      go_region_held3 (fun wq => wq.cell? ⟨b, j * 5, none⟩ = some (.string (mt q))) (first | with_reducible exact hS0 | with_reducible exact hS1) ((first | (go_at_call 44; refine Calls.mono (HM0.out _) ?_; rintro e w1 ⟨rfl, hb1⟩; have hx1 : Below wr.heap.size wr w1 := HD0.out.trans (hb1.mono (Nat.le_refl _)); have hS1 := (HS.out w1 hx1).1)))
      have HX1 := (show Hid (Below wr.heap.size wr w1) from hx1)
      have HD1 := (show Hid (Below wr.heap.size wr w1.drew) from hx1.drew)
      clear hS0 hS1 hb1 hx1 HD0 HM0
      have hS0 := (HS.out _ HD1.out).2.1
      go_wp2_with fail
      go_region_held3 (fun wq => wq.cell? ⟨b, j * 5 + 1, none⟩ = some (.string (mt (q + 1)))) (first | with_reducible exact hS0 | with_reducible exact hS1) ((first | (go_at_call 44; refine Calls.mono (HM1.out _) ?_; rintro e w2 ⟨rfl, hb2⟩; have hx2 : Below wr.heap.size wr w2 := bel_trans HD1.out hb2; have hS1 := (HS.out w2 hx2).2.1)))
      have HX2 := (show Hid (Below wr.heap.size wr w2) from hx2)
      have HD2 := (show Hid (Below wr.heap.size wr w2.drew) from hx2.drew)
      clear hS0 hS1 hb2 hx2 HD1 HM1 HX1
      have hS0 := (HS.out _ HD2.out).2.2.1
      go_wp2_with fail
      go_region_held3 (fun wq => wq.cell? ⟨b, j * 5 + 2, none⟩ = some (.string (mt (q + 2)))) (first | with_reducible exact hS0 | with_reducible exact hS1) ((first | (go_at_call 44; refine Calls.mono (HM2.out _) ?_; rintro e w3 ⟨rfl, hb3⟩; have hx3 : Below wr.heap.size wr w3 := bel_trans HD2.out hb3; have hS1 := (HS.out w3 hx3).2.2.1)))
      have HX3 := (show Hid (Below wr.heap.size wr w3) from hx3)
      obtain ⟨_, _, _, d3, d4⟩ := HS.out w3 hx3
      clear hS0 hS1 hb3 hx3 HD2 HM2 HX2
      go_wp2_with fail
      have eq4 : ((q : Int) + 1 + 1 + 1 + 1) = ((q + 4 : Nat) : Int) := by omega
      rw [eq4]
      refine Calls.mono (HCL.out w3 HX3.out) ?_
      rintro e w4 ⟨rfl, hb4⟩
      have HB5 := (show Hid (Below w.heap.size w w4) from bel_trans (bel_trans HW.out HX3.out) hb4)
      have HQ4 := (show Hid (q + 4 + 3 * Tr.cntL (nb bl j).2.kids = n + bo bl (j + 1)) from (by
        have := HQ.out
        show _ = _
        rw [bo]
        omega))
      clear hb4 d3 d4
      generalize hqq : q + 4 + 3 * Tr.cntL (nb bl j).2.kids = qq at *
      have hqq2 : qq ≤ 67108864 := by omega
      have hqq0 : 0 < qq := by omega
      clear hqq
      go_wp2_with fail
      exact ⟨⟨j + 1, qq, by omega, by go_num, rfl, hqq2, hqq0, HQ4, HB5⟩, by simp [intOf]; omega⟩
    · have : j = bl.length := by omega
      subst this
      have HF := (show Hid _ from HQ.out)
      have HE := (show Hid _ from HW.out)
      go_wp2_with fail
      go_ret
      exact ⟨by rw [← HF.out]; rfl, HE.out⟩
end Go.Proofs.Ytkkhdkfmaopmfaa

/-! The marks of binds suffice: plain mathematics. -/
namespace Go.Proofs.Ytkkhdkfmaopmfaa
set_option linter.unusedVariables false
set_option maxRecDepth 100000
set_option linter.unusedSimpArgs false

theorem mtK_cnt : ∀ (k ts : List Tr) (bl : List (ByteArray × Tr)), (∀ i (hi : i < k.length) t bl b, b ∈ (mtT k[i] t bl).1 → b ∈ bl ∨ b.2.cnt ≤ t.cnt) → ∀ b, b ∈ (mtK (k.map mtT) ts bl).1 → b ∈ bl ∨ b.2.cnt ≤ Tr.cntL ts
  | [], ts, bl, _, b, hb => .inl (by simpa [mtK] using hb)
  | _ :: _, [], bl, _, b, hb => .inl (by simpa [mtK] using hb)
  | p :: r, t :: ts, bl, h, b, hb => by
    have h0 := h 0 (by simp) t bl b
    simp only [List.getElem_cons_zero] at h0
    have e : Tr.cntL (t :: ts) = t.cnt + Tr.cntL ts := by simp [Tr.cntL]
    rw [List.map_cons, mtK] at hb
    split at hb
    · rcases mtK_cnt r ts (mtT p t bl).1 (fun i hi u m => by have := h (i + 1) (by simp; omega) u m; simpa using this) b hb with g | g
      · rcases h0 g with g | g
        · exact .inl g
        · exact .inr (by omega)
      · exact .inr (by omega)
    · rcases h0 hb with g | g
      · exact .inl g
      · exact .inr (by omega)
theorem mtT_cnt (p : Tr) : ∀ t bl b, b ∈ (mtT p t bl).1 → b ∈ bl ∨ b.2.cnt ≤ t.cnt := by
  refine Tr.ind (P := fun p => ∀ t bl b, b ∈ (mtT p t bl).1 → b ∈ bl ∨ b.2.cnt ≤ t.cnt) ?_ p
  intro n x lf k ih t bl b hb
  rw [mtT_mk] at hb
  split at hb
  · unfold mtV at hb
    split at hb
    · exact .inl hb
    · rcases List.mem_append.1 hb with g | g
      · exact .inl g
      · simp at g
        subst g
        exact .inr (Nat.le_refl _)
  · split at hb
    · obtain ⟨n', x', l', k'⟩ := t
      rcases mtK_cnt k k' bl (fun i hi u m c hc => ih i hi u m c hc) b hb with g | g
      · exact .inl g
      · rw [Tr.cnt_mk]; exact .inr (by omega)
    · exact .inl hb
theorem bo_bound {bl : List (ByteArray × Tr)} {C : Nat} (h : ∀ b ∈ bl, b.2.cnt ≤ C) : ∀ j, j ≤ bl.length → bo bl j ≤ j * (4 + 3 * C)
  | 0, _ => by simp [bo]
  | j + 1, hj => by
    have h1 := bo_bound h j (by omega)
    have h2 := h _ (List.getElem_mem (show j < bl.length by omega))
    rw [← nb_eq (show j < bl.length by omega), cnt_eq] at h2
    rw [bo, Nat.add_mul, Nat.one_mul]
    omega
/-- The marks suffice. -/
theorem ma_marks (p t : Tr) : 1 + bo (maR p t).1 (maR p t).1.length ≤ 67108864 := by
  unfold maR
  split
  · rename_i hok
    rw [Bool.and_eq_true] at hok
    have hp : p.cnt ≤ 1000 := by
      have := hok.1
      unfold patB at this
      rw [Bool.and_eq_true] at this
      exact ok_cnt this.1
    have ht := ok_cnt hok.2
    split
    · dsimp only
      have hl := mtT_len p t []
      simp at hl
      have hb := bo_bound (bl := (mtT p t []).1) (C := 1000) (fun b hb => by
        rcases mtT_cnt p t [] b hb with g | g
        · cases g
        · omega) _ (Nat.le_refl _)
      have : (mtT p t []).1.length * (4 + 3 * 1000) ≤ 1000 * (4 + 3 * 1000) := Nat.mul_le_mul_right _ (by omega)
      omega
    · simp [bo]
  · simp [bo]
end Go.Proofs.Ytkkhdkfmaopmfaa
