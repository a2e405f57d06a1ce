import Derived.Test.YtkkhdkfmaopmfaaBm
/-! The marks of binds suffice: plain mathematics. -/
namespace Go.Proofs.Ytkkhdkfmaopmfaa
set_option linter.unusedVariables false
set_option maxRecDepth 100000
set_option linter.unusedSimpArgs false

theorem mtK_cnt : ∀ (k ts : List Tr) (bl : List (ByteArray × Tr)), (∀ i (hi : i < k.length) t bl b, b ∈ (mtT k[i] t bl).1 → b ∈ bl ∨ b.2.cnt ≤ t.cnt) → ∀ b, b ∈ (mtK (k.map mtT) ts bl).1 → b ∈ bl ∨ b.2.cnt ≤ Tr.cntL ts
  | [], ts, bl, _, b, hb => .inl (by simpa [mtK] using hb)
  | _ :: _, [], bl, _, b, hb => .inl (by simpa [mtK] using hb)
  | p :: r, t :: ts, bl, h, b, hb => by
    have h0 := h 0 (by simp) t bl b
    simp only [List.getElem_cons_zero] at h0
    have e : Tr.cntL (t :: ts) = t.cnt + Tr.cntL ts := by simp [Tr.cntL]
    rw [List.map_cons, mtK] at hb
    split at hb
    · rcases mtK_cnt r ts (mtT p t bl).1 (fun i hi u m => by have := h (i + 1) (by simp; omega) u m; simpa using this) b hb with g | g
      · rcases h0 g with g | g
        · exact .inl g
        · exact .inr (by omega)
      · exact .inr (by omega)
    · rcases h0 hb with g | g
      · exact .inl g
      · exact .inr (by omega)
theorem mtT_cnt (p : Tr) : ∀ t bl b, b ∈ (mtT p t bl).1 → b ∈ bl ∨ b.2.cnt ≤ t.cnt := by
  refine Tr.ind (P := fun p => ∀ t bl b, b ∈ (mtT p t bl).1 → b ∈ bl ∨ b.2.cnt ≤ t.cnt) ?_ p
  intro n x lf k ih t bl b hb
  rw [mtT_mk] at hb
  split at hb
  · unfold mtV at hb
    split at hb
    · exact .inl hb
    · rcases List.mem_append.1 hb with g | g
      · exact .inl g
      · simp at g
        subst g
        exact .inr (Nat.le_refl _)
  · split at hb
    · obtain ⟨n', x', l', k'⟩ := t
      rcases mtK_cnt k k' bl (fun i hi u m c hc => ih i hi u m c hc) b hb with g | g
      · exact .inl g
      · rw [Tr.cnt_mk]; exact .inr (by omega)
    · exact .inl hb
theorem bo_bound {bl : List (ByteArray × Tr)} {C : Nat} (h : ∀ b ∈ bl, b.2.cnt ≤ C) : ∀ j, j ≤ bl.length → bo bl j ≤ j * (4 + 3 * C)
  | 0, _ => by simp [bo]
  | j + 1, hj => by
    have h1 := bo_bound h j (by omega)
    have h2 := h _ (List.getElem_mem (show j < bl.length by omega))
    rw [← nb_eq (show j < bl.length by omega), cnt_eq] at h2
    rw [bo, Nat.add_mul, Nat.one_mul]
    omega
/-- The marks suffice. -/
theorem ma_marks (p t : Tr) : 1 + bo (maR p t).1 (maR p t).1.length ≤ 67108864 := by
  unfold maR
  split
  · rename_i hok
    rw [Bool.and_eq_true] at hok
    have hp : p.cnt ≤ 1000 := by
      have := hok.1
      unfold patB at this
      rw [Bool.and_eq_true] at this
      exact ok_cnt this.1
    have ht := ok_cnt hok.2
    split
    · dsimp only
      have hl := mtT_len p t []
      simp at hl
      have hb := bo_bound (bl := (mtT p t []).1) (C := 1000) (fun b hb => by
        rcases mtT_cnt p t [] b hb with g | g
        · cases g
        · omega) _ (Nat.le_refl _)
      have : (mtT p t []).1.length * (4 + 3 * 1000) ≤ 1000 * (4 + 3 * 1000) := Nat.mul_le_mul_right _ (by omega)
      omega
    · simp [bo]
  · simp [bo]
end Go.Proofs.Ytkkhdkfmaopmfaa
