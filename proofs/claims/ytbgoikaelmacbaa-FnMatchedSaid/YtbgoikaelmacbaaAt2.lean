import Derived.Test.YtbgoikaelmacbaaAt
namespace Go.Proofs.Ytbgoikaelmacbaa
open Go.RowKit Go.Deep Go.Lib
set_option linter.unusedVariables false
set_option maxRecDepth 100000
set_option linter.unusedSimpArgs false

/-- The tree of no name. -/
def zt : Tr := ⟨ByteArray.empty, ByteArray.empty, false, []⟩
theorem zt_own (w : World) (lo hi : Nat) : Own w lo hi zt (.slice none 0 0) :=
  Own.shut ⟨none, 0, 0, fun _ => .bool false, fun _ => 0, fun _ => 0, rfl, Nat.zero_le _, Nat.zero_le _, Nat.le_refl _, Nat.zero_le _, fun h => absurd h (Nat.not_lt_zero _), fun i hi => absurd hi (Nat.not_lt_zero _), fun i hi => absurd hi (Nat.not_lt_zero _), fun i hi => absurd hi (Nat.not_lt_zero _), fun i j hi hj => absurd hj (Nat.not_lt_zero _)⟩
theorem wt_kids (t : Tr) : t.wt = t.name.size + t.text.size + (t.kids.length + Tr.wtL t.kids) := by cases t; exact Tr.wt_mk _ _ _ _
theorem kidAt_wt {t s : Tr} {i : Int} (h : kidAt t i = some s) : s.wt ≤ t.wt := by
  unfold kidAt at h
  split at h
  · rename_i hi
    cases h
    have hlt : i.toNat < t.kids.length := by omega
    rw [nth_eq hlt, wt_kids t]
    have := Tr.wt_mem t.kids i.toNat hlt
    omega
  · cases h
theorem kidAt_right {t s : Tr} {i : Int} (hr : t.right = true) (h : kidAt t i = some s) : s.right = true := by
  unfold kidAt at h
  split at h
  · rename_i hi
    cases h
    have hlt : i.toNat < t.kids.length := by omega
    rw [nth_eq hlt]
    cases t with
    | mk n x l k =>
      rw [Tr.right_mk] at hr
      simp [Tr.rightL] at hr
      exact hr.2 _ (List.getElem_mem hlt)
  · cases h
theorem walkAt_wt : ∀ (l : List Int) {t s : Tr}, walkAt l t = some s → s.wt ≤ t.wt
  | [], t, s, h => by cases h; exact Nat.le_refl _
  | i :: r, t, s, h => by
    obtain ⟨u, hu, hs⟩ := Option.bind_eq_some_iff.1 h
    exact Nat.le_trans (walkAt_wt r hs) (kidAt_wt hu)

/-- What TreeAt comes to. -/
def atR (t : Tr) (l : List Int) : Tr × Int := if t.ok then match walkAt l t with | some s => (s, 0) | none => (zt, 4) else (zt, 1)
theorem atR_bad {t : Tr} {l : List Int} (h : t.ok = false) : atR t l = (zt, 1) := by unfold atR; rw [h]; rfl
theorem atR_place {t : Tr} {l : List Int} (h : t.ok = true) (h' : walkAt l t = none) : atR t l = (zt, 4) := by unfold atR; rw [h, h']; rfl
theorem atR_yes {t s : Tr} {l : List Int} (h : t.ok = true) (h' : walkAt l t = some s) : atR t l = (s, 0) := by unfold atR; rw [h, h']; rfl
theorem atR_wt (t : Tr) (l : List Int) : (atR t l).1.wt ≤ t.wt := by
  have hz : zt.wt = 0 := by unfold zt; rw [Tr.wt_mk]; rfl
  cases h : t.ok
  · rw [atR_bad h]; dsimp only; omega
  · cases h' : walkAt l t with
    | none => rw [atR_place h h']; dsimp only; omega
    | some s => rw [atR_yes h h']; exact walkAt_wt l h'

/-- A face's answer: a tree that owns its memory, and a code. -/
def Ans (r : Tr × Int) (w : World) (e : Ending) (w' : World) : Prop := ∃ a m c, e = .returned (.tuple #[r.1.val (.slice a m c), .int .i64 r.2]) ∧ Below w.heap.size w w' ∧ Own w' w.heap.size w'.heap.size r.1 (.slice a m c)

end Go.Proofs.Ytbgoikaelmacbaa
