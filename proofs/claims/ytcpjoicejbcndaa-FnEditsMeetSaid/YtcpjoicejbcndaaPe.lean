import Derived.Test.YtcpjoicejbcndaaMy
/-! Two edits that meet: what comes of them. -/
namespace Go.Proofs.Ytcpjoicejbcndaa
open Go.RowKit Go.Deep
set_option linter.unusedVariables false
set_option maxRecDepth 100000
set_option linter.unusedSimpArgs false

/-- Bytes as a list. -/
def bl (t : ByteArray) : List UInt8 := t.data.toList
theorem bl_ext {s t : ByteArray} (h : bl s = bl t) : s = t := by
  cases s with | mk x => cases t with | mk y =>
    congr 1
    exact Array.toList_inj.1 h
theorem bl_append (s t : ByteArray) : bl (s ++ t) = bl s ++ bl t := by
  unfold bl
  rw [ByteArray.data_append, Array.toList_append]
theorem bl_len (t : ByteArray) : (bl t).length = t.size := rfl
theorem bl_extract (t : ByteArray) (i j : Nat) : bl (t.extract i j) = ((bl t).take j).drop i := by
  unfold bl
  rw [ByteArray.data_extract, Array.toList_extract, List.extract_eq_take_drop, List.drop_take]
/-- The text behind an edit. -/
def putT (t : ByteArray) (a d : Nat) (s : ByteArray) : ByteArray := t.extract 0 a ++ s ++ t.extract (a + d) t.size
theorem bl_put (t : ByteArray) (a d : Nat) (s : ByteArray) : bl (putT t a d s) = (bl t).take a ++ (bl s ++ (bl t).drop (a + d)) := by
  unfold putT
  rw [bl_append, bl_append, bl_extract, bl_extract, List.drop_zero, List.append_assoc, ← bl_len, List.take_length]
theorem put_size (t : ByteArray) (a d : Nat) (s : ByteArray) (h : a + d ≤ t.size) : (putT t a d s).size = t.size - d + s.size := by
  rw [← bl_len, bl_put]
  simp only [List.length_append, List.length_take, List.length_drop, bl_len]
  omega
theorem put_meet (T s t : ByteArray) (a d B D : Nat) (h : a + d ≤ B) (hB : B + D ≤ T.size) : putT (putT T B D t) a d s = putT (putT T a d s) (B + s.size - d) D t := by
  apply bl_ext
  rw [bl_put, bl_put, bl_put, bl_put]
  have hl : (bl T).length = T.size := bl_len T
  have hs : (bl s).length = s.size := bl_len s
  generalize bl T = l at *
  generalize bl s = u at *
  generalize bl t = v at *
  have e1 : (l.take B ++ (v ++ l.drop (B + D))).take a = l.take a := by
    rw [List.take_append_of_le_length (by simp; omega), List.take_take]; congr 1; omega
  have e2 : (l.take B ++ (v ++ l.drop (B + D))).drop (a + d) = (l.take B).drop (a + d) ++ (v ++ l.drop (B + D)) := by
    rw [List.drop_append_of_le_length (by simp; omega)]
  have e3 : (l.take a ++ (u ++ l.drop (a + d))).take (B + s.size - d) = l.take a ++ (u ++ (l.drop (a + d)).take (B - (a + d))) := by
    have q1 : (l.take a).length = a := by simp; omega
    rw [List.take_append, q1, List.take_of_length_le (by rw [q1]; omega), List.take_append, hs, List.take_of_length_le (l := u) (by omega)]
    congr 3; omega
  have e4 : (l.take a ++ (u ++ l.drop (a + d))).drop (B + s.size - d + D) = l.drop (B + D) := by
    have q1 : (l.take a).length = a := by simp; omega
    rw [List.drop_append, q1, List.drop_of_length_le (by rw [q1]; omega), List.nil_append, List.drop_append, hs, List.drop_of_length_le (l := u) (by omega), List.nil_append, List.drop_drop]
    congr 1; omega
  rw [e1, e2, e3, e4, List.drop_take]
  simp only [List.append_assoc]

theorem ed_parts {T : ByteArray} {a d : Int} {s : ByteArray} (h : (edR T a d s).2 = 0) : 0 ≤ a ∧ 0 ≤ d ∧ a + d ≤ (T.size : Int) ∧ T.size ≤ 4000 ∧ (T.size : Int) - d + s.size ≤ 4000 ∧ (edR T a d s).1 = putT T a.toNat d.toNat s := by
  have h' := h
  unfold edR at h'
  split at h'
  · simp at h'
  · split at h'
    · simp at h'
    · rename_i h1 h2
      refine ⟨by omega, by omega, by omega, by omega, by omega, ?_⟩
      unfold edR putT
      rw [if_neg h1, if_neg h2]
      have e : (a + d).toNat = a.toNat + d.toNat := by omega
      rw [e]
/-- What Edited answers where the edit fits. -/
theorem ed_fits {T : ByteArray} {a d : Int} {s : ByteArray} (ha : 0 ≤ a) (hd : 0 ≤ d) (h : a + d ≤ (T.size : Int)) (hT : T.size ≤ 4000) :
    edR T a d s = if 4000 < (T.size : Int) - d + s.size then (ByteArray.empty, 3) else (putT T a.toNat d.toNat s, 0) := by
  unfold edR putT
  rw [if_neg (by omega)]
  have e : (a + d).toNat = a.toNat + d.toNat := by omega
  rw [e]
theorem moved_fits {n a d B D L : Int} (ha : 0 ≤ a) (hd : 0 ≤ d) (h : a + d ≤ n) (hB : 0 ≤ B) (hD : 0 ≤ D) (hh : B + D ≤ n) (hL : 0 ≤ L) :
    0 ≤ mvA a B D L ∧ 0 ≤ mvD a d B D L ∧ mvA a B D L + mvD a d B D L ≤ n - D + L := by
  unfold mvA mvD mvB mvE
  refine ⟨?_, ?_, ?_⟩
  · split <;> (try split) <;> omega
  · omega
  · split <;> split <;> (try split) <;> (try split) <;> omega
/-- What the law asks of the two orders. -/
theorem meets {T : ByteArray} {a d : Int} {s : ByteArray} {B D : Int} {t : ByteArray} (h1 : (edR T a d s).2 = 0) (h2 : (edR T B D t).2 = 0) :
    (edR (edR T B D t).1 (mvA a B D t.size) (mvD a d B D t.size) s).2 ≠ 1 ∧ (edR (edR T a d s).1 (mvA B a d s.size) (mvD B D a d s.size) t).2 ≠ 1 ∧
    ((a + d < B ∨ B + D < a) → edR (edR T B D t).1 (mvA a B D t.size) (mvD a d B D t.size) s = edR (edR T a d s).1 (mvA B a d s.size) (mvD B D a d s.size) t) := by
  obtain ⟨a1, a2, a3, a4, a5, a6⟩ := ed_parts h1
  obtain ⟨b1, b2, b3, b4, b5, b6⟩ := ed_parts h2
  rw [a6, b6]
  have sa := put_size T a.toNat d.toNat s (by omega)
  have sb := put_size T B.toNat D.toNat t (by omega)
  obtain ⟨f1, f2, f3⟩ := moved_fits (n := (T.size : Int)) (L := (t.size : Int)) a1 a2 a3 b1 b2 b3 (by omega)
  obtain ⟨g1, g2, g3⟩ := moved_fits (n := (T.size : Int)) (L := (s.size : Int)) b1 b2 b3 a1 a2 a3 (by omega)
  have x1 := ed_fits (T := putT T B.toNat D.toNat t) (s := s) f1 f2 (by rw [sb]; omega) (by rw [sb]; omega)
  have x2 := ed_fits (T := putT T a.toNat d.toNat s) (s := t) g1 g2 (by rw [sa]; omega) (by rw [sa]; omega)
  rw [x1, x2]
  refine ⟨by split <;> simp, by split <;> simp, fun hc => ?_⟩
  rw [sa, sb]
  rcases hc with hc | hc
  · have p1 : mvA a B D t.size = a := if_pos (by omega)
    have p2 : mvD a d B D t.size = d := by
      unfold mvD; rw [show mvB B D t.size a = a from if_pos (by omega), show mvE B D t.size (a + d) = a + d from if_pos (by omega)]; omega
    have p3 : mvA B a d s.size = B + (s.size - d) := (if_neg (by omega)).trans (if_neg (by omega))
    have p4 : mvD B D a d s.size = D := by
      unfold mvD; rw [show mvB a d s.size B = B + (s.size - d) from (if_neg (by omega)).trans (if_neg (by omega)), show mvE a d s.size (B + D) = B + D + (s.size - d) from (if_neg (by omega)).trans (if_neg (by omega))]; omega
    rw [p1, p2, p3, p4]
    have e := put_meet T s t a.toNat d.toNat B.toNat D.toNat (by omega) (by omega)
    have e2 : (B + ((s.size : Int) - d)).toNat = B.toNat + s.size - d.toNat := by omega
    rw [e, e2]
    by_cases hf : 4000 < ((T.size - D.toNat + t.size : Nat) : Int) - d + s.size
    · rw [if_pos hf, if_pos (by omega)]
    · rw [if_neg hf, if_neg (by omega)]
  · have p1 : mvA B a d s.size = B := if_pos (by omega)
    have p2 : mvD B D a d s.size = D := by
      unfold mvD; rw [show mvB a d s.size B = B from if_pos (by omega), show mvE a d s.size (B + D) = B + D from if_pos (by omega)]; omega
    have p3 : mvA a B D t.size = a + (t.size - D) := (if_neg (by omega)).trans (if_neg (by omega))
    have p4 : mvD a d B D t.size = d := by
      unfold mvD; rw [show mvB B D t.size a = a + (t.size - D) from (if_neg (by omega)).trans (if_neg (by omega)), show mvE B D t.size (a + d) = a + d + (t.size - D) from (if_neg (by omega)).trans (if_neg (by omega))]; omega
    rw [p1, p2, p3, p4]
    have e := put_meet T t s B.toNat D.toNat a.toNat d.toNat (by omega) (by omega)
    have e2 : (a + ((t.size : Int) - D)).toNat = a.toNat + t.size - D.toNat := by omega
    rw [e, e2]
    by_cases hf : 4000 < ((T.size - D.toNat + t.size : Nat) : Int) - d + s.size
    · rw [if_pos hf, if_pos (by omega)]
    · rw [if_neg hf, if_neg (by omega)]
end Go.Proofs.Ytcpjoicejbcndaa
