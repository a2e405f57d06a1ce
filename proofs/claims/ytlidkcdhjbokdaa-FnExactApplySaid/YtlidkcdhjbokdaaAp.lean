import Derived.Test.YtlidkcdhjbokdaaRw
import Derived.Maps.AppendAt
import Derived.Deep.AppendLies
import Derived.Deep.RegionLaw
import Derived.Deep.CutRange
/-! Edits applied: what is answered; the program; the specification. -/
namespace Go.Proofs.Ytlidkcdhjbokdaa
open Go.RowKit Go.Deep
set_option linter.unusedVariables false
set_option maxRecDepth 100000
set_option linter.unusedSimpArgs false

/-- Numbers as values. -/
abbrev iv (l : List Int) : List Value := l.map (Value.int .i64)
theorem OwnI.nil (w : World) (b : Nat) (a : Option Addr) (cap : Nat) (hc : cap ≤ maxLen) : OwnI w b [] (.slice a 0 cap) :=
  ⟨a, cap, fun _ => .bool false, rfl, Nat.zero_le _, hc, fun h => absurd h (Nat.not_lt_zero _), fun i hi => absurd hi (Nat.not_lt_zero _)⟩
theorem own_ints {w : World} {L : Nat} {v : Value} {l : List Int} (h : w.ownsRow L 3 1 v l.length (iv l)) : ∃ b, OwnI w b l v ∧ (0 < l.length → L ≤ b ∧ v.ownBlock = some b) := by
  rcases h.2 with ⟨rfl, h0⟩ | ⟨g, cap, cur, rfl, hB, hg, hnc, hcm, hcs, htk⟩
  · obtain rfl : l = [] := List.eq_nil_of_length_eq_zero h0
    exact ⟨0, OwnI.nil _ _ _ _ (Nat.zero_le _), fun h => absurd h (Nat.not_lt_zero _)⟩
  · refine ⟨g, ⟨_, cap, fun i => (cur[i]?).getD .nilFunc, rfl, hnc, hcm, fun _ => ⟨rfl, cur, hg, by omega, fun i hi => ?_⟩, fun i hi => ?_⟩, fun _ => ⟨hB, rfl⟩⟩
    · have e : cur[i]? = some cur[i] := Array.getElem?_eq_getElem (by omega)
      simp only [e, Option.getD_some]
    · have e := congrArg (·[i]?) htk
      simp only [Nat.mul_one, List.getElem?_take, if_pos hi, List.getElem?_map, List.getElem?_eq_getElem hi, Option.map_some] at e
      have e2 : cur[i]? = some (.int .i64 l[i]) := by simpa using e
      simp only [e2, Option.getD_some]
theorem OwnI.any {w : World} {b : Nat} {l : List Int} {v : Value} (h : OwnI w b l v) (h0 : ¬ 0 < l.length) (c : Nat) : OwnI w c l v := by
  obtain ⟨a, cap, f, hv, hc, hm, ha, hf⟩ := h
  exact ⟨a, cap, f, hv, hc, hm, fun h => absurd h h0, hf⟩
theorem OwnI.lt {w : World} {b : Nat} {l : List Int} {v : Value} (h : OwnI w b l v) (h0 : 0 < l.length) : b < w.heap.size := by
  obtain ⟨a, cap, f, hv, hc, hm, ha, hf⟩ := h
  exact World.rowIs.lt (ha h0).2
/-- What a call leaves that answers numbers and a code. -/
def YAns (R : List Int × Int) (w : World) (e : Ending) (w' : World) : Prop :=
  ∃ v0 b0, e = .returned (.tuple #[v0, .int .i64 R.2]) ∧ Below w.heap.size w w' ∧ OwnI w' b0 R.1 v0 ∧ (0 < R.1.length → w.heap.size ≤ b0)
theorem YAns.nil {w0 w : World} {a : Option Addr} {C : Int} (hb : Below w0.heap.size w0 w) : YAns ([], C) w0 (.returned (.tuple #[.slice a 0 0, .int .i64 C])) w :=
  ⟨_, 0, rfl, hb, OwnI.nil _ _ _ _ (Nat.zero_le _), fun h => absurd h (Nat.not_lt_zero _)⟩
theorem YAns.of {w0 w : World} {B : Nat} {l : List Int} {u : Value} {C : Int} (h : w.ownsRow B 3 1 u l.length (iv l)) (hB : w0.heap.size ≤ B) (hb : Below w0.heap.size w0 w) : YAns (l, C) w0 (.returned (.tuple #[u, .int .i64 C])) w := by
  obtain ⟨b0, h0, k0⟩ := own_ints h
  exact ⟨u, b0, rfl, hb, h0, fun h2 => Nat.le_trans hB (k0 h2).1⟩
theorem YAns.high {R : List Int × Int} {w w' : World} {e : Ending} (h : YAns R w e w') :
    ∃ v0 b0, e = .returned (.tuple #[v0, .int .i64 R.2]) ∧ Below w.heap.size w w' ∧ OwnI w' b0 R.1 v0 ∧ w.heap.size ≤ b0 := by
  obtain ⟨v0, b0, he, hb, h0, k0⟩ := h
  by_cases c0 : 0 < R.1.length
  · exact ⟨v0, b0, he, hb, h0, k0 c0⟩
  · exact ⟨v0, w.heap.size, he, hb, h0.any c0 _, Nat.le_refl _⟩
theorem YAns.low {R : List Int × Int} {w w' : World} {e : Ending} (h : YAns R w e w') (c : Nat) (hc : c < w'.heap.size) :
    ∃ v0 b0, e = .returned (.tuple #[v0, .int .i64 R.2]) ∧ Below w.heap.size w w' ∧ OwnI w' b0 R.1 v0 ∧ b0 < w'.heap.size := by
  obtain ⟨v0, b0, he, hb, h0, k0⟩ := h
  by_cases c0 : 0 < R.1.length
  · exact ⟨v0, b0, he, hb, h0, h0.lt c0⟩
  · exact ⟨v0, c, he, hb, h0.any c0 _, hc⟩
theorem iv_len (l : List Int) : (iv l).length = l.length := by simp
theorem own_keep1 {w w' : World} {B e z : Nat} {v : Value} {n : Nat} {xs : List Value} (h : w.ownsRow B e z v n xs) (hb : ∀ k, v.ownBlock = some k → w'.heap[k]? = w.heap[k]?) : w'.ownsRow B e z v n xs := by
  refine ⟨h.1, ?_⟩
  rcases h.2 with h0 | ⟨g, cp, cur, r1, r2, r3, r4⟩
  · exact .inl h0
  · exact .inr ⟨g, cp, cur, r1, r2, by rw [hb g (by rw [r1]; rfl)]; exact r3, r4⟩
theorem own_still {w w' : World} {B e z : Nat} {v : Value} {n : Nat} {xs : List Value} (h : w.ownsRow B e z v n xs) (hb : Below w.heap.size w w') : w'.ownsRow B e z v n xs :=
  own_keep1 h (fun k hk => hb.block k (World.ownsRow.lt h k hk).2)
theorem grown_below {w x y : World} {B e z n : Nat} {u : Value} {xs : List Value} (h : Below w.heap.size w x) (ho : x.ownsRow B e z u n xs) (hB : w.heap.size ≤ B) (hg : x.grownBy y u.ownBlock) : Below w.heap.size w y :=
  ⟨hg.os.trans h.os, hg.tape.trans h.tape, hg.output.trans h.output, Nat.le_trans h.size hg.size, fun k hk => (hg.block k (Nat.lt_of_lt_of_le hk h.size) (fun e => by have := (World.ownsRow.lt ho k e.symm).1; omega)).trans (h.block k hk)⟩
theorem info3y : (Try.prog.info? 3).map (fun i => (i.zero, i.size, i.bytes)) = some (some (.int .i64 0), 1, 8) := info3i

/-- One edit: what is made and how far one has come. -/
def stp (W : List Int) (e : Int × Int) (o : List Int) (a : Nat) : Option (List Int × Nat) :=
  if e.2 < 0 then none
  else if e.1 = 3 then some (o ++ [e.2], a)
  else if W[a]? = some e.2 ∧ e.1 = 1 then some (o ++ [e.2], a + 1)
  else if W[a]? = some e.2 ∧ e.1 = 2 then some (o, a + 1)
  else none
def apG (W : List Int) : List (Int × Int) → List Int → Nat → List Int × Int
  | [], o, a => if a = W.length then (o, 0) else ([], 10)
  | e :: r, o, a => match stp W e o a with
    | none => ([], 10)
    | some (o', a') => apG W r o' a'
theorem apG_none {W : List Int} {e : Int × Int} {r : List (Int × Int)} {o : List Int} {a : Nat} (h : stp W e o a = none) : apG W (e :: r) o a = ([], 10) := by
  simp only [apG, h]
theorem apG_some {W : List Int} {e : Int × Int} {r : List (Int × Int)} {o o' : List Int} {a a' : Nat} (h : stp W e o a = some (o', a')) : apG W (e :: r) o a = apG W r o' a' := by
  simp only [apG, h]
theorem stp_len {W : List Int} {e : Int × Int} {o o' : List Int} {a a' : Nat} (h : stp W e o a = some (o', a')) : o'.length ≤ o.length + 1 := by
  unfold stp at h
  repeat' split at h
  all_goals first
    | (simp only [Option.some.injEq, Prod.mk.injEq] at h; obtain ⟨rfl, rfl⟩ := h; simp)
    | cases h
theorem apG_len (W : List Int) : ∀ (E : List (Int × Int)) (o : List Int) (a : Nat), (apG W E o a).1.length ≤ o.length + E.length := by
  intro E
  induction E with
  | nil => intro o a; unfold apG; split <;> simp
  | cons e r ih =>
    intro o a
    cases h : stp W e o a with
    | none => rw [apG_none h]; simp
    | some p =>
      obtain ⟨o', a'⟩ := p
      rw [apG_some h]
      have h1 := ih o' a'
      have h2 := stp_len h
      simp only [List.length_cons]
      omega
def apR (W : List Int) (E : List (Int × Int)) : List Int × Int := apG W E [] 0
theorem drop_get {α : Type} (E : List α) (j : Nat) (h : j < E.length) : E.drop j = E[j] :: E.drop (j + 1) := List.drop_eq_getElem_cons h
/-- The rest of a row. -/
theorem Ints.tail {w : World} {S : Nat → Prop} {y : Int} {l : List Int} {ad : Addr} {n cap : Nat} (h : Ints w S (y :: l) (.slice (some ad) n cap)) : Ints w S l (.slice (some (ad.add 1)) (n - 1) (cap - 1)) := by
  obtain ⟨a, c, b, off, hv, hc, hm, ha, hcell⟩ := h
  obtain ⟨e1, e2⟩ := ha (by simp)
  simp only [Value.slice.injEq] at hv
  obtain ⟨rfl, rfl, rfl⟩ := hv
  have e3 : ad = ⟨b, off, none⟩ := by injection e1
  subst e3
  clear e1 ha
  simp only [List.length_cons] at hc ⊢
  refine ⟨some ⟨b, off + 1, none⟩, cap - 1, b, off + 1, by simp [Addr.add], by omega, by omega, fun _ => ⟨rfl, e2⟩, fun i hi => ?_⟩
  have := hcell (i + 1) (by simp; omega)
  rw [show off + 1 + i = off + (i + 1) by omega]
  simpa using this
theorem Ints.cut {w : World} {S : Nat → Prop} {y : Int} {l : List Int} {b off n cap : Nat} (h : Ints w S (y :: l) (.slice (some ⟨b, off, none⟩) n cap)) : Ints w S l (.slice (if cap = 1 then some ⟨b, off, none⟩ else some ⟨b, off + 1, none⟩) (n - 1) (cap - 1)) := by
  by_cases hc : cap = 1
  · obtain ⟨a, c, b', o', hv, h1, h2, h3, h4⟩ := h
    simp only [Value.slice.injEq] at hv
    obtain ⟨rfl, rfl, rfl⟩ := hv
    simp only [List.length_cons] at h1
    have hl : l = [] := List.eq_nil_of_length_eq_zero (by omega)
    subst hl
    rw [if_pos hc]
    exact ⟨_, _, 0, 0, rfl, Nat.zero_le _, by omega, fun h => absurd h (Nat.not_lt_zero _), fun i hi => absurd hi (Nat.not_lt_zero _)⟩
  · rw [if_neg hc]
    exact h.tail
end Go.Proofs.Ytlidkcdhjbokdaa
