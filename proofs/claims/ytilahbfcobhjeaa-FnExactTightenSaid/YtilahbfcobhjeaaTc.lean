import Derived.Test.YtilahbfcobhjeaaTb
/-! Programs that are made tighter: what is come to. -/
namespace Go.Proofs.Ytilahbfcobhjeaa
open Go.RowKit Go.Deep
set_option linter.unusedVariables false
set_option maxRecDepth 100000
set_option linter.unusedSimpArgs false

/-- An instruction with its To where that leads in the end. -/
def ldX (l : List DIns) (x : DIns) : DIns := if htB x.op = true then ⟨x.op, x.n, (ldT l x.to_.toNat : Nat)⟩ else x
/-- .. all of them. -/
def led (l : List DIns) : List DIns := l.map (ldX l)
theorem led_len (l : List DIns) : (led l).length = l.length := by simp [led]
theorem ldX_op (l : List DIns) (x : DIns) : (ldX l x).op = x.op := by unfold ldX; split <;> rfl
theorem led_get {l : List DIns} {i : Nat} (h : i < (led l).length) : (led l)[i] = ldX l (l[i]'(by rw [led_len] at h; exact h)) := by simp [led]
/-- Where one comes to by jumps is a place. -/
theorem ldk_lt {l : List DIns} (hin : ∀ i (hi : i < l.length), inB l.length l[i] = true) : ∀ (f k m : Nat), k < l.length → ldk l f k = some m → m < l.length := by
  intro f
  induction f with
  | zero => intro k m hk h; cases h
  | succ f ih =>
    intro k m hk h
    by_cases h5 : (insAt l k).op = 5
    · rw [ldk_on h5] at h
      rw [insAt_at hk] at h h5
      obtain ⟨_, _, f3, f4, _, _⟩ := in_facts (hin k hk)
      have := f4 (by rw [h5]; rfl)
      exact ih _ _ (by omega) h
    · rw [ldk_end h5] at h
      injection h with h
      omega
theorem ldT_lt {l : List DIns} (hin : ∀ i (hi : i < l.length), inB l.length l[i] = true) {k : Nat} (hk : k < l.length) : ldT l k < l.length := by
  unfold ldT
  cases e : ldk l (l.length + 1) k with
  | none => exact hk
  | some m => exact ldk_lt hin _ _ _ hk e
/-- A set of places that holds the first and with each one those that are come to from it. -/
structure Cld (l : List DIns) (bs : List Bool) : Prop where
  len : bs.length = l.length
  zero : bs.getD 0 false = true
  next : ∀ k (hk : k < l.length), bs.getD k false = true → gsB l[k].op = true → bs.getD (k + 1) false = true
  to_ : ∀ k (hk : k < l.length), bs.getD k false = true → htB l[k].op = true → bs.getD l[k].to_.toNat false = true
/-- The least of them. -/
structure Lst (l : List DIns) (bs : List Bool) : Prop where
  cl : Cld l bs
  least : ∀ cs, Cld l cs → ∀ k, bs.getD k false = true → cs.getD k false = true
theorem Lst.uniq {l : List DIns} {bs cs : List Bool} (h : Lst l bs) (k : Lst l cs) : bs = cs := by
  apply List.ext_getElem
  · rw [h.cl.len, k.cl.len]
  · intro i h1 h2
    have e1 : bs.getD i false = bs[i] := by simp [List.getD_eq_getElem?_getD, h1]
    have e2 : cs.getD i false = cs[i] := by simp [List.getD_eq_getElem?_getD, h2]
    have q1 := h.least cs k.cl i
    have q2 := k.least bs h.cl i
    rw [e1, e2] at q1
    rw [e1, e2] at q2
    cases hb : bs[i] <;> cases hc : cs[i]
    · rfl
    · rw [hb, hc] at q2; exact q2 rfl
    · rw [hb, hc] at q1; exact (q1 rfl).symm
    · rfl
/-- What is known while places wait (T) and others have been seen (M). -/
structure Sn (l : List DIns) (M : List Bool) (T : List Nat) : Prop where
  len : M.length = l.length
  zero : M.getD 0 false = true ∨ 0 ∈ T
  next : ∀ k (hk : k < l.length), M.getD k false = true → gsB l[k].op = true → M.getD (k + 1) false = true ∨ k + 1 ∈ T
  to_ : ∀ k (hk : k < l.length), M.getD k false = true → htB l[k].op = true → M.getD l[k].to_.toNat false = true ∨ l[k].to_.toNat ∈ T
  low : ∀ cs, Cld l cs → (∀ k, M.getD k false = true → cs.getD k false = true) ∧ ∀ k, k ∈ T → cs.getD k false = true
/-- At its end they are the least. -/
theorem Sn.done {l : List DIns} {M : List Bool} (h : Sn l M []) : Lst l M :=
  ⟨⟨h.len, h.zero.resolve_right (by simp), fun k hk h1 h2 => (h.next k hk h1 h2).resolve_right (by simp), fun k hk h1 h2 => (h.to_ k hk h1 h2).resolve_right (by simp)⟩, fun cs hc => (h.low cs hc).1⟩
theorem Sn.start {l : List DIns} (M : List Bool) (hM : M.length = l.length) (hz : ∀ k, M.getD k false = false) : Sn l M [0] :=
  ⟨hM, .inr (by simp), fun k _ h => (by rw [hz k] at h; cases h), fun k _ h => (by rw [hz k] at h; cases h), fun cs hc => ⟨fun k h => (by rw [hz k] at h; cases h), fun k hk => by simp at hk; subst hk; exact hc.zero⟩⟩
end Go.Proofs.Ytilahbfcobhjeaa
