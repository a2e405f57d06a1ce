import Derived.Test.YtblfeifedcddnaaPt
/-! Matching: plain mathematics. -/
namespace Go.Proofs.Ytblfeifedcddnaa
set_option linter.unusedVariables false
set_option maxRecDepth 100000
set_option linter.unusedSimpArgs false

def eqK : List (Tr → Bool) → List Tr → Bool
  | [], [] => true
  | f :: fs, t :: ts => f t && eqK fs ts
  | _, _ => false
/-- Two trees are the same. -/
def eqT : Tr → Tr → Bool := Tr.fold fun n x lf fs => fun t => eqS n t.name && (eqS x t.text && ((lf == t.leaf) && eqK fs t.kids))
theorem eqT_mk (n x : ByteArray) (lf : Bool) (k : List Tr) (t : Tr) : eqT ⟨n, x, lf, k⟩ t = (eqS n t.name && (eqS x t.text && ((lf == t.leaf) && eqK (k.map eqT) t.kids))) := by
  unfold eqT
  rw [Tr.fold_mk]
theorem eqK_iff : ∀ (k m : List Tr), (∀ i (hi : i < k.length) u, eqT k[i] u = true ↔ k[i] = u) → (eqK (k.map eqT) m = true ↔ k = m)
  | [], [], _ => by simp [eqK]
  | [], _ :: _, _ => by simp [eqK]
  | _ :: _, [], _ => by simp [eqK]
  | t :: r, u :: m, h => by
    have h0 := h 0 (by simp) u
    simp only [List.getElem_cons_zero] at h0
    have h1 := eqK_iff r m (fun i hi v => by have := h (i + 1) (by simp; omega) v; simpa using this)
    rw [List.map_cons, eqK, Bool.and_eq_true, h0, h1, List.cons.injEq]
theorem eqT_iff (t : Tr) : ∀ u, eqT t u = true ↔ t = u := by
  refine Tr.ind (P := fun t => ∀ u, eqT t u = true ↔ t = u) ?_ t
  intro n x lf k ih u
  obtain ⟨n', x', lf', k'⟩ := u
  rw [eqT_mk]
  dsimp only
  rw [Bool.and_eq_true, Bool.and_eq_true, Bool.and_eq_true, eqS_iff, eqS_iff, eqK_iff k k' (fun i hi v => ih i hi v), beq_iff_eq, Tr.mk.injEq]
theorem eqT_no {t u : Tr} (h : ¬ t = u) : eqT t u = false := by
  cases e : eqT t u
  · rfl
  · exact absurd ((eqT_iff t u).1 e) h
/-- What a name is bound to. -/
def look : List (ByteArray × Tr) → ByteArray → Option Tr
  | [], _ => none
  | b :: bl, s => if eqS b.1 s = true then some b.2 else look bl s
theorem look_none {bl : List (ByteArray × Tr)} {s : ByteArray} (h : ∀ i (hi : i < bl.length), ¬ bl[i].1 = s) : look bl s = none := by
  induction bl with
  | nil => rfl
  | cons b r ih =>
    have h0 : ¬ b.1 = s := h 0 (by simp)
    rw [look, if_neg (by rw [eqS_no h0]; simp)]
    exact ih (fun i hi => by have := h (i + 1) (by simp; omega); simpa using this)
theorem look_at {bl : List (ByteArray × Tr)} {s : ByteArray} {j : Nat} (hj : j < bl.length) (h : ∀ i (hi : i < bl.length), i < j → ¬ bl[i].1 = s) (he : bl[j].1 = s) : look bl s = some bl[j].2 := by
  induction bl generalizing j with
  | nil => exact absurd hj (Nat.not_lt_zero _)
  | cons b r ih =>
    cases j with
    | zero =>
      simp only [List.getElem_cons_zero] at he ⊢
      rw [look, if_pos (by rw [he]; exact eqS_refl s)]
    | succ j =>
      have h0 : ¬ b.1 = s := h 0 (by simp) (by omega)
      rw [look, if_neg (by rw [eqS_no h0]; simp)]
      simp only [List.getElem_cons_succ] at he ⊢
      exact ih (by simpa using hj) (fun i hi hij => by have := h (i + 1) (by simp; omega) (by omega); simpa using this) he
/-- What a variable's place comes to. -/
def mtV (x : ByteArray) (t : Tr) (bl : List (ByteArray × Tr)) : List (ByteArray × Tr) × Bool :=
  match look bl x with
  | some u => (bl, eqT u t)
  | none => (bl ++ [(x, t)], true)
def mtK : List (Tr → List (ByteArray × Tr) → List (ByteArray × Tr) × Bool) → List Tr → List (ByteArray × Tr) → List (ByteArray × Tr) × Bool
  | f :: fs, t :: ts, bl => if (f t bl).2 = true then mtK fs ts (f t bl).1 else ((f t bl).1, false)
  | _, _, bl => (bl, true)
/-- The head of a pattern is the head of a tree. -/
def hdB (n x : ByteArray) (lf : Bool) (m : Nat) (t : Tr) : Bool := eqS n t.name && ((lf == t.leaf) && (eqS x t.text && decide (m = t.kids.length)))
/-- A tree is a pattern, with what is bound so far. -/
def mtT : Tr → Tr → List (ByteArray × Tr) → List (ByteArray × Tr) × Bool := Tr.fold fun n x lf fs => fun t bl => if vrB n lf = true then mtV x t bl else if hdB n x lf fs.length t = true then mtK fs t.kids bl else (bl, false)
theorem mtT_mk (n x : ByteArray) (lf : Bool) (k : List Tr) (t : Tr) (bl : List (ByteArray × Tr)) : mtT ⟨n, x, lf, k⟩ t bl = if vrB n lf = true then mtV x t bl else if hdB n x lf k.length t = true then mtK (k.map mtT) t.kids bl else (bl, false) := by
  unfold mtT
  rw [Tr.fold_mk, List.length_map]
theorem mtV_len (x : ByteArray) (t : Tr) (bl : List (ByteArray × Tr)) : (mtV x t bl).1.length ≤ bl.length + 1 := by
  unfold mtV
  split <;> simp
theorem mtK_len : ∀ (k ts : List Tr) (bl : List (ByteArray × Tr)), (∀ i (hi : i < k.length) t bl, (mtT k[i] t bl).1.length ≤ bl.length + k[i].cnt) → (mtK (k.map mtT) ts bl).1.length ≤ bl.length + Tr.cntL k
  | [], ts, bl, _ => by simp [mtK]
  | _ :: _, [], bl, _ => by simp [mtK]
  | p :: r, t :: ts, bl, h => by
    have h0 := h 0 (by simp) t bl
    simp only [List.getElem_cons_zero] at h0
    have h1 := mtK_len r ts (mtT p t bl).1 (fun i hi u m => by have := h (i + 1) (by simp; omega) u m; simpa using this)
    have e : Tr.cntL (p :: r) = p.cnt + Tr.cntL r := by simp [Tr.cntL]
    rw [List.map_cons, mtK]
    split
    · omega
    · dsimp only; omega
theorem mtT_len (p : Tr) : ∀ t bl, (mtT p t bl).1.length ≤ bl.length + p.cnt := by
  refine Tr.ind (P := fun p => ∀ t bl, (mtT p t bl).1.length ≤ bl.length + p.cnt) ?_ p
  intro n x lf k ih t bl
  rw [mtT_mk, Tr.cnt_mk]
  split
  · have := mtV_len x t bl
    omega
  · split
    · have := mtK_len k t.kids bl (fun i hi u m => ih i hi u m)
      omega
    · dsimp only; omega
theorem mtK_step {k ts : List Tr} {j : Nat} (h : j < k.length) (h' : j < ts.length) (bl : List (ByteArray × Tr)) : mtK ((k.drop j).map mtT) (ts.drop j) bl = if (mtT k[j] ts[j] bl).2 = true then mtK ((k.drop (j + 1)).map mtT) (ts.drop (j + 1)) (mtT k[j] ts[j] bl).1 else ((mtT k[j] ts[j] bl).1, false) := by
  rw [List.drop_eq_getElem_cons h, List.drop_eq_getElem_cons h', List.map_cons, mtK]
/-- What Match answers. -/
def maR (p t : Tr) : List (ByteArray × Tr) × Bool × Int :=
  if (patB p && t.ok) = true then (if (mtT p t []).2 = true then ((mtT p t []).1, true, 0) else ([], false, 0)) else ([], false, 1)
end Go.Proofs.Ytblfeifedcddnaa
