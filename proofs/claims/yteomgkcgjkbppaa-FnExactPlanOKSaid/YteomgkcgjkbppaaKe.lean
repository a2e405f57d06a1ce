import Derived.Test.YteomgkcgjkbppaaKa
import Derived.Test.YteomgkcgjkbppaaFa
import Derived.Test.YteomgkcgjkbppaaPw
/-! Pure: which rules are right. -/
namespace Go.Proofs.Yteomgkcgjkbppaa
open Go.RowKit Go.Deep Go.Lib Go.ChangeShapes Go.WideShapes
set_option linter.unusedVariables false
set_option maxRecDepth 100000
set_option linter.unusedSimpArgs false

theorem leaf_bare {n x : ByteArray} {k : List Tr} (h : (⟨n, x, true, k⟩ : Tr).right = true) : k = [] := by
  rw [Tr.right_mk] at h
  simp [Tr.alone] at h
  exact h.1.2.1
theorem look_has (bl : List (ByteArray × Tr)) (s : ByteArray) : hasS (bl.map fun b => b.1) s = (look bl s).isSome := by
  induction bl with
  | nil => rfl
  | cons b r ih =>
    unfold hasS at ih ⊢
    rw [List.map_cons, List.any_cons, ih, look]
    cases e : eqS b.1 s <;> simp
theorem look_some {bl : List (ByteArray × Tr)} {s : ByteArray} {u : Tr} (h : look bl s = some u) : (s, u) ∈ bl := by
  induction bl with
  | nil => cases h
  | cons b r ih =>
    rw [look] at h
    split at h
    · rename_i e
      injection h with h
      rw [eqS_iff] at e
      subst e h
      exact List.mem_cons_self
    · exact List.mem_cons_of_mem _ (ih h)
/-- Each name stands for the variable itself. -/
def selfB (bl : List (ByteArray × Tr)) : Prop := ∀ b, b ∈ bl → b.2 = ⟨varN, b.1, true, []⟩
def SlfA (R : List (ByteArray × Tr) × Bool) (l : List ByteArray) : Prop := R.2 = true ∧ selfB R.1 ∧ (R.1.map fun b => b.1) = l
theorem mtK_self : ∀ (k : List Tr) (bl : List (ByteArray × Tr)), (∀ i (hi : i < k.length) bl, selfB bl → k[i].right = true → nmV k[i] = true → SlfA (mtT k[i] k[i] bl) (vsT k[i] (bl.map fun b => b.1)).1) → selfB bl → Tr.rightL k = true → k.all nmV = true →
    SlfA (mtK (k.map mtT) k bl) (vsK (k.map vsT) (bl.map fun b => b.1)).1
  | [], bl, _, hs, _, _ => ⟨rfl, hs, rfl⟩
  | t :: r, bl, h, hs, hr, hn => by
    rw [List.all_cons, Bool.and_eq_true] at hn
    have hr2 : t.right = true ∧ Tr.rightL r = true := by
      unfold Tr.rightL at hr ⊢
      rw [List.all_cons, Bool.and_eq_true] at hr
      exact hr
    have h0 := h 0 (by simp) bl hs
    simp only [List.getElem_cons_zero] at h0
    obtain ⟨g1, g2, g3⟩ := h0 hr2.1 hn.1
    have h1 := mtK_self r (mtT t t bl).1 (fun i hi m q1 q2 q3 => by
      have := h (i + 1) (by simp; omega) m q1
      simp only [List.getElem_cons_succ] at this
      exact this q2 q3) g2 hr2.2 hn.2
    rw [List.map_cons, List.map_cons, mtK, vsK, if_pos g1, if_pos (by rw [vsT_ok]; exact hn.1), ← g3]
    exact h1
/-- A pattern that is matched with itself has a bind for each of its variables. -/
theorem mtT_self (p : Tr) : ∀ bl, selfB bl → p.right = true → nmV p = true → SlfA (mtT p p bl) (vsT p (bl.map fun b => b.1)).1 := by
  refine Tr.ind (P := fun p => ∀ bl, selfB bl → p.right = true → nmV p = true → SlfA (mtT p p bl) (vsT p (bl.map fun b => b.1)).1) ?_ p
  intro n x lf k ih bl hs hr hn
  rw [mtT_mk, vsT_mk]
  rw [nmV_mk] at hn
  split
  · rename_i hv
    have hv2 := hv
    unfold vrB at hv2
    rw [Bool.and_eq_true, eqS_iff] at hv2
    obtain ⟨rfl, rfl⟩ := hv2
    obtain rfl := leaf_bare hr
    have hh := look_has bl x
    unfold mtV
    cases e : look bl x with
    | some u =>
      have hu := hs _ (look_some e)
      rw [e] at hh
      refine ⟨?_, hs, ?_⟩
      · dsimp only
        rw [eqT_iff]
        exact hu
      · dsimp only
        unfold adS
        rw [hh]
        simp
    | none =>
      rw [e] at hh
      refine ⟨rfl, fun b hb => ?_, ?_⟩
      · rcases List.mem_append.1 hb with h | h
        · exact hs b h
        · rw [List.mem_singleton] at h
          subst h
          rfl
      · dsimp only
        unfold adS
        rw [hh]
        simp
  · rename_i hv
    rw [if_neg hv] at hn
    rw [Tr.right_mk, Bool.and_eq_true] at hr
    rw [if_pos (by simp [hdB, eqS_refl])]
    exact mtK_self k bl (fun i hi m q1 q2 q3 => ih i hi m q1 q2 q3) hs hr.2 hn
/-- The words of plans. -/
def idN : ByteArray := ⟨#[105, 100]⟩
def failN : ByteArray := ⟨#[102, 97, 105, 108]⟩
def pw7 : List ByteArray := [⟨#[97, 108, 108]⟩, ⟨#[111, 110, 101]⟩, ⟨#[116, 114, 121]⟩, ⟨#[114, 101, 112, 101, 97, 116]⟩, ⟨#[100, 111, 119, 110]⟩, ⟨#[117, 112]⟩, ⟨#[105, 110, 110, 101, 114]⟩]
def pwB (s : ByteArray) : Bool := hasS (idN :: failN :: pw7) s
/-- A rule is right, as the program asks. -/
def rulB (r : Rw) : Bool := nmB r.name && (!pwB r.name && (patB r.left && (patB r.right && (!vrB r.left.name r.left.leaf && hvT (mtT r.left r.left []).1 r.right))))
theorem rul_same {l r : Tr} (hl : patB l = true) (hr : patB r = true) : (vsT r []).1.all (hasS (vsT l []).1) = hvT (mtT l l []).1 r := by
  unfold patB at hl hr
  rw [Bool.and_eq_true] at hl hr
  obtain ⟨_, _, h3⟩ := mtT_self l [] (fun b hb => by cases hb) (ok_right hl.1) hl.2
  have h4 := vsT_all (mtT l l []).1 r [] hr.2
  rw [List.all_nil, Bool.true_and] at h4
  rw [← h4]
  congr 1
  funext x
  rw [← look_has, h3]
  rfl
/-- The rules' names. -/
def nms (rl : List Rw) : List ByteArray := rl.map fun r => r.name
/-- The first j rules are right, and each is the first of its name. -/
def onJ (rl : List Rw) : Nat → Bool
  | 0 => true
  | j + 1 => onJ rl j && !hasS (nms (rl.take j)) ((rl[j]?.map fun r => r.name).getD ByteArray.empty)
def rlsB (rl : List Rw) : Bool := decide (rl.length ≤ 20) && (rl.all rulB && onJ rl rl.length)
theorem onJ_succ {rl : List Rw} {j : Nat} (h : j < rl.length) : onJ rl (j + 1) = (onJ rl j && !hasS (nms (rl.take j)) rl[j].name) := by
  rw [onJ, List.getElem?_eq_getElem h]
  rfl
theorem onJ_false (rl : List Rw) {i : Nat} : ∀ j, i ≤ j → onJ rl i = false → onJ rl j = false
  | 0, h, e => by rw [Nat.le_zero.1 h] at e; exact e
  | j + 1, h, e => by
    by_cases q : i = j + 1
    · rw [← q]; exact e
    · rw [onJ, onJ_false rl j (by omega) e]; rfl
theorem rul_false {rl : List Rw} {j : Nat} (h : j < rl.length) (e : rulB rl[j] = false) : rlsB rl = false := by
  unfold rlsB
  have : rl.all rulB = false := by
    rw [List.all_eq_false]
    exact ⟨rl[j], List.getElem_mem h, by rw [e]; simp⟩
  rw [this]
  simp
theorem on_false {rl : List Rw} {j : Nat} (h : j ≤ rl.length) (e : onJ rl j = false) : rlsB rl = false := by
  unfold rlsB
  rw [onJ_false rl rl.length h e]
  simp
theorem len_false {rl : List Rw} (h : 20 < rl.length) : rlsB rl = false := by
  unfold rlsB
  rw [decide_eq_false (by omega)]
  rfl
theorem rls_true {rl : List Rw} (h : rl.length ≤ 20) (h1 : ∀ i (hi : i < rl.length), rulB rl[i] = true) (h2 : onJ rl rl.length = true) : rlsB rl = true := by
  unfold rlsB
  rw [decide_eq_true h, h2]
  simp
  intro r hr
  obtain ⟨i, hi, rfl⟩ := List.mem_iff_getElem.1 hr
  exact h1 i hi
end Go.Proofs.Yteomgkcgjkbppaa
