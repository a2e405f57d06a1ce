import Derived.Test.YteomgkcgjkbppaaPo
/-! Filling a pattern: plain mathematics. -/
namespace Go.Proofs.Yteomgkcgjkbppaa
set_option linter.unusedVariables false
set_option maxRecDepth 100000
set_option linter.unusedSimpArgs false

theorem Tr.len_le_cntL : ∀ k : List Tr, k.length ≤ Tr.cntL k
  | [] => Nat.zero_le _
  | t :: r => by
    have h := Tr.len_le_cntL r
    have h1 := Tr.cnt_pos t
    have e : Tr.cntL (t :: r) = t.cnt + Tr.cntL r := by simp [Tr.cntL]
    simp only [List.length_cons]
    omega
theorem Tr.cnt_mem (k : List Tr) (i : Nat) (h : i < k.length) : k[i].cnt ≤ Tr.cntL k := by
  have h1 := Tr.cntL_take_succ k i h
  have h2 := Tr.cntL_take_le k (i + 1)
  omega
theorem Tr.wtL_right : ∀ (k : List Tr), (∀ i (hi : i < k.length), k[i].right = true → k[i].wt + 1 ≤ 225 * k[i].cnt) → Tr.rightL k = true → k.length + Tr.wtL k ≤ 225 * Tr.cntL k
  | [], _, _ => by simp [Tr.wtL]
  | t :: r, h, hr => by
    have hr2 : t.right = true ∧ Tr.rightL r = true := by
      unfold Tr.rightL at hr ⊢
      rw [List.all_cons, Bool.and_eq_true] at hr
      exact hr
    have h0 := h 0 (by simp)
    simp only [List.getElem_cons_zero] at h0
    have h0' := h0 hr2.1
    have h1 := Tr.wtL_right r (fun i hi => by have := h (i + 1) (by simp; omega); simpa using this) hr2.2
    have e : Tr.cntL (t :: r) = t.cnt + Tr.cntL r := by simp [Tr.cntL]
    have e2 : Tr.wtL (t :: r) = t.wt + Tr.wtL r := by simp [Tr.wtL]
    simp only [List.length_cons]
    omega
/-- A right tree holds little. -/
theorem Tr.wt_right (t : Tr) : t.right = true → t.wt + 1 ≤ 225 * t.cnt := by
  refine Tr.ind (P := fun t => t.right = true → t.wt + 1 ≤ 225 * t.cnt) ?_ t
  intro n x l k ih hr
  rw [Tr.right_mk, Bool.and_eq_true] at hr
  rw [Tr.wt_mk, Tr.cnt_mk]
  have h1 := Tr.wtL_right k ih hr.2
  have hn : n.size ≤ 24 := by
    have h := hr.1
    unfold Tr.alone at h
    rw [Bool.and_eq_true] at h
    obtain ⟨_, h2, _⟩ := nmB_iff.1 h.1
    exact h2
  have hx : x.size ≤ 200 := by
    rcases Tr.alone_yes hr.1 with ⟨_, _, h⟩ | ⟨_, h⟩
    · exact h
    · rw [isEmpty_iff, decide_eq_true_eq] at h
      omega
  omega
theorem ok_right {t : Tr} (h : t.ok = true) : t.right = true := by
  unfold Tr.ok at h
  simp only [Bool.and_eq_true, decide_eq_true_eq] at h
  simp [h]
theorem ok_wt {t : Tr} (h : t.ok = true) : t.wt ≤ 1048576 := by
  have h1 := Tr.wt_right t (ok_right h)
  have h2 := ok_cnt h
  omega
/-- No tree: what stands beside a code that is not OK. -/
def noTr : Tr := ⟨ByteArray.empty, ByteArray.empty, false, []⟩
/-- A pattern with trees in it. -/
def flT (bl : List (ByteArray × Tr)) : Tr → Tr := Tr.fold fun n x lf ks => if vrB n lf = true then (look bl x).getD noTr else ⟨n, x, lf, ks⟩
theorem flT_mk (bl : List (ByteArray × Tr)) (n x : ByteArray) (lf : Bool) (k : List Tr) : flT bl ⟨n, x, lf, k⟩ = if vrB n lf = true then (look bl x).getD noTr else ⟨n, x, lf, k.map (flT bl)⟩ := by
  unfold flT
  rw [Tr.fold_mk]
/-- Each variable is bound. -/
def hvT (bl : List (ByteArray × Tr)) : Tr → Bool := Tr.fold fun n x lf fs => if vrB n lf = true then (look bl x).isSome else fs.all id
theorem hvT_mk (bl : List (ByteArray × Tr)) (n x : ByteArray) (lf : Bool) (k : List Tr) : hvT bl ⟨n, x, lf, k⟩ = if vrB n lf = true then (look bl x).isSome else k.all (hvT bl) := by
  unfold hvT
  rw [Tr.fold_mk, List.all_map]
  rfl
theorem hasS_mem {l : List ByteArray} {x : ByteArray} (h : hasS l x = true) : x ∈ l := by
  unfold hasS at h
  obtain ⟨y, h1, h2⟩ := List.any_eq_true.1 h
  rw [eqS_iff] at h2
  subst h2
  exact h1
theorem adS_all (f : ByteArray → Bool) (l : List ByteArray) (x : ByteArray) : (adS l x).all f = (l.all f && f x) := by
  unfold adS
  split
  · rename_i h
    have hm := hasS_mem h
    cases e : l.all f
    · rfl
    · rw [List.all_eq_true] at e
      rw [e x hm]
      rfl
  · simp
theorem vsK_all (bl : List (ByteArray × Tr)) : ∀ (k : List Tr) (l : List ByteArray), (∀ i (hi : i < k.length) l, nmV k[i] = true → (vsT k[i] l).1.all (fun x => (look bl x).isSome) = (l.all (fun x => (look bl x).isSome) && hvT bl k[i])) → k.all nmV = true → (vsK (k.map vsT) l).1.all (fun x => (look bl x).isSome) = (l.all (fun x => (look bl x).isSome) && k.all (hvT bl))
  | [], l, _, _ => by simp [vsK]
  | t :: r, l, h, hn => by
    rw [List.all_cons, Bool.and_eq_true] at hn
    have h0 := h 0 (by simp) l
    simp only [List.getElem_cons_zero] at h0
    have h1 := vsK_all bl r (vsT t l).1 (fun i hi m => by have := h (i + 1) (by simp; omega) m; simpa using this) hn.2
    rw [List.map_cons, vsK, if_pos (by rw [vsT_ok]; exact hn.1), h1, h0 hn.1, List.all_cons, Bool.and_assoc]
/-- Each of the variables is bound: so says their list. -/
theorem vsT_all (bl : List (ByteArray × Tr)) (p : Tr) : ∀ l, nmV p = true → (vsT p l).1.all (fun x => (look bl x).isSome) = (l.all (fun x => (look bl x).isSome) && hvT bl p) := by
  refine Tr.ind (P := fun p => ∀ l, nmV p = true → (vsT p l).1.all (fun x => (look bl x).isSome) = (l.all (fun x => (look bl x).isSome) && hvT bl p)) ?_ p
  intro n x lf k ih l hn
  rw [nmV_mk] at hn
  rw [vsT_mk, hvT_mk]
  split
  · exact adS_all _ l x
  · rename_i hv
    rw [if_neg hv] at hn
    exact vsK_all bl k l (fun i hi m hm => ih i hi m hm) hn
/-- The bind j is right, and the first of its name. -/
def oneB (bl : List (ByteArray × Tr)) (j : Nat) : Bool := nmB (nb bl j).1 && ((nb bl j).2.ok && (List.range j).all fun i => !eqS (nb bl i).1 (nb bl j).1)
/-- The first j binds are right. -/
def bdJ (bl : List (ByteArray × Tr)) : Nat → Bool
  | 0 => true
  | j + 1 => bdJ bl j && oneB bl j
def bdB (bl : List (ByteArray × Tr)) : Bool := bdJ bl bl.length
theorem bdJ_false (bl : List (ByteArray × Tr)) {i : Nat} : ∀ j, i ≤ j → bdJ bl i = false → bdJ bl j = false
  | 0, h, e => by rw [Nat.le_zero.1 h] at e; exact e
  | j + 1, h, e => by
    by_cases q : i = j + 1
    · rw [← q]; exact e
    · rw [bdJ, bdJ_false bl j (by omega) e]; rfl
theorem bdB_at {bl : List (ByteArray × Tr)} (h : bdB bl = true) {i : Nat} (hi : i < bl.length) : oneB bl i = true := by
  cases e : oneB bl i
  · have h1 : bdJ bl (i + 1) = false := by rw [bdJ, e]; simp
    have := bdJ_false bl bl.length (by omega) h1
    unfold bdB at h
    rw [this] at h
    cases h
  · rfl
/-- What Fill answers. -/
def fiR (p : Tr) (bl : List (ByteArray × Tr)) : Tr × Int :=
  if (patB p && bdB bl) = true then (if hvT bl p = true then (if (flT bl p).ok = true then (flT bl p, 0) else (noTr, 3)) else (noTr, 8)) else (noTr, 1)
end Go.Proofs.Yteomgkcgjkbppaa
