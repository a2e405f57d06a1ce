import Derived.Test.YtboffildchoelaaPt
/-! Patterns with two kinds of variables, and holes: plain mathematics. -/
namespace Go.Proofs.Ytboffildchoelaa
set_option linter.unusedVariables false
set_option maxRecDepth 100000
set_option linter.unusedSimpArgs false

def valN : ByteArray := ⟨#[86, 97, 108]⟩
def holN : ByteArray := ⟨#[72, 111, 108, 101]⟩
/-- A leaf that is a variable. -/
def v6B (n : ByteArray) (l : Bool) : Bool := l && (eqS n varN || eqS n valN)
/-- A leaf that is a hole. -/
def hoB (n : ByteArray) (l : Bool) : Bool := l && eqS n holN
def emB (x : ByteArray) : Bool := decide (x.size = 0)
def hoK (n x : ByteArray) (l : Bool) : Bool := !(hoB n l) || emB x
theorem ho_v6 {n : ByteArray} {l : Bool} (h : hoB n l = true) : v6B n l = false := by
  unfold hoB at h
  rw [Bool.and_eq_true, eqS_iff] at h
  obtain ⟨rfl, rfl⟩ := h
  decide
/-- The variables behind those of a list, as the specification gathers them. -/
def ws : Tr → List ByteArray → List ByteArray × Bool := Tr.fold fun n x lf fs => fun l => if v6B n lf = true then (adS l x, nmB x) else if hoK n x lf = true then vsK fs l else (l, false)
theorem ws_mk (n x : ByteArray) (lf : Bool) (k : List Tr) (l : List ByteArray) : ws ⟨n, x, lf, k⟩ l = if v6B n lf = true then (adS l x, nmB x) else if hoK n x lf = true then vsK (k.map ws) l else (l, false) := by
  unfold ws
  rw [Tr.fold_mk]
theorem wsK_len : ∀ (k : List Tr) (l : List ByteArray), (∀ i (hi : i < k.length) l, (ws k[i] l).1.length ≤ l.length + k[i].cnt) → (vsK (k.map ws) l).1.length ≤ l.length + Tr.cntL k
  | [], l, _ => by simp [vsK]
  | t :: r, l, h => by
    have h0 := h 0 (by simp) l
    simp only [List.getElem_cons_zero] at h0
    have h1 := wsK_len r (ws t l).1 (fun i hi m => by have := h (i + 1) (by simp; omega) m; simpa using this)
    have e : Tr.cntL (t :: r) = t.cnt + Tr.cntL r := by simp [Tr.cntL]
    rw [List.map_cons, vsK]
    split
    · omega
    · dsimp only; omega
theorem ws_len (t : Tr) : ∀ l, (ws t l).1.length ≤ l.length + t.cnt := by
  refine Tr.ind (P := fun t => ∀ l, (ws t l).1.length ≤ l.length + t.cnt) ?_ t
  intro n x lf k ih l
  rw [ws_mk, Tr.cnt_mk]
  split
  · have := adS_len l x
    dsimp only
    omega
  · split
    · have := wsK_len k l (fun i hi m => ih i hi m)
      omega
    · dsimp only; omega
theorem wsK_step {k : List Tr} {j : Nat} (h : j < k.length) (l : List ByteArray) : vsK ((k.drop j).map ws) l = if (ws k[j] l).2 = true then vsK ((k.drop (j + 1)).map ws) (ws k[j] l).1 else ((ws k[j] l).1, false) := by
  rw [List.drop_eq_getElem_cons h, List.map_cons, vsK]
/-- How many holes there are. -/
def hN : Tr → Nat := Tr.fold fun n x lf fs => (if hoB n lf = true then 1 else 0) + fs.sum
def hNL (k : List Tr) : Nat := (k.map hN).sum
theorem hN_mk (n x : ByteArray) (lf : Bool) (k : List Tr) : hN ⟨n, x, lf, k⟩ = (if hoB n lf = true then 1 else 0) + hNL k := by
  unfold hNL hN
  rw [Tr.fold_mk]
theorem hNL_take (k : List Tr) (j : Nat) (h : j < k.length) : hNL (k.take (j + 1)) = hNL (k.take j) + hN k[j] := by
  unfold hNL
  rw [List.take_succ_eq_append_getElem h, List.map_append, List.sum_append]
  simp
theorem hNL_le : ∀ (k : List Tr), (∀ i (hi : i < k.length), hN k[i] ≤ k[i].cnt) → hNL k ≤ Tr.cntL k
  | [], _ => by simp [hNL]
  | t :: r, h => by
    have h0 := h 0 (by simp)
    simp only [List.getElem_cons_zero] at h0
    have h1 := hNL_le r (fun i hi => by have := h (i + 1) (by simp; omega); simpa using this)
    simp [hNL, Tr.cntL] at h0 h1 ⊢
    omega
theorem hN_le (t : Tr) : hN t ≤ t.cnt := by
  refine Tr.ind (P := fun t => hN t ≤ t.cnt) ?_ t
  intro n x lf k ih
  rw [hN_mk, Tr.cnt_mk]
  have := hNL_le k ih
  split <;> omega
theorem hNL_take_le (k : List Tr) (j : Nat) : hNL (k.take j) ≤ Tr.cntL k := by
  have h1 := hNL_le (k.take j) (fun i hi => hN_le _)
  have h2 := Tr.cntL_take_le k j
  omega
/-- Each variable has a name, and no hole a text. -/
def nm6 : Tr → Bool := Tr.fold fun n x lf fs => if v6B n lf = true then nmB x else hoK n x lf && fs.all id
theorem nm6_mk (n x : ByteArray) (lf : Bool) (k : List Tr) : nm6 ⟨n, x, lf, k⟩ = if v6B n lf = true then nmB x else (hoK n x lf && k.all nm6) := by
  unfold nm6
  rw [Tr.fold_mk, List.all_map]
  rfl
theorem wsK_ok : ∀ (k : List Tr) (l : List ByteArray), (∀ i (hi : i < k.length) l, (ws k[i] l).2 = nm6 k[i]) → (vsK (k.map ws) l).2 = k.all nm6
  | [], l, _ => rfl
  | t :: r, l, h => by
    have h0 := h 0 (by simp) l
    simp only [List.getElem_cons_zero] at h0
    have h1 := wsK_ok r (ws t l).1 (fun i hi m => by have := h (i + 1) (by simp; omega) m; simpa using this)
    rw [List.map_cons, vsK, List.all_cons, ← h0]
    split
    · rename_i e
      rw [e, h1]
      simp
    · rename_i e
      have e2 : (ws t l).2 = false := by simpa using e
      rw [e2]
      rfl
theorem ws_ok (t : Tr) : ∀ l, (ws t l).2 = nm6 t := by
  refine Tr.ind (P := fun t => ∀ l, (ws t l).2 = nm6 t) ?_ t
  intro n x lf k ih l
  rw [ws_mk, nm6_mk]
  split
  · rfl
  · split
    · rename_i e
      rw [wsK_ok k l (fun i hi m => ih i hi m), e]
      rfl
    · rename_i e
      have e2 : hoK n x lf = false := by simpa using e
      rw [e2]
      rfl
/-- One behind the other. -/
def pvK (fs : List (List ByteArray → List ByteArray)) (l : List ByteArray) : List ByteArray := fs.foldl (fun l f => f l) l
/-- The variables, as the program numbers them. -/
def pv : Tr → List ByteArray → List ByteArray := Tr.fold fun n x lf fs => fun l => if hoB n lf = true then l else if v6B n lf = true then adS l x else pvK fs l
theorem pv_mk (n x : ByteArray) (lf : Bool) (k : List Tr) (l : List ByteArray) : pv ⟨n, x, lf, k⟩ l = if hoB n lf = true then l else if v6B n lf = true then adS l x else pvK (k.map pv) l := by
  unfold pv
  rw [Tr.fold_mk]
theorem pvK_take {k : List Tr} {j : Nat} (h : j < k.length) (l : List ByteArray) : pvK ((k.take (j + 1)).map pv) l = pv k[j] (pvK ((k.take j).map pv) l) := by
  unfold pvK
  rw [List.take_succ_eq_append_getElem h, List.map_append, List.foldl_append]
  rfl
def ph : Tr → Nat := Tr.fold fun n x lf fs => if hoB n lf = true then 1 else if v6B n lf = true then 0 else fs.sum
def phL (k : List Tr) : Nat := (k.map ph).sum
theorem ph_mk (n x : ByteArray) (lf : Bool) (k : List Tr) : ph ⟨n, x, lf, k⟩ = if hoB n lf = true then 1 else if v6B n lf = true then 0 else phL k := by
  unfold phL ph
  rw [Tr.fold_mk]
theorem phL_take (k : List Tr) (j : Nat) (h : j < k.length) : phL (k.take (j + 1)) = phL (k.take j) + ph k[j] := by
  unfold phL
  rw [List.take_succ_eq_append_getElem h, List.map_append, List.sum_append]
  simp
/-- Something is wrong. -/
def pf : Tr → Bool := Tr.fold fun n x lf fs => if hoB n lf = true then !(emB x) else if v6B n lf = true then !(nmB x) else fs.any id
theorem pf_mk (n x : ByteArray) (lf : Bool) (k : List Tr) : pf ⟨n, x, lf, k⟩ = if hoB n lf = true then !(emB x) else if v6B n lf = true then !(nmB x) else k.any pf := by
  unfold pf
  rw [Tr.fold_mk, List.any_map]
  rfl
theorem pfL_take (k : List Tr) (j : Nat) (h : j < k.length) : (k.take (j + 1)).any pf = ((k.take j).any pf || pf k[j]) := by
  rw [List.take_succ_eq_append_getElem h, List.any_append]
  simp
theorem bare {n x : ByteArray} {k : List Tr} (h : (⟨n, x, true, k⟩ : Tr).right = true) : k = [] := by
  rw [Tr.right_mk] at h
  simp [Tr.alone] at h
  exact h.1.2.1
theorem right_kid {n x : ByteArray} {lf : Bool} {k : List Tr} (h : (⟨n, x, lf, k⟩ : Tr).right = true) (i : Nat) (hi : i < k.length) : k[i].right = true := by
  rw [Tr.right_mk, Bool.and_eq_true] at h
  have := h.2
  unfold Tr.rightL at this
  rw [List.all_eq_true] at this
  exact this _ (List.getElem_mem hi)
theorem ho_leaf {n : ByteArray} {l : Bool} (h : hoB n l = true) : l = true := by
  unfold hoB at h
  rw [Bool.and_eq_true] at h
  exact h.1
theorem v6_leaf {n : ByteArray} {l : Bool} (h : v6B n l = true) : l = true := by
  unfold v6B at h
  rw [Bool.and_eq_true] at h
  exact h.1
theorem v6_ho {n : ByteArray} {l : Bool} (h : v6B n l = true) : hoB n l = false := by
  cases e : hoB n l
  · rfl
  · rw [ho_v6 e] at h
    cases h
theorem phL_hNL : ∀ (k : List Tr), (∀ i (hi : i < k.length), ph k[i] = hN k[i]) → phL k = hNL k
  | [], _ => rfl
  | t :: r, h => by
    have h0 := h 0 (by simp)
    simp only [List.getElem_cons_zero] at h0
    have h1 := phL_hNL r (fun i hi => by have := h (i + 1) (by simp; omega); simpa using this)
    unfold phL hNL at *
    rw [List.map_cons, List.map_cons, List.sum_cons, List.sum_cons, h0, h1]
theorem ph_hN (t : Tr) : t.right = true → ph t = hN t := by
  refine Tr.ind (P := fun t => t.right = true → ph t = hN t) ?_ t
  intro n x lf k ih hr
  rw [ph_mk, hN_mk]
  cases h : hoB n lf
  · simp only [Bool.false_eq_true, if_false, Nat.zero_add]
    split
    · rename_i e
      have := v6_leaf e
      subst this
      obtain rfl := bare hr
      rfl
    · exact phL_hNL k (fun i hi => ih i hi (right_kid hr i hi))
  · have := ho_leaf h
    subst this
    obtain rfl := bare hr
    rfl
theorem all_any_not (k : List Tr) (h : ∀ i (hi : i < k.length), pf k[i] = !(nm6 k[i])) : k.any pf = !(k.all nm6) := by
  induction k with
  | nil => rfl
  | cons t r ih =>
    have h0 := h 0 (by simp)
    simp only [List.getElem_cons_zero] at h0
    have h1 := ih (fun i hi => by have := h (i + 1) (by simp; omega); simpa using this)
    rw [List.any_cons, List.all_cons, h0, h1, Bool.not_and]
theorem pf_nm (t : Tr) : t.right = true → pf t = !(nm6 t) := by
  refine Tr.ind (P := fun t => t.right = true → pf t = !(nm6 t)) ?_ t
  intro n x lf k ih hr
  rw [pf_mk, nm6_mk]
  cases h : hoB n lf
  · rw [if_neg (by simp)]
    split
    · rfl
    · rw [all_any_not k (fun i hi => ih i hi (right_kid hr i hi))]
      unfold hoK
      rw [h]
      simp
  · have hl := ho_leaf h
    have hv := ho_v6 h
    subst hl
    obtain rfl := bare hr
    rw [if_pos rfl, hv, if_neg (by simp)]
    unfold hoK
    rw [h]
    simp
theorem wsK_pv : ∀ (k : List Tr) (l : List ByteArray), (∀ i (hi : i < k.length) l, nm6 k[i] = true → (ws k[i] l).1 = pv k[i] l) → k.all nm6 = true → (vsK (k.map ws) l).1 = pvK (k.map pv) l
  | [], l, _, _ => rfl
  | t :: r, l, h, ha => by
    rw [List.all_cons, Bool.and_eq_true] at ha
    have h0 := h 0 (by simp) l
    simp only [List.getElem_cons_zero] at h0
    have h1 := wsK_pv r (ws t l).1 (fun i hi m => by have := h (i + 1) (by simp; omega) m; simpa using this) ha.2
    rw [List.map_cons, vsK, if_pos (by rw [ws_ok]; exact ha.1), h1, h0 ha.1]
    rfl
theorem ws_pv (t : Tr) : ∀ l, t.right = true → nm6 t = true → (ws t l).1 = pv t l := by
  refine Tr.ind (P := fun t => ∀ l, t.right = true → nm6 t = true → (ws t l).1 = pv t l) ?_ t
  intro n x lf k ih l hr hn
  rw [nm6_mk] at hn
  rw [ws_mk, pv_mk]
  cases h : hoB n lf
  · rw [if_neg (by simp : ¬ (false = true))]
    split
    · rfl
    · rename_i hv
      rw [if_neg hv, Bool.and_eq_true] at hn
      rw [if_pos hn.1]
      exact wsK_pv k l (fun i hi m hm => ih i hi m (right_kid hr i hi) hm) hn.2
  · have hl := ho_leaf h
    have hv := ho_v6 h
    subst hl
    obtain rfl := bare hr
    rw [hv, if_neg (by simp), if_pos rfl]
    split <;> rfl
/-- A variable of this name stands in it. -/
def inV (s : ByteArray) : Tr → Bool := Tr.fold fun n x lf fs => if hoB n lf = true then false else if v6B n lf = true then eqS x s else fs.any id
theorem inV_mk (s n x : ByteArray) (lf : Bool) (k : List Tr) : inV s ⟨n, x, lf, k⟩ = if hoB n lf = true then false else if v6B n lf = true then eqS x s else k.any (inV s) := by
  unfold inV
  rw [Tr.fold_mk, List.any_map]
  rfl
theorem hasS_iff {l : List ByteArray} {s : ByteArray} : hasS l s = true ↔ s ∈ l := by
  unfold hasS
  rw [List.any_eq_true]
  constructor
  · rintro ⟨x, hx, he⟩
    rw [eqS_iff] at he
    subst he
    exact hx
  · intro h
    exact ⟨s, h, eqS_refl s⟩
theorem mem_adS {l : List ByteArray} {x s : ByteArray} : s ∈ adS l x ↔ s ∈ l ∨ eqS x s = true := by
  unfold adS
  rw [eqS_iff]
  split
  · rename_i h
    rw [hasS_iff] at h
    constructor
    · exact .inl
    · rintro (h1 | rfl)
      · exact h1
      · exact h
  · rw [List.mem_append, List.mem_singleton]
    constructor
    · rintro (h | h)
      · exact .inl h
      · exact .inr h.symm
    · rintro (h | h)
      · exact .inl h
      · exact .inr h.symm
theorem mem_pvK (s : ByteArray) : ∀ (k : List Tr) (l : List ByteArray), (∀ i (hi : i < k.length) l, s ∈ pv k[i] l ↔ s ∈ l ∨ inV s k[i] = true) → (s ∈ pvK (k.map pv) l ↔ s ∈ l ∨ k.any (inV s) = true)
  | [], l, _ => by simp [pvK]
  | t :: r, l, h => by
    have h0 := h 0 (by simp) l
    simp only [List.getElem_cons_zero] at h0
    have h1 := mem_pvK s r (pv t l) (fun i hi m => by have := h (i + 1) (by simp; omega) m; simpa using this)
    have e : pvK ((t :: r).map pv) l = pvK (r.map pv) (pv t l) := rfl
    rw [e, h1, h0, List.any_cons, Bool.or_eq_true]
    exact or_assoc
theorem mem_pv (s : ByteArray) (t : Tr) : ∀ l, s ∈ pv t l ↔ s ∈ l ∨ inV s t = true := by
  refine Tr.ind (P := fun t => ∀ l, s ∈ pv t l ↔ s ∈ l ∨ inV s t = true) ?_ t
  intro n x lf k ih l
  rw [pv_mk, inV_mk]
  split
  · simp
  · split
    · exact mem_adS
    · exact mem_pvK s k l (fun i hi m => ih i hi m)
theorem adS_pre (l : List ByteArray) (x : ByteArray) : l <+: adS l x := by
  unfold adS
  split
  · exact List.prefix_refl _
  · exact List.prefix_append _ _
theorem pvK_pre : ∀ (k : List Tr) (l : List ByteArray), (∀ i (hi : i < k.length) l, l <+: pv k[i] l) → l <+: pvK (k.map pv) l
  | [], l, _ => List.prefix_refl _
  | t :: r, l, h => by
    have h0 := h 0 (by simp) l
    simp only [List.getElem_cons_zero] at h0
    have h1 := pvK_pre r (pv t l) (fun i hi m => by have := h (i + 1) (by simp; omega) m; simpa using this)
    exact h0.trans h1
theorem pv_pre (t : Tr) : ∀ l, l <+: pv t l := by
  refine Tr.ind (P := fun t => ∀ l, l <+: pv t l) ?_ t
  intro n x lf k ih l
  rw [pv_mk]
  split
  · exact List.prefix_refl _
  · split
    · exact adS_pre l x
    · exact pvK_pre k l (fun i hi m => ih i hi m)
theorem pvK_stay : ∀ (k : List Tr) (l : List ByteArray), (∀ i (hi : i < k.length), (∀ s, inV s k[i] = true → s ∈ l) → pv k[i] l = l) → (∀ s, k.any (inV s) = true → s ∈ l) → pvK (k.map pv) l = l
  | [], l, _, _ => rfl
  | t :: r, l, h, ha => by
    have h0 := h 0 (by simp)
    simp only [List.getElem_cons_zero] at h0
    have e0 := h0 (fun s hs => ha s (by rw [List.any_cons, hs]; rfl))
    have h1 := pvK_stay r l (fun i hi => by have := h (i + 1) (by simp; omega); simpa using this) (fun s hs => ha s (by rw [List.any_cons, hs, Bool.or_true]))
    have e : pvK ((t :: r).map pv) l = pvK (r.map pv) (pv t l) := rfl
    rw [e, e0, h1]
theorem pv_stay (t : Tr) : ∀ l, (∀ s, inV s t = true → s ∈ l) → pv t l = l := by
  refine Tr.ind (P := fun t => ∀ l, (∀ s, inV s t = true → s ∈ l) → pv t l = l) ?_ t
  intro n x lf k ih l hs
  rw [pv_mk]
  split
  · rfl
  · rename_i h1
    split
    · rename_i h2
      have := hs x (by rw [inV_mk, if_neg h1, if_pos h2]; exact eqS_refl x)
      unfold adS
      rw [if_pos (hasS_iff.2 this)]
    · rename_i h2
      exact pvK_stay k l (fun i hi hm => ih i hi l hm) (fun s h => hs s (by rw [inV_mk, if_neg h1, if_neg h2]; exact h))
theorem pv_len (t : Tr) (l : List ByteArray) : (pv t l).length = l.length ↔ ∀ s, inV s t = true → s ∈ l := by
  constructor
  · intro h s hs
    have e : pv t l = l := ((pv_pre t l).eq_of_length h.symm).symm
    rw [← e]
    exact (mem_pv s t l).2 (.inr hs)
  · intro h
    rw [pv_stay t l h]
theorem pv_all (r l : Tr) : (pv r []).all (hasS (pv l [])) = decide ((pv r (pv l [])).length = (pv l []).length) := by
  rw [Bool.eq_iff_iff, List.all_eq_true, decide_eq_true_eq, pv_len]
  constructor
  · intro h s hs
    exact hasS_iff.1 (h s ((mem_pv s r []).2 (.inr hs)))
  · intro h s hs
    rcases (mem_pv s r []).1 hs with h1 | h1
    · cases h1
    · exact hasS_iff.2 (h s h1)
theorem pvK_len : ∀ (k : List Tr) (l : List ByteArray), (∀ i (hi : i < k.length) l, (pv k[i] l).length ≤ l.length + k[i].cnt) → (pvK (k.map pv) l).length ≤ l.length + Tr.cntL k
  | [], l, _ => by simp [pvK, Tr.cntL]
  | t :: r, l, h => by
    have h0 := h 0 (by simp) l
    simp only [List.getElem_cons_zero] at h0
    have h1 := pvK_len r (pv t l) (fun i hi m => by have := h (i + 1) (by simp; omega) m; simpa using this)
    have e : Tr.cntL (t :: r) = t.cnt + Tr.cntL r := by simp [Tr.cntL]
    have e2 : pvK ((t :: r).map pv) l = pvK (r.map pv) (pv t l) := rfl
    rw [e2]
    omega
theorem pv_few (t : Tr) : ∀ l, (pv t l).length ≤ l.length + t.cnt := by
  refine Tr.ind (P := fun t => ∀ l, (pv t l).length ≤ l.length + t.cnt) ?_ t
  intro n x lf k ih l
  rw [pv_mk, Tr.cnt_mk]
  split
  · omega
  · split
    · have := adS_len l x
      omega
    · have := pvK_len k l (fun i hi m => ih i hi m)
      omega
theorem phL_le (k : List Tr) (h : ∀ i (hi : i < k.length), ph k[i] ≤ k[i].cnt) : phL k ≤ Tr.cntL k := by
  induction k with
  | nil => simp [phL]
  | cons t r ih =>
    have h0 := h 0 (by simp)
    simp only [List.getElem_cons_zero] at h0
    have h1 := ih (fun i hi => by have := h (i + 1) (by simp; omega); simpa using this)
    simp [phL, Tr.cntL] at h0 h1 ⊢
    omega
theorem ph_few (t : Tr) : ph t ≤ t.cnt := by
  refine Tr.ind (P := fun t => ph t ≤ t.cnt) ?_ t
  intro n x lf k ih
  rw [ph_mk, Tr.cnt_mk]
  have := phL_le k ih
  split
  · omega
  · split <;> omega
/-- A tree that is a pattern with so many holes. -/
def p6B (t : Tr) (h : Nat) : Bool := t.ok && (decide (hN t = h) && nm6 t)
/-- What the program keeps of a pattern's root. -/
def plB (n : ByteArray) (l : Bool) : Bool := !(hoB n l) && !(v6B n l)
/-- A pattern for values, and a context. -/
def vaB (t : Tr) : Bool := p6B t 0 && !(v6B t.name t.leaf)
def cxB (t : Tr) : Bool := p6B t 1 && !t.leaf
theorem ok_rt {t : Tr} (h : t.ok = true) : t.right = true := by
  unfold Tr.ok at h
  rw [Bool.and_eq_true] at h
  exact h.2
theorem va_prog (t : Tr) (h : t.ok = true) : (!(pf t) && (plB t.name t.leaf && decide (ph t = 0))) = vaB t := by
  unfold vaB p6B
  rw [pf_nm t (ok_rt h), ph_hN t (ok_rt h), h]
  obtain ⟨n, x, lf, k⟩ := t
  dsimp only
  rw [hN_mk]
  unfold plB
  cases e : hoB n lf
  · simp
    cases nm6 ⟨n, x, lf, k⟩ <;> cases v6B n lf <;> simp
  · simp
theorem cx_prog (t : Tr) (h : t.ok = true) : (!(pf t) && (plB t.name t.leaf && decide (ph t = 1))) = cxB t := by
  unfold cxB p6B
  have hr := ok_rt h
  rw [pf_nm t hr, ph_hN t hr, h]
  obtain ⟨n, x, lf, k⟩ := t
  dsimp only
  rw [hN_mk]
  unfold plB
  cases lf
  · have e1 : hoB n false = false := rfl
    have e2 : v6B n false = false := rfl
    rw [e1, e2]
    simp
    cases nm6 ⟨n, x, false, k⟩ <;> simp
  · obtain rfl := bare hr
    cases e : hoB n true
    · simp [hNL]
    · simp
end Go.Proofs.Ytboffildchoelaa
