import Derived.Test.YtanbdfeoijflaaaDoorMk
/-! Reading a program: what is read. -/
namespace Go.Proofs.YtanbdfeoijflaaaDoor
open Go.RowKit Go.Deep
set_option linter.unusedVariables false
set_option linter.unusedSimpArgs false

/-- An instruction whose line may be read. -/
structure LnN (k m q : Nat) : Prop where
  k1 : 1 ≤ k
  k2 : k ≤ 10
  m6 : m ≤ 999999
  q6 : q ≤ 999999
  m0 : 1 ∉ nmL k → m = 0
  q0 : 2 ∉ nmL k → q = 0
def ops10 : List Nat := [1, 2, 3, 4, 5, 6, 7, 8, 9, 10]
theorem mem_ops {k : Nat} : k ∈ ops10 ↔ 1 ≤ k ∧ k ≤ 10 := by
  unfold ops10
  simp only [List.mem_cons, List.not_mem_nil, or_false]
  omega
/-- Whose word it is. -/
def fwk (w : List UInt8) : Option Nat := ops10.find? fun k => (rwS k).data.toList == w
theorem rws_inj : ∀ a ∈ ops10, ∀ b ∈ ops10, (rwS a).data.toList = (rwS b).data.toList → a = b := by decide
theorem fwk_some {w : List UInt8} {k : Nat} (h : fwk w = some k) : (1 ≤ k ∧ k ≤ 10) ∧ (rwS k).data.toList = w := by
  unfold fwk at h
  have h1 := List.find?_some h
  have h2 := List.mem_of_find?_eq_some h
  exact ⟨mem_ops.1 h2, by simpa using h1⟩
theorem fwk_of {w : List UInt8} {k : Nat} (h1 : 1 ≤ k) (h2 : k ≤ 10) (hw : (rwS k).data.toList = w) : fwk w = some k := by
  cases hf : fwk w with
  | none =>
    unfold fwk at hf
    rw [List.find?_eq_none] at hf
    exact absurd (by simpa using hw) (hf k (mem_ops.2 ⟨h1, h2⟩))
  | some j =>
    obtain ⟨h3, h4⟩ := fwk_some hf
    rw [rws_inj j (mem_ops.2 h3) k (mem_ops.2 ⟨h1, h2⟩) (h4.trans hw.symm)]
theorem fwk_none {w : List UInt8} (h : ∀ k, 1 ≤ k → k ≤ 10 → (rwS k).data.toList ≠ w) : fwk w = none := by
  cases hf : fwk w with
  | none => rfl
  | some j =>
    obtain ⟨h3, h4⟩ := fwk_some hf
    exact absurd h4 (h j h3.1 h3.2)
/-- What a line's words tell. -/
def rdw (k : Nat) (ws : List (List UInt8)) : Option DIns := if ws.length = (nmL k).length ∧ (ws.all fun x => numB (bs x)) = true then some ⟨(k : Nat), ((nuN (nmL k) ws (nmL k).length).1 : Nat), ((nuN (nmL k) ws (nmL k).length).2 : Nat)⟩ else none
/-- What a line tells. -/
def rdl (s : List UInt8) : Option DIns := match spl 32 s with
  | [] => none
  | w :: ws => match fwk w with
    | none => none
    | some k => rdw k ws
theorem rdl_w {s w : List UInt8} {ws : List (List UInt8)} (h : spl 32 s = w :: ws) (hf : fwk w = none) : rdl s = none := by
  unfold rdl
  rw [h]
  show (match fwk w with
    | none => none
    | some k => rdw k ws) = none
  rw [hf]
theorem rdl_k {s w : List UInt8} {ws : List (List UInt8)} {k : Nat} (h : spl 32 s = w :: ws) (hf : fwk w = some k) : rdl s = rdw k ws := by
  unfold rdl
  rw [h]
  show (match fwk w with
    | none => none
    | some k => rdw k ws) = _
  rw [hf]
theorem nml_cases (k : Nat) : nmL k = [] ∨ nmL k = [1] ∨ nmL k = [2] ∨ nmL k = [1, 2] := by
  unfold nmL
  generalize (hnB (k : Int) || decide ((k : Int) = 10)) = A
  generalize htB (k : Int) = N
  cases A <;> cases N <;> simp
theorem rdl_of {k m q : Nat} (h : LnN k m q) : rdl (lnT ⟨k, m, q⟩) = some ⟨k, m, q⟩ := by
  have hv := fun n => (dec_facts n).2.2.2
  have hm := dec_numB h.m6
  have hq := dec_numB h.q6
  have h0 := h.m0
  have h1 := h.q0
  rw [rdl_k (spl_lnT k m q) (fwk_of h.k1 h.k2 rfl)]
  unfold rdw
  rcases nml_cases k with e | e | e | e <;> rw [e] at h0 h1 ⊢
  · rw [h0 (by simp), h1 (by simp)]
    rfl
  · rw [h1 (by simp), if_pos (by simp [nmV, hm])]
    simp [nuN, nmV, hv]
  · rw [h0 (by simp), if_pos (by simp [nmV, hq])]
    simp [nuN, nmV, hv]
  · rw [if_pos (by simp [nmV, hm, hq])]
    simp [nuN, nmV, hv]
theorem rdl_some {s : List UInt8} {x : DIns} (h : rdl s = some x) : ∃ k m q : Nat, x = ⟨(k : Nat), (m : Nat), (q : Nat)⟩ ∧ LnN k m q ∧ lnT ⟨(k : Nat), (m : Nat), (q : Nat)⟩ = s := by
  cases hsp : spl 32 s with
  | nil => exact absurd hsp (spl_ne 32 s)
  | cons w ws =>
    cases hf : fwk w with
    | none =>
      rw [rdl_w hsp hf] at h
      cases h
    | some k =>
      rw [rdl_k hsp hf] at h
      obtain ⟨hk, hw⟩ := fwk_some hf
      unfold rdw at h
      split at h
      · rename_i hc
        obtain ⟨hl, ha⟩ := hc
        have hx := (Option.some.inj h).symm
        rw [List.all_eq_true] at ha
        refine ⟨k, _, _, hx, ?_, lnT_of_spl ?_⟩
        · rcases nml_cases k with e | e | e | e
          · rw [e]
            exact ⟨hk.1, hk.2, Nat.zero_le _, Nat.zero_le _, fun _ => rfl, fun _ => rfl⟩
          · rw [e] at hl ⊢
            match ws, hl with
            | [a], _ =>
              have h1 := (numB_atoi (ha a (by simp))).2
              exact ⟨hk.1, hk.2, h1, Nat.zero_le _, fun hn => absurd (by rw [e]; simp) hn, fun _ => rfl⟩
          · rw [e] at hl ⊢
            match ws, hl with
            | [a], _ =>
              have h1 := (numB_atoi (ha a (by simp))).2
              exact ⟨hk.1, hk.2, Nat.zero_le _, h1, fun _ => rfl, fun hn => absurd (by rw [e]; simp) hn⟩
          · rw [e] at hl ⊢
            match ws, hl with
            | [a, b], _ =>
              have h1 := (numB_atoi (ha a (by simp))).2
              have h2 := (numB_atoi (ha b (by simp))).2
              exact ⟨hk.1, hk.2, h1, h2, fun hn => absurd (by rw [e]; simp) hn, fun hn => absurd (by rw [e]; simp) hn⟩
        · rw [hsp, ← hw]
          congr 1
          rcases nml_cases k with e | e | e | e
          · rw [e] at hl ⊢
            exact List.length_eq_zero_iff.1 hl
          · rw [e] at hl ⊢
            match ws, hl, ha with
            | [a], _, ha =>
              have h1 := numB_text (ha a (by simp))
              simp [nuN, nmV, h1]
          · rw [e] at hl ⊢
            match ws, hl, ha with
            | [a], _, ha =>
              have h1 := numB_text (ha a (by simp))
              simp [nuN, nmV, h1]
          · rw [e] at hl ⊢
            match ws, hl, ha with
            | [a, b], _, ha =>
              have h1 := numB_text (ha a (by simp))
              have h2 := numB_text (ha b (by simp))
              simp [nuN, nmV, h1, h2]
      · cases h
/-- What a text tells, behind what it has told. -/
def rdg : Nat → List UInt8 → List DIns → List DIns × Int × Nat
  | 0, _, _ => ([], 0, 0)
  | f + 1, s, acc => if s = [] then (if pgB acc = true then (acc, 0, 0) else ([], 10, 0)) else if (10 : UInt8) ∈ s then (match rdl (pre 10 s) with
      | some x => rdg f (post 10 s) (acc ++ [x])
      | none => ([], 2, acc.length)) else ([], 2, acc.length)
/-- What ProgramRead answers. -/
def rdR (s : List UInt8) : List DIns × Int × Nat := if 400000 < s.length then ([], 1, 0) else rdg (s.length + 1) s []
theorem rdg_nil (f : Nat) (acc : List DIns) : rdg (f + 1) [] acc = if pgB acc = true then (acc, 0, 0) else ([], 10, 0) := rfl
theorem rdg_no (f : Nat) {s : List UInt8} (acc : List DIns) (h0 : s ≠ []) (h : ¬ ((10 : UInt8) ∈ s ∧ ∃ x, rdl (pre 10 s) = some x)) : rdg (f + 1) s acc = ([], 2, acc.length) := by
  show (if s = [] then _ else if (10 : UInt8) ∈ s then _ else _) = _
  rw [if_neg h0]
  split
  · rename_i h10
    cases e : rdl (pre 10 s) with
    | none => rfl
    | some x => exact absurd ⟨h10, x, e⟩ h
  · rfl
theorem rdg_yes (f : Nat) {s : List UInt8} (acc : List DIns) {x : DIns} (h0 : s ≠ []) (h : (10 : UInt8) ∈ s) (hx : rdl (pre 10 s) = some x) : rdg (f + 1) s acc = rdg f (post 10 s) (acc ++ [x]) := by
  show (if s = [] then _ else if (10 : UInt8) ∈ s then _ else _) = _
  rw [if_neg h0, if_pos h, hx]
theorem post_len {c : UInt8} : ∀ {s : List UInt8}, c ∈ s → (pre c s).length + 1 + (post c s).length = s.length
  | b :: s, h => by
    unfold pre post
    by_cases e : b = c
    · simp [e]
      omega
    · rw [if_neg e, if_neg e]
      have h2 : c ∈ s := by
        rcases List.mem_cons.1 h with h1 | h1
        · exact absurd h1.symm e
        · exact h1
      have := post_len h2
      simp only [List.length_cons]
      omega
theorem rdg_len (f : Nat) : ∀ (s : List UInt8) (acc : List DIns), (rdg f s acc).1.length ≤ 50000 := by
  induction f with
  | zero => intro s acc; exact Nat.zero_le _
  | succ f ih =>
    intro s acc
    by_cases h0 : s = []
    · subst h0
      rw [rdg_nil]
      split
      · rename_i hp
        exact (pg_ln hp).1
      · exact Nat.zero_le _
    · by_cases h : (10 : UInt8) ∈ s ∧ ∃ x, rdl (pre 10 s) = some x
      · obtain ⟨h1, x, hx⟩ := h
        rw [rdg_yes f acc h0 h1 hx]
        exact ih _ _
      · rw [rdg_no f acc h0 h]
        exact Nat.zero_le _
theorem rdR_len (s : List UInt8) : (rdR s).1.length ≤ 50000 := by
  unfold rdR
  split
  · exact Nat.zero_le _
  · exact rdg_len _ _ _
end Go.Proofs.YtanbdfeoijflaaaDoor
