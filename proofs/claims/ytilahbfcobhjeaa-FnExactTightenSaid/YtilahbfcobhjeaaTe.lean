import Derived.Test.YtilahbfcobhjeaaTd
/-! Programs that are made tighter: places that wait; rows of truth values and of instructions in blocks of their own. -/
namespace Go.Proofs.Ytilahbfcobhjeaa
open Go.RowKit Go.Deep
set_option linter.unusedVariables false
set_option maxRecDepth 100000
set_option linter.unusedSimpArgs false

theorem notB_at {lv : List Bool} {k : Nat} (h : k < lv.length) : (notB lv).getD k false = !lv[k] := by
  rw [getD_at (by rw [notB_len]; exact h), notB_getD h]
theorem notB_set {lv : List Bool} {k : Nat} (h : k < lv.length) : notB (lv.set k false) = (notB lv).set k true := by
  unfold notB
  rw [List.map_set]
  rfl
/-- One that was seen need not wait. -/
theorem Sn.skip {l : List DIns} {M : List Bool} {T T' : List Nat} {k : Nat} (h : Sn l M T) (hk : M.getD k false = true) (hT : ∀ x, x ∈ T ↔ x ∈ T' ∨ x = k) : Sn l M T' := by
  refine ⟨h.len, ?_, ?_, ?_, ?_⟩
  · rcases h.zero with h0 | h0
    · exact .inl h0
    · rcases (hT 0).1 h0 with h1 | h1
      · exact .inr h1
      · subst h1; exact .inl hk
  · intro i hi h1 h2
    rcases h.next i hi h1 h2 with h3 | h3
    · exact .inl h3
    · rcases (hT _).1 h3 with h4 | h4
      · exact .inr h4
      · rw [h4]; exact .inl hk
  · intro i hi h1 h2
    rcases h.to_ i hi h1 h2 with h3 | h3
    · exact .inl h3
    · rcases (hT _).1 h3 with h4 | h4
      · exact .inr h4
      · rw [h4]; exact .inl hk
  · intro cs hc
    obtain ⟨h1, h2⟩ := h.low cs hc
    exact ⟨h1, fun x hx => h2 x ((hT x).2 (.inl hx))⟩
/-- One is seen: those that are come to from it wait. -/
theorem Sn.see {l : List DIns} {M : List Bool} {T T' : List Nat} {k : Nat} (h : Sn l M T) (hk : k < l.length) (hw : k ∈ T)
    (hT : ∀ x, x ∈ T → x = k ∨ x ∈ T') (hg : gsB l[k].op = true → k + 1 ∈ T') (ht : htB l[k].op = true → l[k].to_.toNat ∈ T')
    (hlow : ∀ x, x ∈ T' → x ∈ T ∨ (gsB l[k].op = true ∧ x = k + 1) ∨ (htB l[k].op = true ∧ x = l[k].to_.toNat)) : Sn l (M.set k true) T' := by
  have hkM : k < M.length := by rw [h.len]; exact hk
  have up : ∀ x, (M.getD x false = true ∨ x ∈ T) → (M.set k true).getD x false = true ∨ x ∈ T' := by
    intro x hx
    by_cases e : k = x
    · subst e; exact .inl (getD_set_at hkM)
    · rw [getD_set_ne e]
      rcases hx with hx | hx
      · exact .inl hx
      · exact .inr ((hT x hx).resolve_left (fun h => e h.symm))
  refine ⟨by simp [h.len], up 0 h.zero, ?_, ?_, ?_⟩
  · intro i hi h1 h2
    by_cases e : k = i
    · subst e; exact .inr (hg h2)
    · rw [getD_set_ne e] at h1
      exact up _ (h.next i hi h1 h2)
  · intro i hi h1 h2
    by_cases e : k = i
    · subst e; exact .inr (ht h2)
    · rw [getD_set_ne e] at h1
      exact up _ (h.to_ i hi h1 h2)
  · intro cs hc
    obtain ⟨h1, h2⟩ := h.low cs hc
    have hck := h2 k hw
    constructor
    · intro x hx
      by_cases e : k = x
      · subst e; exact hck
      · rw [getD_set_ne e] at hx; exact h1 x hx
    · intro x hx
      rcases hlow x hx with h3 | ⟨h3, rfl⟩ | ⟨h3, rfl⟩
      · exact h2 x h3
      · exact hc.next k hk hck h3
      · exact hc.to_ k hk hck h3

/-! Rows. -/
theorem row_apart {w : World} {g g' T T' n n' : Nat} {f f' : Nat → Value} (h : w.rowIs g T n f) (h' : w.rowIs g' T' n' f') (hT : T ≠ T') : g ≠ g' := by
  rintro rfl
  obtain ⟨c, h1, _⟩ := h
  obtain ⟨c', h1', _⟩ := h'
  rw [h1] at h1'
  injection h1' with e
  injection e with e1 e2
  exact hT e2
/-- Truth values in a block of their own. -/
def BR (w : World) (g : Nat) (lv : List Bool) : Prop := ∃ c f, w.rowIs g 4 c f ∧ lv.length ≤ c ∧ ∀ i (hi : i < lv.length), f i = .bool lv[i]
/-- Instructions in a block of their own. -/
def XR (w : World) (g : Nat) (l : List DIns) : Prop := ∃ c f, w.rowIs g 57 c f ∧ l.length * 3 ≤ c ∧ ∀ i (hi : i < l.length), f (i * 3) = .int .i64 l[i].op ∧ f (i * 3 + 1) = .int .i64 l[i].n ∧ f (i * 3 + 2) = .int .i64 l[i].to_
section
variable {w w' : World} {g : Nat} {lv : List Bool} {l : List DIns}
theorem BR.keep (h : BR w g lv) (hb : w'.heap[g]? = w.heap[g]?) : BR w' g lv := by obtain ⟨c, f, h, e⟩ := h; exact ⟨c, f, h.of_block hb, e⟩
theorem BR.lt (h : BR w g lv) : g < w.heap.size := by obtain ⟨c, f, h, e⟩ := h; exact h.lt
theorem BR.still (h : BR w g lv) (hb : Below w.heap.size w w') : BR w' g lv := h.keep (hb.block g h.lt)
theorem BR.cell (h : BR w g lv) {i : Nat} (hi : i < lv.length) : w.cell? ⟨g, i, none⟩ = some (.bool lv[i]) := by
  obtain ⟨c, f, h, h1, h2⟩ := h
  rw [h.cell (by omega), h2 i hi]
theorem BR.frozen (h : BR w g lv) (i : Nat) : w.frozen? ⟨g, i, none⟩ = false := by obtain ⟨c, f, h, _⟩ := h; exact h.frozen i
theorem BR.set (h : BR w g lv) (i : Nat) (b : Bool) : BR (w.setCell ⟨g, i, none⟩ (.bool b)) g (lv.set i b) := by
  obtain ⟨c, f, h, h1, h2⟩ := h
  refine ⟨c, _, h.set i (.bool b), by simpa using h1, fun j hj => ?_⟩
  rw [List.length_set] at hj
  by_cases e : j = i
  · subst e; simp
  · simp only [if_neg e, List.getElem_set_ne (fun h : i = j => e h.symm)]
    exact h2 j hj
theorem BR.bls (h : BR w g lv) {c : Nat} (hc : lv.length ≤ c) (hm : c ≤ maxLen) : BlsR w (fun q => q = g) lv (.slice (some ⟨g, 0, none⟩) lv.length c) :=
  ⟨some ⟨g, 0, none⟩, c, g, 0, rfl, hc, hm, fun _ => ⟨rfl, rfl⟩, fun i hi => by rw [Nat.zero_add]; exact h.cell hi⟩
theorem XR.keep (h : XR w g l) (hb : w'.heap[g]? = w.heap[g]?) : XR w' g l := by obtain ⟨c, f, h, e⟩ := h; exact ⟨c, f, h.of_block hb, e⟩
theorem XR.lt (h : XR w g l) : g < w.heap.size := by obtain ⟨c, f, h, e⟩ := h; exact h.lt
theorem XR.still (h : XR w g l) (hb : Below w.heap.size w w') : XR w' g l := h.keep (hb.block g h.lt)
theorem XR.cells (h : XR w g l) {i : Nat} (hi : i < l.length) : w.cell? ⟨g, i * 3, none⟩ = some (.int .i64 l[i].op) ∧ w.cell? ⟨g, i * 3 + 1, none⟩ = some (.int .i64 l[i].n) ∧ w.cell? ⟨g, i * 3 + 2, none⟩ = some (.int .i64 l[i].to_) := by
  obtain ⟨c, f, h, h1, h2⟩ := h
  obtain ⟨e0, e1, e2⟩ := h2 i hi
  rw [h.cell (by omega), h.cell (by omega), h.cell (by omega), e0, e1, e2]
  exact ⟨rfl, rfl, rfl⟩
theorem XR.ins (h : XR w g l) {c : Nat} (hc : l.length ≤ c) (hm : c ≤ maxLen) : InsR w (fun q => q = g) l (.slice (some ⟨g, 0, none⟩) l.length c) :=
  ⟨some ⟨g, 0, none⟩, c, g, 0, rfl, hc, hm, fun _ => ⟨rfl, rfl⟩, fun i hi => by
    obtain ⟨c0, c1, c2⟩ := h.cells hi
    rw [Nat.zero_add]
    exact ⟨c0, c1, c2⟩⟩
theorem BR.apart {g' : Nat} (h : BR w g lv) (h' : XR w g' l) : g ≠ g' := by
  obtain ⟨c, f, h, _⟩ := h
  obtain ⟨c', f', h', _⟩ := h'
  exact row_apart h h' (by decide)
/-- A row that grew by append is one. -/
theorem own_row {base e size n : Nat} {c : Nat} {xs : List Value} (h : w.ownsRow base e size (.slice (some ⟨g, 0, none⟩) n c) n xs) : n ≤ c ∧ c ≤ maxLen ∧ w.rowIs g e (c * size) (fun i => ((w.heap[g]?).bind (fun o => match o with | .cells cur _ _ => cur[i]? | _ => none)).getD .nilFunc) ∧ ∀ i v, i < n * size → xs[i]? = some v → ((w.heap[g]?).bind (fun o => match o with | .cells cur _ _ => cur[i]? | _ => none)).getD .nilFunc = v := by
  obtain ⟨h1, h2⟩ := h
  rcases h2 with ⟨h2, h3⟩ | ⟨g', cap', cur, hv', hg, hh, hc, hcm, hs, ht⟩
  · cases h2
  · obtain ⟨rfl, rfl⟩ : g = g' ∧ c = cap' := by injection hv' with e1 e2 e3; injection e1 with e1; injection e1 with e1; exact ⟨e1, e3⟩
    refine ⟨hc, hcm, ⟨cur, hh, hs, fun i hi => ?_⟩, fun i v hi e => ?_⟩
    · have hi' : i < cur.size := by omega
      rw [hh]; simp [hi']
    · rw [hh]
      rw [← ht, List.getElem?_take_of_lt hi] at e
      have e' : cur[i]? = some v := by simpa using e
      simp [e']
theorem XR.of {base c : Nat} (h : w.ownsRow base 57 3 (.slice (some ⟨g, 0, none⟩) l.length c) l.length (xv l)) : XR w g l ∧ l.length ≤ c ∧ c ≤ maxLen := by
  obtain ⟨h1, h2, h3, h4⟩ := own_row h
  refine ⟨⟨_, _, h3, by omega, fun i hi => ?_⟩, h1, h2⟩
  have hx : ∀ k, k < 3 → (xv l)[i * 3 + k]? = [Value.int .i64 l[i].op, .int .i64 l[i].n, .int .i64 l[i].to_][k]? := by
    intro k hk
    have hl : (l.take i).length = i := by simp; omega
    have e : xv l = xv (l.take i) ++ ([Value.int .i64 l[i].op, .int .i64 l[i].n, .int .i64 l[i].to_] ++ xv (l.drop (i + 1))) := by
      have e1 : l.take i ++ (l[i] :: l.drop (i + 1)) = l := by rw [← List.drop_eq_getElem_cons hi, List.take_append_drop]
      have e2 : xv (l[i] :: l.drop (i + 1)) = [Value.int .i64 l[i].op, .int .i64 l[i].n, .int .i64 l[i].to_] ++ xv (l.drop (i + 1)) := rfl
      rw [← e2, ← xv_append, e1]
    rw [e, List.getElem?_append_right (by rw [xv_len, hl]; omega), xv_len, hl, Nat.add_sub_cancel_left, List.getElem?_append_left (by simpa using hk)]
  exact ⟨h4 _ _ (by omega) (hx 0 (by omega)), h4 _ _ (by omega) (hx 1 (by omega)), h4 _ _ (by omega) (hx 2 (by omega))⟩
def bv (lv : List Bool) : List Value := lv.map Value.bool
theorem BR.of {base c : Nat} (h : w.ownsRow base 4 1 (.slice (some ⟨g, 0, none⟩) lv.length c) lv.length (bv lv)) : BR w g lv ∧ lv.length ≤ c ∧ c ≤ maxLen := by
  obtain ⟨h1, h2, h3, h4⟩ := own_row h
  refine ⟨⟨_, _, h3, by omega, fun i hi => ?_⟩, h1, h2⟩
  exact h4 _ _ (by omega) (by simp [bv, hi])
theorem BR.made (w : World) (n : Nat) : BR (w.alloc (.cells (madeCells #[.bool false] n) 4)) w.heap.size (List.replicate n false) :=
  ⟨n, fun _ => .bool false, ⟨madeCells #[.bool false] n, blk_alloc_new _ _, by simp [madeCells], fun i hi => by simp [madeCells, hi, Nat.mod_one]⟩, by simp, fun i hi => by simp⟩
end
/-- How many cells of a block say true. -/
def isT : Option Value → Nat
  | some (.bool true) => 1
  | _ => 0
def trN (w : World) (g n : Nat) : Nat := ((List.range n).map (fun i => isT (w.cell? ⟨g, i, none⟩))).sum
def trL (lv : List Bool) : Nat := (lv.map (fun b => if b = true then 1 else 0)).sum
theorem trN_eq {w : World} {g : Nat} {lv : List Bool} (h : BR w g lv) : trN w g lv.length = trL lv := by
  unfold trN trL
  congr 1
  apply List.ext_getElem
  · simp
  · intro i h1 h2
    have hi : i < lv.length := by simpa using h1
    simp only [List.getElem_map, List.getElem_range]
    rw [h.cell hi]
    cases lv[i] <;> rfl
theorem trL_set {lv : List Bool} {k : Nat} (h : k < lv.length) (ht : lv[k] = true) : trL (lv.set k false) + 1 = trL lv := by
  induction lv generalizing k with
  | nil => cases h
  | cons b lv ih =>
    cases k with
    | zero =>
      simp only [List.getElem_cons_zero] at ht
      subst ht
      simp [trL]
      omega
    | succ k =>
      have := ih (k := k) (by simpa using h) (by simpa using ht)
      simp only [trL, List.set_cons_succ, List.map_cons, List.sum_cons] at this ⊢
      omega
def slN : Value → Nat
  | .slice _ n _ => n
  | _ => 0
def nL (T : List Nat) : List Int := List.map (fun x : Nat => (Int.ofNat x)) T
theorem nL_len (T : List Nat) : (nL T).length = T.length := by simp [nL]
end Go.Proofs.Ytilahbfcobhjeaa
