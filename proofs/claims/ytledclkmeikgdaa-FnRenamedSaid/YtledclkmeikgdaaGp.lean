import Derived.Test.YtledclkmeikgdaaGa
/-! What a reference stands for: the specification's way and the program's come to the same. Nothing here hangs on the program. -/
namespace Go.Proofs.Ytledclkmeikgdaa
open Go.RowKit Go.Deep
set_option linter.unusedVariables false
set_option linter.unusedSimpArgs false

def eqS (a b : ByteArray) : Bool := decide (a.data = b.data)
/-- Whether a declaration counts. -/
def dcB (ds : List DSpot) (nm : ByteArray) (A : Int → Bool) (i : Nat) : Bool := (ds[i]?.map fun d => A d.scope && eqS d.name nm).getD false
/-- The places of those among the first j that count. -/
def dcl (ds : List DSpot) (nm : ByteArray) (A : Int → Bool) (j : Nat) : List Int := ((List.range j).filter (dcB ds nm A)).map fun i => ((i : Nat) : Int)
theorem dcB_at {ds : List DSpot} {nm : ByteArray} {A : Int → Bool} {i : Nat} (h : i < ds.length) : dcB ds nm A i = (A ds[i].scope && eqS ds[i].name nm) := by
  unfold dcB; rw [List.getElem?_eq_getElem h]; rfl
theorem dcl_zero (ds : List DSpot) (nm : ByteArray) (A : Int → Bool) : dcl ds nm A 0 = [] := rfl
theorem dcl_yes {ds : List DSpot} {nm : ByteArray} {A : Int → Bool} {j : Nat} (h : dcB ds nm A j = true) : dcl ds nm A (j + 1) = dcl ds nm A j ++ [(j : Int)] := by
  unfold dcl; rw [List.range_succ, List.filter_append, List.map_append]; simp [h]
theorem dcl_no {ds : List DSpot} {nm : ByteArray} {A : Int → Bool} {j : Nat} (h : dcB ds nm A j = false) : dcl ds nm A (j + 1) = dcl ds nm A j := by
  unfold dcl; rw [List.range_succ, List.filter_append, List.map_append]; simp [h]
theorem dcl_le (ds : List DSpot) (nm : ByteArray) (A : Int → Bool) (j : Nat) : (dcl ds nm A j).length ≤ j := by
  unfold dcl; rw [List.length_map]
  have := List.length_filter_le (dcB ds nm A) (List.range j)
  rwa [List.length_range] at this
theorem dcl_congr {ds : List DSpot} {nm : ByteArray} {A A' : Int → Bool} (h : ∀ d ∈ ds, eqS d.name nm = true → A d.scope = A' d.scope) (j : Nat) : dcl ds nm A j = dcl ds nm A' j := by
  unfold dcl
  congr 1
  refine List.filter_congr fun i _ => ?_
  unfold dcB
  cases e : ds[i]? with
  | none => rfl
  | some d =>
    have hd := List.mem_of_getElem? e
    simp only [Option.map_some, Option.getD_some]
    cases e2 : eqS d.name nm
    · simp
    · rw [h d hd e2]
theorem dcl_nil {ds : List DSpot} {nm : ByteArray} {A : Int → Bool} (h : dcl ds nm A ds.length = []) : ∀ d ∈ ds, eqS d.name nm = true → A d.scope = false := by
  intro d hd he
  obtain ⟨i, hi, rfl⟩ := List.mem_iff_getElem.1 hd
  unfold dcl at h
  rw [List.map_eq_nil_iff, List.filter_eq_nil_iff] at h
  have := h i (List.mem_range.2 hi)
  rw [dcB_at hi, he] at this
  simpa using this
theorem dcl_none {ds : List DSpot} {nm : ByteArray} {A : Int → Bool} (h : ∀ d ∈ ds, eqS d.name nm = true → A d.scope = false) : dcl ds nm A ds.length = [] := by
  unfold dcl
  rw [List.map_eq_nil_iff, List.filter_eq_nil_iff]
  intro i hi
  have hi := List.mem_range.1 hi
  rw [dcB_at hi]
  cases e : eqS ds[i].name nm
  · simp
  · rw [h ds[i] (List.getElem_mem hi) e]; simp
/-- To what edges of a kind lead from such scopes. -/
def bhd (es : List DSEdge) (A : Int → Bool) (k : Int) (j : Nat) (y : Int) : Bool := (es.take j).any fun e => (e.kind == k && A e.from_) && e.to_ == y
def led (es : List DSEdge) (A : Int → Bool) (k : Int) (j : Nat) : List Int := ((es.take j).filter fun e => e.kind == k && A e.from_).map (·.to_)
def hasI (l : List Int) (x : Int) : Bool := decide (x ∈ l)
theorem hasI_led (es : List DSEdge) (A : Int → Bool) (k : Int) (j : Nat) (y : Int) : hasI (led es A k j) y = bhd es A k j y := by
  unfold hasI led bhd
  rw [Bool.eq_iff_iff]
  simp only [decide_eq_true_eq, List.mem_map, List.mem_filter, List.any_eq_true, Bool.and_eq_true, beq_iff_eq]
  constructor
  · rintro ⟨e, ⟨h1, h2⟩, h3⟩; exact ⟨e, h1, h2, h3⟩
  · rintro ⟨e, h1, h2, h3⟩; exact ⟨e, ⟨h1, h2⟩, h3⟩
theorem bhd_iff {es : List DSEdge} {A : Int → Bool} {k y : Int} : bhd es A k es.length y = true ↔ ∃ e ∈ es, e.kind = k ∧ A e.from_ = true ∧ e.to_ = y := by
  unfold bhd
  rw [List.take_length]
  simp only [List.any_eq_true, Bool.and_eq_true, beq_iff_eq]
  constructor
  · rintro ⟨e, h1, ⟨h2, h3⟩, h4⟩; exact ⟨e, h1, h2, h3, h4⟩
  · rintro ⟨e, h1, h2, h3, h4⟩; exact ⟨e, h1, ⟨h2, h3⟩, h4⟩
theorem led_yes {es : List DSEdge} {A : Int → Bool} {k : Int} {j : Nat} (hj : j < es.length) (h : (es[j].kind == k && A es[j].from_) = true) : led es A k (j + 1) = led es A k j ++ [es[j].to_] := by
  unfold led; rw [← List.take_append_getElem hj, List.filter_append, List.map_append]; simp [h]
theorem led_no {es : List DSEdge} {A : Int → Bool} {k : Int} {j : Nat} (hj : j < es.length) (h : (es[j].kind == k && A es[j].from_) = false) : led es A k (j + 1) = led es A k j := by
  unfold led; rw [← List.take_append_getElem hj, List.filter_append, List.map_append]; simp [h]
theorem led_le (es : List DSEdge) (A : Int → Bool) (k : Int) (j : Nat) : (led es A k j).length ≤ j := by
  unfold led; rw [List.length_map]
  have := List.length_filter_le (fun e => e.kind == k && A e.from_) (es.take j)
  rw [List.length_take] at this
  omega
theorem bhd_zero (es : List DSEdge) (A : Int → Bool) (k y : Int) : bhd es A k 0 y = false := rfl
theorem bhd_succ {es : List DSEdge} {A : Int → Bool} {k : Int} {j : Nat} (hj : j < es.length) (y : Int) : bhd es A k (j + 1) y = (bhd es A k j y || ((es[j].kind == k && A es[j].from_) && es[j].to_ == y)) := by
  unfold bhd; rw [← List.take_append_getElem hj, List.any_append]; simp
/-- What is seen in the fewest steps, in so many rounds. -/
def rs (es : List DSEdge) (ds : List DSpot) (nm : ByteArray) : Nat → (Int → Bool) → List Int
  | 0, _ => []
  | f + 1, A => if dcl ds nm A ds.length ≠ [] then dcl ds nm A ds.length else if dcl ds nm (bhd es A 2 es.length) ds.length ≠ [] then dcl ds nm (bhd es A 2 es.length) ds.length else rs es ds nm f (bhd es A 1 es.length)
theorem rs_own {es : List DSEdge} {ds : List DSpot} {nm : ByteArray} {f : Nat} {A : Int → Bool} (h : dcl ds nm A ds.length ≠ []) : rs es ds nm (f + 1) A = dcl ds nm A ds.length := by
  rw [rs, if_pos h]
theorem rs_imp {es : List DSEdge} {ds : List DSpot} {nm : ByteArray} {f : Nat} {A : Int → Bool} (h : dcl ds nm A ds.length = []) (h2 : dcl ds nm (bhd es A 2 es.length) ds.length ≠ []) : rs es ds nm (f + 1) A = dcl ds nm (bhd es A 2 es.length) ds.length := by
  rw [rs, if_neg (by simpa using h), if_pos h2]
theorem rs_par {es : List DSEdge} {ds : List DSpot} {nm : ByteArray} {f : Nat} {A : Int → Bool} (h : dcl ds nm A ds.length = []) (h2 : dcl ds nm (bhd es A 2 es.length) ds.length = []) : rs es ds nm (f + 1) A = rs es ds nm f (bhd es A 1 es.length) := by
  rw [rs, if_neg (by simpa using h), if_neg (by simpa using h2)]
/-- Those that were not seen, each once. -/
def nwF : List Int → List Int → List Int
  | _, [] => []
  | seen, x :: r => if x ∈ seen then nwF seen r else x :: nwF (seen ++ [x]) r
theorem nwF_append (a : List Int) : ∀ (seen b : List Int), nwF seen (a ++ b) = nwF seen a ++ nwF (seen ++ nwF seen a) b := by
  induction a with
  | nil => intro seen b; simp [nwF]
  | cons x a ih =>
    intro seen b
    rw [List.cons_append, nwF, nwF]
    by_cases h : x ∈ seen
    · rw [if_pos h, if_pos h, ih]
    · rw [if_neg h, if_neg h, ih, List.cons_append]
      congr 3
      simp
theorem nwF_old {seen l : List Int} {j : Nat} (hj : j < l.length) (h : l[j] ∈ seen ++ nwF seen (l.take j)) : nwF seen (l.take (j + 1)) = nwF seen (l.take j) := by
  rw [← List.take_append_getElem hj, nwF_append]
  simp only [nwF]
  rw [if_pos h, List.append_nil]
theorem nwF_new {seen l : List Int} {j : Nat} (hj : j < l.length) (h : l[j] ∉ seen ++ nwF seen (l.take j)) : nwF seen (l.take (j + 1)) = nwF seen (l.take j) ++ [l[j]] := by
  rw [← List.take_append_getElem hj, nwF_append]
  simp only [nwF]
  rw [if_neg h]
theorem nwF_le (l : List Int) : ∀ seen, (nwF seen l).length ≤ l.length := by
  induction l with
  | nil => intro s; simp [nwF]
  | cons x l ih =>
    intro s
    rw [nwF]
    split
    · have := ih s; simp; omega
    · have := ih (s ++ [x]); simp; omega
theorem mem_nwF (l : List Int) : ∀ (seen : List Int) (y : Int), y ∈ nwF seen l ↔ y ∈ l ∧ y ∉ seen := by
  induction l with
  | nil => intro s y; simp [nwF]
  | cons x l ih =>
    intro s y
    rw [nwF]
    by_cases h : x ∈ s
    · rw [if_pos h, ih]
      simp only [List.mem_cons]
      constructor
      · rintro ⟨h1, h2⟩; exact ⟨.inr h1, h2⟩
      · rintro ⟨h1 | h1, h2⟩
        · exact absurd (h1 ▸ h) h2
        · exact ⟨h1, h2⟩
    · rw [if_neg h]
      simp only [List.mem_cons, ih, List.mem_append, List.not_mem_nil, or_false]
      constructor
      · rintro (h1 | ⟨h1, h2⟩)
        · subst h1; exact ⟨.inl rfl, h⟩
        · exact ⟨.inr h1, fun h3 => h2 (.inl h3)⟩
      · rintro ⟨h1 | h1, h2⟩
        · exact .inl h1
        · by_cases e : y = x
          · exact .inl e
          · exact .inr ⟨h1, fun h3 => h3.elim h2 e⟩
theorem nodup_nwF (l : List Int) : ∀ (seen : List Int), seen.Nodup → (seen ++ nwF seen l).Nodup := by
  induction l with
  | nil => intro s h; simpa [nwF] using h
  | cons x l ih =>
    intro s h
    rw [nwF]
    by_cases hx : x ∈ s
    · rw [if_pos hx]; exact ih s h
    · rw [if_neg hx]
      have := ih (s ++ [x]) (by
        rw [List.nodup_append]
        exact ⟨h, by simp, fun a ha b hb => by simp at hb; subst hb; exact fun e => hx (e ▸ ha)⟩)
      simpa using this
theorem pig : ∀ (n : Nat) (l : List Int), l.Nodup → (∀ x ∈ l, 0 ≤ x ∧ x < n) → l.length ≤ n
  | 0, l, _, h => by
    cases l with
    | nil => simp
    | cons x l => have := h x (by simp); omega
  | n + 1, l, hd, h => by
    by_cases hm : ((n : Nat) : Int) ∈ l
    · have h1 := pig n (l.erase (n : Int)) (hd.erase _) (fun x hx => by
        have hx2 := (hd.mem_erase_iff).1 hx
        have := h x hx2.2
        have hne := hx2.1
        omega)
      rw [List.length_erase_of_mem hm] at h1
      omega
    · have := pig n l hd (fun x hx => by
        have h1 := h x hx
        have h2 : x ≠ (n : Int) := fun e => hm (e ▸ hx)
        omega)
      omega
/-- Nothing of the name is declared there, nor imported. -/
def Dead (es : List DSEdge) (ds : List DSpot) (nm : ByteArray) (x : Int) : Prop :=
  (∀ d ∈ ds, eqS d.name nm = true → d.scope ≠ x) ∧ ∀ e ∈ es, e.kind = 2 → e.from_ = x → ∀ d ∈ ds, eqS d.name nm = true → d.scope ≠ e.to_
structure RI (es : List DSEdge) (ds : List DSpot) (nm : ByteArray) (n : Nat) (P seen : List Int) (A : Int → Bool) : Prop where
  pa : ∀ x ∈ P, A x = true
  asn : ∀ x, A x = true → x ∈ seen
  old : ∀ x ∈ seen, x ∉ P → Dead es ds nm x ∧ ∀ e ∈ es, e.kind = 1 → e.from_ = x → e.to_ ∈ seen
  nd : seen.Nodup
  rng : ∀ x ∈ seen, 0 ≤ x ∧ x < n
theorem RI.own {es : List DSEdge} {ds : List DSpot} {nm : ByteArray} {n : Nat} {P seen : List Int} {A : Int → Bool} (h : RI es ds nm n P seen A) : dcl ds nm A ds.length = dcl ds nm (hasI P) ds.length := by
  refine dcl_congr (fun d hd he => ?_) _
  unfold hasI
  by_cases hp : d.scope ∈ P
  · rw [h.pa _ hp, decide_eq_true hp]
  · rw [decide_eq_false hp]
    cases e : A d.scope
    · rfl
    · exact absurd rfl ((h.old _ (h.asn _ e) hp).1.1 d hd he)
theorem RI.imp {es : List DSEdge} {ds : List DSpot} {nm : ByteArray} {n : Nat} {P seen : List Int} {A : Int → Bool} (h : RI es ds nm n P seen A) : dcl ds nm (bhd es A 2 es.length) ds.length = dcl ds nm (hasI (led es (hasI P) 2 es.length)) ds.length := by
  refine dcl_congr (fun d hd he => ?_) _
  rw [hasI_led, Bool.eq_iff_iff, bhd_iff, bhd_iff]
  constructor
  · rintro ⟨e, h1, h2, h3, h4⟩
    refine ⟨e, h1, h2, ?_, h4⟩
    unfold hasI
    by_cases hp : e.from_ ∈ P
    · exact decide_eq_true hp
    · exact absurd h4.symm ((h.old _ (h.asn _ h3) hp).1.2 e h1 h2 rfl d hd he)
  · rintro ⟨e, h1, h2, h3, h4⟩
    unfold hasI at h3
    exact ⟨e, h1, h2, h.pa _ (of_decide_eq_true h3), h4⟩
theorem RI.next {es : List DSEdge} {ds : List DSpot} {nm : ByteArray} {n : Nat} {P seen : List Int} {A : Int → Bool} (h : RI es ds nm n P seen A) (hr : ∀ e ∈ es, 0 ≤ e.to_ ∧ e.to_ < n)
    (h1 : dcl ds nm (hasI P) ds.length = []) (h2 : dcl ds nm (hasI (led es (hasI P) 2 es.length)) ds.length = []) :
    RI es ds nm n (nwF seen (led es (hasI P) 1 es.length)) (seen ++ nwF seen (led es (hasI P) 1 es.length)) (bhd es A 1 es.length) := by
  have hdead : ∀ x ∈ P, Dead es ds nm x := fun x hx => by
    refine ⟨fun d hd he e => ?_, fun e he hk hf d hd hn e2 => ?_⟩
    · have := dcl_nil h1 d hd he
      unfold hasI at this
      rw [e, decide_eq_true hx] at this
      exact absurd this (by simp)
    · have := dcl_nil h2 d hd hn
      rw [hasI_led] at this
      have h3 : bhd es (hasI P) 2 es.length d.scope = true := bhd_iff.2 ⟨e, he, hk, by unfold hasI; rw [hf]; exact decide_eq_true hx, e2.symm⟩
      rw [h3] at this
      exact absurd this (by simp)
  have hled : ∀ y, y ∈ led es (hasI P) 1 es.length ↔ ∃ e ∈ es, e.kind = 1 ∧ e.from_ ∈ P ∧ e.to_ = y := fun y => by
    have h3 := hasI_led es (hasI P) 1 es.length y
    rw [Bool.eq_iff_iff, bhd_iff] at h3
    have h4 : hasI (led es (hasI P) 1 es.length) y = true ↔ y ∈ led es (hasI P) 1 es.length := by unfold hasI; exact decide_eq_true_iff
    rw [← h4, h3]
    simp only [hasI, decide_eq_true_eq]
  refine ⟨fun x hx => ?_, fun x hx => ?_, fun x hx hp => ?_, nodup_nwF _ _ h.nd, fun x hx => ?_⟩
  · obtain ⟨e, h3, h4, h5, h6⟩ := (hled x).1 ((mem_nwF _ _ _).1 hx).1
    exact bhd_iff.2 ⟨e, h3, h4, h.pa _ h5, h6⟩
  · obtain ⟨e, h3, h4, h5, h6⟩ := bhd_iff.1 hx
    subst h6
    by_cases hp : e.from_ ∈ P
    · by_cases hs : e.to_ ∈ seen
      · exact List.mem_append_left _ hs
      · exact List.mem_append_right _ ((mem_nwF _ _ _).2 ⟨(hled _).2 ⟨e, h3, h4, hp, rfl⟩, hs⟩)
    · exact List.mem_append_left _ ((h.old _ (h.asn _ h5) hp).2 e h3 h4 rfl)
  · have hs : x ∈ seen := (List.mem_append.1 hx).elim id (fun h => absurd h hp)
    by_cases hpp : x ∈ P
    · refine ⟨hdead x hpp, fun e he hk hf => ?_⟩
      by_cases hs2 : e.to_ ∈ seen
      · exact List.mem_append_left _ hs2
      · exact List.mem_append_right _ ((mem_nwF _ _ _).2 ⟨(hled _).2 ⟨e, he, hk, by rw [hf]; exact hpp, rfl⟩, hs2⟩)
    · obtain ⟨h3, h4⟩ := h.old x hs hpp
      exact ⟨h3, fun e he hk hf => List.mem_append_left _ (h4 e he hk hf)⟩
  · rcases List.mem_append.1 hx with h3 | h3
    · exact h.rng x h3
    · obtain ⟨e, h4, _, _, h5⟩ := (hled x).1 ((mem_nwF _ _ _).1 h3).1
      rw [← h5]
      exact hr e h4
/-- Where none is new nothing comes any more. -/
theorem RI.empty {es : List DSEdge} {ds : List DSpot} {nm : ByteArray} {n : Nat} {seen : List Int} (hr : ∀ e ∈ es, 0 ≤ e.to_ ∧ e.to_ < n) : ∀ (f : Nat) (A : Int → Bool), RI es ds nm n [] seen A → rs es ds nm f A = []
  | 0, _, _ => rfl
  | f + 1, A, h => by
    have e1 : dcl ds nm (hasI []) ds.length = [] := dcl_none (fun d _ _ => by simp [hasI])
    have e2 : led es (hasI []) 1 es.length = [] := by
      unfold led; rw [List.map_eq_nil_iff, List.filter_eq_nil_iff]; intro e _; simp [hasI]
    have e3 : dcl ds nm (hasI (led es (hasI []) 2 es.length)) ds.length = [] := dcl_none (fun d _ _ => by
      have : led es (hasI []) 2 es.length = [] := by
        unfold led; rw [List.map_eq_nil_iff, List.filter_eq_nil_iff]; intro e _; simp [hasI]
      rw [this]; simp [hasI])
    have h2 := h.next hr e1 e3
    rw [e2] at h2
    simp only [nwF, List.append_nil] at h2
    rw [rs_par (h.own.trans e1) (h.imp.trans e3)]
    exact RI.empty hr f _ h2
theorem RI.start {es : List DSEdge} {ds : List DSpot} {nm : ByteArray} {n : Nat} {s : Int} (h0 : 0 ≤ s) (h1 : s < n) : RI es ds nm n [s] [s] (fun x => x == s) :=
  ⟨fun x hx => by simp at hx; simp [hx], fun x hx => by simpa using hx, fun x hx hp => absurd hx hp, by simp, fun x hx => by simp at hx; subst hx; exact ⟨h0, h1⟩⟩
/-- What a reference stands for. -/
def rsv (t : DSg) (r : DSpot) : List Int := rs t.edges t.decls r.name (t.scopes.toNat + 1) (fun x => x == r.scope)
end Go.Proofs.Ytledclkmeikgdaa
