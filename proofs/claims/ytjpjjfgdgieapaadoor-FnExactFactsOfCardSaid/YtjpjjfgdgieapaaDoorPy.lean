import Derived.Test.YtjpjjfgdgieapaaDoorPx
/-! Pure: what begins and what follows, as the least that the rules ask for. -/
namespace Go.Proofs.YtjpjjfgdgieapaaDoor
open Go.RowKit Go.Deep
set_option linter.unusedVariables false
set_option maxRecDepth 100000
set_option linter.unusedSimpArgs false

theorem Ints.uniq {w : World} {S S' : Nat → Prop} {l l' : List Int} {v : Value} (h : Ints w S l v) (h' : Ints w S' l' v) : l = l' := by
  obtain ⟨a, cap, b, off, e, _, _, ha, hc⟩ := h
  obtain ⟨a', cap', b', off', e', _, _, ha', hc'⟩ := h'
  rw [e] at e'
  injection e' with e1 e2 e3
  refine List.ext_getElem e2 (fun i h1 h2 => ?_)
  have g1 := (ha (by omega)).1
  have g2 := (ha' (by omega)).1
  rw [← e1, g1] at g2
  injection g2 with g3
  injection g3 with g4 g5
  have c1 := hc i h1
  have c2 := hc' i h2
  rw [← g4, ← g5, c1] at c2
  injection c2 with c3
  injection c3
theorem FR.uniq {w : World} {b N : Nat} {F G : List (List Int)} (h : FR w b N F) (k : FR w b N G) : F = G := by
  obtain ⟨vs, h1, h2⟩ := h.ex
  obtain ⟨us, k1, k2⟩ := k.ex
  refine List.ext_getElem (by rw [h.len, k.len]) (fun i hi hj => ?_)
  have hN : i < N := by have := h.len; omega
  have e := h1.cell hN
  rw [k1.cell hN] at e
  injection e with e
  have a1 := h2 i hN
  have a2 := k2 i hN
  rw [e] at a2
  have := Ints.uniq a1 a2
  rw [getD_lt _ _ hi, getD_lt _ _ hj] at this
  exact this
/-- Rows that are right: ascending, from 0 to m. -/
def RwOk (m : Int) (F : List (List Int)) : Prop := ∀ x, Asc (F.getD x []) ∧ ∀ y ∈ F.getD x [], 0 ≤ y ∧ y ≤ m
theorem RwOk.len {m : Int} {F : List (List Int)} (h : RwOk m F) (hm : m ≤ 60) (x : Nat) : (F.getD x []).length ≤ 61 := by
  have := asc_len (F.getD x []) 0 m (h x).1 (h x).2
  omega
/-- What is left to do. -/
def room2 (F : List (List Int)) : Nat := (F.map (fun l => 61 - l.length)).sum
def stepF (F : List (List Int)) (n : Nat) (f : List Int) : List (List Int) := F.set n (putAll (F.getD n []) f)
theorem stepF_len (F : List (List Int)) (n : Nat) (f : List Int) : (stepF F n f).length = F.length := by unfold stepF; rw [List.length_set]
theorem stepF_at {F : List (List Int)} {n : Nat} (f : List Int) (hn : n < F.length) (x : Nat) : (stepF F n f).getD x [] = if x = n then putAll (F.getD n []) f else F.getD x [] := by
  unfold stepF
  by_cases e : x = n
  · subst e
    rw [if_pos rfl, getD_lt _ _ (by rw [List.length_set]; exact hn), List.getElem_set_self]
  · have e2 : n ≠ x := fun h => e h.symm
    rw [if_neg e]
    simp [List.getD_eq_getElem?_getD, List.getElem?_set_ne e2]
theorem stepF_mem {F : List (List Int)} {n : Nat} {f : List Int} (hn : n < F.length) (x : Nat) (y : Int) : y ∈ (stepF F n f).getD x [] ↔ y ∈ F.getD x [] ∨ (x = n ∧ y ∈ f) := by
  rw [stepF_at f hn]
  by_cases e : x = n
  · subst e; rw [if_pos rfl, putAll_mem]; simp
  · rw [if_neg e]; simp [e]
theorem stepF_ok {m : Int} {F : List (List Int)} {n : Nat} {f : List Int} (h : RwOk m F) (hn : n < F.length) (hf : ∀ y ∈ f, 0 ≤ y ∧ y ≤ m) : RwOk m (stepF F n f) := by
  intro x
  refine ⟨?_, fun y hy => ?_⟩
  · rw [stepF_at f hn]
    split
    · exact putAll_asc _ _ (h n).1
    · exact (h x).1
  · rcases (stepF_mem hn x y).1 hy with h1 | ⟨_, h1⟩
    · exact (h x).2 y h1
    · exact hf y h1
theorem stepF_same {F : List (List Int)} {n : Nat} {f : List Int} (hn : n < F.length) (h : fresh (F.getD n []) f = false) : stepF F n f = F := by
  unfold stepF
  rw [putAll_same f _ (fresh_no h), getD_lt _ _ hn]
  exact List.set_getElem_self hn
theorem room_set : ∀ (F : List (List Int)) (n : Nat) (l : List Int) (hn : n < F.length), F[n].length < l.length → l.length ≤ 61 → room2 (F.set n l) < room2 F := by
  intro F
  induction F with
  | nil => intro n l hn; exact absurd hn (Nat.not_lt_zero _)
  | cons a F ih =>
    intro n l hn h1 h2
    cases n with
    | zero =>
      simp only [List.getElem_cons_zero] at h1
      simp only [room2, List.set_cons_zero, List.map_cons, List.sum_cons]
      omega
    | succ n =>
      simp only [List.getElem_cons_succ] at h1
      have := ih n l (by simpa using hn) h1 h2
      unfold room2 at this
      simp only [room2, List.set_cons_succ, List.map_cons, List.sum_cons]
      omega
theorem stepF_room {m : Int} {F : List (List Int)} {n : Nat} {f : List Int} (hm : m ≤ 60) (h : RwOk m F) (hn : n < F.length) (hf : ∀ y ∈ f, 0 ≤ y ∧ y ≤ m) (hq : fresh (F.getD n []) f = true) : room2 (stepF F n f) < room2 F := by
  have h1 := putAll_grows (h n).1 (h n).2 hq
  have h2 := (stepF_ok h hn hf).len hm n
  rw [stepF_at f hn, if_pos rfl] at h2
  unfold stepF
  refine room_set F n _ hn ?_ h2
  rw [getD_lt _ _ hn] at h1
  rw [getD_lt _ _ hn]
  exact h1
theorem stepF_le {m : Int} {F : List (List Int)} {n : Nat} {f : List Int} (hm : m ≤ 60) (h : RwOk m F) (hn : n < F.length) (hf : ∀ y ∈ f, 0 ≤ y ∧ y ≤ m) : room2 (stepF F n f) ≤ room2 F := by
  by_cases hq : fresh (F.getD n []) f = true
  · exact Nat.le_of_lt (stepF_room hm h hn hf hq)
  · rw [stepF_same hn (by simpa using hq)]; exact Nat.le_refl _
/-- With what symbols begin. -/
def Bg (nt : Nat) (z : Nat → Bool) (G : Nat → Int → Prop) : List Int → Int → Prop
  | [], _ => False
  | s :: r, y => (if s.toNat < nt then y = s else G (s.toNat - nt) y) ∨ (z s.toNat = true ∧ Bg nt z G r y)
theorem Bg.mono {nt : Nat} {z : Nat → Bool} {G H : Nat → Int → Prop} (h : ∀ n y, G n y → H n y) : ∀ {r : List Int} {y : Int}, Bg nt z G r y → Bg nt z H r y := by
  intro r
  induction r with
  | nil => intro y hy; exact hy
  | cons s r ih =>
    intro y hy
    rcases hy with hy | ⟨h1, h2⟩
    · left
      by_cases e : s.toNat < nt
      · rw [if_pos e] at hy ⊢; exact hy
      · rw [if_neg e] at hy ⊢; exact h _ _ hy
    · exact .inr ⟨h1, ih h2⟩
/-- .. where the Nons are all of n. -/
theorem Bg.mono' {nt n : Nat} {z : Nat → Bool} {G H : Nat → Int → Prop} (h : ∀ x y, x < n → G x y → H x y) : ∀ {r : List Int} {y : Int}, (∀ x ∈ r, x.toNat < nt + n) → Bg nt z G r y → Bg nt z H r y := by
  intro r
  induction r with
  | nil => intro y _ hy; exact hy
  | cons s r ih =>
    intro y hr hy
    rcases hy with hy | ⟨h1, h2⟩
    · left
      by_cases e : s.toNat < nt
      · rw [if_pos e] at hy ⊢; exact hy
      · rw [if_neg e] at hy ⊢; exact h _ _ (by have := hr s (by simp); omega) hy
    · exact .inr ⟨h1, ih (fun x hx => hr x (List.mem_cons_of_mem _ hx)) h2⟩
theorem Bg.range {nt : Nat} {z : Nat → Bool} {G : Nat → Int → Prop} (h : ∀ x y, G x y → 0 ≤ y ∧ y < nt) : ∀ {r : List Int} {y : Int}, (∀ x ∈ r, 0 ≤ x) → Bg nt z G r y → 0 ≤ y ∧ y < nt := by
  intro r
  induction r with
  | nil => intro y _ hy; exact absurd hy (by simp [Bg])
  | cons s r ih =>
    intro y hr hy
    rcases hy with hy | ⟨h1, h2⟩
    · by_cases e : s.toNat < nt
      · rw [if_pos e] at hy; have := hr s (by simp); omega
      · rw [if_neg e] at hy; exact h _ _ hy
    · exact ih (fun x hx => hr x (List.mem_cons_of_mem _ hx)) h2
theorem fo_mem {nt : Nat} {z : Nat → Bool} {F : Nat → List Int} (hz : ∀ x, x < nt → z x = false) (y : Int) : ∀ (r acc : List Int), y ∈ (fo nt z F acc r).1 ↔ y ∈ acc ∨ Bg nt z (fun n y => y ∈ F n) r y := by
  intro r
  induction r with
  | nil => intro acc; simp [fo, Bg]
  | cons s r ih =>
    intro acc
    unfold fo Bg
    by_cases e : s.toNat < nt
    · rw [if_pos e, if_pos e, hz _ e]
      simp only [put_mem, Bool.false_eq_true, false_and, or_false]
      exact Or.comm
    · rw [if_neg e, if_neg e]
      by_cases h : z s.toNat = true
      · rw [if_pos h, ih, putAll_mem, h]
        simp only [true_and, or_assoc]
      · rw [if_neg h]
        simp only [putAll_mem, h, Bool.false_eq_true, false_and, or_false]
theorem fo_all {nt : Nat} {z : Nat → Bool} {F : Nat → List Int} (hz : ∀ x, x < nt → z x = false) : ∀ (r acc : List Int), (fo nt z F acc r).2 = true ↔ ∀ x ∈ r, z x.toNat = true := by
  intro r
  induction r with
  | nil => intro acc; simp [fo]
  | cons s r ih =>
    intro acc
    unfold fo
    by_cases e : s.toNat < nt
    · rw [if_pos e]
      simp [hz _ e]
    · rw [if_neg e]
      by_cases h : z s.toNat = true
      · rw [if_pos h, ih]; simp [h]
      · rw [if_neg h]; simp [h]
theorem fo_asc {nt : Nat} {z : Nat → Bool} {F : Nat → List Int} : ∀ (r acc : List Int), Asc acc → Asc (fo nt z F acc r).1 := by
  intro r
  induction r with
  | nil => intro acc h; exact h
  | cons s r ih =>
    intro acc h
    unfold fo
    split
    · exact put_asc h
    · split
      · exact ih _ (putAll_asc _ _ h)
      · exact putAll_asc _ _ h
/-- Rows that are closed: what begins a Prod begins its Left. -/
def FC (d : Bn) (z : Nat → Bool) (G : Nat → Int → Prop) : Prop := ∀ k (hk : k < d.prods.length) y, Bg d.terms.length z G d.prods[k].right y → G (d.prods[k].left.toNat - d.terms.length) y
/-- The least of these. -/
def Fst (d : Bn) (z : Nat → Bool) (n : Nat) (y : Int) : Prop := ∀ G, FC d z G → G n y
theorem Fst.closed (d : Bn) (z : Nat → Bool) : FC d z (Fst d z) := fun k hk y h G hG => hG k hk y (h.mono (fun n y h => h G hG))
theorem Fst.range {d : Bn} (hok : Bok d) {z : Nat → Bool} {n : Nat} {y : Int} (h : Fst d z n y) : 0 ≤ y ∧ y < d.terms.length :=
  h (fun _ y => 0 ≤ y ∧ y < d.terms.length) (fun k hk y hy => hy.range (fun _ _ h => h) (fun x hx => by
    obtain ⟨i, hi, rfl⟩ := List.mem_iff_getElem.1 hx
    exact (hok.right k hk i hi).1))
/-- Rows that are closed: what follows. -/
def OC (d : Bn) (z : Nat → Bool) (B : Nat → Int → Prop) (G : Nat → Int → Prop) : Prop := G 0 d.terms.length ∧ ∀ k (hk : k < d.prods.length) i (hi : i < d.prods[k].right.length), d.terms.length ≤ d.prods[k].right[i].toNat → ∀ y, (Bg d.terms.length z B (d.prods[k].right.drop (i + 1)) y ∨ ((∀ x ∈ d.prods[k].right.drop (i + 1), z x.toNat = true) ∧ G (d.prods[k].left.toNat - d.terms.length) y)) → G (d.prods[k].right[i].toNat - d.terms.length) y
def Fol (d : Bn) (z : Nat → Bool) (B : Nat → Int → Prop) (n : Nat) (y : Int) : Prop := ∀ G, OC d z B G → G n y
theorem Fol.closed (d : Bn) (z : Nat → Bool) (B : Nat → Int → Prop) : OC d z B (Fol d z B) := by
  refine ⟨fun G hG => hG.1, fun k hk i hi ht y h G hG => hG.2 k hk i hi ht y ?_⟩
  rcases h with h | ⟨h1, h2⟩
  · exact .inl h
  · exact .inr ⟨h1, h2 G hG⟩
theorem Fol.range {d : Bn} (hok : Bok d) {z : Nat → Bool} {B : Nat → Int → Prop} (hB : ∀ n y, B n y → 0 ≤ y ∧ y < d.terms.length) {n : Nat} {y : Int} (h : Fol d z B n y) : 0 ≤ y ∧ y ≤ d.terms.length :=
  h (fun _ y => 0 ≤ y ∧ y ≤ d.terms.length) ⟨by omega, fun k hk i hi _ y hy => by
    rcases hy with hy | ⟨_, hy⟩
    · have := hy.range hB (fun x hx => by
        obtain ⟨j, hj, rfl⟩ := List.mem_iff_getElem.1 (List.mem_of_mem_drop hx)
        exact (hok.right k hk j hj).1)
      omega
    · exact hy⟩
end Go.Proofs.YtjpjjfgdgieapaaDoor
