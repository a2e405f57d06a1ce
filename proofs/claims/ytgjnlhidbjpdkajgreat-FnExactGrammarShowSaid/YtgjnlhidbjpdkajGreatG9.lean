import Derived.Test.YtgjnlhidbjpdkajGreatG8
/-! The walk of the specification is that of the program. -/
namespace Go.Proofs.YtgjnlhidbjpdkajGreat
open Go.RowKit Go.Deep
set_option linter.unusedVariables false
set_option maxRecDepth 100000
set_option linter.unusedSimpArgs false

theorem items_any {S : Nat → Prop} (parts : List DPart) (nm v1 v2 v3 vp : Value) (g : Nat) (hS : ∀ b, S b → b ≠ g) (hpl : parts.length ≤ 200) : ∀ (f : Nat) (items : List Int) (v : Value) (below : Int) (e : Nat) (w : World), below ≤ f → 0 ≤ below → below ≤ parts.length → Ints w S items v → PartR w S parts vp → WBx w g nm v1 v2 v3 vp e true → e ≤ 200 →
    Calls Tryz.prog 35 #[.pointer (some ⟨g, 0, none⟩), v, .int .i64 below] w fun en w' => en = .returned (.tuple #[]) ∧ ItA (its parts f items below e) g nm v1 v2 v3 vp below w' ∧ Bt g w w' ∧ ∀ e', its parts f items below e = some e' → e' ≤ 200 := by
  intro f
  induction f with
  | zero =>
    intro items v below e w hf h0 hb hI hP hB he
    exact items_step parts _ nm v1 v2 v3 vp g below hS hpl hb h0 (fun l v b' e w h1 h2 => absurd h2 (by omega)) items v e w hI hP hB he
  | succ f ih =>
    intro items v below e w hf h0 hb hI hP hB he
    exact items_step parts (its parts f) nm v1 v2 v3 vp g below hS hpl hb h0 (fun l v b' e w h1 h2 hI hP hB he => ih l v b' e w (by omega) h1 (by omega) hI hP hB he) items v e w hI hP hB he

theorem altsL_congr {r1 r2 : List Int → Int → Nat → Option Nat} (h : ∀ l x e, r1 l x e = r2 l x e) : ∀ (l : List (List Int)) (x : Int) (e : Nat), altsL r1 l x e = altsL r2 l x e := by
  intro l
  induction l with
  | nil => intro x e; rfl
  | cons a r ih =>
    intro x e
    simp only [altsL, h]
    cases r2 a x e with
    | none => rfl
    | some e' => exact ih x e'
/-- Where all parts are right, the walks are the same. -/
theorem its_thr (parts : List DPart) (hp : ∀ p, p < parts.length → parB (parts.getD p dfl) = true) : ∀ (f : Nat) (l : List Int) (b : Int) (e : Nat), b ≤ parts.length → its parts f l b e = thr parts f l b e := by
  have key : ∀ (r1 r2 : List Int → Int → Nat → Option Nat), (∀ (l : List Int) (x : Int) (e : Nat), x ≤ parts.length → r1 l x e = r2 l x e) → ∀ (l : List Int) (b : Int) (e : Nat), b ≤ parts.length → itsL parts r1 l b e = thrL parts r2 l b e := by
    intro r1 r2 hr l
    induction l with
    | nil => intro b e _; rfl
    | cons x r ih =>
      intro b e hb
      unfold itsL thrL
      by_cases hx : x < e ∨ b ≤ x
      · rw [if_pos hx, if_pos hx]
      · rw [if_neg hx, if_neg hx]
        have hpx := hp x.toNat (by omega)
        rw [if_neg (by rw [hpx]; simp)]
        have ha : ∀ (al : List (List Int)) (e : Nat), altsL r1 al x e = altsL r2 al x e := by
          intro al
          induction al with
          | nil => intro e; rfl
          | cons c al iha =>
            intro e
            simp only [altsL, hr c x e (by omega)]
            cases r2 c x e with
            | none => rfl
            | some e' => exact iha e'
        rw [ha]
        cases altsL r2 (parts.getD x.toNat dfl).alts x e with
        | none => rfl
        | some e' =>
          simp only
          by_cases h2 : x = e'
          · rw [if_pos h2, if_pos h2, ih b (e' + 1) hb]
          · rw [if_neg h2, if_neg h2]
  intro f
  induction f with
  | zero => intro l b e hb; exact key _ _ (fun _ _ _ _ => rfl) l b e hb
  | succ f ih => intro l b e hb; exact key _ _ (fun l x e hx => ih l x e hx) l b e hb
/-- Each part that the walk of the specification comes to is right. -/
theorem its_right (parts : List DPart) : ∀ (f : Nat) (l : List Int) (b : Int) (e e' : Nat), its parts f l b e = some e' → e ≤ e' ∧ ∀ p, e ≤ p → p < e' → parB (parts.getD p dfl) = true := by
  have key : ∀ (rec : List Int → Int → Nat → Option Nat), (∀ l x e e', rec l x e = some e' → e ≤ e' ∧ ∀ p, e ≤ p → p < e' → parB (parts.getD p dfl) = true) → ∀ (l : List Int) (b : Int) (e e' : Nat), itsL parts rec l b e = some e' → e ≤ e' ∧ ∀ p, e ≤ p → p < e' → parB (parts.getD p dfl) = true := by
    intro rec hr l
    induction l with
    | nil =>
      intro b e e' h
      simp only [itsL, Option.some.injEq] at h
      subst h
      exact ⟨Nat.le_refl _, fun p h1 h2 => by omega⟩
    | cons x r ih =>
      intro b e e' h
      unfold itsL at h
      by_cases hx : x < e ∨ b ≤ x
      · rw [if_pos hx] at h; cases h
      · rw [if_neg hx] at h
        by_cases hp : parB (parts.getD x.toNat dfl) = false
        · rw [if_pos hp] at h; cases h
        · rw [if_neg hp] at h
          have ha : ∀ (al : List (List Int)) (e e2 : Nat), altsL rec al x e = some e2 → e ≤ e2 ∧ ∀ p, e ≤ p → p < e2 → parB (parts.getD p dfl) = true := by
            intro al
            induction al with
            | nil =>
              intro e e2 h
              simp only [altsL, Option.some.injEq] at h
              subst h
              exact ⟨Nat.le_refl _, fun p h1 h2 => by omega⟩
            | cons c al iha =>
              intro e e2 h
              unfold altsL at h
              cases hc : rec c x e with
              | none => rw [hc] at h; cases h
              | some e3 =>
                rw [hc] at h
                obtain ⟨q1, q2⟩ := hr c x e e3 hc
                obtain ⟨q3, q4⟩ := iha e3 e2 h
                exact ⟨by omega, fun p h1 h2 => by
                  by_cases h3 : p < e3
                  · exact q2 p h1 h3
                  · exact q4 p (by omega) h2⟩
          cases hal : altsL rec (parts.getD x.toNat dfl).alts x e with
          | none => rw [hal] at h; cases h
          | some e2 =>
            rw [hal] at h
            simp only at h
            by_cases h2 : x = e2
            · rw [if_pos h2] at h
              obtain ⟨q1, q2⟩ := ha _ _ _ hal
              obtain ⟨q3, q4⟩ := ih b (e2 + 1) e' h
              have hpx : parB (parts.getD e2 dfl) = true := by
                have : x.toNat = e2 := by omega
                rw [this] at hp
                simpa using hp
              exact ⟨by omega, fun p h1 h3 => by
                by_cases h4 : p < e2
                · exact q2 p h1 h4
                · by_cases h5 : p = e2
                  · rw [h5]; exact hpx
                  · exact q4 p (by omega) h3⟩
            · rw [if_neg h2] at h; cases h
  intro f
  induction f with
  | zero => exact key _ (fun _ _ _ _ h => by cases h)
  | succ f ih => exact key _ ih
/-- Rule by rule: the specification. -/
def sAlts (parts : List DPart) : List DGAlt → Nat → Option Nat
  | [], e => some e
  | a :: r, e => match its parts parts.length a.items parts.length e with
    | none => none
    | some e' => sAlts parts r e'
def sRules (parts : List DPart) : List DGRule → Nat → Option Nat
  | [], e => some e
  | a :: r, e => match sAlts parts a.alts e with
    | none => none
    | some e' => sRules parts r e'
theorem sAlts_end {parts : List DPart} {l : List DGAlt} {k e : Nat} (h : l.length ≤ k) : sAlts parts (l.drop k) e = some e := by
  rw [List.drop_eq_nil_of_le h, sAlts]
theorem sAlts_none {parts : List DPart} {l : List DGAlt} {k e : Nat} (h : k < l.length) (hr : its parts parts.length l[k].items parts.length e = none) : sAlts parts (l.drop k) e = none := by
  rw [List.drop_eq_getElem_cons h, sAlts, hr]
theorem sAlts_some {parts : List DPart} {l : List DGAlt} {k e e' : Nat} (h : k < l.length) (hr : its parts parts.length l[k].items parts.length e = some e') : sAlts parts (l.drop k) e = sAlts parts (l.drop (k + 1)) e' := by
  rw [List.drop_eq_getElem_cons h, sAlts, hr]
theorem sRules_end {parts : List DPart} {l : List DGRule} {k e : Nat} (h : l.length ≤ k) : sRules parts (l.drop k) e = some e := by
  rw [List.drop_eq_nil_of_le h, sRules]
theorem sRules_none {parts : List DPart} {l : List DGRule} {k e : Nat} (h : k < l.length) (hr : sAlts parts l[k].alts e = none) : sRules parts (l.drop k) e = none := by
  rw [List.drop_eq_getElem_cons h, sRules, hr]
theorem sRules_some {parts : List DPart} {l : List DGRule} {k e e' : Nat} (h : k < l.length) (hr : sAlts parts l[k].alts e = some e') : sRules parts (l.drop k) e = sRules parts (l.drop (k + 1)) e' := by
  rw [List.drop_eq_getElem_cons h, sRules, hr]
theorem sR_wR (parts : List DPart) (hp : ∀ p, p < parts.length → parB (parts.getD p dfl) = true) : ∀ (l : List DGRule) (e : Nat), sRules parts l e = wRules parts l e := by
  have ha : ∀ (l : List DGAlt) (e : Nat), sAlts parts l e = wAlts parts l e := by
    intro l
    induction l with
    | nil => intro e; rfl
    | cons a r ih =>
      intro e
      simp only [sAlts, wAlts, its_thr parts hp parts.length a.items parts.length e (by omega)]
      cases thr parts parts.length a.items parts.length e with
      | none => rfl
      | some e' => exact ih e'
  intro l
  induction l with
  | nil => intro e; rfl
  | cons a r ih =>
    intro e
    simp only [sRules, wRules, ha]
    cases wAlts parts a.alts e with
    | none => rfl
    | some e' => exact ih e'
theorem sR_right (parts : List DPart) : ∀ (l : List DGRule) (e e' : Nat), sRules parts l e = some e' → e ≤ e' ∧ ∀ p, e ≤ p → p < e' → parB (parts.getD p dfl) = true := by
  have ha : ∀ (l : List DGAlt) (e e' : Nat), sAlts parts l e = some e' → e ≤ e' ∧ ∀ p, e ≤ p → p < e' → parB (parts.getD p dfl) = true := by
    intro l
    induction l with
    | nil =>
      intro e e' h
      simp only [sAlts, Option.some.injEq] at h
      subst h
      exact ⟨Nat.le_refl _, fun p h1 h2 => by omega⟩
    | cons a r ih =>
      intro e e' h
      unfold sAlts at h
      cases hc : its parts parts.length a.items parts.length e with
      | none => rw [hc] at h; cases h
      | some e3 =>
        rw [hc] at h
        obtain ⟨q1, q2⟩ := its_right parts _ _ _ _ _ hc
        obtain ⟨q3, q4⟩ := ih e3 e' h
        exact ⟨by omega, fun p h1 h2 => by
          by_cases h3 : p < e3
          · exact q2 p h1 h3
          · exact q4 p (by omega) h2⟩
  intro l
  induction l with
  | nil =>
    intro e e' h
    simp only [sRules, Option.some.injEq] at h
    subst h
    exact ⟨Nat.le_refl _, fun p h1 h2 => by omega⟩
  | cons a r ih =>
    intro e e' h
    unfold sRules at h
    cases hc : sAlts parts a.alts e with
    | none => rw [hc] at h; cases h
    | some e3 =>
      rw [hc] at h
      obtain ⟨q1, q2⟩ := ha _ _ _ hc
      obtain ⟨q3, q4⟩ := ih e3 e' h
      exact ⟨by omega, fun p h1 h2 => by
        by_cases h3 : p < e3
        · exact q2 p h1 h3
        · exact q4 p (by omega) h2⟩
/-- What the specification tells of a grammar; it is what the program tells. -/
def spB (d : DGrammar) : Bool := fitB d && (ownB d.name && (d.tokens.all tokB && (d.levels.all levB && (d.rules.all rulB && decide (sRules d.parts d.rules 0 = some d.parts.length)))))
theorem spB_grB (d : DGrammar) : spB d = grB d := by
  have h : decide (sRules d.parts d.rules 0 = some d.parts.length) = (d.parts.all parB && ordB d) := by
    cases hp : d.parts.all parB
    · rw [Bool.false_and]
      refine decide_eq_false fun h => ?_
      obtain ⟨_, h2⟩ := sR_right d.parts _ _ _ h
      rw [List.all_eq_false] at hp
      obtain ⟨x, hx, hn⟩ := hp
      obtain ⟨i, hi, rfl⟩ := List.mem_iff_getElem.1 hx
      have := h2 i (Nat.zero_le _) hi
      rw [getD_lt _ _ hi] at this
      exact hn this
    · rw [Bool.true_and]
      unfold ordB
      rw [sR_wR d.parts (fun p hlt => by
        rw [getD_lt _ _ hlt]
        exact (List.all_eq_true.1 hp) _ (List.getElem_mem hlt))]
  unfold spB grB
  rw [h]
end Go.Proofs.YtgjnlhidbjpdkajGreat
