import Derived.Test.YtgjnlhidbjpdkajGreatS5
/-! Items of parts in order are shown as they should: to any depth. -/
namespace Go.Proofs.YtgjnlhidbjpdkajGreat
open Go.RowKit Go.Deep
set_option linter.unusedVariables false
set_option maxRecDepth 100000
set_option linter.unusedSimpArgs false

theorem altsL_mem {rec : List Int → Int → Nat → Option Nat} (hrec : ∀ l x e e', rec l x e = some e' → e ≤ e') : ∀ (l : List (List Int)) (x : Int) (e e' : Nat), altsL rec l x e = some e' → e ≤ e' ∧ ∀ k (hk : k < l.length), ∃ e1 e2, rec l[k] x e1 = some e2 ∧ e2 ≤ e' := by
  intro l
  induction l with
  | nil => intro x e e' h; simp [altsL] at h; subst h; exact ⟨Nat.le_refl _, fun k hk => absurd hk (Nat.not_lt_zero _)⟩
  | cons a r ih =>
    intro x e e' h
    rw [altsL] at h
    cases h1 : rec a x e with
    | none => rw [h1] at h; simp at h
    | some e1 =>
      rw [h1] at h
      have h2 := hrec _ _ _ _ h1
      obtain ⟨h3, h4⟩ := ih _ _ _ h
      refine ⟨by omega, fun k hk => ?_⟩
      cases k with
      | zero => exact ⟨e, e1, h1, h3⟩
      | succ k => exact h4 k (by simpa using hk)
theorem itsL_mem {parts : List DPart} {rec : List Int → Int → Nat → Option Nat} (hrec : ∀ l x e e', altsL rec l x e = some e' → e ≤ e') : ∀ (l : List Int) (b : Int) (e e' : Nat), itsL parts rec l b e = some e' → e ≤ e' ∧ l.length ≤ e' - e ∧ (e' = e ∨ (e' : Int) ≤ b) ∧ ∀ k (hk : k < l.length), 0 ≤ l[k] ∧ l[k] < b ∧ parB (parts.getD l[k].toNat dfl) = true ∧ ∃ e1, altsL rec (parts.getD l[k].toNat dfl).alts l[k] e1 = some l[k].toNat := by
  intro l
  induction l with
  | nil => intro b e e' h; simp [itsL] at h; subst h; exact ⟨Nat.le_refl _, Nat.zero_le _, .inl rfl, fun k hk => absurd hk (Nat.not_lt_zero _)⟩
  | cons x r ih =>
    intro b e e' h
    rw [itsL] at h
    by_cases c1 : x < e ∨ b ≤ x
    · rw [if_pos c1] at h; simp at h
    rw [if_neg c1] at h
    by_cases c2 : parB (parts.getD x.toNat dfl) = false
    · rw [if_pos c2] at h; simp at h
    rw [if_neg c2] at h
    cases h1 : altsL rec (parts.getD x.toNat dfl).alts x e with
    | none => rw [h1] at h; simp at h
    | some e1 =>
      rw [h1] at h
      by_cases c3 : x = e1
      · simp only [if_pos c3] at h
        have h2 := hrec _ _ _ _ h1
        obtain ⟨h3, h4, h5, h6⟩ := ih _ _ _ h
        refine ⟨by omega, by simp only [List.length_cons]; omega, .inr (by omega), fun k hk => ?_⟩
        cases k with
        | zero => exact ⟨by simp; omega, by simp; omega, by simpa using c2, e, by simp only [List.getElem_cons_zero]; rw [h1, c3]; simp⟩
        | succ k =>
          simp only [List.getElem_cons_succ]
          exact h6 k (by simpa using hk)
      · simp only [if_neg c3] at h; simp at h
theorem par_kind {t : DPart} (h : parB t = true) : 1 ≤ t.kind ∧ (2 < t.kind → 0 < t.alts.length) := by
  unfold parB wiB at h
  by_cases h1 : t.kind = 1
  · exact ⟨by omega, fun h => by omega⟩
  by_cases h2 : t.kind = 2
  · exact ⟨by omega, fun h => by omega⟩
  rw [if_neg h1, if_neg h2] at h
  simp at h
  exact ⟨by omega, fun _ => by first | exact h.2.2 | (have := h.2.2; omega)⟩
theorem its_le (parts : List DPart) : ∀ (f : Nat) (l : List Int) (b : Int) (e e' : Nat), its parts f l b e = some e' → e ≤ e' := fun f l b e e' h => (its_right parts f l b e e' h).1

theorem sayI_any {S : Nat → Prop} (parts : List DPart) (hpl : parts.length ≤ 200) (hs : ∀ p, (parts.getD p dfl).s.size ≤ 1048576 ∧ (parts.getD p dfl).alts.length ≤ 1048576) (nm : ByteArray) (a1 a2 a3 a4 : Option Addr) (n1 p1 n2 p2 n3 p3 n4 p4 : Nat) :
    ∀ (f : Nat) (items : List Int) (v : Value) (b : Int) (e e' : Nat) (w : World), its parts f items b e = some e' → b ≤ parts.length → Ints w S items v → PartR w S parts (.slice a4 n4 p4) →
    Calls Tryz.prog 36 #[.agg #[.string nm, .slice a1 n1 p1, .slice a2 n2 p2, .slice a3 n3 p3, .slice a4 n4 p4], v] w fun e w' => ∃ g c, e = .returned (.slice (some ⟨g, 0, none⟩) items.length c) ∧ Below w.heap.size w w' ∧ w'.ownsRow w.heap.size 9 1 (.slice (some ⟨g, 0, none⟩) items.length c) items.length (sc (sayI parts f items)) := by
  intro f
  induction f with
  | zero =>
    intro items v b e e' w hit hb hI hP
    have hrec0 : ∀ (l : List (List Int)) (x : Int) (e e' : Nat), altsL (fun _ _ _ => none) l x e = some e' → e ≤ e' ∧ l = [] := by
      intro l x e e' h
      cases l with
      | nil => simp [altsL] at h; subst h; exact ⟨Nat.le_refl _, rfl⟩
      | cons a r => simp [altsL] at h
    obtain ⟨h1, h2, h3, h4⟩ := itsL_mem (parts := parts) (rec := fun _ _ _ => none) (fun l x e e' h => (hrec0 l x e e' h).1) items b e e' hit
    have hl : items.length ≤ 1048576 := by rcases h3 with h | h <;> omega
    refine sayItems_step (S := S) (sayP parts (sayF parts 0)) nm a1 a2 a3 a4 n1 p1 n2 p2 n3 p3 n4 p4 items v w hI hl ?_
    intro k hk w' hb'
    obtain ⟨q1, q2, q3, e1, q4⟩ := h4 k hk
    obtain ⟨x, hx⟩ : ∃ x : Nat, items[k] = x := ⟨items[k].toNat, by omega⟩
    rw [hx] at q1 q2 q3 q4 ⊢
    have hxl : x < parts.length := by omega
    have hg : parts.getD x dfl = parts[x] := by simp [List.getD_eq_getElem?_getD, hxl]
    rw [Int.toNat_natCast, hg] at q3 q4
    have hsx := hs x
    rw [hg] at hsx
    obtain ⟨k1, k2⟩ := par_kind q3
    have hnil := (hrec0 _ _ _ _ q4).2
    refine say_step (S := S) parts (sayF parts 0) nm a1 a2 a3 n1 p1 n2 p2 n3 p3 (.slice a4 n4 p4) x w' hxl (hP.still hb') ?_ hsx.1 k1 ?_
    · intro w'' v'' _ _ hk2
      have := k2 hk2
      rw [hnil] at this
      exact absurd this (Nat.not_lt_zero _)
    · exact Nat.zero_le _
  | succ f ih =>
    intro items v b e e' w hit hb hI hP
    have hrec1 : ∀ (l : List (List Int)) (x : Int) (e e' : Nat), altsL (its parts f) l x e = some e' → e ≤ e' := fun l x e e' h => (altsL_mem (fun l x e e' h => its_le parts f l x e e' h) l x e e' h).1
    obtain ⟨h1, h2, h3, h4⟩ := itsL_mem (parts := parts) (rec := its parts f) hrec1 items b e e' hit
    have hl : items.length ≤ 1048576 := by rcases h3 with h | h <;> omega
    refine sayItems_step (S := S) (sayP parts (sayF parts (f + 1))) nm a1 a2 a3 a4 n1 p1 n2 p2 n3 p3 n4 p4 items v w hI hl ?_
    intro k hk w' hb'
    obtain ⟨q1, q2, q3, e1, q4⟩ := h4 k hk
    obtain ⟨x, hx⟩ : ∃ x : Nat, items[k] = x := ⟨items[k].toNat, by omega⟩
    rw [hx] at q1 q2 q3 q4 ⊢
    have hxl : x < parts.length := by omega
    have hg : parts.getD x dfl = parts[x] := by simp [List.getD_eq_getElem?_getD, hxl]
    rw [Int.toNat_natCast, hg] at q3 q4
    have hsx := hs x
    rw [hg] at hsx
    obtain ⟨k1, k2⟩ := par_kind q3
    obtain ⟨z1, z2⟩ := alts_size (G := sayI parts f) (fun l x e e' h => its_size parts hs f l x e e' h) _ _ _ _ q4
    have z3 : wsz (bars (sayI parts f) parts[x].alts) ≤ 4398046511104 := by
      have := bars_barR (sayI parts f) parts[x].alts
      have hpp : perPart * (x - e1) ≤ perPart * 200 := Nat.mul_le_mul_left _ (by omega)
      have h10 : perPart = 5000000 := rfl
      omega
    refine say_step (S := S) parts (sayF parts (f + 1)) nm a1 a2 a3 n1 p1 n2 p2 n3 p3 (.slice a4 n4 p4) x w' hxl (hP.still hb') ?_ hsx.1 k1 ?_
    · intro w'' v'' hb'' hA'' _
      refine sayAlts_step (S := S) (sayP parts (sayF parts f)) nm a1 a2 a3 a4 n1 p1 n2 p2 n3 p3 n4 p4 parts[x].alts v'' w'' hA'' z3 ?_
      intro k3 hk3 w3 v3 hb3 hI3
      obtain ⟨_, hm⟩ := altsL_mem (fun l x e e' h => its_le parts f l x e e' h) _ _ _ _ q4
      obtain ⟨ea, eb, hr, _⟩ := hm k3 hk3
      exact ih _ v3 _ ea eb w3 hr (by omega) hI3 (((hP.still hb').still hb'').still hb3)
    · have := jn_size (bars (sayI parts f) parts[x].alts)
      show (jn (bars (sayI parts f) parts[x].alts)).size ≤ _
      omega
end Go.Proofs.YtgjnlhidbjpdkajGreat
