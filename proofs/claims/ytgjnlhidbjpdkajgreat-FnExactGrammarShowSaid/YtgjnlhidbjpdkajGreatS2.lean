import Derived.Test.YtgjnlhidbjpdkajGreatG9
import Derived.Test.YtgjnlhidbjpdkajGreatS1
/-! What a grammar's rules are shown as: the words, and how long they are. -/
namespace Go.Proofs.YtgjnlhidbjpdkajGreat
open Go.RowKit Go.Deep
set_option linter.unusedVariables false
set_option maxRecDepth 100000
set_option linter.unusedSimpArgs false

/-- The bytes of words, and one more for each. -/
def wsz : List ByteArray → Nat
  | [] => 0
  | x :: r => x.size + 1 + wsz r
theorem wsz_append (l m : List ByteArray) : wsz (l ++ m) = wsz l + wsz m := by
  induction l with
  | nil => simp [wsz]
  | cons x r ih => simp only [List.cons_append, wsz, ih]; omega
theorem jr_size (l : List ByteArray) : (jr l).size = wsz l := by
  induction l with
  | nil => rfl
  | cons x r ih =>
    have h1 : (ByteArray.mk #[32]).size = 1 := rfl
    simp only [jr, wsz, ByteArray.size_append, ih, h1]; omega
theorem jn_size (l : List ByteArray) : (jn l).size ≤ wsz l := by
  cases l with
  | nil => exact Nat.le_refl _
  | cons x r => simp only [jn, wsz, ByteArray.size_append, jr_size]; omega
/-- Each with a bar ahead. -/
def barR {α : Type} (g : α → List ByteArray) : List α → List ByteArray
  | [] => []
  | a :: r => ⟨#[124]⟩ :: (g a ++ barR g r)
/-- A bar between each two. -/
def bars {α : Type} (g : α → List ByteArray) : List α → List ByteArray
  | [] => []
  | a :: r => g a ++ barR g r
/-- What is still to come behind k of them. -/
def bark {α : Type} (g : α → List ByteArray) (l : List α) (k : Nat) : List ByteArray := if k = 0 then bars g l else barR g (l.drop k)
theorem bark_zero {α : Type} (g : α → List ByteArray) (l : List α) : bark g l 0 = bars g l := rfl
theorem bark_end {α : Type} {g : α → List ByteArray} {l : List α} {k : Nat} (h : l.length ≤ k) : bark g l k = [] := by
  unfold bark
  split
  · subst_vars
    have : l = [] := List.length_eq_zero_iff.1 (by omega)
    subst this
    rfl
  · rw [List.drop_eq_nil_of_le h]
    rfl
theorem bark_first {α : Type} {g : α → List ByteArray} {l : List α} (h : 0 < l.length) : bark g l 0 = g l[0] ++ bark g l 1 := by
  match l, h with
  | x :: r, _ => simp [bark, bars]
theorem bark_next {α : Type} {g : α → List ByteArray} {l : List α} {k : Nat} (h : k < l.length) (h0 : 0 < k) : bark g l k = ⟨#[124]⟩ :: (g l[k] ++ bark g l (k + 1)) := by
  unfold bark
  rw [if_neg (by omega), if_neg (by omega), List.drop_eq_getElem_cons h]
  rfl
theorem bars_barR {α : Type} (g : α → List ByteArray) (l : List α) : wsz (bars g l) ≤ wsz (barR g l) := by
  cases l with
  | nil => exact Nat.le_refl _
  | cons x r => simp only [bars, barR, wsz]; omega
/-- A part, shown, when its alternatives are shown so. -/
def sayP (parts : List DPart) (alts : List (List Int) → ByteArray) (x : Int) : ByteArray :=
  if (parts.getD x.toNat dfl).kind = 1 then (parts.getD x.toNat dfl).s
  else if (parts.getD x.toNat dfl).kind = 2 then ⟨#[39]⟩ ++ (parts.getD x.toNat dfl).s ++ ⟨#[39]⟩
  else if (parts.getD x.toNat dfl).kind = 3 then ⟨#[40]⟩ ++ alts (parts.getD x.toNat dfl).alts ++ ⟨#[41]⟩
  else if (parts.getD x.toNat dfl).kind = 4 then ⟨#[91]⟩ ++ alts (parts.getD x.toNat dfl).alts ++ ⟨#[93]⟩
  else ⟨#[123]⟩ ++ alts (parts.getD x.toNat dfl).alts ++ ⟨#[125]⟩
/-- Alternatives, shown: f deep. -/
def sayF (parts : List DPart) : Nat → List (List Int) → ByteArray
  | 0 => fun _ => ByteArray.empty
  | f + 1 => fun l => jn (bars (fun it => it.map (sayP parts (sayF parts f))) l)
/-- Items, as words. -/
def sayI (parts : List DPart) (f : Nat) (it : List Int) : List ByteArray := it.map (sayP parts (sayF parts f))
/-- A rule's words. -/
def sayR (parts : List DPart) (f : Nat) (r : DGRule) : List ByteArray :=
  r.name :: ⟨#[61]⟩ :: bars (fun a => sayI parts f a.items ++ (if a.label.size = 0 then [] else [⟨#[35]⟩, a.label])) r.alts

theorem sayP_size (parts : List DPart) (alts : List (List Int) → ByteArray) (x : Int) : (sayP parts alts x).size ≤ (parts.getD x.toNat dfl).s.size + (alts (parts.getD x.toNat dfl).alts).size + 2 := by
  have q1 : (ByteArray.mk #[39]).size = 1 := rfl
  have q2 : (ByteArray.mk #[40]).size = 1 := rfl
  have q3 : (ByteArray.mk #[41]).size = 1 := rfl
  have q4 : (ByteArray.mk #[91]).size = 1 := rfl
  have q5 : (ByteArray.mk #[93]).size = 1 := rfl
  have q6 : (ByteArray.mk #[123]).size = 1 := rfl
  have q7 : (ByteArray.mk #[125]).size = 1 := rfl
  unfold sayP
  repeat' split
  all_goals try simp only [ByteArray.size_append, q1, q2, q3, q4, q5, q6, q7]
  all_goals omega
/-- What stands for one part: its text, a bar for each of its alternatives, its signs. -/
def perPart : Nat := 5000000
theorem alts_size {rec : List Int → Int → Nat → Option Nat} {G : List Int → List ByteArray} (hrec : ∀ l x e e', rec l x e = some e' → e ≤ e' ∧ wsz (G l) ≤ perPart * (e' - e)) : ∀ (l : List (List Int)) (x : Int) (e e' : Nat), altsL rec l x e = some e' → e ≤ e' ∧ wsz (barR G l) ≤ perPart * (e' - e) + 2 * l.length := by
  intro l
  induction l with
  | nil => intro x e e' h; simp [altsL] at h; subst h; exact ⟨Nat.le_refl _, by simp [barR, wsz]⟩
  | cons a r ih =>
    intro x e e' h
    rw [altsL] at h
    cases h1 : rec a x e with
    | none => rw [h1] at h; simp at h
    | some e1 =>
      rw [h1] at h
      obtain ⟨h2, h3⟩ := hrec _ _ _ _ h1
      obtain ⟨h4, h5⟩ := ih _ _ _ h
      have h6 : (ByteArray.mk #[124]).size = 1 := rfl
      refine ⟨by omega, ?_⟩
      simp only [barR, wsz, wsz_append, h6, List.length_cons]
      have : perPart * (e' - e) = perPart * (e1 - e) + perPart * (e' - e1) := by rw [← Nat.mul_add]; congr 1; omega
      omega
theorem items_size (parts : List DPart) (hs : ∀ p, (parts.getD p dfl).s.size ≤ 1048576 ∧ (parts.getD p dfl).alts.length ≤ 1048576) {rec : List Int → Int → Nat → Option Nat} {A : List (List Int) → ByteArray} (hrec : ∀ l x e e', altsL rec l x e = some e' → e ≤ e' ∧ (A l).size ≤ perPart * (e' - e) + 2 * l.length) : ∀ (l : List Int) (b : Int) (e e' : Nat), itsL parts rec l b e = some e' → e ≤ e' ∧ wsz (l.map (sayP parts A)) ≤ perPart * (e' - e) := by
  intro l
  induction l with
  | nil => intro b e e' h; simp [itsL] at h; subst h; exact ⟨Nat.le_refl _, by simp [wsz]⟩
  | cons x r ih =>
    intro b e e' h
    rw [itsL] at h
    by_cases c1 : x < e ∨ b ≤ x
    · rw [if_pos c1] at h; simp at h
    rw [if_neg c1] at h
    by_cases c2 : parB (parts.getD x.toNat dfl) = false
    · rw [if_pos c2] at h; simp at h
    rw [if_neg c2] at h
    cases h1 : altsL rec (parts.getD x.toNat dfl).alts x e with
    | none => rw [h1] at h; simp at h
    | some e1 =>
      rw [h1] at h
      by_cases c3 : x = e1
      · simp only [if_pos c3] at h
        obtain ⟨h2, h3⟩ := hrec _ _ _ _ h1
        obtain ⟨h4, h5⟩ := ih _ _ _ h
        obtain ⟨h6, h7⟩ := hs x.toNat
        have h8 := sayP_size parts A x
        refine ⟨by omega, ?_⟩
        simp only [List.map_cons, wsz]
        have h9 : perPart * (e' - e) = perPart * (e1 - e) + perPart + perPart * (e' - (e1 + 1)) := by
          have : e' - e = (e1 - e) + 1 + (e' - (e1 + 1)) := by omega
          rw [this, Nat.mul_add, Nat.mul_add, Nat.mul_one]
        have h10 : perPart = 5000000 := rfl
        omega
      · simp only [if_neg c3] at h; simp at h
theorem its_size (parts : List DPart) (hs : ∀ p, (parts.getD p dfl).s.size ≤ 1048576 ∧ (parts.getD p dfl).alts.length ≤ 1048576) : ∀ (f : Nat) (l : List Int) (b : Int) (e e' : Nat), its parts f l b e = some e' → e ≤ e' ∧ wsz (sayI parts f l) ≤ perPart * (e' - e) := by
  intro f
  induction f with
  | zero =>
    intro l b e e' h
    refine items_size parts hs (rec := fun _ _ _ => none) (A := sayF parts 0) ?_ l b e e' h
    intro l x e e' h
    cases l with
    | nil => simp [altsL] at h; subst h; exact ⟨Nat.le_refl _, Nat.zero_le _⟩
    | cons a r => simp [altsL] at h
  | succ f ih =>
    intro l b e e' h
    refine items_size parts hs (rec := its parts f) (A := sayF parts (f + 1)) ?_ l b e e' h
    intro l x e e' h
    obtain ⟨h1, h2⟩ := alts_size (G := sayI parts f) (fun l x e e' h => ih l x e e' h) l x e e' h
    refine ⟨h1, ?_⟩
    have h3 := jn_size (bars (sayI parts f) l)
    have h4 := bars_barR (sayI parts f) l
    show (jn (bars (sayI parts f) l)).size ≤ _
    omega
end Go.Proofs.YtgjnlhidbjpdkajGreat
