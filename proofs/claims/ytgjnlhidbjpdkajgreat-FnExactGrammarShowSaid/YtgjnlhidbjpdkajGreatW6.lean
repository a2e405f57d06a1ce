import Derived.Test.YtgjnlhidbjpdkajGreatW4
import Derived.Test.YtgjnlhidbjpdkajGreatS7
/-! Words written one by one are the text that they are shown as. -/
namespace Go.Proofs.YtgjnlhidbjpdkajGreat
open Go.RowKit Go.Deep
set_option linter.unusedVariables false
set_option maxRecDepth 100000
set_option linter.unusedSimpArgs false

/-- Words, one behind the other. -/
def wAll : ByteArray → Bool → List ByteArray → ByteArray × Bool
  | T, G, [] => (T, G)
  | T, G, x :: r => wAll (wAdd T G x) (begB x) r
theorem wAll_append (l m : List ByteArray) : ∀ T G, wAll T G (l ++ m) = wAll (wAll T G l).1 (wAll T G l).2 m := by
  induction l with
  | nil => intro T G; rfl
  | cons x r ih => intro T G; simp only [List.cons_append, wAll]; exact ih _ _
/-- A word like others. -/
def plW (x : ByteArray) : Prop := endB x = false ∧ begB x = false
theorem plW_of {x : ByteArray} (h : ∀ b ∈ ([59, 41, 93, 125, 40, 91, 123] : List UInt8), x ≠ ⟨#[b]⟩) : plW x := by
  constructor
  · refine end_no fun hm => ?_
    simp only [endL, List.mem_cons, List.not_mem_nil, or_false] at hm
    rcases hm with e | e | e | e <;> exact h _ (by simp) e
  · have h1 : ¬ x.data = #[40] := fun e => h 40 (by simp) (data_eq e)
    have h2 : ¬ x.data = #[91] := fun e => h 91 (by simp) (data_eq e)
    have h3 : ¬ x.data = #[123] := fun e => h 123 (by simp) (data_eq e)
    unfold begB begK
    simp [h1, h2, h3]
theorem ba_ne {x : ByteArray} {b : UInt8} (h : x.data.toList ≠ [b]) : x ≠ ⟨#[b]⟩ := fun e => h (by rw [e])
theorem plW_long {x : ByteArray} (h : x.data.toList.length ≠ 1) : plW x := plW_of fun b _ => ba_ne (fun e => h (by rw [e]; rfl))
theorem plW_first {x : ByteArray} {c : UInt8} {r : List UInt8} (hx : x.data.toList = c :: r) (hc : c ∉ ([59, 41, 93, 125, 40, 91, 123] : List UInt8)) : plW x := plW_of fun b hb => ba_ne (fun e => by
  rw [hx] at e
  cases e
  exact hc hb)
theorem ba_ext {a b : ByteArray} (h : a.data.toList = b.data.toList) : a = b := by
  cases a; cases b
  simp only at h
  congr 1
  exact Array.toList_inj.1 h
theorem ba_assoc (a b c : ByteArray) : a ++ b ++ c = a ++ (b ++ c) := ba_ext (by simp)
theorem ba_nil (a : ByteArray) : a ++ ⟨#[]⟩ = a := ba_ext (by simp)
theorem nil_ba (a : ByteArray) : (⟨#[]⟩ : ByteArray) ++ a = a := ba_ext (by simp)
theorem ba_emp (a : ByteArray) : a ++ ByteArray.empty = a := ba_ext (by simp)
/-- Words with blanks between them, the first one glued or not. -/
def jg (G : Bool) (l : List ByteArray) : ByteArray := if G then jn l else jr l
theorem jr_append (l m : List ByteArray) : jr (l ++ m) = jr l ++ jr m := by
  induction l with
  | nil => simp only [List.nil_append, jr]; exact ba_ext (by simp)
  | cons x r ih => simp only [List.cons_append, jr, ih, ba_assoc]
theorem jg_append {G : Bool} {l m : List ByteArray} : jg G (l ++ m) = jg G l ++ jg (G && l.isEmpty) m := by
  cases l with
  | nil =>
    cases G <;> simp [jg, jr, jn] <;> exact (ba_ext (by simp)).symm
  | cons x r =>
    cases G <;> simp [jg, jr, jn, jr_append, ba_assoc]
/-- Words that are written are shown so. -/
def Gd (f s : List ByteArray) : Prop := ∀ T G, wAll T G f = (T ++ jg G s, G && s.isEmpty)
theorem Gd.nil : Gd [] [] := fun T G => by
  cases G <;> simp [wAll, jg, jn, jr] <;> exact (ba_ext (by simp)).symm
theorem Gd.append {f1 f2 s1 s2 : List ByteArray} (h1 : Gd f1 s1) (h2 : Gd f2 s2) : Gd (f1 ++ f2) (s1 ++ s2) := fun T G => by
  rw [wAll_append, h1 T G, h2, jg_append, ba_assoc]
  cases G <;> cases s1 <;> simp
theorem Gd.one {x : ByteArray} (h : plW x) : Gd [x] [x] := fun T G => by
  cases G
  · simp only [wAll, wAdd, h.1, h.2, jg, jr, Bool.or_false, Bool.false_eq_true, if_false, Bool.false_and]
    exact Prod.ext (ba_ext (by simp)) rfl
  · simp only [wAll, wAdd, h.1, h.2, jg, jn, jr, Bool.true_or, if_true]
    exact Prod.ext (ba_ext (by simp)) (by simp)
theorem Gd.cons {x : ByteArray} {f s : List ByteArray} (h : plW x) (h2 : Gd f s) : Gd (x :: f) (x :: s) := Gd.append (Gd.one h) h2
theorem opn_facts {k : Int} (h : k = 3 ∨ k = 4 ∨ k = 5) : endB (opn k) = false ∧ begB (opn k) = true ∧ endB (sht k) = true ∧ begB (sht k) = false := by
  rcases h with rfl | rfl | rfl
  · refine ⟨end_no ?_, ?_, end_yes ?_, ?_⟩ <;> simp [opn, sht, endL, begB, begK]
  · refine ⟨end_no ?_, ?_, end_yes ?_, ?_⟩ <;> simp [opn, sht, endL, begB, begK]
  · refine ⟨end_no ?_, ?_, end_yes ?_, ?_⟩ <;> simp [opn, sht, endL, begB, begK]
theorem Gd.brackets {k : Int} (hk : k = 3 ∨ k = 4 ∨ k = 5) {f s : List ByteArray} (h : Gd f s) : Gd (opn k :: (f ++ [sht k])) [opn k ++ jn s ++ sht k] := fun T G => by
  obtain ⟨e1, e2, e3, e4⟩ := opn_facts hk
  simp only [wAll]
  rw [e2, wAll_append, h]
  cases G
  · simp only [wAll, wAdd, e1, e3, e4, jg, jr, Bool.or_false, Bool.or_true, if_true, Bool.false_eq_true, if_false, Bool.false_and]
    exact Prod.ext (ba_ext (by simp)) rfl
  · simp only [wAll, wAdd, e1, e3, e4, jg, jn, jr, Bool.true_or, Bool.or_true, if_true]
    exact Prod.ext (ba_ext (by simp)) (by simp)
theorem bar_plain : plW ⟨#[124]⟩ := plW_first (c := 124) (r := []) rfl (by decide)
theorem Gd.ofBarR {α : Type} {f s : α → List ByteArray} (l : List α) (h : ∀ a ∈ l, Gd (f a) (s a)) : Gd (barR f l) (barR s l) := by
  induction l with
  | nil => exact Gd.nil
  | cons a r ih => exact Gd.cons bar_plain (Gd.append (h a (by simp)) (ih fun x hx => h x (by simp [hx])))
theorem Gd.ofBars {α : Type} {f s : α → List ByteArray} (l : List α) (h : ∀ a ∈ l, Gd (f a) (s a)) : Gd (bars f l) (bars s l) := by
  cases l with
  | nil => exact Gd.nil
  | cons a r => exact Gd.append (h a (by simp)) (Gd.ofBarR r fun x hx => h x (by simp [hx]))
/-- A part's words, one by one. -/
def flP (parts : List DPart) (rec : List (List Int) → List ByteArray) (x : Int) : List ByteArray :=
  if (parts.getD x.toNat dfl).kind = 1 then [(parts.getD x.toNat dfl).s]
  else if (parts.getD x.toNat dfl).kind = 2 then [⟨#[39]⟩ ++ (parts.getD x.toNat dfl).s ++ ⟨#[39]⟩]
  else opn (parts.getD x.toNat dfl).kind :: (rec (parts.getD x.toNat dfl).alts ++ [sht (parts.getD x.toNat dfl).kind])
def flF (parts : List DPart) : Nat → List (List Int) → List ByteArray
  | 0 => fun _ => []
  | f + 1 => fun l => bars (fun it => it.flatMap (flP parts (flF parts f))) l
/-- Items' words, one by one. -/
def flI (parts : List DPart) (f : Nat) (it : List Int) : List ByteArray := it.flatMap (flP parts (flF parts f))
theorem own_plain {s : ByteArray} (h : ownB s = true) : plW s := by
  unfold ownB nmB at h
  simp only [Bool.and_eq_true, decide_eq_true_eq] at h
  obtain ⟨⟨⟨⟨h1, _⟩, h2⟩, _⟩, _⟩ := h
  match hs : s.data.toList with
  | [] => rw [← dt_length, hs] at h1; simp at h1
  | c :: r =>
    have hc : s.get! 0 = c := by
      have : s.data[0]? = some c := by rw [← Array.getElem?_toList, hs]; rfl
      simp [ByteArray.get!, getElem!_def, this]
    rw [hc] at h2
    refine plW_first hs fun hm => ?_
    simp only [List.mem_cons, List.not_mem_nil, or_false] at hm
    rcases hm with rfl | rfl | rfl | rfl | rfl | rfl | rfl <;> exact absurd h2 (by decide)
theorem quo_plain (s : ByteArray) : plW (⟨#[39]⟩ ++ s ++ ⟨#[39]⟩) := plW_long (by simp)
theorem Gd.part {parts : List DPart} {x : Int} (hp : parB (parts.getD x.toNat dfl) = true) {R : List (List Int) → List ByteArray} {A : List (List Int) → List ByteArray} (h : Gd (R (parts.getD x.toNat dfl).alts) (A (parts.getD x.toNat dfl).alts)) :
    Gd (flP parts R x) [sayP parts (fun l => jn (A l)) x] := by
  unfold flP sayP
  unfold parB wiB at hp
  generalize parts.getD x.toNat dfl = t at *
  by_cases h1 : t.kind = 1
  · rw [if_pos h1] at hp
    rw [if_pos h1, if_pos h1]
    simp only [Bool.and_eq_true] at hp
    exact Gd.one (own_plain hp.1)
  rw [if_neg h1] at hp
  rw [if_neg h1, if_neg h1]
  by_cases h2 : t.kind = 2
  · rw [if_pos h2, if_pos h2]
    exact Gd.one (quo_plain _)
  rw [if_neg h2] at hp
  rw [if_neg h2, if_neg h2]
  simp only [Bool.and_eq_true, decide_eq_true_eq] at hp
  have hk : t.kind = 3 ∨ t.kind = 4 ∨ t.kind = 5 := by omega
  have hb := Gd.brackets hk h
  rcases hk with hk | hk | hk <;> simpa [hk, opn, sht] using hb
theorem Gd.flat {α : Type} {f : α → List ByteArray} {s : α → ByteArray} (l : List α) (h : ∀ a ∈ l, Gd (f a) [s a]) : Gd (l.flatMap f) (l.map s) := by
  induction l with
  | nil => exact Gd.nil
  | cons a r ih => exact Gd.append (h a (by simp)) (ih fun x hx => h x (by simp [hx]))
theorem Gd.items (parts : List DPart) : ∀ (f : Nat) (l : List Int) (b : Int) (e e' : Nat), its parts f l b e = some e' → Gd (flI parts f l) (sayI parts f l) := by
  intro f
  induction f with
  | zero =>
    intro l b e e' h
    have hrec0 : ∀ (l : List (List Int)) (x : Int) (e e' : Nat), altsL (fun _ _ _ => none) l x e = some e' → e ≤ e' ∧ l = [] := by
      intro l x e e' h
      cases l with
      | nil => simp [altsL] at h; subst h; exact ⟨Nat.le_refl _, rfl⟩
      | cons a r => simp [altsL] at h
    obtain ⟨_, _, _, h4⟩ := itsL_mem (parts := parts) (rec := fun _ _ _ => none) (fun l x e e' h => (hrec0 l x e e' h).1) l b e e' h
    refine Gd.flat l fun x hx => ?_
    obtain ⟨k, hk, rfl⟩ := List.mem_iff_getElem.1 hx
    obtain ⟨_, _, q3, e1, q4⟩ := h4 k hk
    exact Gd.part q3 (A := fun _ => []) Gd.nil
  | succ f ih =>
    intro l b e e' h
    have hrec1 : ∀ (l : List (List Int)) (x : Int) (e e' : Nat), altsL (its parts f) l x e = some e' → e ≤ e' := fun l x e e' h => (altsL_mem (fun l x e e' h => its_le parts f l x e e' h) l x e e' h).1
    obtain ⟨_, _, _, h4⟩ := itsL_mem (parts := parts) (rec := its parts f) hrec1 l b e e' h
    refine Gd.flat l fun x hx => ?_
    obtain ⟨k, hk, rfl⟩ := List.mem_iff_getElem.1 hx
    obtain ⟨_, _, q3, e1, q4⟩ := h4 k hk
    refine Gd.part q3 (A := fun l => bars (sayI parts f) l) ?_
    obtain ⟨_, hm⟩ := altsL_mem (fun l x e e' h => its_le parts f l x e e' h) _ _ _ _ q4
    refine Gd.ofBars _ fun a ha => ?_
    obtain ⟨k3, hk3, rfl⟩ := List.mem_iff_getElem.1 ha
    obtain ⟨ea, eb, hr, _⟩ := hm k3 hk3
    exact ih _ _ _ _ hr
end Go.Proofs.YtgjnlhidbjpdkajGreat
