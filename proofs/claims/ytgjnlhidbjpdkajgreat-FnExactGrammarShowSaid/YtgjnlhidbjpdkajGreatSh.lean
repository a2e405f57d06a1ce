import Derived.Test.YtgjnlhidbjpdkajGreatW8
import Derived.Test.YtgjnlhidbjpdkajGreatW10
/-! The text of a grammar, and how long it is. -/
namespace Go.Proofs.YtgjnlhidbjpdkajGreat
open Go.RowKit Go.Deep
set_option linter.unusedVariables false
set_option maxRecDepth 100000
set_option linter.unusedSimpArgs false

/-- A line. -/
def lnT (ws : List ByteArray) : ByteArray := jn ws ++ ⟨#[59, 10]⟩
def cat : List ByteArray → ByteArray
  | [] => ⟨#[]⟩
  | x :: r => x ++ cat r
theorem cat_drop {α : Type} (f : α → ByteArray) {l : List α} {j : Nat} (h : j < l.length) : cat ((l.drop j).map f) = f l[j] ++ cat ((l.drop (j + 1)).map f) := by
  rw [List.drop_eq_getElem_cons h]; rfl
theorem cat_end {α : Type} (f : α → ByteArray) {l : List α} {j : Nat} (h : l.length ≤ j) : cat ((l.drop j).map f) = ⟨#[]⟩ := by
  rw [List.drop_eq_nil_of_le h]; rfl
theorem cat_size {α : Type} (f : α → ByteArray) {M : Nat} (l : List α) (h : ∀ i (hi : i < l.length), (f l[i]).size ≤ M) : (cat (l.map f)).size ≤ l.length * M := by
  induction l with
  | nil => simp [cat]; rfl
  | cons x r ih =>
    have h0 := h 0 (by simp)
    have h1 := ih fun i hi => h (i + 1) (by simpa using hi)
    simp only [List.map_cons, cat, ByteArray.size_append, List.length_cons, Nat.add_mul, Nat.one_mul]
    simp only [List.getElem_cons_zero] at h0
    omega
def langW (nm : ByteArray) : List ByteArray := [⟨#[108, 97, 110, 103, 117, 97, 103, 101]⟩, nm]
def tokT (t : DToken) : ByteArray := lnT (tokW t)
def levT (t : DLevel) : ByteArray := lnT (levW t)
def rulT (parts : List DPart) (r : DGRule) : ByteArray := lnT (sayR parts parts.length r)
/-- The text. -/
def shw (d : DGrammar) : ByteArray := lnT (langW d.name) ++ cat (d.tokens.map tokT) ++ cat (d.levels.map levT) ++ cat (d.rules.map (rulT d.parts))
theorem own_size {s : ByteArray} (h : ownB s = true) : s.size ≤ 24 := by
  unfold ownB nmB at h
  simp only [Bool.and_eq_true, decide_eq_true_eq] at h
  exact h.1.1.1.2
theorem lit_size {s : ByteArray} (h : litB s = true) : s.size ≤ 16 := by
  unfold litB at h
  simp only [Bool.and_eq_true, decide_eq_true_eq] at h
  exact h.2.1
theorem pat_size {s : ByteArray} (h : patB s = true) : s.size ≤ 100 := by
  unfold patB at h
  simp only [Bool.and_eq_true, decide_eq_true_eq] at h
  exact h.1
/-- What is known of a grammar that is one. -/
structure Gok (d : DGrammar) : Prop where
  fit : d.tokens.length ≤ 20 ∧ d.levels.length ≤ 8 ∧ d.rules.length ≤ 30 ∧ d.parts.length ≤ 200
  name : ownB d.name = true
  tok : ∀ i (hi : i < d.tokens.length), tokB d.tokens[i] = true
  lev : ∀ i (hi : i < d.levels.length), levB d.levels[i] = true
  rul : ∀ i (hi : i < d.rules.length), rulB d.rules[i] = true
  ord : ∀ i (hi : i < d.rules.length), ∃ e1 e2, sAlts d.parts d.rules[i].alts e1 = some e2 ∧ e2 ≤ d.parts.length
theorem sAlts_le (parts : List DPart) : ∀ (l : List DGAlt) (e e' : Nat), sAlts parts l e = some e' → e ≤ e' := by
  intro l
  induction l with
  | nil => intro e e' h; simp only [sAlts, Option.some.injEq] at h; omega
  | cons a r ih =>
    intro e e' h
    unfold sAlts at h
    cases hc : its parts parts.length a.items parts.length e with
    | none => rw [hc] at h; cases h
    | some e3 =>
      rw [hc] at h
      have := its_le parts _ _ _ _ _ hc
      have := ih e3 e' h
      omega
theorem sRules_mem (parts : List DPart) : ∀ (l : List DGRule) (e e' : Nat), sRules parts l e = some e' → e ≤ e' ∧ ∀ i (hi : i < l.length), ∃ e1 e2, sAlts parts l[i].alts e1 = some e2 ∧ e2 ≤ e' := by
  intro l
  induction l with
  | nil => intro e e' h; simp only [sRules, Option.some.injEq] at h; exact ⟨by omega, fun i hi => absurd hi (Nat.not_lt_zero _)⟩
  | cons a r ih =>
    intro e e' h
    unfold sRules at h
    cases hc : sAlts parts a.alts e with
    | none => rw [hc] at h; cases h
    | some e3 =>
      rw [hc] at h
      have h1 := sAlts_le parts _ _ _ hc
      obtain ⟨h2, h3⟩ := ih e3 e' h
      refine ⟨by omega, fun i hi => ?_⟩
      cases i with
      | zero => exact ⟨e, e3, hc, h2⟩
      | succ i => exact h3 i (by simpa using hi)
theorem sAlts_mem (parts : List DPart) : ∀ (l : List DGAlt) (e e' : Nat), sAlts parts l e = some e' → ∀ i (hi : i < l.length), ∃ e1 e2, its parts parts.length l[i].items parts.length e1 = some e2 := by
  intro l
  induction l with
  | nil => intro e e' h i hi; exact absurd hi (Nat.not_lt_zero _)
  | cons a r ih =>
    intro e e' h i hi
    unfold sAlts at h
    cases hc : its parts parts.length a.items parts.length e with
    | none => rw [hc] at h; cases h
    | some e3 =>
      rw [hc] at h
      cases i with
      | zero => exact ⟨e, e3, hc⟩
      | succ i => exact ih e3 e' h i (by simpa using hi)
theorem spB_ok {d : DGrammar} (h : spB d = true) : Gok d := by
  unfold spB fitB at h
  simp only [Bool.and_eq_true, decide_eq_true_eq, List.all_eq_true] at h
  obtain ⟨h1, h2, h3, h4, h5, h6⟩ := h
  exact ⟨h1, h2, fun i hi => h3 _ (List.getElem_mem hi), fun i hi => h4 _ (List.getElem_mem hi), fun i hi => h5 _ (List.getElem_mem hi), fun i hi => (sRules_mem d.parts _ _ _ h6).2 i hi⟩
theorem lab_size {a : DGAlt} (h : altB a = true) : a.label.size ≤ 24 ∧ wsz (labG a.label) ≤ 27 := by
  unfold altB at h
  have q : (ByteArray.mk #[35]).size = 1 := rfl
  simp only [Bool.or_eq_true, decide_eq_true_eq] at h
  rcases h with h | h
  · exact ⟨by omega, by unfold labG; rw [if_pos h]; simp [wsz]⟩
  · have := own_size h
    refine ⟨this, ?_⟩
    unfold labG
    split
    · simp [wsz]
    · simp only [wsz, q]; omega
theorem sAlts_size (parts : List DPart) (hs : ∀ p, (parts.getD p dfl).s.size ≤ 1048576 ∧ (parts.getD p dfl).alts.length ≤ 1048576) : ∀ (l : List DGAlt) (e e' : Nat), sAlts parts l e = some e' → (∀ a ∈ l, altB a = true) → e ≤ e' ∧ wsz (barR (altG (sayP parts (sayF parts parts.length))) l) ≤ perPart * (e' - e) + 29 * l.length := by
  intro l
  induction l with
  | nil => intro e e' h _; simp only [sAlts, Option.some.injEq] at h; exact ⟨by omega, by simp [barR, wsz]⟩
  | cons a r ih =>
    intro e e' h hb
    unfold sAlts at h
    cases hc : its parts parts.length a.items parts.length e with
    | none => rw [hc] at h; cases h
    | some e3 =>
      rw [hc] at h
      obtain ⟨h1, h2⟩ := its_size parts hs _ _ _ _ _ hc
      obtain ⟨h3, h4⟩ := ih e3 e' h (fun x hx => hb x (by simp [hx]))
      have h5 := (lab_size (hb a (by simp))).2
      have h6 : (ByteArray.mk #[124]).size = 1 := rfl
      refine ⟨by omega, ?_⟩
      have h7 : wsz (altG (sayP parts (sayF parts parts.length)) a) = wsz (sayI parts parts.length a.items) + wsz (labG a.label) := by unfold altG; rw [wsz_append]; rfl
      simp only [barR, wsz, wsz_append, h6, h7, List.length_cons]
      have : perPart * (e' - e) = perPart * (e3 - e) + perPart * (e' - e3) := by rw [← Nat.mul_add]; congr 1; omega
      omega
theorem Gok.rule_size {d : DGrammar} (h : Gok d) (hsm : d.Sm) (i : Nat) (hi : i < d.rules.length) : wsz (sayR d.parts d.parts.length d.rules[i]) ≤ 2147483648 := by
  have hr := h.rul i hi
  unfold rulB at hr
  simp only [Bool.and_eq_true, List.all_eq_true] at hr
  obtain ⟨e1, e2, h1, h2⟩ := h.ord i hi
  have hs : ∀ p, (d.parts.getD p dfl).s.size ≤ 1048576 ∧ (d.parts.getD p dfl).alts.length ≤ 1048576 := by
    intro p
    by_cases hp : p < d.parts.length
    · rw [getD_lt _ _ hp]
      exact ⟨(hsm.parts.2 p hp).s, (hsm.parts.2 p hp).alts.1⟩
    · have : d.parts.getD p dfl = dfl := by simp [List.getD_eq_getElem?_getD, Nat.le_of_not_lt hp]
      rw [this]
      exact ⟨Nat.zero_le _, Nat.zero_le _⟩
  obtain ⟨h3, h4⟩ := sAlts_size d.parts hs _ _ _ h1 hr.2.2
  have h5 := bars_barR (altG (sayP d.parts (sayF d.parts d.parts.length))) d.rules[i].alts
  have h6 := own_size hr.1
  have h7 : (ByteArray.mk #[61]).size = 1 := rfl
  have h8 : sayR d.parts d.parts.length d.rules[i] = d.rules[i].name :: ⟨#[61]⟩ :: bars (altG (sayP d.parts (sayF d.parts d.parts.length))) d.rules[i].alts := rfl
  have h9 : perPart * (e2 - e1) ≤ perPart * 200 := Nat.mul_le_mul_left _ (by have := h.fit.2.2.2; omega)
  have h10 : perPart = 5000000 := rfl
  have h11 := (hsm.rules.2 i hi).alts.1
  rw [h8]
  simp only [wsz, h7]
  omega
theorem lnT_size (ws : List ByteArray) : (lnT ws).size ≤ wsz ws + 2 := by
  have h := jn_size ws
  have q : (ByteArray.mk #[59, 10]).size = 2 := rfl
  unfold lnT
  rw [ByteArray.size_append, q]; omega
theorem wsz_map_le (f : ByteArray → ByteArray) (M : Nat) (l : List ByteArray) (h : ∀ i (hi : i < l.length), (f l[i]).size ≤ M) : wsz (l.map f) ≤ l.length * (M + 1) := by
  induction l with
  | nil => simp [wsz]
  | cons x r ih =>
    have h0 := h 0 (by simp)
    have h1 := ih fun i hi => h (i + 1) (by simpa using hi)
    simp only [List.getElem_cons_zero] at h0
    simp only [List.map_cons, wsz, List.length_cons, Nat.add_mul, Nat.one_mul]
    omega
theorem Gok.lev_size {d : DGrammar} (h : Gok d) (hsm : d.Sm) (i : Nat) (hi : i < d.levels.length) : wsz (levW d.levels[i]) ≤ 67108864 ∧ ∀ k (hk : k < d.levels[i].lits.length), d.levels[i].lits[k].size ≤ 16 := by
  have hr := h.lev i hi
  unfold levB at hr
  simp only [Bool.and_eq_true, List.all_eq_true] at hr
  have hl : ∀ k (hk : k < d.levels[i].lits.length), d.levels[i].lits[k].size ≤ 16 := fun k hk => lit_size (hr.2.2 _ (List.getElem_mem hk))
  refine ⟨?_, hl⟩
  have h1 := wsz_map_le quoW 18 d.levels[i].lits (fun k hk => by rw [quoW_size]; have := hl k hk; omega)
  have h2 : (ascW d.levels[i].assoc).size ≤ 5 := by unfold ascW; repeat' split
                                                    all_goals decide
  have h3 := (hsm.levels.2 i hi).lits.1
  unfold levW
  simp only [wsz]
  omega
theorem Gok.tok_size {d : DGrammar} (h : Gok d) (i : Nat) (hi : i < d.tokens.length) : d.tokens[i].name.size ≤ 24 ∧ d.tokens[i].rx.size ≤ 100 ∧ wsz (tokW d.tokens[i]) ≤ 200 := by
  have hr := h.tok i hi
  unfold tokB at hr
  simp only [Bool.and_eq_true] at hr
  have h1 := own_size hr.1
  have h2 := pat_size hr.2
  have q1 : (ByteArray.mk #[126]).size = 1 := rfl
  refine ⟨h1, h2, ?_⟩
  unfold tokW
  simp only [wsz, ByteArray.size_append, q1]
  have : (if d.tokens[i].skip = true then (⟨#[115, 107, 105, 112]⟩ : ByteArray) else ⟨#[116, 111, 107, 101, 110]⟩).size ≤ 5 := by split <;> decide
  omega
theorem Gok.size {d : DGrammar} (h : Gok d) (hsm : d.Sm) : (shw d).size ≤ 1099511627776 := by
  have h1 := cat_size tokT (M := 202) d.tokens (fun i hi => Nat.le_trans (lnT_size _) (by have := (h.tok_size i hi).2.2; omega))
  have h2 := cat_size levT (M := 67108866) d.levels (fun i hi => Nat.le_trans (lnT_size _) (by have := (h.lev_size hsm i hi).1; omega))
  have h3 := cat_size (rulT d.parts) (M := 2147483650) d.rules (fun i hi => Nat.le_trans (lnT_size _) (by have := h.rule_size hsm i hi; omega))
  have h4 := lnT_size (langW d.name)
  have h5 := own_size h.name
  have q : (ByteArray.mk #[108, 97, 110, 103, 117, 97, 103, 101]).size = 8 := rfl
  have h6 : wsz (langW d.name) = d.name.size + 10 := by simp only [langW, wsz, q]; omega
  obtain ⟨f1, f2, f3, _⟩ := h.fit
  have g1 : d.tokens.length * 202 ≤ 20 * 202 := Nat.mul_le_mul_right _ f1
  have g2 : d.levels.length * 67108866 ≤ 8 * 67108866 := Nat.mul_le_mul_right _ f2
  have g3 : d.rules.length * 2147483650 ≤ 30 * 2147483650 := Nat.mul_le_mul_right _ f3
  unfold shw
  simp only [ByteArray.size_append]
  omega
end Go.Proofs.YtgjnlhidbjpdkajGreat
