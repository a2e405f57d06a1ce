import Derived.Test.YtnmdgbnbnpibhaaCl
/-! Pure: as the program asks and as the specification asks are the same. -/
namespace Go.Proofs.Ytnmdgbnbnpibhaa
open Go.RowKit Go.Deep
set_option linter.unusedVariables false
set_option maxRecDepth 100000
set_option linter.unusedSimpArgs false

/-- What is known of plain rules that are right. -/
structure BnK (d : Bn) : Prop where
  terms : d.terms.length ≤ 60
  nons : d.nons.length ≤ 100
  prods : d.prods.length ≤ 120
  left : ∀ i (hi : i < d.prods.length), (d.terms.length : Int) ≤ d.prods[i].left
  len : ∀ i (hi : i < d.prods.length), d.prods[i].right.length ≤ 12
  right : ∀ i (hi : i < d.prods.length), ∀ k (hk : k < d.prods[i].right.length), 0 ≤ d.prods[i].right[k]
theorem bnk {d : Bn} (h : bnB d = true) : BnK d := by
  unfold bnB szB at h
  simp only [Bool.and_eq_true, decide_eq_true_eq, List.all_eq_true] at h
  obtain ⟨⟨h1, h2, h3, h4, h5, h6⟩, _, _, h7⟩ := h
  have hp : ∀ i (hi : i < d.prods.length), pdB d.terms.length d.nons.length d.prods[i] = true := fun i hi => h7 _ (List.getElem_mem hi)
  unfold pdB wiB at hp
  simp only [Bool.and_eq_true, decide_eq_true_eq, List.all_eq_true] at hp
  exact ⟨h1, h3, h6, fun i hi => (hp i hi).1.1, fun i hi => (hp i hi).2.1, fun i hi k hk => ((hp i hi).2.2.1 _ (List.getElem_mem hk)).1⟩
/-- Attributes are of Nons. -/
def AtK (d : Bn) (g : DAg) : Prop := ∀ i (hi : i < g.attrs.length), 0 ≤ g.attrs[i].non ∧ g.attrs[i].non ≤ (d.nons.length : Int) - 1
theorem atk {d : Bn} {g : DAg} (h : ∀ i, i < g.attrs.length → attB d g i = true) : AtK d g := fun i hi => by
  have h1 := h i hi
  unfold attB wiB at h1
  rw [atN_eq hi] at h1
  simp only [Bool.and_eq_true, decide_eq_true_eq] at h1
  exact h1.1
/-- The symbol at a Pos. -/
def sy (P : Pd) (pos : Int) : Int := if pos = 0 then P.left else inN P.right (pos - 1)
theorem sy_nn {d : Bn} (h : BnK d) {i : Nat} (hi : i < d.prods.length) {pos : Int} (h0 : 0 ≤ pos) (h1 : pos ≤ (d.prods[i].right.length : Int)) : 0 ≤ sy d.prods[i] pos := by
  unfold sy
  by_cases e : pos = 0
  · rw [if_pos e]; have := h.left i hi; omega
  · rw [if_neg e]
    obtain ⟨k, hk⟩ : ∃ k : Nat, pos - 1 = (k : Int) := ⟨(pos - 1).toNat, by omega⟩
    have hk2 : k < d.prods[i].right.length := by omega
    rw [hk, inN_eq hk2]
    exact h.right i hi k hk2
theorem sym_in {d : Bn} {i : Nat} (hi : i < d.prods.length) {pos : Int} (h0 : 0 ≤ pos) (h1 : pos ≤ (d.prods[i].right.length : Int)) : symB d i pos = sy d.prods[i] pos := by
  unfold symB sy wiB
  rw [pdN_eq hi, decide_eq_true (p := 0 ≤ (i : Int) ∧ (i : Int) ≤ (d.prods.length : Int) - 1) (by omega), decide_eq_true (p := 0 ≤ pos ∧ pos ≤ (d.prods[i].right.length : Int)) ⟨h0, h1⟩]
  rfl
theorem sym_out {d : Bn} {i : Nat} (hi : i < d.prods.length) {pos : Int} (h : ¬ (0 ≤ pos ∧ pos ≤ (d.prods[i].right.length : Int))) : symB d i pos = -1 := by
  unfold symB wiB
  rw [pdN_eq hi, decide_eq_false h]
  simp
theorem sym_no {d : Bn} {p pos : Int} (h : ¬ (0 ≤ p ∧ p < (d.prods.length : Int))) : symB d p pos = -1 := by
  unfold symB wiB
  rw [decide_eq_false (p := 0 ≤ p ∧ p ≤ (d.prods.length : Int) - 1) (by omega)]
  simp
theorem at_in {d : Bn} {g : DAg} {i : Nat} (hi : i < d.prods.length) {pos a : Int} (h0 : 0 ≤ pos) (h1 : pos ≤ (d.prods[i].right.length : Int)) : hasB d g i pos a = atB d g d.prods[i] pos a := by
  unfold hasB atB wiB
  rw [sym_in hi h0 h1]
  by_cases h : 0 ≤ a ∧ a < (g.attrs.length : Int)
  · rw [decide_eq_true (p := 0 ≤ a ∧ a ≤ (g.attrs.length : Int) - 1) (by omega), decide_eq_true (p := 0 ≤ pos ∧ pos ≤ (d.prods[i].right.length : Int) ∧ 0 ≤ a ∧ a < (g.attrs.length : Int)) ⟨h0, h1, h.1, h.2⟩]; rfl
  · rw [decide_eq_false (p := 0 ≤ a ∧ a ≤ (g.attrs.length : Int) - 1) (by omega), decide_eq_false (p := 0 ≤ pos ∧ pos ≤ (d.prods[i].right.length : Int) ∧ 0 ≤ a ∧ a < (g.attrs.length : Int)) (by omega)]; rfl
theorem has_no {d : Bn} {g : DAg} (hA : AtK d g) {p pos a : Int} (h : symB d p pos = -1) : hasB d g p pos a = false := by
  unfold hasB wiB
  rw [h]
  by_cases h1 : 0 ≤ a ∧ a < (g.attrs.length : Int)
  · obtain ⟨k, rfl⟩ : ∃ k : Nat, a = (k : Int) := ⟨a.toNat, by omega⟩
    have hk : k < g.attrs.length := by omega
    have := hA k hk
    rw [atN_eq hk, decide_eq_false (p := (-1 : Int) = (d.terms.length : Int) + g.attrs[k].non) (by omega)]
    simp
  · rw [decide_eq_false (p := 0 ≤ a ∧ a ≤ (g.attrs.length : Int) - 1) (by omega)]; rfl
theorem arg_eq {d : Bn} {g : DAg} (h : BnK d) (hA : AtK d g) {i : Nat} (hi : i < d.prods.length) (r : DRef) : argB d g i r = arB d g d.prods[i] r := by
  unfold argB arB
  by_cases e : r.pos = -1
  · rw [if_pos e, if_pos e]
  rw [if_neg e, if_neg e]
  by_cases hr : 0 ≤ r.pos ∧ r.pos ≤ (d.prods[i].right.length : Int)
  · have hs := sy_nn h hi hr.1 hr.2
    rw [sym_in hi hr.1 hr.2]
    by_cases hn : r.n = 0
    · rw [if_neg (by rintro (h1 | h1) <;> omega)]
      by_cases ht : sy d.prods[i] r.pos < (d.terms.length : Int)
      · rw [if_pos ht]
        have h0 : ¬ r.pos = 0 := fun e0 => by
          unfold sy at ht
          rw [if_pos e0] at ht
          have := h.left i hi
          omega
        have htm : tmB d d.prods[i] r.pos := by
          unfold sy at ht
          rw [if_neg h0] at ht
          exact ⟨by omega, hr.2, ht⟩
        rw [if_pos htm, decide_eq_true hn]; simp
      · rw [if_neg ht]
        have htm : ¬ tmB d d.prods[i] r.pos := fun h2 => ht (by
          unfold sy
          rw [if_neg (by have := h2.1; omega)]
          exact h2.2.2)
        rw [if_neg htm, decide_eq_true hn, at_in hi hr.1 hr.2]
        rfl
    · rw [if_pos (Or.inr hn)]
      by_cases htm : tmB d d.prods[i] r.pos
      · rw [if_pos htm, decide_eq_false hn]; simp
      · rw [if_neg htm, decide_eq_false hn]; rfl
  · rw [sym_out hi hr, if_pos (Or.inl (by omega))]
    have htm : ¬ tmB d d.prods[i] r.pos := fun h2 => hr ⟨by have := h2.1; omega, h2.2.1⟩
    rw [if_neg htm]
    unfold givB
    rw [at_no (fun h2 => hr ⟨h2.1, h2.2.1⟩)]
    simp
theorem dn_eq (b : Bool) (pos : Int) : (!(b == decide (pos = 0))) = (b == decide (pos ≠ 0)) := by
  by_cases h : pos = 0
  · rw [decide_eq_true h, decide_eq_false (p := pos ≠ 0) (fun h2 => h2 h)]; cases b <;> rfl
  · rw [decide_eq_false h, decide_eq_true (p := pos ≠ 0) h]; cases b <;> rfl
theorem eq_eq {d : Bn} {g : DAg} (h : BnK d) (hA : AtK d g) (E : DEq) : eqB d g E = erB d g E := by
  by_cases hp : 0 ≤ E.prod ∧ E.prod < (d.prods.length : Int)
  · obtain ⟨i, hie⟩ : ∃ i : Nat, E.prod = (i : Int) := ⟨E.prod.toNat, by omega⟩
    have hi : i < d.prods.length := by omega
    unfold eqB erB
    rw [decide_eq_true hp.1, decide_eq_true hp.2, hie, pdN_eq hi]
    have e1 : E.args.all (argB d g i) = E.args.all (arB d g d.prods[i]) := by
      congr 1; funext r; exact arg_eq h hA hi r
    rw [e1, dn_eq]
    have e2 : decide (argN E.op = (E.args.length : Int)) = decide ((E.args.length : Int) = argN E.op) := decide_eq_decide.2 eq_comm
    rw [e2]
    unfold setB
    by_cases hr : 0 ≤ E.pos ∧ E.pos ≤ (d.prods[i].right.length : Int)
    · rw [at_in hi hr.1 hr.2]
      generalize atB d g d.prods[i] E.pos E.attr = A
      generalize ((atN g E.attr).down == decide (E.pos ≠ 0)) = B
      generalize decide ((E.args.length : Int) = argN E.op) = C
      generalize E.args.all (arB d g d.prods[i]) = D
      cases A <;> cases B <;> cases C <;> cases D <;> rfl
    · rw [has_no hA (sym_out hi hr), at_no (fun h2 => hr ⟨h2.1, h2.2.1⟩)]
      simp
  · have e1 : erB d g E = false := by
      by_cases h1 : E.prod < 0
      · exact er_1 h1
      · exact er_2 (by omega)
    rw [e1]
    unfold eqB
    rw [has_no hA (sym_no hp)]; rfl
theorem onc_eq {d : Bn} {g : DAg} {p pos a : Nat} (hp : p < d.prods.length) (hpos : pos < d.prods[p].right.length + 1) : oncB d g p pos a = okB d g p pos a := by
  unfold oncB okB setB
  rw [at_in hp (by omega) (by omega), pdN_eq hp, dn_eq]
  generalize atB d g d.prods[p] pos a = A
  generalize ((atN g a).down == decide ((pos : Int) ≠ 0)) = B
  generalize decide (cntE g p pos a = 1) = C
  cases A <;> cases B <;> cases C <;> rfl
theorem ho_eq {d : Bn} {g : DAg} : ((List.range d.prods.length).all fun p => (List.range ((pdN d p).right.length + 1)).all fun pos => (List.range g.attrs.length).all fun a => oncB d g p pos a) = hoB d g := by
  unfold hoB
  rw [Bool.eq_iff_iff]
  simp only [List.all_eq_true, List.mem_range]
  constructor
  · intro h p hp pos hpos a ha
    rw [← onc_eq hp (by rw [pdN_eq hp] at hpos; exact hpos)]; exact h p hp pos hpos a ha
  · intro h p hp pos hpos a ha
    rw [onc_eq hp (by rw [pdN_eq hp] at hpos; exact hpos)]; exact h p hp pos hpos a ha
theorem ag_att_no {d : Bn} {g : DAg} (h : (List.range g.attrs.length).all (attB d g) = false) : agB d g = false := by unfold agB; rw [h]; simp
/-- The same, in the program's words. -/
theorem ag_eq {d : Bn} {g : DAg} (hb : bnB d = true) (h1 : g.attrs.length ≤ 20) (h2 : g.eqs.length ≤ 300) (h3 : (List.range g.attrs.length).all (attB d g) = true) : agB d g = (g.eqs.all (erB d g) && hoB d g) := by
  unfold agB
  rw [hb, decide_eq_true h1, decide_eq_true h2, h3, ho_eq]
  have hA : AtK d g := atk (fun i hi => List.all_eq_true.1 h3 i (List.mem_range.2 hi))
  have e : g.eqs.all (eqB d g) = g.eqs.all (erB d g) := by
    congr 1; funext E; exact eq_eq (bnk hb) hA E
  rw [e]; rfl
theorem er_sl {d : Bn} {g : DAg} (h : BnK d) (hA : g.attrs.length ≤ 20) {E : DEq} (he : erB d g E = true) : Sl E.prod ∧ Sl E.pos ∧ Sl E.attr := by
  unfold erB setB at he
  simp only [Bool.and_eq_true, decide_eq_true_eq] at he
  obtain ⟨h1, h2, _, ⟨h4, _⟩, _⟩ := he
  obtain ⟨i, hie⟩ : ∃ i : Nat, E.prod = (i : Int) := ⟨E.prod.toNat, by omega⟩
  have hi : i < d.prods.length := by omega
  rw [hie, pdN_eq hi] at h4
  unfold atB at h4
  simp only [Bool.and_eq_true, decide_eq_true_eq] at h4
  have h5 := h.len i hi
  have h6 := h.prods
  exact ⟨⟨by omega, by omega⟩, ⟨by omega, by omega⟩, ⟨by omega, by omega⟩⟩
end Go.Proofs.Ytnmdgbnbnpibhaa
