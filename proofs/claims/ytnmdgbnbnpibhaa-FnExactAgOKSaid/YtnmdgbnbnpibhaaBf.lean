import Derived.Test.YtnmdgbnbnpibhaaBe
import Derived.BigQuiet
import Derived.Deep.QuietTactic
/-! Pure: what the loops of the specification tell; its BnfOK, whole. -/
namespace Go.Proofs.Ytnmdgbnbnpibhaa
open Go.RowKit Go.Deep
set_option linter.unusedVariables false
set_option maxRecDepth 100000
set_option linter.unusedSimpArgs false

theorem ag_no_bn {d : Bn} {g : DAg} (h : bnB d = false) : agB d g = false := by unfold agB; rw [h]; rfl
theorem ag_no_a {d : Bn} {g : DAg} (h : ¬ g.attrs.length ≤ 20) : agB d g = false := by unfold agB; rw [decide_eq_false h]; simp
theorem ag_no_e {d : Bn} {g : DAg} (h : ¬ g.eqs.length ≤ 300) : agB d g = false := by unfold agB; rw [decide_eq_false h]; simp
theorem ag_no_att {d : Bn} {g : DAg} (i : Nat) (hi : i < g.attrs.length) (h : attB d g i = false) : agB d g = false := by
  have : (List.range g.attrs.length).all (attB d g) = false := List.all_eq_false.2 ⟨i, List.mem_range.2 hi, by simp [h]⟩
  unfold agB; rw [this]; simp
theorem ag_no_eq {d : Bn} {g : DAg} (i : Nat) (hi : i < g.eqs.length) (h : eqB d g g.eqs[i] = false) : agB d g = false := by
  have : g.eqs.all (eqB d g) = false := List.all_eq_false.2 ⟨g.eqs[i], List.getElem_mem hi, by simp [h]⟩
  unfold agB; rw [this]; simp
theorem ag_no_onc {d : Bn} {g : DAg} (p pos a : Nat) (hp : p < d.prods.length) (hs : pos ≤ (pdN d p).right.length) (ha : a < g.attrs.length) (h : oncB d g p pos a = false) : agB d g = false := by
  have h1 : (List.range g.attrs.length).all (fun a => oncB d g p pos a) = false := List.all_eq_false.2 ⟨a, List.mem_range.2 ha, by simp [h]⟩
  have h2 : ((List.range ((pdN d p).right.length + 1)).all fun pos => (List.range g.attrs.length).all fun a => oncB d g p pos a) = false := List.all_eq_false.2 ⟨pos, List.mem_range.2 (by omega), by simp only [h1]; simp⟩
  have h3 : ((List.range d.prods.length).all fun p => (List.range ((pdN d p).right.length + 1)).all fun pos => (List.range g.attrs.length).all fun a => oncB d g p pos a) = false := List.all_eq_false.2 ⟨p, List.mem_range.2 hp, by simp only [h2]; simp⟩
  unfold agB; rw [h3]; simp
theorem ag_yes {d : Bn} {g : DAg} (h0 : bnB d = true) (h1 : g.attrs.length ≤ 20) (h2 : g.eqs.length ≤ 300) (h3 : ∀ i, i < g.attrs.length → attB d g i = true) (h4 : ∀ i (hi : i < g.eqs.length), eqB d g g.eqs[i] = true)
    (h5 : ∀ p pos a : Nat, p < d.prods.length → pos ≤ (pdN d p).right.length → a < g.attrs.length → oncB d g p pos a = true) : agB d g = true := by
  have e3 : (List.range g.attrs.length).all (attB d g) = true := List.all_eq_true.2 fun i hi => h3 i (List.mem_range.1 hi)
  have e4 : g.eqs.all (eqB d g) = true := List.all_eq_true.2 fun x hx => by
    obtain ⟨i, hi, rfl⟩ := List.mem_iff_getElem.1 hx
    exact h4 i hi
  have e5 : ((List.range d.prods.length).all fun p => (List.range ((pdN d p).right.length + 1)).all fun pos => (List.range g.attrs.length).all fun a => oncB d g p pos a) = true :=
    List.all_eq_true.2 fun p hp => List.all_eq_true.2 fun pos hpos => List.all_eq_true.2 fun a ha => h5 p pos a (List.mem_range.1 hp) (by have := List.mem_range.1 hpos; omega) (List.mem_range.1 ha)
  unfold agB
  rw [h0, decide_eq_true h1, decide_eq_true h2, e3, e4, e5]; rfl
theorem att_no_non {d : Bn} {g : DAg} {i : Nat} (hi : i < g.attrs.length) (h : wiB g.attrs[i].non 0 ((d.nons.length : Int) - 1) = false) : attB d g i = false := by unfold attB; rw [atN_eq hi, h]; rfl
theorem att_no_name {d : Bn} {g : DAg} {i : Nat} (hi : i < g.attrs.length) (h : nmB g.attrs[i].name = false) : attB d g i = false := by unfold attB; rw [atN_eq hi, h]; simp
theorem att_no_same {d : Bn} {g : DAg} {k i : Nat} (hk : k < i) (hi : i < g.attrs.length) (h1 : g.attrs[k].non = g.attrs[i].non) (h2 : g.attrs[k].name = g.attrs[i].name) : attB d g i = false := by
  unfold attB
  rw [atN_eq hi]
  have : (List.range i).all (fun k => !(decide ((atN g k).non = g.attrs[i].non) && decide ((atN g k).name.data = g.attrs[i].name.data))) = false := List.all_eq_false.2 ⟨k, List.mem_range.2 hk, by rw [atN_eq (show k < g.attrs.length by omega), h1, h2]; simp⟩
  rw [this]; simp
theorem att_yes {d : Bn} {g : DAg} {i : Nat} (hi : i < g.attrs.length) (h1 : wiB g.attrs[i].non 0 ((d.nons.length : Int) - 1) = true) (h2 : nmB g.attrs[i].name = true) (h3 : ∀ k (hk : k < i), ¬ (g.attrs[k].non = g.attrs[i].non ∧ g.attrs[k].name = g.attrs[i].name)) : attB d g i = true := by
  unfold attB
  rw [atN_eq hi, h1, h2]
  simp only [Bool.true_and]
  refine List.all_eq_true.2 fun k hk => ?_
  have hk' := List.mem_range.1 hk
  rw [atN_eq (show k < g.attrs.length by omega)]
  have := h3 k hk'
  rw [Bool.not_eq_true', Bool.eq_false_iff]
  intro hh
  simp only [Bool.and_eq_true, decide_eq_true_eq] at hh
  exact this ⟨hh.1, by cases hx : g.attrs[k].name; cases hy : g.attrs[i].name; rw [hx, hy] at hh; simpa using hh.2⟩
theorem att_non {d : Bn} {g : DAg} {i : Nat} (hi : i < g.attrs.length) (hd : d.nons.length ≤ 100) (h : attB d g i = true) : 0 ≤ g.attrs[i].non ∧ g.attrs[i].non ≤ 1000 := by
  unfold attB at h
  rw [atN_eq hi, Bool.and_eq_true] at h
  have := h.1
  unfold wiB at this
  have h2 : 0 ≤ g.attrs[i].non ∧ g.attrs[i].non ≤ (d.nons.length : Int) - 1 := by simpa using this
  exact ⟨h2.1, by omega⟩
theorem bn_sz {d : Bn} (h : szB d = false) : bnB d = false := by unfold bnB; rw [h]; rfl
theorem bn_is {d : Bn} (h : bnB d = true) : d.terms.length ≤ 60 ∧ d.nons.length ≤ 100 ∧ d.prods.length ≤ 120 := by
  unfold bnB szB at h
  rw [Bool.and_eq_true, decide_eq_true_eq] at h
  exact ⟨h.1.1, h.1.2.2.1, h.1.2.2.2.2.2⟩
theorem sBnf_any {S : Nat → Prop} (d : Bn) (v0 v1 v3 : Value) (w : World) (h : BLies w S d v0 v1 v3) :
    Calls Try.prog 17 #[.agg #[v0, v1, .int .i64 d.own, v3]] w fun e w' => e = .returned (.bool (bnB d)) ∧ Below w.heap.size w w' := by
  cases hz : szB d
  · rw [bn_sz hz]; exact sBnf_no d v0 v1 v3 w h (by simp [hz])
  · exact sBnf_yes d v0 v1 v3 w h hz
end Go.Proofs.Ytnmdgbnbnpibhaa
