import Derived.Test.YtledclkmeikgdaaGv
/-! Resolve: what is answered; the specification. -/
namespace Go.Proofs.Ytledclkmeikgdaa
open Go.RowKit Go.Deep
set_option linter.unusedVariables false
set_option maxRecDepth 100000
set_option linter.unusedSimpArgs false

/-- What Resolve answers. -/
def reR (t : DSg) (ref : Int) : List Int × Int :=
  if sgB t = true then (if h : 0 ≤ ref ∧ ref < t.refs.length then (if rsv t (t.refs[ref.toNat]'(by omega)) = [] then ([], 8) else (rsv t (t.refs[ref.toNat]'(by omega)), 0)) else ([], 4)) else ([], 1)
/-- .. as it lies. -/
def ReA (R : List Int × Int) (w : World) (e : Ending) (w' : World) : Prop := ∃ (a : Option Addr) (cp : Nat), e = .returned (.tuple #[.slice a R.1.length cp, .int .i64 R.2]) ∧ Below w.heap.size w w' ∧ w'.ownsRow w.heap.size 3 1 (.slice a R.1.length cp) R.1.length (iv R.1)
theorem reR_bad {t : DSg} {ref : Int} (h : sgB t = false) : reR t ref = ([], 1) := by unfold reR; rw [if_neg (by rw [h]; simp)]
theorem reR_place {t : DSg} {ref : Int} (h : sgB t = true) (h2 : ¬ (0 ≤ ref ∧ ref < t.refs.length)) : reR t ref = ([], 4) := by unfold reR; rw [if_pos h, dif_neg h2]
theorem reR_none {t : DSg} {r : Nat} (h : sgB t = true) (h2 : r < t.refs.length) (h3 : rsv t t.refs[r] = []) : reR t (r : Int) = ([], 8) := by
  unfold reR; rw [if_pos h, dif_pos ⟨by omega, by omega⟩]; simp only [Int.toNat_natCast]; rw [if_pos h3]
theorem reR_some {t : DSg} {r : Nat} (h : sgB t = true) (h2 : r < t.refs.length) (h3 : ¬ rsv t t.refs[r] = []) : reR t (r : Int) = (rsv t t.refs[r], 0) := by
  unfold reR; rw [if_pos h, dif_pos ⟨by omega, by omega⟩]; simp only [Int.toNat_natCast]; rw [if_neg h3]
/-- What is known of scopes that are right. -/
theorem sg_facts {t : DSg} (h : sgB t = true) : ∃ N : Nat, t.scopes = (N : Int) ∧ 1 ≤ N ∧ N ≤ 60 ∧ t.edges.length ≤ 120 ∧ t.decls.length ≤ 120 ∧ t.refs.length ≤ 120 ∧ (∀ i (hi : i < t.edges.length), (0 ≤ t.edges[i].from_ ∧ t.edges[i].from_ < N) ∧ 0 ≤ t.edges[i].to_ ∧ t.edges[i].to_ < N) ∧ (∀ i (hi : i < t.decls.length), 0 ≤ t.decls[i].scope ∧ t.decls[i].scope < N) ∧ ∀ i (hi : i < t.refs.length), 0 ≤ t.refs[i].scope ∧ t.refs[i].scope < N := by
  unfold sgB spsB at h
  simp only [Bool.and_eq_true, decide_eq_true_eq, List.all_eq_true] at h
  obtain ⟨⟨h1, h2⟩, h3, ⟨h4, h5⟩, ⟨h6, h7⟩, h8⟩ := h
  refine ⟨t.scopes.toNat, by omega, by omega, by omega, h3, h4, h6, fun i hi => ?_, fun i hi => ?_, fun i hi => ?_⟩
  · have := h8 _ (List.getElem_mem hi)
    unfold edB scB at this
    simp only [Bool.and_eq_true, decide_eq_true_eq] at this
    omega
  · have := h5 _ (List.getElem_mem hi)
    unfold spB scB at this
    simp only [Bool.and_eq_true, decide_eq_true_eq] at this
    omega
  · have := h7 _ (List.getElem_mem hi)
    unfold spB scB at this
    simp only [Bool.and_eq_true, decide_eq_true_eq] at this
    omega
theorem ownNil (w : World) (B e z : Nat) : w.ownsRow B e z (.slice none 0 0) 0 [] := ⟨by simp, .inl ⟨rfl, rfl⟩⟩
def E6 (p : Nat) (n : Int) (v1 v2 v3 : Value) (b o : Nat) (s : Int) (nm : ByteArray) (wq : World) : Prop :=
  (wq.cell? ⟨p, 0, none⟩ = some (.int .i64 n) ∧ wq.cell? ⟨p, 1, none⟩ = some v1 ∧ wq.cell? ⟨p, 2, none⟩ = some v2 ∧ wq.cell? ⟨p, 3, none⟩ = some v3) ∧ wq.cell? ⟨b, o, none⟩ = some (.int .i64 s) ∧ wq.cell? ⟨b, o + 1, none⟩ = some (.string nm)
end Go.Proofs.Ytledclkmeikgdaa
