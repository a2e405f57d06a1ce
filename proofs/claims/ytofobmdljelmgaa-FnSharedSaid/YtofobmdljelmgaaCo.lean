import Derived.Test.YtofobmdljelmgaaPv
import Derived.Test.YtofobmdljelmgaaLs
/-! The specification: l09Count. -/
namespace Go.Proofs.Ytofobmdljelmgaa
open Go.RowKit Go.Deep
set_option linter.unusedVariables false
set_option maxRecDepth 100000
set_option linter.unusedSimpArgs false

/-- 1 for those that were known. -/
def kf (m q : Nat) : Nat := if q < m then 1 else 0
theorem sum_le {f g : Nat → Nat} : ∀ l : List Nat, (∀ x ∈ l, f x ≤ g x) → (l.map f).sum ≤ (l.map g).sum
  | [], _ => Nat.le_refl _
  | a :: r, h => by
    have h1 := sum_le r (fun x hx => h x (by simp [hx]))
    have h2 := h a (by simp)
    simp only [List.map_cons, List.sum_cons]
    omega
theorem vv_le {f g : Nat → Nat} (hfg : ∀ q, f q ≤ g q) {ns : List Nd} (hg : gdN ns) : ∀ q, q < ns.length → vv f ns q ≤ vv g ns q := by
  intro q
  induction q using Nat.strongRecOn with
  | ind q ih =>
    intro hq
    rw [vv_eq f hg hq, vv_eq g hg hq]
    have h1 := hfg q
    have h2 := sum_le (f := vv f ns) (g := vv g ns) (nd ns q).ks (fun c hc => by
      have h3 := hg q (nd ns q) (by rw [nd_eq hq]; exact List.getElem?_eq_getElem hq) c hc
      exact ih c h3 (by omega))
    omega
theorem kf_le (m q : Nat) : kf m q ≤ 1 := by unfold kf; split <;> omega
theorem isT_lt {t : Tr} {ns : List Nd} {q : Nat} (h : isT t ns q) : q < ns.length := by
  obtain ⟨n, x, l, k⟩ := t
  rw [isT_mk] at h
  obtain ⟨qs, h1, _⟩ := h
  exact (List.getElem?_eq_some_iff.1 h1).1
theorem vv_small {t : Tr} {ns : List Nd} {q m : Nat} (hg : gdN ns) (h : isT t ns q) : vv (kf m) ns q ≤ t.cnt := by
  rw [← vv_cnt t hg h]
  exact vv_le (kf_le m) hg q (isT_lt h)
end Go.Proofs.Ytofobmdljelmgaa
