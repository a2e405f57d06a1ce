import Derived.Test.YtnmdgbnbnpibhaaBj
import Derived.BigQuiet
import Derived.Deep.QuietTactic
/-! The specification: AgOK, whole. -/
namespace Go.Proofs.Ytnmdgbnbnpibhaa
open Go.RowKit Go.Deep
set_option linter.unusedVariables false
set_option maxRecDepth 100000
set_option linter.unusedSimpArgs false

theorem sAg {S S' : Nat → Prop} (d : Bn) (g : DAg) (v0 v1 v3 u0 u1 : Value) (w : World) (h : BLies w S d v0 v1 v3) (hg : DAgL w S' g u0 u1) :
    Calls Try.prog 6 #[.agg #[v0, v1, .int .i64 d.own, v3], .agg #[u0, u1]] w fun e w' => e = .returned (.bool (agB d g)) ∧ Below w.heap.size w w' := by
  by_cases h1 : bnB d = true ∧ g.attrs.length ≤ 20 ∧ g.eqs.length ≤ 300
  · obtain ⟨hb, hA, hE⟩ := h1
    by_cases h2 : ∀ i, i < g.attrs.length → attB d g i = true
    · by_cases h3 : ∀ i (hi : i < g.eqs.length), eqB d g g.eqs[i] = true
      · exact ag6_onc d g v0 v1 v3 u0 u1 w h hg hb hA hE h2 h3
      · exact ag6_eq d g v0 v1 v3 u0 u1 w h hg hb hA hE h2 h3
    · exact ag6_att d g v0 v1 v3 u0 u1 w h hg hb hA hE h2
  · exact ag6_few d g v0 v1 v3 u0 u1 w h hg h1
end Go.Proofs.Ytnmdgbnbnpibhaa
