/-
  No cell of these rows narrows 'for every input' (looked for: loops, veiled, ifaces, maps, wideKeys, modest, calm, conditions, laid).
  DERIVED. THE GIVEN ROWS OF THIS SEAT. 2 by the template 'for every input the law returns true; each argument reads behind the call as it read before'; 0 by the template 'total and deterministic' (their statements: YtkgoedclacfadaaTotals.lean).
  GIVEN WITH THE SEED: the statements are not yours to turn. If you find one false, say at which input.
  Laid BY PROGRAM, IN A SANDBOX (cutbox-rows.mjs): the forced cells as the released guide's own fill.sh prints them over the translation a0554a9a7ce009f0… (all of the seat's roots in one cut). By AI agents, Wed Nov 11 2026. No macro, syntax, notation, axiom, sorry.
-/
import Derived.Test.YtkgoedclacfadaaChecked
import GoSem.Claim
import GoSem.ClaimJoined
import GoSem.ClaimMapViews
import Derived.JoinedTies
import Derived.KernelRfl
namespace Go.Proofs.Ytkgoedclacfadaa
/- THE CELL 'sum', in the pinned program and in every row, IS THE sha256 OF THE DUMP (.gsa) THAT YtkgoedclacfadaaProg.lean LOADS. Nothing in Lean hashes anything: it is a label: what it is worth is what the hold of that sum in a sandbox is worth. -/
noncomputable def Try.pinned : Pinned := { name := "ytkgoedclacfadaa", sum := "a0554a9a7ce009f0e5f7bf30ca83e0c7347924ae6c01749fca11c42149ecf6a3", checked := Try.checked }
namespace Rows
def none {H : Type} : Left H := { results := [], args := [] }

/-- 'laws.FnExactMoveEdit': WHATEVER THE INPUT: true; the input reads as it did. -/
def fnExactMoveEditSpec : ChangeSpec := { name := "fnExactMoveEdit", fn := fun _ => fun
  | [d1, d2] => { results := [.lit (.bool true)], args := [d1, d2] }
  | _ => none }
def fnExactMoveEditRow : OpenClaim := { program := "ytkgoedclacfadaa", sum := "a0554a9a7ce009f0e5f7bf30ca83e0c7347924ae6c01749fca11c42149ecf6a3", func := "loop.example/g00037/laws.FnExactMoveEdit", spec := "fnExactMoveEdit", apart := false }
def FnExactMoveEditSaid : Prop := fnExactMoveEditRow.holds Try.pinned (OpenSpec.ofChange fnExactMoveEditSpec)

/-- ITS FALSE NEIGHBOUR: 'it returns false'. Refute it at one input. -/
def fnExactMoveEditWrong : ChangeSpec := { name := "fnExactMoveEdit", fn := fun _ => fun
  | [d1, d2] => { results := [.lit (.bool false)], args := [d1, d2] }
  | _ => none }
def FnExactMoveEditWrongFalsely : Prop := fnExactMoveEditRow.holds Try.pinned (OpenSpec.ofChange fnExactMoveEditWrong)

/-- 'laws.FnExactBackEdit': WHATEVER THE INPUT: true; the input reads as it did. -/
def fnExactBackEditSpec : ChangeSpec := { name := "fnExactBackEdit", fn := fun _ => fun
  | [d1, d2] => { results := [.lit (.bool true)], args := [d1, d2] }
  | _ => none }
def fnExactBackEditRow : OpenClaim := { program := "ytkgoedclacfadaa", sum := "a0554a9a7ce009f0e5f7bf30ca83e0c7347924ae6c01749fca11c42149ecf6a3", func := "loop.example/g00037/laws.FnExactBackEdit", spec := "fnExactBackEdit", apart := false }
def FnExactBackEditSaid : Prop := fnExactBackEditRow.holds Try.pinned (OpenSpec.ofChange fnExactBackEditSpec)

/-- ITS FALSE NEIGHBOUR: 'it returns false'. Refute it at one input. -/
def fnExactBackEditWrong : ChangeSpec := { name := "fnExactBackEdit", fn := fun _ => fun
  | [d1, d2] => { results := [.lit (.bool false)], args := [d1, d2] }
  | _ => none }
def FnExactBackEditWrongFalsely : Prop := fnExactBackEditRow.holds Try.pinned (OpenSpec.ofChange fnExactBackEditWrong)

/- THE SECOND FORM. 'bulk': how many values and letters a reading holds, each counted each time it is reached (what is shared counts as often as it is met; a slice's spare places count too). A statement '..UptoSaid' is the law's where the arguments, and the package variables that the reading takes, are together of bulk at most 1048576: NARROWER than '..Said'. Prove '..Said' where nothing that the law and all that it calls make is longer than what came in: it says more and counts as full. Else prove '..UptoSaid'. A law counts once. -/
mutual
def uptoBulk {H : Type} : DataW H → Nat
  | .lit (.string bytes) => bytes.length + 1
  | .lit _ => 1
  | .nil => 1
  | .ptr d => uptoBulk d + 1
  | .slice elems spare => uptoBulkAll elems + uptoBulkAll spare + 1
  | .agg parts => uptoBulkAll parts + 1
  | .iface _ d => uptoBulk d + 1
  | .map entries => uptoBulkEntries entries + 1
  | .held _ => 1
def uptoBulkAll {H : Type} : List (DataW H) → Nat
  | [] => 0
  | d :: r => uptoBulk d + uptoBulkAll r
def uptoBulkEntries {H : Type} : List (Lit × DataW H) → Nat
  | [] => 0
  | x :: r => uptoBulkEntry x + uptoBulkEntries r
def uptoBulkEntry {H : Type} : Lit × DataW H → Nat
  | (.string bytes, d) => bytes.length + uptoBulk d + 1
  | (_, d) => uptoBulk d + 1
 end
def uptoSmall : (H : Type) → List (DataW H) → Bool := fun _ ds => decide (uptoBulkAll ds ≤ 1048576)
def OpenSpec.upto (s : _root_.Go.ChangeSpec) : _root_.Go.OpenSpec := { _root_.Go.OpenSpec.ofChange s with cond := some uptoSmall }

/-- 'laws.FnExactMoveEdit', WHERE WHAT IT READS IS OF BULK AT MOST 1048576: true; the input reads as it did. -/
def fnExactMoveEditUptoRow : OpenClaim := { program := "ytkgoedclacfadaa", sum := "a0554a9a7ce009f0e5f7bf30ca83e0c7347924ae6c01749fca11c42149ecf6a3", func := "loop.example/g00037/laws.FnExactMoveEdit", spec := "fnExactMoveEdit", apart := false, narrowed := true }
def FnExactMoveEditUptoSaid : Prop := fnExactMoveEditUptoRow.holds Try.pinned (OpenSpec.upto fnExactMoveEditSpec)

/-- 'laws.FnExactBackEdit', WHERE WHAT IT READS IS OF BULK AT MOST 1048576: true; the input reads as it did. -/
def fnExactBackEditUptoRow : OpenClaim := { program := "ytkgoedclacfadaa", sum := "a0554a9a7ce009f0e5f7bf30ca83e0c7347924ae6c01749fca11c42149ecf6a3", func := "loop.example/g00037/laws.FnExactBackEdit", spec := "fnExactBackEdit", apart := false, narrowed := true }
def FnExactBackEditUptoSaid : Prop := fnExactBackEditUptoRow.holds Try.pinned (OpenSpec.upto fnExactBackEditSpec)

end Rows
end Go.Proofs.Ytkgoedclacfadaa
