/-
  NARROWER THAN 'FOR EVERY INPUT', by the rows' own cells (each row's printed sentence says how): FnExactTreeOK: loops · FnExactTreeSize: loops · FnExactTreeShow: loops · FnExactTreeYield: loops.
  DERIVED. THE GIVEN ROWS OF THIS SEAT. 5 by the template 'for every input the law returns true; each argument reads behind the call as it read before'; 0 by the template 'total and deterministic' (their statements: YthmdoplickpmaahTotals.lean).
  GIVEN WITH THE SEED: the statements are not yours to turn. If you find one false, say at which input.
  Laid BY PROGRAM, IN A SANDBOX (cutbox-rows.mjs): the forced cells as the released guide's own fill.sh prints them over the translation b8aef4737a7b2974… (all of the seat's roots in one cut). By AI agents, Wed Nov 11 2026. No macro, syntax, notation, axiom, sorry.
-/
import Derived.Test.YthmdoplickpmaahChecked
import GoSem.Claim
import GoSem.ClaimJoined
import GoSem.ClaimMapViews
import Derived.JoinedTies
import Derived.KernelRfl
namespace Go.Proofs.Ythmdoplickpmaah
/- THE CELL 'sum', in the pinned program and in every row, IS THE sha256 OF THE DUMP (.gsa) THAT YthmdoplickpmaahProg.lean LOADS. Nothing in Lean hashes anything: it is a label: what it is worth is what the hold of that sum in a sandbox is worth. -/
noncomputable def Try.pinned : Pinned := { name := "ythmdoplickpmaah", sum := "b8aef4737a7b2974982222f1692d58c368ca8f7a035e0e770fb58d31d0f3a398", checked := Try.checked }
namespace Rows
def none {H : Type} : Left H := { results := [], args := [] }

/-- 'laws.FnExactTreeOK': WHATEVER THE INPUT: true; the input reads as it did. -/
def fnExactTreeOKSpec : ChangeSpec := { name := "fnExactTreeOK", fn := fun _ => fun
  | [d] => { results := [.lit (.bool true)], args := [d] }
  | _ => none }
def fnExactTreeOKRow : OpenClaim := { program := "ythmdoplickpmaah", sum := "b8aef4737a7b2974982222f1692d58c368ca8f7a035e0e770fb58d31d0f3a398", func := "loop.example/g00037/laws.FnExactTreeOK", spec := "fnExactTreeOK", unfollowed := true, recurses := true, loops := true, apart := false }
def FnExactTreeOKSaid : Prop := fnExactTreeOKRow.holds Try.pinned (OpenSpec.ofChange fnExactTreeOKSpec)

/-- ITS FALSE NEIGHBOUR: 'it returns false'. Refute it at one input. -/
def fnExactTreeOKWrong : ChangeSpec := { name := "fnExactTreeOK", fn := fun _ => fun
  | [d] => { results := [.lit (.bool false)], args := [d] }
  | _ => none }
def FnExactTreeOKWrongFalsely : Prop := fnExactTreeOKRow.holds Try.pinned (OpenSpec.ofChange fnExactTreeOKWrong)

/-- 'laws.FnExactTreeSize': WHATEVER THE INPUT: true; the input reads as it did. -/
def fnExactTreeSizeSpec : ChangeSpec := { name := "fnExactTreeSize", fn := fun _ => fun
  | [d] => { results := [.lit (.bool true)], args := [d] }
  | _ => none }
def fnExactTreeSizeRow : OpenClaim := { program := "ythmdoplickpmaah", sum := "b8aef4737a7b2974982222f1692d58c368ca8f7a035e0e770fb58d31d0f3a398", func := "loop.example/g00037/laws.FnExactTreeSize", spec := "fnExactTreeSize", unfollowed := true, recurses := true, loops := true, apart := false }
def FnExactTreeSizeSaid : Prop := fnExactTreeSizeRow.holds Try.pinned (OpenSpec.ofChange fnExactTreeSizeSpec)

/-- ITS FALSE NEIGHBOUR: 'it returns false'. Refute it at one input. -/
def fnExactTreeSizeWrong : ChangeSpec := { name := "fnExactTreeSize", fn := fun _ => fun
  | [d] => { results := [.lit (.bool false)], args := [d] }
  | _ => none }
def FnExactTreeSizeWrongFalsely : Prop := fnExactTreeSizeRow.holds Try.pinned (OpenSpec.ofChange fnExactTreeSizeWrong)

/-- 'laws.FnExactTreeShow': WHATEVER THE INPUT: true; the input reads as it did. -/
def fnExactTreeShowSpec : ChangeSpec := { name := "fnExactTreeShow", fn := fun _ => fun
  | [d] => { results := [.lit (.bool true)], args := [d] }
  | _ => none }
def fnExactTreeShowRow : OpenClaim := { program := "ythmdoplickpmaah", sum := "b8aef4737a7b2974982222f1692d58c368ca8f7a035e0e770fb58d31d0f3a398", func := "loop.example/g00037/laws.FnExactTreeShow", spec := "fnExactTreeShow", unfollowed := true, recurses := true, loops := true, apart := false }
def FnExactTreeShowSaid : Prop := fnExactTreeShowRow.holds Try.pinned (OpenSpec.ofChange fnExactTreeShowSpec)

/-- ITS FALSE NEIGHBOUR: 'it returns false'. Refute it at one input. -/
def fnExactTreeShowWrong : ChangeSpec := { name := "fnExactTreeShow", fn := fun _ => fun
  | [d] => { results := [.lit (.bool false)], args := [d] }
  | _ => none }
def FnExactTreeShowWrongFalsely : Prop := fnExactTreeShowRow.holds Try.pinned (OpenSpec.ofChange fnExactTreeShowWrong)

/-- 'laws.FnExactTreeRead': WHATEVER THE INPUT: true; the input reads as it did. -/
def fnExactTreeReadSpec : ChangeSpec := { name := "fnExactTreeRead", fn := fun _ => fun
  | [d] => { results := [.lit (.bool true)], args := [d] }
  | _ => none }
def fnExactTreeReadRow : OpenClaim := { program := "ythmdoplickpmaah", sum := "b8aef4737a7b2974982222f1692d58c368ca8f7a035e0e770fb58d31d0f3a398", func := "loop.example/g00037/laws.FnExactTreeRead", spec := "fnExactTreeRead", unfollowed := true, recurses := true, apart := false }
def FnExactTreeReadSaid : Prop := fnExactTreeReadRow.holds Try.pinned (OpenSpec.ofChange fnExactTreeReadSpec)

/-- ITS FALSE NEIGHBOUR: 'it returns false'. Refute it at one input. -/
def fnExactTreeReadWrong : ChangeSpec := { name := "fnExactTreeRead", fn := fun _ => fun
  | [d] => { results := [.lit (.bool false)], args := [d] }
  | _ => none }
def FnExactTreeReadWrongFalsely : Prop := fnExactTreeReadRow.holds Try.pinned (OpenSpec.ofChange fnExactTreeReadWrong)

/-- 'laws.FnExactTreeYield': WHATEVER THE INPUT: true; the input reads as it did. -/
def fnExactTreeYieldSpec : ChangeSpec := { name := "fnExactTreeYield", fn := fun _ => fun
  | [d] => { results := [.lit (.bool true)], args := [d] }
  | _ => none }
def fnExactTreeYieldRow : OpenClaim := { program := "ythmdoplickpmaah", sum := "b8aef4737a7b2974982222f1692d58c368ca8f7a035e0e770fb58d31d0f3a398", func := "loop.example/g00037/laws.FnExactTreeYield", spec := "fnExactTreeYield", unfollowed := true, recurses := true, loops := true, apart := false }
def FnExactTreeYieldSaid : Prop := fnExactTreeYieldRow.holds Try.pinned (OpenSpec.ofChange fnExactTreeYieldSpec)

/-- ITS FALSE NEIGHBOUR: 'it returns false'. Refute it at one input. -/
def fnExactTreeYieldWrong : ChangeSpec := { name := "fnExactTreeYield", fn := fun _ => fun
  | [d] => { results := [.lit (.bool false)], args := [d] }
  | _ => none }
def FnExactTreeYieldWrongFalsely : Prop := fnExactTreeYieldRow.holds Try.pinned (OpenSpec.ofChange fnExactTreeYieldWrong)

/- THE SECOND FORM. 'bulk': how many values and letters a reading holds, each counted each time it is reached (what is shared counts as often as it is met; a slice's spare places count too). A statement '..UptoSaid' is the law's where the arguments, and the package variables that the reading takes, are together of bulk at most 1048576: NARROWER than '..Said'. Prove '..Said' where nothing that the law and all that it calls make is longer than what came in: it says more and counts as full. Else prove '..UptoSaid'. A law counts once. -/
mutual
def uptoBulk {H : Type} : DataW H → Nat
  | .lit (.string bytes) => bytes.length + 1
  | .lit _ => 1
  | .nil => 1
  | .ptr d => uptoBulk d + 1
  | .slice elems spare => uptoBulkAll elems + uptoBulkAll spare + 1
  | .agg parts => uptoBulkAll parts + 1
  | .iface _ d => uptoBulk d + 1
  | .map entries => uptoBulkEntries entries + 1
  | .held _ => 1
def uptoBulkAll {H : Type} : List (DataW H) → Nat
  | [] => 0
  | d :: r => uptoBulk d + uptoBulkAll r
def uptoBulkEntries {H : Type} : List (Lit × DataW H) → Nat
  | [] => 0
  | x :: r => uptoBulkEntry x + uptoBulkEntries r
def uptoBulkEntry {H : Type} : Lit × DataW H → Nat
  | (.string bytes, d) => bytes.length + uptoBulk d + 1
  | (_, d) => uptoBulk d + 1
 end
def uptoSmall : (H : Type) → List (DataW H) → Bool := fun _ ds => decide (uptoBulkAll ds ≤ 1048576)
def OpenSpec.upto (s : _root_.Go.ChangeSpec) : _root_.Go.OpenSpec := { _root_.Go.OpenSpec.ofChange s with cond := some uptoSmall }

/-- 'laws.FnExactTreeOK', WHERE WHAT IT READS IS OF BULK AT MOST 1048576: true; the input reads as it did. -/
def fnExactTreeOKUptoRow : OpenClaim := { program := "ythmdoplickpmaah", sum := "b8aef4737a7b2974982222f1692d58c368ca8f7a035e0e770fb58d31d0f3a398", func := "loop.example/g00037/laws.FnExactTreeOK", spec := "fnExactTreeOK", unfollowed := true, recurses := true, loops := true, apart := false, narrowed := true }
def FnExactTreeOKUptoSaid : Prop := fnExactTreeOKUptoRow.holds Try.pinned (OpenSpec.upto fnExactTreeOKSpec)

/-- 'laws.FnExactTreeSize', WHERE WHAT IT READS IS OF BULK AT MOST 1048576: true; the input reads as it did. -/
def fnExactTreeSizeUptoRow : OpenClaim := { program := "ythmdoplickpmaah", sum := "b8aef4737a7b2974982222f1692d58c368ca8f7a035e0e770fb58d31d0f3a398", func := "loop.example/g00037/laws.FnExactTreeSize", spec := "fnExactTreeSize", unfollowed := true, recurses := true, loops := true, apart := false, narrowed := true }
def FnExactTreeSizeUptoSaid : Prop := fnExactTreeSizeUptoRow.holds Try.pinned (OpenSpec.upto fnExactTreeSizeSpec)

/-- 'laws.FnExactTreeShow', WHERE WHAT IT READS IS OF BULK AT MOST 1048576: true; the input reads as it did. -/
def fnExactTreeShowUptoRow : OpenClaim := { program := "ythmdoplickpmaah", sum := "b8aef4737a7b2974982222f1692d58c368ca8f7a035e0e770fb58d31d0f3a398", func := "loop.example/g00037/laws.FnExactTreeShow", spec := "fnExactTreeShow", unfollowed := true, recurses := true, loops := true, apart := false, narrowed := true }
def FnExactTreeShowUptoSaid : Prop := fnExactTreeShowUptoRow.holds Try.pinned (OpenSpec.upto fnExactTreeShowSpec)

/-- 'laws.FnExactTreeRead', WHERE WHAT IT READS IS OF BULK AT MOST 1048576: true; the input reads as it did. -/
def fnExactTreeReadUptoRow : OpenClaim := { program := "ythmdoplickpmaah", sum := "b8aef4737a7b2974982222f1692d58c368ca8f7a035e0e770fb58d31d0f3a398", func := "loop.example/g00037/laws.FnExactTreeRead", spec := "fnExactTreeRead", unfollowed := true, recurses := true, apart := false, narrowed := true }
def FnExactTreeReadUptoSaid : Prop := fnExactTreeReadUptoRow.holds Try.pinned (OpenSpec.upto fnExactTreeReadSpec)

/-- 'laws.FnExactTreeYield', WHERE WHAT IT READS IS OF BULK AT MOST 1048576: true; the input reads as it did. -/
def fnExactTreeYieldUptoRow : OpenClaim := { program := "ythmdoplickpmaah", sum := "b8aef4737a7b2974982222f1692d58c368ca8f7a035e0e770fb58d31d0f3a398", func := "loop.example/g00037/laws.FnExactTreeYield", spec := "fnExactTreeYield", unfollowed := true, recurses := true, loops := true, apart := false, narrowed := true }
def FnExactTreeYieldUptoSaid : Prop := fnExactTreeYieldUptoRow.holds Try.pinned (OpenSpec.upto fnExactTreeYieldSpec)

end Rows
end Go.Proofs.Ythmdoplickpmaah
