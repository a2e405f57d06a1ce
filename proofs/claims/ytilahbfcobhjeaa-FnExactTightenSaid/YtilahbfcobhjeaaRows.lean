/-
  No cell of these rows narrows 'for every input' (looked for: loops, veiled, ifaces, maps, wideKeys, modest, calm, conditions, laid).
  DERIVED. THE GIVEN ROWS OF THIS SEAT. 5 by the template 'for every input the law returns true; each argument reads behind the call as it read before'; 0 by the template 'total and deterministic' (their statements: YtilahbfcobhjeaaTotals.lean).
  GIVEN WITH THE SEED: the statements are not yours to turn. If you find one false, say at which input.
  Laid BY PROGRAM, IN A SANDBOX (cutbox-rows.mjs): the forced cells as the released guide's own fill.sh prints them over the translation a8e049474099fb94… (all of the seat's roots in one cut). By AI agents, Wed Nov 11 2026. No macro, syntax, notation, axiom, sorry.
-/
import Derived.Test.YtilahbfcobhjeaaChecked
import GoSem.Claim
import GoSem.ClaimJoined
import GoSem.ClaimMapViews
import Derived.JoinedTies
import Derived.KernelRfl
namespace Go.Proofs.Ytilahbfcobhjeaa
/- THE CELL 'sum', in the pinned program and in every row, IS THE sha256 OF THE DUMP (.gsa) THAT YtilahbfcobhjeaaProg.lean LOADS. Nothing in Lean hashes anything: it is a label: what it is worth is what the hold of that sum in a sandbox is worth. -/
noncomputable def Try.pinned : Pinned := { name := "ytilahbfcobhjeaa", sum := "a8e049474099fb9407a5ee729c4c85de37410c28647f8925f4f8450ca6015136", checked := Try.checked }
namespace Rows
def none {H : Type} : Left H := { results := [], args := [] }

/-- 'laws.FnExactProgramOK': WHATEVER THE INPUT: true; the input reads as it did. -/
def fnExactProgramOKSpec : ChangeSpec := { name := "fnExactProgramOK", fn := fun _ => fun
  | [d] => { results := [.lit (.bool true)], args := [d] }
  | _ => none }
def fnExactProgramOKRow : OpenClaim := { program := "ytilahbfcobhjeaa", sum := "a8e049474099fb9407a5ee729c4c85de37410c28647f8925f4f8450ca6015136", func := "loop.example/g00037/laws.FnExactProgramOK", spec := "fnExactProgramOK", unfollowed := true, recurses := true, apart := false }
def FnExactProgramOKSaid : Prop := fnExactProgramOKRow.holds Try.pinned (OpenSpec.ofChange fnExactProgramOKSpec)

/-- ITS FALSE NEIGHBOUR: 'it returns false'. Refute it at one input. -/
def fnExactProgramOKWrong : ChangeSpec := { name := "fnExactProgramOK", fn := fun _ => fun
  | [d] => { results := [.lit (.bool false)], args := [d] }
  | _ => none }
def FnExactProgramOKWrongFalsely : Prop := fnExactProgramOKRow.holds Try.pinned (OpenSpec.ofChange fnExactProgramOKWrong)

/-- 'laws.FnExactRunProgram': WHATEVER THE INPUT: true; the input reads as it did. -/
def fnExactRunProgramSpec : ChangeSpec := { name := "fnExactRunProgram", fn := fun _ => fun
  | [d1, d2, d3] => { results := [.lit (.bool true)], args := [d1, d2, d3] }
  | _ => none }
def fnExactRunProgramRow : OpenClaim := { program := "ytilahbfcobhjeaa", sum := "a8e049474099fb9407a5ee729c4c85de37410c28647f8925f4f8450ca6015136", func := "loop.example/g00037/laws.FnExactRunProgram", spec := "fnExactRunProgram", unfollowed := true, recurses := true, apart := false }
def FnExactRunProgramSaid : Prop := fnExactRunProgramRow.holds Try.pinned (OpenSpec.ofChange fnExactRunProgramSpec)

/-- ITS FALSE NEIGHBOUR: 'it returns false'. Refute it at one input. -/
def fnExactRunProgramWrong : ChangeSpec := { name := "fnExactRunProgram", fn := fun _ => fun
  | [d1, d2, d3] => { results := [.lit (.bool false)], args := [d1, d2, d3] }
  | _ => none }
def FnExactRunProgramWrongFalsely : Prop := fnExactRunProgramRow.holds Try.pinned (OpenSpec.ofChange fnExactRunProgramWrong)

/-- 'laws.FnExactUpwards': WHATEVER THE INPUT: true; the input reads as it did. -/
def fnExactUpwardsSpec : ChangeSpec := { name := "fnExactUpwards", fn := fun _ => fun
  | [d1, d2, d3] => { results := [.lit (.bool true)], args := [d1, d2, d3] }
  | _ => none }
def fnExactUpwardsRow : OpenClaim := { program := "ytilahbfcobhjeaa", sum := "a8e049474099fb9407a5ee729c4c85de37410c28647f8925f4f8450ca6015136", func := "loop.example/g00037/laws.FnExactUpwards", spec := "fnExactUpwards", unfollowed := true, recurses := true, apart := false }
def FnExactUpwardsSaid : Prop := fnExactUpwardsRow.holds Try.pinned (OpenSpec.ofChange fnExactUpwardsSpec)

/-- ITS FALSE NEIGHBOUR: 'it returns false'. Refute it at one input. -/
def fnExactUpwardsWrong : ChangeSpec := { name := "fnExactUpwards", fn := fun _ => fun
  | [d1, d2, d3] => { results := [.lit (.bool false)], args := [d1, d2, d3] }
  | _ => none }
def FnExactUpwardsWrongFalsely : Prop := fnExactUpwardsRow.holds Try.pinned (OpenSpec.ofChange fnExactUpwardsWrong)

/-- 'laws.FnExactDownwards': WHATEVER THE INPUT: true; the input reads as it did. -/
def fnExactDownwardsSpec : ChangeSpec := { name := "fnExactDownwards", fn := fun _ => fun
  | [d1, d2, d3] => { results := [.lit (.bool true)], args := [d1, d2, d3] }
  | _ => none }
def fnExactDownwardsRow : OpenClaim := { program := "ytilahbfcobhjeaa", sum := "a8e049474099fb9407a5ee729c4c85de37410c28647f8925f4f8450ca6015136", func := "loop.example/g00037/laws.FnExactDownwards", spec := "fnExactDownwards", unfollowed := true, recurses := true, apart := false }
def FnExactDownwardsSaid : Prop := fnExactDownwardsRow.holds Try.pinned (OpenSpec.ofChange fnExactDownwardsSpec)

/-- ITS FALSE NEIGHBOUR: 'it returns false'. Refute it at one input. -/
def fnExactDownwardsWrong : ChangeSpec := { name := "fnExactDownwards", fn := fun _ => fun
  | [d1, d2, d3] => { results := [.lit (.bool false)], args := [d1, d2, d3] }
  | _ => none }
def FnExactDownwardsWrongFalsely : Prop := fnExactDownwardsRow.holds Try.pinned (OpenSpec.ofChange fnExactDownwardsWrong)

/-- 'laws.FnExactTighten': WHATEVER THE INPUT: true; the input reads as it did. -/
def fnExactTightenSpec : ChangeSpec := { name := "fnExactTighten", fn := fun _ => fun
  | [d] => { results := [.lit (.bool true)], args := [d] }
  | _ => none }
def fnExactTightenRow : OpenClaim := { program := "ytilahbfcobhjeaa", sum := "a8e049474099fb9407a5ee729c4c85de37410c28647f8925f4f8450ca6015136", func := "loop.example/g00037/laws.FnExactTighten", spec := "fnExactTighten", unfollowed := true, recurses := true, apart := false }
def FnExactTightenSaid : Prop := fnExactTightenRow.holds Try.pinned (OpenSpec.ofChange fnExactTightenSpec)

/-- ITS FALSE NEIGHBOUR: 'it returns false'. Refute it at one input. -/
def fnExactTightenWrong : ChangeSpec := { name := "fnExactTighten", fn := fun _ => fun
  | [d] => { results := [.lit (.bool false)], args := [d] }
  | _ => none }
def FnExactTightenWrongFalsely : Prop := fnExactTightenRow.holds Try.pinned (OpenSpec.ofChange fnExactTightenWrong)

/- THE SECOND FORM. 'bulk': how many values and letters a reading holds, each counted each time it is reached (what is shared counts as often as it is met; a slice's spare places count too). A statement '..UptoSaid' is the law's where the arguments, and the package variables that the reading takes, are together of bulk at most 1048576: NARROWER than '..Said'. Prove '..Said' where nothing that the law and all that it calls make is longer than what came in: it says more and counts as full. Else prove '..UptoSaid'. A law counts once. -/
mutual
def uptoBulk {H : Type} : DataW H → Nat
  | .lit (.string bytes) => bytes.length + 1
  | .lit _ => 1
  | .nil => 1
  | .ptr d => uptoBulk d + 1
  | .slice elems spare => uptoBulkAll elems + uptoBulkAll spare + 1
  | .agg parts => uptoBulkAll parts + 1
  | .iface _ d => uptoBulk d + 1
  | .map entries => uptoBulkEntries entries + 1
  | .held _ => 1
def uptoBulkAll {H : Type} : List (DataW H) → Nat
  | [] => 0
  | d :: r => uptoBulk d + uptoBulkAll r
def uptoBulkEntries {H : Type} : List (Lit × DataW H) → Nat
  | [] => 0
  | x :: r => uptoBulkEntry x + uptoBulkEntries r
def uptoBulkEntry {H : Type} : Lit × DataW H → Nat
  | (.string bytes, d) => bytes.length + uptoBulk d + 1
  | (_, d) => uptoBulk d + 1
 end
def uptoSmall : (H : Type) → List (DataW H) → Bool := fun _ ds => decide (uptoBulkAll ds ≤ 1048576)
def OpenSpec.upto (s : _root_.Go.ChangeSpec) : _root_.Go.OpenSpec := { _root_.Go.OpenSpec.ofChange s with cond := some uptoSmall }

/-- 'laws.FnExactProgramOK', WHERE WHAT IT READS IS OF BULK AT MOST 1048576: true; the input reads as it did. -/
def fnExactProgramOKUptoRow : OpenClaim := { program := "ytilahbfcobhjeaa", sum := "a8e049474099fb9407a5ee729c4c85de37410c28647f8925f4f8450ca6015136", func := "loop.example/g00037/laws.FnExactProgramOK", spec := "fnExactProgramOK", unfollowed := true, recurses := true, apart := false, narrowed := true }
def FnExactProgramOKUptoSaid : Prop := fnExactProgramOKUptoRow.holds Try.pinned (OpenSpec.upto fnExactProgramOKSpec)

/-- 'laws.FnExactRunProgram', WHERE WHAT IT READS IS OF BULK AT MOST 1048576: true; the input reads as it did. -/
def fnExactRunProgramUptoRow : OpenClaim := { program := "ytilahbfcobhjeaa", sum := "a8e049474099fb9407a5ee729c4c85de37410c28647f8925f4f8450ca6015136", func := "loop.example/g00037/laws.FnExactRunProgram", spec := "fnExactRunProgram", unfollowed := true, recurses := true, apart := false, narrowed := true }
def FnExactRunProgramUptoSaid : Prop := fnExactRunProgramUptoRow.holds Try.pinned (OpenSpec.upto fnExactRunProgramSpec)

/-- 'laws.FnExactUpwards', WHERE WHAT IT READS IS OF BULK AT MOST 1048576: true; the input reads as it did. -/
def fnExactUpwardsUptoRow : OpenClaim := { program := "ytilahbfcobhjeaa", sum := "a8e049474099fb9407a5ee729c4c85de37410c28647f8925f4f8450ca6015136", func := "loop.example/g00037/laws.FnExactUpwards", spec := "fnExactUpwards", unfollowed := true, recurses := true, apart := false, narrowed := true }
def FnExactUpwardsUptoSaid : Prop := fnExactUpwardsUptoRow.holds Try.pinned (OpenSpec.upto fnExactUpwardsSpec)

/-- 'laws.FnExactDownwards', WHERE WHAT IT READS IS OF BULK AT MOST 1048576: true; the input reads as it did. -/
def fnExactDownwardsUptoRow : OpenClaim := { program := "ytilahbfcobhjeaa", sum := "a8e049474099fb9407a5ee729c4c85de37410c28647f8925f4f8450ca6015136", func := "loop.example/g00037/laws.FnExactDownwards", spec := "fnExactDownwards", unfollowed := true, recurses := true, apart := false, narrowed := true }
def FnExactDownwardsUptoSaid : Prop := fnExactDownwardsUptoRow.holds Try.pinned (OpenSpec.upto fnExactDownwardsSpec)

/-- 'laws.FnExactTighten', WHERE WHAT IT READS IS OF BULK AT MOST 1048576: true; the input reads as it did. -/
def fnExactTightenUptoRow : OpenClaim := { program := "ytilahbfcobhjeaa", sum := "a8e049474099fb9407a5ee729c4c85de37410c28647f8925f4f8450ca6015136", func := "loop.example/g00037/laws.FnExactTighten", spec := "fnExactTighten", unfollowed := true, recurses := true, apart := false, narrowed := true }
def FnExactTightenUptoSaid : Prop := fnExactTightenUptoRow.holds Try.pinned (OpenSpec.upto fnExactTightenSpec)

end Rows
end Go.Proofs.Ytilahbfcobhjeaa
