/-
  NARROWER THAN 'FOR EVERY INPUT', by the rows' own cells (each row's printed sentence says how): FnExactShare: loops · FnExactSharedWith: loops · FnExactDiff: loops · FnExactPatch: loops · FnExactMerge: loops.
  DERIVED. THE GIVEN ROWS OF THIS SEAT. 6 by the template 'for every input the law returns true; each argument reads behind the call as it read before'; 0 by the template 'total and deterministic' (their statements: YtblfeifedcddnaaTotals.lean).
  GIVEN WITH THE SEED: the statements are not yours to turn. If you find one false, say at which input.
  Laid BY PROGRAM, IN A SANDBOX (cutbox-rows.mjs): the forced cells as the released guide's own fill.sh prints them over the translation 11464dbb551f4cae… (all of the seat's roots in one cut). By AI agents, Wed Nov 11 2026. No macro, syntax, notation, axiom, sorry.
-/
import Derived.Test.YtblfeifedcddnaaChecked
import GoSem.Claim
import GoSem.ClaimJoined
import GoSem.ClaimMapViews
import Derived.JoinedTies
import Derived.KernelRfl
namespace Go.Proofs.Ytblfeifedcddnaa
/- THE CELL 'sum', in the pinned program and in every row, IS THE sha256 OF THE DUMP (.gsa) THAT YtblfeifedcddnaaProg.lean LOADS. Nothing in Lean hashes anything: it is a label: what it is worth is what the hold of that sum in a sandbox is worth. -/
noncomputable def Try.pinned : Pinned := { name := "ytblfeifedcddnaa", sum := "11464dbb551f4cae85f5a8598ea15fd14744e4e045d0ec02da8ac8430ee6ee30", checked := Try.checked }
namespace Rows
def none {H : Type} : Left H := { results := [], args := [] }

/-- 'laws.FnExactShare': WHATEVER THE INPUT: true; the input reads as it did. -/
def fnExactShareSpec : ChangeSpec := { name := "fnExactShare", fn := fun _ => fun
  | [d] => { results := [.lit (.bool true)], args := [d] }
  | _ => none }
def fnExactShareRow : OpenClaim := { program := "ytblfeifedcddnaa", sum := "11464dbb551f4cae85f5a8598ea15fd14744e4e045d0ec02da8ac8430ee6ee30", func := "loop.example/g00037/laws.FnExactShare", spec := "fnExactShare", unfollowed := true, recurses := true, loops := true, plainKeys := false, apart := false }
def FnExactShareSaid : Prop := fnExactShareRow.holds Try.pinned (OpenSpec.ofChange fnExactShareSpec)

/-- ITS FALSE NEIGHBOUR: 'it returns false'. Refute it at one input. -/
def fnExactShareWrong : ChangeSpec := { name := "fnExactShare", fn := fun _ => fun
  | [d] => { results := [.lit (.bool false)], args := [d] }
  | _ => none }
def FnExactShareWrongFalsely : Prop := fnExactShareRow.holds Try.pinned (OpenSpec.ofChange fnExactShareWrong)

/-- 'laws.FnExactUnshare': WHATEVER THE INPUT: true; the input reads as it did. -/
def fnExactUnshareSpec : ChangeSpec := { name := "fnExactUnshare", fn := fun _ => fun
  | [d] => { results := [.lit (.bool true)], args := [d] }
  | _ => none }
def fnExactUnshareRow : OpenClaim := { program := "ytblfeifedcddnaa", sum := "11464dbb551f4cae85f5a8598ea15fd14744e4e045d0ec02da8ac8430ee6ee30", func := "loop.example/g00037/laws.FnExactUnshare", spec := "fnExactUnshare", unfollowed := true, recurses := true, plainKeys := false, apart := false }
def FnExactUnshareSaid : Prop := fnExactUnshareRow.holds Try.pinned (OpenSpec.ofChange fnExactUnshareSpec)

/-- ITS FALSE NEIGHBOUR: 'it returns false'. Refute it at one input. -/
def fnExactUnshareWrong : ChangeSpec := { name := "fnExactUnshare", fn := fun _ => fun
  | [d] => { results := [.lit (.bool false)], args := [d] }
  | _ => none }
def FnExactUnshareWrongFalsely : Prop := fnExactUnshareRow.holds Try.pinned (OpenSpec.ofChange fnExactUnshareWrong)

/-- 'laws.FnExactSharedWith': WHATEVER THE INPUT: true; the input reads as it did. -/
def fnExactSharedWithSpec : ChangeSpec := { name := "fnExactSharedWith", fn := fun _ => fun
  | [d1, d2] => { results := [.lit (.bool true)], args := [d1, d2] }
  | _ => none }
def fnExactSharedWithRow : OpenClaim := { program := "ytblfeifedcddnaa", sum := "11464dbb551f4cae85f5a8598ea15fd14744e4e045d0ec02da8ac8430ee6ee30", func := "loop.example/g00037/laws.FnExactSharedWith", spec := "fnExactSharedWith", unfollowed := true, recurses := true, loops := true, plainKeys := false, apart := false }
def FnExactSharedWithSaid : Prop := fnExactSharedWithRow.holds Try.pinned (OpenSpec.ofChange fnExactSharedWithSpec)

/-- ITS FALSE NEIGHBOUR: 'it returns false'. Refute it at one input. -/
def fnExactSharedWithWrong : ChangeSpec := { name := "fnExactSharedWith", fn := fun _ => fun
  | [d1, d2] => { results := [.lit (.bool false)], args := [d1, d2] }
  | _ => none }
def FnExactSharedWithWrongFalsely : Prop := fnExactSharedWithRow.holds Try.pinned (OpenSpec.ofChange fnExactSharedWithWrong)

/-- 'laws.FnExactDiff': WHATEVER THE INPUT: true; the input reads as it did. -/
def fnExactDiffSpec : ChangeSpec := { name := "fnExactDiff", fn := fun _ => fun
  | [d1, d2] => { results := [.lit (.bool true)], args := [d1, d2] }
  | _ => none }
def fnExactDiffRow : OpenClaim := { program := "ytblfeifedcddnaa", sum := "11464dbb551f4cae85f5a8598ea15fd14744e4e045d0ec02da8ac8430ee6ee30", func := "loop.example/g00037/laws.FnExactDiff", spec := "fnExactDiff", unfollowed := true, recurses := true, loops := true, plainKeys := false, apart := false }
def FnExactDiffSaid : Prop := fnExactDiffRow.holds Try.pinned (OpenSpec.ofChange fnExactDiffSpec)

/-- ITS FALSE NEIGHBOUR: 'it returns false'. Refute it at one input. -/
def fnExactDiffWrong : ChangeSpec := { name := "fnExactDiff", fn := fun _ => fun
  | [d1, d2] => { results := [.lit (.bool false)], args := [d1, d2] }
  | _ => none }
def FnExactDiffWrongFalsely : Prop := fnExactDiffRow.holds Try.pinned (OpenSpec.ofChange fnExactDiffWrong)

/-- 'laws.FnExactPatch': WHATEVER THE INPUT: true; the input reads as it did. -/
def fnExactPatchSpec : ChangeSpec := { name := "fnExactPatch", fn := fun _ => fun
  | [d1, d2] => { results := [.lit (.bool true)], args := [d1, d2] }
  | _ => none }
def fnExactPatchRow : OpenClaim := { program := "ytblfeifedcddnaa", sum := "11464dbb551f4cae85f5a8598ea15fd14744e4e045d0ec02da8ac8430ee6ee30", func := "loop.example/g00037/laws.FnExactPatch", spec := "fnExactPatch", unfollowed := true, recurses := true, loops := true, plainKeys := false, apart := false }
def FnExactPatchSaid : Prop := fnExactPatchRow.holds Try.pinned (OpenSpec.ofChange fnExactPatchSpec)

/-- ITS FALSE NEIGHBOUR: 'it returns false'. Refute it at one input. -/
def fnExactPatchWrong : ChangeSpec := { name := "fnExactPatch", fn := fun _ => fun
  | [d1, d2] => { results := [.lit (.bool false)], args := [d1, d2] }
  | _ => none }
def FnExactPatchWrongFalsely : Prop := fnExactPatchRow.holds Try.pinned (OpenSpec.ofChange fnExactPatchWrong)

/-- 'laws.FnExactMerge': WHATEVER THE INPUT: true; the input reads as it did. -/
def fnExactMergeSpec : ChangeSpec := { name := "fnExactMerge", fn := fun _ => fun
  | [d1, d2, d3] => { results := [.lit (.bool true)], args := [d1, d2, d3] }
  | _ => none }
def fnExactMergeRow : OpenClaim := { program := "ytblfeifedcddnaa", sum := "11464dbb551f4cae85f5a8598ea15fd14744e4e045d0ec02da8ac8430ee6ee30", func := "loop.example/g00037/laws.FnExactMerge", spec := "fnExactMerge", unfollowed := true, recurses := true, loops := true, plainKeys := false, apart := false }
def FnExactMergeSaid : Prop := fnExactMergeRow.holds Try.pinned (OpenSpec.ofChange fnExactMergeSpec)

/-- ITS FALSE NEIGHBOUR: 'it returns false'. Refute it at one input. -/
def fnExactMergeWrong : ChangeSpec := { name := "fnExactMerge", fn := fun _ => fun
  | [d1, d2, d3] => { results := [.lit (.bool false)], args := [d1, d2, d3] }
  | _ => none }
def FnExactMergeWrongFalsely : Prop := fnExactMergeRow.holds Try.pinned (OpenSpec.ofChange fnExactMergeWrong)

/- THE SECOND FORM. 'bulk': how many values and letters a reading holds, each counted each time it is reached (what is shared counts as often as it is met; a slice's spare places count too). A statement '..UptoSaid' is the law's where the arguments, and the package variables that the reading takes, are together of bulk at most 1048576: NARROWER than '..Said'. Prove '..Said' where nothing that the law and all that it calls make is longer than what came in: it says more and counts as full. Else prove '..UptoSaid'. A law counts once. -/
mutual
def uptoBulk {H : Type} : DataW H → Nat
  | .lit (.string bytes) => bytes.length + 1
  | .lit _ => 1
  | .nil => 1
  | .ptr d => uptoBulk d + 1
  | .slice elems spare => uptoBulkAll elems + uptoBulkAll spare + 1
  | .agg parts => uptoBulkAll parts + 1
  | .iface _ d => uptoBulk d + 1
  | .map entries => uptoBulkEntries entries + 1
  | .held _ => 1
def uptoBulkAll {H : Type} : List (DataW H) → Nat
  | [] => 0
  | d :: r => uptoBulk d + uptoBulkAll r
def uptoBulkEntries {H : Type} : List (Lit × DataW H) → Nat
  | [] => 0
  | x :: r => uptoBulkEntry x + uptoBulkEntries r
def uptoBulkEntry {H : Type} : Lit × DataW H → Nat
  | (.string bytes, d) => bytes.length + uptoBulk d + 1
  | (_, d) => uptoBulk d + 1
 end
def uptoSmall : (H : Type) → List (DataW H) → Bool := fun _ ds => decide (uptoBulkAll ds ≤ 1048576)
def OpenSpec.upto (s : _root_.Go.ChangeSpec) : _root_.Go.OpenSpec := { _root_.Go.OpenSpec.ofChange s with cond := some uptoSmall }

/-- 'laws.FnExactShare', WHERE WHAT IT READS IS OF BULK AT MOST 1048576: true; the input reads as it did. -/
def fnExactShareUptoRow : OpenClaim := { program := "ytblfeifedcddnaa", sum := "11464dbb551f4cae85f5a8598ea15fd14744e4e045d0ec02da8ac8430ee6ee30", func := "loop.example/g00037/laws.FnExactShare", spec := "fnExactShare", unfollowed := true, recurses := true, loops := true, plainKeys := false, apart := false, narrowed := true }
def FnExactShareUptoSaid : Prop := fnExactShareUptoRow.holds Try.pinned (OpenSpec.upto fnExactShareSpec)

/-- 'laws.FnExactUnshare', WHERE WHAT IT READS IS OF BULK AT MOST 1048576: true; the input reads as it did. -/
def fnExactUnshareUptoRow : OpenClaim := { program := "ytblfeifedcddnaa", sum := "11464dbb551f4cae85f5a8598ea15fd14744e4e045d0ec02da8ac8430ee6ee30", func := "loop.example/g00037/laws.FnExactUnshare", spec := "fnExactUnshare", unfollowed := true, recurses := true, plainKeys := false, apart := false, narrowed := true }
def FnExactUnshareUptoSaid : Prop := fnExactUnshareUptoRow.holds Try.pinned (OpenSpec.upto fnExactUnshareSpec)

/-- 'laws.FnExactSharedWith', WHERE WHAT IT READS IS OF BULK AT MOST 1048576: true; the input reads as it did. -/
def fnExactSharedWithUptoRow : OpenClaim := { program := "ytblfeifedcddnaa", sum := "11464dbb551f4cae85f5a8598ea15fd14744e4e045d0ec02da8ac8430ee6ee30", func := "loop.example/g00037/laws.FnExactSharedWith", spec := "fnExactSharedWith", unfollowed := true, recurses := true, loops := true, plainKeys := false, apart := false, narrowed := true }
def FnExactSharedWithUptoSaid : Prop := fnExactSharedWithUptoRow.holds Try.pinned (OpenSpec.upto fnExactSharedWithSpec)

/-- 'laws.FnExactDiff', WHERE WHAT IT READS IS OF BULK AT MOST 1048576: true; the input reads as it did. -/
def fnExactDiffUptoRow : OpenClaim := { program := "ytblfeifedcddnaa", sum := "11464dbb551f4cae85f5a8598ea15fd14744e4e045d0ec02da8ac8430ee6ee30", func := "loop.example/g00037/laws.FnExactDiff", spec := "fnExactDiff", unfollowed := true, recurses := true, loops := true, plainKeys := false, apart := false, narrowed := true }
def FnExactDiffUptoSaid : Prop := fnExactDiffUptoRow.holds Try.pinned (OpenSpec.upto fnExactDiffSpec)

/-- 'laws.FnExactPatch', WHERE WHAT IT READS IS OF BULK AT MOST 1048576: true; the input reads as it did. -/
def fnExactPatchUptoRow : OpenClaim := { program := "ytblfeifedcddnaa", sum := "11464dbb551f4cae85f5a8598ea15fd14744e4e045d0ec02da8ac8430ee6ee30", func := "loop.example/g00037/laws.FnExactPatch", spec := "fnExactPatch", unfollowed := true, recurses := true, loops := true, plainKeys := false, apart := false, narrowed := true }
def FnExactPatchUptoSaid : Prop := fnExactPatchUptoRow.holds Try.pinned (OpenSpec.upto fnExactPatchSpec)

/-- 'laws.FnExactMerge', WHERE WHAT IT READS IS OF BULK AT MOST 1048576: true; the input reads as it did. -/
def fnExactMergeUptoRow : OpenClaim := { program := "ytblfeifedcddnaa", sum := "11464dbb551f4cae85f5a8598ea15fd14744e4e045d0ec02da8ac8430ee6ee30", func := "loop.example/g00037/laws.FnExactMerge", spec := "fnExactMerge", unfollowed := true, recurses := true, loops := true, plainKeys := false, apart := false, narrowed := true }
def FnExactMergeUptoSaid : Prop := fnExactMergeUptoRow.holds Try.pinned (OpenSpec.upto fnExactMergeSpec)

end Rows
end Go.Proofs.Ytblfeifedcddnaa
