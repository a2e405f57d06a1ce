/-
  NARROWER THAN 'FOR EVERY INPUT', by the rows' own cells (each row's printed sentence says how): FnExactShare: loops · FnExactSharedWith: loops.
  DERIVED. THE GIVEN ROWS OF THIS SEAT. 4 by the template 'for every input the law returns true; each argument reads behind the call as it read before'; 0 by the template 'total and deterministic' (their statements: YtckpoggljpdeoaaTotals.lean).
  GIVEN WITH THE SEED: the statements are not yours to turn. If you find one false, say at which input.
  Laid BY PROGRAM, IN A SANDBOX (cutbox-rows.mjs): the forced cells as the released guide's own fill.sh prints them over the translation 795939530f5615b2… (all of the seat's roots in one cut). By AI agents, Wed Nov 11 2026. No macro, syntax, notation, axiom, sorry.
-/
import Derived.Test.YtckpoggljpdeoaaChecked
import GoSem.Claim
import GoSem.ClaimJoined
import GoSem.ClaimMapViews
import Derived.JoinedTies
import Derived.KernelRfl
namespace Go.Proofs.Ytckpoggljpdeoaa
/- THE CELL 'sum', in the pinned program and in every row, IS THE sha256 OF THE DUMP (.gsa) THAT YtckpoggljpdeoaaProg.lean LOADS. Nothing in Lean hashes anything: it is a label: what it is worth is what the hold of that sum in a sandbox is worth. -/
noncomputable def Try.pinned : Pinned := { name := "ytckpoggljpdeoaa", sum := "795939530f5615b25e80e2944cd2d5247ba732ac8fbb4a47ab58e4e72bf40e77", checked := Try.checked }
namespace Rows
def none {H : Type} : Left H := { results := [], args := [] }

/-- 'laws.FnExactEdited': WHATEVER THE INPUT: true; the input reads as it did. -/
def fnExactEditedSpec : ChangeSpec := { name := "fnExactEdited", fn := fun _ => fun
  | [d1, d2] => { results := [.lit (.bool true)], args := [d1, d2] }
  | _ => none }
def fnExactEditedRow : OpenClaim := { program := "ytckpoggljpdeoaa", sum := "795939530f5615b25e80e2944cd2d5247ba732ac8fbb4a47ab58e4e72bf40e77", func := "loop.example/g00037/laws.FnExactEdited", spec := "fnExactEdited", plainKeys := false, apart := false }
def FnExactEditedSaid : Prop := fnExactEditedRow.holds Try.pinned (OpenSpec.ofChange fnExactEditedSpec)

/-- ITS FALSE NEIGHBOUR: 'it returns false'. Refute it at one input. -/
def fnExactEditedWrong : ChangeSpec := { name := "fnExactEdited", fn := fun _ => fun
  | [d1, d2] => { results := [.lit (.bool false)], args := [d1, d2] }
  | _ => none }
def FnExactEditedWrongFalsely : Prop := fnExactEditedRow.holds Try.pinned (OpenSpec.ofChange fnExactEditedWrong)

/-- 'laws.FnExactShare': WHATEVER THE INPUT: true; the input reads as it did. -/
def fnExactShareSpec : ChangeSpec := { name := "fnExactShare", fn := fun _ => fun
  | [d] => { results := [.lit (.bool true)], args := [d] }
  | _ => none }
def fnExactShareRow : OpenClaim := { program := "ytckpoggljpdeoaa", sum := "795939530f5615b25e80e2944cd2d5247ba732ac8fbb4a47ab58e4e72bf40e77", func := "loop.example/g00037/laws.FnExactShare", spec := "fnExactShare", unfollowed := true, recurses := true, loops := true, plainKeys := false, apart := false }
def FnExactShareSaid : Prop := fnExactShareRow.holds Try.pinned (OpenSpec.ofChange fnExactShareSpec)

/-- ITS FALSE NEIGHBOUR: 'it returns false'. Refute it at one input. -/
def fnExactShareWrong : ChangeSpec := { name := "fnExactShare", fn := fun _ => fun
  | [d] => { results := [.lit (.bool false)], args := [d] }
  | _ => none }
def FnExactShareWrongFalsely : Prop := fnExactShareRow.holds Try.pinned (OpenSpec.ofChange fnExactShareWrong)

/-- 'laws.FnExactUnshare': WHATEVER THE INPUT: true; the input reads as it did. -/
def fnExactUnshareSpec : ChangeSpec := { name := "fnExactUnshare", fn := fun _ => fun
  | [d] => { results := [.lit (.bool true)], args := [d] }
  | _ => none }
def fnExactUnshareRow : OpenClaim := { program := "ytckpoggljpdeoaa", sum := "795939530f5615b25e80e2944cd2d5247ba732ac8fbb4a47ab58e4e72bf40e77", func := "loop.example/g00037/laws.FnExactUnshare", spec := "fnExactUnshare", unfollowed := true, recurses := true, plainKeys := false, apart := false }
def FnExactUnshareSaid : Prop := fnExactUnshareRow.holds Try.pinned (OpenSpec.ofChange fnExactUnshareSpec)

/-- ITS FALSE NEIGHBOUR: 'it returns false'. Refute it at one input. -/
def fnExactUnshareWrong : ChangeSpec := { name := "fnExactUnshare", fn := fun _ => fun
  | [d] => { results := [.lit (.bool false)], args := [d] }
  | _ => none }
def FnExactUnshareWrongFalsely : Prop := fnExactUnshareRow.holds Try.pinned (OpenSpec.ofChange fnExactUnshareWrong)

/-- 'laws.FnExactSharedWith': WHATEVER THE INPUT: true; the input reads as it did. -/
def fnExactSharedWithSpec : ChangeSpec := { name := "fnExactSharedWith", fn := fun _ => fun
  | [d1, d2] => { results := [.lit (.bool true)], args := [d1, d2] }
  | _ => none }
def fnExactSharedWithRow : OpenClaim := { program := "ytckpoggljpdeoaa", sum := "795939530f5615b25e80e2944cd2d5247ba732ac8fbb4a47ab58e4e72bf40e77", func := "loop.example/g00037/laws.FnExactSharedWith", spec := "fnExactSharedWith", unfollowed := true, recurses := true, loops := true, plainKeys := false, apart := false }
def FnExactSharedWithSaid : Prop := fnExactSharedWithRow.holds Try.pinned (OpenSpec.ofChange fnExactSharedWithSpec)

/-- ITS FALSE NEIGHBOUR: 'it returns false'. Refute it at one input. -/
def fnExactSharedWithWrong : ChangeSpec := { name := "fnExactSharedWith", fn := fun _ => fun
  | [d1, d2] => { results := [.lit (.bool false)], args := [d1, d2] }
  | _ => none }
def FnExactSharedWithWrongFalsely : Prop := fnExactSharedWithRow.holds Try.pinned (OpenSpec.ofChange fnExactSharedWithWrong)

/- THE SECOND FORM. 'bulk': how many values and letters a reading holds, each counted each time it is reached (what is shared counts as often as it is met; a slice's spare places count too). A statement '..UptoSaid' is the law's where the arguments, and the package variables that the reading takes, are together of bulk at most 1048576: NARROWER than '..Said'. Prove '..Said' where nothing that the law and all that it calls make is longer than what came in: it says more and counts as full. Else prove '..UptoSaid'. A law counts once. -/
mutual
def uptoBulk {H : Type} : DataW H → Nat
  | .lit (.string bytes) => bytes.length + 1
  | .lit _ => 1
  | .nil => 1
  | .ptr d => uptoBulk d + 1
  | .slice elems spare => uptoBulkAll elems + uptoBulkAll spare + 1
  | .agg parts => uptoBulkAll parts + 1
  | .iface _ d => uptoBulk d + 1
  | .map entries => uptoBulkEntries entries + 1
  | .held _ => 1
def uptoBulkAll {H : Type} : List (DataW H) → Nat
  | [] => 0
  | d :: r => uptoBulk d + uptoBulkAll r
def uptoBulkEntries {H : Type} : List (Lit × DataW H) → Nat
  | [] => 0
  | x :: r => uptoBulkEntry x + uptoBulkEntries r
def uptoBulkEntry {H : Type} : Lit × DataW H → Nat
  | (.string bytes, d) => bytes.length + uptoBulk d + 1
  | (_, d) => uptoBulk d + 1
 end
def uptoSmall : (H : Type) → List (DataW H) → Bool := fun _ ds => decide (uptoBulkAll ds ≤ 1048576)
def OpenSpec.upto (s : _root_.Go.ChangeSpec) : _root_.Go.OpenSpec := { _root_.Go.OpenSpec.ofChange s with cond := some uptoSmall }

/-- 'laws.FnExactEdited', WHERE WHAT IT READS IS OF BULK AT MOST 1048576: true; the input reads as it did. -/
def fnExactEditedUptoRow : OpenClaim := { program := "ytckpoggljpdeoaa", sum := "795939530f5615b25e80e2944cd2d5247ba732ac8fbb4a47ab58e4e72bf40e77", func := "loop.example/g00037/laws.FnExactEdited", spec := "fnExactEdited", plainKeys := false, apart := false, narrowed := true }
def FnExactEditedUptoSaid : Prop := fnExactEditedUptoRow.holds Try.pinned (OpenSpec.upto fnExactEditedSpec)

/-- 'laws.FnExactShare', WHERE WHAT IT READS IS OF BULK AT MOST 1048576: true; the input reads as it did. -/
def fnExactShareUptoRow : OpenClaim := { program := "ytckpoggljpdeoaa", sum := "795939530f5615b25e80e2944cd2d5247ba732ac8fbb4a47ab58e4e72bf40e77", func := "loop.example/g00037/laws.FnExactShare", spec := "fnExactShare", unfollowed := true, recurses := true, loops := true, plainKeys := false, apart := false, narrowed := true }
def FnExactShareUptoSaid : Prop := fnExactShareUptoRow.holds Try.pinned (OpenSpec.upto fnExactShareSpec)

/-- 'laws.FnExactUnshare', WHERE WHAT IT READS IS OF BULK AT MOST 1048576: true; the input reads as it did. -/
def fnExactUnshareUptoRow : OpenClaim := { program := "ytckpoggljpdeoaa", sum := "795939530f5615b25e80e2944cd2d5247ba732ac8fbb4a47ab58e4e72bf40e77", func := "loop.example/g00037/laws.FnExactUnshare", spec := "fnExactUnshare", unfollowed := true, recurses := true, plainKeys := false, apart := false, narrowed := true }
def FnExactUnshareUptoSaid : Prop := fnExactUnshareUptoRow.holds Try.pinned (OpenSpec.upto fnExactUnshareSpec)

/-- 'laws.FnExactSharedWith', WHERE WHAT IT READS IS OF BULK AT MOST 1048576: true; the input reads as it did. -/
def fnExactSharedWithUptoRow : OpenClaim := { program := "ytckpoggljpdeoaa", sum := "795939530f5615b25e80e2944cd2d5247ba732ac8fbb4a47ab58e4e72bf40e77", func := "loop.example/g00037/laws.FnExactSharedWith", spec := "fnExactSharedWith", unfollowed := true, recurses := true, loops := true, plainKeys := false, apart := false, narrowed := true }
def FnExactSharedWithUptoSaid : Prop := fnExactSharedWithUptoRow.holds Try.pinned (OpenSpec.upto fnExactSharedWithSpec)

end Rows
end Go.Proofs.Ytckpoggljpdeoaa
