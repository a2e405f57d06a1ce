/-
  NARROWER THAN 'FOR EVERY INPUT', by the rows' own cells (each row's printed sentence says how): FnExactTreeAt: loops · FnExactTreePut: loops · FnExactTreeHash: loops.
  DERIVED. THE GIVEN ROWS OF THIS SEAT. 4 by the template 'for every input the law returns true; each argument reads behind the call as it read before'; 0 by the template 'total and deterministic' (their statements: YthmdoplickpmaaiTotals.lean).
  GIVEN WITH THE SEED: the statements are not yours to turn. If you find one false, say at which input.
  Laid BY PROGRAM, IN A SANDBOX (cutbox-rows.mjs): the forced cells as the released guide's own fill.sh prints them over the translation eb0b1902aad9733a… (all of the seat's roots in one cut). By AI agents, Wed Nov 11 2026. No macro, syntax, notation, axiom, sorry.
-/
import Derived.Test.YthmdoplickpmaaiChecked
import GoSem.Claim
import GoSem.ClaimJoined
import GoSem.ClaimMapViews
import Derived.JoinedTies
import Derived.KernelRfl
namespace Go.Proofs.Ythmdoplickpmaai
/- THE CELL 'sum', in the pinned program and in every row, IS THE sha256 OF THE DUMP (.gsa) THAT YthmdoplickpmaaiProg.lean LOADS. Nothing in Lean hashes anything: it is a label: what it is worth is what the hold of that sum in a sandbox is worth. -/
noncomputable def Try.pinned : Pinned := { name := "ythmdoplickpmaai", sum := "eb0b1902aad9733a5edf1c30e3f0f4f4819c78bafb0debca1d5c5903e8ce7a89", checked := Try.checked }
namespace Rows
def none {H : Type} : Left H := { results := [], args := [] }

/-- 'laws.FnExactTreeAt': WHATEVER THE INPUT: true; the input reads as it did. -/
def fnExactTreeAtSpec : ChangeSpec := { name := "fnExactTreeAt", fn := fun _ => fun
  | [d1, d2] => { results := [.lit (.bool true)], args := [d1, d2] }
  | _ => none }
def fnExactTreeAtRow : OpenClaim := { program := "ythmdoplickpmaai", sum := "eb0b1902aad9733a5edf1c30e3f0f4f4819c78bafb0debca1d5c5903e8ce7a89", func := "loop.example/g00037/laws.FnExactTreeAt", spec := "fnExactTreeAt", unfollowed := true, recurses := true, loops := true, apart := false }
def FnExactTreeAtSaid : Prop := fnExactTreeAtRow.holds Try.pinned (OpenSpec.ofChange fnExactTreeAtSpec)

/-- ITS FALSE NEIGHBOUR: 'it returns false'. Refute it at one input. -/
def fnExactTreeAtWrong : ChangeSpec := { name := "fnExactTreeAt", fn := fun _ => fun
  | [d1, d2] => { results := [.lit (.bool false)], args := [d1, d2] }
  | _ => none }
def FnExactTreeAtWrongFalsely : Prop := fnExactTreeAtRow.holds Try.pinned (OpenSpec.ofChange fnExactTreeAtWrong)

/-- 'laws.FnExactTreePut': WHATEVER THE INPUT: true; the input reads as it did. -/
def fnExactTreePutSpec : ChangeSpec := { name := "fnExactTreePut", fn := fun _ => fun
  | [d1, d2, d3] => { results := [.lit (.bool true)], args := [d1, d2, d3] }
  | _ => none }
def fnExactTreePutRow : OpenClaim := { program := "ythmdoplickpmaai", sum := "eb0b1902aad9733a5edf1c30e3f0f4f4819c78bafb0debca1d5c5903e8ce7a89", func := "loop.example/g00037/laws.FnExactTreePut", spec := "fnExactTreePut", unfollowed := true, recurses := true, loops := true, apart := false }
def FnExactTreePutSaid : Prop := fnExactTreePutRow.holds Try.pinned (OpenSpec.ofChange fnExactTreePutSpec)

/-- ITS FALSE NEIGHBOUR: 'it returns false'. Refute it at one input. -/
def fnExactTreePutWrong : ChangeSpec := { name := "fnExactTreePut", fn := fun _ => fun
  | [d1, d2, d3] => { results := [.lit (.bool false)], args := [d1, d2, d3] }
  | _ => none }
def FnExactTreePutWrongFalsely : Prop := fnExactTreePutRow.holds Try.pinned (OpenSpec.ofChange fnExactTreePutWrong)

/-- 'laws.FnExactTreeHash': WHATEVER THE INPUT: true; the input reads as it did. -/
def fnExactTreeHashSpec : ChangeSpec := { name := "fnExactTreeHash", fn := fun _ => fun
  | [d] => { results := [.lit (.bool true)], args := [d] }
  | _ => none }
def fnExactTreeHashRow : OpenClaim := { program := "ythmdoplickpmaai", sum := "eb0b1902aad9733a5edf1c30e3f0f4f4819c78bafb0debca1d5c5903e8ce7a89", func := "loop.example/g00037/laws.FnExactTreeHash", spec := "fnExactTreeHash", unfollowed := true, recurses := true, loops := true, apart := false }
def FnExactTreeHashSaid : Prop := fnExactTreeHashRow.holds Try.pinned (OpenSpec.ofChange fnExactTreeHashSpec)

/-- ITS FALSE NEIGHBOUR: 'it returns false'. Refute it at one input. -/
def fnExactTreeHashWrong : ChangeSpec := { name := "fnExactTreeHash", fn := fun _ => fun
  | [d] => { results := [.lit (.bool false)], args := [d] }
  | _ => none }
def FnExactTreeHashWrongFalsely : Prop := fnExactTreeHashRow.holds Try.pinned (OpenSpec.ofChange fnExactTreeHashWrong)

/-- 'laws.FnExactRxOK': WHATEVER THE INPUT: true; the input reads as it did. -/
def fnExactRxOKSpec : ChangeSpec := { name := "fnExactRxOK", fn := fun _ => fun
  | [d] => { results := [.lit (.bool true)], args := [d] }
  | _ => none }
def fnExactRxOKRow : OpenClaim := { program := "ythmdoplickpmaai", sum := "eb0b1902aad9733a5edf1c30e3f0f4f4819c78bafb0debca1d5c5903e8ce7a89", func := "loop.example/g00037/laws.FnExactRxOK", spec := "fnExactRxOK", inPlace := ["internal/bytealg.IndexByteString"], unfollowed := true, recurses := true, apart := false }
def FnExactRxOKSaid : Prop := fnExactRxOKRow.holds Try.pinned (OpenSpec.ofChange fnExactRxOKSpec)

/-- ITS FALSE NEIGHBOUR: 'it returns false'. Refute it at one input. -/
def fnExactRxOKWrong : ChangeSpec := { name := "fnExactRxOK", fn := fun _ => fun
  | [d] => { results := [.lit (.bool false)], args := [d] }
  | _ => none }
def FnExactRxOKWrongFalsely : Prop := fnExactRxOKRow.holds Try.pinned (OpenSpec.ofChange fnExactRxOKWrong)

/- THE SECOND FORM. 'bulk': how many values and letters a reading holds, each counted each time it is reached (what is shared counts as often as it is met; a slice's spare places count too). A statement '..UptoSaid' is the law's where the arguments, and the package variables that the reading takes, are together of bulk at most 1048576: NARROWER than '..Said'. Prove '..Said' where nothing that the law and all that it calls make is longer than what came in: it says more and counts as full. Else prove '..UptoSaid'. A law counts once. -/
mutual
def uptoBulk {H : Type} : DataW H → Nat
  | .lit (.string bytes) => bytes.length + 1
  | .lit _ => 1
  | .nil => 1
  | .ptr d => uptoBulk d + 1
  | .slice elems spare => uptoBulkAll elems + uptoBulkAll spare + 1
  | .agg parts => uptoBulkAll parts + 1
  | .iface _ d => uptoBulk d + 1
  | .map entries => uptoBulkEntries entries + 1
  | .held _ => 1
def uptoBulkAll {H : Type} : List (DataW H) → Nat
  | [] => 0
  | d :: r => uptoBulk d + uptoBulkAll r
def uptoBulkEntries {H : Type} : List (Lit × DataW H) → Nat
  | [] => 0
  | x :: r => uptoBulkEntry x + uptoBulkEntries r
def uptoBulkEntry {H : Type} : Lit × DataW H → Nat
  | (.string bytes, d) => bytes.length + uptoBulk d + 1
  | (_, d) => uptoBulk d + 1
 end
def uptoSmall : (H : Type) → List (DataW H) → Bool := fun _ ds => decide (uptoBulkAll ds ≤ 1048576)
def OpenSpec.upto (s : _root_.Go.ChangeSpec) : _root_.Go.OpenSpec := { _root_.Go.OpenSpec.ofChange s with cond := some uptoSmall }

/-- 'laws.FnExactTreeAt', WHERE WHAT IT READS IS OF BULK AT MOST 1048576: true; the input reads as it did. -/
def fnExactTreeAtUptoRow : OpenClaim := { program := "ythmdoplickpmaai", sum := "eb0b1902aad9733a5edf1c30e3f0f4f4819c78bafb0debca1d5c5903e8ce7a89", func := "loop.example/g00037/laws.FnExactTreeAt", spec := "fnExactTreeAt", unfollowed := true, recurses := true, loops := true, apart := false, narrowed := true }
def FnExactTreeAtUptoSaid : Prop := fnExactTreeAtUptoRow.holds Try.pinned (OpenSpec.upto fnExactTreeAtSpec)

/-- 'laws.FnExactTreePut', WHERE WHAT IT READS IS OF BULK AT MOST 1048576: true; the input reads as it did. -/
def fnExactTreePutUptoRow : OpenClaim := { program := "ythmdoplickpmaai", sum := "eb0b1902aad9733a5edf1c30e3f0f4f4819c78bafb0debca1d5c5903e8ce7a89", func := "loop.example/g00037/laws.FnExactTreePut", spec := "fnExactTreePut", unfollowed := true, recurses := true, loops := true, apart := false, narrowed := true }
def FnExactTreePutUptoSaid : Prop := fnExactTreePutUptoRow.holds Try.pinned (OpenSpec.upto fnExactTreePutSpec)

/-- 'laws.FnExactTreeHash', WHERE WHAT IT READS IS OF BULK AT MOST 1048576: true; the input reads as it did. -/
def fnExactTreeHashUptoRow : OpenClaim := { program := "ythmdoplickpmaai", sum := "eb0b1902aad9733a5edf1c30e3f0f4f4819c78bafb0debca1d5c5903e8ce7a89", func := "loop.example/g00037/laws.FnExactTreeHash", spec := "fnExactTreeHash", unfollowed := true, recurses := true, loops := true, apart := false, narrowed := true }
def FnExactTreeHashUptoSaid : Prop := fnExactTreeHashUptoRow.holds Try.pinned (OpenSpec.upto fnExactTreeHashSpec)

/-- 'laws.FnExactRxOK', WHERE WHAT IT READS IS OF BULK AT MOST 1048576: true; the input reads as it did. -/
def fnExactRxOKUptoRow : OpenClaim := { program := "ythmdoplickpmaai", sum := "eb0b1902aad9733a5edf1c30e3f0f4f4819c78bafb0debca1d5c5903e8ce7a89", func := "loop.example/g00037/laws.FnExactRxOK", spec := "fnExactRxOK", inPlace := ["internal/bytealg.IndexByteString"], unfollowed := true, recurses := true, apart := false, narrowed := true }
def FnExactRxOKUptoSaid : Prop := fnExactRxOKUptoRow.holds Try.pinned (OpenSpec.upto fnExactRxOKSpec)

end Rows
end Go.Proofs.Ythmdoplickpmaai
