/-
  NARROWER THAN 'FOR EVERY INPUT', by the rows' own cells (each row's printed sentence says how): FnExactTermOK: loops · FnExactScopesOf: loops.
  DERIVED. THE GIVEN ROWS OF THIS SEAT. 6 by the template 'for every input the law returns true; each argument reads behind the call as it read before'; 0 by the template 'total and deterministic' (their statements: YtkkebcbcbihbiaaTotals.lean).
  GIVEN WITH THE SEED: the statements are not yours to turn. If you find one false, say at which input.
  Laid BY PROGRAM, IN A SANDBOX (cutbox-rows.mjs): the forced cells as the released guide's own fill.sh prints them over the translation efc9fa258abf5d96… (all of the seat's roots in one cut). By AI agents, Wed Nov 11 2026. No macro, syntax, notation, axiom, sorry.
-/
import Derived.Test.YtkkebcbcbihbiaaChecked
import GoSem.Claim
import GoSem.ClaimJoined
import GoSem.ClaimMapViews
import Derived.JoinedTies
import Derived.KernelRfl
namespace Go.Proofs.Ytkkebcbcbihbiaa
/- THE CELL 'sum', in the pinned program and in every row, IS THE sha256 OF THE DUMP (.gsa) THAT YtkkebcbcbihbiaaProg.lean LOADS. Nothing in Lean hashes anything: it is a label: what it is worth is what the hold of that sum in a sandbox is worth. -/
noncomputable def Try.pinned : Pinned := { name := "ytkkebcbcbihbiaa", sum := "efc9fa258abf5d960e3c8424b9e09a7b21d0c87807c8523b98fc985f0b636729", checked := Try.checked }
namespace Rows
def none {H : Type} : Left H := { results := [], args := [] }

/-- 'laws.FnExactSgOK': WHATEVER THE INPUT: true; the input reads as it did. -/
def fnExactSgOKSpec : ChangeSpec := { name := "fnExactSgOK", fn := fun _ => fun
  | [d] => { results := [.lit (.bool true)], args := [d] }
  | _ => none }
def fnExactSgOKRow : OpenClaim := { program := "ytkkebcbcbihbiaa", sum := "efc9fa258abf5d960e3c8424b9e09a7b21d0c87807c8523b98fc985f0b636729", func := "loop.example/g00037/laws.FnExactSgOK", spec := "fnExactSgOK", unfollowed := true, recurses := true, apart := false }
def FnExactSgOKSaid : Prop := fnExactSgOKRow.holds Try.pinned (OpenSpec.ofChange fnExactSgOKSpec)

/-- ITS FALSE NEIGHBOUR: 'it returns false'. Refute it at one input. -/
def fnExactSgOKWrong : ChangeSpec := { name := "fnExactSgOK", fn := fun _ => fun
  | [d] => { results := [.lit (.bool false)], args := [d] }
  | _ => none }
def FnExactSgOKWrongFalsely : Prop := fnExactSgOKRow.holds Try.pinned (OpenSpec.ofChange fnExactSgOKWrong)

/-- 'laws.FnExactResolve': WHATEVER THE INPUT: true; the input reads as it did. -/
def fnExactResolveSpec : ChangeSpec := { name := "fnExactResolve", fn := fun _ => fun
  | [d1, d2] => { results := [.lit (.bool true)], args := [d1, d2] }
  | _ => none }
def fnExactResolveRow : OpenClaim := { program := "ytkkebcbcbihbiaa", sum := "efc9fa258abf5d960e3c8424b9e09a7b21d0c87807c8523b98fc985f0b636729", func := "loop.example/g00037/laws.FnExactResolve", spec := "fnExactResolve", unfollowed := true, recurses := true, apart := false }
def FnExactResolveSaid : Prop := fnExactResolveRow.holds Try.pinned (OpenSpec.ofChange fnExactResolveSpec)

/-- ITS FALSE NEIGHBOUR: 'it returns false'. Refute it at one input. -/
def fnExactResolveWrong : ChangeSpec := { name := "fnExactResolve", fn := fun _ => fun
  | [d1, d2] => { results := [.lit (.bool false)], args := [d1, d2] }
  | _ => none }
def FnExactResolveWrongFalsely : Prop := fnExactResolveRow.holds Try.pinned (OpenSpec.ofChange fnExactResolveWrong)

/-- 'laws.FnExactUnused': WHATEVER THE INPUT: true; the input reads as it did. -/
def fnExactUnusedSpec : ChangeSpec := { name := "fnExactUnused", fn := fun _ => fun
  | [d] => { results := [.lit (.bool true)], args := [d] }
  | _ => none }
def fnExactUnusedRow : OpenClaim := { program := "ytkkebcbcbihbiaa", sum := "efc9fa258abf5d960e3c8424b9e09a7b21d0c87807c8523b98fc985f0b636729", func := "loop.example/g00037/laws.FnExactUnused", spec := "fnExactUnused", unfollowed := true, recurses := true, apart := false }
def FnExactUnusedSaid : Prop := fnExactUnusedRow.holds Try.pinned (OpenSpec.ofChange fnExactUnusedSpec)

/-- ITS FALSE NEIGHBOUR: 'it returns false'. Refute it at one input. -/
def fnExactUnusedWrong : ChangeSpec := { name := "fnExactUnused", fn := fun _ => fun
  | [d] => { results := [.lit (.bool false)], args := [d] }
  | _ => none }
def FnExactUnusedWrongFalsely : Prop := fnExactUnusedRow.holds Try.pinned (OpenSpec.ofChange fnExactUnusedWrong)

/-- 'laws.FnExactRename': WHATEVER THE INPUT: true; the input reads as it did. -/
def fnExactRenameSpec : ChangeSpec := { name := "fnExactRename", fn := fun _ => fun
  | [d1, d2, d3] => { results := [.lit (.bool true)], args := [d1, d2, d3] }
  | _ => none }
def fnExactRenameRow : OpenClaim := { program := "ytkkebcbcbihbiaa", sum := "efc9fa258abf5d960e3c8424b9e09a7b21d0c87807c8523b98fc985f0b636729", func := "loop.example/g00037/laws.FnExactRename", spec := "fnExactRename", unfollowed := true, recurses := true, apart := false }
def FnExactRenameSaid : Prop := fnExactRenameRow.holds Try.pinned (OpenSpec.ofChange fnExactRenameSpec)

/-- ITS FALSE NEIGHBOUR: 'it returns false'. Refute it at one input. -/
def fnExactRenameWrong : ChangeSpec := { name := "fnExactRename", fn := fun _ => fun
  | [d1, d2, d3] => { results := [.lit (.bool false)], args := [d1, d2, d3] }
  | _ => none }
def FnExactRenameWrongFalsely : Prop := fnExactRenameRow.holds Try.pinned (OpenSpec.ofChange fnExactRenameWrong)

/-- 'laws.FnExactTermOK': WHATEVER THE INPUT: true; the input reads as it did. -/
def fnExactTermOKSpec : ChangeSpec := { name := "fnExactTermOK", fn := fun _ => fun
  | [d] => { results := [.lit (.bool true)], args := [d] }
  | _ => none }
def fnExactTermOKRow : OpenClaim := { program := "ytkkebcbcbihbiaa", sum := "efc9fa258abf5d960e3c8424b9e09a7b21d0c87807c8523b98fc985f0b636729", func := "loop.example/g00037/laws.FnExactTermOK", spec := "fnExactTermOK", unfollowed := true, recurses := true, loops := true, apart := false }
def FnExactTermOKSaid : Prop := fnExactTermOKRow.holds Try.pinned (OpenSpec.ofChange fnExactTermOKSpec)

/-- ITS FALSE NEIGHBOUR: 'it returns false'. Refute it at one input. -/
def fnExactTermOKWrong : ChangeSpec := { name := "fnExactTermOK", fn := fun _ => fun
  | [d] => { results := [.lit (.bool false)], args := [d] }
  | _ => none }
def FnExactTermOKWrongFalsely : Prop := fnExactTermOKRow.holds Try.pinned (OpenSpec.ofChange fnExactTermOKWrong)

/-- 'laws.FnExactScopesOf': WHATEVER THE INPUT: true; the input reads as it did. -/
def fnExactScopesOfSpec : ChangeSpec := { name := "fnExactScopesOf", fn := fun _ => fun
  | [d] => { results := [.lit (.bool true)], args := [d] }
  | _ => none }
def fnExactScopesOfRow : OpenClaim := { program := "ytkkebcbcbihbiaa", sum := "efc9fa258abf5d960e3c8424b9e09a7b21d0c87807c8523b98fc985f0b636729", func := "loop.example/g00037/laws.FnExactScopesOf", spec := "fnExactScopesOf", unfollowed := true, recurses := true, loops := true, apart := false }
def FnExactScopesOfSaid : Prop := fnExactScopesOfRow.holds Try.pinned (OpenSpec.ofChange fnExactScopesOfSpec)

/-- ITS FALSE NEIGHBOUR: 'it returns false'. Refute it at one input. -/
def fnExactScopesOfWrong : ChangeSpec := { name := "fnExactScopesOf", fn := fun _ => fun
  | [d] => { results := [.lit (.bool false)], args := [d] }
  | _ => none }
def FnExactScopesOfWrongFalsely : Prop := fnExactScopesOfRow.holds Try.pinned (OpenSpec.ofChange fnExactScopesOfWrong)

/- THE SECOND FORM. 'bulk': how many values and letters a reading holds, each counted each time it is reached (what is shared counts as often as it is met; a slice's spare places count too). A statement '..UptoSaid' is the law's where the arguments, and the package variables that the reading takes, are together of bulk at most 1048576: NARROWER than '..Said'. Prove '..Said' where nothing that the law and all that it calls make is longer than what came in: it says more and counts as full. Else prove '..UptoSaid'. A law counts once. -/
mutual
def uptoBulk {H : Type} : DataW H → Nat
  | .lit (.string bytes) => bytes.length + 1
  | .lit _ => 1
  | .nil => 1
  | .ptr d => uptoBulk d + 1
  | .slice elems spare => uptoBulkAll elems + uptoBulkAll spare + 1
  | .agg parts => uptoBulkAll parts + 1
  | .iface _ d => uptoBulk d + 1
  | .map entries => uptoBulkEntries entries + 1
  | .held _ => 1
def uptoBulkAll {H : Type} : List (DataW H) → Nat
  | [] => 0
  | d :: r => uptoBulk d + uptoBulkAll r
def uptoBulkEntries {H : Type} : List (Lit × DataW H) → Nat
  | [] => 0
  | x :: r => uptoBulkEntry x + uptoBulkEntries r
def uptoBulkEntry {H : Type} : Lit × DataW H → Nat
  | (.string bytes, d) => bytes.length + uptoBulk d + 1
  | (_, d) => uptoBulk d + 1
 end
def uptoSmall : (H : Type) → List (DataW H) → Bool := fun _ ds => decide (uptoBulkAll ds ≤ 1048576)
def OpenSpec.upto (s : _root_.Go.ChangeSpec) : _root_.Go.OpenSpec := { _root_.Go.OpenSpec.ofChange s with cond := some uptoSmall }

/-- 'laws.FnExactSgOK', WHERE WHAT IT READS IS OF BULK AT MOST 1048576: true; the input reads as it did. -/
def fnExactSgOKUptoRow : OpenClaim := { program := "ytkkebcbcbihbiaa", sum := "efc9fa258abf5d960e3c8424b9e09a7b21d0c87807c8523b98fc985f0b636729", func := "loop.example/g00037/laws.FnExactSgOK", spec := "fnExactSgOK", unfollowed := true, recurses := true, apart := false, narrowed := true }
def FnExactSgOKUptoSaid : Prop := fnExactSgOKUptoRow.holds Try.pinned (OpenSpec.upto fnExactSgOKSpec)

/-- 'laws.FnExactResolve', WHERE WHAT IT READS IS OF BULK AT MOST 1048576: true; the input reads as it did. -/
def fnExactResolveUptoRow : OpenClaim := { program := "ytkkebcbcbihbiaa", sum := "efc9fa258abf5d960e3c8424b9e09a7b21d0c87807c8523b98fc985f0b636729", func := "loop.example/g00037/laws.FnExactResolve", spec := "fnExactResolve", unfollowed := true, recurses := true, apart := false, narrowed := true }
def FnExactResolveUptoSaid : Prop := fnExactResolveUptoRow.holds Try.pinned (OpenSpec.upto fnExactResolveSpec)

/-- 'laws.FnExactUnused', WHERE WHAT IT READS IS OF BULK AT MOST 1048576: true; the input reads as it did. -/
def fnExactUnusedUptoRow : OpenClaim := { program := "ytkkebcbcbihbiaa", sum := "efc9fa258abf5d960e3c8424b9e09a7b21d0c87807c8523b98fc985f0b636729", func := "loop.example/g00037/laws.FnExactUnused", spec := "fnExactUnused", unfollowed := true, recurses := true, apart := false, narrowed := true }
def FnExactUnusedUptoSaid : Prop := fnExactUnusedUptoRow.holds Try.pinned (OpenSpec.upto fnExactUnusedSpec)

/-- 'laws.FnExactRename', WHERE WHAT IT READS IS OF BULK AT MOST 1048576: true; the input reads as it did. -/
def fnExactRenameUptoRow : OpenClaim := { program := "ytkkebcbcbihbiaa", sum := "efc9fa258abf5d960e3c8424b9e09a7b21d0c87807c8523b98fc985f0b636729", func := "loop.example/g00037/laws.FnExactRename", spec := "fnExactRename", unfollowed := true, recurses := true, apart := false, narrowed := true }
def FnExactRenameUptoSaid : Prop := fnExactRenameUptoRow.holds Try.pinned (OpenSpec.upto fnExactRenameSpec)

/-- 'laws.FnExactTermOK', WHERE WHAT IT READS IS OF BULK AT MOST 1048576: true; the input reads as it did. -/
def fnExactTermOKUptoRow : OpenClaim := { program := "ytkkebcbcbihbiaa", sum := "efc9fa258abf5d960e3c8424b9e09a7b21d0c87807c8523b98fc985f0b636729", func := "loop.example/g00037/laws.FnExactTermOK", spec := "fnExactTermOK", unfollowed := true, recurses := true, loops := true, apart := false, narrowed := true }
def FnExactTermOKUptoSaid : Prop := fnExactTermOKUptoRow.holds Try.pinned (OpenSpec.upto fnExactTermOKSpec)

/-- 'laws.FnExactScopesOf', WHERE WHAT IT READS IS OF BULK AT MOST 1048576: true; the input reads as it did. -/
def fnExactScopesOfUptoRow : OpenClaim := { program := "ytkkebcbcbihbiaa", sum := "efc9fa258abf5d960e3c8424b9e09a7b21d0c87807c8523b98fc985f0b636729", func := "loop.example/g00037/laws.FnExactScopesOf", spec := "fnExactScopesOf", unfollowed := true, recurses := true, loops := true, apart := false, narrowed := true }
def FnExactScopesOfUptoSaid : Prop := fnExactScopesOfUptoRow.holds Try.pinned (OpenSpec.upto fnExactScopesOfSpec)

end Rows
end Go.Proofs.Ytkkebcbcbihbiaa
