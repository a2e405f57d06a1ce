/-
  DERIVED. GIVEN WITH THE SEED: THE CARDS: each row of YtjpjjfgdgieapaaDoorRows.lean that lists a variable, with what it lists TIED to the program's text (the seventh form; the later family's looks); each row that meets fmt, with fmt's text TOLD by the authors' own Lean function (tested against real Go, not proved from fmt's source: count such statements apart). THE CARD IS WHAT COUNTS. Prove the row's statement (the work); the ties are given (YtjpjjfgdgieapaaDoorTie.lean); close each card by the builder's one call (the guide's Derived/Test/ToyasCard.lean, 'card_holds'). Laid BY PROGRAM, IN A SANDBOX (cutbox-door.mjs). By AI agents, Wed Nov 11 2026. No macro, syntax, notation, axiom, sorry.
-/
import Derived.Test.YtjpjjfgdgieapaaDoorRows
import GoSem.ClaimSeven
namespace Go.Proofs.YtjpjjfgdgieapaaDoor
namespace Rows

/-- THE TIED CARD OF 'laws.FnExactFactsOf'. -/
def fnExactFactsOfCard : Claim7 := { stood := { row := fnExactFactsOfRow, standIns := [], harness := (true, "3036362dba54da1b630e0b4b90c86f31a06156a67699c2325ee4835a8d4865ad"), looks := false }, kinds := [], alts := [], laidByText := true, laidKinds := [.data], laidTests := true, laidLooks := .later }
def FnExactFactsOfCardSaid : Prop := Claim7.holds Tryd.pinned (.plain (OpenSpec.ofChange fnExactFactsOfSpec)) fnExactFactsOfCard

/-- THE SECOND FORM's CARD OF 'laws.FnExactFactsOf'. -/
def fnExactFactsOfUptoCard : Claim7 := { stood := { row := fnExactFactsOfUptoRow, standIns := [], harness := (true, "3036362dba54da1b630e0b4b90c86f31a06156a67699c2325ee4835a8d4865ad"), looks := false }, kinds := [], alts := [], laidByText := true, laidKinds := [.data], laidTests := true, laidLooks := .later }
def FnExactFactsOfUptoCardSaid : Prop := Claim7.holds Tryd.pinned (.plain (OpenSpec.upto fnExactFactsOfSpec)) fnExactFactsOfUptoCard
end Rows
end Go.Proofs.YtjpjjfgdgieapaaDoor
