import Derived.Test.YtnmdgbnbnpibhaaAEq
import Derived.Test.YtnmdgbnbnpibhaaSbq
import Derived.Test.YtnmdgbnbnpibhaaIbo
import Derived.BigQuiet
import Derived.Deep.QuietTactic
/-! Pure: attributes that are right, as the specification asks. -/
namespace Go.Proofs.Ytnmdgbnbnpibhaa
open Go.RowKit Go.Deep
set_option linter.unusedVariables false
set_option maxRecDepth 100000
set_option linter.unusedSimpArgs false

def noPd : Pd := ⟨0, [], ByteArray.empty, 0, 0⟩
def pdN (d : Bn) (p : Int) : Pd := (d.prods[p.toNat]?).getD noPd
def inN (l : List Int) (i : Int) : Int := (l[i.toNat]?).getD 0
def atN (g : DAg) (a : Int) : DAttr := (g.attrs[a.toNat]?).getD ⟨0, ByteArray.empty, false⟩
theorem pdN_eq {d : Bn} {i : Nat} (h : i < d.prods.length) : pdN d (i : Int) = d.prods[i] := by simp [pdN, h]
theorem inN_eq {l : List Int} {i : Nat} (h : i < l.length) : inN l (i : Int) = l[i] := by simp [inN, h]
theorem atN_eq {g : DAg} {i : Nat} (h : i < g.attrs.length) : atN g (i : Int) = g.attrs[i] := by simp [atN, h]
/-- The symbol at a Pos of a Prod, or -1. -/
def symB (d : Bn) (p pos : Int) : Int :=
  if (wiB p 0 ((d.prods.length : Int) - 1) && wiB pos 0 ((pdN d p).right.length : Int)) = true then (if pos = 0 then (pdN d p).left else inN (pdN d p).right (pos - 1)) else -1
/-- An attribute is of the Non at a Pos. -/
def hasB (d : Bn) (g : DAg) (p pos a : Int) : Bool := wiB a 0 ((g.attrs.length : Int) - 1) && decide (symB d p pos = (d.terms.length : Int) + (atN g a).non)
/-- How many Args an Op has. -/
def argN (op : Int) : Int := if op = 1 then 1 else if op = 2 ∨ op = 3 ∨ op = 4 ∨ op = 5 then 2 else if op = 6 then 3 else -1
/-- An Arg is right. -/
def argB (d : Bn) (g : DAg) (p : Int) (r : DRef) : Bool :=
  if r.pos = -1 then (decide (r.attr = 0) && wiB r.n (-1000000000) 1000000000) else
  if symB d p r.pos < 0 ∨ r.n ≠ 0 then false else
  if symB d p r.pos < (d.terms.length : Int) then decide (r.attr = 0) else hasB d g p r.pos r.attr && ((atN g r.attr).down == decide (r.pos = 0))
def hitB (p pos a : Int) (e : DEq) : Bool := decide (e.prod = p) && (decide (e.pos = pos) && decide (e.attr = a))
/-- How many Eqs an attribute at a Pos of a Prod has. -/
def cntE (g : DAg) (p pos a : Int) : Nat := (g.eqs.filter (hitB p pos a)).length
/-- An Eq is right. -/
def eqB (d : Bn) (g : DAg) (e : DEq) : Bool := hasB d g e.prod e.pos e.attr && (!((atN g e.attr).down == decide (e.pos = 0)) && (decide (argN e.op = (e.args.length : Int)) && e.args.all (argB d g e.prod)))
/-- The attribute at a place is right. -/
def attB (d : Bn) (g : DAg) (i : Nat) : Bool := wiB (atN g i).non 0 ((d.nons.length : Int) - 1) && (nmB (atN g i).name && (List.range i).all fun k => !(decide ((atN g k).non = (atN g i).non) && decide ((atN g k).name.data = (atN g i).name.data)))
/-- What is needed at a Pos of a Prod is there just once. -/
def oncB (d : Bn) (g : DAg) (p pos a : Nat) : Bool := !(hasB d g p pos a && (!((atN g a).down == decide (((pos : Nat) : Int) = 0)) && !decide (cntE g p pos a = 1)))
/-- Attributes are right, as the specification asks. -/
def agB (d : Bn) (g : DAg) : Bool := bnB d && (decide (g.attrs.length ≤ 20) && (decide (g.eqs.length ≤ 300) && ((List.range g.attrs.length).all (attB d g) && (g.eqs.all (eqB d g) && (List.range d.prods.length).all fun p => (List.range ((pdN d p).right.length + 1)).all fun pos => (List.range g.attrs.length).all fun a => oncB d g p pos a))))
end Go.Proofs.Ytnmdgbnbnpibhaa
