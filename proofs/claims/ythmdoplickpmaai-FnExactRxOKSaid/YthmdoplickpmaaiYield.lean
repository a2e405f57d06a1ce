import Derived.Test.YthmdoplickpmaaiForm
import Derived.Test.YthmdoplickpmaaiTree
import Derived.Lib.AppendStr
namespace Go.Proofs.Ythmdoplickpmaai
open Go.RowKit Go.Deep Go.Lib
set_option linter.unusedVariables false
set_option maxRecDepth 100000
set_option linter.unusedSimpArgs false

/-- A list of bytes, as a string; as cells. -/
def bs (l : List UInt8) : ByteArray := ⟨l.toArray⟩
def bc (l : List UInt8) : List Value := l.map fun b => Value.int .u8 b.toNat
theorem bs_data (s : ByteArray) : bs s.data.toList = s := rfl
theorem bs_append (x y : List UInt8) : bs x ++ bs y = bs (x ++ y) := ByteArray.mk_append_mk x y
theorem bs_size (l : List UInt8) : (bs l).size = l.length := by show l.toArray.size = _; simp
theorem bc_append (x y : List UInt8) : bc (x ++ y) = bc x ++ bc y := by simp [bc]
theorem bc_length (l : List UInt8) : (bc l).length = l.length := by simp [bc]
theorem bc_str (s : ByteArray) : strCells s = bc s.data.toList := rfl
theorem bc_bs (l : List UInt8) : strCells (bs l) = bc l := by simp [bc_str, bs]

namespace Tr
/-- The texts of the leaves, in order (of a tree that is right). -/
def yl : Tr → List UInt8 := fold fun _ x _ ks => x.data.toList ++ ks.flatten
def ylL (k : List Tr) : List UInt8 := (k.map yl).flatten
theorem yl_mk (n x : ByteArray) (l : Bool) (k : List Tr) : yl ⟨n, x, l, k⟩ = x.data.toList ++ ylL k := by
  unfold ylL yl; rw [fold_mk]
theorem ylL_take_succ (k : List Tr) (i : Nat) (h : i < k.length) : ylL (k.take (i + 1)) = ylL (k.take i) ++ yl k[i] := by
  rw [List.take_succ_eq_append_getElem h]; simp only [ylL, List.map_append, List.flatten_append, List.map_cons, List.map_nil, List.flatten_cons, List.flatten_nil, List.append_nil]
theorem ylL_len (k : List Tr) (h : ∀ i (hi : i < k.length), (yl k[i]).length ≤ wt k[i]) : (ylL k).length ≤ wtL k := by
  induction k with
  | nil => simp [ylL]
  | cons t r ih =>
    have h0 := h 0 (by simp)
    have h1 := ih (fun i hi => h (i + 1) (by simp; omega))
    simp [ylL, wtL] at h0 h1 ⊢; omega
theorem yl_len (t : Tr) : (yl t).length ≤ wt t := by
  refine ind (P := fun t => (yl t).length ≤ wt t) ?_ t
  intro n x l k ih
  rw [yl_mk, wt_mk, List.length_append]
  have := ylL_len k ih
  have : x.data.toList.length = x.size := rfl
  omega
theorem ylL_take_len (k : List Tr) (i : Nat) : (ylL (k.take i)).length ≤ wtL k := by
  have h1 := ylL_len (k.take i) (fun j hj => yl_len _)
  have h2 := wtL_take_le k i
  omega
end Tr

theorem info5 : (Try.prog.info? 5).map (fun i => (i.zero, i.size, i.bytes)) = some (some (.int .u8 0), 1, 1) := by kernel_rfl

/-- What a call that appends leaves behind: the row that it hands on holds so much more; below B nothing has turned. -/
def Wrote (B : Nat) (w : World) (n : Nat) (xs : List Value) (l : List UInt8) (e : Ending) (w' : World) : Prop :=
  ∃ v', e = .returned v' ∧ w'.ownsRow B 5 1 v' (n + l.length) (xs ++ bc l) ∧ Below B w w'

theorem own_slice {w : World} {base : Nat} {e : TypeId} {size : Nat} {v : Value} {n : Nat} {xs : List Value} (h : w.ownsRow base e size v n xs) : ∃ a cap, v = .slice a n cap := by
  obtain ⟨_, h⟩ := h
  rcases h with ⟨rfl, rfl⟩ | ⟨g, cap, _, rfl, _⟩
  · exact ⟨_, _, rfl⟩
  · exact ⟨_, _, rfl⟩

/-- A method that appends, called through the interface. -/
def Invoked (fl fn : Nat) (u v : Value) (w : World) (R : Ending → World → Prop) : Prop :=
  (∃ X, u = .iface 83 X ∧ Calls Try.prog fl #[X, v] w R) ∨ (∃ X, u = .iface 86 X ∧ Calls Try.prog fn #[X, v] w R)

end Go.Proofs.Ythmdoplickpmaai
