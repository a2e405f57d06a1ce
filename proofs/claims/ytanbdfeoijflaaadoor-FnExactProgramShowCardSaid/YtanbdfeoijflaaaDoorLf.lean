import Derived.Test.YtanbdfeoijflaaaDoorLe
import Derived.Shelf.Strconv.AppendIntPublic10
import Derived.Shelf.Lay
import Derived.Ground.NamesProg
/-! A program as text: strconv's AppendInt, from the shelf. -/
namespace Go.Proofs
open Go.Shelf
shelf_lay LaysM.n176 Nm 176 at Tryd as Tryd.laysAI
end Go.Proofs
namespace Go.Proofs.YtanbdfeoijflaaaDoor
open Go.RowKit Go.Deep Go.Lib Go.Shelf
set_option linter.unusedVariables false
set_option maxRecDepth 100000
set_option linter.unusedSimpArgs false

theorem int47 (B n : Nat) (i : Int) (h0 : -9223372036854775808 ≤ i) (h1 : i ≤ 9223372036854775807) (sv : Value) (xs : List Value) (w : World) (hown : w.ownsRow B 5 1 sv n xs) (hBw : B ≤ w.heap.size) (hlim : n + 21 ≤ 140737488355328)
    (htab : Lib.TabBelow Tryd.prog B w "internal/strconv.uint64pow10" .u64 Lib.pow10Tab) :
    Calls Tryd.prog 47 #[sv, .int .i64 i, .int .i64 10] w fun e w' => ∃ v', e = .returned v' ∧ w'.ownsRow B 5 1 v' (n + (Lib.itoa i).length) (xs ++ Lib.byteCells (Lib.itoa i)) ∧ RowKit.Below B w w' ∧ Lib.OthersKept 5 none w w' := Any.strconv_AppendInt_10 Tryd.laysAI B n i h0 h1 sv xs w hown hBw hlim htab
/-- Bytes that were added: nothing of another kind was touched. -/
theorem TxA.kept {B : Nat} {w0 W W' : World} {v v' : Value} {xs ys : List UInt8} (h : TxA B w0 W v xs) (ho : W'.ownsRow B 5 1 v' ys.length (byteCells ys)) (hg : W.grownBy W' v.ownBlock) : TxA B w0 W' v' ys ∧ OthersKept 5 none W W' := by
  refine ⟨h.grown (Below.refl _ _) hg ho, (OthersKept.refl 5 none W).grown hg fun g hgv => ?_⟩
  rcases h.own.2 with ⟨e, _⟩ | ⟨g', cap, cur, e, _, r3, _⟩
  · rw [e] at hgv; cases hgv
  · rw [e] at hgv
    have hgg : g' = g := by injection hgv
    subst hgg
    exact ⟨cur, _, r3⟩
theorem TxA.word {B : Nat} {w0 W : World} {v : Value} {xs : List UInt8} (h : TxA B w0 W v xs) (ys : List UInt8) (M : List UInt8) (hM : xs ++ ys = M) (h63 : xs.length + ys.length ≤ 140737488355328) :
    ∃ a c W', (Builtin.append_ #[35, 9] 35 #[v, .string (bs ys)]).run Tryd.prog W = .ok (.slice a M.length c) W' ∧ TxA B w0 W' (.slice a M.length c) M ∧ OthersKept 5 none W W' := by
  subst hM
  obtain ⟨a, c, W', hr, ho, hg⟩ := append_txt h.own ys 35 h63 h.bz
  exact ⟨a, c, W', hr, h.kept ho hg⟩
theorem itoa_nat (m : Nat) : itoa (m : Int) = decDigits m := by
  unfold itoa
  rw [if_neg (by omega), Int.toNat_natCast]
theorem TxA.num {B : Nat} {w0 W : World} {v : Value} {xs : List UInt8} (h : TxA B w0 W v xs) (m : Nat) (M : List UInt8) (hM : xs ++ decDigits m = M) (hm : m ≤ 1000000000) (hx : xs.length ≤ 1000000000000) (ht : Lib.TabBelow Tryd.prog B w0 "internal/strconv.uint64pow10" .u64 Lib.pow10Tab) :
    Calls Tryd.prog 47 #[v, .int .i64 (m : Nat), .int .i64 10] W fun e W' => ∃ a c, e = .returned (.slice a M.length c) ∧ TxA B w0 W' (.slice a M.length c) M ∧ OthersKept 5 none W W' := by
  subst hM
  refine Calls.mono (int47 B xs.length (m : Int) (by omega) (by omega) v (byteCells xs) W h.own h.bz (by omega) (ht.on h.bel)) ?_
  rintro e W' ⟨v', rfl, ho, hb, hk⟩
  rw [itoa_nat] at ho
  have e1 : xs.length + (decDigits m).length = (xs ++ decDigits m).length := by rw [List.length_append]
  have e2 : byteCells xs ++ byteCells (decDigits m) = byteCells (xs ++ decDigits m) := by simp [byteCells]
  rw [e1, e2] at ho
  obtain ⟨a, c, rfl⟩ := own_ne ho
  exact ⟨a, c, rfl, ⟨ho, h.bel.trans hb, Nat.le_trans h.bz hb.size⟩, hk⟩
end Go.Proofs.YtanbdfeoijflaaaDoor
