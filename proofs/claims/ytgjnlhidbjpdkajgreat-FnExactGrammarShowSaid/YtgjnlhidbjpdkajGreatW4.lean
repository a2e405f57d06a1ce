import Derived.Test.YtgjnlhidbjpdkajGreatW3
import Derived.Test.YtgjnlhidbjpdkajGreatS6
import Derived.Lib.AppendStr
/-! The program's writer: where it stands, and what else stays as it is. -/
namespace Go.Proofs.YtgjnlhidbjpdkajGreat
open Go.RowKit Go.Deep Go.Lib
set_option linter.unusedVariables false
set_option maxRecDepth 100000
set_option linter.unusedSimpArgs false

/-- Bytes as cells. -/
def bc (l : List UInt8) : List Value := l.map fun b => Value.int .u8 b.toNat
theorem bc_append (x y : List UInt8) : bc (x ++ y) = bc x ++ bc y := by simp [bc]
theorem bc_length (l : List UInt8) : (bc l).length = l.length := by simp [bc]
theorem bc_str (s : ByteArray) : strCells s = bc s.data.toList := rfl
theorem info5 : (Tryz.prog.info? 5).map (fun i => (i.zero, i.size, i.bytes)) = some (some (.int .u8 0), 1, 1) := by kernel_rfl
theorem info_parts5 : ∃ i, Tryz.prog.info? 5 = some i ∧ i.zero = some (.int .u8 0) ∧ i.size = 1 ∧ i.bytes = 1 := by
  obtain ⟨i, hi, hz⟩ := Option.map_eq_some_iff.1 info5
  simp only [Prod.mk.injEq] at hz
  exact ⟨i, hi, hz⟩
theorem dt_append (a b : ByteArray) : (a ++ b).data.toList = a.data.toList ++ b.data.toList := by simp
theorem dt_length (a : ByteArray) : a.data.toList.length = a.size := rfl

/-- It is no row of bytes. -/
def NoB (w : World) (b : Nat) : Prop := ∀ cs z, w.heap[b]? ≠ some (.cells cs 5 z)
/-- Below p all is as it was; from there on, all but p and rows of bytes. -/
structure Fr (p : Nat) (w w' : World) : Prop where
  bel : Below p w w'
  kept : ∀ b, b < w.heap.size → b ≠ p → NoB w b → w'.heap[b]? = w.heap[b]?
theorem Fr.refl (p : Nat) (w : World) : Fr p w w := ⟨Below.refl _ _, fun _ _ _ _ => rfl⟩
theorem Fr.trans {p : Nat} {a b c : World} (h : Fr p a b) (k : Fr p b c) : Fr p a c := by
  refine ⟨h.bel.trans k.bel, fun i hi hp hn => ?_⟩
  have e := h.kept i hi hp hn
  rw [k.kept i (Nat.lt_of_lt_of_le hi h.bel.size) hp (fun cs z hz => hn cs z (by rw [← e]; exact hz)), e]
theorem Fr.of_below {p : Nat} {w w' : World} (h : Below w.heap.size w w') (hp : p ≤ w.heap.size) : Fr p w w' := ⟨h.mono hp, fun b hb _ _ => h.block b hb⟩
theorem Fr.below {p : Nat} {a w w' : World} (h : Fr p w w') (ha : Below a.heap.size a w) (hp : a.heap.size ≤ p) : Below a.heap.size a w' := ha.trans (h.bel.mono hp)
theorem Fr.box {p g T : Nat} {w w' : World} {cs : List Value} (h : Fr p w w') (hb : Box w g T cs) (hg : g ≠ p) (hT : T ≠ 5) : Box w' g T cs := by
  refine hb.keep (h.kept g hb.lt hg ?_)
  intro c z e
  obtain ⟨c', e', _⟩ := hb.ex
  rw [e'] at e
  cases e
  exact hT rfl
theorem Fr.set {p : Nat} (w : World) (o : Nat) (u : Value) : Fr p w (w.setCell ⟨p, o, none⟩ u) :=
  ⟨Below.setCell (p := ⟨p, o, none⟩) (Below.refl p w) (by show p ≤ p; omega) u, fun b _ hp _ => blk_setCell_other _ _ _ _ (by exact hp)⟩
theorem Fr.grown {p B n : Nat} {w w' : World} {v : Value} {xs : List Value} (ho : w.ownsRow B 5 1 v n xs) (hg : w.grownBy w' v.ownBlock) (hB : p ≤ B) (hp : p ≤ w.heap.size) : Fr p w w' := by
  refine ⟨(Below.refl _ _).grown hg hp (fun k hk => by have := (World.ownsRow.lt ho k hk).1; omega), fun b hb _ hn => hg.block b hb (fun e => ?_)⟩
  obtain ⟨_, h⟩ := ho
  rcases h with ⟨rfl, _⟩ | ⟨g, cap, cur, rfl, _, hcur, _⟩
  · simp [Value.ownBlock] at e
  · simp [Value.ownBlock] at e
    subst e
    exact hn _ _ hcur
theorem Fr.drew {p : Nat} (w : World) : Fr p w w.drew := ⟨(Below.refl _ _).drew, fun _ _ _ _ => rfl⟩

/-- The writer in its block: the grammar's cells, what is written, whether the next word is glued. -/
def Wst (p : Nat) (gc : List Value) (out : List UInt8) (gl : Bool) (w : World) : Prop :=
  gc.length = 5 ∧ ∃ a cap, Box w p 61 (gc ++ [.slice a out.length cap, .bool gl]) ∧ w.ownsRow (p + 1) 5 1 (.slice a out.length cap) out.length (bc out)
theorem Wst.lt {p : Nat} {gc : List Value} {out : List UInt8} {gl : Bool} {w : World} (h : Wst p gc out gl w) : p < w.heap.size := by
  obtain ⟨_, a, cap, h, _⟩ := h
  exact h.lt
/-- The text that is to be written so far stands there, or a begin that is too long already. -/
def Wr (p : Nat) (gc : List Value) (T : ByteArray) (G : Bool) (w : World) : Prop :=
  ∃ out gl, Wst p gc out gl w ∧ out.length ≤ T.size ∧ (out = T.data.toList ∧ gl = G ∨ 6000 < out.length)
/-- A word more. -/
def wAdd (T : ByteArray) (G : Bool) (x : ByteArray) : ByteArray := T ++ (if G || endB x then ⟨#[]⟩ else ⟨#[32]⟩) ++ x
def begB (x : ByteArray) : Bool := begK x != 0
theorem wAdd_size (T : ByteArray) (G : Bool) (x : ByteArray) : T.size + x.size ≤ (wAdd T G x).size ∧ (wAdd T G x).size ≤ T.size + 1 + x.size := by
  have h0 : (ByteArray.mk #[]).size = 0 := rfl
  have h1 : (ByteArray.mk #[32]).size = 1 := rfl
  unfold wAdd
  split <;> simp only [ByteArray.size_append, h0, h1] <;> omega
end Go.Proofs.YtgjnlhidbjpdkajGreat
