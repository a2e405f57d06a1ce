import Derived.WalkKit
import Derived.Deep.Slices
/-! Trees as data, and how one lies in memory. Nothing here hangs on the program. -/
namespace Go.Proofs.Ytledclkmeikgdaa.T
set_option linter.unusedVariables false
set_option linter.unusedSimpArgs false
open Go.RowKit

theorem ret_int {k : IntKind} {a b : Int} (h : a = b) : Ending.returned (.int k a) = .returned (.int k b) := by rw [h]
theorem ret_bool {a b : Bool} (h : a = b) : Ending.returned (.bool a) = .returned (.bool b) := by rw [h]
/-- A tree, as data. -/
structure Tr where
  name : ByteArray
  text : ByteArray
  leaf : Bool
  kids : List Tr

namespace Tr
/-- What is worked out of a tree from its Kids' own. -/
def fold {α : Type} (f : ByteArray → ByteArray → Bool → List α → α) : Tr → α
  | ⟨n, x, l, k⟩ => f n x l (k.attach.map fun t => have := List.sizeOf_lt_of_mem t.2; fold f t.1)
theorem fold_mk {α : Type} (f : ByteArray → ByteArray → Bool → List α → α) (n x : ByteArray) (l : Bool) (k : List Tr) : fold f ⟨n, x, l, k⟩ = f n x l (k.map (fold f)) := by
  rw [fold]; simp

/-- Induction over a tree: of a tree it may be taken to hold of its Kids. -/
theorem ind {P : Tr → Prop} (h : ∀ n x l k, (∀ i (hi : i < k.length), P k[i]) → P (.mk n x l k)) : ∀ t, P t := fun t =>
  Tr.rec (motive_1 := P) (motive_2 := fun k => ∀ i (hi : i < k.length), P k[i]) (fun n x l k ih => h n x l k ih) (fun i hi => absurd hi (Nat.not_lt_zero _))
    (fun a r ha hr i hi => by cases i with | zero => exact ha | succ i => exact hr i (by simpa using hi)) t

/-- The tree as a Go value, its list of Kids being the slice v. -/
abbrev val (t : Tr) (v : Value) : Value := .agg #[.string t.name, .string t.text, .bool t.leaf, v]
end Tr

/-- One storey: the tree's own facts, its Kids by L. -/
def LiesBy (L : Tr → Value → Prop) (w : World) (S : Nat → Prop) (t : Tr) (v : Value) : Prop :=
  ∃ (a : Option Addr) (cap b off : Nat) (sv : Nat → Value), v = .slice a t.kids.length cap ∧ t.name.size ≤ maxLen ∧ t.text.size ≤ maxLen ∧
    t.kids.length ≤ cap ∧ cap ≤ maxLen ∧ (0 < t.kids.length → a = some ⟨b, off, none⟩ ∧ S b) ∧
    (∀ i (hi : i < t.kids.length), w.cell? ⟨b, off + i * 4, none⟩ = some (.string t.kids[i].name) ∧ w.cell? ⟨b, off + i * 4 + 1, none⟩ = some (.string t.kids[i].text) ∧
        w.cell? ⟨b, off + i * 4 + 2, none⟩ = some (.bool t.kids[i].leaf) ∧ w.cell? ⟨b, off + i * 4 + 3, none⟩ = some (sv i)) ∧
    ∀ i (hi : i < t.kids.length), L t.kids[i] (sv i)

/-- .. so many storeys at most. -/
def LiesN (w : World) (S : Nat → Prop) : Nat → Tr → Value → Prop
  | 0 => fun _ _ => False
  | d + 1 => LiesBy (LiesN w S d) w S

/-- THE TREE t LIES IN w, ITS KIDS BEHIND THE SLICE v, in blocks of S. -/
def Lies (w : World) (S : Nat → Prop) (t : Tr) (v : Value) : Prop := ∃ d, LiesN w S d t v

theorem LiesBy.imp {L L' : Tr → Value → Prop} {w : World} {S : Nat → Prop} {t : Tr} {v : Value} (hL : ∀ i (hi : i < t.kids.length) u, L t.kids[i] u → L' t.kids[i] u) (h : LiesBy L w S t v) : LiesBy L' w S t v := by
  obtain ⟨a, cap, b, off, sv, hv, hn, hx, hc, hm, ha, hcell, hk⟩ := h
  exact ⟨a, cap, b, off, sv, hv, hn, hx, hc, hm, ha, hcell, fun i hi => hL i hi _ (hk i hi)⟩

theorem LiesN.succ {w : World} {S : Nat → Prop} : ∀ (d : Nat) {t : Tr} {v : Value}, LiesN w S d t v → LiesN w S (d + 1) t v
  | 0, _, _, h => False.elim h
  | d + 1, _, _, h => LiesBy.imp (fun _ _ _ hk => LiesN.succ d hk) h

theorem LiesN.up {w : World} {S : Nat → Prop} {d d' : Nat} (hd : d ≤ d') {t : Tr} {v : Value} (h : LiesN w S d t v) : LiesN w S d' t v := by
  induction hd with
  | refl => exact h
  | step _ ih => exact LiesN.succ _ ih

/-- A tree's storey, opened. -/
theorem Lies.out {w : World} {S : Nat → Prop} {t : Tr} {v : Value} (h : Lies w S t v) : LiesBy (Lies w S) w S t v := by
  obtain ⟨d, h⟩ := h
  cases d with
  | zero => exact False.elim h
  | succ d => exact LiesBy.imp (fun _ _ _ hk => ⟨d, hk⟩) h

/-- .. and shut. -/
theorem Lies.shut {w : World} {S : Nat → Prop} {t : Tr} {v : Value} (h : LiesBy (Lies w S) w S t v) : Lies w S t v := by
  obtain ⟨a, cap, b, off, sv, hv, hn, hx, hc, hm, ha, hcell, hk⟩ := h
  obtain ⟨d, hd⟩ := Go.Deep.fuel_lt (n := t.kids.length) (q := fun i m => ∀ hi : i < t.kids.length, LiesN w S m t.kids[i] (sv i))
    (fun i a b hab h hi => (h hi).up hab) (fun i hi => by obtain ⟨m, hm⟩ := hk i hi; exact ⟨m, fun _ => hm⟩)
  exact ⟨d + 1, a, cap, b, off, sv, hv, hn, hx, hc, hm, ha, hcell, fun i hi => hd i hi hi⟩

theorem Lies.form {w : World} {S : Nat → Prop} {t : Tr} {v : Value} (h : Lies w S t v) : ∃ a len cap, v = .slice a len cap := by
  obtain ⟨a, cap, b, off, sv, hv, _⟩ := h.out
  exact ⟨_, _, _, hv⟩

/-- What lies so, lies so in another world, in other blocks: asked storey by storey. -/
theorem Lies.carry {w w' : World} {S S' : Nat → Prop} (hS : ∀ b, S b → b < w.heap.size → S' b) (hcl : ∀ b o, S b → b < w.heap.size → w'.cell? ⟨b, o, none⟩ = w.cell? ⟨b, o, none⟩) (hlt : ∀ b o v, w.cell? ⟨b, o, none⟩ = some v → b < w.heap.size)
    {t : Tr} : ∀ {v : Value}, Lies w S t v → Lies w' S' t v := by
  refine Tr.ind (P := fun t => ∀ {v : Value}, Lies w S t v → Lies w' S' t v) ?_ t
  intro n x l k ih v h
  obtain ⟨a, cap, b, off, sv, hv, hn, hx, hc, hm, ha, hcell, hk⟩ := h.out
  refine Lies.shut ⟨a, cap, b, off, sv, hv, hn, hx, hc, hm, fun h0 => ?_, fun i hi => ?_, fun i hi => ih i hi (hk i hi)⟩
  · exact ⟨(ha h0).1, hS _ (ha h0).2 (hlt _ _ _ (hcell 0 h0).1)⟩
  · have hb := fun o => hcl b o (ha (by omega)).2 (hlt _ _ _ (hcell i hi).1)
    rw [hb, hb, hb, hb]
    exact hcell i hi

theorem lt_of_cell {w : World} {a : Addr} {v : Value} (h : w.cell? a = some v) : a.block < w.heap.size := by
  apply Decidable.byContradiction
  intro hn
  have : w.heap[a.block]? = none := by simp; omega
  simp [World.cell?, this] at h

theorem Lies.mono {w : World} {S S' : Nat → Prop} (hS : ∀ b, S b → S' b) {t : Tr} {v : Value} (h : Lies w S t v) : Lies w S' t v :=
  h.carry (fun b hb _ => hS b hb) (fun _ _ _ _ => rfl) (fun _ _ _ h => lt_of_cell h)

/-- Every block that it lies in is there. -/
theorem Lies.lt {w : World} {S : Nat → Prop} {t : Tr} {v : Value} (h : Lies w S t v) : Lies w (fun b => S b ∧ b < w.heap.size) t v :=
  h.carry (fun _ hb hl => ⟨hb, hl⟩) (fun _ _ _ _ => rfl) (fun _ _ _ h => lt_of_cell h)

/-- Where its blocks hold what they held, it lies there still. -/
theorem Lies.keep {w w' : World} {S : Nat → Prop} (hS : ∀ b, S b → w'.heap[b]? = w.heap[b]?) {t : Tr} {v : Value} (h : Lies w S t v) : Lies w' S t v :=
  h.carry (fun _ hb _ => hb) (fun b _ hb _ => World.cell?_of_block (w := w) (hS b hb)) (fun _ _ _ h => lt_of_cell h)

theorem Lies.still {w w' : World} {S : Nat → Prop} {t : Tr} {v : Value} (h : Lies w S t v) (hb : Below w.heap.size w w') : Lies w' S t v :=
  (h.lt.keep (fun b hb' => hb.block b hb'.2)).mono (fun _ h => h.1)

/-- A call behind a new block. -/
theorem bel_box {w w1 : World} {o : Obj} (h : Below (w.alloc o).heap.size (w.alloc o) w1) : Below w.heap.size w w1 :=
  ((Below.refl _ _).alloc (Nat.le_refl _) o).trans (h.mono (by simp))

theorem bel_alloc (w : World) (o : Obj) : Below w.heap.size w (w.alloc o) := (Below.refl _ _).alloc (Nat.le_refl _) o

theorem bcell {W w1 : World} (hb : Below W.heap.size W w1) : (∀ b o, b < W.heap.size → w1.cell? ⟨b, o, none⟩ = W.cell? ⟨b, o, none⟩) ∧ (∀ b o, b < W.heap.size → w1.frozen? ⟨b, o, none⟩ = W.frozen? ⟨b, o, none⟩) :=
  ⟨fun b o h => hb.cell (p := ⟨b, o, none⟩) h, fun b o h => hb.frozen (p := ⟨b, o, none⟩) h⟩

/-- Two steps, each below its own beginning. -/
theorem bel_trans {a b c : World} (h : Below a.heap.size a b) (k : Below b.heap.size b c) : Below a.heap.size a c := h.trans (k.mono h.size)

/-- A box of four cells. -/
def Four (w : World) (g : Nat) (c0 c1 c2 c3 : Value) : Prop := w.cell? ⟨g, 0, none⟩ = some c0 ∧ w.cell? ⟨g, 1, none⟩ = some c1 ∧ w.cell? ⟨g, 2, none⟩ = some c2 ∧ w.cell? ⟨g, 3, none⟩ = some c3
end Go.Proofs.Ytledclkmeikgdaa.T
