import Derived.Test.YthmdoplickpmaahOutw
import Derived.Test.YthmdoplickpmaahScan5
/-! A tree as the scanner makes it: a value of the program's interface type; a node without Kids has none at all. -/
namespace Go.Proofs.Ythmdoplickpmaah
open Go.RowKit Go.Deep Go.Lib
set_option linter.unusedVariables false
set_option maxRecDepth 100000
set_option linter.unusedSimpArgs false

def FrmBy (L : Tr → Value → Prop) (w : World) (S : Nat → Prop) (t : Tr) (u : Value) : Prop :=
  (t.leaf = true ∧ t.kids = [] ∧ t.name.size ≤ maxLen ∧ t.text.size ≤ maxLen ∧ u = .iface 74 (.agg #[.string t.name, .string t.text])) ∨
  (t.leaf = false ∧ t.text = ByteArray.empty ∧ t.name.size ≤ maxLen ∧ t.kids.length ≤ 1048576 ∧ ∃ (a : Option Addr) (cap b : Nat) (fv : Nat → Value), u = .iface 77 (.agg #[.string t.name, .slice a t.kids.length cap]) ∧ t.kids.length ≤ cap ∧ cap ≤ maxLen ∧ (0 < t.kids.length → a = some ⟨b, 0, none⟩ ∧ S b ∧ b < w.heap.size) ∧
    (∀ i (hi : i < t.kids.length), w.cell? ⟨b, i, none⟩ = some (fv i)) ∧ ∀ i (hi : i < t.kids.length), L t.kids[i] (fv i))
def FrmN (w : World) (S : Nat → Prop) : Nat → Tr → Value → Prop
  | 0 => fun _ _ => False
  | d + 1 => FrmBy (FrmN w S d) w S
def Frm (w : World) (S : Nat → Prop) (t : Tr) (u : Value) : Prop := ∃ d, FrmN w S d t u
theorem FrmBy.imp {L L' : Tr → Value → Prop} {w : World} {S : Nat → Prop} {t : Tr} {u : Value} (hL : ∀ i (hi : i < t.kids.length) u, L t.kids[i] u → L' t.kids[i] u) (h : FrmBy L w S t u) : FrmBy L' w S t u := by
  rcases h with h | ⟨h1, h2, h3, h4, a, cap, b, fv, hu, hc, hm, hS, hcell, hk⟩
  · exact .inl h
  · exact .inr ⟨h1, h2, h3, h4, a, cap, b, fv, hu, hc, hm, hS, hcell, fun i hi => hL i hi _ (hk i hi)⟩
theorem FrmN.succ {w : World} {S : Nat → Prop} : ∀ (d : Nat) {t : Tr} {v : Value}, FrmN w S d t v → FrmN w S (d + 1) t v
  | 0, _, _, h => False.elim h
  | d + 1, _, _, h => FrmBy.imp (fun _ _ _ hk => FrmN.succ d hk) h
theorem FrmN.up {w : World} {S : Nat → Prop} {d d' : Nat} (hd : d ≤ d') {t : Tr} {v : Value} (h : FrmN w S d t v) : FrmN w S d' t v := by
  induction hd with
  | refl => exact h
  | step _ ih => exact FrmN.succ _ ih
theorem Frm.out {w : World} {S : Nat → Prop} {t : Tr} {v : Value} (h : Frm w S t v) : FrmBy (Frm w S) w S t v := by
  obtain ⟨d, h⟩ := h
  cases d with
  | zero => exact False.elim h
  | succ d => exact FrmBy.imp (fun _ _ _ hk => ⟨d, hk⟩) h
theorem Frm.shut {w : World} {S : Nat → Prop} {t : Tr} {v : Value} (h : FrmBy (Frm w S) w S t v) : Frm w S t v := by
  rcases h with h | ⟨h1, h2, h3, h4, a, cap, b, fv, hu, hc, hm, hS, hcell, hk⟩
  · exact ⟨1, .inl h⟩
  · obtain ⟨d, hd⟩ := fuel_lt (n := t.kids.length) (q := fun i m => ∀ hi : i < t.kids.length, FrmN w S m t.kids[i] (fv i))
      (fun i a b hab h hi => (h hi).up hab) (fun i hi => by obtain ⟨m, hm⟩ := hk i hi; exact ⟨m, fun _ => hm⟩)
    exact ⟨d + 1, .inr ⟨h1, h2, h3, h4, a, cap, b, fv, hu, hc, hm, hS, hcell, fun i hi => hd i hi hi⟩⟩
theorem Frm.carry {w w' : World} {S S' : Nat → Prop} (hS : ∀ b, S b → b < w.heap.size → S' b ∧ b < w'.heap.size) (hcl : ∀ b o, S b → b < w.heap.size → w'.cell? ⟨b, o, none⟩ = w.cell? ⟨b, o, none⟩)
    {t : Tr} : ∀ {v : Value}, Frm w S t v → Frm w' S' t v := by
  refine Tr.ind (P := fun t => ∀ {v : Value}, Frm w S t v → Frm w' S' t v) ?_ t
  intro n x l k ih v h
  rcases h.out with h | ⟨h1, h2, h3, h4, a, cap, b, fv, hu, hc, hm, hSb, hcell, hk⟩
  · exact Frm.shut (.inl h)
  · refine Frm.shut (.inr ⟨h1, h2, h3, h4, a, cap, b, fv, hu, hc, hm, fun h0 => ⟨(hSb h0).1, hS b (hSb h0).2.1 (hSb h0).2.2⟩, fun i hi => ?_, fun i hi => ih i hi (hk i hi)⟩)
    have h0 := hSb (by omega)
    rw [hcl b i h0.2.1 h0.2.2]
    exact hcell i hi
theorem Frm.still {w w' : World} {S : Nat → Prop} {t : Tr} {v : Value} (h : Frm w S t v) (hb : Below w.heap.size w w') : Frm w' S t v :=
  h.carry (fun b hS hlt => ⟨hS, Nat.lt_of_lt_of_le hlt hb.size⟩) (fun b o _ hlt => hb.cell (p := ⟨b, o, none⟩) hlt)
theorem Frm.mono {w : World} {S S' : Nat → Prop} (hS : ∀ b, S b → b < w.heap.size → S' b) {t : Tr} {v : Value} (h : Frm w S t v) : Frm w S' t v :=
  h.carry (fun b hs hlt => ⟨hS b hs hlt, hlt⟩) (fun _ _ _ _ => rfl)
theorem Frm.grown {w w' : World} {S : Nat → Prop} {t : Tr} {v : Value} {row : Option Nat} (h : Frm w S t v) (hg : w.grownBy w' row) (hr : ∀ b, S b → some b ≠ row) : Frm w' S t v :=
  h.carry (fun b hS hlt => ⟨hS, Nat.lt_of_lt_of_le hlt hg.size⟩) (fun b o hs hlt => World.cell?_of_block (w := w) (hg.block b hlt (hr b hs)))
theorem Frm.past {w w' : World} {p B : Nat} {t : Tr} {v : Value} (h : Frm w (fun b => B ≤ b) t v) (ho : Out p (p + 1) w w') (hp : p < B) : Frm w' (fun b => B ≤ b) t v :=
  h.carry (fun b hS hlt => ⟨hS, Nat.lt_of_lt_of_le hlt ho.2.2.2.1⟩) (fun b o hs hlt => World.cell?_of_block (w := w) (ho.2.2.2.2 b hlt (by omega)))
theorem Frm.iface {w : World} {S : Nat → Prop} {t : Tr} {v : Value} (h : Frm w S t v) : ∃ T x, v = .iface T x := by
  rcases h.out with ⟨_, _, _, _, rfl⟩ | ⟨_, _, _, _, _, _, _, _, rfl, _⟩
  · exact ⟨_, _, rfl⟩
  · exact ⟨_, _, rfl⟩
/-- What the call owns stays so where the scanner alone is written. -/
theorem own_past {w w' : World} {B p : Nat} {e : TypeId} {size : Nat} {v : Value} {n : Nat} {xs : List Value} (h : w.ownsRow B e size v n xs) (ho : Out p (p + 1) w w') (hp : p < B) : w'.ownsRow B e size v n xs := by
  refine ⟨h.1, ?_⟩
  rcases h.2 with e | ⟨g, cap', cur, e, hB, hg, rest⟩
  · exact .inl e
  · exact .inr ⟨g, cap', cur, e, hB, (ho.2.2.2.2 g (Array.getElem?_eq_some_iff.1 hg).1 (by omega)).trans hg, rest⟩
/-- A tree was read, or it is a fault. -/
def TGot (r : Except Nat (Tr × Nat)) (B p : Nat) (s : ByteArray) (e : Ending) (w' : World) : Prop := match r with
  | .ok a => ∃ u, e = .returned u ∧ Frm w' (fun b => B ≤ b) a.1 u ∧ Scn w' p s a.2
  | .error j => e = .panicked [flt j]
end Go.Proofs.Ythmdoplickpmaah
