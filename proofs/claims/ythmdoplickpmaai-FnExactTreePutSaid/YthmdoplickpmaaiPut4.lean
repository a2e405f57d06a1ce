import Derived.Test.YthmdoplickpmaaiPut2
import Derived.Lib.SliceRun
namespace Go.Proofs.Ythmdoplickpmaai
open Go.RowKit Go.Deep Go.Lib
set_option linter.unusedVariables false
set_option maxRecDepth 100000
set_option linter.unusedSimpArgs false

theorem method_putL (X : Value) (w : World) : (method 262 83 X "loop.example/g00037/impl.put").run Try.prog w = .ok (124, X) w := by kernel_rfl
theorem method_putN (X : Value) (w : World) : (method 262 86 X "loop.example/g00037/impl.put").run Try.prog w = .ok (129, X) w := by kernel_rfl

theorem nilA_putL (X : Value) (w : World) : (nilAhead 262 83 X "loop.example/g00037/impl.put").run Try.prog w = .ok (some false) w := by kernel_rfl
theorem nilA_putN (X : Value) (w : World) : (nilAhead 262 86 X "loop.example/g00037/impl.put").run Try.prog w = .ok (some false) w := by kernel_rfl

theorem row_of_own {w : World} {B g n cap size : Nat} {e : TypeId} {xs : List Value} (h : w.ownsRow B e size (.slice (some ⟨g, 0, none⟩) n cap) n xs) : B ≤ g ∧ n ≤ cap ∧ cap ≤ maxLen ∧ ∃ f, w.rowIs g e (cap * size) f ∧ ∀ i, i < n * size → some (f i) = xs[i]? := by
  rcases h.2 with ⟨e, _⟩ | ⟨g', cap', cur, e, hB, hg, hnc, hcm, hcs, htake⟩
  · cases e
  · cases e
    refine ⟨hB, hnc, hcm, fun i => (cur[i]?).getD (.bool false), ⟨cur, hg, hcs, fun i hi => by simp [hcs, hi]⟩, fun i hi => ?_⟩
    rw [← htake, List.getElem?_take, if_pos hi]
    have : i < cur.size := by rw [hcs]; exact Nat.lt_of_lt_of_le hi (Nat.mul_le_mul_right _ hnc)
    simp [this]

/-- A list of forms, copied. -/
theorem clone_any (fl : List Value) (b c : Nat) (w : World) (hn : 0 < fl.length) (hl : fl.length ≤ 1048576) (hone : ∀ u ∈ fl, u.oneCell' = true) (hcell : ∀ j u, fl[j]? = some u → w.cell? ⟨b, j, none⟩ = some u) :
    Calls Try.prog 132 #[.slice (some ⟨b, 0, none⟩) fl.length c] w fun e w' => ∃ g cap, e = .returned (.slice (some ⟨g, 0, none⟩) fl.length cap) ∧ w'.ownsRow w.heap.size 53 1 (.slice (some ⟨g, 0, none⟩) fl.length cap) fl.length fl ∧ Below w.heap.size w w' := by
  obtain ⟨i51, hi51, hzz⟩ := Option.map_eq_some_iff.1 info53
  simp only [Prod.mk.injEq] at hzz
  obtain ⟨hz0, hz1, hz2⟩ := hzz
  have hown0 := World.ownsRow_made (base := w.heap.size) (e := 53) (size := 1) w #[] 0 (Nat.le_refl _) (Nat.zero_le _) rfl
  have HO0 := (show Hid _ from hown0); clear hown0
  have HC := (show Hid _ from hcell); clear hcell
  have H1 := (show Hid _ from hone); clear hone
  generalize hm : fl.length = m at *
  have q71 : ∀ (w : World), (binOp .eql 84 (.slice (some ⟨b, 0, none⟩) m c) (.slice none 0 0)).run Try.prog w = .ok (.bool false) w := fun w => Lib.run_eql_slice_nil w _ _ (some ⟨b, 0, none⟩) m c 0 0 Try.underlying84
  go_enter Try.func132, Try.ntmps132
  go_wp2_with (at_builtin; refine wpList_append_lies _ rfl (.tmp 5) (.tmp 6) 84 rfl w.heap.size 53 i51 _ 1 16 Try.underlying84 hi51 hz0 hz1 hz2 rfl (by decide) _ 0 [] rfl HO0.out ⟨b, 0, none⟩ m c fl rfl ?c0 ?c1 ?c2 ?c4 ?c3 (by omega) (by simp) _ rfl ?nx)
  case c1 =>
    intro j u h
    have := HC.out j u h
    refine Eq.trans ?_ this
    exact ((bel_alloc w (.cells #[] 53)).cell (p := ⟨b, j, none⟩) (lt_of_cell this))
  case c2 => exact H1.out
  case c3 => unfold maxLen; omega
  case nx =>
    intro g cap w3 hown3 hgr3 hat3 hlt3
    have hbw := (bel_alloc w (.cells #[] 53)).grown hgr3 (by simp) (fun q hq => by simp [Value.ownBlock] at hq; omega)
    have H3 := (show Hid _ from (⟨hown3, hbw⟩ : _ ∧ _)); clear hown3 hbw hgr3
    go_wp2_with fail
    go_ret
    exact ⟨g, cap, rfl, H3.out.1, H3.out.2⟩

theorem put_leaf (n x : ByteArray) (pa : Option Addr) (m pc T : Nat) (X : Value) (w : World) (hm : m ≤ 2 ^ 63 - 1) : Calls Try.prog 124 #[.agg #[.string n, .string x], .slice pa m pc, .iface T X] w fun e w' => e = .returned (.tuple #[.iface T X, .bool (decide (m = 0))]) ∧ Below w.heap.size w w' := by
  by_cases h0 : m = 0
  · subst h0
    go_enter Try.func124, Try.ntmps124
    go_wp2_with fail
    go_ret2
    exact ⟨rfl, bel_alloc _ _⟩
  · go_enter Try.func124, Try.ntmps124
    go_wp2_with fail
    go_ret2
    have e : (decide (m = 0)) = false := by simp [h0]
    rw [e]
    refine ⟨?_, bel_alloc _ _⟩
    simp
    omega

/-- A form whose list was copied, with one form written anew. -/
theorem form_put {t s' : Tr} {ii g cap : Nat} {fv : Nat → Value} {X : Value} {w2 w3 : World} {S : Nat → Prop} {fl : List Value} (hle : t.leaf = false) (hn : t.name.size ≤ maxLen) (hii : ii < t.kids.length)
    (hk : ∀ i (hi : i < t.kids.length), Form w2 S t.kids[i] (fv i)) (hs : Form w2 S s' X) (hb : Below w2.heap.size w2 w3) (hown : w3.ownsRow w2.heap.size 53 1 (.slice (some ⟨g, 0, none⟩) t.kids.length cap) t.kids.length fl)
    (hfl : ∀ i, i < t.kids.length → fl[i]? = some (fv i)) :
    Form (w3.setCell ⟨g, ii, none⟩ X) (fun b => S b ∨ w2.heap.size ≤ b) (setKid t ii s') (.iface 86 (.agg #[.string t.name, .slice (some ⟨g, 0, none⟩) t.kids.length cap])) := by
  obtain ⟨hB, hnc, hcm, f, hrow, hf⟩ := row_of_own hown
  have hrow' := hrow.set ii X
  have hlen : (t.kids.set ii s').length = t.kids.length := List.length_set
  have hsz : (w3.setCell ⟨g, ii, none⟩ X).heap.size = w3.heap.size := by simp [World.setCell]
  have hcarry : ∀ {y : Tr} {v : Value}, Form w2 S y v → Form (w3.setCell ⟨g, ii, none⟩ X) (fun b => S b ∨ w2.heap.size ≤ b) y v := fun h =>
    h.carry (fun b hS hlt => ⟨.inl hS, by rw [hsz]; exact Nat.lt_of_lt_of_le hlt hb.size⟩) (fun b o _ hlt => by
      rw [World.cell?_of_block (w := w3) (blk_setCell_other _ _ _ _ (by show b ≠ g; omega))]
      exact hb.cell (p := ⟨b, o, none⟩) hlt)
  refine Form.shut (.inr ⟨hle, hn, cap, g, fun i => if i = ii then X else fv i, by simp only [setKid, hlen], by simp only [setKid, hlen]; exact hnc, hcm, .inr hB, by rw [hsz]; exact World.rowIs.lt hrow, fun i hi => ?_, fun i hi => ?_⟩)
  · simp only [setKid] at hi
    rw [hlen] at hi
    rw [hrow'.cell (by omega)]
    by_cases e : i = ii
    · simp [e]
    · rw [if_neg e]
      dsimp only
      rw [if_neg e]
      exact (hf i (by omega)).trans (hfl i hi)
  · simp only [setKid] at hi ⊢
    rw [hlen] at hi
    by_cases e : i = ii
    · subst e
      simp
      exact hcarry hs
    · rw [if_neg e]
      have : (t.kids.set ii s')[i]'(by rw [hlen]; exact hi) = t.kids[i] := by simp [List.getElem_set, Ne.symm e]
      rw [this]
      exact hcarry (hk i hi)
end Go.Proofs.Ythmdoplickpmaai
