import Derived.Test.YthmdoplickpmaaiYield2
import Derived.Deep.AppendLies
import Derived.Deep.RegionLaw
namespace Go.Proofs.Ythmdoplickpmaai
open Go.RowKit Go.Deep Go.Lib
set_option linter.unusedVariables false
set_option maxRecDepth 100000
set_option linter.unusedSimpArgs false

/-- What a byte of a text is shown as. -/
def shB (c : UInt8) : List UInt8 :=
  if c.toNat = 34 ∨ c.toNat = 92 then [92, c] else if c.toNat < 32 ∨ 126 < c.toNat then [92, 48 + c / 100, 48 + c / 10 % 10, 48 + c % 10] else [c]
theorem shB_quote {c : UInt8} (h : c.toNat = 34 ∨ c.toNat = 92) : shB c = [92, c] := if_pos h
theorem shB_num {c : UInt8} (h : ¬ (c.toNat = 34 ∨ c.toNat = 92)) (h' : c.toNat < 32 ∨ 126 < c.toNat) : shB c = [92, 48 + c / 100, 48 + c / 10 % 10, 48 + c % 10] := by unfold shB; rw [if_neg h, if_pos h']
theorem shB_self {c : UInt8} (h : ¬ (c.toNat = 34 ∨ c.toNat = 92)) (h' : ¬ (c.toNat < 32 ∨ 126 < c.toNat)) : shB c = [c] := by unfold shB; rw [if_neg h, if_neg h']
theorem shB_len (c : UInt8) : 1 ≤ (shB c).length ∧ (shB c).length ≤ 4 := by
  unfold shB
  split
  · simp
  · split <;> simp

theorem d100 (c : UInt8) : (48 + c / 100).toNat = 48 + c.toNat / 100 := by
  have h : c.toNat < 256 := c.toNat_lt
  simp only [UInt8.toNat_add, UInt8.toNat_div]
  show (48 + c.toNat / 100) % 256 = _
  omega
theorem d10 (c : UInt8) : (48 + c / 10 % 10).toNat = 48 + c.toNat / 10 % 10 := by
  have h : c.toNat < 256 := c.toNat_lt
  simp only [UInt8.toNat_add, UInt8.toNat_div, UInt8.toNat_mod]
  show (48 + c.toNat / 10 % 10) % 256 = _
  omega
theorem d1 (c : UInt8) : (48 + c % 10).toNat = 48 + c.toNat % 10 := by
  have h : c.toNat < 256 := c.toNat_lt
  simp only [UInt8.toNat_add, UInt8.toNat_mod]
  show (48 + c.toNat % 10) % 256 = _
  omega

theorem bc_num (c : UInt8) : bc [92, 48 + c / 100, 48 + c / 10 % 10, 48 + c % 10] = [.int .u8 92, .int .u8 (48 + (c.toNat : Int) / 100), .int .u8 (48 + (c.toNat : Int) / 10 % 10), .int .u8 (48 + (c.toNat : Int) % 10)] := by
  have a1 : ((48 + c.toNat / 100 : Nat) : Int) = 48 + (c.toNat : Int) / 100 := by omega
  have a2 : ((48 + c.toNat / 10 % 10 : Nat) : Int) = 48 + (c.toNat : Int) / 10 % 10 := by omega
  have a3 : ((48 + c.toNat % 10 : Nat) : Int) = 48 + (c.toNat : Int) % 10 := by omega
  simp only [bc, List.map_cons, List.map_nil, d100, d10, d1, a1, a2, a3]
  rfl
theorem bc_two (c : UInt8) : bc [92, c] = [.int .u8 92, .int .u8 c.toNat] := rfl
theorem bc_self (c : UInt8) : bc [c] = [.int .u8 c.toNat] := rfl

/-- Every block that is no row of bytes is as it was. -/
def NB (w w' : World) : Prop := w.heap.size ≤ w'.heap.size ∧ ∀ k, k < w.heap.size → (∀ c fr, w.heap[k]? ≠ some (.cells c 5 fr)) → w'.heap[k]? = w.heap[k]?
theorem NB.trans {a b c : World} (h : NB a b) (g : NB b c) : NB a c :=
  ⟨Nat.le_trans h.1 g.1, fun k hk hn => (g.2 k (Nat.lt_of_lt_of_le hk h.1) (by rw [h.2 k hk hn]; exact hn)).trans (h.2 k hk hn)⟩
theorem NB.refl (w : World) : NB w w := ⟨Nat.le_refl _, fun _ _ _ => rfl⟩
theorem NB.of_below {w w' : World} (h : Below w.heap.size w w') : NB w w' := ⟨h.size, fun k hk _ => h.block k hk⟩
theorem NB.grown {w w' : World} {B n : Nat} {v : Value} {xs : List Value} (hown : w.ownsRow B 5 1 v n xs) (hg : w.grownBy w' v.ownBlock) : NB w w' := by
  refine ⟨hg.size, fun k hk hn => hg.block k hk (fun e => ?_)⟩
  obtain ⟨_, h⟩ := hown
  rcases h with ⟨rfl, _⟩ | ⟨g, cap, cur, rfl, _, hb, _⟩
  · simp [Value.ownBlock] at e
  · simp [Value.ownBlock] at e
    subst e
    exact hn _ _ hb
/-- A block of another kind is there still. -/
theorem NB.box {w w' : World} (h : NB w w') {k : Nat} {c : Array Value} {T : TypeId} {fr : Nat × Nat} (hb : w.heap[k]? = some (.cells c T fr)) (hT : T ≠ 5) : w'.heap[k]? = some (.cells c T fr) := by
  have hk : k < w.heap.size := by
    obtain ⟨hlt, _⟩ := Array.getElem?_eq_some_iff.1 hb
    exact hlt
  rw [h.2 k hk (fun c' fr' e => by rw [hb] at e; cases e; exact hT rfl)]
  exact hb

/-- .. and what is no row of bytes is kept, wherever it lies. -/
def WroteK (B : Nat) (w : World) (n : Nat) (xs : List Value) (l : List UInt8) (e : Ending) (w' : World) : Prop := Wrote B w n xs l e w' ∧ NB w w'

theorem wrote_of {B n : Nat} {w W w' : World} {xs : List Value} {l : List UInt8} {v v' : Value} (hW : Below B w W) (hBW : B ≤ W.heap.size) (hN : NB w W) (hown : W.ownsRow B 5 1 v n xs) (hown' : w'.ownsRow B 5 1 v' (n + l.length) (xs ++ bc l)) (hgr : W.grownBy w' v.ownBlock) :
    WroteK B w n xs l (.returned v') w' := ⟨⟨v', rfl, hown', hW.grown hgr hBW (fun k hk => (hown.lt k hk).1)⟩, hN.trans (NB.grown hown hgr)⟩

theorem cells_box (w : World) (cs : List Value) (T : TypeId) : ∀ j x, cs[j]? = some x → (w.alloc (.cells cs.toArray T)).cell? ((⟨w.heap.size, 0, none⟩ : Addr).add j) = some x := by
  intro j x h
  rw [WideShapes.add_plain, Nat.zero_add, World.cell?_alloc_at cs.toArray T w.heap.size j rfl]
  simpa using h

theorem bc_one (l : List UInt8) : ∀ u ∈ bc l, u.oneCell' = true := by
  intro u hu
  obtain ⟨_, _, rfl⟩ := List.mem_map.1 hu
  rfl

set_option maxHeartbeats 800000 in
theorem showByte_any (B : Nat) (c : UInt8) (v : Value) (n : Nat) (xs : List Value) (w : World) (hB : B ≤ w.heap.size) (hown : w.ownsRow B 5 1 v n xs) (hn : n ≤ 16777216) :
    Calls Try.prog 127 #[v, .int .u8 c.toNat] w fun e w' => WroteK B w n xs (shB c) e w' := by
  obtain ⟨i5, hi5, hz0, hz1, hz2⟩ := info_parts info5
  obtain ⟨a0, c0, rfl⟩ := own_slice hown
  have hc : c.toNat < 256 := c.toNat_lt
  have HO := fun o => (show Hid _ from hown.alloc o)
  clear hown
  by_cases h1 : c.toNat = 34 ∨ c.toNat = 92
  · have hl := shB_quote h1
    have HL := (show Hid _ from hl); clear hl
    by_cases h2 : c.toNat = 34
    · have e1 : ((c.toNat : Int) == 34) = true := by rw [beq_iff_eq]; omega
      clear h1 h2
      go_enter Try.func127, Try.ntmps127
      go_wp2_with (at_builtin; refine wpList_append_own _ rfl (.tmp 11) (.tmp 13) 65 rfl B 5 i5 (.int .u8 0) 1 1 Try.underlying65 hi5 hz0 hz1 hz2 rfl (by decide) _ n xs rfl (HO _).out ⟨w.heap.size, 0, none⟩ 2 2 [.int .u8 92, .int .u8 c.toNat] rfl rfl (cells_box _ _ _) (by intro u hu; simp at hu; first | (rcases hu with rfl | rfl | rfl | rfl <;> rfl) | (rcases hu with rfl | rfl <;> rfl) | (subst hu; rfl)) ?c1 ?c2 ?c3 ?nx)
      case c1 => unfold maxLen; omega
      case c2 => omega
      case c3 => first | omega | (simp; omega)
      case nx =>
        intro v' w' hown' hgr _
        obtain ⟨a1, c1, rfl⟩ := own_slice hown'
        have hWR : WroteK B w n xs (shB c) (.returned (.slice a1 (n + 2) c1)) w' := by
          refine wrote_of ((bel_alloc w _).mono hB) (by simp; omega) (NB.of_below (bel_alloc _ _)) (HO _).out ?_ hgr
          rw [HL.out]
          first | (rw [bc_num]; exact hown') | (rw [bc_two]; exact hown') | (rw [bc_self]; exact hown')
        have HW := (show Hid _ from hWR); clear hWR hown' hgr
        go_wp2_with fail
        go_ret
        exact HW.out
    · have e1 : ((c.toNat : Int) == 34) = false := by rw [beq_eq_false_iff_ne]; omega
      have e2 : ((c.toNat : Int) == 92) = true := by rw [beq_iff_eq]; omega
      clear h1 h2
      go_enter Try.func127, Try.ntmps127
      go_wp2_with (at_builtin; refine wpList_append_own _ rfl (.tmp 11) (.tmp 13) 65 rfl B 5 i5 (.int .u8 0) 1 1 Try.underlying65 hi5 hz0 hz1 hz2 rfl (by decide) _ n xs rfl (HO _).out ⟨w.heap.size, 0, none⟩ 2 2 [.int .u8 92, .int .u8 c.toNat] rfl rfl (cells_box _ _ _) (by intro u hu; simp at hu; first | (rcases hu with rfl | rfl | rfl | rfl <;> rfl) | (rcases hu with rfl | rfl <;> rfl) | (subst hu; rfl)) ?c1 ?c2 ?c3 ?nx)
      case c1 => unfold maxLen; omega
      case c2 => omega
      case c3 => first | omega | (simp; omega)
      case nx =>
        intro v' w' hown' hgr _
        obtain ⟨a1, c1, rfl⟩ := own_slice hown'
        have hWR : WroteK B w n xs (shB c) (.returned (.slice a1 (n + 2) c1)) w' := by
          refine wrote_of ((bel_alloc w _).mono hB) (by simp; omega) (NB.of_below (bel_alloc _ _)) (HO _).out ?_ hgr
          rw [HL.out]
          first | (rw [bc_num]; exact hown') | (rw [bc_two]; exact hown') | (rw [bc_self]; exact hown')
        have HW := (show Hid _ from hWR); clear hWR hown' hgr
        go_wp2_with fail
        go_ret
        exact HW.out
  · have e1 : ((c.toNat : Int) == 34) = false := by rw [beq_eq_false_iff_ne]; omega
    have e2 : ((c.toNat : Int) == 92) = false := by rw [beq_eq_false_iff_ne]; omega
    by_cases h2 : c.toNat < 32 ∨ 126 < c.toNat
    · have hl := shB_num h1 h2
      have HL := (show Hid _ from hl); clear hl h1
      by_cases h3 : c.toNat < 32
      · clear h2
        go_enter Try.func127, Try.ntmps127
        go_wp2_with (at_builtin; refine wpList_append_own _ rfl (.tmp 21) (.tmp 32) 65 rfl B 5 i5 (.int .u8 0) 1 1 Try.underlying65 hi5 hz0 hz1 hz2 rfl (by decide) _ n xs rfl (HO _).out ⟨w.heap.size, 0, none⟩ 4 4 [.int .u8 92, .int .u8 (48 + (c.toNat : Int) / 100), .int .u8 (48 + (c.toNat : Int) / 10 % 10), .int .u8 (48 + (c.toNat : Int) % 10)] rfl rfl (cells_box _ _ _) (by intro u hu; simp at hu; first | (rcases hu with rfl | rfl | rfl | rfl <;> rfl) | (rcases hu with rfl | rfl <;> rfl) | (subst hu; rfl)) ?c1 ?c2 ?c3 ?nx)
        case c1 => unfold maxLen; omega
        case c2 => omega
        case c3 => first | omega | (simp; omega)
        case nx =>
          intro v' w' hown' hgr _
          obtain ⟨a1, c1, rfl⟩ := own_slice hown'
          have hWR : WroteK B w n xs (shB c) (.returned (.slice a1 (n + 4) c1)) w' := by
            refine wrote_of ((bel_alloc w _).mono hB) (by simp; omega) (NB.of_below (bel_alloc _ _)) (HO _).out ?_ hgr
            rw [HL.out]
            first | (rw [bc_num]; exact hown') | (rw [bc_two]; exact hown') | (rw [bc_self]; exact hown')
          have HW := (show Hid _ from hWR); clear hWR hown' hgr
          go_wp2_with fail
          go_ret
          exact HW.out
      · have h4 : 126 < c.toNat := by omega
        clear h2
        go_enter Try.func127, Try.ntmps127
        go_wp2_with (at_builtin; refine wpList_append_own _ rfl (.tmp 21) (.tmp 32) 65 rfl B 5 i5 (.int .u8 0) 1 1 Try.underlying65 hi5 hz0 hz1 hz2 rfl (by decide) _ n xs rfl (HO _).out ⟨w.heap.size, 0, none⟩ 4 4 [.int .u8 92, .int .u8 (48 + (c.toNat : Int) / 100), .int .u8 (48 + (c.toNat : Int) / 10 % 10), .int .u8 (48 + (c.toNat : Int) % 10)] rfl rfl (cells_box _ _ _) (by intro u hu; simp at hu; first | (rcases hu with rfl | rfl | rfl | rfl <;> rfl) | (rcases hu with rfl | rfl <;> rfl) | (subst hu; rfl)) ?c1 ?c2 ?c3 ?nx)
        case c1 => unfold maxLen; omega
        case c2 => omega
        case c3 => first | omega | (simp; omega)
        case nx =>
          intro v' w' hown' hgr _
          obtain ⟨a1, c1, rfl⟩ := own_slice hown'
          have hWR : WroteK B w n xs (shB c) (.returned (.slice a1 (n + 4) c1)) w' := by
            refine wrote_of ((bel_alloc w _).mono hB) (by simp; omega) (NB.of_below (bel_alloc _ _)) (HO _).out ?_ hgr
            rw [HL.out]
            first | (rw [bc_num]; exact hown') | (rw [bc_two]; exact hown') | (rw [bc_self]; exact hown')
          have HW := (show Hid _ from hWR); clear hWR hown' hgr
          go_wp2_with fail
          go_ret
          exact HW.out
    · have hl := shB_self h1 h2
      have HL := (show Hid _ from hl); clear hl h1
      have h3 : ¬ c.toNat < 32 := by omega
      have h4 : ¬ 126 < c.toNat := by omega
      clear h2
      go_enter Try.func127, Try.ntmps127
      go_wp2_with (at_builtin; refine wpList_append_own _ rfl (.tmp 34) (.tmp 36) 65 rfl B 5 i5 (.int .u8 0) 1 1 Try.underlying65 hi5 hz0 hz1 hz2 rfl (by decide) _ n xs rfl (HO _).out ⟨w.heap.size, 0, none⟩ 1 1 [.int .u8 c.toNat] rfl rfl (cells_box _ _ _) (by intro u hu; simp at hu; first | (rcases hu with rfl | rfl | rfl | rfl <;> rfl) | (rcases hu with rfl | rfl <;> rfl) | (subst hu; rfl)) ?c1 ?c2 ?c3 ?nx)
      case c1 => unfold maxLen; omega
      case c2 => omega
      case c3 => first | omega | (simp; omega)
      case nx =>
        intro v' w' hown' hgr _
        obtain ⟨a1, c1, rfl⟩ := own_slice hown'
        have hWR : WroteK B w n xs (shB c) (.returned (.slice a1 (n + 1) c1)) w' := by
          refine wrote_of ((bel_alloc w _).mono hB) (by simp; omega) (NB.of_below (bel_alloc _ _)) (HO _).out ?_ hgr
          rw [HL.out]
          first | (rw [bc_num]; exact hown') | (rw [bc_two]; exact hown') | (rw [bc_self]; exact hown')
        have HW := (show Hid _ from hWR); clear hWR hown' hgr
        go_wp2_with fail
        go_ret
        exact HW.out
end Go.Proofs.Ythmdoplickpmaai
