import Derived.Test.YtflhfimgeladaaaQg
import Derived.Test.YtflhfimgeladaaaIr
/-! The program: rows by their numbers. -/
namespace Go.Proofs.Ytflhfimgeladaaa
open Go.RowKit Go.Deep
set_option linter.unusedVariables false
set_option maxRecDepth 100000
set_option linter.unusedSimpArgs false

/-- The rows with these numbers. -/
def agn {α : Type} (ls : List (List α)) (N : List Int) : List (List α) := N.map (fun x => ls.getD x.toNat [])
theorem agn_at {α : Type} (ls : List (List α)) (N : List Int) (j : Nat) (hj : j < N.length) (h : N.all (wnB 0 ((ls.length : Int) - 1)) = true) : ∃ k : Nat, N[j] = (k : Int) ∧ k < ls.length := by
  have := List.all_eq_true.1 h N[j] (List.getElem_mem hj)
  unfold wnB at this
  simp only [Bool.and_eq_true, decide_eq_true_eq] at this
  exact ⟨N[j].toNat, by omega, by omega⟩
theorem agn_next {α : Type} (ls : List (List α)) (N : List Int) (j k : Nat) (hj : j < N.length) (hk : N[j] = (k : Int)) (hkl : k < ls.length) (rv : List (Value × List α)) (h : rv.map (·.2) = agn ls (N.take j)) (v : Value) : (rv ++ [(v, ls[k])]).map (·.2) = agn ls (N.take (j + 1)) := by
  rw [List.map_append, h, List.take_succ_eq_append_getElem hj]
  unfold agn
  rw [List.map_append]
  simp [hk, hkl]
theorem own_some {w : World} {B t k n : Nat} {v : Value} {cs : List Value} (h : w.ownsRow B t k v n cs) (hn : v ≠ .slice none 0 0) : ∃ g cap, v = .slice (some ⟨g, 0, none⟩) n cap := by
  rcases h.2 with ⟨rfl, h0⟩ | ⟨g, cap, cur, rfl, _⟩
  · exact absurd rfl hn
  · exact ⟨g, cap, rfl⟩
set_option maxHeartbeats 800000 in
theorem areRows_any {S : Nat → Prop} (N : List Int) (m : Nat) (hm : m ≤ 1048576) (v : Value) (w : World) (h : Ints w S N v) :
    Calls Try.prog 67 #[v, .int .i64 m] w fun e w' => e = .returned (.bool (decide (N.length ≤ 250) && N.all (wnB 0 ((m : Int) - 1)))) ∧ Below w.heap.size w w' := by
  have HC := (show Hid _ from wthn_any N 0 ((m : Int) - 1) v w h)
  obtain ⟨a, cap, rfl, hcm⟩ := h.form
  unfold maxLen at hcm
  clear h
  generalize N.all (wnB 0 ((m : Int) - 1)) = R at *
  by_cases h1 : N.length ≤ 250
  · have i1 : decide ((N.length : Int) ≤ 250) = true := by simp; omega
    rw [decide_eq_true h1]
    go_enter Try.func67, Try.ntmps67
    go_wp2_with fail
    refine Calls.mono HC.out ?_
    rintro e w1 ⟨rfl, hb⟩
    have HB := (show Hid _ from hb); clear hb
    go_wp2_with fail
    go_ret
    exact ⟨rfl, HB.out⟩
  · have i1 : decide ((N.length : Int) ≤ 250) = false := by simp; omega
    rw [decide_eq_false h1]
    go_enter Try.func67, Try.ntmps67
    go_wp2_with fail
    go_ret
    exact ⟨rfl, Below.refl _ _⟩
set_option maxHeartbeats 1600000 in
theorem cloneA_some {S : Nat → Prop} (l : List (Int × Int)) (ad : Addr) (c : Nat) (w : World) (h : Acs w S l (.slice (some ad) l.length c)) (hl : l.length ≤ 1048576) :
    Calls Try.prog 95 #[.slice (some ad) l.length c] w fun e w' => ∃ g cp : Nat, e = .returned (.slice (some ⟨g, 0, none⟩) l.length cp) ∧ Below w.heap.size w w' ∧ w'.ownsRow w.heap.size 71 2 (.slice (some ⟨g, 0, none⟩) l.length cp) l.length (encA l) := by
  obtain ⟨ie, hie, hzz⟩ := Option.map_eq_some_iff.1 info71i
  simp only [Prod.mk.injEq] at hzz
  obtain ⟨hz0, hz1, hz2⟩ := hzz
  have hb0 := bel_alloc w (.cells #[] 71)
  have ho0 : (w.alloc (.cells #[] 71)).ownsRow w.heap.size 71 2 (.slice (some ⟨w.heap.size, 0, none⟩) 0 0) 0 [] := World.ownsRow_lit (base := w.heap.size) (e := 71) (size := 2) w #[] 0 (Nat.le_refl _) (Nat.zero_le _) rfl
  have HO := (show Hid _ from ho0); clear ho0
  have HNW := (show Hid _ from newsA (h.still hb0))
  have HB0 := (show Hid _ from hb0)
  have hnil : ∀ W, (binOp .eql 69 (.slice (some ad) l.length c) (.slice none 0 0)).run Try.prog W = .ok (.bool false) W := fun W => Lib.run_eql_slice_some_nil W _ _ _ Try.underlying69
  clear h hb0
  go_enter Try.func95, Try.ntmps95
  go_wp2_with (at_builtin; refine wpList_append_own_at _ rfl (.tmp 5) (.tmp 6) 69 rfl w.heap.size 71 ie _ 2 16 Try.underlying69 hie hz0 hz1 hz2 rfl (by decide) _ 0 [] rfl HO.out ad l.length c (encA l) rfl (encA_len l) HNW.out (encA_one l) ?c3 (by omega) ?c4 ?nx)
  case c3 => unfold maxLen; omega
  case nx =>
    intro v' w1 hown hgr hnil' hat
    have hb1 := grown_bel HB0.out hgr (fun k hk => Nat.le_of_eq (by simpa [Value.ownBlock] using hk)) (by simp)
    obtain ⟨g, cp, rfl⟩ := own_some hown hnil'
    have HY := (show Hid _ from (⟨hown, hb1⟩ : _ ∧ _))
    clear hown hb1 hgr hnil hat hnil'
    go_wp2_with fail
    go_ret
    exact ⟨g, cp, rfl, HY.out.2, HY.out.1⟩
set_option maxHeartbeats 1600000 in
theorem cloneI_some {S : Nat → Prop} (l : List Int) (ad : Addr) (c : Nat) (w : World) (h : Ints w S l (.slice (some ad) l.length c)) (hl : l.length ≤ 1048576) :
    Calls Try.prog 99 #[.slice (some ad) l.length c] w fun e w' => ∃ g cp : Nat, e = .returned (.slice (some ⟨g, 0, none⟩) l.length cp) ∧ Below w.heap.size w w' ∧ w'.ownsRow w.heap.size 3 1 (.slice (some ⟨g, 0, none⟩) l.length cp) l.length (encI l) := by
  obtain ⟨ie, hie, hzz⟩ := Option.map_eq_some_iff.1 info3i
  simp only [Prod.mk.injEq] at hzz
  obtain ⟨hz0, hz1, hz2⟩ := hzz
  have hb0 := bel_alloc w (.cells #[] 3)
  have ho0 : (w.alloc (.cells #[] 3)).ownsRow w.heap.size 3 1 (.slice (some ⟨w.heap.size, 0, none⟩) 0 0) 0 [] := World.ownsRow_lit (base := w.heap.size) (e := 3) (size := 1) w #[] 0 (Nat.le_refl _) (Nat.zero_le _) rfl
  have HO := (show Hid _ from ho0); clear ho0
  have HNW := (show Hid _ from newsI (h.still hb0))
  have HB0 := (show Hid _ from hb0)
  have hnil : ∀ W, (binOp .eql 46 (.slice (some ad) l.length c) (.slice none 0 0)).run Try.prog W = .ok (.bool false) W := fun W => Lib.run_eql_slice_some_nil W _ _ _ Try.underlying46
  clear h hb0
  go_enter Try.func99, Try.ntmps99
  go_wp2_with (at_builtin; refine wpList_append_own_at _ rfl (.tmp 5) (.tmp 6) 46 rfl w.heap.size 3 ie _ 1 8 Try.underlying46 hie hz0 hz1 hz2 rfl (by decide) _ 0 [] rfl HO.out ad l.length c (encI l) rfl (encI_len l) HNW.out (encI_one l) ?c3 (by omega) ?c4 ?nx)
  case c3 => unfold maxLen; omega
  case nx =>
    intro v' w1 hown hgr hnil' hat
    have hb1 := grown_bel HB0.out hgr (fun k hk => Nat.le_of_eq (by simpa [Value.ownBlock] using hk)) (by simp)
    obtain ⟨g, cp, rfl⟩ := own_some hown hnil'
    have HY := (show Hid _ from (⟨hown, hb1⟩ : _ ∧ _))
    clear hown hb1 hgr hnil hat hnil'
    go_wp2_with fail
    go_ret
    exact ⟨g, cp, rfl, HY.out.2, HY.out.1⟩
end Go.Proofs.Ytflhfimgeladaaa
