import Derived.Test.YthmdoplickpmaaiRxOr
namespace Go.Proofs.Ythmdoplickpmaai
open Go.RowKit Go.Deep Go.Lib
set_option linter.unusedVariables false
set_option maxRecDepth 100000
set_option linter.unusedSimpArgs false

theorem choice_any {L p q : Nat} {s : ByteArray} : ∀ (d k : Nat) (w : World) (c : Nat), s.size < k + d → c ≤ 1000 → St w L p q s k c →
    Calls Try.prog 58 #[.pointer (some ⟨p, 0, none⟩)] w fun e w' => Below L w w' ∧ CGot (xOr s d k) L p q s c e w'
  | 0, k, w, c, h1, h2, h3 => by have := h3.1.1; omega
  | d + 1, k, w, c, h1, h2, h3 => or_step w (fun k' w' c' g1 g2 g3 => choice_any d k' w' c' (by omega) g2 g3) h3 h2
/-- A whole pattern was read, or it is a fault. -/
def WGot (r : Option Nat) (e : Ending) : Prop := match r with
  | none => ∃ v, e = .returned v ∧ FnV v
  | some j => e = .panicked [flt j]

set_option maxHeartbeats 800000 in
theorem whole_any {L p q c : Nat} {s : ByteArray} (w : World) (h : St w L p q s 0 c) (hc : c ≤ 1000) :
    Calls Try.prog 52 #[.pointer (some ⟨p, 0, none⟩)] w fun e w' => Below L w w' ∧ WGot (xAll s) e := by
  have hs := h.scn.2.1
  have HCH := (show Hid _ from choice_any (s.size + 1) 0 w c (by omega) hc h)
  have hin := xOr_in (s := s) (s.size + 1) 0 (Nat.zero_le _)
  have hr : xAll s = (match xOr s (s.size + 1) 0 with
    | .error j => some j
    | .ok k => if k < s.size then some k else none) := by unfold xAll; cases xOr s (s.size + 1) 0 <;> rfl
  rw [hr]
  clear hr h
  generalize xOr s (s.size + 1) 0 = r at *
  cases r with
  | error j =>
    dsimp only
    clear hin
    go_enter Try.func52, Try.ntmps52
    go_wp2_with fail
    refine Calls.mono HCH.out ?_
    rintro e w1 ⟨hb1, rfl⟩
    go_wp2_with fail
    exact ⟨rfl, hb1, rfl⟩
  | ok k =>
    dsimp only
    have hk : k ≤ s.size := hin.2
    clear hin
    by_cases hlt : k < s.size
    · rw [if_pos hlt]
      have hd : decide ((k : Int) < s.size) = true := by simp; omega
      have hlt' : (k : Int) < s.size := by omega
      go_enter Try.func52, Try.ntmps52
      go_wp2_with fail
      refine Calls.mono HCH.out ?_
      rintro e w1 ⟨hb1, ⟨v, rfl, f, cc, rfl⟩, hs1⟩
      obtain ⟨x0, x1, y1⟩ := hs1.1.cells
      have HF := (show Hid _ from fun n => fault_any (w1.drewN n) (hs1.1.drewN n))
      have HB := (show Hid _ from (⟨fun n => belDrewN hb1 n, hs1.low⟩ : (∀ n, Below L w (w1.drewN n)) ∧ _)); clear hb1 hs1
      go_wp2_with fail
      go_quiet (fail)
      go_wp2_with fail
      refine Calls.mono (HF.out _) ?_
      rintro e w2 ⟨rfl, hb2⟩
      go_wp2_with fail
      exact ⟨rfl, (HB.out.1 _).trans (hb2.mono (by have := HB.out.2; show L ≤ w1.heap.size; omega)), rfl⟩
    · rw [if_neg hlt]
      have hd : decide ((k : Int) < s.size) = false := by simp; omega
      go_enter Try.func52, Try.ntmps52
      go_wp2_with fail
      refine Calls.mono HCH.out ?_
      rintro e w1 ⟨hb1, ⟨v, rfl, f, cc, rfl⟩, hs1⟩
      obtain ⟨x0, x1, y1⟩ := hs1.1.cells
      have HB := (show Hid _ from fun n => belDrewN hb1 n); clear hb1 hs1
      go_wp2_with fail
      go_quiet (fail)
      go_wp2_with fail
      go_ret
      exact ⟨HB.out _, ⟨_, rfl, _, _, rfl⟩⟩

theorem Scn.new (w : World) (q : Nat) (s : ByteArray) (hs : s.size ≤ 1048576) : Scn (w.alloc (.cells #[.string s, .int .i64 0, .pointer (some ⟨q, 0, none⟩)] 105)) w.heap.size q s 0 :=
  ⟨Nat.zero_le _, hs, fun i => if i = 0 then .string s else if i = 1 then .int .i64 0 else .pointer (some ⟨q, 0, none⟩), ⟨_, blk_alloc_new _ _, rfl, fun i hi => by
    have : i = 0 ∨ i = 1 ∨ i = 2 := by omega
    rcases this with rfl | rfl | rfl <;> rfl⟩, rfl, rfl, rfl⟩

set_option maxHeartbeats 800000 in
theorem scanned_any {L q n g : Nat} {s : ByteArray} (w : World) (h : Net w L q n g) (hs : s.size ≤ 1048576) (hn : n + s.size ≤ 1000) :
    Calls Try.prog 42 #[.pointer (some ⟨q, 0, none⟩), .string s] w fun e w' => Below L w w' ∧ WGot (xAll s) e := by
  have hl := h.lt
  have hst : St (w.alloc (.cells #[.string s, .int .i64 0, .pointer (some ⟨q, 0, none⟩)] 105)) L w.heap.size q s 0 1000 := ⟨Scn.new w q s hs, by omega, by omega, n, g, h.still (bel_alloc _ _), by omega, by omega⟩
  have HW := (show Hid _ from whole_any _ hst (Nat.le_refl _)); clear hst h
  have hLw : L ≤ w.heap.size := by omega
  generalize xAll s = r at *
  go_enter Try.func42, Try.ntmps42
  go_wp2_with fail
  refine Calls.mono HW.out ?_
  rintro e w1 ⟨hb1, hg1⟩
  have HB := (show Hid _ from (Below.mono (bel_alloc w (.cells #[.string s, .int .i64 0, .pointer (some ⟨q, 0, none⟩)] 105)) hLw).trans hb1); clear hb1
  cases r with
  | none =>
    obtain ⟨v, rfl, f, cc, rfl⟩ := hg1
    go_wp2_with fail
    go_ret
    exact ⟨HB.out, ⟨_, rfl, _, _, rfl⟩⟩
  | some j =>
    obtain rfl := hg1
    go_wp2_with fail
    exact ⟨rfl, HB.out, rfl⟩

theorem run_makeAtoms (w : World) : (Instr.makeSlice 96 (.int .i64 20) (.int .i64 20)).run Try.prog w = .ok (.slice (some ⟨w.heap.size, 0, none⟩) 20 20) (w.alloc (.cells (madeCells #[.int .u64 0, .int .u64 0, .int .u64 0, .int .u64 0, .nilFunc] 100) 131)) := by
  obtain ⟨i, hi, hzz⟩ := Option.map_eq_some_iff.1 info131
  simp only [Prod.mk.injEq] at hzz
  obtain ⟨hz, hs, hb⟩ := hzz
  have hr := run_make (P := Try.prog) w 96 131 i _ Try.underlying96 hi hz .i64 .i64 20 20 (by omega) (Int.le_refl _) (by rw [hb]; omega) (by omega)
  simp only [hs] at hr
  exact hr
theorem Net.new {W : World} {L g n cap : Nat} {xs : List Value} (cs : Array Value) (hs : cs.size = 33) (h32 : cs[32]? = some (.slice (some ⟨g, 0, none⟩) n cap)) (hO : W.ownsRow L 131 5 (.slice (some ⟨g, 0, none⟩) n cap) n xs) (hn : 0 < n) (hL : L ≤ W.heap.size) : Net (W.alloc (.cells cs 101)) L W.heap.size n g := by
  have hg : g < W.heap.size := (World.ownsRow.lt hO g rfl).2
  refine ⟨fun i => (cs[i]?).getD .nilFunc, cap, xs, ⟨cs, blk_alloc_new _ _, hs, fun i hi => ?_⟩, by simp [h32], own_keep hO hn (blk_alloc_lt _ _ _ hg), by omega, hn, hL⟩
  have hlt : i < cs.size := by omega
  simp [hlt]
set_option maxHeartbeats 800000 in
theorem newAtomNet_any (w : World) : Calls Try.prog 41 #[] w fun e w' => e = .returned (.pointer (some ⟨w.heap.size + 1, 0, none⟩)) ∧ Below w.heap.size w w' ∧ Net w' w.heap.size (w.heap.size + 1) 20 w.heap.size := by
  have hm := run_makeAtoms w
  have hO := World.ownsRow_lit (base := w.heap.size) (e := 131) (size := 5) w (madeCells #[.int .u64 0, .int .u64 0, .int .u64 0, .int .u64 0, .nilFunc] 100) 20 (Nat.le_refl _) (by unfold maxLen; omega) (size_madeCells _ _)
  have HO := (show Hid _ from (⟨hO, bel_alloc w _⟩ : _ ∧ Below w.heap.size w (w.alloc (.cells (madeCells #[.int .u64 0, .int .u64 0, .int .u64 0, .int .u64 0, .nilFunc] 100) 131)))); clear hO
  go_enter Try.func41, Try.ntmps41
  go_wp2_with fail
  go_ret
  refine ⟨by simp, bel_trans HO.out.2 (bel_alloc _ _), ?_⟩
  have h := fun cs h1 h2 => Net.new cs h1 h2 HO.out.1 (by omega) (by simp)
  simp only [World.size_alloc] at h
  exact h _ rfl rfl
end Go.Proofs.Ythmdoplickpmaai
