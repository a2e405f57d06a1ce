import Derived.Test.YthmdoplickpmaaiRxS10
namespace Go.Proofs.Ythmdoplickpmaai
open Go.RowKit Go.Deep Go.Lib
set_option linter.unusedVariables false
set_option maxRecDepth 100000
set_option linter.unusedSimpArgs false

theorem or_any {p : Nat} {s : ByteArray} : ∀ (d k : Nat) (w : World) (c : Nat) (g : Option Nat), s.size < k + d → c ≤ 1000 → Rd w p s k c g →
    Calls Try.prog 49 #[.pointer (some ⟨p, 0, none⟩)] w fun e w' => AGot (xOr s d k) p s c 2 g w e w'
  | 0, k, w, c, g, h1, h2, h3 => by have := h3.1; omega
  | d + 1, k, w, c, g, h1, h2, h3 => or_s w (fun k' w' c' g' q1 q2 q3 => or_any d k' w' c' g' (by omega) q2 q3) h3 h2
theorem Rdx.slot {w : World} {p : Nat} {s : ByteArray} {z b : Int} {n : Nat} {g : Option Nat} (h : Rdx w p s z b n g) : ∃ a m cap, w.cell? ⟨p, 3, none⟩ = some (.slice a m cap) := by
  obtain ⟨f, xs, h1, h2, h3, h4, h5, h6, h7, h8⟩ := h
  rcases h6.2 with ⟨e, _⟩ | ⟨g', cap', cur, e, _⟩
  · exact ⟨_, _, _, by rw [h1.cell (by omega), e]⟩
  · exact ⟨_, _, _, by rw [h1.cell (by omega), e]⟩
theorem Rd.slot {w : World} {p k c : Nat} {s : ByteArray} {g : Option Nat} (h : Rd w p s k c g) : ∃ a m cap, w.cell? ⟨p, 3, none⟩ = some (.slice a m cap) := by
  obtain ⟨_, n, h2, _⟩ := h; exact h2.slot
theorem Bd.slot {w : World} {p j c : Nat} {s : ByteArray} {g : Option Nat} (h : Bd w p s j c g) : ∃ a m cap, w.cell? ⟨p, 3, none⟩ = some (.slice a m cap) := by
  obtain ⟨_, n, h2, _⟩ := h; exact h2.slot
theorem Rd.new (w : World) (s : ByteArray) (hs : s.size ≤ 1048576) : Rd (w.alloc (.cells #[.string s, .int .i64 0, .int .i64 (-1), .slice none 0 0] 91)) w.heap.size s 0 (3 * s.size) none := by
  refine ⟨Nat.zero_le _, 0, ⟨fun i => if i = 0 then .string s else if i = 1 then .int .i64 0 else if i = 2 then .int .i64 (-1) else .slice none 0 0, [], ⟨_, blk_alloc_new _ _, rfl, fun i hi => ?_⟩, rfl, rfl, rfl, rfl, World.ownsRow_nil _ _ _ _, by simp, hs⟩, by omega⟩
  have : i = 0 ∨ i = 1 ∨ i = 2 ∨ i = 3 := by omega
  rcases this with rfl | rfl | rfl | rfl <;> rfl
theorem Mv.low {g' : Option Nat} {w w' : World} {o : Obj} (h : Mv w.heap.size none (w.alloc o) g' w') : Below w.heap.size w w' := by
  have hb := bel_alloc w o
  exact ⟨h.fr.1.trans hb.os, h.fr.2.1.trans hb.tape, h.fr.2.2.1.trans hb.output, Nat.le_trans hb.size h.fr.2.2.2.1, fun k hk => (h.fr.2.2.2.2 k (Nat.lt_of_lt_of_le hk hb.size) (by omega) (by simp)).trans (hb.block k hk)⟩
theorem belDN {L : Nat} {w w' : World} (h : Below L w w') (n : Nat) : Below L w (w'.drewN n) := ⟨h.os, h.tape, h.output, h.size, h.block⟩
/-- The place of the fault as the spec's reader tells it. -/
def badOf : Option Nat → Int
  | none => -1
  | some j => j
set_option maxHeartbeats 1600000 in
theorem parse_s (s : ByteArray) (w : World) (hs : s.size ≤ 100) :
    Calls Try.prog 38 #[.string s] w fun e w' => ∃ a m cap, e = .returned (.tuple #[.slice a m cap, .int .i64 (badOf (xAll s))]) ∧ Below w.heap.size w w' := by
  have h0 := Rd.new w s (by omega)
  have HO := (show Hid _ from or_any (s.size + 1) 0 _ (3 * s.size) none (by omega) (by omega) h0); clear h0
  have hin := xOr_in (s := s) (s.size + 1) 0 (Nat.zero_le _)
  have hr : xAll s = (match xOr s (s.size + 1) 0 with
    | .error j => some j
    | .ok k => if k < s.size then some k else none) := by unfold xAll; cases xOr s (s.size + 1) 0 <;> rfl
  rw [hr]
  clear hr
  generalize xOr s (s.size + 1) 0 = r at *
  cases r with
  | error j =>
    dsimp only
    clear hin
    go_enter Try.func38, Try.ntmps38
    go_wp2_with fail
    refine Calls.mono HO.out ?_
    rintro e w1 ⟨⟨m0, rfl⟩, g1, h1, v1⟩
    have H1 := (show Hid _ from (⟨h1, v1⟩ : Bd w1 w.heap.size s j (3 * s.size + 2 + 1) g1 ∧ Mv w.heap.size none (w.alloc (.cells #[.string s, .int .i64 0, .int .i64 (-1), .slice none 0 0] 91)) g1 w1)); clear h1 v1
    go_wp2_with fail
    refine Calls.mono (more_bst w1 H1.out.1) ?_
    rintro e w2 ⟨rfl, h2, v2⟩
    obtain ⟨zz, z1, z2, z3⟩ := h2.cells
    obtain ⟨a, m, cap, z4⟩ := h2.slot
    have HB := (show Hid _ from fun n => belDN (H1.out.2.trans v2).low n); clear h2 v2
    go_wp2_with fail
    go_quiet (fail)
    go_wp2_with fail
    refine bodyPost_ret (v := .tuple #[.slice a m cap, .int .i64 (j : Int)]) (by simp [results, Try.results38, go_sem]) rfl ⟨a, m, cap, rfl, HB.out _⟩
  | ok k =>
    dsimp only
    have hk : k ≤ s.size := hin.2
    clear hin
    by_cases hlt : k < s.size
    · rw [if_pos hlt]
      go_enter Try.func38, Try.ntmps38
      go_wp2_with fail
      refine Calls.mono HO.out ?_
      rintro e w1 ⟨⟨m0, rfl⟩, g1, h1, v1⟩
      have H1 := (show Hid _ from (⟨h1, v1⟩ : Rd w1 w.heap.size s k (3 * s.size + 2) g1 ∧ Mv w.heap.size none (w.alloc (.cells #[.string s, .int .i64 0, .int .i64 (-1), .slice none 0 0] 91)) g1 w1)); clear h1 v1
      go_wp2_with fail
      refine Calls.mono (more_st w1 H1.out.1 (r := true) (by simp [hlt])) ?_
      rintro e w2 ⟨rfl, h2, v2⟩
      obtain ⟨x0, x1, x2, y1, y2, _⟩ := h2.cells
      have H2 := (show Hid _ from (⟨fail_at w2 h2, H1.out.2.trans v2⟩ : _ ∧ Mv w.heap.size none (w.alloc (.cells #[.string s, .int .i64 0, .int .i64 (-1), .slice none 0 0] 91)) g1 w2)); clear h2 v2
      go_wp2_with fail
      refine Calls.mono H2.out.1 ?_
      rintro e w3 ⟨rfl, h3, v3, _⟩
      clear x0 x1 x2 y1 y2
      obtain ⟨zz, z1, z2, z3⟩ := h3.cells
      obtain ⟨a, m, cap, z4⟩ := h3.slot
      have HB := (show Hid _ from fun n => belDN (H2.out.2.trans v3).low n); clear h3 v3
      go_wp2_with fail
      go_quiet (fail)
      go_wp2_with fail
      refine bodyPost_ret (v := .tuple #[.slice a m cap, .int .i64 (k : Int)]) (by simp [results, Try.results38, go_sem]) rfl ⟨a, m, cap, rfl, HB.out _⟩
    · rw [if_neg hlt]
      go_enter Try.func38, Try.ntmps38
      go_wp2_with fail
      refine Calls.mono HO.out ?_
      rintro e w1 ⟨⟨m0, rfl⟩, g1, h1, v1⟩
      have H1 := (show Hid _ from (⟨h1, v1⟩ : Rd w1 w.heap.size s k (3 * s.size + 2) g1 ∧ Mv w.heap.size none (w.alloc (.cells #[.string s, .int .i64 0, .int .i64 (-1), .slice none 0 0] 91)) g1 w1)); clear h1 v1
      go_wp2_with fail
      refine Calls.mono (more_st w1 H1.out.1 (r := false) (by simp [hlt])) ?_
      rintro e w2 ⟨rfl, h2, v2⟩
      obtain ⟨x0, x1, x2, y1, y2, _⟩ := h2.cells
      obtain ⟨a, m, cap, z4⟩ := h2.slot
      have HB := (show Hid _ from fun n => belDN (H1.out.2.trans v2).low n); clear h2 v2
      go_wp2_with fail
      go_quiet (fail)
      go_wp2_with fail
      refine bodyPost_ret (v := .tuple #[.slice a m cap, .int .i64 (-1)]) (by simp [results, Try.results38, go_sem]) rfl ⟨a, m, cap, rfl, HB.out _⟩
set_option maxHeartbeats 800000 in
theorem sRx_any (s : ByteArray) (w : World) (hsm : s.size ≤ 1048576) :
    Calls Try.prog 21 #[.string s] w fun e w' => e = .returned (.tuple #[.int .i64 (rxR s).1, .int .i64 (rxR s).2]) ∧ Below w.heap.size w w' := by
  by_cases hbig : 100 < s.size
  · have hr : rxR s = (1, 0) := if_pos hbig
    rw [hr]
    have hbig' : (100 : Int) < s.size := by omega
    clear hr
    go_enter Try.func21, Try.ntmps21
    go_wp2_with fail
    refine bodyPost_ret (v := .tuple #[.int .i64 1, .int .i64 0]) (by simp [results, Try.results21, go_sem]) rfl ⟨rfl, Below.refl _ _⟩
  have hr : rxR s = (match xAll s with
    | none => (0, 0)
    | some j => (2, (j : Int))) := by unfold rxR; rw [if_neg hbig]; cases xAll s <;> rfl
  rw [hr]
  clear hr
  have hbig' : (s.size : Int) ≤ 100 := by omega
  have HP := (show Hid _ from parse_s s w (by omega))
  generalize xAll s = R at *
  cases R with
  | none =>
    go_enter Try.func21, Try.ntmps21
    go_wp2_with fail
    refine Calls.mono HP.out ?_
    rintro e w1 ⟨a, m, cap, rfl, hb⟩
    have HB := (show Hid _ from hb); clear hb
    dsimp only [badOf]
    go_wp2_with fail
    refine bodyPost_ret (v := .tuple #[.int .i64 0, .int .i64 0]) (by simp [results, Try.results21, go_sem]) rfl ⟨rfl, HB.out⟩
  | some j =>
    have hj : (0 : Int) ≤ j := by omega
    go_enter Try.func21, Try.ntmps21
    go_wp2_with fail
    refine Calls.mono HP.out ?_
    rintro e w1 ⟨a, m, cap, rfl, hb⟩
    have HB := (show Hid _ from hb); clear hb
    dsimp only [badOf]
    go_wp2_with fail
    refine bodyPost_ret (v := .tuple #[.int .i64 2, .int .i64 j]) (by simp [results, Try.results21, go_sem]) rfl ⟨rfl, HB.out⟩
end Go.Proofs.Ythmdoplickpmaai
