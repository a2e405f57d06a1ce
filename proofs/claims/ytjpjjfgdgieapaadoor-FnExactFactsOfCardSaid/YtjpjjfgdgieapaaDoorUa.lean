import Derived.Test.YtjpjjfgdgieapaaDoorLc
import Derived.Lib.TrailingZeros
import Derived.Laws.Bits64b
import Derived.Test.YtjpjjfgdgieapaaDoorPv
/-! The program: what is in a set, ascending (math/bits.TrailingZeros64 is walked with its table). -/
namespace Go.Proofs.YtjpjjfgdgieapaaDoor
open Go.RowKit Go.Deep
set_option linter.unusedVariables false
set_option maxRecDepth 100000
set_option linter.unusedSimpArgs false

/-- The table in its variable. -/
def Tz (w : World) : Prop := ∀ j, j < 64 → w.cell? ⟨0, j, none⟩ = some (.int .u8 (Lib.deBruijn64tab.getD j 0 : Nat))
theorem Tz.still {w w' : World} (h : Tz w) (hb : Below w.heap.size w w') : Tz w' := fun j hj => (hb.cell (lt_of_cell (h j hj))).trans (h j hj)
theorem Tz.lt {w : World} (h : Tz w) : 0 < w.heap.size := lt_of_cell (h 0 (by omega))
theorem Tz.bt {w w' : World} {b : Nat} (h : Tz w) (hb : Bt b w w') (h0 : b ≠ 0) : Tz w' := fun j hj => (World.cell?_of_block (hb.block 0 h.lt (fun e => h0 e.symm))).trans (h j hj)
theorem tz_key (x a : Nat) (hx : x < 18446744073709551616) (hx0 : x ≠ 0) (hlow : x &&& (18446744073709551616 - x) = a) :
    IntKind.u64.wrap (bits BinOp.and IntKind.u64 (x : Int) (IntKind.u64.wrap (-(x : Int))) * 285870213051353865) / 288230376151711744 = ((a * 285870213051353865 % 18446744073709551616 / 288230376151711744 : Nat) : Int) := by
  have e1 : IntKind.u64.wrap (-(x : Int)) = ((18446744073709551616 - x : Nat) : Int) := by simp [IntKind.wrap, IntKind.bits, IntKind.signed]; omega
  rw [e1, bits_and x _ hx (by omega), hlow]
  simp [IntKind.wrap, IntKind.bits, IntKind.signed]
set_option maxHeartbeats 1000000 in
theorem tz_core (x k idx : Nat) (w : World) (hx0 : ((x : Int) == 0) = false) (key : IntKind.u64.wrap (bits BinOp.and IntKind.u64 (x : Int) (IntKind.u64.wrap (-(x : Int))) * 285870213051353865) / 288230376151711744 = (idx : Int)) (hi : idx < 64) (hk : k < 64) (hcell : w.cell? ⟨0, idx, none⟩ = some (.int .u8 (k : Nat))) :
    Calls Tryd.prog 90 #[.int .u64 (x : Nat)] w fun e w' => e = .returned (.int .i64 (k : Nat)) ∧ w' = w := by
  go_enter Tryd.func90, Tryd.ntmps90
  go_wp2_with (simp only [key])
  go_ret
  exact ⟨rfl, rfl⟩
theorem tz_any (x : Nat) (hx : x < 2 ^ 64) (hx0 : x ≠ 0) (w : World) (hT : Tz w) :
    Calls Tryd.prog 90 #[.int .u64 (x : Nat)] w fun e w' => e = .returned (.int .i64 (Lib.ctz 64 x : Nat)) ∧ w' = w := by
  obtain ⟨hlow, hk⟩ := Lib.lowest_bit 64 x hx0 hx
  obtain ⟨hi, htab⟩ := Lib.deBruijn64_at _ hk
  have hcell := hT _ hi
  rw [htab] at hcell
  exact tz_core x _ _ w (by simp; omega) (tz_key x _ hx hx0 hlow) hi hk hcell
/-- The lowest bit, and what is left without it. -/
theorem ctz_bits (x : Nat) (hx : x < 2 ^ 64) (hx0 : x ≠ 0) : Lib.ctz 64 x < 64 ∧ x.testBit (Lib.ctz 64 x) = true ∧ (∀ j, j < Lib.ctz 64 x → x.testBit j = false) ∧ ∀ j, (x &&& (x - 1)).testBit j = (x.testBit j && decide (j ≠ Lib.ctz 64 x)) := by
  have e : Lib.ctz 64 x = Lib.ctzFrom 64 x := by simp [Lib.ctz, hx0]
  obtain ⟨m, hm, hk⟩ := Lib.ctzFrom_spec 64 x (by omega) hx
  rw [e]
  generalize Lib.ctzFrom 64 x = k at *
  have hp : 0 < 2 ^ k := Nat.two_pow_pos k
  have hb : ∀ j, x.testBit j = (decide (k ≤ j) && (2 * m + 1).testBit (j - k)) := by
    intro j
    rw [hm, Nat.testBit_two_pow_mul]
  have hx1 : x - 1 = 2 ^ k * (2 * m) + (2 ^ k - 1) := by
    rw [hm, Nat.mul_add]
    omega
  have hb1 : ∀ j, (x - 1).testBit j = if j < k then (2 ^ k - 1).testBit j else (2 * m).testBit (j - k) := by
    intro j
    rw [hx1]
    exact Nat.testBit_two_pow_mul_add _ (by omega) j
  refine ⟨hk, by rw [hb]; simp, fun j hj => by rw [hb, decide_eq_false (by omega)]; rfl, fun j => ?_⟩
  rw [Nat.testBit_and, hb1, hb]
  by_cases h1 : j < k
  · rw [if_pos h1, decide_eq_false (by omega)]
    simp
  · rw [if_neg h1, decide_eq_true (by omega)]
    by_cases h2 : j = k
    · subst h2; simp
    · obtain ⟨d, rfl⟩ : ∃ d, j = k + (d + 1) := ⟨j - k - 1, by omega⟩
      have e3 : k + (d + 1) - k = d + 1 := by omega
      rw [e3, Nat.testBit_succ, Nat.testBit_succ]
      have e4 : (2 * m + 1) / 2 = m := by omega
      have e5 : 2 * m / 2 = m := by omega
      rw [e4, e5]
      simp
/-- Those below p that pass, ascending. -/
def filt (f : Nat → Bool) (p : Nat) : List Nat := (List.range p).filter f
theorem filt_succ (f : Nat → Bool) (p : Nat) : filt f (p + 1) = filt f p ++ (if f p then [p] else []) := by
  unfold filt
  rw [List.range_succ, List.filter_append]
  by_cases h : f p = true <;> simp [h]
theorem filt_skip (f : Nat → Bool) (p : Nat) : ∀ d, (∀ j, p ≤ j → j < p + d → f j = false) → filt f (p + d) = filt f p := by
  intro d
  induction d with
  | zero => intro _; rfl
  | succ d ih =>
    intro h
    rw [show p + (d + 1) = (p + d) + 1 from by omega, filt_succ, h (p + d) (by omega) (by omega), ih (fun j h1 h2 => h j h1 (by omega))]
    simp
theorem filt_len (f : Nat → Bool) (p : Nat) : (filt f p).length ≤ p := by
  unfold filt
  exact Nat.le_trans (List.length_filter_le _ _) (by simp)
/-- A set's members, ascending. -/
def ascI (W : List Nat) (l p : Nat) : List Int := (filt (mem W l) p).map (fun n : Nat => (n : Int))
theorem ascI_len (W : List Nat) (l p : Nat) : (ascI W l p).length ≤ p := by unfold ascI; rw [List.length_map]; exact filt_len _ _
theorem ascI_one {W : List Nat} {l i c k : Nat} (hck : c ≤ k) (hk : k < 64) (h0 : ∀ j, c ≤ j → j < k → (W.getD (l * 3 + i) 0).testBit j = false) (h1 : (W.getD (l * 3 + i) 0).testBit k = true) : ascI W l (i * 64 + (k + 1)) = ascI W l (i * 64 + c) ++ [((i * 64 + k : Nat) : Int)] := by
  have hm : ∀ j, j < 64 → mem W l (i * 64 + j) = (W.getD (l * 3 + i) 0).testBit j := by
    intro j hj
    unfold mem
    rw [show (i * 64 + j) / 64 = i from by omega, show (i * 64 + j) % 64 = j from by omega]
  unfold ascI
  rw [show i * 64 + (k + 1) = (i * 64 + k) + 1 from by omega, filt_succ, hm k hk, h1, show i * 64 + k = (i * 64 + c) + (k - c) from by omega, filt_skip _ _ _ (fun j a b => by
    rw [show j = i * 64 + (j - i * 64) from by omega, hm _ (by omega)]
    exact h0 _ (by omega) (by omega)), show (i * 64 + c) + (k - c) = i * 64 + k from by omega]
  simp
theorem ascI_end {W : List Nat} {l i c : Nat} (hc : c ≤ 64) (h0 : ∀ j, c ≤ j → j < 64 → (W.getD (l * 3 + i) 0).testBit j = false) : ascI W l ((i + 1) * 64) = ascI W l (i * 64 + c) := by
  have hm : ∀ j, j < 64 → mem W l (i * 64 + j) = (W.getD (l * 3 + i) 0).testBit j := by
    intro j hj
    unfold mem
    rw [show (i * 64 + j) / 64 = i from by omega, show (i * 64 + j) % 64 = j from by omega]
  unfold ascI
  rw [show (i + 1) * 64 = (i * 64 + c) + (64 - c) from by omega, filt_skip _ _ _ (fun j a b => by
    rw [show j = i * 64 + (j - i * 64) from by omega, hm _ (by omega)]
    exact h0 _ (by omega) (by omega))]
end Go.Proofs.YtjpjjfgdgieapaaDoor

/-! The program: what is in a set, ascending. -/
namespace Go.Proofs.YtjpjjfgdgieapaaDoor
open Go.RowKit Go.Deep
set_option linter.unusedVariables false
set_option maxRecDepth 100000
set_option linter.unusedSimpArgs false

theorem Mk1.still {w0 w w' : World} {B : Nat} {v : Value} {l : List Int} (h : Mk1 B w0 w v l) (hb : Below w.heap.size w w') : Mk1 B w0 w' v l :=
  ⟨h.1.trans (hb.mono h.2.1), Nat.le_trans h.2.1 hb.size, al_still h.2.2 hb⟩
theorem Mk1.nil (w : World) : Mk1 w.heap.size w w (.slice none 0 0) [] := ⟨Below.refl _ _, Nat.le_refl _, World.ownsRow_nil _ _ _ _⟩
theorem land_pred_lt {x : Nat} (h : x ≠ 0) : x &&& (x - 1) < x := by
  have := Nat.and_le_right (n := x) (m := x - 1)
  omega
theorem ascI_zero (W : List Nat) (l : Nat) : ascI W l 0 = [] := rfl
set_option maxHeartbeats 3200000 in
theorem ascending72 (b l : Nat) (W : List Nat) (w : World) (h : WRow w b W) (hl : l * 3 + 3 ≤ W.length) (hW : ∀ i, W.getD i 0 < 2 ^ 64) (hT : Tz w) :
    Calls Tryd.prog 72 #[.pointer (some ⟨b, l * 3, none⟩)] w fun e w' => ∃ a n c, e = .returned (.slice a n c) ∧ n = (ascI W l 192).length ∧ Mk1 w.heap.size w w' (.slice a n c) (ascI W l 192) := by
  have HR := (show Hid (WRow w b W) from h)
  have HT := (show Hid (Tz w) from hT)
  have HW := (show Hid (∀ i, W.getD i 0 < 2 ^ 64) from hW)
  have H0 := (show Hid (Mk1 w.heap.size w w (.slice none 0 0) []) from Mk1.nil w)
  clear h hT hW
  go_enter Tryd.func72, Tryd.ntmps72
  go_wp2_with fail
  go_loopw [3, 7] (fun u i wr => ∃ (a : Option Addr) (n c j : Nat) (O : List Int), u = .slice a n c ∧ i = .int .i64 j ∧ j ≤ 3 ∧ Hid (n = O.length ∧ Mk1 w.heap.size w wr (.slice a n c) O ∧ O = ascI W l (j * 64))) (fun _ i _ => 3 - (intOf i).toNat)
  case atStart => exact ⟨none, 0, 0, 0, [], rfl, rfl, Nat.zero_le _, rfl, H0.out, by rw [Nat.zero_mul, ascI_zero]⟩
  case round =>
    obtain ⟨a, n, c, j, O, rfl, rfl, hj, HJ⟩ := hrel
    clear H0
    by_cases hlt : j < 3
    · have hlt' := hlt
      have hidx : l * 3 + j < W.length := by omega
      have hd3 : decide ((j : Int) < 3) = true := by simp; omega
      have c0 := (WRow.still HR.out HJ.out.2.1.1).cell (i := l * 3 + j) hidx
      rw [← getD_lt W 0 hidx] at c0
      have hx0 := HW.out (l * 3 + j)
      obtain ⟨x0, e0⟩ : ∃ x0, W.getD (l * 3 + j) 0 = x0 := ⟨_, rfl⟩
      rw [e0] at c0 hx0
      have HE0 := (show Hid _ from e0); clear e0
      go_wp2_with fail
      go_quiet (fail)
      have HJ2 : Hid (∀ k, n = O.length ∧ Mk1 w.heap.size w (wr.drewN k) (.slice a n c) O ∧ O = ascI W l (j * 64)) := fun k => ⟨HJ.out.1, HJ.out.2.1.still (bel_drewN _ _ _), HJ.out.2.2⟩
      clear HJ
      go_wp2_with fail
      go_loopw [3, 5] (fun u x wi => ∃ (a : Option Addr) (n c y : Nat) (O : List Int), u = .slice a n c ∧ x = .int .u64 y ∧ y < 2 ^ 64 ∧ Hid (n = O.length ∧ Mk1 w.heap.size w wi (.slice a n c) O ∧ ∃ p, p ≤ 64 ∧ O = ascI W l (j * 64 + p) ∧ ∀ k, k < 64 → y.testBit k = (x0.testBit k && decide (p ≤ k)))) (fun _ x _ => (intOf x).toNat)
      case atStart => exact ⟨a, n, c, x0, O, rfl, rfl, hx0, (HJ2.out 0).1, (HJ2.out _).2.1, 0, Nat.zero_le _, by rw [Nat.add_zero]; exact (HJ2.out 0).2.2, fun k _ => by simp⟩
      case round =>
        clear HJ2 c0
        obtain ⟨a, n, c, y, O, rfl, rfl, hy, HK⟩ := hrel
        by_cases e : y = 0
        · subst e
          have HN : Hid (n = O.length ∧ Mk1 w.heap.size w wr (.slice a n c) O ∧ O = ascI W l ((j + 1) * 64)) := by
            obtain ⟨e1, e2, p, hp, e3, e4⟩ := HK.out
            refine ⟨e1, e2, ?_⟩
            rw [e3, ascI_end hp]
            intro k h1 h2
            have := e4 k h2
            rw [decide_eq_true h1, Bool.and_true] at this
            rw [HE0.out, ← this]
            simp
          have k0 : (((0 : Nat) : Int) != 0) = false := by simp
          clear HK
          go_wp2_with fail
          exact ⟨⟨a, n, c, j + 1, O, rfl, by go_num, by omega, HN⟩, by simp [intOf]; omega⟩
        · obtain ⟨t1, t2, t3, t4⟩ := ctz_bits y hy e
          have HTZ := (show Hid (Calls Tryd.prog 90 #[.int .u64 (y : Nat)] wr fun e w' => e = .returned (.int .i64 (Lib.ctz 64 y : Nat)) ∧ w' = wr) from tz_any y hy e wr (HT.out.still HK.out.2.1.1))
          obtain ⟨k, hk⟩ : ∃ k, Lib.ctz 64 y = k := ⟨_, rfl⟩
          rw [hk] at t1 t2 t3 t4 HTZ
          have hw1 : ((y : Int) != 0) = true := by simp [e]
          have hw0 : ((y : Int) == 0) = false := by simp [e]
          have hw2 : IntKind.u64.wrap ((y : Int) - 1) = ((y - 1 : Nat) : Int) := by simp [IntKind.wrap, IntKind.bits, IntKind.signed]; omega
          have hw3 := bits_and y (y - 1) hy (by omega)
          have hw4 : IntKind.i64.wrap ((j : Int) * 64) = (j : Int) * 64 := by simp [IntKind.wrap, IntKind.bits, IntKind.signed]; omega
          have hw5 : IntKind.i64.wrap ((j : Int) * 64 + (k : Int)) = ((j * 64 + k : Nat) : Int) := by simp [IntKind.wrap, IntKind.bits, IntKind.signed]; omega
          have hnO : O.length ≤ 1048576 := by
            obtain ⟨_, _, p, hp, e3, _⟩ := HK.out
            rw [e3]
            have := ascI_len W l (j * 64 + p)
            omega
          obtain ⟨a2, c2, w2, hr2, h2⟩ := HK.out.2.1.add' n wr.heap.size (n + 1) HK.out.1 rfl rfl ((j * 64 + k : Nat) : Int) hnO
          have HN : Hid (n + 1 = (O ++ [((j * 64 + k : Nat) : Int)]).length ∧ Mk1 w.heap.size w w2 (.slice a2 (n + 1) c2) (O ++ [((j * 64 + k : Nat) : Int)]) ∧ ∃ p, p ≤ 64 ∧ O ++ [((j * 64 + k : Nat) : Int)] = ascI W l (j * 64 + p) ∧ ∀ q, q < 64 → (y &&& (y - 1)).testBit q = (x0.testBit q && decide (p ≤ q))) := by
            obtain ⟨e1, e2, p, hp, e3, e4⟩ := HK.out
            have hpk : p ≤ k := by
              have := e4 k t1
              rw [t2] at this
              by_cases h : p ≤ k
              · exact h
              · rw [decide_eq_false h, Bool.and_false] at this; cases this
            have hxk : x0.testBit k = true := by
              have := e4 k t1
              rw [t2, decide_eq_true hpk, Bool.and_true] at this
              exact this.symm
            refine ⟨by rw [List.length_append, ← e1]; rfl, h2, k + 1, by omega, ?_, fun q hq => ?_⟩
            · rw [e3]
              refine (ascI_one hpk t1 (fun q h1 h3 => ?_) (by rw [HE0.out]; exact hxk)).symm
              have h4 := e4 q (by omega)
              rw [t3 q h3, decide_eq_true h1, Bool.and_true] at h4
              rw [HE0.out]
              exact h4.symm
            · rw [t4, e4 q hq]
              by_cases h1 : k + 1 ≤ q
              · rw [decide_eq_true h1, decide_eq_true (show p ≤ q by omega), decide_eq_true (show q ≠ k by omega)]
                simp
              · rw [decide_eq_false h1]
                by_cases h3 : q = k
                · simp [h3]
                · have h4 := t3 q (by omega)
                  rw [e4 q hq] at h4
                  rw [h4]
                  simp
          have HR2 := (show Hid _ from hr2)
          have HLT : Hid (y &&& (y - 1) < y) := land_pred_lt e
          have hand : y &&& (y - 1) < 2 ^ 64 := Nat.lt_trans HLT.out hy
          clear hr2 h2 HK t2 t3 t4 hk hnO hx0
          go_wp2_with fail
          refine Calls.mono HTZ.out ?_
          rintro e w3 ⟨rfl, rfl⟩
          clear HTZ
          go_wp2_with (at_builtin; refine Lib.wpList_append_run _ rfl (.tmp 19) (.tmp 25) 29 29 rfl _ _ rfl rfl _ _ HR2.out ?_)
          generalize hyy : y &&& (y - 1) = yy at *
          exact ⟨⟨a2, n + 1, c2, yy, _, rfl, rfl, hand, HN⟩, by simp [intOf]; exact HLT.out⟩
    · obtain rfl : j = 3 := by omega
      have HN := (show Hid (n = (ascI W l 192).length ∧ Mk1 w.heap.size w wr (.slice a n c) (ascI W l 192)) from by
        obtain ⟨e1, e2, e3⟩ := HJ.out
        have e4 : O = ascI W l 192 := e3
        rw [e4] at e1 e2
        exact ⟨e1, e2⟩)
      clear HJ
      go_wp2_with fail
      go_ret
      exact ⟨a, n, c, rfl, HN.out.1, HN.out.2⟩
end Go.Proofs.YtjpjjfgdgieapaaDoor
