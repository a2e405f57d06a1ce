import Derived.Test.YtjpjjfgdgieapaaDoorSv
import Derived.ChangeKeysEq
/-! Three words compared. -/
namespace Go.Proofs.YtjpjjfgdgieapaaDoor
open Go.RowKit Go.Deep
set_option linter.unusedVariables false
set_option maxRecDepth 100000
set_option linter.unusedSimpArgs false

theorem eqi (a a' : Int) (w : World) : (Op.equalIn 9999 100 (.int .u64 a) (.int .u64 a')).run Tryd.prog w = .ok (a == a') w := by kernel_rfl
theorem info100 : ∃ i, Tryd.prog.info? 100 = some i := Option.isSome_iff_exists.1 (by kernel_rfl)
theorem cellsOf130 : Tryd.prog.cellsOf 100 = 1 := by kernel_rfl
theorem plain130 : Tryd.prog.plainKey 100 = true := by kernel_rfl
theorem eq3 (a b c a' b' c' : Int) (w : World) : (Op.equalIn 10000 102 (.agg #[.int .u64 a, .int .u64 b, .int .u64 c]) (.agg #[.int .u64 a', .int .u64 b', .int .u64 c'])).run Tryd.prog w = .ok (a == a' && (b == b' && c == c')) w := by
  obtain ⟨i, hi⟩ := info100
  rw [run_equalIn_array (d := 9999) (w := w) _ _ Tryd.underlying102 hi, cellsOf130]
  have hr : List.range 3 = [0, 1, 2] := rfl
  rw [hr]
  simp only [Op.eqItems, Sem.run_bind, Nat.mul_one]
  rw [run_part_plain (w := w) plain130 (v := .int .u64 a) rfl]
  simp only [Result.andThen_ok]
  rw [run_part_plain (w := w) plain130 (v := .int .u64 a') rfl]
  simp only [Result.andThen_ok, eqi]
  cases h1 : a == a'
  · simp
  · simp only [Bool.not_true, Bool.false_eq_true, if_false, Sem.run_bind]
    rw [run_part_plain (w := w) plain130 (v := .int .u64 b) rfl]
    simp only [Result.andThen_ok]
    rw [run_part_plain (w := w) plain130 (v := .int .u64 b') rfl]
    simp only [Result.andThen_ok, eqi]
    cases h2 : b == b'
    · simp
    · simp only [Bool.not_true, Bool.false_eq_true, if_false, Sem.run_bind]
      rw [run_part_plain (w := w) plain130 (v := .int .u64 c) rfl]
      simp only [Result.andThen_ok]
      rw [run_part_plain (w := w) plain130 (v := .int .u64 c') rfl]
      simp only [Result.andThen_ok, eqi]
      cases h3 : c == c' <;> simp
end Go.Proofs.YtjpjjfgdgieapaaDoor

/-! The program: sets of symbols as words of bits. -/
namespace Go.Proofs.YtjpjjfgdgieapaaDoor
open Go.RowKit Go.Deep
set_option linter.unusedVariables false
set_option maxRecDepth 100000
set_option linter.unusedSimpArgs false

theorem quo64 (i k : Nat) (hk : k < 64) : Int.tdiv (((64 * i + k : Nat)) : Int) 64 = (i : Int) := by
  rw [Int.tdiv_eq_ediv_of_nonneg (by omega)]; omega
theorem rem64 (i k : Nat) (hk : k < 64) : Int.tmod (((64 * i + k : Nat)) : Int) 64 = (k : Int) := by
  rw [Int.tmod_eq_emod_of_nonneg (by omega)]; omega
theorem wrapu (n : Nat) (h : n < 2 ^ 64) : IntKind.u64.wrap (n : Int) = n := by
  simp [IntKind.wrap, IntKind.bits, IntKind.signed]; omega
theorem bits_or (a b : Nat) (ha : a < 2 ^ 64) (hb : b < 2 ^ 64) : bits BinOp.or .u64 (a : Int) (b : Int) = ((a ||| b : Nat) : Int) := by
  have h : a ||| b < 2 ^ 64 := Nat.or_lt_two_pow ha hb
  show IntKind.u64.wrap ((BitVec.ofInt 64 (a : Int) ||| BitVec.ofInt 64 (b : Int)).toNat : Int) = _
  rw [BitVec.toNat_or]
  simp only [BitVec.ofInt_natCast, BitVec.toNat_ofNat, Nat.mod_eq_of_lt ha, Nat.mod_eq_of_lt hb]
  exact wrapu _ h
theorem bits_and (a b : Nat) (ha : a < 2 ^ 64) (hb : b < 2 ^ 64) : bits BinOp.and .u64 (a : Int) (b : Int) = ((a &&& b : Nat) : Int) := by
  have h : a &&& b < 2 ^ 64 := Nat.and_lt_two_pow _ hb
  show IntKind.u64.wrap ((BitVec.ofInt 64 (a : Int) &&& BitVec.ofInt 64 (b : Int)).toNat : Int) = _
  rw [BitVec.toNat_and]
  simp only [BitVec.ofInt_natCast, BitVec.toNat_ofNat, Nat.mod_eq_of_lt ha, Nat.mod_eq_of_lt hb]
  exact wrapu _ h
theorem bit_has (C k : Nat) (hC : C < 2 ^ 64) : (bits BinOp.and .u64 ((C : Int) / 2 ^ k) 1 == 1) = C.testBit k := by
  have e1 : (C : Int) / 2 ^ k = ((C / 2 ^ k : Nat) : Int) := by simp
  have hlt : C / 2 ^ k < 2 ^ 64 := Nat.lt_of_le_of_lt (Nat.div_le_self _ _) hC
  have e2 := bits_and (C / 2 ^ k) 1 hlt (by decide)
  rw [e1]
  rw [show ((1 : Int)) = ((1 : Nat) : Int) from rfl, e2, Nat.and_one_is_mod, Nat.testBit_eq_decide_div_mod_eq]
  by_cases h : C / 2 ^ k % 2 = 1
  · rw [decide_eq_true h, h]; rfl
  · rw [decide_eq_false h]
    have : C / 2 ^ k % 2 = 0 := by omega
    rw [this]; rfl
theorem wrap_one (k : Nat) (hk : k < 64) : IntKind.u64.wrap (2 ^ k) = ((2 ^ k : Nat) : Int) := by
  have h := wrapu (2 ^ k) (Nat.pow_lt_pow_right (by omega) hk)
  rw [← h]; simp
set_option maxHeartbeats 800000 in
theorem has_any (q o : Nat) (c : Nat → Nat) (i k : Nat) (hi : i < 3) (hk : k < 64) (w : World) (hc : ∀ i, i < 3 → w.cell? ⟨q, o + i, none⟩ = some (.int .u64 (c i))) (hlt : ∀ i, c i < 2 ^ 64) :
    Calls Tryd.prog 71 #[.pointer (some ⟨q, o, none⟩), .int .i64 ((64 * i + k : Nat) : Int)] w fun e w' => e = .returned (.bool ((c i).testBit k)) ∧ w' = w := by
  have h1 := quo64 i k hk
  have h2 := rem64 i k hk
  have c0 := hc i hi
  have HB := (show Hid _ from bit_has (c i) k (hlt i))
  generalize ((64 * i + k : Nat) : Int) = X at *
  generalize c i = C at *
  clear hc hlt
  go_enter Tryd.func71, Tryd.ntmps71
  go_wp2_with fail
  go_ret
  exact ⟨by rw [← HB.out]; rfl, rfl⟩
/-- Words in a row of their own. -/
def WRow (w : World) (b : Nat) (W : List Nat) : Prop := w.rowIs b 102 W.length (fun i => .int .u64 (W.getD i 0 : Nat))
theorem WRow.cell {w : World} {b : Nat} {W : List Nat} (h : WRow w b W) {i : Nat} (hi : i < W.length) : w.cell? ⟨b, i, none⟩ = some (.int .u64 (W[i] : Nat)) := by
  have := World.rowIs.cell h hi
  simpa [List.getD_eq_getElem?_getD, hi] using this
theorem WRow.still {w w' : World} {b : Nat} {W : List Nat} (h : WRow w b W) (hb : Below w.heap.size w w') : WRow w' b W := World.rowIs.of_block h (hb.block b (World.rowIs.lt h))
theorem WRow.set {w : World} {b : Nat} {W : List Nat} (h : WRow w b W) {x : Nat} (hx : x < W.length) (u : Nat) : WRow (w.setCell ⟨b, x, none⟩ (.int .u64 u)) b (W.set x u) := by
  obtain ⟨c, h1, h2, h3⟩ := World.rowIs.set h x (.int .u64 u)
  refine ⟨c, h1, by simpa using h2, fun j hj => ?_⟩
  rw [List.length_set] at hj
  rw [h3 j hj]
  by_cases e : j = x
  · subst e; simp [List.getD_eq_getElem?_getD, hx]
  · have e2 : (W.set x u)[j]? = W[j]? := List.getElem?_set_ne (fun h : x = j => e h.symm)
    simp [List.getD_eq_getElem?_getD, e, e2]
theorem WRow.uniq {w : World} {b : Nat} {L M : List Nat} (h : WRow w b L) (k : WRow w b M) (hl : L.length = M.length) : L = M := by
  apply List.ext_getElem hl
  intro i h1 h2
  have e1 := h.cell h1
  rw [k.cell h2] at e1
  simp at e1
  omega
set_option maxHeartbeats 1600000 in
theorem add_any (b o : Nat) (W : List Nat) (i k : Nat) (hi : i < 3) (hk : k < 64) (w : World) (h : WRow w b W) (ho : o + i < W.length) (hlt : W[o + i] < 2 ^ 64) :
    Calls Tryd.prog 67 #[.pointer (some ⟨b, o, none⟩), .int .i64 ((64 * i + k : Nat) : Int)] w fun e w' => e = .returned (.tuple #[]) ∧ WRow w' b (W.set (o + i) (W[o + i] ||| 2 ^ k)) ∧ Bt b w w' := by
  have h1 := quo64 i k hk
  have h2 := rem64 i k hk
  have c0 := h.cell ho
  have f0 : w.frozen? ⟨b, o + i, none⟩ = false := World.rowIs.frozen h (o + i)
  have h3 := wrap_one k hk
  have h4 := bits_or W[o + i] (2 ^ k) hlt (Nat.pow_lt_pow_right (by omega) hk)
  have HR := (show Hid _ from h)
  generalize ((64 * i + k : Nat) : Int) = X at *
  generalize hPK : ((2 ^ k : Nat) : Int) = PK at *
  generalize hCC : W[o + i] = C at *
  clear h
  go_enter Tryd.func67, Tryd.ntmps67
  go_wp2_with fail
  go_region
  all_goals
    go_wp2_with fail
    refine bodyPost_end (v := .tuple #[]) (by simp [results, Tryd.results67]) rfl ?_
    exact ⟨rfl, World.rowIs.of_block (WRow.set HR.out ho _) rfl, (Bt.set _ _).drew⟩
/-- Three words more, as far as j. -/
def orW (W : List Nat) (o : Nat) (u : Nat → Nat) : Nat → List Nat
  | 0 => W
  | j + 1 => (orW W o u j).set (o + j) ((orW W o u j).getD (o + j) 0 ||| u j)
theorem orW_len (W : List Nat) (o : Nat) (u : Nat → Nat) (j : Nat) : (orW W o u j).length = W.length := by
  induction j with
  | zero => rfl
  | succ j ih => simp [orW, ih]
theorem orW_lt (W : List Nat) (o : Nat) (u : Nat → Nat) (hW : ∀ i, W.getD i 0 < 2 ^ 64) (hu : ∀ i, u i < 2 ^ 64) (j : Nat) : ∀ i, (orW W o u j).getD i 0 < 2 ^ 64 := by
  induction j with
  | zero => exact hW
  | succ j ih =>
    intro i
    unfold orW
    by_cases e : i = o + j
    · subst e
      by_cases hl : o + j < (orW W o u j).length
      · have : ((orW W o u j).set (o + j) ((orW W o u j).getD (o + j) 0 ||| u j)).getD (o + j) 0 = (orW W o u j).getD (o + j) 0 ||| u j := by simp [List.getD_eq_getElem?_getD, hl]
        rw [this]
        exact Nat.or_lt_two_pow (ih _) (hu _)
      · rw [List.set_eq_of_length_le (by omega)]; exact ih _
    · have : ((orW W o u j).set (o + j) ((orW W o u j).getD (o + j) 0 ||| u j)).getD i 0 = (orW W o u j).getD i 0 := by
        simp only [List.getD_eq_getElem?_getD]
        rw [List.getElem?_set_ne (fun h => e h.symm)]
      rw [this]; exact ih _
theorem ix0 (a b c : Int) (w : World) : (Instr.index 102 (.agg #[.int .u64 a, .int .u64 b, .int .u64 c]) (.int .i64 0)).run Tryd.prog w = .ok (.int .u64 a) w := by kernel_rfl
theorem ix1 (a b c : Int) (w : World) : (Instr.index 102 (.agg #[.int .u64 a, .int .u64 b, .int .u64 c]) (.int .i64 1)).run Tryd.prog w = .ok (.int .u64 b) w := by kernel_rfl
theorem ix2 (a b c : Int) (w : World) : (Instr.index 102 (.agg #[.int .u64 a, .int .u64 b, .int .u64 c]) (.int .i64 2)).run Tryd.prog w = .ok (.int .u64 c) w := by kernel_rfl
set_option maxHeartbeats 6400000 in
theorem addAll_any (b o : Nat) (W : List Nat) (u : Nat → Nat) (w : World) (h : WRow w b W) (ho : o + 3 ≤ W.length) (hW : ∀ i, W.getD i 0 < 2 ^ 64) (hu : ∀ i, u i < 2 ^ 64) :
    Calls Tryd.prog 87 #[.pointer (some ⟨b, o, none⟩), .agg #[.int .u64 (u 0 : Nat), .int .u64 (u 1 : Nat), .int .u64 (u 2 : Nat)]] w fun e w' => (∃ B, e = .returned (.bool B)) ∧ WRow w' b (orW W o u 3) ∧ Bt b w w' := by
  have hlt := World.rowIs.lt h
  have hb0 := bel_alloc w (.cells #[.int .u64 (u 0 : Nat), .int .u64 (u 1 : Nat), .int .u64 (u 2 : Nat)] 102)
  have h0 := WRow.still h hb0
  have C0 := h0.cell (i := o) (by omega)
  have C1 := h0.cell (i := o + 1) (by omega)
  have C2 := h0.cell (i := o + 2) (by omega)
  have HH := (show Hid _ from h)
  clear h h0
  generalize W[o] = x0 at C0
  generalize W[o + 1] = x1 at C1
  generalize W[o + 2] = x2 at C2
  generalize hu0 : u 0 = u0
  generalize hu1 : u 1 = u1
  generalize hu2 : u 2 = u2
  rw [hu0, hu1, hu2] at C0 C1 C2 hb0
  go_enter Tryd.func87, Tryd.ntmps87
  go_wp2_with fail
  have hbb := bel_trans hb0 (bel_alloc (w.alloc (.cells #[.int .u64 (u0 : Nat), .int .u64 (u1 : Nat), .int .u64 (u2 : Nat)] 102)) (.cells #[.int .u64 (x0 : Nat), .int .u64 (x1 : Nat), .int .u64 (x2 : Nat)] 102))
  have hbx := Box.new (w.alloc (.cells #[.int .u64 (u0 : Nat), .int .u64 (u1 : Nat), .int .u64 (u2 : Nat)] 102)) 102 [.int .u64 (x0 : Nat), .int .u64 (x1 : Nat), .int .u64 (x2 : Nat)]
  rw [World.size_alloc] at hbx
  have H0 := (show Hid _ from (⟨Bt.of_below (g := b) hbb, hbx, WRow.still HH.out hbb⟩ : Bt b w ((w.alloc (.cells #[.int .u64 (u0 : Nat), .int .u64 (u1 : Nat), .int .u64 (u2 : Nat)] 102)).alloc (.cells #[.int .u64 (x0 : Nat), .int .u64 (x1 : Nat), .int .u64 (x2 : Nat)] 102)) ∧ Box ((w.alloc (.cells #[.int .u64 (u0 : Nat), .int .u64 (u1 : Nat), .int .u64 (u2 : Nat)] 102)).alloc (.cells #[.int .u64 (x0 : Nat), .int .u64 (x1 : Nat), .int .u64 (x2 : Nat)] 102)) (w.heap.size + 1) 102 [.int .u64 (x0 : Nat), .int .u64 (x1 : Nat), .int .u64 (x2 : Nat)] ∧ WRow _ b W)); clear hbb hbx hb0 C0 C1 C2 HH
  go_loopw [12] (fun i wr => ∃ j : Nat, i = .int .i64 j ∧ j ≤ 3 ∧ Hid (Bt b w wr ∧ Box wr (w.heap.size + 1) 102 [.int .u64 (x0 : Nat), .int .u64 (x1 : Nat), .int .u64 (x2 : Nat)] ∧ WRow wr b (orW W o u j))) (fun i _ => 3 - (intOf i).toNat)
  case atStart => exact ⟨0, rfl, Nat.zero_le _, H0.out⟩
  case round =>
    obtain ⟨j, rfl, hj, HJ⟩ := hrel
    have hll := orW_len W o u j
    have hl64 := orW_lt W o u hW hu j
    have hcases : j = 0 ∨ j = 1 ∨ j = 2 ∨ j = 3 := by omega
    rcases hcases with rfl | rfl | rfl | rfl
    · have hjl : o < (orW W o u 0).length := by rw [hll]; omega
      have c0 := HJ.out.2.2.cell (i := o) hjl
      have f0 : wr.frozen? ⟨b, o, none⟩ = false := World.rowIs.frozen HJ.out.2.2 (o)
      have hv := hl64 (o)
      rw [getD_lt _ _ hjl] at hv
      have hor := bits_or _ (u 0) hv (hu 0)
      rw [hu0] at hor
      have hnx : (orW W o u 0).set (o) ((orW W o u 0)[o] ||| u 0) = orW W o u 1 := by
        show _ = (orW W o u 0).set (o + 0) ((orW W o u 0).getD (o + 0) 0 ||| u 0)
        rw [Nat.add_zero, getD_lt _ _ hjl]
      rw [hu0] at hnx
      have hS := HJ.out.2.2.set hjl ((orW W o u 0)[o] ||| u0)
      rw [hnx] at hS
      have HN := (show Hid _ from (⟨(HJ.out.1.trans (Bt.set _ _)).drew, (HJ.out.2.1.past (q := b) (by omega)).keep rfl, World.rowIs.of_block hS rfl⟩ : Bt b w (wr.setCell ⟨b, o, none⟩ (.int .u64 (((orW W o u 0)[o] ||| u0 : Nat) : Int))).drew ∧ Box (wr.setCell ⟨b, o, none⟩ (.int .u64 (((orW W o u 0)[o] ||| u0 : Nat) : Int))).drew (w.heap.size + 1) 102 [.int .u64 (x0 : Nat), .int .u64 (x1 : Nat), .int .u64 (x2 : Nat)] ∧ WRow (wr.setCell ⟨b, o, none⟩ (.int .u64 (((orW W o u 0)[o] ||| u0 : Nat) : Int))).drew b (orW W o u 1)))
      clear hS hnx hv HJ hl64
      generalize (orW W o u 0)[o] = y at *
      clear hjl hll
      have hix := ix0 (u0 : Nat) (u1 : Nat) (u2 : Nat)
      go_wp2_with fail
      go_region
      all_goals
        go_wp2_with fail
        exact ⟨⟨1, by go_num, by omega, HN⟩, by simp [intOf]⟩
    · have hjl : o + 1 < (orW W o u 1).length := by rw [hll]; omega
      have c0 := HJ.out.2.2.cell (i := o + 1) hjl
      have f0 : wr.frozen? ⟨b, o + 1, none⟩ = false := World.rowIs.frozen HJ.out.2.2 (o + 1)
      have hv := hl64 (o + 1)
      rw [getD_lt _ _ hjl] at hv
      have hor := bits_or _ (u 1) hv (hu 1)
      rw [hu1] at hor
      have hnx : (orW W o u 1).set (o + 1) ((orW W o u 1)[o + 1] ||| u 1) = orW W o u 2 := by
        show _ = (orW W o u 1).set (o + 1) ((orW W o u 1).getD (o + 1) 0 ||| u 1)
        rw [getD_lt _ _ hjl]
      rw [hu1] at hnx
      have hS := HJ.out.2.2.set hjl ((orW W o u 1)[o + 1] ||| u1)
      rw [hnx] at hS
      have HN := (show Hid _ from (⟨(HJ.out.1.trans (Bt.set _ _)).drew, (HJ.out.2.1.past (q := b) (by omega)).keep rfl, World.rowIs.of_block hS rfl⟩ : Bt b w (wr.setCell ⟨b, o + 1, none⟩ (.int .u64 (((orW W o u 1)[o + 1] ||| u1 : Nat) : Int))).drew ∧ Box (wr.setCell ⟨b, o + 1, none⟩ (.int .u64 (((orW W o u 1)[o + 1] ||| u1 : Nat) : Int))).drew (w.heap.size + 1) 102 [.int .u64 (x0 : Nat), .int .u64 (x1 : Nat), .int .u64 (x2 : Nat)] ∧ WRow (wr.setCell ⟨b, o + 1, none⟩ (.int .u64 (((orW W o u 1)[o + 1] ||| u1 : Nat) : Int))).drew b (orW W o u 2)))
      clear hS hnx hv HJ hl64
      generalize (orW W o u 1)[o + 1] = y at *
      clear hjl hll
      have hix := ix1 (u0 : Nat) (u1 : Nat) (u2 : Nat)
      go_wp2_with fail
      go_region
      all_goals
        go_wp2_with fail
        exact ⟨⟨2, by go_num, by omega, HN⟩, by simp [intOf]⟩
    · have hjl : o + 2 < (orW W o u 2).length := by rw [hll]; omega
      have c0 := HJ.out.2.2.cell (i := o + 2) hjl
      have f0 : wr.frozen? ⟨b, o + 2, none⟩ = false := World.rowIs.frozen HJ.out.2.2 (o + 2)
      have hv := hl64 (o + 2)
      rw [getD_lt _ _ hjl] at hv
      have hor := bits_or _ (u 2) hv (hu 2)
      rw [hu2] at hor
      have hnx : (orW W o u 2).set (o + 2) ((orW W o u 2)[o + 2] ||| u 2) = orW W o u 3 := by
        show _ = (orW W o u 2).set (o + 2) ((orW W o u 2).getD (o + 2) 0 ||| u 2)
        rw [getD_lt _ _ hjl]
      rw [hu2] at hnx
      have hS := HJ.out.2.2.set hjl ((orW W o u 2)[o + 2] ||| u2)
      rw [hnx] at hS
      have HN := (show Hid _ from (⟨(HJ.out.1.trans (Bt.set _ _)).drew, (HJ.out.2.1.past (q := b) (by omega)).keep rfl, World.rowIs.of_block hS rfl⟩ : Bt b w (wr.setCell ⟨b, o + 2, none⟩ (.int .u64 (((orW W o u 2)[o + 2] ||| u2 : Nat) : Int))).drew ∧ Box (wr.setCell ⟨b, o + 2, none⟩ (.int .u64 (((orW W o u 2)[o + 2] ||| u2 : Nat) : Int))).drew (w.heap.size + 1) 102 [.int .u64 (x0 : Nat), .int .u64 (x1 : Nat), .int .u64 (x2 : Nat)] ∧ WRow (wr.setCell ⟨b, o + 2, none⟩ (.int .u64 (((orW W o u 2)[o + 2] ||| u2 : Nat) : Int))).drew b (orW W o u 3)))
      clear hS hnx hv HJ hl64
      generalize (orW W o u 2)[o + 2] = y at *
      clear hjl hll
      have hix := ix2 (u0 : Nat) (u1 : Nat) (u2 : Nat)
      go_wp2_with fail
      go_region
      all_goals
        go_wp2_with fail
        exact ⟨⟨3, by go_num, by omega, HN⟩, by simp [intOf]⟩
    · have c0 := HJ.out.2.2.cell (i := o) (by rw [hll]; omega)
      have c1 := HJ.out.2.2.cell (i := o + 1) (by rw [hll]; omega)
      have c2 := HJ.out.2.2.cell (i := o + 2) (by rw [hll]; omega)
      have b0 : wr.cell? ⟨w.heap.size + 1, 0, none⟩ = some (.int .u64 (x0 : Nat)) := HJ.out.2.1.cell 0 (by simp)
      have b1 : wr.cell? ⟨w.heap.size + 1, 1, none⟩ = some (.int .u64 (x1 : Nat)) := HJ.out.2.1.cell 1 (by simp)
      have b2 : wr.cell? ⟨w.heap.size + 1, 2, none⟩ = some (.int .u64 (x2 : Nat)) := HJ.out.2.1.cell 2 (by simp)
      have HN := (show Hid _ from HJ.out)
      clear HJ hl64
      generalize (orW W o u 3)[o] = y0 at c0
      generalize (orW W o u 3)[o + 1] = y1 at c1
      generalize (orW W o u 3)[o + 2] = y2 at c2
      go_wp2_with fail
      have heq := eq3 (y0 : Nat) (y1 : Nat) (y2 : Nat) (x0 : Nat) (x1 : Nat) (x2 : Nat)
      go_quiet (fail)
      go_wp2_with fail
      go_ret
      exact ⟨⟨_, rfl⟩, World.rowIs.of_block HN.out.2.2 rfl, HN.out.1.trans (Bt.of_below (bel_drewN _ _ _))⟩
end Go.Proofs.YtjpjjfgdgieapaaDoor

/-! What words of bits say: who leads where. -/
namespace Go.Proofs.YtjpjjfgdgieapaaDoor
open Go.RowKit Go.Deep
set_option linter.unusedVariables false
set_option maxRecDepth 100000
set_option linter.unusedSimpArgs false

theorem set_getD (W : List Nat) (k v i : Nat) : (W.set k v).getD i 0 = if i = k ∧ k < W.length then v else W.getD i 0 := by
  simp only [List.getD_eq_getElem?_getD, List.getElem?_set]
  by_cases e : k = i
  · subst e
    by_cases h : k < W.length
    · simp [h]
    · simp [h]
  · have e' : ¬ (i = k ∧ k < W.length) := fun h => e h.1.symm
    rw [if_neg e, if_neg e']
theorem orW_get (W : List Nat) (o : Nat) (u : Nat → Nat) (ho : o + 3 ≤ W.length) (i : Nat) : (orW W o u 3).getD i 0 = if o ≤ i ∧ i < o + 3 then W.getD i 0 ||| u (i - o) else W.getD i 0 := by
  have key : ∀ j, j ≤ 3 → ∀ i, (orW W o u j).getD i 0 = if o ≤ i ∧ i < o + j then W.getD i 0 ||| u (i - o) else W.getD i 0 := by
    intro j
    induction j with
    | zero => intro _ i; rw [if_neg (by omega)]; rfl
    | succ j ih =>
      intro hj i
      rw [orW, set_getD, orW_len]
      by_cases e : i = o + j
      · subst e
        rw [if_pos ⟨rfl, by omega⟩, ih (by omega), if_neg (by omega), if_pos (by omega)]
        congr 2
        omega
      · rw [if_neg (fun h => e h.1), ih (by omega)]
        by_cases h : o ≤ i ∧ i < o + j
        · rw [if_pos h, if_pos (by omega)]
        · rw [if_neg h, if_neg (by omega)]
  exact key 3 (Nat.le_refl _) i
/-- y is in the set of l. -/
def mem (W : List Nat) (l y : Nat) : Bool := (W.getD (l * 3 + y / 64) 0).testBit (y % 64)
def add1 (W : List Nat) (l x : Nat) : List Nat := W.set (l * 3 + x / 64) (W.getD (l * 3 + x / 64) 0 ||| 2 ^ (x % 64))
def addS (W : List Nat) (l x : Nat) : List Nat := orW (add1 W l x) (l * 3) (fun i => (add1 W l x).getD (x * 3 + i) 0) 3
theorem add1_len (W : List Nat) (l x : Nat) : (add1 W l x).length = W.length := by simp [add1]
theorem addS_len (W : List Nat) (l x : Nat) : (addS W l x).length = W.length := by rw [addS, orW_len, add1_len]
theorem add1_ge (W : List Nat) (l x i : Nat) : W.getD i 0 ≤ (add1 W l x).getD i 0 := by
  rw [add1, set_getD]
  split
  · rename_i h; rw [h.1]; exact Nat.left_le_or
  · exact Nat.le_refl _
theorem addS_get (W : List Nat) (l x : Nat) (hl : l * 3 + 3 ≤ W.length) (i : Nat) : (addS W l x).getD i 0 = if l * 3 ≤ i ∧ i < l * 3 + 3 then (add1 W l x).getD i 0 ||| (add1 W l x).getD (x * 3 + (i - l * 3)) 0 else (add1 W l x).getD i 0 := by
  rw [addS, orW_get _ _ _ (by rw [add1_len]; exact hl)]
theorem addS_ge (W : List Nat) (l x : Nat) (hl : l * 3 + 3 ≤ W.length) (i : Nat) : W.getD i 0 ≤ (addS W l x).getD i 0 := by
  rw [addS_get W l x hl]
  split
  · exact Nat.le_trans (add1_ge W l x i) Nat.left_le_or
  · exact add1_ge W l x i
theorem add1_other (W : List Nat) (l x i : Nat) (hx : x < 192) (hi : ¬ (l * 3 ≤ i ∧ i < l * 3 + 3)) : (add1 W l x).getD i 0 = W.getD i 0 := by
  rw [add1, set_getD, if_neg (fun h => hi (by omega))]
theorem addS_other (W : List Nat) (l x : Nat) (hl : l * 3 + 3 ≤ W.length) (hx : x < 192) (i : Nat) (hi : ¬ (l * 3 ≤ i ∧ i < l * 3 + 3)) : (addS W l x).getD i 0 = W.getD i 0 := by
  rw [addS_get W l x hl, if_neg hi, add1_other W l x i hx hi]
theorem add1_lt (W : List Nat) (hW : ∀ i, W.getD i 0 < 2 ^ 64) (l x : Nat) : ∀ i, (add1 W l x).getD i 0 < 2 ^ 64 := by
  intro i
  rw [add1, set_getD]
  split
  · exact Nat.or_lt_two_pow (hW _) (Nat.pow_lt_pow_right (by omega) (Nat.mod_lt _ (by omega)))
  · exact hW i
theorem addS_lt (W : List Nat) (hW : ∀ i, W.getD i 0 < 2 ^ 64) (l x : Nat) : ∀ i, (addS W l x).getD i 0 < 2 ^ 64 :=
  orW_lt _ _ _ (add1_lt W hW l x) (fun i => add1_lt W hW l x _) 3
theorem ext_getD {V W : List Nat} (hl : V.length = W.length) (h : ∀ i, V.getD i 0 = W.getD i 0) : V = W := by
  apply List.ext_getElem hl
  intro i h1 h2
  have := h i
  rw [getD_lt _ _ h1, getD_lt _ _ h2] at this
  exact this
theorem mem_add1 (W : List Nat) (l x : Nat) (hl : l * 3 + 3 ≤ W.length) (hx : x < 192) (l' y : Nat) (hy : y < 192) : mem (add1 W l x) l' y = (mem W l' y || decide (l' = l ∧ y = x)) := by
  unfold mem
  rw [add1, set_getD]
  by_cases e : l' * 3 + y / 64 = l * 3 + x / 64
  · have el : l' = l := by omega
    have ey : y / 64 = x / 64 := by omega
    rw [if_pos ⟨e, by omega⟩, Nat.testBit_or, Nat.testBit_two_pow, e]
    congr 1
    by_cases h : x % 64 = y % 64
    · rw [decide_eq_true h, decide_eq_true]; exact ⟨el, by omega⟩
    · rw [decide_eq_false h, decide_eq_false]; intro k; exact h (by rw [k.2])
  · rw [if_neg (fun h => e h.1)]
    have : ¬ (l' = l ∧ y = x) := fun h => e (by rw [h.1, h.2])
    rw [decide_eq_false this, Bool.or_false]
theorem mem_addS (W : List Nat) (l x : Nat) (hl : l * 3 + 3 ≤ W.length) (hx : x < 192) (l' y : Nat) (hy : y < 192) : mem (addS W l x) l' y = (mem (add1 W l x) l' y || (decide (l' = l) && mem (add1 W l x) x y)) := by
  show ((addS W l x).getD (l' * 3 + y / 64) 0).testBit (y % 64) = _
  rw [addS_get W l x hl]
  by_cases e : l' = l
  · subst e
    rw [if_pos (by omega), Nat.testBit_or, decide_eq_true rfl, Bool.true_and]
    unfold mem
    congr 3
    omega
  · rw [if_neg (by omega), decide_eq_false e, Bool.false_and, Bool.or_false]
    rfl
/-- One after the other. -/
def stepW (W : List Nat) (l : Nat) (q : List Nat) : List Nat := q.foldl (fun W x => addS W l x) W
theorem stepW_len (l : Nat) (q : List Nat) : ∀ W, (stepW W l q).length = W.length := by
  induction q with
  | nil => intro W; rfl
  | cons x q ih => intro W; show (stepW (addS W l x) l q).length = _; rw [ih, addS_len]
theorem stepW_ge (l : Nat) (q : List Nat) : ∀ W, l * 3 + 3 ≤ W.length → ∀ i, W.getD i 0 ≤ (stepW W l q).getD i 0 := by
  induction q with
  | nil => intro W _ i; exact Nat.le_refl _
  | cons x q ih =>
    intro W hl i
    exact Nat.le_trans (addS_ge W l x hl i) (ih (addS W l x) (by rw [addS_len]; exact hl) i)
theorem stepW_other (l : Nat) (q : List Nat) (hq : ∀ x ∈ q, x < 192) : ∀ W, l * 3 + 3 ≤ W.length → ∀ i, ¬ (l * 3 ≤ i ∧ i < l * 3 + 3) → (stepW W l q).getD i 0 = W.getD i 0 := by
  induction q with
  | nil => intro W _ i _; rfl
  | cons x q ih =>
    intro W hl i hi
    show (stepW (addS W l x) l q).getD i 0 = _
    rw [ih (fun y hy => hq y (by simp [hy])) _ (by rw [addS_len]; exact hl) i hi, addS_other W l x hl (hq x (by simp)) i hi]
theorem stepW_lt (l : Nat) (q : List Nat) : ∀ W, (∀ i, W.getD i 0 < 2 ^ 64) → ∀ i, (stepW W l q).getD i 0 < 2 ^ 64 := by
  induction q with
  | nil => intro W h; exact h
  | cons x q ih => intro W h; exact ih _ (addS_lt W h l x)
/-- Where nothing is new, nothing was done. -/
theorem stepW_fix (l : Nat) (q : List Nat) (hq : ∀ x ∈ q, x < 192) : ∀ W, l * 3 + 3 ≤ W.length → stepW W l q = W → ∀ x ∈ q, mem W l x = true ∧ ∀ y, y < 192 → mem W x y = true → mem W l y = true := by
  induction q with
  | nil => intro W _ _ x hx; simp at hx
  | cons z q ih =>
    intro W hl he x hx
    have h1 : addS W l z = W := by
      refine ext_getD (addS_len W l z) fun i => ?_
      have g1 := addS_ge W l z hl i
      have g2 := stepW_ge l q (addS W l z) (by rw [addS_len]; exact hl) i
      have e : (stepW (addS W l z) l q).getD i 0 = W.getD i 0 := by
        have : stepW (addS W l z) l q = W := he
        rw [this]
      omega
    have h2 : stepW W l q = W := by
      have : stepW (addS W l z) l q = W := he
      rw [h1] at this
      exact this
    rcases List.mem_cons.1 hx with rfl | hx'
    · have hz : x < 192 := hq x (by simp)
      have m1 : ∀ y, y < 192 → mem W l y = (mem (add1 W l x) l y || mem (add1 W l x) x y) := by
        intro y hy
        have := mem_addS W l x hl hz l y hy
        rw [h1, decide_eq_true rfl, Bool.true_and] at this
        exact this
      constructor
      · rw [m1 x hz, mem_add1 W l x hl hz l x hz]
        simp
      · intro y hy hm
        rw [m1 y hy, mem_add1 W l x hl hz x y hy, hm]
        simp
    · exact ih (fun y hy => hq y (by simp [hy])) W hl h2 x hx'
/-- What comes in was led to. -/
theorem stepW_sound (E : Nat → Nat → Prop) (l : Nat) (q : List Nat) (hq : ∀ x ∈ q, x < 192 ∧ E l x) : ∀ W, l * 3 + 3 ≤ W.length → (∀ a y, y < 192 → mem W a y = true → Tc E a y) → ∀ a y, y < 192 → mem (stepW W l q) a y = true → Tc E a y := by
  induction q with
  | nil => intro W _ h; exact h
  | cons z q ih =>
    intro W hl h
    obtain ⟨hz, hE⟩ := hq z (by simp)
    refine ih (fun y hy => hq y (by simp [hy])) (addS W l z) (by rw [addS_len]; exact hl) ?_
    have s1 : ∀ a y, y < 192 → mem (add1 W l z) a y = true → Tc E a y := by
      intro a y hy hm
      rw [mem_add1 W l z hl hz a y hy, Bool.or_eq_true] at hm
      rcases hm with hm | hm
      · exact h a y hy hm
      · have := of_decide_eq_true hm
        rw [this.1, this.2]
        exact Tc.one hE
    intro a y hy hm
    rw [mem_addS W l z hl hz a y hy, Bool.or_eq_true, Bool.and_eq_true] at hm
    rcases hm with hm | ⟨hm1, hm2⟩
    · exact s1 a y hy hm
    · rw [of_decide_eq_true hm1]
      exact Tc.step hE (s1 z y hy hm2)
/-- How much is not yet there. -/
def room (W : List Nat) : Nat := (W.map fun v => 2 ^ 64 - v).sum
theorem room_le : ∀ (V W : List Nat), V.length = W.length → (∀ i, W.getD i 0 ≤ V.getD i 0) → room V ≤ room W := by
  intro V
  induction V with
  | nil => intro W hl _; have : W = [] := List.length_eq_zero_iff.1 hl.symm; subst this; exact Nat.le_refl _
  | cons v V ih =>
    intro W hl h
    cases W with
    | nil => simp at hl
    | cons x W =>
      have h0 := h 0
      have h1 := ih W (by simpa using hl) fun i => by have := h (i + 1); simpa using this
      simp at h0
      unfold room at h1 ⊢
      simp only [List.map_cons, List.sum_cons]
      omega
theorem room_lt : ∀ (V W : List Nat), V.length = W.length → (∀ i, W.getD i 0 ≤ V.getD i 0) → (∀ i, V.getD i 0 < 2 ^ 64) → V ≠ W → room V < room W := by
  intro V
  induction V with
  | nil => intro W hl _ _ hn; have : W = [] := List.length_eq_zero_iff.1 hl.symm; exact absurd this.symm hn
  | cons v V ih =>
    intro W hl h ht hn
    cases W with
    | nil => simp at hl
    | cons x W =>
      have h0 := h 0
      have t0 := ht 0
      have hr : ∀ i, W.getD i 0 ≤ V.getD i 0 := fun i => by have := h (i + 1); simpa using this
      have hl' : V.length = W.length := by simpa using hl
      simp at h0 t0
      by_cases e : V = W
      · have : v ≠ x := fun e2 => hn (by rw [e, e2])
        subst e
        unfold room
        simp only [List.map_cons, List.sum_cons]
        omega
      · have h1 := ih W hl' hr (fun i => by have := ht (i + 1); simpa using this) e
        unfold room at h1 ⊢
        simp only [List.map_cons, List.sum_cons]
        omega
end Go.Proofs.YtjpjjfgdgieapaaDoor
