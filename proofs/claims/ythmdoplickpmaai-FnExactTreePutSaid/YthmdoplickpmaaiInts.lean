import Derived.Test.YthmdoplickpmaaiHeld
namespace Go.Proofs.Ythmdoplickpmaai
open Go.RowKit Go.Deep Go.Lib
set_option linter.unusedVariables false
set_option maxRecDepth 100000
set_option linter.unusedSimpArgs false

/-- Numbers that lie behind a slice, in a block of S. -/
def Ints (w : World) (S : Nat → Prop) (l : List Int) (v : Value) : Prop :=
  ∃ (a : Option Addr) (cap b off : Nat), v = .slice a l.length cap ∧ l.length ≤ cap ∧ cap ≤ maxLen ∧ (0 < l.length → a = some ⟨b, off, none⟩ ∧ S b) ∧ ∀ i (hi : i < l.length), w.cell? ⟨b, off + i, none⟩ = some (.int .i64 l[i])
theorem Ints.still {w w' : World} {S : Nat → Prop} {l : List Int} {v : Value} (h : Ints w S l v) (hb : Below w.heap.size w w') : Ints w' S l v := by
  obtain ⟨a, cap, b, off, hv, hc, hm, ha, hcell⟩ := h
  exact ⟨a, cap, b, off, hv, hc, hm, ha, fun i hi => (hb.cell (lt_of_cell (hcell i hi))).trans (hcell i hi)⟩
theorem Ints.keep {w w' : World} {S : Nat → Prop} {l : List Int} {v : Value} (h : Ints w S l v) (hb : ∀ b, S b → b < w.heap.size → w'.heap[b]? = w.heap[b]?) : Ints w' S l v := by
  obtain ⟨a, cap, b, off, hv, hc, hm, ha, hcell⟩ := h
  exact ⟨a, cap, b, off, hv, hc, hm, ha, fun i hi => (World.cell?_of_block (w := w) (hb b (ha (by omega)).2 (lt_of_cell (hcell i hi)))).trans (hcell i hi)⟩
theorem Ints.form {w : World} {S : Nat → Prop} {l : List Int} {v : Value} (h : Ints w S l v) : ∃ a len cap, v = .slice a len cap := by
  obtain ⟨a, cap, b, off, hv, _⟩ := h
  exact ⟨_, _, _, hv⟩
/-- .. in a row of its own. -/
def IRow (w : World) (b : Nat) (l : List Int) : Prop := w.rowIs b 3 l.length (fun i => .int .i64 (l.getD i 0))
theorem IRow.ints {w : World} {b : Nat} {l : List Int} (h : IRow w b l) (hl : l.length ≤ maxLen) : Ints w (fun c => c = b) l (.slice (some ⟨b, 0, none⟩) l.length l.length) := by
  refine ⟨_, _, b, 0, rfl, Nat.le_refl _, hl, fun _ => ⟨rfl, rfl⟩, fun i hi => ?_⟩
  rw [Nat.zero_add, h.cell hi]
  simp [List.getD_eq_getElem?_getD, hi]

theorem info3i : (Try.prog.info? 3).map (fun i => (i.zero, i.size, i.bytes)) = some (some (.int .i64 0), 1, 8) := by kernel_rfl
theorem run_makeInts (n : Nat) (hn : n ≤ 1048576) (w : World) :
    (Instr.makeSlice 25 (.int .i64 (n : Int)) (.int .i64 (n : Int))).run Try.prog w = .ok (.slice (some ⟨w.heap.size, 0, none⟩) n n) (w.alloc (.cells (madeCells #[.int .i64 0] n) 3)) := by
  obtain ⟨i, hi, hz, hs, hb⟩ := info_parts info3i
  have hr := run_make (P := Try.prog) w 25 3 i _ Try.underlying25 hi hz .i64 .i64 n n (by omega) (Int.le_refl _) (by rw [hb]; omega) (by omega)
  simp only [Int.toNat_natCast, hs, Nat.mul_one] at hr
  exact hr

set_option maxHeartbeats 400000 in
theorem toInts_any {S : Nat → Prop} (l : List Int) (v : Value) (w : World) (h : Ints w S l v) (hlen : l.length ≤ 1048576) :
    Calls Try.prog 10 #[v] w fun e w' => e = .returned (.slice (some ⟨w.heap.size, 0, none⟩) l.length l.length) ∧ Below w.heap.size w w' ∧ IRow w' w.heap.size l := by
  obtain ⟨a, cap, b, off, rfl, hc, hm, ha, hcell⟩ := h
  have HC := (show Hid _ from hcell); clear hcell
  have HA := (show Hid _ from ha); clear ha
  unfold maxLen at hm
  have hmk := run_makeInts l.length hlen
  go_enter Try.func10, Try.ntmps10
  go_wp2_with fail
  go_loopw [4] (fun i wr => ∃ j : Nat, j ≤ l.length ∧ i = .int .i64 j ∧ Below w.heap.size w wr ∧ Hid (∃ f, wr.rowIs w.heap.size 3 l.length f ∧ ∀ i (_ : i < j) (hi : i < l.length), f i = .int .i64 l[i])) (fun i _ => l.length - (intOf i).toNat)
  case atStart =>
    obtain ⟨f, hf⟩ := row_made w #[.int .i64 0] l.length 3
    exact ⟨0, Nat.zero_le _, rfl, bel_alloc _ _, f, hf, fun i hi => absurd hi (Nat.not_lt_zero _)⟩
  case round =>
    obtain ⟨j, hj, rfl, hbel, HM⟩ := hrel
    obtain ⟨f, hrow, hf⟩ := HM.out
    by_cases hlt : j < l.length
    · obtain ⟨rfl, _⟩ := HA.out (by omega)
      have c0 := HC.out j hlt
      rw [← hbel.cell (lt_of_cell c0)] at c0
      have e0 := hrow.cell (i := j) (by omega)
      have z0 := hrow.frozen j
      have HR := (show Hid _ from (⟨hrow, hf⟩ : _ ∧ _)); clear hrow hf
      go_wp2_with fail
      refine ⟨⟨j + 1, by omega, by go_num, hbel.setCell (Nat.le_refl _) _, _, World.rowIs.set HR.out.1 j (.int .i64 l[j]), fun i hi hl => ?_⟩, by simp [intOf]; omega⟩
      by_cases e : i = j
      · subst e; simp
      · rw [if_neg e]; exact HR.out.2 i (by omega) hl
    · go_wp2_with fail
      go_ret
      refine ⟨rfl, hbel, ?_⟩
      obtain ⟨cs, h1, h2, h3⟩ := hrow
      refine ⟨cs, h1, h2, fun i hi => ?_⟩
      rw [h3 i hi, hf i (by omega) hi]
      simp [List.getD_eq_getElem?_getD, hi]

set_option maxHeartbeats 400000 in
theorem eqInts_any {S S' : Nat → Prop} (l : List Int) (v v' : Value) (w : World) (h : Ints w S l v) (h' : Ints w S' l v') :
    Calls Try.prog 13 #[v, v'] w fun e w' => e = .returned (.bool true) ∧ Below w.heap.size w w' := by
  obtain ⟨a, cap, b, off, rfl, hc, hm, ha, hcell⟩ := h
  obtain ⟨a', cap', b', off', rfl, hc', hm', ha', hcell'⟩ := h'
  have HC := (show Hid _ from hcell); clear hcell
  have HA := (show Hid _ from ha); clear ha
  have HC' := (show Hid _ from hcell'); clear hcell'
  have HA' := (show Hid _ from ha'); clear ha'
  unfold maxLen at hm hm'
  go_enter Try.func13, Try.ntmps13
  go_wp2_with fail
  go_loopw [5] (fun i wr => ∃ j : Nat, j ≤ l.length ∧ i = .int .i64 j ∧ Below w.heap.size w wr) (fun i _ => l.length - (intOf i).toNat)
  case atStart => exact ⟨0, Nat.zero_le _, rfl, Below.refl _ _⟩
  case round =>
    obtain ⟨j, hj, rfl, hbel⟩ := hrel
    by_cases hlt : j < l.length
    · obtain ⟨rfl, _⟩ := HA.out (by omega)
      obtain ⟨rfl, _⟩ := HA'.out (by omega)
      have c0 := HC.out j hlt
      rw [← hbel.cell (lt_of_cell c0)] at c0
      have c1 := HC'.out j hlt
      rw [← hbel.cell (lt_of_cell c1)] at c1
      have hbd := hbel.drew
      go_wp2_with fail
      go_region
      all_goals
        go_wp2_with fail
        exact ⟨⟨j + 1, by omega, by go_num, hbd⟩, by simp [intOf]; omega⟩
    · go_wp2_with fail
      go_ret
      exact ⟨rfl, hbel⟩

set_option maxHeartbeats 400000 in
theorem markInts_any (l : List Int) (b n : Nat) (w : World) (h : IRow w b l) (hl : l.length ≤ 1048576) (hn : n ≤ 67108864) :
    Calls Try.prog 15 #[.slice (some ⟨b, 0, none⟩) l.length l.length, .int .i64 n] w fun e w' => e = .returned (.int .i64 (n + l.length : Nat)) ∧ Out b (b + 1) w w' := by
  have HR0 := (show Hid _ from h); clear h
  go_enter Try.func15, Try.ntmps15
  go_wp2_with fail
  go_loopw [1, 5] (fun u i wr => ∃ (j : Nat), j ≤ l.length ∧ i = .int .i64 j ∧ u = .int .i64 (n + j : Nat) ∧ Out b (b + 1) w wr ∧ Hid (∃ f, wr.rowIs b 3 l.length f)) (fun _ i _ => l.length - (intOf i).toNat)
  case atStart => exact ⟨0, Nat.zero_le _, rfl, rfl, Out.refl _ _ _, ⟨_, HR0.out⟩⟩
  case round =>
    obtain ⟨j, hj, rfl, rfl, hout, HM⟩ := hrel
    obtain ⟨f, hrow⟩ := HM.out
    by_cases hlt : j < l.length
    · have e0 := hrow.cell (i := j) (by omega)
      have z0 := hrow.frozen j
      have HR := (show Hid _ from hrow); clear hrow
      go_wp2_with fail
      exact ⟨⟨j + 1, by omega, by go_num, by go_num, hout.trans (Out.set _ _ (Nat.le_refl _) (by omega)), _, World.rowIs.set HR.out j _⟩, by simp [intOf]; omega⟩
    · obtain rfl : j = l.length := by omega
      go_wp2_with fail
      go_ret
      exact ⟨rfl, hout⟩

/-- markTree and heldTree. -/
theorem mark_any (t : Tr) (v : Value) (w : World) (lo hi n : Nat) (h : Own w lo hi t v) (hhi : hi ≤ w.heap.size) (hn : 0 < n) (hnk : n + 3 * Tr.cntL t.kids ≤ 67108864) :
    Calls Try.prog 14 #[t.val v, .int .i64 n] w fun e w' => e = .returned (.int .i64 (n + 3 * Tr.cntL t.kids : Nat)) ∧ Out lo hi w w' ∧ Own w' lo hi (mk t n) v := by
  have hcl := markS_any t v (w.alloc (.cells #[.string t.name, .string t.text, .bool t.leaf, v] 29)) lo hi n (h.keep (Nat.le_refl _) (Nat.le_refl _) (fun k _ _ hk => (bel_alloc w _).block k hk)) (by simp; omega) hn hnk
  obtain ⟨a, len, cap, rfl⟩ := h.form
  have HCL := (show Hid _ from hcl); clear hcl h
  simp only [Tr.val]
  go_enter Try.func14, Try.ntmps14
  go_wp2_with fail
  refine Calls.mono HCL.out ?_
  rintro e w1 ⟨rfl, ho, hown⟩
  have HO := (show Hid _ from (⟨ho, hown⟩ : _ ∧ _)); clear ho hown
  go_wp2_with fail
  go_ret
  exact ⟨rfl, (Out.of_below (bel_alloc _ _)).trans HO.out.1, HO.out.2⟩
theorem held_any {S : Nat → Prop} (t : Tr) (nm x : ByteArray) (le : Bool) (v : Value) (w : World) (n : Nat) (h : Lies w S ⟨nm, x, le, (mkP t).2 n⟩ v) (hn : 0 < n) (hnk : n + 3 * Tr.cntL t.kids ≤ 67108864) (nm' x' : ByteArray) (le' : Bool) :
    Calls Try.prog 16 #[.agg #[.string nm', .string x', .bool le', v], .int .i64 n] w fun e w' => e = .returned (.int .i64 (n + 3 * Tr.cntL t.kids : Nat)) ∧ Below w.heap.size w w' := by
  have hcl := heldS_any t nm x le v (w.alloc (.cells #[.string nm', .string x', .bool le', v] 29)) n (h.still (bel_alloc _ _)) hn hnk
  obtain ⟨a, len, cap, rfl⟩ := h.form
  have HCL := (show Hid _ from hcl); clear hcl h
  go_enter Try.func16, Try.ntmps16
  go_wp2_with fail
  refine Calls.mono HCL.out ?_
  rintro e w1 ⟨rfl, hb⟩
  go_wp2_with fail
  go_ret
  exact ⟨rfl, bel_box hb⟩
end Go.Proofs.Ythmdoplickpmaai
