import Derived.Test.YthmdoplickpmaahHeld
namespace Go.Proofs.Ythmdoplickpmaah
open Go.RowKit Go.Deep Go.Lib
set_option linter.unusedVariables false
set_option linter.unusedSimpArgs false

/-- Numbers that lie behind a slice, in a block of S. -/
def Ints (w : World) (S : Nat → Prop) (l : List Int) (v : Value) : Prop :=
  ∃ (a : Option Addr) (cap b off : Nat), v = .slice a l.length cap ∧ l.length ≤ cap ∧ cap ≤ maxLen ∧ (0 < l.length → a = some ⟨b, off, none⟩ ∧ S b) ∧ ∀ i (hi : i < l.length), w.cell? ⟨b, off + i, none⟩ = some (.int .i64 l[i])
theorem Ints.still {w w' : World} {S : Nat → Prop} {l : List Int} {v : Value} (h : Ints w S l v) (hb : Below w.heap.size w w') : Ints w' S l v := by
  obtain ⟨a, cap, b, off, hv, hc, hm, ha, hcell⟩ := h
  exact ⟨a, cap, b, off, hv, hc, hm, ha, fun i hi => (hb.cell (lt_of_cell (hcell i hi))).trans (hcell i hi)⟩
theorem Ints.keep {w w' : World} {S : Nat → Prop} {l : List Int} {v : Value} (h : Ints w S l v) (hb : ∀ b, S b → b < w.heap.size → w'.heap[b]? = w.heap[b]?) : Ints w' S l v := by
  obtain ⟨a, cap, b, off, hv, hc, hm, ha, hcell⟩ := h
  exact ⟨a, cap, b, off, hv, hc, hm, ha, fun i hi => (World.cell?_of_block (w := w) (hb b (ha (by omega)).2 (lt_of_cell (hcell i hi)))).trans (hcell i hi)⟩
theorem Ints.form {w : World} {S : Nat → Prop} {l : List Int} {v : Value} (h : Ints w S l v) : ∃ a len cap, v = .slice a len cap := by
  obtain ⟨a, cap, b, off, hv, _⟩ := h
  exact ⟨_, _, _, hv⟩
/-- .. in a row of its own. -/
def IRow (w : World) (b : Nat) (l : List Int) : Prop := w.rowIs b 3 l.length (fun i => .int .i64 (l.getD i 0))
theorem IRow.ints {w : World} {b : Nat} {l : List Int} (h : IRow w b l) (hl : l.length ≤ maxLen) : Ints w (fun c => c = b) l (.slice (some ⟨b, 0, none⟩) l.length l.length) := by
  refine ⟨_, _, b, 0, rfl, Nat.le_refl _, hl, fun _ => ⟨rfl, rfl⟩, fun i hi => ?_⟩
  rw [Nat.zero_add, h.cell hi]
  simp [List.getD_eq_getElem?_getD, hi]

theorem info3i : (Try.prog.info? 3).map (fun i => (i.zero, i.size, i.bytes)) = some (some (.int .i64 0), 1, 8) := by kernel_rfl
theorem run_makeInts (n : Nat) (hn : n ≤ 1048576) (w : World) :
    (Instr.makeSlice 110 (.int .i64 (n : Int)) (.int .i64 (n : Int))).run Try.prog w = .ok (.slice (some ⟨w.heap.size, 0, none⟩) n n) (w.alloc (.cells (madeCells #[.int .i64 0] n) 3)) := by
  obtain ⟨i, hi, hz, hs, hb⟩ := info_parts info3i
  have hr := run_make (P := Try.prog) w 110 3 i _ Try.underlying110 hi hz .i64 .i64 n n (by omega) (Int.le_refl _) (by rw [hb]; omega) (by omega)
  simp only [Int.toNat_natCast, hs, Nat.mul_one] at hr
  exact hr

/-- markTree and heldTree. -/
theorem mark_any (t : Tr) (v : Value) (w : World) (lo hi n : Nat) (h : Own w lo hi t v) (hhi : hi ≤ w.heap.size) (hn : 0 < n) (hnk : n + 3 * Tr.cntL t.kids ≤ 67108864) :
    Calls Try.prog 19 #[t.val v, .int .i64 n] w fun e w' => e = .returned (.int .i64 (n + 3 * Tr.cntL t.kids : Nat)) ∧ Out lo hi w w' ∧ Own w' lo hi (mk t n) v := by
  have hcl := markS_any t v (w.alloc (.cells #[.string t.name, .string t.text, .bool t.leaf, v] 29)) lo hi n (h.keep (Nat.le_refl _) (Nat.le_refl _) (fun k _ _ hk => (bel_alloc w _).block k hk)) (by simp; omega) hn hnk
  obtain ⟨a, len, cap, rfl⟩ := h.form
  have HCL := (show Hid _ from hcl); clear hcl h
  simp only [Tr.val]
  go_enter Try.func19, Try.ntmps19
  go_wp2_with fail
  refine Calls.mono HCL.out ?_
  rintro e w1 ⟨rfl, ho, hown⟩
  have HO := (show Hid _ from (⟨ho, hown⟩ : _ ∧ _)); clear ho hown
  go_wp2_with fail
  go_ret
  exact ⟨rfl, (Out.of_below (bel_alloc _ _)).trans HO.out.1, HO.out.2⟩
theorem held_any {S : Nat → Prop} (t : Tr) (nm x : ByteArray) (le : Bool) (v : Value) (w : World) (n : Nat) (h : Lies w S ⟨nm, x, le, (mkP t).2 n⟩ v) (hn : 0 < n) (hnk : n + 3 * Tr.cntL t.kids ≤ 67108864) (nm' x' : ByteArray) (le' : Bool) :
    Calls Try.prog 20 #[.agg #[.string nm', .string x', .bool le', v], .int .i64 n] w fun e w' => e = .returned (.int .i64 (n + 3 * Tr.cntL t.kids : Nat)) ∧ Below w.heap.size w w' := by
  have hcl := heldS_any t nm x le v (w.alloc (.cells #[.string nm', .string x', .bool le', v] 29)) n (h.still (bel_alloc _ _)) hn hnk
  obtain ⟨a, len, cap, rfl⟩ := h.form
  have HCL := (show Hid _ from hcl); clear hcl h
  go_enter Try.func20, Try.ntmps20
  go_wp2_with fail
  refine Calls.mono HCL.out ?_
  rintro e w1 ⟨rfl, hb⟩
  go_wp2_with fail
  go_ret
  exact ⟨rfl, bel_box hb⟩
end Go.Proofs.Ythmdoplickpmaah
