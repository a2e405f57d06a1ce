import Derived.Test.YtledclkmeikgdaaChecked
import Derived.Test.YtledclkmeikgdaaXBase
import Derived.Deep.OwnRows
import Derived.KernelRfl
import Derived.Outline
namespace Go.Proofs.Ytledclkmeikgdaa.T
open Go.RowKit Go.Deep
set_option linter.unusedVariables false
set_option linter.unusedSimpArgs false

theorem info40 : (Try.prog.info? 40).map (fun i => (i.zero, i.size, i.bytes)) = some (some (.agg #[.string ByteArray.empty, .string ByteArray.empty, .bool false, .slice none 0 0]), 4, 64) := by kernel_rfl

/-- 'make([]Tree, n)'. -/
theorem run_makeTrees (n : Nat) (hn : n ≤ 1048576) (w : World) :
    (Instr.makeSlice 38 (.int .i64 (n : Int)) (.int .i64 (n : Int))).run Try.prog w = .ok (.slice (some ⟨w.heap.size, 0, none⟩) n n) (w.alloc (.cells (madeCells #[.string ByteArray.empty, .string ByteArray.empty, .bool false, .slice none 0 0] (n * 4)) 40)) := by
  obtain ⟨i, hi, hzz⟩ := Option.map_eq_some_iff.1 info40
  simp only [Prod.mk.injEq] at hzz
  obtain ⟨hz, hs, hb⟩ := hzz
  have hr := run_make (P := Try.prog) w 38 40 i _ Try.underlying38 hi hz .i64 .i64 n n (by omega) (Int.le_refl _) (by rw [hb]; omega) (by omega)
  simp only [Int.toNat_natCast, hs] at hr
  exact hr

theorem row_made (w : World) (z : Array Value) (n : Nat) (t : TypeId) : ∃ f, (w.alloc (.cells (madeCells z n) t)).rowIs w.heap.size t n f :=
  ⟨fun i => z[i % z.size]!, _, blk_alloc_new _ _, size_madeCells _ _, fun i hi => by simp [madeCells, hi]⟩

/-- What the loop of toTreeS has made: of the first j Kids the copies stand in the row g, and lie behind it. -/
def Made (k : List Tr) (g : Nat) (j : Nat) (wr : World) : Prop :=
  ∃ (f : Nat → Value) (sv : Nat → Value), wr.rowIs g 40 (k.length * 4) f ∧
    (∀ i (_ : i < j) (hi : i < k.length), f (i * 4) = .string k[i].name ∧ f (i * 4 + 1) = .string k[i].text ∧ f (i * 4 + 2) = .bool k[i].leaf ∧ f (i * 4 + 3) = sv i) ∧
    ∀ i (_ : i < j) (hi : i < k.length), Lies wr (fun b => g < b) k[i] (sv i)

theorem lies_setCell {w : World} {g o : Nat} {u v : Value} {t : Tr} (h : Lies w (fun b => g < b) t v) : Lies (w.setCell ⟨g, o, none⟩ u) (fun b => g < b) t v :=
  h.keep (fun b hb => blk_setCell_other _ _ _ _ (by show b ≠ g; omega))

/-- A store into a block ahead of all that it lies in. -/
theorem lies_past {w : World} {g c o : Nat} {u v : Value} {t : Tr} (h : Lies w (fun b => g ≤ b) t v) (hc : c < g) : Lies (w.setCell ⟨c, o, none⟩ u) (fun b => g ≤ b) t v :=
  h.keep (fun b (hb : g ≤ b) => blk_setCell_other _ _ _ _ (by show b ≠ c; omega))

theorem made_step {k : List Tr} {g j : Nat} {w1 : World} (hj : j < k.length) {f svp : Nat → Value} (hrow : w1.rowIs g 40 (k.length * 4) f)
    (hcs : ∀ i (_ : i < j) (hi : i < k.length), f (i * 4) = .string k[i].name ∧ f (i * 4 + 1) = .string k[i].text ∧ f (i * 4 + 2) = .bool k[i].leaf ∧ f (i * 4 + 3) = svp i)
    (hls : ∀ i (_ : i < j) (hi : i < k.length), Lies w1 (fun b => g < b) k[i] (svp i)) {v : Value} (hl : Lies w1 (fun b => g < b) k[j] v) :
    Made k g (j + 1) ((((w1.setCell ⟨g, j * 4, none⟩ (.string k[j].name)).setCell ⟨g, j * 4 + 1, none⟩ (.string k[j].text)).setCell ⟨g, j * 4 + 2, none⟩ (.bool k[j].leaf)).setCell ⟨g, j * 4 + 3, none⟩ v) := by
  refine ⟨_, fun i => if i = j then v else svp i, (((hrow.set _ _).set _ _).set _ _).set _ _, fun i hi hk => ?_, fun i hi hk => ?_⟩
  · by_cases e : i = j
    · subst e; simp
    · obtain ⟨q0, q1, q2, q3⟩ := hcs i (by omega) hk
      refine ⟨?_, ?_, ?_, ?_⟩
      · rw [if_neg (by omega), if_neg (by omega), if_neg (by omega), if_neg (by omega)]; exact q0
      · rw [if_neg (by omega), if_neg (by omega), if_neg (by omega), if_neg (by omega)]; exact q1
      · rw [if_neg (by omega), if_neg (by omega), if_neg (by omega), if_neg (by omega)]; exact q2
      · rw [if_neg (by omega), if_neg (by omega), if_neg (by omega), if_neg (by omega)]; simp only [if_neg e]; exact q3
  · by_cases e : i = j
    · subst e
      simp only [if_true]
      exact lies_setCell (lies_setCell (lies_setCell (lies_setCell hl)))
    · simp only [if_neg e]
      exact lies_setCell (lies_setCell (lies_setCell (lies_setCell (hls i (by omega) hk))))

theorem made_lies {k : List Tr} {g : Nat} {w : World} (h : Made k g k.length w) {n x : ByteArray} {l : Bool} (hn : n.size ≤ maxLen) (hx : x.size ≤ maxLen) (hk : k.length ≤ maxLen) :
    Lies w (fun b => g ≤ b) (.mk n x l k) (.slice (some ⟨g, 0, none⟩) k.length k.length) := by
  obtain ⟨f, sv, hrow, hcs, hls⟩ := h
  refine Lies.shut ⟨_, _, g, 0, sv, rfl, hn, hx, Nat.le_refl _, hk, fun _ => ⟨rfl, Nat.le_refl _⟩, fun i hi => ?_, fun i hi => (hls i hi hi).mono (fun b (hb : g < b) => by omega)⟩
  dsimp only at hi ⊢
  obtain ⟨q0, q1, q2, q3⟩ := hcs i hi hi
  rw [← q0, ← q1, ← q2, ← q3]
  simp only [Nat.zero_add]
  exact ⟨hrow.cell (by omega), hrow.cell (by omega), hrow.cell (by omega), hrow.cell (by omega)⟩

set_option maxHeartbeats 400000 in
theorem toS_any (k : List Tr) (a : Option Addr) (cap b off : Nat) (sv : Nat → Value) (S : Nat → Prop) (hc : k.length ≤ cap) (hm : cap ≤ maxLen)
    (ha : 0 < k.length → a = some ⟨b, off, none⟩ ∧ S b) (hlen : k.length ≤ 1048576)
    (ih : ∀ i (hi : i < k.length) (w : World), Lies w S k[i] (sv i) →
      Calls Try.prog 19 #[k[i].val (sv i)] w fun e w' => ∃ v', e = .returned (k[i].val v') ∧ Below w.heap.size w w' ∧ Lies w' (fun b => w.heap.size ≤ b) k[i] v')
    (w : World)
    (hcell : ∀ i (hi : i < k.length), w.cell? ⟨b, off + i * 4, none⟩ = some (.string k[i].name) ∧ w.cell? ⟨b, off + i * 4 + 1, none⟩ = some (.string k[i].text) ∧
        w.cell? ⟨b, off + i * 4 + 2, none⟩ = some (.bool k[i].leaf) ∧ w.cell? ⟨b, off + i * 4 + 3, none⟩ = some (sv i))
    (hk : ∀ i (hi : i < k.length), Lies w S k[i] (sv i)) :
    Calls Try.prog 62 #[.slice a k.length cap] w fun e w' => e = .returned (.slice (some ⟨w.heap.size, 0, none⟩) k.length k.length) ∧ Below w.heap.size w w' ∧ Made k w.heap.size k.length w' := by
  unfold maxLen at hm
  have HI := (show Hid _ from ih); clear ih
  have HC := (show Hid _ from hcell); clear hcell
  have HK := (show Hid _ from hk); clear hk
  have HA := (show Hid _ from ha); clear ha
  have hmk := run_makeTrees k.length hlen
  go_enter Try.func62, Try.ntmps62
  go_wp2_with fail
  go_loopw [4] (fun i wr => ∃ j : Nat, j ≤ k.length ∧ i = .int .i64 j ∧ Below w.heap.size w wr ∧ Made k w.heap.size j wr) (fun i _ => k.length - (intOf i).toNat)
  case atStart =>
    obtain ⟨f, hf⟩ := row_made w #[.string ByteArray.empty, .string ByteArray.empty, .bool false, .slice none 0 0] (k.length * 4) 40
    exact ⟨0, Nat.zero_le _, rfl, bel_alloc _ _, f, sv, hf, fun i hi => absurd hi (Nat.not_lt_zero _), fun i hi => absurd hi (Nat.not_lt_zero _)⟩
  case round =>
    obtain ⟨j, hj, rfl, hbel, hmade⟩ := hrel
    by_cases hlt : j < k.length
    · obtain ⟨rfl, _⟩ := HA.out (by omega)
      obtain ⟨c0, c1, c2, c3⟩ := HC.out j hlt
      rw [← hbel.cell (lt_of_cell c0)] at c0
      rw [← hbel.cell (lt_of_cell c1)] at c1
      rw [← hbel.cell (lt_of_cell c2)] at c2
      rw [← hbel.cell (lt_of_cell c3)] at c3
      have HM := (show Hid _ from hmade); clear hmade
      go_wp2_with fail
      refine (HI.out j hlt wr ((HK.out j hlt).still hbel)).mono ?_
      rintro e w1 ⟨v', rfl, hb1, hl1⟩
      clear c0 c1 c2 c3
      obtain ⟨f, svp, hrow, hcs, hls⟩ := HM.out
      have hrow1 := hrow.of_block (hb1.block _ hrow.lt)
      have e0 := hrow1.cell (i := j * 4) (by omega)
      have e1 := hrow1.cell (i := j * 4 + 1) (by omega)
      have e2 := hrow1.cell (i := j * 4 + 2) (by omega)
      have e3 := hrow1.cell (i := j * 4 + 3) (by omega)
      have z0 := hrow1.frozen (j * 4)
      have z1 := hrow1.frozen (j * 4 + 1)
      have z2 := hrow1.frozen (j * 4 + 2)
      have z3 := hrow1.frozen (j * 4 + 3)
      obtain ⟨a1, l1, p1, rfl⟩ := hl1.form
      have H1 := (show Hid _ from (⟨hcs, hls, hrow, hrow1⟩ : _ ∧ _ ∧ _ ∧ _)); clear hcs hls hrow hrow1
      go_wp2_with fail
      obtain ⟨hcs, hls, hrow, hrow1⟩ := H1.out
      have hlt2 := hrow.lt
      have hb2 := hbel.trans (hb1.mono hbel.size)
      refine ⟨⟨j + 1, by omega, by go_num, (((hb2.setCell (Nat.le_refl _) _).setCell (Nat.le_refl _) _).setCell (Nat.le_refl _) _).setCell (Nat.le_refl _) _, ?_⟩, by simp [intOf]; omega⟩
      exact made_step hlt hrow1 hcs (fun i hi hk => (hls i hi hk).still hb1) (hl1.mono (fun b hb => by omega))
    · go_wp2_with fail
      go_ret
      have : j = k.length := by omega
      subst this
      exact ⟨rfl, hbel, hmade⟩

set_option maxHeartbeats 400000 in
theorem to_any {S : Nat → Prop} (t : Tr) : ∀ (v : Value) (w : World), Lies w S t v → t.wt ≤ 1048576 →
    Calls Try.prog 19 #[t.val v] w fun e w' => ∃ v', e = .returned (t.val v') ∧ Below w.heap.size w w' ∧ Lies w' (fun b => w.heap.size ≤ b) t v' := by
  refine Tr.ind (P := fun t => ∀ (v : Value) (w : World), Lies w S t v → t.wt ≤ 1048576 →
    Calls Try.prog 19 #[t.val v] w fun e w' => ∃ v', e = .returned (t.val v') ∧ Below w.heap.size w w' ∧ Lies w' (fun b => w.heap.size ≤ b) t v') ?_ t
  intro n x l k ih v w hlies hwt
  rw [Tr.wt_mk] at hwt
  obtain ⟨a, cap, b, off, sv, rfl, hn, hx, hc, hm, ha, hcell, hk⟩ := hlies.out
  dsimp only at hn hx hc ha hcell hk ⊢
  have hcall := fun (w' : World) (hw : Below w.heap.size w w') =>
    toS_any k _ _ b off sv S hc hm ha (by omega) (fun i hi w hl => ih i hi (sv i) w hl (by have := Tr.wt_mem k i hi; omega)) w'
      (fun i hi => by
        obtain ⟨c0, c1, c2, c3⟩ := hcell i hi
        exact ⟨(hw.cell (lt_of_cell c0)).trans c0, (hw.cell (lt_of_cell c1)).trans c1, (hw.cell (lt_of_cell c2)).trans c2, (hw.cell (lt_of_cell c3)).trans c3⟩)
      (fun i hi => (hk i hi).still hw)
  have HI := (show Hid _ from hcall)
  clear hcall hcell hk ha ih
  simp only [Tr.val]
  go_enter Try.func19, Try.ntmps19
  go_wp2_with fail
  refine (HI.out _ (((bel_alloc _ _).alloc (by simp) _).alloc (by simp; omega) _)).mono ?_
  rintro e w1 ⟨rfl, hb1, hmade⟩
  obtain ⟨hcc, hff⟩ := bcell hb1
  have HB := (show Hid _ from hb1); clear hb1
  have HM := (show Hid _ from hmade); clear hmade
  have hsz : w.heap.size + 3 ≤ w1.heap.size := by have := HB.out.size; simp at this; omega
  go_wp2_with fail
  have hbel : Below w.heap.size w w1 := (((bel_alloc _ _).alloc (by simp) _).alloc (by simp; omega) _).trans (HB.out.mono (by simp; omega))
  have hml := made_lies HM.out (n := n) (x := x) (l := l) hn hx (Nat.le_trans hc hm)
  simp only [World.size_alloc] at hml
  refine bodyPost_ret (v := .agg #[.string n, .string x, .bool l, .slice (some ⟨w.heap.size + 1 + 1 + 1, 0, none⟩) k.length k.length]) (by simp [results, Try.results19, go_sem, hcc]) rfl ⟨_, rfl, ?_, ?_⟩
  · exact ((((hbel.setCell (by simp; omega) _).setCell (by simp) _).setCell (by simp) _).setCell (by simp) _).setCell (by simp) _
  · exact (lies_past (lies_past (lies_past (lies_past (lies_past hml (by omega)) (by omega)) (by omega)) (by omega)) (by omega)).mono (fun b hb => by omega)
end Go.Proofs.Ytledclkmeikgdaa.T
