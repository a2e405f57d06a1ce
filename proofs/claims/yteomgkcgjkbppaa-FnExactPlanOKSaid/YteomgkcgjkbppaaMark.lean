import Derived.Test.YteomgkcgjkbppaaChecked
import Derived.Test.YteomgkcgjkbppaaBase
import Derived.Deep.OwnRows
import Derived.KernelRfl
import Derived.Outline
import Derived.Test.YteomgkcgjkbppaaSize
import Derived.Test.YteomgkcgjkbppaaRight
import Derived.Lib.AppendStr
namespace Go.Proofs.Yteomgkcgjkbppaa
open Go.RowKit Go.Deep
set_option linter.unusedVariables false
set_option linter.unusedSimpArgs false

theorem info31 : (Try.prog.info? 31).map (fun i => (i.zero, i.size, i.bytes)) = some (some (.agg #[.string ByteArray.empty, .string ByteArray.empty, .bool false, .slice none 0 0]), 4, 64) := by kernel_rfl

/-- 'make([]Tree, n)'. -/
theorem run_makeTrees (n : Nat) (hn : n ≤ 1048576) (w : World) :
    (Instr.makeSlice 29 (.int .i64 (n : Int)) (.int .i64 (n : Int))).run Try.prog w = .ok (.slice (some ⟨w.heap.size, 0, none⟩) n n) (w.alloc (.cells (madeCells #[.string ByteArray.empty, .string ByteArray.empty, .bool false, .slice none 0 0] (n * 4)) 31)) := by
  obtain ⟨i, hi, hzz⟩ := Option.map_eq_some_iff.1 info31
  simp only [Prod.mk.injEq] at hzz
  obtain ⟨hz, hs, hb⟩ := hzz
  have hr := run_make (P := Try.prog) w 29 31 i _ Try.underlying29 hi hz .i64 .i64 n n (by omega) (Int.le_refl _) (by rw [hb]; omega) (by omega)
  simp only [Int.toNat_natCast, hs] at hr
  exact hr

theorem row_made (w : World) (z : Array Value) (n : Nat) (t : TypeId) : ∃ f, (w.alloc (.cells (madeCells z n) t)).rowIs w.heap.size t n f :=
  ⟨fun i => z[i % z.size]!, _, blk_alloc_new _ _, size_madeCells _ _, fun i hi => by simp [madeCells, hi]⟩

/-- What the loop of toTreeS has made: of the first j Kids the copies stand in the row g, and lie behind it. -/
def Made (k : List Tr) (g : Nat) (j : Nat) (wr : World) : Prop :=
  ∃ (f : Nat → Value) (sv : Nat → Value), wr.rowIs g 31 (k.length * 4) f ∧
    (∀ i (_ : i < j) (hi : i < k.length), f (i * 4) = .string k[i].name ∧ f (i * 4 + 1) = .string k[i].text ∧ f (i * 4 + 2) = .bool k[i].leaf ∧ f (i * 4 + 3) = sv i) ∧
    ∀ i (_ : i < j) (hi : i < k.length), Lies wr (fun b => g < b) k[i] (sv i)

theorem lies_setCell {w : World} {g o : Nat} {u v : Value} {t : Tr} (h : Lies w (fun b => g < b) t v) : Lies (w.setCell ⟨g, o, none⟩ u) (fun b => g < b) t v :=
  h.keep (fun b hb => blk_setCell_other _ _ _ _ (by show b ≠ g; omega))

/-- A store into a block ahead of all that it lies in. -/
theorem lies_past {w : World} {g c o : Nat} {u v : Value} {t : Tr} (h : Lies w (fun b => g ≤ b) t v) (hc : c < g) : Lies (w.setCell ⟨c, o, none⟩ u) (fun b => g ≤ b) t v :=
  h.keep (fun b (hb : g ≤ b) => blk_setCell_other _ _ _ _ (by show b ≠ c; omega))

theorem made_step {k : List Tr} {g j : Nat} {w1 : World} (hj : j < k.length) {f svp : Nat → Value} (hrow : w1.rowIs g 31 (k.length * 4) f)
    (hcs : ∀ i (_ : i < j) (hi : i < k.length), f (i * 4) = .string k[i].name ∧ f (i * 4 + 1) = .string k[i].text ∧ f (i * 4 + 2) = .bool k[i].leaf ∧ f (i * 4 + 3) = svp i)
    (hls : ∀ i (_ : i < j) (hi : i < k.length), Lies w1 (fun b => g < b) k[i] (svp i)) {v : Value} (hl : Lies w1 (fun b => g < b) k[j] v) :
    Made k g (j + 1) ((((w1.setCell ⟨g, j * 4, none⟩ (.string k[j].name)).setCell ⟨g, j * 4 + 1, none⟩ (.string k[j].text)).setCell ⟨g, j * 4 + 2, none⟩ (.bool k[j].leaf)).setCell ⟨g, j * 4 + 3, none⟩ v) := by
  refine ⟨_, fun i => if i = j then v else svp i, (((hrow.set _ _).set _ _).set _ _).set _ _, fun i hi hk => ?_, fun i hi hk => ?_⟩
  · by_cases e : i = j
    · subst e; simp
    · obtain ⟨q0, q1, q2, q3⟩ := hcs i (by omega) hk
      refine ⟨?_, ?_, ?_, ?_⟩
      · rw [if_neg (by omega), if_neg (by omega), if_neg (by omega), if_neg (by omega)]; exact q0
      · rw [if_neg (by omega), if_neg (by omega), if_neg (by omega), if_neg (by omega)]; exact q1
      · rw [if_neg (by omega), if_neg (by omega), if_neg (by omega), if_neg (by omega)]; exact q2
      · rw [if_neg (by omega), if_neg (by omega), if_neg (by omega), if_neg (by omega)]; simp only [if_neg e]; exact q3
  · by_cases e : i = j
    · subst e
      simp only [if_true]
      exact lies_setCell (lies_setCell (lies_setCell (lies_setCell hl)))
    · simp only [if_neg e]
      exact lies_setCell (lies_setCell (lies_setCell (lies_setCell (hls i (by omega) hk))))

theorem made_lies {k : List Tr} {g : Nat} {w : World} (h : Made k g k.length w) {n x : ByteArray} {l : Bool} (hn : n.size ≤ maxLen) (hx : x.size ≤ maxLen) (hk : k.length ≤ maxLen) :
    Lies w (fun b => g ≤ b) (.mk n x l k) (.slice (some ⟨g, 0, none⟩) k.length k.length) := by
  obtain ⟨f, sv, hrow, hcs, hls⟩ := h
  refine Lies.shut ⟨_, _, g, 0, sv, rfl, hn, hx, Nat.le_refl _, hk, fun _ => ⟨rfl, Nat.le_refl _⟩, fun i hi => ?_, fun i hi => (hls i hi hi).mono (fun b (hb : g < b) => by omega)⟩
  dsimp only at hi ⊢
  obtain ⟨q0, q1, q2, q3⟩ := hcs i hi hi
  rw [← q0, ← q1, ← q2, ← q3]
  simp only [Nat.zero_add]
  exact ⟨hrow.cell (by omega), hrow.cell (by omega), hrow.cell (by omega), hrow.cell (by omega)⟩

set_option maxHeartbeats 400000 in
theorem toS_any (k : List Tr) (a : Option Addr) (cap b off : Nat) (sv : Nat → Value) (S : Nat → Prop) (hc : k.length ≤ cap) (hm : cap ≤ maxLen)
    (ha : 0 < k.length → a = some ⟨b, off, none⟩ ∧ S b) (hlen : k.length ≤ 1048576)
    (ih : ∀ i (hi : i < k.length) (w : World), Lies w S k[i] (sv i) →
      Calls Try.prog 9 #[k[i].val (sv i)] w fun e w' => ∃ v', e = .returned (k[i].val v') ∧ Below w.heap.size w w' ∧ Lies w' (fun b => w.heap.size ≤ b) k[i] v')
    (w : World)
    (hcell : ∀ i (hi : i < k.length), w.cell? ⟨b, off + i * 4, none⟩ = some (.string k[i].name) ∧ w.cell? ⟨b, off + i * 4 + 1, none⟩ = some (.string k[i].text) ∧
        w.cell? ⟨b, off + i * 4 + 2, none⟩ = some (.bool k[i].leaf) ∧ w.cell? ⟨b, off + i * 4 + 3, none⟩ = some (sv i))
    (hk : ∀ i (hi : i < k.length), Lies w S k[i] (sv i)) :
    Calls Try.prog 36 #[.slice a k.length cap] w fun e w' => e = .returned (.slice (some ⟨w.heap.size, 0, none⟩) k.length k.length) ∧ Below w.heap.size w w' ∧ Made k w.heap.size k.length w' := by
  unfold maxLen at hm
  have HI := (show Hid _ from ih); clear ih
  have HC := (show Hid _ from hcell); clear hcell
  have HK := (show Hid _ from hk); clear hk
  have HA := (show Hid _ from ha); clear ha
  have hmk := run_makeTrees k.length hlen
  go_enter Try.func36, Try.ntmps36
  go_wp2_with fail
  go_loopw [4] (fun i wr => ∃ j : Nat, j ≤ k.length ∧ i = .int .i64 j ∧ Below w.heap.size w wr ∧ Made k w.heap.size j wr) (fun i _ => k.length - (intOf i).toNat)
  case atStart =>
    obtain ⟨f, hf⟩ := row_made w #[.string ByteArray.empty, .string ByteArray.empty, .bool false, .slice none 0 0] (k.length * 4) 31
    exact ⟨0, Nat.zero_le _, rfl, bel_alloc _ _, f, sv, hf, fun i hi => absurd hi (Nat.not_lt_zero _), fun i hi => absurd hi (Nat.not_lt_zero _)⟩
  case round =>
    obtain ⟨j, hj, rfl, hbel, hmade⟩ := hrel
    by_cases hlt : j < k.length
    · obtain ⟨rfl, _⟩ := HA.out (by omega)
      obtain ⟨c0, c1, c2, c3⟩ := HC.out j hlt
      rw [← hbel.cell (lt_of_cell c0)] at c0
      rw [← hbel.cell (lt_of_cell c1)] at c1
      rw [← hbel.cell (lt_of_cell c2)] at c2
      rw [← hbel.cell (lt_of_cell c3)] at c3
      have HM := (show Hid _ from hmade); clear hmade
      go_wp2_with fail
      refine (HI.out j hlt wr ((HK.out j hlt).still hbel)).mono ?_
      rintro e w1 ⟨v', rfl, hb1, hl1⟩
      clear c0 c1 c2 c3
      obtain ⟨f, svp, hrow, hcs, hls⟩ := HM.out
      have hrow1 := hrow.of_block (hb1.block _ hrow.lt)
      have e0 := hrow1.cell (i := j * 4) (by omega)
      have e1 := hrow1.cell (i := j * 4 + 1) (by omega)
      have e2 := hrow1.cell (i := j * 4 + 2) (by omega)
      have e3 := hrow1.cell (i := j * 4 + 3) (by omega)
      have z0 := hrow1.frozen (j * 4)
      have z1 := hrow1.frozen (j * 4 + 1)
      have z2 := hrow1.frozen (j * 4 + 2)
      have z3 := hrow1.frozen (j * 4 + 3)
      obtain ⟨a1, l1, p1, rfl⟩ := hl1.form
      have H1 := (show Hid _ from (⟨hcs, hls, hrow, hrow1⟩ : _ ∧ _ ∧ _ ∧ _)); clear hcs hls hrow hrow1
      go_wp2_with fail
      obtain ⟨hcs, hls, hrow, hrow1⟩ := H1.out
      have hlt2 := hrow.lt
      have hb2 := hbel.trans (hb1.mono hbel.size)
      refine ⟨⟨j + 1, by omega, by go_num, (((hb2.setCell (Nat.le_refl _) _).setCell (Nat.le_refl _) _).setCell (Nat.le_refl _) _).setCell (Nat.le_refl _) _, ?_⟩, by simp [intOf]; omega⟩
      exact made_step hlt hrow1 hcs (fun i hi hk => (hls i hi hk).still hb1) (hl1.mono (fun b hb => by omega))
    · go_wp2_with fail
      go_ret
      have : j = k.length := by omega
      subst this
      exact ⟨rfl, hbel, hmade⟩

set_option maxHeartbeats 400000 in
theorem to_any {S : Nat → Prop} (t : Tr) : ∀ (v : Value) (w : World), Lies w S t v → t.wt ≤ 1048576 →
    Calls Try.prog 9 #[t.val v] w fun e w' => ∃ v', e = .returned (t.val v') ∧ Below w.heap.size w w' ∧ Lies w' (fun b => w.heap.size ≤ b) t v' := by
  refine Tr.ind (P := fun t => ∀ (v : Value) (w : World), Lies w S t v → t.wt ≤ 1048576 →
    Calls Try.prog 9 #[t.val v] w fun e w' => ∃ v', e = .returned (t.val v') ∧ Below w.heap.size w w' ∧ Lies w' (fun b => w.heap.size ≤ b) t v') ?_ t
  intro n x l k ih v w hlies hwt
  rw [Tr.wt_mk] at hwt
  obtain ⟨a, cap, b, off, sv, rfl, hn, hx, hc, hm, ha, hcell, hk⟩ := hlies.out
  dsimp only at hn hx hc ha hcell hk ⊢
  have hcall := fun (w' : World) (hw : Below w.heap.size w w') =>
    toS_any k _ _ b off sv S hc hm ha (by omega) (fun i hi w hl => ih i hi (sv i) w hl (by have := Tr.wt_mem k i hi; omega)) w'
      (fun i hi => by
        obtain ⟨c0, c1, c2, c3⟩ := hcell i hi
        exact ⟨(hw.cell (lt_of_cell c0)).trans c0, (hw.cell (lt_of_cell c1)).trans c1, (hw.cell (lt_of_cell c2)).trans c2, (hw.cell (lt_of_cell c3)).trans c3⟩)
      (fun i hi => (hk i hi).still hw)
  have HI := (show Hid _ from hcall)
  clear hcall hcell hk ha ih
  simp only [Tr.val]
  go_enter Try.func9, Try.ntmps9
  go_wp2_with fail
  refine (HI.out _ (((bel_alloc _ _).alloc (by simp) _).alloc (by simp; omega) _)).mono ?_
  rintro e w1 ⟨rfl, hb1, hmade⟩
  obtain ⟨hcc, hff⟩ := bcell hb1
  have HB := (show Hid _ from hb1); clear hb1
  have HM := (show Hid _ from hmade); clear hmade
  have hsz : w.heap.size + 3 ≤ w1.heap.size := by have := HB.out.size; simp at this; omega
  go_wp2_with fail
  have hbel : Below w.heap.size w w1 := (((bel_alloc _ _).alloc (by simp) _).alloc (by simp; omega) _).trans (HB.out.mono (by simp; omega))
  have hml := made_lies HM.out (n := n) (x := x) (l := l) hn hx (Nat.le_trans hc hm)
  simp only [World.size_alloc] at hml
  refine bodyPost_ret (v := .agg #[.string n, .string x, .bool l, .slice (some ⟨w.heap.size + 1 + 1 + 1, 0, none⟩) k.length k.length]) (by simp [results, Try.results9, go_sem, hcc]) rfl ⟨_, rfl, ?_, ?_⟩
  · exact ((((hbel.setCell (by simp; omega) _).setCell (by simp) _).setCell (by simp) _).setCell (by simp) _).setCell (by simp) _
  · exact (lies_past (lies_past (lies_past (lies_past (lies_past hml (by omega)) (by omega)) (by omega)) (by omega)) (by omega)).mono (fun b hb => by omega)
end Go.Proofs.Yteomgkcgjkbppaa

/-! Bytes that are written, and what they are as a text; rows that are owned. -/
namespace Go.Proofs.Yteomgkcgjkbppaa
open Go.RowKit Go.Deep Go.Lib
set_option linter.unusedVariables false
set_option maxRecDepth 100000
set_option linter.unusedSimpArgs false

theorem grown_of_below {w w' : World} (hb : Below w.heap.size w w') (row : Option Nat) : w.grownBy w' row := ⟨hb.os, hb.tape, hb.output, hb.size, fun k hk _ => hb.block k hk⟩
/-- What is owned stays owned behind what turns nothing old. -/
theorem own_still {w w' : World} {base : Nat} {e : TypeId} {size : Nat} {v : Value} {n : Nat} {xs : List Value} (h : w.ownsRow base e size v n xs) (hb : Below w.heap.size w w') : w'.ownsRow base e size v n xs :=
  h.kept (grown_of_below hb none) (by cases v.ownBlock <;> simp)
theorem cell_one_box (w : World) (u : Value) (T : TypeId) : ∀ j x, [u][j]? = some x → (w.alloc (.cells #[u] T)).cell? ((⟨w.heap.size, 0, none⟩ : Addr).add j) = some x := by
  intro j x h
  cases j with
  | zero => simp at h; subst h; simp [Addr.add, go_sem]
  | succ j => simp at h
/-- A list of bytes, as a string; as cells. -/
def bs (l : List UInt8) : ByteArray := ⟨l.toArray⟩
def bc (l : List UInt8) : List Value := l.map fun b => Value.int .u8 b.toNat
theorem bs_data (s : ByteArray) : bs s.data.toList = s := rfl
theorem bs_append (x y : List UInt8) : bs x ++ bs y = bs (x ++ y) := ByteArray.mk_append_mk x y
theorem bs_size (l : List UInt8) : (bs l).size = l.length := by show l.toArray.size = _; simp
theorem bc_append (x y : List UInt8) : bc (x ++ y) = bc x ++ bc y := by simp [bc]
theorem bc_length (l : List UInt8) : (bc l).length = l.length := by simp [bc]
theorem bc_str (s : ByteArray) : strCells s = bc s.data.toList := rfl
theorem bc_bs (l : List UInt8) : strCells (bs l) = bc l := by simp [bc_str, bs]

theorem info5 : (Try.prog.info? 5).map (fun i => (i.zero, i.size, i.bytes)) = some (some (.int .u8 0), 1, 1) := by kernel_rfl
theorem own_slice {w : World} {base : Nat} {e : TypeId} {size : Nat} {v : Value} {n : Nat} {xs : List Value} (h : w.ownsRow base e size v n xs) : ∃ a cap, v = .slice a n cap := by
  obtain ⟨_, h⟩ := h
  rcases h with ⟨rfl, rfl⟩ | ⟨g, cap, _, rfl, _⟩
  · exact ⟨_, _, rfl⟩
  · exact ⟨_, _, rfl⟩
theorem push_all (l : List UInt8) : ∀ s : ByteArray, (l.map fun b => ((b.toNat : Nat) : Int)).foldl (fun r n => r.push (UInt8.ofNat n.toNat)) s = s ++ bs l := by
  induction l with
  | nil => intro s; apply ByteArray.ext; simp [bs]
  | cons c r ih =>
    intro s
    simp only [List.map_cons, List.foldl_cons]
    rw [ih]
    have e : s.push (UInt8.ofNat ((c.toNat : Int)).toNat) = s ++ bs [c] := by
      simp only [Int.toNat_natCast, UInt8.ofNat_toNat]
      apply ByteArray.ext
      simp [bs]
    rw [e, ByteArray.append_assoc, bs_append]
    rfl
/-- 'string(bytes)' of a row that the call owns. -/
theorem conv_own {B : Nat} {w : World} {v : Value} {l : List UInt8} (h : w.ownsRow B 5 1 v l.length (bc l)) : (convert 118 9 v).run Try.prog w = .ok (.string (bs l)) w := by
  obtain ⟨hl, h⟩ := h
  rcases h with ⟨rfl, h0⟩ | ⟨g, cap, cur, rfl, _, hg, hc, _, hsz, htk⟩
  · have hl0 : l = [] := List.length_eq_zero_iff.1 h0
    subst hl0
    rw [run_convert_bytes_string w 118 9 5 none 0 0 Try.underlying118 Try.underlying5 Try.underlying9]
    simp [Conv.bytesToString, bs, Sem.run_pure]
    rfl
  · rw [run_convert_bytes_string w 118 9 5 _ _ _ Try.underlying118 Try.underlying5 Try.underlying9]
    have hload : (loadCells ⟨g, 0, none⟩ l.length).run Try.prog w = .ok ((l.map fun b => ((b.toNat : Nat) : Int)).map (Value.int .u8)).toArray w := by
      have e : ((l.map fun b => ((b.toNat : Nat) : Int)).map (Value.int .u8)) = bc l := by simp [bc, Function.comp_def]
      rw [e]
      have := run_loadCells_list (P := Try.prog) w ⟨g, 0, none⟩ (bc l) (fun j u hu => by
        rw [WideShapes.add_plain, Nat.zero_add, cell_of_row w g j cur 5 (0, 0) hg]
        rw [← htk] at hu
        rw [List.getElem?_take] at hu
        split at hu
        · simpa using hu
        · simp at hu)
      rw [bc_length] at this
      exact this
    rw [run_bytesToString w ⟨g, 0, none⟩ l.length cap _ hload, push_all]
    simp [bs]
end Go.Proofs.Yteomgkcgjkbppaa

namespace Go.Proofs.Yteomgkcgjkbppaa
open Go.RowKit Go.Deep Go.Lib
set_option linter.unusedVariables false
set_option linter.unusedSimpArgs false

/-- A digit, as a byte. -/
def dg (q : Nat) : UInt8 := UInt8.ofNat (48 + q % 10)
theorem dg_nat (q : Nat) : (dg q).toNat = 48 + q % 10 := by
  unfold dg
  rw [UInt8.toNat_ofNat']
  omega
/-- The digits of a number ahead of a text, with fuel. -/
def dgF : Nat → Nat → List UInt8 → List UInt8
  | 0, _, l => l
  | f + 1, q, l => if q = 0 then l else dgF f (q / 10) (dg q :: l)
theorem dgF_step {f q : Nat} {l : List UInt8} (hq : 0 < q) : dgF (f + 1) q l = dgF f (q / 10) (dg q :: l) := by
  show (if q = 0 then l else _) = _
  rw [if_neg (by omega)]
theorem dgF_zero (f : Nat) (l : List UInt8) : dgF f 0 l = l := by
  cases f <;> rfl
theorem dgF_fuel : ∀ (f g q : Nat) (l : List UInt8), q ≤ f → q ≤ g → dgF f q l = dgF g q l := by
  intro f
  induction f with
  | zero =>
    intro g q l hf hg
    obtain rfl : q = 0 := by omega
    rw [dgF_zero, dgF_zero]
  | succ f ih =>
    intro g q l hf hg
    by_cases hq : q = 0
    · subst hq; rw [dgF_zero, dgF_zero]
    · cases g with
      | zero => omega
      | succ g => rw [dgF_step (by omega), dgF_step (by omega)]; exact ih g _ _ (by omega) (by omega)
/-- What a thing is marked with. -/
def mt (k : Nat) : ByteArray := bs (109 :: dgF k k [])

theorem conv_one (q : Nat) (w : World) : (convert 118 9 (.slice (some ⟨w.heap.size, 0, none⟩) 1 1)).run Try.prog (w.alloc (.cells #[.int .u8 (48 + (q : Int) % 10)] 5)) = .ok (.string (bs [dg q])) (w.alloc (.cells #[.int .u8 (48 + (q : Int) % 10)] 5)) := by
  have h := World.ownsRow_lit (base := w.heap.size) (e := 5) (size := 1) w #[.int .u8 (48 + (q : Int) % 10)] 1 (Nat.le_refl _) (by unfold maxLen; omega) rfl
  refine conv_own (B := w.heap.size) (l := [dg q]) ?_
  have e : bc [dg q] = [.int .u8 (48 + (q : Int) % 10)] := by
    simp only [bc, List.map_cons, List.map_nil, dg_nat]
    congr 2
    all_goals omega
  rw [e]
  exact h

set_option maxHeartbeats 800000 in
theorem markText_any (k : Nat) (h0 : 0 < k) (hk : k ≤ 67108864) (w : World) :
    Calls Try.prog 44 #[.int .i64 k] w fun e w' => e = .returned (.string (mt k)) ∧ Below w.heap.size w w' := by
  go_enter Try.func44, Try.ntmps44
  go_wp2_with fail
  go_loopw [0, 3] (fun u o wr => ∃ (q : Nat) (l : List UInt8), u = .int .i64 q ∧ o = .string (bs l) ∧ l.length + q ≤ k ∧ q ≤ k ∧ Hid (dgF q q l = dgF k k []) ∧ Below w.heap.size w wr) (fun u _ _ => (intOf u).toNat)
  case atStart => exact ⟨k, [], rfl, rfl, by simp, Nat.le_refl _, rfl, Below.refl _ _⟩
  case round =>
    obtain ⟨q, l, rfl, rfl, hl, hqk, HD, hbw⟩ := hrel
    by_cases hq : 0 < q
    · have hcv := conv_one q wr
      have hs1 : (bs [dg q]).size = 1 := bs_size _
      have hs2 : (bs l).size ≤ 67108864 := by rw [bs_size]; omega
      have eA : bs [dg q] ++ bs l = bs (dg q :: l) := by rw [bs_append]; rfl
      have hb2 : Below w.heap.size w (wr.alloc (.cells #[.int .u8 (48 + (q : Int) % 10)] 5)) := bel_trans hbw (bel_alloc _ _)
      have hd : dgF (q / 10) (q / 10) (dg q :: l) = dgF q q l := by
        obtain ⟨p, rfl⟩ : ∃ p, q = p + 1 := ⟨q - 1, by omega⟩
        rw [dgF_step (by omega)]
        exact dgF_fuel _ _ _ _ (by omega) (by omega)
      have HE := (show Hid _ from (⟨eA, hd⟩ : _ ∧ _)); clear eA hd
      have hdv : (q : Int) / 10 = ((q / 10 : Nat) : Int) := by omega
      have HV := (show Hid _ from hdv); clear hdv
      generalize hS : bs l = sL at *
      generalize hT : bs [dg q] = sD at *
      have HST := (show Hid _ from (⟨hS, hT⟩ : _ ∧ _)); clear hS hT
      have hs1' : sD.size ≤ 1 := by omega
      clear hs1
      go_wp2_with fail
      refine ⟨⟨q / 10, dg q :: l, val_int HV.out, ?_, by simp; omega, by omega, ?_, hb2⟩, ?_⟩
      · rw [← HE.out.1]
      · exact HE.out.2.trans HD.out
      · rw [HV.out]; simp [intOf]; omega
    · have hs2 : (bs l).size ≤ 67108864 := by rw [bs_size]; omega
      have e1 : mt k = bs [109] ++ bs l := by
        unfold mt
        rw [← HD.out, show q = 0 by omega, dgF_zero, bs_append]
        rfl
      have HE := (show Hid _ from e1); clear e1
      go_wp2_with fail
      go_ret
      exact ⟨by rw [HE.out]; rfl, hbw⟩

/-- All blocks that were there, but those of the range, are as they were. -/
def Out (lo hi : Nat) (w w' : World) : Prop := w'.os = w.os ∧ w'.tape = w.tape ∧ w'.output = w.output ∧ w.heap.size ≤ w'.heap.size ∧ ∀ k, k < w.heap.size → (k < lo ∨ hi ≤ k) → w'.heap[k]? = w.heap[k]?
theorem Out.refl (lo hi : Nat) (w : World) : Out lo hi w w := ⟨rfl, rfl, rfl, Nat.le_refl _, fun _ _ _ => rfl⟩
theorem Out.trans {lo hi : Nat} {a b c : World} (h : Out lo hi a b) (g : Out lo hi b c) : Out lo hi a c :=
  ⟨g.1.trans h.1, g.2.1.trans h.2.1, g.2.2.1.trans h.2.2.1, Nat.le_trans h.2.2.2.1 g.2.2.2.1, fun k hk hr => (g.2.2.2.2 k (Nat.lt_of_lt_of_le hk h.2.2.2.1) hr).trans (h.2.2.2.2 k hk hr)⟩
theorem Out.of_below {lo hi : Nat} {a b : World} (h : Below a.heap.size a b) : Out lo hi a b := ⟨h.os, h.tape, h.output, h.size, fun k hk _ => h.block k hk⟩
theorem Out.set {lo hi p o : Nat} (w : World) (u : Value) (h1 : lo ≤ p) (h2 : p < hi) : Out lo hi w (w.setCell ⟨p, o, none⟩ u) :=
  ⟨rfl, rfl, rfl, by simp [World.setCell], fun k _ hr => blk_setCell_other _ _ _ _ (by show k ≠ p; omega)⟩
theorem Out.mono {lo hi lo' hi' : Nat} {w w' : World} (h : Out lo hi w w') (h1 : lo' ≤ lo) (h2 : hi ≤ hi') : Out lo' hi' w w' :=
  ⟨h.1, h.2.1, h.2.2.1, h.2.2.2.1, fun k hk hr => h.2.2.2.2 k hk (by omega)⟩

/-- A tree that owns what it lies in: its row of Kids in one block, their own trees in ranges of blocks, no two of which meet. -/
def OwnBy (L : Nat → Nat → Tr → Value → Prop) (w : World) (lo hi : Nat) (t : Tr) (v : Value) : Prop :=
  ∃ (a : Option Addr) (cap b : Nat) (f : Nat → Value) (l h : Nat → Nat), v = .slice a t.kids.length cap ∧ t.name.size ≤ maxLen ∧ t.text.size ≤ maxLen ∧ t.kids.length ≤ cap ∧ cap ≤ maxLen ∧
    (0 < t.kids.length → a = some ⟨b, 0, none⟩ ∧ lo ≤ b ∧ b < hi ∧ w.rowIs b 31 (cap * 4) f) ∧
    (∀ i (hi : i < t.kids.length), f (i * 4) = .string t.kids[i].name ∧ f (i * 4 + 1) = .string t.kids[i].text ∧ f (i * 4 + 2) = .bool t.kids[i].leaf) ∧
    (∀ i (hi : i < t.kids.length), L (l i) (h i) t.kids[i] (f (i * 4 + 3))) ∧
    (∀ i, i < t.kids.length → lo ≤ l i ∧ h i ≤ hi ∧ (b < l i ∨ h i ≤ b)) ∧
    ∀ i j, i < j → j < t.kids.length → h i ≤ l j ∨ h j ≤ l i
def OwnN (w : World) : Nat → Nat → Nat → Tr → Value → Prop
  | 0 => fun _ _ _ _ => False
  | d + 1 => fun lo hi t v => OwnBy (OwnN w d) w lo hi t v
def Own (w : World) (lo hi : Nat) (t : Tr) (v : Value) : Prop := ∃ d, OwnN w d lo hi t v

theorem OwnBy.imp {L L' : Nat → Nat → Tr → Value → Prop} {w : World} {lo hi : Nat} {t : Tr} {v : Value} (hL : ∀ i (hi : i < t.kids.length) x y u, L x y t.kids[i] u → L' x y t.kids[i] u) (hh : OwnBy L w lo hi t v) : OwnBy L' w lo hi t v := by
  obtain ⟨a, cap, b, f, l, h, hv, hn, hx, hc, hm, ha, hf, hk, hr, hd⟩ := hh
  exact ⟨a, cap, b, f, l, h, hv, hn, hx, hc, hm, ha, hf, fun i hi => hL i hi _ _ _ (hk i hi), hr, hd⟩
theorem OwnN.succ {w : World} : ∀ (d : Nat) {lo hi : Nat} {t : Tr} {v : Value}, OwnN w d lo hi t v → OwnN w (d + 1) lo hi t v
  | 0, _, _, _, _, h => False.elim h
  | d + 1, _, _, _, _, h => OwnBy.imp (fun _ _ _ _ _ hk => OwnN.succ d hk) h
theorem OwnN.up {w : World} {d d' : Nat} (hd : d ≤ d') {lo hi : Nat} {t : Tr} {v : Value} (h : OwnN w d lo hi t v) : OwnN w d' lo hi t v := by
  induction hd with
  | refl => exact h
  | step _ ih => exact OwnN.succ _ ih
theorem Own.out {w : World} {lo hi : Nat} {t : Tr} {v : Value} (h : Own w lo hi t v) : OwnBy (Own w) w lo hi t v := by
  obtain ⟨d, h⟩ := h
  cases d with
  | zero => exact False.elim h
  | succ d => exact OwnBy.imp (fun _ _ _ _ _ hk => ⟨d, hk⟩) h
theorem Own.shut {w : World} {lo hi : Nat} {t : Tr} {v : Value} (hh : OwnBy (Own w) w lo hi t v) : Own w lo hi t v := by
  obtain ⟨a, cap, b, f, l, h, hv, hn, hx, hc, hm, ha, hf, hk, hr, hd⟩ := hh
  obtain ⟨d, hdd⟩ := fuel_lt (n := t.kids.length) (q := fun i m => ∀ hi : i < t.kids.length, OwnN w m (l i) (h i) t.kids[i] (f (i * 4 + 3)))
    (fun i a b hab h hi => (h hi).up hab) (fun i hi => by obtain ⟨m, hm⟩ := hk i hi; exact ⟨m, fun _ => hm⟩)
  exact ⟨d + 1, a, cap, b, f, l, h, hv, hn, hx, hc, hm, ha, hf, fun i hi => hdd i hi hi, hr, hd⟩
/-- Where its range holds what it held, it is owned still; a greater range serves. -/
theorem Own.keep {w w' : World} {t : Tr} : ∀ {lo hi : Nat} {v : Value}, Own w lo hi t v → ∀ {lo' hi' : Nat}, lo' ≤ lo → hi ≤ hi' → (∀ k, lo ≤ k → k < hi → k < w.heap.size → w'.heap[k]? = w.heap[k]?) → Own w' lo' hi' t v := by
  refine Tr.ind (P := fun t => ∀ {lo hi : Nat} {v : Value}, Own w lo hi t v → ∀ {lo' hi' : Nat}, lo' ≤ lo → hi ≤ hi' → (∀ k, lo ≤ k → k < hi → k < w.heap.size → w'.heap[k]? = w.heap[k]?) → Own w' lo' hi' t v) ?_ t
  intro n x le k ih lo hi v hh lo' hi' h1 h2 hk'
  obtain ⟨a, cap, b, f, l, h, hv, hn, hx, hc, hm, ha, hf, hk, hr, hd⟩ := hh.out
  refine Own.shut ⟨a, cap, b, f, l, h, hv, hn, hx, hc, hm, fun h0 => ?_, hf, fun i hi => ?_, fun i hi => ?_, hd⟩
  · obtain ⟨q1, q2, q3, q4⟩ := ha h0
    exact ⟨q1, by omega, by omega, q4.of_block (hk' b q2 q3 q4.lt)⟩
  · have := hr i hi
    exact ih i hi (hk i hi) (Nat.le_refl _) (Nat.le_refl _) (fun k a b c => hk' k (by omega) (by omega) c)
  · have := hr i hi
    exact ⟨by omega, by omega, this.2.2⟩
theorem Own.lies {w : World} {t : Tr} : ∀ {lo hi : Nat} {v : Value}, Own w lo hi t v → Lies w (fun b => lo ≤ b ∧ b < hi) t v := by
  refine Tr.ind (P := fun t => ∀ {lo hi : Nat} {v : Value}, Own w lo hi t v → Lies w (fun b => lo ≤ b ∧ b < hi) t v) ?_ t
  intro n x le k ih lo hi v hh
  obtain ⟨a, cap, b, f, l, h, hv, hn, hx, hc, hm, ha, hf, hk, hr, hd⟩ := hh.out
  refine Lies.shut ⟨a, cap, b, 0, fun i => f (i * 4 + 3), hv, hn, hx, hc, hm, fun h0 => ⟨(ha h0).1, (ha h0).2.1, (ha h0).2.2.1⟩, fun i hi => ?_, fun i hi => ?_⟩
  · dsimp only at hi ⊢ hc
    obtain ⟨_, _, _, q4⟩ := ha (by show 0 < k.length; omega)
    obtain ⟨p0, p1, p2⟩ := hf i hi
    simp only [Nat.zero_add]
    rw [← p0, ← p1, ← p2]
    exact ⟨q4.cell (by omega), q4.cell (by omega), q4.cell (by omega), q4.cell (by omega)⟩
  · have := hr i hi
    exact (ih i hi (hk i hi)).mono (fun b hb => ⟨by omega, by omega⟩)
end Go.Proofs.Yteomgkcgjkbppaa
