import Derived.Test.YtpmlagenakcdfaaXNm
import Derived.Test.YtpmlagenakcdfaaXSize
import Derived.Test.YtpmlagenakcdfaaXRight
import Derived.Test.YtpmlagenakcdfaaChecked
import Derived.Test.YtpmlagenakcdfaaXTree
import Derived.Deep.OwnRows
import Derived.KernelRfl
import Derived.Outline
import Derived.Deep.AppendLies
import Derived.Deep.RegionLaw
namespace Go.Proofs.Ytpmlagenakcdfaa.T
open Go.RowKit Go.Deep Go.Lib
set_option linter.unusedVariables false
set_option linter.unusedSimpArgs false

theorem push_all (l : List UInt8) : ∀ s : ByteArray, (l.map fun b => ((b.toNat : Nat) : Int)).foldl (fun r n => r.push (UInt8.ofNat n.toNat)) s = s ++ bs l := by
  induction l with
  | nil => intro s; apply ByteArray.ext; simp [bs]
  | cons c r ih =>
    intro s
    simp only [List.map_cons, List.foldl_cons]
    rw [ih]
    have e : s.push (UInt8.ofNat ((c.toNat : Int)).toNat) = s ++ bs [c] := by
      simp only [Int.toNat_natCast, UInt8.ofNat_toNat]
      apply ByteArray.ext
      simp [bs]
    rw [e, ByteArray.append_assoc, bs_append]
    rfl

/-- 'string(bytes)' of a row that the call owns. -/
theorem conv_own {B : Nat} {w : World} {v : Value} {l : List UInt8} (h : w.ownsRow B 5 1 v l.length (bc l)) : (convert 153 9 v).run Try.prog w = .ok (.string (bs l)) w := by
  obtain ⟨hl, h⟩ := h
  rcases h with ⟨rfl, h0⟩ | ⟨g, cap, cur, rfl, _, hg, hc, _, hsz, htk⟩
  · have hl0 : l = [] := List.length_eq_zero_iff.1 h0
    subst hl0
    rw [run_convert_bytes_string w 153 9 5 none 0 0 Try.underlying153 Try.underlying5 Try.underlying9]
    simp [Conv.bytesToString, bs, Sem.run_pure]
    rfl
  · rw [run_convert_bytes_string w 153 9 5 _ _ _ Try.underlying153 Try.underlying5 Try.underlying9]
    have hload : (loadCells ⟨g, 0, none⟩ l.length).run Try.prog w = .ok ((l.map fun b => ((b.toNat : Nat) : Int)).map (Value.int .u8)).toArray w := by
      have e : ((l.map fun b => ((b.toNat : Nat) : Int)).map (Value.int .u8)) = bc l := by simp [bc, Function.comp_def]
      rw [e]
      have := run_loadCells_list (P := Try.prog) w ⟨g, 0, none⟩ (bc l) (fun j u hu => by
        rw [WideShapes.add_plain, Nat.zero_add, cell_of_row w g j cur 5 (0, 0) hg]
        rw [← htk] at hu
        rw [List.getElem?_take] at hu
        split at hu
        · simpa using hu
        · simp at hu)
      rw [bc_length] at this
      exact this
    rw [run_bytesToString w ⟨g, 0, none⟩ l.length cap _ hload, push_all]
    simp [bs]

theorem ok_right {t : Tr} (h : t.ok = true) : t.right = true ∧ t.cnt ≤ 1000 ∧ t.deep ≤ 60 := by
  unfold Tr.ok at h
  simp at h
  exact ⟨h.2, h.1.1, h.1.2⟩

end Go.Proofs.Ytpmlagenakcdfaa.T

namespace Go.Proofs.Ytpmlagenakcdfaa.T
open Go.RowKit Go.Deep
set_option linter.unusedVariables false
set_option linter.unusedSimpArgs false

theorem info48 : (Try.prog.info? 48).map (fun i => (i.zero, i.size, i.bytes)) = some (some (.agg #[.string ByteArray.empty, .string ByteArray.empty, .bool false, .slice none 0 0]), 4, 64) := by kernel_rfl

/-- 'make([]Tree, n)'. -/
theorem run_makeTrees (n : Nat) (hn : n ≤ 1048576) (w : World) :
    (Instr.makeSlice 46 (.int .i64 (n : Int)) (.int .i64 (n : Int))).run Try.prog w = .ok (.slice (some ⟨w.heap.size, 0, none⟩) n n) (w.alloc (.cells (madeCells #[.string ByteArray.empty, .string ByteArray.empty, .bool false, .slice none 0 0] (n * 4)) 48)) := by
  obtain ⟨i, hi, hzz⟩ := Option.map_eq_some_iff.1 info48
  simp only [Prod.mk.injEq] at hzz
  obtain ⟨hz, hs, hb⟩ := hzz
  have hr := run_make (P := Try.prog) w 46 48 i _ Try.underlying46 hi hz .i64 .i64 n n (by omega) (Int.le_refl _) (by rw [hb]; omega) (by omega)
  simp only [Int.toNat_natCast, hs] at hr
  exact hr

theorem row_made (w : World) (z : Array Value) (n : Nat) (t : TypeId) : ∃ f, (w.alloc (.cells (madeCells z n) t)).rowIs w.heap.size t n f :=
  ⟨fun i => z[i % z.size]!, _, blk_alloc_new _ _, size_madeCells _ _, fun i hi => by simp [madeCells, hi]⟩

/-- What the loop of toTreeS has made: of the first j Kids the copies stand in the row g, and lie behind it. -/
def Made (k : List Tr) (g : Nat) (j : Nat) (wr : World) : Prop :=
  ∃ (f : Nat → Value) (sv : Nat → Value), wr.rowIs g 48 (k.length * 4) f ∧
    (∀ i (_ : i < j) (hi : i < k.length), f (i * 4) = .string k[i].name ∧ f (i * 4 + 1) = .string k[i].text ∧ f (i * 4 + 2) = .bool k[i].leaf ∧ f (i * 4 + 3) = sv i) ∧
    ∀ i (_ : i < j) (hi : i < k.length), Lies wr (fun b => g < b) k[i] (sv i)

theorem lies_setCell {w : World} {g o : Nat} {u v : Value} {t : Tr} (h : Lies w (fun b => g < b) t v) : Lies (w.setCell ⟨g, o, none⟩ u) (fun b => g < b) t v :=
  h.keep (fun b hb => blk_setCell_other _ _ _ _ (by show b ≠ g; omega))

/-- A store into a block ahead of all that it lies in. -/
theorem lies_past {w : World} {g c o : Nat} {u v : Value} {t : Tr} (h : Lies w (fun b => g ≤ b) t v) (hc : c < g) : Lies (w.setCell ⟨c, o, none⟩ u) (fun b => g ≤ b) t v :=
  h.keep (fun b (hb : g ≤ b) => blk_setCell_other _ _ _ _ (by show b ≠ c; omega))

theorem made_step {k : List Tr} {g j : Nat} {w1 : World} (hj : j < k.length) {f svp : Nat → Value} (hrow : w1.rowIs g 48 (k.length * 4) f)
    (hcs : ∀ i (_ : i < j) (hi : i < k.length), f (i * 4) = .string k[i].name ∧ f (i * 4 + 1) = .string k[i].text ∧ f (i * 4 + 2) = .bool k[i].leaf ∧ f (i * 4 + 3) = svp i)
    (hls : ∀ i (_ : i < j) (hi : i < k.length), Lies w1 (fun b => g < b) k[i] (svp i)) {v : Value} (hl : Lies w1 (fun b => g < b) k[j] v) :
    Made k g (j + 1) ((((w1.setCell ⟨g, j * 4, none⟩ (.string k[j].name)).setCell ⟨g, j * 4 + 1, none⟩ (.string k[j].text)).setCell ⟨g, j * 4 + 2, none⟩ (.bool k[j].leaf)).setCell ⟨g, j * 4 + 3, none⟩ v) := by
  refine ⟨_, fun i => if i = j then v else svp i, (((hrow.set _ _).set _ _).set _ _).set _ _, fun i hi hk => ?_, fun i hi hk => ?_⟩
  · by_cases e : i = j
    · subst e; simp
    · obtain ⟨q0, q1, q2, q3⟩ := hcs i (by omega) hk
      refine ⟨?_, ?_, ?_, ?_⟩
      · rw [if_neg (by omega), if_neg (by omega), if_neg (by omega), if_neg (by omega)]; exact q0
      · rw [if_neg (by omega), if_neg (by omega), if_neg (by omega), if_neg (by omega)]; exact q1
      · rw [if_neg (by omega), if_neg (by omega), if_neg (by omega), if_neg (by omega)]; exact q2
      · rw [if_neg (by omega), if_neg (by omega), if_neg (by omega), if_neg (by omega)]; simp only [if_neg e]; exact q3
  · by_cases e : i = j
    · subst e
      simp only [if_true]
      exact lies_setCell (lies_setCell (lies_setCell (lies_setCell hl)))
    · simp only [if_neg e]
      exact lies_setCell (lies_setCell (lies_setCell (lies_setCell (hls i (by omega) hk))))

theorem made_lies {k : List Tr} {g : Nat} {w : World} (h : Made k g k.length w) {n x : ByteArray} {l : Bool} (hn : n.size ≤ maxLen) (hx : x.size ≤ maxLen) (hk : k.length ≤ maxLen) :
    Lies w (fun b => g ≤ b) (.mk n x l k) (.slice (some ⟨g, 0, none⟩) k.length k.length) := by
  obtain ⟨f, sv, hrow, hcs, hls⟩ := h
  refine Lies.shut ⟨_, _, g, 0, sv, rfl, hn, hx, Nat.le_refl _, hk, fun _ => ⟨rfl, Nat.le_refl _⟩, fun i hi => ?_, fun i hi => (hls i hi hi).mono (fun b (hb : g < b) => by omega)⟩
  dsimp only at hi ⊢
  obtain ⟨q0, q1, q2, q3⟩ := hcs i hi hi
  rw [← q0, ← q1, ← q2, ← q3]
  simp only [Nat.zero_add]
  exact ⟨hrow.cell (by omega), hrow.cell (by omega), hrow.cell (by omega), hrow.cell (by omega)⟩

end Go.Proofs.Ytpmlagenakcdfaa.T

namespace Go.Proofs.Ytpmlagenakcdfaa.T
open Go.RowKit Go.Deep Go.Lib
set_option linter.unusedVariables false
set_option linter.unusedSimpArgs false

/-- What a byte of a text is shown as. -/
def shB (c : UInt8) : List UInt8 :=
  if c.toNat = 34 ∨ c.toNat = 92 then [92, c] else if c.toNat < 32 ∨ 126 < c.toNat then [92, 48 + c / 100, 48 + c / 10 % 10, 48 + c % 10] else [c]
theorem shB_quote {c : UInt8} (h : c.toNat = 34 ∨ c.toNat = 92) : shB c = [92, c] := if_pos h
theorem shB_num {c : UInt8} (h : ¬ (c.toNat = 34 ∨ c.toNat = 92)) (h' : c.toNat < 32 ∨ 126 < c.toNat) : shB c = [92, 48 + c / 100, 48 + c / 10 % 10, 48 + c % 10] := by unfold shB; rw [if_neg h, if_pos h']
theorem shB_self {c : UInt8} (h : ¬ (c.toNat = 34 ∨ c.toNat = 92)) (h' : ¬ (c.toNat < 32 ∨ 126 < c.toNat)) : shB c = [c] := by unfold shB; rw [if_neg h, if_neg h']
theorem shB_len (c : UInt8) : 1 ≤ (shB c).length ∧ (shB c).length ≤ 4 := by
  unfold shB
  split
  · simp
  · split <;> simp

theorem d100 (c : UInt8) : (48 + c / 100).toNat = 48 + c.toNat / 100 := by
  have h : c.toNat < 256 := c.toNat_lt
  simp only [UInt8.toNat_add, UInt8.toNat_div]
  show (48 + c.toNat / 100) % 256 = _
  omega
theorem d10 (c : UInt8) : (48 + c / 10 % 10).toNat = 48 + c.toNat / 10 % 10 := by
  have h : c.toNat < 256 := c.toNat_lt
  simp only [UInt8.toNat_add, UInt8.toNat_div, UInt8.toNat_mod]
  show (48 + c.toNat / 10 % 10) % 256 = _
  omega
theorem d1 (c : UInt8) : (48 + c % 10).toNat = 48 + c.toNat % 10 := by
  have h : c.toNat < 256 := c.toNat_lt
  simp only [UInt8.toNat_add, UInt8.toNat_mod]
  show (48 + c.toNat % 10) % 256 = _
  omega

theorem bc_num (c : UInt8) : bc [92, 48 + c / 100, 48 + c / 10 % 10, 48 + c % 10] = [.int .u8 92, .int .u8 (48 + (c.toNat : Int) / 100), .int .u8 (48 + (c.toNat : Int) / 10 % 10), .int .u8 (48 + (c.toNat : Int) % 10)] := by
  have a1 : ((48 + c.toNat / 100 : Nat) : Int) = 48 + (c.toNat : Int) / 100 := by omega
  have a2 : ((48 + c.toNat / 10 % 10 : Nat) : Int) = 48 + (c.toNat : Int) / 10 % 10 := by omega
  have a3 : ((48 + c.toNat % 10 : Nat) : Int) = 48 + (c.toNat : Int) % 10 := by omega
  simp only [bc, List.map_cons, List.map_nil, d100, d10, d1, a1, a2, a3]
  rfl
theorem bc_two (c : UInt8) : bc [92, c] = [.int .u8 92, .int .u8 c.toNat] := rfl
theorem bc_self (c : UInt8) : bc [c] = [.int .u8 c.toNat] := rfl

/-- Every block that is no row of bytes is as it was. -/
def NB (w w' : World) : Prop := w.heap.size ≤ w'.heap.size ∧ ∀ k, k < w.heap.size → (∀ c fr, w.heap[k]? ≠ some (.cells c 5 fr)) → w'.heap[k]? = w.heap[k]?
theorem NB.trans {a b c : World} (h : NB a b) (g : NB b c) : NB a c :=
  ⟨Nat.le_trans h.1 g.1, fun k hk hn => (g.2 k (Nat.lt_of_lt_of_le hk h.1) (by rw [h.2 k hk hn]; exact hn)).trans (h.2 k hk hn)⟩
theorem NB.refl (w : World) : NB w w := ⟨Nat.le_refl _, fun _ _ _ => rfl⟩
theorem NB.of_below {w w' : World} (h : Below w.heap.size w w') : NB w w' := ⟨h.size, fun k hk _ => h.block k hk⟩
theorem NB.grown {w w' : World} {B n : Nat} {v : Value} {xs : List Value} (hown : w.ownsRow B 5 1 v n xs) (hg : w.grownBy w' v.ownBlock) : NB w w' := by
  refine ⟨hg.size, fun k hk hn => hg.block k hk (fun e => ?_)⟩
  obtain ⟨_, h⟩ := hown
  rcases h with ⟨rfl, _⟩ | ⟨g, cap, cur, rfl, _, hb, _⟩
  · simp [Value.ownBlock] at e
  · simp [Value.ownBlock] at e
    subst e
    exact hn _ _ hb
/-- A block of another kind is there still. -/
theorem NB.box {w w' : World} (h : NB w w') {k : Nat} {c : Array Value} {T : TypeId} {fr : Nat × Nat} (hb : w.heap[k]? = some (.cells c T fr)) (hT : T ≠ 5) : w'.heap[k]? = some (.cells c T fr) := by
  have hk : k < w.heap.size := by
    obtain ⟨hlt, _⟩ := Array.getElem?_eq_some_iff.1 hb
    exact hlt
  rw [h.2 k hk (fun c' fr' e => by rw [hb] at e; cases e; exact hT rfl)]
  exact hb

/-- .. and what is no row of bytes is kept, wherever it lies. -/
def WroteK (B : Nat) (w : World) (n : Nat) (xs : List Value) (l : List UInt8) (e : Ending) (w' : World) : Prop := Wrote B w n xs l e w' ∧ NB w w'

theorem wrote_of {B n : Nat} {w W w' : World} {xs : List Value} {l : List UInt8} {v v' : Value} (hW : Below B w W) (hBW : B ≤ W.heap.size) (hN : NB w W) (hown : W.ownsRow B 5 1 v n xs) (hown' : w'.ownsRow B 5 1 v' (n + l.length) (xs ++ bc l)) (hgr : W.grownBy w' v.ownBlock) :
    WroteK B w n xs l (.returned v') w' := ⟨⟨v', rfl, hown', hW.grown hgr hBW (fun k hk => (hown.lt k hk).1)⟩, hN.trans (NB.grown hown hgr)⟩

theorem cells_box (w : World) (cs : List Value) (T : TypeId) : ∀ j x, cs[j]? = some x → (w.alloc (.cells cs.toArray T)).cell? ((⟨w.heap.size, 0, none⟩ : Addr).add j) = some x := by
  intro j x h
  rw [WideShapes.add_plain, Nat.zero_add, World.cell?_alloc_at cs.toArray T w.heap.size j rfl]
  simpa using h

theorem bc_one (l : List UInt8) : ∀ u ∈ bc l, u.oneCell' = true := by
  intro u hu
  obtain ⟨_, _, rfl⟩ := List.mem_map.1 hu
  rfl

end Go.Proofs.Ytpmlagenakcdfaa.T
