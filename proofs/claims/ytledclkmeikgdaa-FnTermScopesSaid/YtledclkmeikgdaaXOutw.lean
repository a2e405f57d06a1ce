import Derived.Test.YtledclkmeikgdaaChecked
import Derived.Test.YtledclkmeikgdaaXCopy
import Derived.Deep.OwnRows
import Derived.OwnWalk
import Derived.KernelRfl
import Derived.Outline
import Derived.Deep.RegionLaw
/-! A tree as the program's faces work on it: a value of its interface type. -/
namespace Go.Proofs.Ytledclkmeikgdaa.T
open Go.RowKit Go.Deep
set_option linter.unusedVariables false
set_option maxRecDepth 100000
set_option linter.unusedSimpArgs false

/-- One storey. -/
def FormBy (L : Tr → Value → Prop) (w : World) (S : Nat → Prop) (t : Tr) (u : Value) : Prop :=
  (t.leaf = true ∧ t.name.size ≤ maxLen ∧ t.text.size ≤ maxLen ∧ u = .iface 134 (.agg #[.string t.name, .string t.text])) ∨
  (t.leaf = false ∧ t.name.size ≤ maxLen ∧ ∃ (cap b : Nat) (fv : Nat → Value), u = .iface 137 (.agg #[.string t.name, .slice (some ⟨b, 0, none⟩) t.kids.length cap]) ∧ t.kids.length ≤ cap ∧ cap ≤ maxLen ∧ S b ∧ b < w.heap.size ∧
    (∀ i (hi : i < t.kids.length), w.cell? ⟨b, i, none⟩ = some (fv i)) ∧ ∀ i (hi : i < t.kids.length), L t.kids[i] (fv i))
def FormN (w : World) (S : Nat → Prop) : Nat → Tr → Value → Prop
  | 0 => fun _ _ => False
  | d + 1 => FormBy (FormN w S d) w S
def Form (w : World) (S : Nat → Prop) (t : Tr) (u : Value) : Prop := ∃ d, FormN w S d t u

theorem FormBy.imp {L L' : Tr → Value → Prop} {w : World} {S : Nat → Prop} {t : Tr} {u : Value} (hL : ∀ i (hi : i < t.kids.length) u, L t.kids[i] u → L' t.kids[i] u) (h : FormBy L w S t u) : FormBy L' w S t u := by
  rcases h with h | ⟨h1, h2, cap, b, fv, hu, hc, hm, hS, hb, hcell, hk⟩
  · exact .inl h
  · exact .inr ⟨h1, h2, cap, b, fv, hu, hc, hm, hS, hb, hcell, fun i hi => hL i hi _ (hk i hi)⟩
theorem FormN.succ {w : World} {S : Nat → Prop} : ∀ (d : Nat) {t : Tr} {v : Value}, FormN w S d t v → FormN w S (d + 1) t v
  | 0, _, _, h => False.elim h
  | d + 1, _, _, h => FormBy.imp (fun _ _ _ hk => FormN.succ d hk) h
theorem FormN.up {w : World} {S : Nat → Prop} {d d' : Nat} (hd : d ≤ d') {t : Tr} {v : Value} (h : FormN w S d t v) : FormN w S d' t v := by
  induction hd with
  | refl => exact h
  | step _ ih => exact FormN.succ _ ih
theorem Form.out {w : World} {S : Nat → Prop} {t : Tr} {v : Value} (h : Form w S t v) : FormBy (Form w S) w S t v := by
  obtain ⟨d, h⟩ := h
  cases d with
  | zero => exact False.elim h
  | succ d => exact FormBy.imp (fun _ _ _ hk => ⟨d, hk⟩) h
theorem Form.shut {w : World} {S : Nat → Prop} {t : Tr} {v : Value} (h : FormBy (Form w S) w S t v) : Form w S t v := by
  rcases h with h | ⟨h1, h2, cap, b, fv, hu, hc, hm, hS, hb, hcell, hk⟩
  · exact ⟨1, .inl h⟩
  · obtain ⟨d, hd⟩ := fuel_lt (n := t.kids.length) (q := fun i m => ∀ hi : i < t.kids.length, FormN w S m t.kids[i] (fv i))
      (fun i a b hab h hi => (h hi).up hab) (fun i hi => by obtain ⟨m, hm⟩ := hk i hi; exact ⟨m, fun _ => hm⟩)
    exact ⟨d + 1, .inr ⟨h1, h2, cap, b, fv, hu, hc, hm, hS, hb, hcell, fun i hi => hd i hi hi⟩⟩
theorem Form.carry {w w' : World} {S S' : Nat → Prop} (hS : ∀ b, S b → b < w.heap.size → S' b ∧ b < w'.heap.size) (hcl : ∀ b o, S b → b < w.heap.size → w'.cell? ⟨b, o, none⟩ = w.cell? ⟨b, o, none⟩)
    {t : Tr} : ∀ {v : Value}, Form w S t v → Form w' S' t v := by
  refine Tr.ind (P := fun t => ∀ {v : Value}, Form w S t v → Form w' S' t v) ?_ t
  intro n x l k ih v h
  rcases h.out with h | ⟨h1, h2, cap, b, fv, hu, hc, hm, hSb, hb, hcell, hk⟩
  · exact Form.shut (.inl h)
  · refine Form.shut (.inr ⟨h1, h2, cap, b, fv, hu, hc, hm, (hS b hSb hb).1, (hS b hSb hb).2, fun i hi => ?_, fun i hi => ih i hi (hk i hi)⟩)
    rw [hcl b i hSb hb]
    exact hcell i hi
theorem Form.still {w w' : World} {S : Nat → Prop} {t : Tr} {v : Value} (h : Form w S t v) (hb : Below w.heap.size w w') : Form w' S t v :=
  h.carry (fun b hS hlt => ⟨hS, Nat.lt_of_lt_of_le hlt hb.size⟩) (fun b o _ hlt => hb.cell (p := ⟨b, o, none⟩) hlt)
theorem Form.mono {w : World} {S S' : Nat → Prop} (hS : ∀ b, S b → b < w.heap.size → S' b) {t : Tr} {v : Value} (h : Form w S t v) : Form w S' t v :=
  h.carry (fun b hs hlt => ⟨hS b hs hlt, hlt⟩) (fun _ _ _ _ => rfl)
/-- .. where all but one block is as it was. -/
theorem Form.grown {w w' : World} {S : Nat → Prop} {t : Tr} {v : Value} {row : Option Nat} (h : Form w S t v) (hg : w.grownBy w' row) (hr : ∀ b, S b → some b ≠ row) : Form w' S t v :=
  h.carry (fun b hS hlt => ⟨hS, Nat.lt_of_lt_of_le hlt hg.size⟩) (fun b o hs hlt => World.cell?_of_block (w := w) (hg.block b hlt (hr b hs)))
theorem Form.iface {w : World} {S : Nat → Prop} {t : Tr} {v : Value} (h : Form w S t v) : ∃ T x, v = .iface T x := by
  rcases h.out with ⟨_, _, _, rfl⟩ | ⟨_, _, _, _, _, rfl, _⟩
  · exact ⟨_, _, rfl⟩
  · exact ⟨_, _, rfl⟩

theorem info96 : (Try.prog.info? 96).map (fun i => (i.zero, i.size, i.bytes)) = some (some .nilIface, 1, 16) := by kernel_rfl

/-- 'make([]treeForm, 0, n)'. -/
theorem run_makeForms (n : Nat) (hn : n ≤ 1048576) (w : World) :
    (Instr.makeSlice 135 (.int .i64 0) (.int .i64 (n : Int))).run Try.prog w = .ok (.slice (some ⟨w.heap.size, 0, none⟩) 0 n) (w.alloc (.cells (madeCells #[.nilIface] n) 96)) := by
  obtain ⟨i, hi, hz, hs, hb⟩ := info_parts info96
  have hr := run_make (P := Try.prog) w 135 96 i _ Try.underlying135 hi hz .i64 .i64 0 n (Int.le_refl _) (by omega) (by rw [hb]; omega) (by omega)
  simp only [Int.toNat_natCast, hs, Int.toNat_zero, Nat.mul_one] at hr
  exact hr

/-- What inward's loop has made of the first j Kids. -/
def Inw (k : List Tr) (g j : Nat) (wr : World) : Prop :=
  ∃ fv : Nat → Value, wr.ownsRow g 96 1 (.slice (some ⟨g, 0, none⟩) j k.length) j ((List.range j).map fv) ∧ ∀ i (_ : i < j) (hi : i < k.length), Form wr (fun b => g < b) k[i] (fv i)

theorem inw_start (k : List Tr) (w : World) (hk : k.length ≤ maxLen) : Inw k w.heap.size 0 (w.alloc (.cells (madeCells #[.nilIface] k.length) 96)) :=
  ⟨fun _ => .nilIface, World.ownsRow_made w _ _ (Nat.le_refl _) hk (by rw [size_madeCells, Nat.mul_one]), fun i hi => absurd hi (Nat.not_lt_zero _)⟩

theorem inw_step {k : List Tr} {g j : Nat} {w w' : World} {u : Value} {fv : Nat → Value} (hj : j < k.length) (hl : ∀ i (_ : i < j) (hi : i < k.length), Form w (fun b => g < b) k[i] (fv i)) (hu : Form w (fun b => g < b) k[j] u)
    (hown : w'.ownsRow g 96 1 (.slice (some ⟨g, 0, none⟩) (j + 1) k.length) (j + 1) ((List.range j).map fv ++ [u])) (hgr : w.grownBy w' (some g)) : Inw k g (j + 1) w' := by
  refine ⟨fun i => if i = j then u else fv i, ?_, fun i hi hk => ?_⟩
  · have e : (List.range (j + 1)).map (fun i => if i = j then u else fv i) = (List.range j).map fv ++ [u] := by
      rw [List.range_succ, List.map_append]
      congr 1
      · exact List.map_congr_left fun i hi => if_neg (by have := List.mem_range.1 hi; omega)
      · simp
    rw [e]; exact hown
  · by_cases e : i = j
    · subst e
      simp only [if_true]
      exact hu.grown hgr (fun b hb => by simp; omega)
    · simp only [if_neg e]
      exact (hl i (by omega) hk).grown hgr (fun b hb => by simp; omega)

theorem inw_done {k : List Tr} {g : Nat} {w : World} {n x : ByteArray} (h : Inw k g k.length w) (hn : n.size ≤ maxLen) (hk : k.length ≤ maxLen) :
    Form w (fun b => g ≤ b) ⟨n, x, false, k⟩ (.iface 137 (.agg #[.string n, .slice (some ⟨g, 0, none⟩) k.length k.length])) := by
  obtain ⟨fv, hown, hl⟩ := h
  have hlt := (hown.lt g rfl).2
  refine Form.shut (.inr ⟨rfl, hn, k.length, g, fv, rfl, Nat.le_refl _, hk, Nat.le_refl _, hlt, fun i hi => ?_, fun i hi => (hl i hi hi).mono (fun b (hb : g < b) _ => by omega)⟩)
  dsimp only at hi
  rw [hown.cellAt i (by omega)]
  simp [hi]

set_option maxHeartbeats 800000 in
theorem inward_any {S : Nat → Prop} (t : Tr) : ∀ (v : Value) (w : World), Lies w S t v → t.wt ≤ 1048576 →
    Calls Try.prog 59 #[t.val v] w fun e w' => ∃ u, e = .returned u ∧ Below w.heap.size w w' ∧ Form w' (fun b => w.heap.size ≤ b) t u := by
  refine Tr.ind (P := fun t => ∀ (v : Value) (w : World), Lies w S t v → t.wt ≤ 1048576 →
    Calls Try.prog 59 #[t.val v] w fun e w' => ∃ u, e = .returned u ∧ Below w.heap.size w w' ∧ Form w' (fun b => w.heap.size ≤ b) t u) ?_ t
  intro n x l k ih v w hlies hwt
  rw [Tr.wt_mk] at hwt
  obtain ⟨a, cap, b, off, sv, rfl, hn, hx, hc, hm, ha, hcell, hk⟩ := hlies.out
  dsimp only at hn hx hc ha hcell hk ⊢
  have HI := (show Hid _ from ih); clear ih
  have HC := (show Hid _ from hcell); clear hcell
  have HK := (show Hid _ from hk); clear hk
  have HA := (show Hid _ from ha); clear ha
  have HX := (show Hid _ from (⟨hn, hx, hm⟩ : _ ∧ _ ∧ _))
  unfold maxLen at hm
  have hmk := run_makeForms k.length (by omega)
  obtain ⟨i55, hi55, hz0, hz1, hz2⟩ := info_parts info96
  simp only [Tr.val]
  cases l
  · go_enter Try.func59, Try.ntmps59
    go_wp2_with fail
    go_loopw [3, 21] (fun u i wr => ∃ j : Nat, j ≤ k.length ∧ i = .int .i64 j ∧ u = .slice (some ⟨w.heap.size + 1, 0, none⟩) j k.length ∧ wr.cell? ⟨w.heap.size, 0, none⟩ = some (.string n) ∧ Below w.heap.size w wr ∧ Hid (Inw k (w.heap.size + 1) j wr)) (fun _ i _ => k.length - (intOf i).toNat)
    case atStart =>
      refine ⟨0, Nat.zero_le _, rfl, rfl, by simp [go_sem], (bel_alloc _ _).alloc (by simp) _, ?_⟩
      have := inw_start k (w.alloc (.cells #[.string n, .string x, .bool false, .slice a k.length cap] 40)) (Nat.le_trans hc HX.out.2.2)
      rw [World.size_alloc] at this
      exact this
    case round =>
      obtain ⟨j, hj, rfl, rfl, cN, hbw, HW⟩ := hrel
      by_cases hlt : j < k.length
      · obtain ⟨rfl, hSb⟩ := HA.out (by omega)
        obtain ⟨c0, c1, c2, c3⟩ := HC.out j hlt
        rw [← hbw.cell (lt_of_cell c0)] at c0
        rw [← hbw.cell (lt_of_cell c1)] at c1
        rw [← hbw.cell (lt_of_cell c2)] at c2
        rw [← hbw.cell (lt_of_cell c3)] at c3
        obtain ⟨a1, l1, p1, hsv⟩ := (HK.out j hlt).form
        have hcl := HI.out j hlt (sv j)
        have hlk := (HK.out j hlt).still hbw
        rw [hsv] at c3 hcl hlk
        have hwj := Tr.wt_mem k j hlt
        have HCL := (show Hid _ from hcl); clear hcl
        have HLK := (show Hid _ from hlk); clear hlk hsv
        have hcn := lt_of_cell cN
        go_wp2_with fail
        refine Calls.mono (HCL.out _ (Lies.still HLK.out (bel_alloc _ _)) (by omega)) ?_
        rintro e w2 ⟨u, rfl, hb2, hf2⟩
        obtain ⟨T2, x2, rfl⟩ := hf2.iface
        have hbr2 := bel_box hb2
        have cN2 : w2.cell? ⟨w.heap.size, 0, none⟩ = some (.string n) := by rw [hbr2.cell hcn]; exact cN
        obtain ⟨fv, hown, hls⟩ := HW.out
        have hown2 := own_still (own_still hown hbr2) (bel_alloc w2 (.cells #[.iface T2 x2] 96))
        have HO2 := (show Hid _ from hown2)
        have HF2 := (show Hid _ from (⟨hf2, hls, hb2, hown⟩ : _ ∧ _ ∧ _ ∧ _)); clear hf2 hls hown hb2
        go_wp2_with (at_builtin; refine wpList_append_fits _ rfl (.tmp 25) (.tmp 28) 135 rfl (w.heap.size + 1) 96 i55 1 Try.underlying135 hi55 hz1 (w.heap.size + 1) j k.length ((List.range j).map fv) rfl HO2.out ⟨w2.heap.size, 0, none⟩ 1 1 [.iface T2 x2] rfl (by simp) ?c1 ?c2 (by omega) ?nx)
        case c1 => exact cell_one_box _ _ _
        case c2 => intro u hu; simp at hu; subst hu; rfl
        case nx =>
          intro w3 hown3 hgr3
          have hs2 : w.heap.size + 1 < w2.heap.size := by
            have h1 := (HF2.out.2.2.2.lt (w.heap.size + 1) rfl).2
            have h2 := hbr2.size
            omega
          have hb3 : Below w.heap.size w w3 := ((bel_trans hbw hbr2).trans ((bel_alloc _ _).mono (by omega))).grown hgr3 (by simp; omega) (fun k hk => by cases hk; omega)
          have cN3 : w3.cell? ⟨w.heap.size, 0, none⟩ = some (.string n) := by
            rw [World.cell?_of_block (w := w2.alloc (.cells #[.iface T2 x2] 96)) (hgr3.block _ (by simp; omega) (by simp))]
            rw [(bel_alloc w2 (.cells #[.iface T2 x2] 96)).cell (by show w.heap.size < _; omega)]
            exact cN2
          have hin : Inw k (w.heap.size + 1) (j + 1) w3 := by
            obtain ⟨g1, g2, g3, g4⟩ := HF2.out
            have hwr : w.heap.size + 1 < wr.heap.size := (g4.lt (w.heap.size + 1) rfl).2
            refine inw_step hlt (fun i hi hk => ((g2 i hi hk).still hbr2).still (bel_alloc _ _)) ?_ hown3 hgr3
            exact (g1.mono (fun b hb _ => by simp at hb; omega)).still (bel_alloc _ _)
          have HIN := (show Hid _ from hin); clear hin hown3 hgr3
          go_wp2_with fail
          exact ⟨⟨j + 1, by omega, by go_num, rfl, cN3, hb3, HIN⟩, by simp [intOf]; omega⟩
      · go_wp2_with fail
        go_ret
        have : j = k.length := by omega
        subst this
        exact ⟨_, rfl, hbw, (inw_done HW.out hn (Nat.le_trans hc HX.out.2.2)).mono (fun b hb _ => by omega)⟩
  · go_enter Try.func59, Try.ntmps59
    go_wp2_with fail
    go_ret
    exact ⟨_, rfl, bel_alloc _ _, Form.shut (.inl ⟨rfl, hn, hx, rfl⟩)⟩
end Go.Proofs.Ytledclkmeikgdaa.T

namespace Go.Proofs.Ytledclkmeikgdaa.T
open Go.RowKit Go.Deep Go.Lib
set_option linter.unusedVariables false
set_option maxRecDepth 100000
set_option linter.unusedSimpArgs false

/-- A box of four cells that may be written. -/
def Box4 (w : World) (b : Nat) (c0 c1 c2 c3 : Value) : Prop := ∃ f, w.rowIs b 40 4 f ∧ f 0 = c0 ∧ f 1 = c1 ∧ f 2 = c2 ∧ f 3 = c3
theorem Box4.lt {w : World} {b : Nat} {c0 c1 c2 c3 : Value} (h : Box4 w b c0 c1 c2 c3) : b < w.heap.size := by
  obtain ⟨f, h, _⟩ := h; exact h.lt
theorem Box4.new (w : World) (c0 c1 c2 c3 : Value) : Box4 (w.alloc (.cells #[c0, c1, c2, c3] 40)) w.heap.size c0 c1 c2 c3 :=
  ⟨fun i => (#[c0, c1, c2, c3][i]?).getD (.bool false), ⟨#[c0, c1, c2, c3], blk_alloc_new _ _, rfl, fun i hi => by simp [hi]⟩, rfl, rfl, rfl, rfl⟩
theorem Box4.keep {w w' : World} {b : Nat} {c0 c1 c2 c3 : Value} (h : Box4 w b c0 c1 c2 c3) (hb : w'.heap[b]? = w.heap[b]?) : Box4 w' b c0 c1 c2 c3 := by
  obtain ⟨f, h, r⟩ := h; exact ⟨f, h.of_block hb, r⟩
theorem Box4.still {w w' : World} {b : Nat} {c0 c1 c2 c3 : Value} (h : Box4 w b c0 c1 c2 c3) (hb : Below w.heap.size w w') : Box4 w' b c0 c1 c2 c3 := h.keep (hb.block b h.lt)
theorem Box4.cells {w : World} {b : Nat} {c0 c1 c2 c3 : Value} (h : Box4 w b c0 c1 c2 c3) : Four w b c0 c1 c2 c3 := by
  obtain ⟨f, h, rfl, rfl, rfl, rfl⟩ := h
  exact ⟨h.cell (by decide), h.cell (by decide), h.cell (by decide), h.cell (by decide)⟩
theorem Box4.frozen {w : World} {b : Nat} {c0 c1 c2 c3 : Value} (h : Box4 w b c0 c1 c2 c3) (i : Nat) : w.frozen? ⟨b, i, none⟩ = false := by
  obtain ⟨f, h, _⟩ := h; exact h.frozen i
theorem Box4.set3 {w : World} {b : Nat} {c0 c1 c2 c3 : Value} (h : Box4 w b c0 c1 c2 c3) (u : Value) : Box4 (w.setCell ⟨b, 3, none⟩ u) b c0 c1 c2 u := by
  obtain ⟨f, h, rfl, rfl, rfl, rfl⟩ := h
  exact ⟨_, h.set 3 u, rfl, rfl, rfl, rfl⟩

theorem as_leaf (X : Value) (w : World) : (Instr.typeAssert (.iface 134 X) 96 134 true).run Try.prog w = .ok (.tuple #[X, .bool true]) w := by kernel_rfl
theorem as_node0 (X : Value) (w : World) : (Instr.typeAssert (.iface 137 X) 96 134 true).run Try.prog w = .ok (.tuple #[.agg #[.string ByteArray.empty, .string ByteArray.empty], .bool false]) w := by kernel_rfl
theorem as_node1 (X : Value) (w : World) : (Instr.typeAssert (.iface 137 X) 96 137 true).run Try.prog w = .ok (.tuple #[X, .bool true]) w := by kernel_rfl

set_option maxHeartbeats 1600000 in
theorem outw_any {S : Nat → Prop} (t : Tr) : ∀ (u : Value) (w : World), Form w S t u → t.wt ≤ 1048576 → t.right = true →
    Calls Try.prog 60 #[u] w fun e w' => ∃ v', e = .returned (t.val v') ∧ Below w.heap.size w w' ∧ Own w' w.heap.size w'.heap.size t v' := by
  refine Tr.ind (P := fun t => ∀ (u : Value) (w : World), Form w S t u → t.wt ≤ 1048576 → t.right = true →
    Calls Try.prog 60 #[u] w fun e w' => ∃ v', e = .returned (t.val v') ∧ Below w.heap.size w w' ∧ Own w' w.heap.size w'.heap.size t v') ?_ t
  intro n x l k ih u w hform hwt hrt
  rw [Tr.wt_mk] at hwt
  rcases hform.out with ⟨rfl, hn, hx, rfl⟩ | ⟨rfl, hn, cap, b, fv, rfl, hc, hm, hS, hb, hcell, hk⟩
  · dsimp only at *
    have h1 := as_leaf
    go_enter Try.func60, Try.ntmps60
    go_wp2_with fail
    have hk0 : k = [] := by
      rw [Tr.right_mk] at hrt
      simp [Tr.alone] at hrt
      exact hrt.1.2.1
    subst hk0
    refine bodyPost_ret (v := .agg #[.string n, .string x, .bool true, .slice none 0 0]) (by simp [results, Try.results60, go_sem]) rfl ⟨_, rfl, ?_, ?_⟩
    · exact (bel_alloc _ _).alloc (by simp) _
    · exact Own.shut ⟨none, 0, 0, fun _ => .bool false, fun _ => 0, fun _ => 0, rfl, hn, hx, Nat.le_refl _, Nat.zero_le _, fun h => absurd h (Nat.not_lt_zero _), fun i hi => absurd hi (Nat.not_lt_zero _), fun i hi => absurd hi (Nat.not_lt_zero _), fun i hi => absurd hi (Nat.not_lt_zero _), fun i j hi hj => absurd hj (Nat.not_lt_zero _)⟩
  · dsimp only at *
    have h1 := as_node0
    have h2 := as_node1
    have hx0 : x = ByteArray.empty := by
      rw [Tr.right_mk] at hrt
      simp [Tr.alone] at hrt
      exact hrt.1.2
    have hrk : ∀ i (hi : i < k.length), k[i].right = true := by
      rw [Tr.right_mk] at hrt
      simp [Tr.rightL] at hrt
      exact fun i hi => hrt.2 _ (List.getElem_mem hi)
    subst hx0
    clear hrt
    have HI := (show Hid _ from ih); clear ih
    have HC := (show Hid _ from hcell); clear hcell
    have HK := (show Hid _ from hk); clear hk
    have HR := (show Hid _ from hrk); clear hrk
    have HX := (show Hid _ from (⟨hn, hm, hform⟩ : _ ∧ _ ∧ _)); clear hform
    unfold maxLen at hm
    obtain ⟨i29, hi29, hzz⟩ := Option.map_eq_some_iff.1 info40
    simp only [Prod.mk.injEq] at hzz
    obtain ⟨hz0, hz1, hz2⟩ := hzz
    go_enter Try.func60, Try.ntmps60
    go_wp2_with fail
    go_loopw [26] (fun i wr => ∃ (j : Nat) (a' : Option Addr) (m' c' : Nat), j ≤ k.length ∧ i = .int .i64 j ∧ Below (w.heap.size + 2) ((w.alloc (.cells #[.string ByteArray.empty, .string ByteArray.empty, .bool false, .slice none 0 0] 40)).alloc (.cells #[.string n, .slice (some ⟨b, 0, none⟩) k.length cap] 137)) wr ∧ Hid (Box4 wr (w.heap.size + 2) (.string n) (.string ByteArray.empty) (.bool false) (.slice a' m' c')) ∧ Hid (Grw k (w.heap.size + 3) j (.slice a' m' c') wr)) (fun i _ => k.length - (intOf i).toNat)
    case atStart =>
      refine ⟨0, none, 0, 0, Nat.zero_le _, rfl, (bel_alloc _ _).mono (by simp), ?_, fun _ => .bool false, fun _ => 0, fun _ => 0, World.ownsRow_nil _ _ _ _, fun i hi => absurd hi (Nat.not_lt_zero _), fun i hi => absurd hi (Nat.not_lt_zero _), fun i i' _ hi => absurd hi (Nat.not_lt_zero _)⟩
      have := Box4.new ((w.alloc (.cells #[.string ByteArray.empty, .string ByteArray.empty, .bool false, .slice none 0 0] 40)).alloc (.cells #[.string n, .slice (some ⟨b, 0, none⟩) k.length cap] 137)) (.string n) (.string ByteArray.empty) (.bool false) (.slice none 0 0)
      simp only [World.size_alloc] at this
      exact this
    case round =>
      obtain ⟨j, a', m', c', hj, rfl, hbw, HB, HG⟩ := hrel
      have hbw' : Below w.heap.size w wr := ((bel_alloc _ _).alloc (by simp) _).trans (hbw.mono (by omega))
      have hwz : w.heap.size + 3 ≤ wr.heap.size := by have := HB.out.lt; omega
      by_cases hlt : j < k.length
      · have c0 := HC.out j hlt
        rw [← hbw'.cell (lt_of_cell c0)] at c0
        have hdr := (Below.refl wr.heap.size wr).drew
        obtain ⟨T, X, hfj⟩ := (HK.out j hlt).iface
        have hcl := HI.out j hlt (fv j) wr.drew (((HK.out j hlt).still hbw').still hdr) (by have := Tr.wt_mem k j hlt; omega) (HR.out j hlt)
        rw [hfj] at c0 hcl
        have HCL := (show Hid _ from hcl); clear hcl hfj
        obtain ⟨fs, ls, hs, hown, hls, hr, hd⟩ := HG.out
        have HF := (show Hid _ from (⟨hown, hls, hr, hd⟩ : _ ∧ _ ∧ _ ∧ _)); clear hown hls hr hd
        have T3 := HB.out.cells.2.2.2
        have f3 := HB.out.frozen 3
        go_wp2_with fail
        go_region_law (first
          | (refine step_append_lies _ rfl (.tmp 31) (.tmp 34) 38 rfl (w.heap.size + 3) 40 i29 _ 4 64 Try.underlying38 hi29 hz0 hz1 hz2 rfl (by decide) _ j (kc k fs j) (by simp [Act.eval, Act.put]) HO2.out ⟨w1.heap.size, 0, none⟩ 1 1 [.string k[j].name, .string k[j].text, .bool k[j].leaf, .slice a2 l2 p2] (by simp [Act.eval, Act.put]) rfl (cell_four_box _ _ _ _ _ _) (by intro u hu; simp at hu; rcases hu with rfl | rfl | rfl | rfl <;> rfl) (by decide) (by unfold maxLen; omega) (by omega) (by simp; omega) _ rfl ?_; intro g3 cap3 w3 hown3 hgr3 hat3 hlt3; have B3 := (B1.still (bel_alloc _ _)).keep (hgr3.block _ (by simp; omega) (fun e => by have := (World.ownsRow.lt HF.out.1 _ e.symm).1; omega)); have V3 := B3.cells.2.2.2; have g3f := B3.frozen 3)
          | (go_simp; go_at_call 60; refine Calls.mono HCL.out ?_; rintro e w1 ⟨v1, rfl, hb1, hl1⟩; obtain ⟨a2, l2, p2, rfl⟩ := hl1.form; have hbA := hdr.trans (hb1.mono (Nat.le_refl _)); have hs1 : wr.heap.size ≤ w1.heap.size := hbA.size; have B1 := HB.out.still hbA; have U3 := B1.cells.2.2.2; have U4 := (B1.still (bel_alloc w1 (.cells #[.string k[j].name, .string k[j].text, .bool k[j].leaf, .slice a2 l2 p2] 40))).cells.2.2.2; have HO2 := (show Hid _ from own_still (own_still HF.out.1 hbA) (bel_alloc w1 (.cells #[.string k[j].name, .string k[j].text, .bool k[j].leaf, .slice a2 l2 p2] 40)))))
        all_goals
          obtain ⟨hown, hls, hr, hd⟩ := HF.out
          have hG3 : Grw k (w.heap.size + 3) (j + 1) (.slice (some ⟨g3, 0, none⟩) (j + 1) cap3) w3 := by
            rw [← nth_eq hlt] at hown3 hl1
            exact Grw.step hown hls hr hd hwz (bel_trans hbA (bel_alloc _ _)) (hl1.still (bel_alloc _ _)) (Nat.le_refl _) (by simp) hown3 hgr3 hat3
          have hb3 := ((hbw.trans ((bel_trans hbA (bel_alloc w1 (.cells #[.string k[j].name, .string k[j].text, .bool k[j].leaf, .slice a2 l2 p2] 40))).mono (by omega))).grown hgr3 (by simp; omega) (fun q hq => by
            have := (World.ownsRow.lt hown q hq).1
            omega)).setCell (p := ⟨w.heap.size + 2, 3, none⟩) (Nat.le_refl _) (.slice (some ⟨g3, 0, none⟩) (j + 1) cap3)
          have H3 := (show Hid _ from hG3.past (g := w.heap.size + 2) (o := 3) (x := .slice (some ⟨g3, 0, none⟩) (j + 1) cap3) (by omega))
          have H4 := (show Hid _ from B3.set3 (.slice (some ⟨g3, 0, none⟩) (j + 1) cap3))
          clear hG3 B3 hown3 hgr3 hat3 hl1 hown hls hr hd V3 U3 U4 B1 T3 f3 g3f
          go_wp2_with fail
          exact ⟨⟨j + 1, _, _, _, by omega, by go_num, hb3, H4, H3⟩, by simp [intOf]; omega⟩
      · have : j = k.length := by omega
        subst this
        have hfin := Grw.done (n := n) (x := ByteArray.empty) (le := false) HG.out hn (Nat.zero_le _)
        have HF := (show Hid _ from hfin); clear hfin
        have hcc : ∀ o, wr.cell? ⟨w.heap.size, o, none⟩ = ((w.alloc (.cells #[.string ByteArray.empty, .string ByteArray.empty, .bool false, .slice none 0 0] 40)).alloc (.cells #[.string n, .slice (some ⟨b, 0, none⟩) k.length cap] 137)).cell? ⟨w.heap.size, o, none⟩ := fun o => hbw.cell (p := ⟨w.heap.size, o, none⟩) (by show w.heap.size < _; omega)
        have hff : ∀ o, wr.frozen? ⟨w.heap.size, o, none⟩ = ((w.alloc (.cells #[.string ByteArray.empty, .string ByteArray.empty, .bool false, .slice none 0 0] 40)).alloc (.cells #[.string n, .slice (some ⟨b, 0, none⟩) k.length cap] 137)).frozen? ⟨w.heap.size, o, none⟩ := fun o => hbw.frozen (p := ⟨w.heap.size, o, none⟩) (by show w.heap.size < _; omega)
        have Z0 : wr.cell? ⟨w.heap.size, 0, none⟩ = some (.string ByteArray.empty) := by rw [hcc]; simp [go_sem]
        have Z1 : wr.cell? ⟨w.heap.size, 1, none⟩ = some (.string ByteArray.empty) := by rw [hcc]; simp [go_sem]
        have Z2 : wr.cell? ⟨w.heap.size, 2, none⟩ = some (.bool false) := by rw [hcc]; simp [go_sem]
        have Z3 : wr.cell? ⟨w.heap.size, 3, none⟩ = some (.slice none 0 0) := by rw [hcc]; simp [go_sem]
        have y0 : wr.frozen? ⟨w.heap.size, 0, none⟩ = false := by rw [hff]; simp [go_sem]
        have y1 : wr.frozen? ⟨w.heap.size, 1, none⟩ = false := by rw [hff]; simp [go_sem]
        have y2 : wr.frozen? ⟨w.heap.size, 2, none⟩ = false := by rw [hff]; simp [go_sem]
        have y3 : wr.frozen? ⟨w.heap.size, 3, none⟩ = false := by rw [hff]; simp [go_sem]
        obtain ⟨T0, T1, T2, T3⟩ := HB.out.cells
        clear hcc hff
        go_wp2_with fail
        refine bodyPost_ret (v := .agg #[.string n, .string ByteArray.empty, .bool false, .slice a' m' c']) (by simp [results, Try.results60, go_sem, Z0, Z1, Z2, Z3]) rfl ⟨_, rfl, ?_, ?_⟩
        · exact (((hbw'.setCell (by simp) _).setCell (by simp) _).setCell (by simp) _).setCell (by simp) _
        · have hfin : Own wr (w.heap.size + 3) wr.heap.size _ _ := HF.out
          exact ((((hfin.past (.inl (by omega))).past (.inl (by omega))).past (.inl (by omega))).past (.inl (by omega))).keep (by omega) (by simp) (fun _ _ _ _ => rfl)
end Go.Proofs.Ytledclkmeikgdaa.T
