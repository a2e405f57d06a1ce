import Derived.Test.YteomgkcgjkbppaaGrow
import Derived.Test.YteomgkcgjkbppaaSz
import Derived.Test.YteomgkcgjkbppaaEq
import Derived.Test.YteomgkcgjkbppaaChecked
import Derived.Test.YteomgkcgjkbppaaBase
import Derived.ProofKit
import Derived.Deep.Slices
import Derived.KernelRfl
/-! Rows of trees; whether all are right. -/
namespace Go.Proofs.Yteomgkcgjkbppaa
open Go.RowKit Go.Deep
set_option linter.unusedVariables false
set_option maxRecDepth 100000
set_option linter.unusedSimpArgs false

/-- Trees that lie behind a slice, all in blocks of S. -/
def Trs (w : World) (S : Nat → Prop) (k : List Tr) (v : Value) : Prop :=
  ∃ (a : Option Addr) (cap b off : Nat) (sv : Nat → Value), v = .slice a k.length cap ∧ k.length ≤ cap ∧ cap ≤ maxLen ∧ (0 < k.length → a = some ⟨b, off, none⟩ ∧ S b) ∧
    (∀ i (hi : i < k.length), w.cell? ⟨b, off + i * 4, none⟩ = some (.string k[i].name) ∧ w.cell? ⟨b, off + i * 4 + 1, none⟩ = some (.string k[i].text) ∧ w.cell? ⟨b, off + i * 4 + 2, none⟩ = some (.bool k[i].leaf) ∧ w.cell? ⟨b, off + i * 4 + 3, none⟩ = some (sv i)) ∧
    ∀ i (hi : i < k.length), Lies w S k[i] (sv i)
theorem Trs.still {w w' : World} {S : Nat → Prop} {k : List Tr} {v : Value} (h : Trs w S k v) (hb : Below w.heap.size w w') : Trs w' S k v := by
  obtain ⟨a, cap, b, off, sv, hv, hc, hm, ha, hcell, hr⟩ := h
  refine ⟨a, cap, b, off, sv, hv, hc, hm, ha, fun i hi => ?_, fun i hi => (hr i hi).still hb⟩
  obtain ⟨c0, c1, c2, c3⟩ := hcell i hi
  exact ⟨(hb.cell (lt_of_cell c0)).trans c0, (hb.cell (lt_of_cell c1)).trans c1, (hb.cell (lt_of_cell c2)).trans c2, (hb.cell (lt_of_cell c3)).trans c3⟩
theorem Trs.form {w : World} {S : Nat → Prop} {k : List Tr} {v : Value} (h : Trs w S k v) : ∃ a cap, v = .slice a k.length cap ∧ k.length ≤ maxLen := by
  obtain ⟨a, cap, b, off, sv, hv, hc, hm, _⟩ := h
  exact ⟨_, _, hv, by omega⟩
/-- They may be shared. -/
def tksB (k : List Tr) : Bool := decide (k.length ≤ 20) && k.all Tr.ok
set_option maxHeartbeats 1600000 in
theorem allOK34 {S : Nat → Prop} (k : List Tr) (v : Value) (w : World) (h : Trs w S k v) :
    Calls Try.prog 82 #[v, .func (.func 38) #[] #[]] w fun e w' => e = .returned (.bool (k.all Tr.ok)) ∧ Below w.heap.size w w' := by
  obtain ⟨a, cap, b, off, sv, rfl, hc, hm, ha, hcell, hr⟩ := h
  have HC := (show Hid _ from hcell); clear hcell
  have HA := (show Hid _ from ha); clear ha
  have HR := (show Hid _ from hr); clear hr
  unfold maxLen at hm
  generalize hRes : k.all Tr.ok = R
  have HRes := (show Hid _ from hRes); clear hRes
  go_enter Try.func82, Try.ntmps82
  go_wp2_with fail
  go_loopw [9] (fun i wr => ∃ j : Nat, i = .int .i64 j ∧ j ≤ k.length ∧ Hid (∀ i (hi : i < k.length), i < j → k[i].ok = true) ∧ Below w.heap.size w wr) (fun i _ => k.length - (intOf i).toNat)
  case atStart => exact ⟨0, rfl, Nat.zero_le _, fun i hi h0 => absurd h0 (Nat.not_lt_zero _), Below.refl _ _⟩
  case round =>
    obtain ⟨j, rfl, hj, HJ, hbel⟩ := hrel
    by_cases hjl : j < k.length
    · obtain ⟨rfl, _⟩ := HA.out (by omega)
      obtain ⟨c0, c1, c2, c3⟩ := HC.out j hjl
      rw [← hbel.cell (lt_of_cell c0)] at c0
      rw [← hbel.cell (lt_of_cell c1)] at c1
      rw [← hbel.cell (lt_of_cell c2)] at c2
      rw [← hbel.cell (lt_of_cell c3)] at c3
      have hl := HR.out j hjl
      have hcl := fun (w' : World) (hb : Below w.heap.size w w') => iOK_any k[j] (sv j) w' (hl.still hb)
      obtain ⟨a3, l3, p3, e3⟩ := hl.form
      simp only [Tr.val] at hcl
      rw [e3] at c3 hcl
      clear e3 hl
      have HCL := (show Hid _ from hcl); clear hcl
      generalize hB : k[j].ok = B at HCL
      have HB := (show Hid _ from hB); clear hB
      have HNX := (show Hid (B = true → ∀ i (hi : i < k.length), i < j + 1 → k[i].ok = true) from fun h i hi hij => by
        by_cases e : i = j
        · subst e; exact HB.out.trans h
        · exact HJ.out i hi (by omega))
      have HFX := (show Hid (B = false → R = false) from fun h => by
        rw [← HRes.out, List.all_eq_false]
        exact ⟨k[j], List.getElem_mem hjl, by rw [HB.out, h]; simp⟩)
      generalize k[j].name = nm at *
      generalize k[j].text = tx at *
      generalize k[j].leaf = lf at *
      cases B
      · have HF := (show Hid (R = false) from HFX.out rfl)
        go_wp2_with fail
        go_at_call 38
        refine Calls.mono (HCL.out _ (hbel.alloc hbel.size _)) ?_
        rintro e w1 ⟨rfl, hb1⟩
        have HE := (show Hid _ from bel_trans (hbel.alloc hbel.size _) hb1); clear hb1 c0 c1 c2 c3 hbel
        go_wp2_with fail
        go_ret
        exact ⟨by rw [HF.out]; rfl, HE.out⟩
      · have HN := (show Hid _ from HNX.out rfl)
        go_wp2_with fail
        go_at_call 38
        refine Calls.mono (HCL.out _ (hbel.alloc hbel.size _)) ?_
        rintro e w1 ⟨rfl, hb1⟩
        have HE := (show Hid _ from bel_trans (hbel.alloc hbel.size _) hb1); clear hb1 c0 c1 c2 c3 hbel
        go_wp2_with fail
        exact ⟨⟨j + 1, by go_num, by omega, HN, HE.out⟩, by simp [intOf]; omega⟩
    · have HF := (show Hid (R = true) from by
        show R = true
        rw [← HRes.out, List.all_eq_true]
        intro x hx
        obtain ⟨i, hi, rfl⟩ := List.mem_iff_getElem.1 hx
        exact HJ.out i hi (by omega))
      go_wp2_with fail
      go_ret
      exact ⟨by rw [HF.out]; rfl, hbel⟩
end Go.Proofs.Yteomgkcgjkbppaa

/-! A Tree that came in, read as data, lies in memory. -/
namespace Go.Proofs.Yteomgkcgjkbppaa
open Go.RowKit Go.Deep Go.ChangeShapes Go.WideShapes
set_option linter.unusedVariables false
set_option linter.unusedSimpArgs false

theorem cells54 : Try.prog.cellsOf 24 = 4 := by kernel_rfl
theorem cells9 : Try.prog.cellsOf 9 = 1 := by kernel_rfl
theorem cells4 : Try.prog.cellsOf 4 = 1 := by kernel_rfl
theorem cells30 : Try.prog.cellsOf 22 = 1 := by kernel_rfl

theorem list4 {α : Type} {l : List α} (h : l.length = 4) : ∃ a b c d, l = [a, b, c, d] := by
  match l, h with
  | [a, b, c, d], _ => exact ⟨a, b, c, d, rfl⟩

theorem read_tree {H : Type} {enc : TypeId × Value → H} {w : World} {base : Nat} {spare : Nat → Bool} {held : Bool} (fuel : Nat) : ∀ (cs : List Value) (x : DataW H × List MemPlace), DataW.trod enc Try.prog w base spare held fuel 24 cs = some x →
    ∃ (t : Tr) (v : Value), cs = [.string t.name, .string t.text, .bool t.leaf, v] ∧ Lies w (fun _ => True) t v := by
  induction fuel using Nat.strongRecOn with
  | ind fuel ih =>
    intro cs x h
    obtain ⟨xs, n, rfl, rfl, hl, hlen, hf⟩ := DataW.trod_struct Try.underlying24 h
    rw [cells54] at hl
    obtain ⟨c0, c1, c2, c3, rfl⟩ := list4 hl
    obtain ⟨y0, y1, y2, y3, rfl⟩ := list4 (l := xs) hlen
    have f0 := hf 0 _ rfl
    have f1 := hf 1 _ rfl
    have f2 := hf 2 _ rfl
    have f3 := hf 3 _ rfl
    simp [cells9, cells4, cells30] at f0 f1 f2 f3
    obtain ⟨s0, e0, _, hs0⟩ := DataW.trod_string Try.underlying9 f0
    obtain ⟨s1, e1, _, hs1⟩ := DataW.trod_string Try.underlying9 f1
    obtain ⟨b2, e2, _⟩ := DataW.trod_bool Try.underlying4 f2
    simp at e0 e1 e2
    subst e0 e1 e2
    rcases DataW.trod_slice Try.underlying22 f3 with ⟨e3, _⟩ | ⟨a, len, cap, elems, rest, m, rfl, e3, _, hb, hlc, hcm, hel, hels, _, _⟩
    · simp at e3
      subst e3
      exact ⟨⟨s0, s1, b2, []⟩, _, rfl, Lies.shut ⟨none, 0, 0, 0, fun _ => .bool false, rfl, hs0, hs1, Nat.le_refl _, Nat.zero_le _, fun h => absurd h (by simp), fun i hi => absurd hi (by simp), fun i hi => absurd hi (by simp)⟩⟩
    · simp at e3
      subst e3
      rw [cells54] at hels
      have hall : ∀ i, i < len → ∃ p : Tr × Value, (w.cell? ((a.add (i * 4)).add 0) = some (.string p.1.name) ∧ w.cell? ((a.add (i * 4)).add 1) = some (.string p.1.text) ∧ w.cell? ((a.add (i * 4)).add 2) = some (.bool p.1.leaf) ∧ w.cell? ((a.add (i * 4)).add 3) = some p.2) ∧ Lies w (fun _ => True) p.1 p.2 := by
        intro i hi
        have h1 := hels i hi
        rw [List.getElem?_eq_getElem (by omega)] at h1
        obtain ⟨cs', h2, h3⟩ := Option.bind_eq_some_iff.1 h1
        obtain ⟨t, v, rfl, hlies⟩ := ih m (by omega) cs' _ h3
        obtain ⟨_, _, hc⟩ := World.cells?_some h2
        exact ⟨(t, v), ⟨hc 0 (by omega), hc 1 (by omega), hc 2 (by omega), hc 3 (by omega)⟩, hlies⟩
      obtain ⟨F, hF⟩ := @choose_lt (Tr × Value) ⟨(⟨ByteArray.empty, ByteArray.empty, false, []⟩, .bool false)⟩ len _ hall
      obtain ⟨bb, off, spot⟩ := a
      have hsp : 0 < len → spot = none := fun h0 => by
        have := World.cell?_spot (hF 0 h0).1.1
        simpa [Addr.add] using this
      have hlk : ((List.range len).map fun i => (F i).1).length = len := by simp
      refine ⟨⟨s0, s1, b2, (List.range len).map fun i => (F i).1⟩, _, rfl, Lies.shut ⟨some ⟨bb, off, spot⟩, cap, bb, off, fun i => (F i).2, by rw [hlk], hs0, hs1, by rw [hlk]; exact hlc, hcm, fun h0 => ?_, fun i hi => ?_, fun i hi => ?_⟩⟩
      · rw [hlk] at h0
        rw [hsp h0]
        exact ⟨rfl, trivial⟩
      · dsimp only at hi ⊢
        rw [hlk] at hi
        obtain ⟨⟨q0, q1, q2, q3⟩, _⟩ := hF i hi
        rw [hsp (by omega)] at q0 q1 q2 q3
        simp only [add_plain] at q0 q1 q2 q3
        simp only [List.getElem_map, List.getElem_range]
        exact ⟨q0, q1, q2, q3⟩
      · dsimp only at hi ⊢
        rw [hlk] at hi
        simp only [List.getElem_map, List.getElem_range]
        exact (hF i hi).2
theorem read_trs {H : Type} {enc : TypeId × Value → H} {w : World} {base : Nat} {spare : Nat → Bool} {held : Bool} (fuel : Nat) (cs : List Value) (x : DataW H × List MemPlace) (h : DataW.trod enc Try.prog w base spare held fuel 22 cs = some x) :
    ∃ (k : List Tr) (v : Value), cs = [v] ∧ Trs w (fun _ => True) k v := by
  rcases DataW.trod_slice Try.underlying22 h with ⟨e3, _⟩ | ⟨a, len, cap, elems, rest, m, rfl, e3, _, hb, hlc, hcm, hel, hels, _, _⟩
  · exact ⟨[], _, e3, none, 0, 0, 0, fun _ => .bool false, rfl, Nat.le_refl _, Nat.zero_le _, fun h => absurd h (by simp), fun i hi => absurd hi (by simp), fun i hi => absurd hi (by simp)⟩
  · rw [cells54] at hels
    have hall : ∀ i, i < len → ∃ p : Tr × Value, (w.cell? ((a.add (i * 4)).add 0) = some (.string p.1.name) ∧ w.cell? ((a.add (i * 4)).add 1) = some (.string p.1.text) ∧ w.cell? ((a.add (i * 4)).add 2) = some (.bool p.1.leaf) ∧ w.cell? ((a.add (i * 4)).add 3) = some p.2) ∧ Lies w (fun _ => True) p.1 p.2 := by
      intro i hi
      have h1 := hels i hi
      rw [List.getElem?_eq_getElem (by omega)] at h1
      obtain ⟨cs', h2, h3⟩ := Option.bind_eq_some_iff.1 h1
      obtain ⟨t, v, rfl, hlies⟩ := read_tree m cs' _ h3
      obtain ⟨_, _, hc⟩ := World.cells?_some h2
      exact ⟨(t, v), ⟨hc 0 (by omega), hc 1 (by omega), hc 2 (by omega), hc 3 (by omega)⟩, hlies⟩
    obtain ⟨F, hF⟩ := @choose_lt (Tr × Value) ⟨(⟨ByteArray.empty, ByteArray.empty, false, []⟩, .bool false)⟩ len _ hall
    obtain ⟨bb, off, spot⟩ := a
    have hsp : 0 < len → spot = none := fun h0 => by
      have := World.cell?_spot (hF 0 h0).1.1
      simpa [Addr.add] using this
    have hlk : ((List.range len).map fun i => (F i).1).length = len := by simp
    refine ⟨(List.range len).map fun i => (F i).1, _, e3, some ⟨bb, off, spot⟩, cap, bb, off, fun i => (F i).2, by rw [hlk], by rw [hlk]; exact hlc, hcm, fun h0 => ?_, fun i hi => ?_, fun i hi => ?_⟩
    · rw [hlk] at h0
      rw [hsp h0]
      exact ⟨rfl, trivial⟩
    · rw [hlk] at hi
      obtain ⟨⟨q0, q1, q2, q3⟩, _⟩ := hF i hi
      rw [hsp (by omega)] at q0 q1 q2 q3
      simp only [add_plain] at q0 q1 q2 q3
      simp only [List.getElem_map, List.getElem_range]
      exact ⟨q0, q1, q2, q3⟩
    · rw [hlk] at hi
      simp only [List.getElem_map, List.getElem_range]
      exact (hF i hi).2
end Go.Proofs.Yteomgkcgjkbppaa

/-! Binds that came in, read as data, lie in memory. -/
namespace Go.Proofs.Yteomgkcgjkbppaa
open Go.RowKit Go.Deep Go.ChangeShapes Go.WideShapes
set_option linter.unusedVariables false
set_option linter.unusedSimpArgs false

/-- Binds as they came in: five cells each. -/
def BLy (w : World) (bl : List (ByteArray × Tr)) (v : Value) : Prop :=
  ∃ (a : Option Addr) (cap b off : Nat) (sv : Nat → Value), v = .slice a bl.length cap ∧ bl.length ≤ cap ∧ cap ≤ maxLen ∧ (0 < bl.length → a = some ⟨b, off, none⟩) ∧ (∀ i (hi : i < bl.length), bl[i].1.size ≤ maxLen) ∧
    (∀ i (hi : i < bl.length), w.cell? ⟨b, off + i * 5, none⟩ = some (.string bl[i].1) ∧ w.cell? ⟨b, off + i * 5 + 1, none⟩ = some (.string bl[i].2.name) ∧ w.cell? ⟨b, off + i * 5 + 2, none⟩ = some (.string bl[i].2.text) ∧ w.cell? ⟨b, off + i * 5 + 3, none⟩ = some (.bool bl[i].2.leaf) ∧ w.cell? ⟨b, off + i * 5 + 4, none⟩ = some (sv i)) ∧
    ∀ i (hi : i < bl.length), Lies w (fun _ => True) bl[i].2 (sv i)
theorem BLy.still {w w' : World} {bl : List (ByteArray × Tr)} {v : Value} (h : BLy w bl v) (hb : Below w.heap.size w w') : BLy w' bl v := by
  obtain ⟨a, cap, b, off, sv, h1, h2, h3, h4, h5, h6, h7⟩ := h
  have mv : ∀ {b o : Nat} {v : Value}, w.cell? ⟨b, o, none⟩ = some v → w'.cell? ⟨b, o, none⟩ = some v := fun h => (hb.cell (lt_of_cell h)).trans h
  refine ⟨a, cap, b, off, sv, h1, h2, h3, h4, h5, fun i hi => ?_, fun i hi => (h7 i hi).still hb⟩
  obtain ⟨c0, c1, c2, c3, c4⟩ := h6 i hi
  exact ⟨mv c0, mv c1, mv c2, mv c3, mv c4⟩
theorem BLy.form {w : World} {bl : List (ByteArray × Tr)} {v : Value} (h : BLy w bl v) : ∃ a cap, v = .slice a bl.length cap := by
  obtain ⟨a, cap, b, off, sv, h1, _⟩ := h
  exact ⟨a, cap, h1⟩

theorem cells76 : Try.prog.cellsOf 76 = 5 := by kernel_rfl
theorem list5 {α : Type} {l : List α} (h : l.length = 5) : ∃ a b c d e, l = [a, b, c, d, e] := by
  match l, h with
  | [a, b, c, d, e], _ => exact ⟨a, b, c, d, e, rfl⟩
theorem list2 {α : Type} {l : List α} (h : l.length = 2) : ∃ a b, l = [a, b] := by
  match l, h with
  | [a, b], _ => exact ⟨a, b, rfl⟩
theorem read_bind {H : Type} {enc : TypeId × Value → H} {w : World} {base : Nat} {spare : Nat → Bool} {held : Bool} (fuel : Nat) (cs : List Value) (x : DataW H × List MemPlace) (h : DataW.trod enc Try.prog w base spare held fuel 76 cs = some x) :
    ∃ (s : ByteArray) (t : Tr) (v : Value), cs = [.string s, .string t.name, .string t.text, .bool t.leaf, v] ∧ s.size ≤ maxLen ∧ Lies w (fun _ => True) t v := by
  obtain ⟨xs, n, rfl, rfl, hl, hlen, hf⟩ := DataW.trod_struct Try.underlying76 h
  rw [cells76] at hl
  obtain ⟨c0, c1, c2, c3, c4, rfl⟩ := list5 hl
  obtain ⟨y0, y1, rfl⟩ := list2 (l := xs) hlen
  have f0 := hf 0 _ rfl
  have f1 := hf 1 _ rfl
  simp [cells9, cells54] at f0 f1
  obtain ⟨s0, e0, _, hs0⟩ := DataW.trod_string Try.underlying9 f0
  simp at e0
  subst e0
  obtain ⟨t, v, e1, hlies⟩ := read_tree _ _ _ f1
  simp at e1
  obtain ⟨rfl, rfl, rfl, rfl⟩ := e1
  exact ⟨s0, t, _, rfl, hs0, hlies⟩
theorem read_binds {H : Type} {enc : TypeId × Value → H} {w : World} {base : Nat} {spare : Nat → Bool} {held : Bool} (fuel : Nat) (cs : List Value) (x : DataW H × List MemPlace) (h : DataW.trod enc Try.prog w base spare held fuel 38 cs = some x) :
    ∃ (bl : List (ByteArray × Tr)) (v : Value), cs = [v] ∧ BLy w bl v := by
  rcases DataW.trod_slice Try.underlying38 h with ⟨e3, _⟩ | ⟨a, len, cap, elems, rest, m, rfl, e3, _, hb, hlc, hcm, hel, hels, _, _⟩
  · exact ⟨[], _, e3, none, 0, 0, 0, fun _ => .bool false, rfl, Nat.le_refl _, Nat.zero_le _, fun h => absurd h (by simp), fun i hi => absurd hi (by simp), fun i hi => absurd hi (by simp), fun i hi => absurd hi (by simp)⟩
  · rw [cells76] at hels
    have hall : ∀ i, i < len → ∃ p : (ByteArray × Tr) × Value, (w.cell? ((a.add (i * 5)).add 0) = some (.string p.1.1) ∧ w.cell? ((a.add (i * 5)).add 1) = some (.string p.1.2.name) ∧ w.cell? ((a.add (i * 5)).add 2) = some (.string p.1.2.text) ∧ w.cell? ((a.add (i * 5)).add 3) = some (.bool p.1.2.leaf) ∧ w.cell? ((a.add (i * 5)).add 4) = some p.2) ∧ p.1.1.size ≤ maxLen ∧ Lies w (fun _ => True) p.1.2 p.2 := by
      intro i hi
      have h1 := hels i hi
      rw [List.getElem?_eq_getElem (by omega)] at h1
      obtain ⟨cs', h2, h3⟩ := Option.bind_eq_some_iff.1 h1
      obtain ⟨s, t, v, rfl, hs, hlies⟩ := read_bind m cs' _ h3
      obtain ⟨_, _, hc⟩ := World.cells?_some h2
      exact ⟨((s, t), v), ⟨hc 0 (by omega), hc 1 (by omega), hc 2 (by omega), hc 3 (by omega), hc 4 (by omega)⟩, hs, hlies⟩
    obtain ⟨F, hF⟩ := @choose_lt ((ByteArray × Tr) × Value) ⟨((ByteArray.empty, ⟨ByteArray.empty, ByteArray.empty, false, []⟩), .bool false)⟩ len _ hall
    obtain ⟨bb, off, spot⟩ := a
    have hsp : 0 < len → spot = none := fun h0 => by
      have := World.cell?_spot (hF 0 h0).1.1
      simpa [Addr.add] using this
    have hlk : ((List.range len).map fun i => (F i).1).length = len := by simp
    refine ⟨(List.range len).map fun i => (F i).1, _, e3, some ⟨bb, off, spot⟩, cap, bb, off, fun i => (F i).2, by rw [hlk], by rw [hlk]; exact hlc, hcm, fun h0 => ?_, fun i hi => ?_, fun i hi => ?_, fun i hi => ?_⟩
    · rw [hlk] at h0
      rw [hsp h0]
    · rw [hlk] at hi
      simp only [List.getElem_map, List.getElem_range]
      exact (hF i hi).2.1
    · rw [hlk] at hi
      obtain ⟨⟨q0, q1, q2, q3, q4⟩, _⟩ := hF i hi
      rw [hsp (by omega)] at q0 q1 q2 q3 q4
      simp only [add_plain] at q0 q1 q2 q3 q4
      simp only [List.getElem_map, List.getElem_range]
      exact ⟨q0, q1, q2, q3, q4⟩
    · rw [hlk] at hi
      simp only [List.getElem_map, List.getElem_range]
      exact (hF i hi).2.2
end Go.Proofs.Yteomgkcgjkbppaa
