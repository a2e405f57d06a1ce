import Derived.Test.YtanbdfeoijflaaaDoorLd
import Derived.Lib.OthersKept
import Derived.Lib.BufferKept
/-! A program as text: the program's numbers. -/
namespace Go.Proofs.YtanbdfeoijflaaaDoor
open Go.RowKit Go.Deep Go.Lib
set_option linter.unusedVariables false
set_option maxRecDepth 100000
set_option linter.unusedSimpArgs false

/-- The places of the numbers in an instruction's line. -/
def nmL (k : Nat) : List Nat := (if (hnB k || decide ((k : Int) = 10)) = true then [1] else []) ++ (if htB k = true then [2] else [])
/-- Pointers to them, as they lie. -/
def PtL (W : World) (p : Nat) (ls : List Nat) (v : Value) : Prop := ∃ (a : Option Addr) (g cap : Nat), v = .slice a ls.length cap ∧ ls.length ≤ cap ∧ cap ≤ maxLen ∧ (0 < ls.length → a = some ⟨g, 0, none⟩ ∧ ∃ cur fz, W.heap[g]? = some (.cells cur 66 fz)) ∧ ∀ i (hi : i < ls.length), W.cell? ⟨g, i, none⟩ = some (.pointer (some ⟨p, ls[i], none⟩))
theorem info66p : (Tryd.prog.info? 66).map (fun i => (i.zero, i.size, i.bytes)) = some (some (.pointer none), 1, 8) := by kernel_rfl
/-- Pointers that are gathered: in a row of its own; below it all is as it was. -/
def ptC (p : Nat) (ls : List Nat) : List Value := ls.map fun o => .pointer (some ⟨p, o, none⟩)
structure PtA (B p : Nat) (w0 W : World) (v : Value) (ls : List Nat) : Prop where
  own : W.ownsRow B 66 1 v ls.length (ptC p ls)
  bel : Below B w0 W
  bz : B ≤ W.heap.size
theorem PtA.add0 {B p o : Nat} {w0 W : World} {v : Value} {ls : List Nat} (h : PtA B p w0 W v ls) (hl : ls.length ≤ 100) :
    ∃ a c w', (Builtin.append_ #[63, 63] 63 #[v, .slice (some ⟨W.heap.size, 0, none⟩) 1 1]).run Tryd.prog (W.alloc (.cells #[.pointer (some ⟨p, o, none⟩)] 66)) = .ok (.slice a (ls.length + 1) c) w' ∧ PtA B p w0 w' (.slice a (ls.length + 1) c) (ls ++ [o]) := by
  obtain ⟨i5, hi5, hzz⟩ := Option.map_eq_some_iff.1 info66p
  simp only [Prod.mk.injEq] at hzz
  obtain ⟨hz0, hz1, hz2⟩ := hzz
  have hba := bel_alloc W (.cells #[.pointer (some ⟨p, o, none⟩)] 66)
  have hown := own_keep1 h.own (fun k e => hba.block k (World.ownsRow.lt h.own k e).2)
  have hl0 := World.ownsRow.lt h.own
  have hnews : ∀ j y, [Value.pointer (some ⟨p, o, none⟩)][j]? = some y → (W.alloc (.cells #[.pointer (some ⟨p, o, none⟩)] 66)).cell? ((⟨W.heap.size, 0, none⟩ : Addr).add j) = some y := fun j y hj => by
    cases j with
    | zero =>
      simp at hj
      subst hj
      simp [go_sem, Addr.add]
    | succ j => simp at hj
  obtain ⟨v', w', hr, h2, h3, h4, h5⟩ := run_append_own_at (P := Tryd.prog) (W.alloc (.cells #[.pointer (some ⟨p, o, none⟩)] 66)) B 63 63 66 i5 (.pointer none) 1 8 Tryd.underlying63 hi5 hz0 hz1 hz2 rfl (by decide) v ls.length (ptC p ls) hown ⟨W.heap.size, 0, none⟩ 1 1 [.pointer (some ⟨p, o, none⟩)] rfl hnews (fun y hy => by simp at hy; subst hy; rfl) (by unfold maxLen; omega) (by omega) (by have := h.bz; simp; omega)
  obtain ⟨a, c, rfl⟩ := own_ne h2
  have hb1 : Below B w0 (W.alloc (.cells #[.pointer (some ⟨p, o, none⟩)] 66)) := h.bel.trans (hba.mono h.bz)
  refine ⟨a, c, w', hr, ?_, hb1.grown h3 (by have := h.bz; simp; omega) (fun k hk => (hl0 k hk).1), by have h6 := h3.size; have := h.bz; simp at h6; omega⟩
  have e1 : (ls ++ [o]).length = ls.length + 1 := by simp
  have e2 : ptC p (ls ++ [o]) = ptC p ls ++ [.pointer (some ⟨p, o, none⟩)] := by simp [ptC]
  rw [e1, e2]
  exact h2
theorem PtA.add {B p : Nat} {w0 W : World} {v : Value} {ls : List Nat} (h : PtA B p w0 W v ls) (o N M : Nat) (hl : ls.length ≤ 100) (hN : W.heap.size = N) (hM : ls.length + 1 = M) :
    ∃ a c w', (Builtin.append_ #[63, 63] 63 #[v, .slice (some ⟨N, 0, none⟩) 1 1]).run Tryd.prog (W.alloc (.cells #[.pointer (some ⟨p, o, none⟩)] 66)) = .ok (.slice a M c) w' ∧ PtA B p w0 w' (.slice a M c) (ls ++ [o]) := by
  subst hN hM
  exact h.add0 hl
theorem PtA.fin {p : Nat} {w W : World} {x : Obj} {v : Value} {ls : List Nat} (h : PtA (w.heap.size + 1) p (w.alloc x) W v ls) : Below w.heap.size w W := (bel_alloc w x).trans (h.bel.mono (by omega))
theorem PtA.cel {p i : Nat} {w W : World} {x : Obj} {v y : Value} {ls : List Nat} (h : PtA (w.heap.size + 1) p (w.alloc x) W v ls) (hy : (w.alloc x).cell? ⟨w.heap.size, i, none⟩ = some y) : W.cell? ⟨w.heap.size, i, none⟩ = some y :=
  (World.cell?_of_block (a := ⟨w.heap.size, _, none⟩) (h.bel.block w.heap.size (by omega))).trans hy
theorem PtA.ptl {B p : Nat} {w0 W : World} {v : Value} {ls : List Nat} (h : PtA B p w0 W v ls) : PtL W p ls v := by
  rcases h.own.2 with ⟨rfl, h0⟩ | ⟨g, cap, cur, rfl, r2, r3, r4, r5, r6, r7⟩
  · exact ⟨none, 0, 0, by rw [h0], by omega, by unfold maxLen; omega, fun h => by omega, fun i hi => by omega⟩
  · refine ⟨some ⟨g, 0, none⟩, g, cap, rfl, r4, r5, fun _ => ⟨rfl, cur, (0, 0), r3⟩, fun i hi => ?_⟩
    rw [World.ownsRow.cellAt h.own i (by omega)]
    simp [ptC, hi]
theorem PtL.kept {W W' : World} {p : Nat} {ls : List Nat} {v : Value} (h : PtL W p ls v) (hk : OthersKept 5 none W W') : PtL W' p ls v := by
  obtain ⟨a, g, cap, rfl, h1, h2, h3, h4⟩ := h
  refine ⟨a, g, cap, rfl, h1, h2, fun h0 => ?_, fun i hi => ?_⟩
  · obtain ⟨e, cur, fz, hg⟩ := h3 h0
    exact ⟨e, cur, fz, hk _ _ hg (by simp) (fun c fz h => by injection h with _ h1 _; cases h1)⟩
  · obtain ⟨e, cur, fz, hg⟩ := h3 (by omega)
    have := hk _ _ hg (by simp) (fun c fz h => by injection h with _ h1 _; cases h1)
    exact (World.cell?_of_block (a := ⟨g, i, none⟩) (this.trans hg.symm)).trans (h4 i hi)
theorem neqf44 (w : World) : (binOp .neq 41 (.func (.func 44) #[] #[]) .nilFunc).run Tryd.prog w = .ok (.bool true) w := by kernel_rfl
theorem neqf34 (w : World) : (binOp .neq 41 (.func (.func 34) #[] #[]) .nilFunc).run Tryd.prog w = .ok (.bool true) w := by kernel_rfl
theorem neqfn (w : World) : (binOp .neq 41 .nilFunc .nilFunc).run Tryd.prog w = .ok (.bool false) w := by kernel_rfl
set_option maxHeartbeats 6400000 in
theorem numbers46 (k p : Nat) (s : ByteArray) (m : Bool) (d : Value) (w : World) :
    Calls Tryd.prog 46 #[.agg #[.string s, rwN k, .bool (htB k), .bool m, d], .pointer (some ⟨p, 0, none⟩)] w fun e w' => ∃ v, e = .returned v ∧ Below w.heap.size w w' ∧ PtL w' p (nmL k) v := by
  have q1 := neqf44
  have q2 := neqf34
  have q3 := neqfn
  have HS0 := (show Hid (∀ v : Value, PtA (w.heap.size + 1) p (w.alloc (.cells #[.string s, v, .bool (htB k), .bool m, d] 44)) (w.alloc (.cells #[.string s, v, .bool (htB k), .bool m, d] 44)) (.slice none 0 0) []) from fun v => ⟨⟨by simp [ptC], .inl ⟨rfl, rfl⟩⟩, Below.refl _ _, by simp⟩)
  have HFN := (show Hid (nmL k = (if (hnB k || decide ((k : Int) = 10)) = true then [1] else []) ++ (if htB k = true then [2] else [])) from rfl)
  have hrn : rwN k = (if decide ((k : Int) = 10) = true then .func (.func 44) #[] #[] else if hnB k = true then .func (.func 34) #[] #[] else .nilFunc) := by
    unfold rwN
    by_cases e : k = 10
    · rw [if_pos e, if_pos (by simp [e])]
    · have e2 : ¬ ((k : Int) = 10) := by omega
      simp only [if_neg e, e2, decide_false, Bool.false_eq_true, if_false]
  rw [hrn]
  clear hrn
  generalize nmL k = NL at *
  generalize htB (k : Int) = A at *
  generalize hnB (k : Int) = N at *
  generalize decide ((k : Int) = 10) = E at *
  cases E <;> cases N <;> cases A
  all_goals (simp only [if_true, if_false, Bool.false_eq_true, Bool.or_true, Bool.or_false, List.nil_append, List.append_nil, List.singleton_append] at HFN ⊢)
  · have h0 := HS0.out (.nilFunc)
    have HE := (show Hid (Below w.heap.size w _ ∧ PtL _ p NL (.slice none 0 0)) from ⟨h0.fin, by rw [HFN.out]; exact h0.ptl⟩)
    clear h0 HS0 HFN
    go_enter Tryd.func46, Tryd.ntmps46
    go_wp2_with fail
    go_ret
    exact ⟨_, rfl, HE.out⟩
  · have h0 := HS0.out (.nilFunc)
    obtain ⟨a2, c2, w2, hr2, h2⟩ := h0.add 2 (w.heap.size + 1) 1 (by simp) (by simp) rfl
    have HR2 := (show Hid _ from hr2)
    have HE := (show Hid (Below w.heap.size w w2 ∧ PtL w2 p NL (.slice a2 1 c2)) from ⟨h2.fin, by rw [HFN.out]; exact h2.ptl⟩)
    clear hr2 h0 h2 HS0 HFN
    go_enter Tryd.func46, Tryd.ntmps46
    go_wp2_with (first | (at_builtin; refine wpList_append_run _ rfl (.tmp 17) (.tmp 21) 63 63 rfl rfl rfl HR2.out ?_))
    go_ret
    exact ⟨_, rfl, HE.out⟩
  · have h0 := HS0.out (.func (.func 34) #[] #[])
    obtain ⟨a2, c2, w2, hr2, h2⟩ := h0.add 1 (w.heap.size + 1) 1 (by simp) (by simp) rfl
    have g2 := h2.cel (i := 2) (y := .bool false) (by simp [go_sem])
    have HR1 := (show Hid _ from hr2)
    have HE := (show Hid (Below w.heap.size w w2 ∧ PtL w2 p NL (.slice a2 1 c2)) from ⟨h2.fin, by rw [HFN.out]; exact h2.ptl⟩)
    clear hr2 h0 h2 HS0 HFN
    go_enter Tryd.func46, Tryd.ntmps46
    go_wp2_with (first | (at_builtin; refine wpList_append_run _ rfl (.tmp 9) (.tmp 13) 63 63 rfl rfl rfl HR1.out ?_))
    go_ret
    exact ⟨_, rfl, HE.out⟩
  · have h0 := HS0.out (.func (.func 34) #[] #[])
    obtain ⟨a1, c1, w1, hr1, h1⟩ := h0.add 1 (w.heap.size + 1) 1 (by simp) (by simp) rfl
    obtain ⟨a2, c2, w2, hr2, h2⟩ := h1.add 2 w1.heap.size 2 (by simp) rfl rfl
    have g2 := h1.cel (i := 2) (y := .bool true) (by simp [go_sem])
    have HR1 := (show Hid _ from hr1)
    have HR2 := (show Hid _ from hr2)
    have HE := (show Hid (Below w.heap.size w w2 ∧ PtL w2 p NL (.slice a2 2 c2)) from ⟨h2.fin, by rw [HFN.out]; exact h2.ptl⟩)
    clear hr1 hr2 h0 h1 h2 HS0 HFN
    go_enter Tryd.func46, Tryd.ntmps46
    go_wp2_with (first | (at_builtin; refine wpList_append_run _ rfl (.tmp 9) (.tmp 13) 63 63 rfl rfl rfl HR1.out ?_) | (at_builtin; refine wpList_append_run _ rfl (.tmp 17) (.tmp 21) 63 63 rfl rfl rfl HR2.out ?_))
    go_ret
    exact ⟨_, rfl, HE.out⟩
  · have h0 := HS0.out (.func (.func 44) #[] #[])
    obtain ⟨a2, c2, w2, hr2, h2⟩ := h0.add 1 (w.heap.size + 1) 1 (by simp) (by simp) rfl
    have g2 := h2.cel (i := 2) (y := .bool false) (by simp [go_sem])
    have HR1 := (show Hid _ from hr2)
    have HE := (show Hid (Below w.heap.size w w2 ∧ PtL w2 p NL (.slice a2 1 c2)) from ⟨h2.fin, by rw [HFN.out]; exact h2.ptl⟩)
    clear hr2 h0 h2 HS0 HFN
    go_enter Tryd.func46, Tryd.ntmps46
    go_wp2_with (first | (at_builtin; refine wpList_append_run _ rfl (.tmp 9) (.tmp 13) 63 63 rfl rfl rfl HR1.out ?_))
    go_ret
    exact ⟨_, rfl, HE.out⟩
  · have h0 := HS0.out (.func (.func 44) #[] #[])
    obtain ⟨a1, c1, w1, hr1, h1⟩ := h0.add 1 (w.heap.size + 1) 1 (by simp) (by simp) rfl
    obtain ⟨a2, c2, w2, hr2, h2⟩ := h1.add 2 w1.heap.size 2 (by simp) rfl rfl
    have g2 := h1.cel (i := 2) (y := .bool true) (by simp [go_sem])
    have HR1 := (show Hid _ from hr1)
    have HR2 := (show Hid _ from hr2)
    have HE := (show Hid (Below w.heap.size w w2 ∧ PtL w2 p NL (.slice a2 2 c2)) from ⟨h2.fin, by rw [HFN.out]; exact h2.ptl⟩)
    clear hr1 hr2 h0 h1 h2 HS0 HFN
    go_enter Tryd.func46, Tryd.ntmps46
    go_wp2_with (first | (at_builtin; refine wpList_append_run _ rfl (.tmp 9) (.tmp 13) 63 63 rfl rfl rfl HR1.out ?_) | (at_builtin; refine wpList_append_run _ rfl (.tmp 17) (.tmp 21) 63 63 rfl rfl rfl HR2.out ?_))
    go_ret
    exact ⟨_, rfl, HE.out⟩
  · have h0 := HS0.out (.func (.func 44) #[] #[])
    obtain ⟨a2, c2, w2, hr2, h2⟩ := h0.add 1 (w.heap.size + 1) 1 (by simp) (by simp) rfl
    have g2 := h2.cel (i := 2) (y := .bool false) (by simp [go_sem])
    have HR1 := (show Hid _ from hr2)
    have HE := (show Hid (Below w.heap.size w w2 ∧ PtL w2 p NL (.slice a2 1 c2)) from ⟨h2.fin, by rw [HFN.out]; exact h2.ptl⟩)
    clear hr2 h0 h2 HS0 HFN
    go_enter Tryd.func46, Tryd.ntmps46
    go_wp2_with (first | (at_builtin; refine wpList_append_run _ rfl (.tmp 9) (.tmp 13) 63 63 rfl rfl rfl HR1.out ?_))
    go_ret
    exact ⟨_, rfl, HE.out⟩
  · have h0 := HS0.out (.func (.func 44) #[] #[])
    obtain ⟨a1, c1, w1, hr1, h1⟩ := h0.add 1 (w.heap.size + 1) 1 (by simp) (by simp) rfl
    obtain ⟨a2, c2, w2, hr2, h2⟩ := h1.add 2 w1.heap.size 2 (by simp) rfl rfl
    have g2 := h1.cel (i := 2) (y := .bool true) (by simp [go_sem])
    have HR1 := (show Hid _ from hr1)
    have HR2 := (show Hid _ from hr2)
    have HE := (show Hid (Below w.heap.size w w2 ∧ PtL w2 p NL (.slice a2 2 c2)) from ⟨h2.fin, by rw [HFN.out]; exact h2.ptl⟩)
    clear hr1 hr2 h0 h1 h2 HS0 HFN
    go_enter Tryd.func46, Tryd.ntmps46
    go_wp2_with (first | (at_builtin; refine wpList_append_run _ rfl (.tmp 9) (.tmp 13) 63 63 rfl rfl rfl HR1.out ?_) | (at_builtin; refine wpList_append_run _ rfl (.tmp 17) (.tmp 21) 63 63 rfl rfl rfl HR2.out ?_))
    go_ret
    exact ⟨_, rfl, HE.out⟩
end Go.Proofs.YtanbdfeoijflaaaDoor
