import Derived.Test.YtboffildchoelaaXe
import Derived.Test.YtboffildchoelaaXc
/-! The specification: SemOK. -/
namespace Go.Proofs.Ytboffildchoelaa
open Go.RowKit Go.Deep Go.Lib Go.ChangeShapes Go.WideShapes
set_option linter.unusedVariables false
set_option maxRecDepth 100000
set_option linter.unusedSimpArgs false

/-- A meaning is right. -/
def seB (s : Se) : Bool := decide (s.rl.length ≤ 20) && (decide (s.vs.length ≤ 20) && (decide (s.cs.length ≤ 20) && (decide (s.hs.length ≤ 12) && (s.rl.all r6B && (onJ s.rl s.rl.length && (s.vs.all vaB && (s.cs.all cxB && s.hs.all shB)))))))
theorem se_r {s : Se} (h : ¬ s.rl.length ≤ 20) : seB s = false := by unfold seB; rw [decide_eq_false h]; rfl
theorem se_v {s : Se} (h : ¬ s.vs.length ≤ 20) : seB s = false := by unfold seB; rw [decide_eq_false h]; simp
theorem se_c {s : Se} (h : ¬ s.cs.length ≤ 20) : seB s = false := by unfold seB; rw [decide_eq_false h]; simp
theorem se_h {s : Se} (h : ¬ s.hs.length ≤ 12) : seB s = false := by unfold seB; rw [decide_eq_false h]; simp
theorem all_no {α : Type} {l : List α} {f : α → Bool} {j : Nat} (hj : j < l.length) (h : f l[j] = false) : l.all f = false := by
  rw [List.all_eq_false]
  exact ⟨l[j], List.getElem_mem hj, by rw [h]; simp⟩
theorem all_yes {α : Type} {l : List α} {f : α → Bool} (h : ∀ i (hi : i < l.length), f l[i] = true) : l.all f = true := by
  rw [List.all_eq_true]
  intro x hx
  obtain ⟨i, hi, rfl⟩ := List.mem_iff_getElem.1 hx
  exact h i hi
theorem se_r0 {s : Se} (h : s.rl.all r6B = false) : seB s = false := by unfold seB; rw [h]; simp
theorem se_on {s : Se} (h : onJ s.rl s.rl.length = false) : seB s = false := by unfold seB; rw [h]; simp
theorem se_v0 {s : Se} (h : s.vs.all vaB = false) : seB s = false := by unfold seB; rw [h]; simp
theorem se_c0 {s : Se} (h : s.cs.all cxB = false) : seB s = false := by unfold seB; rw [h]; simp
theorem se_h0 {s : Se} (h : s.hs.all shB = false) : seB s = false := by unfold seB; rw [h]; simp
theorem se_yes {s : Se} (h1 : s.rl.length ≤ 20) (h2 : s.vs.length ≤ 20) (h3 : s.cs.length ≤ 20) (h4 : s.hs.length ≤ 12) (g1 : s.rl.all r6B = true) (g2 : onJ s.rl s.rl.length = true) (g3 : s.vs.all vaB = true) (g4 : s.cs.all cxB = true) (g5 : s.hs.all shB = true) : seB s = true := by
  unfold seB
  rw [decide_eq_true h1, decide_eq_true h2, decide_eq_true h3, decide_eq_true h4, g1, g2, g3, g4, g5]
  rfl
theorem fdw_at {rl : List Rw} {j : Nat} (hj : j < rl.length) {i : Int} (h : FdW rl rl[j].name i) : ∃ m : Nat, i = (m : Int) ∧ (hasS (nms (rl.take j)) rl[j].name = false → m = j) ∧ (hasS (nms (rl.take j)) rl[j].name = true → m ≠ j) := by
  rcases h with ⟨rfl, h⟩ | ⟨m, rfl, hm, h1, h2⟩
  · exfalso
    have : hasS (nms rl) rl[j].name = true := by
      unfold hasS nms
      rw [List.any_eq_true]
      exact ⟨rl[j].name, List.mem_map.2 ⟨rl[j], List.getElem_mem hj, rfl⟩, eqS_refl _⟩
    rw [h] at this
    cases this
  · refine ⟨m, rfl, fun h => ?_, fun h e => ?_⟩
    · by_cases hlt : m < j
      · exfalso
        have : hasS (nms (rl.take j)) rl[j].name = true := by
          unfold hasS nms
          rw [List.any_eq_true]
          refine ⟨rl[m].name, List.mem_map.2 ⟨rl[m], ?_, rfl⟩, eqS_iff.2 h1⟩
          exact List.mem_iff_getElem.2 ⟨m, by rw [List.length_take]; omega, by rw [List.getElem_take]⟩
        rw [h] at this
        cases this
      · by_cases hgt : j < m
        · exfalso
          have : hasS (nms (rl.take m)) rl[j].name = true := by
            unfold hasS nms
            rw [List.any_eq_true]
            refine ⟨rl[j].name, List.mem_map.2 ⟨rl[j], ?_, rfl⟩, eqS_refl _⟩
            exact List.mem_iff_getElem.2 ⟨j, by rw [List.length_take]; omega, by rw [List.getElem_take]⟩
          rw [h2] at this
          cases this
        · omega
    · subst e
      rw [h2] at h
      cases h
abbrev o5_0 : Oper := { dst := some 37, op := Go.Op.fieldAddr 33 (Go.Operand.tmp 1) 0, type := 0, pos := "l16_meanings.go:62", after := #[], guard := none }
abbrev o5_1 : Oper := { dst := some 38, op := Go.Op.load 29 (Go.Operand.tmp 37), type := 29, pos := "l16_meanings.go:62", after := #[{ on := 0, ground := Go.Ground.data }], guard := none }
abbrev o5_2 : Oper := { dst := some 39, op := Go.Op.move (Go.Operand.tmp 3), type := 3, pos := "l16_meanings.go:62", after := #[], guard := none }
abbrev o5_3 : Oper := { dst := some 40, op := Go.Op.indexAddr 29 (Go.Operand.tmp 38) (Go.Operand.tmp 39), type := 0, pos := "l16_meanings.go:62", after := #[{ on := 1, ground := Go.Ground.data }, { on := 2, ground := Go.Ground.data }], guard := none }
abbrev o5_4 : Oper := { dst := some 41, op := Go.Op.load 44 (Go.Operand.tmp 40), type := 44, pos := "l16_meanings.go:62", after := #[{ on := 3, ground := Go.Ground.data }], guard := none }
abbrev o5_5 : Oper := { dst := some 42, op := Go.Op.call { callee := Go.Callee.value (Go.Operand.func 12), args := #[Go.Operand.tmp 41], argTypes := #[44] }, type := 4, pos := "l16_meanings.go:62", after := #[{ on := 4, ground := Go.Ground.data }], guard := none }
abbrev o5_6 : Oper := { dst := some 43, op := Go.Op.unOp Go.UnOp.not 4 (Go.Operand.tmp 42), type := 4, pos := "l16_meanings.go:62", after := #[{ on := 5, ground := Go.Ground.data }], guard := none }
abbrev o5_7 : Oper := { dst := some 44, op := Go.Op.move (Go.Operand.tmp 43), type := 4, pos := "l16_meanings.go:62", after := #[{ on := 6, ground := Go.Ground.data }, { on := 5, ground := Go.Ground.chain }], guard := none }
abbrev o5_8 : Oper := { dst := some 45, op := Go.Op.fieldAddr 33 (Go.Operand.tmp 1) 0, type := 0, pos := "l16_meanings.go:62", after := #[{ on := 7, ground := Go.Ground.guard }], guard := some (7, false) }
abbrev o5_9 : Oper := { dst := some 46, op := Go.Op.load 29 (Go.Operand.tmp 45), type := 29, pos := "l16_meanings.go:62", after := #[{ on := 8, ground := Go.Ground.data }, { on := 7, ground := Go.Ground.guard }], guard := some (7, false) }
abbrev o5_10 : Oper := { dst := some 47, op := Go.Op.fieldAddr 33 (Go.Operand.tmp 1) 0, type := 0, pos := "l16_meanings.go:62", after := #[{ on := 7, ground := Go.Ground.guard }], guard := some (7, false) }
abbrev o5_11 : Oper := { dst := some 48, op := Go.Op.load 29 (Go.Operand.tmp 47), type := 29, pos := "l16_meanings.go:62", after := #[{ on := 10, ground := Go.Ground.data }, { on := 7, ground := Go.Ground.guard }], guard := some (7, false) }
abbrev o5_12 : Oper := { dst := some 49, op := Go.Op.move (Go.Operand.tmp 3), type := 3, pos := "l16_meanings.go:62", after := #[{ on := 7, ground := Go.Ground.guard }], guard := some (7, false) }
abbrev o5_13 : Oper := { dst := some 50, op := Go.Op.indexAddr 29 (Go.Operand.tmp 48) (Go.Operand.tmp 49), type := 0, pos := "l16_meanings.go:62", after := #[{ on := 11, ground := Go.Ground.data }, { on := 12, ground := Go.Ground.data }, { on := 7, ground := Go.Ground.guard }], guard := some (7, false) }
abbrev o5_14 : Oper := { dst := some 51, op := Go.Op.fieldAddr 44 (Go.Operand.tmp 50) 0, type := 0, pos := "l16_meanings.go:62", after := #[{ on := 13, ground := Go.Ground.data }, { on := 7, ground := Go.Ground.guard }], guard := some (7, false) }
abbrev o5_15 : Oper := { dst := some 52, op := Go.Op.load 9 (Go.Operand.tmp 51), type := 9, pos := "l16_meanings.go:62", after := #[{ on := 14, ground := Go.Ground.data }, { on := 7, ground := Go.Ground.guard }], guard := some (7, false) }
abbrev o5_16 : Oper := { dst := some 53, op := Go.Op.call { callee := Go.Callee.value (Go.Operand.func 13), args := #[Go.Operand.tmp 46, Go.Operand.tmp 52], argTypes := #[29, 9] }, type := 3, pos := "l16_meanings.go:62", after := #[{ on := 9, ground := Go.Ground.data }, { on := 15, ground := Go.Ground.data }, { on := 7, ground := Go.Ground.chain }, { on := 7, ground := Go.Ground.guard }], guard := some (7, false) }
abbrev o5_17 : Oper := { dst := some 54, op := Go.Op.move (Go.Operand.tmp 3), type := 3, pos := "l16_meanings.go:62", after := #[{ on := 7, ground := Go.Ground.guard }], guard := some (7, false) }
abbrev o5_18 : Oper := { dst := some 55, op := Go.Op.binOp Go.BinOp.neq 3 (Go.Operand.tmp 53) (Go.Operand.tmp 54) 3, type := 4, pos := "l16_meanings.go:62", after := #[{ on := 16, ground := Go.Ground.data }, { on := 17, ground := Go.Ground.data }, { on := 7, ground := Go.Ground.guard }], guard := some (7, false) }
abbrev o5_19 : Oper := { dst := some 56, op := Go.Op.pick (Go.Operand.tmp 44) (Go.Operand.const (Go.Value.bool true)) (Go.Operand.tmp 55), type := 4, pos := "l16_meanings.go:62", after := #[{ on := 7, ground := Go.Ground.data }, { on := 18, ground := Go.Ground.data }], guard := none }
theorem betw17 (n a b : Int) (w : World) :
    Calls Try.prog 17 #[.int .i64 n, .int .i64 a, .int .i64 b] w fun e w' => e = .returned (.bool (decide (a ≤ n) && decide (n ≤ b))) ∧ w' = w := by
  by_cases h1 : a ≤ n
  · by_cases h2 : n ≤ b
    · go_enter Try.func17, Try.ntmps17
      go_wp2_with fail
      go_ret
      exact ⟨by simp [h1, h2, go_sem], rfl⟩
    · go_enter Try.func17, Try.ntmps17
      go_wp2_with fail
      go_ret
      exact ⟨by simp [h1, h2, go_sem], rfl⟩
  · go_enter Try.func17, Try.ntmps17
    go_wp2_with fail
    go_ret
    exact ⟨by simp [go_sem]; intro; omega, rfl⟩
set_option maxHeartbeats 12800000 in
theorem sSem5 (s : Se) (r1 v1 c1 h1 : Option Addr) (r2 v2 c2 h2 : Nat) (w : World) (h : SLy w s r1 v1 c1 h1 r2 v2 c2 h2) :
    Calls Try.prog 5 #[.agg #[.slice r1 s.rl.length r2, .slice v1 s.vs.length v2, .slice c1 s.cs.length c2, .slice h1 s.hs.length h2]] w fun e w' => e = .returned (.bool (seB s)) ∧ Below w.heap.size w w' := by
  have HBL := (show Hid (Below w.heap.size w (w.alloc (.cells #[.slice r1 s.rl.length r2, .slice v1 s.vs.length v2, .slice c1 s.cs.length c2, .slice h1 s.hs.length h2] 33))) from bel_alloc _ _)
  have HBX := (show Hid (Box (w.alloc (.cells #[.slice r1 s.rl.length r2, .slice v1 s.vs.length v2, .slice c1 s.cs.length c2, .slice h1 s.hs.length h2] 33)) w.heap.size 33 [.slice r1 s.rl.length r2, .slice v1 s.vs.length v2, .slice c1 s.cs.length c2, .slice h1 s.hs.length h2]) from Box.new w 33 _)
  have HSL := (show Hid _ from h)
  have m1 : s.rl.length ≤ maxLen := by obtain ⟨_, _, _, _, _, _, _, _, _, _⟩ := h.r; omega
  have m2 : s.vs.length ≤ maxLen := by obtain ⟨_, _, _, hm⟩ := h.v.form; exact hm
  have m3 : s.cs.length ≤ maxLen := by obtain ⟨_, _, _, hm⟩ := h.c.form; exact hm
  have m4 : s.hs.length ≤ maxLen := by obtain ⟨_, _, _, _, _, _, _, _⟩ := h.h; omega
  unfold maxLen at m1 m2 m3 m4
  clear h
  have HSR := (show Hid (¬ s.rl.length ≤ 20 → seB s = false) from se_r)
  have HSV := (show Hid (¬ s.vs.length ≤ 20 → seB s = false) from se_v)
  have HSC := (show Hid (¬ s.cs.length ≤ 20 → seB s = false) from se_c)
  have HSH := (show Hid (¬ s.hs.length ≤ 12 → seB s = false) from se_h)
  have HR0 := (show Hid (s.rl.all r6B = false → seB s = false) from se_r0)
  have HON := (show Hid (onJ s.rl s.rl.length = false → seB s = false) from se_on)
  have HV0 := (show Hid (s.vs.all vaB = false → seB s = false) from se_v0)
  have HC0 := (show Hid (s.cs.all cxB = false → seB s = false) from se_c0)
  have HH0 := (show Hid (s.hs.all shB = false → seB s = false) from se_h0)
  have HYS := (show Hid (s.rl.length ≤ 20 → s.vs.length ≤ 20 → s.cs.length ≤ 20 → s.hs.length ≤ 12 → s.rl.all r6B = true → onJ s.rl s.rl.length = true → s.vs.all vaB = true → s.cs.all cxB = true → s.hs.all shB = true → seB s = true) from se_yes)
  generalize seB s = R at *
  by_cases z1 : s.rl.length ≤ 20
  case neg =>
    have q1 : (20 : Int) < (s.rl.length : Int) := by omega
    have HF := (show Hid (R = false) from HSR.out z1)
    clear HSL HBX HSR HSV HSC HSH HR0 HON HV0 HC0 HH0 HYS
    go_enter Try.func5, Try.ntmps5
    go_wp2_with fail
    go_ret
    exact ⟨by rw [HF.out]; rfl, HBL.out⟩
  have q1 : ¬ ((20 : Int) < (s.rl.length : Int)) := by omega
  by_cases z2 : s.vs.length ≤ 20
  case neg =>
    have q2 : (20 : Int) < (s.vs.length : Int) := by omega
    have HF := (show Hid (R = false) from HSV.out z2)
    clear HSL HBX HSR HSV HSC HSH HR0 HON HV0 HC0 HH0 HYS
    go_enter Try.func5, Try.ntmps5
    go_wp2_with fail
    go_ret
    exact ⟨by rw [HF.out]; rfl, HBL.out⟩
  have q2 : ¬ ((20 : Int) < (s.vs.length : Int)) := by omega
  by_cases z3 : s.cs.length ≤ 20
  case neg =>
    have q3 : (20 : Int) < (s.cs.length : Int) := by omega
    have HF := (show Hid (R = false) from HSC.out z3)
    clear HSL HBX HSR HSV HSC HSH HR0 HON HV0 HC0 HH0 HYS
    go_enter Try.func5, Try.ntmps5
    go_wp2_with fail
    go_ret
    exact ⟨by rw [HF.out]; rfl, HBL.out⟩
  have q3 : ¬ ((20 : Int) < (s.cs.length : Int)) := by omega
  by_cases z4 : s.hs.length ≤ 12
  case neg =>
    have q4 : (12 : Int) < (s.hs.length : Int) := by omega
    have HF := (show Hid (R = false) from HSH.out z4)
    clear HSL HBX HSR HSV HSC HSH HR0 HON HV0 HC0 HH0 HYS
    go_enter Try.func5, Try.ntmps5
    go_wp2_with fail
    go_ret
    exact ⟨by rw [HF.out]; rfl, HBL.out⟩
  have q4 : ¬ ((12 : Int) < (s.hs.length : Int)) := by omega
  clear HSR HSV HSC HSH
  go_enter Try.func5, Try.ntmps5
  go_wp2_with fail
  go_loopw [3] (fun i wr => ∃ j : Nat, i = .int .i64 j ∧ j ≤ s.rl.length ∧ Hid (Below w.heap.size w wr ∧ Box wr w.heap.size 33 [.slice r1 s.rl.length r2, .slice v1 s.vs.length v2, .slice c1 s.cs.length c2, .slice h1 s.hs.length h2]) ∧ Hid ((∀ i (hi : i < s.rl.length), i < j → r6B s.rl[i] = true) ∧ onJ s.rl j = true)) (fun i _ => s.rl.length - (intOf i).toNat)
  case atStart => exact ⟨0, rfl, Nat.zero_le _, ⟨HBL.out, HBX.out⟩, fun i _ h => absurd h (Nat.not_lt_zero _), rfl⟩
  case round =>
    obtain ⟨j, rfl, hj, HB, HJ⟩ := hrel
    have T0 : wr.cell? ⟨w.heap.size, 0, none⟩ = some (.slice r1 s.rl.length r2) := HB.out.2.cell 0 (by simp)
    by_cases hlt : j < s.rl.length
    · have i1 : (j : Int) < (s.rl.length : Int) := by omega
      have i0 : (0 : Int) ≤ (j : Int) := by omega
      have hbel := HB.out.1
      have hrl := HSL.out.r
      obtain ⟨a, cap, b, off, sv, tv, ev, hc, hm, ha, hx, hcell, hk, hk'⟩ := HSL.out.r
      injection ev with ev1 ev2 ev3
      subst ev1 ev3
      clear ev2
      obtain rfl := ha (by omega)
      obtain ⟨x0, x1, x2, x3, x4, x5, x6, x7, x8⟩ := hcell j hlt
      have hl1 := hk j hlt
      have hl2 := hk' j hlt
      have hxj := hx j hlt
      obtain ⟨a4, l4, p4, e4⟩ := hl1.form
      obtain ⟨a5, l5, p5, e5⟩ := hl2.form
      rw [e4] at x4 hl1
      rw [e5] at x8 hl2
      have HSK := (show Hid (∀ w' : World, Below wr.heap.size wr w' → w'.cell? ⟨w.heap.size, 0, none⟩ = some (.slice (some ⟨b, off, none⟩) s.rl.length r2) ∧ w'.cell? ⟨b, off + j * 9, none⟩ = some (.string s.rl[j].name) ∧ w'.cell? ⟨b, off + j * 9 + 1, none⟩ = some (.string s.rl[j].left.name) ∧ w'.cell? ⟨b, off + j * 9 + 2, none⟩ = some (.string s.rl[j].left.text) ∧ w'.cell? ⟨b, off + j * 9 + 3, none⟩ = some (.bool s.rl[j].left.leaf) ∧ w'.cell? ⟨b, off + j * 9 + 4, none⟩ = some (.slice a4 l4 p4) ∧ w'.cell? ⟨b, off + j * 9 + 5, none⟩ = some (.string s.rl[j].right.name) ∧ w'.cell? ⟨b, off + j * 9 + 6, none⟩ = some (.string s.rl[j].right.text) ∧ w'.cell? ⟨b, off + j * 9 + 7, none⟩ = some (.bool s.rl[j].right.leaf) ∧ w'.cell? ⟨b, off + j * 9 + 8, none⟩ = some (.slice a5 l5 p5)) from fun w' hb => by
        have hbw := bel_trans hbel hb
        have mv : ∀ {b o : Nat} {v : Value}, w.cell? ⟨b, o, none⟩ = some v → w'.cell? ⟨b, o, none⟩ = some v := fun h => (hbw.cell (lt_of_cell h)).trans h
        exact ⟨(HB.out.2.still hb).cell 0 (by simp), mv x0, mv x1, mv x2, mv x3, mv x4, mv x5, mv x6, mv x7, mv x8⟩)
      have hd0 : Below wr.heap.size wr wr.drew := (Below.refl _ _).drew
      have HCL := (show Hid _ from rule12 s.rl[j] a4 a5 l4 p4 l5 p5 wr.drew (hl1.still (bel_trans hbel hd0)) (hl2.still (bel_trans hbel hd0)) hxj)
      have HFD := (show Hid (∀ wq : World, Below wr.heap.size wr wq → Calls Try.prog 13 #[.slice (some ⟨b, off, none⟩) s.rl.length r2, .string s.rl[j].name] wq fun e w' => ∃ i : Int, e = .returned (.int .i64 i) ∧ FdW s.rl s.rl[j].name i ∧ w' = wq) from fun wq hq => find63 s.rl _ _ wq (RLy.still hrl (bel_trans hbel hq)))
      have HFX := (show Hid (r6B s.rl[j] = false → R = false) from fun h => HR0.out (all_no hlt h))
      have HTW := (show Hid (hasS (nms (s.rl.take j)) s.rl[j].name = true → R = false) from fun h => HON.out (onJ_false s.rl s.rl.length (i := j + 1) (by omega) (by rw [onJ_succ hlt, h, Bool.not_true, Bool.and_false])))
      have HNX := (show Hid (r6B s.rl[j] = true → hasS (nms (s.rl.take j)) s.rl[j].name = false → (∀ i (hi : i < s.rl.length), i < j + 1 → r6B s.rl[i] = true) ∧ onJ s.rl (j + 1) = true) from fun h h2 => ⟨fun i hi hij => (by
        by_cases e : i = j
        · subst e; exact h
        · exact HJ.out.1 i hi (by omega)), by rw [onJ_succ hlt, HJ.out.2, h2]; rfl⟩)
      have HAT := (show Hid (∀ i : Int, FdW s.rl s.rl[j].name i → ∃ m : Nat, i = (m : Int) ∧ (hasS (nms (s.rl.take j)) s.rl[j].name = false → m = j) ∧ (hasS (nms (s.rl.take j)) s.rl[j].name = true → m ≠ j)) from fun i h => fdw_at hlt h)
      have hS0 := HSK.out _ hd0
      have HD0 := (show Hid _ from hd0)
      have HT := (show Hid (∀ w' : World, Below wr.heap.size wr w' → Below w.heap.size w w' ∧ Box w' w.heap.size 33 [.slice (some ⟨b, off, none⟩) s.rl.length r2, .slice v1 s.vs.length v2, .slice c1 s.cs.length c2, .slice h1 s.hs.length h2]) from fun w' hb => ⟨bel_trans HB.out.1 hb, HB.out.2.still hb⟩)
      clear hbel e4 e5 HJ HB hl1 hl2 x0 x1 x2 x3 x4 x5 x6 x7 x8 hx hcell hk hk' ha hd0 hrl hxj
      generalize hasS (nms (s.rl.take j)) s.rl[j].name = twc at *
      generalize r6B s.rl[j] = r at *
      generalize s.rl[j].name = y0 at *
      generalize s.rl[j].left.name = y1 at *
      generalize s.rl[j].left.text = y2 at *
      generalize s.rl[j].left.leaf = y3 at *
      generalize s.rl[j].right.name = y5 at *
      generalize s.rl[j].right.text = y6 at *
      generalize s.rl[j].right.leaf = y7 at *
      cases r
      case false =>
        have HF := (show Hid _ from HFX.out rfl)
        clear HNX HFX HTW HAT HFD
        go_wp2_with fail
        refine wp_region_held_drew (S := (fun wq => wq.cell? ⟨w.heap.size, 0, none⟩ = some (.slice (some ⟨b, off, none⟩) s.rl.length r2) ∧ wq.cell? ⟨b, off + j * 9, none⟩ = some (.string y0) ∧ wq.cell? ⟨b, off + j * 9 + 1, none⟩ = some (.string y1) ∧ wq.cell? ⟨b, off + j * 9 + 2, none⟩ = some (.string y2) ∧ wq.cell? ⟨b, off + j * 9 + 3, none⟩ = some (.bool y3) ∧ wq.cell? ⟨b, off + j * 9 + 4, none⟩ = some (.slice a4 l4 p4) ∧ wq.cell? ⟨b, off + j * 9 + 5, none⟩ = some (.string y5) ∧ wq.cell? ⟨b, off + j * 9 + 6, none⟩ = some (.string y6) ∧ wq.cell? ⟨b, off + j * 9 + 7, none⟩ = some (.bool y7) ∧ wq.cell? ⟨b, off + j * 9 + 8, none⟩ = some (.slice a5 l5 p5))) (by kernel_rfl) hS0 (fun hHeld => ?_)
        refine wpAnyH_take (i := 0) (oi := o5_0) (v := ?v1) rfl (by kernel_rfl) (by kernel_rfl) (by kernel_rfl) (fun _ _ _ h => h) (Or.inl ⟨by rfl, ?h1⟩) hHeld ?r1
        case h1 => (intro w hSw; (try dsimp only at hSw); go_simp; try with_reducible rfl)
        try simp only [Act.put, List.setIfInBounds_toArray, List.set_cons_zero, List.set_cons_succ]
        refine wpAnyH_take (i := 1) (oi := o5_1) (v := ?v2) rfl (by kernel_rfl) (by kernel_rfl) (by kernel_rfl) (fun _ _ _ h => h) (Or.inl ⟨by rfl, ?h2⟩) hHeld ?r2
        case h2 => (intro w hSw; (try dsimp only at hSw); go_simp; try with_reducible rfl)
        try simp only [Act.put, List.setIfInBounds_toArray, List.set_cons_zero, List.set_cons_succ]
        refine wpAnyH_take (i := 2) (oi := o5_2) (v := ?v3) rfl (by kernel_rfl) (by kernel_rfl) (by kernel_rfl) (fun _ _ _ h => h) (Or.inl ⟨by rfl, ?h3⟩) hHeld ?r3
        case h3 => (intro w hSw; (try dsimp only at hSw); go_simp; try with_reducible rfl)
        try simp only [Act.put, List.setIfInBounds_toArray, List.set_cons_zero, List.set_cons_succ]
        refine wpAnyH_take (i := 3) (oi := o5_3) (v := ?v4) rfl (by kernel_rfl) (by kernel_rfl) (by kernel_rfl) (fun _ _ _ h => h) (Or.inl ⟨by rfl, ?h4⟩) hHeld ?r4
        case h4 => (intro w hSw; (try dsimp only at hSw); go_simp; try with_reducible rfl)
        try simp only [Act.put, List.setIfInBounds_toArray, List.set_cons_zero, List.set_cons_succ]
        refine wpAnyH_take (i := 4) (oi := o5_4) (v := ?v5) rfl (by kernel_rfl) (by kernel_rfl) (by kernel_rfl) (fun _ _ _ h => h) (Or.inl ⟨by rfl, ?h5⟩) hHeld ?r5
        case h5 => (intro w hSw; (try dsimp only at hSw); go_simp; try with_reducible rfl)
        try simp only [Act.put, List.setIfInBounds_toArray, List.set_cons_zero, List.set_cons_succ]
        refine wpAnyH_ready (rs := [5]) (by kernel_rfl) (by simp) ?_
        refine AllReadyH.cons (o := o5_5) rfl (fun K hK => ?_) AllReadyH.nil
        go_simp
        refine Calls.mono HCL.out ?_
        rintro e w3 ⟨rfl, hb3⟩
        dsimp only
        have hS1 := HSK.out w3 (bel_trans HD0.out hb3)
        clear hHeld
        refine hK.out _ _ hS1 (fun hHeld => ?_)
        clear hK K
        try simp only [Act.put, List.setIfInBounds_toArray, List.set_cons_zero, List.set_cons_succ]
        refine wpAnyH_take (i := 6) (oi := o5_6) (v := ?v6) rfl (by kernel_rfl) (by kernel_rfl) (by kernel_rfl) (fun _ _ _ h => h) (Or.inl ⟨by rfl, ?h6⟩) hHeld ?r6
        case h6 => (intro w hSw; (try dsimp only at hSw); go_simp; try with_reducible rfl)
        try simp only [Act.put, List.setIfInBounds_toArray, List.set_cons_zero, List.set_cons_succ]
        refine wpAnyH_take (i := 7) (oi := o5_7) (v := ?v7) rfl (by kernel_rfl) (by kernel_rfl) (by kernel_rfl) (fun _ _ _ h => h) (Or.inl ⟨by rfl, ?h7⟩) hHeld ?r7
        case h7 => (intro w hSw; (try dsimp only at hSw); go_simp; try with_reducible rfl)
        try simp only [Act.put, List.setIfInBounds_toArray, List.set_cons_zero, List.set_cons_succ]
        refine wpAnyH_take (i := 8) (oi := o5_8) (v := undef) rfl (by kernel_rfl) (by kernel_rfl) (by kernel_rfl) (fun _ _ _ h => h) (Or.inr ⟨by rfl, rfl⟩) hHeld ?_
        try simp only [Act.put, List.setIfInBounds_toArray, List.set_cons_zero, List.set_cons_succ]
        refine wpAnyH_take (i := 9) (oi := o5_9) (v := undef) rfl (by kernel_rfl) (by kernel_rfl) (by kernel_rfl) (fun _ _ _ h => h) (Or.inr ⟨by rfl, rfl⟩) hHeld ?_
        try simp only [Act.put, List.setIfInBounds_toArray, List.set_cons_zero, List.set_cons_succ]
        refine wpAnyH_take (i := 10) (oi := o5_10) (v := undef) rfl (by kernel_rfl) (by kernel_rfl) (by kernel_rfl) (fun _ _ _ h => h) (Or.inr ⟨by rfl, rfl⟩) hHeld ?_
        try simp only [Act.put, List.setIfInBounds_toArray, List.set_cons_zero, List.set_cons_succ]
        refine wpAnyH_take (i := 11) (oi := o5_11) (v := undef) rfl (by kernel_rfl) (by kernel_rfl) (by kernel_rfl) (fun _ _ _ h => h) (Or.inr ⟨by rfl, rfl⟩) hHeld ?_
        try simp only [Act.put, List.setIfInBounds_toArray, List.set_cons_zero, List.set_cons_succ]
        refine wpAnyH_take (i := 12) (oi := o5_12) (v := undef) rfl (by kernel_rfl) (by kernel_rfl) (by kernel_rfl) (fun _ _ _ h => h) (Or.inr ⟨by rfl, rfl⟩) hHeld ?_
        try simp only [Act.put, List.setIfInBounds_toArray, List.set_cons_zero, List.set_cons_succ]
        refine wpAnyH_take (i := 13) (oi := o5_13) (v := undef) rfl (by kernel_rfl) (by kernel_rfl) (by kernel_rfl) (fun _ _ _ h => h) (Or.inr ⟨by rfl, rfl⟩) hHeld ?_
        try simp only [Act.put, List.setIfInBounds_toArray, List.set_cons_zero, List.set_cons_succ]
        refine wpAnyH_take (i := 14) (oi := o5_14) (v := undef) rfl (by kernel_rfl) (by kernel_rfl) (by kernel_rfl) (fun _ _ _ h => h) (Or.inr ⟨by rfl, rfl⟩) hHeld ?_
        try simp only [Act.put, List.setIfInBounds_toArray, List.set_cons_zero, List.set_cons_succ]
        refine wpAnyH_take (i := 15) (oi := o5_15) (v := undef) rfl (by kernel_rfl) (by kernel_rfl) (by kernel_rfl) (fun _ _ _ h => h) (Or.inr ⟨by rfl, rfl⟩) hHeld ?_
        try simp only [Act.put, List.setIfInBounds_toArray, List.set_cons_zero, List.set_cons_succ]
        refine wpAnyH_take (i := 16) (oi := o5_16) (v := undef) rfl (by kernel_rfl) (by kernel_rfl) (by kernel_rfl) (fun _ _ _ h => h) (Or.inr ⟨by rfl, rfl⟩) hHeld ?_
        try simp only [Act.put, List.setIfInBounds_toArray, List.set_cons_zero, List.set_cons_succ]
        refine wpAnyH_take (i := 17) (oi := o5_17) (v := undef) rfl (by kernel_rfl) (by kernel_rfl) (by kernel_rfl) (fun _ _ _ h => h) (Or.inr ⟨by rfl, rfl⟩) hHeld ?_
        try simp only [Act.put, List.setIfInBounds_toArray, List.set_cons_zero, List.set_cons_succ]
        refine wpAnyH_take (i := 18) (oi := o5_18) (v := undef) rfl (by kernel_rfl) (by kernel_rfl) (by kernel_rfl) (fun _ _ _ h => h) (Or.inr ⟨by rfl, rfl⟩) hHeld ?_
        try simp only [Act.put, List.setIfInBounds_toArray, List.set_cons_zero, List.set_cons_succ]
        refine wpAnyH_take (i := 19) (oi := o5_19) (v := ?v8) rfl (by kernel_rfl) (by kernel_rfl) (by kernel_rfl) (fun _ _ _ h => h) (Or.inl ⟨by rfl, ?h8⟩) hHeld ?r8
        case h8 => (intro w hSw; (try dsimp only at hSw); go_simp; try with_reducible rfl)
        try simp only [Act.put, List.setIfInBounds_toArray, List.set_cons_zero, List.set_cons_succ]
        refine wpAnyH_done (by kernel_rfl) ?_ _
        (try refine NoPanic.normal ?_)
        have HE := (show Hid _ from HT.out w3 (bel_trans HD0.out hb3))
        clear hS0 hS1 hb3 hHeld
        go_wp2_with fail
        go_ret
        exact ⟨by rw [HF.out]; rfl, HE.out.1⟩
      cases twc
      case true =>
        have HF := (show Hid _ from HTW.out rfl)
        clear HNX HFX HTW
        go_wp2_with fail
        go_region_held3 (fun wq => wq.cell? ⟨w.heap.size, 0, none⟩ = some (.slice (some ⟨b, off, none⟩) s.rl.length r2) ∧ wq.cell? ⟨b, off + j * 9, none⟩ = some (.string y0) ∧ wq.cell? ⟨b, off + j * 9 + 1, none⟩ = some (.string y1) ∧ wq.cell? ⟨b, off + j * 9 + 2, none⟩ = some (.string y2) ∧ wq.cell? ⟨b, off + j * 9 + 3, none⟩ = some (.bool y3) ∧ wq.cell? ⟨b, off + j * 9 + 4, none⟩ = some (.slice a4 l4 p4) ∧ wq.cell? ⟨b, off + j * 9 + 5, none⟩ = some (.string y5) ∧ wq.cell? ⟨b, off + j * 9 + 6, none⟩ = some (.string y6) ∧ wq.cell? ⟨b, off + j * 9 + 7, none⟩ = some (.bool y7) ∧ wq.cell? ⟨b, off + j * 9 + 8, none⟩ = some (.slice a5 l5 p5)) (first | with_reducible exact hS0 | with_reducible exact hS1) ((first | (go_at_call 12; refine Calls.mono HCL.out ?_; rintro e w3 ⟨rfl, hb3⟩; have hS1 := HSK.out w3 (bel_trans HD0.out hb3)) | (go_at_call 13; refine Calls.mono (HFD.out _ (bel_trans HD0.out hb3)) ?_; rintro e w4 ⟨i2, rfl, hf2, rfl⟩; obtain ⟨m, rfl, hm1, hm2⟩ := HAT.out _ hf2; have hne := hm2 (by first | rfl | trivial); have hd : ((m : Int) != (j : Int)) = true := (by simp; omega); have hd2 : ((m : Int) == (j : Int)) = false := (by simp; omega); clear hm1 hm2 hf2)))
        have HE := (show Hid _ from HT.out _ (bel_trans HD0.out hb3))
        clear hS0 hS1 hb3
        go_wp2_with fail
        go_ret
        exact ⟨by rw [HF.out]; rfl, HE.out.1⟩
      have HG := (show Hid _ from HNX.out rfl rfl)
      clear HNX HFX HTW
      go_wp2_with fail
      go_region_held3 (fun wq => wq.cell? ⟨w.heap.size, 0, none⟩ = some (.slice (some ⟨b, off, none⟩) s.rl.length r2) ∧ wq.cell? ⟨b, off + j * 9, none⟩ = some (.string y0) ∧ wq.cell? ⟨b, off + j * 9 + 1, none⟩ = some (.string y1) ∧ wq.cell? ⟨b, off + j * 9 + 2, none⟩ = some (.string y2) ∧ wq.cell? ⟨b, off + j * 9 + 3, none⟩ = some (.bool y3) ∧ wq.cell? ⟨b, off + j * 9 + 4, none⟩ = some (.slice a4 l4 p4) ∧ wq.cell? ⟨b, off + j * 9 + 5, none⟩ = some (.string y5) ∧ wq.cell? ⟨b, off + j * 9 + 6, none⟩ = some (.string y6) ∧ wq.cell? ⟨b, off + j * 9 + 7, none⟩ = some (.bool y7) ∧ wq.cell? ⟨b, off + j * 9 + 8, none⟩ = some (.slice a5 l5 p5)) (first | with_reducible exact hS0 | with_reducible exact hS1) ((first | (go_at_call 12; refine Calls.mono HCL.out ?_; rintro e w3 ⟨rfl, hb3⟩; have hS1 := HSK.out w3 (bel_trans HD0.out hb3)) | (go_at_call 13; refine Calls.mono (HFD.out _ (bel_trans HD0.out hb3)) ?_; rintro e w4 ⟨i2, rfl, hf2, rfl⟩; obtain ⟨m, rfl, hm1, hm2⟩ := HAT.out _ hf2; have hne := hm1 (by first | rfl | trivial); have hd : ((m : Int) != (j : Int)) = false := (by simp; omega); clear hm1 hm2 hf2)))
      have HE := (show Hid _ from HT.out _ (bel_trans HD0.out hb3))
      clear hS0 hS1 hb3
      go_wp2_with fail
      exact ⟨⟨j + 1, by go_num, by omega, HE, HG⟩, by simp [intOf]; omega⟩
    have i1 : ¬ ((j : Int) < (s.rl.length : Int)) := by omega
    have G1 := (show Hid (s.rl.all r6B = true ∧ onJ s.rl s.rl.length = true) from ⟨all_yes (fun i hi => HJ.out.1 i hi (by omega)), by
      have := HJ.out.2
      rwa [show j = s.rl.length by omega] at this⟩)
    clear HJ HR0 HON
    rename World => wo
    go_wp2_with fail
    go_loopw [4] (fun i wr => ∃ j : Nat, i = .int .i64 j ∧ j ≤ s.vs.length ∧ Hid (Below w.heap.size w wr ∧ Box wr w.heap.size 33 [.slice r1 s.rl.length r2, .slice v1 s.vs.length v2, .slice c1 s.cs.length c2, .slice h1 s.hs.length h2]) ∧ Hid (∀ i (hi : i < s.vs.length), i < j → vaB s.vs[i] = true)) (fun i _ => s.vs.length - (intOf i).toNat)
    case atStart => exact ⟨0, rfl, Nat.zero_le _, HB, fun i _ h => absurd h (Nat.not_lt_zero _)⟩
    case round =>
      obtain ⟨k, rfl, hk, HB2, HJ⟩ := hrel
      have T1 : wr.cell? ⟨w.heap.size, 1, none⟩ = some (.slice v1 s.vs.length v2) := HB2.out.2.cell 1 (by simp)
      clear HB T0
      by_cases hlt2 : k < s.vs.length
      · have k1 : (k : Int) < (s.vs.length : Int) := by omega
        have k0 : (0 : Int) ≤ (k : Int) := by omega
        have hbel := HB2.out.1
        obtain ⟨a, cap, b, off, sv, ev, hc, hm, ha, hcell, hr⟩ := HSL.out.v
        injection ev with ev1 ev2 ev3
        subst ev1 ev3
        clear ev2
        obtain ⟨rfl, _⟩ := ha (by omega)
        obtain ⟨c0, c1', c2', c3⟩ := hcell k hlt2
        have hl := hr k hlt2
        obtain ⟨a4, l4, p4, e4⟩ := hl.form
        rw [e4] at c3 hl
        have HCL := (show Hid _ from pat14 s.vs[k] 0 (.slice a4 l4 p4) wr (hl.still hbel) (by omega))
        have HVR := (show Hid (∀ wq, Calls Try.prog 15 #[s.vs[k].val (.slice a4 l4 p4)] wq fun e w' => e = .returned (.bool (v6B s.vs[k].name s.vs[k].leaf)) ∧ Below wq.heap.size wq w') from fun wq => var15 s.vs[k] _ wq rfl)
        have hmv : ∀ w', Below wr.heap.size wr w' → (w'.cell? ⟨b, off + k * 4, none⟩ = some (.string s.vs[k].name) ∧ w'.cell? ⟨b, off + k * 4 + 1, none⟩ = some (.string s.vs[k].text) ∧ w'.cell? ⟨b, off + k * 4 + 2, none⟩ = some (.bool s.vs[k].leaf) ∧ w'.cell? ⟨b, off + k * 4 + 3, none⟩ = some (.slice a4 l4 p4)) ∧ w'.cell? ⟨w.heap.size, 1, none⟩ = some (.slice (some ⟨b, off, none⟩) s.vs.length v2) := fun w' hb => by
          have hbw := bel_trans hbel hb
          have mv : ∀ {b o : Nat} {v : Value}, w.cell? ⟨b, o, none⟩ = some v → w'.cell? ⟨b, o, none⟩ = some v := fun h => (hbw.cell (lt_of_cell h)).trans h
          exact ⟨⟨mv c0, mv c1', mv c2', mv c3⟩, (HB2.out.2.still hb).cell 1 (by simp)⟩
        have HMV := (show Hid _ from hmv)
        obtain ⟨⟨d0, d1, d2, d3⟩, _⟩ := hmv wr (Below.refl _ _)
        have HT := (show Hid (∀ w' : World, Below wr.heap.size wr w' → Below w.heap.size w w' ∧ Box w' w.heap.size 33 [.slice r1 s.rl.length r2, .slice (some ⟨b, off, none⟩) s.vs.length v2, .slice c1 s.cs.length c2, .slice h1 s.hs.length h2]) from fun w' hb => ⟨bel_trans HB2.out.1 hb, HB2.out.2.still hb⟩)
        have HVA := (show Hid (vaB s.vs[k] = (p6B s.vs[k] 0 && !(v6B s.vs[k].name s.vs[k].leaf))) from rfl)
        have HFX := (show Hid (vaB s.vs[k] = false → R = false) from fun h => HV0.out (all_no hlt2 h))
        have HNX := (show Hid (vaB s.vs[k] = true → ∀ i (hi : i < s.vs.length), i < k + 1 → vaB s.vs[i] = true) from fun h i hi hij => by
          by_cases e : i = k
          · subst e; exact h
          · exact HJ.out i hi (by omega))
        simp only [Tr.val] at HCL HVR
        clear hbel e4 HJ HB2 hl c0 c1' c2' c3 hcell hr ha hmv
        generalize vaB s.vs[k] = VB at *
        generalize p6B s.vs[k] 0 = P at *
        generalize v6B s.vs[k].name s.vs[k].leaf = V at *
        generalize s.vs[k].name = y0 at *
        generalize s.vs[k].text = y1 at *
        generalize s.vs[k].leaf = y2 at *
        go_wp2_with fail
        refine Calls.mono HCL.out ?_
        rintro e w3 ⟨rfl, hb3⟩
        obtain ⟨⟨g0, g1, g2, g3⟩, T1'⟩ := HMV.out w3 hb3
        have HB3 := (show Hid _ from hb3)
        clear d0 d1 d2 d3 T1 hb3 HCL
        cases P
        case false =>
          have HF := (show Hid (R = false) from HFX.out HVA.out)
          have HE := (show Hid _ from HT.out w3 HB3.out)
          clear HNX HFX HVA HVR
          go_wp2_with fail
          go_ret
          exact ⟨by rw [HF.out]; rfl, HE.out.1⟩
        go_wp2_with fail
        refine Calls.mono (HVR.out _) ?_
        rintro e w4 ⟨rfl, hb4⟩
        have HE := (show Hid _ from HT.out w4 (bel_trans HB3.out hb4))
        clear hb4 g0 g1 g2 g3 T1' HVR
        cases V
        case true =>
          have HF := (show Hid (R = false) from HFX.out HVA.out)
          clear HNX HFX HVA
          go_wp2_with fail
          go_ret
          exact ⟨by rw [HF.out]; rfl, HE.out.1⟩
        have HG := (show Hid _ from HNX.out HVA.out)
        clear HNX HFX HVA
        go_wp2_with fail
        exact ⟨⟨k + 1, by go_num, by omega, HE, HG⟩, by simp [intOf]; omega⟩
      have k1 : ¬ ((k : Int) < (s.vs.length : Int)) := by omega
      have G2 := (show Hid (s.vs.all vaB = true) from all_yes (fun i hi => HJ.out i hi (by omega)))
      clear HJ HV0
      rename World => wp
      go_wp2_with fail
      go_loopw [5] (fun i wr => ∃ j : Nat, i = .int .i64 j ∧ j ≤ s.cs.length ∧ Hid (Below w.heap.size w wr ∧ Box wr w.heap.size 33 [.slice r1 s.rl.length r2, .slice v1 s.vs.length v2, .slice c1 s.cs.length c2, .slice h1 s.hs.length h2]) ∧ Hid (∀ i (hi : i < s.cs.length), i < j → cxB s.cs[i] = true)) (fun i _ => s.cs.length - (intOf i).toNat)
      case atStart => exact ⟨0, rfl, Nat.zero_le _, HB2, fun i _ h => absurd h (Nat.not_lt_zero _)⟩
      case round =>
        obtain ⟨l, rfl, hl0, HB3, HJ⟩ := hrel
        have T2 : wr.cell? ⟨w.heap.size, 2, none⟩ = some (.slice c1 s.cs.length c2) := HB3.out.2.cell 2 (by simp)
        clear HB2 T1
        by_cases hlt3 : l < s.cs.length
        · have k2 : (l : Int) < (s.cs.length : Int) := by omega
          have k0 : (0 : Int) ≤ (l : Int) := by omega
          have hbel := HB3.out.1
          obtain ⟨a, cap, b, off, sv, ev, hc, hm, ha, hcell, hr⟩ := HSL.out.c
          injection ev with ev1 ev2 ev3
          subst ev1 ev3
          clear ev2
          obtain ⟨rfl, _⟩ := ha (by omega)
          obtain ⟨c0, c1', c2', c3⟩ := hcell l hlt3
          have hl := hr l hlt3
          obtain ⟨a4, l4, p4, e4⟩ := hl.form
          rw [e4] at c3 hl
          have HCL := (show Hid _ from pat14 s.cs[l] 1 (.slice a4 l4 p4) wr (hl.still hbel) (by omega))
          have hmv : ∀ w', Below wr.heap.size wr w' → (w'.cell? ⟨b, off + l * 4, none⟩ = some (.string s.cs[l].name) ∧ w'.cell? ⟨b, off + l * 4 + 1, none⟩ = some (.string s.cs[l].text) ∧ w'.cell? ⟨b, off + l * 4 + 2, none⟩ = some (.bool s.cs[l].leaf) ∧ w'.cell? ⟨b, off + l * 4 + 3, none⟩ = some (.slice a4 l4 p4)) ∧ w'.cell? ⟨w.heap.size, 2, none⟩ = some (.slice (some ⟨b, off, none⟩) s.cs.length c2) := fun w' hb => by
            have hbw := bel_trans hbel hb
            have mv : ∀ {b o : Nat} {v : Value}, w.cell? ⟨b, o, none⟩ = some v → w'.cell? ⟨b, o, none⟩ = some v := fun h => (hbw.cell (lt_of_cell h)).trans h
            exact ⟨⟨mv c0, mv c1', mv c2', mv c3⟩, (HB3.out.2.still hb).cell 2 (by simp)⟩
          have HMV := (show Hid _ from hmv)
          obtain ⟨⟨d0, d1, d2, d3⟩, _⟩ := hmv wr (Below.refl _ _)
          have HT := (show Hid (∀ w' : World, Below wr.heap.size wr w' → Below w.heap.size w w' ∧ Box w' w.heap.size 33 [.slice r1 s.rl.length r2, .slice v1 s.vs.length v2, .slice (some ⟨b, off, none⟩) s.cs.length c2, .slice h1 s.hs.length h2]) from fun w' hb => ⟨bel_trans HB3.out.1 hb, HB3.out.2.still hb⟩)
          have HVA := (show Hid (cxB s.cs[l] = (p6B s.cs[l] 1 && !s.cs[l].leaf)) from rfl)
          have HFX := (show Hid (cxB s.cs[l] = false → R = false) from fun h => HC0.out (all_no hlt3 h))
          have HNX := (show Hid (cxB s.cs[l] = true → ∀ i (hi : i < s.cs.length), i < l + 1 → cxB s.cs[i] = true) from fun h i hi hij => by
            by_cases e : i = l
            · subst e; exact h
            · exact HJ.out i hi (by omega))
          simp only [Tr.val] at HCL
          clear hbel e4 HJ HB3 hl c0 c1' c2' c3 hcell hr ha hmv
          generalize cxB s.cs[l] = VB at *
          generalize p6B s.cs[l] 1 = P at *
          generalize s.cs[l].name = y0 at *
          generalize s.cs[l].text = y1 at *
          generalize s.cs[l].leaf = y2 at *
          go_wp2_with fail
          refine Calls.mono HCL.out ?_
          rintro e w3 ⟨rfl, hb3⟩
          obtain ⟨⟨g0, g1, g2, g3⟩, T1'⟩ := HMV.out w3 hb3
          have HE := (show Hid _ from HT.out w3 hb3)
          clear d0 d1 d2 d3 T2 hb3 HCL
          cases P
          case false =>
            have HF := (show Hid (R = false) from HFX.out HVA.out)
            clear HNX HFX HVA
            go_wp2_with fail
            go_ret
            exact ⟨by rw [HF.out]; rfl, HE.out.1⟩
          cases y2
          case true =>
            have HF := (show Hid (R = false) from HFX.out HVA.out)
            clear HNX HFX HVA
            go_wp2_with fail
            go_ret
            exact ⟨by rw [HF.out]; rfl, HE.out.1⟩
          have HG := (show Hid _ from HNX.out HVA.out)
          clear HNX HFX HVA
          go_wp2_with fail
          exact ⟨⟨l + 1, by go_num, by omega, HE, HG⟩, by simp [intOf]; omega⟩
        have k2 : ¬ ((l : Int) < (s.cs.length : Int)) := by omega
        have G3 := (show Hid (s.cs.all cxB = true) from all_yes (fun i hi => HJ.out i hi (by omega)))
        clear HJ HC0
        rename World => wq
        go_wp2_with fail
        go_loopw [6] (fun i wr => ∃ j : Nat, i = .int .i64 j ∧ j ≤ s.hs.length ∧ Hid (Below w.heap.size w wr ∧ Box wr w.heap.size 33 [.slice r1 s.rl.length r2, .slice v1 s.vs.length v2, .slice c1 s.cs.length c2, .slice h1 s.hs.length h2]) ∧ Hid (∀ i (hi : i < s.hs.length), i < j → shB s.hs[i] = true)) (fun i _ => s.hs.length - (intOf i).toNat)
        case atStart => exact ⟨0, rfl, Nat.zero_le _, HB3, fun i _ h => absurd h (Nat.not_lt_zero _)⟩
        case round =>
          obtain ⟨t, rfl, ht0, HB4, HJ⟩ := hrel
          have T3 : wr.cell? ⟨w.heap.size, 3, none⟩ = some (.slice h1 s.hs.length h2) := HB4.out.2.cell 3 (by simp)
          clear HB3 T2
          by_cases hlt4 : t < s.hs.length
          · have k3 : (t : Int) < (s.hs.length : Int) := by omega
            have k0 : (0 : Int) ≤ (t : Int) := by omega
            have hbel := HB4.out.1
            obtain ⟨a, cap, b, off, ev, hc, hm, ha, hx, hcell⟩ := HSL.out.h
            injection ev with ev1 ev2 ev3
            subst ev1 ev3
            clear ev2
            obtain rfl := ha (by omega)
            obtain ⟨c0, c1', c2', c3⟩ := hcell t hlt4
            rw [← hbel.cell (lt_of_cell c0)] at c0
            rw [← hbel.cell (lt_of_cell c1')] at c1'
            rw [← hbel.cell (lt_of_cell c2')] at c2'
            rw [← hbel.cell (lt_of_cell c3)] at c3
            have HN := (show Hid (∀ wq : World, Calls Try.prog 16 #[.string s.hs[t].name] wq fun e w' => e = .returned (.bool (nmB s.hs[t].name)) ∧ w' = wq) from fun wq => sName _ (hx t hlt4).1 wq)
            have hxt := (hx t hlt4).2
            unfold maxLen at hxt
            have HSB := (show Hid (shB s.hs[t] = (nmB s.hs[t].name && (if s.hs[t].leaf = true then decide (s.hs[t].kids = 0) && decide (s.hs[t].text.size ≤ 200) else emB s.hs[t].text && (decide (0 ≤ s.hs[t].kids) && decide (s.hs[t].kids ≤ 3))))) from rfl)
            have HFX := (show Hid (shB s.hs[t] = false → R = false) from fun h => HH0.out (all_no hlt4 h))
            have HNX := (show Hid (shB s.hs[t] = true → ∀ i (hi : i < s.hs.length), i < t + 1 → shB s.hs[i] = true) from fun h i hi hij => by
              by_cases e : i = t
              · subst e; exact h
              · exact HJ.out i hi (by omega))
            have HBT := (show Hid (∀ (n a b : Int) (wq : World), Calls Try.prog 17 #[.int .i64 n, .int .i64 a, .int .i64 b] wq fun e w' => e = .returned (.bool (decide (a ≤ n) && decide (n ≤ b))) ∧ w' = wq) from betw17)
            clear hbel HJ hx hcell ha
            generalize hshb : shB s.hs[t] = SB at *
            clear hshb
            generalize nmB s.hs[t].name = NB at *
            generalize s.hs[t].name = y0 at *
            generalize s.hs[t].text = y1 at *
            generalize s.hs[t].leaf = y2 at *
            generalize s.hs[t].kids = y3 at *
            have HE := (show Hid (Below w.heap.size w (wr.alloc (.cells #[.string y0, .string y1, .bool y2, .int .i64 y3] 49)) ∧ Box (wr.alloc (.cells #[.string y0, .string y1, .bool y2, .int .i64 y3] 49)) w.heap.size 33 [.slice r1 s.rl.length r2, .slice v1 s.vs.length v2, .slice c1 s.cs.length c2, .slice (some ⟨b, off, none⟩) s.hs.length h2]) from ⟨bel_trans HB4.out.1 (bel_alloc _ _), HB4.out.2.still (bel_alloc _ _)⟩)
            clear HB4
            cases NB
            case false =>
              have HF := (show Hid (R = false) from HFX.out HSB.out)
              clear HNX HFX HSB
              go_wp2_with fail
              refine Calls.mono (HN.out _) ?_
              rintro e wz ⟨rfl, rfl⟩
              go_wp2_with fail
              go_ret
              exact ⟨by rw [HF.out]; rfl, HE.out.1⟩
            by_cases u1 : y1.size ≤ 200
            case neg =>
              have u1' : (200 : Int) < (y1.size : Int) := by omega
              have HF := (show Hid (R = false) from HFX.out (by
                rw [HSB.out, decide_eq_false u1]
                unfold emB
                have u0 : ¬ (y1.size = 0) := by omega
                rw [decide_eq_false u0]
                cases y2 <;> simp))
              clear HNX HFX HSB
              go_wp2_with fail
              refine Calls.mono (HN.out _) ?_
              rintro e wz ⟨rfl, rfl⟩
              go_wp2_with fail
              go_ret
              exact ⟨by rw [HF.out]; rfl, HE.out.1⟩
            have u1' : ¬ ((200 : Int) < (y1.size : Int)) := by omega
            cases y2
            case true =>
              by_cases u2 : y3 = 0
              case neg =>
                have u2' : (y3 != 0) = true := by simp [u2]
                have u2'' : (y3 == 0) = false := by simp [u2]
                have HF := (show Hid (R = false) from HFX.out (by rw [HSB.out, decide_eq_false u2]; simp))
                clear HNX HFX HSB
                go_wp2_with fail
                refine Calls.mono (HN.out _) ?_
                rintro e wz ⟨rfl, rfl⟩
                go_wp2_with fail
                go_ret
                exact ⟨by rw [HF.out]; rfl, HE.out.1⟩
              subst u2
              have HG := (show Hid _ from HNX.out (by rw [HSB.out, decide_eq_true u1]; simp))
              have HBZ := (show Hid _ from fun wq => HBT.out 0 0 3 wq)
              clear HNX HFX HSB
              go_wp2_with fail
              refine Calls.mono (HN.out _) ?_
              rintro e wz ⟨rfl, rfl⟩
              go_wp2_with fail
              refine Calls.mono (HBZ.out _) ?_
              rintro e wz ⟨rfl, rfl⟩
              go_wp2_with fail
              exact ⟨⟨t + 1, by go_num, by omega, HE, HG⟩, by simp [intOf]; omega⟩
            cases u3 : y1.toList.isEmpty
            · have HF := (show Hid (R = false) from HFX.out (by
                rw [HSB.out]
                unfold emB
                rw [← isEmpty_iff, u3]
                simp))
              clear HNX HFX HSB
              go_wp2_with fail
              refine Calls.mono (HN.out _) ?_
              rintro e wz ⟨rfl, rfl⟩
              go_wp2_with fail
              go_ret
              exact ⟨by rw [HF.out]; rfl, HE.out.1⟩
            have HSD := (show Hid (SB = (decide (0 ≤ y3) && decide (y3 ≤ 3))) from by
              show SB = _
              rw [HSB.out]
              unfold emB
              rw [← isEmpty_iff, u3]
              simp)
            have HBZ := (show Hid _ from fun wq => HBT.out y3 0 3 wq)
            clear HSB
            generalize (decide (0 ≤ y3) && decide (y3 ≤ 3)) = BT at *
            cases BT
            case false =>
              have HF := (show Hid (R = false) from HFX.out HSD.out)
              clear HNX HFX HSD
              go_wp2_with fail
              refine Calls.mono (HN.out _) ?_
              rintro e wz ⟨rfl, rfl⟩
              go_wp2_with fail
              refine Calls.mono (HBZ.out _) ?_
              rintro e wz ⟨rfl, rfl⟩
              go_wp2_with fail
              go_ret
              exact ⟨by rw [HF.out]; rfl, HE.out.1⟩
            have HG := (show Hid _ from HNX.out HSD.out)
            clear HNX HFX HSD
            go_wp2_with fail
            refine Calls.mono (HN.out _) ?_
            rintro e wz ⟨rfl, rfl⟩
            go_wp2_with fail
            refine Calls.mono (HBZ.out _) ?_
            rintro e wz ⟨rfl, rfl⟩
            go_wp2_with fail
            exact ⟨⟨t + 1, by go_num, by omega, HE, HG⟩, by simp [intOf]; omega⟩
          have k3 : ¬ ((t : Int) < (s.hs.length : Int)) := by omega
          have HF := (show Hid (R = true) from HYS.out z1 z2 z3 z4 G1.out.1 G1.out.2 G2.out G3.out (all_yes (fun i hi => HJ.out i hi (by omega))))
          clear HJ HH0 HYS
          go_wp2_with fail
          go_ret
          exact ⟨by rw [HF.out]; rfl, HB4.out.1⟩
end Go.Proofs.Ytboffildchoelaa
