import Derived.Test.YtokncahlcphhnaaLd
import Derived.Maps.AppendAt
import Derived.Deep.AppendLies
/-! Layouts that are right: all nodes, and the groups, by the program. -/
namespace Go.Proofs.Ytokncahlcphhnaa
open Go.RowKit Go.Deep
set_option linter.unusedVariables false
set_option maxRecDepth 100000
set_option linter.unusedSimpArgs false

set_option maxHeartbeats 1600000 in
theorem all23 {S : Nat → Prop} (l : List DLNode) (v : Value) (w : World) (h : LNodeR w S l v) :
    Calls Try.prog 23 #[v, .func (.func 24) #[] #[]] w fun e w' => e = .returned (.bool (l.all ndB)) ∧ Below w.heap.size w w' := by
  obtain ⟨a, cap, b, off, s3, rfl, hc, hm, ha, hcell, r3⟩ := h
  have HC := (show Hid _ from hcell); clear hcell
  have HA := (show Hid _ from ha); clear ha
  have HR3 := (show Hid _ from r3); clear r3
  unfold maxLen at hm
  generalize hRes : l.all ndB = R
  have HRes := (show Hid _ from hRes); clear hRes
  go_enter Try.func23, Try.ntmps23
  go_wp2_with fail
  go_loopw [9] (fun i wr => ∃ j : Nat, i = .int .i64 j ∧ j ≤ l.length ∧ Hid (∀ i (hi : i < l.length), i < j → ndB l[i] = true) ∧ Below w.heap.size w wr) (fun i _ => l.length - (intOf i).toNat)
  case atStart => exact ⟨0, rfl, Nat.zero_le _, fun i hi h0 => absurd h0 (Nat.not_lt_zero _), Below.refl _ _⟩
  case round =>
    obtain ⟨j, rfl, hj, HJ, hbel⟩ := hrel
    by_cases hjl : j < l.length
    · obtain ⟨rfl, _⟩ := HA.out (by omega)
      obtain ⟨c0, c1, c2, c3, z1⟩ := HC.out j hjl
      rw [← hbel.cell (lt_of_cell c0)] at c0
      rw [← hbel.cell (lt_of_cell c1)] at c1
      rw [← hbel.cell (lt_of_cell c2)] at c2
      rw [← hbel.cell (lt_of_cell c3)] at c3
      obtain ⟨a3, p3, e3, _⟩ := (HR3.out j hjl).form
      have HCL := (show Hid _ from fun (w' : World) => node24 l[j] (s3 j) a3 p3 w' e3 z1)
      rw [e3] at HCL c3
      clear e3 z1
      have HNX := (show Hid (ndB l[j] = true → ∀ i (hi : i < l.length), i < j + 1 → ndB l[i] = true) from fun h i hi hij => by
        by_cases e : i = j
        · subst e; exact h
        · exact HJ.out i hi (by omega))
      have HFX := (show Hid (ndB l[j] = false → R = false) from fun h => by
        rw [← HRes.out, List.all_eq_false]
        exact ⟨l[j], List.getElem_mem hjl, by rw [h]; simp⟩)
      generalize ndB l[j] = B at *
      generalize l[j].kind = y0 at *
      generalize l[j].s = y1 at *
      generalize l[j].n = y2 at *
      generalize l[j].kids.length = y3 at *
      have hbe := hbel.alloc hbel.size (.cells #[.int .i64 y0, .string y1, .int .i64 y2, .slice a3 y3 p3] 44)
      have HBE := (show Hid _ from hbe); clear hbe
      cases B
      · have HF := (show Hid (R = false) from HFX.out rfl)
        go_wp2_with fail
        go_at_call 24
        refine Calls.mono (HCL.out _) ?_
        rintro e w1 ⟨rfl, hb1⟩
        have HE := (show Hid _ from bel_trans HBE.out hb1); clear hb1 c0 c1 c2 c3 hbel
        go_wp2_with fail
        go_ret
        exact ⟨by rw [HF.out]; rfl, HE.out⟩
      · have HN := (show Hid _ from HNX.out rfl)
        go_wp2_with fail
        go_at_call 24
        refine Calls.mono (HCL.out _) ?_
        rintro e w1 ⟨rfl, hb1⟩
        have HE := (show Hid _ from bel_trans HBE.out hb1); clear hb1 c0 c1 c2 c3 hbel
        go_wp2_with fail
        exact ⟨⟨j + 1, by go_num, by omega, HN, HE.out⟩, by simp [intOf]; omega⟩
    · have HF := (show Hid (R = true) from by
        show R = true
        rw [← HRes.out, List.all_eq_true]
        intro x hx
        obtain ⟨i, hi, rfl⟩ := List.mem_iff_getElem.1 hx
        exact HJ.out i hi (by omega))
      go_wp2_with fail
      go_ret
      exact ⟨by rw [HF.out]; rfl, hbel⟩
theorem al_grown {w w' : World} (h : Below w.heap.size w w') (o : Option Nat) : w.grownBy w' o := ⟨h.os, h.tape, h.output, h.size, fun b hb _ => h.block b hb⟩
theorem al_still {w w' : World} {base : Nat} {e : TypeId} {size : Nat} {v : Value} {n : Nat} {xs : List Value} (h : w.ownsRow base e size v n xs) (hb : Below w.heap.size w w') : w'.ownsRow base e size v n xs :=
  h.kept (al_grown hb none) (by cases v.ownBlock <;> simp)
theorem al_box (w : World) (u : Value) (T : TypeId) : ∀ j x, [u][j]? = some x → (w.alloc (.cells #[u] T)).cell? ((⟨w.heap.size, 0, none⟩ : Addr).add j) = some x := by
  intro j x h
  cases j with
  | zero => simp at h; subst h; simp [Addr.add, go_sem]
  | succ j => simp at h
theorem al_box2 (w : World) (o : Obj) (u : Value) (T : TypeId) : ∀ j x, [u][j]? = some x → ((w.alloc o).alloc (.cells #[u] T)).cell? ((⟨w.heap.size + 1, 0, none⟩ : Addr).add j) = some x := by
  have h := al_box (w.alloc o) u T
  rw [World.size_alloc] at h
  exact h
def iv (l : List Int) : List Value := l.map fun x => .int .i64 x
theorem iv_len (l : List Int) : (iv l).length = l.length := by simp [iv]
set_option maxHeartbeats 1600000 in
theorem groups22 {S : Nat → Prop} (l : List DLNode) (v : Value) (w : World) (h : LNodeR w S l v) (hl : l.length ≤ 1000) :
    Calls Try.prog 22 #[v] w fun e w' => ∃ a c, e = .returned (.slice a (gpl l l.length).length c) ∧ Below w.heap.size w w' ∧ w'.ownsRow w.heap.size 3 1 (.slice a (gpl l l.length).length c) (gpl l l.length).length (iv (gpl l l.length)) := by
  obtain ⟨i3, hi3, hzz⟩ := Option.map_eq_some_iff.1 (show (Try.prog.info? 3).map (fun i => (i.zero, i.size, i.bytes)) = some (some (.int .i64 0), 1, 8) by kernel_rfl)
  simp only [Prod.mk.injEq] at hzz
  obtain ⟨hz0, hz1, hz2⟩ := hzz
  obtain ⟨a, cap, b, off, s3, rfl, hc, hm, ha, hcell, r3⟩ := h
  have HC := (show Hid _ from hcell); clear hcell
  have HA := (show Hid _ from ha); clear ha
  have HR3 := (show Hid _ from r3); clear r3
  unfold maxLen at hm
  go_enter Try.func22, Try.ntmps22
  go_wp2_with fail
  go_loopw [3, 8] (fun v i wr => ∃ (a' : Option Addr) (c' m j : Nat), v = .slice a' m c' ∧ i = .int .i64 j ∧ j ≤ l.length ∧ m ≤ j ∧ Hid (m = (gpl l j).length ∧ Below w.heap.size w wr ∧ wr.ownsRow w.heap.size 3 1 (.slice a' m c') m (iv (gpl l j)))) (fun _ i _ => l.length - (intOf i).toNat)
  case atStart => exact ⟨none, 0, 0, 0, rfl, rfl, Nat.zero_le _, Nat.le_refl _, rfl, Below.refl _ _, World.ownsRow_nil _ _ _ _⟩
  case round =>
    obtain ⟨a', c', m, j, rfl, rfl, hj, hmj, HJ⟩ := hrel
    by_cases hjl : j < l.length
    · obtain ⟨rfl, _⟩ := HA.out (by omega)
      obtain ⟨c0, c1, c2, c3, -⟩ := HC.out j hjl
      have hbel := HJ.out.2.1
      rw [← hbel.cell (lt_of_cell c0)] at c0
      rw [← hbel.cell (lt_of_cell c1)] at c1
      rw [← hbel.cell (lt_of_cell c2)] at c2
      rw [← hbel.cell (lt_of_cell c3)] at c3
      obtain ⟨a3, p3, e3, _⟩ := (HR3.out j hjl).form
      rw [e3] at c3
      clear e3
      have HY := (show Hid (l[j].kind = 6 → gpl l (j + 1) = gpl l j ++ [(j : Int)]) from fun h => gpl_yes (by rw [getZ hjl]; exact h))
      have HN := (show Hid (¬ l[j].kind = 6 → gpl l (j + 1) = gpl l j) from fun h => gpl_no (by rw [getZ hjl]; exact h))
      generalize l[j].kind = y0 at *
      generalize l[j].s = y1 at *
      generalize l[j].n = y2 at *
      generalize l[j].kids.length = y3 at *
      have hbe := hbel.alloc hbel.size (.cells #[.int .i64 y0, .string y1, .int .i64 y2, .slice a3 y3 p3] 44)
      have hb1 := bel_alloc wr (.cells #[.int .i64 y0, .string y1, .int .i64 y2, .slice a3 y3 p3] 44)
      have hsz := hbel.size
      by_cases hk : y0 = 6
      · have hg := HY.out hk
        subst hk
        have hb2 := hb1.alloc (by simp) (.cells #[.int .i64 (j : Int)] 3)
        have HO1 := (show Hid _ from al_still HJ.out.2.2 hb2)
        have HB := (show Hid _ from (⟨HJ.out.1, bel_trans hbel hb2, HJ.out.2.2, hg⟩ : _ ∧ _ ∧ _ ∧ _))
        clear HJ hg hbel hbe hb1 hb2 HY HN
        go_wp2_with (at_builtin; refine wpList_append_lies _ rfl (.tmp 16) (.tmp 18) 39 rfl w.heap.size 3 i3 _ 1 8 Try.underlying39 hi3 hz0 hz1 hz2 rfl (by decide) _ m _ rfl HO1.out ⟨wr.heap.size + 1, 0, none⟩ 1 1 [.int .i64 (j : Int)] rfl rfl (al_box2 _ _ _ _) (by intro u hu; simp at hu; subst hu; rfl) (by decide) ?c1 ?c2 ?c3 _ rfl ?nx)
        case c1 => unfold maxLen; omega
        case c2 => omega
        case c3 => first | omega | (simp; omega)
        case nx =>
          intro g2 cap2 U hown2 hgr2 hat2 hlt2
          have hbU : Below w.heap.size w U := (HB.out.2.1.grown hgr2 (by simp; omega) (fun q hq => (World.ownsRow.lt HB.out.2.2.1 q hq).1))
          have hoU : U.ownsRow w.heap.size 3 1 (.slice (some ⟨g2, 0, none⟩) (m + 1) cap2) (m + 1) (iv (gpl l (j + 1))) := by
            rw [HB.out.2.2.2]
            simpa [iv] using hown2
          have HM := (show Hid (m + 1 = (gpl l (j + 1)).length ∧ _ ∧ _) from ⟨by rw [HB.out.2.2.2, List.length_append, ← HB.out.1]; rfl, hbU, hoU⟩)
          clear hbU hoU hown2 hgr2 hat2 HO1 HB
          go_wp2_with fail
          exact ⟨⟨_, _, m + 1, j + 1, by rfl, by go_num, by omega, by omega, HM⟩, by simp [intOf]; omega⟩
      · have HM := (show Hid (m = (gpl l (j + 1)).length ∧ Below w.heap.size w (wr.alloc (.cells #[.int .i64 y0, .string y1, .int .i64 y2, .slice a3 y3 p3] 44)) ∧ (wr.alloc (.cells #[.int .i64 y0, .string y1, .int .i64 y2, .slice a3 y3 p3] 44)).ownsRow w.heap.size 3 1 (.slice a' m c') m (iv (gpl l (j + 1)))) from by
          show _ ∧ _ ∧ _
          rw [HN.out hk]
          exact ⟨HJ.out.1, hbe, al_still HJ.out.2.2 hb1⟩)
        clear HJ hbel hbe hb1 HY HN
        go_wp2_with fail
        exact ⟨⟨_, _, m, j + 1, rfl, by go_num, by omega, by omega, HM⟩, by simp [intOf]; omega⟩
    · obtain rfl : j = l.length := by omega
      obtain ⟨rfl, _⟩ : m = (gpl l l.length).length ∧ True := ⟨HJ.out.1, trivial⟩
      go_wp2_with fail
      go_ret
      exact ⟨_, _, rfl, HJ.out.2⟩
end Go.Proofs.Ytokncahlcphhnaa
