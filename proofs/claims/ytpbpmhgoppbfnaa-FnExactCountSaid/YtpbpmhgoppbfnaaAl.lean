import Derived.Test.YtpbpmhgoppbfnaaPb
import Derived.Deep.AppendLies
/-! The program: symbols that stand alone. -/
namespace Go.Proofs.Ytpbpmhgoppbfnaa
open Go.RowKit Go.Deep
set_option linter.unusedVariables false
set_option maxRecDepth 100000
set_option linter.unusedSimpArgs false

/-- Numbers as cells. -/
def icl (l : List Int) : List Value := l.map (.int .i64)
theorem al_grown {w w' : World} (h : Below w.heap.size w w') (o : Option Nat) : w.grownBy w' o := ⟨h.os, h.tape, h.output, h.size, fun b hb _ => h.block b hb⟩
theorem al_still {w w' : World} {base : Nat} {e : TypeId} {size : Nat} {v : Value} {n : Nat} {xs : List Value} (h : w.ownsRow base e size v n xs) (hb : Below w.heap.size w w') : w'.ownsRow base e size v n xs :=
  h.kept (al_grown hb none) (by cases v.ownBlock <;> simp)
theorem al_box (w : World) (u : Value) (T : TypeId) : ∀ j x, [u][j]? = some x → (w.alloc (.cells #[u] T)).cell? ((⟨w.heap.size, 0, none⟩ : Addr).add j) = some x := by
  intro j x h
  cases j with
  | zero => simp at h; subst h; simp [Addr.add, go_sem]
  | succ j => simp at h
/-- A row of numbers that is owned, read. -/
theorem al_ints {w : World} {B : Nat} {v : Value} {l : List Int} (h : w.ownsRow B 3 1 v l.length (icl l)) : Ints w (fun c => B ≤ c) l v := by
  obtain ⟨hl, h⟩ := h
  rcases h with ⟨rfl, e⟩ | ⟨g, cap, cur, rfl, hB, hg, hn, hm, hsz, htk⟩
  · have : l = [] := List.length_eq_zero_iff.1 e
    subst this
    exact ⟨none, 0, 0, 0, rfl, Nat.le_refl _, Nat.zero_le _, fun h => absurd h (Nat.not_lt_zero _), fun i hi => absurd hi (Nat.not_lt_zero _)⟩
  · refine ⟨_, cap, g, 0, rfl, hn, hm, fun _ => ⟨rfl, hB⟩, fun i hi => ?_⟩
    rw [Nat.zero_add, cell_of_row w g i cur _ (0, 0) hg]
    have : (icl l)[i]? = some (.int .i64 l[i]) := by simp [icl, hi]
    rw [← htk, List.getElem?_take] at this
    split at this
    · simpa using this
    · simp at this
/-- Those beside which there are only ones that make the empty word. -/
def alo (L : Nat → Int) (r : List Int) : List Int :=
  if (r.filter fun x => L x.toNat != 0).length = 0 then r
  else if (r.filter fun x => L x.toNat != 0).length = 1 then r.filter fun x => L x.toNat != 0
  else []
set_option maxHeartbeats 3200000 in
theorem alones_any (b0 : Nat) (w : World) (hb0 : b0 < w.heap.size) (g b : Nat) (v0 v1 vo v3 : Value) (L r : List Int) (v : Value) (h : St w g b v0 v1 vo v3 L) (hr : Ints w (fun c => c ≠ b0) r v) (hin : ∀ i (hi : i < r.length), 0 ≤ r[i] ∧ r[i] < L.length) (hlen : r.length ≤ 1048576) (hLl : L.length ≤ 1048576) :
    Calls Try.prog 75 #[.pointer (some ⟨g, 0, none⟩), v] w fun e w' => ∃ v', e = .returned v' ∧ Below w.heap.size w w' ∧ Ints w' (fun c => c ≠ b0) (alo (Lf L) r) v' := by
  have HI0 := (show Hid _ from hr)
  obtain ⟨a, cap, bb, off, rfl, hc, hm, ha, hcell⟩ := hr
  have HC := (show Hid _ from hcell); clear hcell
  have HA := (show Hid _ from ha); clear ha
  have HI := (show Hid _ from hin); clear hin
  have HS := (show Hid _ from h); clear h
  obtain ⟨i3, hi3, hzz⟩ := Option.map_eq_some_iff.1 info3i
  simp only [Prod.mk.injEq] at hzz
  obtain ⟨hz0, hz1, hz2⟩ := hzz
  unfold maxLen at hm
  go_enter Try.func75, Try.ntmps75
  go_wp2_with fail
  go_loopw [5, 10] (fun u i wr => ∃ (dn : List Int) (a' : Option Addr) (c' j : Nat), u = .slice a' dn.length c' ∧ i = .int .i64 j ∧ j ≤ r.length ∧ dn.length ≤ j ∧ Hid (Below w.heap.size w wr ∧ wr.ownsRow w.heap.size 3 1 (.slice a' dn.length c') dn.length (icl dn) ∧ dn = (r.take j).filter (fun x => Lf L x.toNat != 0))) (fun _ i _ => r.length - (intOf i).toNat)
  case atStart => exact ⟨[], none, 0, 0, rfl, rfl, Nat.zero_le _, Nat.zero_le _, Below.refl _ _, World.ownsRow_nil _ _ _ _, by simp⟩
  case round =>
    obtain ⟨dn, a', c', j, rfl, rfl, hj, hdj, HJ⟩ := hrel
    by_cases hlt : j < r.length
    · have hlt' := hlt
      obtain ⟨rfl, _⟩ := HA.out (by omega)
      have c0 := HC.out j hlt'
      rw [← HJ.out.1.cell (lt_of_cell c0)] at c0
      have hS := HS.out.still HJ.out.1
      have T4 : wr.cell? ⟨g, 4, none⟩ = some (.slice (some ⟨b, 0, none⟩) L.length L.length) := hS.box.cell 4 (by simp)
      obtain ⟨i1, i2⟩ := HI.out j hlt'
      have htk : r.take (j + 1) = r.take j ++ [r[j]] := (List.take_append_getElem hlt').symm
      obtain ⟨x, hx⟩ : ∃ x : Nat, r[j] = x := ⟨r[j].toNat, by omega⟩
      rw [hx] at i1 i2 c0 htk
      have hxl : x < L.length := by omega
      have d0 := hS.cell x hxl
      have hlf := Lf_lt hxl
      clear hS
      by_cases e : L[x] = 0
      · rw [e] at d0
        have HN := (show Hid _ from (⟨HJ.out.1, HJ.out.2.1, by rw [htk, List.filter_append, HJ.out.2.2]; simp [hlf, e]⟩ : Below w.heap.size w wr ∧ _ ∧ dn = (r.take (j + 1)).filter (fun x => Lf L x.toNat != 0)))
        clear HJ htk hlf e
        go_wp2_with fail
        exact ⟨⟨dn, _, _, j + 1, by rfl, by go_num, by omega, by omega, HN⟩, by simp [intOf]; omega⟩
      · have e' : (L[x] != 0) = true := by simp [e]
        have hfl : dn ++ [(x : Int)] = (r.take (j + 1)).filter (fun x => Lf L x.toNat != 0) := by
          rw [htk, List.filter_append, HJ.out.2.2]; simp [hlf, e]
        have HO1 := (show Hid _ from al_still HJ.out.2.1 (bel_alloc wr (.cells #[.int .i64 x] 3)))
        have HB := (show Hid _ from (⟨HJ.out.1, HJ.out.2.1, hfl⟩ : _ ∧ _ ∧ _))
        have hsz := HJ.out.1.size
        clear HJ htk hlf hfl
        generalize L[x] = Lx at *
        go_wp2_with (at_builtin; refine wpList_append_lies _ rfl (.tmp 22) (.tmp 24) 28 rfl w.heap.size 3 i3 _ 1 8 Try.underlying28 hi3 hz0 hz1 hz2 rfl (by decide) _ dn.length (icl dn) rfl HO1.out ⟨wr.heap.size, 0, none⟩ 1 1 [.int .i64 x] rfl rfl (al_box _ _ _) (by intro u hu; simp at hu; subst hu; rfl) (by decide) ?c1 ?c2 ?c3 _ rfl ?nx)
        case c1 => unfold maxLen; omega
        case c2 => omega
        case c3 => first | omega | (simp; omega)
        case nx =>
          intro g2 cap2 U hown2 hgr2 hat2 hlt2
          have hbU : Below w.heap.size w U := ((bel_trans HB.out.1 (bel_alloc wr (.cells #[.int .i64 x] 3))).grown hgr2 (by simp; omega) (fun q hq => (World.ownsRow.lt HB.out.2.1 q hq).1))
          have hoU : U.ownsRow w.heap.size 3 1 (.slice (some ⟨g2, 0, none⟩) (dn ++ [(x : Int)]).length cap2) (dn ++ [(x : Int)]).length (icl (dn ++ [(x : Int)])) := by
            have : icl (dn ++ [(x : Int)]) = icl dn ++ [.int .i64 x] := by simp [icl]
            rw [this, List.length_append]; exact hown2
          have hlU : dn.length + 1 = (dn ++ [(x : Int)]).length := by simp
          have HM := (show Hid _ from (⟨hbU, hoU, HB.out.2.2⟩ : _ ∧ _ ∧ _))
          clear hbU hoU hown2 hgr2 hat2 HO1 HB T4 c0 d0
          have hle2 : (dn ++ [(x : Int)]).length ≤ j + 1 := by simp; omega
          rw [hlU]
          go_wp2_with fail
          exact ⟨⟨_, _, _, j + 1, by rfl, by go_num, by omega, hle2, HM⟩, by simp [intOf]; omega⟩
    · have hdn := HJ.out.2.2
      rw [List.take_of_length_le (by omega)] at hdn
      have HD := (show Hid _ from hdn); clear hdn
      by_cases e0 : dn.length = 0
      · have HN : Hid (Ints wr (fun c => c ≠ b0) (alo (Lf L) r) (.slice a r.length cap)) := by
          show Ints wr (fun c => c ≠ b0) (alo (Lf L) r) (.slice a r.length cap)
          unfold alo
          rw [← HD.out, if_pos e0]
          exact Ints.still HI0.out HJ.out.1
        have k0 : ((dn.length : Int) == 0) = true := by simp [e0]
        have HB := (show Hid _ from HJ.out.1)
        clear HJ e0
        go_wp2_with fail
        go_ret
        exact ⟨_, rfl, HB.out, HN.out⟩
      · have k0 : ((dn.length : Int) == 0) = false := by simp [e0]
        by_cases e1 : dn.length = 1
        · have HN : Hid (Ints wr (fun c => c ≠ b0) (alo (Lf L) r) (.slice a' dn.length c')) := by
            show Ints wr (fun c => c ≠ b0) (alo (Lf L) r) _
            unfold alo
            rw [← HD.out, if_neg e0, if_pos e1]
            exact (al_ints HJ.out.2.1).mono (fun c hc => by omega)
          have k1 : ((dn.length : Int) == 1) = true := by simp [e1]
          have HB := (show Hid _ from HJ.out.1)
          clear HJ e0 e1
          go_wp2_with fail
          go_ret
          exact ⟨_, rfl, HB.out, HN.out⟩
        · have HN : Hid (Ints wr (fun c => c ≠ b0) (alo (Lf L) r) (.slice none 0 0)) := by
            show Ints wr (fun c => c ≠ b0) (alo (Lf L) r) _
            unfold alo
            rw [← HD.out, if_neg e0, if_neg e1]
            exact ⟨none, 0, 0, 0, rfl, Nat.le_refl _, Nat.zero_le _, fun h => absurd h (Nat.not_lt_zero _), fun i hi => absurd hi (Nat.not_lt_zero _)⟩
          have k1 : ((dn.length : Int) == 1) = false := by simp; omega
          have HB := (show Hid _ from HJ.out.1)
          clear HJ e0 e1
          go_wp2_with fail
          go_ret
          exact ⟨_, rfl, HB.out, HN.out⟩
theorem Ints.blk {w : World} {S : Nat → Prop} {l : List Int} {v : Value} (h : Ints w S l v) : Ints w (fun c => c < w.heap.size) l v := by
  obtain ⟨a, cap, b, off, hv, hc, hm, ha, hcell⟩ := h
  exact ⟨a, cap, b, off, hv, hc, hm, fun h0 => ⟨(ha h0).1, lt_of_cell (hcell 0 h0)⟩, hcell⟩
theorem Ints.bt {w w' : World} {b0 : Nat} {l : List Int} {v : Value} (h : Ints w (fun c => c ≠ b0) l v) (hb : Bt b0 w w') : Ints w' (fun c => c ≠ b0) l v := h.keep (fun b hb1 hb2 => hb.block b hb2 hb1)
theorem Box.bt {w w' : World} {b0 g T : Nat} {cs : List Value} (h : Box w g T cs) (hb : Bt b0 w w') (hg : g ≠ b0) : Box w' g T cs := h.keep (hb.block g h.lt hg)
theorem St.bt {w w' : World} {b0 g b : Nat} {v0 v1 vo v3 : Value} {L : List Int} (h : St w g b v0 v1 vo v3 L) (hb : Bt b0 w w') (hg : g ≠ b0) (hbb : b ≠ b0) : St w' g b v0 v1 vo v3 L :=
  ⟨h.box.bt hb hg, World.rowIs.of_block h.row (hb.block b (World.rowIs.lt h.row) hbb), h.ne⟩
end Go.Proofs.Ytpbpmhgoppbfnaa
