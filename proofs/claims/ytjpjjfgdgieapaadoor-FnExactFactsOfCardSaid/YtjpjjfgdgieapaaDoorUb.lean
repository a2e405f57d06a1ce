import Derived.Test.YtjpjjfgdgieapaaDoorLc
import Derived.Test.YtjpjjfgdgieapaaDoorQa
/-! What follows, in words of bits; the program's addAll, with what it says. -/
namespace Go.Proofs.YtjpjjfgdgieapaaDoor
open Go.RowKit Go.Deep
set_option linter.unusedVariables false
set_option maxRecDepth 100000
set_option linter.unusedSimpArgs false

def grewO (V W : List Nat) (o : Nat) : Bool := !((((V.getD o 0 : Nat) : Int) == ((W.getD o 0 : Nat) : Int)) && ((((V.getD (o + 1) 0 : Nat) : Int) == ((W.getD (o + 1) 0 : Nat) : Int)) && (((V.getD (o + 2) 0 : Nat) : Int) == ((W.getD (o + 2) 0 : Nat) : Int))))
set_option maxHeartbeats 6400000 in
theorem addAllB (b o : Nat) (W : List Nat) (u : Nat → Nat) (w : World) (h : WRow w b W) (ho : o + 3 ≤ W.length) (hW : ∀ i, W.getD i 0 < 2 ^ 64) (hu : ∀ i, u i < 2 ^ 64) :
    Calls Tryd.prog 87 #[.pointer (some ⟨b, o, none⟩), .agg #[.int .u64 (u 0 : Nat), .int .u64 (u 1 : Nat), .int .u64 (u 2 : Nat)]] w fun e w' => e = .returned (.bool (grewO (orW W o u 3) W o)) ∧ WRow w' b (orW W o u 3) ∧ Bt b w w' := by
  have hlt := World.rowIs.lt h
  have hb0 := bel_alloc w (.cells #[.int .u64 (u 0 : Nat), .int .u64 (u 1 : Nat), .int .u64 (u 2 : Nat)] 102)
  have h0 := WRow.still h hb0
  have C0 := h0.cell (i := o) (by omega)
  have C1 := h0.cell (i := o + 1) (by omega)
  have C2 := h0.cell (i := o + 2) (by omega)
  have HH := (show Hid _ from h)
  clear h h0
  have HG := (show Hid (grewO (orW W o u 3) W o = !((((orW W o u 3)[o]'(by rw [orW_len]; omega) : Nat) : Int) == ((W[o] : Nat) : Int) && ((((orW W o u 3)[o + 1]'(by rw [orW_len]; omega) : Nat) : Int) == ((W[o + 1] : Nat) : Int) && (((orW W o u 3)[o + 2]'(by rw [orW_len]; omega) : Nat) : Int) == ((W[o + 2] : Nat) : Int)))) from by
    show grewO (orW W o u 3) W o = _
    unfold grewO
    rw [getD_lt W 0 (i := o) (by omega), getD_lt W 0 (i := o + 1) (by omega), getD_lt W 0 (i := o + 2) (by omega), getD_lt (orW W o u 3) 0 (i := o) (by rw [orW_len]; omega), getD_lt (orW W o u 3) 0 (i := o + 1) (by rw [orW_len]; omega), getD_lt (orW W o u 3) 0 (i := o + 2) (by rw [orW_len]; omega)])
  generalize hx0' : W[o] = x0 at C0 HG
  generalize hx1' : W[o + 1] = x1 at C1 HG
  generalize hx2' : W[o + 2] = x2 at C2 HG
  clear hx0' hx1' hx2'
  generalize hu0 : u 0 = u0
  generalize hu1 : u 1 = u1
  generalize hu2 : u 2 = u2
  rw [hu0, hu1, hu2] at C0 C1 C2 hb0
  go_enter Tryd.func87, Tryd.ntmps87
  go_wp2_with fail
  have hbb := bel_trans hb0 (bel_alloc (w.alloc (.cells #[.int .u64 (u0 : Nat), .int .u64 (u1 : Nat), .int .u64 (u2 : Nat)] 102)) (.cells #[.int .u64 (x0 : Nat), .int .u64 (x1 : Nat), .int .u64 (x2 : Nat)] 102))
  have hbx := Box.new (w.alloc (.cells #[.int .u64 (u0 : Nat), .int .u64 (u1 : Nat), .int .u64 (u2 : Nat)] 102)) 102 [.int .u64 (x0 : Nat), .int .u64 (x1 : Nat), .int .u64 (x2 : Nat)]
  rw [World.size_alloc] at hbx
  have H0 := (show Hid _ from (⟨Bt.of_below (g := b) hbb, hbx, WRow.still HH.out hbb⟩ : Bt b w ((w.alloc (.cells #[.int .u64 (u0 : Nat), .int .u64 (u1 : Nat), .int .u64 (u2 : Nat)] 102)).alloc (.cells #[.int .u64 (x0 : Nat), .int .u64 (x1 : Nat), .int .u64 (x2 : Nat)] 102)) ∧ Box ((w.alloc (.cells #[.int .u64 (u0 : Nat), .int .u64 (u1 : Nat), .int .u64 (u2 : Nat)] 102)).alloc (.cells #[.int .u64 (x0 : Nat), .int .u64 (x1 : Nat), .int .u64 (x2 : Nat)] 102)) (w.heap.size + 1) 102 [.int .u64 (x0 : Nat), .int .u64 (x1 : Nat), .int .u64 (x2 : Nat)] ∧ WRow _ b W)); clear hbb hbx hb0 C0 C1 C2 HH
  go_loopw [12] (fun i wr => ∃ j : Nat, i = .int .i64 j ∧ j ≤ 3 ∧ Hid (Bt b w wr ∧ Box wr (w.heap.size + 1) 102 [.int .u64 (x0 : Nat), .int .u64 (x1 : Nat), .int .u64 (x2 : Nat)] ∧ WRow wr b (orW W o u j))) (fun i _ => 3 - (intOf i).toNat)
  case atStart => exact ⟨0, rfl, Nat.zero_le _, H0.out⟩
  case round =>
    obtain ⟨j, rfl, hj, HJ⟩ := hrel
    have hll := orW_len W o u j
    have hl64 := orW_lt W o u hW hu j
    have hcases : j = 0 ∨ j = 1 ∨ j = 2 ∨ j = 3 := by omega
    rcases hcases with rfl | rfl | rfl | rfl
    · have hjl : o < (orW W o u 0).length := by rw [hll]; omega
      have c0 := HJ.out.2.2.cell (i := o) hjl
      have f0 : wr.frozen? ⟨b, o, none⟩ = false := World.rowIs.frozen HJ.out.2.2 (o)
      have hv := hl64 (o)
      rw [getD_lt _ _ hjl] at hv
      have hor := bits_or _ (u 0) hv (hu 0)
      rw [hu0] at hor
      have hnx : (orW W o u 0).set (o) ((orW W o u 0)[o] ||| u 0) = orW W o u 1 := by
        show _ = (orW W o u 0).set (o + 0) ((orW W o u 0).getD (o + 0) 0 ||| u 0)
        rw [Nat.add_zero, getD_lt _ _ hjl]
      rw [hu0] at hnx
      have hS := HJ.out.2.2.set hjl ((orW W o u 0)[o] ||| u0)
      rw [hnx] at hS
      have HN := (show Hid _ from (⟨(HJ.out.1.trans (Bt.set _ _)).drew, (HJ.out.2.1.past (q := b) (by omega)).keep rfl, World.rowIs.of_block hS rfl⟩ : Bt b w (wr.setCell ⟨b, o, none⟩ (.int .u64 (((orW W o u 0)[o] ||| u0 : Nat) : Int))).drew ∧ Box (wr.setCell ⟨b, o, none⟩ (.int .u64 (((orW W o u 0)[o] ||| u0 : Nat) : Int))).drew (w.heap.size + 1) 102 [.int .u64 (x0 : Nat), .int .u64 (x1 : Nat), .int .u64 (x2 : Nat)] ∧ WRow (wr.setCell ⟨b, o, none⟩ (.int .u64 (((orW W o u 0)[o] ||| u0 : Nat) : Int))).drew b (orW W o u 1)))
      clear hS hnx hv HJ hl64
      generalize (orW W o u 0)[o] = y at *
      clear hjl hll
      have hix := ix0 (u0 : Nat) (u1 : Nat) (u2 : Nat)
      go_wp2_with fail
      go_region
      all_goals
        go_wp2_with fail
        exact ⟨⟨1, by go_num, by omega, HN⟩, by simp [intOf]⟩
    · have hjl : o + 1 < (orW W o u 1).length := by rw [hll]; omega
      have c0 := HJ.out.2.2.cell (i := o + 1) hjl
      have f0 : wr.frozen? ⟨b, o + 1, none⟩ = false := World.rowIs.frozen HJ.out.2.2 (o + 1)
      have hv := hl64 (o + 1)
      rw [getD_lt _ _ hjl] at hv
      have hor := bits_or _ (u 1) hv (hu 1)
      rw [hu1] at hor
      have hnx : (orW W o u 1).set (o + 1) ((orW W o u 1)[o + 1] ||| u 1) = orW W o u 2 := by
        show _ = (orW W o u 1).set (o + 1) ((orW W o u 1).getD (o + 1) 0 ||| u 1)
        rw [getD_lt _ _ hjl]
      rw [hu1] at hnx
      have hS := HJ.out.2.2.set hjl ((orW W o u 1)[o + 1] ||| u1)
      rw [hnx] at hS
      have HN := (show Hid _ from (⟨(HJ.out.1.trans (Bt.set _ _)).drew, (HJ.out.2.1.past (q := b) (by omega)).keep rfl, World.rowIs.of_block hS rfl⟩ : Bt b w (wr.setCell ⟨b, o + 1, none⟩ (.int .u64 (((orW W o u 1)[o + 1] ||| u1 : Nat) : Int))).drew ∧ Box (wr.setCell ⟨b, o + 1, none⟩ (.int .u64 (((orW W o u 1)[o + 1] ||| u1 : Nat) : Int))).drew (w.heap.size + 1) 102 [.int .u64 (x0 : Nat), .int .u64 (x1 : Nat), .int .u64 (x2 : Nat)] ∧ WRow (wr.setCell ⟨b, o + 1, none⟩ (.int .u64 (((orW W o u 1)[o + 1] ||| u1 : Nat) : Int))).drew b (orW W o u 2)))
      clear hS hnx hv HJ hl64
      generalize (orW W o u 1)[o + 1] = y at *
      clear hjl hll
      have hix := ix1 (u0 : Nat) (u1 : Nat) (u2 : Nat)
      go_wp2_with fail
      go_region
      all_goals
        go_wp2_with fail
        exact ⟨⟨2, by go_num, by omega, HN⟩, by simp [intOf]⟩
    · have hjl : o + 2 < (orW W o u 2).length := by rw [hll]; omega
      have c0 := HJ.out.2.2.cell (i := o + 2) hjl
      have f0 : wr.frozen? ⟨b, o + 2, none⟩ = false := World.rowIs.frozen HJ.out.2.2 (o + 2)
      have hv := hl64 (o + 2)
      rw [getD_lt _ _ hjl] at hv
      have hor := bits_or _ (u 2) hv (hu 2)
      rw [hu2] at hor
      have hnx : (orW W o u 2).set (o + 2) ((orW W o u 2)[o + 2] ||| u 2) = orW W o u 3 := by
        show _ = (orW W o u 2).set (o + 2) ((orW W o u 2).getD (o + 2) 0 ||| u 2)
        rw [getD_lt _ _ hjl]
      rw [hu2] at hnx
      have hS := HJ.out.2.2.set hjl ((orW W o u 2)[o + 2] ||| u2)
      rw [hnx] at hS
      have HN := (show Hid _ from (⟨(HJ.out.1.trans (Bt.set _ _)).drew, (HJ.out.2.1.past (q := b) (by omega)).keep rfl, World.rowIs.of_block hS rfl⟩ : Bt b w (wr.setCell ⟨b, o + 2, none⟩ (.int .u64 (((orW W o u 2)[o + 2] ||| u2 : Nat) : Int))).drew ∧ Box (wr.setCell ⟨b, o + 2, none⟩ (.int .u64 (((orW W o u 2)[o + 2] ||| u2 : Nat) : Int))).drew (w.heap.size + 1) 102 [.int .u64 (x0 : Nat), .int .u64 (x1 : Nat), .int .u64 (x2 : Nat)] ∧ WRow (wr.setCell ⟨b, o + 2, none⟩ (.int .u64 (((orW W o u 2)[o + 2] ||| u2 : Nat) : Int))).drew b (orW W o u 3)))
      clear hS hnx hv HJ hl64
      generalize (orW W o u 2)[o + 2] = y at *
      clear hjl hll
      have hix := ix2 (u0 : Nat) (u1 : Nat) (u2 : Nat)
      go_wp2_with fail
      go_region
      all_goals
        go_wp2_with fail
        exact ⟨⟨3, by go_num, by omega, HN⟩, by simp [intOf]⟩
    · have c0 := HJ.out.2.2.cell (i := o) (by rw [hll]; omega)
      have c1 := HJ.out.2.2.cell (i := o + 1) (by rw [hll]; omega)
      have c2 := HJ.out.2.2.cell (i := o + 2) (by rw [hll]; omega)
      have b0 : wr.cell? ⟨w.heap.size + 1, 0, none⟩ = some (.int .u64 (x0 : Nat)) := HJ.out.2.1.cell 0 (by simp)
      have b1 : wr.cell? ⟨w.heap.size + 1, 1, none⟩ = some (.int .u64 (x1 : Nat)) := HJ.out.2.1.cell 1 (by simp)
      have b2 : wr.cell? ⟨w.heap.size + 1, 2, none⟩ = some (.int .u64 (x2 : Nat)) := HJ.out.2.1.cell 2 (by simp)
      have HN := (show Hid _ from HJ.out)
      clear HJ hl64
      generalize (orW W o u 3)[o] = y0 at c0 HG
      generalize (orW W o u 3)[o + 1] = y1 at c1 HG
      generalize (orW W o u 3)[o + 2] = y2 at c2 HG
      go_wp2_with fail
      have heq := eq3 (y0 : Nat) (y1 : Nat) (y2 : Nat) (x0 : Nat) (x1 : Nat) (x2 : Nat)
      go_quiet (fail)
      go_wp2_with fail
      go_ret
      exact ⟨by rw [HG.out, Bool.not_and, Bool.not_and]; rfl, World.rowIs.of_block HN.out.2.2 rfl, HN.out.1.trans (Bt.of_below (bel_drewN _ _ _))⟩

/-- A set more, in row s. -/
def orR (F : List Nat) (s : Nat) (V : List Nat) : List Nat := orW F (s * 3) (fun i => V.getD i 0) 3
theorem orR_len (F : List Nat) (s : Nat) (V : List Nat) : (orR F s V).length = F.length := orW_len _ _ _ _
theorem orR_lt {F V : List Nat} (s : Nat) (hF : ∀ i, F.getD i 0 < 2 ^ 64) (hV : ∀ i, V.getD i 0 < 2 ^ 64) : ∀ i, (orR F s V).getD i 0 < 2 ^ 64 := orW_lt _ _ _ hF (fun i => hV i) 3
theorem orR_ge {F : List Nat} {s : Nat} (V : List Nat) (hs : s * 3 + 3 ≤ F.length) (i : Nat) : F.getD i 0 ≤ (orR F s V).getD i 0 := by
  unfold orR
  rw [orW_get _ _ _ hs]
  split
  · exact Nat.left_le_or
  · exact Nat.le_refl _
theorem orR_other {F : List Nat} {s : Nat} (V : List Nat) (hs : s * 3 + 3 ≤ F.length) (i : Nat) (hi : ¬ (s * 3 ≤ i ∧ i < s * 3 + 3)) : (orR F s V).getD i 0 = F.getD i 0 := by
  unfold orR
  rw [orW_get _ _ _ hs, if_neg hi]
theorem mem_orR {F : List Nat} {s : Nat} (V : List Nat) (hs : s * 3 + 3 ≤ F.length) (a y : Nat) (hy : y < 192) : mem (orR F s V) a y = (mem F a y || (decide (a = s) && mem V 0 y)) := by
  unfold mem orR
  rw [orW_get _ _ _ hs]
  by_cases e : a = s
  · subst e
    rw [if_pos (by omega), Nat.testBit_or, decide_eq_true rfl, Bool.true_and]
    congr 3
    omega
  · rw [if_neg (by omega), decide_eq_false e, Bool.false_and, Bool.or_false]
/-- Row s. -/
def rowS (W : List Nat) (s : Nat) : List Nat := [W.getD (s * 3) 0, W.getD (s * 3 + 1) 0, W.getD (s * 3 + 2) 0]
theorem rowS_lt {W : List Nat} (hW : ∀ i, W.getD i 0 < 2 ^ 64) (s i : Nat) : (rowS W s).getD i 0 < 2 ^ 64 := by
  unfold rowS
  rcases i with _ | _ | _ | i
  · exact hW _
  · exact hW _
  · exact hW _
  · simp
theorem mem_rowS (W : List Nat) (s y : Nat) (hy : y < 192) : mem (rowS W s) 0 y = mem W s y := by
  unfold mem rowS
  have h : y / 64 = 0 ∨ y / 64 = 1 ∨ y / 64 = 2 := by omega
  rcases h with h | h | h <;> rw [h] <;> simp
theorem mem_zero3 (y : Nat) : mem [0, 0, 0] 0 y = false := mem_zero 3 0 y
/-- What stands behind a place: as it is gathered from the end. -/
def vb (L : Nat → Int) (Wf V0 : List Nat) : List Int → List Nat
  | [] => V0
  | s :: r => orR (if L s.toNat = 0 then vb L Wf V0 r else [0, 0, 0]) 0 (rowS Wf s.toNat)
/-- .. and what the sets are then, and whether one is news. -/
def fl (L : Nat → Int) (Wf V0 F : List Nat) : List Int → List Nat × Bool
  | [] => (F, false)
  | s :: r => (orR (fl L Wf V0 F r).1 s.toNat (vb L Wf V0 r), (fl L Wf V0 F r).2 || grewO (orR (fl L Wf V0 F r).1 s.toNat (vb L Wf V0 r)) (fl L Wf V0 F r).1 (s.toNat * 3))
theorem vb_len {L : Nat → Int} {Wf V0 : List Nat} (h0 : V0.length = 3) : ∀ r, (vb L Wf V0 r).length = 3 := by
  intro r
  induction r with
  | nil => exact h0
  | cons s r ih =>
    unfold vb
    rw [orR_len]
    split
    · exact ih
    · rfl
theorem vb_lt {L : Nat → Int} {Wf V0 : List Nat} (h0 : ∀ i, V0.getD i 0 < 2 ^ 64) (hW : ∀ i, Wf.getD i 0 < 2 ^ 64) : ∀ r i, (vb L Wf V0 r).getD i 0 < 2 ^ 64 := by
  intro r
  induction r with
  | nil => exact h0
  | cons s r ih =>
    unfold vb
    refine orR_lt _ ?_ (rowS_lt hW _)
    split
    · exact ih
    · intro i
      rcases i with _ | _ | _ | i <;> simp
theorem vb_mem {nt : Nat} {z : Nat → Bool} {B : Nat → Int → Prop} {L : Nat → Int} {Wf V0 : List Nat} (h0 : V0.length = 3) (y : Nat) (hy : y < 192) : ∀ (r : List Int), (∀ s ∈ r, 0 ≤ s ∧ (z s.toNat = true ↔ L s.toNat = 0) ∧ (mem Wf s.toNat y = true ↔ if s.toNat < nt then (y : Int) = s else B (s.toNat - nt) y)) → (mem (vb L Wf V0 r) 0 y = true ↔ Bg nt z B r y ∨ ((∀ x ∈ r, z x.toNat = true) ∧ mem V0 0 y = true)) := by
  intro r
  induction r with
  | nil => intro _; simp [vb, Bg]
  | cons s r ih =>
    intro h
    obtain ⟨_, h2, h3⟩ := h s (by simp)
    have ih' := ih (fun x hx => h x (List.mem_cons_of_mem _ hx))
    unfold vb Bg
    have hl3 : 0 * 3 + 3 ≤ (if L s.toNat = 0 then vb L Wf V0 r else [0, 0, 0]).length := by
      split
      · rw [vb_len h0]; exact Nat.le_refl _
      · exact Nat.le_refl _
    rw [mem_orR _ hl3 0 y hy, mem_rowS _ _ _ hy, decide_eq_true rfl, Bool.true_and, Bool.or_eq_true, h3]
    by_cases e : L s.toNat = 0
    · rw [if_pos e, ih', h2.2 e]
      simp only [true_and, List.mem_cons, forall_eq_or_imp, h2.2 e]
      constructor
      · rintro ((h | h) | h)
        · exact .inl (.inr h)
        · exact .inr h
        · exact .inl (.inl h)
      · rintro ((h | h) | h)
        · exact .inr h
        · exact .inl (.inl h)
        · exact .inl (.inr h)
    · have hz : ¬ z s.toNat = true := fun h => e (h2.1 h)
      rw [if_neg e, mem_zero3]
      simp only [Bool.false_eq_true, false_or, hz, false_and, or_false, List.mem_cons, forall_eq_or_imp]
theorem grewO_no {V W : List Nat} {o : Nat} (hlen : V.length = W.length) (ho : ∀ i, ¬ (o ≤ i ∧ i < o + 3) → V.getD i 0 = W.getD i 0) (h : grewO V W o = false) : V = W := by
  unfold grewO at h
  simp only [Bool.not_eq_false', Bool.and_eq_true, beq_iff_eq, Int.natCast_inj] at h
  obtain ⟨h0, h1, h2⟩ := h
  refine ext_getD hlen (fun i => ?_)
  by_cases hi : o ≤ i ∧ i < o + 3
  · have : i = o ∨ i = o + 1 ∨ i = o + 2 := by omega
    rcases this with rfl | rfl | rfl
    · exact h0
    · exact h1
    · exact h2
  · exact ho i hi
theorem grewO_yes {V W : List Nat} {o : Nat} (h : grewO V W o = true) : V ≠ W := by
  rintro rfl
  unfold grewO at h
  simp at h
theorem fl_len {L : Nat → Int} {Wf V0 F : List Nat} : ∀ r, (fl L Wf V0 F r).1.length = F.length := by
  intro r
  induction r with
  | nil => rfl
  | cons s r ih => unfold fl; rw [orR_len]; exact ih
theorem fl_lt {L : Nat → Int} {Wf V0 F : List Nat} (h0 : ∀ i, V0.getD i 0 < 2 ^ 64) (hW : ∀ i, Wf.getD i 0 < 2 ^ 64) (hF : ∀ i, F.getD i 0 < 2 ^ 64) : ∀ r i, (fl L Wf V0 F r).1.getD i 0 < 2 ^ 64 := by
  intro r
  induction r with
  | nil => exact hF
  | cons s r ih => exact orR_lt _ ih (vb_lt h0 hW r)
theorem fl_room {L : Nat → Int} {Wf V0 F : List Nat} (h0 : ∀ i, V0.getD i 0 < 2 ^ 64) (hW : ∀ i, Wf.getD i 0 < 2 ^ 64) (hF : ∀ i, F.getD i 0 < 2 ^ 64) : ∀ (r : List Int), (∀ s ∈ r, s.toNat * 3 + 3 ≤ F.length) → room (fl L Wf V0 F r).1 ≤ room F ∧ ((fl L Wf V0 F r).2 = true → room (fl L Wf V0 F r).1 < room F) := by
  intro r
  induction r with
  | nil => intro _; exact ⟨Nat.le_refl _, fun h => by cases h⟩
  | cons s r ih =>
    intro h
    obtain ⟨i1, i2⟩ := ih (fun x hx => h x (List.mem_cons_of_mem _ hx))
    have hs : s.toNat * 3 + 3 ≤ (fl L Wf V0 F r).1.length := by rw [fl_len]; exact h s (by simp)
    have hle := room_le (orR (fl L Wf V0 F r).1 s.toNat (vb L Wf V0 r)) (fl L Wf V0 F r).1 (orR_len _ _ _) (orR_ge _ hs)
    unfold fl
    refine ⟨Nat.le_trans hle i1, fun hb => ?_⟩
    rw [Bool.or_eq_true] at hb
    rcases hb with hb | hb
    · exact Nat.lt_of_le_of_lt hle (i2 hb)
    · have := room_lt (orR (fl L Wf V0 F r).1 s.toNat (vb L Wf V0 r)) (fl L Wf V0 F r).1 (orR_len _ _ _) (orR_ge _ hs) (orR_lt _ (fl_lt h0 hW hF r) (vb_lt h0 hW r)) (grewO_yes hb)
      exact Nat.lt_of_lt_of_le this i1
theorem fl_no {L : Nat → Int} {Wf V0 F : List Nat} : ∀ (r : List Int), (∀ s ∈ r, s.toNat * 3 + 3 ≤ F.length) → (fl L Wf V0 F r).2 = false → (fl L Wf V0 F r).1 = F ∧ ∀ i (hi : i < r.length) y, y < 192 → mem (vb L Wf V0 (r.drop (i + 1))) 0 y = true → mem F r[i].toNat y = true := by
  intro r
  induction r with
  | nil => intro _ _; exact ⟨rfl, fun i hi => absurd hi (Nat.not_lt_zero _)⟩
  | cons s r ih =>
    intro h hb
    unfold fl at hb
    rw [Bool.or_eq_false_iff] at hb
    obtain ⟨e1, e2⟩ := ih (fun x hx => h x (List.mem_cons_of_mem _ hx)) hb.1
    have hs : s.toNat * 3 + 3 ≤ F.length := h s (by simp)
    have hb2 := hb.2
    rw [e1] at hb2
    have e3 := grewO_no (orR_len _ _ _) (orR_other _ hs) hb2
    refine ⟨by unfold fl; rw [e1]; exact e3, fun i hi y hy hm => ?_⟩
    cases i with
    | zero =>
      simp only [List.drop_succ_cons, List.drop_zero] at hm
      simp only [List.getElem_cons_zero]
      rw [← e3, mem_orR _ hs _ _ hy, hm]
      simp
    | succ i =>
      simp only [List.getElem_cons_succ]
      simp only [List.drop_succ_cons] at hm
      exact e2 i (by simpa using hi) y hy hm
end Go.Proofs.YtjpjjfgdgieapaaDoor
