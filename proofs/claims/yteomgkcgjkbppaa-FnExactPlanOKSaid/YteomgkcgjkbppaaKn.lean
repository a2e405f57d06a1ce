import Derived.Test.YteomgkcgjkbppaaKm
import Derived.Test.YteomgkcgjkbppaaKj
/-! The specification's reader of plans: parts with a sign between them. -/
namespace Go.Proofs.Yteomgkcgjkbppaa
open Go.RowKit Go.Deep Go.Lib Go.ChangeShapes Go.WideShapes
set_option linter.unusedVariables false
set_option maxRecDepth 100000
set_option linter.unusedSimpArgs false

theorem pastF_not (p : Int → Bool) (s : ByteArray) : ∀ n i, s.size - i ≤ n → p (bt s (pastF p s n i)) = false ∨ s.size ≤ pastF p s n i
  | 0, i, h => .inr (by rw [pastF]; omega)
  | n + 1, i, h => by
    rw [pastF]
    split
    · exact pastF_not p s n (i + 1) (by omega)
    · rename_i e
      exact .inl (by simpa using e)
theorem past_idem (p : Int → Bool) (s : ByteArray) (i : Nat) : past p s (past p s i) = past p s i := by
  rcases pastF_not p s (s.size - i) i (Nat.le_refl _) with h | h
  · exact past_stop h
  · exact past_end h
/-- What is still to be read: nothing was wrong so far, or the fault is known. -/
def PtT (s : ByteArray) (R : Bool × Nat) (sg : Int) (r : Nat → Nat → Option (Bool × Nat)) (g y : Nat) (bad : Int) : Prop :=
  (bad = -1 ∧ (if bt s y = sg then r g (sk s (y + 1)) else some (true, y)) = some R) ∨ (R.1 = false ∧ bad = (R.2 : Int))
theorem PtT_bad {s : ByteArray} {R : Bool × Nat} {sg : Int} {r : Nat → Nat → Option (Bool × Nat)} {g y : Nat} {bad : Int} (h : PtT s R sg r g y bad) (hb : bad < 0) : bad = -1 := by
  rcases h with ⟨h, _⟩ | ⟨_, h⟩
  · exact h
  · omega
/-- What stands while the parts are read. -/
def PtI (p : Nat) (rv : Value) (s : ByteArray) (w : World) (R : Bool × Nat) (sg : Int) (r : Nat → Nat → Option (Bool × Nat)) (f g i' : Nat) (bad : Int) (n : Nat) (u : Value) (wr : World) : Prop :=
  g ≤ f ∧ n + g ≤ f + 1 ∧ i' ≤ s.size ∧ Box wr p 129 [rv, .string s, .int .i64 (i' : Int), .int .i64 bad] ∧ But p w wr ∧ Box wr w.heap.size 102 [.string ⟨#[]⟩, .string ⟨#[]⟩, .slice none 0 0] ∧ (∃ xs, wr.ownsRow (w.heap.size + 1) 102 3 u n xs) ∧ PtT s R sg r g (sk s i') bad
def lenV (v : Value) : Nat := match v with
  | .slice _ n _ => n
  | _ => 0
theorem own_one (w : World) (a b c : Value) {B : Nat} (hB : B ≤ w.heap.size) : (w.alloc (.cells #[a, b, c] 102)).ownsRow B 102 3 (.slice (some ⟨w.heap.size, 0, none⟩) 1 1) 1 [a, b, c] :=
  ⟨rfl, .inr ⟨w.heap.size, 1, #[a, b, c], rfl, hB, blk_alloc_new _ _, Nat.le_refl _, by unfold maxLen; omega, rfl, rfl⟩⟩
theorem info102s : (Try.prog.info? 102).map (fun i => (i.zero, i.size, i.bytes)) = some (some (.agg #[.string ⟨#[]⟩, .string ⟨#[]⟩, .slice none 0 0]), 3, 56) := by kernel_rfl
theorem step1 {s : ByteArray} {rn : ByteArray → Bool} {f x : Nat} {R : Bool × Nat} (h : rd s rn (f + 1) 1 x = some R) : ∃ R1, rd s rn f 0 x = some R1 ∧ ∀ (i1 : Nat) (bad1 : Int), (R1.1 = true → bad1 = -1 ∧ sk s i1 = R1.2) → (R1.1 = false → bad1 = (R1.2 : Int)) → PtT s R 59 (fun g x => rd s rn g 1 x) f (sk s i1) bad1 := by
  rw [rd] at h
  cases e : rd s rn f 0 x with
  | none => rw [e] at h; cases h
  | some R1 =>
    rw [e] at h
    obtain ⟨b, j⟩ := R1
    refine ⟨_, rfl, fun i1 bad1 h1 h2 => ?_⟩
    cases b with
    | true =>
      obtain ⟨q1, q2⟩ := h1 rfl
      rw [q2]
      exact .inl ⟨q1, h⟩
    | false =>
      have q := h2 rfl
      simp only at h
      injection h with h
      subst h
      exact .inr ⟨rfl, q⟩
theorem PtT_yes1 {s : ByteArray} {rn : ByteArray → Bool} {g y : Nat} {bad : Int} {R : Bool × Nat} (h : PtT s R 59 (fun g x => rd s rn g 1 x) g y bad) (hb : bad < 0) (hsg : bt s y = 59) : ∃ g' R', g = g' + 1 ∧ rd s rn g' 0 (sk s (y + 1)) = some R' ∧ ∀ (i1 : Nat) (bad1 : Int), (R'.1 = true → bad1 = -1 ∧ sk s i1 = R'.2) → (R'.1 = false → bad1 = (R'.2 : Int)) → PtT s R 59 (fun g x => rd s rn g 1 x) g' (sk s i1) bad1 := by
  rcases h with ⟨_, h⟩ | ⟨_, h⟩
  · rw [if_pos hsg] at h
    cases g with
    | zero => simp only [rd] at h; cases h
    | succ g' =>
      obtain ⟨R1, q1, q2⟩ := step1 h
      exact ⟨g', R1, rfl, q1, q2⟩
  · omega
theorem PtT_no1 {s : ByteArray} {rn : ByteArray → Bool} {g y : Nat} {bad : Int} {R : Bool × Nat} (h : PtT s R 59 (fun g x => rd s rn g 1 x) g y bad) (hn : ¬ (bad < 0 ∧ bt s y = 59)) : (R.1 = true → bad = -1 ∧ y = R.2) ∧ (R.1 = false → bad = (R.2 : Int)) := by
  rcases h with ⟨h1, h⟩ | ⟨h1, h⟩
  · rw [if_neg (fun e => hn ⟨by omega, e⟩)] at h
    injection h with h
    subst h
    exact ⟨fun _ => ⟨h1, rfl⟩, fun e => by cases e⟩
  · exact ⟨fun e => absurd (h1.symm.trans e) (by decide), fun _ => h⟩
theorem step2 {s : ByteArray} {rn : ByteArray → Bool} {f x : Nat} {R : Bool × Nat} (h : rd s rn (f + 1) 2 x = some R) : ∃ R1, rd s rn f 1 x = some R1 ∧ ∀ (i1 : Nat) (bad1 : Int), (R1.1 = true → bad1 = -1 ∧ sk s i1 = R1.2) → (R1.1 = false → bad1 = (R1.2 : Int)) → PtT s R 124 (fun g x => rd s rn g 2 x) f (sk s i1) bad1 := by
  rw [rd] at h
  cases e : rd s rn f 1 x with
  | none => rw [e] at h; cases h
  | some R1 =>
    rw [e] at h
    obtain ⟨b, j⟩ := R1
    refine ⟨_, rfl, fun i1 bad1 h1 h2 => ?_⟩
    cases b with
    | true =>
      obtain ⟨q1, q2⟩ := h1 rfl
      rw [q2]
      exact .inl ⟨q1, h⟩
    | false =>
      have q := h2 rfl
      simp only at h
      injection h with h
      subst h
      exact .inr ⟨rfl, q⟩
theorem PtT_yes2 {s : ByteArray} {rn : ByteArray → Bool} {g y : Nat} {bad : Int} {R : Bool × Nat} (h : PtT s R 124 (fun g x => rd s rn g 2 x) g y bad) (hb : bad < 0) (hsg : bt s y = 124) : ∃ g' R', g = g' + 1 ∧ rd s rn g' 1 (sk s (y + 1)) = some R' ∧ ∀ (i1 : Nat) (bad1 : Int), (R'.1 = true → bad1 = -1 ∧ sk s i1 = R'.2) → (R'.1 = false → bad1 = (R'.2 : Int)) → PtT s R 124 (fun g x => rd s rn g 2 x) g' (sk s i1) bad1 := by
  rcases h with ⟨_, h⟩ | ⟨_, h⟩
  · rw [if_pos hsg] at h
    cases g with
    | zero => simp only [rd] at h; cases h
    | succ g' =>
      obtain ⟨R1, q1, q2⟩ := step2 h
      exact ⟨g', R1, rfl, q1, q2⟩
  · omega
theorem PtT_no2 {s : ByteArray} {rn : ByteArray → Bool} {g y : Nat} {bad : Int} {R : Bool × Nat} (h : PtT s R 124 (fun g x => rd s rn g 2 x) g y bad) (hn : ¬ (bad < 0 ∧ bt s y = 124)) : (R.1 = true → bad = -1 ∧ y = R.2) ∧ (R.1 = false → bad = (R.2 : Int)) := by
  rcases h with ⟨h1, h⟩ | ⟨h1, h⟩
  · rw [if_neg (fun e => hn ⟨by omega, e⟩)] at h
    injection h with h
    subst h
    exact ⟨fun _ => ⟨h1, rfl⟩, fun e => by cases e⟩
  · exact ⟨fun e => absurd (h1.symm.trans e) (by decide), fun _ => h⟩
set_option maxHeartbeats 3200000 in
theorem seq100 {w0 : World} {p : Nat} {rv : Value} {s : ByteArray} {rn : ByteArray → Bool} {f : Nat} (hs : s.size ≤ 300) (hp : w0.heap.size ≤ p) (hf : f ≤ 100000) (ih : ∀ g, g ≤ f → RdC w0 p rv s rn 110 0 g) : RdC w0 p rv s rn 100 1 (f + 1) := by
  intro i w R hbx hi hb0 hrd
  have hpl := hbx.lt
  have HIH := (show Hid _ from ih)
  have HB0 := (show Hid _ from hb0)
  have hzb := Box.new w 102 [.string ⟨#[]⟩, .string ⟨#[]⟩, .slice none 0 0]
  have hb1 := hbx.still (bel_alloc w (.cells #[.string ⟨#[]⟩, .string ⟨#[]⟩, .slice none 0 0] 102))
  have hst := step1 hrd
  obtain ⟨R1, hr1, hT1⟩ := hst
  have HCL := (show Hid _ from ih f (Nat.le_refl _) i _ R1 hb1 hi (bel_trans hb0 (bel_alloc w (.cells #[.string ⟨#[]⟩, .string ⟨#[]⟩, .slice none 0 0] 102))) hr1)
  unfold RdA at HCL
  have HT1 := (show Hid _ from hT1)
  have HZ := (show Hid _ from hzb)
  have HFIN := (show Hid (∀ (k n : ByteArray) (a : Option Addr) (l c i' : Nat) (bad : Int) (w' : World), Box w' p 129 [rv, .string s, .int .i64 (i' : Int), .int .i64 bad] → But p w w' → i' ≤ s.size → (R.1 = true → bad = -1 ∧ sk s i' = R.2) → (R.1 = false → bad = (R.2 : Int)) → RdA p rv s R w (.returned (.agg #[.string k, .string n, .slice a l c])) w') from fun k n a l c i' bad w' h1 h2 h3 h4 h5 => ⟨k, n, a, l, c, i', bad, rfl, h1, h2, h3, h4, h5⟩)
  obtain ⟨i2, hi2, hz0, hz1, hz2⟩ := info_parts info102s
  clear hbx hzb hb1 hb0 ih hrd hr1 hT1
  go_enter Try.func100, Try.ntmps100
  go_wp2_with fail
  refine Calls.mono HCL.out ?_
  rintro e w2 ⟨k0, n0, a0, l0, c0, i1, bad1, rfl, hb2, hbt2, hi1, ht, hf1⟩
  have HI2 := (show Hid (PtI p rv s w R 59 (fun g x => rd s rn g 1 x) f f i1 bad1 1 (.slice (some ⟨w2.heap.size, 0, none⟩) 1 1) (w2.alloc (.cells #[.string k0, .string n0, .slice a0 l0 c0] 102))) from (by
    have hbt1 : But p w w2 := But.trans (But.of_below (bel_alloc w (.cells #[.string ⟨#[]⟩, .string ⟨#[]⟩, .slice none 0 0] 102))) hbt2
    refine ⟨Nat.le_refl _, by omega, hi1, hb2.still (bel_alloc _ _), hbt1.still (bel_alloc _ _), (HZ.out.but hbt2 (by omega)).still (bel_alloc _ _), ⟨_, own_one w2 _ _ _ (by have := hbt2.size; simp at this; omega)⟩, HT1.out i1 bad1 ht hf1⟩))
  clear hb2 hbt2 HCL HZ HT1 ht hf1 hi1
  go_wp2_with fail
  go_loopw [3] (fun u wr => ∃ (g i' n : Nat) (bad : Int) (la : Option Addr) (lc : Nat), u = .slice la n lc ∧ Hid (PtI p rv s w R 59 (fun g x => rd s rn g 1 x) f g i' bad n (.slice la n lc) wr)) (fun u _ => f + 2 - lenV u)
  case atStart => exact ⟨f, i1, 1, bad1, _, _, rfl, HI2⟩
  case round =>
    obtain ⟨g, i', n, bad, la, lc, rfl, HI⟩ := hrel
    clear HI2
    obtain ⟨hg, hn, hi', hbx, hbt, hz, ⟨xs, hown⟩, hT⟩ := HI.out
    have HS := (show Hid _ from sign87 s 59 i' p bad rv wr hbx hi' hs)
    have hy : sk s i' ≤ s.size := past_size hi'
    have HID := (show Hid (sk s (sk s i') = sk s i') from past_idem blB s i')
    have HZ := (show Hid (Box wr w.heap.size 102 [.string ⟨#[]⟩, .string ⟨#[]⟩, .slice none 0 0]) from hz)
    have HBT := (show Hid (But p w wr) from hbt)
    have HOW := (show Hid (wr.ownsRow (w.heap.size + 1) 102 3 (.slice la n lc) n xs) from hown)
    have HT := (show Hid _ from hT)
    clear hbx hbt hz hown hT HI hi'
    generalize hY : sk s i' = y at *
    by_cases hgo : bad < 0 ∧ bt s y = 59
    · obtain ⟨hb, hsg⟩ := hgo
      have hys := bt_lt hsg (by omega)
      obtain ⟨g', R', e1, e2, e3⟩ := PtT_yes1 HT.out hb hsg
      have hd : (decide (bad < 0) && decide (bt s y = ((59 : Nat) : Int))) = true := by rw [decide_eq_true hb, decide_eq_true (p := bt s y = ((59 : Nat) : Int)) hsg]; rfl
      rw [hd] at HS
      have hbm : bad = -1 := PtT_bad HT.out hb
      have HT2 := (show Hid _ from e3)
      clear hd e3 HT hsg
      go_wp2_with fail
      refine Calls.mono HS.out ?_
      rintro e w3 ⟨rfl, hb3, hbt3⟩
      have c2 : w3.cell? ⟨p, 2, none⟩ = some (.int .i64 (y : Int)) := hb3.cell 2 (by simp)
      have y2 : w3.frozen? ⟨p, 2, none⟩ = false := hb3.frozen 2
      have hb4 : Box (w3.setCell ⟨p, 2, none⟩ (.int .i64 ((y : Int) + 1))) p 129 [rv, .string s, .int .i64 ((y + 1 : Nat) : Int), .int .i64 (-1)] := by
        have := hb3.set 2 (.int .i64 ((y : Int) + 1))
        rw [hbm] at this
        simpa using this
      have hbt4 : But p w (w3.setCell ⟨p, 2, none⟩ (.int .i64 ((y : Int) + 1))) := (But.trans HBT.out hbt3).put _
      have HCL := (show Hid _ from HIH.out g' (by omega) (y + 1) _ R' hb4 hys (But.below' hbt4 HB0.out hp) e2)
      have HZ4 := (show Hid (Box (w3.setCell ⟨p, 2, none⟩ (.int .i64 ((y : Int) + 1))) w.heap.size 102 [.string ⟨#[]⟩, .string ⟨#[]⟩, .slice none 0 0]) from (HZ.out.but hbt3 (by omega)).past (by omega))
      have HO4 := (show Hid ((w3.setCell ⟨p, 2, none⟩ (.int .i64 ((y : Int) + 1))).ownsRow (w.heap.size + 1) 102 3 (.slice la n lc) n xs) from own_keep1 HOW.out (fun q hq => by
        have h1 := (World.ownsRow.lt HOW.out q hq)
        exact (blk_setCell_other _ _ _ _ (by show q ≠ p; omega)).trans (hbt3.block h1.2 (by omega))))
      have HB4 := (show Hid (But p w (w3.setCell ⟨p, 2, none⟩ (.int .i64 ((y : Int) + 1)))) from hbt4)
      unfold RdA at HCL
      clear hb3 hbt3 hb4 hbt4 HS HZ HBT HOW e2
      go_wp2_with fail
      refine Calls.mono HCL.out ?_
      rintro e w5 ⟨k5, n5, a5, l5, c5, i5, bad5, rfl, hb5, hbt5, hi5, ht5, hf5⟩
      have hO5 := own_keep1 HO4.out (fun q hq => hbt5.block (World.ownsRow.lt HO4.out q hq).2 (by have := (World.ownsRow.lt HO4.out q hq).1; omega))
      have HO6 := (show Hid ((w5.alloc (.cells #[.string k5, .string n5, .slice a5 l5 c5] 102)).ownsRow (w.heap.size + 1) 102 3 (.slice la n lc) n xs) from own_still hO5 (bel_alloc _ _))
      have hB6 : But p w (w5.alloc (.cells #[.string k5, .string n5, .slice a5 l5 c5] 102)) := (But.trans HB4.out hbt5).still (bel_alloc _ _)
      have hz6 : w.heap.size < w5.heap.size := (HZ4.out.but hbt5 (by omega)).lt
      have HUP := (show Hid (∀ (g7 cap7 : Nat) (w7 : World), w7.ownsRow (w.heap.size + 1) 102 3 (.slice (some ⟨g7, 0, none⟩) (n + 1) cap7) (n + 1) (xs ++ [.string k5, .string n5, .slice a5 l5 c5]) → (w5.alloc (.cells #[.string k5, .string n5, .slice a5 l5 c5] 102)).grownBy w7 (Value.slice la n lc).ownBlock → PtI p rv s w R 59 (fun g x => rd s rn g 1 x) f g' i5 bad5 (n + 1) (.slice (some ⟨g7, 0, none⟩) (n + 1) cap7) w7) from fun g7 cap7 w7 q1 q2 => by
        have hne : ∀ q, (Value.slice la n lc).ownBlock = some q → w.heap.size + 1 ≤ q := fun q hq => (World.ownsRow.lt HO6.out q hq).1
        have hkp : ∀ q, q ≤ w.heap.size → w7.heap[q]? = (w5.alloc (.cells #[.string k5, .string n5, .slice a5 l5 c5] 102)).heap[q]? := fun q hq => q2.block q (by simp; omega) (fun e => by have := hne q e.symm; omega)
        refine ⟨by omega, by omega, hi5, (hb5.still (bel_alloc _ _)).keep (hkp p (by omega)), ?_, ((HZ4.out.but hbt5 (by omega)).still (bel_alloc _ _)).keep (hkp _ (Nat.le_refl _)), ⟨_, q1⟩, HT2.out i5 bad5 ht5 hf5⟩
        exact ⟨q2.os.trans hB6.1, q2.tape.trans hB6.2.1, q2.output.trans hB6.2.2.1, Nat.le_trans hB6.2.2.2.1 q2.size, fun q h1 h2 => (hkp q (by omega)).trans (hB6.2.2.2.2 q h1 h2)⟩)
      have hZZ : w.heap.size + 1 ≤ (w5.alloc (.cells #[.string k5, .string n5, .slice a5 l5 c5] 102)).heap.size := by simp; omega
      have HZZ := (show Hid _ from hZZ)
      clear hb5 hbt5 hO5 hB6 hz6 hZZ HCL HZ4 HO4 HB4 HT2 ht5 hf5 hi5 c2 y2
      go_wp2_with (at_builtin; refine wpList_append_lies _ rfl (.tmp 16) (.tmp 19) 100 rfl (w.heap.size + 1) 102 i2 _ 3 56 Try.underlying100 hi2 hz0 hz1 hz2 rfl (by decide) _ n xs rfl HO6.out ⟨w5.heap.size, 0, none⟩ 1 1 [.string k5, .string n5, .slice a5 l5 c5] (by simp [Act.eval]) rfl (World.news_of_block (cs := #[.string k5, .string n5, .slice a5 l5 c5]) (blk_alloc_new _ _)) (by simp [Value.oneCell']) (by decide) (by unfold maxLen; omega) (by omega) HZZ.out _ rfl ?nx)
      case nx =>
        intro g7 cap7 w7 hown7 hgr7 hat7 hlt7
        have HU := (show Hid _ from HUP.out g7 cap7 w7 hown7 hgr7)
        clear hown7 hgr7 hat7 hlt7 HUP HO6 HZZ
        go_wp2_with fail
        exact ⟨⟨g', i5, n + 1, bad5, _, _, rfl, HU⟩, by simp [lenV]; omega⟩
    · have hE := PtT_no1 HT.out hgo
      have HE := (show Hid _ from hE)
      have hd : (decide (bad < 0) && decide (bt s y = ((59 : Nat) : Int))) = false := by
        cases e : (decide (bad < 0) && decide (bt s y = ((59 : Nat) : Int)))
        · rfl
        · rw [Bool.and_eq_true] at e
          exact absurd ⟨of_decide_eq_true e.1, of_decide_eq_true e.2⟩ hgo
      rw [hd] at HS
      clear hd hE HT hgo HIH
      go_wp2_with fail
      refine Calls.mono HS.out ?_
      rintro e w3 ⟨rfl, hb3, hbt3⟩
      have hz := HZ.out.but hbt3 (by omega)
      have z0 : w3.cell? ⟨w.heap.size, 0, none⟩ = some (.string ⟨#[]⟩) := hz.cell 0 (by simp)
      have z1 : w3.cell? ⟨w.heap.size, 1, none⟩ = some (.string ⟨#[]⟩) := hz.cell 1 (by simp)
      have z2 : w3.cell? ⟨w.heap.size, 2, none⟩ = some (.slice none 0 0) := hz.cell 2 (by simp)
      have f0 : w3.frozen? ⟨w.heap.size, 0, none⟩ = false := hz.frozen 0
      have f1 : w3.frozen? ⟨w.heap.size, 1, none⟩ = false := hz.frozen 1
      have f2 : w3.frozen? ⟨w.heap.size, 2, none⟩ = false := hz.frozen 2
      have HX3 := (show Hid _ from hb3)
      have HB3 := (show Hid (But p w w3) from But.trans HBT.out hbt3)
      clear hb3 hbt3 hz HS HZ HBT HOW
      go_wp2_with fail
      refine bodyPost_ret (v := .agg #[.string ⟨#[59]⟩, .string ⟨#[]⟩, .slice la n lc]) (by simp [results, Try.results100, go_sem, z0, z1, z2]) rfl ?_
      exact HFIN.out _ _ _ _ _ y bad _ (((HX3.out.past (by omega)).past (by omega)).past (by omega)) (((HB3.out.other (Nat.le_refl _) _).other (Nat.le_refl _) _).other (Nat.le_refl _) _) hy (fun h => ⟨(HE.out.1 h).1, by rw [HID.out]; exact (HE.out.1 h).2⟩) HE.out.2
set_option maxHeartbeats 3200000 in
theorem plan86 {w0 : World} {p : Nat} {rv : Value} {s : ByteArray} {rn : ByteArray → Bool} {f : Nat} (hs : s.size ≤ 300) (hp : w0.heap.size ≤ p) (hf : f ≤ 100000) (ih : ∀ g, g ≤ f → RdC w0 p rv s rn 100 1 g) : RdC w0 p rv s rn 86 2 (f + 1) := by
  intro i w R hbx hi hb0 hrd
  have hpl := hbx.lt
  have HIH := (show Hid _ from ih)
  have HB0 := (show Hid _ from hb0)
  have hzb := Box.new w 102 [.string ⟨#[]⟩, .string ⟨#[]⟩, .slice none 0 0]
  have hb1 := hbx.still (bel_alloc w (.cells #[.string ⟨#[]⟩, .string ⟨#[]⟩, .slice none 0 0] 102))
  have hst := step2 hrd
  obtain ⟨R1, hr1, hT1⟩ := hst
  have HCL := (show Hid _ from ih f (Nat.le_refl _) i _ R1 hb1 hi (bel_trans hb0 (bel_alloc w (.cells #[.string ⟨#[]⟩, .string ⟨#[]⟩, .slice none 0 0] 102))) hr1)
  unfold RdA at HCL
  have HT1 := (show Hid _ from hT1)
  have HZ := (show Hid _ from hzb)
  have HFIN := (show Hid (∀ (k n : ByteArray) (a : Option Addr) (l c i' : Nat) (bad : Int) (w' : World), Box w' p 129 [rv, .string s, .int .i64 (i' : Int), .int .i64 bad] → But p w w' → i' ≤ s.size → (R.1 = true → bad = -1 ∧ sk s i' = R.2) → (R.1 = false → bad = (R.2 : Int)) → RdA p rv s R w (.returned (.agg #[.string k, .string n, .slice a l c])) w') from fun k n a l c i' bad w' h1 h2 h3 h4 h5 => ⟨k, n, a, l, c, i', bad, rfl, h1, h2, h3, h4, h5⟩)
  obtain ⟨i2, hi2, hz0, hz1, hz2⟩ := info_parts info102s
  clear hbx hzb hb1 hb0 ih hrd hr1 hT1
  go_enter Try.func86, Try.ntmps86
  go_wp2_with fail
  refine Calls.mono HCL.out ?_
  rintro e w2 ⟨k0, n0, a0, l0, c0, i1, bad1, rfl, hb2, hbt2, hi1, ht, hf1⟩
  have HI2 := (show Hid (PtI p rv s w R 124 (fun g x => rd s rn g 2 x) f f i1 bad1 1 (.slice (some ⟨w2.heap.size, 0, none⟩) 1 1) (w2.alloc (.cells #[.string k0, .string n0, .slice a0 l0 c0] 102))) from (by
    have hbt1 : But p w w2 := But.trans (But.of_below (bel_alloc w (.cells #[.string ⟨#[]⟩, .string ⟨#[]⟩, .slice none 0 0] 102))) hbt2
    refine ⟨Nat.le_refl _, by omega, hi1, hb2.still (bel_alloc _ _), hbt1.still (bel_alloc _ _), (HZ.out.but hbt2 (by omega)).still (bel_alloc _ _), ⟨_, own_one w2 _ _ _ (by have := hbt2.size; simp at this; omega)⟩, HT1.out i1 bad1 ht hf1⟩))
  clear hb2 hbt2 HCL HZ HT1 ht hf1 hi1
  go_wp2_with fail
  go_loopw [3] (fun u wr => ∃ (g i' n : Nat) (bad : Int) (la : Option Addr) (lc : Nat), u = .slice la n lc ∧ Hid (PtI p rv s w R 124 (fun g x => rd s rn g 2 x) f g i' bad n (.slice la n lc) wr)) (fun u _ => f + 2 - lenV u)
  case atStart => exact ⟨f, i1, 1, bad1, _, _, rfl, HI2⟩
  case round =>
    obtain ⟨g, i', n, bad, la, lc, rfl, HI⟩ := hrel
    clear HI2
    obtain ⟨hg, hn, hi', hbx, hbt, hz, ⟨xs, hown⟩, hT⟩ := HI.out
    have HS := (show Hid _ from sign87 s 124 i' p bad rv wr hbx hi' hs)
    have hy : sk s i' ≤ s.size := past_size hi'
    have HID := (show Hid (sk s (sk s i') = sk s i') from past_idem blB s i')
    have HZ := (show Hid (Box wr w.heap.size 102 [.string ⟨#[]⟩, .string ⟨#[]⟩, .slice none 0 0]) from hz)
    have HBT := (show Hid (But p w wr) from hbt)
    have HOW := (show Hid (wr.ownsRow (w.heap.size + 1) 102 3 (.slice la n lc) n xs) from hown)
    have HT := (show Hid _ from hT)
    clear hbx hbt hz hown hT HI hi'
    generalize hY : sk s i' = y at *
    by_cases hgo : bad < 0 ∧ bt s y = 124
    · obtain ⟨hb, hsg⟩ := hgo
      have hys := bt_lt hsg (by omega)
      obtain ⟨g', R', e1, e2, e3⟩ := PtT_yes2 HT.out hb hsg
      have hd : (decide (bad < 0) && decide (bt s y = ((124 : Nat) : Int))) = true := by rw [decide_eq_true hb, decide_eq_true (p := bt s y = ((124 : Nat) : Int)) hsg]; rfl
      rw [hd] at HS
      have hbm : bad = -1 := PtT_bad HT.out hb
      have HT2 := (show Hid _ from e3)
      clear hd e3 HT hsg
      go_wp2_with fail
      refine Calls.mono HS.out ?_
      rintro e w3 ⟨rfl, hb3, hbt3⟩
      have c2 : w3.cell? ⟨p, 2, none⟩ = some (.int .i64 (y : Int)) := hb3.cell 2 (by simp)
      have y2 : w3.frozen? ⟨p, 2, none⟩ = false := hb3.frozen 2
      have hb4 : Box (w3.setCell ⟨p, 2, none⟩ (.int .i64 ((y : Int) + 1))) p 129 [rv, .string s, .int .i64 ((y + 1 : Nat) : Int), .int .i64 (-1)] := by
        have := hb3.set 2 (.int .i64 ((y : Int) + 1))
        rw [hbm] at this
        simpa using this
      have hbt4 : But p w (w3.setCell ⟨p, 2, none⟩ (.int .i64 ((y : Int) + 1))) := (But.trans HBT.out hbt3).put _
      have HCL := (show Hid _ from HIH.out g' (by omega) (y + 1) _ R' hb4 hys (But.below' hbt4 HB0.out hp) e2)
      have HZ4 := (show Hid (Box (w3.setCell ⟨p, 2, none⟩ (.int .i64 ((y : Int) + 1))) w.heap.size 102 [.string ⟨#[]⟩, .string ⟨#[]⟩, .slice none 0 0]) from (HZ.out.but hbt3 (by omega)).past (by omega))
      have HO4 := (show Hid ((w3.setCell ⟨p, 2, none⟩ (.int .i64 ((y : Int) + 1))).ownsRow (w.heap.size + 1) 102 3 (.slice la n lc) n xs) from own_keep1 HOW.out (fun q hq => by
        have h1 := (World.ownsRow.lt HOW.out q hq)
        exact (blk_setCell_other _ _ _ _ (by show q ≠ p; omega)).trans (hbt3.block h1.2 (by omega))))
      have HB4 := (show Hid (But p w (w3.setCell ⟨p, 2, none⟩ (.int .i64 ((y : Int) + 1)))) from hbt4)
      unfold RdA at HCL
      clear hb3 hbt3 hb4 hbt4 HS HZ HBT HOW e2
      go_wp2_with fail
      refine Calls.mono HCL.out ?_
      rintro e w5 ⟨k5, n5, a5, l5, c5, i5, bad5, rfl, hb5, hbt5, hi5, ht5, hf5⟩
      have hO5 := own_keep1 HO4.out (fun q hq => hbt5.block (World.ownsRow.lt HO4.out q hq).2 (by have := (World.ownsRow.lt HO4.out q hq).1; omega))
      have HO6 := (show Hid ((w5.alloc (.cells #[.string k5, .string n5, .slice a5 l5 c5] 102)).ownsRow (w.heap.size + 1) 102 3 (.slice la n lc) n xs) from own_still hO5 (bel_alloc _ _))
      have hB6 : But p w (w5.alloc (.cells #[.string k5, .string n5, .slice a5 l5 c5] 102)) := (But.trans HB4.out hbt5).still (bel_alloc _ _)
      have hz6 : w.heap.size < w5.heap.size := (HZ4.out.but hbt5 (by omega)).lt
      have HUP := (show Hid (∀ (g7 cap7 : Nat) (w7 : World), w7.ownsRow (w.heap.size + 1) 102 3 (.slice (some ⟨g7, 0, none⟩) (n + 1) cap7) (n + 1) (xs ++ [.string k5, .string n5, .slice a5 l5 c5]) → (w5.alloc (.cells #[.string k5, .string n5, .slice a5 l5 c5] 102)).grownBy w7 (Value.slice la n lc).ownBlock → PtI p rv s w R 124 (fun g x => rd s rn g 2 x) f g' i5 bad5 (n + 1) (.slice (some ⟨g7, 0, none⟩) (n + 1) cap7) w7) from fun g7 cap7 w7 q1 q2 => by
        have hne : ∀ q, (Value.slice la n lc).ownBlock = some q → w.heap.size + 1 ≤ q := fun q hq => (World.ownsRow.lt HO6.out q hq).1
        have hkp : ∀ q, q ≤ w.heap.size → w7.heap[q]? = (w5.alloc (.cells #[.string k5, .string n5, .slice a5 l5 c5] 102)).heap[q]? := fun q hq => q2.block q (by simp; omega) (fun e => by have := hne q e.symm; omega)
        refine ⟨by omega, by omega, hi5, (hb5.still (bel_alloc _ _)).keep (hkp p (by omega)), ?_, ((HZ4.out.but hbt5 (by omega)).still (bel_alloc _ _)).keep (hkp _ (Nat.le_refl _)), ⟨_, q1⟩, HT2.out i5 bad5 ht5 hf5⟩
        exact ⟨q2.os.trans hB6.1, q2.tape.trans hB6.2.1, q2.output.trans hB6.2.2.1, Nat.le_trans hB6.2.2.2.1 q2.size, fun q h1 h2 => (hkp q (by omega)).trans (hB6.2.2.2.2 q h1 h2)⟩)
      have hZZ : w.heap.size + 1 ≤ (w5.alloc (.cells #[.string k5, .string n5, .slice a5 l5 c5] 102)).heap.size := by simp; omega
      have HZZ := (show Hid _ from hZZ)
      clear hb5 hbt5 hO5 hB6 hz6 hZZ HCL HZ4 HO4 HB4 HT2 ht5 hf5 hi5 c2 y2
      go_wp2_with (at_builtin; refine wpList_append_lies _ rfl (.tmp 16) (.tmp 19) 100 rfl (w.heap.size + 1) 102 i2 _ 3 56 Try.underlying100 hi2 hz0 hz1 hz2 rfl (by decide) _ n xs rfl HO6.out ⟨w5.heap.size, 0, none⟩ 1 1 [.string k5, .string n5, .slice a5 l5 c5] (by simp [Act.eval]) rfl (World.news_of_block (cs := #[.string k5, .string n5, .slice a5 l5 c5]) (blk_alloc_new _ _)) (by simp [Value.oneCell']) (by decide) (by unfold maxLen; omega) (by omega) HZZ.out _ rfl ?nx)
      case nx =>
        intro g7 cap7 w7 hown7 hgr7 hat7 hlt7
        have HU := (show Hid _ from HUP.out g7 cap7 w7 hown7 hgr7)
        clear hown7 hgr7 hat7 hlt7 HUP HO6 HZZ
        go_wp2_with fail
        exact ⟨⟨g', i5, n + 1, bad5, _, _, rfl, HU⟩, by simp [lenV]; omega⟩
    · have hE := PtT_no2 HT.out hgo
      have HE := (show Hid _ from hE)
      have hd : (decide (bad < 0) && decide (bt s y = ((124 : Nat) : Int))) = false := by
        cases e : (decide (bad < 0) && decide (bt s y = ((124 : Nat) : Int)))
        · rfl
        · rw [Bool.and_eq_true] at e
          exact absurd ⟨of_decide_eq_true e.1, of_decide_eq_true e.2⟩ hgo
      rw [hd] at HS
      clear hd hE HT hgo HIH
      go_wp2_with fail
      refine Calls.mono HS.out ?_
      rintro e w3 ⟨rfl, hb3, hbt3⟩
      have hz := HZ.out.but hbt3 (by omega)
      have z0 : w3.cell? ⟨w.heap.size, 0, none⟩ = some (.string ⟨#[]⟩) := hz.cell 0 (by simp)
      have z1 : w3.cell? ⟨w.heap.size, 1, none⟩ = some (.string ⟨#[]⟩) := hz.cell 1 (by simp)
      have z2 : w3.cell? ⟨w.heap.size, 2, none⟩ = some (.slice none 0 0) := hz.cell 2 (by simp)
      have f0 : w3.frozen? ⟨w.heap.size, 0, none⟩ = false := hz.frozen 0
      have f1 : w3.frozen? ⟨w.heap.size, 1, none⟩ = false := hz.frozen 1
      have f2 : w3.frozen? ⟨w.heap.size, 2, none⟩ = false := hz.frozen 2
      have HX3 := (show Hid _ from hb3)
      have HB3 := (show Hid (But p w w3) from But.trans HBT.out hbt3)
      clear hb3 hbt3 hz HS HZ HBT HOW
      go_wp2_with fail
      refine bodyPost_ret (v := .agg #[.string ⟨#[124]⟩, .string ⟨#[]⟩, .slice la n lc]) (by simp [results, Try.results86, go_sem, z0, z1, z2]) rfl ?_
      exact HFIN.out _ _ _ _ _ y bad _ (((HX3.out.past (by omega)).past (by omega)).past (by omega)) (((HB3.out.other (Nat.le_refl _) _).other (Nat.le_refl _) _).other (Nat.le_refl _) _) hy (fun h => ⟨(HE.out.1 h).1, by rw [HID.out]; exact (HE.out.1 h).2⟩) HE.out.2
end Go.Proofs.Yteomgkcgjkbppaa
