import Derived.Test.YthmdoplickpmaaiAt3
import Derived.Test.YthmdoplickpmaaiSz
import Derived.Test.YthmdoplickpmaaiEq
namespace Go.Proofs.Ythmdoplickpmaai
open Go.RowKit Go.Deep Go.Lib
set_option linter.unusedVariables false
set_option maxRecDepth 100000
set_option linter.unusedSimpArgs false

/-- All blocks that were there, but those of P, are as they were. -/
def Off (P : Nat → Prop) (a b : World) : Prop := b.os = a.os ∧ b.tape = a.tape ∧ b.output = a.output ∧ a.heap.size ≤ b.heap.size ∧ ∀ k, k < a.heap.size → ¬ P k → b.heap[k]? = a.heap[k]?
theorem Off.of_below {P : Nat → Prop} {a b : World} (h : Below a.heap.size a b) : Off P a b := ⟨h.os, h.tape, h.output, h.size, fun k hk _ => h.block k hk⟩
theorem Off.of_out {P : Nat → Prop} {a b : World} {lo hi : Nat} (h : Out lo hi a b) (hP : ∀ k, lo ≤ k → k < hi → P k) : Off P a b :=
  ⟨h.1, h.2.1, h.2.2.1, h.2.2.2.1, fun k hk hn => h.2.2.2.2 k hk (by
    apply Decidable.byContradiction
    intro hc
    exact hn (hP k (by omega) (by omega)))⟩
theorem Off.trans {P : Nat → Prop} {a b c : World} (h : Off P a b) (g : Off P b c) : Off P a c :=
  ⟨g.1.trans h.1, g.2.1.trans h.2.1, g.2.2.1.trans h.2.2.1, Nat.le_trans h.2.2.2.1 g.2.2.2.1, fun k hk hn => (g.2.2.2.2 k (Nat.lt_of_lt_of_le hk h.2.2.2.1) hn).trans (h.2.2.2.2 k hk hn)⟩
theorem Off.below {P : Nat → Prop} {a b : World} {B : Nat} (h : Off P a b) (hB : B ≤ a.heap.size) (hP : ∀ k, k < B → ¬ P k) : Below B a b :=
  ⟨h.1, h.2.1, h.2.2.1, h.2.2.2.1, fun k hk => h.2.2.2.2 k (by omega) (hP k hk)⟩
theorem Four.off {P : Nat → Prop} {a b : World} {g : Nat} {c0 c1 c2 c3 : Value} (h : Four a g c0 c1 c2 c3) (ho : Off P a b) (hP : ¬ P g) : Four b g c0 c1 c2 c3 := by
  have hb := ho.2.2.2.2 g (lt_of_cell h.1) hP
  exact ⟨(World.cell?_of_block (w := a) hb).trans h.1, (World.cell?_of_block (w := a) hb).trans h.2.1, (World.cell?_of_block (w := a) hb).trans h.2.2.1, (World.cell?_of_block (w := a) hb).trans h.2.2.2⟩
theorem Own.off {P : Nat → Prop} {a b : World} {lo hi : Nat} {t : Tr} {v : Value} (h : Own a lo hi t v) (ho : Off P a b) (hP : ∀ k, lo ≤ k → k < hi → ¬ P k) : Own b lo hi t v :=
  h.keep (Nat.le_refl _) (Nat.le_refl _) (fun k h1 h2 h3 => ho.2.2.2.2 k h3 (hP k h1 h2))
theorem IRow.off {P : Nat → Prop} {a b : World} {g : Nat} {l : List Int} (h : IRow a g l) (ho : Off P a b) (hP : ¬ P g) : IRow b g l :=
  World.rowIs.of_block h (ho.2.2.2.2 g (World.rowIs.lt h) hP)
theorem IRow.still {a b : World} {g : Nat} {l : List Int} (h : IRow a g l) (ho : Below a.heap.size a b) : IRow b g l :=
  World.rowIs.of_block h (ho.block g (World.rowIs.lt h))

/-- How far the marks of a tree go, from 1 on. -/
def mkN (t : Tr) : Nat := 1 + 3 * Tr.cntL t.kids
theorem mkN_le {t : Tr} (h : t.wt ≤ 1048576) : mkN t ≤ 4000000 := by
  have h1 := Tr.cnt_le_wt t
  have h2 := cnt_eq t
  unfold mkN
  omega
theorem mark_one (t : Tr) (v : Value) (w : World) (lo hi : Nat) (h : Own w lo hi t v) (hhi : hi ≤ w.heap.size) (hwt : t.wt ≤ 1048576) :
    Calls Try.prog 14 #[t.val v, .int .i64 1] w fun e w' => e = .returned (.int .i64 (mkN t : Nat)) ∧ Out lo hi w w' ∧ Own w' lo hi (mk t 1) v :=
  mark_any t v w lo hi 1 h hhi (by decide) (by have := mkN_le hwt; unfold mkN at this; omega)
theorem held_one {lo hi : Nat} (t : Tr) (v : Value) (w : World) (h : Own w lo hi (mk t 1) v) (hwt : t.wt ≤ 1048576) :
    Calls Try.prog 16 #[t.val v, .int .i64 1] w fun e w' => e = .returned (.int .i64 (mkN t : Nat)) ∧ Below w.heap.size w w' :=
  held_any t t.name t.text t.leaf v w 1 (Own.lies h) (by decide) (by have := mkN_le hwt; unfold mkN at this; omega) _ _ _

set_option maxHeartbeats 6400000 in
theorem lawAt {S S' : Nat → Prop} (t : Tr) (l : List Int) (v pv : Value) (w : World) (hlies : Lies w S t v) (hp : Ints w S' l pv) :
    Calls Try.prog 3 #[t.val v, pv] w fun e w' => e = .returned (.bool true) ∧ Below w.heap.size w w' := by
  have hsz := fun (w' : World) (hw : Below w.heap.size w w') => sz_any t v w' 1048576 (hlies.still hw) (by omega) (by omega)
  have hto := fun (w' : World) (hw : Below w.heap.size w w') => toO_any t v w' (hlies.still hw)
  have hti := fun (w' : World) (hw : Below w.heap.size w w') => toInts_any l pv w' (hp.still hw)
  obtain ⟨a, len, cap, rfl⟩ := hlies.form
  obtain ⟨pa, pcap, pb, poff, rfl, hpc, hpm, _⟩ := hp
  have HS := (show Hid _ from hsz); clear hsz
  have HT := (show Hid _ from hto); clear hto
  have HTI := (show Hid _ from hti); clear hti
  unfold maxLen at hpm
  clear hlies
  simp only [Tr.val]
  by_cases hll : l.length ≤ 1048576
  · go_enter Try.func3, Try.ntmps3
    go_wp2_with fail
    refine Calls.mono (HS.out _ (bel_alloc _ _)) ?_
    rintro e w1 ⟨rfl, hb1⟩
    have hbw1 := bel_box hb1
    have FA1 := (four_box w (.string t.name) (.string t.text) (.bool t.leaf) (.slice a len cap) 24).still hb1
    by_cases hwt : (t.wt : Int) ≤ 1048576
    · rw [szR_yes hwt]
      have hwt' : t.wt ≤ 1048576 := by omega
      have hz : (0 : Int) ≤ 1048576 - t.wt := by omega
      have HFA := (show Hid _ from FA1)
      obtain ⟨A0, A1, A2, A3⟩ := FA1
      clear hb1
      have hrw := atR_wt t l
      have hI : ∀ (S S' : Nat → Prop) (v pv : Value) (w' : World), Lies w' S t v → Ints w' S' l pv → Calls Try.prog 11 #[t.val v, pv] w' fun e w'' => Ans (atR t l) w' e w'' := fun S S' v pv w' h1 h2 => iAt_any t l v pv w' h1 h2 hwt'
      have hS : ∀ (S S' : Nat → Prop) (v pv : Value) (w' : World), Lies w' S t v → Ints w' S' l pv → Calls Try.prog 8 #[t.val v, pv] w' fun e w'' => Ans (atR t l) w' e w'' := fun S S' v pv w' h1 h2 => sAt_any t l v pv w' h1 h2 hwt'
      have HI := (show Hid _ from hI); clear hI
      have HP := (show Hid _ from hS); clear hS
      generalize atR t l = r at *
      obtain ⟨R, C⟩ := r
      dsimp only at hrw
      have hneC : ((C : Int) != C) = false := by simp
      have hlm : l.length ≤ maxLen := by unfold maxLen; omega
      go_wp2_with fail
      refine Calls.mono (HT.out _ hbw1 hwt') ?_
      rintro e w2 ⟨v2, rfl, hb2, ho2⟩
      obtain ⟨a2, l2, p2, rfl⟩ := ho2.form
      have hbw2 := bel_trans hbw1 hb2
      go_wp2_with fail
      refine Calls.mono (HTI.out _ hbw2 hll) ?_
      rintro e w3 ⟨rfl, hb3, hi3⟩
      have hbw3 := bel_trans hbw2 hb3
      go_wp2_with fail
      refine Calls.mono (HP.out _ _ _ _ w3 (ho2.lies.still hb3) (hi3.ints hlm)) ?_
      rintro e w4 ⟨a4, m4, c4, rfl, hb4, ho4⟩
      dsimp only at ho4 ⊢
      have hbw4 := bel_trans hbw3 hb4
      have FA4 := (Four.still HFA.out (bel_trans (bel_trans hb2 hb3) hb4)).still (bel_alloc w4 (.cells #[.string R.name, .string R.text, .bool R.leaf, .slice a4 m4 c4] 29))
      clear A0 A1 A2 A3 HFA ho2 hi3 hb2 hb3
      have hs4 := hb4.size
      have HFA := (show Hid _ from FA4)
      obtain ⟨A0, A1, A2, A3⟩ := FA4
      have HO4 := (show Hid _ from ho4.still (bel_alloc w4 (.cells #[.string R.name, .string R.text, .bool R.leaf, .slice a4 m4 c4] 29)))
      have HF6 := (show Hid _ from four_box w4 (.string R.name) (.string R.text) (.bool R.leaf) (.slice a4 m4 c4) 29)
      clear ho4 hb4
      go_wp2_with fail
      refine Calls.mono (HT.out _ (bel_trans hbw4 (bel_alloc _ _)) hwt') ?_
      rintro e w5 ⟨v5, rfl, hb5, ho5⟩
      obtain ⟨a5, l5, p5, rfl⟩ := ho5.form
      have hbw5 := bel_trans (bel_trans hbw4 (bel_alloc _ _)) hb5
      have hs5 := hb5.size
      simp only [World.size_alloc] at ho5 hs5
      have HO5 := (show Hid _ from ho5.still (bel_alloc w5 (.cells #[.string t.name, .string t.text, .bool t.leaf, .slice a5 l5 p5] 29)))
      have HF8 := (show Hid _ from four_box w5 (.string t.name) (.string t.text) (.bool t.leaf) (.slice a5 l5 p5) 29)
      have hb5' := bel_trans hb5 (bel_alloc w5 (.cells #[.string t.name, .string t.text, .bool t.leaf, .slice a5 l5 p5] 29))
      have HFA5 := (show Hid _ from Four.still HFA.out hb5')
      have HF65 := (show Hid _ from Four.still HF6.out hb5')
      have HO45 := (show Hid _ from Own.still HO4.out hb5')
      clear A0 A1 A2 A3 HFA HF6 HO4 ho5 hb5 hb5'
      go_wp2_with fail
      refine Calls.mono (HTI.out _ (bel_trans hbw5 (bel_alloc _ _)) hll) ?_
      rintro e w6 ⟨rfl, hb6, hi6⟩
      have hbw6 := bel_trans (bel_trans hbw5 (bel_alloc _ _)) hb6
      have hs6 := hb6.size
      simp only [World.size_alloc] at hi6 hs6 ⊢
      have HFA6 := (show Hid _ from Four.still HFA5.out hb6)
      have HF66 := (show Hid _ from Four.still HF65.out hb6)
      have HF86 := (show Hid _ from Four.still HF8.out hb6)
      have HO46 := (show Hid _ from Own.still HO45.out hb6)
      have HO56 := (show Hid _ from Own.still HO5.out hb6)
      obtain ⟨B0, B1, B2, B3⟩ := Four.still HF8.out hb6
      have HI6 := (show Hid _ from hi6)
      clear HFA5 HF65 HF8 HO45 HO5 hb6 hi6
      go_wp2_with fail
      refine Calls.mono (HI.out _ _ _ _ w6 (Own.lies HO56.out) (IRow.ints HI6.out hlm)) ?_
      rintro e w7 ⟨a7, m7, c7, rfl, hb7, ho7⟩
      dsimp only at ho7 ⊢
      have hs7 := hb7.size
      have hb7' := bel_trans hb7 (bel_alloc w7 (.cells #[.string R.name, .string R.text, .bool R.leaf, .slice a7 m7 c7] 29))
      have hbw7 := bel_trans hbw6 hb7'
      have FA := (show Hid _ from Four.still HFA6.out hb7')
      have F6 := (show Hid _ from Four.still HF66.out hb7')
      have F8 := (show Hid _ from Four.still HF86.out hb7')
      have O4 := (show Hid _ from Own.still HO46.out hb7')
      have O5 := (show Hid _ from Own.still HO56.out hb7')
      have I6 := (show Hid _ from IRow.still HI6.out hb7')
      have O7 := (show Hid _ from ho7.still (bel_alloc w7 (.cells #[.string R.name, .string R.text, .bool R.leaf, .slice a7 m7 c7] 29)))
      have F10 := (show Hid _ from four_box w7 (.string R.name) (.string R.text) (.bool R.leaf) (.slice a7 m7 c7) 29)
      clear HFA6 HF66 HF86 HO46 HO56 ho7 hb7' hb7 B0 B1 B2 B3
      have hsb : (w7.alloc (.cells #[.string R.name, .string R.text, .bool R.leaf, .slice a7 m7 c7] 29)).heap.size = w7.heap.size + 1 := World.size_alloc _ _
      have i6l := World.rowIs.lt HI6.out
      have g3 := hbw3.size
      have HSZ := (show Hid _ from (⟨g3, hs4, hs5, i6l, hs6, hs7, hsb⟩ : _ ∧ _ ∧ _ ∧ _ ∧ _ ∧ _ ∧ _))
      clear g3 hs4 hs5 i6l hs6 hs7 hsb
      obtain ⟨B0, B1, B2, B3⟩ := F6.out
      obtain ⟨D0, D1, D2, D3⟩ := F10.out
      go_wp2_with fail
      generalize hwb : w7.alloc (.cells #[.string R.name, .string R.text, .bool R.leaf, .slice a7 m7 c7] 29) = wb at *
      clear hwb B0 B1 B2 B3 D0 D1 D2 D3
      refine Calls.mono (eq_any R _ _ wb (Own.lies O7.out) (Own.lies O4.out)) ?_
      rintro e w8 ⟨rfl, hb8⟩
      have hbw8 := bel_trans hbw7 hb8
      have h10 := HT.out w8.drew hbw8.drew hwt'
      have FX := (show Hid _ from Four.still F8.out hb8)
      have OX := (show Hid _ from Own.still O5.out hb8)
      have h12 : ∀ (w9 : World) (v9 : Value), Below w8.drew.heap.size w8.drew w9 → Lies w9 (fun b => w8.drew.heap.size ≤ b ∧ b < w9.heap.size) t v9 →
          Calls Try.prog 12 #[t.val (.slice a5 l5 p5), t.val v9] w9 fun e w' => e = .returned (.bool true) ∧ Below w9.heap.size w9 w' :=
        fun w9 v9 hb hl => eq_any t _ _ w9 (Lies.still (Own.lies OX.out) (((Below.refl _ _).drew).trans hb)) hl
      have H10 := (show Hid _ from h10); clear h10
      have H12 := (show Hid _ from h12); clear h12
      obtain ⟨A0, A1, A2, A3⟩ := Four.still FA.out hb8
      obtain ⟨X0, X1, X2, X3⟩ := Four.still F8.out hb8
      go_wp2_with fail
      go_region_with (first
        | (go_at_call 9; refine Calls.mono (H10.out) ?_; rintro e w9 ⟨v9, rfl, hb9, ho9⟩; obtain ⟨a9, l9, p9, rfl⟩ := ho9.form; obtain ⟨Y0, Y1, Y2, Y3⟩ := Four.still FX.out (Below.trans ((Below.refl _ _).drew) hb9))
        | (go_at_call 12; refine Calls.mono (H12.out _ _ hb9 ho9.lies) ?_; rintro e w10 ⟨rfl, hb10⟩))
      all_goals
        have hx10 : Below wb.heap.size wb w10 := bel_trans (bel_trans hb8 (((Below.refl w8.heap.size w8).drew).trans hb9)) hb10
        clear A0 A1 A2 A3 X0 X1 X2 X3 Y0 Y1 Y2 Y3 hb9 hb10 ho9 hb8 hbw8 FX OX H10 H12
        have hbw10 := bel_trans hbw7 hx10
        go_wp2_with fail
        refine Calls.mono (HTI.out _ hbw10 hll) ?_
        rintro e w11 ⟨rfl, hb11, hi11⟩
        have hx11 := bel_trans hx10 hb11
        go_wp2_with fail
        refine Calls.mono (eqInts_any l _ _ w11 (IRow.ints (IRow.still I6.out hx11) hlm) (hi11.ints hlm)) ?_
        rintro e w12 ⟨rfl, hb12⟩
        have hx12 := bel_trans hx11 hb12
        have hbw12 := bel_trans hbw7 hx12
        have hs12 := hx12.size
        clear hx10 hx11 hb11 hi11 hb12 hbw10
        obtain ⟨g3, hs4, hs5, i6l, hs6, hs7, hsb⟩ := HSZ.out
        obtain ⟨X0, X1, X2, X3⟩ := Four.still F8.out hx12
        go_wp2_with fail
        refine Calls.mono (mark_one t _ w12 (w4.heap.size + 1) w5.heap.size (Own.still O5.out hx12) (by omega) hwt') ?_
        rintro e w13 ⟨rfl, hu13, _⟩
        have hn1 := mkN_le hwt'
        generalize mkN t = n1 at *
        clear X0 X1 X2 X3
        have hs13 := hu13.2.2.2.1
        have hoff13 : Off (fun k => (w4.heap.size + 1 ≤ k ∧ k < w5.heap.size) ∨ k = w5.heap.size + 1 ∨ (w6.heap.size ≤ k ∧ k < w7.heap.size)) wb w13 := (Off.of_below hx12).trans (Off.of_out hu13 (fun k h1 h2 => .inl ⟨h1, h2⟩))
        have hu13' : Out (w4.heap.size + 1) w5.heap.size wb w13 := (Out.of_below hx12).trans hu13
        have i13 : IRow w13 (w5.heap.size + 1) l := World.rowIs.of_block I6.out (hu13'.2.2.2.2 _ (World.rowIs.lt I6.out) (by omega))
        clear hu13 hx12
        have HI13 := (show Hid _ from i13); clear i13
        go_wp2_with fail
        refine Calls.mono (markInts_any l _ n1 w13 HI13.out hll (by omega)) ?_
        rintro e w14 ⟨rfl, hu14⟩
        generalize hn2 : n1 + l.length = n2 at *
        have hn2' : n2 ≤ 67108864 := by omega
        clear hn2
        have hs14 := hu14.2.2.2.1
        have hoff14 := hoff13.trans (Off.of_out hu14 (fun k h1 h2 => .inr (.inl (by omega))))
        have f6 := Four.off F6.out hoff14 (by omega)
        have f10 := Four.off F10.out hoff14 (by omega)
        have hu14' : Off (fun k => (w4.heap.size + 1 ≤ k ∧ k < w5.heap.size) ∨ k = w5.heap.size + 1) wb w14 := (Off.of_out hu13' (fun k h1 h2 => .inl ⟨h1, h2⟩)).trans (Off.of_out hu14 (fun k h1 h2 => .inr (by omega)))
        have o7 := Own.off O7.out hu14' (fun k h1 h2 => by omega)
        have o4 := Own.off O4.out hu14' (fun k h1 h2 => by omega)
        obtain ⟨B0, B1, B2, B3⟩ := f6
        obtain ⟨D0, D1, D2, D3⟩ := f10
        have HO7 := (show Hid _ from o7); clear o7
        have HO4 := (show Hid _ from o4); clear o4
        clear hu14 hu13' hoff13
        go_wp2_with fail
        refine Calls.mono (eq_any R _ _ w14 (Own.lies HO7.out) (Own.lies HO4.out)) ?_
        rintro e w15 ⟨rfl, hb15⟩
        have hs15 := hb15.size
        have hoff15 := hoff14.trans (Off.of_below hb15)
        clear B0 B1 B2 B3 D0 D1 D2 D3
        obtain ⟨D0, D1, D2, D3⟩ := Four.off F10.out hoff15 (by omega)
        go_wp2_with fail
        refine Calls.mono (mark_one R _ w15 w6.heap.size w7.heap.size (Own.still HO7.out hb15) (by omega) (by omega)) ?_
        rintro e w16 ⟨rfl, hu16, ho16⟩
        have hn3 := mkN_le (t := R) (by omega)
        have hheld := fun (w' : World) (hw : Below w16.heap.size w16 w') => held_one R _ w' (ho16.still hw) (by omega)
        have HH := (show Hid _ from hheld); clear hheld
        generalize mkN R = M at *
        have hneM : ((M : Int) != M) = false := by simp
        have hs16 := hu16.2.2.2.1
        have hoff16 := hoff15.trans (Off.of_out hu16 (fun k h1 h2 => .inr (.inr ⟨h1, h2⟩)))
        clear hoff14 hoff15 hb15 hu16 ho16 D0 D1 D2 D3 hu14'
        have f10 := Four.off F10.out hoff16 (by omega)
        have f6 := Four.off F6.out hoff16 (by omega)
        have fA := Four.off FA.out hoff16 (by omega)
        have o4 := Own.off O4.out hoff16 (fun k h1 h2 => by omega)
        have hbw16 := hbw7.trans (hoff16.below (by omega) (fun k hk => by omega))
        clear O4 HO4 HO7 O7 O5 I6 F8 hoff16
        have O4 := (show Hid _ from o4); clear o4
        have F10 := (show Hid _ from f10)
        have F6 := (show Hid _ from f6); clear f6
        have FA := (show Hid _ from fA)
        obtain ⟨D0, D1, D2, D3⟩ := f10
        go_wp2_with fail
        refine Calls.mono (HH.out _ (Below.refl _ _)) ?_
        rintro e w17 ⟨rfl, hb17⟩
        clear D0 D1 D2 D3
        have hbw17 := bel_trans hbw16 hb17
        obtain ⟨A0, A1, A2, A3⟩ := Four.still FA.out hb17
        go_wp2_with fail
        refine Calls.mono (HT.out _ hbw17 hwt') ?_
        rintro e w18 ⟨v18, rfl, hb18, ho18⟩
        obtain ⟨a18, l18, p18, rfl⟩ := ho18.form
        have hbw18 := bel_trans hbw17 hb18
        clear A0 A1 A2 A3
        go_wp2_with fail
        refine Calls.mono (HTI.out _ hbw18 hll) ?_
        rintro e w19 ⟨rfl, hb19, hi19⟩
        have hbw19 := bel_trans hbw18 hb19
        go_wp2_with fail
        refine Calls.mono (HI.out _ _ _ _ w19 (ho18.lies.still hb19) (hi19.ints hlm)) ?_
        rintro e w20 ⟨a20, m20, c20, rfl, hb20, ho20⟩
        dsimp only at ho20 ⊢
        have hx20 := bel_trans (bel_trans (bel_trans (bel_trans hb17 hb18) hb19) hb20) (bel_alloc w20 (.cells #[.string R.name, .string R.text, .bool R.leaf, .slice a20 m20 c20] 29))
        have hbw20 := bel_trans hbw16 hx20
        have o20 := ho20.still (bel_alloc w20 (.cells #[.string R.name, .string R.text, .bool R.leaf, .slice a20 m20 c20] 29))
        have O20 := (show Hid _ from o20)
        clear hb17 hb18 hb19 hb20 ho20 o20 ho18 hi19 hbw17 hbw18 hbw19
        obtain ⟨B0, B1, B2, B3⟩ := Four.still F6.out hx20
        obtain ⟨E0, E1, E2, E3⟩ := four_box w20 (.string R.name) (.string R.text) (.bool R.leaf) (.slice a20 m20 c20) 29
        go_wp2_with fail
        generalize hwc : w20.alloc (.cells #[.string R.name, .string R.text, .bool R.leaf, .slice a20 m20 c20] 29) = wc at *
        clear hwc B0 B1 B2 B3 E0 E1 E2 E3
        refine Calls.mono (eq_any R _ _ wc (Own.lies O20.out) (Lies.still (Own.lies O4.out) hx20)) ?_
        rintro e w21 ⟨rfl, hb21⟩
        have hx21 := bel_trans hx20 hb21
        obtain ⟨D0, D1, D2, D3⟩ := Four.still F10.out hx21
        go_wp2_with fail
        refine Calls.mono (HH.out _ hx21) ?_
        rintro e w22 ⟨rfl, hb22⟩
        have hbw22 := bel_trans hbw16 (bel_trans hx21 hb22)
        clear D0 D1 D2 D3
        go_wp2_with fail
        go_ret
        exact ⟨rfl, hbw22⟩
    · rw [szR_no (by omega)]
      go_wp2_with fail
      go_ret
      exact ⟨rfl, hbw1⟩
  · have hll' : (1048576 : Int) < l.length := by omega
    go_enter Try.func3, Try.ntmps3
    go_wp2_with fail
    go_ret
    exact ⟨rfl, bel_alloc _ _⟩
end Go.Proofs.Ythmdoplickpmaai
