import Derived.Test.YteomgkcgjkbppaaKr
/-! The program's reader of plans: brackets, and parts with a sign between them. -/
namespace Go.Proofs.Yteomgkcgjkbppaa
open Go.RowKit Go.Deep Go.Lib Go.ChangeShapes Go.WideShapes
set_option linter.unusedVariables false
set_option maxRecDepth 100000
set_option linter.unusedSimpArgs false

/-- What a reading of the program leaves. -/
def PdA (p : Nat) (s : ByteArray) (rv : Value) (R : Bool × Nat) (w : World) (e : Ending) (w' : World) : Prop :=
  But p w w' ∧ (R.1 = true → ∃ (T : TypeId) (u : Value), e = .returned (.iface T u) ∧ PB w' p s R.2 rv ∧ R.2 ≤ s.size) ∧ (R.1 = false → e = .panicked [flt R.2])
/-- A reading of the program by so much fuel does as is asked. -/
def PdC (w0 : World) (p : Nat) (rv : Value) (s : ByteArray) (rn : ByteArray → Bool) (F k f : Nat) : Prop :=
  ∀ (i : Nat) (w : World) (R : Bool × Nat), PB w p s i rv → i ≤ s.size → Below w0.heap.size w0 w → rd s rn f k i = some R → Calls Try.prog F #[.pointer (some ⟨p, 0, none⟩)] w (PdA p s rv R w)
theorem pd_yes {p : Nat} {s : ByteArray} {rv : Value} {R : Bool × Nat} {w w' : World} {T : TypeId} {u : Value} {j : Nat} (hR : R = (true, j)) (h1 : But p w w') (h2 : PB w' p s j rv) (h3 : j ≤ s.size) : PdA p s rv R w (.returned (.iface T u)) w' := by
  subst hR
  exact ⟨h1, fun _ => ⟨T, u, rfl, h2, h3⟩, fun h => (by cases h)⟩
theorem pd_no {p : Nat} {s : ByteArray} {rv : Value} {R : Bool × Nat} {w w' : World} {j : Nat} (hR : R = (false, j)) (h1 : But p w w') : PdA p s rv R w (.panicked [flt j]) w' := by
  subst hR
  exact ⟨h1, fun h => by (cases h), fun _ => rfl⟩
set_option maxHeartbeats 1600000 in
theorem bracketed120 {w0 : World} {p : Nat} {rv : Value} {s : ByteArray} {rn : ByteArray → Bool} {f : Nat} (hs : s.size ≤ 300) (hp : w0.heap.size ≤ p) (ih : PdC w0 p rv s rn 105 2 f) : PdC w0 p rv s rn 121 3 (f + 1) := by
  intro i w R hbx hi hb0 hrd
  have hpl := hbx.lt
  have HS := (show Hid _ from sign117 s 40 i p rv w hbx hs hi (by omega))
  unfold PsA at HS
  have HIH := (show Hid _ from ih)
  have HB0 := (show Hid _ from hb0)
  have HYES := (show Hid (∀ (T : TypeId) (u : Value) (j : Nat) (w' : World), R = (true, j) → But p w w' → PB w' p s j rv → j ≤ s.size → PdA p s rv R w (.returned (.iface T u)) w') from fun T u j w' h1 h2 h3 h4 => pd_yes h1 h2 h3 h4)
  have HNO := (show Hid (∀ (j : Nat) (w' : World), R = (false, j) → But p w w' → PdA p s rv R w (.panicked [flt j]) w') from fun j w' h1 h2 => pd_no h1 h2)
  rw [rd] at hrd
  have HRD := (show Hid _ from hrd)
  clear hrd hbx hb0 ih
  by_cases h40 : bt s i = 40
  case neg =>
    have HR := (show Hid (R = (false, i)) from (by
      have := HRD.out
      rw [if_neg h40] at this
      injection this with this
      exact this.symm))
    rw [show decide (bt s i = ((40 : Nat) : Int)) = false from decide_eq_false h40] at HS
    clear HRD HIH h40
    go_enter Try.func121, Try.ntmps121
    go_wp2_with fail
    refine Calls.mono HS.out ?_
    rintro e w1 ⟨ht1, _, h1⟩
    obtain rfl := h1 (by first | rfl | trivial)
    have HT := (show Hid _ from ht1)
    clear ht1 HS h1
    go_wp2_with fail
    exact ⟨rfl, HNO.out _ _ HR.out HT.out⟩
  case pos =>
    have hil := bt_lt h40 (by omega)
    have hx : sk s (i + 1) ≤ s.size := past_size hil
    have hr2 := HRD.out
    rw [if_pos h40] at hr2
    rw [show decide (bt s i = ((40 : Nat) : Int)) = true from decide_eq_true h40] at HS
    clear HRD h40
    cases hr : rd s rn f 2 (sk s (i + 1)) with
    | none => rw [hr] at hr2; cases hr2
    | some R1 =>
      rw [hr] at hr2
      obtain ⟨b1, j1⟩ := R1
      have HRR := (show Hid _ from hr)
      have HR2 := (show Hid _ from hr2)
      clear hr hr2
      go_enter Try.func121, Try.ntmps121
      go_wp2_with fail
      refine Calls.mono HS.out ?_
      rintro e w1 ⟨ht1, h1, _⟩
      obtain ⟨rfl, hb1⟩ := h1 (by first | rfl | trivial)
      have HCL := (show Hid _ from HIH.out (sk s (i + 1)) w1 (b1, j1) hb1 hx (But.below' ht1 HB0.out hp) HRR.out)
      unfold PdA at HCL
      have HT := (show Hid _ from ht1)
      clear ht1 HS h1 hb1 HIH HRR
      go_wp2_with fail
      refine Calls.mono HCL.out ?_
      rintro e w2 ⟨ht2, h2, h2'⟩
      have HT2 := (show Hid _ from But.trans HT.out ht2)
      clear ht2 HCL HT
      cases b1 with
      | false =>
        obtain rfl := h2' (by first | rfl | trivial)
        have HR := (show Hid (R = (false, j1)) from (by
          have := HR2.out
          simp only at this
          injection this with this
          exact this.symm))
        clear h2 h2' HR2
        go_wp2_with fail
        exact ⟨rfl, HNO.out _ _ HR.out HT2.out⟩
      | true =>
        obtain ⟨T2, u2, rfl, hb2, hj1⟩ := h2 (by first | rfl | trivial)
        have hj1' : j1 ≤ s.size := hj1
        have HS2 := (show Hid _ from sign117 s 41 j1 p rv w2 hb2 hs hj1' (by omega))
        unfold PsA at HS2
        clear h2 h2' hb2 hj1
        by_cases h41 : bt s j1 = 41
        · have hjl := bt_lt h41 (by omega)
          have HX := (show Hid (sk s (j1 + 1) ≤ s.size) from past_size hjl)
          have HR := (show Hid (R = (true, sk s (j1 + 1))) from (by
            have := HR2.out
            simp only at this
            rw [if_pos h41] at this
            injection this with this
            exact this.symm))
          rw [show decide (bt s j1 = ((41 : Nat) : Int)) = true from decide_eq_true h41] at HS2
          clear h41 HR2
          go_wp2_with fail
          refine Calls.mono HS2.out ?_
          rintro e w3 ⟨ht3, h3, _⟩
          obtain ⟨rfl, hb3⟩ := h3 (by first | rfl | trivial)
          have HT3 := (show Hid _ from But.trans HT2.out ht3)
          have HB3 := (show Hid _ from hb3)
          clear ht3 h3 hb3 HS2 HT2
          go_wp2_with fail
          go_ret
          exact HYES.out _ _ _ _ HR.out HT3.out HB3.out HX.out
        · have HR := (show Hid (R = (false, j1)) from (by
            have := HR2.out
            simp only at this
            rw [if_neg h41] at this
            injection this with this
            exact this.symm))
          rw [show decide (bt s j1 = ((41 : Nat) : Int)) = false from decide_eq_false h41] at HS2
          clear h41 HR2
          go_wp2_with fail
          refine Calls.mono HS2.out ?_
          rintro e w3 ⟨ht3, _, h3⟩
          obtain rfl := h3 (by first | rfl | trivial)
          have HT3 := (show Hid _ from But.trans HT2.out ht3)
          clear ht3 h3 HS2 HT2
          go_wp2_with fail
          exact ⟨rfl, HNO.out _ _ HR.out HT3.out⟩
/-- What is still to be read behind a part. -/
def PtP (s : ByteArray) (R : Bool × Nat) (sg : Int) (r : Nat → Nat → Option (Bool × Nat)) (g y : Nat) : Prop := (if bt s y = sg then r g (sk s (y + 1)) else some (true, y)) = some R
/-- What stands while the program reads parts. -/
def PtJ (p : Nat) (rv : Value) (s : ByteArray) (w : World) (R : Bool × Nat) (sg : Int) (r : Nat → Nat → Option (Bool × Nat)) (f g y n : Nat) (u : Value) (wr : World) : Prop :=
  g ≤ f ∧ n + g ≤ f + 1 ∧ y ≤ s.size ∧ PB wr p s y rv ∧ But p w wr ∧ (∃ xs, wr.ownsRow w.heap.size 107 1 u n xs) ∧ PtP s R sg r g y
theorem own_one7 (w : World) (v : Value) {B : Nat} (hB : B ≤ w.heap.size) : (w.alloc (.cells #[v] 107)).ownsRow B 107 1 (.slice (some ⟨w.heap.size, 0, none⟩) 1 1) 1 [v] :=
  ⟨rfl, .inr ⟨w.heap.size, 1, #[v], rfl, hB, blk_alloc_new _ _, Nat.le_refl _, by unfold maxLen; omega, rfl, rfl⟩⟩
theorem info107s : (Try.prog.info? 107).map (fun i => (i.zero, i.size, i.bytes)) = some (some .nilIface, 1, 16) := by kernel_rfl
theorem sees_own {w w' : World} {B p n : Nat} {u : Value} {xs : List Value} (h : w.ownsRow B 107 1 u n xs) (hb : But p w w') (hp : p < B) : w'.ownsRow B 107 1 u n xs :=
  own_keep1 h (fun q hq => hb.block (World.ownsRow.lt h q hq).2 (by have := (World.ownsRow.lt h q hq).1; omega))
/-- What parted leaves. -/
def PqA (p : Nat) (s : ByteArray) (rv : Value) (R : Bool × Nat) (w : World) (e : Ending) (w' : World) : Prop :=
  But p w w' ∧ (R.1 = true → ∃ (a : Option Addr) (l c : Nat), e = .returned (.slice a l c) ∧ PB w' p s R.2 rv ∧ R.2 ≤ s.size) ∧ (R.1 = false → e = .panicked [flt R.2])
theorem pstep1 {s : ByteArray} {rn : ByteArray → Bool} {f x : Nat} {R : Bool × Nat} (h : rd s rn (f + 1) 1 x = some R) : ∃ R1, rd s rn f 0 x = some R1 ∧ (R1.1 = true → PtP s R 59 (fun g x => rd s rn g 1 x) f R1.2) ∧ (R1.1 = false → R = R1) := by
  rw [rd] at h
  cases e : rd s rn f 0 x with
  | none => rw [e] at h; cases h
  | some R1 =>
    rw [e] at h
    obtain ⟨b, j⟩ := R1
    refine ⟨_, rfl, fun h1 => ?_, fun h1 => ?_⟩
    · simp only at h1
      subst h1
      exact h
    · simp only at h1
      subst h1
      simp only at h
      injection h with h
      exact h.symm
theorem pyes1 {s : ByteArray} {rn : ByteArray → Bool} {g y : Nat} {R : Bool × Nat} (h : PtP s R 59 (fun g x => rd s rn g 1 x) g y) (hsg : bt s y = 59) : ∃ g' R', g = g' + 1 ∧ rd s rn g' 0 (sk s (y + 1)) = some R' ∧ (R'.1 = true → PtP s R 59 (fun g x => rd s rn g 1 x) g' R'.2) ∧ (R'.1 = false → R = R') := by
  unfold PtP at h
  rw [if_pos hsg] at h
  cases g with
  | zero => simp only [rd] at h; cases h
  | succ g' =>
    obtain ⟨R1, q1, q2⟩ := pstep1 h
    exact ⟨g', R1, rfl, q1, q2⟩
set_option maxHeartbeats 3200000 in
theorem partedS {w0 : World} {p : Nat} {rv : Value} {s : ByteArray} {rn : ByteArray → Bool} {f : Nat} (hs : s.size ≤ 300) (hp : w0.heap.size ≤ p) (hf : f ≤ 100000) (ih : ∀ g, g ≤ f → PdC w0 p rv s rn 119 0 g) (i : Nat) (w : World) (R : Bool × Nat) (hbx : PB w p s i rv) (hi : i ≤ s.size) (hb0 : Below w0.heap.size w0 w) (hrd : rd s rn (f + 1) 1 i = some R) :
    Calls Try.prog 114 #[.pointer (some ⟨p, 0, none⟩), .int .u8 59, .func (.func 119) #[.pointer (some ⟨p, 0, none⟩)] #[]] w (PqA p s rv R w) := by
  have hpl := hbx.lt
  have HIH := (show Hid _ from ih)
  have HB0 := (show Hid _ from hb0)
  obtain ⟨R1, hr1, hT1, hF1⟩ := pstep1 hrd
  have HCL := (show Hid _ from ih f (Nat.le_refl _) i w R1 hbx hi hb0 hr1)
  unfold PdA at HCL
  have HT1 := (show Hid _ from hT1)
  have HF1 := (show Hid _ from hF1)
  have HYES := (show Hid (∀ (a : Option Addr) (l c j : Nat) (w' : World), R = (true, j) → But p w w' → PB w' p s j rv → j ≤ s.size → PqA p s rv R w (.returned (.slice a l c)) w') from fun a l c j w' h1 h2 h3 h4 => by
    subst h1
    exact ⟨h2, fun _ => ⟨a, l, c, rfl, h3, h4⟩, fun h => (by cases h)⟩)
  have HNO := (show Hid (∀ (R' : Bool × Nat) (w' : World), R'.1 = false → R = R' → But p w w' → PqA p s rv R w (.panicked [flt R'.2]) w') from fun R' w' h0 h1 h2 => by
    subst h1
    exact ⟨h2, fun h => by (rw [h0] at h; cases h), fun _ => rfl⟩)
  obtain ⟨i2, hi2, hz0, hz1, hz2⟩ := info_parts info107s
  clear hbx hb0 ih hrd hr1 hT1 hF1
  go_enter Try.func114, Try.ntmps114
  go_wp2_with fail
  go_at_call 119
  refine Calls.mono HCL.out ?_
  rintro e w2 ⟨hbt2, h2, h2'⟩
  cases hb1 : R1.1 with
  | false =>
    obtain rfl := h2' hb1
    have HB2 := (show Hid _ from hbt2)
    have HE := (show Hid _ from HNO.out R1 w2 hb1 (HF1.out hb1) hbt2)
    clear h2 h2' hbt2 HCL hb1
    go_wp2_with fail
    exact ⟨rfl, HE.out⟩
  | true =>
    obtain ⟨T2, u2, rfl, hb2, hj⟩ := h2 hb1
    have HI2 := (show Hid (PtJ p rv s w R 59 (fun g x => rd s rn g 1 x) f f R1.2 1 (.slice (some ⟨w2.heap.size, 0, none⟩) 1 1) (w2.alloc (.cells #[.iface T2 u2] 107))) from (by
      refine ⟨Nat.le_refl _, by omega, hj, hb2.still (bel_alloc _ _), hbt2.still (bel_alloc _ _), ⟨_, own_one7 w2 _ hbt2.size⟩, HT1.out hb1⟩))
    clear hb2 hbt2 HCL HT1 HF1 h2 h2' hj hb1
    go_wp2_with fail
    go_loopw [7] (fun u wr => ∃ (g y n : Nat) (la : Option Addr) (lc : Nat), u = .slice la n lc ∧ Hid (PtJ p rv s w R 59 (fun g x => rd s rn g 1 x) f g y n (.slice la n lc) wr)) (fun u _ => f + 2 - lenV u)
    case atStart => exact ⟨f, R1.2, 1, _, _, rfl, HI2⟩
    case round =>
      obtain ⟨g, y, n, la, lc, rfl, HI⟩ := hrel
      clear HI2
      obtain ⟨hg, hn, hy, hbx, hbt, ⟨xs, hown⟩, hT⟩ := HI.out
      have HS := (show Hid _ from sees113 s 59 y p rv wr hbx hs)
      have HBT := (show Hid (But p w wr) from hbt)
      have HOW := (show Hid (wr.ownsRow w.heap.size 107 1 (.slice la n lc) n xs) from hown)
      have HT := (show Hid _ from hT)
      clear hbx hbt hown hT HI
      by_cases hsg : bt s y = 59
      · have hys := bt_lt hsg (by omega)
        have hx : sk s (y + 1) ≤ s.size := past_size hys
        obtain ⟨g', R', e1, e2, e3, e4⟩ := pyes1 HT.out hsg
        rw [show decide (bt s y = ((59 : Nat) : Int)) = true from decide_eq_true hsg] at HS
        have HT2 := (show Hid _ from e3)
        have HF2 := (show Hid _ from e4)
        have HR2 := (show Hid _ from e2)
        have HSG := (show Hid _ from hsg)
        clear e2 e3 e4 HT hsg
        go_wp2_with fail
        refine Calls.mono HS.out ?_
        rintro e w3 ⟨rfl, hb3, hbt3⟩
        have HS2 := (show Hid _ from sign117 s 59 y p rv w3 hb3 hs hy (by omega))
        unfold PsA at HS2
        rw [show decide (bt s y = ((59 : Nat) : Int)) = true from decide_eq_true HSG.out] at HS2
        have HB3 := (show Hid (But p w w3) from But.trans HBT.out hbt3)
        have HO3 := (show Hid (w3.ownsRow w.heap.size 107 1 (.slice la n lc) n xs) from sees_own HOW.out hbt3 hpl)
        clear hb3 hbt3 HS HBT HOW
        go_wp2_with fail
        refine Calls.mono HS2.out ?_
        rintro e w4 ⟨hbt4, h4, _⟩
        obtain ⟨rfl, hb4⟩ := h4 (by first | rfl | trivial)
        have hB4 := But.trans HB3.out hbt4
        have HCL := (show Hid _ from HIH.out g' (by omega) (sk s (y + 1)) w4 R' hb4 hx (But.below' hB4 HB0.out hp) HR2.out)
        unfold PdA at HCL
        have HB4 := (show Hid (But p w w4) from hB4)
        have HO4 := (show Hid (w4.ownsRow w.heap.size 107 1 (.slice la n lc) n xs) from sees_own HO3.out hbt4 hpl)
        clear hbt4 h4 hb4 hB4 HS2 HB3 HO3 HR2
        go_wp2_with fail
        go_at_call 119
        refine Calls.mono HCL.out ?_
        rintro e w5 ⟨hbt5, h5, h5'⟩
        cases hb1 : R'.1 with
        | false =>
          obtain rfl := h5' hb1
          have HE := (show Hid _ from HNO.out R' w5 hb1 (HF2.out hb1) (But.trans HB4.out hbt5))
          clear h5 h5' hbt5 HCL hb1
          go_wp2_with fail
          exact ⟨rfl, HE.out⟩
        | true =>
          obtain ⟨T5, u5, rfl, hb5, hj5⟩ := h5 hb1
          have hO5 := sees_own HO4.out hbt5 hpl
          have HO6 := (show Hid ((w5.alloc (.cells #[.iface T5 u5] 107)).ownsRow w.heap.size 107 1 (.slice la n lc) n xs) from own_still hO5 (bel_alloc _ _))
          have hB6 : But p w (w5.alloc (.cells #[.iface T5 u5] 107)) := (But.trans HB4.out hbt5).still (bel_alloc _ _)
          have hz6 : w.heap.size ≤ w5.heap.size := (But.trans HB4.out hbt5).size
          have HUP := (show Hid (∀ (g7 cap7 : Nat) (w7 : World), w7.ownsRow w.heap.size 107 1 (.slice (some ⟨g7, 0, none⟩) (n + 1) cap7) (n + 1) (xs ++ [.iface T5 u5]) → (w5.alloc (.cells #[.iface T5 u5] 107)).grownBy w7 (Value.slice la n lc).ownBlock → PtJ p rv s w R 59 (fun g x => rd s rn g 1 x) f g' R'.2 (n + 1) (.slice (some ⟨g7, 0, none⟩) (n + 1) cap7) w7) from fun g7 cap7 w7 q1 q2 => by
            have hne : ∀ q, (Value.slice la n lc).ownBlock = some q → w.heap.size ≤ q := fun q hq => (World.ownsRow.lt HO6.out q hq).1
            have hkp : ∀ q, q < w.heap.size → w7.heap[q]? = (w5.alloc (.cells #[.iface T5 u5] 107)).heap[q]? := fun q hq => q2.block q (by simp; omega) (fun e => by have := hne q e.symm; omega)
            refine ⟨by omega, by omega, hj5, (hb5.still (bel_alloc _ _)).keep (hkp p (by omega)), ?_, ⟨_, q1⟩, HT2.out hb1⟩
            exact ⟨q2.os.trans hB6.1, q2.tape.trans hB6.2.1, q2.output.trans hB6.2.2.1, Nat.le_trans hB6.2.2.2.1 q2.size, fun q h1 h2 => (hkp q h1).trans (hB6.2.2.2.2 q h1 h2)⟩)
          have hZZ : w.heap.size ≤ (w5.alloc (.cells #[.iface T5 u5] 107)).heap.size := by simp; omega
          have HZZ := (show Hid _ from hZZ)
          clear hb5 hbt5 hO5 hB6 hz6 hZZ HCL HO4 HB4 HT2 HF2 h5 h5' hj5 hb1
          go_wp2_with (at_builtin; refine wpList_append_lies _ rfl (.tmp 19) (.tmp 22) 157 rfl w.heap.size 107 i2 _ 1 16 Try.underlying157 hi2 hz0 hz1 hz2 rfl (by decide) _ n xs rfl HO6.out ⟨w5.heap.size, 0, none⟩ 1 1 [.iface T5 u5] (by simp [Act.eval]) rfl (World.news_of_block (cs := #[.iface T5 u5]) (blk_alloc_new _ _)) (by simp [Value.oneCell']) (by decide) (by unfold maxLen; omega) (by omega) HZZ.out _ rfl ?nx)
          case nx =>
            intro g7 cap7 w7 hown7 hgr7 hat7 hlt7
            have HU := (show Hid _ from HUP.out g7 cap7 w7 hown7 hgr7)
            clear hown7 hgr7 hat7 hlt7 HUP HO6 HZZ
            go_wp2_with fail
            exact ⟨⟨g', R'.2, n + 1, _, _, rfl, HU⟩, by simp [lenV]; omega⟩
      · have HE := (show Hid (R = (true, y)) from (by
          have := HT.out
          unfold PtP at this
          rw [if_neg hsg] at this
          injection this with this
          exact this.symm))
        rw [show decide (bt s y = ((59 : Nat) : Int)) = false from decide_eq_false hsg] at HS
        clear HT hsg
        go_wp2_with fail
        refine Calls.mono HS.out ?_
        rintro e w3 ⟨rfl, hb3, hbt3⟩
        have HF := (show Hid _ from HYES.out la n lc y w3 HE.out (But.trans HBT.out hbt3) hb3 hy)
        clear hb3 hbt3 HS
        go_wp2_with fail
        go_ret
        exact HF.out
theorem read115 {w0 : World} {p : Nat} {rv : Value} {s : ByteArray} {rn : ByteArray → Bool} {f : Nat} (hs : s.size ≤ 300) (hp : w0.heap.size ≤ p) (hf : f ≤ 100000) (ih : ∀ g, g ≤ f → PdC w0 p rv s rn 119 0 g) : PdC w0 p rv s rn 115 1 (f + 1) := by
  intro i w R hbx hi hb0 hrd
  have HCL := (show Hid _ from partedS hs hp hf ih i w R hbx hi hb0 hrd)
  unfold PqA at HCL
  have HYES := (show Hid (∀ (T : TypeId) (u : Value) (j : Nat) (w' : World), R = (true, j) → But p w w' → PB w' p s j rv → j ≤ s.size → PdA p s rv R w (.returned (.iface T u)) w') from fun T u j w' h1 h2 h3 h4 => pd_yes h1 h2 h3 h4)
  have HNO := (show Hid (∀ (j : Nat) (w' : World), R = (false, j) → But p w w' → PdA p s rv R w (.panicked [flt j]) w') from fun j w' h1 h2 => pd_no h1 h2)
  clear hbx hb0 ih hrd
  go_enter Try.func115, Try.ntmps115
  go_wp2_with fail
  refine Calls.mono HCL.out ?_
  rintro e w2 ⟨hbt2, h2, h2'⟩
  obtain ⟨b, j⟩ := R
  cases b with
  | false =>
    obtain rfl := h2' (by first | rfl | trivial)
    have HE := (show Hid (PdA p s rv (false, j) w (.panicked [flt j]) w2) from HNO.out _ w2 rfl hbt2)
    clear h2 h2' hbt2 HCL HYES HNO
    go_wp2_with fail
    exact ⟨rfl, HE.out⟩
  | true =>
    obtain ⟨a, l, c, rfl, hb2, hj⟩ := h2 (by first | rfl | trivial)
    have HE := (show Hid (∀ T u, PdA p s rv (true, j) w (.returned (.iface T u)) w2) from fun T u => HYES.out T u j w2 rfl hbt2 hb2 hj)
    clear h2 h2' hbt2 HCL HYES HNO hb2 hj
    go_wp2_with fail
    go_ret
    exact HE.out _ _
theorem pstep2 {s : ByteArray} {rn : ByteArray → Bool} {f x : Nat} {R : Bool × Nat} (h : rd s rn (f + 1) 2 x = some R) : ∃ R1, rd s rn f 1 x = some R1 ∧ (R1.1 = true → PtP s R 124 (fun g x => rd s rn g 2 x) f R1.2) ∧ (R1.1 = false → R = R1) := by
  rw [rd] at h
  cases e : rd s rn f 1 x with
  | none => rw [e] at h; cases h
  | some R1 =>
    rw [e] at h
    obtain ⟨b, j⟩ := R1
    refine ⟨_, rfl, fun h1 => ?_, fun h1 => ?_⟩
    · simp only at h1
      subst h1
      exact h
    · simp only at h1
      subst h1
      simp only at h
      injection h with h
      exact h.symm
theorem pyes2 {s : ByteArray} {rn : ByteArray → Bool} {g y : Nat} {R : Bool × Nat} (h : PtP s R 124 (fun g x => rd s rn g 2 x) g y) (hsg : bt s y = 124) : ∃ g' R', g = g' + 1 ∧ rd s rn g' 1 (sk s (y + 1)) = some R' ∧ (R'.1 = true → PtP s R 124 (fun g x => rd s rn g 2 x) g' R'.2) ∧ (R'.1 = false → R = R') := by
  unfold PtP at h
  rw [if_pos hsg] at h
  cases g with
  | zero => simp only [rd] at h; cases h
  | succ g' =>
    obtain ⟨R1, q1, q2⟩ := pstep2 h
    exact ⟨g', R1, rfl, q1, q2⟩
set_option maxHeartbeats 3200000 in
theorem partedP {w0 : World} {p : Nat} {rv : Value} {s : ByteArray} {rn : ByteArray → Bool} {f : Nat} (hs : s.size ≤ 300) (hp : w0.heap.size ≤ p) (hf : f ≤ 100000) (ih : ∀ g, g ≤ f → PdC w0 p rv s rn 115 1 g) (i : Nat) (w : World) (R : Bool × Nat) (hbx : PB w p s i rv) (hi : i ≤ s.size) (hb0 : Below w0.heap.size w0 w) (hrd : rd s rn (f + 1) 2 i = some R) :
    Calls Try.prog 114 #[.pointer (some ⟨p, 0, none⟩), .int .u8 124, .func (.func 115) #[.pointer (some ⟨p, 0, none⟩)] #[]] w (PqA p s rv R w) := by
  have hpl := hbx.lt
  have HIH := (show Hid _ from ih)
  have HB0 := (show Hid _ from hb0)
  obtain ⟨R1, hr1, hT1, hF1⟩ := pstep2 hrd
  have HCL := (show Hid _ from ih f (Nat.le_refl _) i w R1 hbx hi hb0 hr1)
  unfold PdA at HCL
  have HT1 := (show Hid _ from hT1)
  have HF1 := (show Hid _ from hF1)
  have HYES := (show Hid (∀ (a : Option Addr) (l c j : Nat) (w' : World), R = (true, j) → But p w w' → PB w' p s j rv → j ≤ s.size → PqA p s rv R w (.returned (.slice a l c)) w') from fun a l c j w' h1 h2 h3 h4 => by
    subst h1
    exact ⟨h2, fun _ => ⟨a, l, c, rfl, h3, h4⟩, fun h => (by cases h)⟩)
  have HNO := (show Hid (∀ (R' : Bool × Nat) (w' : World), R'.1 = false → R = R' → But p w w' → PqA p s rv R w (.panicked [flt R'.2]) w') from fun R' w' h0 h1 h2 => by
    subst h1
    exact ⟨h2, fun h => by (rw [h0] at h; cases h), fun _ => rfl⟩)
  obtain ⟨i2, hi2, hz0, hz1, hz2⟩ := info_parts info107s
  clear hbx hb0 ih hrd hr1 hT1 hF1
  go_enter Try.func114, Try.ntmps114
  go_wp2_with fail
  go_at_call 115
  refine Calls.mono HCL.out ?_
  rintro e w2 ⟨hbt2, h2, h2'⟩
  cases hb1 : R1.1 with
  | false =>
    obtain rfl := h2' hb1
    have HB2 := (show Hid _ from hbt2)
    have HE := (show Hid _ from HNO.out R1 w2 hb1 (HF1.out hb1) hbt2)
    clear h2 h2' hbt2 HCL hb1
    go_wp2_with fail
    exact ⟨rfl, HE.out⟩
  | true =>
    obtain ⟨T2, u2, rfl, hb2, hj⟩ := h2 hb1
    have HI2 := (show Hid (PtJ p rv s w R 124 (fun g x => rd s rn g 2 x) f f R1.2 1 (.slice (some ⟨w2.heap.size, 0, none⟩) 1 1) (w2.alloc (.cells #[.iface T2 u2] 107))) from (by
      refine ⟨Nat.le_refl _, by omega, hj, hb2.still (bel_alloc _ _), hbt2.still (bel_alloc _ _), ⟨_, own_one7 w2 _ hbt2.size⟩, HT1.out hb1⟩))
    clear hb2 hbt2 HCL HT1 HF1 h2 h2' hj hb1
    go_wp2_with fail
    go_loopw [7] (fun u wr => ∃ (g y n : Nat) (la : Option Addr) (lc : Nat), u = .slice la n lc ∧ Hid (PtJ p rv s w R 124 (fun g x => rd s rn g 2 x) f g y n (.slice la n lc) wr)) (fun u _ => f + 2 - lenV u)
    case atStart => exact ⟨f, R1.2, 1, _, _, rfl, HI2⟩
    case round =>
      obtain ⟨g, y, n, la, lc, rfl, HI⟩ := hrel
      clear HI2
      obtain ⟨hg, hn, hy, hbx, hbt, ⟨xs, hown⟩, hT⟩ := HI.out
      have HS := (show Hid _ from sees113 s 124 y p rv wr hbx hs)
      have HBT := (show Hid (But p w wr) from hbt)
      have HOW := (show Hid (wr.ownsRow w.heap.size 107 1 (.slice la n lc) n xs) from hown)
      have HT := (show Hid _ from hT)
      clear hbx hbt hown hT HI
      by_cases hsg : bt s y = 124
      · have hys := bt_lt hsg (by omega)
        have hx : sk s (y + 1) ≤ s.size := past_size hys
        obtain ⟨g', R', e1, e2, e3, e4⟩ := pyes2 HT.out hsg
        rw [show decide (bt s y = ((124 : Nat) : Int)) = true from decide_eq_true hsg] at HS
        have HT2 := (show Hid _ from e3)
        have HF2 := (show Hid _ from e4)
        have HR2 := (show Hid _ from e2)
        have HSG := (show Hid _ from hsg)
        clear e2 e3 e4 HT hsg
        go_wp2_with fail
        refine Calls.mono HS.out ?_
        rintro e w3 ⟨rfl, hb3, hbt3⟩
        have HS2 := (show Hid _ from sign117 s 124 y p rv w3 hb3 hs hy (by omega))
        unfold PsA at HS2
        rw [show decide (bt s y = ((124 : Nat) : Int)) = true from decide_eq_true HSG.out] at HS2
        have HB3 := (show Hid (But p w w3) from But.trans HBT.out hbt3)
        have HO3 := (show Hid (w3.ownsRow w.heap.size 107 1 (.slice la n lc) n xs) from sees_own HOW.out hbt3 hpl)
        clear hb3 hbt3 HS HBT HOW
        go_wp2_with fail
        refine Calls.mono HS2.out ?_
        rintro e w4 ⟨hbt4, h4, _⟩
        obtain ⟨rfl, hb4⟩ := h4 (by first | rfl | trivial)
        have hB4 := But.trans HB3.out hbt4
        have HCL := (show Hid _ from HIH.out g' (by omega) (sk s (y + 1)) w4 R' hb4 hx (But.below' hB4 HB0.out hp) HR2.out)
        unfold PdA at HCL
        have HB4 := (show Hid (But p w w4) from hB4)
        have HO4 := (show Hid (w4.ownsRow w.heap.size 107 1 (.slice la n lc) n xs) from sees_own HO3.out hbt4 hpl)
        clear hbt4 h4 hb4 hB4 HS2 HB3 HO3 HR2
        go_wp2_with fail
        go_at_call 115
        refine Calls.mono HCL.out ?_
        rintro e w5 ⟨hbt5, h5, h5'⟩
        cases hb1 : R'.1 with
        | false =>
          obtain rfl := h5' hb1
          have HE := (show Hid _ from HNO.out R' w5 hb1 (HF2.out hb1) (But.trans HB4.out hbt5))
          clear h5 h5' hbt5 HCL hb1
          go_wp2_with fail
          exact ⟨rfl, HE.out⟩
        | true =>
          obtain ⟨T5, u5, rfl, hb5, hj5⟩ := h5 hb1
          have hO5 := sees_own HO4.out hbt5 hpl
          have HO6 := (show Hid ((w5.alloc (.cells #[.iface T5 u5] 107)).ownsRow w.heap.size 107 1 (.slice la n lc) n xs) from own_still hO5 (bel_alloc _ _))
          have hB6 : But p w (w5.alloc (.cells #[.iface T5 u5] 107)) := (But.trans HB4.out hbt5).still (bel_alloc _ _)
          have hz6 : w.heap.size ≤ w5.heap.size := (But.trans HB4.out hbt5).size
          have HUP := (show Hid (∀ (g7 cap7 : Nat) (w7 : World), w7.ownsRow w.heap.size 107 1 (.slice (some ⟨g7, 0, none⟩) (n + 1) cap7) (n + 1) (xs ++ [.iface T5 u5]) → (w5.alloc (.cells #[.iface T5 u5] 107)).grownBy w7 (Value.slice la n lc).ownBlock → PtJ p rv s w R 124 (fun g x => rd s rn g 2 x) f g' R'.2 (n + 1) (.slice (some ⟨g7, 0, none⟩) (n + 1) cap7) w7) from fun g7 cap7 w7 q1 q2 => by
            have hne : ∀ q, (Value.slice la n lc).ownBlock = some q → w.heap.size ≤ q := fun q hq => (World.ownsRow.lt HO6.out q hq).1
            have hkp : ∀ q, q < w.heap.size → w7.heap[q]? = (w5.alloc (.cells #[.iface T5 u5] 107)).heap[q]? := fun q hq => q2.block q (by simp; omega) (fun e => by have := hne q e.symm; omega)
            refine ⟨by omega, by omega, hj5, (hb5.still (bel_alloc _ _)).keep (hkp p (by omega)), ?_, ⟨_, q1⟩, HT2.out hb1⟩
            exact ⟨q2.os.trans hB6.1, q2.tape.trans hB6.2.1, q2.output.trans hB6.2.2.1, Nat.le_trans hB6.2.2.2.1 q2.size, fun q h1 h2 => (hkp q h1).trans (hB6.2.2.2.2 q h1 h2)⟩)
          have hZZ : w.heap.size ≤ (w5.alloc (.cells #[.iface T5 u5] 107)).heap.size := by simp; omega
          have HZZ := (show Hid _ from hZZ)
          clear hb5 hbt5 hO5 hB6 hz6 hZZ HCL HO4 HB4 HT2 HF2 h5 h5' hj5 hb1
          go_wp2_with (at_builtin; refine wpList_append_lies _ rfl (.tmp 19) (.tmp 22) 157 rfl w.heap.size 107 i2 _ 1 16 Try.underlying157 hi2 hz0 hz1 hz2 rfl (by decide) _ n xs rfl HO6.out ⟨w5.heap.size, 0, none⟩ 1 1 [.iface T5 u5] (by simp [Act.eval]) rfl (World.news_of_block (cs := #[.iface T5 u5]) (blk_alloc_new _ _)) (by simp [Value.oneCell']) (by decide) (by unfold maxLen; omega) (by omega) HZZ.out _ rfl ?nx)
          case nx =>
            intro g7 cap7 w7 hown7 hgr7 hat7 hlt7
            have HU := (show Hid _ from HUP.out g7 cap7 w7 hown7 hgr7)
            clear hown7 hgr7 hat7 hlt7 HUP HO6 HZZ
            go_wp2_with fail
            exact ⟨⟨g', R'.2, n + 1, _, _, rfl, HU⟩, by simp [lenV]; omega⟩
      · have HE := (show Hid (R = (true, y)) from (by
          have := HT.out
          unfold PtP at this
          rw [if_neg hsg] at this
          injection this with this
          exact this.symm))
        rw [show decide (bt s y = ((124 : Nat) : Int)) = false from decide_eq_false hsg] at HS
        clear HT hsg
        go_wp2_with fail
        refine Calls.mono HS.out ?_
        rintro e w3 ⟨rfl, hb3, hbt3⟩
        have HF := (show Hid _ from HYES.out la n lc y w3 HE.out (But.trans HBT.out hbt3) hb3 hy)
        clear hb3 hbt3 HS
        go_wp2_with fail
        go_ret
        exact HF.out
theorem read105 {w0 : World} {p : Nat} {rv : Value} {s : ByteArray} {rn : ByteArray → Bool} {f : Nat} (hs : s.size ≤ 300) (hp : w0.heap.size ≤ p) (hf : f ≤ 100000) (ih : ∀ g, g ≤ f → PdC w0 p rv s rn 115 1 g) : PdC w0 p rv s rn 105 2 (f + 1) := by
  intro i w R hbx hi hb0 hrd
  have HCL := (show Hid _ from partedP hs hp hf ih i w R hbx hi hb0 hrd)
  unfold PqA at HCL
  have HYES := (show Hid (∀ (T : TypeId) (u : Value) (j : Nat) (w' : World), R = (true, j) → But p w w' → PB w' p s j rv → j ≤ s.size → PdA p s rv R w (.returned (.iface T u)) w') from fun T u j w' h1 h2 h3 h4 => pd_yes h1 h2 h3 h4)
  have HNO := (show Hid (∀ (j : Nat) (w' : World), R = (false, j) → But p w w' → PdA p s rv R w (.panicked [flt j]) w') from fun j w' h1 h2 => pd_no h1 h2)
  clear hbx hb0 ih hrd
  go_enter Try.func105, Try.ntmps105
  go_wp2_with fail
  refine Calls.mono HCL.out ?_
  rintro e w2 ⟨hbt2, h2, h2'⟩
  obtain ⟨b, j⟩ := R
  cases b with
  | false =>
    obtain rfl := h2' (by first | rfl | trivial)
    have HE := (show Hid (PdA p s rv (false, j) w (.panicked [flt j]) w2) from HNO.out _ w2 rfl hbt2)
    clear h2 h2' hbt2 HCL HYES HNO
    go_wp2_with fail
    exact ⟨rfl, HE.out⟩
  | true =>
    obtain ⟨a, l, c, rfl, hb2, hj⟩ := h2 (by first | rfl | trivial)
    have HE := (show Hid (∀ T u, PdA p s rv (true, j) w (.returned (.iface T u)) w2) from fun T u => HYES.out T u j w2 rfl hbt2 hb2 hj)
    clear h2 h2' hbt2 HCL HYES HNO hb2 hj
    go_wp2_with fail
    go_ret
    exact HE.out _ _
end Go.Proofs.Yteomgkcgjkbppaa
