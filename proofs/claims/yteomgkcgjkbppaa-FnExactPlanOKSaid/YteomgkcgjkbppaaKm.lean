import Derived.Test.YteomgkcgjkbppaaKl
/-! The specification's reader of plans: brackets. -/
namespace Go.Proofs.Yteomgkcgjkbppaa
open Go.RowKit Go.Deep Go.Lib Go.ChangeShapes Go.WideShapes
set_option linter.unusedVariables false
set_option maxRecDepth 100000
set_option linter.unusedSimpArgs false

/-- What a reading leaves. -/
def RdA (p : Nat) (rv : Value) (s : ByteArray) (R : Bool × Nat) (w : World) (e : Ending) (w' : World) : Prop :=
  ∃ (k n : ByteArray) (a : Option Addr) (l c i' : Nat) (bad : Int), e = .returned (.agg #[.string k, .string n, .slice a l c]) ∧ Box w' p 129 [rv, .string s, .int .i64 (i' : Int), .int .i64 bad] ∧ But p w w' ∧ i' ≤ s.size ∧ (R.1 = true → bad = -1 ∧ sk s i' = R.2) ∧ (R.1 = false → bad = (R.2 : Int))
/-- A reading by so much fuel does as is asked. -/
def RdC (w0 : World) (p : Nat) (rv : Value) (s : ByteArray) (rn : ByteArray → Bool) (F k f : Nat) : Prop :=
  ∀ (i : Nat) (w : World) (R : Bool × Nat), Box w p 129 [rv, .string s, .int .i64 (i : Int), .int .i64 (-1)] → i ≤ s.size → Below w0.heap.size w0 w → rd s rn f k (sk s i) = some R → Calls Try.prog F #[.pointer (some ⟨p, 0, none⟩)] w (RdA p rv s R w)
theorem But.below' {p : Nat} {w0 w w' : World} (h : But p w w') (hb : Below w0.heap.size w0 w) (hp : w0.heap.size ≤ p) : Below w0.heap.size w0 w' := hb.trans (h.below hp hb.size)
theorem Box.but {w w' : World} {g T p : Nat} {cs : List Value} (h : Box w g T cs) (hb : But p w w') (hn : g ≠ p) : Box w' g T cs := h.keep (hb.block h.lt hn)
theorem But.other {p q o : Nat} {w w' : World} (h : But p w w') (hq : w.heap.size ≤ q) (u : Value) : But p w (w'.setCell ⟨q, o, none⟩ u) := by
  obtain ⟨h1, h2, h3, h4, h5⟩ := h
  exact ⟨h1, h2, h3, by simp; exact h4, fun k hk hn => (blk_setCell_other _ _ _ _ (by show k ≠ q; omega)).trans (h5 k hk hn)⟩
set_option maxHeartbeats 3200000 in
theorem bracket116 {w0 : World} {p : Nat} {rv : Value} {s : ByteArray} {rn : ByteArray → Bool} {f : Nat} (hs : s.size ≤ 300) (hp : w0.heap.size ≤ p) (ih : RdC w0 p rv s rn 86 2 f) : RdC w0 p rv s rn 116 3 (f + 1) := by
  intro i w R hbx hi hb0 hrd
  have hpl := hbx.lt
  have hzb := Box.new w 102 [.string ⟨#[]⟩, .string ⟨#[]⟩, .slice none 0 0]
  have hb1 := hbx.still (bel_alloc w (.cells #[.string ⟨#[]⟩, .string ⟨#[]⟩, .slice none 0 0] 102))
  have HS := (show Hid _ from sign87 s 40 i p (-1) rv _ hb1 hi hs)
  have HBT := (show Hid (But p w (w.alloc (.cells #[.string ⟨#[]⟩, .string ⟨#[]⟩, .slice none 0 0] 102))) from But.of_below (bel_alloc _ _))
  have HZ := (show Hid _ from hzb)
  have HB0 := (show Hid _ from hb0)
  have hx : sk s i ≤ s.size := past_size hi
  have HIH := (show Hid _ from ih)
  have HFIN := (show Hid (∀ (k n : ByteArray) (a : Option Addr) (l c i' : Nat) (bad : Int) (w' : World), Box w' p 129 [rv, .string s, .int .i64 (i' : Int), .int .i64 bad] → But p w w' → i' ≤ s.size → (R.1 = true → bad = -1 ∧ sk s i' = R.2) → (R.1 = false → bad = (R.2 : Int)) → RdA p rv s R w (.returned (.agg #[.string k, .string n, .slice a l c])) w') from fun k n a l c i' bad w' h1 h2 h3 h4 h5 => ⟨k, n, a, l, c, i', bad, rfl, h1, h2, h3, h4, h5⟩)
  rw [rd] at hrd
  have HRD := (show Hid _ from hrd)
  clear hrd hbx hzb hb1 hb0 ih
  generalize hX : sk s i = x at *
  by_cases h40 : bt s x = 40
  case neg =>
    have HR := (show Hid (R = (false, x)) from (by
      have := HRD.out
      rw [if_neg h40] at this
      injection this with this
      exact this.symm))
    have hd : decide (bt s x = ((40 : Nat) : Int)) = false := decide_eq_false h40
    rw [hd] at HS
    clear HRD HIH hd
    go_enter Try.func116, Try.ntmps116
    go_wp2_with fail
    refine Calls.mono HS.out ?_
    rintro e w2 ⟨rfl, hb2, hbt2⟩
    have c2 : w2.cell? ⟨p, 2, none⟩ = some (.int .i64 (x : Int)) := hb2.cell 2 (by simp)
    have HF := (show Hid _ from fail88 s x x p (-1) rv w2 hb2)
    have HB2 := (show Hid (But p w w2) from But.trans HBT.out hbt2)
    have HZ2 := (show Hid _ from HZ.out.but hbt2 (by omega))
    clear hb2 hbt2 HS
    go_wp2_with fail
    refine Calls.mono HF.out ?_
    rintro e w3 ⟨rfl, hb3, hbt3⟩
    have hz := HZ2.out.but hbt3 (by omega)
    have z0 : w3.cell? ⟨w.heap.size, 0, none⟩ = some (.string ⟨#[]⟩) := hz.cell 0 (by simp)
    have z1 : w3.cell? ⟨w.heap.size, 1, none⟩ = some (.string ⟨#[]⟩) := hz.cell 1 (by simp)
    have z2 : w3.cell? ⟨w.heap.size, 2, none⟩ = some (.slice none 0 0) := hz.cell 2 (by simp)
    have f0 : w3.frozen? ⟨w.heap.size, 0, none⟩ = false := hz.frozen 0
    have f1 : w3.frozen? ⟨w.heap.size, 1, none⟩ = false := hz.frozen 1
    have f2 : w3.frozen? ⟨w.heap.size, 2, none⟩ = false := hz.frozen 2
    have HB3 := (show Hid (But p w w3) from But.trans HB2.out hbt3)
    have HX3 := (show Hid (Box w3 p 129 [rv, .string s, .int .i64 (x : Int), .int .i64 (x : Int)]) from (by show Box _ _ _ _; simpa using hb3))
    clear hb3 hbt3 HF HB2 HZ2 hz c2
    go_wp2_with fail
    refine bodyPost_ret (v := noPl) (by simp [results, Try.results116, go_sem, z0, z1, z2]) rfl ?_
    exact HFIN.out _ _ _ _ _ x x _ (((HX3.out.past (by omega)).past (by omega)).past (by omega)) (((HB3.out.other (Nat.le_refl _) _).other (Nat.le_refl _) _).other (Nat.le_refl _) _) hx (fun h => by rw [HR.out] at h; cases h) (fun _ => by rw [HR.out])
  have hxs := bt_lt h40 (by omega)
  have HRD2 := (show Hid _ from (if_pos h40).symm.trans HRD.out)
  have hd : decide (bt s x = ((40 : Nat) : Int)) = true := decide_eq_true h40
  rw [hd] at HS
  clear HRD hd h40
  go_enter Try.func116, Try.ntmps116
  go_wp2_with fail
  refine Calls.mono HS.out ?_
  rintro e w2 ⟨rfl, hb2, hbt2⟩
  have c2 : w2.cell? ⟨p, 2, none⟩ = some (.int .i64 (x : Int)) := hb2.cell 2 (by simp)
  have y2 : w2.frozen? ⟨p, 2, none⟩ = false := hb2.frozen 2
  have HB2 := (show Hid (But p w w2) from But.trans HBT.out hbt2)
  have hz2 := HZ.out.but hbt2 (by omega)
  have hb3 : Box (w2.setCell ⟨p, 2, none⟩ (.int .i64 ((x : Int) + 1))) p 129 [rv, .string s, .int .i64 ((x + 1 : Nat) : Int), .int .i64 (-1)] := by
    have := hb2.set 2 (.int .i64 ((x : Int) + 1))
    simpa using this
  have hbt3 : But p w (w2.setCell ⟨p, 2, none⟩ (.int .i64 ((x : Int) + 1))) := HB2.out.put _
  have HZ3 := (show Hid (Box (w2.setCell ⟨p, 2, none⟩ (.int .i64 ((x : Int) + 1))) w.heap.size 102 [.string ⟨#[]⟩, .string ⟨#[]⟩, .slice none 0 0]) from hz2.past (by omega))
  have HB3 := (show Hid (But p w (w2.setCell ⟨p, 2, none⟩ (.int .i64 ((x : Int) + 1)))) from hbt3)
  obtain ⟨R', hR'⟩ : ∃ R', rd s rn f 2 (sk s (x + 1)) = some R' := by
    cases e : rd s rn f 2 (sk s (x + 1)) with
    | none =>
      have := HRD2.out
      rw [e] at this
      cases this
    | some R' => exact ⟨R', rfl⟩
  have HCL := (show Hid _ from HIH.out (x + 1) _ R' hb3 hxs (But.below' hbt3 HB0.out hp) hR')
  rw [hR'] at HRD2
  unfold RdA at HCL
  clear hb2 hbt2 hz2 hb3 hbt3 HS HIH hR' HBT HZ HB2
  go_wp2_with fail
  refine Calls.mono HCL.out ?_
  rintro e w4 ⟨k, n, a, l, c, i', bad, rfl, hb4, hbt4, hi', ht, hf⟩
  have HB4 := (show Hid (But p w w4) from But.trans HB3.out hbt4)
  have hz4 := HZ3.out.but hbt4 (by omega)
  have hp4 := hb4.lt
  have hw4 : w.heap.size < w4.heap.size := hz4.lt
  have HS5 := (show Hid _ from sign87 s 41 i' p bad rv _ (hb4.still (bel_alloc w4 (.cells #[.string k, .string n, .slice a l c] 102))) hi' hs)
  have HZ5 := (show Hid (Box (w4.alloc (.cells #[.string k, .string n, .slice a l c] 102)) w.heap.size 102 [.string ⟨#[]⟩, .string ⟨#[]⟩, .slice none 0 0]) from hz4.still (bel_alloc _ _))
  have HT5 := (show Hid (Box (w4.alloc (.cells #[.string k, .string n, .slice a l c] 102)) w4.heap.size 102 [.string k, .string n, .slice a l c]) from Box.new w4 102 _)
  have HB5 := (show Hid (But p w (w4.alloc (.cells #[.string k, .string n, .slice a l c] 102))) from HB4.out.still (bel_alloc _ _))
  have HTF := (show Hid ((R'.1 = true → bad = -1 ∧ sk s i' = R'.2) ∧ (R'.1 = false → bad = (R'.2 : Int))) from ⟨ht, hf⟩)
  have hy : sk s i' ≤ s.size := past_size hi'
  clear hb4 hbt4 hz4 ht hf HCL HZ3 HB3 HB4 c2 y2
  generalize hY : sk s i' = y at *
  obtain ⟨b', j'⟩ := R'
  by_cases hok : b' = true ∧ bt s y = 41
  · obtain ⟨rfl, h41⟩ := hok
    obtain ⟨rfl, rfl⟩ := HTF.out.1 rfl
    have hys := bt_lt h41 (by omega)
    have HR := (show Hid (R = (true, sk s (y + 1))) from (by
      have := HRD2.out
      simp only [if_pos h41] at this
      injection this with this
      exact this.symm))
    have hd : decide (bt s y = ((41 : Nat) : Int)) = true := decide_eq_true h41
    rw [hd] at HS5
    clear hd h41 HRD2 HTF
    go_wp2_with fail
    refine Calls.mono HS5.out ?_
    rintro e w6 ⟨rfl, hb6, hbt6⟩
    have c2 : w6.cell? ⟨p, 2, none⟩ = some (.int .i64 (y : Int)) := hb6.cell 2 (by simp)
    have y2 : w6.frozen? ⟨p, 2, none⟩ = false := hb6.frozen 2
    have hz := (HZ5.out.but hbt6 (by omega)).past (q := p) (o := 2) (u := .int .i64 ((y : Int) + 1)) (by omega)
    have ht := (HT5.out.but hbt6 (by omega)).past (q := p) (o := 2) (u := .int .i64 ((y : Int) + 1)) (by omega)
    have z0 : (w6.setCell ⟨p, 2, none⟩ (.int .i64 ((y : Int) + 1))).cell? ⟨w.heap.size, 0, none⟩ = some (.string ⟨#[]⟩) := hz.cell 0 (by simp)
    have z1 : (w6.setCell ⟨p, 2, none⟩ (.int .i64 ((y : Int) + 1))).cell? ⟨w.heap.size, 1, none⟩ = some (.string ⟨#[]⟩) := hz.cell 1 (by simp)
    have z2 : (w6.setCell ⟨p, 2, none⟩ (.int .i64 ((y : Int) + 1))).cell? ⟨w.heap.size, 2, none⟩ = some (.slice none 0 0) := hz.cell 2 (by simp)
    have f0 : (w6.setCell ⟨p, 2, none⟩ (.int .i64 ((y : Int) + 1))).frozen? ⟨w.heap.size, 0, none⟩ = false := hz.frozen 0
    have f1 : (w6.setCell ⟨p, 2, none⟩ (.int .i64 ((y : Int) + 1))).frozen? ⟨w.heap.size, 1, none⟩ = false := hz.frozen 1
    have f2 : (w6.setCell ⟨p, 2, none⟩ (.int .i64 ((y : Int) + 1))).frozen? ⟨w.heap.size, 2, none⟩ = false := hz.frozen 2
    have t0 : (w6.setCell ⟨p, 2, none⟩ (.int .i64 ((y : Int) + 1))).cell? ⟨w4.heap.size, 0, none⟩ = some (.string k) := ht.cell 0 (by simp)
    have t1 : (w6.setCell ⟨p, 2, none⟩ (.int .i64 ((y : Int) + 1))).cell? ⟨w4.heap.size, 1, none⟩ = some (.string n) := ht.cell 1 (by simp)
    have t2 : (w6.setCell ⟨p, 2, none⟩ (.int .i64 ((y : Int) + 1))).cell? ⟨w4.heap.size, 2, none⟩ = some (.slice a l c) := ht.cell 2 (by simp)
    have hb7 : Box (w6.setCell ⟨p, 2, none⟩ (.int .i64 ((y : Int) + 1))) p 129 [rv, .string s, .int .i64 ((y + 1 : Nat) : Int), .int .i64 (-1)] := by
      have := hb6.set 2 (.int .i64 ((y : Int) + 1))
      simpa using this
    have HX7 := (show Hid _ from hb7)
    have HB7 := (show Hid (But p w (w6.setCell ⟨p, 2, none⟩ (.int .i64 ((y : Int) + 1)))) from (But.trans HB5.out hbt6).put _)
    clear hb6 hbt6 hz ht hb7 HS5 HZ5 HT5 HB5
    go_wp2_with fail
    refine bodyPost_ret (v := .agg #[.string k, .string n, .slice a l c]) (by simp [results, Try.results116, go_sem, z0, z1, z2]) rfl ?_
    exact HFIN.out _ _ _ _ _ (y + 1) (-1) _ (((HX7.out.past (by omega)).past (by omega)).past (by omega)) (((HB7.out.other (Nat.le_refl _) _).other (Nat.le_refl _) _).other (Nat.le_refl _) _) hys (fun _ => ⟨rfl, by rw [HR.out]⟩) (fun h => by rw [HR.out] at h; cases h)
  · have HR := (show Hid (R = (false, j') ∧ (if bad < 0 then (y : Int) else bad) = (j' : Int) ∧ (decide (bad < 0) && decide (bt s y = ((41 : Nat) : Int))) = false) from (by
      have := HRD2.out
      cases b' with
      | true =>
        obtain ⟨e1, e2⟩ := HTF.out.1 rfl
        have h41 : ¬ bt s y = 41 := fun h => hok ⟨rfl, h⟩
        have e3 : y = j' := e2
        subst e3
        simp only [if_neg h41] at this
        injection this with this
        refine ⟨this.symm, by rw [e1]; simp, ?_⟩
        rw [decide_eq_false (p := bt s y = ((41 : Nat) : Int)) h41]
        simp
      | false =>
        have e1 := HTF.out.2 rfl
        have e3 : bad = (j' : Int) := e1
        simp only at this
        injection this with this
        refine ⟨this.symm, by rw [if_neg (by omega)]; exact e3, ?_⟩
        rw [decide_eq_false (p := bad < 0) (by omega)]
        rfl))
    rw [HR.out.2.2] at HS5
    clear hok HTF HRD2 HT5
    go_wp2_with fail
    refine Calls.mono HS5.out ?_
    rintro e w6 ⟨rfl, hb6, hbt6⟩
    have c2 : w6.cell? ⟨p, 2, none⟩ = some (.int .i64 (y : Int)) := hb6.cell 2 (by simp)
    have HF := (show Hid _ from fail88 s y y p bad rv w6 hb6)
    have HB6 := (show Hid (But p w w6) from But.trans HB5.out hbt6)
    have HZ6 := (show Hid _ from HZ5.out.but hbt6 (by omega))
    rw [HR.out.2.1] at HF
    clear hb6 hbt6 HS5 HZ5 HB5
    go_wp2_with fail
    refine Calls.mono HF.out ?_
    rintro e w7 ⟨rfl, hb7, hbt7⟩
    have hz := HZ6.out.but hbt7 (by omega)
    have z0 : w7.cell? ⟨w.heap.size, 0, none⟩ = some (.string ⟨#[]⟩) := hz.cell 0 (by simp)
    have z1 : w7.cell? ⟨w.heap.size, 1, none⟩ = some (.string ⟨#[]⟩) := hz.cell 1 (by simp)
    have z2 : w7.cell? ⟨w.heap.size, 2, none⟩ = some (.slice none 0 0) := hz.cell 2 (by simp)
    have f0 : w7.frozen? ⟨w.heap.size, 0, none⟩ = false := hz.frozen 0
    have f1 : w7.frozen? ⟨w.heap.size, 1, none⟩ = false := hz.frozen 1
    have f2 : w7.frozen? ⟨w.heap.size, 2, none⟩ = false := hz.frozen 2
    have HB7 := (show Hid (But p w w7) from But.trans HB6.out hbt7)
    have HX7 := (show Hid _ from hb7)
    clear hb7 hbt7 HF HB6 HZ6 hz c2
    go_wp2_with fail
    refine bodyPost_ret (v := noPl) (by simp [results, Try.results116, go_sem, z0, z1, z2]) rfl ?_
    exact HFIN.out _ _ _ _ _ y (j' : Int) _ (((HX7.out.past (by omega)).past (by omega)).past (by omega)) (((HB7.out.other (Nat.le_refl _) _).other (Nat.le_refl _) _).other (Nat.le_refl _) _) hy (fun h => by rw [HR.out.1] at h; cases h) (fun _ => by rw [HR.out.1])
end Go.Proofs.Yteomgkcgjkbppaa
