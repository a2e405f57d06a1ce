import Derived.Test.YtbgoikaelmacbaaSl
import Derived.Deep.RegionHeld3
import Derived.BigQuiet
import Derived.Test.YtbgoikaelmacbaaYa
import Derived.Test.YtbgoikaelmacbaaFh
import Derived.Test.YtbgoikaelmacbaaAt2
import Derived.Deep.CutRange
/-! The specification: Places. -/
namespace Go.Proofs.Ytbgoikaelmacbaa
open Go.RowKit Go.Deep Go.Lib
set_option linter.unusedVariables false
set_option maxRecDepth 100000
set_option linter.unusedSimpArgs false

/-- What the specification's Places leaves. -/
def SqA (p t : Tr) (w : World) (e : Ending) (w' : World) : Prop :=
  ∃ (g c : Nat) (vs : Nat → Value), e = .returned (.tuple #[.slice (some ⟨g, 0, none⟩) (plR p t).1.length c, .int .i64 (plR p t).2]) ∧ Below w.heap.size w w' ∧ RS w' w.heap.size (plR p t).1 (.slice (some ⟨g, 0, none⟩) (plR p t).1.length c) vs
set_option maxHeartbeats 3200000 in
theorem sPlaces21 (p t : Tr) (pv tv : Value) (w : World) (hp : Lies w (fun _ => True) p pv) (ht : Lies w (fun _ => True) t tv) :
    Calls Try.prog 10 #[p.val pv, t.val tv] w (SqA p t w) := by
  obtain ⟨pa, pl, pc, rfl⟩ := hp.form
  obtain ⟨ta, tl, tc, rfl⟩ := ht.form
  have HPT := (show Hid (∀ wq : World, Below w.heap.size w wq → Calls Try.prog 20 #[p.val (.slice pa pl pc)] wq fun e w' => e = .returned (.bool (patB p)) ∧ Below wq.heap.size wq w') from fun wq h => pat32 p _ wq (hp.still h))
  have HOK := (show Hid (∀ wq : World, Below w.heap.size w wq → Calls Try.prog 21 #[t.val (.slice ta tl tc)] wq fun e w' => e = .returned (.bool t.ok) ∧ Below wq.heap.size wq w') from fun wq h => sOK_any t _ wq (ht.still h))
  have HPL := (show Hid (patB p = true → t.ok = true → ∀ w1 : World, Below w.heap.size w w1 → Calls Try.prog 31 #[p.val (.slice pa pl pc), t.val (.slice ta tl tc), .slice (some ⟨w1.heap.size, 0, none⟩) 0 0] (w1.alloc (.cells #[] 3)) (PlA (plT p t []) (w1.alloc (.cells #[] 3)))) from fun h1 h2 w1 hb => by
    have hb2 := bel_trans hb (bel_alloc w1 (.cells #[] 3))
    unfold patB at h1
    rw [Bool.and_eq_true] at h1
    have hpc := ok_cnt h1.1
    have htc := ok_cnt h2
    exact places55 w p _ hp hpc t _ [] w1.heap.size 0 _ ht hb2 (World.ownsRow_made w1 #[] 0 (Nat.zero_le _) (Nat.zero_le _) rfl) (by simp; omega) htc)
  have HR0 := (show Hid (patB p = false ∨ t.ok = false → plR p t = ([], 1)) from fun h => by
    unfold plR
    rw [if_neg]
    rcases h with h | h <;> simp [h])
  have HR1 := (show Hid (patB p = true → t.ok = true → plR p t = (plT p t [], 0)) from fun h h' => by
    unfold plR
    rw [if_pos (by rw [h, h']; rfl)])
  have HNO := (show Hid (∀ w1 : World, plR p t = ([], 1) → Below w.heap.size w w1 → SqA p t w (.returned (.tuple #[.slice (some ⟨w1.heap.size, 0, none⟩) 0 0, .int .i64 1])) (w1.alloc (.cells #[] 40))) from fun w1 h h' => ⟨w1.heap.size, 0, fun _ => .slice none 0 0, by rw [h]; rfl, bel_trans h' (bel_alloc _ _), by rw [h]; exact ⟨World.ownsRow_made w1 #[] 0 h'.size (Nat.zero_le _) rfl, fun i hi => absurd hi (Nat.not_lt_zero _)⟩⟩)
  have HYS := (show Hid (∀ (w1 w' : World) (g c : Nat) (vs : Nat → Value), plR p t = (plT p t [], 0) → Below w.heap.size w w1 → Below (w1.alloc (.cells #[] 3)).heap.size (w1.alloc (.cells #[] 3)) w' → RS w' (w1.alloc (.cells #[] 3)).heap.size (plT p t []) (.slice (some ⟨g, 0, none⟩) (plT p t []).length c) vs → SqA p t w (.returned (.tuple #[.slice (some ⟨g, 0, none⟩) (plT p t []).length c, .int .i64 0])) w') from fun w1 w' g c vs h h1 h2 h3 => by
    have hb := bel_trans h1 (bel_trans (bel_alloc w1 (.cells #[] 3)) h2)
    refine ⟨g, c, vs, by rw [h], hb, ?_⟩
    rw [h]
    exact ⟨own_base h3.out (by have := h1.size; simp; omega), h3.row⟩)
  have HAN := (show Hid (∀ wq : World, Below (w.heap.size + 2) ((w.alloc (.cells #[.string p.name, .string p.text, .bool p.leaf, .slice pa pl pc] 26)).alloc (.cells #[.string t.name, .string t.text, .bool t.leaf, .slice ta tl tc] 26)) wq → Below w.heap.size w wq ∧ Box wq w.heap.size 26 [.string p.name, .string p.text, .bool p.leaf, .slice pa pl pc] ∧ Box wq (w.heap.size + 1) 26 [.string t.name, .string t.text, .bool t.leaf, .slice ta tl tc] ∧ w.heap.size + 2 ≤ wq.heap.size) from fun wq h => by
    have h1 : Below w.heap.size w ((w.alloc (.cells #[.string p.name, .string p.text, .bool p.leaf, .slice pa pl pc] 26)).alloc (.cells #[.string t.name, .string t.text, .bool t.leaf, .slice ta tl tc] 26)) := (bel_alloc _ _).alloc (by simp) _
    refine ⟨h1.trans (h.mono (by omega)), ?_, ?_, by have := h.size; simpa using this⟩
    · exact ((Box.new w 26 _).still (bel_alloc _ _)).keep (h.block _ (by omega))
    · have h2 := Box.new (w.alloc (.cells #[.string p.name, .string p.text, .bool p.leaf, .slice pa pl pc] 26)) 26 [.string t.name, .string t.text, .bool t.leaf, .slice ta tl tc]
      rw [show (w.alloc (.cells #[.string p.name, .string p.text, .bool p.leaf, .slice pa pl pc] 26)).heap.size = w.heap.size + 1 from by simp] at h2
      exact h2.keep (h.block _ (by omega)))
  have HP0 := (show Hid _ from HPT.out _ (HAN.out _ (Below.refl _ _)).1)
  have hz2 : ((w.alloc (.cells #[.string p.name, .string p.text, .bool p.leaf, .slice pa pl pc] 26)).alloc (.cells #[.string t.name, .string t.text, .bool t.leaf, .slice ta tl tc] 26)).heap.size = w.heap.size + 2 := by simp
  rw [hz2] at HP0
  clear hz2 HPT hp ht
  simp only [Tr.val] at HP0 HOK HPL ⊢
  generalize p.name = p0 at *
  generalize p.text = p1 at *
  generalize p.leaf = p2 at *
  generalize t.name = t0 at *
  generalize t.text = t1 at *
  generalize t.leaf = t2 at *
  cases hpb : patB p
  · rw [hpb] at HP0
    have HF := (show Hid _ from HR0.out (.inl hpb))
    clear hpb HR0 HR1 HOK HPL HYS
    go_enter Try.func10, Try.ntmps10
    go_wp2_with fail
    refine Calls.mono HP0.out ?_
    rintro e w1 ⟨rfl, hb1⟩
    have HE := (show Hid _ from HNO.out w1 HF.out (HAN.out w1 hb1).1)
    clear hb1 HP0 HAN HNO
    go_wp2_with fail
    refine bodyPost_ret (v := .tuple #[.slice (some ⟨w1.heap.size, 0, none⟩) 0 0, .int .i64 1]) (by simp [results, Try.results10, go_sem]) rfl HE.out
  rw [hpb] at HP0
  go_enter Try.func10, Try.ntmps10
  go_wp2_with fail
  refine Calls.mono HP0.out ?_
  rintro e w1 ⟨rfl, hb1⟩
  obtain ⟨hbw, bx1, bx2, hz1⟩ := HAN.out w1 hb1
  have HB1 := (show Hid (Below (w.heap.size + 2) ((w.alloc (.cells #[.string p0, .string p1, .bool p2, .slice pa pl pc] 26)).alloc (.cells #[.string t0, .string t1, .bool t2, .slice ta tl tc] 26)) w1) from hb1)
  have r0 : w1.cell? ⟨w.heap.size + 1, 0, none⟩ = some (.string t0) := bx2.cell 0 (by simp)
  have r1 : w1.cell? ⟨w.heap.size + 1, 1, none⟩ = some (.string t1) := bx2.cell 1 (by simp)
  have r2 : w1.cell? ⟨w.heap.size + 1, 2, none⟩ = some (.bool t2) := bx2.cell 2 (by simp)
  have r3 : w1.cell? ⟨w.heap.size + 1, 3, none⟩ = some (.slice ta tl tc) := bx2.cell 3 (by simp)
  have C2 := (show Hid _ from HOK.out w1 hbw)
  clear hb1 HP0 hbw bx1 bx2 HOK
  cases hok : t.ok
  · rw [hok] at C2
    have HF := (show Hid _ from HR0.out (.inr hok))
    clear hpb hok HR0 HR1 HPL HYS
    go_wp2_with fail
    refine Calls.mono C2.out ?_
    rintro e w2 ⟨rfl, hb2⟩
    have HE := (show Hid _ from HNO.out w2 HF.out (HAN.out w2 (HB1.out.trans (hb2.mono hz1))).1)
    clear hb2 C2 HNO HAN
    go_wp2_with fail
    refine bodyPost_ret (v := .tuple #[.slice (some ⟨w2.heap.size, 0, none⟩) 0 0, .int .i64 1]) (by simp [results, Try.results10, go_sem]) rfl HE.out
  rw [hok] at C2
  have HF := (show Hid _ from HR1.out hpb hok)
  have HPM := (show Hid _ from HPL.out hpb hok)
  clear hpb hok HR0 HR1 HPL HNO
  go_wp2_with fail
  refine Calls.mono C2.out ?_
  rintro e w2 ⟨rfl, hb2⟩
  obtain ⟨hbw, bx1, bx2, _⟩ := HAN.out w2 (HB1.out.trans (hb2.mono hz1))
  clear r0 r1 r2 r3
  have s0 : w2.cell? ⟨w.heap.size, 0, none⟩ = some (.string p0) := bx1.cell 0 (by simp)
  have s1 : w2.cell? ⟨w.heap.size, 1, none⟩ = some (.string p1) := bx1.cell 1 (by simp)
  have s2 : w2.cell? ⟨w.heap.size, 2, none⟩ = some (.bool p2) := bx1.cell 2 (by simp)
  have s3 : w2.cell? ⟨w.heap.size, 3, none⟩ = some (.slice pa pl pc) := bx1.cell 3 (by simp)
  have r0 : w2.cell? ⟨w.heap.size + 1, 0, none⟩ = some (.string t0) := bx2.cell 0 (by simp)
  have r1 : w2.cell? ⟨w.heap.size + 1, 1, none⟩ = some (.string t1) := bx2.cell 1 (by simp)
  have r2 : w2.cell? ⟨w.heap.size + 1, 2, none⟩ = some (.bool t2) := bx2.cell 2 (by simp)
  have r3 : w2.cell? ⟨w.heap.size + 1, 3, none⟩ = some (.slice ta tl tc) := bx2.cell 3 (by simp)
  have C3 := (show Hid _ from HPM.out w2 hbw)
  have HBW := (show Hid (Below w.heap.size w w2) from hbw)
  clear hb2 C2 bx1 bx2 hbw HPM HB1 HAN
  unfold PlA at C3
  go_wp2_with fail
  refine Calls.mono C3.out ?_
  rintro e w3 ⟨g, c, vs, rfl, hb3, hrs⟩
  have HE := (show Hid _ from HYS.out w2 w3 g c vs HF.out HBW.out hb3 hrs)
  clear hb3 hrs C3 HYS
  generalize (plT p t []).length = L at *
  go_wp2_with fail
  refine bodyPost_ret (v := .tuple #[.slice (some ⟨g, 0, none⟩) L c, .int .i64 0]) (by simp [results, Try.results10, go_sem]) rfl HE.out
end Go.Proofs.Ytbgoikaelmacbaa

/-! The law: rows of rows of numbers are compared, marked, and held. -/
namespace Go.Proofs.Ytbgoikaelmacbaa
open Go.RowKit Go.Deep Go.Lib
set_option linter.unusedVariables false
set_option maxRecDepth 100000
set_option linter.unusedSimpArgs false

/-- Numbers that may be read. -/
def RdI (w : World) (xs : List Nat) (v : Value) : Prop :=
  ∃ (a : Option Addr) (cap b : Nat), v = .slice a xs.length cap ∧ xs.length ≤ 9223372036854775807 ∧ (0 < xs.length → a = some ⟨b, 0, none⟩) ∧ ∀ i (hi : i < xs.length), w.cell? ⟨b, i, none⟩ = some (.int .i64 (xs[i] : Nat))
theorem own_rdi {w : World} {B : Nat} {xs : List Nat} {v : Value} (h : w.ownsRow B 3 1 v xs.length (nums xs)) : RdI w xs v := by
  rcases h.2 with ⟨rfl, h0⟩ | ⟨g, cap, cur, rfl, _, _, h4, h5, _⟩
  · exact ⟨none, 0, 0, by rw [h0], by omega, fun h => by omega, fun i hi => by omega⟩
  · refine ⟨some ⟨g, 0, none⟩, cap, g, rfl, by unfold maxLen at h5; omega, fun _ => rfl, fun i hi => ?_⟩
    rw [World.ownsRow.cellAt h _ (by omega)]
    simp [nums, hi]
/-- Rows of numbers that may be read. -/
def RdR (w : World) (ls : List (List Nat)) (v : Value) : Prop :=
  ∃ (a : Option Addr) (cap b : Nat) (vs : Nat → Value), v = .slice a ls.length cap ∧ ls.length ≤ 9223372036854775807 ∧ (0 < ls.length → a = some ⟨b, 0, none⟩) ∧ (∀ i (hi : i < ls.length), w.cell? ⟨b, i, none⟩ = some (vs i)) ∧ ∀ i (hi : i < ls.length), RdI w ls[i] (vs i)
theorem RdI.still {w w' : World} {xs : List Nat} {v : Value} (h : RdI w xs v) (hb : Below w.heap.size w w') : RdI w' xs v := by
  obtain ⟨a, cap, b, h1, h2, h3, h4⟩ := h
  exact ⟨a, cap, b, h1, h2, h3, fun i hi => (hb.cell (lt_of_cell (h4 i hi))).trans (h4 i hi)⟩
theorem RdI.form {w : World} {xs : List Nat} {v : Value} (h : RdI w xs v) : ∃ a c, v = .slice a xs.length c := by
  obtain ⟨a, cap, b, h1, _⟩ := h
  exact ⟨a, cap, h1⟩
theorem RdR.still {w w' : World} {ls : List (List Nat)} {v : Value} (h : RdR w ls v) (hb : Below w.heap.size w w') : RdR w' ls v := by
  obtain ⟨a, cap, b, vs, h1, h2, h3, h4, h5⟩ := h
  exact ⟨a, cap, b, vs, h1, h2, h3, fun i hi => (hb.cell (lt_of_cell (h4 i hi))).trans (h4 i hi), fun i hi => (h5 i hi).still hb⟩
theorem rdr_of {w : World} {B : Nat} {ls : List (List Nat)} {v : Value} {vs : Nat → Value} (h : w.ownsRow B 40 1 v ls.length (slv vs ls.length)) (h' : ∀ i (hi : i < ls.length), RdI w ls[i] (vs i)) : RdR w ls v := by
  rcases h.2 with ⟨rfl, h0⟩ | ⟨g, cap, cur, rfl, _, _, h4, h5, _⟩
  · exact ⟨none, 0, 0, vs, by rw [h0], by omega, fun h => by omega, fun i hi => by omega, h'⟩
  · refine ⟨some ⟨g, 0, none⟩, cap, g, vs, rfl, by unfold maxLen at h5; omega, fun _ => rfl, fun i hi => ?_, h'⟩
    rw [World.ownsRow.cellAt h _ (by omega), slv_get vs hi]
theorem RS.rd {w : World} {B : Nat} {ls : List (List Nat)} {v : Value} {vs : Nat → Value} (h : RS w B ls v vs) : RdR w ls v := rdr_of h.out (fun i hi => own_rdi (h.row i hi))
theorem RRv.rd {w : World} {B : Nat} {ls : List (List Nat)} {v : Value} {vs : Nat → Value} (h : RRv w B ls v vs) : RdR w ls v := rdr_of h.out (fun i hi => own_rdi (h.row i hi))
theorem bel_drewM {B : Nat} {a w : World} (h : Below B a w) (n : Nat) : Below B a (w.drewN n) := h.trans ⟨rfl, rfl, rfl, Nat.le_refl _, fun _ _ => rfl⟩
set_option maxHeartbeats 1600000 in
theorem sameInts34 (xs : List Nat) (v v' : Value) (w : World) (h : RdI w xs v) (h' : RdI w xs v') :
    Calls Try.prog 34 #[v, v'] w fun e w' => e = .returned (.bool true) ∧ Below w.heap.size w w' := by
  obtain ⟨a1, cap1, b1, rfl, hm, ha1, hc1⟩ := h
  obtain ⟨a2, cap2, b2, rfl, _, ha2, hc2⟩ := h'
  have HD := (show Hid _ from (⟨ha1, hc1, ha2, hc2⟩ : _ ∧ _ ∧ _ ∧ _)); clear ha1 hc1 ha2 hc2
  go_enter Try.func34, Try.ntmps34
  go_wp2_with fail
  go_loopw [5] (fun i wr => ∃ j : Nat, i = .int .i64 j ∧ j ≤ xs.length ∧ Hid (Below w.heap.size w wr)) (fun i _ => xs.length - (intOf i).toNat)
  case atStart => exact ⟨0, rfl, Nat.zero_le _, Below.refl _ _⟩
  case round =>
    obtain ⟨j, rfl, hj, HJ⟩ := hrel
    by_cases hlt : j < xs.length
    · obtain rfl := HD.out.1 (by omega)
      obtain rfl := HD.out.2.2.1 (by omega)
      have c1 := HD.out.2.1 j hlt
      have c2 := HD.out.2.2.2 j hlt
      rw [← HJ.out.cell (lt_of_cell c1)] at c1
      rw [← HJ.out.cell (lt_of_cell c2)] at c2
      have i1 : (0 : Int) ≤ (j : Int) := by omega
      have i2 : (j : Int) < (xs.length : Int) := by omega
      have HN := (show Hid (∀ n, Below w.heap.size w (wr.drewN n)) from fun n => bel_drewM HJ.out n)
      generalize xs[j] = y at *
      have hne : ((y : Int) != (y : Int)) = false := by simp
      go_wp2_with fail
      go_quiet (fail)
      go_wp2_with fail
      exact ⟨⟨j + 1, by go_num, by omega, HN.out _⟩, by simp [intOf]; omega⟩
    · have q1 : ¬ ((j : Int) < (xs.length : Int)) := by omega
      go_wp2_with fail
      go_ret
      exact ⟨rfl, HJ.out⟩
set_option maxHeartbeats 1600000 in
theorem sameRows12 (ls : List (List Nat)) (v v' : Value) (w : World) (h : RdR w ls v) (h' : RdR w ls v') :
    Calls Try.prog 12 #[v, v'] w fun e w' => e = .returned (.bool true) ∧ Below w.heap.size w w' := by
  obtain ⟨a1, cap1, b1, vs1, rfl, hm, ha1, hc1, hl1⟩ := h
  obtain ⟨a2, cap2, b2, vs2, rfl, _, ha2, hc2, hl2⟩ := h'
  have HD := (show Hid _ from (⟨ha1, hc1, hl1⟩ : _ ∧ _ ∧ _)); clear ha1 hc1 hl1
  have HD' := (show Hid _ from (⟨ha2, hc2, hl2⟩ : _ ∧ _ ∧ _)); clear ha2 hc2 hl2
  go_enter Try.func12, Try.ntmps12
  go_wp2_with fail
  go_loopw [5] (fun i wr => ∃ j : Nat, i = .int .i64 j ∧ j ≤ ls.length ∧ Hid (Below w.heap.size w wr)) (fun i _ => ls.length - (intOf i).toNat)
  case atStart => exact ⟨0, rfl, Nat.zero_le _, Below.refl _ _⟩
  case round =>
    obtain ⟨j, rfl, hj, HJ⟩ := hrel
    by_cases hlt : j < ls.length
    · obtain rfl := HD.out.1 (by omega)
      obtain rfl := HD'.out.1 (by omega)
      have d1 := HD.out.2.1 j hlt
      have f1 := HD'.out.2.1 j hlt
      obtain ⟨x1, x2, hq⟩ := (HD.out.2.2 j hlt).form
      obtain ⟨y1, y2, hr⟩ := (HD'.out.2.2 j hlt).form
      have hl1 := HD.out.2.2 j hlt
      have hl2 := HD'.out.2.2 j hlt
      rw [hq] at d1 hl1
      rw [hr] at f1 hl2
      have HSK := (show Hid (∀ w' : World, Below wr.heap.size wr w' → w'.cell? ⟨b1, j, none⟩ = some (.slice x1 ls[j].length x2) ∧ w'.cell? ⟨b2, j, none⟩ = some (.slice y1 ls[j].length y2)) from fun w' hb => by
        have hbw := bel_trans HJ.out hb
        have mv : ∀ {b o : Nat} {v : Value}, w.cell? ⟨b, o, none⟩ = some v → w'.cell? ⟨b, o, none⟩ = some v := fun h => (hbw.cell (lt_of_cell h)).trans h
        exact ⟨mv d1, mv f1⟩)
      have hd0 : Below wr.heap.size wr wr.drew := (Below.refl _ _).drew
      have HCL := (show Hid _ from sameInts34 ls[j] _ _ wr.drew (hl1.still (bel_trans HJ.out hd0)) (hl2.still (bel_trans HJ.out hd0)))
      have hS0 := HSK.out _ hd0
      have HD0 := (show Hid _ from hd0)
      have i1 : (0 : Int) ≤ (j : Int) := by omega
      have i2 : (j : Int) < (ls.length : Int) := by omega
      clear d1 f1 hl1 hl2 hq hr hd0
      generalize ls[j].length = m0 at *
      go_wp2_with fail
      go_region_held3 (fun wq => wq.cell? ⟨b1, j, none⟩ = some (.slice x1 m0 x2) ∧ wq.cell? ⟨b2, j, none⟩ = some (.slice y1 m0 y2)) (first | with_reducible exact hS0 | with_reducible exact hS1) ((first | (go_at_call 34; refine Calls.mono HCL.out ?_; rintro e w3 ⟨rfl, hb3⟩; have hx1 : Below wr.heap.size wr w3 := HD0.out.trans (hb3.mono (Nat.le_refl _)); have hS1 := HSK.out w3 hx1)))
      have HE := (show Hid _ from bel_trans HJ.out hx1)
      clear hS0 hS1 hb3 hx1
      go_wp2_with fail
      exact ⟨⟨j + 1, by go_num, by omega, HE⟩, by simp [intOf]; omega⟩
    · have q1 : ¬ ((j : Int) < (ls.length : Int)) := by omega
      have HE := (show Hid _ from HJ.out)
      go_wp2_with fail
      go_ret
      exact ⟨rfl, HE.out⟩
end Go.Proofs.Ytbgoikaelmacbaa

/-! Pure: what a pattern binds is no more than the tree; paths as they are read. -/
namespace Go.Proofs.Ytbgoikaelmacbaa
open Go.RowKit Go.Deep Go.Lib
set_option linter.unusedVariables false
set_option maxRecDepth 100000
set_option linter.unusedSimpArgs false

theorem bwL_app (bl : List (ByteArray × Tr)) (x : ByteArray) (t : Tr) : bwL (bl ++ [(x, t)]) = bwL bl + (x.size + t.wt) := by
  rw [bwL_append]
  simp [bwL]
theorem mtK_bwL : ∀ (k ts : List Tr) (bl : List (ByteArray × Tr)), (∀ i (hi : i < k.length) t bl, bwL (mtT k[i] t bl).1 ≤ bwL bl + (k[i].wt + t.wt)) → bwL (mtK (k.map mtT) ts bl).1 ≤ bwL bl + (Tr.wtL k + Tr.wtL ts)
  | [], ts, bl, _ => by simp [mtK]
  | _ :: _, [], bl, _ => by simp [mtK]
  | p :: r, t :: ts, bl, h => by
    have h0 := h 0 (by simp) t bl
    simp only [List.getElem_cons_zero] at h0
    have h1 := mtK_bwL r ts (mtT p t bl).1 (fun i hi u m => by have := h (i + 1) (by simp; omega) u m; simpa using this)
    have e1 : Tr.wtL (p :: r) = p.wt + Tr.wtL r := by simp [Tr.wtL]
    have e2 : Tr.wtL (t :: ts) = t.wt + Tr.wtL ts := by simp [Tr.wtL]
    rw [List.map_cons, mtK]
    split
    · omega
    · dsimp only; omega
theorem mtT_bwL (p : Tr) : ∀ t bl, bwL (mtT p t bl).1 ≤ bwL bl + (p.wt + t.wt) := by
  refine Tr.ind (P := fun p => ∀ t bl, bwL (mtT p t bl).1 ≤ bwL bl + (p.wt + t.wt)) ?_ p
  intro n x lf k ih t bl
  have hw := Tr.wt_mk n x lf k
  rw [mtT_mk]
  split
  · unfold mtV
    split
    · dsimp only; omega
    · dsimp only
      rw [bwL_app]
      omega
  · split
    · have h1 := mtK_bwL k t.kids bl (fun i hi u m => ih i hi u m)
      have h2 := wt_kids t
      omega
    · dsimp only; omega
theorem ma_bwt {p t : Tr} (hp : patB p = true) (ht : t.ok = true) : bwt (mtT p t []).1 ≤ 1048576 := by
  have hpo : p.ok = true := by
    unfold patB at hp
    rw [Bool.and_eq_true] at hp
    exact hp.1
  have h1 := mtT_bwL p t []
  have h2 := mtT_len p t []
  have a1 := Tr.wt_right p (ok_right hpo)
  have a2 := Tr.wt_right t (ok_right ht)
  have c1 := ok_cnt hpo
  have c2 := ok_cnt ht
  have e : bwL [] = 0 := rfl
  unfold bwt
  simp only [List.length_nil] at h2
  omega
theorem ma_names {p t : Tr} (hp : patB p = true) (ht : t.ok = true) (i : Nat) (hi : i < (mtT p t []).1.length) : (mtT p t []).1[i].1.size ≤ maxLen := by
  have hn : nmV p = true := by
    unfold patB at hp
    rw [Bool.and_eq_true] at hp
    exact hp.2
  have h := mtT_bds p t [] hn ht (fun j hj => by simp at hj) i hi
  unfold oneB at h
  rw [Bool.and_eq_true, nb_eq hi] at h
  obtain ⟨_, h2, _⟩ := nmB_iff.1 h.1
  unfold maxLen
  omega
theorem rdi_ints {w : World} {xs : List Nat} {v : Value} (h : RdI w xs v) (hx : xs.length ≤ maxLen) : ∃ (a : Option Addr) (c b : Nat), v = .slice a xs.length c ∧ (0 < xs.length → a = some ⟨b, 0, none⟩) ∧ ∀ i (hi : i < xs.length), w.cell? ⟨b, i, none⟩ = some (.int .i64 (xs[i] : Nat)) := by
  obtain ⟨a, cap, b, h1, h2, h3, h4⟩ := h
  exact ⟨a, cap, b, h1, h3, h4⟩
/-- A path as TreeAt reads it. -/
theorem own_path {w : World} {B : Nat} {xs : List Nat} {v : Value} (h : w.ownsRow B 3 1 v xs.length (nums xs)) : Ints w (fun _ => True) (natI xs) v := by
  have hl : (natI xs).length = xs.length := by simp
  rcases h.2 with ⟨rfl, h0⟩ | ⟨g, cap, cur, rfl, _, _, h4, h5, _⟩
  · exact ⟨none, 0, 0, 0, by rw [hl, h0], by rw [hl]; omega, Nat.zero_le _, fun h => by rw [hl] at h; omega, fun i hi => by rw [hl] at hi; omega⟩
  · refine ⟨some ⟨g, 0, none⟩, cap, g, 0, by rw [hl], by rw [hl]; exact h4, h5, fun _ => ⟨rfl, trivial⟩, fun i hi => ?_⟩
    have hi2 : i < xs.length := by rw [hl] at hi; exact hi
    rw [Nat.zero_add, World.ownsRow.cellAt h _ (by omega)]
    simp [nums, hi2]
theorem at_yes {t u : Tr} {l : List Int} (ht : t.ok = true) (h : walkAt l t = some u) : atR t l = (u, 0) := atR_yes ht h
end Go.Proofs.Ytbgoikaelmacbaa
