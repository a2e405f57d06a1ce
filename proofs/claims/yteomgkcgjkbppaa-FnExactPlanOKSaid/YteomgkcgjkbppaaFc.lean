import Derived.Test.YteomgkcgjkbppaaFb
/-! The specification: Fill. -/
namespace Go.Proofs.Yteomgkcgjkbppaa
open Go.RowKit Go.Deep Go.Lib
set_option linter.unusedVariables false
set_option maxRecDepth 100000
set_option linter.unusedSimpArgs false

theorem own_no (w : World) (lo hi : Nat) : Own w lo hi noTr (.slice none 0 0) :=
  Own.shut ⟨none, 0, lo, fun _ => .bool false, fun _ => 0, fun _ => 0, rfl, Nat.zero_le _, Nat.zero_le _, Nat.le_refl _, Nat.zero_le _, fun h => absurd h (Nat.not_lt_zero _), fun i hi => absurd hi (Nat.not_lt_zero _), fun i hi => absurd hi (Nat.not_lt_zero _), fun i hi => absurd hi (Nat.not_lt_zero _), fun i j hi hj => absurd hj (Nat.not_lt_zero _)⟩
theorem first_at {bl : List (ByteArray × Tr)} {j : Nat} (hj : j < bl.length) {i : Int} (h : FdI bl bl[j].1 i) : (i = (j : Int)) ↔ ((List.range j).all fun q => !eqS (nb bl q).1 (nb bl j).1) = true := by
  rw [List.all_eq_true]
  rcases h with ⟨_, h2⟩ | ⟨k, hk, rfl, h2, h3⟩
  · exact absurd rfl (h2 j hj)
  · constructor
    · intro e q hq
      have hq' : q < j := List.mem_range.1 hq
      have e' : k = j := by omega
      subst e'
      have := h3 q (by omega) hq'
      rw [nb_eq hk, nb_eq (show q < bl.length by omega), eqS_no this]
      rfl
    · intro ha
      rcases Nat.lt_trichotomy k j with g | g | g
      · have := ha k (List.mem_range.2 g)
        rw [nb_eq hj, nb_eq hk, h2, eqS_refl] at this
        cases this
      · rw [g]
      · exact absurd rfl (h3 j hj g)
/-- What Fill leaves. -/
def FiA (p : Tr) (bl : List (ByteArray × Tr)) (w : World) (e : Ending) (w' : World) : Prop :=
  ∃ u, e = .returned (.tuple #[(fiR p bl).1.val u, .int .i64 (fiR p bl).2]) ∧ Below w.heap.size w w' ∧ Own w' w.heap.size w'.heap.size (fiR p bl).1 u
theorem FiA.no {p : Tr} {bl : List (ByteArray × Tr)} {w w' : World} {c : Int} (h : fiR p bl = (noTr, c)) (hb : Below w.heap.size w w') : FiA p bl w (.returned (.tuple #[.agg #[.string ByteArray.empty, .string ByteArray.empty, .bool false, .slice none 0 0], .int .i64 c])) w' :=
  ⟨.slice none 0 0, by rw [h]; rfl, hb, by rw [h]; exact own_no _ _ _⟩
/-- Four cells of no tree, that may be written. -/
structure ZBx (w : World) (g : Nat) : Prop where
  bx : Box w g 31 [.string ByteArray.empty, .string ByteArray.empty, .bool false, .slice none 0 0]
set_option maxHeartbeats 3200000 in
theorem sFill17 (p : Tr) (bl : List (ByteArray × Tr)) (v bv : Value) (w : World) (hp : Lies w (fun _ => True) p v) (hb : BLi w bl bv) (hxs : ∀ i (hi : i < bl.length), bl[i].1.size ≤ maxLen) :
    Calls Try.prog 17 #[p.val v, bv] w (FiA p bl w) := by
  obtain ⟨pa, pl, pc, rfl⟩ := hp.form
  have hbm : bl.length ≤ 2 ^ 63 - 1 := by
    obtain ⟨_, _, _, _, hbo, _⟩ := hb
    rcases hbo.2 with ⟨e, e0⟩ | ⟨g, cp, cur, r1, r2, r3, r4, r5, r6⟩
    · rw [e0]; exact Nat.zero_le _
    · unfold maxLen at r5; omega
  obtain ⟨bb, bcap, rfl⟩ : ∃ (b cap : Nat), bv = .slice (some ⟨b, 0, none⟩) bl.length cap := by
    obtain ⟨b, cap, _, e, _⟩ := hb
    exact ⟨b, cap, e⟩
  have HBC := (show Hid (∀ wq : World, Below w.heap.size w wq → ∀ i (hi : i < bl.length), ∃ a l c, wq.cell? ⟨bb, i * 5, none⟩ = some (.string bl[i].1) ∧ wq.cell? ⟨bb, i * 5 + 1, none⟩ = some (.string bl[i].2.name) ∧ wq.cell? ⟨bb, i * 5 + 2, none⟩ = some (.string bl[i].2.text) ∧ wq.cell? ⟨bb, i * 5 + 3, none⟩ = some (.bool bl[i].2.leaf) ∧ wq.cell? ⟨bb, i * 5 + 4, none⟩ = some (.slice a l c) ∧ Lies wq (fun _ => True) bl[i].2 (.slice a l c)) from fun wq h i hi => by
    obtain ⟨b, cap, sv, e, hbo, hs, hl⟩ := hb.still h
    injection e with e1 e2 e3
    injection e1 with e1
    injection e1 with e1
    subst e1
    obtain ⟨g0, g1, g2, g3, g4⟩ := bcs_get bl sv bl.length i hi
    rw [nb_eq hi] at g0 g1 g2 g3
    obtain ⟨a, l, c, es⟩ := hs i
    have := hl i hi
    rw [es] at g4 this
    exact ⟨a, l, c, by rw [World.ownsRow.cellAt hbo _ (by omega), g0], by rw [World.ownsRow.cellAt hbo _ (by omega), g1], by rw [World.ownsRow.cellAt hbo _ (by omega), g2], by rw [World.ownsRow.cellAt hbo _ (by omega), g3], by rw [World.ownsRow.cellAt hbo _ (by omega), g4], this⟩)
  have HFD := (show Hid (∀ (s : ByteArray) (wq : World), Below w.heap.size w wq → Calls Try.prog 48 #[.slice (some ⟨bb, 0, none⟩) bl.length bcap, .string s] wq fun e w' => ∃ i : Int, e = .returned (.int .i64 i) ∧ FdI bl s i ∧ w' = wq) from fun s wq h => first48 bl s _ wq (hb.still h))
  have HFL := (show Hid (∀ wq : World, Below w.heap.size w wq → hvT bl p = true → p.cnt ≤ 1000 → Calls Try.prog 50 #[p.val (.slice pa pl pc), .slice (some ⟨bb, 0, none⟩) bl.length bcap] wq (FlA w.heap.size (flT bl p) wq)) from fun wq h h1 h2 => fill50 w bl _ hb p _ wq hp h h1 h2)
  have HPT := (show Hid (∀ wq : World, Below w.heap.size w wq → Calls Try.prog 32 #[p.val (.slice pa pl pc)] wq fun e w' => e = .returned (.bool (patB p)) ∧ Below wq.heap.size wq w') from fun wq h => pat32 p _ wq (hp.still h))
  have HVS := (show Hid (∀ w1 : World, Below w.heap.size w w1 → p.cnt ≤ 1000 → Calls Try.prog 49 #[p.val (.slice pa pl pc), .slice (some ⟨w1.heap.size, 0, none⟩) 0 0] (w1.alloc (.cells #[] 9)) fun e w' => ∃ (la : Option Addr) (lc : Nat), e = .returned (.tuple #[.slice la (vsT p []).1.length lc, .bool (vsT p []).2]) ∧ Below w1.heap.size w1 w' ∧ SRow w' (vsT p []).1 (.slice la (vsT p []).1.length lc)) from fun w1 h hc => by
    have hb2 := bel_trans h (bel_alloc w1 (.cells #[] 9))
    have hp1 : Lies w1 (fun q => q < w1.heap.size) p (.slice pa pl pc) := ((hp.still h).lt).mono (fun q hq => hq.2)
    refine Calls.mono (vars49 (S := fun q => q < w1.heap.size) (B := w1.heap.size) (fun q hq => hq) p _ _ [] _ (hp1.still (bel_alloc _ _)) (World.ownsRow_made w1 #[] 0 (Nat.le_refl _) (Nat.zero_le _) rfl) (bel_alloc w1 _).size (by simp; omega)) ?_
    rintro e w' ⟨la, lc, e1, e2, e3⟩
    refine ⟨la, lc, e1, ?_, own_srow e3⟩
    exact (bel_alloc w1 (.cells #[] 9)).trans (e2.below (B := w1.heap.size) (bel_alloc w1 _).size (fun g hg => by
      have : w1.heap.size = g := by simpa [Value.ownBlock] using hg
      omega)))
  have HNM := (show Hid (∀ i (hi : i < bl.length) (wq : World), Calls Try.prog 47 #[.string bl[i].1] wq fun e w' => e = .returned (.bool (nmB bl[i].1)) ∧ w' = wq) from fun i hi wq => sName _ (hxs i hi) wq)
  have HCP := (show Hid (∀ (T : Tr) (u : Value) (wq : World), Lies wq (fun _ => True) T u → T.ok = true → Calls Try.prog 35 #[T.val u] wq fun e w' => ∃ v', e = .returned (T.val v') ∧ Below wq.heap.size wq w' ∧ Own w' wq.heap.size w'.heap.size T v') from fun T u wq h1 h2 => copy_any T u wq h1 (ok_wt h2))
  have HOK := (show Hid (∀ (T : Tr) (u : Value) (wq : World), Lies wq (fun _ => True) T u → Calls Try.prog 33 #[T.val u] wq fun e w' => e = .returned (.bool T.ok) ∧ Below wq.heap.size wq w') from fun T u wq h1 => sOK_any T u wq h1)
  have HRD := (show Hid (fiR p bl = if (patB p && bdB bl) = true then (if hvT bl p = true then (if (flT bl p).ok = true then (flT bl p, 0) else (noTr, 3)) else (noTr, 8)) else (noTr, 1)) from rfl)
  have HVA := (show Hid (patB p = true → (vsT p []).1.all (fun x => (look bl x).isSome) = hvT bl p) from fun h => by
    unfold patB at h
    rw [Bool.and_eq_true] at h
    rw [vsT_all bl p [] h.2]
    rfl)
  have HCN := (show Hid (patB p = true → p.cnt ≤ 1000) from fun h => by
    unfold patB at h
    rw [Bool.and_eq_true] at h
    exact ok_cnt h.1)
  have HNO := (show Hid (∀ (c : Int) (w' : World), fiR p bl = (noTr, c) → Below w.heap.size w w' → FiA p bl w (.returned (.tuple #[.agg #[.string ByteArray.empty, .string ByteArray.empty, .bool false, .slice none 0 0], .int .i64 c])) w') from fun c w' h h' => FiA.no h h')
  have HYS := (show Hid (∀ (u : Value) (w' : World), fiR p bl = (flT bl p, 0) → Below w.heap.size w w' → Own w' w.heap.size w'.heap.size (flT bl p) u → FiA p bl w (.returned (.tuple #[(flT bl p).val u, .int .i64 0])) w') from fun u w' h h1 h2 => ⟨u, by rw [h], h1, by rw [h]; exact h2⟩)
  have HAN := (show Hid (∀ wq : World, Below (w.heap.size + 2) ((w.alloc (.cells #[.string p.name, .string p.text, .bool p.leaf, .slice pa pl pc] 31)).alloc (.cells #[.string ByteArray.empty, .string ByteArray.empty, .bool false, .slice none 0 0] 31)) wq → Below w.heap.size w wq ∧ Box wq w.heap.size 31 [.string p.name, .string p.text, .bool p.leaf, .slice pa pl pc] ∧ Box wq (w.heap.size + 1) 31 [.string ByteArray.empty, .string ByteArray.empty, .bool false, .slice none 0 0] ∧ w.heap.size + 2 ≤ wq.heap.size) from fun wq h => by
    have h1 : Below w.heap.size w ((w.alloc (.cells #[.string p.name, .string p.text, .bool p.leaf, .slice pa pl pc] 31)).alloc (.cells #[.string ByteArray.empty, .string ByteArray.empty, .bool false, .slice none 0 0] 31)) := (bel_alloc _ _).alloc (by simp) _
    refine ⟨h1.trans (h.mono (by omega)), ?_, ?_, by have := h.size; simpa using this⟩
    · exact ((Box.new w 31 _).still (bel_alloc _ _)).keep (h.block _ (by omega))
    · have h2 := Box.new (w.alloc (.cells #[.string p.name, .string p.text, .bool p.leaf, .slice pa pl pc] 31)) 31 [.string ByteArray.empty, .string ByteArray.empty, .bool false, .slice none 0 0]
      rw [show (w.alloc (.cells #[.string p.name, .string p.text, .bool p.leaf, .slice pa pl pc] 31)).heap.size = w.heap.size + 1 from by simp] at h2
      exact h2.keep (h.block _ (by omega)))
  clear hp hb hxs
  have HP0 := (show Hid _ from HPT.out _ (HAN.out _ (Below.refl _ _)).1)
  have hz2 : ((w.alloc (.cells #[.string p.name, .string p.text, .bool p.leaf, .slice pa pl pc] 31)).alloc (.cells #[.string ByteArray.empty, .string ByteArray.empty, .bool false, .slice none 0 0] 31)).heap.size = w.heap.size + 2 := by simp
  rw [hz2] at HP0
  clear hz2 HPT
  simp only [Tr.val] at HP0 HFL HVS ⊢
  generalize p.name = p0 at *
  generalize p.text = p1 at *
  generalize p.leaf = p2 at *
  cases hpb : patB p
  · rw [hpb] at HP0 HRD
    have HF := (show Hid (fiR p bl = (noTr, 1)) from HRD.out)
    clear hpb HRD HFL HVS HCP HOK HVA HCN HYS HFD HBC HNM
    go_enter Try.func17, Try.ntmps17
    go_wp2_with fail
    refine Calls.mono HP0.out ?_
    rintro e w1 ⟨rfl, hb1⟩
    obtain ⟨hbw, bx1, bx2, _⟩ := HAN.out w1 hb1
    have Z0 : w1.cell? ⟨w.heap.size + 1, 0, none⟩ = some (.string ByteArray.empty) := bx2.cell 0 (by simp)
    have Z1 : w1.cell? ⟨w.heap.size + 1, 1, none⟩ = some (.string ByteArray.empty) := bx2.cell 1 (by simp)
    have Z2 : w1.cell? ⟨w.heap.size + 1, 2, none⟩ = some (.bool false) := bx2.cell 2 (by simp)
    have Z3 : w1.cell? ⟨w.heap.size + 1, 3, none⟩ = some (.slice none 0 0) := bx2.cell 3 (by simp)
    have y0 : w1.frozen? ⟨w.heap.size + 1, 0, none⟩ = false := bx2.frozen 0
    have y1 : w1.frozen? ⟨w.heap.size + 1, 1, none⟩ = false := bx2.frozen 1
    have y2 : w1.frozen? ⟨w.heap.size + 1, 2, none⟩ = false := bx2.frozen 2
    have y3 : w1.frozen? ⟨w.heap.size + 1, 3, none⟩ = false := bx2.frozen 3
    have HB := (show Hid _ from hbw)
    clear hb1 hbw bx1 bx2 HP0 HAN
    go_wp2_with fail
    refine bodyPost_ret (v := .tuple #[.agg #[.string ByteArray.empty, .string ByteArray.empty, .bool false, .slice none 0 0], .int .i64 1]) (by simp [results, Try.results17, go_sem, Z0, Z1, Z2, Z3]; rfl) rfl (HNO.out 1 _ HF.out ?_)
    exact (((HB.out.setCell (by simp) _).setCell (by simp) _).setCell (by simp) _).setCell (by simp) _
  · rw [hpb] at HP0 HRD
    have HVB := (show Hid _ from HVA.out hpb)
    have hcnt := HCN.out hpb
    have HFC := (show Hid _ from fun (wq : World) (h1 : Below w.heap.size w wq) (h2 : hvT bl p = true) => HFL.out wq h1 h2 hcnt)
    have HVC := (show Hid _ from fun (wq : World) (h1 : Below w.heap.size w wq) => HVS.out wq h1 hcnt)
    have HR1 := (show Hid (bdB bl = false → fiR p bl = (noTr, 1)) from fun h => by rw [HRD.out, h]; rfl)
    have HR2 := (show Hid (bdB bl = true → hvT bl p = false → fiR p bl = (noTr, 8)) from fun h h1 => by rw [HRD.out, h, h1]; rfl)
    have HR3 := (show Hid (bdB bl = true → hvT bl p = true → (flT bl p).ok = false → fiR p bl = (noTr, 3)) from fun h h1 h2 => by rw [HRD.out, h, h1, h2]; rfl)
    have HR4 := (show Hid (bdB bl = true → hvT bl p = true → (flT bl p).ok = true → fiR p bl = (flT bl p, 0)) from fun h h1 h2 => by rw [HRD.out, h, h1, h2]; rfl)
    have HBD := (show Hid (bdB bl = bdJ bl bl.length) from rfl)
    clear hpb HRD HFL HVS HVA HCN hcnt
    unfold FlA at HFC
    generalize hT : flT bl p = T at *
    clear hT
    generalize hL : (vsT p []).1 = L at *
    generalize hLb : (vsT p []).2 = Lb at *
    generalize hH : hvT bl p = H at *
    generalize hBD : bdB bl = D at *
    clear hL hLb hH hBD
    go_enter Try.func17, Try.ntmps17
    go_wp2_with fail
    refine Calls.mono HP0.out ?_
    rintro e w1 ⟨rfl, hb1⟩
    have HB1 := (show Hid (Below (w.heap.size + 2) ((w.alloc (.cells #[.string p0, .string p1, .bool p2, .slice pa pl pc] 31)).alloc (.cells #[.string ByteArray.empty, .string ByteArray.empty, .bool false, .slice none 0 0] 31)) w1) from hb1)
    clear hb1 HP0
    go_wp2_with fail
    go_loopw [6] (fun i wr => ∃ j : Nat, i = .int .i64 j ∧ j ≤ bl.length ∧ Hid (bdJ bl j = true) ∧ Hid (Below (w.heap.size + 2) ((w.alloc (.cells #[.string p0, .string p1, .bool p2, .slice pa pl pc] 31)).alloc (.cells #[.string ByteArray.empty, .string ByteArray.empty, .bool false, .slice none 0 0] 31)) wr)) (fun i _ => bl.length - (intOf i).toNat)
    case atStart => exact ⟨0, rfl, Nat.zero_le _, (rfl : bdJ bl 0 = true), HB1.out⟩
    case round =>
      obtain ⟨j, rfl, hj, HJ, HB⟩ := hrel
      clear HB1
      by_cases hlt : j < bl.length
      · have q1 : (j : Int) < (bl.length : Int) := by omega
        have q0 : (0 : Int) ≤ (j : Int) := by omega
        obtain ⟨a4, l4, c4, d0, d1, d2, d3, d4, dl⟩ := HBC.out wr (HAN.out wr HB.out).1 j hlt
        have HDL := (show Hid (Lies wr (fun _ => True) bl[j].2 (.slice a4 l4 c4)) from dl)
        have HN := (show Hid (∀ wq : World, Calls Try.prog 47 #[.string bl[j].1] wq fun e w' => e = .returned (.bool (nmB bl[j].1)) ∧ w' = wq) from HNM.out j hlt)
        have HO := (show Hid (Calls Try.prog 33 #[.agg #[.string bl[j].2.name, .string bl[j].2.text, .bool bl[j].2.leaf, .slice a4 l4 c4]] wr fun e w' => e = .returned (.bool bl[j].2.ok) ∧ Below wr.heap.size wr w') from HOK.out bl[j].2 _ wr dl)
        have HON := (show Hid (oneB bl j = (nmB bl[j].1 && (bl[j].2.ok && (List.range j).all fun i => !eqS (nb bl i).1 (nb bl j).1))) from (by show _ = _; unfold oneB; rw [nb_eq hlt]))
        have HNX := (show Hid (oneB bl j = false → D = false) from fun h => by
          rw [HBD.out]
          exact bdJ_false bl bl.length (i := j + 1) (by omega) (by rw [bdJ, h]; simp))
        have HNY := (show Hid (oneB bl j = true → bdJ bl (j + 1) = true) from fun h => by rw [bdJ, h, HJ.out]; rfl)
        have HFX := (show Hid (∀ (i : Int), FdI bl bl[j].1 i → ((i = (j : Int)) ↔ ((List.range j).all fun q => !eqS (nb bl q).1 (nb bl j).1) = true)) from fun i h => first_at hlt h)
        have HFJ := (show Hid (∀ wq : World, Below wr.heap.size wr wq → Calls Try.prog 48 #[.slice (some ⟨bb, 0, none⟩) bl.length bcap, .string bl[j].1] wq fun e w' => ∃ i : Int, e = .returned (.int .i64 i) ∧ FdI bl bl[j].1 i ∧ w' = wq) from fun wq h => HFD.out _ wq (bel_trans (HAN.out wr HB.out).1 h))
        have HNO1 := (show Hid (D = false → fiR p bl = (noTr, 1)) from HR1.out)
        have HD0 := (show Hid (∀ wq : World, Below wr.heap.size wr wq → wq.cell? ⟨bb, j * 5, none⟩ = some (.string bl[j].1)) from fun wq h => (h.cell (lt_of_cell d0)).trans d0)
        have HAB := (show Hid (∀ wq : World, Below wr.heap.size wr wq → Below (w.heap.size + 2) ((w.alloc (.cells #[.string p0, .string p1, .bool p2, .slice pa pl pc] 31)).alloc (.cells #[.string ByteArray.empty, .string ByteArray.empty, .bool false, .slice none 0 0] 31)) wq) from fun wq h => HB.out.trans (h.mono (HAN.out wr HB.out).2.2.2))
        clear dl HJ
        generalize bl[j].1 = y0' at *
        generalize bl[j].2.name = y1' at *
        generalize bl[j].2.text = y2' at *
        generalize bl[j].2.leaf = y3' at *
        generalize bl[j].2.ok = ok at *
        generalize hAL : ((List.range j).all fun q => !eqS (nb bl q).1 (nb bl j).1) = al at *
        generalize hOB : oneB bl j = ob at *
        clear hAL hOB
        cases hnm : nmB y0'
        · rw [hnm] at HN HON
          have HF := (show Hid (fiR p bl = (noTr, 1)) from HNO1.out (HNX.out (by rw [HON.out]; rfl)))
          obtain ⟨hbw, bx1, bx2, _⟩ := HAN.out wr HB.out
          have Z0 : wr.cell? ⟨w.heap.size + 1, 0, none⟩ = some (.string ByteArray.empty) := bx2.cell 0 (by simp)
          have Z1 : wr.cell? ⟨w.heap.size + 1, 1, none⟩ = some (.string ByteArray.empty) := bx2.cell 1 (by simp)
          have Z2 : wr.cell? ⟨w.heap.size + 1, 2, none⟩ = some (.bool false) := bx2.cell 2 (by simp)
          have Z3 : wr.cell? ⟨w.heap.size + 1, 3, none⟩ = some (.slice none 0 0) := bx2.cell 3 (by simp)
          have y0 : wr.frozen? ⟨w.heap.size + 1, 0, none⟩ = false := bx2.frozen 0
          have y1 : wr.frozen? ⟨w.heap.size + 1, 1, none⟩ = false := bx2.frozen 1
          have y2 : wr.frozen? ⟨w.heap.size + 1, 2, none⟩ = false := bx2.frozen 2
          have y3 : wr.frozen? ⟨w.heap.size + 1, 3, none⟩ = false := bx2.frozen 3
          have HBW := (show Hid _ from hbw)
          clear hbw bx1 bx2 hnm HON HNX HNY HFX HFJ HNO1 HO HAB HD0 d1 d2 d3 d4
          go_wp2_with fail
          refine Calls.mono (HN.out _) ?_
          rintro e w2 ⟨rfl, rfl⟩
          go_wp2_with fail
          refine bodyPost_ret (v := .tuple #[.agg #[.string ByteArray.empty, .string ByteArray.empty, .bool false, .slice none 0 0], .int .i64 1]) (by simp [results, Try.results17, go_sem, Z0, Z1, Z2, Z3]; rfl) rfl (HNO.out 1 _ HF.out ?_)
          exact (((HBW.out.setCell (by simp) _).setCell (by simp) _).setCell (by simp) _).setCell (by simp) _
        rw [hnm] at HN HON
        cases ok
        · have HF := (show Hid (fiR p bl = (noTr, 1)) from HNO1.out (HNX.out (by rw [HON.out]; rfl)))
          clear hnm HON HNX HNY HFX HFJ HNO1
          go_wp2_with fail
          refine Calls.mono (HN.out _) ?_
          rintro e w2 ⟨rfl, rfl⟩
          go_wp2_with fail
          refine Calls.mono HO.out ?_
          rintro e w3 ⟨rfl, hb3⟩
          obtain ⟨hbw, bx1, bx2, _⟩ := HAN.out w3 (HAB.out _ hb3)
          have Z0 : w3.cell? ⟨w.heap.size + 1, 0, none⟩ = some (.string ByteArray.empty) := bx2.cell 0 (by simp)
          have Z1 : w3.cell? ⟨w.heap.size + 1, 1, none⟩ = some (.string ByteArray.empty) := bx2.cell 1 (by simp)
          have Z2 : w3.cell? ⟨w.heap.size + 1, 2, none⟩ = some (.bool false) := bx2.cell 2 (by simp)
          have Z3 : w3.cell? ⟨w.heap.size + 1, 3, none⟩ = some (.slice none 0 0) := bx2.cell 3 (by simp)
          have y0 : w3.frozen? ⟨w.heap.size + 1, 0, none⟩ = false := bx2.frozen 0
          have y1 : w3.frozen? ⟨w.heap.size + 1, 1, none⟩ = false := bx2.frozen 1
          have y2 : w3.frozen? ⟨w.heap.size + 1, 2, none⟩ = false := bx2.frozen 2
          have y3 : w3.frozen? ⟨w.heap.size + 1, 3, none⟩ = false := bx2.frozen 3
          have HBW := (show Hid _ from hbw)
          clear hbw bx1 bx2 hb3 HO HAB HD0 d1 d2 d3 d4 d0
          go_wp2_with fail
          refine bodyPost_ret (v := .tuple #[.agg #[.string ByteArray.empty, .string ByteArray.empty, .bool false, .slice none 0 0], .int .i64 1]) (by simp [results, Try.results17, go_sem, Z0, Z1, Z2, Z3]; rfl) rfl (HNO.out 1 _ HF.out ?_)
          exact (((HBW.out.setCell (by simp) _).setCell (by simp) _).setCell (by simp) _).setCell (by simp) _
        cases al
        · have HF := (show Hid (fiR p bl = (noTr, 1)) from HNO1.out (HNX.out (by rw [HON.out]; rfl)))
          clear hnm HON HNX HNY HNO1
          go_wp2_with fail
          refine Calls.mono (HN.out _) ?_
          rintro e w2 ⟨rfl, rfl⟩
          go_wp2_with fail
          refine Calls.mono HO.out ?_
          rintro e w3 ⟨rfl, hb3⟩
          obtain ⟨hbw, bx1, bx2, _⟩ := HAN.out w3 (HAB.out _ hb3)
          have Z0 : w3.cell? ⟨w.heap.size + 1, 0, none⟩ = some (.string ByteArray.empty) := bx2.cell 0 (by simp)
          have Z1 : w3.cell? ⟨w.heap.size + 1, 1, none⟩ = some (.string ByteArray.empty) := bx2.cell 1 (by simp)
          have Z2 : w3.cell? ⟨w.heap.size + 1, 2, none⟩ = some (.bool false) := bx2.cell 2 (by simp)
          have Z3 : w3.cell? ⟨w.heap.size + 1, 3, none⟩ = some (.slice none 0 0) := bx2.cell 3 (by simp)
          have y0 : w3.frozen? ⟨w.heap.size + 1, 0, none⟩ = false := bx2.frozen 0
          have y1 : w3.frozen? ⟨w.heap.size + 1, 1, none⟩ = false := bx2.frozen 1
          have y2 : w3.frozen? ⟨w.heap.size + 1, 2, none⟩ = false := bx2.frozen 2
          have y3 : w3.frozen? ⟨w.heap.size + 1, 3, none⟩ = false := bx2.frozen 3
          have HBW := (show Hid _ from hbw)
          have e0 := HD0.out w3 hb3
          have HC4 := (show Hid _ from HFJ.out w3 hb3)
          clear hbw bx1 bx2 hb3 HO HAB HD0 d1 d2 d3 d4 d0 HFJ
          go_wp2_with fail
          refine Calls.mono HC4.out ?_
          rintro e w4 ⟨i, rfl, hfi, rfl⟩
          have hij : (i != (j : Int)) = true := by
            have := HFX.out i hfi
            simp at this
            simpa using this
          clear hfi HFX HC4
          go_wp2_with fail
          refine bodyPost_ret (v := .tuple #[.agg #[.string ByteArray.empty, .string ByteArray.empty, .bool false, .slice none 0 0], .int .i64 1]) (by simp [results, Try.results17, go_sem, Z0, Z1, Z2, Z3]; rfl) rfl (HNO.out 1 _ HF.out ?_)
          exact (((HBW.out.setCell (by simp) _).setCell (by simp) _).setCell (by simp) _).setCell (by simp) _
        · have HBN := (show Hid _ from HNY.out (by rw [HON.out]; rfl))
          clear hnm HON HNX HNY HNO1
          go_wp2_with fail
          refine Calls.mono (HN.out _) ?_
          rintro e w2 ⟨rfl, rfl⟩
          go_wp2_with fail
          refine Calls.mono HO.out ?_
          rintro e w3 ⟨rfl, hb3⟩
          have e0 := HD0.out w3 hb3
          have HC4 := (show Hid _ from HFJ.out w3 hb3)
          have HB3 := (show Hid _ from HAB.out w3 hb3)
          clear hb3 HO HAB HD0 d1 d2 d3 d4 d0 HFJ
          go_wp2_with fail
          refine Calls.mono HC4.out ?_
          rintro e w4 ⟨i, rfl, hfi, rfl⟩
          have hij : (i != (j : Int)) = false := by
            have := HFX.out i hfi
            simp at this
            simpa using this
          clear hfi HFX HC4 e0
          go_wp2_with fail
          exact ⟨⟨j + 1, by go_num, by omega, HBN, HB3⟩, by simp [intOf]; omega⟩
      · have q1 : ¬ ((j : Int) < (bl.length : Int)) := by omega
        have hje : j = bl.length := by omega
        have hD : D = true := by rw [HBD.out, ← hje]; exact HJ.out
        have HS2 := (show Hid (H = false → fiR p bl = (noTr, 8)) from HR2.out hD)
        have HS3 := (show Hid (H = true → T.ok = false → fiR p bl = (noTr, 3)) from HR3.out hD)
        have HS4 := (show Hid (H = true → T.ok = true → fiR p bl = (T, 0)) from HR4.out hD)
        obtain ⟨hbw, bx1, bx2, _⟩ := HAN.out wr HB.out
        have A0 : wr.cell? ⟨w.heap.size, 0, none⟩ = some (.string p0) := bx1.cell 0 (by simp)
        have A1 : wr.cell? ⟨w.heap.size, 1, none⟩ = some (.string p1) := bx1.cell 1 (by simp)
        have A2 : wr.cell? ⟨w.heap.size, 2, none⟩ = some (.bool p2) := bx1.cell 2 (by simp)
        have A3 : wr.cell? ⟨w.heap.size, 3, none⟩ = some (.slice pa pl pc) := bx1.cell 3 (by simp)
        have HC5 := (show Hid _ from HVC.out wr hbw)
        clear hje hD HJ HR1 HR2 HR3 HR4 HBD hbw bx1 bx2 HVC
        go_wp2_with fail
        refine Calls.mono HC5.out ?_
        rintro e w5 ⟨la, lc, rfl, hb5, hsr⟩
        obtain ⟨sa, scap, sb, soff, se, hsl, hsm, hsa, hsc⟩ := hsr
        injection se with se1 se2 se3
        subst se1
        have HB5 := (show Hid (Below (w.heap.size + 2) ((w.alloc (.cells #[.string p0, .string p1, .bool p2, .slice pa pl pc] 31)).alloc (.cells #[.string ByteArray.empty, .string ByteArray.empty, .bool false, .slice none 0 0] 31)) w5) from HB.out.trans (hb5.mono (HAN.out wr HB.out).2.2.2))
        have HSR := (show Hid ((0 < L.length → la = some ⟨sb, soff, none⟩) ∧ ∀ i (hi : i < L.length), w5.cell? ⟨sb, soff + i, none⟩ = some (.string L[i])) from ⟨hsa, hsc⟩)
        unfold maxLen at hsm
        obtain ⟨hbw, bx1, bx2, hz5⟩ := HAN.out w5 HB5.out
        have HBW := (show Hid (Below w.heap.size w w5) from hbw)
        have Z0 : w5.cell? ⟨w.heap.size + 1, 0, none⟩ = some (.string ByteArray.empty) := bx2.cell 0 (by simp)
        have Z1 : w5.cell? ⟨w.heap.size + 1, 1, none⟩ = some (.string ByteArray.empty) := bx2.cell 1 (by simp)
        have Z2 : w5.cell? ⟨w.heap.size + 1, 2, none⟩ = some (.bool false) := bx2.cell 2 (by simp)
        have Z3 : w5.cell? ⟨w.heap.size + 1, 3, none⟩ = some (.slice none 0 0) := bx2.cell 3 (by simp)
        have y0 : w5.frozen? ⟨w.heap.size + 1, 0, none⟩ = false := bx2.frozen 0
        have y1 : w5.frozen? ⟨w.heap.size + 1, 1, none⟩ = false := bx2.frozen 1
        have y2 : w5.frozen? ⟨w.heap.size + 1, 2, none⟩ = false := bx2.frozen 2
        have y3 : w5.frozen? ⟨w.heap.size + 1, 3, none⟩ = false := bx2.frozen 3
        have X0 : w5.cell? ⟨w.heap.size, 0, none⟩ = some (.string p0) := bx1.cell 0 (by simp)
        have X1 : w5.cell? ⟨w.heap.size, 1, none⟩ = some (.string p1) := bx1.cell 1 (by simp)
        have X2 : w5.cell? ⟨w.heap.size, 2, none⟩ = some (.bool p2) := bx1.cell 2 (by simp)
        have X3 : w5.cell? ⟨w.heap.size, 3, none⟩ = some (.slice pa pl pc) := bx1.cell 3 (by simp)
        have hLs : L.length ≤ 9223372036854775807 := by omega
        clear hb5 HC5 A0 A1 A2 A3 hsa hsc se2 se3 HB bx1 bx2 hbw
        go_wp2_with fail
        go_loop [9] (fun i => ∃ j : Nat, i = .int .i64 j ∧ j ≤ L.length ∧ Hid (∀ i (hi : i < L.length), i < j → (look bl L[i]).isSome = true)) (fun i => L.length - (intOf i).toNat)
        case atStart => exact ⟨0, rfl, Nat.zero_le _, fun i _ h => absurd h (Nat.not_lt_zero _)⟩
        case round =>
          obtain ⟨m, rfl, hm, HM⟩ := hrel
          by_cases hml : m < L.length
          · have m1 : (m : Int) < (L.length : Int) := by omega
            have m0 : (0 : Int) ≤ (m : Int) := by omega
            obtain rfl := HSR.out.1 (by omega)
            have c1 := HSR.out.2 m hml
            have HCF := (show Hid _ from HFD.out L[m] w5 HBW.out)
            have HSH := (show Hid (look bl L[m] = none → fiR p bl = (noTr, 8)) from fun h => HS2.out (by
              rw [← HVB.out]
              cases e : L.all (fun x => (look bl x).isSome)
              · rfl
              · have := List.all_eq_true.1 e L[m] (List.getElem_mem hml)
                rw [h] at this
                cases this))
            have HSG := (show Hid (∀ T', look bl L[m] = some T' → ∀ i (hi : i < L.length), i < m + 1 → (look bl L[i]).isSome = true) from fun T' h i hi him => by
              by_cases e : i = m
              · subst e; rw [h]; rfl
              · exact HM.out i hi (by omega))
            clear HM
            generalize L[m] = s at *
            go_wp2_with fail
            refine Calls.mono HCF.out ?_
            rintro e w6 ⟨i, rfl, hfi, rfl⟩
            rcases hfi.look with ⟨rfl, hlk⟩ | ⟨k, hk, rfl, hlk⟩
            · have HF := (show Hid _ from HSH.out hlk)
              clear hlk hfi HSH HSG HCF
              go_wp2_with fail
              refine bodyPost_ret (v := .tuple #[.agg #[.string ByteArray.empty, .string ByteArray.empty, .bool false, .slice none 0 0], .int .i64 8]) (by simp [results, Try.results17, go_sem, Z0, Z1, Z2, Z3]; rfl) rfl (HNO.out 8 _ HF.out ?_)
              exact (((HBW.out.setCell (by simp) _).setCell (by simp) _).setCell (by simp) _).setCell (by simp) _
            · have HN2 := (show Hid _ from HSG.out _ hlk)
              have k1 : ¬ ((k : Int) < 0) := by omega
              clear hlk hfi HSH HSG HCF hk
              go_wp2_with fail
              go_round
              case rel => exact ⟨m + 1, by go_num, by omega, HN2⟩
              case measure => simp [intOf]; omega
          · have m1 : ¬ ((m : Int) < (L.length : Int)) := by omega
            have hH : H = true := by
              rw [← HVB.out, List.all_eq_true]
              intro x hx
              obtain ⟨i, hi, rfl⟩ := List.mem_iff_getElem.1 hx
              exact HM.out i hi (by omega)
            have HS5 := (show Hid (T.ok = false → fiR p bl = (noTr, 3)) from HS3.out hH)
            have HS6 := (show Hid (T.ok = true → fiR p bl = (T, 0)) from HS4.out hH)
            have HC6 := (show Hid _ from HFC.out w5 HBW.out hH)
            clear hH HM HS2 HS3 HS4 HFC HVB HSR
            go_wp2_with fail
            refine Calls.mono HC6.out ?_
            rintro e w6 ⟨u, rfl, hb6, hl6⟩
            obtain ⟨ua, ul, uc, rfl⟩ := hl6.form
            have hl7 : Lies (w6.alloc (.cells #[.string T.name, .string T.text, .bool T.leaf, .slice ua ul uc] 31)) (fun _ => True) T (.slice ua ul uc) := (hl6.mono (fun _ _ => trivial)).still (bel_alloc _ _)
            have HL7 := (show Hid _ from hl7)
            have HB6 := (show Hid (Below (w.heap.size + 2) ((w.alloc (.cells #[.string p0, .string p1, .bool p2, .slice pa pl pc] 31)).alloc (.cells #[.string ByteArray.empty, .string ByteArray.empty, .bool false, .slice none 0 0] 31)) (w6.alloc (.cells #[.string T.name, .string T.text, .bool T.leaf, .slice ua ul uc] 31))) from HB5.out.trans ((bel_trans hb6 (bel_alloc _ _)).mono hz5))
            have HX6 := (show Hid (Box (w6.alloc (.cells #[.string T.name, .string T.text, .bool T.leaf, .slice ua ul uc] 31)) w6.heap.size 31 [.string T.name, .string T.text, .bool T.leaf, .slice ua ul uc]) from Box.new w6 31 _)
            have HC7 := (show Hid (Calls Try.prog 33 #[.agg #[.string T.name, .string T.text, .bool T.leaf, .slice ua ul uc]] (w6.alloc (.cells #[.string T.name, .string T.text, .bool T.leaf, .slice ua ul uc] 31)) fun e w' => e = .returned (.bool T.ok) ∧ Below (w6.alloc (.cells #[.string T.name, .string T.text, .bool T.leaf, .slice ua ul uc] 31)).heap.size (w6.alloc (.cells #[.string T.name, .string T.text, .bool T.leaf, .slice ua ul uc] 31)) w') from HOK.out T _ _ hl7)
            have HCP2 := (show Hid (∀ wq : World, Lies wq (fun _ => True) T (.slice ua ul uc) → T.ok = true → Calls Try.prog 35 #[.agg #[.string T.name, .string T.text, .bool T.leaf, .slice ua ul uc]] wq fun e w' => ∃ v', e = .returned (.agg #[.string T.name, .string T.text, .bool T.leaf, v']) ∧ Below wq.heap.size wq w' ∧ Own w' wq.heap.size w'.heap.size T v') from fun wq h h' => HCP.out T _ wq h h')
            have HYS2 := (show Hid (∀ (u : Value) (w' : World), fiR p bl = (T, 0) → Below w.heap.size w w' → Own w' w.heap.size w'.heap.size T u → FiA p bl w (.returned (.tuple #[.agg #[.string T.name, .string T.text, .bool T.leaf, u], .int .i64 0])) w') from HYS.out)
            clear hl6 hl7 hb6 HC6 Z0 Z1 Z2 Z3 y0 y1 y2 y3 X0 X1 X2 X3 HCP HYS HOK
            go_wp2_with fail
            refine Calls.mono HC7.out ?_
            rintro e w7 ⟨rfl, hb7⟩
            have HB7 := (show Hid (Below (w.heap.size + 2) ((w.alloc (.cells #[.string p0, .string p1, .bool p2, .slice pa pl pc] 31)).alloc (.cells #[.string ByteArray.empty, .string ByteArray.empty, .bool false, .slice none 0 0] 31)) w7) from HB6.out.trans (hb7.mono (HAN.out _ HB6.out).2.2.2))
            have HL8 := (show Hid (Lies w7 (fun _ => True) T (.slice ua ul uc)) from Lies.still HL7.out hb7)
            have bx6 := HX6.out.still hb7
            clear hb7 HC7 HL7 HX6
            cases hok : T.ok
            · have HF := (show Hid _ from HS5.out hok)
              obtain ⟨hbw, bx1, bx2, _⟩ := HAN.out w7 HB7.out
              have Z0 : w7.cell? ⟨w.heap.size + 1, 0, none⟩ = some (.string ByteArray.empty) := bx2.cell 0 (by simp)
              have Z1 : w7.cell? ⟨w.heap.size + 1, 1, none⟩ = some (.string ByteArray.empty) := bx2.cell 1 (by simp)
              have Z2 : w7.cell? ⟨w.heap.size + 1, 2, none⟩ = some (.bool false) := bx2.cell 2 (by simp)
              have Z3 : w7.cell? ⟨w.heap.size + 1, 3, none⟩ = some (.slice none 0 0) := bx2.cell 3 (by simp)
              have y0 : w7.frozen? ⟨w.heap.size + 1, 0, none⟩ = false := bx2.frozen 0
              have y1 : w7.frozen? ⟨w.heap.size + 1, 1, none⟩ = false := bx2.frozen 1
              have y2 : w7.frozen? ⟨w.heap.size + 1, 2, none⟩ = false := bx2.frozen 2
              have y3 : w7.frozen? ⟨w.heap.size + 1, 3, none⟩ = false := bx2.frozen 3
              have HBW2 := (show Hid (Below w.heap.size w w7) from hbw)
              clear hbw bx1 bx2 bx6 hok HS5 HS6 HL8 HB6 HB7 HCP2 HYS2
              go_wp2_with fail
              refine bodyPost_ret (v := .tuple #[.agg #[.string ByteArray.empty, .string ByteArray.empty, .bool false, .slice none 0 0], .int .i64 3]) (by simp [results, Try.results17, go_sem, Z0, Z1, Z2, Z3]; rfl) rfl (HNO.out 3 _ HF.out ?_)
              exact (((HBW2.out.setCell (by simp) _).setCell (by simp) _).setCell (by simp) _).setCell (by simp) _
            · have HF := (show Hid _ from HS6.out hok)
              have HC8 := (show Hid _ from HCP2.out w7 HL8.out hok)
              have U0 : w7.cell? ⟨w6.heap.size, 0, none⟩ = some (.string T.name) := bx6.cell 0 (by simp)
              have U1 : w7.cell? ⟨w6.heap.size, 1, none⟩ = some (.string T.text) := bx6.cell 1 (by simp)
              have U2 : w7.cell? ⟨w6.heap.size, 2, none⟩ = some (.bool T.leaf) := bx6.cell 2 (by simp)
              have U3 : w7.cell? ⟨w6.heap.size, 3, none⟩ = some (.slice ua ul uc) := bx6.cell 3 (by simp)
              clear hok HS5 HS6 HCP2 HL8 bx6
              go_wp2_with fail
              refine Calls.mono HC8.out ?_
              rintro e w8 ⟨v8, rfl, hb8, ho8⟩
              obtain ⟨va, vl, vc, rfl⟩ := ho8.form
              have HB8 := (show Hid (Below (w.heap.size + 2) ((w.alloc (.cells #[.string p0, .string p1, .bool p2, .slice pa pl pc] 31)).alloc (.cells #[.string ByteArray.empty, .string ByteArray.empty, .bool false, .slice none 0 0] 31)) w8) from HB7.out.trans (hb8.mono (HAN.out _ HB7.out).2.2.2))
              obtain ⟨hbw, bx1, bx2, hz8⟩ := HAN.out w8 HB8.out
              have HO8 := (show Hid (Own w8 (w.heap.size + 2) w8.heap.size T (.slice va vl vc)) from ho8.keep (HAN.out _ HB7.out).2.2.2 (Nat.le_refl _) (fun _ _ _ _ => rfl))
              have Z0 : w8.cell? ⟨w.heap.size + 1, 0, none⟩ = some (.string ByteArray.empty) := bx2.cell 0 (by simp)
              have Z1 : w8.cell? ⟨w.heap.size + 1, 1, none⟩ = some (.string ByteArray.empty) := bx2.cell 1 (by simp)
              have Z2 : w8.cell? ⟨w.heap.size + 1, 2, none⟩ = some (.bool false) := bx2.cell 2 (by simp)
              have Z3 : w8.cell? ⟨w.heap.size + 1, 3, none⟩ = some (.slice none 0 0) := bx2.cell 3 (by simp)
              have y0 : w8.frozen? ⟨w.heap.size + 1, 0, none⟩ = false := bx2.frozen 0
              have y1 : w8.frozen? ⟨w.heap.size + 1, 1, none⟩ = false := bx2.frozen 1
              have y2 : w8.frozen? ⟨w.heap.size + 1, 2, none⟩ = false := bx2.frozen 2
              have y3 : w8.frozen? ⟨w.heap.size + 1, 3, none⟩ = false := bx2.frozen 3
              have HBW2 := (show Hid (Below w.heap.size w w8) from hbw)
              clear hbw bx1 bx2 ho8 hb8 HC8 U0 U1 U2 U3 HB6 HB7 HB8
              go_wp2_with fail
              refine bodyPost_ret (v := .tuple #[.agg #[.string T.name, .string T.text, .bool T.leaf, .slice va vl vc], .int .i64 0]) (by simp [results, Try.results17, go_sem, Z0, Z1, Z2, Z3]) rfl (HYS2.out _ _ HF.out ?_ ?_)
              · exact (((HBW2.out.setCell (by simp) _).setCell (by simp) _).setCell (by simp) _).setCell (by simp) _
              · exact (((((HO8.out.past (.inl (by omega))).past (.inl (by omega))).past (.inl (by omega))).past (.inl (by omega)))).keep (by omega) (by simp) (fun _ _ _ _ => rfl)
end Go.Proofs.Yteomgkcgjkbppaa
