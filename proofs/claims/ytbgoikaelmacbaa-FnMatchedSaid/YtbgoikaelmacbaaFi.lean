import Derived.Test.YtbgoikaelmacbaaFf
import Derived.Test.YtbgoikaelmacbaaIp
/-! The program: Fill. -/
namespace Go.Proofs.Ytbgoikaelmacbaa
open Go.RowKit Go.Deep Go.Maps Go.WideMaps Go.ChangeMaps Go.Lib
set_option linter.unusedVariables false
set_option maxRecDepth 100000
set_option linter.unusedSimpArgs false

set_option maxHeartbeats 3200000 in
theorem iFill19 (p : Tr) (bl : List (ByteArray × Tr)) (v : Value) (a : Option Addr) (cap : Nat) (w : World) (hp : Lies w (fun _ => True) p v) (hb : BRd w bl (.slice a bl.length cap)) (hxs : ∀ i (hi : i < bl.length), bl[i].1.size ≤ maxLen) (hwt : bwt bl ≤ 1048576) :
    Calls Try.prog 8 #[p.val v, .slice a bl.length cap] w (FiA p bl w) := by
  obtain ⟨pa, pl, pc, rfl⟩ := hp.form
  have HBO := (show Hid (∀ wq : World, Below w.heap.size w wq → Calls Try.prog 28 #[.slice a bl.length cap] wq (BoA bl (.slice a bl.length cap) wq)) from fun wq h => bindings52 bl a cap wq (hb.still h) hxs hwt)
  have HPT := (show Hid (∀ wq : World, Below w.heap.size w wq → Calls Try.prog 24 #[p.val (.slice pa pl pc)] wq fun e w' => e = .returned (.bool (patB p)) ∧ Below wq.heap.size wq w') from fun wq h => ipat37 p _ wq (hp.still h))
  have HHV := (show Hid (∀ (wq : World) (gb mb : Nat), Below w.heap.size w wq → KS wq bl gb mb a cap → Calls Try.prog 29 #[.pointer (some ⟨gb, 0, none⟩), p.val (.slice pa pl pc)] wq fun e w' => e = .returned (.bool (hvT bl p)) ∧ Below wq.heap.size wq w') from fun wq gb mb h h1 => have53 bl gb mb a cap p _ wq h1 (hp.still h))
  have HFL := (show Hid (∀ (wq : World) (gb mb : Nat), Below w.heap.size w wq → KS wq bl gb mb a cap → hvT bl p = true → p.cnt ≤ 1000 → Calls Try.prog 30 #[.pointer (some ⟨gb, 0, none⟩), p.val (.slice pa pl pc)] wq (FlA wq.heap.size (flT bl p) wq)) from fun wq gb mb h h1 h2 h3 => ifill54 wq bl gb mb a cap h1 p _ wq (hp.still h) (Below.refl _ _) h2 h3)
  have HRB := (show Hid (∀ wq : World, Below w.heap.size w wq → BRd wq bl (.slice a bl.length cap)) from fun wq h => hb.still h)
  have HCP := (show Hid (∀ (T : Tr) (u : Value) (wq : World), Lies wq (fun _ => True) T u → T.ok = true → Calls Try.prog 27 #[T.val u] wq fun e w' => ∃ v', e = .returned (T.val v') ∧ Below wq.heap.size wq w' ∧ Own w' wq.heap.size w'.heap.size T v') from fun T u wq h1 h2 => copied40 T u wq h1 (ok_wt h2) (ok_right h2))
  have HOK := (show Hid (∀ (T : Tr) (u : Value) (wq : World), Lies wq (fun _ => True) T u → Calls Try.prog 25 #[T.val u] wq fun e w' => e = .returned (.bool T.ok) ∧ Below wq.heap.size wq w') from fun T u wq h1 => iOK_any T u wq h1)
  have HRD := (show Hid (fiR p bl = if (patB p && bdB bl) = true then (if hvT bl p = true then (if (flT bl p).ok = true then (flT bl p, 0) else (noTr, 3)) else (noTr, 8)) else (noTr, 1)) from rfl)
  have HCN := (show Hid (patB p = true → p.cnt ≤ 1000) from fun h => by
    unfold patB at h
    rw [Bool.and_eq_true] at h
    exact ok_cnt h.1)
  have HNO := (show Hid (∀ (c : Int) (w' : World), fiR p bl = (noTr, c) → Below w.heap.size w w' → FiA p bl w (.returned (.tuple #[.agg #[.string ByteArray.empty, .string ByteArray.empty, .bool false, .slice none 0 0], .int .i64 c])) w') from fun c w' h h' => FiA.no h h')
  have HYS := (show Hid (∀ (u : Value) (w' : World), fiR p bl = (flT bl p, 0) → Below w.heap.size w w' → Own w' w.heap.size w'.heap.size (flT bl p) u → FiA p bl w (.returned (.tuple #[(flT bl p).val u, .int .i64 0])) w') from fun u w' h h1 h2 => ⟨u, by rw [h], h1, by rw [h]; exact h2⟩)
  have HAN := (show Hid (∀ wq : World, Below (w.heap.size + 2) ((w.alloc (.cells #[.string p.name, .string p.text, .bool p.leaf, .slice pa pl pc] 26)).alloc (.cells #[.string ByteArray.empty, .string ByteArray.empty, .bool false, .slice none 0 0] 26)) wq → Below w.heap.size w wq ∧ Box wq w.heap.size 26 [.string p.name, .string p.text, .bool p.leaf, .slice pa pl pc] ∧ Box wq (w.heap.size + 1) 26 [.string ByteArray.empty, .string ByteArray.empty, .bool false, .slice none 0 0] ∧ w.heap.size + 2 ≤ wq.heap.size) from fun wq h => by
    have h1 : Below w.heap.size w ((w.alloc (.cells #[.string p.name, .string p.text, .bool p.leaf, .slice pa pl pc] 26)).alloc (.cells #[.string ByteArray.empty, .string ByteArray.empty, .bool false, .slice none 0 0] 26)) := (bel_alloc _ _).alloc (by simp) _
    refine ⟨h1.trans (h.mono (by omega)), ?_, ?_, by have := h.size; simpa using this⟩
    · exact ((Box.new w 26 _).still (bel_alloc _ _)).keep (h.block _ (by omega))
    · have h2 := Box.new (w.alloc (.cells #[.string p.name, .string p.text, .bool p.leaf, .slice pa pl pc] 26)) 26 [.string ByteArray.empty, .string ByteArray.empty, .bool false, .slice none 0 0]
      rw [show (w.alloc (.cells #[.string p.name, .string p.text, .bool p.leaf, .slice pa pl pc] 26)).heap.size = w.heap.size + 1 from by simp] at h2
      exact h2.keep (h.block _ (by omega)))
  clear hp hb hxs hwt
  have HB0 := (show Hid _ from HBO.out _ (HAN.out _ (Below.refl _ _)).1)
  have hz2 : ((w.alloc (.cells #[.string p.name, .string p.text, .bool p.leaf, .slice pa pl pc] 26)).alloc (.cells #[.string ByteArray.empty, .string ByteArray.empty, .bool false, .slice none 0 0] 26)).heap.size = w.heap.size + 2 := by simp
  unfold BoA at HB0
  rw [hz2] at HB0
  clear hz2 HBO
  have HR1 := (show Hid (patB p = false → fiR p bl = (noTr, 1)) from fun h => by rw [HRD.out, h]; rfl)
  have HR1' := (show Hid (bdB bl = false → fiR p bl = (noTr, 1)) from fun h => by rw [HRD.out, h]; simp)
  have HR2 := (show Hid (patB p = true → bdB bl = true → hvT bl p = false → fiR p bl = (noTr, 8)) from fun h0 h h1 => by rw [HRD.out, h0, h, h1]; rfl)
  have HR3 := (show Hid (patB p = true → bdB bl = true → hvT bl p = true → (flT bl p).ok = false → fiR p bl = (noTr, 3)) from fun h0 h h1 h2 => by rw [HRD.out, h0, h, h1, h2]; rfl)
  have HR4 := (show Hid (patB p = true → bdB bl = true → hvT bl p = true → (flT bl p).ok = true → fiR p bl = (flT bl p, 0)) from fun h0 h h1 h2 => by rw [HRD.out, h0, h, h1, h2]; rfl)
  unfold FlA at HFL
  simp only [Tr.val] at HHV HFL HPT ⊢
  clear HRD
  generalize hT : flT bl p = T at *
  generalize hH : hvT bl p = H at *
  generalize hP : patB p = P at *
  generalize hBD : bdB bl = D at *
  clear hT hH hP hBD
  generalize p.name = p0 at *
  generalize p.text = p1 at *
  generalize p.leaf = p2 at *
  cases D
  · have HF := (show Hid _ from HR1'.out (by simp))
    clear HR1 HR1' HR2 HR3 HR4 HHV HFL HRB HCP HOK HCN HYS
    go_enter Try.func8, Try.ntmps8
    go_wp2_with fail
    refine Calls.mono HB0.out ?_
    rintro e w3 ⟨hb3, h3, _⟩
    obtain rfl := h3 (by simp)
    clear h3
    have hb4 : Below (w.heap.size + 2) ((w.alloc (.cells #[.string p0, .string p1, .bool p2, .slice pa pl pc] 26)).alloc (.cells #[.string ByteArray.empty, .string ByteArray.empty, .bool false, .slice none 0 0] 26)) (w3.alloc (.cells #[.map none, .slice none 0 0] 54)) := hb3.alloc (by have := hb3.size; simpa using this) _
    have HB4 := (show Hid _ from hb4)
    have HC5 := (show Hid _ from HPT.out _ (HAN.out _ hb4).1)
    obtain ⟨_, bx1, _, hz4⟩ := HAN.out _ hb4
    have X0 : (w3.alloc (.cells #[.map none, .slice none 0 0] 54)).cell? ⟨w.heap.size, 0, none⟩ = some (.string p0) := bx1.cell 0 (by simp)
    have X1 : (w3.alloc (.cells #[.map none, .slice none 0 0] 54)).cell? ⟨w.heap.size, 1, none⟩ = some (.string p1) := bx1.cell 1 (by simp)
    have X2 : (w3.alloc (.cells #[.map none, .slice none 0 0] 54)).cell? ⟨w.heap.size, 2, none⟩ = some (.bool p2) := bx1.cell 2 (by simp)
    have X3 : (w3.alloc (.cells #[.map none, .slice none 0 0] 54)).cell? ⟨w.heap.size, 3, none⟩ = some (.slice pa pl pc) := bx1.cell 3 (by simp)
    clear hb3 hb4 bx1 HB0
    go_wp2_with fail
    refine Calls.mono HC5.out ?_
    rintro e w5 ⟨rfl, hb5⟩
    obtain ⟨hbw, _, bx2, _⟩ := HAN.out w5 (Below.trans HB4.out (hb5.mono hz4))
    have Z0 : w5.cell? ⟨w.heap.size + 1, 0, none⟩ = some (.string ByteArray.empty) := bx2.cell 0 (by simp)
    have Z1 : w5.cell? ⟨w.heap.size + 1, 1, none⟩ = some (.string ByteArray.empty) := bx2.cell 1 (by simp)
    have Z2 : w5.cell? ⟨w.heap.size + 1, 2, none⟩ = some (.bool false) := bx2.cell 2 (by simp)
    have Z3 : w5.cell? ⟨w.heap.size + 1, 3, none⟩ = some (.slice none 0 0) := bx2.cell 3 (by simp)
    have y0 : w5.frozen? ⟨w.heap.size + 1, 0, none⟩ = false := bx2.frozen 0
    have y1 : w5.frozen? ⟨w.heap.size + 1, 1, none⟩ = false := bx2.frozen 1
    have y2 : w5.frozen? ⟨w.heap.size + 1, 2, none⟩ = false := bx2.frozen 2
    have y3 : w5.frozen? ⟨w.heap.size + 1, 3, none⟩ = false := bx2.frozen 3
    have HBW := (show Hid _ from hbw)
    clear hbw bx2 hb5 X0 X1 X2 X3 HC5 HB4
    cases P
    · go_wp2_with fail
      refine bodyPost_ret (v := .tuple #[.agg #[.string ByteArray.empty, .string ByteArray.empty, .bool false, .slice none 0 0], .int .i64 1]) (by simp [results, Try.results8, go_sem, Z0, Z1, Z2, Z3]; rfl) rfl (HNO.out 1 _ HF.out ?_)
      exact (((HBW.out.setCell (by simp) _).setCell (by simp) _).setCell (by simp) _).setCell (by simp) _
    · go_wp2_with fail
      refine bodyPost_ret (v := .tuple #[.agg #[.string ByteArray.empty, .string ByteArray.empty, .bool false, .slice none 0 0], .int .i64 1]) (by simp [results, Try.results8, go_sem, Z0, Z1, Z2, Z3]; rfl) rfl (HNO.out 1 _ HF.out ?_)
      exact (((HBW.out.setCell (by simp) _).setCell (by simp) _).setCell (by simp) _).setCell (by simp) _
  go_enter Try.func8, Try.ntmps8
  go_wp2_with fail
  refine Calls.mono HB0.out ?_
  rintro e w3 ⟨hb3, _, h3⟩
  obtain ⟨mb, rfl, hmb, hmn⟩ := h3 (by simp)
  clear h3
  have hb4 : Below (w.heap.size + 2) ((w.alloc (.cells #[.string p0, .string p1, .bool p2, .slice pa pl pc] 26)).alloc (.cells #[.string ByteArray.empty, .string ByteArray.empty, .bool false, .slice none 0 0] 26)) (w3.alloc (.cells #[.map (some mb), .slice a bl.length cap] 54)) := hb3.alloc (by have := hb3.size; simpa using this) _
  have HB4 := (show Hid (Below (w.heap.size + 2) ((w.alloc (.cells #[.string p0, .string p1, .bool p2, .slice pa pl pc] 26)).alloc (.cells #[.string ByteArray.empty, .string ByteArray.empty, .bool false, .slice none 0 0] 26)) (w3.alloc (.cells #[.map (some mb), .slice a bl.length cap] 54))) from hb4)
  have HC5 := (show Hid _ from HPT.out _ (HAN.out _ hb4).1)
  have HKS := (show Hid (KS (w3.alloc (.cells #[.map (some mb), .slice a bl.length cap] 54)) bl w3.heap.size mb a cap) from ⟨Box.new w3 54 _, hmn.keep ((bel_alloc w3 _).block _ hmn.lt), HRB.out _ (HAN.out _ hb4).1⟩)
  obtain ⟨_, bx1, _, hz4⟩ := HAN.out _ hb4
  have X0 : (w3.alloc (.cells #[.map (some mb), .slice a bl.length cap] 54)).cell? ⟨w.heap.size, 0, none⟩ = some (.string p0) := bx1.cell 0 (by simp)
  have X1 : (w3.alloc (.cells #[.map (some mb), .slice a bl.length cap] 54)).cell? ⟨w.heap.size, 1, none⟩ = some (.string p1) := bx1.cell 1 (by simp)
  have X2 : (w3.alloc (.cells #[.map (some mb), .slice a bl.length cap] 54)).cell? ⟨w.heap.size, 2, none⟩ = some (.bool p2) := bx1.cell 2 (by simp)
  have X3 : (w3.alloc (.cells #[.map (some mb), .slice a bl.length cap] 54)).cell? ⟨w.heap.size, 3, none⟩ = some (.slice pa pl pc) := bx1.cell 3 (by simp)
  clear hb3 hb4 bx1 HB0 hmn HPT
  go_wp2_with fail
  refine Calls.mono HC5.out ?_
  rintro e w5 ⟨rfl, hb5⟩
  have HB5 := (show Hid (Below (w.heap.size + 2) ((w.alloc (.cells #[.string p0, .string p1, .bool p2, .slice pa pl pc] 26)).alloc (.cells #[.string ByteArray.empty, .string ByteArray.empty, .bool false, .slice none 0 0] 26)) w5) from Below.trans HB4.out (hb5.mono hz4))
  have HK5 := (show Hid (KS w5 bl w3.heap.size mb a cap) from HKS.out.still hb5)
  obtain ⟨hbw, bx1, bx2, hz5⟩ := HAN.out w5 HB5.out
  have HBW := (show Hid (Below w.heap.size w w5) from hbw)
  clear X0 X1 X2 X3
  have X0 : w5.cell? ⟨w.heap.size, 0, none⟩ = some (.string p0) := bx1.cell 0 (by simp)
  have X1 : w5.cell? ⟨w.heap.size, 1, none⟩ = some (.string p1) := bx1.cell 1 (by simp)
  have X2 : w5.cell? ⟨w.heap.size, 2, none⟩ = some (.bool p2) := bx1.cell 2 (by simp)
  have X3 : w5.cell? ⟨w.heap.size, 3, none⟩ = some (.slice pa pl pc) := bx1.cell 3 (by simp)
  clear hb5 HC5 HB4 HKS
  cases P
  · have HF := (show Hid _ from HR1.out (by simp))
    have Z0 : w5.cell? ⟨w.heap.size + 1, 0, none⟩ = some (.string ByteArray.empty) := bx2.cell 0 (by simp)
    have Z1 : w5.cell? ⟨w.heap.size + 1, 1, none⟩ = some (.string ByteArray.empty) := bx2.cell 1 (by simp)
    have Z2 : w5.cell? ⟨w.heap.size + 1, 2, none⟩ = some (.bool false) := bx2.cell 2 (by simp)
    have Z3 : w5.cell? ⟨w.heap.size + 1, 3, none⟩ = some (.slice none 0 0) := bx2.cell 3 (by simp)
    have y0 : w5.frozen? ⟨w.heap.size + 1, 0, none⟩ = false := bx2.frozen 0
    have y1 : w5.frozen? ⟨w.heap.size + 1, 1, none⟩ = false := bx2.frozen 1
    have y2 : w5.frozen? ⟨w.heap.size + 1, 2, none⟩ = false := bx2.frozen 2
    have y3 : w5.frozen? ⟨w.heap.size + 1, 3, none⟩ = false := bx2.frozen 3
    clear hbw bx1 bx2
    go_wp2_with fail
    refine bodyPost_ret (v := .tuple #[.agg #[.string ByteArray.empty, .string ByteArray.empty, .bool false, .slice none 0 0], .int .i64 1]) (by simp [results, Try.results8, go_sem, Z0, Z1, Z2, Z3]; rfl) rfl (HNO.out 1 _ HF.out ?_)
    exact (((HBW.out.setCell (by simp) _).setCell (by simp) _).setCell (by simp) _).setCell (by simp) _
  have HC6 := (show Hid _ from HHV.out w5 _ mb hbw HK5.out)
  have hcnt := HCN.out (by simp)
  clear hbw bx1 bx2 HHV HR1 HR1' HCN
  go_wp2_with fail
  refine Calls.mono HC6.out ?_
  rintro e w6 ⟨rfl, hb6⟩
  have HB6 := (show Hid (Below (w.heap.size + 2) ((w.alloc (.cells #[.string p0, .string p1, .bool p2, .slice pa pl pc] 26)).alloc (.cells #[.string ByteArray.empty, .string ByteArray.empty, .bool false, .slice none 0 0] 26)) w6) from Below.trans HB5.out (hb6.mono hz5))
  have HK6 := (show Hid (KS w6 bl w3.heap.size mb a cap) from HK5.out.still hb6)
  obtain ⟨hbw, bx1, bx2, hz6⟩ := HAN.out w6 HB6.out
  have HBW6 := (show Hid (Below w.heap.size w w6) from hbw)
  clear X0 X1 X2 X3
  have X0 : w6.cell? ⟨w.heap.size, 0, none⟩ = some (.string p0) := bx1.cell 0 (by simp)
  have X1 : w6.cell? ⟨w.heap.size, 1, none⟩ = some (.string p1) := bx1.cell 1 (by simp)
  have X2 : w6.cell? ⟨w.heap.size, 2, none⟩ = some (.bool p2) := bx1.cell 2 (by simp)
  have X3 : w6.cell? ⟨w.heap.size, 3, none⟩ = some (.slice pa pl pc) := bx1.cell 3 (by simp)
  clear hb6 HC6 HK5 HB5 HBW
  cases H
  · have HF := (show Hid _ from HR2.out (by simp) (by simp) (by simp))
    have Z0 : w6.cell? ⟨w.heap.size + 1, 0, none⟩ = some (.string ByteArray.empty) := bx2.cell 0 (by simp)
    have Z1 : w6.cell? ⟨w.heap.size + 1, 1, none⟩ = some (.string ByteArray.empty) := bx2.cell 1 (by simp)
    have Z2 : w6.cell? ⟨w.heap.size + 1, 2, none⟩ = some (.bool false) := bx2.cell 2 (by simp)
    have Z3 : w6.cell? ⟨w.heap.size + 1, 3, none⟩ = some (.slice none 0 0) := bx2.cell 3 (by simp)
    have y0 : w6.frozen? ⟨w.heap.size + 1, 0, none⟩ = false := bx2.frozen 0
    have y1 : w6.frozen? ⟨w.heap.size + 1, 1, none⟩ = false := bx2.frozen 1
    have y2 : w6.frozen? ⟨w.heap.size + 1, 2, none⟩ = false := bx2.frozen 2
    have y3 : w6.frozen? ⟨w.heap.size + 1, 3, none⟩ = false := bx2.frozen 3
    clear hbw bx1 bx2
    go_wp2_with fail
    refine bodyPost_ret (v := .tuple #[.agg #[.string ByteArray.empty, .string ByteArray.empty, .bool false, .slice none 0 0], .int .i64 8]) (by simp [results, Try.results8, go_sem, Z0, Z1, Z2, Z3]; rfl) rfl (HNO.out 8 _ HF.out ?_)
    exact (((HBW6.out.setCell (by simp) _).setCell (by simp) _).setCell (by simp) _).setCell (by simp) _
  have HS5 := (show Hid (T.ok = false → fiR p bl = (noTr, 3)) from HR3.out (by simp) (by simp) (by simp))
  have HS6 := (show Hid (T.ok = true → fiR p bl = (T, 0)) from HR4.out (by simp) (by simp) (by simp))
  have HC7 := (show Hid _ from HFL.out w6 _ mb hbw HK6.out (by simp) hcnt)
  clear hbw bx1 bx2 HFL HR2 HR3 HR4 hcnt
  go_wp2_with fail
  refine Calls.mono HC7.out ?_
  rintro e w7 ⟨u, rfl, hb7, hl7⟩
  obtain ⟨ua, ul, uc, rfl⟩ := hl7.form
  have hl8 : Lies (w7.alloc (.cells #[.string T.name, .string T.text, .bool T.leaf, .slice ua ul uc] 26)) (fun _ => True) T (.slice ua ul uc) := (hl7.mono (fun _ _ => trivial)).still (bel_alloc _ _)
  have HL8 := (show Hid (Lies (w7.alloc (.cells #[.string T.name, .string T.text, .bool T.leaf, .slice ua ul uc] 26)) (fun _ => True) T (.slice ua ul uc)) from hl8)
  have HB8 := (show Hid (Below (w.heap.size + 2) ((w.alloc (.cells #[.string p0, .string p1, .bool p2, .slice pa pl pc] 26)).alloc (.cells #[.string ByteArray.empty, .string ByteArray.empty, .bool false, .slice none 0 0] 26)) (w7.alloc (.cells #[.string T.name, .string T.text, .bool T.leaf, .slice ua ul uc] 26))) from HB6.out.trans ((bel_trans hb7 (bel_alloc _ _)).mono hz6))
  have HX8 := (show Hid (Box (w7.alloc (.cells #[.string T.name, .string T.text, .bool T.leaf, .slice ua ul uc] 26)) w7.heap.size 26 [.string T.name, .string T.text, .bool T.leaf, .slice ua ul uc]) from Box.new w7 26 _)
  have HC8 := (show Hid (Calls Try.prog 25 #[.agg #[.string T.name, .string T.text, .bool T.leaf, .slice ua ul uc]] (w7.alloc (.cells #[.string T.name, .string T.text, .bool T.leaf, .slice ua ul uc] 26)) fun e w' => e = .returned (.bool T.ok) ∧ Below (w7.alloc (.cells #[.string T.name, .string T.text, .bool T.leaf, .slice ua ul uc] 26)).heap.size (w7.alloc (.cells #[.string T.name, .string T.text, .bool T.leaf, .slice ua ul uc] 26)) w') from HOK.out T _ _ hl8)
  have HCP2 := (show Hid (∀ wq : World, Lies wq (fun _ => True) T (.slice ua ul uc) → T.ok = true → Calls Try.prog 27 #[.agg #[.string T.name, .string T.text, .bool T.leaf, .slice ua ul uc]] wq fun e w' => ∃ v', e = .returned (.agg #[.string T.name, .string T.text, .bool T.leaf, v']) ∧ Below wq.heap.size wq w' ∧ Own w' wq.heap.size w'.heap.size T v') from fun wq h h' => HCP.out T _ wq h h')
  have HYS2 := (show Hid (∀ (u : Value) (w' : World), fiR p bl = (T, 0) → Below w.heap.size w w' → Own w' w.heap.size w'.heap.size T u → FiA p bl w (.returned (.tuple #[.agg #[.string T.name, .string T.text, .bool T.leaf, u], .int .i64 0])) w') from HYS.out)
  clear hl7 hl8 hb7 HC7 X0 X1 X2 X3 HCP HYS HOK HB6 HBW6 HK6
  go_wp2_with fail
  refine Calls.mono HC8.out ?_
  rintro e w9 ⟨rfl, hb9⟩
  have HB9 := (show Hid (Below (w.heap.size + 2) ((w.alloc (.cells #[.string p0, .string p1, .bool p2, .slice pa pl pc] 26)).alloc (.cells #[.string ByteArray.empty, .string ByteArray.empty, .bool false, .slice none 0 0] 26)) w9) from HB8.out.trans (hb9.mono (HAN.out _ HB8.out).2.2.2))
  have HL9 := (show Hid (Lies w9 (fun _ => True) T (.slice ua ul uc)) from Lies.still HL8.out hb9)
  have bx6 := HX8.out.still hb9
  clear hb9 HC8 HL8 HX8
  cases hok : T.ok
  · have HF := (show Hid _ from HS5.out hok)
    obtain ⟨hbw, bx1, bx2, _⟩ := HAN.out w9 HB9.out
    have Z0 : w9.cell? ⟨w.heap.size + 1, 0, none⟩ = some (.string ByteArray.empty) := bx2.cell 0 (by simp)
    have Z1 : w9.cell? ⟨w.heap.size + 1, 1, none⟩ = some (.string ByteArray.empty) := bx2.cell 1 (by simp)
    have Z2 : w9.cell? ⟨w.heap.size + 1, 2, none⟩ = some (.bool false) := bx2.cell 2 (by simp)
    have Z3 : w9.cell? ⟨w.heap.size + 1, 3, none⟩ = some (.slice none 0 0) := bx2.cell 3 (by simp)
    have y0 : w9.frozen? ⟨w.heap.size + 1, 0, none⟩ = false := bx2.frozen 0
    have y1 : w9.frozen? ⟨w.heap.size + 1, 1, none⟩ = false := bx2.frozen 1
    have y2 : w9.frozen? ⟨w.heap.size + 1, 2, none⟩ = false := bx2.frozen 2
    have y3 : w9.frozen? ⟨w.heap.size + 1, 3, none⟩ = false := bx2.frozen 3
    have HBW2 := (show Hid (Below w.heap.size w w9) from hbw)
    clear hbw bx1 bx2 bx6 hok HS5 HS6 HL9 HB8 HB9 HCP2 HYS2
    go_wp2_with fail
    refine bodyPost_ret (v := .tuple #[.agg #[.string ByteArray.empty, .string ByteArray.empty, .bool false, .slice none 0 0], .int .i64 3]) (by simp [results, Try.results8, go_sem, Z0, Z1, Z2, Z3]; rfl) rfl (HNO.out 3 _ HF.out ?_)
    exact (((HBW2.out.setCell (by simp) _).setCell (by simp) _).setCell (by simp) _).setCell (by simp) _
  · have HF := (show Hid _ from HS6.out hok)
    have HC9 := (show Hid _ from HCP2.out w9 HL9.out hok)
    have U0 : w9.cell? ⟨w7.heap.size, 0, none⟩ = some (.string T.name) := bx6.cell 0 (by simp)
    have U1 : w9.cell? ⟨w7.heap.size, 1, none⟩ = some (.string T.text) := bx6.cell 1 (by simp)
    have U2 : w9.cell? ⟨w7.heap.size, 2, none⟩ = some (.bool T.leaf) := bx6.cell 2 (by simp)
    have U3 : w9.cell? ⟨w7.heap.size, 3, none⟩ = some (.slice ua ul uc) := bx6.cell 3 (by simp)
    clear hok HS5 HS6 HCP2 HL9 bx6
    go_wp2_with fail
    refine Calls.mono HC9.out ?_
    rintro e w8 ⟨v8, rfl, hb8, ho8⟩
    obtain ⟨va, vl, vc, rfl⟩ := ho8.form
    have HB10 := (show Hid (Below (w.heap.size + 2) ((w.alloc (.cells #[.string p0, .string p1, .bool p2, .slice pa pl pc] 26)).alloc (.cells #[.string ByteArray.empty, .string ByteArray.empty, .bool false, .slice none 0 0] 26)) w8) from HB9.out.trans (hb8.mono (HAN.out _ HB9.out).2.2.2))
    obtain ⟨hbw, bx1, bx2, hz8⟩ := HAN.out w8 HB10.out
    have HO8 := (show Hid (Own w8 (w.heap.size + 2) w8.heap.size T (.slice va vl vc)) from ho8.keep (HAN.out _ HB9.out).2.2.2 (Nat.le_refl _) (fun _ _ _ _ => rfl))
    have Z0 : w8.cell? ⟨w.heap.size + 1, 0, none⟩ = some (.string ByteArray.empty) := bx2.cell 0 (by simp)
    have Z1 : w8.cell? ⟨w.heap.size + 1, 1, none⟩ = some (.string ByteArray.empty) := bx2.cell 1 (by simp)
    have Z2 : w8.cell? ⟨w.heap.size + 1, 2, none⟩ = some (.bool false) := bx2.cell 2 (by simp)
    have Z3 : w8.cell? ⟨w.heap.size + 1, 3, none⟩ = some (.slice none 0 0) := bx2.cell 3 (by simp)
    have y0 : w8.frozen? ⟨w.heap.size + 1, 0, none⟩ = false := bx2.frozen 0
    have y1 : w8.frozen? ⟨w.heap.size + 1, 1, none⟩ = false := bx2.frozen 1
    have y2 : w8.frozen? ⟨w.heap.size + 1, 2, none⟩ = false := bx2.frozen 2
    have y3 : w8.frozen? ⟨w.heap.size + 1, 3, none⟩ = false := bx2.frozen 3
    have HBW2 := (show Hid (Below w.heap.size w w8) from hbw)
    clear hbw bx1 bx2 ho8 hb8 HC9 U0 U1 U2 U3 HB8 HB9 HB10
    go_wp2_with fail
    refine bodyPost_ret (v := .tuple #[.agg #[.string T.name, .string T.text, .bool T.leaf, .slice va vl vc], .int .i64 0]) (by simp [results, Try.results8, go_sem, Z0, Z1, Z2, Z3]) rfl (HYS2.out _ _ HF.out ?_ ?_)
    · exact (((HBW2.out.setCell (by simp) _).setCell (by simp) _).setCell (by simp) _).setCell (by simp) _
    · exact (((((HO8.out.past (.inl (by omega))).past (.inl (by omega))).past (.inl (by omega))).past (.inl (by omega)))).keep (by omega) (by simp) (fun _ _ _ _ => rfl)
end Go.Proofs.Ytbgoikaelmacbaa
