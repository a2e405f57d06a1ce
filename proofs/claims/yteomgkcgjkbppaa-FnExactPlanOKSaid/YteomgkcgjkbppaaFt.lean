import Derived.Test.YteomgkcgjkbppaaTk
/-! The program: fit. -/
namespace Go.Proofs.Yteomgkcgjkbppaa
open Go.RowKit Go.Deep Go.Maps Go.WideMaps Go.ChangeMaps Go.Lib
set_option linter.unusedVariables false
set_option maxRecDepth 100000
set_option linter.unusedSimpArgs false

theorem var72 (t : Tr) (v : Value) (w : World) (hv : v.oneCell' = true) :
    Calls Try.prog 72 #[t.val v] w fun e w' => e = .returned (.bool (vrB t.name t.leaf)) ∧ Below w.heap.size w w' := by
  obtain ⟨n, x, l, k⟩ := t
  simp only [Tr.val]
  have hb := bel_alloc w (.cells #[.string n, .string x, .bool l, v] 31)
  have HB := (show Hid _ from hb); clear hb
  unfold vrB
  cases l with
  | false =>
    go_enter Try.func72, Try.ntmps72
    go_wp2_with fail
    go_ret
    exact ⟨rfl, HB.out⟩
  | true =>
    have HE := (show Hid ((n.toList == [86, 97, 114]) = eqS n varN) from eqS_var n)
    go_enter Try.func72, Try.ntmps72
    go_wp2_with fail
    go_ret
    exact ⟨by rw [← HE.out]; rfl, HB.out⟩
/-- What fit leaves. -/
def FtA (S : Nat → Prop) (B gb mb : Nat) (R : List (ByteArray × Tr) × Bool) (w : World) (e : Ending) (w' : World) : Prop :=
  e = .returned (.bool R.2) ∧ BS S B gb mb R.1 w' ∧ Kp B gb mb w w'
theorem Kp.cell {B gb mb b o : Nat} {w w' : World} {v : Value} (h : Kp B gb mb w w') (h1 : b < B ∧ b ≠ gb ∧ b ≠ mb) (hc : w.cell? ⟨b, o, none⟩ = some v) : w'.cell? ⟨b, o, none⟩ = some v :=
  (World.cell?_of_block (h.block b h1.1 h1.2.1 h1.2.2)).trans hc
set_option maxHeartbeats 3200000 in
theorem fitK98 {S : Nat → Prop} {B gb mb : Nat} (hS : ∀ q, S q → q < B ∧ q ≠ gb ∧ q ≠ mb) (k k' : List Tr) (bl : List (ByteArray × Tr)) (a1 a2 : Option Addr) (cap1 cap2 b1 off1 b2 off2 : Nat) (sv1 sv2 : Nat → Value) (w : World) (hbs : BS S B gb mb bl w)
    (hm1 : k.length ≤ 9223372036854775807) (hm2 : k'.length ≤ 9223372036854775807) (ha1 : 0 < k.length → a1 = some ⟨b1, off1, none⟩ ∧ S b1) (ha2 : 0 < k'.length → a2 = some ⟨b2, off2, none⟩ ∧ S b2)
    (hc1 : ∀ i (hi : i < k.length), w.cell? ⟨b1, off1 + i * 4, none⟩ = some (.string k[i].name) ∧ w.cell? ⟨b1, off1 + i * 4 + 1, none⟩ = some (.string k[i].text) ∧ w.cell? ⟨b1, off1 + i * 4 + 2, none⟩ = some (.bool k[i].leaf) ∧ w.cell? ⟨b1, off1 + i * 4 + 3, none⟩ = some (sv1 i))
    (hc2 : ∀ i (hi : i < k'.length), w.cell? ⟨b2, off2 + i * 4, none⟩ = some (.string k'[i].name) ∧ w.cell? ⟨b2, off2 + i * 4 + 1, none⟩ = some (.string k'[i].text) ∧ w.cell? ⟨b2, off2 + i * 4 + 2, none⟩ = some (.bool k'[i].leaf) ∧ w.cell? ⟨b2, off2 + i * 4 + 3, none⟩ = some (sv2 i))
    (hk1 : ∀ i (hi : i < k.length), Lies w S k[i] (sv1 i)) (hk2 : ∀ i (hi : i < k'.length), Lies w S k'[i] (sv2 i)) (hn : bl.length + Tr.cntL k ≤ 1000000)
    (ih : ∀ i (hi : i < k.length) (u : Tr) (v v' : Value) (lj : List (ByteArray × Tr)) (w : World), BS S B gb mb lj w → Lies w S k[i] v → Lies w S u v' → lj.length + k[i].cnt ≤ 1000000 → Calls Try.prog 75 #[.pointer (some ⟨gb, 0, none⟩), k[i].val v, u.val v'] w (FtA S B gb mb (mtT k[i] u lj) w))
    (R : List (ByteArray × Tr) × Bool) (hR : k.length = k'.length → R = mtK (k.map mtT) k' bl) (hR' : k.length ≠ k'.length → R = (bl, false)) :
    Calls Try.prog 98 #[.slice a1 k.length cap1, .slice a2 k'.length cap2, .func (.func 75) #[.pointer (some ⟨gb, 0, none⟩)] #[]] w (FtA S B gb mb R w) := by
  have HI := (show Hid _ from ih); clear ih
  have HSS := (show Hid _ from hS); clear hS
  by_cases hlen : k.length = k'.length
  · have i0 : ((k.length : Int) != (k'.length : Int)) = false := by simp; omega
    have HD := (show Hid _ from (⟨ha1, hc1, hk1⟩ : _ ∧ _ ∧ _)); clear ha1 hc1 hk1
    have HD' := (show Hid _ from (⟨ha2, hc2, hk2⟩ : _ ∧ _ ∧ _)); clear ha2 hc2 hk2
    have HRR := (show Hid (R = mtK (k.map mtT) k' bl) from hR hlen)
    have HL := (show Hid _ from hlen)
    have HB0 := (show Hid (BS S B gb mb bl w) from hbs)
    clear hlen hR hR' hbs
    go_enter Try.func98, Try.ntmps98
    go_wp2_with fail
    go_loopw [17] (fun i wr => ∃ (j : Nat) (lj : List (ByteArray × Tr)), i = .int .i64 j ∧ j ≤ k.length ∧ Hid (Kp B gb mb w wr ∧ BS S B gb mb lj wr ∧ mtK ((k.drop j).map mtT) (k'.drop j) lj = mtK (k.map mtT) k' bl ∧ lj.length + Tr.cntL (k.drop j) ≤ 1000000)) (fun i _ => k.length - (intOf i).toNat)
    case atStart => exact ⟨0, bl, rfl, Nat.zero_le _, Kp.of_below HB0.out.sz (Below.refl _ _), HB0.out, by rw [List.drop_zero, List.drop_zero], by rw [List.drop_zero]; exact hn⟩
    case round =>
      obtain ⟨j, lj, rfl, hj, HJ⟩ := hrel
      by_cases hlt : j < k.length
      · have hlt' : j < k'.length := by rw [← HL.out]; exact hlt
        obtain ⟨rfl, hs1⟩ := HD.out.1 (by omega)
        obtain ⟨rfl, hs2⟩ := HD'.out.1 (by omega)
        obtain ⟨d0, d1, d2, d3⟩ := HD.out.2.1 j hlt
        obtain ⟨f0, f1, f2, f3⟩ := HD'.out.2.1 j hlt'
        replace d0 := HJ.out.1.cell (HSS.out b1 hs1) d0
        replace d1 := HJ.out.1.cell (HSS.out b1 hs1) d1
        replace d2 := HJ.out.1.cell (HSS.out b1 hs1) d2
        replace d3 := HJ.out.1.cell (HSS.out b1 hs1) d3
        replace f0 := HJ.out.1.cell (HSS.out b2 hs2) f0
        replace f1 := HJ.out.1.cell (HSS.out b2 hs2) f1
        replace f2 := HJ.out.1.cell (HSS.out b2 hs2) f2
        replace f3 := HJ.out.1.cell (HSS.out b2 hs2) f3
        have hI4 := (HD.out.2.2 j hlt).keep (fun q hq => HJ.out.1.block q (HSS.out q hq).1 (HSS.out q hq).2.1 (HSS.out q hq).2.2)
        have hI5 := (HD'.out.2.2 j hlt').keep (fun q hq => HJ.out.1.block q (HSS.out q hq).1 (HSS.out q hq).2.1 (HSS.out q hq).2.2)
        obtain ⟨a4, l4, p4, e4⟩ := hI4.form
        obtain ⟨a5, l5, p5, e5⟩ := hI5.form
        rw [e4] at d3 hI4
        rw [e5] at f3 hI5
        have hst := mtK_step hlt hlt' lj
        have hcs := Tr.cntL_drop k j hlt
        have hn1 := HJ.out.2.2.2
        have hvl := mtT_len k[j] k'[j] lj
        have HCL := (show Hid (∀ wq, Below wr.heap.size wr wq → Calls Try.prog 75 #[.pointer (some ⟨gb, 0, none⟩), .agg #[.string k[j].name, .string k[j].text, .bool k[j].leaf, .slice a4 l4 p4], .agg #[.string k'[j].name, .string k'[j].text, .bool k'[j].leaf, .slice a5 l5 p5]] wq (FtA S B gb mb (mtT k[j] k'[j] lj) wq)) from fun wq hb => HI.out j hlt k'[j] _ _ lj wq (HJ.out.2.1.still hb) (hI4.still hb) (hI5.still hb) (by omega))
        have HNX := (show Hid (((mtT k[j] k'[j] lj).2 = true → mtK ((k.drop (j + 1)).map mtT) (k'.drop (j + 1)) (mtT k[j] k'[j] lj).1 = mtK (k.map mtT) k' bl ∧ (mtT k[j] k'[j] lj).1.length + Tr.cntL (k.drop (j + 1)) ≤ 1000000) ∧ ((mtT k[j] k'[j] lj).2 = false → R = ((mtT k[j] k'[j] lj).1, false))) from (by
          have h0 := HJ.out.2.2.1
          rw [hst] at h0
          refine ⟨fun h => ?_, fun h => ?_⟩
          · rw [if_pos h] at h0; exact ⟨h0, by omega⟩
          · rw [if_neg (by simp [h])] at h0; rw [HRR.out]; exact h0.symm))
        have hg : (((wr.alloc (.cells #[.string k[j].name, .string k[j].text, .bool k[j].leaf, .slice a4 l4 p4] 31)).cell? ⟨b2, off2 + j * 4, none⟩ = some (.string k'[j].name)) ∧ ((wr.alloc (.cells #[.string k[j].name, .string k[j].text, .bool k[j].leaf, .slice a4 l4 p4] 31)).cell? ⟨b2, off2 + j * 4 + 1, none⟩ = some (.string k'[j].text)) ∧ ((wr.alloc (.cells #[.string k[j].name, .string k[j].text, .bool k[j].leaf, .slice a4 l4 p4] 31)).cell? ⟨b2, off2 + j * 4 + 2, none⟩ = some (.bool k'[j].leaf)) ∧ (wr.alloc (.cells #[.string k[j].name, .string k[j].text, .bool k[j].leaf, .slice a4 l4 p4] 31)).cell? ⟨b2, off2 + j * 4 + 3, none⟩ = some (.slice a5 l5 p5)) := by
          have hba := bel_alloc wr (.cells #[.string k[j].name, .string k[j].text, .bool k[j].leaf, .slice a4 l4 p4] 31)
          exact ⟨(hba.cell (lt_of_cell f0)).trans f0, (hba.cell (lt_of_cell f1)).trans f1, (hba.cell (lt_of_cell f2)).trans f2, (hba.cell (lt_of_cell f3)).trans f3⟩
        obtain ⟨g0, g1, g2, g3⟩ := hg
        have q1 : (0 : Int) ≤ (j : Int) := by omega
        have q2 : (j : Int) < (k.length : Int) := by omega
        have q3 : (j : Int) < (k'.length : Int) := by omega
        have HJb := (show Hid (Kp B gb mb w wr) from HJ.out.1)
        have HZb := (show Hid (B ≤ wr.heap.size) from HJ.out.2.1.sz)
        clear hI4 hI5 f0 f1 f2 f3 HJ e4 e5 hst hcs hn1 hvl hs1 hs2
        unfold FtA at HCL
        generalize mtT k[j] k'[j] lj = Rj at *
        obtain ⟨lj', ok'⟩ := Rj
        dsimp only at HCL HNX
        generalize k[j].name = y0 at *
        generalize k[j].text = y1 at *
        generalize k[j].leaf = y2 at *
        generalize k'[j].name = z0 at *
        generalize k'[j].text = z1 at *
        generalize k'[j].leaf = z2 at *
        go_wp2_with fail
        refine Calls.mono (HCL.out _ ((bel_alloc _ _).alloc (by simp) _)) ?_
        rintro e w1 ⟨rfl, hb1, hk1⟩
        have HB1 := (show Hid (BS S B gb mb lj' w1) from hb1)
        have HK1 := (show Hid (Kp B gb mb w w1) from (HJb.out.trans (Kp.of_below HZb.out ((bel_alloc wr (.cells #[.string y0, .string y1, .bool y2, .slice a4 l4 p4] 31)).alloc (by simp) (.cells #[.string z0, .string z1, .bool z2, .slice a5 l5 p5] 31)))).trans hk1)
        clear hb1 hk1 g0 g1 g2 g3 d0 d1 d2 d3 HCL
        cases ok' with
        | false =>
          have HF := (show Hid _ from HNX.out.2 rfl)
          clear HNX
          go_wp2_with fail
          go_ret
          exact ⟨by rw [HF.out]; rfl, by rw [HF.out]; exact HB1.out, HK1.out⟩
        | true =>
          have HF := (show Hid _ from HNX.out.1 rfl)
          clear HNX
          go_wp2_with fail
          exact ⟨⟨j + 1, lj', by go_num, by omega, HK1.out, HB1.out, HF.out.1, HF.out.2⟩, by simp [intOf]; omega⟩
      · have HN := (show Hid (R = (lj, true)) from (by
          have h0 := HJ.out.2.2.1
          rw [List.drop_of_length_le (by omega)] at h0
          show R = _
          rw [HRR.out, ← h0]
          rfl))
        have HB1 := (show Hid (BS S B gb mb lj wr) from HJ.out.2.1)
        have HK1 := (show Hid (Kp B gb mb w wr) from HJ.out.1)
        clear HJ
        go_wp2_with fail
        go_ret
        exact ⟨by rw [HN.out]; rfl, by rw [HN.out]; exact HB1.out, HK1.out⟩
  · have i0 : ((k.length : Int) != (k'.length : Int)) = true := by simp; omega
    have HN := (show Hid (R = (bl, false)) from hR' hlen)
    have HB0 := (show Hid (BS S B gb mb bl w) from hbs)
    clear hc1 hc2 ha1 ha2 hlen hk1 hk2 hR hR' hbs
    go_enter Try.func98, Try.ntmps98
    go_wp2_with fail
    go_ret
    exact ⟨by rw [HN.out]; rfl, by rw [HN.out]; exact HB0.out, Kp.of_below HB0.out.sz (Below.refl _ _)⟩
set_option maxHeartbeats 3200000 in
theorem fit75 {S : Nat → Prop} {B gb mb : Nat} (hS : ∀ q, S q → q < B ∧ q ≠ gb ∧ q ≠ mb) (p : Tr) : ∀ (t : Tr) (v v' : Value) (bl : List (ByteArray × Tr)) (w : World), BS S B gb mb bl w → Lies w S p v → Lies w S t v' → bl.length + p.cnt ≤ 1000000 →
    Calls Try.prog 75 #[.pointer (some ⟨gb, 0, none⟩), p.val v, t.val v'] w (FtA S B gb mb (mtT p t bl) w) := by
  refine Tr.ind (P := fun p => ∀ (t : Tr) (v v' : Value) (bl : List (ByteArray × Tr)) (w : World), BS S B gb mb bl w → Lies w S p v → Lies w S t v' → bl.length + p.cnt ≤ 1000000 → Calls Try.prog 75 #[.pointer (some ⟨gb, 0, none⟩), p.val v, t.val v'] w (FtA S B gb mb (mtT p t bl) w)) ?_ p
  intro n x lf k ih t v v' bl w hbs hp ht hn
  rw [Tr.cnt_mk] at hn
  obtain ⟨n', x', l', k'⟩ := t
  have HMT := (show Hid _ from mtT_mk n x lf k ⟨n', x', l', k'⟩ bl)
  have HHD := (show Hid _ from hdB_iff n x lf k.length ⟨n', x', l', k'⟩)
  dsimp only at HHD HMT
  have ht0 := ht
  obtain ⟨a1, cap1, b1, off1, sv1, rfl, _, hxz, hc1, hm1, ha1, hcell1, hk1⟩ := hp.out
  obtain ⟨a2, cap2, b2, off2, sv2, rfl, _, _, hc2, hm2, ha2, hcell2, hk2⟩ := ht.out
  dsimp only at hxz hc1 hm1 ha1 hcell1 hk1 hc2 hm2 ha2 hcell2 hk2 ⊢
  simp only [Tr.val]
  have hb2 : Below w.heap.size w ((w.alloc (.cells #[.string n, .string x, .bool lf, .slice a1 k.length cap1] 31)).alloc (.cells #[.string n', .string x', .bool l', .slice a2 k'.length cap2] 31)) := (bel_alloc _ _).alloc (by simp) _
  have HV := (show Hid _ from var72 ⟨n, x, lf, k⟩ (.slice a1 k.length cap1) ((w.alloc (.cells #[.string n, .string x, .bool lf, .slice a1 k.length cap1] 31)).alloc (.cells #[.string n', .string x', .bool l', .slice a2 k'.length cap2] 31)) rfl)
  simp only [Tr.val] at HV
  have HX1 := (show Hid (Box ((w.alloc (.cells #[.string n, .string x, .bool lf, .slice a1 k.length cap1] 31)).alloc (.cells #[.string n', .string x', .bool l', .slice a2 k'.length cap2] 31)) w.heap.size 31 [.string n, .string x, .bool lf, .slice a1 k.length cap1]) from (Box.new w 31 _).still (bel_alloc _ _))
  have HX2 := (show Hid (Box ((w.alloc (.cells #[.string n, .string x, .bool lf, .slice a1 k.length cap1] 31)).alloc (.cells #[.string n', .string x', .bool l', .slice a2 k'.length cap2] 31)) (w.heap.size + 1) 31 [.string n', .string x', .bool l', .slice a2 k'.length cap2]) from (by
    have h := Box.new (w.alloc (.cells #[.string n, .string x, .bool lf, .slice a1 k.length cap1] 31)) 31 [.string n', .string x', .bool l', .slice a2 k'.length cap2]
    rw [show (w.alloc (.cells #[.string n, .string x, .bool lf, .slice a1 k.length cap1] 31)).heap.size = w.heap.size + 1 from by simp] at h
    exact h))
  have HB2 := (show Hid _ from hb2)
  have HBS := (show Hid (BS S B gb mb bl w) from hbs)
  have HTK := (show Hid (∀ wq : World, Below w.heap.size w wq → Calls Try.prog 97 #[.pointer (some ⟨gb, 0, none⟩), .string x, .agg #[.string n', .string x', .bool l', .slice a2 k'.length cap2]] wq (TkA S B gb mb x ⟨n', x', l', k'⟩ bl wq)) from fun wq hb => take97 hS bl x ⟨n', x', l', k'⟩ _ wq (hbs.still hb) (ht0.still hb) hxz (by omega))
  have HKK := (show Hid (∀ (R : List (ByteArray × Tr) × Bool), (k.length = k'.length → R = mtK (k.map mtT) k' bl) → (k.length ≠ k'.length → R = (bl, false)) → ∀ wq : World, Below w.heap.size w wq → Calls Try.prog 98 #[.slice a1 k.length cap1, .slice a2 k'.length cap2, .func (.func 75) #[.pointer (some ⟨gb, 0, none⟩)] #[]] wq (FtA S B gb mb R wq)) from fun R h1 h2 wq hb => by
    have mv : ∀ {b o : Nat} {v : Value}, w.cell? ⟨b, o, none⟩ = some v → wq.cell? ⟨b, o, none⟩ = some v := fun h => (hb.cell (lt_of_cell h)).trans h
    unfold maxLen at hm1 hm2
    refine fitK98 hS k k' bl a1 a2 cap1 cap2 b1 off1 b2 off2 sv1 sv2 wq (hbs.still hb) (by omega) (by omega) ha1 ha2 (fun i hi => ?_) (fun i hi => ?_) (fun i hi => (hk1 i hi).still hb) (fun i hi => (hk2 i hi).still hb) (by omega) ih R h1 h2
    · obtain ⟨c0, c1, c2, c3⟩ := hcell1 i hi
      exact ⟨mv c0, mv c1, mv c2, mv c3⟩
    · obtain ⟨c0, c1, c2, c3⟩ := hcell2 i hi
      exact ⟨mv c0, mv c1, mv c2, mv c3⟩)
  clear hp ht ht0 hb2 ih hcell1 hcell2 hk1 hk2 ha1 ha2 hbs
  generalize mtT ⟨n, x, lf, k⟩ ⟨n', x', l', k'⟩ bl = R at *
  go_enter Try.func75, Try.ntmps75
  go_wp2_with fail
  refine Calls.mono HV.out ?_
  rintro e w1 ⟨rfl, hb1⟩
  have P0 : w1.cell? ⟨w.heap.size, 0, none⟩ = some (.string n) := (HX1.out.still hb1).cell 0 (by simp)
  have P1 : w1.cell? ⟨w.heap.size, 1, none⟩ = some (.string x) := (HX1.out.still hb1).cell 1 (by simp)
  have P2 : w1.cell? ⟨w.heap.size, 2, none⟩ = some (.bool lf) := (HX1.out.still hb1).cell 2 (by simp)
  have P3 : w1.cell? ⟨w.heap.size, 3, none⟩ = some (.slice a1 k.length cap1) := (HX1.out.still hb1).cell 3 (by simp)
  have Q0 : w1.cell? ⟨w.heap.size + 1, 0, none⟩ = some (.string n') := (HX2.out.still hb1).cell 0 (by simp)
  have Q1 : w1.cell? ⟨w.heap.size + 1, 1, none⟩ = some (.string x') := (HX2.out.still hb1).cell 1 (by simp)
  have Q2 : w1.cell? ⟨w.heap.size + 1, 2, none⟩ = some (.bool l') := (HX2.out.still hb1).cell 2 (by simp)
  have Q3 : w1.cell? ⟨w.heap.size + 1, 3, none⟩ = some (.slice a2 k'.length cap2) := (HX2.out.still hb1).cell 3 (by simp)
  have HB1 := (show Hid (Below w.heap.size w w1) from bel_trans HB2.out hb1)
  have HKP := (show Hid (Kp B gb mb w w1) from Kp.of_below HBS.out.sz HB1.out)
  clear hb1 HV HX1 HX2 HB2
  dsimp only
  cases hvr : vrB n lf
  case true =>
    rw [hvr, if_pos rfl] at HMT
    have HCL := (show Hid _ from HTK.out w1 HB1.out)
    clear hvr HTK HKK HHD HB1
    unfold TkA at HCL
    go_wp2_with fail
    refine Calls.mono HCL.out ?_
    rintro e w2 ⟨rfl, h1, h2⟩
    have HE := (show Hid (BS S B gb mb (mtV x ⟨n', x', l', k'⟩ bl).1 w2 ∧ Kp B gb mb w w2) from ⟨h1, HKP.out.trans h2⟩)
    clear h1 h2 HCL
    go_wp2_with fail
    go_ret
    exact ⟨by rw [HMT.out]; rfl, by rw [HMT.out]; exact HE.out.1, HE.out.2⟩
  rw [hvr, if_neg (by simp)] at HMT
  have HNO := (show Hid (¬ (n = n' ∧ lf = l' ∧ x = x' ∧ k.length = k'.length) → R = (bl, false)) from fun h => by rw [HMT.out, if_neg (fun e => h (HHD.out.1 e))])
  have HBF := (show Hid (BS S B gb mb bl w1) from HBS.out.still HB1.out)
  clear hvr HTK
  by_cases e1 : n = n'
  case neg =>
    have hd := ne_bytes e1
    have HF := (show Hid (R = (bl, false)) from HNO.out (fun h => e1 h.1))
    clear e1 HNO HMT HHD HKK
    go_wp2_with fail
    go_ret
    exact ⟨by rw [HF.out]; rfl, by rw [HF.out]; exact HBF.out, HKP.out⟩
  subst e1
  by_cases e2 : x = x'
  case neg =>
    have hd := ne_bytes e2
    have HF := (show Hid (R = (bl, false)) from HNO.out (fun h => e2 h.2.2.1))
    clear e2 HNO HMT HHD HKK
    go_wp2_with fail
    go_ret
    exact ⟨by rw [HF.out]; rfl, by rw [HF.out]; exact HBF.out, HKP.out⟩
  subst e2
  by_cases e3 : lf = l'
  case neg =>
    have hd : (lf == l') = false := by simpa using e3
    have HF := (show Hid (R = (bl, false)) from HNO.out (fun h => e3 h.2.1))
    clear e3 HNO HMT HHD HKK
    go_wp2_with fail
    go_ret
    exact ⟨by rw [HF.out]; rfl, by rw [HF.out]; exact HBF.out, HKP.out⟩
  subst e3
  have HCL := (show Hid _ from HKK.out R (fun h => by rw [HMT.out, if_pos (HHD.out.2 ⟨rfl, rfl, rfl, h⟩)]) (fun h => HNO.out (fun e => h e.2.2.2)) w1 HB1.out)
  clear HKK HMT HHD HNO HB1
  unfold FtA at HCL
  go_wp2_with fail
  refine Calls.mono HCL.out ?_
  rintro e w2 ⟨rfl, h1, h2⟩
  have HE := (show Hid (BS S B gb mb R.1 w2 ∧ Kp B gb mb w w2) from ⟨h1, HKP.out.trans h2⟩)
  clear h1 h2 HCL
  go_wp2_with fail
  go_ret
  exact ⟨rfl, HE.out.1, HE.out.2⟩
end Go.Proofs.Yteomgkcgjkbppaa
