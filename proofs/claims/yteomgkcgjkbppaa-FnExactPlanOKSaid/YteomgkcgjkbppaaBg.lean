import Derived.Test.YteomgkcgjkbppaaPq
import Derived.Test.YteomgkcgjkbppaaCopy
/-! The specification: l11Match. -/
namespace Go.Proofs.Yteomgkcgjkbppaa
open Go.RowKit Go.Deep Go.Lib
set_option linter.unusedVariables false
set_option maxRecDepth 100000
set_option linter.unusedSimpArgs false

theorem hdB_iff (n x : ByteArray) (lf : Bool) (m : Nat) (t : Tr) : hdB n x lf m t = true ↔ (n = t.name ∧ lf = t.leaf ∧ x = t.text ∧ m = t.kids.length) := by
  unfold hdB
  rw [Bool.and_eq_true, Bool.and_eq_true, Bool.and_eq_true, eqS_iff, eqS_iff, beq_iff_eq, decide_eq_true_eq]
set_option maxHeartbeats 3200000 in
theorem match34 (p : Tr) : ∀ (t : Tr) (pv tv bv : Value) (bl : List (ByteArray × Tr)) (w : World), Lies w (fun _ => True) p pv → Lies w (fun _ => True) t tv → BLi w bl bv → bl.length + p.cnt ≤ 1000000 →
    Calls Try.prog 34 #[p.val pv, t.val tv, bv] w (MtA p t bl w) := by
  refine Tr.ind (P := fun p => ∀ (t : Tr) (pv tv bv : Value) (bl : List (ByteArray × Tr)) (w : World), Lies w (fun _ => True) p pv → Lies w (fun _ => True) t tv → BLi w bl bv → bl.length + p.cnt ≤ 1000000 → Calls Try.prog 34 #[p.val pv, t.val tv, bv] w (MtA p t bl w)) ?_ p
  intro n x lf k ih t pv tv bv bl w hp ht hb hn
  rw [Tr.cnt_mk] at hn
  cases hvr : vrB n lf
  case true =>
    obtain ⟨a, m, cap, rfl⟩ := hp.form
    exact mtV34 n x lf k hvr t a m cap tv bv bl w ht hb (by omega)
  obtain ⟨n', x', l', k'⟩ := t
  have hbl := hb
  obtain ⟨b0, c0, sv0, rfl, _, _, _⟩ := hb
  have HMT := (show Hid (mtT ⟨n, x, lf, k⟩ ⟨n', x', l', k'⟩ bl = if hdB n x lf k.length ⟨n', x', l', k'⟩ = true then mtK (k.map mtT) k' bl else (bl, false)) from (by
    show _ = _
    rw [mtT_mk, if_neg (by simp [hvr])]))
  have HR := (show Hid (∀ R : List (ByteArray × Tr) × Bool, (if hdB n x lf k.length ⟨n', x', l', k'⟩ = true then mtK (k.map mtT) k' bl else (bl, false)) = R → ∀ (b cp : Nat) (w' : World), Below w.heap.size w w' → BLi w' R.1 (.slice (some ⟨b, 0, none⟩) R.1.length cp) → MtA ⟨n, x, lf, k⟩ ⟨n', x', l', k'⟩ bl w (.returned (.tuple #[.slice (some ⟨b, 0, none⟩) R.1.length cp, .bool R.2])) w') from fun R hR b cp w' h1 h2 => by
    rw [← HMT.out] at hR
    subst hR
    exact ⟨b, cp, rfl, h1, h2⟩)
  have HHD := (show Hid _ from hdB_iff n x lf k.length ⟨n', x', l', k'⟩)
  dsimp only at HHD
  obtain ⟨a1, cap1, b1, off1, sv1, rfl, _, _, hc1, hm1, ha1, hcell1, hk1⟩ := hp.out
  obtain ⟨a2, cap2, b2, off2, sv2, rfl, _, _, hc2, hm2, ha2, hcell2, hk2⟩ := ht.out
  dsimp only at hc1 hm1 ha1 hcell1 hk1 hc2 hm2 ha2 hcell2 hk2 ⊢
  have HI := (show Hid _ from ih); clear ih
  have HC := (show Hid _ from (⟨hcell1, hcell2⟩ : _ ∧ _)); clear hcell1 hcell2
  have HK := (show Hid _ from (⟨hk1, hk2⟩ : _ ∧ _)); clear hk1 hk2
  have HA := (show Hid _ from (⟨ha1, ha2⟩ : _ ∧ _)); clear ha1 ha2
  unfold maxLen at hm1 hm2
  simp only [Tr.val]
  clear hp ht
  have hb2 : Below w.heap.size w ((w.alloc (.cells #[.string n, .string x, .bool lf, .slice a1 k.length cap1] 31)).alloc (.cells #[.string n', .string x', .bool l', .slice a2 k'.length cap2] 31)) := (bel_alloc _ _).alloc (by simp) _
  have HV := (show Hid _ from var70 ⟨n, x, lf, k⟩ (.slice a1 k.length cap1) ((w.alloc (.cells #[.string n, .string x, .bool lf, .slice a1 k.length cap1] 31)).alloc (.cells #[.string n', .string x', .bool l', .slice a2 k'.length cap2] 31)) rfl)
  simp only [Tr.val] at HV
  rw [hvr] at HV
  have HX1 := (show Hid (Box ((w.alloc (.cells #[.string n, .string x, .bool lf, .slice a1 k.length cap1] 31)).alloc (.cells #[.string n', .string x', .bool l', .slice a2 k'.length cap2] 31)) w.heap.size 31 [.string n, .string x, .bool lf, .slice a1 k.length cap1]) from (Box.new w 31 _).still (bel_alloc _ _))
  have HX2 := (show Hid (Box ((w.alloc (.cells #[.string n, .string x, .bool lf, .slice a1 k.length cap1] 31)).alloc (.cells #[.string n', .string x', .bool l', .slice a2 k'.length cap2] 31)) (w.heap.size + 1) 31 [.string n', .string x', .bool l', .slice a2 k'.length cap2]) from (by
    have h := Box.new (w.alloc (.cells #[.string n, .string x, .bool lf, .slice a1 k.length cap1] 31)) 31 [.string n', .string x', .bool l', .slice a2 k'.length cap2]
    rw [show (w.alloc (.cells #[.string n, .string x, .bool lf, .slice a1 k.length cap1] 31)).heap.size = w.heap.size + 1 from by simp] at h
    exact h))
  have HB2 := (show Hid (Below w.heap.size w ((w.alloc (.cells #[.string n, .string x, .bool lf, .slice a1 k.length cap1] 31)).alloc (.cells #[.string n', .string x', .bool l', .slice a2 k'.length cap2] 31))) from hb2); clear hb2
  have HBL := (show Hid (BLi w bl (.slice (some ⟨b0, 0, none⟩) bl.length c0)) from hbl); clear hbl
  clear hvr
  go_enter Try.func34, Try.ntmps34
  go_wp2_with fail
  refine Calls.mono HV.out ?_
  rintro e w1 ⟨rfl, hb1⟩
  have P0 : w1.cell? ⟨w.heap.size, 0, none⟩ = some (.string n) := (HX1.out.still hb1).cell 0 (by simp)
  have P1 : w1.cell? ⟨w.heap.size, 1, none⟩ = some (.string x) := (HX1.out.still hb1).cell 1 (by simp)
  have P2 : w1.cell? ⟨w.heap.size, 2, none⟩ = some (.bool lf) := (HX1.out.still hb1).cell 2 (by simp)
  have P3 : w1.cell? ⟨w.heap.size, 3, none⟩ = some (.slice a1 k.length cap1) := (HX1.out.still hb1).cell 3 (by simp)
  have Q0 : w1.cell? ⟨w.heap.size + 1, 0, none⟩ = some (.string n') := (HX2.out.still hb1).cell 0 (by simp)
  have Q1 : w1.cell? ⟨w.heap.size + 1, 1, none⟩ = some (.string x') := (HX2.out.still hb1).cell 1 (by simp)
  have Q2 : w1.cell? ⟨w.heap.size + 1, 2, none⟩ = some (.bool l') := (HX2.out.still hb1).cell 2 (by simp)
  have Q3 : w1.cell? ⟨w.heap.size + 1, 3, none⟩ = some (.slice a2 k'.length cap2) := (HX2.out.still hb1).cell 3 (by simp)
  have HB1 := (show Hid (Below ((w.alloc (.cells #[.string n, .string x, .bool lf, .slice a1 k.length cap1] 31)).alloc (.cells #[.string n', .string x', .bool l', .slice a2 k'.length cap2] 31)).heap.size ((w.alloc (.cells #[.string n, .string x, .bool lf, .slice a1 k.length cap1] 31)).alloc (.cells #[.string n', .string x', .bool l', .slice a2 k'.length cap2] 31)) w1) from hb1)
  have HF := (show Hid (¬ (n = n' ∧ lf = l' ∧ x = x' ∧ k.length = k'.length) → MtA ⟨n, x, lf, k⟩ ⟨n', x', l', k'⟩ bl w (.returned (.tuple #[.slice (some ⟨b0, 0, none⟩) bl.length c0, .bool false])) w1) from fun h => by
    have hbw := bel_trans HB2.out hb1
    exact HR.out (bl, false) (if_neg (fun e => h (HHD.out.1 e))) b0 c0 w1 hbw (HBL.out.still hbw))
  clear hb1 HV HMT
  by_cases e1 : n = n'
  case neg =>
    have hd := ne_bytes e1
    have hd' : (n.toList != n'.toList) = true := by rw [bne, hd]; rfl
    have HE := (show Hid _ from HF.out (fun h => e1 h.1))
    clear e1 HF HR HHD
    go_wp2_with fail
    go_ret2
    exact HE.out
  subst e1
  by_cases e2 : lf = l'
  case neg =>
    have hd : (lf == l') = false := by simpa using e2
    have hd' : (lf != l') = true := by rw [bne, hd]; rfl
    have HE := (show Hid _ from HF.out (fun h => e2 h.2.1))
    clear e2 HF HR HHD
    go_wp2_with fail
    go_ret2
    exact HE.out
  subst e2
  by_cases e3 : x = x'
  case neg =>
    have hd := ne_bytes e3
    have hd' : (x.toList != x'.toList) = true := by rw [bne, hd]; rfl
    have HE := (show Hid _ from HF.out (fun h => e3 h.2.2.1))
    clear e3 HF HR HHD
    go_wp2_with fail
    go_ret2
    exact HE.out
  subst e3
  by_cases e4 : k.length = k'.length
  case neg =>
    have hd' : ((k.length : Int) != (k'.length : Int)) = true := by simp; omega
    have HE := (show Hid _ from HF.out (fun h => e4 h.2.2.2))
    clear e4 HF HR HHD
    go_wp2_with fail
    go_ret2
    exact HE.out
  have HTR := (show Hid (hdB n x lf k.length ⟨n, x, lf, k'⟩ = true) from HHD.out.2 ⟨rfl, rfl, rfl, e4⟩)
  have hd' : ((k.length : Int) != (k'.length : Int)) = false := by simp; omega
  have hle : k.length ≤ k'.length := by omega
  have hge : k'.length ≤ k.length := by omega
  clear e4 HF HHD
  go_wp2_with fail
  go_loopw [2, 9, 10] (fun u o i wr => ∃ (j : Nat) (lj : List (ByteArray × Tr)) (ok : Bool) (jb jc : Nat), u = .slice (some ⟨jb, 0, none⟩) lj.length jc ∧ o = .bool ok ∧ i = .int .i64 j ∧ j ≤ k.length ∧ Hid ((ok = true → mtK ((k.drop j).map mtT) (k'.drop j) lj = mtK (k.map mtT) k' bl) ∧ (ok = false → mtK (k.map mtT) k' bl = (lj, false))) ∧ Hid (ok = true → lj.length + Tr.cntL (k.drop j) ≤ 1000000) ∧ Hid (Below ((w.alloc (.cells #[.string n, .string x, .bool lf, .slice a1 k.length cap1] 31)).alloc (.cells #[.string n, .string x, .bool lf, .slice a2 k'.length cap2] 31)).heap.size ((w.alloc (.cells #[.string n, .string x, .bool lf, .slice a1 k.length cap1] 31)).alloc (.cells #[.string n, .string x, .bool lf, .slice a2 k'.length cap2] 31)) wr) ∧ Hid (BLi wr lj (.slice (some ⟨jb, 0, none⟩) lj.length jc))) (fun _ _ i _ => k.length - (intOf i).toNat)
  case atStart => exact ⟨0, bl, true, b0, c0, rfl, rfl, rfl, Nat.zero_le _, ⟨fun _ => by rw [List.drop_zero, List.drop_zero], fun h => by cases h⟩, (fun _ => by rw [List.drop_zero]; omega), HB1.out, HBL.out.still (bel_trans HB2.out HB1.out)⟩
  case round =>
    obtain ⟨j, lj, ok, jb, jc, rfl, rfl, rfl, hj, HE, HN, HW, HL⟩ := hrel
    have A1 : wr.cell? ⟨w.heap.size, 3, none⟩ = some (.slice a1 k.length cap1) := (HX1.out.still HW.out).cell 3 (by simp)
    have A2 : wr.cell? ⟨w.heap.size + 1, 3, none⟩ = some (.slice a2 k'.length cap2) := (HX2.out.still HW.out).cell 3 (by simp)
    have hbw' : Below w.heap.size w wr := bel_trans HB2.out HW.out
    clear HB1 P0 P1 P2 P3 Q0 Q1 Q2 Q3
    by_cases hgo : j < k.length ∧ ok = true
    · obtain ⟨hlt, rfl⟩ := hgo
      have hlt' : j < k'.length := by omega
      obtain ⟨rfl, _⟩ := HA.out.1 (by omega)
      obtain ⟨rfl, _⟩ := HA.out.2 (by omega)
      obtain ⟨c0', c1, c2, c3⟩ := HC.out.1 j hlt
      obtain ⟨d0, d1, d2, d3⟩ := HC.out.2 j hlt'
      obtain ⟨p1, p2, p3, hp⟩ := (HK.out.1 j hlt).form
      obtain ⟨q1, q2, q3, hq⟩ := (HK.out.2 j hlt').form
      have mv : ∀ {b o : Nat} {v : Value}, w.cell? ⟨b, o, none⟩ = some v → wr.cell? ⟨b, o, none⟩ = some v := fun h => (hbw'.cell (lt_of_cell h)).trans h
      rw [hp] at c3
      rw [hq] at d3
      have hS : Held8 w.heap.size (.slice (some ⟨b1, off1, none⟩) k.length cap1) (.slice (some ⟨b2, off2, none⟩) k'.length cap2) b1 (off1 + j * 4) b2 (off2 + j * 4) k[j].name k[j].text k[j].leaf (.slice p1 p2 p3) k'[j].name k'[j].text k'[j].leaf (.slice q1 q2 q3) wr := ⟨A1, A2, ⟨mv c0', mv c1, mv c2, mv c3⟩, mv d0, mv d1, mv d2, mv d3⟩
      have hdr := (Below.refl wr.heap.size wr).drew
      have hS0 := hS.still hdr
      have hst := mtK_step hlt hlt' lj
      have hcs := Tr.cntL_drop k j hlt
      have hn1 := HN.out rfl
      have hvl := mtT_len k[j] k'[j] lj
      have hcl := HI.out j hlt k'[j] (sv1 j) (sv2 j) (.slice (some ⟨jb, 0, none⟩) lj.length jc) lj wr.drew ((HK.out.1 j hlt).still (hbw'.drew)) ((HK.out.2 j hlt').still (hbw'.drew)) (HL.out.still hdr) (by omega)
      rw [hp, hq] at hcl
      simp only [Tr.val] at hcl
      have HCL := (show Hid _ from hcl); clear hcl c0' c1 c2 c3 d0 d1 d2 d3 hp hq
      have HS := (show Hid _ from hS); clear hS
      have HDR := (show Hid _ from hdr); clear hdr
      have HNX := (show Hid (((mtT k[j] k'[j] lj).2 = true → mtK ((k.drop (j + 1)).map mtT) (k'.drop (j + 1)) (mtT k[j] k'[j] lj).1 = mtK (k.map mtT) k' bl) ∧ ((mtT k[j] k'[j] lj).2 = false → mtK (k.map mtT) k' bl = ((mtT k[j] k'[j] lj).1, false))) from (by
        have h0 := HE.out.1 rfl
        rw [hst] at h0
        refine ⟨fun h => ?_, fun h => ?_⟩
        · rw [if_pos h] at h0; exact h0
        · rw [if_neg (by simp [h])] at h0; exact h0.symm))
      have HN2 := (show Hid ((mtT k[j] k'[j] lj).2 = true → (mtT k[j] k'[j] lj).1.length + Tr.cntL (k.drop (j + 1)) ≤ 1000000) from fun _ => by omega)
      unfold MtA at HCL
      clear hst hcs hn1 hvl HE HN A1 A2 HL
      generalize mtT k[j] k'[j] lj = R at *
      obtain ⟨lj', ok'⟩ := R
      dsimp only at HCL HNX HN2
      generalize k[j].name = m1 at *
      generalize k[j].text = m2 at *
      generalize k[j].leaf = m3 at *
      generalize k'[j].name = r1 at *
      generalize k'[j].text = r2 at *
      generalize k'[j].leaf = r3 at *
      have hjl : (j : Int) < k.length := by omega
      have hjl' : (j : Int) < k'.length := by omega
      have A1 : wr.cell? ⟨w.heap.size, 3, none⟩ = some (.slice (some ⟨b1, off1, none⟩) k.length cap1) := HS.out.1
      clear mv
      unfold Held8 at hS0
      go_wp2_with fail
      go_region_held3 (fun wq => wq.cell? ⟨w.heap.size, 3, none⟩ = some (.slice (some ⟨b1, off1, none⟩) k.length cap1) ∧ wq.cell? ⟨w.heap.size + 1, 3, none⟩ = some (.slice (some ⟨b2, off2, none⟩) k'.length cap2) ∧ (wq.cell? ⟨b1, off1 + j * 4, none⟩ = some (.string m1) ∧ wq.cell? ⟨b1, off1 + j * 4 + 1, none⟩ = some (.string m2) ∧ wq.cell? ⟨b1, off1 + j * 4 + 2, none⟩ = some (.bool m3) ∧ wq.cell? ⟨b1, off1 + j * 4 + 3, none⟩ = some (.slice p1 p2 p3)) ∧ wq.cell? ⟨b2, off2 + j * 4, none⟩ = some (.string r1) ∧ wq.cell? ⟨b2, off2 + j * 4 + 1, none⟩ = some (.string r2) ∧ wq.cell? ⟨b2, off2 + j * 4 + 2, none⟩ = some (.bool r3) ∧ wq.cell? ⟨b2, off2 + j * 4 + 3, none⟩ = some (.slice q1 q2 q3)) (first | with_reducible exact hS0 | with_reducible exact hS1) ((first | (go_at_call 34; refine Calls.mono HCL.out ?_; rintro e w2 ⟨z1, z2, rfl, hb2, hl2⟩; have hx1 : Below wr.heap.size wr w2 := HDR.out.trans (hb2.mono (Nat.le_refl _)); have HL2 := (show Hid (BLi w2 lj' (.slice (some ⟨z1, 0, none⟩) lj'.length z2)) from hl2); clear hl2; have hS1 := Held8.still HS.out hx1; unfold Held8 at hS1)))
      have HW2 := (show Hid _ from bel_trans HW.out hx1)
      clear hS0 hS1 hb2 hx1 A1
      go_wp2_with fail
      exact ⟨⟨j + 1, lj', ok', z1, z2, rfl, rfl, by go_num, by omega, HNX, HN2, HW2, HL2⟩, by simp [intOf]; omega⟩
    · have HFIN := (show Hid (MtA ⟨n, x, lf, k⟩ ⟨n, x, lf, k'⟩ bl w (.returned (.tuple #[.slice (some ⟨jb, 0, none⟩) lj.length jc, .bool ok])) wr) from (by
        have e : mtK (k.map mtT) k' bl = (lj, ok) := by
          cases ok with
          | false => exact HE.out.2 rfl
          | true =>
            have hje : j = k.length := by
              rcases Nat.lt_or_ge j k.length with h | h
              · exact absurd ⟨h, rfl⟩ hgo
              · omega
            have := HE.out.1 rfl
            rw [hje, List.drop_length] at this
            rw [← this]
            rfl
        exact HR.out (lj, ok) (by rw [if_pos HTR.out, e]) jb jc wr hbw' HL.out))
      clear HE HN HL HI HK HC HA HR HBL hbw'
      cases ok with
      | false =>
        rcases Nat.lt_or_ge j k.length with h | h
        · have q1 : (j : Int) < (k.length : Int) := by omega
          go_wp2_with fail
          go_ret2
          exact HFIN.out
        · have q1 : ¬ ((j : Int) < (k.length : Int)) := by omega
          go_wp2_with fail
          go_ret2
          exact HFIN.out
      | true =>
        have q1 : ¬ ((j : Int) < (k.length : Int)) := by
          intro h
          exact hgo ⟨by omega, rfl⟩
        clear hgo
        go_wp2_with fail
        go_ret2
        exact HFIN.out
end Go.Proofs.Yteomgkcgjkbppaa

/-! A row of binds that grows, each tree in a range of its own. -/
namespace Go.Proofs.Yteomgkcgjkbppaa
open Go.RowKit Go.Deep Go.Lib
set_option linter.unusedVariables false
set_option maxRecDepth 100000
set_option linter.unusedSimpArgs false

/-- A row of binds that grows by append: the first j of bl stand in it, each tree in a range of its own. -/
def BGr (bl : List (ByteArray × Tr)) (B j : Nat) (v : Value) (wr : World) : Prop :=
  ∃ (fs : Nat → Value) (l h : Nat → Nat), wr.ownsRow B 62 5 v j (bcs bl fs j) ∧ (∀ i, i < j → Own wr (l i) (h i) (nb bl i).2 (fs i)) ∧
    (∀ i, i < j → B ≤ l i ∧ h i ≤ wr.heap.size ∧ ∀ g, v.ownBlock = some g → g < l i ∨ h i ≤ g) ∧ ∀ i i', i < i' → i' < j → h i ≤ l i'
theorem BGr.step {bl : List (ByteArray × Tr)} {B j g cap a c : Nat} {v u : Value} {wr w2 w3 : World} {fs : Nat → Value} {l h : Nat → Nat} (hown : wr.ownsRow B 62 5 v j (bcs bl fs j)) (hls : ∀ i, i < j → Own wr (l i) (h i) (nb bl i).2 (fs i))
    (hr : ∀ i, i < j → B ≤ l i ∧ h i ≤ wr.heap.size ∧ ∀ g, v.ownBlock = some g → g < l i ∨ h i ≤ g) (hd : ∀ i i', i < i' → i' < j → h i ≤ l i') (hB : B ≤ wr.heap.size)
    (hb : Below wr.heap.size wr w2) (hu : Own w2 a c (nb bl j).2 u) (ha : wr.heap.size ≤ a) (hc : c ≤ w2.heap.size)
    (hown3 : w3.ownsRow B 62 5 (.slice (some ⟨g, 0, none⟩) (j + 1) cap) (j + 1) (bcs bl fs j ++ [.string (nb bl j).1, .string (nb bl j).2.name, .string (nb bl j).2.text, .bool (nb bl j).2.leaf, u]))
    (hgr : w2.grownBy w3 v.ownBlock) (hat : v.ownBlock = some g ∨ g = w2.heap.size) : BGr bl B (j + 1) (.slice (some ⟨g, 0, none⟩) (j + 1) cap) w3 := by
  have hs := hb.size
  have hs3 := hgr.size
  have hvl := hown.lt
  refine ⟨fun i => if i = j then u else fs i, fun i => if i = j then a else l i, fun i => if i = j then c else h i, ?_, fun i hi => ?_, fun i hi => ?_, fun i i' hii hi' => ?_⟩
  · rw [bcs, bcs_congr (bl := bl) (cl := bl) (sv := fun i => if i = j then u else fs i) (tv := fs) j (fun i hi => ⟨rfl, if_neg (by omega)⟩)]
    simp only [if_true]
    exact hown3
  · by_cases e : i = j
    · subst e
      simp only [if_true]
      exact hu.keep (Nat.le_refl _) (Nat.le_refl _) (fun q h1 h2 h3 => hgr.block q h3 (fun e => by have := hvl q e.symm; omega))
    · simp only [if_neg e]
      have hri := hr i (by omega)
      exact ((hls i (by omega)).still hb).keep (Nat.le_refl _) (Nat.le_refl _) (fun q h1 h2 h3 => hgr.block q h3 (fun e => by have := hri.2.2 q e.symm; omega))
  · refine ⟨?_, ?_, fun q hq => ?_⟩
    · dsimp only
      split
      · omega
      · exact (hr i (by omega)).1
    · dsimp only
      split
      · omega
      · have := (hr i (by omega)).2.1; omega
    · simp [Value.ownBlock] at hq
      subst hq
      dsimp only
      split
      · rcases hat with e | e
        · have := hvl g e; omega
        · omega
      · have hri := hr i (by omega)
        rcases hat with e | e
        · exact hri.2.2 g e
        · omega
  · dsimp only
    by_cases e : i' = j
    · subst e
      rw [if_pos rfl, if_neg (by omega)]
      have := (hr i (by omega)).2.1
      omega
    · rw [if_neg e, if_neg (by omega)]; exact hd i i' hii (by omega)
theorem BGr.nil (bl : List (ByteArray × Tr)) {B : Nat} {v : Value} {w : World} (h : w.ownsRow B 62 5 v 0 []) : BGr bl B 0 v w :=
  ⟨fun _ => .bool false, fun _ => 0, fun _ => 0, h, fun i hi => absurd hi (Nat.not_lt_zero _), fun i hi => absurd hi (Nat.not_lt_zero _), fun i i' _ hi => absurd hi (Nat.not_lt_zero _)⟩
theorem BGr.still {bl : List (ByteArray × Tr)} {B j : Nat} {v : Value} {w w' : World} (h : BGr bl B j v w) (hb : Below w.heap.size w w') : BGr bl B j v w' := by
  obtain ⟨fs, l, hh, h1, h2, h3, h4⟩ := h
  refine ⟨fs, l, hh, own_still h1 hb, fun i hi => (h2 i hi).still hb, fun i hi => ⟨(h3 i hi).1, Nat.le_trans (h3 i hi).2.1 hb.size, (h3 i hi).2.2⟩, h4⟩
theorem BGr.bli {bl : List (ByteArray × Tr)} {B b cap : Nat} {w : World} (h : BGr bl B bl.length (.slice (some ⟨b, 0, none⟩) bl.length cap) w) : BLi w bl (.slice (some ⟨b, 0, none⟩) bl.length cap) := by
  obtain ⟨fs, l, hh, h1, h2, h3, h4⟩ := h
  refine ⟨b, cap, fun i => if i < bl.length then fs i else .slice none 0 0, rfl, ?_, fun i => ?_, fun i hi => ?_⟩
  · rw [bcs_congr (bl := bl) (cl := bl) (sv := fun i => if i < bl.length then fs i else .slice none 0 0) (tv := fs) bl.length (fun i hi => ⟨rfl, if_pos hi⟩)]
    exact ⟨h1.1, by
      rcases h1.2 with e | ⟨g', cap', cur, e1, e2, e3⟩
      · exact .inl e
      · exact .inr ⟨g', cap', cur, e1, Nat.zero_le _, e3⟩⟩
  · dsimp only
    split
    · rename_i hi
      exact (h2 i hi).form
    · exact ⟨_, _, _, rfl⟩
  · dsimp only
    rw [if_pos hi, ← nb_eq hi]
    exact (h2 i hi).lies.mono (fun _ _ => trivial)
theorem mtK_wt : ∀ (k ts : List Tr) (bl : List (ByteArray × Tr)), (∀ i (hi : i < k.length) t bl b, b ∈ (mtT k[i] t bl).1 → b ∈ bl ∨ b.2.wt ≤ t.wt) → ∀ b, b ∈ (mtK (k.map mtT) ts bl).1 → b ∈ bl ∨ b.2.wt ≤ Tr.wtL ts
  | [], ts, bl, _, b, hb => .inl (by simpa [mtK] using hb)
  | _ :: _, [], bl, _, b, hb => .inl (by simpa [mtK] using hb)
  | p :: r, t :: ts, bl, h, b, hb => by
    have h0 := h 0 (by simp) t bl b
    simp only [List.getElem_cons_zero] at h0
    have e : Tr.wtL (t :: ts) = t.wt + Tr.wtL ts := by simp [Tr.wtL]
    rw [List.map_cons, mtK] at hb
    split at hb
    · rcases mtK_wt r ts (mtT p t bl).1 (fun i hi u m => by have := h (i + 1) (by simp; omega) u m; simpa using this) b hb with g | g
      · rcases h0 g with g | g
        · exact .inl g
        · exact .inr (by omega)
      · exact .inr (by omega)
    · rcases h0 hb with g | g
      · exact .inl g
      · exact .inr (by omega)
/-- What is bound is within the tree. -/
theorem mtT_wt (p : Tr) : ∀ t bl b, b ∈ (mtT p t bl).1 → b ∈ bl ∨ b.2.wt ≤ t.wt := by
  refine Tr.ind (P := fun p => ∀ t bl b, b ∈ (mtT p t bl).1 → b ∈ bl ∨ b.2.wt ≤ t.wt) ?_ p
  intro n x lf k ih t bl b hb
  rw [mtT_mk] at hb
  split at hb
  · unfold mtV at hb
    split at hb
    · exact .inl hb
    · rcases List.mem_append.1 hb with g | g
      · exact .inl g
      · simp at g
        subst g
        exact .inr (Nat.le_refl _)
  · split at hb
    · obtain ⟨n', x', l', k'⟩ := t
      rcases mtK_wt k k' bl (fun i hi u m c hc => ih i hi u m c hc) b hb with g | g
      · exact .inl g
      · rw [Tr.wt_mk]; exact .inr (by omega)
    · exact .inl hb
end Go.Proofs.Yteomgkcgjkbppaa
