import Derived.Deep.RegionHeld3
import Derived.Test.YtblfeifedcddnaaPm
import Derived.Test.YtblfeifedcddnaaNr
import Derived.Test.YtblfeifedcddnaaGrow
/-! The specification: l01Same. -/
namespace Go.Proofs.Ytblfeifedcddnaa
open Go.RowKit Go.Deep Go.Lib
set_option linter.unusedVariables false
set_option maxRecDepth 100000
set_option linter.unusedSimpArgs false

/-- The cells of two trees in two rows, and the two boxes' rows. -/
def Held8 (h : Nat) (s1 s2 : Value) (b1 o1 b2 o2 : Nat) (n1 x1 : ByteArray) (l1 : Bool) (v1 : Value) (n2 x2 : ByteArray) (l2 : Bool) (v2 : Value) (wq : World) : Prop :=
  wq.cell? ⟨h, 3, none⟩ = some s1 ∧ wq.cell? ⟨h + 1, 3, none⟩ = some s2 ∧ (wq.cell? ⟨b1, o1, none⟩ = some (.string n1) ∧ wq.cell? ⟨b1, o1 + 1, none⟩ = some (.string x1) ∧ wq.cell? ⟨b1, o1 + 2, none⟩ = some (.bool l1) ∧ wq.cell? ⟨b1, o1 + 3, none⟩ = some v1) ∧ wq.cell? ⟨b2, o2, none⟩ = some (.string n2) ∧ wq.cell? ⟨b2, o2 + 1, none⟩ = some (.string x2) ∧ wq.cell? ⟨b2, o2 + 2, none⟩ = some (.bool l2) ∧ wq.cell? ⟨b2, o2 + 3, none⟩ = some v2
theorem Held8.still {h : Nat} {s1 s2 : Value} {b1 o1 b2 o2 : Nat} {n1 x1 : ByteArray} {l1 : Bool} {v1 : Value} {n2 x2 : ByteArray} {l2 : Bool} {v2 : Value} {w w' : World} (H : Held8 h s1 s2 b1 o1 b2 o2 n1 x1 l1 v1 n2 x2 l2 v2 w) (hb : Below w.heap.size w w') : Held8 h s1 s2 b1 o1 b2 o2 n1 x1 l1 v1 n2 x2 l2 v2 w' := by
  have e : ∀ {b o : Nat} {v : Value}, w.cell? ⟨b, o, none⟩ = some v → w'.cell? ⟨b, o, none⟩ = some v := fun h => (hb.cell (lt_of_cell h)).trans h
  obtain ⟨h0, h1, ⟨h2, h3, h4, h5⟩, h6, h7, h8, h9⟩ := H
  exact ⟨e h0, e h1, ⟨e h2, e h3, e h4, e h5⟩, e h6, e h7, e h8, e h9⟩
set_option maxHeartbeats 1600000 in
theorem same71 {S S' : Nat → Prop} (t : Tr) : ∀ (u : Tr) (v v' : Value) (w : World), Lies w S t v → Lies w S' u v' →
    Calls Try.prog 99 #[t.val v, u.val v'] w fun e w' => e = .returned (.bool (eqT t u)) ∧ Below w.heap.size w w' := by
  refine Tr.ind (P := fun t => ∀ (u : Tr) (v v' : Value) (w : World), Lies w S t v → Lies w S' u v' → Calls Try.prog 99 #[t.val v, u.val v'] w fun e w' => e = .returned (.bool (eqT t u)) ∧ Below w.heap.size w w') ?_ t
  intro n x l k ih u v v' w h1 h2
  obtain ⟨n', x', l', k'⟩ := u
  have HEQ := (show Hid (eqT ⟨n, x, l, k⟩ ⟨n', x', l', k'⟩ = true ↔ (⟨n, x, l, k⟩ : Tr) = ⟨n', x', l', k'⟩) from eqT_iff _ _)
  have HNO := (show Hid (¬ (n = n' ∧ x = x' ∧ l = l' ∧ k = k') → eqT ⟨n, x, l, k⟩ ⟨n', x', l', k'⟩ = false) from fun h => eqT_no (fun e => h (by simpa [Tr.mk.injEq] using e)))
  obtain ⟨a1, cap1, b1, off1, sv1, rfl, _, _, hc1, hm1, ha1, hcell1, hk1⟩ := h1.out
  obtain ⟨a2, cap2, b2, off2, sv2, rfl, _, _, hc2, hm2, ha2, hcell2, hk2⟩ := h2.out
  dsimp only at hc1 ha1 hcell1 hk1 hc2 ha2 hcell2 hk2 ⊢
  have HI := (show Hid _ from ih); clear ih
  have HC := (show Hid _ from (⟨hcell1, hcell2⟩ : _ ∧ _)); clear hcell1 hcell2
  have HK := (show Hid _ from (⟨hk1, hk2⟩ : _ ∧ _)); clear hk1 hk2
  have HA := (show Hid _ from (⟨ha1, ha2⟩ : _ ∧ _)); clear ha1 ha2
  unfold maxLen at hm1 hm2
  simp only [Tr.val]
  clear h1 h2
  generalize eqT ⟨n, x, l, k⟩ ⟨n', x', l', k'⟩ = R at *
  have hb2 : Below w.heap.size w ((w.alloc (.cells #[.string n, .string x, .bool l, .slice a1 k.length cap1] 51)).alloc (.cells #[.string n', .string x', .bool l', .slice a2 k'.length cap2] 51)) := (bel_alloc _ _).alloc (by simp) _
  have HB2 := (show Hid _ from hb2); clear hb2
  by_cases e1 : n = n'
  case neg =>
    have hd := ne_bytes e1
    have hd' : (n.toList != n'.toList) = true := by rw [bne, hd]; rfl
    have HF := (show Hid (R = false) from HNO.out (fun h => e1 h.1))
    clear e1 HNO HEQ
    go_enter Try.func99, Try.ntmps99
    go_wp2_with fail
    go_ret
    exact ⟨by rw [HF.out]; rfl, HB2.out⟩
  subst e1
  by_cases e2 : x = x'
  case neg =>
    have hd := ne_bytes e2
    have hd' : (x.toList != x'.toList) = true := by rw [bne, hd]; rfl
    have HF := (show Hid (R = false) from HNO.out (fun h => e2 h.2.1))
    clear e2 HNO HEQ
    go_enter Try.func99, Try.ntmps99
    go_wp2_with fail
    go_ret
    exact ⟨by rw [HF.out]; rfl, HB2.out⟩
  subst e2
  by_cases e3 : l = l'
  case neg =>
    have hd : (l == l') = false := by simpa using e3
    have hd' : (l != l') = true := by rw [bne, hd]; rfl
    have HF := (show Hid (R = false) from HNO.out (fun h => e3 h.2.2.1))
    clear e3 HNO HEQ
    go_enter Try.func99, Try.ntmps99
    go_wp2_with fail
    go_ret
    exact ⟨by rw [HF.out]; rfl, HB2.out⟩
  subst e3
  by_cases e4 : k.length = k'.length
  case neg =>
    have hd' : ((k.length : Int) != (k'.length : Int)) = true := by simp; omega
    have HF := (show Hid (R = false) from HNO.out (fun h => e4 (by rw [h.2.2.2])))
    clear e4 HNO HEQ
    go_enter Try.func99, Try.ntmps99
    go_wp2_with fail
    go_ret
    exact ⟨by rw [HF.out]; rfl, HB2.out⟩
  have hd' : ((k.length : Int) != (k'.length : Int)) = false := by simp; omega
  have hle : k.length ≤ k'.length := by omega
  have hge : k'.length ≤ k.length := by omega
  clear e4
  go_enter Try.func99, Try.ntmps99
  go_wp2_with fail
  go_loopw [5] (fun i wr => ∃ (j : Nat), j ≤ k.length ∧ i = .int .i64 j ∧ Hid (∀ i (hi : i < k.length) (hi' : i < k'.length), i < j → k[i] = k'[i]) ∧ Hid (Below ((w.alloc (.cells #[.string n, .string x, .bool l, .slice a1 k.length cap1] 51)).alloc (.cells #[.string n, .string x, .bool l, .slice a2 k'.length cap2] 51)).heap.size ((w.alloc (.cells #[.string n, .string x, .bool l, .slice a1 k.length cap1] 51)).alloc (.cells #[.string n, .string x, .bool l, .slice a2 k'.length cap2] 51)) wr)) (fun i _ => k.length - (intOf i).toNat)
  case atStart => exact ⟨0, Nat.zero_le _, rfl, fun i _ _ h => absurd h (Nat.not_lt_zero _), Below.refl _ _⟩
  case round =>
    obtain ⟨j, hj, rfl, HJ, HW⟩ := hrel
    have hbw' : Below w.heap.size w wr := bel_trans HB2.out HW.out
    obtain ⟨hcc, hff⟩ := bcell HW.out
    have A1 : wr.cell? ⟨w.heap.size, 3, none⟩ = some (.slice a1 k.length cap1) := by rw [hcc _ _ (by simp; omega)]; simp [go_sem]
    have A2 : wr.cell? ⟨w.heap.size + 1, 3, none⟩ = some (.slice a2 k'.length cap2) := by rw [hcc _ _ (by simp)]; simp [go_sem]
    clear hcc hff
    by_cases hlt : j < k.length
    · have hlt' : j < k'.length := by omega
      obtain ⟨rfl, _⟩ := HA.out.1 (by omega)
      obtain ⟨rfl, _⟩ := HA.out.2 (by omega)
      obtain ⟨c0, c1, c2, c3⟩ := HC.out.1 j hlt
      obtain ⟨d0, d1, d2, d3⟩ := HC.out.2 j hlt'
      obtain ⟨p1, p2, p3, hp⟩ := (HK.out.1 j hlt).form
      obtain ⟨q1, q2, q3, hq⟩ := (HK.out.2 j hlt').form
      have mv : ∀ {b o : Nat} {v : Value}, w.cell? ⟨b, o, none⟩ = some v → wr.cell? ⟨b, o, none⟩ = some v := fun h => (hbw'.cell (lt_of_cell h)).trans h
      rw [hp] at c3
      rw [hq] at d3
      have hS : Held8 w.heap.size (.slice (some ⟨b1, off1, none⟩) k.length cap1) (.slice (some ⟨b2, off2, none⟩) k'.length cap2) b1 (off1 + j * 4) b2 (off2 + j * 4) k[j].name k[j].text k[j].leaf (.slice p1 p2 p3) k'[j].name k'[j].text k'[j].leaf (.slice q1 q2 q3) wr := ⟨A1, A2, ⟨mv c0, mv c1, mv c2, mv c3⟩, mv d0, mv d1, mv d2, mv d3⟩
      have hdr := (Below.refl wr.heap.size wr).drew
      have hS0 := hS.still hdr
      have hcl := HI.out j hlt k'[j] (sv1 j) (sv2 j) wr.drew ((HK.out.1 j hlt).still (hbw'.drew)) ((HK.out.2 j hlt').still (hbw'.drew))
      rw [hp, hq] at hcl
      simp only [Tr.val] at hcl
      have HCL := (show Hid _ from hcl); clear hcl c0 c1 c2 c3 d0 d1 d2 d3 hp hq
      have HS := (show Hid _ from hS); clear hS
      have HDR := (show Hid _ from hdr); clear hdr
      have HNX := (show Hid (eqT k[j] k'[j] = true → ∀ i (hi : i < k.length) (hi' : i < k'.length), i < j + 1 → k[i] = k'[i]) from fun h i hi hi' hij => by
        by_cases e : i = j
        · subst e; exact (eqT_iff _ _).1 h
        · exact HJ.out i hi hi' (by omega))
      have HFX := (show Hid (eqT k[j] k'[j] = false → R = false) from fun h => HNO.out (fun e => by
        obtain ⟨_, _, _, e⟩ := e
        subst e
        have := (eqT_iff k[j] k[j]).2 rfl
        rw [h] at this
        cases this))
      generalize eqT k[j] k'[j] = D at *
      generalize k[j].name = m1 at *
      generalize k[j].text = m2 at *
      generalize k[j].leaf = m3 at *
      generalize k'[j].name = r1 at *
      generalize k'[j].text = r2 at *
      generalize k'[j].leaf = r3 at *
      have hjl : (j : Int) < k.length := by omega
      have hjl' : (j : Int) < k'.length := by omega
      clear mv HJ
      unfold Held8 at hS0
      cases D with
      | true =>
        have HN := (show Hid _ from HNX.out rfl)
        clear HNX HFX
        go_wp2_with fail
        go_region_held3 (fun wq => wq.cell? ⟨w.heap.size, 3, none⟩ = some (.slice (some ⟨b1, off1, none⟩) k.length cap1) ∧ wq.cell? ⟨w.heap.size + 1, 3, none⟩ = some (.slice (some ⟨b2, off2, none⟩) k'.length cap2) ∧ (wq.cell? ⟨b1, off1 + j * 4, none⟩ = some (.string m1) ∧ wq.cell? ⟨b1, off1 + j * 4 + 1, none⟩ = some (.string m2) ∧ wq.cell? ⟨b1, off1 + j * 4 + 2, none⟩ = some (.bool m3) ∧ wq.cell? ⟨b1, off1 + j * 4 + 3, none⟩ = some (.slice p1 p2 p3)) ∧ wq.cell? ⟨b2, off2 + j * 4, none⟩ = some (.string r1) ∧ wq.cell? ⟨b2, off2 + j * 4 + 1, none⟩ = some (.string r2) ∧ wq.cell? ⟨b2, off2 + j * 4 + 2, none⟩ = some (.bool r3) ∧ wq.cell? ⟨b2, off2 + j * 4 + 3, none⟩ = some (.slice q1 q2 q3)) (first | with_reducible exact hS0 | with_reducible exact hS1) ((first | (go_at_call 99; refine Calls.mono HCL.out ?_; rintro e w1 ⟨rfl, hb1⟩; have hx1 : Below wr.heap.size wr w1 := HDR.out.trans (hb1.mono (Nat.le_refl _)); have hS1 := Held8.still HS.out hx1; unfold Held8 at hS1)))
        have HW2 := (show Hid _ from bel_trans HW.out hx1)
        clear hS0 hS1 hb1 hx1 A1 A2
        go_wp2_with fail
        exact ⟨⟨j + 1, by omega, by go_num, HN, HW2⟩, by simp [intOf]; omega⟩
      | false =>
        have HF := (show Hid _ from HFX.out rfl)
        clear HNX HFX
        go_wp2_with fail
        go_region_held3 (fun wq => wq.cell? ⟨w.heap.size, 3, none⟩ = some (.slice (some ⟨b1, off1, none⟩) k.length cap1) ∧ wq.cell? ⟨w.heap.size + 1, 3, none⟩ = some (.slice (some ⟨b2, off2, none⟩) k'.length cap2) ∧ (wq.cell? ⟨b1, off1 + j * 4, none⟩ = some (.string m1) ∧ wq.cell? ⟨b1, off1 + j * 4 + 1, none⟩ = some (.string m2) ∧ wq.cell? ⟨b1, off1 + j * 4 + 2, none⟩ = some (.bool m3) ∧ wq.cell? ⟨b1, off1 + j * 4 + 3, none⟩ = some (.slice p1 p2 p3)) ∧ wq.cell? ⟨b2, off2 + j * 4, none⟩ = some (.string r1) ∧ wq.cell? ⟨b2, off2 + j * 4 + 1, none⟩ = some (.string r2) ∧ wq.cell? ⟨b2, off2 + j * 4 + 2, none⟩ = some (.bool r3) ∧ wq.cell? ⟨b2, off2 + j * 4 + 3, none⟩ = some (.slice q1 q2 q3)) (first | with_reducible exact hS0 | with_reducible exact hS1) ((first | (go_at_call 99; refine Calls.mono HCL.out ?_; rintro e w1 ⟨rfl, hb1⟩; have hx1 : Below wr.heap.size wr w1 := HDR.out.trans (hb1.mono (Nat.le_refl _)); have hS1 := Held8.still HS.out hx1; unfold Held8 at hS1)))
        have HW2 := (show Hid _ from bel_trans HB2.out (bel_trans HW.out hx1))
        clear hS0 hS1 hb1 hx1 A1 A2
        go_wp2_with fail
        go_ret
        exact ⟨by rw [HF.out]; rfl, HW2.out⟩
    · have HT := (show Hid (R = true) from HEQ.out.2 (by
        have : k = k' := List.ext_getElem (by omega) (fun i h1 h2 => HJ.out i h1 h2 (by omega))
        rw [this]))
      have HE := (show Hid (Below w.heap.size w wr) from hbw')
      have hge2 : (k.length : Int) ≤ j := by omega
      clear HJ HW HEQ HNO
      go_wp2_with fail
      go_ret
      exact ⟨by rw [HT.out]; rfl, HE.out⟩
end Go.Proofs.Ytblfeifedcddnaa
