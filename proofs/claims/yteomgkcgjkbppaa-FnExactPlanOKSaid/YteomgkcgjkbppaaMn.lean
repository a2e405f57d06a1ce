import Derived.Test.YteomgkcgjkbppaaPn
import Derived.Test.YteomgkcgjkbppaaOutw
import Derived.Maps.OwnSet
import Derived.DeepKeys4
import Derived.BigQuiet
/-! The program: sameTree. -/
namespace Go.Proofs.Yteomgkcgjkbppaa
open Go.RowKit Go.Deep Go.Lib
set_option linter.unusedVariables false
set_option maxRecDepth 100000
set_option linter.unusedSimpArgs false

/-- Two rows of trees, by slices.EqualFunc with sameTree. -/
theorem equalF98 {S S' : Nat → Prop} (k k' : List Tr) (a1 a2 : Option Addr) (cap1 cap2 b1 off1 b2 off2 : Nat) (sv1 sv2 : Nat → Value) (w : World)
    (hm1 : k.length ≤ 9223372036854775807) (hm2 : k'.length ≤ 9223372036854775807) (ha1 : 0 < k.length → a1 = some ⟨b1, off1, none⟩) (ha2 : 0 < k'.length → a2 = some ⟨b2, off2, none⟩)
    (hc1 : ∀ i (hi : i < k.length), w.cell? ⟨b1, off1 + i * 4, none⟩ = some (.string k[i].name) ∧ w.cell? ⟨b1, off1 + i * 4 + 1, none⟩ = some (.string k[i].text) ∧ w.cell? ⟨b1, off1 + i * 4 + 2, none⟩ = some (.bool k[i].leaf) ∧ w.cell? ⟨b1, off1 + i * 4 + 3, none⟩ = some (sv1 i))
    (hc2 : ∀ i (hi : i < k'.length), w.cell? ⟨b2, off2 + i * 4, none⟩ = some (.string k'[i].name) ∧ w.cell? ⟨b2, off2 + i * 4 + 1, none⟩ = some (.string k'[i].text) ∧ w.cell? ⟨b2, off2 + i * 4 + 2, none⟩ = some (.bool k'[i].leaf) ∧ w.cell? ⟨b2, off2 + i * 4 + 3, none⟩ = some (sv2 i))
    (hk1 : ∀ i (hi : i < k.length), Lies w S k[i] (sv1 i)) (hk2 : ∀ i (hi : i < k'.length), Lies w S' k'[i] (sv2 i))
    (ih : ∀ i (hi : i < k.length) (u : Tr) (v v' : Value) (w : World), Lies w S k[i] v → Lies w S' u v' → Calls Try.prog 109 #[k[i].val v, u.val v'] w fun e w' => e = .returned (.bool (eqT k[i] u)) ∧ Below w.heap.size w w') (B : Bool) (hT : B = true ↔ k = k') :
    Calls Try.prog 98 #[.slice a1 k.length cap1, .slice a2 k'.length cap2, .func (.func 109) #[] #[]] w fun e w' => e = .returned (.bool B) ∧ Below w.heap.size w w' := by
  have HT := (show Hid _ from hT); clear hT
  have HI := (show Hid _ from ih); clear ih
  by_cases hlen : k.length = k'.length
  · have i0 : ((k.length : Int) != (k'.length : Int)) = false := by simp; omega
    have HD := (show Hid _ from (⟨ha1, hc1, hk1⟩ : _ ∧ _ ∧ _)); clear ha1 hc1 hk1
    have HD' := (show Hid _ from (⟨ha2, hc2, hk2⟩ : _ ∧ _ ∧ _)); clear ha2 hc2 hk2
    have HL := (show Hid _ from hlen)
    clear hlen
    go_enter Try.func98, Try.ntmps98
    go_wp2_with fail
    go_loopw [17] (fun i wr => ∃ j : Nat, i = .int .i64 j ∧ j ≤ k.length ∧ Hid (Below w.heap.size w wr ∧ ∀ i (h1 : i < k.length) (h2 : i < k'.length), i < j → k[i] = k'[i])) (fun i _ => k.length - (intOf i).toNat)
    case atStart => exact ⟨0, rfl, Nat.zero_le _, Below.refl _ _, fun i _ _ h => absurd h (Nat.not_lt_zero _)⟩
    case round =>
      obtain ⟨j, rfl, hj, HJ⟩ := hrel
      by_cases hlt : j < k.length
      · have hlt' : j < k'.length := by rw [← HL.out]; exact hlt
        obtain rfl := HD.out.1 (by omega)
        obtain rfl := HD'.out.1 (by omega)
        obtain ⟨d0, d1, d2, d3⟩ := HD.out.2.1 j hlt
        obtain ⟨f0, f1, f2, f3⟩ := HD'.out.2.1 j hlt'
        rw [← HJ.out.1.cell (lt_of_cell d0)] at d0
        rw [← HJ.out.1.cell (lt_of_cell d1)] at d1
        rw [← HJ.out.1.cell (lt_of_cell d2)] at d2
        rw [← HJ.out.1.cell (lt_of_cell d3)] at d3
        rw [← HJ.out.1.cell (lt_of_cell f0)] at f0
        rw [← HJ.out.1.cell (lt_of_cell f1)] at f1
        rw [← HJ.out.1.cell (lt_of_cell f2)] at f2
        rw [← HJ.out.1.cell (lt_of_cell f3)] at f3
        have hI4 := (HD.out.2.2 j hlt).still HJ.out.1
        have hI5 := (HD'.out.2.2 j hlt').still HJ.out.1
        obtain ⟨a4, l4, p4, e4⟩ := hI4.form
        obtain ⟨a5, l5, p5, e5⟩ := hI5.form
        rw [e4] at d3 hI4
        rw [e5] at f3 hI5
        have HCL := (show Hid (∀ wq, Below wr.heap.size wr wq → Calls Try.prog 109 #[.agg #[.string k[j].name, .string k[j].text, .bool k[j].leaf, .slice a4 l4 p4], .agg #[.string k'[j].name, .string k'[j].text, .bool k'[j].leaf, .slice a5 l5 p5]] wq fun e w' => e = .returned (.bool (eqT k[j] k'[j])) ∧ Below wq.heap.size wq w') from fun wq hb => HI.out j hlt k'[j] _ _ wq (hI4.still hb) (hI5.still hb))
        have HE1 : Hid (eqT k[j] k'[j] = true → ∀ i (h1 : i < k.length) (h2 : i < k'.length), i < j + 1 → k[i] = k'[i]) := fun h i h1 h2 h3 => by
          by_cases e : i = j
          · subst e; exact (eqT_iff _ _).1 h
          · exact HJ.out.2 i h1 h2 (by omega)
        have HE2 : Hid (eqT k[j] k'[j] = false → B = false) := fun h => by
          cases hB : B with
          | false => rfl
          | true =>
            have e := HT.out.1 hB
            subst e
            have : eqT k[j] k[j] = true := (eqT_iff _ _).2 rfl
            rw [h] at this
            exact absurd this Bool.false_ne_true
        have hg : (((wr.alloc (.cells #[.string k[j].name, .string k[j].text, .bool k[j].leaf, .slice a4 l4 p4] 31)).cell? ⟨b2, off2 + j * 4, none⟩ = some (.string k'[j].name)) ∧ ((wr.alloc (.cells #[.string k[j].name, .string k[j].text, .bool k[j].leaf, .slice a4 l4 p4] 31)).cell? ⟨b2, off2 + j * 4 + 1, none⟩ = some (.string k'[j].text)) ∧ ((wr.alloc (.cells #[.string k[j].name, .string k[j].text, .bool k[j].leaf, .slice a4 l4 p4] 31)).cell? ⟨b2, off2 + j * 4 + 2, none⟩ = some (.bool k'[j].leaf)) ∧ (wr.alloc (.cells #[.string k[j].name, .string k[j].text, .bool k[j].leaf, .slice a4 l4 p4] 31)).cell? ⟨b2, off2 + j * 4 + 3, none⟩ = some (.slice a5 l5 p5)) := by
          have hba := bel_alloc wr (.cells #[.string k[j].name, .string k[j].text, .bool k[j].leaf, .slice a4 l4 p4] 31)
          exact ⟨(hba.cell (lt_of_cell f0)).trans f0, (hba.cell (lt_of_cell f1)).trans f1, (hba.cell (lt_of_cell f2)).trans f2, (hba.cell (lt_of_cell f3)).trans f3⟩
        obtain ⟨g0, g1, g2, g3⟩ := hg
        have q1 : (0 : Int) ≤ (j : Int) := by omega
        have q2 : (j : Int) < (k.length : Int) := by omega
        have q3 : (j : Int) < (k'.length : Int) := by omega
        have HJb := (show Hid _ from HJ.out.1)
        clear hI4 hI5 f0 f1 f2 f3 HJ e4 e5
        generalize eqT k[j] k'[j] = bq at *
        generalize k[j].name = y0 at *
        generalize k[j].text = y1 at *
        generalize k[j].leaf = y2 at *
        generalize k'[j].name = z0 at *
        generalize k'[j].text = z1 at *
        generalize k'[j].leaf = z2 at *
        go_wp2_with fail
        refine Calls.mono (HCL.out _ ((bel_alloc _ _).alloc (by simp) _)) ?_
        rintro e w1 ⟨rfl, hb1⟩
        have HB1 := (show Hid _ from bel_trans (bel_trans HJb.out ((bel_alloc wr (.cells #[.string y0, .string y1, .bool y2, .slice a4 l4 p4] 31)).alloc (by simp) (.cells #[.string z0, .string z1, .bool z2, .slice a5 l5 p5] 31))) hb1)
        clear hb1 g0 g1 g2 g3 d0 d1 d2 d3 HCL
        cases bq with
        | false =>
          have HF := (show Hid _ from HE2.out rfl)
          go_wp2_with fail
          go_ret
          exact ⟨by rw [HF.out]; rfl, HB1.out⟩
        | true =>
          go_wp2_with fail
          exact ⟨⟨j + 1, by go_num, by omega, HB1.out, (by first | exact HE1.out rfl | exact HE1.out trivial)⟩, by simp [intOf]; omega⟩
      · have HN := (show Hid (B = true) from HT.out.2 (List.ext_getElem HL.out (fun i h1 h2 => HJ.out.2 i h1 h2 (by omega))))
        have HB1 := (show Hid _ from HJ.out.1)
        go_wp2_with fail
        go_ret
        exact ⟨by rw [HN.out]; rfl, HB1.out⟩
  · have i0 : ((k.length : Int) != (k'.length : Int)) = true := by simp; omega
    have HN := (show Hid (B = false) from by
      show B = false
      cases hB : B with
      | false => rfl
      | true => have e := HT.out.1 hB; subst e; exact absurd rfl hlen)
    clear hc1 hc2 ha1 ha2 hlen hk1 hk2
    go_enter Try.func98, Try.ntmps98
    go_wp2_with fail
    go_ret
    exact ⟨by rw [HN.out]; rfl, Below.refl _ _⟩
set_option maxHeartbeats 1600000 in
theorem same109 {S S' : Nat → Prop} (t : Tr) : ∀ (u : Tr) (v v' : Value) (w : World), Lies w S t v → Lies w S' u v' →
    Calls Try.prog 109 #[t.val v, u.val v'] w fun e w' => e = .returned (.bool (eqT t u)) ∧ Below w.heap.size w w' := by
  refine Tr.ind (P := fun t => ∀ (u : Tr) (v v' : Value) (w : World), Lies w S t v → Lies w S' u v' → Calls Try.prog 109 #[t.val v, u.val v'] w fun e w' => e = .returned (.bool (eqT t u)) ∧ Below w.heap.size w w') ?_ t
  intro n x l k ih u v v' w h1 h2
  obtain ⟨n', x', l', k'⟩ := u
  have HEQ := (show Hid (eqT ⟨n, x, l, k⟩ ⟨n', x', l', k'⟩ = true ↔ (⟨n, x, l, k⟩ : Tr) = ⟨n', x', l', k'⟩) from eqT_iff _ _)
  have HNO := (show Hid (¬ (n = n' ∧ x = x' ∧ l = l' ∧ k = k') → eqT ⟨n, x, l, k⟩ ⟨n', x', l', k'⟩ = false) from fun h => eqT_no (fun e => h (by simpa [Tr.mk.injEq] using e)))
  obtain ⟨a1, cap1, b1, off1, sv1, rfl, _, _, hc1, hm1, ha1, hcell1, hk1⟩ := h1.out
  obtain ⟨a2, cap2, b2, off2, sv2, rfl, _, _, hc2, hm2, ha2, hcell2, hk2⟩ := h2.out
  dsimp only at hc1 ha1 hcell1 hk1 hc2 ha2 hcell2 hk2 ⊢
  unfold maxLen at hm1 hm2
  simp only [Tr.val]
  have hb2 : Below w.heap.size w ((w.alloc (.cells #[.string n, .string x, .bool l, .slice a1 k.length cap1] 31)).alloc (.cells #[.string n', .string x', .bool l', .slice a2 k'.length cap2] 31)) := (bel_alloc _ _).alloc (by simp) _
  have HB2 := (show Hid _ from hb2)
  have HC := (show Hid (∀ B : Bool, (B = true ↔ k = k') → ∀ wq : World, Below w.heap.size w wq → Calls Try.prog 98 #[.slice a1 k.length cap1, .slice a2 k'.length cap2, .func (.func 109) #[] #[]] wq fun e w' => e = .returned (.bool B) ∧ Below wq.heap.size wq w') from fun B hB wq hb => by
    have mv : ∀ {b o : Nat} {v : Value}, w.cell? ⟨b, o, none⟩ = some v → wq.cell? ⟨b, o, none⟩ = some v := fun h => (hb.cell (lt_of_cell h)).trans h
    refine equalF98 k k' a1 a2 cap1 cap2 b1 off1 b2 off2 sv1 sv2 wq (by omega) (by omega) (fun h => (ha1 h).1) (fun h => (ha2 h).1) (fun i hi => ?_) (fun i hi => ?_) (fun i hi => (hk1 i hi).still hb) (fun i hi => (hk2 i hi).still hb) ih B hB
    · obtain ⟨c0, c1, c2, c3⟩ := hcell1 i hi
      exact ⟨mv c0, mv c1, mv c2, mv c3⟩
    · obtain ⟨c0, c1, c2, c3⟩ := hcell2 i hi
      exact ⟨mv c0, mv c1, mv c2, mv c3⟩)
  clear h1 h2 hb2 ih hcell1 hcell2 hk1 hk2 ha1 ha2
  generalize eqT ⟨n, x, l, k⟩ ⟨n', x', l', k'⟩ = R at *
  by_cases e1 : n = n'
  case neg =>
    have hd := ne_bytes e1
    have HF := (show Hid (R = false) from HNO.out (fun h => e1 h.1))
    clear e1 HNO HEQ HC
    go_enter Try.func109, Try.ntmps109
    go_wp2_with fail
    go_ret
    exact ⟨by rw [HF.out]; rfl, HB2.out⟩
  subst e1
  by_cases e2 : x = x'
  case neg =>
    have hd := ne_bytes e2
    have HF := (show Hid (R = false) from HNO.out (fun h => e2 h.2.1))
    clear e2 HNO HEQ HC
    go_enter Try.func109, Try.ntmps109
    go_wp2_with fail
    go_ret
    exact ⟨by rw [HF.out]; rfl, HB2.out⟩
  subst e2
  by_cases e3 : l = l'
  case neg =>
    have hd : (l == l') = false := by simpa using e3
    have HF := (show Hid (R = false) from HNO.out (fun h => e3 h.2.2.1))
    clear e3 HNO HEQ HC
    go_enter Try.func109, Try.ntmps109
    go_wp2_with fail
    go_ret
    exact ⟨by rw [HF.out]; rfl, HB2.out⟩
  subst e3
  have HCC := (show Hid _ from HC.out R (HEQ.out.trans (by simp)) _ HB2.out)
  clear HC HEQ HNO
  go_enter Try.func109, Try.ntmps109
  go_wp2_with fail
  refine Calls.mono HCC.out ?_
  rintro e w1 ⟨rfl, hb1⟩
  have HE := (show Hid _ from bel_trans HB2.out hb1)
  clear hb1 HCC
  go_wp2_with fail
  go_ret
  exact ⟨rfl, HE.out⟩
end Go.Proofs.Yteomgkcgjkbppaa

/-! The program: copied. -/
namespace Go.Proofs.Yteomgkcgjkbppaa
open Go.RowKit Go.Deep Go.Lib
set_option linter.unusedVariables false
set_option maxRecDepth 100000
set_option linter.unusedSimpArgs false

theorem copied40 {S : Nat → Prop} (t : Tr) (v : Value) (w : World) (h : Lies w S t v) (hwt : t.wt ≤ 1048576) (hr : t.right = true) :
    Calls Try.prog 40 #[t.val v] w fun e w' => ∃ v', e = .returned (t.val v') ∧ Below w.heap.size w w' ∧ Own w' w.heap.size w'.heap.size t v' := by
  obtain ⟨a1, m1, c1, rfl⟩ := h.form
  have hb2 : Below w.heap.size w ((w.alloc (.cells #[.string t.name, .string t.text, .bool t.leaf, .slice a1 m1 c1] 31)).alloc (.cells #[.string ByteArray.empty, .string ByteArray.empty, .bool false, .slice none 0 0] 31)) := (bel_alloc _ _).alloc (by simp) _
  have HI := (show Hid _ from inward_any t (.slice a1 m1 c1) _ (h.still hb2) hwt)
  have HO := (show Hid (∀ (u : Value) (w1 : World), Form w1 (fun b => ((w.alloc (.cells #[.string t.name, .string t.text, .bool t.leaf, .slice a1 m1 c1] 31)).alloc (.cells #[.string ByteArray.empty, .string ByteArray.empty, .bool false, .slice none 0 0] 31)).heap.size ≤ b) t u → Calls Try.prog 76 #[u] w1 fun e w' => ∃ v', e = .returned (t.val v') ∧ Below w1.heap.size w1 w' ∧ Own w' w1.heap.size w'.heap.size t v') from fun u w1 hf => outw_any t u w1 hf hwt hr)
  have HB2 := (show Hid _ from hb2)
  have HZ := (show Hid (Box ((w.alloc (.cells #[.string t.name, .string t.text, .bool t.leaf, .slice a1 m1 c1] 31)).alloc (.cells #[.string ByteArray.empty, .string ByteArray.empty, .bool false, .slice none 0 0] 31)) (w.heap.size + 1) 31 [.string ByteArray.empty, .string ByteArray.empty, .bool false, .slice none 0 0]) from (by
    have h := Box.new (w.alloc (.cells #[.string t.name, .string t.text, .bool t.leaf, .slice a1 m1 c1] 31)) 31 [.string ByteArray.empty, .string ByteArray.empty, .bool false, .slice none 0 0]
    rw [show (w.alloc (.cells #[.string t.name, .string t.text, .bool t.leaf, .slice a1 m1 c1] 31)).heap.size = w.heap.size + 1 from by simp] at h
    exact h))
  have hs2 : ((w.alloc (.cells #[.string t.name, .string t.text, .bool t.leaf, .slice a1 m1 c1] 31)).alloc (.cells #[.string ByteArray.empty, .string ByteArray.empty, .bool false, .slice none 0 0] 31)).heap.size = w.heap.size + 2 := by simp
  have HS2 := (show Hid _ from hs2)
  simp only [Tr.val] at HI HO ⊢
  clear h hb2 hs2
  go_enter Try.func40, Try.ntmps40
  go_wp2_with fail
  refine Calls.mono HI.out ?_
  rintro e w1 ⟨u, rfl, hb1, hf⟩
  have HO1 := (show Hid _ from HO.out u w1 hf)
  have HB1 := (show Hid _ from hb1)
  clear hf hb1 HI HO
  go_wp2_with fail
  refine Calls.mono HO1.out ?_
  rintro e w2 ⟨v', rfl, hb3, ho⟩
  obtain ⟨z1, z2, z3, rfl⟩ := ho.form
  have hbw : Below ((w.alloc (.cells #[.string t.name, .string t.text, .bool t.leaf, .slice a1 m1 c1] 31)).alloc (.cells #[.string ByteArray.empty, .string ByteArray.empty, .bool false, .slice none 0 0] 31)).heap.size ((w.alloc (.cells #[.string t.name, .string t.text, .bool t.leaf, .slice a1 m1 c1] 31)).alloc (.cells #[.string ByteArray.empty, .string ByteArray.empty, .bool false, .slice none 0 0] 31)) w2 := bel_trans HB1.out hb3
  have bz := HZ.out.still hbw
  have Z0 : w2.cell? ⟨w.heap.size + 1, 0, none⟩ = some (.string ByteArray.empty) := bz.cell 0 (by simp)
  have Z1 : w2.cell? ⟨w.heap.size + 1, 1, none⟩ = some (.string ByteArray.empty) := bz.cell 1 (by simp)
  have Z2 : w2.cell? ⟨w.heap.size + 1, 2, none⟩ = some (.bool false) := bz.cell 2 (by simp)
  have Z3 : w2.cell? ⟨w.heap.size + 1, 3, none⟩ = some (.slice none 0 0) := bz.cell 3 (by simp)
  have y0 : w2.frozen? ⟨w.heap.size + 1, 0, none⟩ = false := bz.frozen 0
  have y1 : w2.frozen? ⟨w.heap.size + 1, 1, none⟩ = false := bz.frozen 1
  have y2 : w2.frozen? ⟨w.heap.size + 1, 2, none⟩ = false := bz.frozen 2
  have y3 : w2.frozen? ⟨w.heap.size + 1, 3, none⟩ = false := bz.frozen 3
  have hw : Below w.heap.size w w2 := bel_trans HB2.out hbw
  have hsz := HB1.out.size
  have hs2 := HS2.out
  rw [hs2] at hsz
  have HFIN := (show Hid (Below w.heap.size w w2 ∧ Own w2 (w.heap.size + 2) w2.heap.size t (.slice z1 z2 z3)) from ⟨hw, ho.keep (by omega) (Nat.le_refl _) (fun _ _ _ _ => rfl)⟩)
  clear hw ho hbw hb3 bz HB1 HO1 HZ hsz hs2
  go_wp2_with fail
  refine bodyPost_ret (v := .agg #[.string t.name, .string t.text, .bool t.leaf, .slice z1 z2 z3]) (by simp [results, Try.results40, go_sem, Z0, Z1, Z2, Z3]) rfl ⟨_, rfl, ?_, ?_⟩
  · exact (((HFIN.out.1.setCell (by simp) _).setCell (by simp) _).setCell (by simp) _).setCell (by simp) _
  · have hfin := HFIN.out.2
    exact ((((hfin.past (.inl (by omega))).past (.inl (by omega))).past (.inl (by omega))).past (.inl (by omega))).keep (by omega) (by simp) (fun _ _ _ _ => rfl)
end Go.Proofs.Yteomgkcgjkbppaa

/-! Maps that number names as they are first met. -/
namespace Go.Proofs.Yteomgkcgjkbppaa
open Go.RowKit Go.Deep Go.Maps Go.WideMaps Go.ChangeMaps Go.Lib
set_option linter.unusedVariables false
set_option maxRecDepth 100000
set_option linter.unusedSimpArgs false

theorem keyed9 : Keyed Try.prog 9 := string_keyed Try.underlying9
theorem wfN {x : Nat} (h : x ≤ 1000000000) : (Lit.int .i64 (x : Int)).wf = true := by
  have hm : IntKind.i64.min = -9223372036854775808 := by decide
  have hM : IntKind.i64.max = 9223372036854775807 := by decide
  simp [Lit.wf, hm, hM]
  omega
/-- Block b is a map that numbers these keys. -/
structure Mn (w : World) (b : Nat) (K : TypeId) (ks : List Value) : Prop where
  ex : ∃ (D : DataW Unit), w.ownsMap Try.prog K (plainElem Try.prog 3) b ks.length D ∧ Tidy D ∧ size D = ks.length ∧ ks.Nodup ∧ (∀ v l, keyOf Try.prog K v = some l → (has D l = true ↔ v ∈ ks)) ∧ ∀ (i : Nat) v l z, ks[i]? = some v → keyOf Try.prog K v = some l → D.atKey l z = .lit (.int .i64 i)
theorem Mn.new (w : World) (K : TypeId) : Mn (w.alloc (.map #[] 0)) w.heap.size K [] :=
  ⟨.map [], World.ownsMap_made w Try.prog K (plainElem Try.prog 3), tidy_empty, rfl, by simp, fun v l _ => by simp [has], by simp⟩
theorem Mn.keep {w w' : World} {b : Nat} {K : TypeId} {ks : List Value} (h : Mn w b K ks) (hb : w'.heap[b]? = w.heap[b]?) : Mn w' b K ks := by
  obtain ⟨D, h1, h2⟩ := h
  refine ⟨D, ?_, h2⟩
  obtain ⟨es, clock, h3, h4⟩ := h1
  exact ⟨es, clock, hb.trans h3, h4⟩
theorem Mn.lt {w : World} {b : Nat} {K : TypeId} {ks : List Value} (h : Mn w b K ks) : b < w.heap.size := by
  obtain ⟨D, h1, _⟩ := h
  exact h1.lt
/-- One more is known. -/
theorem Mn.put {w1 : World} {b : Nat} {K : TypeId} (T : Keyed Try.prog K) {D : DataW Unit} {ks : List Value} (h2 : Tidy D) (h3 : size D = ks.length) (h4 : ks.Nodup) (h6 : ∀ v l, keyOf Try.prog K v = some l → (has D l = true ↔ v ∈ ks)) (h7 : ∀ (i : Nat) v l z, ks[i]? = some v → keyOf Try.prog K v = some l → D.atKey l z = .lit (.int .i64 i))
    {v : Value} {l : Lit} (hl : keyOf Try.prog K v = some l) (hm : v ∉ ks) (ho : w1.ownsMap Try.prog K (plainElem Try.prog 3) b (ks.length + 1) (D.put l (.lit (.int .i64 (ks.length : Nat))))) : Mn w1 b K (ks ++ [v]) := by
  have hkl := T.key hl
  have hne : ∀ u l', keyOf Try.prog K u = some l' → u ≠ v → l' ≠ l := fun u l' h e e2 => e (T.inj (by rw [e2] at h; exact h) hl)
  have hf : has D l = false := by
    cases e : has D l
    · rfl
    · exact absurd ((h6 v l hl).1 e) hm
  refine ⟨D.put l (.lit (.int .i64 (ks.length : Nat))), by simpa using ho, h2.put hkl _, ?_, ?_, fun u l' hl' => ?_, fun i u l' z hu hl' => ?_⟩
  · rw [size_put h2, hf, h3]; simp
  · rw [List.nodup_append]
    exact ⟨h4, by simp, fun a ha c hc => by simp at hc; subst hc; exact fun e => hm (e ▸ ha)⟩
  · by_cases e : u = v
    · subst e
      obtain rfl : l' = l := by rw [hl] at hl'; injection hl' with h; exact h.symm
      rw [has_put_same h2.isMap hkl]
      simp
    · rw [has_put_other (hne u l' hl' e), h6 u l' hl']
      simp [e]
  · by_cases e : i < ks.length
    · rw [List.getElem?_append_left e] at hu
      have hne' : u ≠ v := fun e => hm (e ▸ List.mem_of_getElem? hu)
      rw [atKey_put_other (hne u l' hl' hne')]
      exact h7 i u l' z hu hl'
    · rw [List.getElem?_append_right (by omega)] at hu
      obtain ⟨e1, e2⟩ : i - ks.length = 0 ∧ v = u := by
        cases hi : i - ks.length with
        | zero => rw [hi] at hu; simpa using hu
        | succ n => rw [hi] at hu; simp at hu
      subst e2
      obtain rfl : l' = l := by rw [hl] at hl'; injection hl' with h; exact h.symm
      rw [atKey_put_same h2.isMap hkl]
      congr 3
      omega
theorem zero3c (w : World) : (zeroValue 3).run Try.prog w = .ok (.int .i64 0) w := by
  exact (Option.map_eq_some_iff.1 (show (Try.prog.info? 3).map (fun i => i.zero) = some (some (.int .i64 0)) by kernel_rfl)).elim fun i hi => by simp [zeroValue, typeInfo, hi.1, hi.2]
theorem plain3 {n : Nat} (h1 : n ≤ 1000000000) : plainElem (H := Unit) Try.prog 3 (.int .i64 (n : Nat)) = some (.lit (.int .i64 (n : Nat)), []) := plainElem_int Try.underlying3 (wfN h1)
/-- All blocks but one are as they were. -/
structure K1 (a : Nat) (w w' : World) : Prop where
  os : w'.os = w.os
  tape : w'.tape = w.tape
  output : w'.output = w.output
  size : w.heap.size ≤ w'.heap.size
  block : ∀ k, k < w.heap.size → k ≠ a → w'.heap[k]? = w.heap[k]?
theorem K1.of_below {a : Nat} {x y : World} (h : Below x.heap.size x y) : K1 a x y := ⟨h.os, h.tape, h.output, h.size, fun k hk _ => h.block k hk⟩
theorem K1.turned {a : Nat} {x y z : World} (hb : Below x.heap.size x y) (h : y.mapTurned z a) : K1 a x z :=
  ⟨h.grown.os.trans hb.os, h.grown.tape.trans hb.tape, h.grown.output.trans hb.output, Nat.le_trans hb.size h.grown.size, fun k hk h1 => (h.grown.block k (Nat.lt_of_lt_of_le hk hb.size) (fun e => h1 (by injection e))).trans (hb.block k hk)⟩
/-- A key gets its number. -/
def NoR (b : Nat) (K : TypeId) (ks : List Value) (v : Value) (w : World) (e : Ending) (w' : World) : Prop :=
  ∃ n : Nat, e = .returned (.int .i64 (n : Nat)) ∧ K1 b w w' ∧ ((ks[n]? = some v ∧ Mn w' b K ks) ∨ (v ∉ ks ∧ n = ks.length ∧ Mn w' b K (ks ++ [v])))
set_option maxHeartbeats 1600000 in
theorem number81 (b : Nat) (ks : List Value) (s : ByteArray) (l : Lit) (w : World) (hl : keyOf Try.prog 9 (.string s) = some l) (hM : Mn w b 9 ks) (hk : ks.length ≤ 1000000) :
    Calls Try.prog 81 #[.map (some b), .string s] w (NoR b 9 ks (.string s) w) := by
  have hm1 := hM
  have HM1 := (show Hid (Mn w b 9 ks) from hm1)
  have hba := Below.refl w.heap.size w
  have HB := (show Hid _ from hba); clear hba
  obtain ⟨D, d1, d2, d3, d4, d6, d7⟩ := hm1
  have HD := (show Hid _ from (⟨d1, d2, d3, d4, d6, d7⟩ : _ ∧ _ ∧ _ ∧ _ ∧ _ ∧ _)); clear d1 d2 d3 d4
  have HL := (show Hid _ from hl)
  clear hM
  by_cases hin : (.string s) ∈ ks
  · obtain ⟨i, hi, hie⟩ := List.mem_iff_getElem.1 hin
    have hig : ks[i]? = some (.string s) := by rw [List.getElem?_eq_getElem hi, hie]
    have hh : has D l = true := (d6 _ _ hl).2 hin
    have ha := d7 i _ l (.lit (.int .i64 0)) hig hl
    have HA := (show Hid _ from ha)
    have HG := (show Hid _ from hig); clear ha d6 d7 hin hie hig
    go_enter Try.func81, Try.ntmps81
    go_wp2_with (at_lookup; refine wpList_lookup_own_ok_int _ rfl _ _ 65 rfl 9 3 .i64 keyed9 Try.underlying65 Try.underlying3 (zero3c _) b _ D rfl HD.out.1 _ _ rfl HL.out ?_; intro c hat hwc)
    go_ret
    have hc : c = ((i : Nat) : Int) := by
      have h1 := HA.out
      have h2 : D.atKey l (DataW.lit (Lit.int IntKind.i64 0)) = DataW.lit (Lit.int IntKind.i64 c) := hat
      rw [h1] at h2
      simpa using h2.symm
    exact ⟨i, by rw [hc]; rfl, K1.of_below HB.out, .inl ⟨HG.out, HM1.out⟩⟩
  · have hh : has D l = false := by
      cases e : has D l
      · rfl
      · exact absurd ((d6 _ _ hl).1 e) hin
    have HIN := (show Hid _ from hin)
    clear d6 d7 hin hl
    have hlen := HD.out.1.len Try.underlying65 3
    rw [HD.out.2.2.1] at hlen
    have hpe := plain3 (n := ks.length) (by omega)
    go_enter Try.func81, Try.ntmps81
    go_wp2_with (first
      | (at_lookup; refine wpList_lookup_own_ok_int _ rfl _ _ 65 rfl 9 3 .i64 keyed9 Try.underlying65 Try.underlying3 (zero3c _) b _ D rfl HD.out.1 _ _ rfl HL.out ?_; intro c hat hwc)
      | (at_mapUpdate; refine wpList_mapUpdate_in _ rfl _ _ _ 65 rfl 9 3 keyed9 Try.underlying65 _ b _ D rfl HD.out.1 ?hn _ _ _ rfl rfl HL.out _ _ hpe ?nx))
    case hn => unfold maxLen; omega
    case nx =>
      intro w3 hown3 hturn3
      have HM3 := (show Hid _ from Mn.put keyed9 HD.out.2.1 HD.out.2.2.1 HD.out.2.2.2.1 HD.out.2.2.2.2.1 HD.out.2.2.2.2.2 HL.out HIN.out hown3)
      have HT3 := (show Hid _ from K1.turned HB.out hturn3); clear hown3 hturn3
      go_wp2_with fail
      go_ret
      exact ⟨ks.length, rfl, HT3.out, .inr ⟨HIN.out, rfl, HM3.out⟩⟩
end Go.Proofs.Yteomgkcgjkbppaa
