import Derived.Test.YtledclkmeikgdaaXTl
import Derived.Test.YtledclkmeikgdaaXRt
import Derived.BigQuiet
/-! The program: hasTermForm, TermOK. -/
namespace Go.Proofs.Ytledclkmeikgdaa.T
open Go.RowKit Go.Deep
set_option linter.unusedVariables false
set_option maxRecDepth 100000
set_option linter.unusedSimpArgs false

set_option maxHeartbeats 1600000 in
theorem all102 {S : Nat → Prop} (k : List Tr) (v : Value) (w : World) (ih : ∀ i (hi : i < k.length) (v : Value) (w : World), Lies w S k[i] v → Calls Try.prog 96 #[k[i].val v] w fun e w' => e = .returned (.bool (tm k[i])) ∧ Below w.heap.size w w') (h : Trs w S k v) :
    Calls Try.prog 115 #[v, .func (.func 96) #[] #[]] w fun e w' => e = .returned (.bool (k.all tm)) ∧ Below w.heap.size w w' := by
  obtain ⟨a, cap, b, off, sv, rfl, hc, hm, ha, hcell, hr⟩ := h
  have HC := (show Hid _ from hcell); clear hcell
  have HA := (show Hid _ from ha); clear ha
  have HR := (show Hid _ from hr); clear hr
  have HI := (show Hid _ from ih); clear ih
  unfold maxLen at hm
  generalize hRes : k.all tm = R
  have HRes := (show Hid _ from hRes); clear hRes
  go_enter Try.func115, Try.ntmps115
  go_wp2_with fail
  go_loopw [9] (fun i wr => ∃ j : Nat, i = .int .i64 j ∧ j ≤ k.length ∧ Hid (∀ i (hi : i < k.length), i < j → tm k[i] = true) ∧ Below w.heap.size w wr) (fun i _ => k.length - (intOf i).toNat)
  case atStart => exact ⟨0, rfl, Nat.zero_le _, fun i hi h0 => absurd h0 (Nat.not_lt_zero _), Below.refl _ _⟩
  case round =>
    obtain ⟨j, rfl, hj, HJ, hbel⟩ := hrel
    by_cases hjl : j < k.length
    · obtain ⟨rfl, _⟩ := HA.out (by omega)
      obtain ⟨c0, c1, c2, c3⟩ := HC.out j hjl
      rw [← hbel.cell (lt_of_cell c0)] at c0
      rw [← hbel.cell (lt_of_cell c1)] at c1
      rw [← hbel.cell (lt_of_cell c2)] at c2
      rw [← hbel.cell (lt_of_cell c3)] at c3
      have hl := HR.out j hjl
      have hcl := fun (w' : World) (hb : Below w.heap.size w w') => HI.out j hjl (sv j) w' (hl.still hb)
      obtain ⟨a3, l3, p3, e3⟩ := hl.form
      simp only [Tr.val] at hcl
      rw [e3] at c3 hcl
      clear e3 hl
      have HCL := (show Hid _ from hcl); clear hcl
      generalize hB : tm k[j] = B at HCL
      have HB := (show Hid _ from hB); clear hB
      have HNX := (show Hid (B = true → ∀ i (hi : i < k.length), i < j + 1 → tm k[i] = true) from fun h i hi hij => by
        by_cases e : i = j
        · subst e; exact HB.out.trans h
        · exact HJ.out i hi (by omega))
      have HFX := (show Hid (B = false → R = false) from fun h => by
        rw [← HRes.out, List.all_eq_false]
        exact ⟨k[j], List.getElem_mem hjl, by rw [HB.out, h]; simp⟩)
      generalize k[j].name = nm at *
      generalize k[j].text = tx at *
      generalize k[j].leaf = lf at *
      cases B
      · have HF := (show Hid (R = false) from HFX.out rfl)
        go_wp2_with fail
        go_at_call 96
        refine Calls.mono (HCL.out _ (hbel.alloc hbel.size _)) ?_
        rintro e w1 ⟨rfl, hb1⟩
        have HE := (show Hid _ from bel_trans (hbel.alloc hbel.size _) hb1); clear hb1 c0 c1 c2 c3 hbel
        go_wp2_with fail
        go_ret
        exact ⟨by rw [HF.out]; rfl, HE.out⟩
      · have HN := (show Hid _ from HNX.out rfl)
        go_wp2_with fail
        go_at_call 96
        refine Calls.mono (HCL.out _ (hbel.alloc hbel.size _)) ?_
        rintro e w1 ⟨rfl, hb1⟩
        have HE := (show Hid _ from bel_trans (hbel.alloc hbel.size _) hb1); clear hb1 c0 c1 c2 c3 hbel
        go_wp2_with fail
        exact ⟨⟨j + 1, by go_num, by omega, HN, HE.out⟩, by simp [intOf]; omega⟩
    · have HF := (show Hid (R = true) from by
        show R = true
        rw [← HRes.out, List.all_eq_true]
        intro x hx
        obtain ⟨i, hi, rfl⟩ := List.mem_iff_getElem.1 hx
        exact HJ.out i hi (by omega))
      go_wp2_with fail
      go_ret
      exact ⟨by rw [HF.out]; rfl, hbel⟩
theorem trs_still {w w' : World} {S : Nat → Prop} {k : List Tr} {a : Option Addr} {cap b off : Nat} {sv : Nat → Value} (hc : k.length ≤ cap) (hm : cap ≤ maxLen) (ha : 0 < k.length → a = some ⟨b, off, none⟩ ∧ S b)
    (hcell : ∀ i (hi : i < k.length), w.cell? ⟨b, off + i * 4, none⟩ = some (.string k[i].name) ∧ w.cell? ⟨b, off + i * 4 + 1, none⟩ = some (.string k[i].text) ∧ w.cell? ⟨b, off + i * 4 + 2, none⟩ = some (.bool k[i].leaf) ∧ w.cell? ⟨b, off + i * 4 + 3, none⟩ = some (sv i))
    (hk : ∀ i (hi : i < k.length), Lies w S k[i] (sv i)) (hb : Below w.heap.size w w') : Trs w' S k (.slice a k.length cap) :=
  Trs.still ⟨a, cap, b, off, sv, rfl, hc, hm, ha, hcell, hk⟩ hb
theorem belDrew {B : Nat} {a w : World} (h : Below B a w) (n : Nat) : Below B a (w.drewN n) := h.trans ⟨rfl, rfl, rfl, Nat.le_refl _, fun _ _ => rfl⟩
/-- What the box of a tree holds. -/
def E2 (p : Nat) (n : ByteArray) (v : Value) (wq : World) : Prop := wq.cell? ⟨p, 0, none⟩ = some (.string n) ∧ wq.cell? ⟨p, 3, none⟩ = some v
set_option maxHeartbeats 6400000 in
theorem form71 {S : Nat → Prop} (t : Tr) : ∀ (v : Value) (w : World), Lies w S t v →
    Calls Try.prog 96 #[t.val v] w fun e w' => e = .returned (.bool (tm t)) ∧ Below w.heap.size w w' := by
  refine Tr.ind (P := fun t => ∀ (v : Value) (w : World), Lies w S t v →
    Calls Try.prog 96 #[t.val v] w fun e w' => e = .returned (.bool (tm t)) ∧ Below w.heap.size w w') ?_ t
  intro n x l k ih v w hlies
  obtain ⟨a, cap, b, off, sv, rfl, hn, hx, hc, hm, ha, hcell, hk⟩ := hlies.out
  dsimp only at hn hx hc ha hcell hk ⊢
  have HAL := (show Hid (∀ w', Below w.heap.size w w' → Calls Try.prog 115 #[.slice a k.length cap, .func (.func 96) #[] #[]] w' fun e w'' => e = .returned (.bool (k.all tm)) ∧ Below w'.heap.size w' w'') from fun w' hb => all102 k _ w' ih (trs_still hc hm ha hcell hk hb))
  have HLF := (show Hid (∀ w', Calls Try.prog 113 #[.agg #[.string n, .string x, .bool l, .slice a k.length cap]] w' fun e w'' => e = .returned (.bool (tmL n x)) ∧ Below w'.heap.size w' w'') from fun w' => leaf100 n x l a k.length cap w' hx)
  have HKD := (show Hid (∀ w', Calls Try.prog 114 #[.string n] w' fun e w'' => e = .returned (.int .i64 (tkI n)) ∧ Below w'.heap.size w' w'') from fun w' => (kids101 n w').mono (fun e w'' h => ⟨h.1, by rw [h.2]; exact Below.refl _ _⟩))
  have HKS := (show Hid (∀ w', Calls Try.prog 114 #[.string n] w' fun e w'' => e = .returned (.int .i64 (tkI n)) ∧ w'' = w') from fun w' => kids101 n w')
  have HDC := (show Hid (∀ w', Calls Try.prog 99 #[.agg #[.string n, .string x, .bool l, .slice a k.length cap]] w' fun e w'' => e = .returned (.bool (dclB n)) ∧ Below w'.heap.size w' w'') from fun w' => dcl103 n x l a k.length cap w')
  have HI0 := (show Hid (∀ hk0 : 0 < k.length, a = some ⟨b, off, none⟩ ∧ ∃ (q1 : Option Addr) (q2 q3 : Nat), (∀ w', Below w.heap.size w w' → w'.cell? ⟨b, off, none⟩ = some (.string k[0].name) ∧ w'.cell? ⟨b, off + 1, none⟩ = some (.string k[0].text) ∧ w'.cell? ⟨b, off + 2, none⟩ = some (.bool k[0].leaf) ∧ w'.cell? ⟨b, off + 3, none⟩ = some (.slice q1 q2 q3)) ∧ ∀ w', Calls Try.prog 97 #[.agg #[.string k[0].name, .string k[0].text, .bool k[0].leaf, .slice q1 q2 q3]] w' fun e w'' => e = .returned (.bool (idT k[0])) ∧ Below w'.heap.size w' w'') from fun hk0 => by
    obtain ⟨q1, q2, q3, e3⟩ := (hk 0 hk0).form
    obtain ⟨c0, c1, c2, c3⟩ := hcell 0 hk0
    rw [e3] at c3
    simp only [Nat.zero_mul, Nat.add_zero] at c0 c1 c2 c3
    refine ⟨(ha hk0).1, q1, q2, q3, fun w' hb => ⟨(hb.cell (lt_of_cell c0)).trans c0, (hb.cell (lt_of_cell c1)).trans c1, (hb.cell (lt_of_cell c2)).trans c2, (hb.cell (lt_of_cell c3)).trans c3⟩, fun w' => id104 k[0] q1 q2 q3 w'⟩)
  have HM0 := (show Hid (∀ hk0 : 0 < k.length, id0 k = idT k[0]) from fun hk0 => by
    cases k with
    | nil => simp at hk0
    | cons t k => rfl)
  have HTM := (show Hid (tm ⟨n, x, l, k⟩ = if l then tmL n x else match kdN n with
    | none => false
    | some (m, d) => decide (k.length = m) && (k.all tm && (!d || id0 k))) from tm_mk n x l k)
  generalize tm ⟨n, x, l, k⟩ = R at *
  unfold maxLen at hm
  simp only [Tr.val]
  clear ih hcell hk hlies ha hn hx
  cases l
  case true =>
    have HE := (show Hid (R = tmL n x) from HTM.out)
    clear HTM HAL HKD HKS HDC HI0 HM0
    go_enter Try.func96, Try.ntmps96
    go_wp2_with fail
    refine Calls.mono (HLF.out _) ?_
    rintro e w1 ⟨rfl, hb1⟩
    have HB := (show Hid _ from hb1); clear hb1
    go_wp2_with fail
    go_ret
    exact ⟨ret_bool HE.out.symm, bel_box HB.out⟩
  case false =>
    have HT2 := (show Hid (R = match kdN n with
      | none => false
      | some (m, d) => decide (k.length = m) && (k.all tm && (!d || id0 k))) from HTM.out)
    clear HTM HLF
    generalize hA : k.all tm = A at *
    clear hA
    have HK := (show Hid (∀ K : Int, tkI n = K → (((k.length : Int) != K) = true → R = false) ∧ (((k.length : Int) != K) = false → 0 < k.length ∧ R = (A && (!dclB n || id0 k)))) from fun K hK => by
      have h2 := HT2.out
      unfold tkI at hK
      cases hkd : kdN n with
      | none =>
        rw [hkd] at h2 hK
        dsimp only at hK h2
        subst hK
        exact ⟨fun _ => h2, fun h => by simp at h⟩
      | some md =>
        obtain ⟨m, d⟩ := md
        rw [hkd] at h2 hK
        dsimp only at hK h2
        subst hK
        obtain ⟨e1, e2, e3⟩ := kd_dcl hkd
        refine ⟨fun h => ?_, fun h => ?_⟩
        · simp at h
          rw [h2, decide_eq_false (by omega)]; rfl
        · simp at h
          exact ⟨by omega, by rw [h2, decide_eq_true (by omega), e1]; rfl⟩)
    clear HT2
    generalize hK : tkI n = K at *
    have HK2 := (show Hid _ from HK.out K rfl)
    clear HK hK
    have HE2 := (show Hid (∀ wq, Below (w.alloc (.cells #[.string n, .string x, .bool false, .slice a k.length cap] 40)).heap.size (w.alloc (.cells #[.string n, .string x, .bool false, .slice a k.length cap] 40)) wq → E2 w.heap.size n (.slice a k.length cap) wq) from fun wq h => by
      have c0 : (w.alloc (.cells #[.string n, .string x, .bool false, .slice a k.length cap] 40)).cell? ⟨w.heap.size, 0, none⟩ = some (.string n) := by simp [go_sem]
      have c3 : (w.alloc (.cells #[.string n, .string x, .bool false, .slice a k.length cap] 40)).cell? ⟨w.heap.size, 3, none⟩ = some (.slice a k.length cap) := by simp [go_sem]
      exact ⟨(h.cell (lt_of_cell c0)).trans c0, (h.cell (lt_of_cell c3)).trans c3⟩)
    have HE4 := (show Hid (∀ wq, Below (w.alloc (.cells #[.string n, .string x, .bool false, .slice a k.length cap] 40)).heap.size (w.alloc (.cells #[.string n, .string x, .bool false, .slice a k.length cap] 40)) wq → wq.cell? ⟨w.heap.size, 0, none⟩ = some (.string n) ∧ wq.cell? ⟨w.heap.size, 1, none⟩ = some (.string x) ∧ wq.cell? ⟨w.heap.size, 2, none⟩ = some (.bool false) ∧ wq.cell? ⟨w.heap.size, 3, none⟩ = some (.slice a k.length cap)) from fun wq h => by
      have c0 : (w.alloc (.cells #[.string n, .string x, .bool false, .slice a k.length cap] 40)).cell? ⟨w.heap.size, 0, none⟩ = some (.string n) := by simp [go_sem]
      have c1 : (w.alloc (.cells #[.string n, .string x, .bool false, .slice a k.length cap] 40)).cell? ⟨w.heap.size, 1, none⟩ = some (.string x) := by simp [go_sem]
      have c2 : (w.alloc (.cells #[.string n, .string x, .bool false, .slice a k.length cap] 40)).cell? ⟨w.heap.size, 2, none⟩ = some (.bool false) := by simp [go_sem]
      have c3 : (w.alloc (.cells #[.string n, .string x, .bool false, .slice a k.length cap] 40)).cell? ⟨w.heap.size, 3, none⟩ = some (.slice a k.length cap) := by simp [go_sem]
      exact ⟨(h.cell (lt_of_cell c0)).trans c0, (h.cell (lt_of_cell c1)).trans c1, (h.cell (lt_of_cell c2)).trans c2, (h.cell (lt_of_cell c3)).trans c3⟩)
    cases hne : ((k.length : Int) != K)
    case true =>
      have HE := (show Hid (R = false) from HK2.out.1 hne)
      clear HK2
      go_enter Try.func96, Try.ntmps96
      go_wp2_with fail
      have hS0 := HE2.out _ (Below.refl _ _)
      unfold E2 at hS0
      obtain ⟨c0, c3⟩ := hS0
      go_quiet ((go_at_call 114; refine Calls.quiet_of_same (HKS.out _)))
      clear HE2 HE4
      go_wp2_with fail
      go_ret
      exact ⟨ret_bool HE.out.symm, belDrew (bel_alloc _ _) _⟩
    case false =>
      obtain ⟨hk0, hR⟩ := HK2.out.2 hne
      have HR := (show Hid _ from hR); clear hR HK2
      go_enter Try.func96, Try.ntmps96
      go_wp2_with fail
      go_cut [19] from 7 to 18 (fun v wx => v = .bool (!A) ∧ Hid (Below (w.alloc (.cells #[.string n, .string x, .bool false, .slice a k.length cap] 40)).heap.size (w.alloc (.cells #[.string n, .string x, .bool false, .slice a k.length cap] 40)) wx))
      case first =>
        have hbd := (Below.refl (w.alloc (.cells #[.string n, .string x, .bool false, .slice a k.length cap] 40)).heap.size (w.alloc (.cells #[.string n, .string x, .bool false, .slice a k.length cap] 40))).drew
        have hS0 := HE2.out _ hbd
        unfold E2 at hS0
        go_region_held3 (fun wq => wq.cell? ⟨w.heap.size, 0, none⟩ = some (.string n) ∧ wq.cell? ⟨w.heap.size, 3, none⟩ = some (.slice a k.length cap)) (first | with_reducible exact hS0 | with_reducible exact hS1 | with_reducible exact hS2) ((first
          | (go_at_call 115; refine Calls.mono (HAL.out _ (bel_trans (bel_alloc _ _) hF1)) ?_; rintro e w4 ⟨rfl, hb4⟩; have hF := bel_trans hF1 hb4; have hS2 := (show E2 _ _ _ _ from HE2.out _ hF); unfold E2 at hS2)
          | (go_at_call 114; refine Calls.mono (HKD.out _) ?_; rintro e w3 ⟨rfl, hb3⟩; have hF1 := bel_trans hbd hb3; have hS1 := (show E2 _ _ _ _ from HE2.out _ hF1); unfold E2 at hS1)))
        all_goals go_wp2_with fail
        all_goals go_meet
        all_goals exact ⟨rfl, hF⟩
      case rest =>
        obtain ⟨rfl, HX⟩ := hcut
        obtain ⟨wz, rfl⟩ : ∃ wz, wz = wc := ⟨_, rfl⟩
        cases A
        case false =>
          have HE := (show Hid (R = false) from HR.out)
          clear HE2 HE4
          go_wp2_with fail
          go_ret
          exact ⟨ret_bool HE.out.symm, bel_box HX.out⟩
        case true =>
          obtain ⟨rfl, q1, q2, q3, hq, hqc⟩ := HI0.out hk0
          have HQ := (show Hid _ from hq); clear hq
          have HQC := (show Hid _ from hqc); clear hqc
          have HR2 := (show Hid (R = (!dclB n || idT k[0])) from by
            show R = _
            rw [HR.out, HM0.out hk0]; rfl)
          clear HR HI0 HM0
          generalize k[0].name = kn at *
          generalize k[0].text = kx at *
          generalize k[0].leaf = kl at *
          generalize idT k[0] = KI at *
          generalize dclB n = DC at *
          obtain ⟨b0, b1, b2, b3⟩ := HE4.out _ HX.out
          clear HE2
          cases DC
          case false =>
            go_wp2_with fail
            refine Calls.mono (HDC.out _) ?_
            rintro e w2 ⟨rfl, hb2⟩
            have HB := (show Hid _ from bel_box (bel_trans HX.out hb2)); clear hb2 b0 b1 b2 b3
            go_wp2_with fail
            go_ret
            exact ⟨ret_bool HR2.out.symm, HB.out⟩
          case true =>
            go_wp2_with fail
            refine Calls.mono (HDC.out _) ?_
            rintro e w2 ⟨rfl, hb2⟩
            have hB2 := bel_trans HX.out hb2
            clear b0 b1 b2 b3
            obtain ⟨b0, b1, b2, b3⟩ := HE4.out _ hB2
            obtain ⟨c0, c1, c2, c3⟩ := HQ.out w2 (bel_box hB2)
            have HB := (show Hid _ from bel_box hB2); clear hb2 hB2
            go_wp2_with fail
            refine Calls.mono (HQC.out _) ?_
            rintro e w3 ⟨rfl, hb3⟩
            have HB3 := (show Hid _ from bel_trans HB.out hb3); clear hb3 b0 b1 b2 b3 c0 c1 c2 c3
            go_wp2_with fail
            go_ret
            exact ⟨ret_bool (by rw [HR2.out]; rfl), HB3.out⟩
set_option maxHeartbeats 800000 in
theorem iTerm28 {S : Nat → Prop} (t : Tr) (v : Value) (w : World) (h : Lies w S t v) :
    Calls Try.prog 51 #[t.val v] w fun e w' => e = .returned (.bool (t.ok && tm t)) ∧ Below w.heap.size w w' := by
  have HOK := (show Hid (∀ w', Below w.heap.size w w' → _) from fun w' hb => iOK_any t v w' (h.still hb))
  have HFM := (show Hid (∀ w', Below w.heap.size w w' → _) from fun w' hb => form71 t v w' (h.still hb))
  obtain ⟨a, c, d, rfl⟩ := h.form
  clear h
  simp only [Tr.val] at HOK HFM ⊢
  generalize t.name = n at *
  generalize t.text = x at *
  generalize t.leaf = l at *
  have hb0 := bel_alloc w (.cells #[.string n, .string x, .bool l, .slice a c d] 40)
  generalize hA : t.ok = A at *
  generalize hB : tm t = B at *
  clear hA hB
  cases A
  all_goals
    go_enter Try.func51, Try.ntmps51
    go_wp2_with fail
    refine Calls.mono (HOK.out _ hb0) ?_
    rintro e w1 ⟨rfl, hb1⟩
  · have HB := (show Hid _ from bel_trans hb0 hb1); clear hb1 hb0
    go_wp2_with fail
    go_ret
    exact ⟨rfl, HB.out⟩
  · have c0 : w1.cell? ⟨w.heap.size, 0, none⟩ = some (.string n) := (hb1.cell (by simp)).trans (by simp [go_sem])
    have c1 : w1.cell? ⟨w.heap.size, 1, none⟩ = some (.string x) := (hb1.cell (by simp)).trans (by simp [go_sem])
    have c2 : w1.cell? ⟨w.heap.size, 2, none⟩ = some (.bool l) := (hb1.cell (by simp)).trans (by simp [go_sem])
    have c3 : w1.cell? ⟨w.heap.size, 3, none⟩ = some (.slice a c d) := (hb1.cell (by simp)).trans (by simp [go_sem])
    have HB := (show Hid _ from bel_trans hb0 hb1); clear hb1 hb0
    go_wp2_with fail
    refine Calls.mono (HFM.out _ HB.out) ?_
    rintro e w2 ⟨rfl, hb2⟩
    have HB2 := (show Hid _ from bel_trans HB.out hb2); clear hb2
    go_wp2_with fail
    go_ret
    exact ⟨ret_bool (by simp), HB2.out⟩
end Go.Proofs.Ytledclkmeikgdaa.T
