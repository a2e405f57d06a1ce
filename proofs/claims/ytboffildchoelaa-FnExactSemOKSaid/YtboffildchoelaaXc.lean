import Derived.Test.YtboffildchoelaaXb
import Derived.Test.YtboffildchoelaaKh
import Derived.Test.YtboffildchoelaaKi
/-! The specification: a rule is right (l16RuleOK). -/
namespace Go.Proofs.Ytboffildchoelaa
open Go.RowKit Go.Deep Go.Lib Go.ChangeShapes Go.WideShapes
set_option linter.unusedVariables false
set_option maxRecDepth 100000
set_option linter.unusedSimpArgs false

/-- A rule is right. -/
def r6B (r : Rw) : Bool := nmB r.name && (!pwB r.name && (p6B r.left 0 && (p6B r.right 0 && (!v6B r.left.name r.left.leaf && (ws r.right []).1.all (hasS (ws r.left []).1)))))
theorem rul0 {r : Rw} (h : nmB r.name = false) : r6B r = false := by unfold r6B; rw [h]; rfl
theorem rul1 {r : Rw} (h : pwB r.name = true) : r6B r = false := by unfold r6B; rw [h]; simp
theorem rul4 {r : Rw} (h : p6B r.left 0 = false) : r6B r = false := by unfold r6B; rw [h]; simp
theorem rul5 {r : Rw} (h : p6B r.right 0 = false) : r6B r = false := by unfold r6B; rw [h]; simp
theorem rul6 {r : Rw} (h : v6B r.left.name r.left.leaf = true) : r6B r = false := by unfold r6B; rw [h]; simp
theorem rul7 {r : Rw} (h0 : nmB r.name = true) (h1 : pwB r.name = false) (h4 : p6B r.left 0 = true) (h5 : p6B r.right 0 = true) (h6 : v6B r.left.name r.left.leaf = false) : r6B r = (ws r.right []).1.all (hasS (ws r.left []).1) := by
  unfold r6B
  rw [h0, h1, h4, h5, h6]
  simp
/-- As the program asks, where both trees are right. -/
theorem r6_prog (r : Rw) (h1 : nmB r.name = true) (h2 : pwB r.name = false) (hl : r.left.ok = true) (hr : r.right.ok = true) :
    (!(pf r.left || pf r.right) && (plB r.left.name r.left.leaf && (decide ((pv r.left []).length = (pv r.right (pv r.left [])).length) && decide (ph r.left + ph r.right = 0)))) = r6B r := by
  unfold r6B p6B
  rw [h1, h2, hl, hr, pf_nm _ (ok_rt hl), pf_nm _ (ok_rt hr), ph_hN _ (ok_rt hl), ph_hN _ (ok_rt hr)]
  by_cases e1 : nm6 r.left = true
  case neg =>
    have e1' : nm6 r.left = false := by simpa using e1
    rw [e1']
    simp
  by_cases e2 : nm6 r.right = true
  case neg =>
    have e2' : nm6 r.right = false := by simpa using e2
    rw [e2']
    simp
  rw [ws_pv _ _ (ok_rt hl) e1, ws_pv _ _ (ok_rt hr) e2, pv_all, e1, e2]
  by_cases e3 : hN r.left = 0
  case neg => simp [e3]
  by_cases e4 : hN r.right = 0
  case neg => simp [e4]
  have e5 : plB r.left.name r.left.leaf = !(v6B r.left.name r.left.leaf) := by
    unfold plB
    have : hoB r.left.name r.left.leaf = false := by
      obtain ⟨x, l, q⟩ := r
      obtain ⟨n, x, lf, k⟩ := l
      dsimp only at e3 ⊢
      rw [hN_mk] at e3
      cases e : hoB n lf
      · rfl
      · rw [e] at e3
        simp at e3
    rw [this]
    rfl
  rw [e5, e3, e4]
  have e6 : decide ((pv r.left []).length = (pv r.right (pv r.left [])).length) = decide ((pv r.right (pv r.left [])).length = (pv r.left []).length) := decide_eq_decide.2 ⟨Eq.symm, Eq.symm⟩
  rw [e6]
  simp
set_option maxHeartbeats 3200000 in
theorem rule12 (r : Rw) (q1 q4 : Option Addr) (q2 q3 q5 q6 : Nat) (w : World) (hleft : Lies w (fun _ => True) r.left (.slice q1 q2 q3)) (hright : Lies w (fun _ => True) r.right (.slice q4 q5 q6)) (hx : r.name.size ≤ maxLen) :
    Calls Try.prog 12 #[.agg #[.string r.name, .string r.left.name, .string r.left.text, .bool r.left.leaf, .slice q1 q2 q3, .string r.right.name, .string r.right.text, .bool r.right.leaf, .slice q4 q5 q6]] w fun e w' => e = .returned (.bool (r6B r)) ∧ Below w.heap.size w w' := by
  have HBX := (show Hid (∀ wq : World, Below (w.alloc (.cells #[.string r.name, .string r.left.name, .string r.left.text, .bool r.left.leaf, .slice q1 q2 q3, .string r.right.name, .string r.right.text, .bool r.right.leaf, .slice q4 q5 q6] 44)).heap.size (w.alloc (.cells #[.string r.name, .string r.left.name, .string r.left.text, .bool r.left.leaf, .slice q1 q2 q3, .string r.right.name, .string r.right.text, .bool r.right.leaf, .slice q4 q5 q6] 44)) wq → Box wq w.heap.size 44 [.string r.name, .string r.left.name, .string r.left.text, .bool r.left.leaf, .slice q1 q2 q3, .string r.right.name, .string r.right.text, .bool r.right.leaf, .slice q4 q5 q6]) from fun wq h => (Box.new w 44 _).still h)
  have HBL := (show Hid (Below w.heap.size w (w.alloc (.cells #[.string r.name, .string r.left.name, .string r.left.text, .bool r.left.leaf, .slice q1 q2 q3, .string r.right.name, .string r.right.text, .bool r.right.leaf, .slice q4 q5 q6] 44))) from bel_alloc _ _)
  have HN := (show Hid (∀ wq : World, Calls Try.prog 16 #[.string r.name] wq fun e w' => e = .returned (.bool (nmB r.name)) ∧ w' = wq) from fun wq => sName _ hx wq)
  have HW := (show Hid (∀ wq : World, Calls Try.prog 28 #[.string r.name] wq fun e w' => e = .returned (.bool (hasS pw7 r.name)) ∧ Below wq.heap.size wq w') from fun wq => word85 _ wq)
  have HPL := (show Hid (∀ wq : World, Below w.heap.size w wq → Calls Try.prog 14 #[r.left.val (.slice q1 q2 q3), .int .i64 ((0 : Nat) : Int)] wq fun e w' => e = .returned (.bool (p6B r.left 0)) ∧ Below wq.heap.size wq w') from fun wq h => pat14 r.left 0 _ wq (hleft.still h) (by omega))
  have HPR := (show Hid (∀ wq : World, Below w.heap.size w wq → Calls Try.prog 14 #[r.right.val (.slice q4 q5 q6), .int .i64 ((0 : Nat) : Int)] wq fun e w' => e = .returned (.bool (p6B r.right 0)) ∧ Below wq.heap.size wq w') from fun wq h => pat14 r.right 0 _ wq (hright.still h) (by omega))
  have HVR := (show Hid (∀ wq : World, Calls Try.prog 15 #[r.left.val (.slice q1 q2 q3)] wq fun e w' => e = .returned (.bool (v6B r.left.name r.left.leaf)) ∧ Below wq.heap.size wq w') from fun wq => var15 r.left _ wq rfl)
  have HVL := (show Hid (∀ w1 : World, Below w.heap.size w w1 → r.left.cnt ≤ 1000 → Calls Try.prog 29 #[r.left.val (.slice q1 q2 q3), .slice (some ⟨w1.heap.size, 0, none⟩) 0 0] (w1.alloc (.cells #[] 9)) fun e w' => ∃ (la : Option Addr) (lc : Nat), e = .returned (.tuple #[.slice la (ws r.left []).1.length lc, .bool (ws r.left []).2]) ∧ Below w1.heap.size w1 w' ∧ SRow w' (ws r.left []).1 (.slice la (ws r.left []).1.length lc)) from fun w1 h hc => by
    have hp1 : Lies w1 (fun q => q < w1.heap.size) r.left (.slice q1 q2 q3) := ((hleft.still h).lt).mono (fun q hq => hq.2)
    refine Calls.mono (vars29 (S := fun q => q < w1.heap.size) (B := w1.heap.size) (fun q hq => hq) r.left _ _ [] _ (hp1.still (bel_alloc _ _)) (World.ownsRow_made w1 #[] 0 (Nat.le_refl _) (Nat.zero_le _) rfl) (bel_alloc w1 _).size (by simp; omega)) ?_
    rintro e w' ⟨la, lc, e1, e2, e3⟩
    refine ⟨la, lc, e1, ?_, own_srow e3⟩
    exact (bel_alloc w1 (.cells #[] 9)).trans (e2.below (B := w1.heap.size) (bel_alloc w1 _).size (fun g hg => by
      have : w1.heap.size = g := by simpa [Value.ownBlock] using hg
      omega)))
  have HVT := (show Hid (∀ w1 : World, Below w.heap.size w w1 → r.right.cnt ≤ 1000 → Calls Try.prog 29 #[r.right.val (.slice q4 q5 q6), .slice (some ⟨w1.heap.size, 0, none⟩) 0 0] (w1.alloc (.cells #[] 9)) fun e w' => ∃ (la : Option Addr) (lc : Nat), e = .returned (.tuple #[.slice la (ws r.right []).1.length lc, .bool (ws r.right []).2]) ∧ Below w1.heap.size w1 w' ∧ SRow w' (ws r.right []).1 (.slice la (ws r.right []).1.length lc)) from fun w1 h hc => by
    have hp1 : Lies w1 (fun q => q < w1.heap.size) r.right (.slice q4 q5 q6) := ((hright.still h).lt).mono (fun q hq => hq.2)
    refine Calls.mono (vars29 (S := fun q => q < w1.heap.size) (B := w1.heap.size) (fun q hq => hq) r.right _ _ [] _ (hp1.still (bel_alloc _ _)) (World.ownsRow_made w1 #[] 0 (Nat.le_refl _) (Nat.zero_le _) rfl) (bel_alloc w1 _).size (by simp; omega)) ?_
    rintro e w' ⟨la, lc, e1, e2, e3⟩
    refine ⟨la, lc, e1, ?_, own_srow e3⟩
    exact (bel_alloc w1 (.cells #[] 9)).trans (e2.below (B := w1.heap.size) (bel_alloc w1 _).size (fun g hg => by
      have : w1.heap.size = g := by simpa [Value.ownBlock] using hg
      omega)))
  have HAT := (show Hid (∀ (l : List ByteArray) (s : ByteArray) (v : Value) (wq : World), SRow wq l v → Calls Try.prog 30 #[v, .string s] wq fun e w' => ∃ i : Int, e = .returned (.int .i64 i) ∧ decide (i < 0) = !(hasS l s) ∧ w' = wq) from fun l s v wq h => at80 l s v wq h)
  have HCN := (show Hid (∀ t : Tr, p6B t 0 = true → t.cnt ≤ 1000) from fun t h => by
    unfold p6B at h
    rw [Bool.and_eq_true] at h
    exact ok_few h.1)
  have H0 := (show Hid _ from @rul0 r)
  have H1 := (show Hid _ from @rul1 r)
  have H4 := (show Hid _ from @rul4 r)
  have H5 := (show Hid _ from @rul5 r)
  have H6 := (show Hid _ from @rul6 r)
  have H7 := (show Hid _ from @rul7 r)
  have HSM := (show Hid (p6B r.left 0 = true → p6B r.right 0 = true → (ws r.right []).1.all (hasS (ws r.left []).1) = (ws r.right []).1.all (hasS (ws r.left []).1)) from fun _ _ => rfl)
  have HPW := (show Hid (pwB r.name = (eqS idN r.name || (eqS failN r.name || hasS pw7 r.name))) from rfl)
  have HE1 := (show Hid (∀ b, eqS r.name idN = b → eqS idN r.name = b) from fun b h => by
    rw [← h]
    unfold eqS
    exact decide_eq_decide.2 ⟨Eq.symm, Eq.symm⟩)
  have HE2 := (show Hid (∀ b, eqS r.name failN = b → eqS failN r.name = b) from fun b h => by
    rw [← h]
    unfold eqS
    exact decide_eq_decide.2 ⟨Eq.symm, Eq.symm⟩)
  have HI1 := (show Hid _ from eqS_id r.name)
  have HI2 := (show Hid _ from eqS_fail r.name)
  clear hleft hright hx
  simp only [Tr.val] at HPL HPR HVR HVL HVT
  generalize r.name = x at *
  generalize r.left.name = n0 at *
  generalize r.left.text = x0 at *
  generalize r.left.leaf = l0 at *
  generalize r.right.name = n1 at *
  generalize r.right.text = x1 at *
  generalize r.right.leaf = l1 at *
  generalize r6B r = RB at *
  cases hnm : nmB x
  · rw [hnm] at HN
    have HF := (show Hid (RB = false) from H0.out hnm)
    clear H0 H1 H4 H5 H6 H7 HSM HPW HE1 HE2 HI1 HI2 HCN HAT HVL HVT HVR HPL HPR HW HBX
    go_enter Try.func12, Try.ntmps12
    go_wp2_with fail
    refine Calls.mono (HN.out _) ?_
    rintro e wz ⟨rfl, rfl⟩
    go_wp2_with fail
    go_ret
    exact ⟨by rw [HF.out]; rfl, HBL.out⟩
  rw [hnm] at HN
  cases hid : eqS x idN
  case true =>
    have HF := (show Hid (RB = false) from H1.out (by rw [HPW.out, HE1.out _ hid]; rfl))
    have hi1 : (x.toList == [105, 100]) = true := by rw [HI1.out, hid]
    clear H0 H1 H4 H5 H6 H7 HSM HPW HE1 HE2 HI1 HI2 HCN HAT HVL HVT HVR HPL HPR HW HBX
    go_enter Try.func12, Try.ntmps12
    go_wp2_with fail
    refine Calls.mono (HN.out _) ?_
    rintro e wz ⟨rfl, rfl⟩
    go_wp2_with fail
    go_ret
    exact ⟨by rw [HF.out]; rfl, HBL.out⟩
  have hi1 : (x.toList == [105, 100]) = false := by rw [HI1.out, hid]
  cases hfl : eqS x failN
  case true =>
    have HF := (show Hid (RB = false) from H1.out (by rw [HPW.out, HE1.out _ hid, HE2.out _ hfl]; rfl))
    have hi2 : (x.toList == [102, 97, 105, 108]) = true := by rw [HI2.out, hfl]
    clear H0 H1 H4 H5 H6 H7 HSM HPW HE1 HE2 HI1 HI2 HCN HAT HVL HVT HVR HPL HPR HW HBX
    go_enter Try.func12, Try.ntmps12
    go_wp2_with fail
    refine Calls.mono (HN.out _) ?_
    rintro e wz ⟨rfl, rfl⟩
    go_wp2_with fail
    go_ret
    exact ⟨by rw [HF.out]; rfl, HBL.out⟩
  have hi2 : (x.toList == [102, 97, 105, 108]) = false := by rw [HI2.out, hfl]
  cases hwd : hasS pw7 x
  case true =>
    have HF := (show Hid (RB = false) from H1.out (by rw [HPW.out, HE1.out _ hid, HE2.out _ hfl, hwd]; rfl))
    rw [hwd] at HW
    clear H0 H1 H4 H5 H6 H7 HSM HPW HE1 HE2 HI1 HI2 HCN HAT HVL HVT HVR HPL HPR
    go_enter Try.func12, Try.ntmps12
    go_wp2_with fail
    refine Calls.mono (HN.out _) ?_
    rintro e wz ⟨rfl, rfl⟩
    go_wp2_with fail
    refine Calls.mono (HW.out _) ?_
    rintro e w2 ⟨rfl, hb2⟩
    have bx := HBX.out w2 hb2
    have c0 : w2.cell? ⟨w.heap.size, 0, none⟩ = some (.string x) := bx.cell 0 (by simp)
    have c1 : w2.cell? ⟨w.heap.size, 1, none⟩ = some (.string n0) := bx.cell 1 (by simp)
    have c2 : w2.cell? ⟨w.heap.size, 2, none⟩ = some (.string x0) := bx.cell 2 (by simp)
    have c3 : w2.cell? ⟨w.heap.size, 3, none⟩ = some (.bool l0) := bx.cell 3 (by simp)
    have c4 : w2.cell? ⟨w.heap.size, 4, none⟩ = some (.slice q1 q2 q3) := bx.cell 4 (by simp)
    have c5 : w2.cell? ⟨w.heap.size, 5, none⟩ = some (.string n1) := bx.cell 5 (by simp)
    have c6 : w2.cell? ⟨w.heap.size, 6, none⟩ = some (.string x1) := bx.cell 6 (by simp)
    have c7 : w2.cell? ⟨w.heap.size, 7, none⟩ = some (.bool l1) := bx.cell 7 (by simp)
    have c8 : w2.cell? ⟨w.heap.size, 8, none⟩ = some (.slice q4 q5 q6) := bx.cell 8 (by simp)
    have HB2 := (show Hid _ from hb2)
    clear hb2 bx
    go_wp2_with fail
    go_ret
    exact ⟨by rw [HF.out]; rfl, bel_box HB2.out⟩
  have HPF := (show Hid (pwB x = false) from (by rw [HPW.out, HE1.out _ hid, HE2.out _ hfl, hwd]; rfl))
  rw [hwd] at HW
  clear H0 H1 HPW HE1 HE2 HI1 HI2
  cases hpl : p6B r.left 0
  case false =>
    have HF := (show Hid (RB = false) from H4.out hpl)
    rw [hpl] at HPL
    clear H4 H5 H6 H7 HSM HCN HAT HVL HVT HVR HPR
    go_enter Try.func12, Try.ntmps12
    go_wp2_with fail
    refine Calls.mono (HN.out _) ?_
    rintro e wz ⟨rfl, rfl⟩
    go_wp2_with fail
    refine Calls.mono (HW.out _) ?_
    rintro e w2 ⟨rfl, hb2⟩
    have bx := HBX.out w2 hb2
    have c0 : w2.cell? ⟨w.heap.size, 0, none⟩ = some (.string x) := bx.cell 0 (by simp)
    have c1 : w2.cell? ⟨w.heap.size, 1, none⟩ = some (.string n0) := bx.cell 1 (by simp)
    have c2 : w2.cell? ⟨w.heap.size, 2, none⟩ = some (.string x0) := bx.cell 2 (by simp)
    have c3 : w2.cell? ⟨w.heap.size, 3, none⟩ = some (.bool l0) := bx.cell 3 (by simp)
    have c4 : w2.cell? ⟨w.heap.size, 4, none⟩ = some (.slice q1 q2 q3) := bx.cell 4 (by simp)
    have c5 : w2.cell? ⟨w.heap.size, 5, none⟩ = some (.string n1) := bx.cell 5 (by simp)
    have c6 : w2.cell? ⟨w.heap.size, 6, none⟩ = some (.string x1) := bx.cell 6 (by simp)
    have c7 : w2.cell? ⟨w.heap.size, 7, none⟩ = some (.bool l1) := bx.cell 7 (by simp)
    have c8 : w2.cell? ⟨w.heap.size, 8, none⟩ = some (.slice q4 q5 q6) := bx.cell 8 (by simp)
    have HB2 := (show Hid _ from hb2)
    clear hb2 bx
    go_wp2_with fail
    refine Calls.mono (HPL.out _ (bel_box HB2.out)) ?_
    rintro e w3 ⟨rfl, hb3⟩
    clear c0 c1 c2 c3 c4 c5 c6 c7 c8
    have HB3 := (show Hid _ from bel_trans HB2.out hb3)
    have bx := HBX.out w3 HB3.out
    have c0 : w3.cell? ⟨w.heap.size, 0, none⟩ = some (.string x) := bx.cell 0 (by simp)
    have c1 : w3.cell? ⟨w.heap.size, 1, none⟩ = some (.string n0) := bx.cell 1 (by simp)
    have c2 : w3.cell? ⟨w.heap.size, 2, none⟩ = some (.string x0) := bx.cell 2 (by simp)
    have c3 : w3.cell? ⟨w.heap.size, 3, none⟩ = some (.bool l0) := bx.cell 3 (by simp)
    have c4 : w3.cell? ⟨w.heap.size, 4, none⟩ = some (.slice q1 q2 q3) := bx.cell 4 (by simp)
    have c5 : w3.cell? ⟨w.heap.size, 5, none⟩ = some (.string n1) := bx.cell 5 (by simp)
    have c6 : w3.cell? ⟨w.heap.size, 6, none⟩ = some (.string x1) := bx.cell 6 (by simp)
    have c7 : w3.cell? ⟨w.heap.size, 7, none⟩ = some (.bool l1) := bx.cell 7 (by simp)
    have c8 : w3.cell? ⟨w.heap.size, 8, none⟩ = some (.slice q4 q5 q6) := bx.cell 8 (by simp)
    clear hb3 bx HB2
    go_wp2_with fail
    go_ret
    exact ⟨by rw [HF.out]; rfl, bel_box HB3.out⟩
  cases hpr : p6B r.right 0
  case false =>
    have HF := (show Hid (RB = false) from H5.out hpr)
    rw [hpl] at HPL
    rw [hpr] at HPR
    clear H4 H5 H6 H7 HSM HCN HAT HVL HVT HVR
    go_enter Try.func12, Try.ntmps12
    go_wp2_with fail
    refine Calls.mono (HN.out _) ?_
    rintro e wz ⟨rfl, rfl⟩
    go_wp2_with fail
    refine Calls.mono (HW.out _) ?_
    rintro e w2 ⟨rfl, hb2⟩
    have bx := HBX.out w2 hb2
    have c0 : w2.cell? ⟨w.heap.size, 0, none⟩ = some (.string x) := bx.cell 0 (by simp)
    have c1 : w2.cell? ⟨w.heap.size, 1, none⟩ = some (.string n0) := bx.cell 1 (by simp)
    have c2 : w2.cell? ⟨w.heap.size, 2, none⟩ = some (.string x0) := bx.cell 2 (by simp)
    have c3 : w2.cell? ⟨w.heap.size, 3, none⟩ = some (.bool l0) := bx.cell 3 (by simp)
    have c4 : w2.cell? ⟨w.heap.size, 4, none⟩ = some (.slice q1 q2 q3) := bx.cell 4 (by simp)
    have c5 : w2.cell? ⟨w.heap.size, 5, none⟩ = some (.string n1) := bx.cell 5 (by simp)
    have c6 : w2.cell? ⟨w.heap.size, 6, none⟩ = some (.string x1) := bx.cell 6 (by simp)
    have c7 : w2.cell? ⟨w.heap.size, 7, none⟩ = some (.bool l1) := bx.cell 7 (by simp)
    have c8 : w2.cell? ⟨w.heap.size, 8, none⟩ = some (.slice q4 q5 q6) := bx.cell 8 (by simp)
    have HB2 := (show Hid _ from hb2)
    clear hb2 bx
    go_wp2_with fail
    refine Calls.mono (HPL.out _ (bel_box HB2.out)) ?_
    rintro e w3 ⟨rfl, hb3⟩
    clear c0 c1 c2 c3 c4 c5 c6 c7 c8
    have HB3 := (show Hid _ from bel_trans HB2.out hb3)
    have bx := HBX.out w3 HB3.out
    have c0 : w3.cell? ⟨w.heap.size, 0, none⟩ = some (.string x) := bx.cell 0 (by simp)
    have c1 : w3.cell? ⟨w.heap.size, 1, none⟩ = some (.string n0) := bx.cell 1 (by simp)
    have c2 : w3.cell? ⟨w.heap.size, 2, none⟩ = some (.string x0) := bx.cell 2 (by simp)
    have c3 : w3.cell? ⟨w.heap.size, 3, none⟩ = some (.bool l0) := bx.cell 3 (by simp)
    have c4 : w3.cell? ⟨w.heap.size, 4, none⟩ = some (.slice q1 q2 q3) := bx.cell 4 (by simp)
    have c5 : w3.cell? ⟨w.heap.size, 5, none⟩ = some (.string n1) := bx.cell 5 (by simp)
    have c6 : w3.cell? ⟨w.heap.size, 6, none⟩ = some (.string x1) := bx.cell 6 (by simp)
    have c7 : w3.cell? ⟨w.heap.size, 7, none⟩ = some (.bool l1) := bx.cell 7 (by simp)
    have c8 : w3.cell? ⟨w.heap.size, 8, none⟩ = some (.slice q4 q5 q6) := bx.cell 8 (by simp)
    clear hb3 bx HB2
    go_wp2_with fail
    refine Calls.mono (HPR.out _ (bel_box HB3.out)) ?_
    rintro e w4 ⟨rfl, hb4⟩
    clear c0 c1 c2 c3 c4 c5 c6 c7 c8
    have HB4 := (show Hid _ from bel_trans HB3.out hb4)
    have bx := HBX.out w4 HB4.out
    have c0 : w4.cell? ⟨w.heap.size, 0, none⟩ = some (.string x) := bx.cell 0 (by simp)
    have c1 : w4.cell? ⟨w.heap.size, 1, none⟩ = some (.string n0) := bx.cell 1 (by simp)
    have c2 : w4.cell? ⟨w.heap.size, 2, none⟩ = some (.string x0) := bx.cell 2 (by simp)
    have c3 : w4.cell? ⟨w.heap.size, 3, none⟩ = some (.bool l0) := bx.cell 3 (by simp)
    have c4 : w4.cell? ⟨w.heap.size, 4, none⟩ = some (.slice q1 q2 q3) := bx.cell 4 (by simp)
    have c5 : w4.cell? ⟨w.heap.size, 5, none⟩ = some (.string n1) := bx.cell 5 (by simp)
    have c6 : w4.cell? ⟨w.heap.size, 6, none⟩ = some (.string x1) := bx.cell 6 (by simp)
    have c7 : w4.cell? ⟨w.heap.size, 7, none⟩ = some (.bool l1) := bx.cell 7 (by simp)
    have c8 : w4.cell? ⟨w.heap.size, 8, none⟩ = some (.slice q4 q5 q6) := bx.cell 8 (by simp)
    clear hb4 bx HB3
    go_wp2_with fail
    go_ret
    exact ⟨by rw [HF.out]; rfl, bel_box HB4.out⟩
  cases hvr : v6B n0 l0
  case true =>
    have HF := (show Hid (RB = false) from H6.out hvr)
    rw [hpl] at HPL
    rw [hpr] at HPR
    rw [hvr] at HVR
    clear H4 H5 H6 H7 HSM HCN HAT HVL HVT
    go_enter Try.func12, Try.ntmps12
    go_wp2_with fail
    refine Calls.mono (HN.out _) ?_
    rintro e wz ⟨rfl, rfl⟩
    go_wp2_with fail
    refine Calls.mono (HW.out _) ?_
    rintro e w2 ⟨rfl, hb2⟩
    have bx := HBX.out w2 hb2
    have c0 : w2.cell? ⟨w.heap.size, 0, none⟩ = some (.string x) := bx.cell 0 (by simp)
    have c1 : w2.cell? ⟨w.heap.size, 1, none⟩ = some (.string n0) := bx.cell 1 (by simp)
    have c2 : w2.cell? ⟨w.heap.size, 2, none⟩ = some (.string x0) := bx.cell 2 (by simp)
    have c3 : w2.cell? ⟨w.heap.size, 3, none⟩ = some (.bool l0) := bx.cell 3 (by simp)
    have c4 : w2.cell? ⟨w.heap.size, 4, none⟩ = some (.slice q1 q2 q3) := bx.cell 4 (by simp)
    have c5 : w2.cell? ⟨w.heap.size, 5, none⟩ = some (.string n1) := bx.cell 5 (by simp)
    have c6 : w2.cell? ⟨w.heap.size, 6, none⟩ = some (.string x1) := bx.cell 6 (by simp)
    have c7 : w2.cell? ⟨w.heap.size, 7, none⟩ = some (.bool l1) := bx.cell 7 (by simp)
    have c8 : w2.cell? ⟨w.heap.size, 8, none⟩ = some (.slice q4 q5 q6) := bx.cell 8 (by simp)
    have HB2 := (show Hid _ from hb2)
    clear hb2 bx
    go_wp2_with fail
    refine Calls.mono (HPL.out _ (bel_box HB2.out)) ?_
    rintro e w3 ⟨rfl, hb3⟩
    clear c0 c1 c2 c3 c4 c5 c6 c7 c8
    have HB3 := (show Hid _ from bel_trans HB2.out hb3)
    have bx := HBX.out w3 HB3.out
    have c0 : w3.cell? ⟨w.heap.size, 0, none⟩ = some (.string x) := bx.cell 0 (by simp)
    have c1 : w3.cell? ⟨w.heap.size, 1, none⟩ = some (.string n0) := bx.cell 1 (by simp)
    have c2 : w3.cell? ⟨w.heap.size, 2, none⟩ = some (.string x0) := bx.cell 2 (by simp)
    have c3 : w3.cell? ⟨w.heap.size, 3, none⟩ = some (.bool l0) := bx.cell 3 (by simp)
    have c4 : w3.cell? ⟨w.heap.size, 4, none⟩ = some (.slice q1 q2 q3) := bx.cell 4 (by simp)
    have c5 : w3.cell? ⟨w.heap.size, 5, none⟩ = some (.string n1) := bx.cell 5 (by simp)
    have c6 : w3.cell? ⟨w.heap.size, 6, none⟩ = some (.string x1) := bx.cell 6 (by simp)
    have c7 : w3.cell? ⟨w.heap.size, 7, none⟩ = some (.bool l1) := bx.cell 7 (by simp)
    have c8 : w3.cell? ⟨w.heap.size, 8, none⟩ = some (.slice q4 q5 q6) := bx.cell 8 (by simp)
    clear hb3 bx HB2
    go_wp2_with fail
    refine Calls.mono (HPR.out _ (bel_box HB3.out)) ?_
    rintro e w4 ⟨rfl, hb4⟩
    clear c0 c1 c2 c3 c4 c5 c6 c7 c8
    have HB4 := (show Hid _ from bel_trans HB3.out hb4)
    have bx := HBX.out w4 HB4.out
    have c0 : w4.cell? ⟨w.heap.size, 0, none⟩ = some (.string x) := bx.cell 0 (by simp)
    have c1 : w4.cell? ⟨w.heap.size, 1, none⟩ = some (.string n0) := bx.cell 1 (by simp)
    have c2 : w4.cell? ⟨w.heap.size, 2, none⟩ = some (.string x0) := bx.cell 2 (by simp)
    have c3 : w4.cell? ⟨w.heap.size, 3, none⟩ = some (.bool l0) := bx.cell 3 (by simp)
    have c4 : w4.cell? ⟨w.heap.size, 4, none⟩ = some (.slice q1 q2 q3) := bx.cell 4 (by simp)
    have c5 : w4.cell? ⟨w.heap.size, 5, none⟩ = some (.string n1) := bx.cell 5 (by simp)
    have c6 : w4.cell? ⟨w.heap.size, 6, none⟩ = some (.string x1) := bx.cell 6 (by simp)
    have c7 : w4.cell? ⟨w.heap.size, 7, none⟩ = some (.bool l1) := bx.cell 7 (by simp)
    have c8 : w4.cell? ⟨w.heap.size, 8, none⟩ = some (.slice q4 q5 q6) := bx.cell 8 (by simp)
    clear hb4 bx HB3
    go_wp2_with fail
    refine Calls.mono (HVR.out _) ?_
    rintro e w5 ⟨rfl, hb5⟩
    clear c0 c1 c2 c3 c4 c5 c6 c7 c8
    have HB5 := (show Hid _ from bel_trans HB4.out hb5)
    have bx := HBX.out w5 HB5.out
    have c0 : w5.cell? ⟨w.heap.size, 0, none⟩ = some (.string x) := bx.cell 0 (by simp)
    have c1 : w5.cell? ⟨w.heap.size, 1, none⟩ = some (.string n0) := bx.cell 1 (by simp)
    have c2 : w5.cell? ⟨w.heap.size, 2, none⟩ = some (.string x0) := bx.cell 2 (by simp)
    have c3 : w5.cell? ⟨w.heap.size, 3, none⟩ = some (.bool l0) := bx.cell 3 (by simp)
    have c4 : w5.cell? ⟨w.heap.size, 4, none⟩ = some (.slice q1 q2 q3) := bx.cell 4 (by simp)
    have c5 : w5.cell? ⟨w.heap.size, 5, none⟩ = some (.string n1) := bx.cell 5 (by simp)
    have c6 : w5.cell? ⟨w.heap.size, 6, none⟩ = some (.string x1) := bx.cell 6 (by simp)
    have c7 : w5.cell? ⟨w.heap.size, 7, none⟩ = some (.bool l1) := bx.cell 7 (by simp)
    have c8 : w5.cell? ⟨w.heap.size, 8, none⟩ = some (.slice q4 q5 q6) := bx.cell 8 (by simp)
    clear hb5 bx HB4
    go_wp2_with fail
    go_ret
    exact ⟨by rw [HF.out]; rfl, bel_box HB5.out⟩
  have HF := (show Hid (RB = (ws r.right []).1.all (hasS (ws r.left []).1)) from (by
    show RB = _
    rw [HSM.out hpl hpr]
    exact H7.out hnm HPF.out hpl hpr hvr))
  have HL2 := (show Hid _ from fun (w1 : World) (h : Below w.heap.size w w1) => HVL.out w1 h (HCN.out _ hpl))
  have HR2 := (show Hid _ from fun (w1 : World) (h : Below w.heap.size w w1) => HVT.out w1 h (HCN.out _ hpr))
  rw [hpl] at HPL
  rw [hpr] at HPR
  rw [hvr] at HVR
  clear H4 H5 H6 H7 HSM HCN HVL HVT HPF hpl hpr hvr hwd hfl hid hnm
  generalize (ws r.left []).1 = L at *
  generalize (ws r.left []).2 = L2 at *
  generalize (ws r.right []).1 = T at *
  generalize (ws r.right []).2 = T2 at *
  · skip
    go_enter Try.func12, Try.ntmps12
    go_wp2_with fail
    refine Calls.mono (HN.out _) ?_
    rintro e wz ⟨rfl, rfl⟩
    go_wp2_with fail
    refine Calls.mono (HW.out _) ?_
    rintro e w2 ⟨rfl, hb2⟩
    have bx := HBX.out w2 hb2
    have c0 : w2.cell? ⟨w.heap.size, 0, none⟩ = some (.string x) := bx.cell 0 (by simp)
    have c1 : w2.cell? ⟨w.heap.size, 1, none⟩ = some (.string n0) := bx.cell 1 (by simp)
    have c2 : w2.cell? ⟨w.heap.size, 2, none⟩ = some (.string x0) := bx.cell 2 (by simp)
    have c3 : w2.cell? ⟨w.heap.size, 3, none⟩ = some (.bool l0) := bx.cell 3 (by simp)
    have c4 : w2.cell? ⟨w.heap.size, 4, none⟩ = some (.slice q1 q2 q3) := bx.cell 4 (by simp)
    have c5 : w2.cell? ⟨w.heap.size, 5, none⟩ = some (.string n1) := bx.cell 5 (by simp)
    have c6 : w2.cell? ⟨w.heap.size, 6, none⟩ = some (.string x1) := bx.cell 6 (by simp)
    have c7 : w2.cell? ⟨w.heap.size, 7, none⟩ = some (.bool l1) := bx.cell 7 (by simp)
    have c8 : w2.cell? ⟨w.heap.size, 8, none⟩ = some (.slice q4 q5 q6) := bx.cell 8 (by simp)
    have HB2 := (show Hid _ from hb2)
    clear hb2 bx
    go_wp2_with fail
    refine Calls.mono (HPL.out _ (bel_box HB2.out)) ?_
    rintro e w3 ⟨rfl, hb3⟩
    clear c0 c1 c2 c3 c4 c5 c6 c7 c8
    have HB3 := (show Hid _ from bel_trans HB2.out hb3)
    have bx := HBX.out w3 HB3.out
    have c0 : w3.cell? ⟨w.heap.size, 0, none⟩ = some (.string x) := bx.cell 0 (by simp)
    have c1 : w3.cell? ⟨w.heap.size, 1, none⟩ = some (.string n0) := bx.cell 1 (by simp)
    have c2 : w3.cell? ⟨w.heap.size, 2, none⟩ = some (.string x0) := bx.cell 2 (by simp)
    have c3 : w3.cell? ⟨w.heap.size, 3, none⟩ = some (.bool l0) := bx.cell 3 (by simp)
    have c4 : w3.cell? ⟨w.heap.size, 4, none⟩ = some (.slice q1 q2 q3) := bx.cell 4 (by simp)
    have c5 : w3.cell? ⟨w.heap.size, 5, none⟩ = some (.string n1) := bx.cell 5 (by simp)
    have c6 : w3.cell? ⟨w.heap.size, 6, none⟩ = some (.string x1) := bx.cell 6 (by simp)
    have c7 : w3.cell? ⟨w.heap.size, 7, none⟩ = some (.bool l1) := bx.cell 7 (by simp)
    have c8 : w3.cell? ⟨w.heap.size, 8, none⟩ = some (.slice q4 q5 q6) := bx.cell 8 (by simp)
    clear hb3 bx HB2
    go_wp2_with fail
    refine Calls.mono (HPR.out _ (bel_box HB3.out)) ?_
    rintro e w4 ⟨rfl, hb4⟩
    clear c0 c1 c2 c3 c4 c5 c6 c7 c8
    have HB4 := (show Hid _ from bel_trans HB3.out hb4)
    have bx := HBX.out w4 HB4.out
    have c0 : w4.cell? ⟨w.heap.size, 0, none⟩ = some (.string x) := bx.cell 0 (by simp)
    have c1 : w4.cell? ⟨w.heap.size, 1, none⟩ = some (.string n0) := bx.cell 1 (by simp)
    have c2 : w4.cell? ⟨w.heap.size, 2, none⟩ = some (.string x0) := bx.cell 2 (by simp)
    have c3 : w4.cell? ⟨w.heap.size, 3, none⟩ = some (.bool l0) := bx.cell 3 (by simp)
    have c4 : w4.cell? ⟨w.heap.size, 4, none⟩ = some (.slice q1 q2 q3) := bx.cell 4 (by simp)
    have c5 : w4.cell? ⟨w.heap.size, 5, none⟩ = some (.string n1) := bx.cell 5 (by simp)
    have c6 : w4.cell? ⟨w.heap.size, 6, none⟩ = some (.string x1) := bx.cell 6 (by simp)
    have c7 : w4.cell? ⟨w.heap.size, 7, none⟩ = some (.bool l1) := bx.cell 7 (by simp)
    have c8 : w4.cell? ⟨w.heap.size, 8, none⟩ = some (.slice q4 q5 q6) := bx.cell 8 (by simp)
    clear hb4 bx HB3
    go_wp2_with fail
    refine Calls.mono (HVR.out _) ?_
    rintro e w5 ⟨rfl, hb5⟩
    clear c0 c1 c2 c3 c4 c5 c6 c7 c8
    have HB5 := (show Hid _ from bel_trans HB4.out hb5)
    have bx := HBX.out w5 HB5.out
    have c0 : w5.cell? ⟨w.heap.size, 0, none⟩ = some (.string x) := bx.cell 0 (by simp)
    have c1 : w5.cell? ⟨w.heap.size, 1, none⟩ = some (.string n0) := bx.cell 1 (by simp)
    have c2 : w5.cell? ⟨w.heap.size, 2, none⟩ = some (.string x0) := bx.cell 2 (by simp)
    have c3 : w5.cell? ⟨w.heap.size, 3, none⟩ = some (.bool l0) := bx.cell 3 (by simp)
    have c4 : w5.cell? ⟨w.heap.size, 4, none⟩ = some (.slice q1 q2 q3) := bx.cell 4 (by simp)
    have c5 : w5.cell? ⟨w.heap.size, 5, none⟩ = some (.string n1) := bx.cell 5 (by simp)
    have c6 : w5.cell? ⟨w.heap.size, 6, none⟩ = some (.string x1) := bx.cell 6 (by simp)
    have c7 : w5.cell? ⟨w.heap.size, 7, none⟩ = some (.bool l1) := bx.cell 7 (by simp)
    have c8 : w5.cell? ⟨w.heap.size, 8, none⟩ = some (.slice q4 q5 q6) := bx.cell 8 (by simp)
    clear hb5 bx HB4
    go_wp2_with fail
    refine Calls.mono (HL2.out _ (bel_box HB5.out)) ?_
    rintro e w6 ⟨la, lc, rfl, hb6, hs6⟩
    clear c0 c1 c2 c3 c4 c5 c6 c7 c8
    have HB6 := (show Hid _ from bel_trans HB5.out hb6)
    have bx := HBX.out w6 HB6.out
    have c0 : w6.cell? ⟨w.heap.size, 0, none⟩ = some (.string x) := bx.cell 0 (by simp)
    have c1 : w6.cell? ⟨w.heap.size, 1, none⟩ = some (.string n0) := bx.cell 1 (by simp)
    have c2 : w6.cell? ⟨w.heap.size, 2, none⟩ = some (.string x0) := bx.cell 2 (by simp)
    have c3 : w6.cell? ⟨w.heap.size, 3, none⟩ = some (.bool l0) := bx.cell 3 (by simp)
    have c4 : w6.cell? ⟨w.heap.size, 4, none⟩ = some (.slice q1 q2 q3) := bx.cell 4 (by simp)
    have c5 : w6.cell? ⟨w.heap.size, 5, none⟩ = some (.string n1) := bx.cell 5 (by simp)
    have c6 : w6.cell? ⟨w.heap.size, 6, none⟩ = some (.string x1) := bx.cell 6 (by simp)
    have c7 : w6.cell? ⟨w.heap.size, 7, none⟩ = some (.bool l1) := bx.cell 7 (by simp)
    have c8 : w6.cell? ⟨w.heap.size, 8, none⟩ = some (.slice q4 q5 q6) := bx.cell 8 (by simp)
    have HS6 := (show Hid _ from hs6)
    clear hb6 bx HB5 hs6
    go_wp2_with fail
    refine Calls.mono (HR2.out _ (bel_box HB6.out)) ?_
    rintro e w7 ⟨ra, rc, rfl, hb7, hs7⟩
    clear c0 c1 c2 c3 c4 c5 c6 c7 c8
    have HB7 := (show Hid _ from bel_box (bel_trans HB6.out hb7))
    have HS7 := (show Hid _ from SRow.still HS6.out hb7)
    have HATL := (show Hid _ from fun (s : ByteArray) => HAT.out L s _ w7 HS7.out)
    obtain ⟨ra', rc', rb, ro, e1, e2, e3, e4, e5⟩ := hs7
    injection e1 with f1 f2 f3
    subst f1
    subst f3
    clear f2
    have HC := (show Hid _ from e5)
    have HA := (show Hid _ from e4)
    unfold maxLen at e3
    clear hb7 HB6 HS6 HS7 e4 e5 HN HW HPL HPR HVR HL2 HR2 HAT HBX HBL hi1 hi2
    go_wp2_with fail
    go_loop [7] (fun i => ∃ j : Nat, i = .int .i64 j ∧ j ≤ T.length ∧ Hid (∀ i (hi : i < T.length), i < j → hasS L T[i] = true)) (fun i => T.length - (intOf i).toNat)
    case atStart => exact ⟨0, rfl, Nat.zero_le _, fun i _ h0 => absurd h0 (Nat.not_lt_zero _)⟩
    case round =>
      obtain ⟨j, rfl, hj, HJ⟩ := hrel
      by_cases hlt : j < T.length
      · obtain rfl := HA.out (by omega)
        have c1 := HC.out j hlt
        have q1 : (j : Int) < (T.length : Int) := by omega
        have HQ := (show Hid _ from HATL.out T[j])
        cases hh : hasS L T[j]
        · have HG := (show Hid (RB = false) from (by
            show RB = false
            rw [HF.out, List.all_eq_false]
            exact ⟨T[j], List.getElem_mem hlt, by rw [hh]; simp⟩))
          rw [hh] at HQ
          clear hh HJ
          generalize T[j] = y at *
          go_wp2_with fail
          refine Calls.mono HQ.out ?_
          rintro e w8 ⟨i, rfl, hi, rfl⟩
          have hi2 : i < 0 := by simpa using hi
          clear hi HQ
          go_wp2_with fail
          go_ret
          exact ⟨by rw [HG.out]; rfl, HB7.out⟩
        · have HK := (show Hid (∀ i (hi : i < T.length), i < j + 1 → hasS L T[i] = true) from fun i hi hij => by
            by_cases e : i = j
            · subst e; exact hh
            · exact HJ.out i hi (by omega))
          rw [hh] at HQ
          clear hh HJ
          generalize T[j] = y at *
          go_wp2_with fail
          refine Calls.mono HQ.out ?_
          rintro e w8 ⟨i, rfl, hi, rfl⟩
          have hi2 : ¬ i < 0 := by simpa using hi
          clear hi HQ
          go_wp2_with fail
          go_round
          case rel => exact ⟨j + 1, by go_num, by omega, HK⟩
          case measure => simp [intOf]; omega
      · have HG := (show Hid (RB = true) from (by
          show RB = true
          rw [HF.out, List.all_eq_true]
          intro y hy
          obtain ⟨i, hi, rfl⟩ := List.mem_iff_getElem.1 hy
          exact HJ.out i hi (by omega)))
        clear HJ
        have q1 : ¬ ((j : Int) < (T.length : Int)) := by omega
        go_wp2_with fail
        go_ret
        exact ⟨by rw [HG.out]; rfl, HB7.out⟩
end Go.Proofs.Ytboffildchoelaa
