import Derived.Test.YteomgkcgjkbppaaKg
import Derived.Test.YteomgkcgjkbppaaKf
import Derived.Test.YteomgkcgjkbppaaFe
import Derived.Test.YteomgkcgjkbppaaIp
/-! The program: a rule is right; all rules are. -/
namespace Go.Proofs.Yteomgkcgjkbppaa
open Go.RowKit Go.Deep Go.Maps Go.WideMaps Go.ChangeMaps Go.Lib
set_option linter.unusedVariables false
set_option maxRecDepth 100000
set_option linter.unusedSimpArgs false

theorem eqS_w2 (n : ByteArray) : (n.toList == [97, 108, 108]) = eqS n (⟨#[97, 108, 108]⟩ : ByteArray) := by
  have hv : ((⟨#[97, 108, 108]⟩ : ByteArray) : ByteArray).toList = [97, 108, 108] := by rw [ByteArray.toList_eq] <;> rfl
  by_cases e : n = (⟨#[97, 108, 108]⟩ : ByteArray)
  · subst e
    rw [eqS_refl, hv]
    rfl
  · rw [eqS_no e, ← hv]
    exact ne_bytes e
theorem eqS_w3 (n : ByteArray) : (n.toList == [111, 110, 101]) = eqS n (⟨#[111, 110, 101]⟩ : ByteArray) := by
  have hv : ((⟨#[111, 110, 101]⟩ : ByteArray) : ByteArray).toList = [111, 110, 101] := by rw [ByteArray.toList_eq] <;> rfl
  by_cases e : n = (⟨#[111, 110, 101]⟩ : ByteArray)
  · subst e
    rw [eqS_refl, hv]
    rfl
  · rw [eqS_no e, ← hv]
    exact ne_bytes e
theorem eqS_w4 (n : ByteArray) : (n.toList == [116, 114, 121]) = eqS n (⟨#[116, 114, 121]⟩ : ByteArray) := by
  have hv : ((⟨#[116, 114, 121]⟩ : ByteArray) : ByteArray).toList = [116, 114, 121] := by rw [ByteArray.toList_eq] <;> rfl
  by_cases e : n = (⟨#[116, 114, 121]⟩ : ByteArray)
  · subst e
    rw [eqS_refl, hv]
    rfl
  · rw [eqS_no e, ← hv]
    exact ne_bytes e
theorem eqS_w5 (n : ByteArray) : (n.toList == [114, 101, 112, 101, 97, 116]) = eqS n (⟨#[114, 101, 112, 101, 97, 116]⟩ : ByteArray) := by
  have hv : ((⟨#[114, 101, 112, 101, 97, 116]⟩ : ByteArray) : ByteArray).toList = [114, 101, 112, 101, 97, 116] := by rw [ByteArray.toList_eq] <;> rfl
  by_cases e : n = (⟨#[114, 101, 112, 101, 97, 116]⟩ : ByteArray)
  · subst e
    rw [eqS_refl, hv]
    rfl
  · rw [eqS_no e, ← hv]
    exact ne_bytes e
theorem eqS_w6 (n : ByteArray) : (n.toList == [100, 111, 119, 110]) = eqS n (⟨#[100, 111, 119, 110]⟩ : ByteArray) := by
  have hv : ((⟨#[100, 111, 119, 110]⟩ : ByteArray) : ByteArray).toList = [100, 111, 119, 110] := by rw [ByteArray.toList_eq] <;> rfl
  by_cases e : n = (⟨#[100, 111, 119, 110]⟩ : ByteArray)
  · subst e
    rw [eqS_refl, hv]
    rfl
  · rw [eqS_no e, ← hv]
    exact ne_bytes e
theorem eqS_w7 (n : ByteArray) : (n.toList == [117, 112]) = eqS n (⟨#[117, 112]⟩ : ByteArray) := by
  have hv : ((⟨#[117, 112]⟩ : ByteArray) : ByteArray).toList = [117, 112] := by rw [ByteArray.toList_eq] <;> rfl
  by_cases e : n = (⟨#[117, 112]⟩ : ByteArray)
  · subst e
    rw [eqS_refl, hv]
    rfl
  · rw [eqS_no e, ← hv]
    exact ne_bytes e
theorem eqS_w8 (n : ByteArray) : (n.toList == [105, 110, 110, 101, 114]) = eqS n (⟨#[105, 110, 110, 101, 114]⟩ : ByteArray) := by
  have hv : ((⟨#[105, 110, 110, 101, 114]⟩ : ByteArray) : ByteArray).toList = [105, 110, 110, 101, 114] := by rw [ByteArray.toList_eq] <;> rfl
  by_cases e : n = (⟨#[105, 110, 110, 101, 114]⟩ : ByteArray)
  · subst e
    rw [eqS_refl, hv]
    rfl
  · rw [eqS_no e, ← hv]
    exact ne_bytes e
theorem pwB_nine (s : ByteArray) : pwB s = (eqS idN s || (eqS failN s || (eqS (⟨#[97, 108, 108]⟩ : ByteArray) s || (eqS (⟨#[111, 110, 101]⟩ : ByteArray) s || (eqS (⟨#[116, 114, 121]⟩ : ByteArray) s || (eqS (⟨#[114, 101, 112, 101, 97, 116]⟩ : ByteArray) s || (eqS (⟨#[100, 111, 119, 110]⟩ : ByteArray) s || (eqS (⟨#[117, 112]⟩ : ByteArray) s || (eqS (⟨#[105, 110, 110, 101, 114]⟩ : ByteArray) s || false))))))))) := rfl
theorem eqS_comm (a b : ByteArray) : eqS a b = eqS b a := by
  unfold eqS
  exact decide_eq_decide.2 ⟨Eq.symm, Eq.symm⟩
set_option maxHeartbeats 1600000 in
theorem word111 (s : ByteArray) (w : World) :
    Calls Try.prog 111 #[.string s] w fun e w' => e = .returned (.bool (pwB s)) ∧ w' = w := by
  have HP := (show Hid _ from pwB_nine s)
  have g0 : (s.toList == [105, 100]) = eqS idN s := (eqS_id s).trans (eqS_comm _ _)
  have g1 : (s.toList == [102, 97, 105, 108]) = eqS failN s := (eqS_fail s).trans (eqS_comm _ _)
  have g2 : (s.toList == [97, 108, 108]) = eqS (⟨#[97, 108, 108]⟩ : ByteArray) s := (eqS_w2 s).trans (eqS_comm _ _)
  have g3 : (s.toList == [111, 110, 101]) = eqS (⟨#[111, 110, 101]⟩ : ByteArray) s := (eqS_w3 s).trans (eqS_comm _ _)
  have g4 : (s.toList == [116, 114, 121]) = eqS (⟨#[116, 114, 121]⟩ : ByteArray) s := (eqS_w4 s).trans (eqS_comm _ _)
  have g5 : (s.toList == [114, 101, 112, 101, 97, 116]) = eqS (⟨#[114, 101, 112, 101, 97, 116]⟩ : ByteArray) s := (eqS_w5 s).trans (eqS_comm _ _)
  have g6 : (s.toList == [100, 111, 119, 110]) = eqS (⟨#[100, 111, 119, 110]⟩ : ByteArray) s := (eqS_w6 s).trans (eqS_comm _ _)
  have g7 : (s.toList == [117, 112]) = eqS (⟨#[117, 112]⟩ : ByteArray) s := (eqS_w7 s).trans (eqS_comm _ _)
  have g8 : (s.toList == [105, 110, 110, 101, 114]) = eqS (⟨#[105, 110, 110, 101, 114]⟩ : ByteArray) s := (eqS_w8 s).trans (eqS_comm _ _)
  generalize pwB s = R at *
  generalize eqS idN s = b0 at *
  generalize eqS failN s = b1 at *
  generalize eqS (⟨#[97, 108, 108]⟩ : ByteArray) s = b2 at *
  generalize eqS (⟨#[111, 110, 101]⟩ : ByteArray) s = b3 at *
  generalize eqS (⟨#[116, 114, 121]⟩ : ByteArray) s = b4 at *
  generalize eqS (⟨#[114, 101, 112, 101, 97, 116]⟩ : ByteArray) s = b5 at *
  generalize eqS (⟨#[100, 111, 119, 110]⟩ : ByteArray) s = b6 at *
  generalize eqS (⟨#[117, 112]⟩ : ByteArray) s = b7 at *
  generalize eqS (⟨#[105, 110, 110, 101, 114]⟩ : ByteArray) s = b8 at *
  cases b0
  case true =>
    have HF := (show Hid (R = true) from (by show R = true; rw [HP.out]; simp))
    clear HP
    go_enter Try.func111, Try.ntmps111
    go_wp2_with fail
    go_ret
    exact ⟨by rw [HF.out]; rfl, rfl⟩
  cases b1
  case true =>
    have HF := (show Hid (R = true) from (by show R = true; rw [HP.out]; simp))
    clear HP
    go_enter Try.func111, Try.ntmps111
    go_wp2_with fail
    go_ret
    exact ⟨by rw [HF.out]; rfl, rfl⟩
  cases b2
  case true =>
    have HF := (show Hid (R = true) from (by show R = true; rw [HP.out]; simp))
    clear HP
    go_enter Try.func111, Try.ntmps111
    go_wp2_with fail
    go_ret
    exact ⟨by rw [HF.out]; rfl, rfl⟩
  cases b3
  case true =>
    have HF := (show Hid (R = true) from (by show R = true; rw [HP.out]; simp))
    clear HP
    go_enter Try.func111, Try.ntmps111
    go_wp2_with fail
    go_ret
    exact ⟨by rw [HF.out]; rfl, rfl⟩
  cases b4
  case true =>
    have HF := (show Hid (R = true) from (by show R = true; rw [HP.out]; simp))
    clear HP
    go_enter Try.func111, Try.ntmps111
    go_wp2_with fail
    go_ret
    exact ⟨by rw [HF.out]; rfl, rfl⟩
  cases b5
  case true =>
    have HF := (show Hid (R = true) from (by show R = true; rw [HP.out]; simp))
    clear HP
    go_enter Try.func111, Try.ntmps111
    go_wp2_with fail
    go_ret
    exact ⟨by rw [HF.out]; rfl, rfl⟩
  cases b6
  case true =>
    have HF := (show Hid (R = true) from (by show R = true; rw [HP.out]; simp))
    clear HP
    go_enter Try.func111, Try.ntmps111
    go_wp2_with fail
    go_ret
    exact ⟨by rw [HF.out]; rfl, rfl⟩
  cases b7
  case true =>
    have HF := (show Hid (R = true) from (by show R = true; rw [HP.out]; simp))
    clear HP
    go_enter Try.func111, Try.ntmps111
    go_wp2_with fail
    go_ret
    exact ⟨by rw [HF.out]; rfl, rfl⟩
  cases b8
  case true =>
    have HF := (show Hid (R = true) from (by show R = true; rw [HP.out]; simp))
    clear HP
    go_enter Try.func111, Try.ntmps111
    go_wp2_with fail
    go_ret
    exact ⟨by rw [HF.out]; rfl, rfl⟩
  have HF := (show Hid (R = false) from (by show R = false; rw [HP.out]; rfl))
  clear HP
  go_enter Try.func111, Try.ntmps111
  go_wp2_with fail
  go_ret
  exact ⟨by rw [HF.out]; rfl, rfl⟩
set_option maxHeartbeats 3200000 in
theorem ruleR102 (r : Rw) (q1 q4 : Option Addr) (q2 q3 q5 q6 : Nat) (w : World) (hleft : Lies w (fun _ => True) r.left (.slice q1 q2 q3)) (hright : Lies w (fun _ => True) r.right (.slice q4 q5 q6)) (hx : r.name.size ≤ maxLen) :
    Calls Try.prog 102 #[.agg #[.string r.name, .string r.left.name, .string r.left.text, .bool r.left.leaf, .slice q1 q2 q3, .string r.right.name, .string r.right.text, .bool r.right.leaf, .slice q4 q5 q6]] w fun e w' => e = .returned (.bool (rulB r)) ∧ Below w.heap.size w w' := by
  have HBX := (show Hid (∀ wq : World, Below (w.alloc (.cells #[.string r.name, .string r.left.name, .string r.left.text, .bool r.left.leaf, .slice q1 q2 q3, .string r.right.name, .string r.right.text, .bool r.right.leaf, .slice q4 q5 q6] 98)).heap.size (w.alloc (.cells #[.string r.name, .string r.left.name, .string r.left.text, .bool r.left.leaf, .slice q1 q2 q3, .string r.right.name, .string r.right.text, .bool r.right.leaf, .slice q4 q5 q6] 98)) wq → Box wq w.heap.size 98 [.string r.name, .string r.left.name, .string r.left.text, .bool r.left.leaf, .slice q1 q2 q3, .string r.right.name, .string r.right.text, .bool r.right.leaf, .slice q4 q5 q6]) from fun wq h => (Box.new w 98 _).still h)
  have HBL := (show Hid (Below w.heap.size w (w.alloc (.cells #[.string r.name, .string r.left.name, .string r.left.text, .bool r.left.leaf, .slice q1 q2 q3, .string r.right.name, .string r.right.text, .bool r.right.leaf, .slice q4 q5 q6] 98))) from bel_alloc _ _)
  have HN := (show Hid (∀ wq : World, Calls Try.prog 73 #[.string r.name] wq fun e w' => e = .returned (.bool (nmB r.name)) ∧ w' = wq) from fun wq => iName _ hx wq)
  have HW := (show Hid (∀ wq : World, Calls Try.prog 111 #[.string r.name] wq fun e w' => e = .returned (.bool (pwB r.name)) ∧ w' = wq) from fun wq => word111 _ wq)
  have HPL := (show Hid (∀ wq : World, Below w.heap.size w wq → Calls Try.prog 37 #[r.left.val (.slice q1 q2 q3)] wq fun e w' => e = .returned (.bool (patB r.left)) ∧ Below wq.heap.size wq w') from fun wq h => ipat37 r.left _ wq (hleft.still h))
  have HPR := (show Hid (∀ wq : World, Below w.heap.size w wq → Calls Try.prog 37 #[r.right.val (.slice q4 q5 q6)] wq fun e w' => e = .returned (.bool (patB r.right)) ∧ Below wq.heap.size wq w') from fun wq h => ipat37 r.right _ wq (hright.still h))
  have HVR := (show Hid (∀ wq : World, Calls Try.prog 72 #[r.left.val (.slice q1 q2 q3)] wq fun e w' => e = .returned (.bool (vrB r.left.name r.left.leaf)) ∧ Below wq.heap.size wq w') from fun wq => var72 r.left _ wq rfl)
  have HMM := (show Hid (∀ wq : World, patB r.left = true → Below w.heap.size w wq → Calls Try.prog 39 #[r.left.val (.slice q1 q2 q3), r.left.val (.slice q1 q2 q3)] wq (MdB (mtT r.left r.left []) wq)) from fun wq hp h => matchedM39 r.left r.left _ _ wq (hleft.still h) (hleft.still h) (by
    unfold patB at hp
    rw [Bool.and_eq_true] at hp
    have := ok_cnt hp.1
    omega))
  have HHV := (show Hid (∀ (wq : World) (gb mb : Nat) (a : Option Addr) (cap : Nat), KS wq (mtT r.left r.left []).1 gb mb a cap → Below w.heap.size w wq → Calls Try.prog 53 #[.pointer (some ⟨gb, 0, none⟩), r.right.val (.slice q4 q5 q6)] wq fun e w' => e = .returned (.bool (hvT (mtT r.left r.left []).1 r.right)) ∧ Below wq.heap.size wq w') from fun wq gb mb a cap hk h => have53 _ gb mb a cap r.right _ wq hk (hright.still h))
  have H0 := (show Hid _ from @rul0 r)
  have H1 := (show Hid _ from @rul1 r)
  have H4 := (show Hid _ from @rul4 r)
  have H5 := (show Hid _ from @rul5 r)
  have H6 := (show Hid _ from @rul6 r)
  have H7 := (show Hid _ from @rul7 r)
  clear hleft hright hx
  simp only [Tr.val] at HPL HPR HVR HMM HHV
  generalize r.name = x at *
  generalize r.left.name = n0 at *
  generalize r.left.text = x0 at *
  generalize r.left.leaf = l0 at *
  generalize r.right.name = n1 at *
  generalize r.right.text = x1 at *
  generalize r.right.leaf = l1 at *
  generalize rulB r = RB at *
  cases hnm : nmB x
  · rw [hnm] at HN
    have HF := (show Hid (RB = false) from H0.out hnm)
    clear H0 H1 H4 H5 H6 H7 HVR HPL HPR HW HBX HMM HHV
    go_enter Try.func102, Try.ntmps102
    go_wp2_with fail
    refine Calls.mono (HN.out _) ?_
    rintro e wz ⟨rfl, rfl⟩
    go_wp2_with fail
    go_ret
    exact ⟨by rw [HF.out]; rfl, HBL.out⟩
  rw [hnm] at HN
  cases hpw : pwB x
  case true =>
    have HF := (show Hid (RB = false) from H1.out hpw)
    rw [hpw] at HW
    clear H0 H1 H4 H5 H6 H7 HVR HPL HPR HBX HMM HHV
    go_enter Try.func102, Try.ntmps102
    go_wp2_with fail
    refine Calls.mono (HN.out _) ?_
    rintro e wz ⟨rfl, rfl⟩
    go_wp2_with fail
    refine Calls.mono (HW.out _) ?_
    rintro e wz ⟨rfl, rfl⟩
    go_wp2_with fail
    go_ret
    exact ⟨by rw [HF.out]; rfl, HBL.out⟩
  rw [hpw] at HW
  clear H0 H1
  cases hpl : patB r.left
  case false =>
    have HF := (show Hid (RB = false) from H4.out hpl)
    rw [hpl] at HPL
    clear H4 H5 H6 H7 HVR HPR HMM HHV
    go_enter Try.func102, Try.ntmps102
    go_wp2_with fail
    refine Calls.mono (HN.out _) ?_
    rintro e wz ⟨rfl, rfl⟩
    go_wp2_with fail
    refine Calls.mono (HW.out _) ?_
    rintro e wz ⟨rfl, rfl⟩
    go_wp2_with fail
    refine Calls.mono (HPL.out _ HBL.out) ?_
    rintro e w3 ⟨rfl, hb3⟩
    have HB3 := (show Hid _ from hb3)
    have bx := HBX.out w3 HB3.out
    have c0 : w3.cell? ⟨w.heap.size, 0, none⟩ = some (.string x) := bx.cell 0 (by simp)
    have c1 : w3.cell? ⟨w.heap.size, 1, none⟩ = some (.string n0) := bx.cell 1 (by simp)
    have c2 : w3.cell? ⟨w.heap.size, 2, none⟩ = some (.string x0) := bx.cell 2 (by simp)
    have c3 : w3.cell? ⟨w.heap.size, 3, none⟩ = some (.bool l0) := bx.cell 3 (by simp)
    have c4 : w3.cell? ⟨w.heap.size, 4, none⟩ = some (.slice q1 q2 q3) := bx.cell 4 (by simp)
    have c5 : w3.cell? ⟨w.heap.size, 5, none⟩ = some (.string n1) := bx.cell 5 (by simp)
    have c6 : w3.cell? ⟨w.heap.size, 6, none⟩ = some (.string x1) := bx.cell 6 (by simp)
    have c7 : w3.cell? ⟨w.heap.size, 7, none⟩ = some (.bool l1) := bx.cell 7 (by simp)
    have c8 : w3.cell? ⟨w.heap.size, 8, none⟩ = some (.slice q4 q5 q6) := bx.cell 8 (by simp)
    clear hb3 bx
    go_wp2_with fail
    go_ret
    exact ⟨by rw [HF.out]; rfl, bel_box HB3.out⟩
  cases hpr : patB r.right
  case false =>
    have HF := (show Hid (RB = false) from H5.out hpr)
    rw [hpl] at HPL
    rw [hpr] at HPR
    clear H4 H5 H6 H7 HVR HMM HHV
    go_enter Try.func102, Try.ntmps102
    go_wp2_with fail
    refine Calls.mono (HN.out _) ?_
    rintro e wz ⟨rfl, rfl⟩
    go_wp2_with fail
    refine Calls.mono (HW.out _) ?_
    rintro e wz ⟨rfl, rfl⟩
    go_wp2_with fail
    refine Calls.mono (HPL.out _ HBL.out) ?_
    rintro e w3 ⟨rfl, hb3⟩
    have HB3 := (show Hid _ from hb3)
    have bx := HBX.out w3 HB3.out
    have c0 : w3.cell? ⟨w.heap.size, 0, none⟩ = some (.string x) := bx.cell 0 (by simp)
    have c1 : w3.cell? ⟨w.heap.size, 1, none⟩ = some (.string n0) := bx.cell 1 (by simp)
    have c2 : w3.cell? ⟨w.heap.size, 2, none⟩ = some (.string x0) := bx.cell 2 (by simp)
    have c3 : w3.cell? ⟨w.heap.size, 3, none⟩ = some (.bool l0) := bx.cell 3 (by simp)
    have c4 : w3.cell? ⟨w.heap.size, 4, none⟩ = some (.slice q1 q2 q3) := bx.cell 4 (by simp)
    have c5 : w3.cell? ⟨w.heap.size, 5, none⟩ = some (.string n1) := bx.cell 5 (by simp)
    have c6 : w3.cell? ⟨w.heap.size, 6, none⟩ = some (.string x1) := bx.cell 6 (by simp)
    have c7 : w3.cell? ⟨w.heap.size, 7, none⟩ = some (.bool l1) := bx.cell 7 (by simp)
    have c8 : w3.cell? ⟨w.heap.size, 8, none⟩ = some (.slice q4 q5 q6) := bx.cell 8 (by simp)
    clear hb3 bx
    go_wp2_with fail
    refine Calls.mono (HPR.out _ (bel_box HB3.out)) ?_
    rintro e w4 ⟨rfl, hb4⟩
    clear c0 c1 c2 c3 c4 c5 c6 c7 c8
    have HB4 := (show Hid _ from bel_trans HB3.out hb4)
    have bx := HBX.out w4 HB4.out
    have c0 : w4.cell? ⟨w.heap.size, 0, none⟩ = some (.string x) := bx.cell 0 (by simp)
    have c1 : w4.cell? ⟨w.heap.size, 1, none⟩ = some (.string n0) := bx.cell 1 (by simp)
    have c2 : w4.cell? ⟨w.heap.size, 2, none⟩ = some (.string x0) := bx.cell 2 (by simp)
    have c3 : w4.cell? ⟨w.heap.size, 3, none⟩ = some (.bool l0) := bx.cell 3 (by simp)
    have c4 : w4.cell? ⟨w.heap.size, 4, none⟩ = some (.slice q1 q2 q3) := bx.cell 4 (by simp)
    have c5 : w4.cell? ⟨w.heap.size, 5, none⟩ = some (.string n1) := bx.cell 5 (by simp)
    have c6 : w4.cell? ⟨w.heap.size, 6, none⟩ = some (.string x1) := bx.cell 6 (by simp)
    have c7 : w4.cell? ⟨w.heap.size, 7, none⟩ = some (.bool l1) := bx.cell 7 (by simp)
    have c8 : w4.cell? ⟨w.heap.size, 8, none⟩ = some (.slice q4 q5 q6) := bx.cell 8 (by simp)
    clear hb4 bx HB3
    go_wp2_with fail
    go_ret
    exact ⟨by rw [HF.out]; rfl, bel_box HB4.out⟩
  cases hvr : vrB n0 l0
  case true =>
    have HF := (show Hid (RB = false) from H6.out hvr)
    rw [hpl] at HPL
    rw [hpr] at HPR
    rw [hvr] at HVR
    clear H4 H5 H6 H7 HMM HHV
    go_enter Try.func102, Try.ntmps102
    go_wp2_with fail
    refine Calls.mono (HN.out _) ?_
    rintro e wz ⟨rfl, rfl⟩
    go_wp2_with fail
    refine Calls.mono (HW.out _) ?_
    rintro e wz ⟨rfl, rfl⟩
    go_wp2_with fail
    refine Calls.mono (HPL.out _ HBL.out) ?_
    rintro e w3 ⟨rfl, hb3⟩
    have HB3 := (show Hid _ from hb3)
    have bx := HBX.out w3 HB3.out
    have c0 : w3.cell? ⟨w.heap.size, 0, none⟩ = some (.string x) := bx.cell 0 (by simp)
    have c1 : w3.cell? ⟨w.heap.size, 1, none⟩ = some (.string n0) := bx.cell 1 (by simp)
    have c2 : w3.cell? ⟨w.heap.size, 2, none⟩ = some (.string x0) := bx.cell 2 (by simp)
    have c3 : w3.cell? ⟨w.heap.size, 3, none⟩ = some (.bool l0) := bx.cell 3 (by simp)
    have c4 : w3.cell? ⟨w.heap.size, 4, none⟩ = some (.slice q1 q2 q3) := bx.cell 4 (by simp)
    have c5 : w3.cell? ⟨w.heap.size, 5, none⟩ = some (.string n1) := bx.cell 5 (by simp)
    have c6 : w3.cell? ⟨w.heap.size, 6, none⟩ = some (.string x1) := bx.cell 6 (by simp)
    have c7 : w3.cell? ⟨w.heap.size, 7, none⟩ = some (.bool l1) := bx.cell 7 (by simp)
    have c8 : w3.cell? ⟨w.heap.size, 8, none⟩ = some (.slice q4 q5 q6) := bx.cell 8 (by simp)
    clear hb3 bx
    go_wp2_with fail
    refine Calls.mono (HPR.out _ (bel_box HB3.out)) ?_
    rintro e w4 ⟨rfl, hb4⟩
    clear c0 c1 c2 c3 c4 c5 c6 c7 c8
    have HB4 := (show Hid _ from bel_trans HB3.out hb4)
    have bx := HBX.out w4 HB4.out
    have c0 : w4.cell? ⟨w.heap.size, 0, none⟩ = some (.string x) := bx.cell 0 (by simp)
    have c1 : w4.cell? ⟨w.heap.size, 1, none⟩ = some (.string n0) := bx.cell 1 (by simp)
    have c2 : w4.cell? ⟨w.heap.size, 2, none⟩ = some (.string x0) := bx.cell 2 (by simp)
    have c3 : w4.cell? ⟨w.heap.size, 3, none⟩ = some (.bool l0) := bx.cell 3 (by simp)
    have c4 : w4.cell? ⟨w.heap.size, 4, none⟩ = some (.slice q1 q2 q3) := bx.cell 4 (by simp)
    have c5 : w4.cell? ⟨w.heap.size, 5, none⟩ = some (.string n1) := bx.cell 5 (by simp)
    have c6 : w4.cell? ⟨w.heap.size, 6, none⟩ = some (.string x1) := bx.cell 6 (by simp)
    have c7 : w4.cell? ⟨w.heap.size, 7, none⟩ = some (.bool l1) := bx.cell 7 (by simp)
    have c8 : w4.cell? ⟨w.heap.size, 8, none⟩ = some (.slice q4 q5 q6) := bx.cell 8 (by simp)
    clear hb4 bx HB3
    go_wp2_with fail
    refine Calls.mono (HVR.out _) ?_
    rintro e w5 ⟨rfl, hb5⟩
    clear c0 c1 c2 c3 c4 c5 c6 c7 c8
    have HB5 := (show Hid _ from bel_trans HB4.out hb5)
    have bx := HBX.out w5 HB5.out
    have c0 : w5.cell? ⟨w.heap.size, 0, none⟩ = some (.string x) := bx.cell 0 (by simp)
    have c1 : w5.cell? ⟨w.heap.size, 1, none⟩ = some (.string n0) := bx.cell 1 (by simp)
    have c2 : w5.cell? ⟨w.heap.size, 2, none⟩ = some (.string x0) := bx.cell 2 (by simp)
    have c3 : w5.cell? ⟨w.heap.size, 3, none⟩ = some (.bool l0) := bx.cell 3 (by simp)
    have c4 : w5.cell? ⟨w.heap.size, 4, none⟩ = some (.slice q1 q2 q3) := bx.cell 4 (by simp)
    have c5 : w5.cell? ⟨w.heap.size, 5, none⟩ = some (.string n1) := bx.cell 5 (by simp)
    have c6 : w5.cell? ⟨w.heap.size, 6, none⟩ = some (.string x1) := bx.cell 6 (by simp)
    have c7 : w5.cell? ⟨w.heap.size, 7, none⟩ = some (.bool l1) := bx.cell 7 (by simp)
    have c8 : w5.cell? ⟨w.heap.size, 8, none⟩ = some (.slice q4 q5 q6) := bx.cell 8 (by simp)
    clear hb5 bx HB4
    go_wp2_with fail
    go_ret
    exact ⟨by rw [HF.out]; rfl, bel_box HB5.out⟩
  have HF := (show Hid (RB = hvT (mtT r.left r.left []).1 r.right) from H7.out hnm hpw hpl hpr hvr)
  have HM2 := (show Hid _ from fun (wq : World) (h : Below w.heap.size w wq) => HMM.out wq hpl h)
  rw [hpl] at HPL
  rw [hpr] at HPR
  rw [hvr] at HVR
  clear H4 H5 H6 H7 HMM hpl hpr hvr hpw hnm
  unfold MdB at HM2
  generalize hvT (mtT r.left r.left []).1 r.right = HV at *
  generalize mtT r.left r.left [] = MR at *
  · skip
    go_enter Try.func102, Try.ntmps102
    go_wp2_with fail
    refine Calls.mono (HN.out _) ?_
    rintro e wz ⟨rfl, rfl⟩
    go_wp2_with fail
    refine Calls.mono (HW.out _) ?_
    rintro e wz ⟨rfl, rfl⟩
    go_wp2_with fail
    refine Calls.mono (HPL.out _ HBL.out) ?_
    rintro e w3 ⟨rfl, hb3⟩
    have HB3 := (show Hid _ from hb3)
    have bx := HBX.out w3 HB3.out
    have c0 : w3.cell? ⟨w.heap.size, 0, none⟩ = some (.string x) := bx.cell 0 (by simp)
    have c1 : w3.cell? ⟨w.heap.size, 1, none⟩ = some (.string n0) := bx.cell 1 (by simp)
    have c2 : w3.cell? ⟨w.heap.size, 2, none⟩ = some (.string x0) := bx.cell 2 (by simp)
    have c3 : w3.cell? ⟨w.heap.size, 3, none⟩ = some (.bool l0) := bx.cell 3 (by simp)
    have c4 : w3.cell? ⟨w.heap.size, 4, none⟩ = some (.slice q1 q2 q3) := bx.cell 4 (by simp)
    have c5 : w3.cell? ⟨w.heap.size, 5, none⟩ = some (.string n1) := bx.cell 5 (by simp)
    have c6 : w3.cell? ⟨w.heap.size, 6, none⟩ = some (.string x1) := bx.cell 6 (by simp)
    have c7 : w3.cell? ⟨w.heap.size, 7, none⟩ = some (.bool l1) := bx.cell 7 (by simp)
    have c8 : w3.cell? ⟨w.heap.size, 8, none⟩ = some (.slice q4 q5 q6) := bx.cell 8 (by simp)
    clear hb3 bx
    go_wp2_with fail
    refine Calls.mono (HPR.out _ (bel_box HB3.out)) ?_
    rintro e w4 ⟨rfl, hb4⟩
    clear c0 c1 c2 c3 c4 c5 c6 c7 c8
    have HB4 := (show Hid _ from bel_trans HB3.out hb4)
    have bx := HBX.out w4 HB4.out
    have c0 : w4.cell? ⟨w.heap.size, 0, none⟩ = some (.string x) := bx.cell 0 (by simp)
    have c1 : w4.cell? ⟨w.heap.size, 1, none⟩ = some (.string n0) := bx.cell 1 (by simp)
    have c2 : w4.cell? ⟨w.heap.size, 2, none⟩ = some (.string x0) := bx.cell 2 (by simp)
    have c3 : w4.cell? ⟨w.heap.size, 3, none⟩ = some (.bool l0) := bx.cell 3 (by simp)
    have c4 : w4.cell? ⟨w.heap.size, 4, none⟩ = some (.slice q1 q2 q3) := bx.cell 4 (by simp)
    have c5 : w4.cell? ⟨w.heap.size, 5, none⟩ = some (.string n1) := bx.cell 5 (by simp)
    have c6 : w4.cell? ⟨w.heap.size, 6, none⟩ = some (.string x1) := bx.cell 6 (by simp)
    have c7 : w4.cell? ⟨w.heap.size, 7, none⟩ = some (.bool l1) := bx.cell 7 (by simp)
    have c8 : w4.cell? ⟨w.heap.size, 8, none⟩ = some (.slice q4 q5 q6) := bx.cell 8 (by simp)
    clear hb4 bx HB3
    go_wp2_with fail
    refine Calls.mono (HVR.out _) ?_
    rintro e w5 ⟨rfl, hb5⟩
    clear c0 c1 c2 c3 c4 c5 c6 c7 c8
    have HB5 := (show Hid _ from bel_trans HB4.out hb5)
    have bx := HBX.out w5 HB5.out
    have c0 : w5.cell? ⟨w.heap.size, 0, none⟩ = some (.string x) := bx.cell 0 (by simp)
    have c1 : w5.cell? ⟨w.heap.size, 1, none⟩ = some (.string n0) := bx.cell 1 (by simp)
    have c2 : w5.cell? ⟨w.heap.size, 2, none⟩ = some (.string x0) := bx.cell 2 (by simp)
    have c3 : w5.cell? ⟨w.heap.size, 3, none⟩ = some (.bool l0) := bx.cell 3 (by simp)
    have c4 : w5.cell? ⟨w.heap.size, 4, none⟩ = some (.slice q1 q2 q3) := bx.cell 4 (by simp)
    have c5 : w5.cell? ⟨w.heap.size, 5, none⟩ = some (.string n1) := bx.cell 5 (by simp)
    have c6 : w5.cell? ⟨w.heap.size, 6, none⟩ = some (.string x1) := bx.cell 6 (by simp)
    have c7 : w5.cell? ⟨w.heap.size, 7, none⟩ = some (.bool l1) := bx.cell 7 (by simp)
    have c8 : w5.cell? ⟨w.heap.size, 8, none⟩ = some (.slice q4 q5 q6) := bx.cell 8 (by simp)
    clear hb5 bx HB4
    go_wp2_with fail
    refine Calls.mono (HM2.out _ (bel_box HB5.out)) ?_
    rintro e w6 ⟨mb, ba, cap, B, sv, rfl, hb6, ho6, hl6, hm6⟩
    clear c0 c1 c2 c3 c4 c5 c6 c7 c8
    have HB6 := (show Hid _ from bel_trans HB5.out hb6)
    have bx := HBX.out w6 HB6.out
    have c0 : w6.cell? ⟨w.heap.size, 0, none⟩ = some (.string x) := bx.cell 0 (by simp)
    have c1 : w6.cell? ⟨w.heap.size, 1, none⟩ = some (.string n0) := bx.cell 1 (by simp)
    have c2 : w6.cell? ⟨w.heap.size, 2, none⟩ = some (.string x0) := bx.cell 2 (by simp)
    have c3 : w6.cell? ⟨w.heap.size, 3, none⟩ = some (.bool l0) := bx.cell 3 (by simp)
    have c4 : w6.cell? ⟨w.heap.size, 4, none⟩ = some (.slice q1 q2 q3) := bx.cell 4 (by simp)
    have c5 : w6.cell? ⟨w.heap.size, 5, none⟩ = some (.string n1) := bx.cell 5 (by simp)
    have c6 : w6.cell? ⟨w.heap.size, 6, none⟩ = some (.string x1) := bx.cell 6 (by simp)
    have c7 : w6.cell? ⟨w.heap.size, 7, none⟩ = some (.bool l1) := bx.cell 7 (by simp)
    have c8 : w6.cell? ⟨w.heap.size, 8, none⟩ = some (.slice q4 q5 q6) := bx.cell 8 (by simp)
    have HKS := (show Hid (KS (w6.alloc (.cells #[.map (some mb), .slice ba MR.1.length cap] 67)) MR.1 w6.heap.size mb ba cap) from (by
      refine ⟨Box.new w6 67 _, hm6.keep ((bel_alloc w6 _).block _ hm6.lt), ?_⟩
      exact (own_brd ho6 (fun i hi => (hl6 i hi).mono (fun _ _ => trivial))).still (bel_alloc w6 _)))
    have bx7 := bx.still (bel_alloc w6 (.cells #[.map (some mb), .slice ba MR.1.length cap] 67))
    have d5 : (w6.alloc (.cells #[.map (some mb), .slice ba MR.1.length cap] 67)).cell? ⟨w.heap.size, 5, none⟩ = some (.string n1) := bx7.cell 5 (by simp)
    have d6 : (w6.alloc (.cells #[.map (some mb), .slice ba MR.1.length cap] 67)).cell? ⟨w.heap.size, 6, none⟩ = some (.string x1) := bx7.cell 6 (by simp)
    have d7 : (w6.alloc (.cells #[.map (some mb), .slice ba MR.1.length cap] 67)).cell? ⟨w.heap.size, 7, none⟩ = some (.bool l1) := bx7.cell 7 (by simp)
    have d8 : (w6.alloc (.cells #[.map (some mb), .slice ba MR.1.length cap] 67)).cell? ⟨w.heap.size, 8, none⟩ = some (.slice q4 q5 q6) := bx7.cell 8 (by simp)
    have HB7 := (show Hid _ from bel_trans (bel_box HB6.out) (bel_alloc w6 (.cells #[.map (some mb), .slice ba MR.1.length cap] 67)))
    have HCH := (show Hid _ from HHV.out _ _ _ _ _ HKS.out HB7.out)
    clear hb6 ho6 hl6 hm6 bx bx7 HB5 HM2 HKS HHV
    go_wp2_with fail
    refine Calls.mono HCH.out ?_
    rintro e w8 ⟨rfl, hb8⟩
    have HB8 := (show Hid _ from bel_trans HB7.out hb8)
    clear d5 d6 d7 d8
    clear c0 c1 c2 c3 c4 c5 c6 c7 c8
    clear hb8 HB7 HCH
    go_wp2_with fail
    go_ret
    exact ⟨by rw [HF.out]; rfl, HB8.out⟩
end Go.Proofs.Yteomgkcgjkbppaa
