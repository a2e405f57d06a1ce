import Derived.Test.YtboffildchoelaaKg
/-! The program: a rule is right; all rules are. -/
namespace Go.Proofs.Ytboffildchoelaa
open Go.RowKit Go.Deep Go.Maps Go.WideMaps Go.ChangeMaps Go.Lib
set_option linter.unusedVariables false
set_option maxRecDepth 100000
set_option linter.unusedSimpArgs false

theorem eqS_w2 (n : ByteArray) : (n.toList == [97, 108, 108]) = eqS n (⟨#[97, 108, 108]⟩ : ByteArray) := by
  have hv : ((⟨#[97, 108, 108]⟩ : ByteArray) : ByteArray).toList = [97, 108, 108] := by rw [ByteArray.toList_eq] <;> rfl
  by_cases e : n = (⟨#[97, 108, 108]⟩ : ByteArray)
  · subst e
    rw [eqS_refl, hv]
    rfl
  · rw [eqS_no e, ← hv]
    exact ne_bytes e
theorem eqS_w3 (n : ByteArray) : (n.toList == [111, 110, 101]) = eqS n (⟨#[111, 110, 101]⟩ : ByteArray) := by
  have hv : ((⟨#[111, 110, 101]⟩ : ByteArray) : ByteArray).toList = [111, 110, 101] := by rw [ByteArray.toList_eq] <;> rfl
  by_cases e : n = (⟨#[111, 110, 101]⟩ : ByteArray)
  · subst e
    rw [eqS_refl, hv]
    rfl
  · rw [eqS_no e, ← hv]
    exact ne_bytes e
theorem eqS_w4 (n : ByteArray) : (n.toList == [116, 114, 121]) = eqS n (⟨#[116, 114, 121]⟩ : ByteArray) := by
  have hv : ((⟨#[116, 114, 121]⟩ : ByteArray) : ByteArray).toList = [116, 114, 121] := by rw [ByteArray.toList_eq] <;> rfl
  by_cases e : n = (⟨#[116, 114, 121]⟩ : ByteArray)
  · subst e
    rw [eqS_refl, hv]
    rfl
  · rw [eqS_no e, ← hv]
    exact ne_bytes e
theorem eqS_w5 (n : ByteArray) : (n.toList == [114, 101, 112, 101, 97, 116]) = eqS n (⟨#[114, 101, 112, 101, 97, 116]⟩ : ByteArray) := by
  have hv : ((⟨#[114, 101, 112, 101, 97, 116]⟩ : ByteArray) : ByteArray).toList = [114, 101, 112, 101, 97, 116] := by rw [ByteArray.toList_eq] <;> rfl
  by_cases e : n = (⟨#[114, 101, 112, 101, 97, 116]⟩ : ByteArray)
  · subst e
    rw [eqS_refl, hv]
    rfl
  · rw [eqS_no e, ← hv]
    exact ne_bytes e
theorem eqS_w6 (n : ByteArray) : (n.toList == [100, 111, 119, 110]) = eqS n (⟨#[100, 111, 119, 110]⟩ : ByteArray) := by
  have hv : ((⟨#[100, 111, 119, 110]⟩ : ByteArray) : ByteArray).toList = [100, 111, 119, 110] := by rw [ByteArray.toList_eq] <;> rfl
  by_cases e : n = (⟨#[100, 111, 119, 110]⟩ : ByteArray)
  · subst e
    rw [eqS_refl, hv]
    rfl
  · rw [eqS_no e, ← hv]
    exact ne_bytes e
theorem eqS_w7 (n : ByteArray) : (n.toList == [117, 112]) = eqS n (⟨#[117, 112]⟩ : ByteArray) := by
  have hv : ((⟨#[117, 112]⟩ : ByteArray) : ByteArray).toList = [117, 112] := by rw [ByteArray.toList_eq] <;> rfl
  by_cases e : n = (⟨#[117, 112]⟩ : ByteArray)
  · subst e
    rw [eqS_refl, hv]
    rfl
  · rw [eqS_no e, ← hv]
    exact ne_bytes e
theorem eqS_w8 (n : ByteArray) : (n.toList == [105, 110, 110, 101, 114]) = eqS n (⟨#[105, 110, 110, 101, 114]⟩ : ByteArray) := by
  have hv : ((⟨#[105, 110, 110, 101, 114]⟩ : ByteArray) : ByteArray).toList = [105, 110, 110, 101, 114] := by rw [ByteArray.toList_eq] <;> rfl
  by_cases e : n = (⟨#[105, 110, 110, 101, 114]⟩ : ByteArray)
  · subst e
    rw [eqS_refl, hv]
    rfl
  · rw [eqS_no e, ← hv]
    exact ne_bytes e
theorem pwB_nine (s : ByteArray) : pwB s = (eqS idN s || (eqS failN s || (eqS (⟨#[97, 108, 108]⟩ : ByteArray) s || (eqS (⟨#[111, 110, 101]⟩ : ByteArray) s || (eqS (⟨#[116, 114, 121]⟩ : ByteArray) s || (eqS (⟨#[114, 101, 112, 101, 97, 116]⟩ : ByteArray) s || (eqS (⟨#[100, 111, 119, 110]⟩ : ByteArray) s || (eqS (⟨#[117, 112]⟩ : ByteArray) s || (eqS (⟨#[105, 110, 110, 101, 114]⟩ : ByteArray) s || false))))))))) := rfl
theorem eqS_comm (a b : ByteArray) : eqS a b = eqS b a := by
  unfold eqS
  exact decide_eq_decide.2 ⟨Eq.symm, Eq.symm⟩
set_option maxHeartbeats 1600000 in
theorem word111 (s : ByteArray) (w : World) :
    Calls Try.prog 54 #[.string s] w fun e w' => e = .returned (.bool (pwB s)) ∧ w' = w := by
  have HP := (show Hid _ from pwB_nine s)
  have g0 : (s.toList == [105, 100]) = eqS idN s := (eqS_id s).trans (eqS_comm _ _)
  have g1 : (s.toList == [102, 97, 105, 108]) = eqS failN s := (eqS_fail s).trans (eqS_comm _ _)
  have g2 : (s.toList == [97, 108, 108]) = eqS (⟨#[97, 108, 108]⟩ : ByteArray) s := (eqS_w2 s).trans (eqS_comm _ _)
  have g3 : (s.toList == [111, 110, 101]) = eqS (⟨#[111, 110, 101]⟩ : ByteArray) s := (eqS_w3 s).trans (eqS_comm _ _)
  have g4 : (s.toList == [116, 114, 121]) = eqS (⟨#[116, 114, 121]⟩ : ByteArray) s := (eqS_w4 s).trans (eqS_comm _ _)
  have g5 : (s.toList == [114, 101, 112, 101, 97, 116]) = eqS (⟨#[114, 101, 112, 101, 97, 116]⟩ : ByteArray) s := (eqS_w5 s).trans (eqS_comm _ _)
  have g6 : (s.toList == [100, 111, 119, 110]) = eqS (⟨#[100, 111, 119, 110]⟩ : ByteArray) s := (eqS_w6 s).trans (eqS_comm _ _)
  have g7 : (s.toList == [117, 112]) = eqS (⟨#[117, 112]⟩ : ByteArray) s := (eqS_w7 s).trans (eqS_comm _ _)
  have g8 : (s.toList == [105, 110, 110, 101, 114]) = eqS (⟨#[105, 110, 110, 101, 114]⟩ : ByteArray) s := (eqS_w8 s).trans (eqS_comm _ _)
  generalize pwB s = R at *
  generalize eqS idN s = b0 at *
  generalize eqS failN s = b1 at *
  generalize eqS (⟨#[97, 108, 108]⟩ : ByteArray) s = b2 at *
  generalize eqS (⟨#[111, 110, 101]⟩ : ByteArray) s = b3 at *
  generalize eqS (⟨#[116, 114, 121]⟩ : ByteArray) s = b4 at *
  generalize eqS (⟨#[114, 101, 112, 101, 97, 116]⟩ : ByteArray) s = b5 at *
  generalize eqS (⟨#[100, 111, 119, 110]⟩ : ByteArray) s = b6 at *
  generalize eqS (⟨#[117, 112]⟩ : ByteArray) s = b7 at *
  generalize eqS (⟨#[105, 110, 110, 101, 114]⟩ : ByteArray) s = b8 at *
  cases b0
  case true =>
    have HF := (show Hid (R = true) from (by show R = true; rw [HP.out]; simp))
    clear HP
    go_enter Try.func54, Try.ntmps54
    go_wp2_with fail
    go_ret
    exact ⟨by rw [HF.out]; rfl, rfl⟩
  cases b1
  case true =>
    have HF := (show Hid (R = true) from (by show R = true; rw [HP.out]; simp))
    clear HP
    go_enter Try.func54, Try.ntmps54
    go_wp2_with fail
    go_ret
    exact ⟨by rw [HF.out]; rfl, rfl⟩
  cases b2
  case true =>
    have HF := (show Hid (R = true) from (by show R = true; rw [HP.out]; simp))
    clear HP
    go_enter Try.func54, Try.ntmps54
    go_wp2_with fail
    go_ret
    exact ⟨by rw [HF.out]; rfl, rfl⟩
  cases b3
  case true =>
    have HF := (show Hid (R = true) from (by show R = true; rw [HP.out]; simp))
    clear HP
    go_enter Try.func54, Try.ntmps54
    go_wp2_with fail
    go_ret
    exact ⟨by rw [HF.out]; rfl, rfl⟩
  cases b4
  case true =>
    have HF := (show Hid (R = true) from (by show R = true; rw [HP.out]; simp))
    clear HP
    go_enter Try.func54, Try.ntmps54
    go_wp2_with fail
    go_ret
    exact ⟨by rw [HF.out]; rfl, rfl⟩
  cases b5
  case true =>
    have HF := (show Hid (R = true) from (by show R = true; rw [HP.out]; simp))
    clear HP
    go_enter Try.func54, Try.ntmps54
    go_wp2_with fail
    go_ret
    exact ⟨by rw [HF.out]; rfl, rfl⟩
  cases b6
  case true =>
    have HF := (show Hid (R = true) from (by show R = true; rw [HP.out]; simp))
    clear HP
    go_enter Try.func54, Try.ntmps54
    go_wp2_with fail
    go_ret
    exact ⟨by rw [HF.out]; rfl, rfl⟩
  cases b7
  case true =>
    have HF := (show Hid (R = true) from (by show R = true; rw [HP.out]; simp))
    clear HP
    go_enter Try.func54, Try.ntmps54
    go_wp2_with fail
    go_ret
    exact ⟨by rw [HF.out]; rfl, rfl⟩
  cases b8
  case true =>
    have HF := (show Hid (R = true) from (by show R = true; rw [HP.out]; simp))
    clear HP
    go_enter Try.func54, Try.ntmps54
    go_wp2_with fail
    go_ret
    exact ⟨by rw [HF.out]; rfl, rfl⟩
  have HF := (show Hid (R = false) from (by show R = false; rw [HP.out]; rfl))
  clear HP
  go_enter Try.func54, Try.ntmps54
  go_wp2_with fail
  go_ret
  exact ⟨by rw [HF.out]; rfl, rfl⟩
end Go.Proofs.Ytboffildchoelaa
