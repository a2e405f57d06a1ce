import Derived.Test.YthmdoplickpmaaiPut5
import Derived.Test.YthmdoplickpmaaiPut6
namespace Go.Proofs.Ythmdoplickpmaai
open Go.RowKit Go.Deep Go.Lib
set_option linter.unusedVariables false
set_option maxRecDepth 100000
set_option linter.unusedSimpArgs false

/-- Two trees' boxes. -/
def Held8 (t u : Tr) (v uv : Value) (h : Nat) (w : World) : Prop := Four w h (.string t.name) (.string t.text) (.bool t.leaf) v ∧ Four w (h + 1) (.string u.name) (.string u.text) (.bool u.leaf) uv
theorem Held8.still {t u : Tr} {v uv : Value} {h : Nat} {w w' : World} (H : Held8 t u v uv h w) (hb : Below w.heap.size w w') : Held8 t u v uv h w' := ⟨H.1.still hb, H.2.still hb⟩
theorem form_leaf {w : World} {S : Nat → Prop} {t : Tr} {f : Value} (h : Form w S t f) (hl : t.leaf = true) : ∃ X, f = .iface 83 X := by
  rcases h.out with ⟨_, _, _, rfl⟩ | ⟨hle, _⟩
  · exact ⟨_, rfl⟩
  · rw [hl] at hle; cases hle
theorem form_node {w : World} {S : Nat → Prop} {t : Tr} {f : Value} (h : Form w S t f) (hl : t.leaf = false) : ∃ X, f = .iface 86 X := by
  rcases h.out with ⟨hle, _⟩ | ⟨_, _, _, _, _, rfl, _⟩
  · rw [hl] at hle; cases hle
  · exact ⟨_, rfl⟩
theorem put3_leaf {X pv uv : Value} {w : World} {R : Ending → World → Prop} (h : Put3 (.iface 83 X) pv uv w R) : Calls Try.prog 124 #[X, pv, uv] w R := by
  rcases h with ⟨Y, e, h⟩ | ⟨Y, e, h⟩
  · cases e; exact h
  · cases e
theorem put3_node {X pv uv : Value} {w : World} {R : Ending → World → Prop} (h : Put3 (.iface 86 X) pv uv w R) : Calls Try.prog 129 #[X, pv, uv] w R := by
  rcases h with ⟨Y, e, h⟩ | ⟨Y, e, h⟩
  · cases e
  · cases e; exact h
/-- The program's put, called through the interface. -/
theorem put_none {n : Nat} {X pv : Value} {T : Nat} {Y : Value} {w : World} {S : Nat → Prop} {q : Option Tr} (hq : q = none) (h : Calls Try.prog n #[X, pv, .iface T Y] w fun e w' => PutAns q S w e w') :
    Calls Try.prog n #[X, pv, .iface T Y] w fun e w' => ∃ X, e = .returned (.tuple #[X, .bool false]) ∧ Below w.heap.size w w' := Calls.mono h (fun e w' h => by
  rcases h with ⟨_, _, _, h, _⟩ | ⟨_, X, he, hb⟩
  · rw [hq] at h; cases h
  · exact ⟨X, he, hb⟩)
theorem put_some {n : Nat} {X pv : Value} {T : Nat} {Y : Value} {w : World} {S : Nat → Prop} {q : Option Tr} {o : Tr} (hq : q = some o) (h : Calls Try.prog n #[X, pv, .iface T Y] w fun e w' => PutAns q S w e w') :
    Calls Try.prog n #[X, pv, .iface T Y] w fun e w' => ∃ T2 X2, e = .returned (.tuple #[.iface T2 X2, .bool true]) ∧ Below w.heap.size w w' ∧ Form w' (fun b => S b ∨ w.heap.size ≤ b) o (.iface T2 X2) := Calls.mono h (fun e w' h => by
  rcases h with ⟨o', T2, X2, h, he, hb, hf⟩ | ⟨h, _⟩
  · rw [hq] at h; cases h; exact ⟨T2, X2, he, hb, hf⟩
  · rw [hq] at h; cases h)

set_option maxHeartbeats 1600000 in
theorem iPut_any {S S' S2 : Nat → Prop} (t u : Tr) (l : List Int) (v pv uv : Value) (w : World) (hl : Lies w S t v) (hp : Ints w S' l pv) (hu : Lies w S2 u uv) (hwt : t.wt + u.wt ≤ 1048576) :
    Calls Try.prog 18 #[t.val v, pv, u.val uv] w fun e w' => Ans (putR t l u) w e w' := by
  have hok := fun (w' : World) (hw : Below w.heap.size w w') => iOK_any t v w' (hl.still hw)
  have hok2 := fun (w' : World) (hw : Below w.heap.size w w') => iOK_any u uv w' (hu.still hw)
  have hin := fun (w' : World) (hw : Below w.heap.size w w') => inward_any t v w' (hl.still hw) (by omega)
  have hin2 := fun (w' : World) (hw : Below w.heap.size w w') => inward_any u uv w' (hu.still hw) (by omega)
  have hip := fun (w' : World) (hw : Below w.heap.size w w') => hp.any.still hw
  obtain ⟨a, len, cap, rfl⟩ := hl.form
  obtain ⟨ua, ulen, ucap, rfl⟩ := hu.form
  obtain ⟨pa, plen, pcap, rfl⟩ := hp.form
  have HO := (show Hid _ from hok); clear hok
  have HO2 := (show Hid _ from hok2); clear hok2
  have HN := (show Hid _ from hin); clear hin
  have HN2 := (show Hid _ from hin2); clear hin2
  have HIP := (show Hid _ from hip); clear hip
  clear hl hp hu
  simp only [Tr.val]
  go_enter Try.func18, Try.ntmps18
  go_wp2_with fail
  have hbw0 : Below w.heap.size w (((w.alloc (.cells #[.string t.name, .string t.text, .bool t.leaf, .slice a len cap] 29)).alloc (.cells #[.string u.name, .string u.text, .bool u.leaf, .slice ua ulen ucap] 29)).alloc (.cells #[.string ByteArray.empty, .string ByteArray.empty, .bool false, .slice none 0 0] 29)) := ((bel_alloc _ _).alloc (by simp) _).alloc (by simp; omega) _
  have B0 : Box4 (((w.alloc (.cells #[.string t.name, .string t.text, .bool t.leaf, .slice a len cap] 29)).alloc (.cells #[.string u.name, .string u.text, .bool u.leaf, .slice ua ulen ucap] 29)).alloc (.cells #[.string ByteArray.empty, .string ByteArray.empty, .bool false, .slice none 0 0] 29)) w.heap.size (.string t.name) (.string t.text) (.bool t.leaf) (.slice a len cap) :=
    ((Box4.new w _ _ _ _).still (bel_alloc _ _)).still (bel_alloc _ _)
  have U0 : Box4 (((w.alloc (.cells #[.string t.name, .string t.text, .bool t.leaf, .slice a len cap] 29)).alloc (.cells #[.string u.name, .string u.text, .bool u.leaf, .slice ua ulen ucap] 29)).alloc (.cells #[.string ByteArray.empty, .string ByteArray.empty, .bool false, .slice none 0 0] 29)) (w.heap.size + 1) (.string u.name) (.string u.text) (.bool u.leaf) (.slice ua ulen ucap) := by
    have := (Box4.new (w.alloc (.cells #[.string t.name, .string t.text, .bool t.leaf, .slice a len cap] 29)) (.string u.name) (.string u.text) (.bool u.leaf) (.slice ua ulen ucap)).still (bel_alloc _ (.cells #[.string ByteArray.empty, .string ByteArray.empty, .bool false, .slice none 0 0] 29))
    simp only [World.size_alloc] at this
    exact this
  have R0 : Box4 (((w.alloc (.cells #[.string t.name, .string t.text, .bool t.leaf, .slice a len cap] 29)).alloc (.cells #[.string u.name, .string u.text, .bool u.leaf, .slice ua ulen ucap] 29)).alloc (.cells #[.string ByteArray.empty, .string ByteArray.empty, .bool false, .slice none 0 0] 29)) (w.heap.size + 2) (.string ByteArray.empty) (.string ByteArray.empty) (.bool false) (.slice none 0 0) := by
    have := Box4.new ((w.alloc (.cells #[.string t.name, .string t.text, .bool t.leaf, .slice a len cap] 29)).alloc (.cells #[.string u.name, .string u.text, .bool u.leaf, .slice ua ulen ucap] 29)) (.string ByteArray.empty) (.string ByteArray.empty) (.bool false) (.slice none 0 0)
    simp only [World.size_alloc] at this
    exact this
  refine Calls.mono (HO.out _ hbw0) ?_
  rintro e w1 ⟨rfl, hb1⟩
  have HB1 := (show Hid _ from (⟨B0.still hb1, U0.still hb1, R0.still hb1, hbw0.trans (hb1.mono (by simp; omega))⟩ : Box4 w1 _ _ _ _ _ ∧ Box4 w1 _ _ _ _ _ ∧ Box4 w1 _ _ _ _ _ ∧ Below _ w w1))
  have hsz1 : w.heap.size + 3 ≤ w1.heap.size := by have := hb1.size; simp at this; omega
  obtain ⟨V0, V1, V2, V3⟩ := Box4.cells HB1.out.2.1
  clear B0 U0 R0 hbw0 hb1
  cases hok : t.ok
  · have HA : Hid (putR t l u = (zt, 1)) := putR_bad (.inl hok)
    obtain ⟨Z0, Z1, Z2, Z3⟩ := Box4.cells HB1.out.2.2.1
    have y0 := Box4.frozen HB1.out.2.2.1 0
    have y1 := Box4.frozen HB1.out.2.2.1 1
    have y2 := Box4.frozen HB1.out.2.2.1 2
    have y3 := Box4.frozen HB1.out.2.2.1 3
    clear hok
    go_wp2_with fail
    refine bodyPost_ret (v := .tuple #[.agg #[.string ByteArray.empty, .string ByteArray.empty, .bool false, .slice none 0 0], .int .i64 1]) (by simp [results, Try.results18, go_sem, Z0, Z1, Z2, Z3]; rfl) rfl ?_
    rw [HA.out]
    exact ⟨none, 0, 0, rfl, (((HB1.out.2.2.2.setCell (by simp; omega) _).setCell (by simp; omega) _).setCell (by simp; omega) _).setCell (by simp; omega) _, zt_own _ _ _⟩
  · have HOK := (show Hid _ from hok); clear hok
    go_wp2_with fail
    refine Calls.mono (HO2.out _ HB1.out.2.2.2) ?_
    rintro e w2 ⟨rfl, hb2⟩
    have HB2 := (show Hid _ from (⟨Box4.still HB1.out.1 hb2, Box4.still HB1.out.2.1 hb2, Box4.still HB1.out.2.2.1 hb2, bel_trans HB1.out.2.2.2 hb2⟩ : Box4 w2 _ _ _ _ _ ∧ Box4 w2 _ _ _ _ _ ∧ Box4 w2 _ _ _ _ _ ∧ Below _ w w2))
    have hsz2 : w.heap.size + 3 ≤ w2.heap.size := by have := hb2.size; omega
    clear V0 V1 V2 V3 HB1 hb2
    cases hok : u.ok
    · have HA : Hid (putR t l u = (zt, 1)) := putR_bad (.inr hok)
      obtain ⟨Z0, Z1, Z2, Z3⟩ := Box4.cells HB2.out.2.2.1
      have y0 := Box4.frozen HB2.out.2.2.1 0
      have y1 := Box4.frozen HB2.out.2.2.1 1
      have y2 := Box4.frozen HB2.out.2.2.1 2
      have y3 := Box4.frozen HB2.out.2.2.1 3
      clear hok
      go_wp2_with fail
      refine bodyPost_ret (v := .tuple #[.agg #[.string ByteArray.empty, .string ByteArray.empty, .bool false, .slice none 0 0], .int .i64 1]) (by simp [results, Try.results18, go_sem, Z0, Z1, Z2, Z3]; rfl) rfl ?_
      rw [HA.out]
      exact ⟨none, 0, 0, rfl, (((HB2.out.2.2.2.setCell (by simp; omega) _).setCell (by simp; omega) _).setCell (by simp; omega) _).setCell (by simp; omega) _, zt_own _ _ _⟩
    · have HOK2 := (show Hid _ from hok); clear hok
      have hS2 : Held8 t u (.slice a len cap) (.slice ua ulen ucap) w.heap.size w2 := ⟨Box4.cells HB2.out.1, Box4.cells HB2.out.2.1⟩
      have hdr := (Below.refl w2.heap.size w2).drew
      have hS2d := hS2.still hdr
      have HS2 := (show Hid _ from hS2); clear hS2
      have hrt := (ok_right HOK.out).1
      have HRT := (show Hid _ from hrt); clear hrt
      have hrec := fun (w' : World) (f uf : Value) (hw : Below w.heap.size w w') (hf : Form w' (fun b => w2.heap.size ≤ b) t f) (hg : Form w' (fun b => w2.heap.size ≤ b) u uf) => put_any l _ t u f (.slice pa plen pcap) uf w' hf (HIP.out w' hw) hg HRT.out (by omega)
      have HREC := (show Hid _ from hrec); clear hrec
      have hbd : Below w.heap.size w w2.drew := Below.drew HB2.out.2.2.2
      have HDR := (show Hid _ from (⟨hdr, hbd⟩ : _ ∧ _)); clear hdr hbd
      cases hlf : t.leaf
      · have HLF := (show Hid _ from hlf)
        clear hlf
        cases hq : putAt l t u with
        | none =>
          have HA : Hid (putR t l u = (zt, 4)) := putR_place HOK.out HOK2.out hq
          have HQ := (show Hid _ from hq); clear hq
          go_wp2_with fail
          have hnm := method_putN
          have hnA := nilA_putN
          go_region_held3 (fun w' => (w'.cell? ⟨w.heap.size, 0, none⟩ = some (.string t.name) ∧ w'.cell? ⟨w.heap.size, 1, none⟩ = some (.string t.text) ∧ w'.cell? ⟨w.heap.size, 2, none⟩ = some (.bool t.leaf) ∧ w'.cell? ⟨w.heap.size, 3, none⟩ = some (.slice a len cap)) ∧ w'.cell? ⟨w.heap.size + 1, 0, none⟩ = some (.string u.name) ∧ w'.cell? ⟨w.heap.size + 1, 1, none⟩ = some (.string u.text) ∧ w'.cell? ⟨w.heap.size + 1, 2, none⟩ = some (.bool u.leaf) ∧ w'.cell? ⟨w.heap.size + 1, 3, none⟩ = some (.slice ua ulen ucap)) (first | exact hS2d | exact hS3 | exact hS4 | exact hS5)
            (first
            | (go_at_call 129; refine Calls.mono HC5.out ?_; rintro e w5 ⟨X5, rfl, hb5⟩; have hS5 := Held8.still HS2.out (bel_trans hb24 hb5))
            | (go_at_call 30; refine Calls.mono (HN2.out w3 (bel_trans HB2.out.2.2.2 hb23)) ?_; rintro e w4 ⟨f4, rfl, hb4, hf4⟩; obtain ⟨T4, X4, rfl⟩ := hf4.iface; have hb24 := bel_trans hb23 hb4; have hS4 := Held8.still HS2.out hb24; have HF4 := (show Hid _ from hf4); clear hf4; have hc5 := HREC.out w4 _ _ (bel_trans HB2.out.2.2.2 hb24) (Form.still HF3.out hb4) (Form.mono (fun b hb _ => Nat.le_trans hb23.size hb) HF4.out); have HC5 := (show Hid _ from put_none HQ.out (put3_node hc5)); clear hc5)
            | (go_at_call 30; refine Calls.mono (HN.out w2.drew HDR.out.2) ?_; rintro e w3 ⟨f3, rfl, hb3, hf3⟩; obtain ⟨X3, rfl⟩ := form_node hf3 HLF.out; have hb23 : Below w2.heap.size w2 w3 := HDR.out.1.trans (hb3.mono (Nat.le_refl _)); have hS3 := Held8.still HS2.out hb23; have HF3 := (show Hid _ from hf3); clear hf3))
          
          all_goals
            have HB5 := (show Hid _ from (⟨Box4.still HB2.out.2.2.1 (bel_trans hb24 hb5), bel_trans HB2.out.2.2.2 (bel_trans hb24 hb5)⟩ : Box4 w5 _ _ _ _ _ ∧ Below _ w w5))
            obtain ⟨Z0, Z1, Z2, Z3⟩ := Box4.cells HB5.out.1
            have y0 := Box4.frozen HB5.out.1 0
            have y1 := Box4.frozen HB5.out.1 1
            have y2 := Box4.frozen HB5.out.1 2
            have y3 := Box4.frozen HB5.out.1 3
            clear hS2d hS3 hS4 hS5 hb3 hb23 hb4 hb24 hb5
            go_wp2_with fail
            refine bodyPost_ret (v := .tuple #[.agg #[.string ByteArray.empty, .string ByteArray.empty, .bool false, .slice none 0 0], .int .i64 4]) (by simp [results, Try.results18, go_sem, Z0, Z1, Z2, Z3]; rfl) rfl ?_
            rw [HA.out]
            exact ⟨none, 0, 0, rfl, (((HB5.out.2.setCell (by simp; omega) _).setCell (by simp; omega) _).setCell (by simp; omega) _).setCell (by simp; omega) _, zt_own _ _ _⟩
        | some o =>
          have hsw := putAt_wt l hq
          have hro := putAt_right l HRT.out (ok_right HOK2.out).1 hq
          have HRO := (show Hid _ from hro); clear hro
          have HQ := (show Hid _ from hq); clear hq
          go_wp2_with fail
          have hnm := method_putN
          have hnA := nilA_putN
          go_region_held3 (fun w' => (w'.cell? ⟨w.heap.size, 0, none⟩ = some (.string t.name) ∧ w'.cell? ⟨w.heap.size, 1, none⟩ = some (.string t.text) ∧ w'.cell? ⟨w.heap.size, 2, none⟩ = some (.bool t.leaf) ∧ w'.cell? ⟨w.heap.size, 3, none⟩ = some (.slice a len cap)) ∧ w'.cell? ⟨w.heap.size + 1, 0, none⟩ = some (.string u.name) ∧ w'.cell? ⟨w.heap.size + 1, 1, none⟩ = some (.string u.text) ∧ w'.cell? ⟨w.heap.size + 1, 2, none⟩ = some (.bool u.leaf) ∧ w'.cell? ⟨w.heap.size + 1, 3, none⟩ = some (.slice ua ulen ucap)) (first | exact hS2d | exact hS3 | exact hS4 | exact hS5)
            (first
            | (go_at_call 129; refine Calls.mono HC5.out ?_; rintro e w5 ⟨T5, X5, rfl, hb5, hf5⟩; have hS5 := Held8.still HS2.out (bel_trans hb24 hb5))
            | (go_at_call 30; refine Calls.mono (HN2.out w3 (bel_trans HB2.out.2.2.2 hb23)) ?_; rintro e w4 ⟨f4, rfl, hb4, hf4⟩; obtain ⟨T4, X4, rfl⟩ := hf4.iface; have hb24 := bel_trans hb23 hb4; have hS4 := Held8.still HS2.out hb24; have HF4 := (show Hid _ from hf4); clear hf4; have hc5 := HREC.out w4 _ _ (bel_trans HB2.out.2.2.2 hb24) (Form.still HF3.out hb4) (Form.mono (fun b hb _ => Nat.le_trans hb23.size hb) HF4.out); have HC5 := (show Hid _ from put_some HQ.out (put3_node hc5)); clear hc5)
            | (go_at_call 30; refine Calls.mono (HN.out w2.drew HDR.out.2) ?_; rintro e w3 ⟨f3, rfl, hb3, hf3⟩; obtain ⟨X3, rfl⟩ := form_node hf3 HLF.out; have hb23 : Below w2.heap.size w2 w3 := HDR.out.1.trans (hb3.mono (Nat.le_refl _)); have hS3 := Held8.still HS2.out hb23; have HF3 := (show Hid _ from hf3); clear hf3))
          
          all_goals
            have HB5 := (show Hid _ from (⟨Box4.still HB2.out.2.2.1 (bel_trans hb24 hb5), bel_trans HB2.out.2.2.2 (bel_trans hb24 hb5), hf5⟩ : Box4 w5 _ _ _ _ _ ∧ Below _ w w5 ∧ _))
            have hz5 := Box4.lt HB5.out.1
            clear hS2d hS3 hS4 hS5 hb3 hb23 hb4 hb24 hb5 hf5
            go_wp2_with fail
            refine Calls.mono (outw_any o _ w5 HB5.out.2.2 (by omega) HRO.out) ?_
            rintro e w6 ⟨v6, rfl, hb6, ho6⟩
            obtain ⟨a6, m6, c6, rfl⟩ := ho6.form
            have hb6' := bel_trans hb6 (bel_alloc w6 (.cells #[.string o.name, .string o.text, .bool o.leaf, .slice a6 m6 c6] 29))
            have HO6 := (show Hid _ from (⟨Box4.new w6 (.string o.name) (.string o.text) (.bool o.leaf) (.slice a6 m6 c6), ho6.still (bel_alloc w6 (.cells #[.string o.name, .string o.text, .bool o.leaf, .slice a6 m6 c6] 29)), Box4.still HB5.out.1 hb6', bel_trans HB5.out.2.1 hb6'⟩ : _ ∧ _ ∧ Box4 _ _ _ _ _ _ ∧ Below _ w _))
            have hz6 := hb6.size
            clear hb6 hb6' ho6
            go_wp2_with fail
            generalize hw6 : w6.alloc (.cells #[.string o.name, .string o.text, .bool o.leaf, .slice a6 m6 c6] 29) = w6b at *
            have hz6b : w6b.heap.size = w6.heap.size + 1 := by rw [← hw6]; exact World.size_alloc _ _
            clear hw6
            refine Calls.mono (iOK_any o _ w6b (Own.lies HO6.out.2.1)) ?_
            rintro e w7 ⟨rfl, hb7⟩
            have HO7 := (show Hid _ from (⟨Box4.still HO6.out.1 hb7, Own.still HO6.out.2.1 hb7, Box4.still HO6.out.2.2.1 hb7, bel_trans HO6.out.2.2.2 hb7⟩ : Box4 w7 _ _ _ _ _ ∧ Own w7 _ _ _ _ ∧ Box4 w7 _ _ _ _ _ ∧ Below _ w w7))
            have hz7 := hb7.size
            obtain ⟨X0, X1, X2, X3⟩ := Box4.cells HO7.out.1
            obtain ⟨Z0, Z1, Z2, Z3⟩ := Box4.cells HO7.out.2.2.1
            have y0 := Box4.frozen HO7.out.2.2.1 0
            have y1 := Box4.frozen HO7.out.2.2.1 1
            have y2 := Box4.frozen HO7.out.2.2.1 2
            have y3 := Box4.frozen HO7.out.2.2.1 3
            clear HO6 hb7
            cases hok : o.ok
            · have HA : Hid (putR t l u = (zt, 3)) := putR_full HOK.out HOK2.out HQ.out hok
              clear hok
              go_wp2_with fail
              refine bodyPost_ret (v := .tuple #[.agg #[.string ByteArray.empty, .string ByteArray.empty, .bool false, .slice none 0 0], .int .i64 3]) (by simp [results, Try.results18, go_sem, Z0, Z1, Z2, Z3]; rfl) rfl ?_
              rw [HA.out]
              exact ⟨none, 0, 0, rfl, (((HO7.out.2.2.2.setCell (by simp; omega) _).setCell (by simp; omega) _).setCell (by simp; omega) _).setCell (by simp; omega) _, zt_own _ _ _⟩
            · have HA : Hid (putR t l u = (o, 0)) := putR_yes HOK.out HOK2.out HQ.out hok
              clear hok
              go_wp2_with fail
              refine bodyPost_ret (v := .tuple #[.agg #[.string o.name, .string o.text, .bool o.leaf, .slice a6 m6 c6], .int .i64 0]) (by simp [results, Try.results18, go_sem, Z0, Z1, Z2, Z3]) rfl ?_
              rw [HA.out]
              refine ⟨a6, m6, c6, rfl, (((HO7.out.2.2.2.setCell (by simp; omega) _).setCell (by simp; omega) _).setCell (by simp; omega) _).setCell (by simp; omega) _, ?_⟩
              exact ((((Own.past HO7.out.2.1 (.inl (by omega))).past (.inl (by omega))).past (.inl (by omega))).past (.inl (by omega))).keep (by omega) (by simp; omega) (fun _ _ _ _ => rfl)
      · have HLF := (show Hid _ from hlf)
        clear hlf
        cases hq : putAt l t u with
        | none =>
          have HA : Hid (putR t l u = (zt, 4)) := putR_place HOK.out HOK2.out hq
          have HQ := (show Hid _ from hq); clear hq
          go_wp2_with fail
          have hnm := method_putL
          have hnA := nilA_putL
          go_region_held3 (fun w' => (w'.cell? ⟨w.heap.size, 0, none⟩ = some (.string t.name) ∧ w'.cell? ⟨w.heap.size, 1, none⟩ = some (.string t.text) ∧ w'.cell? ⟨w.heap.size, 2, none⟩ = some (.bool t.leaf) ∧ w'.cell? ⟨w.heap.size, 3, none⟩ = some (.slice a len cap)) ∧ w'.cell? ⟨w.heap.size + 1, 0, none⟩ = some (.string u.name) ∧ w'.cell? ⟨w.heap.size + 1, 1, none⟩ = some (.string u.text) ∧ w'.cell? ⟨w.heap.size + 1, 2, none⟩ = some (.bool u.leaf) ∧ w'.cell? ⟨w.heap.size + 1, 3, none⟩ = some (.slice ua ulen ucap)) (first | exact hS2d | exact hS3 | exact hS4 | exact hS5)
            (first
            | (go_at_call 124; refine Calls.mono HC5.out ?_; rintro e w5 ⟨X5, rfl, hb5⟩; have hS5 := Held8.still HS2.out (bel_trans hb24 hb5))
            | (go_at_call 30; refine Calls.mono (HN2.out w3 (bel_trans HB2.out.2.2.2 hb23)) ?_; rintro e w4 ⟨f4, rfl, hb4, hf4⟩; obtain ⟨T4, X4, rfl⟩ := hf4.iface; have hb24 := bel_trans hb23 hb4; have hS4 := Held8.still HS2.out hb24; have HF4 := (show Hid _ from hf4); clear hf4; have hc5 := HREC.out w4 _ _ (bel_trans HB2.out.2.2.2 hb24) (Form.still HF3.out hb4) (Form.mono (fun b hb _ => Nat.le_trans hb23.size hb) HF4.out); have HC5 := (show Hid _ from put_none HQ.out (put3_leaf hc5)); clear hc5)
            | (go_at_call 30; refine Calls.mono (HN.out w2.drew HDR.out.2) ?_; rintro e w3 ⟨f3, rfl, hb3, hf3⟩; obtain ⟨X3, rfl⟩ := form_leaf hf3 HLF.out; have hb23 : Below w2.heap.size w2 w3 := HDR.out.1.trans (hb3.mono (Nat.le_refl _)); have hS3 := Held8.still HS2.out hb23; have HF3 := (show Hid _ from hf3); clear hf3))
          
          all_goals
            have HB5 := (show Hid _ from (⟨Box4.still HB2.out.2.2.1 (bel_trans hb24 hb5), bel_trans HB2.out.2.2.2 (bel_trans hb24 hb5)⟩ : Box4 w5 _ _ _ _ _ ∧ Below _ w w5))
            obtain ⟨Z0, Z1, Z2, Z3⟩ := Box4.cells HB5.out.1
            have y0 := Box4.frozen HB5.out.1 0
            have y1 := Box4.frozen HB5.out.1 1
            have y2 := Box4.frozen HB5.out.1 2
            have y3 := Box4.frozen HB5.out.1 3
            clear hS2d hS3 hS4 hS5 hb3 hb23 hb4 hb24 hb5
            go_wp2_with fail
            refine bodyPost_ret (v := .tuple #[.agg #[.string ByteArray.empty, .string ByteArray.empty, .bool false, .slice none 0 0], .int .i64 4]) (by simp [results, Try.results18, go_sem, Z0, Z1, Z2, Z3]; rfl) rfl ?_
            rw [HA.out]
            exact ⟨none, 0, 0, rfl, (((HB5.out.2.setCell (by simp; omega) _).setCell (by simp; omega) _).setCell (by simp; omega) _).setCell (by simp; omega) _, zt_own _ _ _⟩
        | some o =>
          have hsw := putAt_wt l hq
          have hro := putAt_right l HRT.out (ok_right HOK2.out).1 hq
          have HRO := (show Hid _ from hro); clear hro
          have HQ := (show Hid _ from hq); clear hq
          go_wp2_with fail
          have hnm := method_putL
          have hnA := nilA_putL
          go_region_held3 (fun w' => (w'.cell? ⟨w.heap.size, 0, none⟩ = some (.string t.name) ∧ w'.cell? ⟨w.heap.size, 1, none⟩ = some (.string t.text) ∧ w'.cell? ⟨w.heap.size, 2, none⟩ = some (.bool t.leaf) ∧ w'.cell? ⟨w.heap.size, 3, none⟩ = some (.slice a len cap)) ∧ w'.cell? ⟨w.heap.size + 1, 0, none⟩ = some (.string u.name) ∧ w'.cell? ⟨w.heap.size + 1, 1, none⟩ = some (.string u.text) ∧ w'.cell? ⟨w.heap.size + 1, 2, none⟩ = some (.bool u.leaf) ∧ w'.cell? ⟨w.heap.size + 1, 3, none⟩ = some (.slice ua ulen ucap)) (first | exact hS2d | exact hS3 | exact hS4 | exact hS5)
            (first
            | (go_at_call 124; refine Calls.mono HC5.out ?_; rintro e w5 ⟨T5, X5, rfl, hb5, hf5⟩; have hS5 := Held8.still HS2.out (bel_trans hb24 hb5))
            | (go_at_call 30; refine Calls.mono (HN2.out w3 (bel_trans HB2.out.2.2.2 hb23)) ?_; rintro e w4 ⟨f4, rfl, hb4, hf4⟩; obtain ⟨T4, X4, rfl⟩ := hf4.iface; have hb24 := bel_trans hb23 hb4; have hS4 := Held8.still HS2.out hb24; have HF4 := (show Hid _ from hf4); clear hf4; have hc5 := HREC.out w4 _ _ (bel_trans HB2.out.2.2.2 hb24) (Form.still HF3.out hb4) (Form.mono (fun b hb _ => Nat.le_trans hb23.size hb) HF4.out); have HC5 := (show Hid _ from put_some HQ.out (put3_leaf hc5)); clear hc5)
            | (go_at_call 30; refine Calls.mono (HN.out w2.drew HDR.out.2) ?_; rintro e w3 ⟨f3, rfl, hb3, hf3⟩; obtain ⟨X3, rfl⟩ := form_leaf hf3 HLF.out; have hb23 : Below w2.heap.size w2 w3 := HDR.out.1.trans (hb3.mono (Nat.le_refl _)); have hS3 := Held8.still HS2.out hb23; have HF3 := (show Hid _ from hf3); clear hf3))
          
          all_goals
            have HB5 := (show Hid _ from (⟨Box4.still HB2.out.2.2.1 (bel_trans hb24 hb5), bel_trans HB2.out.2.2.2 (bel_trans hb24 hb5), hf5⟩ : Box4 w5 _ _ _ _ _ ∧ Below _ w w5 ∧ _))
            have hz5 := Box4.lt HB5.out.1
            clear hS2d hS3 hS4 hS5 hb3 hb23 hb4 hb24 hb5 hf5
            go_wp2_with fail
            refine Calls.mono (outw_any o _ w5 HB5.out.2.2 (by omega) HRO.out) ?_
            rintro e w6 ⟨v6, rfl, hb6, ho6⟩
            obtain ⟨a6, m6, c6, rfl⟩ := ho6.form
            have hb6' := bel_trans hb6 (bel_alloc w6 (.cells #[.string o.name, .string o.text, .bool o.leaf, .slice a6 m6 c6] 29))
            have HO6 := (show Hid _ from (⟨Box4.new w6 (.string o.name) (.string o.text) (.bool o.leaf) (.slice a6 m6 c6), ho6.still (bel_alloc w6 (.cells #[.string o.name, .string o.text, .bool o.leaf, .slice a6 m6 c6] 29)), Box4.still HB5.out.1 hb6', bel_trans HB5.out.2.1 hb6'⟩ : _ ∧ _ ∧ Box4 _ _ _ _ _ _ ∧ Below _ w _))
            have hz6 := hb6.size
            clear hb6 hb6' ho6
            go_wp2_with fail
            generalize hw6 : w6.alloc (.cells #[.string o.name, .string o.text, .bool o.leaf, .slice a6 m6 c6] 29) = w6b at *
            have hz6b : w6b.heap.size = w6.heap.size + 1 := by rw [← hw6]; exact World.size_alloc _ _
            clear hw6
            refine Calls.mono (iOK_any o _ w6b (Own.lies HO6.out.2.1)) ?_
            rintro e w7 ⟨rfl, hb7⟩
            have HO7 := (show Hid _ from (⟨Box4.still HO6.out.1 hb7, Own.still HO6.out.2.1 hb7, Box4.still HO6.out.2.2.1 hb7, bel_trans HO6.out.2.2.2 hb7⟩ : Box4 w7 _ _ _ _ _ ∧ Own w7 _ _ _ _ ∧ Box4 w7 _ _ _ _ _ ∧ Below _ w w7))
            have hz7 := hb7.size
            obtain ⟨X0, X1, X2, X3⟩ := Box4.cells HO7.out.1
            obtain ⟨Z0, Z1, Z2, Z3⟩ := Box4.cells HO7.out.2.2.1
            have y0 := Box4.frozen HO7.out.2.2.1 0
            have y1 := Box4.frozen HO7.out.2.2.1 1
            have y2 := Box4.frozen HO7.out.2.2.1 2
            have y3 := Box4.frozen HO7.out.2.2.1 3
            clear HO6 hb7
            cases hok : o.ok
            · have HA : Hid (putR t l u = (zt, 3)) := putR_full HOK.out HOK2.out HQ.out hok
              clear hok
              go_wp2_with fail
              refine bodyPost_ret (v := .tuple #[.agg #[.string ByteArray.empty, .string ByteArray.empty, .bool false, .slice none 0 0], .int .i64 3]) (by simp [results, Try.results18, go_sem, Z0, Z1, Z2, Z3]; rfl) rfl ?_
              rw [HA.out]
              exact ⟨none, 0, 0, rfl, (((HO7.out.2.2.2.setCell (by simp; omega) _).setCell (by simp; omega) _).setCell (by simp; omega) _).setCell (by simp; omega) _, zt_own _ _ _⟩
            · have HA : Hid (putR t l u = (o, 0)) := putR_yes HOK.out HOK2.out HQ.out hok
              clear hok
              go_wp2_with fail
              refine bodyPost_ret (v := .tuple #[.agg #[.string o.name, .string o.text, .bool o.leaf, .slice a6 m6 c6], .int .i64 0]) (by simp [results, Try.results18, go_sem, Z0, Z1, Z2, Z3]) rfl ?_
              rw [HA.out]
              refine ⟨a6, m6, c6, rfl, (((HO7.out.2.2.2.setCell (by simp; omega) _).setCell (by simp; omega) _).setCell (by simp; omega) _).setCell (by simp; omega) _, ?_⟩
              exact ((((Own.past HO7.out.2.1 (.inl (by omega))).past (.inl (by omega))).past (.inl (by omega))).past (.inl (by omega))).keep (by omega) (by simp; omega) (fun _ _ _ _ => rfl)
end Go.Proofs.Ythmdoplickpmaai
