import Derived.Test.YthmdoplickpmaaiAt
namespace Go.Proofs.Ythmdoplickpmaai
open Go.RowKit Go.Deep Go.Lib
set_option linter.unusedVariables false
set_option maxRecDepth 100000
set_option linter.unusedSimpArgs false

/-- The tree of no name. -/
def zt : Tr := ⟨ByteArray.empty, ByteArray.empty, false, []⟩
theorem zt_own (w : World) (lo hi : Nat) : Own w lo hi zt (.slice none 0 0) :=
  Own.shut ⟨none, 0, 0, fun _ => .bool false, fun _ => 0, fun _ => 0, rfl, Nat.zero_le _, Nat.zero_le _, Nat.le_refl _, Nat.zero_le _, fun h => absurd h (Nat.not_lt_zero _), fun i hi => absurd hi (Nat.not_lt_zero _), fun i hi => absurd hi (Nat.not_lt_zero _), fun i hi => absurd hi (Nat.not_lt_zero _), fun i j hi hj => absurd hj (Nat.not_lt_zero _)⟩
theorem wt_kids (t : Tr) : t.wt = t.name.size + t.text.size + (t.kids.length + Tr.wtL t.kids) := by cases t; exact Tr.wt_mk _ _ _ _
theorem kidAt_wt {t s : Tr} {i : Int} (h : kidAt t i = some s) : s.wt ≤ t.wt := by
  unfold kidAt at h
  split at h
  · rename_i hi
    cases h
    have hlt : i.toNat < t.kids.length := by omega
    rw [nth_eq hlt, wt_kids t]
    have := Tr.wt_mem t.kids i.toNat hlt
    omega
  · cases h
theorem kidAt_right {t s : Tr} {i : Int} (hr : t.right = true) (h : kidAt t i = some s) : s.right = true := by
  unfold kidAt at h
  split at h
  · rename_i hi
    cases h
    have hlt : i.toNat < t.kids.length := by omega
    rw [nth_eq hlt]
    cases t with
    | mk n x l k =>
      rw [Tr.right_mk] at hr
      simp [Tr.rightL] at hr
      exact hr.2 _ (List.getElem_mem hlt)
  · cases h
theorem walkAt_wt : ∀ (l : List Int) {t s : Tr}, walkAt l t = some s → s.wt ≤ t.wt
  | [], t, s, h => by cases h; exact Nat.le_refl _
  | i :: r, t, s, h => by
    obtain ⟨u, hu, hs⟩ := Option.bind_eq_some_iff.1 h
    exact Nat.le_trans (walkAt_wt r hs) (kidAt_wt hu)

/-- What TreeAt comes to. -/
def atR (t : Tr) (l : List Int) : Tr × Int := if t.ok then match walkAt l t with | some s => (s, 0) | none => (zt, 4) else (zt, 1)
theorem atR_bad {t : Tr} {l : List Int} (h : t.ok = false) : atR t l = (zt, 1) := by unfold atR; rw [h]; rfl
theorem atR_place {t : Tr} {l : List Int} (h : t.ok = true) (h' : walkAt l t = none) : atR t l = (zt, 4) := by unfold atR; rw [h, h']; rfl
theorem atR_yes {t s : Tr} {l : List Int} (h : t.ok = true) (h' : walkAt l t = some s) : atR t l = (s, 0) := by unfold atR; rw [h, h']; rfl
theorem atR_wt (t : Tr) (l : List Int) : (atR t l).1.wt ≤ t.wt := by
  have hz : zt.wt = 0 := by unfold zt; rw [Tr.wt_mk]; rfl
  cases h : t.ok
  · rw [atR_bad h]; dsimp only; omega
  · cases h' : walkAt l t with
    | none => rw [atR_place h h']; dsimp only; omega
    | some s => rw [atR_yes h h']; exact walkAt_wt l h'

/-- A face's answer: a tree that owns its memory, and a code. -/
def Ans (r : Tr × Int) (w : World) (e : Ending) (w' : World) : Prop := ∃ a m c, e = .returned (.tuple #[r.1.val (.slice a m c), .int .i64 r.2]) ∧ Below w.heap.size w w' ∧ Own w' w.heap.size w'.heap.size r.1 (.slice a m c)

set_option maxHeartbeats 800000 in
theorem sAt_any {S S' : Nat → Prop} (t : Tr) (l : List Int) (v pv : Value) (w : World) (hl : Lies w S t v) (hp : Ints w S' l pv) (hwt : t.wt ≤ 1048576) :
    Calls Try.prog 8 #[t.val v, pv] w fun e w' => Ans (atR t l) w e w' := by
  have hok := fun (w' : World) (hw : Below w.heap.size w w') => sOK_any t v w' (hl.still hw)
  have hld := fun (w' : World) (hw : Below w.heap.size w w') => leads_any t l v pv w' (hl.still hw) (hp.still hw)
  have hat := fun (w' : World) (hw : Below w.heap.size w w') (s : Tr) (hs : walkAt l t = some s) => at_any t s l v pv w' (hl.still hw) (hp.still hw) hs
  obtain ⟨a, len, cap, rfl⟩ := hl.form
  obtain ⟨pa, plen, pcap, rfl⟩ := hp.form
  have HO := (show Hid _ from hok); clear hok
  have HD := (show Hid _ from hld); clear hld
  have HT := (show Hid _ from hat); clear hat
  clear hl hp
  simp only [Tr.val]
  go_enter Try.func8, Try.ntmps8
  go_wp2_with fail
  refine Calls.mono (HO.out _ ((bel_alloc _ _).alloc (by simp) _)) ?_
  rintro e w1 ⟨rfl, hb1⟩
  have B0 := ((Box4.new w (.string t.name) (.string t.text) (.bool t.leaf) (.slice a len cap)).still (bel_alloc _ (.cells #[.string ByteArray.empty, .string ByteArray.empty, .bool false, .slice none 0 0] 29))).still hb1
  have R0 := (Box4.new (w.alloc (.cells #[.string t.name, .string t.text, .bool t.leaf, .slice a len cap] 29)) (.string ByteArray.empty) (.string ByteArray.empty) (.bool false) (.slice none 0 0)).still hb1
  simp only [World.size_alloc] at R0
  have hbw1 : Below w.heap.size w w1 := ((bel_alloc _ _).alloc (by simp) _).trans (hb1.mono (by simp; omega))
  have HB0 := (show Hid _ from B0)
  have HR0 := (show Hid _ from R0)
  have HBW := (show Hid _ from hbw1)
  have hsz1 : w.heap.size + 2 ≤ w1.heap.size := by have := hb1.size; simp at this; omega
  obtain ⟨X0, X1, X2, X3⟩ := B0.cells
  clear B0 R0 hb1 hbw1
  cases hok : t.ok
  · have HA : Hid (atR t l = (zt, 1)) := atR_bad hok
    obtain ⟨Z0, Z1, Z2, Z3⟩ := Box4.cells HR0.out
    have y0 := Box4.frozen HR0.out 0
    have y1 := Box4.frozen HR0.out 1
    have y2 := Box4.frozen HR0.out 2
    have y3 := Box4.frozen HR0.out 3
    clear hok
    go_wp2_with fail
    refine bodyPost_ret (v := .tuple #[.agg #[.string ByteArray.empty, .string ByteArray.empty, .bool false, .slice none 0 0], .int .i64 1]) (by simp [results, Try.results8, go_sem, Z0, Z1, Z2, Z3]; rfl) rfl ?_
    rw [HA.out]
    exact ⟨none, 0, 0, rfl, (((HBW.out.setCell (by simp) _).setCell (by simp) _).setCell (by simp) _).setCell (by simp) _, zt_own _ _ _⟩
  · have HOK := (show Hid _ from hok); clear hok
    go_wp2_with fail
    refine Calls.mono (HD.out _ HBW.out) ?_
    rintro e w2 ⟨rfl, hb2⟩
    have B2 := Box4.still HB0.out hb2
    have R2 := Box4.still HR0.out hb2
    have hbw2 := bel_trans HBW.out hb2
    have hsz2 := hb2.size
    clear X0 X1 X2 X3
    obtain ⟨X0, X1, X2, X3⟩ := B2.cells
    have HR2 := (show Hid _ from R2); clear R2 B2 hb2
    have HBW2 := (show Hid _ from hbw2); clear hbw2
    cases hwk : walkAt l t with
    | none =>
      have HA : Hid (atR t l = (zt, 4)) := atR_place HOK.out hwk
      obtain ⟨Z0, Z1, Z2, Z3⟩ := Box4.cells HR2.out
      have y0 := Box4.frozen HR2.out 0
      have y1 := Box4.frozen HR2.out 1
      have y2 := Box4.frozen HR2.out 2
      have y3 := Box4.frozen HR2.out 3
      clear hwk
      simp only [Option.isSome_none]
      go_wp2_with fail
      refine bodyPost_ret (v := .tuple #[.agg #[.string ByteArray.empty, .string ByteArray.empty, .bool false, .slice none 0 0], .int .i64 4]) (by simp [results, Try.results8, go_sem, Z0, Z1, Z2, Z3]; rfl) rfl ?_
      rw [HA.out]
      exact ⟨none, 0, 0, rfl, (((HBW2.out.setCell (by simp) _).setCell (by simp) _).setCell (by simp) _).setCell (by simp) _, zt_own _ _ _⟩
    | some s =>
      have HA : Hid (atR t l = (s, 0)) := atR_yes HOK.out hwk
      have hsw := walkAt_wt l hwk
      have HWK := (show Hid _ from hwk); clear hwk
      simp only [Option.isSome_some]
      go_wp2_with fail
      refine Calls.mono (HT.out _ HBW2.out s HWK.out) ?_
      rintro e w3 ⟨v3, rfl, hb3, hl3⟩
      obtain ⟨a3, m3, c3, rfl⟩ := hl3.form
      go_wp2_with fail
      refine Calls.mono (copy_any s _ _ hl3 (by omega)) ?_
      rintro e w4 ⟨v4, rfl, hb4, ho4⟩
      obtain ⟨a4, m4, c4, rfl⟩ := ho4.form
      have R4 := (Box4.still HR2.out hb3).still hb4
      obtain ⟨Z0, Z1, Z2, Z3⟩ := R4.cells
      have y0 := R4.frozen 0
      have y1 := R4.frozen 1
      have y2 := R4.frozen 2
      have y3 := R4.frozen 3
      have hbw4 := bel_trans (bel_trans HBW2.out hb3) hb4
      have hs3 := hb3.size
      have HO4 := (show Hid _ from (⟨ho4, hbw4⟩ : _ ∧ _)); clear ho4 hbw4 R4 hl3
      go_wp2_with fail
      refine bodyPost_ret (v := .tuple #[.agg #[.string s.name, .string s.text, .bool s.leaf, .slice a4 m4 c4], .int .i64 0]) (by simp [results, Try.results8, go_sem, Z0, Z1, Z2, Z3]) rfl ?_
      rw [HA.out]
      refine ⟨a4, m4, c4, rfl, (((HO4.out.2.setCell (by simp) _).setCell (by simp) _).setCell (by simp) _).setCell (by simp) _, ?_⟩
      exact ((((Own.past HO4.out.1 (.inl (by omega))).past (.inl (by omega))).past (.inl (by omega))).past (.inl (by omega))).keep (by omega) (by simp) (fun _ _ _ _ => rfl)
end Go.Proofs.Ythmdoplickpmaai
