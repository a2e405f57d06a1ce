import Derived.Test.YtledclkmeikgdaaXAt
import Derived.Test.YtledclkmeikgdaaGDat
namespace Go.Proofs.Ytledclkmeikgdaa.T
open Go.RowKit Go.Deep Go.Lib
set_option linter.unusedVariables false
set_option maxRecDepth 100000
set_option linter.unusedSimpArgs false

/-- The tree of no name. -/
def zt : Tr := ⟨ByteArray.empty, ByteArray.empty, false, []⟩
theorem zt_own (w : World) (lo hi : Nat) : Own w lo hi zt (.slice none 0 0) :=
  Own.shut ⟨none, 0, 0, fun _ => .bool false, fun _ => 0, fun _ => 0, rfl, Nat.zero_le _, Nat.zero_le _, Nat.le_refl _, Nat.zero_le _, fun h => absurd h (Nat.not_lt_zero _), fun i hi => absurd hi (Nat.not_lt_zero _), fun i hi => absurd hi (Nat.not_lt_zero _), fun i hi => absurd hi (Nat.not_lt_zero _), fun i j hi hj => absurd hj (Nat.not_lt_zero _)⟩
theorem wt_kids (t : Tr) : t.wt = t.name.size + t.text.size + (t.kids.length + Tr.wtL t.kids) := by cases t; exact Tr.wt_mk _ _ _ _
theorem kidAt_wt {t s : Tr} {i : Int} (h : kidAt t i = some s) : s.wt ≤ t.wt := by
  unfold kidAt at h
  split at h
  · rename_i hi
    cases h
    have hlt : i.toNat < t.kids.length := by omega
    rw [nth_eq hlt, wt_kids t]
    have := Tr.wt_mem t.kids i.toNat hlt
    omega
  · cases h
theorem kidAt_right {t s : Tr} {i : Int} (hr : t.right = true) (h : kidAt t i = some s) : s.right = true := by
  unfold kidAt at h
  split at h
  · rename_i hi
    cases h
    have hlt : i.toNat < t.kids.length := by omega
    rw [nth_eq hlt]
    cases t with
    | mk n x l k =>
      rw [Tr.right_mk] at hr
      simp [Tr.rightL] at hr
      exact hr.2 _ (List.getElem_mem hlt)
  · cases h
theorem walkAt_wt : ∀ (l : List Int) {t s : Tr}, walkAt l t = some s → s.wt ≤ t.wt
  | [], t, s, h => by cases h; exact Nat.le_refl _
  | i :: r, t, s, h => by
    obtain ⟨u, hu, hs⟩ := Option.bind_eq_some_iff.1 h
    exact Nat.le_trans (walkAt_wt r hs) (kidAt_wt hu)

/-- What TreeAt comes to. -/
def atR (t : Tr) (l : List Int) : Tr × Int := if t.ok then match walkAt l t with | some s => (s, 0) | none => (zt, 4) else (zt, 1)
theorem atR_bad {t : Tr} {l : List Int} (h : t.ok = false) : atR t l = (zt, 1) := by unfold atR; rw [h]; rfl
theorem atR_place {t : Tr} {l : List Int} (h : t.ok = true) (h' : walkAt l t = none) : atR t l = (zt, 4) := by unfold atR; rw [h, h']; rfl
theorem atR_yes {t s : Tr} {l : List Int} (h : t.ok = true) (h' : walkAt l t = some s) : atR t l = (s, 0) := by unfold atR; rw [h, h']; rfl
theorem atR_wt (t : Tr) (l : List Int) : (atR t l).1.wt ≤ t.wt := by
  have hz : zt.wt = 0 := by unfold zt; rw [Tr.wt_mk]; rfl
  cases h : t.ok
  · rw [atR_bad h]; dsimp only; omega
  · cases h' : walkAt l t with
    | none => rw [atR_place h h']; dsimp only; omega
    | some s => rw [atR_yes h h']; exact walkAt_wt l h'

/-- A face's answer: a tree that owns its memory, and a code. -/
def Ans (r : Tr × Int) (w : World) (e : Ending) (w' : World) : Prop := ∃ a m c, e = .returned (.tuple #[r.1.val (.slice a m c), .int .i64 r.2]) ∧ Below w.heap.size w w' ∧ Own w' w.heap.size w'.heap.size r.1 (.slice a m c)

end Go.Proofs.Ytledclkmeikgdaa.T

namespace Go.Proofs.Ytledclkmeikgdaa.T
open Go.RowKit Go.Deep Go.Lib
set_option linter.unusedVariables false
set_option maxRecDepth 100000
set_option linter.unusedSimpArgs false

theorem method_kidL (X : Value) (w : World) : (method 279 134 X "loop.example/g00037/impl.kid").run Try.prog w = .ok (143, X) w := by kernel_rfl
theorem method_kidN (X : Value) (w : World) : (method 279 137 X "loop.example/g00037/impl.kid").run Try.prog w = .ok (147, X) w := by kernel_rfl

theorem kid_leaf (n x : ByteArray) (i : Int) (w : World) : Calls Try.prog 143 #[.agg #[.string n, .string x], .int .i64 i] w fun e w' => e = .returned (.tuple #[.nilIface, .bool false]) ∧ Below w.heap.size w w' := by
  go_enter Try.func143, Try.ntmps143
  go_wp2_with fail
  go_ret2
  exact ⟨rfl, bel_alloc _ _⟩
theorem kid_no (n : ByteArray) (b m cap : Nat) (i : Int) (w : World) (hi : i < 0 ∨ (m : Int) ≤ i) : Calls Try.prog 147 #[.agg #[.string n, .slice (some ⟨b, 0, none⟩) m cap], .int .i64 i] w fun e w' => e = .returned (.tuple #[.nilIface, .bool false]) ∧ Below w.heap.size w w' := by
  by_cases h0 : i < 0
  · go_enter Try.func147, Try.ntmps147
    go_wp2_with fail
    go_ret2
    exact ⟨rfl, bel_alloc _ _⟩
  · have h1 : 0 ≤ i := by omega
    have h2 : (m : Int) ≤ i := by omega
    go_enter Try.func147, Try.ntmps147
    go_wp2_with fail
    go_ret2
    exact ⟨rfl, bel_alloc _ _⟩
theorem kid_yes (n : ByteArray) (b m cap i T : Nat) (X : Value) (w : World) (hi : i < m) (hm : m ≤ 2 ^ 63 - 1) (hc : w.cell? ⟨b, i, none⟩ = some (.iface T X)) : Calls Try.prog 147 #[.agg #[.string n, .slice (some ⟨b, 0, none⟩) m cap], .int .i64 i] w fun e w' => e = .returned (.tuple #[.iface T X, .bool true]) ∧ Below w.heap.size w w' := by
  have hc2 := ((bel_alloc w (.cells #[.string n, .slice (some ⟨b, 0, none⟩) m cap] 137)).cell (lt_of_cell hc)).trans hc
  clear hc
  go_enter Try.func147, Try.ntmps147
  go_wp2_with fail
  go_ret2
  exact ⟨rfl, bel_alloc _ _⟩

theorem leaf_kids {n x : ByteArray} {k : List Tr} (hr : Tr.right ⟨n, x, true, k⟩ = true) : k.length = 0 := by
  rw [Tr.right_mk] at hr
  simp [Tr.alone] at hr
  rw [hr.1.2.1]; rfl

set_option maxHeartbeats 1600000 in
theorem iAt_any {S S' : Nat → Prop} (t : Tr) (l : List Int) (v pv : Value) (w : World) (hl : Lies w S t v) (hp : Ints w S' l pv) (hwt : t.wt ≤ 1048576) :
    Calls Try.prog 17 #[t.val v, pv] w fun e w' => Ans (atR t l) w e w' := by
  have hok := fun (w' : World) (hw : Below w.heap.size w w') => iOK_any t v w' (hl.still hw)
  have hin := fun (w' : World) (hw : Below w.heap.size w w') => inward_any t v w' (hl.still hw) hwt
  obtain ⟨a, len, cap, rfl⟩ := hl.form
  obtain ⟨pa, pcap, pb, poff, rfl, hpc, hpm, hpa, hpcell⟩ := hp
  have HO := (show Hid _ from hok); clear hok
  have HN := (show Hid _ from hin); clear hin
  have HPC := (show Hid _ from hpcell); clear hpcell
  have HPA := (show Hid _ from hpa); clear hpa
  unfold maxLen at hpm
  clear hl
  simp only [Tr.val]
  go_enter Try.func17, Try.ntmps17
  go_wp2_with fail
  refine Calls.mono (HO.out _ ((bel_alloc _ _).alloc (by simp) _)) ?_
  rintro e w1 ⟨rfl, hb1⟩
  have B0 := ((Box4.new w (.string t.name) (.string t.text) (.bool t.leaf) (.slice a len cap)).still (bel_alloc _ (.cells #[.string ByteArray.empty, .string ByteArray.empty, .bool false, .slice none 0 0] 40))).still hb1
  have R0 := (Box4.new (w.alloc (.cells #[.string t.name, .string t.text, .bool t.leaf, .slice a len cap] 40)) (.string ByteArray.empty) (.string ByteArray.empty) (.bool false) (.slice none 0 0)).still hb1
  simp only [World.size_alloc] at R0
  have hbw1 : Below w.heap.size w w1 := ((bel_alloc _ _).alloc (by simp) _).trans (hb1.mono (by simp; omega))
  have HR0 := (show Hid _ from R0)
  have HBW := (show Hid _ from hbw1)
  have hsz1 : w.heap.size + 2 ≤ w1.heap.size := by have := hb1.size; simp at this; omega
  obtain ⟨X0, X1, X2, X3⟩ := B0.cells
  clear B0 R0 hb1 hbw1
  cases hok : t.ok
  · have HA : Hid (atR t l = (zt, 1)) := atR_bad hok
    obtain ⟨Z0, Z1, Z2, Z3⟩ := Box4.cells HR0.out
    have y0 := Box4.frozen HR0.out 0
    have y1 := Box4.frozen HR0.out 1
    have y2 := Box4.frozen HR0.out 2
    have y3 := Box4.frozen HR0.out 3
    clear hok
    go_wp2_with fail
    refine bodyPost_ret (v := .tuple #[.agg #[.string ByteArray.empty, .string ByteArray.empty, .bool false, .slice none 0 0], .int .i64 1]) (by simp [results, Try.results17, go_sem, Z0, Z1, Z2, Z3]; rfl) rfl ?_
    rw [HA.out]
    exact ⟨none, 0, 0, rfl, (((HBW.out.setCell (by simp) _).setCell (by simp) _).setCell (by simp) _).setCell (by simp) _, zt_own _ _ _⟩
  · have HOK := (show Hid _ from hok); clear hok
    go_wp2_with fail
    refine Calls.mono (HN.out _ HBW.out) ?_
    rintro e w2 ⟨u2, rfl, hb2, hf2⟩
    obtain ⟨T2, Y2, rfl⟩ := hf2.iface
    have hbw2 := bel_trans HBW.out hb2
    have R2 := Box4.still HR0.out hb2
    have hs2 := hb2.size
    have H2 := (show Hid _ from (⟨hf2, hbw2, R2⟩ : _ ∧ _ ∧ _)); clear hf2 hbw2 R2 X0 X1 X2 X3 hb2
    go_wp2_with fail
    go_loopw [6, 19] (fun u i wr => ∃ (j : Nat) (s : Tr) (T : Nat) (X : Value), j ≤ l.length ∧ i = .int .i64 j ∧ u = .iface T X ∧ Below w.heap.size w wr ∧ w.heap.size + 2 ≤ wr.heap.size ∧ Hid (walkAt (l.take j) t = some s ∧ s.right = true ∧ Form wr (fun b => w1.heap.size ≤ b) s (.iface T X)) ∧ Hid (Box4 wr (w.heap.size + 1) (.string ByteArray.empty) (.string ByteArray.empty) (.bool false) (.slice none 0 0))) (fun _ i _ => l.length - (intOf i).toNat)
    case atStart => exact ⟨0, t, T2, Y2, Nat.zero_le _, rfl, rfl, H2.out.2.1, by omega, ⟨rfl, ok_right HOK.out, H2.out.1⟩, H2.out.2.2⟩
    case round =>
      obtain ⟨j, s, T, X, hj, rfl, rfl, hbw, hwz, HW, HR⟩ := hrel
      by_cases hlt : j < l.length
      · obtain ⟨rfl, _⟩ := HPA.out (by omega)
        have c0 := HPC.out j hlt
        rw [← hbw.cell (lt_of_cell c0)] at c0
        obtain ⟨hwk, hsr, hsf⟩ := HW.out
        have hws := walkAt_succ hlt hwk
        have HWS := (show Hid _ from hws); clear hws hwk
        generalize hlj : l[j] = lj at *
        rcases hsf.out with ⟨hle, _, _, hX⟩ | ⟨hle, hn, cap2, b2, fv, hX, hc2, hm2, hS2, hb2, hcell2, hk2⟩
        · cases hX
          have hno : kidAt s lj = none := by
            refine kidAt_no ?_
            have : s.kids.length = 0 := by
              cases s with
              | mk n x le k => dsimp only at hle; subst hle; exact leaf_kids hsr
            omega
          have HA : Hid (atR t l = (zt, 4)) := atR_place HOK.out (walkAt_none (HWS.out.trans hno))
          have hm := method_kidL (.agg #[.string s.name, .string s.text])
          clear hsf hsr hno hle
          go_wp2_with fail
          refine Calls.mono (kid_leaf _ _ _ _) ?_
          rintro e w3 ⟨rfl, hb3⟩
          have R3 := HR.out.still hb3
          obtain ⟨Z0, Z1, Z2, Z3⟩ := R3.cells
          have y0 := R3.frozen 0
          have y1 := R3.frozen 1
          have y2 := R3.frozen 2
          have y3 := R3.frozen 3
          have hbw3 := bel_trans hbw hb3
          clear R3 hb3
          go_wp2_with fail
          refine bodyPost_ret (v := .tuple #[.agg #[.string ByteArray.empty, .string ByteArray.empty, .bool false, .slice none 0 0], .int .i64 4]) (by simp [results, Try.results17, go_sem, Z0, Z1, Z2, Z3]; rfl) rfl ?_
          rw [HA.out]
          exact ⟨none, 0, 0, rfl, (((hbw3.setCell (by simp) _).setCell (by simp) _).setCell (by simp) _).setCell (by simp) _, zt_own _ _ _⟩
        · cases hX
          have hm := method_kidN (.agg #[.string s.name, .slice (some ⟨b2, 0, none⟩) s.kids.length cap2])
          by_cases hin : 0 ≤ lj ∧ lj < (s.kids.length : Int)
          · obtain ⟨ii, rfl⟩ : ∃ ii : Nat, lj = ii := ⟨lj.toNat, by omega⟩
            have hii : ii < s.kids.length := by omega
            have hkk := kidAt_yes hii
            have hwk2 : walkAt (l.take (j + 1)) t = some s.kids[ii] := HWS.out.trans hkk
            have hkr := kidAt_right hsr hkk
            have hkf := hk2 ii hii
            obtain ⟨T3, X3, hfv⟩ := hkf.iface
            have hcl := kid_yes s.name b2 s.kids.length cap2 ii T3 X3 wr hii (by unfold maxLen at hm2; omega) (by rw [← hfv]; exact hcell2 ii hii)
            rw [hfv] at hkf
            have HCL := (show Hid _ from hcl); clear hcl
            have HK3 := (show Hid _ from (⟨hwk2, hkr, hkf⟩ : _ ∧ _ ∧ _)); clear hwk2 hkr hkf hfv hkk hsf hsr hcell2 hk2 hin hle
            generalize hsk : s.kids[ii] = sk at *
            go_wp2_with fail
            refine Calls.mono HCL.out ?_
            rintro e w3 ⟨rfl, hb3⟩
            have hbw3 := bel_trans hbw hb3
            have hs3 := hb3.size
            have H3 := (show Hid (_ ∧ _ ∧ Form w3 (fun b => w1.heap.size ≤ b) _ (.iface T3 X3)) from ⟨HK3.out.1, HK3.out.2.1, HK3.out.2.2.still hb3⟩)
            have HR3 := (show Hid _ from HR.out.still hb3)
            clear hb3
            go_wp2_with fail
            exact ⟨⟨j + 1, sk, T3, X3, by omega, by go_num, rfl, hbw3, by omega, H3, HR3⟩, by simp [intOf]; omega⟩
          · have hno : kidAt s lj = none := kidAt_no (by omega)
            have HA : Hid (atR t l = (zt, 4)) := atR_place HOK.out (walkAt_none (HWS.out.trans hno))
            have hcl := kid_no s.name b2 s.kids.length cap2 lj wr (by omega)
            have HCL := (show Hid _ from hcl); clear hcl hsf hsr hcell2 hk2 hin hle hno
            go_wp2_with fail
            refine Calls.mono HCL.out ?_
            rintro e w3 ⟨rfl, hb3⟩
            have R3 := HR.out.still hb3
            obtain ⟨Z0, Z1, Z2, Z3⟩ := R3.cells
            have y0 := R3.frozen 0
            have y1 := R3.frozen 1
            have y2 := R3.frozen 2
            have y3 := R3.frozen 3
            have hbw3 := bel_trans hbw hb3
            clear R3 hb3
            go_wp2_with fail
            refine bodyPost_ret (v := .tuple #[.agg #[.string ByteArray.empty, .string ByteArray.empty, .bool false, .slice none 0 0], .int .i64 4]) (by simp [results, Try.results17, go_sem, Z0, Z1, Z2, Z3]; rfl) rfl ?_
            rw [HA.out]
            exact ⟨none, 0, 0, rfl, (((hbw3.setCell (by simp) _).setCell (by simp) _).setCell (by simp) _).setCell (by simp) _, zt_own _ _ _⟩
      · obtain ⟨hwk, hsr, hsf⟩ := HW.out
        rw [List.take_of_length_le (by omega)] at hwk
        have HA : Hid (atR t l = (s, 0)) := atR_yes HOK.out hwk
        have hsw := walkAt_wt l hwk
        have hcl := outw_any s _ wr hsf (by omega) hsr
        have HCL := (show Hid _ from hcl); clear hcl hsf hsr hwk
        go_wp2_with fail
        refine Calls.mono HCL.out ?_
        rintro e w3 ⟨v3, rfl, hb3, ho3⟩
        obtain ⟨a3, m3, c3, rfl⟩ := ho3.form
        have R3 := HR.out.still hb3
        obtain ⟨Z0, Z1, Z2, Z3⟩ := R3.cells
        have y0 := R3.frozen 0
        have y1 := R3.frozen 1
        have y2 := R3.frozen 2
        have y3 := R3.frozen 3
        have hbw3 := bel_trans hbw hb3
        have HO3 := (show Hid _ from ho3)
        clear R3 hb3 ho3
        go_wp2_with fail
        refine bodyPost_ret (v := .tuple #[.agg #[.string s.name, .string s.text, .bool s.leaf, .slice a3 m3 c3], .int .i64 0]) (by simp [results, Try.results17, go_sem, Z0, Z1, Z2, Z3]) rfl ?_
        rw [HA.out]
        refine ⟨a3, m3, c3, rfl, (((hbw3.setCell (by simp) _).setCell (by simp) _).setCell (by simp) _).setCell (by simp) _, ?_⟩
        exact ((((Own.past HO3.out (.inl (by omega))).past (.inl (by omega))).past (.inl (by omega))).past (.inl (by omega))).keep (by omega) (by simp) (fun _ _ _ _ => rfl)
end Go.Proofs.Ytledclkmeikgdaa.T
