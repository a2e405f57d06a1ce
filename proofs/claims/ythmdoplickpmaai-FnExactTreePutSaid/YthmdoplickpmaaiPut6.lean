import Derived.Test.YthmdoplickpmaaiPut3
namespace Go.Proofs.Ythmdoplickpmaai
open Go.RowKit Go.Deep Go.Lib
set_option linter.unusedVariables false
set_option maxRecDepth 100000
set_option linter.unusedSimpArgs false

theorem Ints.any {w : World} {S : Nat → Prop} {l : List Int} {v : Value} (h : Ints w S l v) : Ints w (fun _ => True) l v := by
  obtain ⟨pa, pcap, pb, poff, e, h1, h2, h3, h4⟩ := h
  exact ⟨pa, pcap, pb, poff, e, h1, h2, fun q => ⟨(h3 q).1, trivial⟩, h4⟩

set_option maxHeartbeats 1600000 in
theorem sPut_any {S S' S2 : Nat → Prop} (t u : Tr) (l : List Int) (v pv uv : Value) (w : World) (hl : Lies w S t v) (hp : Ints w S' l pv) (hu : Lies w S2 u uv) (hwt : t.wt + u.wt ≤ 1048576) :
    Calls Try.prog 17 #[t.val v, pv, u.val uv] w fun e w' => Ans (putR t l u) w e w' := by
  have hok := fun (w' : World) (hw : Below w.heap.size w w') => sOK_any t v w' (hl.still hw)
  have hok2 := fun (w' : World) (hw : Below w.heap.size w w') => sOK_any u uv w' (hu.still hw)
  have hld := fun (w' : World) (hw : Below w.heap.size w w') => leads_any t l v pv w' (hl.still hw) (hp.still hw)
  have hat := fun (w' : World) (hw : Below w.heap.size w w') (s : Tr) (hs : putAt l t u = some s) => lput_any l (fun _ => True) t u s v pv uv w' ((hl.still hw).mono (fun _ _ => trivial)) (hp.any.still hw) ((hu.still hw).mono (fun _ _ => trivial)) hs (by omega)
  obtain ⟨a, len, cap, rfl⟩ := hl.form
  obtain ⟨ua, ulen, ucap, rfl⟩ := hu.form
  obtain ⟨pa, plen, pcap, rfl⟩ := hp.form
  have HO := (show Hid _ from hok); clear hok
  have HO2 := (show Hid _ from hok2); clear hok2
  have HD := (show Hid _ from hld); clear hld
  have HT := (show Hid _ from hat); clear hat
  clear hl hp hu
  simp only [Tr.val]
  go_enter Try.func17, Try.ntmps17
  go_wp2_with fail
  have hbw0 : Below w.heap.size w (((w.alloc (.cells #[.string t.name, .string t.text, .bool t.leaf, .slice a len cap] 29)).alloc (.cells #[.string u.name, .string u.text, .bool u.leaf, .slice ua ulen ucap] 29)).alloc (.cells #[.string ByteArray.empty, .string ByteArray.empty, .bool false, .slice none 0 0] 29)) := ((bel_alloc _ _).alloc (by simp) _).alloc (by simp; omega) _
  have B0 : Box4 (((w.alloc (.cells #[.string t.name, .string t.text, .bool t.leaf, .slice a len cap] 29)).alloc (.cells #[.string u.name, .string u.text, .bool u.leaf, .slice ua ulen ucap] 29)).alloc (.cells #[.string ByteArray.empty, .string ByteArray.empty, .bool false, .slice none 0 0] 29)) w.heap.size (.string t.name) (.string t.text) (.bool t.leaf) (.slice a len cap) :=
    ((Box4.new w _ _ _ _).still (bel_alloc _ _)).still (bel_alloc _ _)
  have U0 : Box4 (((w.alloc (.cells #[.string t.name, .string t.text, .bool t.leaf, .slice a len cap] 29)).alloc (.cells #[.string u.name, .string u.text, .bool u.leaf, .slice ua ulen ucap] 29)).alloc (.cells #[.string ByteArray.empty, .string ByteArray.empty, .bool false, .slice none 0 0] 29)) (w.heap.size + 1) (.string u.name) (.string u.text) (.bool u.leaf) (.slice ua ulen ucap) := by
    have := (Box4.new (w.alloc (.cells #[.string t.name, .string t.text, .bool t.leaf, .slice a len cap] 29)) (.string u.name) (.string u.text) (.bool u.leaf) (.slice ua ulen ucap)).still (bel_alloc _ (.cells #[.string ByteArray.empty, .string ByteArray.empty, .bool false, .slice none 0 0] 29))
    simp only [World.size_alloc] at this
    exact this
  have R0 : Box4 (((w.alloc (.cells #[.string t.name, .string t.text, .bool t.leaf, .slice a len cap] 29)).alloc (.cells #[.string u.name, .string u.text, .bool u.leaf, .slice ua ulen ucap] 29)).alloc (.cells #[.string ByteArray.empty, .string ByteArray.empty, .bool false, .slice none 0 0] 29)) (w.heap.size + 2) (.string ByteArray.empty) (.string ByteArray.empty) (.bool false) (.slice none 0 0) := by
    have := Box4.new ((w.alloc (.cells #[.string t.name, .string t.text, .bool t.leaf, .slice a len cap] 29)).alloc (.cells #[.string u.name, .string u.text, .bool u.leaf, .slice ua ulen ucap] 29)) (.string ByteArray.empty) (.string ByteArray.empty) (.bool false) (.slice none 0 0)
    simp only [World.size_alloc] at this
    exact this
  refine Calls.mono (HO.out _ hbw0) ?_
  rintro e w1 ⟨rfl, hb1⟩
  have HB1 := (show Hid _ from (⟨B0.still hb1, U0.still hb1, R0.still hb1, hbw0.trans (hb1.mono (by simp; omega))⟩ : Box4 w1 _ _ _ _ _ ∧ Box4 w1 _ _ _ _ _ ∧ Box4 w1 _ _ _ _ _ ∧ Below _ w w1))
  have hsz1 : w.heap.size + 3 ≤ w1.heap.size := by have := hb1.size; simp at this; omega
  obtain ⟨V0, V1, V2, V3⟩ := Box4.cells HB1.out.2.1
  clear B0 U0 R0 hbw0 hb1
  cases hok : t.ok
  · have HA : Hid (putR t l u = (zt, 1)) := putR_bad (.inl hok)
    obtain ⟨Z0, Z1, Z2, Z3⟩ := Box4.cells HB1.out.2.2.1
    have y0 := Box4.frozen HB1.out.2.2.1 0
    have y1 := Box4.frozen HB1.out.2.2.1 1
    have y2 := Box4.frozen HB1.out.2.2.1 2
    have y3 := Box4.frozen HB1.out.2.2.1 3
    clear hok
    go_wp2_with fail
    refine bodyPost_ret (v := .tuple #[.agg #[.string ByteArray.empty, .string ByteArray.empty, .bool false, .slice none 0 0], .int .i64 1]) (by simp [results, Try.results17, go_sem, Z0, Z1, Z2, Z3]; rfl) rfl ?_
    rw [HA.out]
    exact ⟨none, 0, 0, rfl, (((HB1.out.2.2.2.setCell (by simp; omega) _).setCell (by simp; omega) _).setCell (by simp; omega) _).setCell (by simp; omega) _, zt_own _ _ _⟩
  · have HOK := (show Hid _ from hok); clear hok
    go_wp2_with fail
    refine Calls.mono (HO2.out _ HB1.out.2.2.2) ?_
    rintro e w2 ⟨rfl, hb2⟩
    have HB2 := (show Hid _ from (⟨Box4.still HB1.out.1 hb2, Box4.still HB1.out.2.1 hb2, Box4.still HB1.out.2.2.1 hb2, bel_trans HB1.out.2.2.2 hb2⟩ : Box4 w2 _ _ _ _ _ ∧ Box4 w2 _ _ _ _ _ ∧ Box4 w2 _ _ _ _ _ ∧ Below _ w w2))
    have hsz2 : w.heap.size + 3 ≤ w2.heap.size := by have := hb2.size; omega
    clear V0 V1 V2 V3 HB1 hb2
    cases hok : u.ok
    · have HA : Hid (putR t l u = (zt, 1)) := putR_bad (.inr hok)
      obtain ⟨Z0, Z1, Z2, Z3⟩ := Box4.cells HB2.out.2.2.1
      have y0 := Box4.frozen HB2.out.2.2.1 0
      have y1 := Box4.frozen HB2.out.2.2.1 1
      have y2 := Box4.frozen HB2.out.2.2.1 2
      have y3 := Box4.frozen HB2.out.2.2.1 3
      clear hok
      go_wp2_with fail
      refine bodyPost_ret (v := .tuple #[.agg #[.string ByteArray.empty, .string ByteArray.empty, .bool false, .slice none 0 0], .int .i64 1]) (by simp [results, Try.results17, go_sem, Z0, Z1, Z2, Z3]; rfl) rfl ?_
      rw [HA.out]
      exact ⟨none, 0, 0, rfl, (((HB2.out.2.2.2.setCell (by simp; omega) _).setCell (by simp; omega) _).setCell (by simp; omega) _).setCell (by simp; omega) _, zt_own _ _ _⟩
    · have HOK2 := (show Hid _ from hok); clear hok
      obtain ⟨X0, X1, X2, X3⟩ := Box4.cells HB2.out.1
      go_wp2_with fail
      refine Calls.mono (HD.out _ HB2.out.2.2.2) ?_
      rintro e w3 ⟨rfl, hb3⟩
      have HB3 := (show Hid _ from (⟨Box4.still HB2.out.1 hb3, Box4.still HB2.out.2.1 hb3, Box4.still HB2.out.2.2.1 hb3, bel_trans HB2.out.2.2.2 hb3⟩ : Box4 w3 _ _ _ _ _ ∧ Box4 w3 _ _ _ _ _ ∧ Box4 w3 _ _ _ _ _ ∧ Below _ w w3))
      have hsz3 : w.heap.size + 3 ≤ w3.heap.size := by have := hb3.size; omega
      clear X0 X1 X2 X3 HB2 hb3
      rw [← putAt_some l t u]
      cases hwk : putAt l t u with
      | none =>
        have HA : Hid (putR t l u = (zt, 4)) := putR_place HOK.out HOK2.out hwk
        obtain ⟨Z0, Z1, Z2, Z3⟩ := Box4.cells HB3.out.2.2.1
        have y0 := Box4.frozen HB3.out.2.2.1 0
        have y1 := Box4.frozen HB3.out.2.2.1 1
        have y2 := Box4.frozen HB3.out.2.2.1 2
        have y3 := Box4.frozen HB3.out.2.2.1 3
        clear hwk
        simp only [Option.isSome_none]
        go_wp2_with fail
        refine bodyPost_ret (v := .tuple #[.agg #[.string ByteArray.empty, .string ByteArray.empty, .bool false, .slice none 0 0], .int .i64 4]) (by simp [results, Try.results17, go_sem, Z0, Z1, Z2, Z3]; rfl) rfl ?_
        rw [HA.out]
        exact ⟨none, 0, 0, rfl, (((HB3.out.2.2.2.setCell (by simp; omega) _).setCell (by simp; omega) _).setCell (by simp; omega) _).setCell (by simp; omega) _, zt_own _ _ _⟩
      | some o =>
        have hsw := putAt_wt l hwk
        have HWK := (show Hid _ from hwk); clear hwk
        obtain ⟨X0, X1, X2, X3⟩ := Box4.cells HB3.out.1
        obtain ⟨V0, V1, V2, V3⟩ := Box4.cells HB3.out.2.1
        simp only [Option.isSome_some]
        go_wp2_with fail
        refine Calls.mono (HT.out _ HB3.out.2.2.2 o HWK.out) ?_
        rintro e w4 ⟨v4, rfl, hb4, hl4⟩
        obtain ⟨a4, m4, c4, rfl⟩ := hl4.form
        have hl4' := hl4.still (bel_alloc w4 (.cells #[.string o.name, .string o.text, .bool o.leaf, .slice a4 m4 c4] 29))
        have hb4' := bel_trans hb4 (bel_alloc w4 (.cells #[.string o.name, .string o.text, .bool o.leaf, .slice a4 m4 c4] 29))
        have HO4 := (show Hid _ from (⟨Box4.new w4 (.string o.name) (.string o.text) (.bool o.leaf) (.slice a4 m4 c4), hl4', Box4.still HB3.out.2.2.1 hb4', bel_trans HB3.out.2.2.2 hb4'⟩ : _ ∧ _ ∧ Box4 _ _ _ _ _ _ ∧ Below _ w _))
        have hsz4 : w.heap.size + 3 ≤ w4.heap.size := by have := hb4.size; omega
        clear X0 X1 X2 X3 V0 V1 V2 V3 HB3 hb4 hb4' hl4 hl4'
        go_wp2_with fail
        generalize hw4 : w4.alloc (.cells #[.string o.name, .string o.text, .bool o.leaf, .slice a4 m4 c4] 29) = w4b at *
        clear hw4
        refine Calls.mono (sOK_any o _ w4b HO4.out.2.1) ?_
        rintro e w5 ⟨rfl, hb5⟩
        have HO5 := (show Hid _ from (⟨Box4.still HO4.out.1 hb5, Lies.still HO4.out.2.1 hb5, Box4.still HO4.out.2.2.1 hb5, bel_trans HO4.out.2.2.2 hb5⟩ : Box4 w5 _ _ _ _ _ ∧ Lies w5 _ _ _ ∧ Box4 w5 _ _ _ _ _ ∧ Below _ w w5))
        have hsz5 : w.heap.size + 3 ≤ w5.heap.size := Box4.lt HO5.out.2.2.1
        obtain ⟨X0, X1, X2, X3⟩ := Box4.cells HO5.out.1
        clear HO4 hb5
        cases hok : o.ok
        · have HA : Hid (putR t l u = (zt, 3)) := putR_full HOK.out HOK2.out HWK.out hok
          obtain ⟨Z0, Z1, Z2, Z3⟩ := Box4.cells HO5.out.2.2.1
          have y0 := Box4.frozen HO5.out.2.2.1 0
          have y1 := Box4.frozen HO5.out.2.2.1 1
          have y2 := Box4.frozen HO5.out.2.2.1 2
          have y3 := Box4.frozen HO5.out.2.2.1 3
          clear hok
          go_wp2_with fail
          refine bodyPost_ret (v := .tuple #[.agg #[.string ByteArray.empty, .string ByteArray.empty, .bool false, .slice none 0 0], .int .i64 3]) (by simp [results, Try.results17, go_sem, Z0, Z1, Z2, Z3]; rfl) rfl ?_
          rw [HA.out]
          exact ⟨none, 0, 0, rfl, (((HO5.out.2.2.2.setCell (by simp; omega) _).setCell (by simp; omega) _).setCell (by simp; omega) _).setCell (by simp; omega) _, zt_own _ _ _⟩
        · have HA : Hid (putR t l u = (o, 0)) := putR_yes HOK.out HOK2.out HWK.out hok
          clear hok
          go_wp2_with fail
          refine Calls.mono (copy_any o _ w5 HO5.out.2.1 (by omega)) ?_
          rintro e w6 ⟨v6, rfl, hb6, ho6⟩
          obtain ⟨a6, m6, c6, rfl⟩ := ho6.form
          have R6 := Box4.still HO5.out.2.2.1 hb6
          obtain ⟨Z0, Z1, Z2, Z3⟩ := R6.cells
          have y0 := R6.frozen 0
          have y1 := R6.frozen 1
          have y2 := R6.frozen 2
          have y3 := R6.frozen 3
          have hbw6 := bel_trans HO5.out.2.2.2 hb6
          have HO6 := (show Hid _ from (⟨ho6, hbw6⟩ : _ ∧ _)); clear ho6 hbw6 R6 hb6 X0 X1 X2 X3
          go_wp2_with fail
          refine bodyPost_ret (v := .tuple #[.agg #[.string o.name, .string o.text, .bool o.leaf, .slice a6 m6 c6], .int .i64 0]) (by simp [results, Try.results17, go_sem, Z0, Z1, Z2, Z3]) rfl ?_
          rw [HA.out]
          refine ⟨a6, m6, c6, rfl, (((HO6.out.2.setCell (by simp; omega) _).setCell (by simp; omega) _).setCell (by simp; omega) _).setCell (by simp; omega) _, ?_⟩
          exact ((((Own.past HO6.out.1 (.inl (by omega))).past (.inl (by omega))).past (.inl (by omega))).past (.inl (by omega))).keep (by omega) (by simp) (fun _ _ _ _ => rfl)
end Go.Proofs.Ythmdoplickpmaai
