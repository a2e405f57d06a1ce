import Derived.Test.YtilahbfcobhjeaaTh
import Derived.Lib.BufferMore
/-! Programs that are made tighter: the program's pile of places, and clones. -/
namespace Go.Proofs.Ytilahbfcobhjeaa
open Go.RowKit Go.Deep
set_option linter.unusedVariables false
set_option maxRecDepth 100000
set_option linter.unusedSimpArgs false

theorem eqNil76 (a : Addr) (n c : Nat) (w : World) : (binOp .eql 76 (.slice (some a) n c) (.slice none 0 0)).run Try.prog w = .ok (.bool false) w := Lib.run_eql_slice_some_nil w _ _ _ Try.underlying76
theorem eqNil25 (a : Addr) (n c : Nat) (w : World) : (binOp .eql 25 (.slice (some a) n c) (.slice none 0 0)).run Try.prog w = .ok (.bool false) w := Lib.run_eql_slice_some_nil w _ _ _ Try.underlying25
set_option maxHeartbeats 1600000 in
/-- The clone of one number. -/
theorem clone129 (g o c : Nat) (x : Int) (w : World) (h : w.cell? ⟨g, o, none⟩ = some (.int .i64 x)) :
    Calls Try.prog 129 #[.slice (some ⟨g, o, none⟩) 1 c] w fun e w' => ∃ g' c', e = .returned (.slice (some ⟨g', 0, none⟩) 1 c') ∧ Below w.heap.size w w' ∧ w'.cell? ⟨g', 0, none⟩ = some (.int .i64 x) := by
  obtain ⟨i3, hi3, hzz⟩ := Option.map_eq_some_iff.1 info3p
  simp only [Prod.mk.injEq] at hzz
  obtain ⟨hz0, hz1, hz2⟩ := hzz
  have hb0 := bel_alloc w (.cells #[] 3)
  have HO := (show Hid ((w.alloc (.cells #[] 3)).ownsRow w.heap.size 3 1 (.slice (some ⟨w.heap.size, 0, none⟩) 0 0) 0 (iv [])) from World.ownsRow_made w #[] 0 (Nat.le_refl _) (Nat.zero_le _) rfl)
  have HNW := (show Hid (∀ j u, [Value.int .i64 x][j]? = some u → (w.alloc (.cells #[] 3)).cell? ((⟨g, o, none⟩ : Addr).add j) = some u) from fun j u hu => by
    cases j with
    | zero => simp at hu; subst hu; simp [Addr.add]; exact (hb0.cell (lt_of_cell h)).trans h
    | succ j => simp at hu)
  have HB0 := (show Hid _ from hb0)
  have hq := eqNil76 ⟨g, o, none⟩ 1 c
  clear h hb0
  go_enter Try.func129, Try.ntmps129
  go_wp2_with (at_builtin; refine wpList_append_lies _ rfl (.tmp 5) (.tmp 6) 76 rfl w.heap.size 3 i3 _ 1 8 Try.underlying76 hi3 hz0 hz1 hz2 rfl (by decide) _ 0 _ rfl HO.out ⟨g, o, none⟩ 1 c [.int .i64 x] rfl rfl HNW.out (by intro u hu; simp at hu; subst hu; rfl) (by decide) (by unfold maxLen; omega) (by omega) (by simp) _ rfl ?_; intro g8 cap8 w8 hown8 hgr8 hat8 hlt8)
  have hc := own_cell (l := [x]) (by simpa [iv] using hown8) rfl (i := 0) (by simp)
  have HE := (show Hid (Below w.heap.size w w8 ∧ w8.cell? ⟨g8, 0, none⟩ = some (.int .i64 x)) from ⟨HB0.out.grown hgr8 (by simp) (fun q hq => (own_lt HO.out hq).1), by simpa using hc⟩)
  clear hown8 hgr8 hat8 hlt8 hc
  go_ret
  exact ⟨g8, cap8, rfl, HE.out.1, HE.out.2⟩
/-- A pile of places behind a box. -/
structure Sk (w : World) (q A : Nat) (v : Value) (T : List Nat) : Prop where
  box : Box w q 76 [v]
  row : w.ownsRow A 3 1 v T.length (iv (nL T))
  hA : A ≤ w.heap.size
  nq : ∀ b, v.ownBlock = some b → b ≠ q
theorem Sk.keep {w w' : World} {q A : Nat} {v : Value} {T : List Nat} (h : Sk w q A v T) (hs : w.heap.size ≤ w'.heap.size) (hb : ∀ b, b < w.heap.size → w'.heap[b]? = w.heap[b]?) : Sk w' q A v T :=
  ⟨h.box.keep (hb q h.box.lt), own_keep h.row (fun b hb' => hb b (own_lt h.row hb').2), Nat.le_trans h.hA hs, h.nq⟩
theorem Sk.still {w w' : World} {q A : Nat} {v : Value} {T : List Nat} (h : Sk w q A v T) (hb : Below w.heap.size w w') : Sk w' q A v T := h.keep hb.size hb.block
theorem Sk.form {w : World} {q A : Nat} {v : Value} {T : List Nat} (h : Sk w q A v T) : ∃ a c, v = .slice a T.length c ∧ T.length ≤ c ∧ c ≤ maxLen ∧ (0 < T.length → ∃ g, a = some ⟨g, 0, none⟩) := by
  rcases h.row.2 with ⟨e, h0⟩ | ⟨g', cap', cur, e, _, _, hc, hcm, _, _⟩
  · exact ⟨none, 0, by rw [h0]; exact e, by omega, by unfold maxLen; omega, fun h => absurd h (by omega)⟩
  · exact ⟨_, cap', e, hc, hcm, fun _ => ⟨g', rfl⟩⟩
set_option maxHeartbeats 1600000 in
theorem put107s (q A : Nat) (k : Nat) (v : Value) (T : List Nat) (w : World) (h : Sk w q A v T) (hn : T.length ≤ 200000) :
    Calls Try.prog 107 #[.pointer (some ⟨q, 0, none⟩), .int .i64 (k : Int)] w fun e w' => e = .returned (.tuple #[]) ∧ Kp q A w w' ∧ (∀ b, b < w.heap.size → b ≠ q → v.ownBlock ≠ some b → w'.heap[b]? = w.heap[b]?) ∧ ∃ v', Sk w' q A v' (T ++ [k]) := by
  obtain ⟨i3, hi3, hzz⟩ := Option.map_eq_some_iff.1 info3p
  simp only [Prod.mk.injEq] at hzz
  obtain ⟨hz0, hz1, hz2⟩ := hzz
  have h2 := h.still (bel_alloc w (.cells #[.int .i64 (k : Int)] 3))
  have hK := (Kp.refl q A w).alloc h.hA (.cells #[.int .i64 (k : Int)] 3)
  have k5 : w.cell? ⟨q, 0, none⟩ = some v := h.box.cell 0 (by simp)
  have hqs := h.box.lt
  have hfz := h.box.frozen 0
  have HA2 := (show Hid _ from h2)
  have HK := (show Hid _ from hK)
  have HNB := (show Hid _ from World.news_of_block (blk_alloc_new w (.cells #[.int .i64 (k : Int)] 3)))
  obtain ⟨ap, cp, rfl, _⟩ := h.form
  have hAz := h.hA
  have HQA := (show Hid _ from h.nq)
  clear h h2 hK
  go_enter Try.func107, Try.ntmps107
  go_wp2_with (at_builtin; refine wpList_append_lies _ rfl (.tmp 7) (.tmp 9) 76 rfl A 3 i3 _ 1 8 Try.underlying76 hi3 hz0 hz1 hz2 rfl (by decide) _ T.length (iv (nL T)) rfl HA2.out.row ⟨w.heap.size, 0, none⟩ 1 1 [.int .i64 (k : Int)] rfl rfl HNB.out (by intro u hu; simp at hu; subst hu; rfl) (by decide) (by unfold maxLen; omega) (by omega) (by simp; omega) _ rfl ?_; intro g3x cap3 w3 hown3 hgr3 hat3 hlt3; have hbx3 := HA2.out.box.keep (hgr3.block q HA2.out.box.lt (fun e => HQA.out q e.symm rfl)); have z0 : w3.cell? ⟨q, 0, none⟩ = some (.slice ap T.length cp) := hbx3.cell 0 (by simp); have zf := hbx3.frozen 0; have HBX3 := (show Hid _ from hbx3); have HO3 := (show Hid _ from hown3); have HG3 := (show Hid _ from hgr3); have HAT := (show Hid (g3x ≠ q) from (by show g3x ≠ q; rcases hat3 with e | e; exact HQA.out _ e; (rw [e]; simp; omega))); clear hbx3 hown3 hgr3 hat3 hlt3)
  refine bodyPost_end (v := .tuple #[]) (by simp [results, Try.results107]) rfl ?_
  refine ⟨rfl, (HK.out.grown HA2.out.hA HG3.out (fun b e => (own_lt HA2.out.row e).1)).set 0 _, fun b h1 h2 h3 => (blk_setCell_other _ _ _ _ (by show b ≠ q; exact h2)).trans ((HG3.out.block b (by simp; omega) (fun e => h3 e.symm)).trans ((bel_alloc w _).block b h1)), .slice (some ⟨g3x, 0, none⟩) (T.length + 1) cap3, ?_⟩
  have hsz := HG3.out.size
  have hgA := (own_lt HO3.out (b := g3x) rfl).1
  have hAA := HA2.out.hA
  refine ⟨HBX3.out.set 0 _, ?_, by simp; omega, fun b hb => (by injection hb with hb; subst hb; exact HAT.out)⟩
  have e : iv (nL (T ++ [k])) = iv (nL T) ++ [.int .i64 (k : Int)] := by simp [nL, iv]
  rw [e, List.length_append]
  exact own_keep HO3.out (fun b hb => blk_setCell_other _ _ _ _ (by show b ≠ q; injection hb with hb; subst hb; exact HAT.out))
set_option maxHeartbeats 3200000 in
theorem take122 (q A : Nat) (k : Nat) (v : Value) (T : List Nat) (w : World) (h : Sk w q A v (T ++ [k])) (hn : T.length ≤ 200000) :
    Calls Try.prog 122 #[.pointer (some ⟨q, 0, none⟩), .int .i64 1] w fun e w' => ∃ g c v', e = .returned (.slice (some ⟨g, 0, none⟩) 1 c) ∧ w'.cell? ⟨g, 0, none⟩ = some (.int .i64 (k : Int)) ∧ Kp q A w w' ∧ Sk w' q A v' T := by
  obtain ⟨ap, cp, rfl, hlc, hcm, hap⟩ := h.form
  obtain ⟨g, rfl⟩ := hap (by simp)
  have HTL := (show Hid ((T ++ [k]).length = T.length + 1) from (by show _ = _; simp))
  rw [HTL.out] at hlc
  have k5 : w.cell? ⟨q, 0, none⟩ = some (.slice (some ⟨g, 0, none⟩) (T ++ [k]).length cp) := h.box.cell 0 (by simp)
  rw [HTL.out] at k5
  have hqs := h.box.lt
  have hlast : w.cell? ⟨g, T.length, none⟩ = some (.int .i64 (k : Int)) := by
    have := own_cell h.row rfl (i := T.length) (by rw [nL_len]; simp)
    rw [this]; simp [nL]
  have HCL := (show Hid _ from clone129 g T.length (cp - T.length) (k : Int) w hlast)
  have HSK := (show Hid _ from h)
  unfold maxLen at hcm
  have kw1 : IntKind.i64.wrap (((T.length + 1 : Nat) : Int) - 1) = (T.length : Int) := by rw [IntKind.wrap_i64]; omega
  clear h hlast hap
  go_enter Try.func122, Try.ntmps122
  go_wp2_with fail
  refine Calls.mono HCL.out ?_
  rintro e w1 ⟨g9, c9, rfl, hb1, hc1⟩
  have hs1 := HSK.out.still hb1
  have k6 : w1.cell? ⟨q, 0, none⟩ = some (.slice (some ⟨g, 0, none⟩) (T ++ [k]).length cp) := hs1.box.cell 0 (by simp)
  rw [HTL.out] at k6
  have kf := hs1.box.frozen 0
  have hne : g9 ≠ q := by
    rintro rfl
    rw [hc1] at k6
    cases k6
  have HE := (show Hid (w1.cell? ⟨g9, 0, none⟩ = some (.int .i64 (k : Int)) ∧ Kp q A w w1 ∧ Sk w1 q A (.slice (some ⟨g, 0, none⟩) (T ++ [k]).length cp) (T ++ [k])) from ⟨hc1, Kp.of_bel hb1 HSK.out.hA, hs1⟩)
  clear hb1 hc1 hs1 HCL HSK
  go_wp2_with fail
  go_ret
  refine ⟨g9, c9, .slice (some ⟨g, 0, none⟩) T.length cp, rfl, (World.cell?_of_block (w := w1) (blk_setCell_other _ _ _ _ (by show g9 ≠ q; exact hne))).trans HE.out.1, HE.out.2.1.set 0 _, HE.out.2.2.box.set 0 _, ?_, by have := HE.out.2.2.hA; simp; exact this, HE.out.2.2.nq⟩
  have hrow := HE.out.2.2.row
  have h1 := own_cut hrow (m := T.length) (by simp)
  have e : (nL (T ++ [k])).take T.length = nL T := by
    unfold nL
    rw [List.map_append, List.take_append_of_le_length (by simp), List.take_of_length_le (by simp)]
  rw [e] at h1
  exact own_keep h1 (fun b hb => blk_setCell_other _ _ _ _ (by show b ≠ q; exact HE.out.2.2.nq b hb))
set_option maxHeartbeats 1600000 in
/-- The clone of a program. -/
theorem clone104 {S : Nat → Prop} (l : List DIns) (v : Value) (w : World) (h : InsR w S l v) (h1 : 1 ≤ l.length) (hl : l.length ≤ 50000) :
    Calls Try.prog 104 #[v] w fun e w' => ∃ g c, e = .returned (.slice (some ⟨g, 0, none⟩) l.length c) ∧ Below w.heap.size w w' ∧ XC w' g c l ∧ w.heap.size ≤ g := by
  obtain ⟨i57, hi57, hyy⟩ := Option.map_eq_some_iff.1 info57p
  simp only [Prod.mk.injEq] at hyy
  obtain ⟨hy0, hy1, hy2⟩ := hyy
  obtain ⟨a, cap, b, off, rfl, hc, hm, ha, hcell⟩ := h
  obtain ⟨rfl, _⟩ := ha (by omega)
  have hb0 := bel_alloc w (.cells #[] 57)
  have HO := (show Hid ((w.alloc (.cells #[] 57)).ownsRow w.heap.size 57 3 (.slice (some ⟨w.heap.size, 0, none⟩) 0 0) 0 []) from World.ownsRow_made w #[] 0 (Nat.le_refl _) (Nat.zero_le _) rfl)
  have hx : ∀ i (hi : i < l.length) k, k < 3 → (xv l)[i * 3 + k]? = [Value.int .i64 l[i].op, .int .i64 l[i].n, .int .i64 l[i].to_][k]? := by
    intro i hi k hk
    have hl : (l.take i).length = i := by simp; omega
    have e : xv l = xv (l.take i) ++ ([Value.int .i64 l[i].op, .int .i64 l[i].n, .int .i64 l[i].to_] ++ xv (l.drop (i + 1))) := by
      have e1 : l.take i ++ (l[i] :: l.drop (i + 1)) = l := by rw [← List.drop_eq_getElem_cons hi, List.take_append_drop]
      have e2 : xv (l[i] :: l.drop (i + 1)) = [Value.int .i64 l[i].op, .int .i64 l[i].n, .int .i64 l[i].to_] ++ xv (l.drop (i + 1)) := rfl
      rw [← e2, ← xv_append, e1]
    rw [e, List.getElem?_append_right (by rw [xv_len, hl]; omega), xv_len, hl, Nat.add_sub_cancel_left, List.getElem?_append_left (by simpa using hk)]
  have HNW := (show Hid (∀ j u, (xv l)[j]? = some u → (w.alloc (.cells #[] 57)).cell? ((⟨b, off, none⟩ : Addr).add j) = some u) from fun j u hu => by
    have hj : j < l.length * 3 := by
      have := (List.getElem?_eq_some_iff.1 hu).1
      rw [xv_len] at this; exact this
    have hi : j / 3 < l.length := by omega
    obtain ⟨c0, c1, c2⟩ := hcell (j / 3) hi
    have hr : j % 3 = 0 ∨ j % 3 = 1 ∨ j % 3 = 2 := by omega
    have hxx := hx (j / 3) hi (j % 3) (by omega)
    rw [show j / 3 * 3 + j % 3 = j by omega, hu] at hxx
    have hpl : (⟨b, off, none⟩ : Addr).add j = ⟨b, off + j, none⟩ := by cases j <;> simp [Addr.add]
    rw [hpl]
    rcases hr with e | e | e <;> rw [e] at hxx <;> simp at hxx <;> subst hxx
    · rw [show off + j = off + j / 3 * 3 by omega]; exact (hb0.cell (lt_of_cell c0)).trans c0
    · rw [show off + j = off + j / 3 * 3 + 1 by omega]; exact (hb0.cell (lt_of_cell c1)).trans c1
    · rw [show off + j = off + j / 3 * 3 + 2 by omega]; exact (hb0.cell (lt_of_cell c2)).trans c2)
  have HON := (show Hid (∀ u ∈ xv l, u.oneCell' = true) from fun u hu => by
    unfold xv at hu
    obtain ⟨x, _, hx⟩ := List.mem_flatMap.1 hu
    simp at hx
    rcases hx with rfl | rfl | rfl <;> rfl)
  have HXL := (show Hid _ from xv_len l)
  have HB0 := (show Hid _ from hb0)
  have hq := eqNil25 ⟨b, off, none⟩ l.length cap
  unfold maxLen at hm
  clear ha hcell hb0 hx
  go_enter Try.func104, Try.ntmps104
  go_wp2_with (at_builtin; refine wpList_append_lies _ rfl (.tmp 5) (.tmp 6) 25 rfl w.heap.size 57 i57 _ 3 24 Try.underlying25 hi57 hy0 hy1 hy2 rfl (by decide) _ 0 _ rfl HO.out ⟨b, off, none⟩ l.length cap (xv l) rfl HXL.out HNW.out HON.out (by omega) (by unfold maxLen; omega) (by omega) (by simp) _ rfl ?_; intro g8 cap8 w8 hown8 hgr8 hat8 hlt8)
  have hxc : XC w8 g8 cap8 l := XC.of (base := w.heap.size) (by simpa using hown8)
  have HE := (show Hid (Below w.heap.size w w8 ∧ XC w8 g8 cap8 l ∧ w.heap.size ≤ g8) from ⟨HB0.out.grown hgr8 (by simp) (fun q hq => (own_lt HO.out hq).1), hxc, (own_lt hown8 (b := g8) rfl).1⟩)
  clear hown8 hgr8 hat8 hlt8 hxc
  go_wp2_with fail
  go_ret
  refine ⟨g8, cap8, by simp, HE.out⟩
end Go.Proofs.Ytilahbfcobhjeaa
