import Derived.Test.YtblfeifedcddnaaOutw
/-! The program: copied. -/
namespace Go.Proofs.Ytblfeifedcddnaa
open Go.RowKit Go.Deep Go.Lib
set_option linter.unusedVariables false
set_option maxRecDepth 100000
set_option linter.unusedSimpArgs false

theorem copied40 {S : Nat → Prop} (t : Tr) (v : Value) (w : World) (h : Lies w S t v) (hwt : t.wt ≤ 1048576) (hr : t.right = true) :
    Calls Try.prog 83 #[t.val v] w fun e w' => ∃ v', e = .returned (t.val v') ∧ Below w.heap.size w w' ∧ Own w' w.heap.size w'.heap.size t v' := by
  obtain ⟨a1, m1, c1, rfl⟩ := h.form
  have hb2 : Below w.heap.size w ((w.alloc (.cells #[.string t.name, .string t.text, .bool t.leaf, .slice a1 m1 c1] 51)).alloc (.cells #[.string ByteArray.empty, .string ByteArray.empty, .bool false, .slice none 0 0] 51)) := (bel_alloc _ _).alloc (by simp) _
  have HI := (show Hid _ from inward_any t (.slice a1 m1 c1) _ (h.still hb2) hwt)
  have HO := (show Hid (∀ (u : Value) (w1 : World), Form w1 (fun b => ((w.alloc (.cells #[.string t.name, .string t.text, .bool t.leaf, .slice a1 m1 c1] 51)).alloc (.cells #[.string ByteArray.empty, .string ByteArray.empty, .bool false, .slice none 0 0] 51)).heap.size ≤ b) t u → Calls Try.prog 111 #[u] w1 fun e w' => ∃ v', e = .returned (t.val v') ∧ Below w1.heap.size w1 w' ∧ Own w' w1.heap.size w'.heap.size t v') from fun u w1 hf => outw_any t u w1 hf hwt hr)
  have HB2 := (show Hid _ from hb2)
  have HZ := (show Hid (Box ((w.alloc (.cells #[.string t.name, .string t.text, .bool t.leaf, .slice a1 m1 c1] 51)).alloc (.cells #[.string ByteArray.empty, .string ByteArray.empty, .bool false, .slice none 0 0] 51)) (w.heap.size + 1) 51 [.string ByteArray.empty, .string ByteArray.empty, .bool false, .slice none 0 0]) from (by
    have h := Box.new (w.alloc (.cells #[.string t.name, .string t.text, .bool t.leaf, .slice a1 m1 c1] 51)) 51 [.string ByteArray.empty, .string ByteArray.empty, .bool false, .slice none 0 0]
    rw [show (w.alloc (.cells #[.string t.name, .string t.text, .bool t.leaf, .slice a1 m1 c1] 51)).heap.size = w.heap.size + 1 from by simp] at h
    exact h))
  have hs2 : ((w.alloc (.cells #[.string t.name, .string t.text, .bool t.leaf, .slice a1 m1 c1] 51)).alloc (.cells #[.string ByteArray.empty, .string ByteArray.empty, .bool false, .slice none 0 0] 51)).heap.size = w.heap.size + 2 := by simp
  have HS2 := (show Hid _ from hs2)
  simp only [Tr.val] at HI HO ⊢
  clear h hb2 hs2
  go_enter Try.func83, Try.ntmps83
  go_wp2_with fail
  refine Calls.mono HI.out ?_
  rintro e w1 ⟨u, rfl, hb1, hf⟩
  have HO1 := (show Hid _ from HO.out u w1 hf)
  have HB1 := (show Hid _ from hb1)
  clear hf hb1 HI HO
  go_wp2_with fail
  refine Calls.mono HO1.out ?_
  rintro e w2 ⟨v', rfl, hb3, ho⟩
  obtain ⟨z1, z2, z3, rfl⟩ := ho.form
  have hbw : Below ((w.alloc (.cells #[.string t.name, .string t.text, .bool t.leaf, .slice a1 m1 c1] 51)).alloc (.cells #[.string ByteArray.empty, .string ByteArray.empty, .bool false, .slice none 0 0] 51)).heap.size ((w.alloc (.cells #[.string t.name, .string t.text, .bool t.leaf, .slice a1 m1 c1] 51)).alloc (.cells #[.string ByteArray.empty, .string ByteArray.empty, .bool false, .slice none 0 0] 51)) w2 := bel_trans HB1.out hb3
  have bz := HZ.out.still hbw
  have Z0 : w2.cell? ⟨w.heap.size + 1, 0, none⟩ = some (.string ByteArray.empty) := bz.cell 0 (by simp)
  have Z1 : w2.cell? ⟨w.heap.size + 1, 1, none⟩ = some (.string ByteArray.empty) := bz.cell 1 (by simp)
  have Z2 : w2.cell? ⟨w.heap.size + 1, 2, none⟩ = some (.bool false) := bz.cell 2 (by simp)
  have Z3 : w2.cell? ⟨w.heap.size + 1, 3, none⟩ = some (.slice none 0 0) := bz.cell 3 (by simp)
  have y0 : w2.frozen? ⟨w.heap.size + 1, 0, none⟩ = false := bz.frozen 0
  have y1 : w2.frozen? ⟨w.heap.size + 1, 1, none⟩ = false := bz.frozen 1
  have y2 : w2.frozen? ⟨w.heap.size + 1, 2, none⟩ = false := bz.frozen 2
  have y3 : w2.frozen? ⟨w.heap.size + 1, 3, none⟩ = false := bz.frozen 3
  have hw : Below w.heap.size w w2 := bel_trans HB2.out hbw
  have hsz := HB1.out.size
  have hs2 := HS2.out
  rw [hs2] at hsz
  have HFIN := (show Hid (Below w.heap.size w w2 ∧ Own w2 (w.heap.size + 2) w2.heap.size t (.slice z1 z2 z3)) from ⟨hw, ho.keep (by omega) (Nat.le_refl _) (fun _ _ _ _ => rfl)⟩)
  clear hw ho hbw hb3 bz HB1 HO1 HZ hsz hs2
  go_wp2_with fail
  refine bodyPost_ret (v := .agg #[.string t.name, .string t.text, .bool t.leaf, .slice z1 z2 z3]) (by simp [results, Try.results83, go_sem, Z0, Z1, Z2, Z3]) rfl ⟨_, rfl, ?_, ?_⟩
  · exact (((HFIN.out.1.setCell (by simp) _).setCell (by simp) _).setCell (by simp) _).setCell (by simp) _
  · have hfin := HFIN.out.2
    exact ((((hfin.past (.inl (by omega))).past (.inl (by omega))).past (.inl (by omega))).past (.inl (by omega))).keep (by omega) (by simp) (fun _ _ _ _ => rfl)
end Go.Proofs.Ytblfeifedcddnaa
