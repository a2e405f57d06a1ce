import Derived.Test.YthmdoplickpmaahYield
import Derived.Test.YthmdoplickpmaahSize
import Derived.Test.YthmdoplickpmaahRight
namespace Go.Proofs.Ythmdoplickpmaah
open Go.RowKit Go.Deep Go.Lib
set_option linter.unusedVariables false
set_option linter.unusedSimpArgs false

theorem push_all (l : List UInt8) : ∀ s : ByteArray, (l.map fun b => ((b.toNat : Nat) : Int)).foldl (fun r n => r.push (UInt8.ofNat n.toNat)) s = s ++ bs l := by
  induction l with
  | nil => intro s; apply ByteArray.ext; simp [bs]
  | cons c r ih =>
    intro s
    simp only [List.map_cons, List.foldl_cons]
    rw [ih]
    have e : s.push (UInt8.ofNat ((c.toNat : Int)).toNat) = s ++ bs [c] := by
      simp only [Int.toNat_natCast, UInt8.ofNat_toNat]
      apply ByteArray.ext
      simp [bs]
    rw [e, ByteArray.append_assoc, bs_append]
    rfl

/-- 'string(bytes)' of a row that the call owns. -/
theorem conv_own {B : Nat} {w : World} {v : Value} {l : List UInt8} (h : w.ownsRow B 5 1 v l.length (bc l)) : (convert 53 9 v).run Try.prog w = .ok (.string (bs l)) w := by
  obtain ⟨hl, h⟩ := h
  rcases h with ⟨rfl, h0⟩ | ⟨g, cap, cur, rfl, _, hg, hc, _, hsz, htk⟩
  · have hl0 : l = [] := List.length_eq_zero_iff.1 h0
    subst hl0
    rw [run_convert_bytes_string w 53 9 5 none 0 0 Try.underlying53 Try.underlying5 Try.underlying9]
    simp [Conv.bytesToString, bs, Sem.run_pure]
    rfl
  · rw [run_convert_bytes_string w 53 9 5 _ _ _ Try.underlying53 Try.underlying5 Try.underlying9]
    have hload : (loadCells ⟨g, 0, none⟩ l.length).run Try.prog w = .ok ((l.map fun b => ((b.toNat : Nat) : Int)).map (Value.int .u8)).toArray w := by
      have e : ((l.map fun b => ((b.toNat : Nat) : Int)).map (Value.int .u8)) = bc l := by simp [bc, Function.comp_def]
      rw [e]
      have := run_loadCells_list (P := Try.prog) w ⟨g, 0, none⟩ (bc l) (fun j u hu => by
        rw [WideShapes.add_plain, Nat.zero_add, cell_of_row w g j cur 5 (0, 0) hg]
        rw [← htk] at hu
        rw [List.getElem?_take] at hu
        split at hu
        · simpa using hu
        · simp at hu)
      rw [bc_length] at this
      exact this
    rw [run_bytesToString w ⟨g, 0, none⟩ l.length cap _ hload, push_all]
    simp [bs]

set_option maxHeartbeats 800000 in
theorem iYield_no {S : Nat → Prop} (t : Tr) (v : Value) (w : World) (hlies : Lies w S t v) (hok : t.ok = false) :
    Calls Try.prog 22 #[t.val v] w fun e w' => e = .returned (.tuple #[.string (bs []), .int .i64 1]) ∧ Below w.heap.size w w' := by
  have h11 := fun (w' : World) (hw : Below w.heap.size w w') => iOK_any t v w' (hlies.still hw)
  obtain ⟨a, len, cap, rfl⟩ := hlies.form
  have H11 := (show Hid _ from h11); clear h11
  have HO := (show Hid _ from hok); clear hok
  simp only [Tr.val]
  go_enter Try.func22, Try.ntmps22
  go_wp2_with fail
  refine Calls.mono (H11.out _ (bel_alloc _ _)) ?_
  rintro e w1 ⟨rfl, hb1⟩
  rw [HO.out]
  go_wp2_with fail
  go_ret2
  exact ⟨rfl, bel_box hb1⟩

theorem ok_right {t : Tr} (h : t.ok = true) : t.right = true ∧ t.cnt ≤ 1000 ∧ t.deep ≤ 60 := by
  unfold Tr.ok at h
  simp at h
  exact ⟨h.2, h.1.1, h.1.2⟩

set_option maxHeartbeats 800000 in
theorem iYield_yes {S : Nat → Prop} (t : Tr) (v : Value) (w : World) (hlies : Lies w S t v) (hok : t.ok = true) (hwt : t.wt ≤ 1048576) :
    Calls Try.prog 22 #[t.val v] w fun e w' => e = .returned (.tuple #[.string (bs t.yl), .int .i64 0]) ∧ Below w.heap.size w w' := by
  have h11 := fun (w' : World) (hw : Below w.heap.size w w') => iOK_any t v w' (hlies.still hw)
  have h34 := fun (w' : World) (hw : Below w.heap.size w w') => inward_any t v w' (hlies.still hw) hwt
  obtain ⟨a, len, cap, rfl⟩ := hlies.form
  have H11 := (show Hid _ from h11); clear h11
  have H34 := (show Hid _ from h34); clear h34
  have HO := (show Hid _ from hok); clear hok
  simp only [Tr.val]
  go_enter Try.func22, Try.ntmps22
  go_wp2_with fail
  refine Calls.mono (H11.out _ (bel_alloc _ _)) ?_
  rintro e w1 ⟨rfl, hb1⟩
  rw [HO.out]
  have hbw1 := bel_box hb1
  obtain ⟨X0, X1, X2, X3⟩ := (four_box w (.string t.name) (.string t.text) (.bool t.leaf) (.slice a len cap) 29).still hb1
  go_wp2_with fail
  refine Calls.mono (H34.out _ hbw1) ?_
  rintro e w2 ⟨u, rfl, hb2, hf2⟩
  have hbw2 := bel_trans hbw1 hb2
  have hy := yield_any w2.heap.size t u (.slice none 0 0) 0 [] w2 (hf2.mono (fun b _ hlt => hlt)) (ok_right HO.out).1 (Nat.le_refl _) (World.ownsRow_nil _ _ _ _) (by omega)
  rcases hy with ⟨X, rfl, hcl⟩ | ⟨X, rfl, hcl⟩
  · have HCL := (show Hid _ from hcl); clear hcl hf2
    have hme := method_yieldL X
    go_wp2_with fail
    refine Calls.mono HCL.out ?_
    rintro e w3 ⟨v', rfl, hown, hb3⟩
    simp only [Nat.zero_add, List.nil_append] at hown
    have hcv := conv_own hown
    obtain ⟨a3, c3, rfl⟩ := own_slice hown
    clear hown
    go_wp2_with fail
    go_ret2
    exact ⟨rfl, bel_trans hbw2 hb3⟩
  · have HCL := (show Hid _ from hcl); clear hcl hf2
    have hme := method_yieldN X
    go_wp2_with fail
    refine Calls.mono HCL.out ?_
    rintro e w3 ⟨v', rfl, hown, hb3⟩
    simp only [Nat.zero_add, List.nil_append] at hown
    have hcv := conv_own hown
    obtain ⟨a3, c3, rfl⟩ := own_slice hown
    clear hown
    go_wp2_with fail
    go_ret2
    exact ⟨rfl, bel_trans hbw2 hb3⟩

set_option maxHeartbeats 800000 in
theorem sYieldOf {S : Nat → Prop} (t : Tr) : ∀ (v : Value) (w : World), Lies w S t v → t.wt ≤ 1048576 →
    Calls Try.prog 43 #[t.val v] w fun e w' => e = .returned (.string (bs t.yl)) ∧ Below w.heap.size w w' := by
  refine Tr.ind (P := fun t => ∀ (v : Value) (w : World), Lies w S t v → t.wt ≤ 1048576 →
    Calls Try.prog 43 #[t.val v] w fun e w' => e = .returned (.string (bs t.yl)) ∧ Below w.heap.size w w') ?_ t
  intro n x l k ih v w hlies hwt
  rw [Tr.wt_mk] at hwt
  rw [Tr.yl_mk]
  obtain ⟨a, cap, b, off, sv, rfl, hn, hx, hc, hm, ha, hcell, hk⟩ := hlies.out
  dsimp only at hn hx hc ha hcell hk ⊢
  unfold maxLen at hm hx hn
  have HI := (show Hid _ from ih); clear ih
  have HC := (show Hid _ from hcell); clear hcell
  have HK := (show Hid _ from hk); clear hk
  have HA := (show Hid _ from ha); clear ha
  simp only [Tr.val]
  go_enter Try.func43, Try.ntmps43
  go_wp2_with fail
  go_loopw [3, 4] (fun u i wr => ∃ j : Nat, j ≤ k.length ∧ i = .int .i64 j ∧ u = .string (bs (x.data.toList ++ Tr.ylL (k.take j))) ∧ wr.cell? ⟨w.heap.size, 3, none⟩ = some (.slice a k.length cap) ∧ Below w.heap.size w wr) (fun _ i _ => k.length - (intOf i).toNat)
  case atStart => exact ⟨0, Nat.zero_le _, rfl, by simp [Tr.ylL, bs_data], by simp [go_sem], bel_alloc _ _⟩
  case round =>
    obtain ⟨j, hj, rfl, rfl, cK, hbw⟩ := hrel
    by_cases hlt : j < k.length
    · obtain ⟨rfl, _⟩ := HA.out (by omega)
      obtain ⟨c0, c1, c2, c3⟩ := HC.out j hlt
      rw [← hbw.cell (lt_of_cell c0)] at c0
      rw [← hbw.cell (lt_of_cell c1)] at c1
      rw [← hbw.cell (lt_of_cell c2)] at c2
      rw [← hbw.cell (lt_of_cell c3)] at c3
      have g1 := Tr.ylL_take_succ k j hlt
      have g2 := Tr.ylL_take_len k j
      have g3 := Tr.yl_len k[j]
      have g4 := Tr.wt_mem k j hlt
      have hs1 : (bs (x.data.toList ++ Tr.ylL (k.take j))).size ≤ 1048576 := by
        rw [bs_size, List.length_append]
        have : x.data.toList.length = x.size := rfl
        omega
      have hs2 : (bs k[j].yl).size ≤ 1048576 := by rw [bs_size]; omega
      have HG := (show Hid _ from g1); clear g1 g2 g3
      have hcl := lt_of_cell cK
      generalize hS : bs (x.data.toList ++ Tr.ylL (k.take j)) = sA at *
      generalize hT : bs k[j].yl = sB at *
      have HS := (show Hid _ from hS); clear hS
      have HT := (show Hid _ from hT); clear hT
      go_wp2_with fail
      refine Calls.mono (HI.out j hlt _ wr ((HK.out j hlt).still hbw) (by omega)) ?_
      rintro e w2 ⟨rfl, hb1⟩
      rw [HT.out]
      have cK2 : w2.cell? ⟨w.heap.size, 3, none⟩ = some (.slice (some ⟨b, off, none⟩) k.length cap) := by rw [hb1.cell hcl]; exact cK
      have hb2 := bel_trans hbw hb1
      have hadd := run_string_add_sum (P := Try.prog) (w := w2) sA sB (by omega)
      go_wp2_with fail
      refine ⟨⟨j + 1, by omega, by go_num, ?_, cK2, hb2⟩, by simp [intOf]; omega⟩
      rw [HG.out, ← HS.out, ← HT.out, bs_append, List.append_assoc]
    · go_wp2_with fail
      go_ret
      have : j = k.length := by omega
      subst this
      rw [List.take_length]
      exact ⟨rfl, hbw⟩

set_option maxHeartbeats 800000 in
theorem sYield_no {S : Nat → Prop} (t : Tr) (v : Value) (w : World) (hlies : Lies w S t v) (hok : t.ok = false) :
    Calls Try.prog 21 #[t.val v] w fun e w' => e = .returned (.tuple #[.string (bs []), .int .i64 1]) ∧ Below w.heap.size w w' := by
  have h9 := fun (w' : World) (hw : Below w.heap.size w w') => sOK_any t v w' (hlies.still hw)
  obtain ⟨a, len, cap, rfl⟩ := hlies.form
  have H9 := (show Hid _ from h9); clear h9
  have HO := (show Hid _ from hok); clear hok
  simp only [Tr.val]
  go_enter Try.func21, Try.ntmps21
  go_wp2_with fail
  refine Calls.mono (H9.out _ (bel_alloc _ _)) ?_
  rintro e w1 ⟨rfl, hb1⟩
  rw [HO.out]
  go_wp2_with fail
  go_ret2
  exact ⟨rfl, bel_box hb1⟩

set_option maxHeartbeats 800000 in
theorem sYield_yes {S : Nat → Prop} (t : Tr) (v : Value) (w : World) (hlies : Lies w S t v) (hok : t.ok = true) (hwt : t.wt ≤ 1048576) :
    Calls Try.prog 21 #[t.val v] w fun e w' => e = .returned (.tuple #[.string (bs t.yl), .int .i64 0]) ∧ Below w.heap.size w w' := by
  have h9 := fun (w' : World) (hw : Below w.heap.size w w') => sOK_any t v w' (hlies.still hw)
  have h43 := fun (w' : World) (hw : Below w.heap.size w w') => sYieldOf t v w' (hlies.still hw) hwt
  obtain ⟨a, len, cap, rfl⟩ := hlies.form
  have H9 := (show Hid _ from h9); clear h9
  have H43 := (show Hid _ from h43); clear h43
  have HO := (show Hid _ from hok); clear hok
  simp only [Tr.val]
  go_enter Try.func21, Try.ntmps21
  go_wp2_with fail
  refine Calls.mono (H9.out _ (bel_alloc _ _)) ?_
  rintro e w1 ⟨rfl, hb1⟩
  rw [HO.out]
  have hbw1 := bel_box hb1
  obtain ⟨X0, X1, X2, X3⟩ := (four_box w (.string t.name) (.string t.text) (.bool t.leaf) (.slice a len cap) 29).still hb1
  go_wp2_with fail
  refine Calls.mono (H43.out _ hbw1) ?_
  rintro e w2 ⟨rfl, hb2⟩
  go_wp2_with fail
  go_ret2
  exact ⟨rfl, bel_trans hbw1 hb2⟩
end Go.Proofs.Ythmdoplickpmaah
