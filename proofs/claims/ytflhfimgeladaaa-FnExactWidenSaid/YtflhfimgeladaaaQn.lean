import Derived.Test.YtflhfimgeladaaaQm
/-! Marks in rows of rows. -/
namespace Go.Proofs.Ytflhfimgeladaaa
open Go.RowKit Go.Deep
set_option linter.unusedVariables false
set_option maxRecDepth 100000
set_option linter.unusedSimpArgs false

set_option maxHeartbeats 3200000 in
theorem markRI_any (B k : Nat) (u : Value) (rv : List (Value × List Int)) (fs : List Ent) (w : World) (h : Own w B (⟨46, 1, u, rv.length, rv.map (·.1)⟩ :: (rv.map entI ++ fs))) (hl : rv.length ≤ 1048576) (hs : ∀ p ∈ rv, p.2.length ≤ 1048576) (hB : B ≤ w.heap.size) (hk : k + rv.length * 2097152 ≤ 1125899906842624) :
    Calls Try.prog 59 #[u, .int .i64 k] w fun e w' => e = .returned (.int .i64 (k + tot (rv.map entI) : Nat)) ∧ Below B w w' ∧ Own w' B (⟨46, 1, u, rv.length, rv.map (·.1)⟩ :: (mkE k (rv.map entI) ++ fs)) := by
  have h00 : w.ownsRow B 46 1 u rv.length (rv.map (·.1)) := h.ok _ (List.mem_cons_self ..)
  obtain ⟨a, cap, g, rfl, hnc, hcm, ha, hcell⟩ := own_cell h00
  clear h00
  have HA := (show Hid _ from ha); clear ha hcell
  have HS := (show Hid _ from hs); clear hs
  have HO := (show Hid _ from h); clear h
  unfold maxLen at hcm
  go_enter Try.func59, Try.ntmps59
  go_wp2_with fail
  go_loopw [1, 5] (fun x i wr => ∃ (j m : Nat), j ≤ rv.length ∧ i = .int .i64 j ∧ x = .int .i64 m ∧ m ≤ 1125899906842624 ∧ Hid (m = k + tot ((rv.take j).map entI) ∧ m ≤ k + j * 2097152 ∧ Below B w wr ∧ Own wr B (⟨46, 1, .slice a rv.length cap, rv.length, rv.map (·.1)⟩ :: ((mkE k ((rv.take j).map entI) ++ (rv.drop j).map entI) ++ fs)))) (fun _ i _ => rv.length - (intOf i).toNat)
  case atStart => exact ⟨0, k, Nat.zero_le _, rfl, rfl, by omega, by simp [tot], by omega, Below.refl _ _, by simpa [mkE] using HO.out⟩
  case round =>
    obtain ⟨j, m, hj, rfl, rfl, hm, HJ⟩ := hrel
    by_cases hlt : j < rv.length
    · have hlt' := hlt
      obtain ⟨rfl, _⟩ := HA.out (by omega)
      obtain ⟨_, _, g1, e9, _, _, hg1, hc1⟩ := own_cell (HJ.out.2.2.2.ok _ (List.mem_cons_self ..))
      simp only at e9 hg1 hc1
      obtain ⟨e8, _⟩ := hg1 (by omega)
      injection e9 with e91 e92 e93
      rw [e8] at e91
      injection e91 with e91
      injection e91 with e91
      subst e91
      have k0 := hc1 j rv[j].1 (by rw [List.getElem?_map, List.getElem?_eq_getElem hlt']; rfl)
      have hd : rv.drop j = rv[j] :: rv.drop (j + 1) := List.drop_eq_getElem_cons hlt'
      have hown : (entI rv[j]).ok wr B := HJ.out.2.2.2.ok _ (List.mem_cons_of_mem _ (List.mem_append.2 (.inl (List.mem_append.2 (.inr (by rw [hd, List.map_cons]; exact List.mem_cons_self ..))))))
      have hsj := HS.out rv[j] (List.getElem_mem hlt')
      have hcl := markI_any B rv[j].2.length m rv[j].1 _ wr hown hsj hm
      obtain ⟨a2, cap2, _, e2, _⟩ := own_cell hown
      have e2' : rv[j].1 = .slice a2 rv[j].2.length cap2 := e2
      rw [e2'] at k0 hcl
      have HCL := (show Hid _ from hcl)
      have HE := (show Hid _ from e2')
      clear hcl e2 e2' hown hc1 e8 hg1 e92 e93
      go_wp2_with fail
      refine Calls.mono HCL.out ?_
      rintro e w1 ⟨rfl, hg, ho⟩
      have hfin : m + rv[j].2.length = k + tot ((rv.take (j + 1)).map entI) ∧ m + rv[j].2.length ≤ k + (j + 1) * 2097152 ∧ Below B w w1 ∧ Own w1 B (⟨46, 1, .slice (some ⟨g, 0, none⟩) rv.length cap, rv.length, rv.map (·.1)⟩ :: ((mkE k ((rv.take (j + 1)).map entI) ++ (rv.drop (j + 1)).map entI) ++ fs)) := by
        have htk : (rv.take (j + 1)).map entI = (rv.take j).map entI ++ [entI rv[j]] := by rw [List.take_add_one, List.getElem?_eq_getElem hlt', List.map_append]; rfl
        have hcs : (entI rv[j]).cs.length = rv[j].2.length := by show (encI rv[j].2).length = _; rw [encI_len]; try omega
        obtain ⟨q1, q2, q3, q4⟩ := HJ.out
        refine ⟨by rw [htk, tot_append, q1]; simp only [tot]; rw [hcs]; omega, by omega, ?_, ?_⟩
        · refine grown_bel q3 hg (fun b hb => ?_) (Nat.le_trans hB q3.size)
          rw [← HE.out] at hb
          exact (World.ownsRow.lt (q4.ok (entI rv[j]) (List.mem_cons_of_mem _ (List.mem_append.2 (.inl (List.mem_append.2 (.inr (by rw [hd, List.map_cons]; exact List.mem_cons_self ..))))))) b hb).1
        · rw [hd, List.map_cons] at q4
          have p1 : (⟨46, 1, .slice (some ⟨g, 0, none⟩) rv.length cap, rv.length, rv.map (·.1)⟩ :: ((mkE k ((rv.take j).map entI) ++ entI rv[j] :: (rv.drop (j + 1)).map entI) ++ fs)).Perm (entI rv[j] :: (⟨46, 1, .slice (some ⟨g, 0, none⟩) rv.length cap, rv.length, rv.map (·.1)⟩ :: ((mkE k ((rv.take j).map entI) ++ (rv.drop (j + 1)).map entI) ++ fs))) := by
            refine List.Perm.trans (List.Perm.cons _ ?_) (List.Perm.swap _ _ _)
            rw [List.append_assoc, List.append_assoc, List.cons_append]
            exact List.perm_middle
          have r1 := q4.perm p1
          have r2 := r1.grow (e' := ⟨3, 1, rv[j].1, rv[j].2.length, cntc m (entI rv[j]).cs.length⟩) (by show wr.grownBy w1 rv[j].1.ownBlock; rw [HE.out]; exact hg) (by show w1.ownsRow B 3 1 rv[j].1 rv[j].2.length _; rw [HE.out, hcs]; exact ho) (fun b hb => .inl hb)
          rw [htk, mkE_append, ← q1]
          refine r2.perm ?_
          refine List.Perm.trans (List.Perm.swap _ _ _) (List.Perm.cons _ ?_)
          simp only [mkE, List.append_assoc, List.cons_append, List.nil_append]
          exact List.perm_middle.symm
      have hm2 : m + rv[j].2.length ≤ 1125899906842624 := by omega
      obtain ⟨M, hM⟩ : ∃ M, m + rv[j].2.length = M := ⟨_, rfl⟩
      rw [hM] at hfin hm2 ⊢
      have HF := (show Hid _ from hfin)
      clear hfin hg ho k0 HCL hM
      go_wp2_with fail
      exact ⟨⟨j + 1, M, by omega, by go_num, rfl, hm2, HF.out⟩, by simp [intOf]; omega⟩
    · obtain rfl : j = rv.length := by omega
      have HF : Hid (m = k + tot (rv.map entI) ∧ Below B w wr ∧ Own wr B (⟨46, 1, .slice a rv.length cap, rv.length, rv.map (·.1)⟩ :: (mkE k (rv.map entI) ++ fs))) := by
        obtain ⟨q1, q2, q3, q4⟩ := HJ.out
        rw [List.take_length] at q1 q4
        rw [List.drop_length] at q4
        exact ⟨q1, q3, by simpa using q4⟩
      clear HJ
      go_wp2_with fail
      go_ret
      exact ⟨by rw [← HF.out.1]; rfl, HF.out.2⟩
set_option maxHeartbeats 3200000 in
theorem heldRI_any (B k : Nat) (u : Value) (rv : List (Value × List Int)) (w : World) (h : w.ownsRow B 46 1 u rv.length (rv.map (·.1))) (hr : ∀ e ∈ mkE k (rv.map entI), e.ok w B) (hl : rv.length ≤ 1048576) (hs : ∀ p ∈ rv, p.2.length ≤ 1048576) (hk : k + rv.length * 2097152 ≤ 1125899906842624) :
    Calls Try.prog 62 #[u, .int .i64 k] w fun e w' => e = .returned (.int .i64 (k + tot (rv.map entI) : Nat)) ∧ w' = w := by
  obtain ⟨a, cap, g, rfl, hnc, hcm, ha, hcell⟩ := own_cell h
  have HC := (show Hid _ from hcell)
  have HA := (show Hid _ from ha)
  have HR := (show Hid _ from hr)
  have HS := (show Hid _ from hs)
  unfold maxLen at hcm
  clear h hcell ha hr hs
  go_enter Try.func62, Try.ntmps62
  go_wp2_with fail
  go_loopw [1, 5] (fun x i wr => ∃ (j m : Nat), j ≤ rv.length ∧ i = .int .i64 j ∧ x = .int .i64 m ∧ m ≤ 1125899906842624 ∧ Hid (m = k + tot ((rv.take j).map entI) ∧ m ≤ k + j * 2097152) ∧ wr = w) (fun _ i _ => rv.length - (intOf i).toNat)
  case atStart => exact ⟨0, k, Nat.zero_le _, rfl, rfl, by omega, ⟨by simp [tot], by omega⟩, rfl⟩
  case round =>
    obtain ⟨j, m, hj, rfl, rfl, hm, HJ, rfl⟩ := hrel
    by_cases hlt : j < rv.length
    · have hlt' := hlt
      obtain ⟨rfl, hcb⟩ := HA.out (by omega)
      clear hcb
      have k0 := HC.out j rv[j].1 (by rw [List.getElem?_map, List.getElem?_eq_getElem hlt']; rfl)
      have hcs : (entI rv[j]).cs.length = rv[j].2.length := by show (encI rv[j].2).length = _; rw [encI_len]; try omega
      have hsp : rv.map entI = (rv.take j).map entI ++ entI rv[j] :: (rv.drop (j + 1)).map entI := by
        rw [← List.map_cons, ← List.drop_eq_getElem_cons hlt', ← List.map_append, List.take_append_drop]
      have hok := HR.out ⟨3, 1, rv[j].1, rv[j].2.length, cntc m (rv[j].2.length)⟩ (by
        rw [hsp, mkE_append, List.mem_append]
        right
        rw [mkE, hcs, ← HJ.out.1]
        exact List.mem_cons_self ..)
      have hok' : wr.ownsRow B 3 1 rv[j].1 rv[j].2.length (cntc m (rv[j].2.length)) := hok
      have hsj := HS.out rv[j] (List.getElem_mem hlt')
      have hcl := heldI_any B rv[j].2.length m rv[j].1 wr hok' hsj hm
      obtain ⟨a2, cap2, _, e2, _⟩ := own_cell hok'
      rw [e2] at k0 hcl
      have HCL := (show Hid _ from hcl)
      have htk : (rv.take (j + 1)).map entI = (rv.take j).map entI ++ [entI rv[j]] := by rw [List.take_add_one, List.getElem?_eq_getElem hlt', List.map_append]; rfl
      have HF : Hid (m + rv[j].2.length = k + tot ((rv.take (j + 1)).map entI) ∧ m + rv[j].2.length ≤ k + (j + 1) * 2097152) := by
        obtain ⟨q1, q2⟩ := HJ.out
        exact ⟨by rw [htk, tot_append, q1]; simp only [tot]; rw [hcs]; omega, by omega⟩
      have hm2 : m + rv[j].2.length ≤ 1125899906842624 := by have := HF.out; omega
      have hm3 : ¬ (((m + rv[j].2.length : Nat) : Int) < 0) := by omega
      clear hcl e2 hok hok' hcs hsp htk
      go_wp2_with fail
      refine Calls.mono HCL.out ?_
      rintro e w1 ⟨rfl, rfl⟩
      obtain ⟨M, hM⟩ : ∃ M, m + rv[j].2.length = M := ⟨_, rfl⟩
      rw [hM] at HF hm2 hm3 ⊢
      clear k0 HCL hM
      go_wp2_with fail
      exact ⟨⟨j + 1, M, by omega, by go_num, rfl, hm2, HF, trivial⟩, by simp [intOf]; omega⟩
    · obtain rfl : j = rv.length := by omega
      have HF : Hid (m = k + tot (rv.map entI)) := by
        have q1 := HJ.out.1
        rw [List.take_length] at q1
        exact q1
      clear HJ
      go_wp2_with fail
      go_ret
      exact ⟨by rw [← HF.out]; rfl, rfl⟩
set_option maxHeartbeats 3200000 in
theorem markRA_any (B k : Nat) (u : Value) (rv : List (Value × List (Int × Int))) (fs : List Ent) (w : World) (h : Own w B (⟨69, 1, u, rv.length, rv.map (·.1)⟩ :: (rv.map entA ++ fs))) (hl : rv.length ≤ 1048576) (hs : ∀ p ∈ rv, p.2.length ≤ 1048576) (hB : B ≤ w.heap.size) (hk : k + rv.length * 2097152 ≤ 1125899906842624) :
    Calls Try.prog 58 #[u, .int .i64 k] w fun e w' => e = .returned (.int .i64 (k + tot (rv.map entA) : Nat)) ∧ Below B w w' ∧ Own w' B (⟨69, 1, u, rv.length, rv.map (·.1)⟩ :: (mkE k (rv.map entA) ++ fs)) := by
  have h00 : w.ownsRow B 69 1 u rv.length (rv.map (·.1)) := h.ok _ (List.mem_cons_self ..)
  obtain ⟨a, cap, g, rfl, hnc, hcm, ha, hcell⟩ := own_cell h00
  clear h00
  have HA := (show Hid _ from ha); clear ha hcell
  have HS := (show Hid _ from hs); clear hs
  have HO := (show Hid _ from h); clear h
  unfold maxLen at hcm
  go_enter Try.func58, Try.ntmps58
  go_wp2_with fail
  go_loopw [1, 5] (fun x i wr => ∃ (j m : Nat), j ≤ rv.length ∧ i = .int .i64 j ∧ x = .int .i64 m ∧ m ≤ 1125899906842624 ∧ Hid (m = k + tot ((rv.take j).map entA) ∧ m ≤ k + j * 2097152 ∧ Below B w wr ∧ Own wr B (⟨69, 1, .slice a rv.length cap, rv.length, rv.map (·.1)⟩ :: ((mkE k ((rv.take j).map entA) ++ (rv.drop j).map entA) ++ fs)))) (fun _ i _ => rv.length - (intOf i).toNat)
  case atStart => exact ⟨0, k, Nat.zero_le _, rfl, rfl, by omega, by simp [tot], by omega, Below.refl _ _, by simpa [mkE] using HO.out⟩
  case round =>
    obtain ⟨j, m, hj, rfl, rfl, hm, HJ⟩ := hrel
    by_cases hlt : j < rv.length
    · have hlt' := hlt
      obtain ⟨rfl, _⟩ := HA.out (by omega)
      obtain ⟨_, _, g1, e9, _, _, hg1, hc1⟩ := own_cell (HJ.out.2.2.2.ok _ (List.mem_cons_self ..))
      simp only at e9 hg1 hc1
      obtain ⟨e8, _⟩ := hg1 (by omega)
      injection e9 with e91 e92 e93
      rw [e8] at e91
      injection e91 with e91
      injection e91 with e91
      subst e91
      have k0 := hc1 j rv[j].1 (by rw [List.getElem?_map, List.getElem?_eq_getElem hlt']; rfl)
      have hd : rv.drop j = rv[j] :: rv.drop (j + 1) := List.drop_eq_getElem_cons hlt'
      have hown : (entA rv[j]).ok wr B := HJ.out.2.2.2.ok _ (List.mem_cons_of_mem _ (List.mem_append.2 (.inl (List.mem_append.2 (.inr (by rw [hd, List.map_cons]; exact List.mem_cons_self ..))))))
      have hsj := HS.out rv[j] (List.getElem_mem hlt')
      have hcl := markA_any B rv[j].2.length m rv[j].1 _ wr hown hsj hm
      obtain ⟨a2, cap2, _, e2, _⟩ := own_cell hown
      have e2' : rv[j].1 = .slice a2 rv[j].2.length cap2 := e2
      rw [e2'] at k0 hcl
      have HCL := (show Hid _ from hcl)
      have HE := (show Hid _ from e2')
      clear hcl e2 e2' hown hc1 e8 hg1 e92 e93
      go_wp2_with fail
      refine Calls.mono HCL.out ?_
      rintro e w1 ⟨rfl, hg, ho⟩
      have hfin : m + rv[j].2.length * 2 = k + tot ((rv.take (j + 1)).map entA) ∧ m + rv[j].2.length * 2 ≤ k + (j + 1) * 2097152 ∧ Below B w w1 ∧ Own w1 B (⟨69, 1, .slice (some ⟨g, 0, none⟩) rv.length cap, rv.length, rv.map (·.1)⟩ :: ((mkE k ((rv.take (j + 1)).map entA) ++ (rv.drop (j + 1)).map entA) ++ fs)) := by
        have htk : (rv.take (j + 1)).map entA = (rv.take j).map entA ++ [entA rv[j]] := by rw [List.take_add_one, List.getElem?_eq_getElem hlt', List.map_append]; rfl
        have hcs : (entA rv[j]).cs.length = rv[j].2.length * 2 := by show (encA rv[j].2).length = _; rw [encA_len]; try omega
        obtain ⟨q1, q2, q3, q4⟩ := HJ.out
        refine ⟨by rw [htk, tot_append, q1]; simp only [tot]; rw [hcs]; omega, by omega, ?_, ?_⟩
        · refine grown_bel q3 hg (fun b hb => ?_) (Nat.le_trans hB q3.size)
          rw [← HE.out] at hb
          exact (World.ownsRow.lt (q4.ok (entA rv[j]) (List.mem_cons_of_mem _ (List.mem_append.2 (.inl (List.mem_append.2 (.inr (by rw [hd, List.map_cons]; exact List.mem_cons_self ..))))))) b hb).1
        · rw [hd, List.map_cons] at q4
          have p1 : (⟨69, 1, .slice (some ⟨g, 0, none⟩) rv.length cap, rv.length, rv.map (·.1)⟩ :: ((mkE k ((rv.take j).map entA) ++ entA rv[j] :: (rv.drop (j + 1)).map entA) ++ fs)).Perm (entA rv[j] :: (⟨69, 1, .slice (some ⟨g, 0, none⟩) rv.length cap, rv.length, rv.map (·.1)⟩ :: ((mkE k ((rv.take j).map entA) ++ (rv.drop (j + 1)).map entA) ++ fs))) := by
            refine List.Perm.trans (List.Perm.cons _ ?_) (List.Perm.swap _ _ _)
            rw [List.append_assoc, List.append_assoc, List.cons_append]
            exact List.perm_middle
          have r1 := q4.perm p1
          have r2 := r1.grow (e' := ⟨71, 2, rv[j].1, rv[j].2.length, cntc m (entA rv[j]).cs.length⟩) (by show wr.grownBy w1 rv[j].1.ownBlock; rw [HE.out]; exact hg) (by show w1.ownsRow B 71 2 rv[j].1 rv[j].2.length _; rw [HE.out, hcs]; exact ho) (fun b hb => .inl hb)
          rw [htk, mkE_append, ← q1]
          refine r2.perm ?_
          refine List.Perm.trans (List.Perm.swap _ _ _) (List.Perm.cons _ ?_)
          simp only [mkE, List.append_assoc, List.cons_append, List.nil_append]
          exact List.perm_middle.symm
      have hm2 : m + rv[j].2.length * 2 ≤ 1125899906842624 := by omega
      obtain ⟨M, hM⟩ : ∃ M, m + rv[j].2.length * 2 = M := ⟨_, rfl⟩
      rw [hM] at hfin hm2 ⊢
      have HF := (show Hid _ from hfin)
      clear hfin hg ho k0 HCL hM
      go_wp2_with fail
      exact ⟨⟨j + 1, M, by omega, by go_num, rfl, hm2, HF.out⟩, by simp [intOf]; omega⟩
    · obtain rfl : j = rv.length := by omega
      have HF : Hid (m = k + tot (rv.map entA) ∧ Below B w wr ∧ Own wr B (⟨69, 1, .slice a rv.length cap, rv.length, rv.map (·.1)⟩ :: (mkE k (rv.map entA) ++ fs))) := by
        obtain ⟨q1, q2, q3, q4⟩ := HJ.out
        rw [List.take_length] at q1 q4
        rw [List.drop_length] at q4
        exact ⟨q1, q3, by simpa using q4⟩
      clear HJ
      go_wp2_with fail
      go_ret
      exact ⟨by rw [← HF.out.1]; rfl, HF.out.2⟩
set_option maxHeartbeats 3200000 in
theorem heldRA_any (B k : Nat) (u : Value) (rv : List (Value × List (Int × Int))) (w : World) (h : w.ownsRow B 69 1 u rv.length (rv.map (·.1))) (hr : ∀ e ∈ mkE k (rv.map entA), e.ok w B) (hl : rv.length ≤ 1048576) (hs : ∀ p ∈ rv, p.2.length ≤ 1048576) (hk : k + rv.length * 2097152 ≤ 1125899906842624) :
    Calls Try.prog 61 #[u, .int .i64 k] w fun e w' => e = .returned (.int .i64 (k + tot (rv.map entA) : Nat)) ∧ w' = w := by
  obtain ⟨a, cap, g, rfl, hnc, hcm, ha, hcell⟩ := own_cell h
  have HC := (show Hid _ from hcell)
  have HA := (show Hid _ from ha)
  have HR := (show Hid _ from hr)
  have HS := (show Hid _ from hs)
  unfold maxLen at hcm
  clear h hcell ha hr hs
  go_enter Try.func61, Try.ntmps61
  go_wp2_with fail
  go_loopw [1, 5] (fun x i wr => ∃ (j m : Nat), j ≤ rv.length ∧ i = .int .i64 j ∧ x = .int .i64 m ∧ m ≤ 1125899906842624 ∧ Hid (m = k + tot ((rv.take j).map entA) ∧ m ≤ k + j * 2097152) ∧ wr = w) (fun _ i _ => rv.length - (intOf i).toNat)
  case atStart => exact ⟨0, k, Nat.zero_le _, rfl, rfl, by omega, ⟨by simp [tot], by omega⟩, rfl⟩
  case round =>
    obtain ⟨j, m, hj, rfl, rfl, hm, HJ, rfl⟩ := hrel
    by_cases hlt : j < rv.length
    · have hlt' := hlt
      obtain ⟨rfl, hcb⟩ := HA.out (by omega)
      clear hcb
      have k0 := HC.out j rv[j].1 (by rw [List.getElem?_map, List.getElem?_eq_getElem hlt']; rfl)
      have hcs : (entA rv[j]).cs.length = rv[j].2.length * 2 := by show (encA rv[j].2).length = _; rw [encA_len]; try omega
      have hsp : rv.map entA = (rv.take j).map entA ++ entA rv[j] :: (rv.drop (j + 1)).map entA := by
        rw [← List.map_cons, ← List.drop_eq_getElem_cons hlt', ← List.map_append, List.take_append_drop]
      have hok := HR.out ⟨71, 2, rv[j].1, rv[j].2.length, cntc m (rv[j].2.length * 2)⟩ (by
        rw [hsp, mkE_append, List.mem_append]
        right
        rw [mkE, hcs, ← HJ.out.1]
        exact List.mem_cons_self ..)
      have hok' : wr.ownsRow B 71 2 rv[j].1 rv[j].2.length (cntc m (rv[j].2.length * 2)) := hok
      have hsj := HS.out rv[j] (List.getElem_mem hlt')
      have hcl := heldA_any B rv[j].2.length m rv[j].1 wr hok' hsj hm
      obtain ⟨a2, cap2, _, e2, _⟩ := own_cell hok'
      rw [e2] at k0 hcl
      have HCL := (show Hid _ from hcl)
      have htk : (rv.take (j + 1)).map entA = (rv.take j).map entA ++ [entA rv[j]] := by rw [List.take_add_one, List.getElem?_eq_getElem hlt', List.map_append]; rfl
      have HF : Hid (m + rv[j].2.length * 2 = k + tot ((rv.take (j + 1)).map entA) ∧ m + rv[j].2.length * 2 ≤ k + (j + 1) * 2097152) := by
        obtain ⟨q1, q2⟩ := HJ.out
        exact ⟨by rw [htk, tot_append, q1]; simp only [tot]; rw [hcs]; omega, by omega⟩
      have hm2 : m + rv[j].2.length * 2 ≤ 1125899906842624 := by have := HF.out; omega
      have hm3 : ¬ (((m + rv[j].2.length * 2 : Nat) : Int) < 0) := by omega
      clear hcl e2 hok hok' hcs hsp htk
      go_wp2_with fail
      refine Calls.mono HCL.out ?_
      rintro e w1 ⟨rfl, rfl⟩
      obtain ⟨M, hM⟩ : ∃ M, m + rv[j].2.length * 2 = M := ⟨_, rfl⟩
      rw [hM] at HF hm2 hm3 ⊢
      clear k0 HCL hM
      go_wp2_with fail
      exact ⟨⟨j + 1, M, by omega, by go_num, rfl, hm2, HF, trivial⟩, by simp [intOf]; omega⟩
    · obtain rfl : j = rv.length := by omega
      have HF : Hid (m = k + tot (rv.map entA)) := by
        have q1 := HJ.out.1
        rw [List.take_length] at q1
        exact q1
      clear HJ
      go_wp2_with fail
      go_ret
      exact ⟨by rw [← HF.out]; rfl, rfl⟩
end Go.Proofs.Ytflhfimgeladaaa
