import Derived.Test.YtflhfimgeladaaaQo
/-! Marks in a packed table. -/
namespace Go.Proofs.Ytflhfimgeladaaa
open Go.RowKit Go.Deep
set_option linter.unusedVariables false
set_option maxRecDepth 100000
set_option linter.unusedSimpArgs false

/-- What a packed table that owns its rows is. -/
abbrev PEnt (u0 u1 u2 u3 : Value) (ra : List (Value × List (Int × Int))) (rg : List (Value × List Int)) (na ng : List Int) (fs : List Ent) : List Ent := [hdA u0 ra] ++ (ra.map entA ++ ([hdG u1 rg] ++ (rg.map entI ++ ([nmI u2 na] ++ ([nmI u3 ng] ++ fs)))))
/-- .. and when it is marked. -/
def PMk (k : Nat) (u0 u1 u2 u3 : Value) (ra : List (Value × List (Int × Int))) (rg : List (Value × List Int)) (n2 n3 : Nat) : List Ent :=
  [hdA u0 ra] ++ (mkE k (ra.map entA) ++ ([hdG u1 rg] ++ (mkE (k + tot (ra.map entA)) (rg.map entI) ++ ([⟨3, 1, u2, n2, cntc (k + tot (ra.map entA) + tot (rg.map entI)) n2⟩] ++ [⟨3, 1, u3, n3, cntc (k + tot (ra.map entA) + tot (rg.map entI) + n2) n3⟩]))))
theorem totA_le {ra : List (Value × List (Int × Int))} (hl : ra.length ≤ 1048576) (hs : ∀ p ∈ ra, p.2.length ≤ 1048576) : tot (ra.map entA) ≤ 2199023255552 := by
  have h1 := tot_le (es := ra.map entA) (m := 2097152) (fun e he => by
    obtain ⟨p, hp, rfl⟩ := List.mem_map.1 he
    have := hs p hp
    show (encA p.2).length ≤ _
    rw [encA_len]; omega)
  simp only [List.length_map] at h1
  omega
theorem totI_le {rg : List (Value × List Int)} (hl : rg.length ≤ 1048576) (hs : ∀ p ∈ rg, p.2.length ≤ 1048576) : tot (rg.map entI) ≤ 2199023255552 := by
  have h1 := tot_le (es := rg.map entI) (m := 2097152) (fun e he => by
    obtain ⟨p, hp, rfl⟩ := List.mem_map.1 he
    have := hs p hp
    show (encI p.2).length ≤ _
    rw [encI_len]; omega)
  simp only [List.length_map] at h1
  omega
set_option maxHeartbeats 3200000 in
theorem markP_any (B : Nat) (u0 u1 u2 u3 : Value) (ra : List (Value × List (Int × Int))) (rg : List (Value × List Int)) (na ng : List Int) (fs : List Ent) (w : World) (h : Own w B (PEnt u0 u1 u2 u3 ra rg na ng fs)) (hB : B ≤ w.heap.size) (hla : ra.length ≤ 1048576) (hlg : rg.length ≤ 1048576) (hsa : ∀ p ∈ ra, p.2.length ≤ 1048576) (hsg : ∀ p ∈ rg, p.2.length ≤ 1048576) (hna : na.length ≤ 1048576) (hng : ng.length ≤ 1048576) :
    Calls Try.prog 18 #[.agg #[u0, u1, u2, u3], .int .i64 1] w fun e w' => e = .returned (.int .i64 (1 + tot (ra.map entA) + tot (rg.map entI) + na.length + ng.length : Nat)) ∧ Below B w w' ∧ (∀ e ∈ PMk 1 u0 u1 u2 u3 ra rg na.length ng.length, e.ok w' B) ∧ ∀ e ∈ fs, e.ok w' B := by
  have hA0 : w.ownsRow B 69 1 u0 ra.length (ra.map (·.1)) := h.ok (hdA u0 ra) (by simp [PEnt])
  have hG0 : w.ownsRow B 46 1 u1 rg.length (rg.map (·.1)) := h.ok (hdG u1 rg) (by simp [PEnt])
  have hN2 : w.ownsRow B 3 1 u2 na.length (encI na) := h.ok (nmI u2 na) (by simp [PEnt])
  have hN3 : w.ownsRow B 3 1 u3 ng.length (encI ng) := h.ok (nmI u3 ng) (by simp [PEnt])
  obtain ⟨p0, q0, _, rfl, _⟩ := own_cell hA0
  obtain ⟨p1, q1, _, rfl, _⟩ := own_cell hG0
  obtain ⟨p2, q2, _, rfl, _⟩ := own_cell hN2
  obtain ⟨p3, q3, _, rfl, _⟩ := own_cell hN3
  have ho1 : Own (w.alloc (.cells #[.slice p0 ra.length q0, .slice p1 rg.length q1, .slice p2 na.length q2, .slice p3 ng.length q3] 48)) B (bx 48 4 w.heap.size [.slice p0 ra.length q0, .slice p1 rg.length q1, .slice p2 na.length q2, .slice p3 ng.length q3] :: PEnt (.slice p0 ra.length q0) (.slice p1 rg.length q1) (.slice p2 na.length q2) (.slice p3 ng.length q3) ra rg na ng fs) := h.box #[.slice p0 ra.length q0, .slice p1 rg.length q1, .slice p2 na.length q2, .slice p3 ng.length q3] hB rfl
  have hb1 : Below B w (w.alloc (.cells #[.slice p0 ra.length q0, .slice p1 rg.length q1, .slice p2 na.length q2, .slice p3 ng.length q3] 48)) := (bel_alloc _ _).mono hB
  have ho2 : Own (w.alloc (.cells #[.slice p0 ra.length q0, .slice p1 rg.length q1, .slice p2 na.length q2, .slice p3 ng.length q3] 48)) B ([hdA (.slice p0 ra.length q0) ra] ++ (ra.map entA ++ ([hdG (.slice p1 rg.length q1) rg] ++ (rg.map entI ++ ([nmI (.slice p2 na.length q2) na] ++ ([nmI (.slice p3 ng.length q3) ng] ++ (fs ++ [bx 48 4 w.heap.size [.slice p0 ra.length q0, .slice p1 rg.length q1, .slice p2 na.length q2, .slice p3 ng.length q3]]))))))) := by
    have := (show Own _ B ([bx 48 4 w.heap.size [.slice p0 ra.length q0, .slice p1 rg.length q1, .slice p2 na.length q2, .slice p3 ng.length q3]] ++ PEnt (.slice p0 ra.length q0) (.slice p1 rg.length q1) (.slice p2 na.length q2) (.slice p3 ng.length q3) ra rg na ng fs) from ho1).rot
    simpa [PEnt, List.append_assoc] using this
  have htA := totA_le hla hsa
  have htG := totI_le hlg hsg
  have HC1 := (show Hid _ from markRA_any B 1 (.slice p0 ra.length q0) ra _ (w.alloc (.cells #[.slice p0 ra.length q0, .slice p1 rg.length q1, .slice p2 na.length q2, .slice p3 ng.length q3] 48)) ho2 hla hsa (by simp; omega) (by omega))
  have HC2 := (show Hid _ from fun (w' : World) (hB' : B ≤ w'.heap.size) (m : Nat) (hm : m ≤ 1 + 2199023255552) (gs : List Ent) (ho : Own w' B (hdG (.slice p1 rg.length q1) rg :: (rg.map entI ++ gs))) => markRI_any B m (.slice p1 rg.length q1) rg gs w' ho hlg hsg hB' (by omega))
  have HC3 := (show Hid _ from fun (w' : World) (m : Nat) (hm : m ≤ 1 + 2199023255552 + 2199023255552 + 1048576) (n : Nat) (hn : n ≤ 1048576) (v : Value) (cs : List Value) (ho : w'.ownsRow B 3 1 v n cs) => markI_any B n m v cs w' ho hn (by omega))
  have HBX := (show Hid _ from fun (w' : World) (gs : List Ent) (ho : Own w' B gs) (hm : bx 48 4 w.heap.size [.slice p0 ra.length q0, .slice p1 rg.length q1, .slice p2 na.length q2, .slice p3 ng.length q3] ∈ gs) => (⟨bx_cell (i := 0) (ho.ok _ hm) rfl, bx_cell (i := 1) (ho.ok _ hm) rfl, bx_cell (i := 2) (ho.ok _ hm) rfl, bx_cell (i := 3) (ho.ok _ hm) rfl⟩ : Four w' w.heap.size (.slice p0 ra.length q0) (.slice p1 rg.length q1) (.slice p2 na.length q2) (.slice p3 ng.length q3)))
  obtain ⟨c0, c1, c2, c3⟩ := HBX.out _ _ ho1 (List.mem_cons_self ..)
  have HB1 := (show Hid _ from hb1)
  have HMK : Hid (∀ e, e ∈ PMk 1 (.slice p0 ra.length q0) (.slice p1 rg.length q1) (.slice p2 na.length q2) (.slice p3 ng.length q3) ra rg na.length ng.length → e = hdA (.slice p0 ra.length q0) ra ∨ e ∈ mkE 1 (ra.map entA) ∨ e = hdG (.slice p1 rg.length q1) rg ∨ e ∈ mkE (1 + tot (ra.map entA)) (rg.map entI) ∨ e = ⟨3, 1, (.slice p2 na.length q2), na.length, cntc (1 + tot (ra.map entA) + tot (rg.map entI)) na.length⟩ ∨ e = ⟨3, 1, (.slice p3 ng.length q3), ng.length, cntc (1 + tot (ra.map entA) + tot (rg.map entI) + na.length) ng.length⟩) := fun e he => by
    simp only [PMk, List.mem_append, List.mem_singleton] at he
    exact he
  generalize hPM : PMk 1 (.slice p0 ra.length q0) (.slice p1 rg.length q1) (.slice p2 na.length q2) (.slice p3 ng.length q3) ra rg na.length ng.length = PM at *
  clear h ho1 ho2 hb1 hA0 hG0 hN2 hN3 hPM
  generalize tot (ra.map entA) = tA at *
  generalize tot (rg.map entI) = tG at *
  go_enter Try.func18, Try.ntmps18
  go_wp2_with fail
  refine Calls.mono HC1.out ?_
  rintro e w1 ⟨rfl, hb1, ho1⟩
  have ho2 := (show Own w1 B ([hdA (.slice p0 ra.length q0) ra] ++ (mkE 1 (ra.map entA) ++ ([hdG (.slice p1 rg.length q1) rg] ++ (rg.map entI ++ ([nmI (.slice p2 na.length q2) na] ++ ([nmI (.slice p3 ng.length q3) ng] ++ (fs ++ [bx 48 4 w.heap.size [.slice p0 ra.length q0, .slice p1 rg.length q1, .slice p2 na.length q2, .slice p3 ng.length q3]]))))))) from ho1).turn4
  clear c0 c1 c2 c3
  obtain ⟨c0, c1, c2, c3⟩ := HBX.out w1 _ ho1 (by simp)
  have HB2 := (show Hid _ from HB1.out.trans hb1)
  have HC4 := (show Hid _ from HC2.out w1 (Nat.le_trans hB HB2.out.size) (1 + tA) (by omega) _ ho2)
  clear ho1 ho2 hb1 HC1
  obtain ⟨M, hM⟩ : ∃ M, 1 + tA = M := ⟨_, rfl⟩
  rw [hM] at HC4 HMK ⊢
  have hMb : M ≤ 1 + 2199023255552 := by omega
  have HM1 := (show Hid _ from hM)
  clear hM
  go_wp2_with fail
  refine Calls.mono HC4.out ?_
  rintro e w2 ⟨rfl, hb2, ho2⟩
  have ho3 := (show Own w2 B (([hdG (.slice p1 rg.length q1) rg] ++ mkE M (rg.map entI) ++ [hdA (.slice p0 ra.length q0) ra] ++ mkE 1 (ra.map entA)) ++ ([nmI (.slice p2 na.length q2) na] ++ ([nmI (.slice p3 ng.length q3) ng] ++ (fs ++ [bx 48 4 w.heap.size [.slice p0 ra.length q0, .slice p1 rg.length q1, .slice p2 na.length q2, .slice p3 ng.length q3]])))) from by simpa [List.append_assoc] using ho2).up1
  clear c0 c1 c2 c3
  obtain ⟨c0, c1, c2, c3⟩ := HBX.out w2 _ ho3 (by simp)
  have HB3 := (show Hid _ from HB2.out.trans hb2)
  obtain ⟨M2, hM2⟩ : ∃ M2, M + tG = M2 := ⟨_, rfl⟩
  rw [hM2] at HMK ⊢
  have hMb2 : M2 ≤ 1 + 2199023255552 + 2199023255552 := by omega
  have HC5 := (show Hid _ from HC3.out w2 M2 (by omega) na.length hna (.slice p2 na.length q2) _ (ho3.ok (nmI (.slice p2 na.length q2) na) (by simp)))
  have HO3 := (show Hid _ from ho3)
  have HM2 := (show Hid _ from hM2)
  clear ho2 ho3 hb2 HC4 hM2
  go_wp2_with fail
  refine Calls.mono HC5.out ?_
  rintro e w3 ⟨rfl, hg3, ho3⟩
  have hb3 := grown_bel (Below.refl B w2) hg3 (fun b hb => (World.ownsRow.lt (HO3.out.ok (nmI (.slice p2 na.length q2) na) (by simp)) b hb).1) (Nat.le_trans hB HB3.out.size)
  have ho4 := (show Own w2 B (nmI (.slice p2 na.length q2) na :: (([hdG (.slice p1 rg.length q1) rg] ++ mkE M (rg.map entI) ++ [hdA (.slice p0 ra.length q0) ra] ++ mkE 1 (ra.map entA)) ++ ([nmI (.slice p3 ng.length q3) ng] ++ (fs ++ [bx 48 4 w.heap.size [.slice p0 ra.length q0, .slice p1 rg.length q1, .slice p2 na.length q2, .slice p3 ng.length q3]])))) from HO3.out).grow (e' := ⟨3, 1, (.slice p2 na.length q2), na.length, cntc M2 na.length⟩) hg3 ho3 (fun b hb => .inl hb)
  have ho5 := (show Own w3 B (([⟨3, 1, (.slice p2 na.length q2), na.length, cntc M2 na.length⟩] ++ ([hdG (.slice p1 rg.length q1) rg] ++ mkE M (rg.map entI) ++ [hdA (.slice p0 ra.length q0) ra] ++ mkE 1 (ra.map entA))) ++ ([nmI (.slice p3 ng.length q3) ng] ++ (fs ++ [bx 48 4 w.heap.size [.slice p0 ra.length q0, .slice p1 rg.length q1, .slice p2 na.length q2, .slice p3 ng.length q3]]))) from by simpa [List.append_assoc] using ho4).up1
  clear c0 c1 c2 c3
  obtain ⟨c0, c1, c2, c3⟩ := HBX.out w3 _ ho5 (by simp)
  have HB4 := (show Hid _ from HB3.out.trans hb3)
  obtain ⟨M3, hM3⟩ : ∃ M3, M2 + na.length = M3 := ⟨_, rfl⟩
  rw [hM3] at HMK ⊢
  have hMb3 : M3 ≤ 1 + 2199023255552 + 2199023255552 + 1048576 := by omega
  have HC6 := (show Hid _ from HC3.out w3 M3 (by omega) ng.length hng (.slice p3 ng.length q3) _ (ho5.ok (nmI (.slice p3 ng.length q3) ng) (by simp)))
  have HO5 := (show Hid _ from ho5)
  have HM3 := (show Hid _ from hM3)
  clear ho3 ho4 ho5 hb3 hg3 HC5 HO3 hM3
  go_wp2_with fail
  refine Calls.mono HC6.out ?_
  rintro e w4 ⟨rfl, hg4, ho4⟩
  have hb4 := grown_bel (Below.refl B w3) hg4 (fun b hb => (World.ownsRow.lt (HO5.out.ok (nmI (.slice p3 ng.length q3) ng) (by simp)) b hb).1) (Nat.le_trans hB HB4.out.size)
  have ho6 := (show Own w3 B (nmI (.slice p3 ng.length q3) ng :: (([⟨3, 1, (.slice p2 na.length q2), na.length, cntc M2 na.length⟩] ++ ([hdG (.slice p1 rg.length q1) rg] ++ mkE M (rg.map entI) ++ [hdA (.slice p0 ra.length q0) ra] ++ mkE 1 (ra.map entA))) ++ (fs ++ [bx 48 4 w.heap.size [.slice p0 ra.length q0, .slice p1 rg.length q1, .slice p2 na.length q2, .slice p3 ng.length q3]]))) from HO5.out).grow (e' := ⟨3, 1, (.slice p3 ng.length q3), ng.length, cntc M3 ng.length⟩) hg4 ho4 (fun b hb => .inl hb)
  have HF := (show Hid _ from (⟨HB4.out.trans hb4, fun e he => by
    have h6 := HMK.out e he
    refine ho6.ok e ?_
    simp only [List.mem_cons, List.mem_append, List.mem_singleton]
    rcases h6 with h | h | h | h | h | h
    · exact .inr (.inl (.inr (.inl (.inr (by simpa using h)))))
    · exact .inr (.inl (.inr (.inr h)))
    · exact .inr (.inl (.inr (.inl (.inl (.inl (by simpa using h))))))
    · exact .inr (.inl (.inr (.inl (.inl (.inr h)))))
    · exact .inr (.inl (.inl (by simpa using h)))
    · exact .inl h, fun e he => ho6.ok e (by simp [he])⟩ : Below B w w4 ∧ (∀ e ∈ PM, e.ok w4 B) ∧ ∀ e ∈ fs, e.ok w4 B))
  obtain ⟨M4, hM4⟩ : ∃ M4, M3 + ng.length = M4 := ⟨_, rfl⟩
  rw [hM4]
  have HM4 := (show Hid _ from hM4)
  clear c0 c1 c2 c3 ho4 ho6 hb4 hg4 HC6 HO5 hM4
  go_wp2_with fail
  go_ret
  exact ⟨by rw [HM1.out, HM2.out, HM3.out, HM4.out]; rfl, HF.out⟩
end Go.Proofs.Ytflhfimgeladaaa
