import Derived.Test.YtbgoikaelmacbaaBg
/-! The specification: Match. -/
namespace Go.Proofs.Ytbgoikaelmacbaa
open Go.RowKit Go.Deep Go.Lib
set_option linter.unusedVariables false
set_option maxRecDepth 100000
set_option linter.unusedSimpArgs false

/-- What the specification's Match leaves. -/
def MaA (p t : Tr) (w : World) (e : Ending) (w' : World) : Prop :=
  ∃ (b cap : Nat), e = .returned (.tuple #[.slice (some ⟨b, 0, none⟩) (maR p t).1.length cap, .bool (maR p t).2.1, .int .i64 (maR p t).2.2]) ∧ Below w.heap.size w w' ∧ BLi w' (maR p t).1 (.slice (some ⟨b, 0, none⟩) (maR p t).1.length cap)
set_option maxHeartbeats 3200000 in
theorem sMatch8 (p t : Tr) (pv tv : Value) (w : World) (hp : Lies w (fun _ => True) p pv) (ht : Lies w (fun _ => True) t tv) (hwt : t.wt ≤ 1048576) :
    Calls Try.prog 6 #[p.val pv, t.val tv] w (MaA p t w) := by
  obtain ⟨a1, m1, c1, rfl⟩ := hp.form
  obtain ⟨a2, m2, c2, rfl⟩ := ht.form
  have HR := (show Hid (∀ R : List (ByteArray × Tr) × Bool × Int, maR p t = R → ∀ (b cp : Nat) (w' : World), Below w.heap.size w w' → BLi w' R.1 (.slice (some ⟨b, 0, none⟩) R.1.length cp) → MaA p t w (.returned (.tuple #[.slice (some ⟨b, 0, none⟩) R.1.length cp, .bool R.2.1, .int .i64 R.2.2])) w') from fun R hR b cp w' h1 h2 => by
    subst hR
    exact ⟨b, cp, rfl, h1, h2⟩)
  have HNIL := (show Hid (∀ (c : Int), maR p t = ([], false, c) → ∀ w1 : World, Below w.heap.size w w1 → MaA p t w (.returned (.tuple #[.slice (some ⟨w1.heap.size, 0, none⟩) 0 0, .bool false, .int .i64 c])) (w1.alloc (.cells #[] 47))) from fun c hc w1 h1 => HR.out ([], false, c) hc w1.heap.size 0 _ (bel_trans h1 (bel_alloc _ _)) (BLi.made w1))
  have HPP := (show Hid (∀ w1 : World, Below w.heap.size w w1 → Calls Try.prog 20 #[p.val (.slice a1 m1 c1)] w1 fun e w' => e = .returned (.bool (patB p)) ∧ Below w1.heap.size w1 w') from fun w1 h1 => pat32 p _ w1 (hp.still h1))
  have HTT := (show Hid (∀ w1 : World, Below w.heap.size w w1 → Calls Try.prog 21 #[t.val (.slice a2 m2 c2)] w1 fun e w' => e = .returned (.bool t.ok) ∧ Below w1.heap.size w1 w') from fun w1 h1 => sOK_any t _ w1 (ht.still h1))
  have HMM := (show Hid (patB p = true → ∀ w1 : World, Below w.heap.size w w1 → Calls Try.prog 22 #[p.val (.slice a1 m1 c1), t.val (.slice a2 m2 c2), .slice (some ⟨w1.heap.size, 0, none⟩) 0 0] (w1.alloc (.cells #[] 47)) (MtA p t [] (w1.alloc (.cells #[] 47)))) from fun hpb w1 h1 => by
    have h2 := bel_trans h1 (bel_alloc w1 (.cells #[] 47))
    refine match34 p t _ _ _ [] _ (hp.still h2) (ht.still h2) (BLi.made w1) ?_
    unfold patB at hpb
    rw [Bool.and_eq_true] at hpb
    have := ok_cnt hpb.1
    simp
    omega)
  have hM : patB p = true → (mtT p t []).1.length ≤ 1000 := fun hpb => by
    unfold patB at hpb
    rw [Bool.and_eq_true] at hpb
    have := ok_cnt hpb.1
    have h2 := mtT_len p t []
    simp at h2
    omega
  have hMW : ∀ b, b ∈ (mtT p t []).1 → b.2.wt ≤ 1048576 := fun b hb => by
    rcases mtT_wt p t [] b hb with h | h
    · cases h
    · omega
  have HMA := (show Hid (maR p t = if (patB p && t.ok) = true then (if (mtT p t []).2 = true then ((mtT p t []).1, true, 0) else ([], false, 0)) else ([], false, 1)) from rfl)
  have HM := (show Hid (patB p = true → (mtT p t []).1.length ≤ 1000) from hM)
  have HMW := (show Hid (∀ b, b ∈ (mtT p t []).1 → b.2.wt ≤ 1048576) from hMW)
  clear hM hMW hp ht hwt
  unfold MtA at HMM
  generalize maR p t = MR at *
  generalize mtT p t [] = R at *
  generalize patB p = PB at *
  generalize t.ok = TO at *
  generalize MaA p t w = Post at *
  obtain ⟨n, x, lf, k⟩ := p
  obtain ⟨n', x', l', k'⟩ := t
  simp only [Tr.val] at HPP HTT HMM ⊢
  clear k k'
  have HX1 := (show Hid (Box ((w.alloc (.cells #[.string n, .string x, .bool lf, .slice a1 m1 c1] 26)).alloc (.cells #[.string n', .string x', .bool l', .slice a2 m2 c2] 26)) w.heap.size 26 [.string n, .string x, .bool lf, .slice a1 m1 c1]) from (Box.new w 26 _).still (bel_alloc _ _))
  have HX2 := (show Hid (Box ((w.alloc (.cells #[.string n, .string x, .bool lf, .slice a1 m1 c1] 26)).alloc (.cells #[.string n', .string x', .bool l', .slice a2 m2 c2] 26)) (w.heap.size + 1) 26 [.string n', .string x', .bool l', .slice a2 m2 c2]) from (by
    have h := Box.new (w.alloc (.cells #[.string n, .string x, .bool lf, .slice a1 m1 c1] 26)) 26 [.string n', .string x', .bool l', .slice a2 m2 c2]
    rw [show (w.alloc (.cells #[.string n, .string x, .bool lf, .slice a1 m1 c1] 26)).heap.size = w.heap.size + 1 from by simp] at h
    exact h))
  have HB2 := (show Hid (Below w.heap.size w ((w.alloc (.cells #[.string n, .string x, .bool lf, .slice a1 m1 c1] 26)).alloc (.cells #[.string n', .string x', .bool l', .slice a2 m2 c2] 26))) from (bel_alloc _ _).alloc (by simp) _)
  go_enter Try.func6, Try.ntmps6
  go_wp2_with fail
  refine Calls.mono (HPP.out _ HB2.out) ?_
  rintro e w1 ⟨rfl, hb1⟩
  have HB1 := (show Hid (Below w.heap.size w w1) from bel_trans HB2.out hb1)
  cases PB with
  | false =>
    have HE := (show Hid _ from HNIL.out 1 (by rw [HMA.out]; rfl) w1 HB1.out)
    clear hb1 HX1 HX2 HB1 HPP HTT HMM HR HNIL
    go_wp2_with fail
    refine bodyPost_ret (v := .tuple #[_, _, _]) (by simp [results, Try.results6, go_sem]; exact ⟨rfl, rfl, rfl⟩) rfl ?_
    exact HE.out
  | true =>
    have Q0 : w1.cell? ⟨w.heap.size + 1, 0, none⟩ = some (.string n') := (HX2.out.still hb1).cell 0 (by simp)
    have Q1 : w1.cell? ⟨w.heap.size + 1, 1, none⟩ = some (.string x') := (HX2.out.still hb1).cell 1 (by simp)
    have Q2 : w1.cell? ⟨w.heap.size + 1, 2, none⟩ = some (.bool l') := (HX2.out.still hb1).cell 2 (by simp)
    have Q3 : w1.cell? ⟨w.heap.size + 1, 3, none⟩ = some (.slice a2 m2 c2) := (HX2.out.still hb1).cell 3 (by simp)
    have HX1' := (show Hid (Box w1 w.heap.size 26 [.string n, .string x, .bool lf, .slice a1 m1 c1]) from HX1.out.still hb1)
    have HX2' := (show Hid (Box w1 (w.heap.size + 1) 26 [.string n', .string x', .bool l', .slice a2 m2 c2]) from HX2.out.still hb1)
    clear hb1 HX1 HX2 HPP
    go_wp2_with fail
    refine Calls.mono (HTT.out _ HB1.out) ?_
    rintro e w2 ⟨rfl, hb2⟩
    have HBW := (show Hid (Below w.heap.size w w2) from bel_trans HB1.out hb2)
    cases TO with
    | false =>
      have HE := (show Hid _ from HNIL.out 1 (by rw [HMA.out]; rfl) w2 HBW.out)
      clear hb2 HX1' HX2' HB1 HTT HMM HR HNIL Q0 Q1 Q2 Q3
      go_wp2_with fail
      refine bodyPost_ret (v := .tuple #[_, _, _]) (by simp [results, Try.results6, go_sem]; exact ⟨rfl, rfl, rfl⟩) rfl ?_
      exact HE.out
    | true =>
      have Q0' : w2.cell? ⟨w.heap.size + 1, 0, none⟩ = some (.string n') := (HX2'.out.still hb2).cell 0 (by simp)
      have Q1' : w2.cell? ⟨w.heap.size + 1, 1, none⟩ = some (.string x') := (HX2'.out.still hb2).cell 1 (by simp)
      have Q2' : w2.cell? ⟨w.heap.size + 1, 2, none⟩ = some (.bool l') := (HX2'.out.still hb2).cell 2 (by simp)
      have Q3' : w2.cell? ⟨w.heap.size + 1, 3, none⟩ = some (.slice a2 m2 c2) := (HX2'.out.still hb2).cell 3 (by simp)
      have P0 : w2.cell? ⟨w.heap.size, 0, none⟩ = some (.string n) := (HX1'.out.still hb2).cell 0 (by simp)
      have P1 : w2.cell? ⟨w.heap.size, 1, none⟩ = some (.string x) := (HX1'.out.still hb2).cell 1 (by simp)
      have P2 : w2.cell? ⟨w.heap.size, 2, none⟩ = some (.bool lf) := (HX1'.out.still hb2).cell 2 (by simp)
      have P3 : w2.cell? ⟨w.heap.size, 3, none⟩ = some (.slice a1 m1 c1) := (HX1'.out.still hb2).cell 3 (by simp)
      have hmm := HMM.out trivial w2 HBW.out
      have HCL := (show Hid _ from hmm)
      clear hb2 HX1' HX2' HB1 HTT HMM Q0 Q1 Q2 Q3 hmm
      have hml := HM.out trivial
      obtain ⟨M, OKB⟩ := R
      dsimp only at HCL HMA hml HMW
      clear HM
      go_wp2_with fail
      refine Calls.mono HCL.out ?_
      rintro e w3 ⟨b3, c3, rfl, hb3, hl3⟩
      have HB3 := (show Hid (Below w.heap.size w w3) from bel_trans (bel_trans HBW.out (bel_alloc _ _)) hb3)
      have HL3 := (show Hid (BLi w3 M (.slice (some ⟨b3, 0, none⟩) M.length c3)) from hl3)
      clear hb3 hl3 HCL HBW P0 P1 P2 P3 Q0' Q1' Q2' Q3'
      cases OKB with
      | false =>
        have HE := (show Hid _ from HNIL.out 0 (by rw [HMA.out]; rfl) w3 HB3.out)
        clear HB3 HL3 HR HNIL HMA HMW
        go_wp2_with fail
        refine bodyPost_ret (v := .tuple #[_, _, _]) (by simp [results, Try.results6, go_sem]; exact ⟨rfl, rfl, rfl⟩) rfl ?_
        exact HE.out
      | true =>
        have HFN := (show Hid (∀ (b cp : Nat) (w' : World), Below w3.heap.size w3 w' → BGr M w3.heap.size M.length (.slice (some ⟨b, 0, none⟩) M.length cp) w' → Post (.returned (.tuple #[.slice (some ⟨b, 0, none⟩) M.length cp, .bool true, .int .i64 0])) w') from fun b cp w' h1 h2 => HR.out (M, true, 0) (by rw [HMA.out]; rfl) b cp w' (bel_trans HB3.out h1) h2.bli)
        clear HR HNIL HMA HB3
        obtain ⟨i62, hi62, hz0, hz1, hz2⟩ := info_parts info62s
        go_wp2_with fail
        go_loopw [9, 10] (fun u i wr => ∃ (j ub uc : Nat), u = .slice (some ⟨ub, 0, none⟩) j uc ∧ i = .int .i64 j ∧ j ≤ M.length ∧ Hid (Below w3.heap.size w3 wr) ∧ Hid (BGr M w3.heap.size j (.slice (some ⟨ub, 0, none⟩) j uc) wr)) (fun _ i _ => M.length - (intOf i).toNat)
        case atStart => exact ⟨0, w3.heap.size, 0, rfl, rfl, Nat.zero_le _, bel_alloc _ _, BGr.nil M (World.ownsRow_made w3 #[] 0 (Nat.le_refl _) (Nat.zero_le _) rfl)⟩
        case round =>
          obtain ⟨j, ub, uc, rfl, rfl, hj, HW, HG⟩ := hrel
          by_cases hlt : j < M.length
          · obtain ⟨b3', c3', sv, hv, ho, hs, hl⟩ := HL3.out
            injection hv with hv1 hv2 hv3
            injection hv1 with hv1
            injection hv1 with hv1
            subst hv1 hv3
            obtain ⟨fs, l, h, hown, hls, hr, hd⟩ := HG.out
            obtain ⟨q1, q2, q3, hq⟩ := hs j
            obtain ⟨g0, g1, g2, g3, g4⟩ := bcs_get M sv M.length j hlt
            rw [nb_eq hlt] at g0 g1 g2 g3
            rw [hq] at g4
            have HD0 := (show Hid (Below w3.heap.size w3 wr.drew) from HW.out.drew)
            have HS := (show Hid (∀ w' : World, Below w3.heap.size w3 w' → w'.cell? ⟨b3, j * 5, none⟩ = some (.string M[j].1) ∧ w'.cell? ⟨b3, j * 5 + 1, none⟩ = some (.string M[j].2.name) ∧ w'.cell? ⟨b3, j * 5 + 2, none⟩ = some (.string M[j].2.text) ∧ w'.cell? ⟨b3, j * 5 + 3, none⟩ = some (.bool M[j].2.leaf) ∧ w'.cell? ⟨b3, j * 5 + 4, none⟩ = some (.slice q1 q2 q3)) from fun w' h => by
              have hown := own_still ho h
              exact ⟨by rw [World.ownsRow.cellAt hown _ (by omega), g0], by rw [World.ownsRow.cellAt hown _ (by omega), g1], by rw [World.ownsRow.cellAt hown _ (by omega), g2], by rw [World.ownsRow.cellAt hown _ (by omega), g3], by rw [World.ownsRow.cellAt hown _ (by omega), g4]⟩)
            have hcl := copy_any M[j].2 (sv j) wr.drew ((hl j hlt).still HD0.out) (HMW.out _ (List.getElem_mem hlt))
            rw [hq] at hcl
            have HCL := (show Hid (Calls Try.prog 23 #[.agg #[.string M[j].2.name, .string M[j].2.text, .bool M[j].2.leaf, .slice q1 q2 q3]] wr.drew fun e w' => ∃ z1 z2 z3, e = .returned (.agg #[.string M[j].2.name, .string M[j].2.text, .bool M[j].2.leaf, .slice z1 z2 z3]) ∧ Hid (Below wr.drew.heap.size wr.drew w' ∧ Own w' wr.drew.heap.size w'.heap.size M[j].2 (.slice z1 z2 z3))) from Calls.mono hcl (by
              rintro e w' ⟨v', rfl, e2, e3⟩
              obtain ⟨z1, z2, z3, rfl⟩ := e3.form
              exact ⟨z1, z2, z3, rfl, e2, e3⟩))
            have HAF := (show Hid (∀ (w5 : World) (z1 : Option Addr) (z2 z3 : Nat), Hid (Below wr.drew.heap.size wr.drew w5 ∧ Own w5 wr.drew.heap.size w5.heap.size M[j].2 (.slice z1 z2 z3)) → Hid (Below w3.heap.size w3 w5) ∧ Hid ((w5.alloc (.cells #[.string M[j].1, .string M[j].2.name, .string M[j].2.text, .bool M[j].2.leaf, .slice z1 z2 z3] 47)).ownsRow w3.heap.size 47 5 (.slice (some ⟨ub, 0, none⟩) j uc) j (bcs M fs j)) ∧ Hid (Below w3.heap.size w3 (w5.alloc (.cells #[.string M[j].1, .string M[j].2.name, .string M[j].2.text, .bool M[j].2.leaf, .slice z1 z2 z3] 47))) ∧ Hid (∀ (g7 cap7 : Nat) (w7 : World), w7.ownsRow w3.heap.size 47 5 (.slice (some ⟨g7, 0, none⟩) (j + 1) cap7) (j + 1) (bcs M fs j ++ [.string M[j].1, .string M[j].2.name, .string M[j].2.text, .bool M[j].2.leaf, .slice z1 z2 z3]) → (w5.alloc (.cells #[.string M[j].1, .string M[j].2.name, .string M[j].2.text, .bool M[j].2.leaf, .slice z1 z2 z3] 47)).grownBy w7 (Value.slice (some ⟨ub, 0, none⟩) j uc).ownBlock → ((Value.slice (some ⟨ub, 0, none⟩) j uc).ownBlock = some g7 ∨ g7 = (w5.alloc (.cells #[.string M[j].1, .string M[j].2.name, .string M[j].2.text, .bool M[j].2.leaf, .slice z1 z2 z3] 47)).heap.size) → Hid (Below w3.heap.size w3 w7) ∧ Hid (BGr M w3.heap.size (j + 1) (.slice (some ⟨g7, 0, none⟩) (j + 1) cap7) w7))) from fun w5 z1 z2 z3 HQ => by
              obtain ⟨e1, e2⟩ := HQ.out
              have f1 : Below wr.heap.size wr w5 := (Below.refl wr.heap.size wr).drew.trans (e1.mono (Nat.le_refl _))
              have f2 := bel_trans HW.out f1
              have f3 := bel_trans f1 (bel_alloc w5 (.cells #[.string M[j].1, .string M[j].2.name, .string M[j].2.text, .bool M[j].2.leaf, .slice z1 z2 z3] 47))
              have f4 := bel_trans HW.out f3
              refine ⟨f2, own_still hown f3, f4, fun g7 cap7 w7 o1 o2 o3 => ⟨?_, ?_⟩⟩
              · exact bel_grown (b := ub) (Nat.le_refl _) f4 (hown.lt ub rfl).1 o2
              · refine BGr.step (u := .slice z1 z2 z3) (a := wr.drew.heap.size) (c := w5.heap.size) hown hls hr hd HW.out.size f3 ?_ (Nat.le_refl _) (by simp) ?_ o2 o3
                · rw [nb_eq hlt]
                  exact e2.still (bel_alloc _ _)
                · rw [nb_eq hlt]
                  exact o1)
            clear hcl hown hls hr hd ho hs hl g0 g1 g2 g3 g4 hq HW HG HL3 HMW hv2
            generalize M[j].1 = m0 at *
            generalize M[j].2.name = m1 at *
            generalize M[j].2.text = m2 at *
            generalize M[j].2.leaf = m3 at *
            have q0 : (j : Int) < (M.length : Int) := by omega
            go_wp2_with fail
            refine wp_region_held_drew (S := (fun wq => wq.cell? ⟨b3, j * 5, none⟩ = some (.string m0) ∧ wq.cell? ⟨b3, j * 5 + 1, none⟩ = some (.string m1) ∧ wq.cell? ⟨b3, j * 5 + 2, none⟩ = some (.string m2) ∧ wq.cell? ⟨b3, j * 5 + 3, none⟩ = some (.bool m3) ∧ wq.cell? ⟨b3, j * 5 + 4, none⟩ = some (.slice q1 q2 q3))) (by kernel_rfl) (HS.out _ HD0.out) (fun hHeld => ?_)
            refine wpAnyH_take (i := 0) (oi := { dst := some 37, op := Go.Op.move (Go.Operand.tmp 9), type := 29, pos := "l11_rewriting.go:68", after := #[], guard := none }) (v := ?v1) rfl (by kernel_rfl) (by kernel_rfl) (by kernel_rfl) (fun _ _ _ h => h) (Or.inl ⟨by rfl, ?h1⟩) hHeld ?r1
            case h1 => (intro w hSw; (try dsimp only at hSw); go_simp; try with_reducible rfl)
            try simp only [Act.put, List.setIfInBounds_toArray, List.set_cons_zero, List.set_cons_succ]
            refine wpAnyH_take (i := 1) (oi := { dst := some 38, op := Go.Op.move (Go.Operand.tmp 7), type := 29, pos := "l11_rewriting.go:68", after := #[], guard := none }) (v := ?v2) rfl (by kernel_rfl) (by kernel_rfl) (by kernel_rfl) (fun _ _ _ h => h) (Or.inl ⟨by rfl, ?h2⟩) hHeld ?r2
            case h2 => (intro w hSw; (try dsimp only at hSw); go_simp; try with_reducible rfl)
            try simp only [Act.put, List.setIfInBounds_toArray, List.set_cons_zero, List.set_cons_succ]
            refine wpAnyH_take (i := 2) (oi := { dst := some 39, op := Go.Op.move (Go.Operand.tmp 10), type := 3, pos := "l11_rewriting.go:68", after := #[], guard := none }) (v := ?v3) rfl (by kernel_rfl) (by kernel_rfl) (by kernel_rfl) (fun _ _ _ h => h) (Or.inl ⟨by rfl, ?h3⟩) hHeld ?r3
            case h3 => (intro w hSw; (try dsimp only at hSw); go_simp; try with_reducible rfl)
            try simp only [Act.put, List.setIfInBounds_toArray, List.set_cons_zero, List.set_cons_succ]
            refine wpAnyH_take (i := 3) (oi := { dst := some 40, op := Go.Op.indexAddr 29 (Go.Operand.tmp 38) (Go.Operand.tmp 39), type := 0, pos := "l11_rewriting.go:68", after := #[{ on := 1, ground := Go.Ground.data }, { on := 2, ground := Go.Ground.data }], guard := none }) (v := ?v4) rfl (by kernel_rfl) (by kernel_rfl) (by kernel_rfl) (fun _ _ _ h => h) (Or.inl ⟨by rfl, ?h4⟩) hHeld ?r4
            case h4 => (intro w hSw; (try dsimp only at hSw); go_simp; try with_reducible rfl)
            try simp only [Act.put, List.setIfInBounds_toArray, List.set_cons_zero, List.set_cons_succ]
            refine wpAnyH_take (i := 4) (oi := { dst := some 41, op := Go.Op.fieldAddr 47 (Go.Operand.tmp 40) 0, type := 0, pos := "l11_rewriting.go:68", after := #[{ on := 3, ground := Go.Ground.data }], guard := none }) (v := ?v5) rfl (by kernel_rfl) (by kernel_rfl) (by kernel_rfl) (fun _ _ _ h => h) (Or.inl ⟨by rfl, ?h5⟩) hHeld ?r5
            case h5 => (intro w hSw; (try dsimp only at hSw); go_simp; try with_reducible rfl)
            try simp only [Act.put, List.setIfInBounds_toArray, List.set_cons_zero, List.set_cons_succ]
            refine wpAnyH_take (i := 5) (oi := { dst := some 42, op := Go.Op.load 9 (Go.Operand.tmp 41), type := 9, pos := "l11_rewriting.go:68", after := #[{ on := 4, ground := Go.Ground.data }], guard := none }) (v := ?v6) rfl (by kernel_rfl) (by kernel_rfl) (by kernel_rfl) (fun _ _ _ h => h) (Or.inl ⟨by rfl, ?h6⟩) hHeld ?r6
            case h6 => (intro w hSw; (try dsimp only at hSw); go_simp; try with_reducible rfl)
            try simp only [Act.put, List.setIfInBounds_toArray, List.set_cons_zero, List.set_cons_succ]
            refine wpAnyH_take (i := 6) (oi := { dst := some 43, op := Go.Op.move (Go.Operand.tmp 7), type := 29, pos := "l11_rewriting.go:68", after := #[], guard := none }) (v := ?v7) rfl (by kernel_rfl) (by kernel_rfl) (by kernel_rfl) (fun _ _ _ h => h) (Or.inl ⟨by rfl, ?h7⟩) hHeld ?r7
            case h7 => (intro w hSw; (try dsimp only at hSw); go_simp; try with_reducible rfl)
            try simp only [Act.put, List.setIfInBounds_toArray, List.set_cons_zero, List.set_cons_succ]
            refine wpAnyH_take (i := 7) (oi := { dst := some 44, op := Go.Op.move (Go.Operand.tmp 10), type := 3, pos := "l11_rewriting.go:68", after := #[], guard := none }) (v := ?v8) rfl (by kernel_rfl) (by kernel_rfl) (by kernel_rfl) (fun _ _ _ h => h) (Or.inl ⟨by rfl, ?h8⟩) hHeld ?r8
            case h8 => (intro w hSw; (try dsimp only at hSw); go_simp; try with_reducible rfl)
            try simp only [Act.put, List.setIfInBounds_toArray, List.set_cons_zero, List.set_cons_succ]
            refine wpAnyH_take (i := 8) (oi := { dst := some 45, op := Go.Op.indexAddr 29 (Go.Operand.tmp 43) (Go.Operand.tmp 44), type := 0, pos := "l11_rewriting.go:68", after := #[{ on := 6, ground := Go.Ground.data }, { on := 7, ground := Go.Ground.data }], guard := none }) (v := ?v9) rfl (by kernel_rfl) (by kernel_rfl) (by kernel_rfl) (fun _ _ _ h => h) (Or.inl ⟨by rfl, ?h9⟩) hHeld ?r9
            case h9 => (intro w hSw; (try dsimp only at hSw); go_simp; try with_reducible rfl)
            try simp only [Act.put, List.setIfInBounds_toArray, List.set_cons_zero, List.set_cons_succ]
            refine wpAnyH_take (i := 9) (oi := { dst := some 46, op := Go.Op.fieldAddr 47 (Go.Operand.tmp 45) 1, type := 0, pos := "l11_rewriting.go:68", after := #[{ on := 8, ground := Go.Ground.data }], guard := none }) (v := ?v10) rfl (by kernel_rfl) (by kernel_rfl) (by kernel_rfl) (fun _ _ _ h => h) (Or.inl ⟨by rfl, ?h10⟩) hHeld ?r10
            case h10 => (intro w hSw; (try dsimp only at hSw); go_simp; try with_reducible rfl)
            try simp only [Act.put, List.setIfInBounds_toArray, List.set_cons_zero, List.set_cons_succ]
            refine wpAnyH_take (i := 10) (oi := { dst := some 47, op := Go.Op.load 26 (Go.Operand.tmp 46), type := 26, pos := "l11_rewriting.go:68", after := #[{ on := 9, ground := Go.Ground.data }], guard := none }) (v := ?v11) rfl (by kernel_rfl) (by kernel_rfl) (by kernel_rfl) (fun _ _ _ h => h) (Or.inl ⟨by rfl, ?h11⟩) hHeld ?r11
            case h11 => (intro w hSw; (try dsimp only at hSw); go_simp; try with_reducible rfl)
            try simp only [Act.put, List.setIfInBounds_toArray, List.set_cons_zero, List.set_cons_succ]
            refine wpAnyH_ready (rs := [11]) (by kernel_rfl) (by simp) ?_
            refine (AllReadyH.cons (o := { dst := some 48, op := Go.Op.call { callee := Go.Callee.value (Go.Operand.func 23), args := #[Go.Operand.tmp 47], argTypes := #[26] }, type := 26, pos := "l11_rewriting.go:68", after := #[{ on := 10, ground := Go.Ground.data }], guard := none }) rfl (fun K hK => ?_) AllReadyH.nil)
            go_simp
            refine Calls.mono HCL.out ?_
            rintro e w5 ⟨z1, z2, z3, rfl, HQ5⟩
            dsimp only
            obtain ⟨HB5, HO5, HZ5, HUP⟩ := HAF.out w5 z1 z2 z3 HQ5
            clear HAF HCL HQ5
            clear hHeld
            refine hK.out _ _ (HS.out _ HB5.out) (fun hHeld => ?_)
            clear hK K
            try simp only [Act.put, List.setIfInBounds_toArray, List.set_cons_zero, List.set_cons_succ]
            refine wpAnyH_take (i := 12) (oi := { dst := some 49, op := Go.Op.build 47 #[(0, Go.Operand.tmp 42), (1, Go.Operand.tmp 48)], type := 47, pos := "l11_rewriting.go:68", after := #[{ on := 5, ground := Go.Ground.data }, { on := 11, ground := Go.Ground.data }], guard := none }) (v := ?v12) rfl (by kernel_rfl) (by kernel_rfl) (by kernel_rfl) (fun _ _ _ h => h) (Or.inl ⟨by rfl, ?h12⟩) hHeld ?r12
            case h12 => (intro w hSw; (try dsimp only at hSw); go_simp; try with_reducible rfl)
            try simp only [Act.put, List.setIfInBounds_toArray, List.set_cons_zero, List.set_cons_succ]
            refine wpAnyH_ready (rs := [13]) (by kernel_rfl) (by simp) ?_
            refine (AllReadyH.cons (o := { dst := some 50, op := Go.Op.buildSlice 29 1 #[(0, Go.Operand.tmp 49)], type := 29, pos := "l11_rewriting.go:68", after := #[{ on := 12, ground := Go.Ground.data }], guard := none }) rfl (fun K hK => ?_) AllReadyH.nil)
            go_simp
            clear hHeld
            refine hK.out _ _ (HS.out _ HZ5.out) (fun hHeld => ?_)
            clear hK K
            try simp only [Act.put, List.setIfInBounds_toArray, List.set_cons_zero, List.set_cons_succ]
            refine wpAnyH_ready (rs := [14]) (by kernel_rfl) (by simp) ?_
            refine (AllReadyH.cons (o := { dst := some 51, op := Go.Op.call { callee := Go.Callee.builtin Go.Builtin.append, args := #[Go.Operand.tmp 37, Go.Operand.tmp 50], argTypes := #[29, 29] }, type := 29, pos := "l11_rewriting.go:68", after := #[{ on := 0, ground := Go.Ground.data }, { on := 13, ground := Go.Ground.data }, { on := 11, ground := Go.Ground.chain }], guard := none }) rfl (fun K hK => ?_) AllReadyH.nil)
            (refine step_append_lies _ rfl (.tmp 37) (.tmp 50) 29 rfl w3.heap.size 47 i62 _ 5 80 Try.underlying29 hi62 hz0 hz1 hz2 rfl (by decide) _ j (bcs M fs j) (by simp [Act.eval, Act.put]) HO5.out ⟨w5.heap.size, 0, none⟩ 1 1 [.string m0, .string m1, .string m2, .bool m3, .slice z1 z2 z3] (by simp [Act.eval, Act.put]) rfl (World.news_of_block (cs := #[.string m0, .string m1, .string m2, .bool m3, .slice z1 z2 z3]) (blk_alloc_new _ _)) (by intro y hy; simp at hy; rcases hy with rfl | rfl | rfl | rfl | rfl <;> rfl) (by decide) (by unfold maxLen; omega) (by omega) HZ5.out.size _ rfl ?_; intro g7 cap7 w7 hown7 hgr7 hat7 hlt7; obtain ⟨HB7, HG7⟩ := HUP.out g7 cap7 w7 hown7 hgr7 hat7; clear hown7 hgr7 hat7 hlt7 HUP HO5 HZ5 HB5)
            clear hHeld
            refine hK.out _ _ (HS.out _ HB7.out) (fun hHeld => ?_)
            clear hK K
            try simp only [Act.put, List.setIfInBounds_toArray, List.set_cons_zero, List.set_cons_succ]
            refine wpAnyH_take (i := 15) (oi := { dst := some 9, op := Go.Op.assign (Go.Operand.tmp 51), type := 29, pos := "l11_rewriting.go:68", after := #[{ on := 14, ground := Go.Ground.data }, { on := 14, ground := Go.Ground.chain }, { on := 0, ground := Go.Ground.phase }, { on := 1, ground := Go.Ground.phase }, { on := 2, ground := Go.Ground.phase }, { on := 3, ground := Go.Ground.phase }, { on := 4, ground := Go.Ground.phase }, { on := 5, ground := Go.Ground.phase }, { on := 6, ground := Go.Ground.phase }, { on := 7, ground := Go.Ground.phase }, { on := 8, ground := Go.Ground.phase }, { on := 9, ground := Go.Ground.phase }, { on := 10, ground := Go.Ground.phase }, { on := 11, ground := Go.Ground.phase }, { on := 12, ground := Go.Ground.phase }, { on := 13, ground := Go.Ground.phase }, { on := 14, ground := Go.Ground.phase }], guard := none }) (v := ?v13) rfl (by kernel_rfl) (by kernel_rfl) (by kernel_rfl) (fun _ _ _ h => h) (Or.inl ⟨by rfl, ?h13⟩) hHeld ?r13
            case h13 => (intro w hSw; (try dsimp only at hSw); go_simp; try with_reducible rfl)
            try simp only [Act.put, List.setIfInBounds_toArray, List.set_cons_zero, List.set_cons_succ]
            refine wpAnyH_done (by kernel_rfl) ?_ _
            go_wp2_with fail
            exact ⟨⟨j + 1, g7, cap7, rfl, by go_num, by omega, HB7, HG7⟩, by simp [intOf]; omega⟩
          · have hje : j = M.length := by omega
            subst hje
            have HE := (show Hid _ from HFN.out ub uc wr HW.out HG.out)
            clear HW HG HL3 HMW HFN
            go_wp2_with fail
            refine bodyPost_ret (v := .tuple #[_, _, _]) (by simp [results, Try.results6, go_sem]; exact ⟨rfl, rfl, rfl⟩) rfl ?_
            exact HE.out
end Go.Proofs.Ytbgoikaelmacbaa
