import Derived.Test.YtbgoikaelmacbaaMd
import Derived.Test.YtbgoikaelmacbaaCp
import Derived.Test.YtbgoikaelmacbaaSize
/-! The program: Match. -/
namespace Go.Proofs.Ytbgoikaelmacbaa
open Go.RowKit Go.Deep Go.Maps Go.WideMaps Go.ChangeMaps Go.Lib
set_option linter.unusedVariables false
set_option maxRecDepth 100000
set_option linter.unusedSimpArgs false

theorem mtK_rt : ∀ (k ts : List Tr) (bl : List (ByteArray × Tr)), (∀ i (hi : i < k.length) t bl b, t.right = true → b ∈ (mtT k[i] t bl).1 → b ∈ bl ∨ b.2.right = true) → Tr.rightL ts = true → ∀ b, b ∈ (mtK (k.map mtT) ts bl).1 → b ∈ bl ∨ b.2.right = true
  | [], ts, bl, _, _, b, hb => .inl (by simpa [mtK] using hb)
  | _ :: _, [], bl, _, _, b, hb => .inl (by simpa [mtK] using hb)
  | p :: r, t :: ts, bl, h, hr, b, hb => by
    have h0 := h 0 (by simp) t bl b
    simp only [List.getElem_cons_zero] at h0
    have e : t.right = true ∧ Tr.rightL ts = true := by simpa [Tr.rightL] using hr
    rw [List.map_cons, mtK] at hb
    split at hb
    · rcases mtK_rt r ts (mtT p t bl).1 (fun i hi u m => by have := h (i + 1) (by simp; omega) u m; simpa using this) e.2 b hb with g | g
      · exact h0 e.1 g
      · exact .inr g
    · exact h0 e.1 hb
theorem mtT_rt (p : Tr) : ∀ t bl b, t.right = true → b ∈ (mtT p t bl).1 → b ∈ bl ∨ b.2.right = true := by
  refine Tr.ind (P := fun p => ∀ t bl b, t.right = true → b ∈ (mtT p t bl).1 → b ∈ bl ∨ b.2.right = true) ?_ p
  intro n x lf k ih t bl b hr hb
  rw [mtT_mk] at hb
  split at hb
  · unfold mtV at hb
    split at hb
    · exact .inl hb
    · rcases List.mem_append.1 hb with g | g
      · exact .inl g
      · simp at g
        subst g
        exact .inr hr
  · split at hb
    · obtain ⟨n', x', l', k'⟩ := t
      rw [Tr.right_mk, Bool.and_eq_true] at hr
      exact mtK_rt k k' bl (fun i hi u m c hu hc => ih i hi u m c hu hc) hr.2 b hb
    · exact .inl hb
/-- What the program's Match leaves. -/
def IaA (R : List (ByteArray × Tr) × Bool × Int) (w : World) (e : Ending) (w' : World) : Prop :=
  ∃ (ua : Option Addr) (cap B : Nat), e = .returned (.tuple #[.slice ua R.1.length cap, .bool R.2.1, .int .i64 R.2.2]) ∧ Below w.heap.size w w' ∧ w.heap.size ≤ B ∧ BGr R.1 B R.1.length (.slice ua R.1.length cap) w'
set_option maxHeartbeats 3200000 in
theorem iMatch10 (p t : Tr) (pv tv : Value) (w : World) (hp : Lies w (fun _ => True) p pv) (ht : Lies w (fun _ => True) t tv) (hwt : t.wt ≤ 1048576)
    (hpat : ∀ w1 : World, Lies w1 (fun _ => True) p pv → Calls Try.prog 24 #[p.val pv] w1 fun e w' => e = .returned (.bool (patB p)) ∧ Below w1.heap.size w1 w') :
    Calls Try.prog 7 #[p.val pv, t.val tv] w (IaA (maR p t) w) := by
  obtain ⟨a1, m1, c1, rfl⟩ := hp.form
  obtain ⟨a2, m2, c2, rfl⟩ := ht.form
  have HNIL := (show Hid (∀ (c : Int), maR p t = ([], false, c) → ∀ w1 : World, Below w.heap.size w w1 → IaA (maR p t) w (.returned (.tuple #[.slice none 0 0, .bool false, .int .i64 c])) w1) from fun c hc w1 h1 => by
    rw [hc]
    exact ⟨none, 0, w.heap.size, rfl, h1, Nat.le_refl _, BGr.nil [] (own_nil _ _ _ _)⟩)
  have HPP := (show Hid (∀ w1 : World, Below w.heap.size w w1 → Calls Try.prog 24 #[p.val (.slice a1 m1 c1)] w1 fun e w' => e = .returned (.bool (patB p)) ∧ Below w1.heap.size w1 w') from fun w1 h1 => hpat w1 (hp.still h1))
  have HTT := (show Hid (∀ w1 : World, Below w.heap.size w w1 → Calls Try.prog 25 #[t.val (.slice a2 m2 c2)] w1 fun e w' => e = .returned (.bool t.ok) ∧ Below w1.heap.size w1 w') from fun w1 h1 => iOK_any t _ w1 (ht.still h1))
  have hcnt : patB p = true → p.cnt ≤ 1000 := fun hpb => by
    unfold patB at hpb
    rw [Bool.and_eq_true] at hpb
    exact ok_cnt hpb.1
  have HMM := (show Hid (patB p = true → ∀ w1 : World, Below w.heap.size w w1 → Calls Try.prog 26 #[p.val (.slice a1 m1 c1), t.val (.slice a2 m2 c2)] w1 (MdA (mtT p t []) w1)) from fun hpb w1 h1 => matched39 p t _ _ w1 (hp.still h1) (ht.still h1) (by have := hcnt hpb; omega))
  have HM := (show Hid (patB p = true → (mtT p t []).1.length ≤ 1000) from fun hpb => by
    have := hcnt hpb
    have h2 := mtT_len p t []
    simp at h2
    omega)
  have HMW := (show Hid (t.ok = true → ∀ b, b ∈ (mtT p t []).1 → b.2.wt ≤ 1048576 ∧ b.2.right = true) from fun hok b hb => by
    have hr : t.right = true := by
      unfold Tr.ok at hok
      simp only [Bool.and_eq_true, decide_eq_true_eq] at hok
      first
        | exact hok.1.1
        | exact hok.2
        | exact hok.1
        | exact hok.1.2
    refine ⟨?_, ?_⟩
    · rcases mtT_wt p t [] b hb with h | h
      · cases h
      · omega
    · rcases mtT_rt p t [] b hr hb with h | h
      · cases h
      · exact h)
  have HMA := (show Hid (maR p t = if (patB p && t.ok) = true then (if (mtT p t []).2 = true then ((mtT p t []).1, true, 0) else ([], false, 0)) else ([], false, 1)) from rfl)
  clear hp ht hwt hcnt hpat
  unfold MdA at HMM
  generalize maR p t = MR at *
  generalize mtT p t [] = R at *
  generalize patB p = PB at *
  generalize t.ok = TO at *
  obtain ⟨n, x, lf, k⟩ := p
  obtain ⟨n', x', l', k'⟩ := t
  simp only [Tr.val] at HPP HTT HMM ⊢
  clear k k'
  have HX1 := (show Hid (Box ((w.alloc (.cells #[.string n, .string x, .bool lf, .slice a1 m1 c1] 26)).alloc (.cells #[.string n', .string x', .bool l', .slice a2 m2 c2] 26)) w.heap.size 26 [.string n, .string x, .bool lf, .slice a1 m1 c1]) from (Box.new w 26 _).still (bel_alloc _ _))
  have HX2 := (show Hid (Box ((w.alloc (.cells #[.string n, .string x, .bool lf, .slice a1 m1 c1] 26)).alloc (.cells #[.string n', .string x', .bool l', .slice a2 m2 c2] 26)) (w.heap.size + 1) 26 [.string n', .string x', .bool l', .slice a2 m2 c2]) from (by
    have h := Box.new (w.alloc (.cells #[.string n, .string x, .bool lf, .slice a1 m1 c1] 26)) 26 [.string n', .string x', .bool l', .slice a2 m2 c2]
    rw [show (w.alloc (.cells #[.string n, .string x, .bool lf, .slice a1 m1 c1] 26)).heap.size = w.heap.size + 1 from by simp] at h
    exact h))
  have HB2 := (show Hid (Below w.heap.size w ((w.alloc (.cells #[.string n, .string x, .bool lf, .slice a1 m1 c1] 26)).alloc (.cells #[.string n', .string x', .bool l', .slice a2 m2 c2] 26))) from (bel_alloc _ _).alloc (by simp) _)
  go_enter Try.func7, Try.ntmps7
  go_wp2_with fail
  refine Calls.mono (HPP.out _ HB2.out) ?_
  rintro e w1 ⟨rfl, hb1⟩
  have HB1 := (show Hid (Below w.heap.size w w1) from bel_trans HB2.out hb1)
  cases PB with
  | false =>
    have HE := (show Hid _ from HNIL.out 1 (by rw [HMA.out]; rfl) w1 HB1.out)
    clear hb1 HX1 HX2 HB1 HPP HTT HMM HNIL
    go_wp2_with fail
    go_ret3
    exact HE.out
  | true =>
    have Q0 : w1.cell? ⟨w.heap.size + 1, 0, none⟩ = some (.string n') := (HX2.out.still hb1).cell 0 (by simp)
    have Q1 : w1.cell? ⟨w.heap.size + 1, 1, none⟩ = some (.string x') := (HX2.out.still hb1).cell 1 (by simp)
    have Q2 : w1.cell? ⟨w.heap.size + 1, 2, none⟩ = some (.bool l') := (HX2.out.still hb1).cell 2 (by simp)
    have Q3 : w1.cell? ⟨w.heap.size + 1, 3, none⟩ = some (.slice a2 m2 c2) := (HX2.out.still hb1).cell 3 (by simp)
    have HX1' := (show Hid (Box w1 w.heap.size 26 [.string n, .string x, .bool lf, .slice a1 m1 c1]) from HX1.out.still hb1)
    have HX2' := (show Hid (Box w1 (w.heap.size + 1) 26 [.string n', .string x', .bool l', .slice a2 m2 c2]) from HX2.out.still hb1)
    clear hb1 HX1 HX2 HPP
    go_wp2_with fail
    refine Calls.mono (HTT.out _ HB1.out) ?_
    rintro e w2 ⟨rfl, hb2⟩
    have HBW := (show Hid (Below w.heap.size w w2) from bel_trans HB1.out hb2)
    cases TO with
    | false =>
      have HE := (show Hid _ from HNIL.out 1 (by rw [HMA.out]; rfl) w2 HBW.out)
      clear hb2 HX1' HX2' HB1 HTT HMM HNIL Q0 Q1 Q2 Q3
      go_wp2_with fail
      go_ret3
      exact HE.out
    | true =>
      have Q0' : w2.cell? ⟨w.heap.size + 1, 0, none⟩ = some (.string n') := (HX2'.out.still hb2).cell 0 (by simp)
      have Q1' : w2.cell? ⟨w.heap.size + 1, 1, none⟩ = some (.string x') := (HX2'.out.still hb2).cell 1 (by simp)
      have Q2' : w2.cell? ⟨w.heap.size + 1, 2, none⟩ = some (.bool l') := (HX2'.out.still hb2).cell 2 (by simp)
      have Q3' : w2.cell? ⟨w.heap.size + 1, 3, none⟩ = some (.slice a2 m2 c2) := (HX2'.out.still hb2).cell 3 (by simp)
      have P0 : w2.cell? ⟨w.heap.size, 0, none⟩ = some (.string n) := (HX1'.out.still hb2).cell 0 (by simp)
      have P1 : w2.cell? ⟨w.heap.size, 1, none⟩ = some (.string x) := (HX1'.out.still hb2).cell 1 (by simp)
      have P2 : w2.cell? ⟨w.heap.size, 2, none⟩ = some (.bool lf) := (HX1'.out.still hb2).cell 2 (by simp)
      have P3 : w2.cell? ⟨w.heap.size, 3, none⟩ = some (.slice a1 m1 c1) := (HX1'.out.still hb2).cell 3 (by simp)
      have hmm := HMM.out trivial w2 HBW.out
      have HCL := (show Hid _ from hmm)
      clear hb2 HX1' HX2' HB1 HTT HMM Q0 Q1 Q2 Q3 hmm
      have hml := HM.out trivial
      have HMV := (show Hid _ from HMW.out rfl)
      obtain ⟨M, OKB⟩ := R
      dsimp only at HCL HMA hml HMV
      clear HM HMW
      go_wp2_with fail
      refine Calls.mono HCL.out ?_
      rintro e w3 ⟨mb, ba, c3, B3, sv, rfl, hb3, ho3, hl3⟩
      have HB3 := (show Hid (Below w.heap.size w w3) from bel_trans HBW.out hb3)
      have HO3 := (show Hid (w3.ownsRow B3 47 5 (.slice ba M.length c3) M.length (bcs M sv M.length)) from ho3)
      have HL3 := (show Hid (∀ i (hi : i < M.length), Lies w3 (fun _ => True) M[i].2 (sv i)) from fun i hi => (hl3 i hi).mono (fun _ _ => trivial))
      clear hb3 ho3 hl3 HCL HBW P0 P1 P2 P3 Q0' Q1' Q2' Q3'
      cases OKB with
      | false =>
        have HE := (show Hid _ from HNIL.out 0 (by rw [HMA.out]; rfl) (w3.alloc (.cells #[.map (some mb), .slice ba M.length c3] 54)) (bel_trans HB3.out (bel_alloc _ _)))
        clear HB3 HL3 HO3 HNIL HMA HMV
        go_wp2_with fail
        go_ret3
        exact HE.out
      | true =>
        obtain ⟨w4, hw4⟩ : ∃ w4 : World, w4 = w3.alloc (.cells #[.map (some mb), .slice ba M.length c3] 54) := ⟨_, rfl⟩
        have hb4 : Below w3.heap.size w3 w4 := by rw [hw4]; exact bel_alloc _ _
        have HFN := (show Hid (∀ (ua : Option Addr) (cp : Nat) (w' : World), Below w4.heap.size w4 w' → BGr M w4.heap.size M.length (.slice ua M.length cp) w' → IaA MR w (.returned (.tuple #[.slice ua M.length cp, .bool true, .int .i64 0])) w') from fun ua cp w' h1 h2 => by
          rw [show MR = (M, true, 0) from by rw [HMA.out]; rfl]
          have h4 := bel_trans HB3.out hb4
          exact ⟨ua, cp, w4.heap.size, rfl, bel_trans h4 h1, h4.size, h2⟩)
        have HO4 := (show Hid (w4.ownsRow B3 47 5 (.slice ba M.length c3) M.length (bcs M sv M.length)) from own_still HO3.out hb4)
        have HL4 := (show Hid (∀ i (hi : i < M.length), Lies w4 (fun _ => True) M[i].2 (sv i)) from fun i hi => (HL3.out i hi).still hb4)
        have HW4 := (show Hid (w4 = w3.alloc (.cells #[.map (some mb), .slice ba M.length c3] 54)) from hw4)
        clear HNIL HMA HB3 HO3 HL3 hb4 hw4
        obtain ⟨i62, hi62, hz0, hz1, hz2⟩ := info_parts info62s
        go_wp2_with fail
        rw [← HW4.out]
        go_loopw [9, 31] (fun u i wr => ∃ (j : Nat) (ua : Option Addr) (uc : Nat), u = .slice ua j uc ∧ i = .int .i64 j ∧ j ≤ M.length ∧ Hid (Below w4.heap.size w4 wr) ∧ Hid (BGr M w4.heap.size j (.slice ua j uc) wr)) (fun _ i _ => M.length - (intOf i).toNat)
        case atStart => exact ⟨0, none, 0, rfl, rfl, Nat.zero_le _, Below.refl _ _, BGr.nil M (own_nil _ _ _ _)⟩
        case round =>
          obtain ⟨j, ua, uc, rfl, rfl, hj, HW, HG⟩ := hrel
          by_cases hlt : j < M.length
          · obtain ⟨fs, l, h, hown, hls, hr, hd⟩ := HG.out
            obtain ⟨q1, q2, q3, hq⟩ := (HL4.out j hlt).form
            obtain ⟨g0, g1, g2, g3, g4⟩ := bcs_get M sv M.length j hlt
            rw [nb_eq hlt] at g0 g1 g2 g3
            rw [hq] at g4
            obtain ⟨b3, rfl⟩ : ∃ b3, ba = some ⟨b3, 0, none⟩ := by
              rcases HO4.out.2 with ⟨e, e0⟩ | ⟨b9, cp, cur, e, _⟩
              · omega
              · injection e with e _ _
                exact ⟨b9, e⟩
            have hown4 := own_still HO4.out HW.out
            have k0 : wr.cell? ⟨b3, j * 5, none⟩ = some (.string M[j].1) := by rw [World.ownsRow.cellAt hown4 _ (by omega), g0]
            have k1 : wr.cell? ⟨b3, j * 5 + 1, none⟩ = some (.string M[j].2.name) := by rw [World.ownsRow.cellAt hown4 _ (by omega), g1]
            have k2 : wr.cell? ⟨b3, j * 5 + 2, none⟩ = some (.string M[j].2.text) := by rw [World.ownsRow.cellAt hown4 _ (by omega), g2]
            have k3 : wr.cell? ⟨b3, j * 5 + 3, none⟩ = some (.bool M[j].2.leaf) := by rw [World.ownsRow.cellAt hown4 _ (by omega), g3]
            have k4 : wr.cell? ⟨b3, j * 5 + 4, none⟩ = some (.slice q1 q2 q3) := by rw [World.ownsRow.cellAt hown4 _ (by omega), g4]
            have fx : Below wr.heap.size wr (wr.alloc (.cells #[.string M[j].1, .string M[j].2.name, .string M[j].2.text, .bool M[j].2.leaf, .slice q1 q2 q3] 47)) := bel_alloc _ _
            have fd : Below wr.heap.size wr (wr.alloc (.cells #[.string M[j].1, .string M[j].2.name, .string M[j].2.text, .bool M[j].2.leaf, .slice q1 q2 q3] 47)).drew := fx.drew
            have bx : Box (wr.alloc (.cells #[.string M[j].1, .string M[j].2.name, .string M[j].2.text, .bool M[j].2.leaf, .slice q1 q2 q3] 47)) wr.heap.size 47 [.string M[j].1, .string M[j].2.name, .string M[j].2.text, .bool M[j].2.leaf, .slice q1 q2 q3] := Box.new wr 47 _
            have bd : Box (wr.alloc (.cells #[.string M[j].1, .string M[j].2.name, .string M[j].2.text, .bool M[j].2.leaf, .slice q1 q2 q3] 47)).drew wr.heap.size 47 [.string M[j].1, .string M[j].2.name, .string M[j].2.text, .bool M[j].2.leaf, .slice q1 q2 q3] := bx.still (Below.refl _ _).drew
            have hS0 : (fun wq => wq.cell? ⟨wr.heap.size, 0, none⟩ = some (.string M[j].1) ∧ wq.cell? ⟨wr.heap.size, 1, none⟩ = some (.string M[j].2.name) ∧ wq.cell? ⟨wr.heap.size, 2, none⟩ = some (.string M[j].2.text) ∧ wq.cell? ⟨wr.heap.size, 3, none⟩ = some (.bool M[j].2.leaf) ∧ wq.cell? ⟨wr.heap.size, 4, none⟩ = some (.slice q1 q2 q3)) (wr.alloc (.cells #[.string M[j].1, .string M[j].2.name, .string M[j].2.text, .bool M[j].2.leaf, .slice q1 q2 q3] 47)).drew := ⟨bd.cell 0 (by simp), bd.cell 1 (by simp), bd.cell 2 (by simp), bd.cell 3 (by simp), bd.cell 4 (by simp)⟩
            have hmv := HMV.out _ (List.getElem_mem hlt)
            have hcl := copied40 M[j].2 (sv j) (wr.alloc (.cells #[.string M[j].1, .string M[j].2.name, .string M[j].2.text, .bool M[j].2.leaf, .slice q1 q2 q3] 47)).drew ((HL4.out j hlt).still (bel_trans HW.out fd)) hmv.1 hmv.2
            rw [hq] at hcl
            have HCL := (show Hid (Calls Try.prog 27 #[.agg #[.string M[j].2.name, .string M[j].2.text, .bool M[j].2.leaf, .slice q1 q2 q3]] (wr.alloc (.cells #[.string M[j].1, .string M[j].2.name, .string M[j].2.text, .bool M[j].2.leaf, .slice q1 q2 q3] 47)).drew fun e w' => ∃ z1 z2 z3, e = .returned (.agg #[.string M[j].2.name, .string M[j].2.text, .bool M[j].2.leaf, .slice z1 z2 z3]) ∧ Hid (Below (wr.alloc (.cells #[.string M[j].1, .string M[j].2.name, .string M[j].2.text, .bool M[j].2.leaf, .slice q1 q2 q3] 47)).drew.heap.size (wr.alloc (.cells #[.string M[j].1, .string M[j].2.name, .string M[j].2.text, .bool M[j].2.leaf, .slice q1 q2 q3] 47)).drew w' ∧ Own w' (wr.alloc (.cells #[.string M[j].1, .string M[j].2.name, .string M[j].2.text, .bool M[j].2.leaf, .slice q1 q2 q3] 47)).drew.heap.size w'.heap.size M[j].2 (.slice z1 z2 z3))) from Calls.mono hcl (by
              rintro e w' ⟨v', rfl, e2, e3⟩
              obtain ⟨z1, z2, z3, rfl⟩ := e3.form
              exact ⟨z1, z2, z3, rfl, e2, e3⟩))
            have HAF := (show Hid (∀ (w5 : World) (z1 : Option Addr) (z2 z3 : Nat), Hid (Below (wr.alloc (.cells #[.string M[j].1, .string M[j].2.name, .string M[j].2.text, .bool M[j].2.leaf, .slice q1 q2 q3] 47)).drew.heap.size (wr.alloc (.cells #[.string M[j].1, .string M[j].2.name, .string M[j].2.text, .bool M[j].2.leaf, .slice q1 q2 q3] 47)).drew w5 ∧ Own w5 (wr.alloc (.cells #[.string M[j].1, .string M[j].2.name, .string M[j].2.text, .bool M[j].2.leaf, .slice q1 q2 q3] 47)).drew.heap.size w5.heap.size M[j].2 (.slice z1 z2 z3)) → ((fun wq => wq.cell? ⟨wr.heap.size, 0, none⟩ = some (.string M[j].1) ∧ wq.cell? ⟨wr.heap.size, 1, none⟩ = some (.string M[j].2.name) ∧ wq.cell? ⟨wr.heap.size, 2, none⟩ = some (.string M[j].2.text) ∧ wq.cell? ⟨wr.heap.size, 3, none⟩ = some (.bool M[j].2.leaf) ∧ wq.cell? ⟨wr.heap.size, 4, none⟩ = some (.slice q1 q2 q3)) w5) ∧ ((fun wq => wq.cell? ⟨wr.heap.size, 0, none⟩ = some (.string M[j].1) ∧ wq.cell? ⟨wr.heap.size, 1, none⟩ = some (.string M[j].2.name) ∧ wq.cell? ⟨wr.heap.size, 2, none⟩ = some (.string M[j].2.text) ∧ wq.cell? ⟨wr.heap.size, 3, none⟩ = some (.bool M[j].2.leaf) ∧ wq.cell? ⟨wr.heap.size, 4, none⟩ = some (.slice q1 q2 q3)) (w5.alloc (.cells #[.string M[j].1, .string M[j].2.name, .string M[j].2.text, .bool M[j].2.leaf, .slice z1 z2 z3] 47))) ∧ Hid ((w5.alloc (.cells #[.string M[j].1, .string M[j].2.name, .string M[j].2.text, .bool M[j].2.leaf, .slice z1 z2 z3] 47)).ownsRow w4.heap.size 47 5 (.slice ua j uc) j (bcs M fs j)) ∧ Hid (w4.heap.size ≤ (w5.alloc (.cells #[.string M[j].1, .string M[j].2.name, .string M[j].2.text, .bool M[j].2.leaf, .slice z1 z2 z3] 47)).heap.size) ∧ Hid (∀ (g7 cap7 : Nat) (w7 : World), w7.ownsRow w4.heap.size 47 5 (.slice (some ⟨g7, 0, none⟩) (j + 1) cap7) (j + 1) (bcs M fs j ++ [.string M[j].1, .string M[j].2.name, .string M[j].2.text, .bool M[j].2.leaf, .slice z1 z2 z3]) → (w5.alloc (.cells #[.string M[j].1, .string M[j].2.name, .string M[j].2.text, .bool M[j].2.leaf, .slice z1 z2 z3] 47)).grownBy w7 (Value.slice ua j uc).ownBlock → ((Value.slice ua j uc).ownBlock = some g7 ∨ g7 = (w5.alloc (.cells #[.string M[j].1, .string M[j].2.name, .string M[j].2.text, .bool M[j].2.leaf, .slice z1 z2 z3] 47)).heap.size) → ((fun wq => wq.cell? ⟨wr.heap.size, 0, none⟩ = some (.string M[j].1) ∧ wq.cell? ⟨wr.heap.size, 1, none⟩ = some (.string M[j].2.name) ∧ wq.cell? ⟨wr.heap.size, 2, none⟩ = some (.string M[j].2.text) ∧ wq.cell? ⟨wr.heap.size, 3, none⟩ = some (.bool M[j].2.leaf) ∧ wq.cell? ⟨wr.heap.size, 4, none⟩ = some (.slice q1 q2 q3)) w7) ∧ Hid (Below w4.heap.size w4 w7) ∧ Hid (BGr M w4.heap.size (j + 1) (.slice (some ⟨g7, 0, none⟩) (j + 1) cap7) w7))) from fun w5 z1 z2 z3 HQ => by
              obtain ⟨e1, e2⟩ := HQ.out
              have f1 : Below wr.heap.size wr w5 := bel_trans fd e1
              have f3 := bel_trans f1 (bel_alloc w5 (.cells #[.string M[j].1, .string M[j].2.name, .string M[j].2.text, .bool M[j].2.leaf, .slice z1 z2 z3] 47))
              have f4 := bel_trans HW.out f3
              have b5 := bd.still e1
              have b6 := b5.still (bel_alloc w5 (.cells #[.string M[j].1, .string M[j].2.name, .string M[j].2.text, .bool M[j].2.leaf, .slice z1 z2 z3] 47))
              refine ⟨⟨b5.cell 0 (by simp), b5.cell 1 (by simp), b5.cell 2 (by simp), b5.cell 3 (by simp), b5.cell 4 (by simp)⟩, ⟨b6.cell 0 (by simp), b6.cell 1 (by simp), b6.cell 2 (by simp), b6.cell 3 (by simp), b6.cell 4 (by simp)⟩, own_still hown f3, f4.size, fun g7 cap7 w7 o1 o2 o3 => ?_⟩
              have b7 := b6.keep (o2.block wr.heap.size b6.lt (fun e => by have := (hown.lt _ e.symm).2; omega))
              refine ⟨⟨b7.cell 0 (by simp), b7.cell 1 (by simp), b7.cell 2 (by simp), b7.cell 3 (by simp), b7.cell 4 (by simp)⟩, ?_, ?_⟩
              · exact ⟨o2.os.trans f4.os, o2.tape.trans f4.tape, o2.output.trans f4.output, Nat.le_trans f4.size o2.size, fun q hq => (o2.block q (by have := f4.size; omega) (fun e => by have := (hown.lt q e.symm).1; omega)).trans (f4.block q hq)⟩
              · refine BGr.step (u := .slice z1 z2 z3) (a := (wr.alloc (.cells #[.string M[j].1, .string M[j].2.name, .string M[j].2.text, .bool M[j].2.leaf, .slice q1 q2 q3] 47)).drew.heap.size) (c := w5.heap.size) hown hls hr hd HW.out.size f3 ?_ fd.size (by simp) ?_ o2 o3
                · rw [nb_eq hlt]
                  exact e2.still (bel_alloc _ _)
                · rw [nb_eq hlt]
                  exact o1)
            clear hcl hown hls hr hd g0 g1 g2 g3 g4 hq HW HG HMV hown4 fx fd bx bd hmv
            dsimp only at hS0
            generalize M[j].1 = m0 at *
            generalize M[j].2.name = m1 at *
            generalize M[j].2.text = m2 at *
            generalize M[j].2.leaf = m3 at *
            have q0 : (j : Int) < (M.length : Int) := by omega
            go_wp2_with fail
            refine wp_region_held_drew (S := (fun wq => wq.cell? ⟨wr.heap.size, 0, none⟩ = some (.string m0) ∧ wq.cell? ⟨wr.heap.size, 1, none⟩ = some (.string m1) ∧ wq.cell? ⟨wr.heap.size, 2, none⟩ = some (.string m2) ∧ wq.cell? ⟨wr.heap.size, 3, none⟩ = some (.bool m3) ∧ wq.cell? ⟨wr.heap.size, 4, none⟩ = some (.slice q1 q2 q3))) (by kernel_rfl) hS0 (fun hHeld => ?_)
            refine wpAnyH_take (i := 0) (oi := { dst := some 35, op := Go.Op.move (Go.Operand.tmp 9), type := 29, pos := "l11_rewriting.go:54", after := #[], guard := none }) (v := ?v1) rfl (by kernel_rfl) (by kernel_rfl) (by kernel_rfl) (fun _ _ _ h => h) (Or.inl ⟨by rfl, ?h1⟩) hHeld ?r1
            case h1 => (intro w hSw; (try dsimp only at hSw); go_simp; try with_reducible rfl)
            try simp only [Act.put, List.setIfInBounds_toArray, List.set_cons_zero, List.set_cons_succ]
            refine wpAnyH_take (i := 1) (oi := { dst := some 36, op := Go.Op.fieldAddr 47 (Go.Operand.tmp 11) 0, type := 0, pos := "l11_rewriting.go:54", after := #[], guard := none }) (v := ?v2) rfl (by kernel_rfl) (by kernel_rfl) (by kernel_rfl) (fun _ _ _ h => h) (Or.inl ⟨by rfl, ?h2⟩) hHeld ?r2
            case h2 => (intro w hSw; (try dsimp only at hSw); go_simp; try with_reducible rfl)
            try simp only [Act.put, List.setIfInBounds_toArray, List.set_cons_zero, List.set_cons_succ]
            refine wpAnyH_take (i := 2) (oi := { dst := some 37, op := Go.Op.load 9 (Go.Operand.tmp 36), type := 9, pos := "l11_rewriting.go:54", after := #[{ on := 1, ground := Go.Ground.data }], guard := none }) (v := ?v3) rfl (by kernel_rfl) (by kernel_rfl) (by kernel_rfl) (fun _ _ _ h => h) (Or.inl ⟨by rfl, ?h3⟩) hHeld ?r3
            case h3 => (intro w hSw; (try dsimp only at hSw); go_simp; try with_reducible rfl)
            try simp only [Act.put, List.setIfInBounds_toArray, List.set_cons_zero, List.set_cons_succ]
            refine wpAnyH_take (i := 3) (oi := { dst := some 38, op := Go.Op.fieldAddr 47 (Go.Operand.tmp 11) 1, type := 0, pos := "l11_rewriting.go:54", after := #[], guard := none }) (v := ?v4) rfl (by kernel_rfl) (by kernel_rfl) (by kernel_rfl) (fun _ _ _ h => h) (Or.inl ⟨by rfl, ?h4⟩) hHeld ?r4
            case h4 => (intro w hSw; (try dsimp only at hSw); go_simp; try with_reducible rfl)
            try simp only [Act.put, List.setIfInBounds_toArray, List.set_cons_zero, List.set_cons_succ]
            refine wpAnyH_take (i := 4) (oi := { dst := some 39, op := Go.Op.load 26 (Go.Operand.tmp 38), type := 26, pos := "l11_rewriting.go:54", after := #[{ on := 3, ground := Go.Ground.data }], guard := none }) (v := ?v5) rfl (by kernel_rfl) (by kernel_rfl) (by kernel_rfl) (fun _ _ _ h => h) (Or.inl ⟨by rfl, ?h5⟩) hHeld ?r5
            case h5 => (intro w hSw; (try dsimp only at hSw); go_simp; try with_reducible rfl)
            try simp only [Act.put, List.setIfInBounds_toArray, List.set_cons_zero, List.set_cons_succ]
            refine wpAnyH_ready (rs := [5]) (by kernel_rfl) (by simp) ?_
            refine (AllReadyH.cons (o := { dst := some 40, op := Go.Op.call { callee := Go.Callee.value (Go.Operand.func 27), args := #[Go.Operand.tmp 39], argTypes := #[26] }, type := 26, pos := "l11_rewriting.go:54", after := #[{ on := 4, ground := Go.Ground.data }], guard := none }) rfl (fun K hK => ?_) AllReadyH.nil)
            go_simp
            refine Calls.mono HCL.out ?_
            rintro e w5 ⟨z1, z2, z3, rfl, HQ5⟩
            dsimp only
            obtain ⟨hS5, hS6, HO5, HZ5, HUP⟩ := HAF.out w5 z1 z2 z3 HQ5
            clear HAF HCL HQ5
            clear hHeld
            refine hK.out _ _ hS5 (fun hHeld => ?_)
            clear hK K
            try simp only [Act.put, List.setIfInBounds_toArray, List.set_cons_zero, List.set_cons_succ]
            refine wpAnyH_take (i := 6) (oi := { dst := some 41, op := Go.Op.build 47 #[(0, Go.Operand.tmp 37), (1, Go.Operand.tmp 40)], type := 47, pos := "l11_rewriting.go:54", after := #[{ on := 2, ground := Go.Ground.data }, { on := 5, ground := Go.Ground.data }], guard := none }) (v := ?v6) rfl (by kernel_rfl) (by kernel_rfl) (by kernel_rfl) (fun _ _ _ h => h) (Or.inl ⟨by rfl, ?h6⟩) hHeld ?r6
            case h6 => (intro w hSw; (try dsimp only at hSw); go_simp; try with_reducible rfl)
            try simp only [Act.put, List.setIfInBounds_toArray, List.set_cons_zero, List.set_cons_succ]
            refine wpAnyH_ready (rs := [7]) (by kernel_rfl) (by simp) ?_
            refine (AllReadyH.cons (o := { dst := some 42, op := Go.Op.buildSlice 29 1 #[(0, Go.Operand.tmp 41)], type := 29, pos := "l11_rewriting.go:54", after := #[{ on := 6, ground := Go.Ground.data }], guard := none }) rfl (fun K hK => ?_) AllReadyH.nil)
            go_simp
            clear hHeld
            refine hK.out _ _ hS6 (fun hHeld => ?_)
            clear hK K
            try simp only [Act.put, List.setIfInBounds_toArray, List.set_cons_zero, List.set_cons_succ]
            refine wpAnyH_ready (rs := [8]) (by kernel_rfl) (by simp) ?_
            refine (AllReadyH.cons (o := { dst := some 43, op := Go.Op.call { callee := Go.Callee.builtin Go.Builtin.append, args := #[Go.Operand.tmp 35, Go.Operand.tmp 42], argTypes := #[29, 29] }, type := 29, pos := "l11_rewriting.go:54", after := #[{ on := 0, ground := Go.Ground.data }, { on := 7, ground := Go.Ground.data }, { on := 5, ground := Go.Ground.chain }], guard := none }) rfl (fun K hK => ?_) AllReadyH.nil)
            (refine step_append_lies _ rfl (.tmp 35) (.tmp 42) 29 rfl w4.heap.size 47 i62 _ 5 80 Try.underlying29 hi62 hz0 hz1 hz2 rfl (by decide) _ j (bcs M fs j) (by simp [Act.eval, Act.put]) HO5.out ⟨w5.heap.size, 0, none⟩ 1 1 [.string m0, .string m1, .string m2, .bool m3, .slice z1 z2 z3] (by simp [Act.eval, Act.put]) rfl (World.news_of_block (cs := #[.string m0, .string m1, .string m2, .bool m3, .slice z1 z2 z3]) (blk_alloc_new _ _)) (by intro y hy; simp at hy; rcases hy with rfl | rfl | rfl | rfl | rfl <;> rfl) (by decide) (by unfold maxLen; omega) (by omega) HZ5.out _ rfl ?_; intro g7 cap7 w7 hown7 hgr7 hat7 hlt7; obtain ⟨hS7, HB7, HG7⟩ := HUP.out g7 cap7 w7 hown7 hgr7 hat7; clear hown7 hgr7 hat7 hlt7 HUP HO5 HZ5)
            clear hHeld
            refine hK.out _ _ hS7 (fun hHeld => ?_)
            clear hK K
            try simp only [Act.put, List.setIfInBounds_toArray, List.set_cons_zero, List.set_cons_succ]
            refine wpAnyH_take (i := 9) (oi := { dst := some 9, op := Go.Op.assign (Go.Operand.tmp 43), type := 29, pos := "l11_rewriting.go:54", after := #[{ on := 8, ground := Go.Ground.data }, { on := 8, ground := Go.Ground.chain }, { on := 0, ground := Go.Ground.phase }, { on := 1, ground := Go.Ground.phase }, { on := 2, ground := Go.Ground.phase }, { on := 3, ground := Go.Ground.phase }, { on := 4, ground := Go.Ground.phase }, { on := 5, ground := Go.Ground.phase }, { on := 6, ground := Go.Ground.phase }, { on := 7, ground := Go.Ground.phase }, { on := 8, ground := Go.Ground.phase }], guard := none }) (v := ?v7) rfl (by kernel_rfl) (by kernel_rfl) (by kernel_rfl) (fun _ _ _ h => h) (Or.inl ⟨by rfl, ?h7⟩) hHeld ?r7
            case h7 => (intro w hSw; (try dsimp only at hSw); go_simp; try with_reducible rfl)
            try simp only [Act.put, List.setIfInBounds_toArray, List.set_cons_zero, List.set_cons_succ]
            refine wpAnyH_done (by kernel_rfl) ?_ _
            go_wp2_with fail
            exact ⟨⟨j + 1, some ⟨g7, 0, none⟩, cap7, rfl, by go_num, by omega, HB7, HG7⟩, by simp [intOf]; omega⟩
          · have hje : j = M.length := by omega
            subst hje
            have HE := (show Hid _ from HFN.out ua uc wr HW.out HG.out)
            clear HW HG HMV HFN
            go_wp2_with fail
            go_ret3
            exact HE.out
end Go.Proofs.Ytbgoikaelmacbaa
