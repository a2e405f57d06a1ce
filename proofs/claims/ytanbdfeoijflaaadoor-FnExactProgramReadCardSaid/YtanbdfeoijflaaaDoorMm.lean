import Derived.Test.YtanbdfeoijflaaaDoorMl
/-! Reading a program: a line, by the program. -/
namespace Go.Proofs.YtanbdfeoijflaaaDoor
open Go.RowKit Go.Deep
set_option linter.unusedVariables false
set_option maxRecDepth 100000
set_option linter.unusedSimpArgs false

theorem ne_bytes {a b : ByteArray} (h : ¬ a = b) : (a.toList == b.toList) = false := by
  rw [beq_eq_false_iff_ne]
  intro e
  rw [ByteArray.toList_eq, ByteArray.toList_eq] at e
  exact h (ByteArray.ext (Array.toList_inj.mp e))
theorem grown_bel {w w' : World} {p : Nat} (hb : Below w.heap.size w w') : w.grownBy w' (some p) := ⟨hb.os, hb.tape, hb.output, hb.size, fun i hi _ => hb.block i hi⟩
theorem nums51 (ws : List (List UInt8)) (k p : Nat) (v u : Value) (w : World) (h : WdL w v ws) (hp : PtL w p (nmL k) u) (hbx : Box w p 38 [.int .i64 (k : Nat), .int .i64 (0 : Nat), .int .i64 (0 : Nat)]) :
    Calls Tryd.prog 51 #[v, u] w fun e w' => ∃ (m q : Nat) (b : Bool), e = .returned (.bool b) ∧ w.grownBy w' (some p) ∧ Box w' p 38 [.int .i64 (k : Nat), .int .i64 (m : Nat), .int .i64 (q : Nat)] ∧ (b = true → rdw k ws = some ⟨(k : Nat), (m : Nat), (q : Nat)⟩) ∧ (b = false → rdw k ws = none) := by
  by_cases hc : ws.length = (nmL k).length ∧ (ws.all fun x => numB (bs x)) = true
  · refine (nums51_yes ws (nmL k) k p v u w h hp (fun j hj => nmL_mem hj) hbx (nmL_len k) hc.1 hc.2).mono ?_
    rintro e w' ⟨rfl, hg, hb⟩
    exact ⟨_, _, true, rfl, hg, hb, fun _ => (by unfold rdw; rw [if_pos hc]), fun h => (by cases h)⟩
  · refine (nums51_no ws (nmL k) p v u w h hp (nmL_len k) hc).mono ?_
    rintro e w' ⟨rfl, hb⟩
    exact ⟨0, 0, false, rfl, grown_bel hb, hbx.still hb, fun h => (by cases h), fun _ => (by unfold rdw; rw [if_neg hc])⟩
theorem words_rest (g n N : Nat) (hn : n ≤ 1000000000) (hN : n + 1 = N) : ∃ pa : Option Addr, (0 < n → pa = some ⟨g, 1, none⟩) ∧ ∀ w : World, (Instr.slice 68 (.slice (some ⟨g, 0, none⟩) N N) (some (.int .i64 1)) none none).run Tryd.prog w = .ok (.slice pa n n) w := by
  subst hN
  have hr := fun w : World => run_slice_l (P := Tryd.prog) w 68 (some ⟨g, 0, none⟩) (n + 1) (n + 1) (by exact Tryd.underlying68) .i64 1 (by decide) (by omega)
  by_cases h1 : n = 0
  · refine ⟨some ⟨g, 0, none⟩, fun h => by omega, fun w => ?_⟩
    rw [hr w]
    subst h1
    simp [go_sem]
  · refine ⟨some ⟨g, 1, none⟩, fun _ => rfl, fun w => ?_⟩
    rw [hr w]
    simp [go_sem, h1]
theorem box46 (w : World) : (Instr.box 46 (.agg tbA)).run Tryd.prog w = .ok (.pointer (some ⟨w.heap.size, 0, none⟩)) (w.alloc (.cells tbA 46)) := by
  have e : (Value.agg tbA).cells = tbA := by kernel_rfl
  unfold Instr.box newVar
  rw [e]
  simp [newRow, go_sem]
/-- What stands while the rows are gone through. -/
structure RiF (g N : Nat) (pa : Option Addr) (w0 : List UInt8) (ws : List (List UInt8)) (W : World) : Prop where
  tb : TbL W g
  bx : Box W (g + 1) 38 [.int .i64 0, .int .i64 0, .int .i64 0]
  cw : W.cell? ⟨g + 1 + 1, 0, none⟩ = some (.string (bs w0))
  wd : WdL W (.slice pa N N) ws
theorem RiF.still {g N : Nat} {pa : Option Addr} {w0 : List UInt8} {ws : List (List UInt8)} {W W' : World} (h : RiF g N pa w0 ws W) (hb : Below W.heap.size W W') : RiF g N pa w0 ws W' :=
  ⟨h.tb.still hb, h.bx.still hb, (hb.cell (lt_of_cell h.cw)).trans h.cw, h.wd.still hb⟩
theorem spl_le (c : UInt8) : ∀ s : List UInt8, (spl c s).length ≤ s.length + 1 ∧ ∀ x ∈ spl c s, x.length ≤ s.length
  | [] => ⟨by simp [spl], by simp [spl]⟩
  | b :: s => by
    obtain ⟨h1, h2⟩ := spl_le c s
    have h4 : spl c (b :: s) = if b = c then [] :: spl c s else (b :: (spl c s).headD []) :: (spl c s).tail := rfl
    rw [h4]
    cases hsp : spl c s with
    | nil => exact absurd hsp (spl_ne c s)
    | cons x r =>
      rw [hsp] at h1 h2
      have h3 := h2 x (by simp)
      split
      · refine ⟨by simp at h1 ⊢; omega, fun y hy => ?_⟩
        rcases List.mem_cons.1 hy with rfl | hy
        · exact Nat.zero_le _
        · have := h2 y hy
          simp
          omega
      · refine ⟨by simp at h1 ⊢; omega, fun y hy => ?_⟩
        rcases List.mem_cons.1 hy with rfl | hy
        · simp
          omega
        · have := h2 y (List.mem_cons_of_mem _ hy)
          simp
          omega
theorem Box.set3 {w : World} {g : Nat} {x y z : Value} (h : Box w g 38 [x, y, z]) (a b c : Value) : Box (((w.setCell ⟨g, 0, none⟩ a).setCell ⟨g, 1, none⟩ b).setCell ⟨g, 2, none⟩ c) g 38 [a, b, c] := ((h.set 0 a).set 1 b).set 2 c
theorem bel_set3 {B g : Nat} {w W : World} (hb : Below B w W) (hg : B ≤ g) (a b c : Value) : Below B w (((W.setCell ⟨g, 0, none⟩ a).setCell ⟨g, 1, none⟩ b).setCell ⟨g, 2, none⟩ c) :=
  ⟨hb.os, hb.tape, hb.output, by have := hb.size; simpa using this, fun k hk => by
    have hne : ¬ k = g := by omega
    rw [blk_setCell_other _ _ _ _ hne, blk_setCell_other _ _ _ _ hne, blk_setCell_other _ _ _ _ hne]
    exact hb.block k hk⟩
/-- What readIns leaves. -/
def RiA (s : List UInt8) (w : World) (e : Ending) (w' : World) : Prop :=
  ∃ (x : DIns) (b : Bool), e = .returned (.tuple #[.agg #[.int .i64 x.op, .int .i64 x.n, .int .i64 x.to_], .bool b]) ∧ Below w.heap.size w w' ∧ (b = true → rdl s = some x) ∧ (b = false → rdl s = none)
set_option maxHeartbeats 6400000 in
theorem readIns24 (s : List UInt8) (hs : s.length ≤ 400000) (w : World) (hm : MxL w) :
    Calls Tryd.prog 24 #[.agg tbA, .string (bs s)] w (RiA s w) := by
  obtain ⟨w0, ws, hsp⟩ : ∃ w0 ws, spl 32 s = w0 :: ws := by
    cases e : spl 32 s with
    | nil => exact absurd e (spl_ne 32 s)
    | cons a b => exact ⟨a, b, rfl⟩
  obtain ⟨hl1, hl2⟩ := spl_le 32 s
  rw [hsp] at hl1 hl2
  obtain ⟨n, hn⟩ : ∃ n, ws.length = n := ⟨_, rfl⟩
  obtain ⟨N, hN⟩ : ∃ N, n + 1 = N := ⟨_, rfl⟩
  have hn9 : n ≤ 400000 := by simp at hl1; omega
  obtain ⟨pa, hpa, hsl⟩ := words_rest (w.heap.size + 1 + 1) n N (by omega) hN
  have hbx := box46
  have HSP := (show Hid (Calls Tryd.prog 50 #[.string (bs s), .string ⟨#[32]⟩] ((w.alloc (.cells tbA 46)).alloc (.cells #[.int .i64 0, .int .i64 0, .int .i64 0] 38)) fun e w' => e = .returned (.slice (some ⟨w.heap.size + 1 + 1, 0, none⟩) N N) ∧ Below w.heap.size w w' ∧ RiF w.heap.size n pa w0 ws w' ∧ w.heap.size + 1 + 1 < w'.heap.size) from by
    refine (split50 s _ (by omega) ((hm.still (bel_alloc _ _)).still (bel_alloc _ _))).mono ?_
    rintro e w' ⟨rfl, rfl⟩
    rw [hsp]
    have e1 : (w0 :: ws).length = N := by rw [← hN, ← hn]; rfl
    have e2 : ((w.alloc (.cells tbA 46)).alloc (.cells #[.int .i64 0, .int .i64 0, .int .i64 0] 38)).heap.size = w.heap.size + 1 + 1 := by simp
    rw [e1, e2]
    have t1 := TbL.new w
    have b1 := Box.new (w.alloc (.cells tbA 46)) 38 [.int .i64 0, .int .i64 0, .int .i64 0]
    rw [show (w.alloc (.cells tbA 46)).heap.size = w.heap.size + 1 by simp] at b1
    have t2 := (t1.still (bel_alloc _ (.cells #[.int .i64 0, .int .i64 0, .int .i64 0] 38))).still (bel_alloc _ (.cells ((w0 :: ws).map fun x => Value.string (bs x)).toArray 9))
    have b2 := Box.still b1 (bel_alloc _ (.cells ((w0 :: ws).map fun x => Value.string (bs x)).toArray 9))
    have hh := heap_alloc_last ((w.alloc (.cells tbA 46)).alloc (.cells #[.int .i64 0, .int .i64 0, .int .i64 0] 38)) (.cells ((w0 :: ws).map fun x => Value.string (bs x)).toArray 9)
    rw [e2] at hh
    refine ⟨rfl, bel3 w _ _ _, ⟨t2, b2, ?_, ?_⟩, by simp⟩
    · rw [cell_of_row _ _ 0 _ _ _ hh]
      simp
    · refine ⟨⟨pa, w.heap.size + 1 + 1, 1, n, by rw [hn], by omega, by omega, fun h0 => hpa (by omega), fun i hi => ?_⟩, fun i hi => ?_⟩
      · rw [cell_of_row _ _ _ _ _ _ hh]
        simp [Nat.add_comm 1 i, hi]
      · have := hl2 ws[i] (List.mem_cons_of_mem _ (List.getElem_mem hi))
        omega)
  have HW := (show Hid (∀ k, fwk w0 = some k → rdl s = rdw k ws) from fun k h => rdl_k hsp h)
  have HWN := (show Hid (fwk w0 = none → rdl s = none) from fun h => rdl_w hsp h)
  have hN1 : 1 ≤ N := by omega
  clear hl1 hl2 hn hpa hsp hm hN
  generalize bs s = sX at *
  go_enter Tryd.func24, Tryd.ntmps24
  go_wp2_with fail
  refine Calls.mono HSP.out ?_
  rintro e w4 ⟨rfl, hb4, hf4, hz4⟩
  have HF4 := (show Hid (∀ W', Below w4.heap.size w4 W' → RiF w.heap.size n pa w0 ws W' ∧ Below w.heap.size w W' ∧ w.heap.size + 1 + 1 < W'.heap.size) from fun W' hb => ⟨hf4.still hb, hb4.trans (hb.mono hb4.size), by have := hb.size; omega⟩)
  clear hb4 hf4 hz4 HSP hbx
  go_wp2_with fail
  go_loopw [7] (fun i wr => ∃ j : Nat, i = .int .i64 (j : Nat) ∧ 1 ≤ j ∧ j ≤ 11 ∧ Hid (Below w4.heap.size w4 wr ∧ ∀ k, 1 ≤ k → k < j → (rwS k).data.toList ≠ w0)) (fun i _ => 11 - (RowKit.intOf i).toNat)
  case atStart => exact ⟨1, rfl, Nat.le_refl _, by omega, Below.refl _ _, fun k h1 h2 => absurd h2 (by omega)⟩
  case round =>
    obtain ⟨j, rfl, hj1, hj11, HJ⟩ := hrel
    by_cases hlt : j ≤ 10
    · obtain ⟨hf, hbw, hzw⟩ := HF4.out wr HJ.out.1
      obtain ⟨r0, r1, r2, r3, r4⟩ := hf.tb.row j hlt
      have hj11' : (j : Int) < 11 := by omega
      have hN0 : (0 : Int) < (N : Int) := by omega
      have cw := hf.cw
      have z0 := hf.bx.cell 0 (by simp)
      by_cases heq : (rwS j).data.toList = w0
      · have hq : ((rwS j).toList == (bs w0).toList) = true := by
          rw [show rwS j = bs w0 from by rw [← heq]; rfl]
          simp
        have HRD := (show Hid (rdl s = rdw j ws) from HW.out j (fwk_of hj1 hlt heq))
        clear heq
        have HR := (show Hid (RiF w.heap.size n pa w0 ws wr ∧ Below w.heap.size w wr ∧ w.heap.size + 1 + 1 < wr.heap.size) from ⟨hf, hbw, hzw⟩)
        clear hf hbw hzw z0
        generalize hsR : rwS j = sR at *
        generalize hsW : bs w0 = sW at *
        go_wp2_with fail
        go_quiet (fail)
        have hb5 := bel_drewN (Below.refl wr.heap.size wr) nq
        have HR5 := (show Hid (RiF w.heap.size n pa w0 ws (wr.drewN nq) ∧ Below w.heap.size w (wr.drewN nq) ∧ w.heap.size + 1 + 1 < (wr.drewN nq).heap.size) from ⟨HR.out.1.still hb5, HR.out.2.1.trans (hb5.mono HR.out.2.1.size), by have := hb5.size; have := HR.out.2.2; omega⟩)
        clear hb5 HR r0 r1 r2 r3 r4 cw
        generalize wr.drewN nq = w5 at *
        clear HJ HF4
        clear wr
        have hb6 := bel_alloc w5 (.cells #[.int .i64 (j : Nat), .int .i64 0, .int .i64 0] 38)
        have hf6 := HR5.out.1.still hb6
        have bx6 := Box.new w5 38 [.int .i64 (j : Nat), .int .i64 0, .int .i64 0]
        have hb6w : Below w.heap.size w (w5.alloc (.cells #[.int .i64 (j : Nat), .int .i64 0, .int .i64 0] 38)) := HR5.out.2.1.trans (hb6.mono HR5.out.2.1.size)
        have hpz := HR5.out.2.2
        have hpl := bx6.lt
        obtain ⟨r0, r1, r2, r3, r4⟩ := hf6.tb.row j hlt
        rw [hsR] at r0
        have H46 := (show Hid (∀ W', Below (w5.alloc (.cells #[.int .i64 (j : Nat), .int .i64 0, .int .i64 0] 38)).heap.size (w5.alloc (.cells #[.int .i64 (j : Nat), .int .i64 0, .int .i64 0] 38)) W' → Calls Tryd.prog 46 #[.agg #[.string sR, rwN j, .bool (htB j), .bool (!gsB j), rwD j], .pointer (some ⟨w5.heap.size, 0, none⟩)] W' fun e w' => ∃ v, e = .returned v ∧ Below (w5.alloc (.cells #[.int .i64 (j : Nat), .int .i64 0, .int .i64 0] 38)).heap.size (w5.alloc (.cells #[.int .i64 (j : Nat), .int .i64 0, .int .i64 0] 38)) w' ∧ PtL w' w5.heap.size (nmL j) v) from fun W' hb => by
          refine (numbers46 j w5.heap.size sR (!gsB j) (rwD j) W').mono ?_
          rintro e w' ⟨v, rfl, hb', hp⟩
          exact ⟨v, rfl, hb.trans (hb'.mono hb.size), hp⟩)
        have H51 := (show Hid (∀ W' v, Below (w5.alloc (.cells #[.int .i64 (j : Nat), .int .i64 0, .int .i64 0] 38)).heap.size (w5.alloc (.cells #[.int .i64 (j : Nat), .int .i64 0, .int .i64 0] 38)) W' → PtL W' w5.heap.size (nmL j) v → Calls Tryd.prog 51 #[.slice pa n n, v] W' fun e w' => ∃ (m q : Nat) (b : Bool), e = .returned (.bool b) ∧ Box w' w5.heap.size 38 [.int .i64 (j : Nat), .int .i64 (m : Nat), .int .i64 (q : Nat)] ∧ Box w' (w.heap.size + 1) 38 [.int .i64 0, .int .i64 0, .int .i64 0] ∧ Below w.heap.size w w' ∧ (b = true → rdl s = some ⟨(j : Nat), (m : Nat), (q : Nat)⟩) ∧ (b = false → rdl s = none)) from fun W' v hb hp => by
          refine (nums51 ws j w5.heap.size (.slice pa n n) v W' (hf6.wd.still hb) hp (bx6.still hb)).mono ?_
          rintro e w' ⟨m, q, b, rfl, hg, hbx, h1, h2⟩
          have hbx0 := hf6.bx.still hb
          refine ⟨m, q, b, rfl, hbx, hbx0.keep (hg.block _ hbx0.lt (fun e => by have := Option.some.inj e; omega)), ?_, ?_, ?_⟩
          · have hbw := hb6w.trans (hb.mono hb6w.size)
            exact hbw.grown hg hbw.size (fun k hk => by have := Option.some.inj hk; omega)
          · intro e; rw [HRD.out]; exact h1 e
          · intro e; rw [HRD.out]; exact h2 e)
        have HBD := (show Hid (Below (w5.alloc (.cells #[.int .i64 (j : Nat), .int .i64 0, .int .i64 0] 38)).heap.size (w5.alloc (.cells #[.int .i64 (j : Nat), .int .i64 0, .int .i64 0] 38)) (w5.alloc (.cells #[.int .i64 (j : Nat), .int .i64 0, .int .i64 0] 38)).drew) from (Below.refl _ _).drew)
        clear hb6 hf6 bx6 hb6w hpl hpz HRD HR5 HW HWN
        go_wp2_with fail
        generalize rwN j = vB at *
        generalize rwD j = vD at *
        generalize htB (j : Int) = vA at *
        generalize (!gsB (j : Int)) = vM at *
        go_region_with (first | (go_at_call 51; refine Calls.mono (H51.out _ _ hb7 hp7) ?_; rintro e w8 ⟨m, q, b, rfl, bx8, bz8, hb8, hy8, hn8⟩) | (go_at_call 46; refine Calls.mono (H46.out _ HBD.out) ?_; rintro e w7 ⟨v7, rfl, hb7, hp7⟩))
        all_goals (
          have c0 := bx8.cell 0 (by simp)
          have c1 := bx8.cell 1 (by simp)
          have c2 := bx8.cell 2 (by simp)
          have d0 := bz8.cell 0 (by simp)
          have d1 := bz8.cell 1 (by simp)
          have d2 := bz8.cell 2 (by simp)
          have f0 := bz8.frozen 0
          have f1 := bz8.frozen 1
          have f2 := bz8.frozen 2
          have q3 := bz8.set3 (.int .i64 (j : Nat)) (.int .i64 (m : Nat)) (.int .i64 (q : Nat))
          have Z0 := q3.cell 0 (by simp)
          have Z1 := q3.cell 1 (by simp)
          have Z2 := q3.cell 2 (by simp)
          simp only [List.getD_cons_zero, List.getD_cons_succ] at c0 c1 c2 d0 d1 d2 Z0 Z1 Z2
          have HE := (show Hid (Below w.heap.size w w8 ∧ (b = true → rdl s = some ⟨(j : Nat), (m : Nat), (q : Nat)⟩) ∧ (b = false → rdl s = none)) from ⟨hb8, hy8, hn8⟩)
          clear q3 bx8 bz8 hb8 hy8 hn8 H46 H51 hb7 hp7 r0 r1 r2 r3 r4
          go_wp2_with fail
          refine bodyPost_ret (v := .tuple #[.agg #[.int .i64 (j : Nat), .int .i64 (m : Nat), .int .i64 (q : Nat)], .bool b]) (by simp [results, Tryd.results24, go_sem, Z0, Z1, Z2]) rfl ?_
          exact ⟨⟨(j : Nat), (m : Nat), (q : Nat)⟩, b, rfl, bel_set3 HE.out.1 (by omega) _ _ _, HE.out.2.1, HE.out.2.2⟩)
      · have hq : ((rwS j).toList == (bs w0).toList) = false := ne_bytes (fun e => heq (by rw [e]; simp [bs]))
        have HN := (show Hid (Below w4.heap.size w4 wr ∧ ∀ k, 1 ≤ k → k < j + 1 → (rwS k).data.toList ≠ w0) from ⟨HJ.out.1, fun k h1 h2 => by
          by_cases e : k = j
          · subst e; exact heq
          · exact HJ.out.2 k h1 (by omega)⟩)
        clear hf hbw hzw z0 heq r1 r2 r3 r4
        generalize rwS j = sR at *
        generalize bs w0 = sW at *
        go_wp2_with fail
        go_quiet (fail)
        go_wp2_with fail
        exact ⟨⟨j + 1, by go_num, by omega, by omega, HN.out.1.trans ⟨rfl, rfl, rfl, Nat.le_refl _, fun _ _ => rfl⟩, HN.out.2⟩, by simp [RowKit.intOf]; omega⟩
    · obtain rfl : j = 11 := by omega
      have HB := (show Hid _ from HF4.out wr HJ.out.1)
      have hfz := HWN.out (fwk_none (fun k h1 h2 => HJ.out.2 k h1 (by omega)))
      have HZ := (show Hid _ from hfz)
      have bx := HB.out.1.bx
      have c0 := bx.cell 0 (by simp)
      have c1 := bx.cell 1 (by simp)
      have c2 := bx.cell 2 (by simp)
      have f0 := bx.frozen 0
      have f1 := bx.frozen 1
      have f2 := bx.frozen 2
      simp only [List.getD_cons_zero, List.getD_cons_succ] at c0 c1 c2
      clear hfz
      have q3 := bx.set3 (.int .i64 0) (.int .i64 0) (.int .i64 0)
      have Z0 := q3.cell 0 (by simp)
      have Z1 := q3.cell 1 (by simp)
      have Z2 := q3.cell 2 (by simp)
      simp only [List.getD_cons_zero, List.getD_cons_succ] at Z0 Z1 Z2
      clear q3 bx
      go_wp2_with fail
      refine bodyPost_ret (v := .tuple #[.agg #[.int .i64 0, .int .i64 0, .int .i64 0], .bool false]) (by simp [results, Tryd.results24, go_sem, Z0, Z1, Z2]) rfl ?_
      exact ⟨⟨0, 0, 0⟩, false, rfl, bel_set3 HB.out.2.1 (by omega) _ _ _, fun h => (by cases h), fun _ => HZ.out⟩
end Go.Proofs.YtanbdfeoijflaaaDoor
