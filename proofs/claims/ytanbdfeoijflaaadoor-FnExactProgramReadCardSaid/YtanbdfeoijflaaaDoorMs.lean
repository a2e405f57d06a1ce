import Derived.Test.YtanbdfeoijflaaaDoorMr
/-! Reading a program: a line, by the specification. -/
namespace Go.Proofs.YtanbdfeoijflaaaDoor
open Go.RowKit Go.Deep
set_option linter.unusedVariables false
set_option maxRecDepth 100000
set_option linter.unusedSimpArgs false

/-- What stands while a line is read: the box of what is answered. -/
structure RlF (w W : World) : Prop where
  bx : Box W w.heap.size 38 [.int .i64 0, .int .i64 0, .int .i64 0]
  bel : Below w.heap.size w W
theorem RlF.still {w W W' : World} (h : RlF w W) (hb : Below W.heap.size W W') : RlF w W' := ⟨h.bx.still hb, h.bel.trans (hb.mono h.bel.size)⟩
/-- What stands once an instruction is made of the numbers. -/
structure RlG (w wn W : World) (p k n t : Nat) : Prop where
  bz : Box W w.heap.size 38 [.int .i64 0, .int .i64 0, .int .i64 0]
  bp : Box W p 38 [.int .i64 (k : Nat), .int .i64 (n : Nat), .int .i64 (t : Nat)]
  bw : Below w.heap.size w W
  bn : Below wn.heap.size wn W
  np : w.heap.size < p
  pn : wn.heap.size ≤ p
theorem bel_put {B g o : Nat} {w W : World} (hb : Below B w W) (hg : B ≤ g) (a : Value) : Below B w (W.setCell ⟨g, o, none⟩ a) :=
  ⟨hb.os, hb.tape, hb.output, by have := hb.size; simpa using this, fun k hk => by
    rw [blk_setCell_other _ _ _ _ (by show ¬ k = g; omega)]
    exact hb.block k hk⟩
theorem RlG.set1 {w wn W : World} {p k n t : Nat} (h : RlG w wn W p k n t) (x : Nat) : RlG w wn (W.setCell ⟨p, 1, none⟩ (.int .i64 (x : Nat))) p k x t :=
  ⟨h.bz.past (by have := h.np; omega), h.bp.set 1 _, bel_put h.bw (by have := h.np; omega) _, bel_put h.bn h.pn _, h.np, h.pn⟩
theorem RlG.set2 {w wn W : World} {p k n t : Nat} (h : RlG w wn W p k n t) (x : Nat) : RlG w wn (W.setCell ⟨p, 2, none⟩ (.int .i64 (x : Nat))) p k n x :=
  ⟨h.bz.past (by have := h.np; omega), h.bp.set 2 _, bel_put h.bw (by have := h.np; omega) _, bel_put h.bn h.pn _, h.np, h.pn⟩
theorem RlG.still {w wn W W' : World} {p k n t : Nat} (h : RlG w wn W p k n t) (hb : Below W.heap.size W W') : RlG w wn W' p k n t :=
  ⟨h.bz.still hb, h.bp.still hb, h.bw.trans (hb.mono h.bw.size), h.bn.trans (hb.mono h.bn.size), h.np, h.pn⟩
theorem RlG.new {w wn W : World} (h : RlF w W) (hn : Below wn.heap.size wn W) (k n t : Nat) : RlG w wn (W.alloc (.cells #[.int .i64 (k : Nat), .int .i64 (n : Nat), .int .i64 (t : Nat)] 38)) W.heap.size k n t :=
  ⟨(h.still (bel_alloc _ _)).bx, Box.new W 38 _, (h.still (bel_alloc _ _)).bel, hn.trans ((bel_alloc W _).mono hn.size), h.bx.lt, hn.size⟩
theorem RlG.cp {w wn W : World} {p k n t : Nat} (h : RlG w wn W p k n t) : W.cell? ⟨p, 0, none⟩ = some (.int .i64 (k : Nat)) ∧ W.cell? ⟨p, 1, none⟩ = some (.int .i64 (n : Nat)) ∧ W.cell? ⟨p, 2, none⟩ = some (.int .i64 (t : Nat)) ∧ W.frozen? ⟨p, 1, none⟩ = false ∧ W.frozen? ⟨p, 2, none⟩ = false :=
  ⟨h.bp.cell 0 (by simp), h.bp.cell 1 (by simp), h.bp.cell 2 (by simp), h.bp.frozen 1, h.bp.frozen 2⟩
/-- What is read so far in a word. -/
structure DgS (x : List UInt8) (k n : Nat) : Prop where
  n : n = vlN (x.take k)
  d : ∀ b ∈ x.take k, digB (b.toNat : Int) = true
theorem DgS.start (x : List UInt8) : DgS x 0 0 := ⟨rfl, by simp⟩
theorem DgS.next {x : List UInt8} {k n : Nat} (h : DgS x k n) (hk : k < x.length) (hd : digB (x[k].toNat : Int) = true) : DgS x (k + 1) (n * 10 + (x[k].toNat - 48)) := by
  refine ⟨?_, fun b hb => ?_⟩
  · rw [List.take_succ_eq_append_getElem hk, vl_snoc, ← h.n]
  · rw [List.take_succ_eq_append_getElem hk] at hb
    rcases List.mem_append.1 hb with hb | hb
    · exact h.d b hb
    · rw [List.mem_singleton.1 hb]
      exact hd
theorem DgS.bound {x : List UInt8} {k n : Nat} (h : DgS x k n) (h6 : x.length ≤ 6) (hk : k ≤ x.length) : n ≤ 999999 := by
  have hl : (x.take k).length = k := by simp; omega
  by_cases h0 : k = 0
  · rw [h.n, h0]
    exact Nat.zero_le _
  · rw [h.n]
    exact vl_bound ⟨⟨by omega, by omega⟩, h.d⟩
/-- The numbers of the words so far. -/
structure NsS (wds : List (List UInt8)) (j : Nat) (ns : List Nat) : Prop where
  e : ns = (wds.tail.take (j - 1)).map vlN
  b : ∀ x ∈ ns, x ≤ 999999
  j1 : 1 ≤ j
  jl : j ≤ wds.length
theorem NsS.len {wds : List (List UInt8)} {j : Nat} {ns : List Nat} (h : NsS wds j ns) : ns.length = j - 1 := by
  rw [h.e]
  have := h.j1
  have := h.jl
  simp
  omega
theorem NsS.next {wds : List (List UInt8)} {j n : Nat} {ns : List Nat} (h : NsS wds j ns) (hj : j < wds.length) (hd : dgW wds[j]) (hn : DgS wds[j] wds[j].length n) : NsS wds (j + 1) (ns ++ [n]) := by
  have h1 := h.j1
  have hn2 : n = vlN wds[j] := by have := hn.n; rw [List.take_length] at this; exact this
  refine ⟨?_, fun x hx => ?_, by omega, by omega⟩
  · rw [show j + 1 - 1 = (j - 1) + 1 by omega, List.take_succ_eq_append_getElem (by simp; omega), List.map_append, ← h.e, hn2]
    congr 2
    simp only [List.map_cons, List.map_nil, List.getElem_tail]
    congr 3
    omega
  · rcases List.mem_append.1 hx with hx | hx
    · exact h.b x hx
    · rw [List.mem_singleton.1 hx, hn2]
      exact vl_bound hd
theorem NsS.done {wds : List (List UInt8)} {ns : List Nat} (h : NsS wds wds.length ns) : wds.tail.map vlN = ns := by
  rw [h.e, List.take_of_length_le (by simp)]
set_option maxHeartbeats 12800000 in
/-- The specification's line, read. -/
theorem readLine22A (s : List UInt8) (sX : ByteArray) (hsz : sX.size = s.length) (hg : ∀ j (hj : j < s.length) (hj2 : j < sX.size), sX[j] = s[j])
    (hslA : ∀ a b w', a ≤ b → b ≤ s.length → (Instr.slice 9 (.string sX) (some (.int .i64 (a : Nat))) (some (.int .i64 (b : Nat))) none).run Tryd.prog w' = .ok (.string (bs ((s.drop a).take (b - a)))) w')
    (heqA : ∀ x : List UInt8, ((bs x).toList == sX.toList) = decide (x = s)) (hs : s.length ≤ 400000) (w : World) : Calls Tryd.prog 22 #[.string sX] w (RiA s w) := by
  have HSL := (show Hid (∀ a b w', a ≤ b → b ≤ s.length → (Instr.slice 9 (.string sX) (some (.int .i64 (a : Nat))) (some (.int .i64 (b : Nat))) none).run Tryd.prog w' = .ok (.string (bs ((s.drop a).take (b - a)))) w') from hslA)
  have HG := (show Hid (∀ j (hj : j < s.length) (hj2 : j < sX.size), sX[j] = s[j]) from hg)
  have HSZ := (show Hid (sX.size = s.length) from hsz)
  have hL : sX.size ≤ 400000 := by rw [hsz]; exact hs
  have HEQ := (show Hid (∀ x : List UInt8, ((bs x).toList == sX.toList) = decide (x = s)) from heqA)
  clear hslA hg hsz heqA hs
  have H1 := (show Hid (RlF w (w.alloc (.cells #[.int .i64 0, .int .i64 0, .int .i64 0] 38)) ∧ WA (w.heap.size + 1) (w.alloc (.cells #[.int .i64 0, .int .i64 0, .int .i64 0] 38)) ((w.alloc (.cells #[.int .i64 0, .int .i64 0, .int .i64 0] 38)).alloc (.cells #[] 9)) (.slice (some ⟨w.heap.size + 1, 0, none⟩) 0 0) []) from by
    have e : (w.alloc (.cells #[.int .i64 0, .int .i64 0, .int .i64 0] 38)).heap.size = w.heap.size + 1 := by simp
    have h := WA.new (Below.refl (w.heap.size + 1) (w.alloc (.cells #[.int .i64 0, .int .i64 0, .int .i64 0] 38))) (by omega)
    rw [e] at h
    exact ⟨⟨Box.new w 38 _, bel_alloc _ _⟩, h⟩)
  go_enter Tryd.func22, Tryd.ntmps22
  go_wp2_with fail
  obtain ⟨W1, hW1⟩ : ∃ W, (w.alloc (.cells #[.int .i64 0, .int .i64 0, .int .i64 0] 38)) = W := ⟨_, rfl⟩
  have HW1 := (show Hid (W1.heap.size = w.heap.size + 1) from by rw [← hW1]; show (w.alloc _).heap.size = _; simp)
  rw [hW1] at H1 ⊢
  clear hW1
  go_loopw [4, 5, 6] (fun u4 u5 u6 wr => ∃ (wds : List (List UInt8)) (fr i : Nat) (ta : Option Addr) (tc : Nat), u4 = .slice ta wds.length tc ∧ u5 = .int .i64 (fr : Nat) ∧ u6 = .int .i64 (i : Nat) ∧ i ≤ sX.size + 1 ∧ Hid (WSo s wds fr i ∧ WA (w.heap.size + 1) W1 wr (.slice ta wds.length tc) wds)) (fun _ _ u6 _ => sX.size + 1 - (RowKit.intOf u6).toNat)
  case atStart => exact ⟨[], 0, 0, _, _, rfl, rfl, rfl, by omega, WSo.start s, H1.out.2⟩
  case round =>
    obtain ⟨wds, fr, i, ta, tc, rfl, rfl, rfl, hi, HJ⟩ := hrel
    obtain ⟨hso, hwa⟩ := HJ.out
    clear HJ
    have HSO := (show Hid (WSo s wds fr i) from hso)
    have HWA := (show Hid (WA (w.heap.size + 1) W1 wr (.slice ta wds.length tc) wds) from hwa)
    by_cases hle : i ≤ sX.size
    · have hfr : fr ≤ i := hso.le
      have hwl : wds.length ≤ i := hso.len
      have hslc := HSL.out fr i
      have HSLC := (show Hid (∀ w', (Instr.slice 9 (.string sX) (some (.int .i64 (fr : Nat))) (some (.int .i64 (i : Nat))) none).run Tryd.prog w' = .ok (.string (bs ((s.drop fr).take (i - fr)))) w') from fun w' => hslc w' hfr (by have := HSZ.out; omega))
      clear hslc
      have HAP := (show Hid (∃ a8 c8 w8, (Builtin.append_ #[68, 68] 68 #[.slice ta wds.length tc, .slice (some ⟨wr.heap.size, 0, none⟩) 1 1]).run Tryd.prog (wr.alloc (.cells #[.string (bs ((s.drop fr).take (i - fr)))] 9)) = .ok (.slice a8 (wds.length + 1) c8) w8 ∧ WA (w.heap.size + 1) W1 w8 (.slice a8 (wds.length + 1) c8) (wds ++ [(s.drop fr).take (i - fr)])) from by
        exact hwa.add _ _ _ (by omega) rfl rfl)
      by_cases heq : i = sX.size
      · have hq : ((i : Int) == (sX.size : Int)) = true := by simp [heq]
        have HN := (show Hid (WSo s (wds ++ [(s.drop fr).take (i - fr)]) (i + 1) (i + 1)) from by
          have e : i = s.length := by have := HSZ.out; omega
          subst e
          exact hso.last)
        clear hso hwa heq
        obtain ⟨a8, c8, w8, hr8, hx8⟩ := HAP.out
        have HR8 := (show Hid _ from hr8)
        have HX8 := (show Hid _ from hx8)
        have HM8 := (show Hid ((wds ++ [(s.drop fr).take (i - fr)]).length = wds.length + 1) from by show _ = _; simp)
        clear hr8 hx8 HAP
        have hslw := HSLC.out
        generalize (s.drop fr).take (i - fr) = pc at *
        generalize bs pc = sP at *
        generalize wds.length = nw at *
        go_wp2_with (first | (at_builtin; refine wpList_append_run _ rfl (.tmp 31) (.tmp 36) 68 68 rfl rfl rfl HR8.out ?_))
        have hm8 := HM8.out
        exact ⟨⟨wds ++ [pc], i + 1, i + 1, a8, c8, by rw [hm8], by go_num, by go_num, by omega, HN.out, by rw [hm8]; exact HX8.out⟩, by simp [RowKit.intOf]; omega⟩
      · have hlt : i < sX.size := by omega
        have hq : ((i : Int) == (sX.size : Int)) = false := by simp; omega
        have hlts : i < s.length := by have := HSZ.out; omega
        have hgi := HG.out i hlts hlt
        by_cases h32 : s[i] = 32
        · have hb : ((sX[i].toNat : Int) == 32) = true := by rw [hgi, h32]; rfl
          have HN := (show Hid (WSo s (wds ++ [(s.drop fr).take (i - fr)]) (i + 1) (i + 1)) from hso.cut hlts h32)
          clear hso hwa heq hgi h32
          obtain ⟨a8, c8, w8, hr8, hx8⟩ := HAP.out
          have HR8 := (show Hid _ from hr8)
          have HX8 := (show Hid _ from hx8)
          have HM8 := (show Hid ((wds ++ [(s.drop fr).take (i - fr)]).length = wds.length + 1) from by show _ = _; simp)
          clear hr8 hx8 HAP
          have hslw := HSLC.out
          generalize (s.drop fr).take (i - fr) = pc at *
          generalize bs pc = sP at *
          generalize wds.length = nw at *
          go_wp2_with (first | (at_builtin; refine wpList_append_run _ rfl (.tmp 31) (.tmp 36) 68 68 rfl rfl rfl HR8.out ?_))
          have hm8 := HM8.out
          exact ⟨⟨wds ++ [pc], i + 1, i + 1, a8, c8, by rw [hm8], by go_num, by go_num, by omega, HN.out, by rw [hm8]; exact HX8.out⟩, by simp [RowKit.intOf]; omega⟩
        · have hb : ((sX[i].toNat : Int) == 32) = false := by
            rw [hgi, beq_eq_false_iff_ne]
            intro e
            exact h32 (UInt8.toNat_inj.1 (by show _ = 32; omega))
          have HN := (show Hid (WSo s wds fr (i + 1)) from hso.skip hlts h32)
          clear hso hwa heq hgi h32 HAP HSLC
          go_wp2_with fail
          exact ⟨⟨wds, fr, i + 1, ta, tc, rfl, rfl, by go_num, by omega, HN.out, HWA.out⟩, by simp [RowKit.intOf]; omega⟩
    · obtain rfl : i = sX.size + 1 := by omega
      have hall : wds = spl 32 s := hso.all (by have := HSZ.out; omega)
      have HAL := (show Hid (wds = spl 32 s) from hall)
      have hnw1 : 1 ≤ wds.length := by
        rw [hall]
        cases e : spl 32 s with
        | nil => exact absurd e (spl_ne 32 s)
        | cons a b => simp
      have HRL := (show Hid (RlF w wr) from by
        have h1 := H1.out.1
        have e := HW1.out
        exact h1.still (hwa.bel.mono (by omega)))
      have hnw9 : wds.length ≤ 500000 := by have := hso.len; omega
      clear hso hall HSO HSL HG
      by_cases h3 : 3 < wds.length
      · have HZ := (show Hid (rdl s = none) from rdl_long (by rw [← HAL.out]; exact h3))
        have hd3 : decide ((3 : Int) < (wds.length : Int)) = true := by simp; omega
        have bx := HRL.out.bx
        have c0 := bx.cell 0 (by simp)
        have c1 := bx.cell 1 (by simp)
        have c2 := bx.cell 2 (by simp)
        have f0 := bx.frozen 0
        have f1 := bx.frozen 1
        have f2 := bx.frozen 2
        simp only [List.getD_cons_zero, List.getD_cons_succ] at c0 c1 c2
        have q3 := bx.set3 (.int .i64 0) (.int .i64 0) (.int .i64 0)
        have Z0 := q3.cell 0 (by simp)
        have Z1 := q3.cell 1 (by simp)
        have Z2 := q3.cell 2 (by simp)
        simp only [List.getD_cons_zero, List.getD_cons_succ] at Z0 Z1 Z2
        clear q3 bx
        clear hwa
        generalize wds.length = nw at *
        go_wp2_with fail
        refine bodyPost_ret (v := .tuple #[.agg #[.int .i64 0, .int .i64 0, .int .i64 0], .bool false]) (by simp [results, Tryd.results22, go_sem, Z0, Z1, Z2]) rfl ?_
        exact ⟨⟨0, 0, 0⟩, false, rfl, bel_set3 HRL.out.bel (Nat.le_refl _) _ _ _, fun h => (by cases h), fun _ => HZ.out⟩
      · have hd3 : decide ((3 : Int) < (wds.length : Int)) = false := by simp; omega
        rename World => wo
        obtain ⟨a9, g9, cp9, he9, hc9, hm9, ha9, hcell9⟩ := hwa.cells
        injection he9 with he91 _ he93
        subst he91 he93
        have HCE := (show Hid (∀ W', Below wo.heap.size wo W' → ∀ i (hi : i < wds.length), ta = some ⟨g9, 0, none⟩ ∧ W'.cell? ⟨g9, i, none⟩ = some (.string (bs wds[i]))) from fun W' hb i hi => ⟨ha9 (by omega), (hb.cell (lt_of_cell (hcell9 i hi))).trans (hcell9 i hi)⟩)
        have HBX := (show Hid (∀ W', Below wo.heap.size wo W' → RlF w W') from fun W' hb => HRL.out.still hb)
        have HI0 := (show Hid (IA wo.heap.size wo (wo.alloc (.cells #[] 3)) (.slice (some ⟨wo.heap.size, 0, none⟩) 0 0) []) from IA.new (Below.refl _ _) (Nat.le_refl _))
        have HN0 := (show Hid (NsS wds 1 []) from ⟨by simp, by simp, Nat.le_refl _, hnw1⟩)
        clear hwa hc9 hm9 ha9 hcell9 HWA
        go_wp2_with fail
        go_loopw [7, 8] (fun u7 u8 wq => ∃ (ns : List Nat) (j : Nat) (na : Option Addr) (nc : Nat), u7 = .slice na ns.length nc ∧ u8 = .int .i64 (j : Nat) ∧ j ≤ wds.length ∧ Hid (NsS wds j ns ∧ IA wo.heap.size wo wq (.slice na ns.length nc) ns)) (fun _ u8 _ => wds.length - (RowKit.intOf u8).toNat)
        case atStart => exact ⟨[], 1, _, _, rfl, rfl, hnw1, HN0.out, HI0.out⟩
        case round =>
          obtain ⟨ns, j, na, nc, rfl, rfl, hj, HJ⟩ := hrel
          by_cases hjl : j < wds.length
          · obtain ⟨rfl, cw⟩ := HCE.out wr HJ.out.2.bel j hjl
            obtain ⟨X, hX⟩ : ∃ X, wds[j] = X := ⟨_, rfl⟩
            have HXE := (show Hid (wds[j] = X) from hX)
            rw [hX] at cw
            clear hX
            have HGW := (show Hid (∀ k (hk : k < X.length) (hk2 : k < (bs X).size), (bs X)[k] = X[k]) from fun k hk hk2 => bs_get X k hk hk2)
            have HZW := (show Hid ((bs X).size = X.length) from bs_size X)
            have HBAD := (show Hid (¬ dgW X → rdl s = none) from fun h => by
              have e := HAL.out
              have hj2 : j < (spl 32 s).length := by rw [← e]; exact hjl
              refine rdl_bad hj2 HJ.out.1.j1 ?_
              have e2 : (spl 32 s)[j] = X := by rw [← HXE.out]; congr 1; exact e.symm
              rw [e2]
              exact h)
            obtain ⟨sW, hsW⟩ : ∃ sW, bs X = sW := ⟨_, rfl⟩
            have HGW2 : Hid (∀ k (hk : k < X.length) (hk2 : k < sW.size), sW[k] = X[k]) := by subst hsW; exact HGW
            rw [hsW] at cw HZW
            clear hsW HGW
            have HBT := (show Hid (∀ w', Calls Tryd.prog 25 #[.int .i64 (sW.size : Nat), .int .i64 1, .int .i64 6] w' fun e w'' => e = .returned (.bool (btB (sW.size : Nat) 1 6)) ∧ w'' = w') from fun w' => bet31 _ _ _ w')
            have HRQ := (show Hid (RlF w wr) from HBX.out wr HJ.out.2.bel)
            cases hbt : btB ((sW.size : Nat) : Int) 1 6
            · rw [hbt] at HBT
              have HZ := (show Hid (rdl s = none) from HBAD.out (fun h => by
                have h1 := HZW.out
                unfold btB at hbt
                simp at hbt
                have := h.1
                omega))
              clear hbt
              have bx := HRQ.out.bx
              have c0 := bx.cell 0 (by simp)
              have c1 := bx.cell 1 (by simp)
              have c2 := bx.cell 2 (by simp)
              have f0 := bx.frozen 0
              have f1 := bx.frozen 1
              have f2 := bx.frozen 2
              simp only [List.getD_cons_zero, List.getD_cons_succ] at c0 c1 c2
              have q3 := bx.set3 (.int .i64 0) (.int .i64 0) (.int .i64 0)
              have Z0 := q3.cell 0 (by simp)
              have Z1 := q3.cell 1 (by simp)
              have Z2 := q3.cell 2 (by simp)
              simp only [List.getD_cons_zero, List.getD_cons_succ] at Z0 Z1 Z2
              clear q3 bx
              go_wp2_with fail
              refine Calls.mono (HBT.out _) ?_
              rintro e w5 ⟨rfl, hw5⟩
              rw [hw5]
              clear hw5 w5
              go_wp2_with fail
              refine bodyPost_ret (v := .tuple #[.agg #[.int .i64 0, .int .i64 0, .int .i64 0], .bool false]) (by simp [results, Tryd.results22, go_sem, Z0, Z1, Z2]) rfl ?_
              exact ⟨⟨0, 0, 0⟩, false, rfl, bel_set3 HRQ.out.bel (Nat.le_refl _) _ _ _, fun h => (by cases h), fun _ => HZ.out⟩
            · rw [hbt] at HBT
              have hsz6 := btB_iff hbt
              have hsz1 : 1 ≤ sW.size := by omega
              have hsz9 : sW.size ≤ 6 := by omega
              clear hbt hsz6
              go_wp2_with fail
              refine Calls.mono (HBT.out _) ?_
              rintro e w5 ⟨rfl, hw5⟩
              rw [hw5]
              clear hw5 w5 HBT
              go_wp2_with fail
              rename World => wp
              go_loopw [9, 10] (fun u9 u10 wz => ∃ (n k : Nat), u9 = .int .i64 (n : Nat) ∧ u10 = .int .i64 (k : Nat) ∧ k ≤ sW.size ∧ Hid (DgS X k n) ∧ wz = wp) (fun _ u10 _ => sW.size - (RowKit.intOf u10).toNat)
              case atStart => exact ⟨0, 0, rfl, rfl, Nat.zero_le _, DgS.start X, rfl⟩
              case round =>
                obtain ⟨n, k, rfl, rfl, hk, HD, rfl⟩ := hrel
                by_cases hkl : k < sW.size
                · have hkx : k < X.length := by have := HZW.out; omega
                  have hgk := HGW2.out k hkx hkl
                  have HDG := (show Hid (∀ w', Calls Tryd.prog 48 #[.int .u8 (sW[k].toNat : Nat)] w' fun e w'' => e = .returned (.bool (digB (sW[k].toNat : Int))) ∧ w'' = w') from fun w' => dig48 sW[k] w')
                  have HD2 := (show Hid (digB (sW[k].toNat : Int) = true → DgS X (k + 1) (n * 10 + (sW[k].toNat - 48))) from fun h => by
                    have h2 := HD.out.next hkx (by rw [← hgk]; exact h)
                    rw [← hgk] at h2
                    exact h2)
                  have HB2 := (show Hid (digB (sW[k].toNat : Int) = false → rdl s = none) from fun h => HBAD.out (fun hw => by
                    have h3 := hw.2 X[k] (List.getElem_mem hkx)
                    rw [← hgk, h] at h3
                    cases h3))
                  have hn9 : n ≤ 999999 := HD.out.bound (by have := HZW.out; omega) (by omega)
                  clear hgk
                  have hc255 : sW[k].toNat < 256 := sW[k].toNat_lt
                  cases hdb : digB (sW[k].toNat : Int)
                  · have HZ := (show Hid (rdl s = none) from HB2.out hdb)
                    rw [hdb] at HDG
                    clear hdb HD2 HB2
                    have bx := HRQ.out.bx
                    have c0 := bx.cell 0 (by simp)
                    have c1 := bx.cell 1 (by simp)
                    have c2 := bx.cell 2 (by simp)
                    have f0 := bx.frozen 0
                    have f1 := bx.frozen 1
                    have f2 := bx.frozen 2
                    simp only [List.getD_cons_zero, List.getD_cons_succ] at c0 c1 c2
                    have q3 := bx.set3 (.int .i64 0) (.int .i64 0) (.int .i64 0)
                    have Z0 := q3.cell 0 (by simp)
                    have Z1 := q3.cell 1 (by simp)
                    have Z2 := q3.cell 2 (by simp)
                    simp only [List.getD_cons_zero, List.getD_cons_succ] at Z0 Z1 Z2
                    clear q3 bx
                    go_wp2_with fail
                    refine Calls.mono (HDG.out _) ?_
                    rintro e w5 ⟨rfl, hw5⟩
                    rw [hw5]
                    clear hw5 w5
                    go_wp2_with fail
                    refine bodyPost_ret (v := .tuple #[.agg #[.int .i64 0, .int .i64 0, .int .i64 0], .bool false]) (by simp [results, Tryd.results22, go_sem, Z0, Z1, Z2]) rfl ?_
                    exact ⟨⟨0, 0, 0⟩, false, rfl, bel_set3 HRQ.out.bel (Nat.le_refl _) _ _ _, fun h => (by cases h), fun _ => HZ.out⟩
                  · have hdr : 48 ≤ sW[k].toNat ∧ sW[k].toNat ≤ 57 := by unfold digB at hdb; simp at hdb; omega
                    have HD3 := HD2.out hdb
                    have HD4 := (show Hid _ from HD3)
                    rw [hdb] at HDG
                    clear hdb HD2 HB2 HD3 HD
                    have kw1 : IntKind.i64.wrap (sW[k].toNat : Int) = (sW[k].toNat : Int) := by rw [IntKind.wrap_i64] <;> omega
                    have kw2 : IntKind.i64.wrap ((n : Int) * 10) = (n : Int) * 10 := by rw [IntKind.wrap_i64] <;> omega
                    have kw3 : IntKind.i64.wrap ((n : Int) * 10 + (sW[k].toNat : Int)) = (n : Int) * 10 + (sW[k].toNat : Int) := by rw [IntKind.wrap_i64] <;> omega
                    have kw4 : IntKind.i64.wrap ((n : Int) * 10 + (sW[k].toNat : Int) - 48) = (n : Int) * 10 + (sW[k].toNat : Int) - 48 := by rw [IntKind.wrap_i64] <;> omega
                    go_wp2_with fail
                    refine Calls.mono (HDG.out _) ?_
                    rintro e w5 ⟨rfl, hw5⟩
                    rw [hw5]
                    clear hw5 w5
                    go_wp2_with fail
                    exact ⟨⟨n * 10 + (sW[k].toNat - 48), k + 1, by rw [show ((n * 10 + (sW[k].toNat - 48) : Nat) : Int) = (n : Int) * 10 + (sW[k].toNat : Int) - 48 from by omega], by go_num, by omega, HD4.out, trivial⟩, by simp [RowKit.intOf]; omega⟩
                · obtain rfl : k = sW.size := by omega
                  have hxl : X.length = sW.size := by have := HZW.out; omega
                  have HDW := (show Hid (dgW X ∧ DgS X X.length n) from by
                    have h := HD.out
                    rw [← hxl] at h
                    refine ⟨⟨by omega, fun b hb => h.d b (by rw [List.take_length]; exact hb)⟩, h⟩)
                  have HN2 := (show Hid (NsS wds (j + 1) (ns ++ [n])) from HJ.out.1.next hjl (by rw [HXE.out]; exact HDW.out.1) (by rw [HXE.out]; exact HDW.out.2))
                  have hnl : ns.length ≤ 500000 := by have := HJ.out.1.len; omega
                  have HAP := (show Hid (∃ a8 c8 w8, (Builtin.append_ #[69, 69] 69 #[.slice na ns.length nc, .slice (some ⟨wr.heap.size, 0, none⟩) 1 1]).run Tryd.prog (wr.alloc (.cells #[.int .i64 (n : Nat)] 3)) = .ok (.slice a8 (ns.length + 1) c8) w8 ∧ IA wo.heap.size wo w8 (.slice a8 (ns.length + 1) c8) (ns ++ [n])) from HJ.out.2.add n _ _ (by omega) rfl rfl)
                  obtain ⟨a8, c8, w8, hr8, hx8⟩ := HAP.out
                  have HR8 := (show Hid _ from hr8)
                  have HX8 := (show Hid _ from hx8)
                  have HM8 := (show Hid ((ns ++ [n]).length = ns.length + 1) from by show _ = _; simp)
                  clear hr8 hx8 HAP hxl HDW HD HJ
                  go_wp2_with (first | (at_builtin; refine wpList_append_run _ rfl (.tmp 88) (.tmp 90) 69 69 rfl rfl rfl HR8.out ?_))
                  have hm8 := HM8.out
                  exact ⟨⟨ns ++ [n], j + 1, a8, c8, by rw [hm8], by go_num, by omega, HN2.out, by rw [hm8]; exact HX8.out⟩, by simp [RowKit.intOf]; omega⟩
          · rename World => wn
            obtain rfl : j = wds.length := by omega
            obtain ⟨hns, hia⟩ := HJ.out
            have HNE := (show Hid ((spl 32 s).tail.map vlN = ns) from by rw [← HAL.out]; exact hns.done)
            have HNB := (show Hid (∀ x ∈ ns, x ≤ 999999) from hns.b)
            have HNG := (show Hid (∀ i, ns.getD i 0 ≤ 999999) from fun i => by
              by_cases hi : i < ns.length
              · rw [List.getD_eq_getElem?_getD, List.getElem?_eq_getElem hi]
                exact hns.b _ (List.getElem_mem hi)
              · rw [List.getD_eq_getElem?_getD, List.getElem?_eq_none (by omega)]
                exact Nat.zero_le _)
            have hnl2 : ns.length ≤ 2 := by have := hns.len; omega
            obtain ⟨a8, g8, cp8, he8, hc8, hm8, ha8, hcell8⟩ := hia.cells
            injection he8 with he81 _ he83
            subst he81 he83
            have HCN := (show Hid (∀ W', Below wn.heap.size wn W' → ∀ i, i < ns.length → na = some ⟨g8, 0, none⟩ ∧ W'.cell? ⟨g8, i, none⟩ = some (.int .i64 (ns.getD i 0 : Nat))) from fun W' hb i hi => by
              refine ⟨ha8 (by omega), (hb.cell (lt_of_cell (hcell8 i hi))).trans ((hcell8 i hi).trans ?_)⟩
              rw [List.getD_eq_getElem?_getD, List.getElem?_eq_getElem hi]
              rfl)
            have HBN := (show Hid (∀ W', Below wn.heap.size wn W' → RlF w W') from fun W' hb => (HBX.out wn hia.bel).still hb)
            clear hns hia hc8 hm8 ha8 hcell8 HJ HBX HCE
            go_wp2_with fail
            go_loopw [11] (fun u11 wq => ∃ (k : Nat), u11 = .int .i64 (k : Nat) ∧ 1 ≤ k ∧ k ≤ 11 ∧ Hid (Below wn.heap.size wn wq ∧ ∀ j, 1 ≤ j → j < k → lnT (opX ns j) ≠ s)) (fun u11 _ => 11 - (RowKit.intOf u11).toNat)
            case atStart => exact ⟨1, rfl, Nat.le_refl _, by omega, Below.refl _ _, fun j h1 h2 => absurd h2 (by omega)⟩
            case round =>
              obtain ⟨k, rfl, hk1, hk11, HJ⟩ := hrel
              by_cases hk10 : k ≤ 10
              · have HGN := (show Hid (∀ n t : Nat, RlG w wn (wr.alloc (.cells #[.int .i64 (k : Nat), .int .i64 (n : Nat), .int .i64 (t : Nat)] 38)) wr.heap.size k n t) from fun n t => RlG.new (HBN.out wr HJ.out.1) HJ.out.1 k n t)
                have HA := (show Hid (∀ w', Calls Tryd.prog 27 #[.int .i64 (k : Nat)] w' fun e w'' => e = .returned (.bool (hnB k)) ∧ w'' = w') from fun w' => hasN33 k w')
                have HT := (show Hid (∀ w', Calls Tryd.prog 26 #[.int .i64 (k : Nat)] w' fun e w'' => e = .returned (.bool (htB k)) ∧ w'' = w') from fun w' => hasTo32 k w')
                by_cases n0 : 0 < ns.length
                · have D0 : decide (0 < ns.length) = true := decide_eq_true n0
                  by_cases n1 : 1 < ns.length
                  · have D1 : decide (1 < ns.length) = true := decide_eq_true n1
                    cases hA : hnB (k : Int)
                    · rw [hA] at HA
                      cases hE : decide ((k : Int) = 10)
                      · have he : ((k : Int) == 10) = false := hE
                        cases hN : htB (k : Int)
                        · rw [hN] at HT
                          have ho : oN ns k = false := by unfold oN; rw [D0, hA, hE]; rfl
                          have ht : oT ns k = false := by unfold oT; rw [ho]; show (decide (0 < ns.length) && htB (k : Int)) = _; rw [D0, hN]; rfl
                          have hox : opX ns k = ⟨(k : Nat), ((0 : Nat) : Int), ((0 : Nat) : Int)⟩ := by unfold opX; rw [ho, ht]; rfl
                          have HLN := (show Hid (∀ w', Calls Tryd.prog 15 #[.agg #[.int .i64 (k : Nat), .int .i64 ((0 : Nat) : Int), .int .i64 ((0 : Nat) : Int)]] w' fun e w'' => e = .returned (.string (bs (lnT (opX ns k)))) ∧ Below w'.heap.size w' w'') from fun w' => by
                            rw [hox]
                            exact line15 _ ⟨⟨by show (1 : Int) ≤ (k : Int); omega, by show (k : Int) ≤ 10; omega⟩, ⟨by show (0 : Int) ≤ ((0 : Nat) : Int); omega, by show ((0 : Nat) : Int) ≤ 1000000; omega⟩, ⟨by show (0 : Int) ≤ ((0 : Nat) : Int); omega, by show ((0 : Nat) : Int) ≤ 1000000; omega⟩⟩ w')
                          have HCM := (show Hid (((bs (lnT (opX ns k))).toList == sX.toList) = decide (lnT (opX ns k) = s)) from HEQ.out _)
                          have HRY := (show Hid (lnT (opX ns k) = s → rdl s = some (opX ns k)) from fun h => rdl_op HNB.out hk1 hk10 h)
                          have HOX := (show Hid _ from hox)
                          have G6 : RlG w wn (wr.alloc (.cells #[.int .i64 (k : Nat), .int .i64 0, .int .i64 0] 38)) wr.heap.size k (0) (0) := HGN.out _ _
                          obtain ⟨p60, p61, p62, f61, f62⟩ := G6.cp
                          have HGF := (show Hid _ from G6)
                          have hki : (k : Int) ≤ 10 := by omega
                          clear ho ht hox G6 HGN HCN hA hE hN D0 D1
                          have hn0i : (0 : Int) < (ns.length : Int) := by omega
                          have hn1i : (1 : Int) < (ns.length : Int) := by omega
                          obtain ⟨OX, hOX⟩ : ∃ OX, opX ns k = OX := ⟨_, rfl⟩
                          rw [hOX] at HLN HCM HRY HOX
                          have HOE := (show Hid (opX ns k = OX) from hOX)
                          clear hOX
                          have HN6 := (show Hid (lnT OX ≠ s → ∀ j, 1 ≤ j → j < k + 1 → lnT (opX ns j) ≠ s) from fun h j h1 h2 => by
                            by_cases e : j = k
                            · subst e; rw [HOE.out]; exact h
                            · exact HJ.out.2 j h1 (by omega))
                          generalize bs (lnT OX) = sQ at *
                          generalize ns.length = nl at *
                          by_cases hls : lnT OX = s
                          · have hcm : (sQ.toList == sX.toList) = true := HCM.out.trans (decide_eq_true hls)
                            have HY := (show Hid _ from HRY.out hls)
                            clear hls HCM HN6 HRY
                            go_wp2_with fail
                            refine Calls.mono (HA.out _) ?_
                            rintro e w5 ⟨rfl, hw5⟩
                            rw [hw5]
                            clear hw5 w5
                            go_wp2_with fail
                            refine Calls.mono (HT.out _) ?_
                            rintro e w5 ⟨rfl, hw5⟩
                            rw [hw5]
                            clear hw5 w5
                            go_wp2_with fail
                            refine Calls.mono (HLN.out _) ?_
                            rintro e w9 ⟨rfl, hb9⟩
                            have G9 := HGF.out.still hb9
                            obtain ⟨p90, p91, p92, f91, f92⟩ := G9.cp
                            have bx := G9.bz
                            have c0 := bx.cell 0 (by simp)
                            have c1 := bx.cell 1 (by simp)
                            have c2 := bx.cell 2 (by simp)
                            have f0 := bx.frozen 0
                            have f1 := bx.frozen 1
                            have f2 := bx.frozen 2
                            simp only [List.getD_cons_zero, List.getD_cons_succ] at c0 c1 c2
                            have q3 := bx.set3 (.int .i64 (k : Nat)) (.int .i64 0) (.int .i64 0)
                            have Z0 := q3.cell 0 (by simp)
                            have Z1 := q3.cell 1 (by simp)
                            have Z2 := q3.cell 2 (by simp)
                            simp only [List.getD_cons_zero, List.getD_cons_succ] at Z0 Z1 Z2
                            have HB9 := (show Hid (Below w.heap.size w w9) from G9.bw)
                            clear q3 bx G9 hb9 HGF
                            go_wp2_with fail
                            refine bodyPost_ret (v := .tuple #[.agg #[.int .i64 (k : Nat), .int .i64 0, .int .i64 0], .bool true]) (by simp [results, Tryd.results22, go_sem, Z0, Z1, Z2]) rfl ?_
                            refine ⟨OX, true, ?_, bel_set3 HB9.out (Nat.le_refl _) _ _ _, fun _ => HY.out, fun h => (by cases h)⟩
                            first | (rw [HOX.out]; done) | (rw [HOX.out]; rfl)
                          · have hcm : (sQ.toList == sX.toList) = false := HCM.out.trans (decide_eq_false hls)
                            have HN7 := (show Hid _ from HN6.out hls)
                            clear hls HCM HN6 HRY
                            go_wp2_with fail
                            refine Calls.mono (HA.out _) ?_
                            rintro e w5 ⟨rfl, hw5⟩
                            rw [hw5]
                            clear hw5 w5
                            go_wp2_with fail
                            refine Calls.mono (HT.out _) ?_
                            rintro e w5 ⟨rfl, hw5⟩
                            rw [hw5]
                            clear hw5 w5
                            go_wp2_with fail
                            refine Calls.mono (HLN.out _) ?_
                            rintro e w9 ⟨rfl, hb9⟩
                            have G9 := HGF.out.still hb9
                            obtain ⟨p90, p91, p92, f91, f92⟩ := G9.cp
                            have HB9 := (show Hid (Below wn.heap.size wn w9) from G9.bn)
                            clear G9 hb9 HGF
                            go_wp2_with fail
                            exact ⟨⟨k + 1, by go_num, by omega, by omega, HB9.out, HN7.out⟩, by simp [RowKit.intOf]; omega⟩
                        · rw [hN] at HT
                          have ho : oN ns k = false := by unfold oN; rw [D0, hA, hE]; rfl
                          have ht : oT ns k = true := by unfold oT; rw [ho]; show (decide (0 < ns.length) && htB (k : Int)) = _; rw [D0, hN]; rfl
                          have hox : opX ns k = ⟨(k : Nat), ((0 : Nat) : Int), ((ns.getD 0 0 : Nat) : Int)⟩ := by unfold opX; rw [ho, ht]; rfl
                          have hx0 : ns.getD 0 0 ≤ 999999 := HNG.out 0
                          have HLN := (show Hid (∀ w', Calls Tryd.prog 15 #[.agg #[.int .i64 (k : Nat), .int .i64 ((0 : Nat) : Int), .int .i64 ((ns.getD 0 0 : Nat) : Int)]] w' fun e w'' => e = .returned (.string (bs (lnT (opX ns k)))) ∧ Below w'.heap.size w' w'') from fun w' => by
                            rw [hox]
                            exact line15 _ ⟨⟨by show (1 : Int) ≤ (k : Int); omega, by show (k : Int) ≤ 10; omega⟩, ⟨by show (0 : Int) ≤ ((0 : Nat) : Int); omega, by show ((0 : Nat) : Int) ≤ 1000000; omega⟩, ⟨by show (0 : Int) ≤ ((ns.getD 0 0 : Nat) : Int); omega, by show ((ns.getD 0 0 : Nat) : Int) ≤ 1000000; omega⟩⟩ w')
                          have HCM := (show Hid (((bs (lnT (opX ns k))).toList == sX.toList) = decide (lnT (opX ns k) = s)) from HEQ.out _)
                          have HRY := (show Hid (lnT (opX ns k) = s → rdl s = some (opX ns k)) from fun h => rdl_op HNB.out hk1 hk10 h)
                          have HOX := (show Hid _ from hox)
                          have G6 : RlG w wn (wr.alloc (.cells #[.int .i64 (k : Nat), .int .i64 0, .int .i64 0] 38)) wr.heap.size k (0) (0) := HGN.out _ _
                          obtain ⟨p60, p61, p62, f61, f62⟩ := G6.cp
                          obtain ⟨rfl, r60⟩ := HCN.out _ G6.bn 0 (by omega)
                          have G8 : RlG w wn (wr.alloc (.cells #[.int .i64 (k : Nat), .int .i64 0, .int .i64 ((ns.getD 0 0 : Nat) : Int)] 38)) wr.heap.size k (0) (ns.getD 0 0) := HGN.out _ _
                          obtain ⟨p80, p81, p82, f81, f82⟩ := G8.cp
                          have HGF := (show Hid _ from G8)
                          have hki : (k : Int) ≤ 10 := by omega
                          clear ho ht hox G6 HGN HCN hA hE hN D0 D1 G8
                          have hn0i : (0 : Int) < (ns.length : Int) := by omega
                          have hn1i : (1 : Int) < (ns.length : Int) := by omega
                          generalize hg0 : ns.getD 0 0 = x0 at *
                          obtain ⟨OX, hOX⟩ : ∃ OX, opX ns k = OX := ⟨_, rfl⟩
                          rw [hOX] at HLN HCM HRY HOX
                          have HOE := (show Hid (opX ns k = OX) from hOX)
                          clear hOX
                          have HN6 := (show Hid (lnT OX ≠ s → ∀ j, 1 ≤ j → j < k + 1 → lnT (opX ns j) ≠ s) from fun h j h1 h2 => by
                            by_cases e : j = k
                            · subst e; rw [HOE.out]; exact h
                            · exact HJ.out.2 j h1 (by omega))
                          generalize bs (lnT OX) = sQ at *
                          generalize ns.length = nl at *
                          by_cases hls : lnT OX = s
                          · have hcm : (sQ.toList == sX.toList) = true := HCM.out.trans (decide_eq_true hls)
                            have HY := (show Hid _ from HRY.out hls)
                            clear hls HCM HN6 HRY
                            go_wp2_with fail
                            refine Calls.mono (HA.out _) ?_
                            rintro e w5 ⟨rfl, hw5⟩
                            rw [hw5]
                            clear hw5 w5
                            go_wp2_with fail
                            refine Calls.mono (HT.out _) ?_
                            rintro e w5 ⟨rfl, hw5⟩
                            rw [hw5]
                            clear hw5 w5
                            go_wp2_with fail
                            refine Calls.mono (HLN.out _) ?_
                            rintro e w9 ⟨rfl, hb9⟩
                            have G9 := HGF.out.still hb9
                            obtain ⟨p90, p91, p92, f91, f92⟩ := G9.cp
                            have bx := G9.bz
                            have c0 := bx.cell 0 (by simp)
                            have c1 := bx.cell 1 (by simp)
                            have c2 := bx.cell 2 (by simp)
                            have f0 := bx.frozen 0
                            have f1 := bx.frozen 1
                            have f2 := bx.frozen 2
                            simp only [List.getD_cons_zero, List.getD_cons_succ] at c0 c1 c2
                            have q3 := bx.set3 (.int .i64 (k : Nat)) (.int .i64 0) (.int .i64 ((x0 : Nat) : Int))
                            have Z0 := q3.cell 0 (by simp)
                            have Z1 := q3.cell 1 (by simp)
                            have Z2 := q3.cell 2 (by simp)
                            simp only [List.getD_cons_zero, List.getD_cons_succ] at Z0 Z1 Z2
                            have HB9 := (show Hid (Below w.heap.size w w9) from G9.bw)
                            clear q3 bx G9 hb9 HGF
                            go_wp2_with fail
                            refine bodyPost_ret (v := .tuple #[.agg #[.int .i64 (k : Nat), .int .i64 0, .int .i64 ((x0 : Nat) : Int)], .bool true]) (by simp [results, Tryd.results22, go_sem, Z0, Z1, Z2]) rfl ?_
                            refine ⟨OX, true, ?_, bel_set3 HB9.out (Nat.le_refl _) _ _ _, fun _ => HY.out, fun h => (by cases h)⟩
                            first | (rw [HOX.out]; done) | (rw [HOX.out]; rfl)
                          · have hcm : (sQ.toList == sX.toList) = false := HCM.out.trans (decide_eq_false hls)
                            have HN7 := (show Hid _ from HN6.out hls)
                            clear hls HCM HN6 HRY
                            go_wp2_with fail
                            refine Calls.mono (HA.out _) ?_
                            rintro e w5 ⟨rfl, hw5⟩
                            rw [hw5]
                            clear hw5 w5
                            go_wp2_with fail
                            refine Calls.mono (HT.out _) ?_
                            rintro e w5 ⟨rfl, hw5⟩
                            rw [hw5]
                            clear hw5 w5
                            go_wp2_with fail
                            refine Calls.mono (HLN.out _) ?_
                            rintro e w9 ⟨rfl, hb9⟩
                            have G9 := HGF.out.still hb9
                            obtain ⟨p90, p91, p92, f91, f92⟩ := G9.cp
                            have HB9 := (show Hid (Below wn.heap.size wn w9) from G9.bn)
                            clear G9 hb9 HGF
                            go_wp2_with fail
                            exact ⟨⟨k + 1, by go_num, by omega, by omega, HB9.out, HN7.out⟩, by simp [RowKit.intOf]; omega⟩
                      · have he : ((k : Int) == 10) = true := hE
                        cases hN : htB (k : Int)
                        · rw [hN] at HT
                          have ho : oN ns k = true := by unfold oN; rw [D0, hA, hE]; rfl
                          have ht : oT ns k = false := by unfold oT; rw [ho]; show (decide (1 < ns.length) && htB (k : Int)) = _; rw [D1, hN]; rfl
                          have hox : opX ns k = ⟨(k : Nat), ((ns.getD 0 0 : Nat) : Int), ((0 : Nat) : Int)⟩ := by unfold opX; rw [ho, ht]; rfl
                          have hx0 : ns.getD 0 0 ≤ 999999 := HNG.out 0
                          have HLN := (show Hid (∀ w', Calls Tryd.prog 15 #[.agg #[.int .i64 (k : Nat), .int .i64 ((ns.getD 0 0 : Nat) : Int), .int .i64 ((0 : Nat) : Int)]] w' fun e w'' => e = .returned (.string (bs (lnT (opX ns k)))) ∧ Below w'.heap.size w' w'') from fun w' => by
                            rw [hox]
                            exact line15 _ ⟨⟨by show (1 : Int) ≤ (k : Int); omega, by show (k : Int) ≤ 10; omega⟩, ⟨by show (0 : Int) ≤ ((ns.getD 0 0 : Nat) : Int); omega, by show ((ns.getD 0 0 : Nat) : Int) ≤ 1000000; omega⟩, ⟨by show (0 : Int) ≤ ((0 : Nat) : Int); omega, by show ((0 : Nat) : Int) ≤ 1000000; omega⟩⟩ w')
                          have HCM := (show Hid (((bs (lnT (opX ns k))).toList == sX.toList) = decide (lnT (opX ns k) = s)) from HEQ.out _)
                          have HRY := (show Hid (lnT (opX ns k) = s → rdl s = some (opX ns k)) from fun h => rdl_op HNB.out hk1 hk10 h)
                          have HOX := (show Hid _ from hox)
                          have G6 : RlG w wn (wr.alloc (.cells #[.int .i64 (k : Nat), .int .i64 0, .int .i64 0] 38)) wr.heap.size k (0) (0) := HGN.out _ _
                          obtain ⟨p60, p61, p62, f61, f62⟩ := G6.cp
                          obtain ⟨rfl, r60⟩ := HCN.out _ G6.bn 0 (by omega)
                          have G7 : RlG w wn (wr.alloc (.cells #[.int .i64 (k : Nat), .int .i64 ((ns.getD 0 0 : Nat) : Int), .int .i64 0] 38)) wr.heap.size k (ns.getD 0 0) (0) := HGN.out _ _
                          obtain ⟨p70, p71, p72, f71, f72⟩ := G7.cp
                          have HGF := (show Hid _ from G7)
                          have hki : (k : Int) ≤ 10 := by omega
                          clear ho ht hox G6 HGN HCN hA hE hN D0 D1 G7
                          have hn0i : (0 : Int) < (ns.length : Int) := by omega
                          have hn1i : (1 : Int) < (ns.length : Int) := by omega
                          generalize hg0 : ns.getD 0 0 = x0 at *
                          obtain ⟨OX, hOX⟩ : ∃ OX, opX ns k = OX := ⟨_, rfl⟩
                          rw [hOX] at HLN HCM HRY HOX
                          have HOE := (show Hid (opX ns k = OX) from hOX)
                          clear hOX
                          have HN6 := (show Hid (lnT OX ≠ s → ∀ j, 1 ≤ j → j < k + 1 → lnT (opX ns j) ≠ s) from fun h j h1 h2 => by
                            by_cases e : j = k
                            · subst e; rw [HOE.out]; exact h
                            · exact HJ.out.2 j h1 (by omega))
                          generalize bs (lnT OX) = sQ at *
                          generalize ns.length = nl at *
                          by_cases hls : lnT OX = s
                          · have hcm : (sQ.toList == sX.toList) = true := HCM.out.trans (decide_eq_true hls)
                            have HY := (show Hid _ from HRY.out hls)
                            clear hls HCM HN6 HRY
                            go_wp2_with fail
                            refine Calls.mono (HA.out _) ?_
                            rintro e w5 ⟨rfl, hw5⟩
                            rw [hw5]
                            clear hw5 w5
                            go_wp2_with fail
                            refine Calls.mono (HT.out _) ?_
                            rintro e w5 ⟨rfl, hw5⟩
                            rw [hw5]
                            clear hw5 w5
                            go_wp2_with fail
                            refine Calls.mono (HLN.out _) ?_
                            rintro e w9 ⟨rfl, hb9⟩
                            have G9 := HGF.out.still hb9
                            obtain ⟨p90, p91, p92, f91, f92⟩ := G9.cp
                            have bx := G9.bz
                            have c0 := bx.cell 0 (by simp)
                            have c1 := bx.cell 1 (by simp)
                            have c2 := bx.cell 2 (by simp)
                            have f0 := bx.frozen 0
                            have f1 := bx.frozen 1
                            have f2 := bx.frozen 2
                            simp only [List.getD_cons_zero, List.getD_cons_succ] at c0 c1 c2
                            have q3 := bx.set3 (.int .i64 (k : Nat)) (.int .i64 ((x0 : Nat) : Int)) (.int .i64 0)
                            have Z0 := q3.cell 0 (by simp)
                            have Z1 := q3.cell 1 (by simp)
                            have Z2 := q3.cell 2 (by simp)
                            simp only [List.getD_cons_zero, List.getD_cons_succ] at Z0 Z1 Z2
                            have HB9 := (show Hid (Below w.heap.size w w9) from G9.bw)
                            clear q3 bx G9 hb9 HGF
                            go_wp2_with fail
                            refine bodyPost_ret (v := .tuple #[.agg #[.int .i64 (k : Nat), .int .i64 ((x0 : Nat) : Int), .int .i64 0], .bool true]) (by simp [results, Tryd.results22, go_sem, Z0, Z1, Z2]) rfl ?_
                            refine ⟨OX, true, ?_, bel_set3 HB9.out (Nat.le_refl _) _ _ _, fun _ => HY.out, fun h => (by cases h)⟩
                            first | (rw [HOX.out]; done) | (rw [HOX.out]; rfl)
                          · have hcm : (sQ.toList == sX.toList) = false := HCM.out.trans (decide_eq_false hls)
                            have HN7 := (show Hid _ from HN6.out hls)
                            clear hls HCM HN6 HRY
                            go_wp2_with fail
                            refine Calls.mono (HA.out _) ?_
                            rintro e w5 ⟨rfl, hw5⟩
                            rw [hw5]
                            clear hw5 w5
                            go_wp2_with fail
                            refine Calls.mono (HT.out _) ?_
                            rintro e w5 ⟨rfl, hw5⟩
                            rw [hw5]
                            clear hw5 w5
                            go_wp2_with fail
                            refine Calls.mono (HLN.out _) ?_
                            rintro e w9 ⟨rfl, hb9⟩
                            have G9 := HGF.out.still hb9
                            obtain ⟨p90, p91, p92, f91, f92⟩ := G9.cp
                            have HB9 := (show Hid (Below wn.heap.size wn w9) from G9.bn)
                            clear G9 hb9 HGF
                            go_wp2_with fail
                            exact ⟨⟨k + 1, by go_num, by omega, by omega, HB9.out, HN7.out⟩, by simp [RowKit.intOf]; omega⟩
                        · rw [hN] at HT
                          have ho : oN ns k = true := by unfold oN; rw [D0, hA, hE]; rfl
                          have ht : oT ns k = true := by unfold oT; rw [ho]; show (decide (1 < ns.length) && htB (k : Int)) = _; rw [D1, hN]; rfl
                          have hox : opX ns k = ⟨(k : Nat), ((ns.getD 0 0 : Nat) : Int), ((ns.getD 1 0 : Nat) : Int)⟩ := by unfold opX; rw [ho, ht]; rfl
                          have hx0 : ns.getD 0 0 ≤ 999999 := HNG.out 0
                          have hx1 : ns.getD 1 0 ≤ 999999 := HNG.out 1
                          have HLN := (show Hid (∀ w', Calls Tryd.prog 15 #[.agg #[.int .i64 (k : Nat), .int .i64 ((ns.getD 0 0 : Nat) : Int), .int .i64 ((ns.getD 1 0 : Nat) : Int)]] w' fun e w'' => e = .returned (.string (bs (lnT (opX ns k)))) ∧ Below w'.heap.size w' w'') from fun w' => by
                            rw [hox]
                            exact line15 _ ⟨⟨by show (1 : Int) ≤ (k : Int); omega, by show (k : Int) ≤ 10; omega⟩, ⟨by show (0 : Int) ≤ ((ns.getD 0 0 : Nat) : Int); omega, by show ((ns.getD 0 0 : Nat) : Int) ≤ 1000000; omega⟩, ⟨by show (0 : Int) ≤ ((ns.getD 1 0 : Nat) : Int); omega, by show ((ns.getD 1 0 : Nat) : Int) ≤ 1000000; omega⟩⟩ w')
                          have HCM := (show Hid (((bs (lnT (opX ns k))).toList == sX.toList) = decide (lnT (opX ns k) = s)) from HEQ.out _)
                          have HRY := (show Hid (lnT (opX ns k) = s → rdl s = some (opX ns k)) from fun h => rdl_op HNB.out hk1 hk10 h)
                          have HOX := (show Hid _ from hox)
                          have G6 : RlG w wn (wr.alloc (.cells #[.int .i64 (k : Nat), .int .i64 0, .int .i64 0] 38)) wr.heap.size k (0) (0) := HGN.out _ _
                          obtain ⟨p60, p61, p62, f61, f62⟩ := G6.cp
                          obtain ⟨rfl, r60⟩ := HCN.out _ G6.bn 0 (by omega)
                          have G7 : RlG w wn (wr.alloc (.cells #[.int .i64 (k : Nat), .int .i64 ((ns.getD 0 0 : Nat) : Int), .int .i64 0] 38)) wr.heap.size k (ns.getD 0 0) (0) := HGN.out _ _
                          obtain ⟨p70, p71, p72, f71, f72⟩ := G7.cp
                          obtain ⟨_, r71⟩ := HCN.out _ G7.bn 1 (by omega)
                          have G8 : RlG w wn (wr.alloc (.cells #[.int .i64 (k : Nat), .int .i64 ((ns.getD 0 0 : Nat) : Int), .int .i64 ((ns.getD 1 0 : Nat) : Int)] 38)) wr.heap.size k (ns.getD 0 0) (ns.getD 1 0) := HGN.out _ _
                          obtain ⟨p80, p81, p82, f81, f82⟩ := G8.cp
                          have HGF := (show Hid _ from G8)
                          have hki : (k : Int) ≤ 10 := by omega
                          clear ho ht hox G6 HGN HCN hA hE hN D0 D1 G7 G8
                          have hn0i : (0 : Int) < (ns.length : Int) := by omega
                          have hn1i : (1 : Int) < (ns.length : Int) := by omega
                          generalize hg0 : ns.getD 0 0 = x0 at *
                          generalize hg1 : ns.getD 1 0 = x1 at *
                          obtain ⟨OX, hOX⟩ : ∃ OX, opX ns k = OX := ⟨_, rfl⟩
                          rw [hOX] at HLN HCM HRY HOX
                          have HOE := (show Hid (opX ns k = OX) from hOX)
                          clear hOX
                          have HN6 := (show Hid (lnT OX ≠ s → ∀ j, 1 ≤ j → j < k + 1 → lnT (opX ns j) ≠ s) from fun h j h1 h2 => by
                            by_cases e : j = k
                            · subst e; rw [HOE.out]; exact h
                            · exact HJ.out.2 j h1 (by omega))
                          generalize bs (lnT OX) = sQ at *
                          generalize ns.length = nl at *
                          by_cases hls : lnT OX = s
                          · have hcm : (sQ.toList == sX.toList) = true := HCM.out.trans (decide_eq_true hls)
                            have HY := (show Hid _ from HRY.out hls)
                            clear hls HCM HN6 HRY
                            go_wp2_with fail
                            refine Calls.mono (HA.out _) ?_
                            rintro e w5 ⟨rfl, hw5⟩
                            rw [hw5]
                            clear hw5 w5
                            go_wp2_with fail
                            refine Calls.mono (HT.out _) ?_
                            rintro e w5 ⟨rfl, hw5⟩
                            rw [hw5]
                            clear hw5 w5
                            go_wp2_with fail
                            refine Calls.mono (HLN.out _) ?_
                            rintro e w9 ⟨rfl, hb9⟩
                            have G9 := HGF.out.still hb9
                            obtain ⟨p90, p91, p92, f91, f92⟩ := G9.cp
                            have bx := G9.bz
                            have c0 := bx.cell 0 (by simp)
                            have c1 := bx.cell 1 (by simp)
                            have c2 := bx.cell 2 (by simp)
                            have f0 := bx.frozen 0
                            have f1 := bx.frozen 1
                            have f2 := bx.frozen 2
                            simp only [List.getD_cons_zero, List.getD_cons_succ] at c0 c1 c2
                            have q3 := bx.set3 (.int .i64 (k : Nat)) (.int .i64 ((x0 : Nat) : Int)) (.int .i64 ((x1 : Nat) : Int))
                            have Z0 := q3.cell 0 (by simp)
                            have Z1 := q3.cell 1 (by simp)
                            have Z2 := q3.cell 2 (by simp)
                            simp only [List.getD_cons_zero, List.getD_cons_succ] at Z0 Z1 Z2
                            have HB9 := (show Hid (Below w.heap.size w w9) from G9.bw)
                            clear q3 bx G9 hb9 HGF
                            go_wp2_with fail
                            refine bodyPost_ret (v := .tuple #[.agg #[.int .i64 (k : Nat), .int .i64 ((x0 : Nat) : Int), .int .i64 ((x1 : Nat) : Int)], .bool true]) (by simp [results, Tryd.results22, go_sem, Z0, Z1, Z2]) rfl ?_
                            refine ⟨OX, true, ?_, bel_set3 HB9.out (Nat.le_refl _) _ _ _, fun _ => HY.out, fun h => (by cases h)⟩
                            first | (rw [HOX.out]; done) | (rw [HOX.out]; rfl)
                          · have hcm : (sQ.toList == sX.toList) = false := HCM.out.trans (decide_eq_false hls)
                            have HN7 := (show Hid _ from HN6.out hls)
                            clear hls HCM HN6 HRY
                            go_wp2_with fail
                            refine Calls.mono (HA.out _) ?_
                            rintro e w5 ⟨rfl, hw5⟩
                            rw [hw5]
                            clear hw5 w5
                            go_wp2_with fail
                            refine Calls.mono (HT.out _) ?_
                            rintro e w5 ⟨rfl, hw5⟩
                            rw [hw5]
                            clear hw5 w5
                            go_wp2_with fail
                            refine Calls.mono (HLN.out _) ?_
                            rintro e w9 ⟨rfl, hb9⟩
                            have G9 := HGF.out.still hb9
                            obtain ⟨p90, p91, p92, f91, f92⟩ := G9.cp
                            have HB9 := (show Hid (Below wn.heap.size wn w9) from G9.bn)
                            clear G9 hb9 HGF
                            go_wp2_with fail
                            exact ⟨⟨k + 1, by go_num, by omega, by omega, HB9.out, HN7.out⟩, by simp [RowKit.intOf]; omega⟩
                    · rw [hA] at HA
                      cases hE : decide ((k : Int) = 10)
                      · cases hN : htB (k : Int)
                        · rw [hN] at HT
                          have ho : oN ns k = true := by unfold oN; rw [D0, hA, hE]; rfl
                          have ht : oT ns k = false := by unfold oT; rw [ho]; show (decide (1 < ns.length) && htB (k : Int)) = _; rw [D1, hN]; rfl
                          have hox : opX ns k = ⟨(k : Nat), ((ns.getD 0 0 : Nat) : Int), ((0 : Nat) : Int)⟩ := by unfold opX; rw [ho, ht]; rfl
                          have hx0 : ns.getD 0 0 ≤ 999999 := HNG.out 0
                          have HLN := (show Hid (∀ w', Calls Tryd.prog 15 #[.agg #[.int .i64 (k : Nat), .int .i64 ((ns.getD 0 0 : Nat) : Int), .int .i64 ((0 : Nat) : Int)]] w' fun e w'' => e = .returned (.string (bs (lnT (opX ns k)))) ∧ Below w'.heap.size w' w'') from fun w' => by
                            rw [hox]
                            exact line15 _ ⟨⟨by show (1 : Int) ≤ (k : Int); omega, by show (k : Int) ≤ 10; omega⟩, ⟨by show (0 : Int) ≤ ((ns.getD 0 0 : Nat) : Int); omega, by show ((ns.getD 0 0 : Nat) : Int) ≤ 1000000; omega⟩, ⟨by show (0 : Int) ≤ ((0 : Nat) : Int); omega, by show ((0 : Nat) : Int) ≤ 1000000; omega⟩⟩ w')
                          have HCM := (show Hid (((bs (lnT (opX ns k))).toList == sX.toList) = decide (lnT (opX ns k) = s)) from HEQ.out _)
                          have HRY := (show Hid (lnT (opX ns k) = s → rdl s = some (opX ns k)) from fun h => rdl_op HNB.out hk1 hk10 h)
                          have HOX := (show Hid _ from hox)
                          have G6 : RlG w wn (wr.alloc (.cells #[.int .i64 (k : Nat), .int .i64 0, .int .i64 0] 38)) wr.heap.size k (0) (0) := HGN.out _ _
                          obtain ⟨p60, p61, p62, f61, f62⟩ := G6.cp
                          obtain ⟨rfl, r60⟩ := HCN.out _ G6.bn 0 (by omega)
                          have G7 : RlG w wn (wr.alloc (.cells #[.int .i64 (k : Nat), .int .i64 ((ns.getD 0 0 : Nat) : Int), .int .i64 0] 38)) wr.heap.size k (ns.getD 0 0) (0) := HGN.out _ _
                          obtain ⟨p70, p71, p72, f71, f72⟩ := G7.cp
                          have HGF := (show Hid _ from G7)
                          have hki : (k : Int) ≤ 10 := by omega
                          clear ho ht hox G6 HGN HCN hA hE hN D0 D1 G7
                          have hn0i : (0 : Int) < (ns.length : Int) := by omega
                          have hn1i : (1 : Int) < (ns.length : Int) := by omega
                          generalize hg0 : ns.getD 0 0 = x0 at *
                          obtain ⟨OX, hOX⟩ : ∃ OX, opX ns k = OX := ⟨_, rfl⟩
                          rw [hOX] at HLN HCM HRY HOX
                          have HOE := (show Hid (opX ns k = OX) from hOX)
                          clear hOX
                          have HN6 := (show Hid (lnT OX ≠ s → ∀ j, 1 ≤ j → j < k + 1 → lnT (opX ns j) ≠ s) from fun h j h1 h2 => by
                            by_cases e : j = k
                            · subst e; rw [HOE.out]; exact h
                            · exact HJ.out.2 j h1 (by omega))
                          generalize bs (lnT OX) = sQ at *
                          generalize ns.length = nl at *
                          by_cases hls : lnT OX = s
                          · have hcm : (sQ.toList == sX.toList) = true := HCM.out.trans (decide_eq_true hls)
                            have HY := (show Hid _ from HRY.out hls)
                            clear hls HCM HN6 HRY
                            go_wp2_with fail
                            refine Calls.mono (HA.out _) ?_
                            rintro e w5 ⟨rfl, hw5⟩
                            rw [hw5]
                            clear hw5 w5
                            go_wp2_with fail
                            refine Calls.mono (HT.out _) ?_
                            rintro e w5 ⟨rfl, hw5⟩
                            rw [hw5]
                            clear hw5 w5
                            go_wp2_with fail
                            refine Calls.mono (HLN.out _) ?_
                            rintro e w9 ⟨rfl, hb9⟩
                            have G9 := HGF.out.still hb9
                            obtain ⟨p90, p91, p92, f91, f92⟩ := G9.cp
                            have bx := G9.bz
                            have c0 := bx.cell 0 (by simp)
                            have c1 := bx.cell 1 (by simp)
                            have c2 := bx.cell 2 (by simp)
                            have f0 := bx.frozen 0
                            have f1 := bx.frozen 1
                            have f2 := bx.frozen 2
                            simp only [List.getD_cons_zero, List.getD_cons_succ] at c0 c1 c2
                            have q3 := bx.set3 (.int .i64 (k : Nat)) (.int .i64 ((x0 : Nat) : Int)) (.int .i64 0)
                            have Z0 := q3.cell 0 (by simp)
                            have Z1 := q3.cell 1 (by simp)
                            have Z2 := q3.cell 2 (by simp)
                            simp only [List.getD_cons_zero, List.getD_cons_succ] at Z0 Z1 Z2
                            have HB9 := (show Hid (Below w.heap.size w w9) from G9.bw)
                            clear q3 bx G9 hb9 HGF
                            go_wp2_with fail
                            refine bodyPost_ret (v := .tuple #[.agg #[.int .i64 (k : Nat), .int .i64 ((x0 : Nat) : Int), .int .i64 0], .bool true]) (by simp [results, Tryd.results22, go_sem, Z0, Z1, Z2]) rfl ?_
                            refine ⟨OX, true, ?_, bel_set3 HB9.out (Nat.le_refl _) _ _ _, fun _ => HY.out, fun h => (by cases h)⟩
                            first | (rw [HOX.out]; done) | (rw [HOX.out]; rfl)
                          · have hcm : (sQ.toList == sX.toList) = false := HCM.out.trans (decide_eq_false hls)
                            have HN7 := (show Hid _ from HN6.out hls)
                            clear hls HCM HN6 HRY
                            go_wp2_with fail
                            refine Calls.mono (HA.out _) ?_
                            rintro e w5 ⟨rfl, hw5⟩
                            rw [hw5]
                            clear hw5 w5
                            go_wp2_with fail
                            refine Calls.mono (HT.out _) ?_
                            rintro e w5 ⟨rfl, hw5⟩
                            rw [hw5]
                            clear hw5 w5
                            go_wp2_with fail
                            refine Calls.mono (HLN.out _) ?_
                            rintro e w9 ⟨rfl, hb9⟩
                            have G9 := HGF.out.still hb9
                            obtain ⟨p90, p91, p92, f91, f92⟩ := G9.cp
                            have HB9 := (show Hid (Below wn.heap.size wn w9) from G9.bn)
                            clear G9 hb9 HGF
                            go_wp2_with fail
                            exact ⟨⟨k + 1, by go_num, by omega, by omega, HB9.out, HN7.out⟩, by simp [RowKit.intOf]; omega⟩
                        · rw [hN] at HT
                          have ho : oN ns k = true := by unfold oN; rw [D0, hA, hE]; rfl
                          have ht : oT ns k = true := by unfold oT; rw [ho]; show (decide (1 < ns.length) && htB (k : Int)) = _; rw [D1, hN]; rfl
                          have hox : opX ns k = ⟨(k : Nat), ((ns.getD 0 0 : Nat) : Int), ((ns.getD 1 0 : Nat) : Int)⟩ := by unfold opX; rw [ho, ht]; rfl
                          have hx0 : ns.getD 0 0 ≤ 999999 := HNG.out 0
                          have hx1 : ns.getD 1 0 ≤ 999999 := HNG.out 1
                          have HLN := (show Hid (∀ w', Calls Tryd.prog 15 #[.agg #[.int .i64 (k : Nat), .int .i64 ((ns.getD 0 0 : Nat) : Int), .int .i64 ((ns.getD 1 0 : Nat) : Int)]] w' fun e w'' => e = .returned (.string (bs (lnT (opX ns k)))) ∧ Below w'.heap.size w' w'') from fun w' => by
                            rw [hox]
                            exact line15 _ ⟨⟨by show (1 : Int) ≤ (k : Int); omega, by show (k : Int) ≤ 10; omega⟩, ⟨by show (0 : Int) ≤ ((ns.getD 0 0 : Nat) : Int); omega, by show ((ns.getD 0 0 : Nat) : Int) ≤ 1000000; omega⟩, ⟨by show (0 : Int) ≤ ((ns.getD 1 0 : Nat) : Int); omega, by show ((ns.getD 1 0 : Nat) : Int) ≤ 1000000; omega⟩⟩ w')
                          have HCM := (show Hid (((bs (lnT (opX ns k))).toList == sX.toList) = decide (lnT (opX ns k) = s)) from HEQ.out _)
                          have HRY := (show Hid (lnT (opX ns k) = s → rdl s = some (opX ns k)) from fun h => rdl_op HNB.out hk1 hk10 h)
                          have HOX := (show Hid _ from hox)
                          have G6 : RlG w wn (wr.alloc (.cells #[.int .i64 (k : Nat), .int .i64 0, .int .i64 0] 38)) wr.heap.size k (0) (0) := HGN.out _ _
                          obtain ⟨p60, p61, p62, f61, f62⟩ := G6.cp
                          obtain ⟨rfl, r60⟩ := HCN.out _ G6.bn 0 (by omega)
                          have G7 : RlG w wn (wr.alloc (.cells #[.int .i64 (k : Nat), .int .i64 ((ns.getD 0 0 : Nat) : Int), .int .i64 0] 38)) wr.heap.size k (ns.getD 0 0) (0) := HGN.out _ _
                          obtain ⟨p70, p71, p72, f71, f72⟩ := G7.cp
                          obtain ⟨_, r71⟩ := HCN.out _ G7.bn 1 (by omega)
                          have G8 : RlG w wn (wr.alloc (.cells #[.int .i64 (k : Nat), .int .i64 ((ns.getD 0 0 : Nat) : Int), .int .i64 ((ns.getD 1 0 : Nat) : Int)] 38)) wr.heap.size k (ns.getD 0 0) (ns.getD 1 0) := HGN.out _ _
                          obtain ⟨p80, p81, p82, f81, f82⟩ := G8.cp
                          have HGF := (show Hid _ from G8)
                          have hki : (k : Int) ≤ 10 := by omega
                          clear ho ht hox G6 HGN HCN hA hE hN D0 D1 G7 G8
                          have hn0i : (0 : Int) < (ns.length : Int) := by omega
                          have hn1i : (1 : Int) < (ns.length : Int) := by omega
                          generalize hg0 : ns.getD 0 0 = x0 at *
                          generalize hg1 : ns.getD 1 0 = x1 at *
                          obtain ⟨OX, hOX⟩ : ∃ OX, opX ns k = OX := ⟨_, rfl⟩
                          rw [hOX] at HLN HCM HRY HOX
                          have HOE := (show Hid (opX ns k = OX) from hOX)
                          clear hOX
                          have HN6 := (show Hid (lnT OX ≠ s → ∀ j, 1 ≤ j → j < k + 1 → lnT (opX ns j) ≠ s) from fun h j h1 h2 => by
                            by_cases e : j = k
                            · subst e; rw [HOE.out]; exact h
                            · exact HJ.out.2 j h1 (by omega))
                          generalize bs (lnT OX) = sQ at *
                          generalize ns.length = nl at *
                          by_cases hls : lnT OX = s
                          · have hcm : (sQ.toList == sX.toList) = true := HCM.out.trans (decide_eq_true hls)
                            have HY := (show Hid _ from HRY.out hls)
                            clear hls HCM HN6 HRY
                            go_wp2_with fail
                            refine Calls.mono (HA.out _) ?_
                            rintro e w5 ⟨rfl, hw5⟩
                            rw [hw5]
                            clear hw5 w5
                            go_wp2_with fail
                            refine Calls.mono (HT.out _) ?_
                            rintro e w5 ⟨rfl, hw5⟩
                            rw [hw5]
                            clear hw5 w5
                            go_wp2_with fail
                            refine Calls.mono (HLN.out _) ?_
                            rintro e w9 ⟨rfl, hb9⟩
                            have G9 := HGF.out.still hb9
                            obtain ⟨p90, p91, p92, f91, f92⟩ := G9.cp
                            have bx := G9.bz
                            have c0 := bx.cell 0 (by simp)
                            have c1 := bx.cell 1 (by simp)
                            have c2 := bx.cell 2 (by simp)
                            have f0 := bx.frozen 0
                            have f1 := bx.frozen 1
                            have f2 := bx.frozen 2
                            simp only [List.getD_cons_zero, List.getD_cons_succ] at c0 c1 c2
                            have q3 := bx.set3 (.int .i64 (k : Nat)) (.int .i64 ((x0 : Nat) : Int)) (.int .i64 ((x1 : Nat) : Int))
                            have Z0 := q3.cell 0 (by simp)
                            have Z1 := q3.cell 1 (by simp)
                            have Z2 := q3.cell 2 (by simp)
                            simp only [List.getD_cons_zero, List.getD_cons_succ] at Z0 Z1 Z2
                            have HB9 := (show Hid (Below w.heap.size w w9) from G9.bw)
                            clear q3 bx G9 hb9 HGF
                            go_wp2_with fail
                            refine bodyPost_ret (v := .tuple #[.agg #[.int .i64 (k : Nat), .int .i64 ((x0 : Nat) : Int), .int .i64 ((x1 : Nat) : Int)], .bool true]) (by simp [results, Tryd.results22, go_sem, Z0, Z1, Z2]) rfl ?_
                            refine ⟨OX, true, ?_, bel_set3 HB9.out (Nat.le_refl _) _ _ _, fun _ => HY.out, fun h => (by cases h)⟩
                            first | (rw [HOX.out]; done) | (rw [HOX.out]; rfl)
                          · have hcm : (sQ.toList == sX.toList) = false := HCM.out.trans (decide_eq_false hls)
                            have HN7 := (show Hid _ from HN6.out hls)
                            clear hls HCM HN6 HRY
                            go_wp2_with fail
                            refine Calls.mono (HA.out _) ?_
                            rintro e w5 ⟨rfl, hw5⟩
                            rw [hw5]
                            clear hw5 w5
                            go_wp2_with fail
                            refine Calls.mono (HT.out _) ?_
                            rintro e w5 ⟨rfl, hw5⟩
                            rw [hw5]
                            clear hw5 w5
                            go_wp2_with fail
                            refine Calls.mono (HLN.out _) ?_
                            rintro e w9 ⟨rfl, hb9⟩
                            have G9 := HGF.out.still hb9
                            obtain ⟨p90, p91, p92, f91, f92⟩ := G9.cp
                            have HB9 := (show Hid (Below wn.heap.size wn w9) from G9.bn)
                            clear G9 hb9 HGF
                            go_wp2_with fail
                            exact ⟨⟨k + 1, by go_num, by omega, by omega, HB9.out, HN7.out⟩, by simp [RowKit.intOf]; omega⟩
                      · cases hN : htB (k : Int)
                        · rw [hN] at HT
                          have ho : oN ns k = true := by unfold oN; rw [D0, hA, hE]; rfl
                          have ht : oT ns k = false := by unfold oT; rw [ho]; show (decide (1 < ns.length) && htB (k : Int)) = _; rw [D1, hN]; rfl
                          have hox : opX ns k = ⟨(k : Nat), ((ns.getD 0 0 : Nat) : Int), ((0 : Nat) : Int)⟩ := by unfold opX; rw [ho, ht]; rfl
                          have hx0 : ns.getD 0 0 ≤ 999999 := HNG.out 0
                          have HLN := (show Hid (∀ w', Calls Tryd.prog 15 #[.agg #[.int .i64 (k : Nat), .int .i64 ((ns.getD 0 0 : Nat) : Int), .int .i64 ((0 : Nat) : Int)]] w' fun e w'' => e = .returned (.string (bs (lnT (opX ns k)))) ∧ Below w'.heap.size w' w'') from fun w' => by
                            rw [hox]
                            exact line15 _ ⟨⟨by show (1 : Int) ≤ (k : Int); omega, by show (k : Int) ≤ 10; omega⟩, ⟨by show (0 : Int) ≤ ((ns.getD 0 0 : Nat) : Int); omega, by show ((ns.getD 0 0 : Nat) : Int) ≤ 1000000; omega⟩, ⟨by show (0 : Int) ≤ ((0 : Nat) : Int); omega, by show ((0 : Nat) : Int) ≤ 1000000; omega⟩⟩ w')
                          have HCM := (show Hid (((bs (lnT (opX ns k))).toList == sX.toList) = decide (lnT (opX ns k) = s)) from HEQ.out _)
                          have HRY := (show Hid (lnT (opX ns k) = s → rdl s = some (opX ns k)) from fun h => rdl_op HNB.out hk1 hk10 h)
                          have HOX := (show Hid _ from hox)
                          have G6 : RlG w wn (wr.alloc (.cells #[.int .i64 (k : Nat), .int .i64 0, .int .i64 0] 38)) wr.heap.size k (0) (0) := HGN.out _ _
                          obtain ⟨p60, p61, p62, f61, f62⟩ := G6.cp
                          obtain ⟨rfl, r60⟩ := HCN.out _ G6.bn 0 (by omega)
                          have G7 : RlG w wn (wr.alloc (.cells #[.int .i64 (k : Nat), .int .i64 ((ns.getD 0 0 : Nat) : Int), .int .i64 0] 38)) wr.heap.size k (ns.getD 0 0) (0) := HGN.out _ _
                          obtain ⟨p70, p71, p72, f71, f72⟩ := G7.cp
                          have HGF := (show Hid _ from G7)
                          have hki : (k : Int) ≤ 10 := by omega
                          clear ho ht hox G6 HGN HCN hA hE hN D0 D1 G7
                          have hn0i : (0 : Int) < (ns.length : Int) := by omega
                          have hn1i : (1 : Int) < (ns.length : Int) := by omega
                          generalize hg0 : ns.getD 0 0 = x0 at *
                          obtain ⟨OX, hOX⟩ : ∃ OX, opX ns k = OX := ⟨_, rfl⟩
                          rw [hOX] at HLN HCM HRY HOX
                          have HOE := (show Hid (opX ns k = OX) from hOX)
                          clear hOX
                          have HN6 := (show Hid (lnT OX ≠ s → ∀ j, 1 ≤ j → j < k + 1 → lnT (opX ns j) ≠ s) from fun h j h1 h2 => by
                            by_cases e : j = k
                            · subst e; rw [HOE.out]; exact h
                            · exact HJ.out.2 j h1 (by omega))
                          generalize bs (lnT OX) = sQ at *
                          generalize ns.length = nl at *
                          by_cases hls : lnT OX = s
                          · have hcm : (sQ.toList == sX.toList) = true := HCM.out.trans (decide_eq_true hls)
                            have HY := (show Hid _ from HRY.out hls)
                            clear hls HCM HN6 HRY
                            go_wp2_with fail
                            refine Calls.mono (HA.out _) ?_
                            rintro e w5 ⟨rfl, hw5⟩
                            rw [hw5]
                            clear hw5 w5
                            go_wp2_with fail
                            refine Calls.mono (HT.out _) ?_
                            rintro e w5 ⟨rfl, hw5⟩
                            rw [hw5]
                            clear hw5 w5
                            go_wp2_with fail
                            refine Calls.mono (HLN.out _) ?_
                            rintro e w9 ⟨rfl, hb9⟩
                            have G9 := HGF.out.still hb9
                            obtain ⟨p90, p91, p92, f91, f92⟩ := G9.cp
                            have bx := G9.bz
                            have c0 := bx.cell 0 (by simp)
                            have c1 := bx.cell 1 (by simp)
                            have c2 := bx.cell 2 (by simp)
                            have f0 := bx.frozen 0
                            have f1 := bx.frozen 1
                            have f2 := bx.frozen 2
                            simp only [List.getD_cons_zero, List.getD_cons_succ] at c0 c1 c2
                            have q3 := bx.set3 (.int .i64 (k : Nat)) (.int .i64 ((x0 : Nat) : Int)) (.int .i64 0)
                            have Z0 := q3.cell 0 (by simp)
                            have Z1 := q3.cell 1 (by simp)
                            have Z2 := q3.cell 2 (by simp)
                            simp only [List.getD_cons_zero, List.getD_cons_succ] at Z0 Z1 Z2
                            have HB9 := (show Hid (Below w.heap.size w w9) from G9.bw)
                            clear q3 bx G9 hb9 HGF
                            go_wp2_with fail
                            refine bodyPost_ret (v := .tuple #[.agg #[.int .i64 (k : Nat), .int .i64 ((x0 : Nat) : Int), .int .i64 0], .bool true]) (by simp [results, Tryd.results22, go_sem, Z0, Z1, Z2]) rfl ?_
                            refine ⟨OX, true, ?_, bel_set3 HB9.out (Nat.le_refl _) _ _ _, fun _ => HY.out, fun h => (by cases h)⟩
                            first | (rw [HOX.out]; done) | (rw [HOX.out]; rfl)
                          · have hcm : (sQ.toList == sX.toList) = false := HCM.out.trans (decide_eq_false hls)
                            have HN7 := (show Hid _ from HN6.out hls)
                            clear hls HCM HN6 HRY
                            go_wp2_with fail
                            refine Calls.mono (HA.out _) ?_
                            rintro e w5 ⟨rfl, hw5⟩
                            rw [hw5]
                            clear hw5 w5
                            go_wp2_with fail
                            refine Calls.mono (HT.out _) ?_
                            rintro e w5 ⟨rfl, hw5⟩
                            rw [hw5]
                            clear hw5 w5
                            go_wp2_with fail
                            refine Calls.mono (HLN.out _) ?_
                            rintro e w9 ⟨rfl, hb9⟩
                            have G9 := HGF.out.still hb9
                            obtain ⟨p90, p91, p92, f91, f92⟩ := G9.cp
                            have HB9 := (show Hid (Below wn.heap.size wn w9) from G9.bn)
                            clear G9 hb9 HGF
                            go_wp2_with fail
                            exact ⟨⟨k + 1, by go_num, by omega, by omega, HB9.out, HN7.out⟩, by simp [RowKit.intOf]; omega⟩
                        · rw [hN] at HT
                          have ho : oN ns k = true := by unfold oN; rw [D0, hA, hE]; rfl
                          have ht : oT ns k = true := by unfold oT; rw [ho]; show (decide (1 < ns.length) && htB (k : Int)) = _; rw [D1, hN]; rfl
                          have hox : opX ns k = ⟨(k : Nat), ((ns.getD 0 0 : Nat) : Int), ((ns.getD 1 0 : Nat) : Int)⟩ := by unfold opX; rw [ho, ht]; rfl
                          have hx0 : ns.getD 0 0 ≤ 999999 := HNG.out 0
                          have hx1 : ns.getD 1 0 ≤ 999999 := HNG.out 1
                          have HLN := (show Hid (∀ w', Calls Tryd.prog 15 #[.agg #[.int .i64 (k : Nat), .int .i64 ((ns.getD 0 0 : Nat) : Int), .int .i64 ((ns.getD 1 0 : Nat) : Int)]] w' fun e w'' => e = .returned (.string (bs (lnT (opX ns k)))) ∧ Below w'.heap.size w' w'') from fun w' => by
                            rw [hox]
                            exact line15 _ ⟨⟨by show (1 : Int) ≤ (k : Int); omega, by show (k : Int) ≤ 10; omega⟩, ⟨by show (0 : Int) ≤ ((ns.getD 0 0 : Nat) : Int); omega, by show ((ns.getD 0 0 : Nat) : Int) ≤ 1000000; omega⟩, ⟨by show (0 : Int) ≤ ((ns.getD 1 0 : Nat) : Int); omega, by show ((ns.getD 1 0 : Nat) : Int) ≤ 1000000; omega⟩⟩ w')
                          have HCM := (show Hid (((bs (lnT (opX ns k))).toList == sX.toList) = decide (lnT (opX ns k) = s)) from HEQ.out _)
                          have HRY := (show Hid (lnT (opX ns k) = s → rdl s = some (opX ns k)) from fun h => rdl_op HNB.out hk1 hk10 h)
                          have HOX := (show Hid _ from hox)
                          have G6 : RlG w wn (wr.alloc (.cells #[.int .i64 (k : Nat), .int .i64 0, .int .i64 0] 38)) wr.heap.size k (0) (0) := HGN.out _ _
                          obtain ⟨p60, p61, p62, f61, f62⟩ := G6.cp
                          obtain ⟨rfl, r60⟩ := HCN.out _ G6.bn 0 (by omega)
                          have G7 : RlG w wn (wr.alloc (.cells #[.int .i64 (k : Nat), .int .i64 ((ns.getD 0 0 : Nat) : Int), .int .i64 0] 38)) wr.heap.size k (ns.getD 0 0) (0) := HGN.out _ _
                          obtain ⟨p70, p71, p72, f71, f72⟩ := G7.cp
                          obtain ⟨_, r71⟩ := HCN.out _ G7.bn 1 (by omega)
                          have G8 : RlG w wn (wr.alloc (.cells #[.int .i64 (k : Nat), .int .i64 ((ns.getD 0 0 : Nat) : Int), .int .i64 ((ns.getD 1 0 : Nat) : Int)] 38)) wr.heap.size k (ns.getD 0 0) (ns.getD 1 0) := HGN.out _ _
                          obtain ⟨p80, p81, p82, f81, f82⟩ := G8.cp
                          have HGF := (show Hid _ from G8)
                          have hki : (k : Int) ≤ 10 := by omega
                          clear ho ht hox G6 HGN HCN hA hE hN D0 D1 G7 G8
                          have hn0i : (0 : Int) < (ns.length : Int) := by omega
                          have hn1i : (1 : Int) < (ns.length : Int) := by omega
                          generalize hg0 : ns.getD 0 0 = x0 at *
                          generalize hg1 : ns.getD 1 0 = x1 at *
                          obtain ⟨OX, hOX⟩ : ∃ OX, opX ns k = OX := ⟨_, rfl⟩
                          rw [hOX] at HLN HCM HRY HOX
                          have HOE := (show Hid (opX ns k = OX) from hOX)
                          clear hOX
                          have HN6 := (show Hid (lnT OX ≠ s → ∀ j, 1 ≤ j → j < k + 1 → lnT (opX ns j) ≠ s) from fun h j h1 h2 => by
                            by_cases e : j = k
                            · subst e; rw [HOE.out]; exact h
                            · exact HJ.out.2 j h1 (by omega))
                          generalize bs (lnT OX) = sQ at *
                          generalize ns.length = nl at *
                          by_cases hls : lnT OX = s
                          · have hcm : (sQ.toList == sX.toList) = true := HCM.out.trans (decide_eq_true hls)
                            have HY := (show Hid _ from HRY.out hls)
                            clear hls HCM HN6 HRY
                            go_wp2_with fail
                            refine Calls.mono (HA.out _) ?_
                            rintro e w5 ⟨rfl, hw5⟩
                            rw [hw5]
                            clear hw5 w5
                            go_wp2_with fail
                            refine Calls.mono (HT.out _) ?_
                            rintro e w5 ⟨rfl, hw5⟩
                            rw [hw5]
                            clear hw5 w5
                            go_wp2_with fail
                            refine Calls.mono (HLN.out _) ?_
                            rintro e w9 ⟨rfl, hb9⟩
                            have G9 := HGF.out.still hb9
                            obtain ⟨p90, p91, p92, f91, f92⟩ := G9.cp
                            have bx := G9.bz
                            have c0 := bx.cell 0 (by simp)
                            have c1 := bx.cell 1 (by simp)
                            have c2 := bx.cell 2 (by simp)
                            have f0 := bx.frozen 0
                            have f1 := bx.frozen 1
                            have f2 := bx.frozen 2
                            simp only [List.getD_cons_zero, List.getD_cons_succ] at c0 c1 c2
                            have q3 := bx.set3 (.int .i64 (k : Nat)) (.int .i64 ((x0 : Nat) : Int)) (.int .i64 ((x1 : Nat) : Int))
                            have Z0 := q3.cell 0 (by simp)
                            have Z1 := q3.cell 1 (by simp)
                            have Z2 := q3.cell 2 (by simp)
                            simp only [List.getD_cons_zero, List.getD_cons_succ] at Z0 Z1 Z2
                            have HB9 := (show Hid (Below w.heap.size w w9) from G9.bw)
                            clear q3 bx G9 hb9 HGF
                            go_wp2_with fail
                            refine bodyPost_ret (v := .tuple #[.agg #[.int .i64 (k : Nat), .int .i64 ((x0 : Nat) : Int), .int .i64 ((x1 : Nat) : Int)], .bool true]) (by simp [results, Tryd.results22, go_sem, Z0, Z1, Z2]) rfl ?_
                            refine ⟨OX, true, ?_, bel_set3 HB9.out (Nat.le_refl _) _ _ _, fun _ => HY.out, fun h => (by cases h)⟩
                            first | (rw [HOX.out]; done) | (rw [HOX.out]; rfl)
                          · have hcm : (sQ.toList == sX.toList) = false := HCM.out.trans (decide_eq_false hls)
                            have HN7 := (show Hid _ from HN6.out hls)
                            clear hls HCM HN6 HRY
                            go_wp2_with fail
                            refine Calls.mono (HA.out _) ?_
                            rintro e w5 ⟨rfl, hw5⟩
                            rw [hw5]
                            clear hw5 w5
                            go_wp2_with fail
                            refine Calls.mono (HT.out _) ?_
                            rintro e w5 ⟨rfl, hw5⟩
                            rw [hw5]
                            clear hw5 w5
                            go_wp2_with fail
                            refine Calls.mono (HLN.out _) ?_
                            rintro e w9 ⟨rfl, hb9⟩
                            have G9 := HGF.out.still hb9
                            obtain ⟨p90, p91, p92, f91, f92⟩ := G9.cp
                            have HB9 := (show Hid (Below wn.heap.size wn w9) from G9.bn)
                            clear G9 hb9 HGF
                            go_wp2_with fail
                            exact ⟨⟨k + 1, by go_num, by omega, by omega, HB9.out, HN7.out⟩, by simp [RowKit.intOf]; omega⟩
                  · have D1 : decide (1 < ns.length) = false := decide_eq_false n1
                    cases hA : hnB (k : Int)
                    · rw [hA] at HA
                      cases hE : decide ((k : Int) = 10)
                      · have he : ((k : Int) == 10) = false := hE
                        cases hN : htB (k : Int)
                        · rw [hN] at HT
                          have ho : oN ns k = false := by unfold oN; rw [D0, hA, hE]; rfl
                          have ht : oT ns k = false := by unfold oT; rw [ho]; show (decide (0 < ns.length) && htB (k : Int)) = _; rw [D0, hN]; rfl
                          have hox : opX ns k = ⟨(k : Nat), ((0 : Nat) : Int), ((0 : Nat) : Int)⟩ := by unfold opX; rw [ho, ht]; rfl
                          have HLN := (show Hid (∀ w', Calls Tryd.prog 15 #[.agg #[.int .i64 (k : Nat), .int .i64 ((0 : Nat) : Int), .int .i64 ((0 : Nat) : Int)]] w' fun e w'' => e = .returned (.string (bs (lnT (opX ns k)))) ∧ Below w'.heap.size w' w'') from fun w' => by
                            rw [hox]
                            exact line15 _ ⟨⟨by show (1 : Int) ≤ (k : Int); omega, by show (k : Int) ≤ 10; omega⟩, ⟨by show (0 : Int) ≤ ((0 : Nat) : Int); omega, by show ((0 : Nat) : Int) ≤ 1000000; omega⟩, ⟨by show (0 : Int) ≤ ((0 : Nat) : Int); omega, by show ((0 : Nat) : Int) ≤ 1000000; omega⟩⟩ w')
                          have HCM := (show Hid (((bs (lnT (opX ns k))).toList == sX.toList) = decide (lnT (opX ns k) = s)) from HEQ.out _)
                          have HRY := (show Hid (lnT (opX ns k) = s → rdl s = some (opX ns k)) from fun h => rdl_op HNB.out hk1 hk10 h)
                          have HOX := (show Hid _ from hox)
                          have G6 : RlG w wn (wr.alloc (.cells #[.int .i64 (k : Nat), .int .i64 0, .int .i64 0] 38)) wr.heap.size k (0) (0) := HGN.out _ _
                          obtain ⟨p60, p61, p62, f61, f62⟩ := G6.cp
                          have HGF := (show Hid _ from G6)
                          have hki : (k : Int) ≤ 10 := by omega
                          clear ho ht hox G6 HGN HCN hA hE hN D0 D1
                          have hn0i : (0 : Int) < (ns.length : Int) := by omega
                          have hn1i : ¬ (1 : Int) < (ns.length : Int) := by omega
                          obtain ⟨OX, hOX⟩ : ∃ OX, opX ns k = OX := ⟨_, rfl⟩
                          rw [hOX] at HLN HCM HRY HOX
                          have HOE := (show Hid (opX ns k = OX) from hOX)
                          clear hOX
                          have HN6 := (show Hid (lnT OX ≠ s → ∀ j, 1 ≤ j → j < k + 1 → lnT (opX ns j) ≠ s) from fun h j h1 h2 => by
                            by_cases e : j = k
                            · subst e; rw [HOE.out]; exact h
                            · exact HJ.out.2 j h1 (by omega))
                          generalize bs (lnT OX) = sQ at *
                          generalize ns.length = nl at *
                          by_cases hls : lnT OX = s
                          · have hcm : (sQ.toList == sX.toList) = true := HCM.out.trans (decide_eq_true hls)
                            have HY := (show Hid _ from HRY.out hls)
                            clear hls HCM HN6 HRY
                            go_wp2_with fail
                            refine Calls.mono (HA.out _) ?_
                            rintro e w5 ⟨rfl, hw5⟩
                            rw [hw5]
                            clear hw5 w5
                            go_wp2_with fail
                            refine Calls.mono (HT.out _) ?_
                            rintro e w5 ⟨rfl, hw5⟩
                            rw [hw5]
                            clear hw5 w5
                            go_wp2_with fail
                            refine Calls.mono (HLN.out _) ?_
                            rintro e w9 ⟨rfl, hb9⟩
                            have G9 := HGF.out.still hb9
                            obtain ⟨p90, p91, p92, f91, f92⟩ := G9.cp
                            have bx := G9.bz
                            have c0 := bx.cell 0 (by simp)
                            have c1 := bx.cell 1 (by simp)
                            have c2 := bx.cell 2 (by simp)
                            have f0 := bx.frozen 0
                            have f1 := bx.frozen 1
                            have f2 := bx.frozen 2
                            simp only [List.getD_cons_zero, List.getD_cons_succ] at c0 c1 c2
                            have q3 := bx.set3 (.int .i64 (k : Nat)) (.int .i64 0) (.int .i64 0)
                            have Z0 := q3.cell 0 (by simp)
                            have Z1 := q3.cell 1 (by simp)
                            have Z2 := q3.cell 2 (by simp)
                            simp only [List.getD_cons_zero, List.getD_cons_succ] at Z0 Z1 Z2
                            have HB9 := (show Hid (Below w.heap.size w w9) from G9.bw)
                            clear q3 bx G9 hb9 HGF
                            go_wp2_with fail
                            refine bodyPost_ret (v := .tuple #[.agg #[.int .i64 (k : Nat), .int .i64 0, .int .i64 0], .bool true]) (by simp [results, Tryd.results22, go_sem, Z0, Z1, Z2]) rfl ?_
                            refine ⟨OX, true, ?_, bel_set3 HB9.out (Nat.le_refl _) _ _ _, fun _ => HY.out, fun h => (by cases h)⟩
                            first | (rw [HOX.out]; done) | (rw [HOX.out]; rfl)
                          · have hcm : (sQ.toList == sX.toList) = false := HCM.out.trans (decide_eq_false hls)
                            have HN7 := (show Hid _ from HN6.out hls)
                            clear hls HCM HN6 HRY
                            go_wp2_with fail
                            refine Calls.mono (HA.out _) ?_
                            rintro e w5 ⟨rfl, hw5⟩
                            rw [hw5]
                            clear hw5 w5
                            go_wp2_with fail
                            refine Calls.mono (HT.out _) ?_
                            rintro e w5 ⟨rfl, hw5⟩
                            rw [hw5]
                            clear hw5 w5
                            go_wp2_with fail
                            refine Calls.mono (HLN.out _) ?_
                            rintro e w9 ⟨rfl, hb9⟩
                            have G9 := HGF.out.still hb9
                            obtain ⟨p90, p91, p92, f91, f92⟩ := G9.cp
                            have HB9 := (show Hid (Below wn.heap.size wn w9) from G9.bn)
                            clear G9 hb9 HGF
                            go_wp2_with fail
                            exact ⟨⟨k + 1, by go_num, by omega, by omega, HB9.out, HN7.out⟩, by simp [RowKit.intOf]; omega⟩
                        · rw [hN] at HT
                          have ho : oN ns k = false := by unfold oN; rw [D0, hA, hE]; rfl
                          have ht : oT ns k = true := by unfold oT; rw [ho]; show (decide (0 < ns.length) && htB (k : Int)) = _; rw [D0, hN]; rfl
                          have hox : opX ns k = ⟨(k : Nat), ((0 : Nat) : Int), ((ns.getD 0 0 : Nat) : Int)⟩ := by unfold opX; rw [ho, ht]; rfl
                          have hx0 : ns.getD 0 0 ≤ 999999 := HNG.out 0
                          have HLN := (show Hid (∀ w', Calls Tryd.prog 15 #[.agg #[.int .i64 (k : Nat), .int .i64 ((0 : Nat) : Int), .int .i64 ((ns.getD 0 0 : Nat) : Int)]] w' fun e w'' => e = .returned (.string (bs (lnT (opX ns k)))) ∧ Below w'.heap.size w' w'') from fun w' => by
                            rw [hox]
                            exact line15 _ ⟨⟨by show (1 : Int) ≤ (k : Int); omega, by show (k : Int) ≤ 10; omega⟩, ⟨by show (0 : Int) ≤ ((0 : Nat) : Int); omega, by show ((0 : Nat) : Int) ≤ 1000000; omega⟩, ⟨by show (0 : Int) ≤ ((ns.getD 0 0 : Nat) : Int); omega, by show ((ns.getD 0 0 : Nat) : Int) ≤ 1000000; omega⟩⟩ w')
                          have HCM := (show Hid (((bs (lnT (opX ns k))).toList == sX.toList) = decide (lnT (opX ns k) = s)) from HEQ.out _)
                          have HRY := (show Hid (lnT (opX ns k) = s → rdl s = some (opX ns k)) from fun h => rdl_op HNB.out hk1 hk10 h)
                          have HOX := (show Hid _ from hox)
                          have G6 : RlG w wn (wr.alloc (.cells #[.int .i64 (k : Nat), .int .i64 0, .int .i64 0] 38)) wr.heap.size k (0) (0) := HGN.out _ _
                          obtain ⟨p60, p61, p62, f61, f62⟩ := G6.cp
                          obtain ⟨rfl, r60⟩ := HCN.out _ G6.bn 0 (by omega)
                          have G8 : RlG w wn (wr.alloc (.cells #[.int .i64 (k : Nat), .int .i64 0, .int .i64 ((ns.getD 0 0 : Nat) : Int)] 38)) wr.heap.size k (0) (ns.getD 0 0) := HGN.out _ _
                          obtain ⟨p80, p81, p82, f81, f82⟩ := G8.cp
                          have HGF := (show Hid _ from G8)
                          have hki : (k : Int) ≤ 10 := by omega
                          clear ho ht hox G6 HGN HCN hA hE hN D0 D1 G8
                          have hn0i : (0 : Int) < (ns.length : Int) := by omega
                          have hn1i : ¬ (1 : Int) < (ns.length : Int) := by omega
                          generalize hg0 : ns.getD 0 0 = x0 at *
                          obtain ⟨OX, hOX⟩ : ∃ OX, opX ns k = OX := ⟨_, rfl⟩
                          rw [hOX] at HLN HCM HRY HOX
                          have HOE := (show Hid (opX ns k = OX) from hOX)
                          clear hOX
                          have HN6 := (show Hid (lnT OX ≠ s → ∀ j, 1 ≤ j → j < k + 1 → lnT (opX ns j) ≠ s) from fun h j h1 h2 => by
                            by_cases e : j = k
                            · subst e; rw [HOE.out]; exact h
                            · exact HJ.out.2 j h1 (by omega))
                          generalize bs (lnT OX) = sQ at *
                          generalize ns.length = nl at *
                          by_cases hls : lnT OX = s
                          · have hcm : (sQ.toList == sX.toList) = true := HCM.out.trans (decide_eq_true hls)
                            have HY := (show Hid _ from HRY.out hls)
                            clear hls HCM HN6 HRY
                            go_wp2_with fail
                            refine Calls.mono (HA.out _) ?_
                            rintro e w5 ⟨rfl, hw5⟩
                            rw [hw5]
                            clear hw5 w5
                            go_wp2_with fail
                            refine Calls.mono (HT.out _) ?_
                            rintro e w5 ⟨rfl, hw5⟩
                            rw [hw5]
                            clear hw5 w5
                            go_wp2_with fail
                            refine Calls.mono (HLN.out _) ?_
                            rintro e w9 ⟨rfl, hb9⟩
                            have G9 := HGF.out.still hb9
                            obtain ⟨p90, p91, p92, f91, f92⟩ := G9.cp
                            have bx := G9.bz
                            have c0 := bx.cell 0 (by simp)
                            have c1 := bx.cell 1 (by simp)
                            have c2 := bx.cell 2 (by simp)
                            have f0 := bx.frozen 0
                            have f1 := bx.frozen 1
                            have f2 := bx.frozen 2
                            simp only [List.getD_cons_zero, List.getD_cons_succ] at c0 c1 c2
                            have q3 := bx.set3 (.int .i64 (k : Nat)) (.int .i64 0) (.int .i64 ((x0 : Nat) : Int))
                            have Z0 := q3.cell 0 (by simp)
                            have Z1 := q3.cell 1 (by simp)
                            have Z2 := q3.cell 2 (by simp)
                            simp only [List.getD_cons_zero, List.getD_cons_succ] at Z0 Z1 Z2
                            have HB9 := (show Hid (Below w.heap.size w w9) from G9.bw)
                            clear q3 bx G9 hb9 HGF
                            go_wp2_with fail
                            refine bodyPost_ret (v := .tuple #[.agg #[.int .i64 (k : Nat), .int .i64 0, .int .i64 ((x0 : Nat) : Int)], .bool true]) (by simp [results, Tryd.results22, go_sem, Z0, Z1, Z2]) rfl ?_
                            refine ⟨OX, true, ?_, bel_set3 HB9.out (Nat.le_refl _) _ _ _, fun _ => HY.out, fun h => (by cases h)⟩
                            first | (rw [HOX.out]; done) | (rw [HOX.out]; rfl)
                          · have hcm : (sQ.toList == sX.toList) = false := HCM.out.trans (decide_eq_false hls)
                            have HN7 := (show Hid _ from HN6.out hls)
                            clear hls HCM HN6 HRY
                            go_wp2_with fail
                            refine Calls.mono (HA.out _) ?_
                            rintro e w5 ⟨rfl, hw5⟩
                            rw [hw5]
                            clear hw5 w5
                            go_wp2_with fail
                            refine Calls.mono (HT.out _) ?_
                            rintro e w5 ⟨rfl, hw5⟩
                            rw [hw5]
                            clear hw5 w5
                            go_wp2_with fail
                            refine Calls.mono (HLN.out _) ?_
                            rintro e w9 ⟨rfl, hb9⟩
                            have G9 := HGF.out.still hb9
                            obtain ⟨p90, p91, p92, f91, f92⟩ := G9.cp
                            have HB9 := (show Hid (Below wn.heap.size wn w9) from G9.bn)
                            clear G9 hb9 HGF
                            go_wp2_with fail
                            exact ⟨⟨k + 1, by go_num, by omega, by omega, HB9.out, HN7.out⟩, by simp [RowKit.intOf]; omega⟩
                      · have he : ((k : Int) == 10) = true := hE
                        cases hN : htB (k : Int)
                        · rw [hN] at HT
                          have ho : oN ns k = true := by unfold oN; rw [D0, hA, hE]; rfl
                          have ht : oT ns k = false := by unfold oT; rw [ho]; show (decide (1 < ns.length) && htB (k : Int)) = _; rw [D1, hN]; rfl
                          have hox : opX ns k = ⟨(k : Nat), ((ns.getD 0 0 : Nat) : Int), ((0 : Nat) : Int)⟩ := by unfold opX; rw [ho, ht]; rfl
                          have hx0 : ns.getD 0 0 ≤ 999999 := HNG.out 0
                          have HLN := (show Hid (∀ w', Calls Tryd.prog 15 #[.agg #[.int .i64 (k : Nat), .int .i64 ((ns.getD 0 0 : Nat) : Int), .int .i64 ((0 : Nat) : Int)]] w' fun e w'' => e = .returned (.string (bs (lnT (opX ns k)))) ∧ Below w'.heap.size w' w'') from fun w' => by
                            rw [hox]
                            exact line15 _ ⟨⟨by show (1 : Int) ≤ (k : Int); omega, by show (k : Int) ≤ 10; omega⟩, ⟨by show (0 : Int) ≤ ((ns.getD 0 0 : Nat) : Int); omega, by show ((ns.getD 0 0 : Nat) : Int) ≤ 1000000; omega⟩, ⟨by show (0 : Int) ≤ ((0 : Nat) : Int); omega, by show ((0 : Nat) : Int) ≤ 1000000; omega⟩⟩ w')
                          have HCM := (show Hid (((bs (lnT (opX ns k))).toList == sX.toList) = decide (lnT (opX ns k) = s)) from HEQ.out _)
                          have HRY := (show Hid (lnT (opX ns k) = s → rdl s = some (opX ns k)) from fun h => rdl_op HNB.out hk1 hk10 h)
                          have HOX := (show Hid _ from hox)
                          have G6 : RlG w wn (wr.alloc (.cells #[.int .i64 (k : Nat), .int .i64 0, .int .i64 0] 38)) wr.heap.size k (0) (0) := HGN.out _ _
                          obtain ⟨p60, p61, p62, f61, f62⟩ := G6.cp
                          obtain ⟨rfl, r60⟩ := HCN.out _ G6.bn 0 (by omega)
                          have G7 : RlG w wn (wr.alloc (.cells #[.int .i64 (k : Nat), .int .i64 ((ns.getD 0 0 : Nat) : Int), .int .i64 0] 38)) wr.heap.size k (ns.getD 0 0) (0) := HGN.out _ _
                          obtain ⟨p70, p71, p72, f71, f72⟩ := G7.cp
                          have HGF := (show Hid _ from G7)
                          have hki : (k : Int) ≤ 10 := by omega
                          clear ho ht hox G6 HGN HCN hA hE hN D0 D1 G7
                          have hn0i : (0 : Int) < (ns.length : Int) := by omega
                          have hn1i : ¬ (1 : Int) < (ns.length : Int) := by omega
                          generalize hg0 : ns.getD 0 0 = x0 at *
                          obtain ⟨OX, hOX⟩ : ∃ OX, opX ns k = OX := ⟨_, rfl⟩
                          rw [hOX] at HLN HCM HRY HOX
                          have HOE := (show Hid (opX ns k = OX) from hOX)
                          clear hOX
                          have HN6 := (show Hid (lnT OX ≠ s → ∀ j, 1 ≤ j → j < k + 1 → lnT (opX ns j) ≠ s) from fun h j h1 h2 => by
                            by_cases e : j = k
                            · subst e; rw [HOE.out]; exact h
                            · exact HJ.out.2 j h1 (by omega))
                          generalize bs (lnT OX) = sQ at *
                          generalize ns.length = nl at *
                          by_cases hls : lnT OX = s
                          · have hcm : (sQ.toList == sX.toList) = true := HCM.out.trans (decide_eq_true hls)
                            have HY := (show Hid _ from HRY.out hls)
                            clear hls HCM HN6 HRY
                            go_wp2_with fail
                            refine Calls.mono (HA.out _) ?_
                            rintro e w5 ⟨rfl, hw5⟩
                            rw [hw5]
                            clear hw5 w5
                            go_wp2_with fail
                            refine Calls.mono (HLN.out _) ?_
                            rintro e w9 ⟨rfl, hb9⟩
                            have G9 := HGF.out.still hb9
                            obtain ⟨p90, p91, p92, f91, f92⟩ := G9.cp
                            have bx := G9.bz
                            have c0 := bx.cell 0 (by simp)
                            have c1 := bx.cell 1 (by simp)
                            have c2 := bx.cell 2 (by simp)
                            have f0 := bx.frozen 0
                            have f1 := bx.frozen 1
                            have f2 := bx.frozen 2
                            simp only [List.getD_cons_zero, List.getD_cons_succ] at c0 c1 c2
                            have q3 := bx.set3 (.int .i64 (k : Nat)) (.int .i64 ((x0 : Nat) : Int)) (.int .i64 0)
                            have Z0 := q3.cell 0 (by simp)
                            have Z1 := q3.cell 1 (by simp)
                            have Z2 := q3.cell 2 (by simp)
                            simp only [List.getD_cons_zero, List.getD_cons_succ] at Z0 Z1 Z2
                            have HB9 := (show Hid (Below w.heap.size w w9) from G9.bw)
                            clear q3 bx G9 hb9 HGF
                            go_wp2_with fail
                            refine bodyPost_ret (v := .tuple #[.agg #[.int .i64 (k : Nat), .int .i64 ((x0 : Nat) : Int), .int .i64 0], .bool true]) (by simp [results, Tryd.results22, go_sem, Z0, Z1, Z2]) rfl ?_
                            refine ⟨OX, true, ?_, bel_set3 HB9.out (Nat.le_refl _) _ _ _, fun _ => HY.out, fun h => (by cases h)⟩
                            first | (rw [HOX.out]; done) | (rw [HOX.out]; rfl)
                          · have hcm : (sQ.toList == sX.toList) = false := HCM.out.trans (decide_eq_false hls)
                            have HN7 := (show Hid _ from HN6.out hls)
                            clear hls HCM HN6 HRY
                            go_wp2_with fail
                            refine Calls.mono (HA.out _) ?_
                            rintro e w5 ⟨rfl, hw5⟩
                            rw [hw5]
                            clear hw5 w5
                            go_wp2_with fail
                            refine Calls.mono (HLN.out _) ?_
                            rintro e w9 ⟨rfl, hb9⟩
                            have G9 := HGF.out.still hb9
                            obtain ⟨p90, p91, p92, f91, f92⟩ := G9.cp
                            have HB9 := (show Hid (Below wn.heap.size wn w9) from G9.bn)
                            clear G9 hb9 HGF
                            go_wp2_with fail
                            exact ⟨⟨k + 1, by go_num, by omega, by omega, HB9.out, HN7.out⟩, by simp [RowKit.intOf]; omega⟩
                        · rw [hN] at HT
                          have ho : oN ns k = true := by unfold oN; rw [D0, hA, hE]; rfl
                          have ht : oT ns k = false := by unfold oT; rw [ho]; show (decide (1 < ns.length) && htB (k : Int)) = _; rw [D1, hN]; rfl
                          have hox : opX ns k = ⟨(k : Nat), ((ns.getD 0 0 : Nat) : Int), ((0 : Nat) : Int)⟩ := by unfold opX; rw [ho, ht]; rfl
                          have hx0 : ns.getD 0 0 ≤ 999999 := HNG.out 0
                          have HLN := (show Hid (∀ w', Calls Tryd.prog 15 #[.agg #[.int .i64 (k : Nat), .int .i64 ((ns.getD 0 0 : Nat) : Int), .int .i64 ((0 : Nat) : Int)]] w' fun e w'' => e = .returned (.string (bs (lnT (opX ns k)))) ∧ Below w'.heap.size w' w'') from fun w' => by
                            rw [hox]
                            exact line15 _ ⟨⟨by show (1 : Int) ≤ (k : Int); omega, by show (k : Int) ≤ 10; omega⟩, ⟨by show (0 : Int) ≤ ((ns.getD 0 0 : Nat) : Int); omega, by show ((ns.getD 0 0 : Nat) : Int) ≤ 1000000; omega⟩, ⟨by show (0 : Int) ≤ ((0 : Nat) : Int); omega, by show ((0 : Nat) : Int) ≤ 1000000; omega⟩⟩ w')
                          have HCM := (show Hid (((bs (lnT (opX ns k))).toList == sX.toList) = decide (lnT (opX ns k) = s)) from HEQ.out _)
                          have HRY := (show Hid (lnT (opX ns k) = s → rdl s = some (opX ns k)) from fun h => rdl_op HNB.out hk1 hk10 h)
                          have HOX := (show Hid _ from hox)
                          have G6 : RlG w wn (wr.alloc (.cells #[.int .i64 (k : Nat), .int .i64 0, .int .i64 0] 38)) wr.heap.size k (0) (0) := HGN.out _ _
                          obtain ⟨p60, p61, p62, f61, f62⟩ := G6.cp
                          obtain ⟨rfl, r60⟩ := HCN.out _ G6.bn 0 (by omega)
                          have G7 : RlG w wn (wr.alloc (.cells #[.int .i64 (k : Nat), .int .i64 ((ns.getD 0 0 : Nat) : Int), .int .i64 0] 38)) wr.heap.size k (ns.getD 0 0) (0) := HGN.out _ _
                          obtain ⟨p70, p71, p72, f71, f72⟩ := G7.cp
                          have HGF := (show Hid _ from G7)
                          have hki : (k : Int) ≤ 10 := by omega
                          clear ho ht hox G6 HGN HCN hA hE hN D0 D1 G7
                          have hn0i : (0 : Int) < (ns.length : Int) := by omega
                          have hn1i : ¬ (1 : Int) < (ns.length : Int) := by omega
                          generalize hg0 : ns.getD 0 0 = x0 at *
                          obtain ⟨OX, hOX⟩ : ∃ OX, opX ns k = OX := ⟨_, rfl⟩
                          rw [hOX] at HLN HCM HRY HOX
                          have HOE := (show Hid (opX ns k = OX) from hOX)
                          clear hOX
                          have HN6 := (show Hid (lnT OX ≠ s → ∀ j, 1 ≤ j → j < k + 1 → lnT (opX ns j) ≠ s) from fun h j h1 h2 => by
                            by_cases e : j = k
                            · subst e; rw [HOE.out]; exact h
                            · exact HJ.out.2 j h1 (by omega))
                          generalize bs (lnT OX) = sQ at *
                          generalize ns.length = nl at *
                          by_cases hls : lnT OX = s
                          · have hcm : (sQ.toList == sX.toList) = true := HCM.out.trans (decide_eq_true hls)
                            have HY := (show Hid _ from HRY.out hls)
                            clear hls HCM HN6 HRY
                            go_wp2_with fail
                            refine Calls.mono (HA.out _) ?_
                            rintro e w5 ⟨rfl, hw5⟩
                            rw [hw5]
                            clear hw5 w5
                            go_wp2_with fail
                            refine Calls.mono (HLN.out _) ?_
                            rintro e w9 ⟨rfl, hb9⟩
                            have G9 := HGF.out.still hb9
                            obtain ⟨p90, p91, p92, f91, f92⟩ := G9.cp
                            have bx := G9.bz
                            have c0 := bx.cell 0 (by simp)
                            have c1 := bx.cell 1 (by simp)
                            have c2 := bx.cell 2 (by simp)
                            have f0 := bx.frozen 0
                            have f1 := bx.frozen 1
                            have f2 := bx.frozen 2
                            simp only [List.getD_cons_zero, List.getD_cons_succ] at c0 c1 c2
                            have q3 := bx.set3 (.int .i64 (k : Nat)) (.int .i64 ((x0 : Nat) : Int)) (.int .i64 0)
                            have Z0 := q3.cell 0 (by simp)
                            have Z1 := q3.cell 1 (by simp)
                            have Z2 := q3.cell 2 (by simp)
                            simp only [List.getD_cons_zero, List.getD_cons_succ] at Z0 Z1 Z2
                            have HB9 := (show Hid (Below w.heap.size w w9) from G9.bw)
                            clear q3 bx G9 hb9 HGF
                            go_wp2_with fail
                            refine bodyPost_ret (v := .tuple #[.agg #[.int .i64 (k : Nat), .int .i64 ((x0 : Nat) : Int), .int .i64 0], .bool true]) (by simp [results, Tryd.results22, go_sem, Z0, Z1, Z2]) rfl ?_
                            refine ⟨OX, true, ?_, bel_set3 HB9.out (Nat.le_refl _) _ _ _, fun _ => HY.out, fun h => (by cases h)⟩
                            first | (rw [HOX.out]; done) | (rw [HOX.out]; rfl)
                          · have hcm : (sQ.toList == sX.toList) = false := HCM.out.trans (decide_eq_false hls)
                            have HN7 := (show Hid _ from HN6.out hls)
                            clear hls HCM HN6 HRY
                            go_wp2_with fail
                            refine Calls.mono (HA.out _) ?_
                            rintro e w5 ⟨rfl, hw5⟩
                            rw [hw5]
                            clear hw5 w5
                            go_wp2_with fail
                            refine Calls.mono (HLN.out _) ?_
                            rintro e w9 ⟨rfl, hb9⟩
                            have G9 := HGF.out.still hb9
                            obtain ⟨p90, p91, p92, f91, f92⟩ := G9.cp
                            have HB9 := (show Hid (Below wn.heap.size wn w9) from G9.bn)
                            clear G9 hb9 HGF
                            go_wp2_with fail
                            exact ⟨⟨k + 1, by go_num, by omega, by omega, HB9.out, HN7.out⟩, by simp [RowKit.intOf]; omega⟩
                    · rw [hA] at HA
                      cases hE : decide ((k : Int) = 10)
                      · cases hN : htB (k : Int)
                        · rw [hN] at HT
                          have ho : oN ns k = true := by unfold oN; rw [D0, hA, hE]; rfl
                          have ht : oT ns k = false := by unfold oT; rw [ho]; show (decide (1 < ns.length) && htB (k : Int)) = _; rw [D1, hN]; rfl
                          have hox : opX ns k = ⟨(k : Nat), ((ns.getD 0 0 : Nat) : Int), ((0 : Nat) : Int)⟩ := by unfold opX; rw [ho, ht]; rfl
                          have hx0 : ns.getD 0 0 ≤ 999999 := HNG.out 0
                          have HLN := (show Hid (∀ w', Calls Tryd.prog 15 #[.agg #[.int .i64 (k : Nat), .int .i64 ((ns.getD 0 0 : Nat) : Int), .int .i64 ((0 : Nat) : Int)]] w' fun e w'' => e = .returned (.string (bs (lnT (opX ns k)))) ∧ Below w'.heap.size w' w'') from fun w' => by
                            rw [hox]
                            exact line15 _ ⟨⟨by show (1 : Int) ≤ (k : Int); omega, by show (k : Int) ≤ 10; omega⟩, ⟨by show (0 : Int) ≤ ((ns.getD 0 0 : Nat) : Int); omega, by show ((ns.getD 0 0 : Nat) : Int) ≤ 1000000; omega⟩, ⟨by show (0 : Int) ≤ ((0 : Nat) : Int); omega, by show ((0 : Nat) : Int) ≤ 1000000; omega⟩⟩ w')
                          have HCM := (show Hid (((bs (lnT (opX ns k))).toList == sX.toList) = decide (lnT (opX ns k) = s)) from HEQ.out _)
                          have HRY := (show Hid (lnT (opX ns k) = s → rdl s = some (opX ns k)) from fun h => rdl_op HNB.out hk1 hk10 h)
                          have HOX := (show Hid _ from hox)
                          have G6 : RlG w wn (wr.alloc (.cells #[.int .i64 (k : Nat), .int .i64 0, .int .i64 0] 38)) wr.heap.size k (0) (0) := HGN.out _ _
                          obtain ⟨p60, p61, p62, f61, f62⟩ := G6.cp
                          obtain ⟨rfl, r60⟩ := HCN.out _ G6.bn 0 (by omega)
                          have G7 : RlG w wn (wr.alloc (.cells #[.int .i64 (k : Nat), .int .i64 ((ns.getD 0 0 : Nat) : Int), .int .i64 0] 38)) wr.heap.size k (ns.getD 0 0) (0) := HGN.out _ _
                          obtain ⟨p70, p71, p72, f71, f72⟩ := G7.cp
                          have HGF := (show Hid _ from G7)
                          have hki : (k : Int) ≤ 10 := by omega
                          clear ho ht hox G6 HGN HCN hA hE hN D0 D1 G7
                          have hn0i : (0 : Int) < (ns.length : Int) := by omega
                          have hn1i : ¬ (1 : Int) < (ns.length : Int) := by omega
                          generalize hg0 : ns.getD 0 0 = x0 at *
                          obtain ⟨OX, hOX⟩ : ∃ OX, opX ns k = OX := ⟨_, rfl⟩
                          rw [hOX] at HLN HCM HRY HOX
                          have HOE := (show Hid (opX ns k = OX) from hOX)
                          clear hOX
                          have HN6 := (show Hid (lnT OX ≠ s → ∀ j, 1 ≤ j → j < k + 1 → lnT (opX ns j) ≠ s) from fun h j h1 h2 => by
                            by_cases e : j = k
                            · subst e; rw [HOE.out]; exact h
                            · exact HJ.out.2 j h1 (by omega))
                          generalize bs (lnT OX) = sQ at *
                          generalize ns.length = nl at *
                          by_cases hls : lnT OX = s
                          · have hcm : (sQ.toList == sX.toList) = true := HCM.out.trans (decide_eq_true hls)
                            have HY := (show Hid _ from HRY.out hls)
                            clear hls HCM HN6 HRY
                            go_wp2_with fail
                            refine Calls.mono (HA.out _) ?_
                            rintro e w5 ⟨rfl, hw5⟩
                            rw [hw5]
                            clear hw5 w5
                            go_wp2_with fail
                            refine Calls.mono (HLN.out _) ?_
                            rintro e w9 ⟨rfl, hb9⟩
                            have G9 := HGF.out.still hb9
                            obtain ⟨p90, p91, p92, f91, f92⟩ := G9.cp
                            have bx := G9.bz
                            have c0 := bx.cell 0 (by simp)
                            have c1 := bx.cell 1 (by simp)
                            have c2 := bx.cell 2 (by simp)
                            have f0 := bx.frozen 0
                            have f1 := bx.frozen 1
                            have f2 := bx.frozen 2
                            simp only [List.getD_cons_zero, List.getD_cons_succ] at c0 c1 c2
                            have q3 := bx.set3 (.int .i64 (k : Nat)) (.int .i64 ((x0 : Nat) : Int)) (.int .i64 0)
                            have Z0 := q3.cell 0 (by simp)
                            have Z1 := q3.cell 1 (by simp)
                            have Z2 := q3.cell 2 (by simp)
                            simp only [List.getD_cons_zero, List.getD_cons_succ] at Z0 Z1 Z2
                            have HB9 := (show Hid (Below w.heap.size w w9) from G9.bw)
                            clear q3 bx G9 hb9 HGF
                            go_wp2_with fail
                            refine bodyPost_ret (v := .tuple #[.agg #[.int .i64 (k : Nat), .int .i64 ((x0 : Nat) : Int), .int .i64 0], .bool true]) (by simp [results, Tryd.results22, go_sem, Z0, Z1, Z2]) rfl ?_
                            refine ⟨OX, true, ?_, bel_set3 HB9.out (Nat.le_refl _) _ _ _, fun _ => HY.out, fun h => (by cases h)⟩
                            first | (rw [HOX.out]; done) | (rw [HOX.out]; rfl)
                          · have hcm : (sQ.toList == sX.toList) = false := HCM.out.trans (decide_eq_false hls)
                            have HN7 := (show Hid _ from HN6.out hls)
                            clear hls HCM HN6 HRY
                            go_wp2_with fail
                            refine Calls.mono (HA.out _) ?_
                            rintro e w5 ⟨rfl, hw5⟩
                            rw [hw5]
                            clear hw5 w5
                            go_wp2_with fail
                            refine Calls.mono (HLN.out _) ?_
                            rintro e w9 ⟨rfl, hb9⟩
                            have G9 := HGF.out.still hb9
                            obtain ⟨p90, p91, p92, f91, f92⟩ := G9.cp
                            have HB9 := (show Hid (Below wn.heap.size wn w9) from G9.bn)
                            clear G9 hb9 HGF
                            go_wp2_with fail
                            exact ⟨⟨k + 1, by go_num, by omega, by omega, HB9.out, HN7.out⟩, by simp [RowKit.intOf]; omega⟩
                        · rw [hN] at HT
                          have ho : oN ns k = true := by unfold oN; rw [D0, hA, hE]; rfl
                          have ht : oT ns k = false := by unfold oT; rw [ho]; show (decide (1 < ns.length) && htB (k : Int)) = _; rw [D1, hN]; rfl
                          have hox : opX ns k = ⟨(k : Nat), ((ns.getD 0 0 : Nat) : Int), ((0 : Nat) : Int)⟩ := by unfold opX; rw [ho, ht]; rfl
                          have hx0 : ns.getD 0 0 ≤ 999999 := HNG.out 0
                          have HLN := (show Hid (∀ w', Calls Tryd.prog 15 #[.agg #[.int .i64 (k : Nat), .int .i64 ((ns.getD 0 0 : Nat) : Int), .int .i64 ((0 : Nat) : Int)]] w' fun e w'' => e = .returned (.string (bs (lnT (opX ns k)))) ∧ Below w'.heap.size w' w'') from fun w' => by
                            rw [hox]
                            exact line15 _ ⟨⟨by show (1 : Int) ≤ (k : Int); omega, by show (k : Int) ≤ 10; omega⟩, ⟨by show (0 : Int) ≤ ((ns.getD 0 0 : Nat) : Int); omega, by show ((ns.getD 0 0 : Nat) : Int) ≤ 1000000; omega⟩, ⟨by show (0 : Int) ≤ ((0 : Nat) : Int); omega, by show ((0 : Nat) : Int) ≤ 1000000; omega⟩⟩ w')
                          have HCM := (show Hid (((bs (lnT (opX ns k))).toList == sX.toList) = decide (lnT (opX ns k) = s)) from HEQ.out _)
                          have HRY := (show Hid (lnT (opX ns k) = s → rdl s = some (opX ns k)) from fun h => rdl_op HNB.out hk1 hk10 h)
                          have HOX := (show Hid _ from hox)
                          have G6 : RlG w wn (wr.alloc (.cells #[.int .i64 (k : Nat), .int .i64 0, .int .i64 0] 38)) wr.heap.size k (0) (0) := HGN.out _ _
                          obtain ⟨p60, p61, p62, f61, f62⟩ := G6.cp
                          obtain ⟨rfl, r60⟩ := HCN.out _ G6.bn 0 (by omega)
                          have G7 : RlG w wn (wr.alloc (.cells #[.int .i64 (k : Nat), .int .i64 ((ns.getD 0 0 : Nat) : Int), .int .i64 0] 38)) wr.heap.size k (ns.getD 0 0) (0) := HGN.out _ _
                          obtain ⟨p70, p71, p72, f71, f72⟩ := G7.cp
                          have HGF := (show Hid _ from G7)
                          have hki : (k : Int) ≤ 10 := by omega
                          clear ho ht hox G6 HGN HCN hA hE hN D0 D1 G7
                          have hn0i : (0 : Int) < (ns.length : Int) := by omega
                          have hn1i : ¬ (1 : Int) < (ns.length : Int) := by omega
                          generalize hg0 : ns.getD 0 0 = x0 at *
                          obtain ⟨OX, hOX⟩ : ∃ OX, opX ns k = OX := ⟨_, rfl⟩
                          rw [hOX] at HLN HCM HRY HOX
                          have HOE := (show Hid (opX ns k = OX) from hOX)
                          clear hOX
                          have HN6 := (show Hid (lnT OX ≠ s → ∀ j, 1 ≤ j → j < k + 1 → lnT (opX ns j) ≠ s) from fun h j h1 h2 => by
                            by_cases e : j = k
                            · subst e; rw [HOE.out]; exact h
                            · exact HJ.out.2 j h1 (by omega))
                          generalize bs (lnT OX) = sQ at *
                          generalize ns.length = nl at *
                          by_cases hls : lnT OX = s
                          · have hcm : (sQ.toList == sX.toList) = true := HCM.out.trans (decide_eq_true hls)
                            have HY := (show Hid _ from HRY.out hls)
                            clear hls HCM HN6 HRY
                            go_wp2_with fail
                            refine Calls.mono (HA.out _) ?_
                            rintro e w5 ⟨rfl, hw5⟩
                            rw [hw5]
                            clear hw5 w5
                            go_wp2_with fail
                            refine Calls.mono (HLN.out _) ?_
                            rintro e w9 ⟨rfl, hb9⟩
                            have G9 := HGF.out.still hb9
                            obtain ⟨p90, p91, p92, f91, f92⟩ := G9.cp
                            have bx := G9.bz
                            have c0 := bx.cell 0 (by simp)
                            have c1 := bx.cell 1 (by simp)
                            have c2 := bx.cell 2 (by simp)
                            have f0 := bx.frozen 0
                            have f1 := bx.frozen 1
                            have f2 := bx.frozen 2
                            simp only [List.getD_cons_zero, List.getD_cons_succ] at c0 c1 c2
                            have q3 := bx.set3 (.int .i64 (k : Nat)) (.int .i64 ((x0 : Nat) : Int)) (.int .i64 0)
                            have Z0 := q3.cell 0 (by simp)
                            have Z1 := q3.cell 1 (by simp)
                            have Z2 := q3.cell 2 (by simp)
                            simp only [List.getD_cons_zero, List.getD_cons_succ] at Z0 Z1 Z2
                            have HB9 := (show Hid (Below w.heap.size w w9) from G9.bw)
                            clear q3 bx G9 hb9 HGF
                            go_wp2_with fail
                            refine bodyPost_ret (v := .tuple #[.agg #[.int .i64 (k : Nat), .int .i64 ((x0 : Nat) : Int), .int .i64 0], .bool true]) (by simp [results, Tryd.results22, go_sem, Z0, Z1, Z2]) rfl ?_
                            refine ⟨OX, true, ?_, bel_set3 HB9.out (Nat.le_refl _) _ _ _, fun _ => HY.out, fun h => (by cases h)⟩
                            first | (rw [HOX.out]; done) | (rw [HOX.out]; rfl)
                          · have hcm : (sQ.toList == sX.toList) = false := HCM.out.trans (decide_eq_false hls)
                            have HN7 := (show Hid _ from HN6.out hls)
                            clear hls HCM HN6 HRY
                            go_wp2_with fail
                            refine Calls.mono (HA.out _) ?_
                            rintro e w5 ⟨rfl, hw5⟩
                            rw [hw5]
                            clear hw5 w5
                            go_wp2_with fail
                            refine Calls.mono (HLN.out _) ?_
                            rintro e w9 ⟨rfl, hb9⟩
                            have G9 := HGF.out.still hb9
                            obtain ⟨p90, p91, p92, f91, f92⟩ := G9.cp
                            have HB9 := (show Hid (Below wn.heap.size wn w9) from G9.bn)
                            clear G9 hb9 HGF
                            go_wp2_with fail
                            exact ⟨⟨k + 1, by go_num, by omega, by omega, HB9.out, HN7.out⟩, by simp [RowKit.intOf]; omega⟩
                      · cases hN : htB (k : Int)
                        · rw [hN] at HT
                          have ho : oN ns k = true := by unfold oN; rw [D0, hA, hE]; rfl
                          have ht : oT ns k = false := by unfold oT; rw [ho]; show (decide (1 < ns.length) && htB (k : Int)) = _; rw [D1, hN]; rfl
                          have hox : opX ns k = ⟨(k : Nat), ((ns.getD 0 0 : Nat) : Int), ((0 : Nat) : Int)⟩ := by unfold opX; rw [ho, ht]; rfl
                          have hx0 : ns.getD 0 0 ≤ 999999 := HNG.out 0
                          have HLN := (show Hid (∀ w', Calls Tryd.prog 15 #[.agg #[.int .i64 (k : Nat), .int .i64 ((ns.getD 0 0 : Nat) : Int), .int .i64 ((0 : Nat) : Int)]] w' fun e w'' => e = .returned (.string (bs (lnT (opX ns k)))) ∧ Below w'.heap.size w' w'') from fun w' => by
                            rw [hox]
                            exact line15 _ ⟨⟨by show (1 : Int) ≤ (k : Int); omega, by show (k : Int) ≤ 10; omega⟩, ⟨by show (0 : Int) ≤ ((ns.getD 0 0 : Nat) : Int); omega, by show ((ns.getD 0 0 : Nat) : Int) ≤ 1000000; omega⟩, ⟨by show (0 : Int) ≤ ((0 : Nat) : Int); omega, by show ((0 : Nat) : Int) ≤ 1000000; omega⟩⟩ w')
                          have HCM := (show Hid (((bs (lnT (opX ns k))).toList == sX.toList) = decide (lnT (opX ns k) = s)) from HEQ.out _)
                          have HRY := (show Hid (lnT (opX ns k) = s → rdl s = some (opX ns k)) from fun h => rdl_op HNB.out hk1 hk10 h)
                          have HOX := (show Hid _ from hox)
                          have G6 : RlG w wn (wr.alloc (.cells #[.int .i64 (k : Nat), .int .i64 0, .int .i64 0] 38)) wr.heap.size k (0) (0) := HGN.out _ _
                          obtain ⟨p60, p61, p62, f61, f62⟩ := G6.cp
                          obtain ⟨rfl, r60⟩ := HCN.out _ G6.bn 0 (by omega)
                          have G7 : RlG w wn (wr.alloc (.cells #[.int .i64 (k : Nat), .int .i64 ((ns.getD 0 0 : Nat) : Int), .int .i64 0] 38)) wr.heap.size k (ns.getD 0 0) (0) := HGN.out _ _
                          obtain ⟨p70, p71, p72, f71, f72⟩ := G7.cp
                          have HGF := (show Hid _ from G7)
                          have hki : (k : Int) ≤ 10 := by omega
                          clear ho ht hox G6 HGN HCN hA hE hN D0 D1 G7
                          have hn0i : (0 : Int) < (ns.length : Int) := by omega
                          have hn1i : ¬ (1 : Int) < (ns.length : Int) := by omega
                          generalize hg0 : ns.getD 0 0 = x0 at *
                          obtain ⟨OX, hOX⟩ : ∃ OX, opX ns k = OX := ⟨_, rfl⟩
                          rw [hOX] at HLN HCM HRY HOX
                          have HOE := (show Hid (opX ns k = OX) from hOX)
                          clear hOX
                          have HN6 := (show Hid (lnT OX ≠ s → ∀ j, 1 ≤ j → j < k + 1 → lnT (opX ns j) ≠ s) from fun h j h1 h2 => by
                            by_cases e : j = k
                            · subst e; rw [HOE.out]; exact h
                            · exact HJ.out.2 j h1 (by omega))
                          generalize bs (lnT OX) = sQ at *
                          generalize ns.length = nl at *
                          by_cases hls : lnT OX = s
                          · have hcm : (sQ.toList == sX.toList) = true := HCM.out.trans (decide_eq_true hls)
                            have HY := (show Hid _ from HRY.out hls)
                            clear hls HCM HN6 HRY
                            go_wp2_with fail
                            refine Calls.mono (HA.out _) ?_
                            rintro e w5 ⟨rfl, hw5⟩
                            rw [hw5]
                            clear hw5 w5
                            go_wp2_with fail
                            refine Calls.mono (HLN.out _) ?_
                            rintro e w9 ⟨rfl, hb9⟩
                            have G9 := HGF.out.still hb9
                            obtain ⟨p90, p91, p92, f91, f92⟩ := G9.cp
                            have bx := G9.bz
                            have c0 := bx.cell 0 (by simp)
                            have c1 := bx.cell 1 (by simp)
                            have c2 := bx.cell 2 (by simp)
                            have f0 := bx.frozen 0
                            have f1 := bx.frozen 1
                            have f2 := bx.frozen 2
                            simp only [List.getD_cons_zero, List.getD_cons_succ] at c0 c1 c2
                            have q3 := bx.set3 (.int .i64 (k : Nat)) (.int .i64 ((x0 : Nat) : Int)) (.int .i64 0)
                            have Z0 := q3.cell 0 (by simp)
                            have Z1 := q3.cell 1 (by simp)
                            have Z2 := q3.cell 2 (by simp)
                            simp only [List.getD_cons_zero, List.getD_cons_succ] at Z0 Z1 Z2
                            have HB9 := (show Hid (Below w.heap.size w w9) from G9.bw)
                            clear q3 bx G9 hb9 HGF
                            go_wp2_with fail
                            refine bodyPost_ret (v := .tuple #[.agg #[.int .i64 (k : Nat), .int .i64 ((x0 : Nat) : Int), .int .i64 0], .bool true]) (by simp [results, Tryd.results22, go_sem, Z0, Z1, Z2]) rfl ?_
                            refine ⟨OX, true, ?_, bel_set3 HB9.out (Nat.le_refl _) _ _ _, fun _ => HY.out, fun h => (by cases h)⟩
                            first | (rw [HOX.out]; done) | (rw [HOX.out]; rfl)
                          · have hcm : (sQ.toList == sX.toList) = false := HCM.out.trans (decide_eq_false hls)
                            have HN7 := (show Hid _ from HN6.out hls)
                            clear hls HCM HN6 HRY
                            go_wp2_with fail
                            refine Calls.mono (HA.out _) ?_
                            rintro e w5 ⟨rfl, hw5⟩
                            rw [hw5]
                            clear hw5 w5
                            go_wp2_with fail
                            refine Calls.mono (HLN.out _) ?_
                            rintro e w9 ⟨rfl, hb9⟩
                            have G9 := HGF.out.still hb9
                            obtain ⟨p90, p91, p92, f91, f92⟩ := G9.cp
                            have HB9 := (show Hid (Below wn.heap.size wn w9) from G9.bn)
                            clear G9 hb9 HGF
                            go_wp2_with fail
                            exact ⟨⟨k + 1, by go_num, by omega, by omega, HB9.out, HN7.out⟩, by simp [RowKit.intOf]; omega⟩
                        · rw [hN] at HT
                          have ho : oN ns k = true := by unfold oN; rw [D0, hA, hE]; rfl
                          have ht : oT ns k = false := by unfold oT; rw [ho]; show (decide (1 < ns.length) && htB (k : Int)) = _; rw [D1, hN]; rfl
                          have hox : opX ns k = ⟨(k : Nat), ((ns.getD 0 0 : Nat) : Int), ((0 : Nat) : Int)⟩ := by unfold opX; rw [ho, ht]; rfl
                          have hx0 : ns.getD 0 0 ≤ 999999 := HNG.out 0
                          have HLN := (show Hid (∀ w', Calls Tryd.prog 15 #[.agg #[.int .i64 (k : Nat), .int .i64 ((ns.getD 0 0 : Nat) : Int), .int .i64 ((0 : Nat) : Int)]] w' fun e w'' => e = .returned (.string (bs (lnT (opX ns k)))) ∧ Below w'.heap.size w' w'') from fun w' => by
                            rw [hox]
                            exact line15 _ ⟨⟨by show (1 : Int) ≤ (k : Int); omega, by show (k : Int) ≤ 10; omega⟩, ⟨by show (0 : Int) ≤ ((ns.getD 0 0 : Nat) : Int); omega, by show ((ns.getD 0 0 : Nat) : Int) ≤ 1000000; omega⟩, ⟨by show (0 : Int) ≤ ((0 : Nat) : Int); omega, by show ((0 : Nat) : Int) ≤ 1000000; omega⟩⟩ w')
                          have HCM := (show Hid (((bs (lnT (opX ns k))).toList == sX.toList) = decide (lnT (opX ns k) = s)) from HEQ.out _)
                          have HRY := (show Hid (lnT (opX ns k) = s → rdl s = some (opX ns k)) from fun h => rdl_op HNB.out hk1 hk10 h)
                          have HOX := (show Hid _ from hox)
                          have G6 : RlG w wn (wr.alloc (.cells #[.int .i64 (k : Nat), .int .i64 0, .int .i64 0] 38)) wr.heap.size k (0) (0) := HGN.out _ _
                          obtain ⟨p60, p61, p62, f61, f62⟩ := G6.cp
                          obtain ⟨rfl, r60⟩ := HCN.out _ G6.bn 0 (by omega)
                          have G7 : RlG w wn (wr.alloc (.cells #[.int .i64 (k : Nat), .int .i64 ((ns.getD 0 0 : Nat) : Int), .int .i64 0] 38)) wr.heap.size k (ns.getD 0 0) (0) := HGN.out _ _
                          obtain ⟨p70, p71, p72, f71, f72⟩ := G7.cp
                          have HGF := (show Hid _ from G7)
                          have hki : (k : Int) ≤ 10 := by omega
                          clear ho ht hox G6 HGN HCN hA hE hN D0 D1 G7
                          have hn0i : (0 : Int) < (ns.length : Int) := by omega
                          have hn1i : ¬ (1 : Int) < (ns.length : Int) := by omega
                          generalize hg0 : ns.getD 0 0 = x0 at *
                          obtain ⟨OX, hOX⟩ : ∃ OX, opX ns k = OX := ⟨_, rfl⟩
                          rw [hOX] at HLN HCM HRY HOX
                          have HOE := (show Hid (opX ns k = OX) from hOX)
                          clear hOX
                          have HN6 := (show Hid (lnT OX ≠ s → ∀ j, 1 ≤ j → j < k + 1 → lnT (opX ns j) ≠ s) from fun h j h1 h2 => by
                            by_cases e : j = k
                            · subst e; rw [HOE.out]; exact h
                            · exact HJ.out.2 j h1 (by omega))
                          generalize bs (lnT OX) = sQ at *
                          generalize ns.length = nl at *
                          by_cases hls : lnT OX = s
                          · have hcm : (sQ.toList == sX.toList) = true := HCM.out.trans (decide_eq_true hls)
                            have HY := (show Hid _ from HRY.out hls)
                            clear hls HCM HN6 HRY
                            go_wp2_with fail
                            refine Calls.mono (HA.out _) ?_
                            rintro e w5 ⟨rfl, hw5⟩
                            rw [hw5]
                            clear hw5 w5
                            go_wp2_with fail
                            refine Calls.mono (HLN.out _) ?_
                            rintro e w9 ⟨rfl, hb9⟩
                            have G9 := HGF.out.still hb9
                            obtain ⟨p90, p91, p92, f91, f92⟩ := G9.cp
                            have bx := G9.bz
                            have c0 := bx.cell 0 (by simp)
                            have c1 := bx.cell 1 (by simp)
                            have c2 := bx.cell 2 (by simp)
                            have f0 := bx.frozen 0
                            have f1 := bx.frozen 1
                            have f2 := bx.frozen 2
                            simp only [List.getD_cons_zero, List.getD_cons_succ] at c0 c1 c2
                            have q3 := bx.set3 (.int .i64 (k : Nat)) (.int .i64 ((x0 : Nat) : Int)) (.int .i64 0)
                            have Z0 := q3.cell 0 (by simp)
                            have Z1 := q3.cell 1 (by simp)
                            have Z2 := q3.cell 2 (by simp)
                            simp only [List.getD_cons_zero, List.getD_cons_succ] at Z0 Z1 Z2
                            have HB9 := (show Hid (Below w.heap.size w w9) from G9.bw)
                            clear q3 bx G9 hb9 HGF
                            go_wp2_with fail
                            refine bodyPost_ret (v := .tuple #[.agg #[.int .i64 (k : Nat), .int .i64 ((x0 : Nat) : Int), .int .i64 0], .bool true]) (by simp [results, Tryd.results22, go_sem, Z0, Z1, Z2]) rfl ?_
                            refine ⟨OX, true, ?_, bel_set3 HB9.out (Nat.le_refl _) _ _ _, fun _ => HY.out, fun h => (by cases h)⟩
                            first | (rw [HOX.out]; done) | (rw [HOX.out]; rfl)
                          · have hcm : (sQ.toList == sX.toList) = false := HCM.out.trans (decide_eq_false hls)
                            have HN7 := (show Hid _ from HN6.out hls)
                            clear hls HCM HN6 HRY
                            go_wp2_with fail
                            refine Calls.mono (HA.out _) ?_
                            rintro e w5 ⟨rfl, hw5⟩
                            rw [hw5]
                            clear hw5 w5
                            go_wp2_with fail
                            refine Calls.mono (HLN.out _) ?_
                            rintro e w9 ⟨rfl, hb9⟩
                            have G9 := HGF.out.still hb9
                            obtain ⟨p90, p91, p92, f91, f92⟩ := G9.cp
                            have HB9 := (show Hid (Below wn.heap.size wn w9) from G9.bn)
                            clear G9 hb9 HGF
                            go_wp2_with fail
                            exact ⟨⟨k + 1, by go_num, by omega, by omega, HB9.out, HN7.out⟩, by simp [RowKit.intOf]; omega⟩
                · have D0 : decide (0 < ns.length) = false := decide_eq_false n0
                  have D1 : decide (1 < ns.length) = false := decide_eq_false (by omega)
                  cases hA : hnB (k : Int) <;> cases hE : decide ((k : Int) = 10) <;> cases hN : htB (k : Int)
                  · have ho : oN ns k = false := by unfold oN; rw [D0, hA, hE]; rfl
                    have ht : oT ns k = false := by unfold oT; rw [ho]; show (decide (0 < ns.length) && htB (k : Int)) = _; rw [D0, hN]; rfl
                    have hox : opX ns k = ⟨(k : Nat), ((0 : Nat) : Int), ((0 : Nat) : Int)⟩ := by unfold opX; rw [ho, ht]; rfl
                    have HLN := (show Hid (∀ w', Calls Tryd.prog 15 #[.agg #[.int .i64 (k : Nat), .int .i64 ((0 : Nat) : Int), .int .i64 ((0 : Nat) : Int)]] w' fun e w'' => e = .returned (.string (bs (lnT (opX ns k)))) ∧ Below w'.heap.size w' w'') from fun w' => by
                      rw [hox]
                      exact line15 _ ⟨⟨by show (1 : Int) ≤ (k : Int); omega, by show (k : Int) ≤ 10; omega⟩, ⟨by show (0 : Int) ≤ ((0 : Nat) : Int); omega, by show ((0 : Nat) : Int) ≤ 1000000; omega⟩, ⟨by show (0 : Int) ≤ ((0 : Nat) : Int); omega, by show ((0 : Nat) : Int) ≤ 1000000; omega⟩⟩ w')
                    have HCM := (show Hid (((bs (lnT (opX ns k))).toList == sX.toList) = decide (lnT (opX ns k) = s)) from HEQ.out _)
                    have HRY := (show Hid (lnT (opX ns k) = s → rdl s = some (opX ns k)) from fun h => rdl_op HNB.out hk1 hk10 h)
                    have HOX := (show Hid _ from hox)
                    have G6 : RlG w wn (wr.alloc (.cells #[.int .i64 (k : Nat), .int .i64 0, .int .i64 0] 38)) wr.heap.size k (0) (0) := HGN.out _ _
                    obtain ⟨p60, p61, p62, f61, f62⟩ := G6.cp
                    have HGF := (show Hid _ from G6)
                    have hki : (k : Int) ≤ 10 := by omega
                    clear ho ht hox G6 HGN HCN hA hE hN D0 D1
                    have hn0i : ¬ (0 : Int) < (ns.length : Int) := by omega
                    obtain ⟨OX, hOX⟩ : ∃ OX, opX ns k = OX := ⟨_, rfl⟩
                    rw [hOX] at HLN HCM HRY HOX
                    have HOE := (show Hid (opX ns k = OX) from hOX)
                    clear hOX
                    have HN6 := (show Hid (lnT OX ≠ s → ∀ j, 1 ≤ j → j < k + 1 → lnT (opX ns j) ≠ s) from fun h j h1 h2 => by
                      by_cases e : j = k
                      · subst e; rw [HOE.out]; exact h
                      · exact HJ.out.2 j h1 (by omega))
                    generalize bs (lnT OX) = sQ at *
                    generalize ns.length = nl at *
                    by_cases hls : lnT OX = s
                    · have hcm : (sQ.toList == sX.toList) = true := HCM.out.trans (decide_eq_true hls)
                      have HY := (show Hid _ from HRY.out hls)
                      clear hls HCM HN6 HRY
                      go_wp2_with fail
                      refine Calls.mono (HLN.out _) ?_
                      rintro e w9 ⟨rfl, hb9⟩
                      have G9 := HGF.out.still hb9
                      obtain ⟨p90, p91, p92, f91, f92⟩ := G9.cp
                      have bx := G9.bz
                      have c0 := bx.cell 0 (by simp)
                      have c1 := bx.cell 1 (by simp)
                      have c2 := bx.cell 2 (by simp)
                      have f0 := bx.frozen 0
                      have f1 := bx.frozen 1
                      have f2 := bx.frozen 2
                      simp only [List.getD_cons_zero, List.getD_cons_succ] at c0 c1 c2
                      have q3 := bx.set3 (.int .i64 (k : Nat)) (.int .i64 0) (.int .i64 0)
                      have Z0 := q3.cell 0 (by simp)
                      have Z1 := q3.cell 1 (by simp)
                      have Z2 := q3.cell 2 (by simp)
                      simp only [List.getD_cons_zero, List.getD_cons_succ] at Z0 Z1 Z2
                      have HB9 := (show Hid (Below w.heap.size w w9) from G9.bw)
                      clear q3 bx G9 hb9 HGF
                      go_wp2_with fail
                      refine bodyPost_ret (v := .tuple #[.agg #[.int .i64 (k : Nat), .int .i64 0, .int .i64 0], .bool true]) (by simp [results, Tryd.results22, go_sem, Z0, Z1, Z2]) rfl ?_
                      refine ⟨OX, true, ?_, bel_set3 HB9.out (Nat.le_refl _) _ _ _, fun _ => HY.out, fun h => (by cases h)⟩
                      first | (rw [HOX.out]; done) | (rw [HOX.out]; rfl)
                    · have hcm : (sQ.toList == sX.toList) = false := HCM.out.trans (decide_eq_false hls)
                      have HN7 := (show Hid _ from HN6.out hls)
                      clear hls HCM HN6 HRY
                      go_wp2_with fail
                      refine Calls.mono (HLN.out _) ?_
                      rintro e w9 ⟨rfl, hb9⟩
                      have G9 := HGF.out.still hb9
                      obtain ⟨p90, p91, p92, f91, f92⟩ := G9.cp
                      have HB9 := (show Hid (Below wn.heap.size wn w9) from G9.bn)
                      clear G9 hb9 HGF
                      go_wp2_with fail
                      exact ⟨⟨k + 1, by go_num, by omega, by omega, HB9.out, HN7.out⟩, by simp [RowKit.intOf]; omega⟩
                  · have ho : oN ns k = false := by unfold oN; rw [D0, hA, hE]; rfl
                    have ht : oT ns k = false := by unfold oT; rw [ho]; show (decide (0 < ns.length) && htB (k : Int)) = _; rw [D0, hN]; rfl
                    have hox : opX ns k = ⟨(k : Nat), ((0 : Nat) : Int), ((0 : Nat) : Int)⟩ := by unfold opX; rw [ho, ht]; rfl
                    have HLN := (show Hid (∀ w', Calls Tryd.prog 15 #[.agg #[.int .i64 (k : Nat), .int .i64 ((0 : Nat) : Int), .int .i64 ((0 : Nat) : Int)]] w' fun e w'' => e = .returned (.string (bs (lnT (opX ns k)))) ∧ Below w'.heap.size w' w'') from fun w' => by
                      rw [hox]
                      exact line15 _ ⟨⟨by show (1 : Int) ≤ (k : Int); omega, by show (k : Int) ≤ 10; omega⟩, ⟨by show (0 : Int) ≤ ((0 : Nat) : Int); omega, by show ((0 : Nat) : Int) ≤ 1000000; omega⟩, ⟨by show (0 : Int) ≤ ((0 : Nat) : Int); omega, by show ((0 : Nat) : Int) ≤ 1000000; omega⟩⟩ w')
                    have HCM := (show Hid (((bs (lnT (opX ns k))).toList == sX.toList) = decide (lnT (opX ns k) = s)) from HEQ.out _)
                    have HRY := (show Hid (lnT (opX ns k) = s → rdl s = some (opX ns k)) from fun h => rdl_op HNB.out hk1 hk10 h)
                    have HOX := (show Hid _ from hox)
                    have G6 : RlG w wn (wr.alloc (.cells #[.int .i64 (k : Nat), .int .i64 0, .int .i64 0] 38)) wr.heap.size k (0) (0) := HGN.out _ _
                    obtain ⟨p60, p61, p62, f61, f62⟩ := G6.cp
                    have HGF := (show Hid _ from G6)
                    have hki : (k : Int) ≤ 10 := by omega
                    clear ho ht hox G6 HGN HCN hA hE hN D0 D1
                    have hn0i : ¬ (0 : Int) < (ns.length : Int) := by omega
                    obtain ⟨OX, hOX⟩ : ∃ OX, opX ns k = OX := ⟨_, rfl⟩
                    rw [hOX] at HLN HCM HRY HOX
                    have HOE := (show Hid (opX ns k = OX) from hOX)
                    clear hOX
                    have HN6 := (show Hid (lnT OX ≠ s → ∀ j, 1 ≤ j → j < k + 1 → lnT (opX ns j) ≠ s) from fun h j h1 h2 => by
                      by_cases e : j = k
                      · subst e; rw [HOE.out]; exact h
                      · exact HJ.out.2 j h1 (by omega))
                    generalize bs (lnT OX) = sQ at *
                    generalize ns.length = nl at *
                    by_cases hls : lnT OX = s
                    · have hcm : (sQ.toList == sX.toList) = true := HCM.out.trans (decide_eq_true hls)
                      have HY := (show Hid _ from HRY.out hls)
                      clear hls HCM HN6 HRY
                      go_wp2_with fail
                      refine Calls.mono (HLN.out _) ?_
                      rintro e w9 ⟨rfl, hb9⟩
                      have G9 := HGF.out.still hb9
                      obtain ⟨p90, p91, p92, f91, f92⟩ := G9.cp
                      have bx := G9.bz
                      have c0 := bx.cell 0 (by simp)
                      have c1 := bx.cell 1 (by simp)
                      have c2 := bx.cell 2 (by simp)
                      have f0 := bx.frozen 0
                      have f1 := bx.frozen 1
                      have f2 := bx.frozen 2
                      simp only [List.getD_cons_zero, List.getD_cons_succ] at c0 c1 c2
                      have q3 := bx.set3 (.int .i64 (k : Nat)) (.int .i64 0) (.int .i64 0)
                      have Z0 := q3.cell 0 (by simp)
                      have Z1 := q3.cell 1 (by simp)
                      have Z2 := q3.cell 2 (by simp)
                      simp only [List.getD_cons_zero, List.getD_cons_succ] at Z0 Z1 Z2
                      have HB9 := (show Hid (Below w.heap.size w w9) from G9.bw)
                      clear q3 bx G9 hb9 HGF
                      go_wp2_with fail
                      refine bodyPost_ret (v := .tuple #[.agg #[.int .i64 (k : Nat), .int .i64 0, .int .i64 0], .bool true]) (by simp [results, Tryd.results22, go_sem, Z0, Z1, Z2]) rfl ?_
                      refine ⟨OX, true, ?_, bel_set3 HB9.out (Nat.le_refl _) _ _ _, fun _ => HY.out, fun h => (by cases h)⟩
                      first | (rw [HOX.out]; done) | (rw [HOX.out]; rfl)
                    · have hcm : (sQ.toList == sX.toList) = false := HCM.out.trans (decide_eq_false hls)
                      have HN7 := (show Hid _ from HN6.out hls)
                      clear hls HCM HN6 HRY
                      go_wp2_with fail
                      refine Calls.mono (HLN.out _) ?_
                      rintro e w9 ⟨rfl, hb9⟩
                      have G9 := HGF.out.still hb9
                      obtain ⟨p90, p91, p92, f91, f92⟩ := G9.cp
                      have HB9 := (show Hid (Below wn.heap.size wn w9) from G9.bn)
                      clear G9 hb9 HGF
                      go_wp2_with fail
                      exact ⟨⟨k + 1, by go_num, by omega, by omega, HB9.out, HN7.out⟩, by simp [RowKit.intOf]; omega⟩
                  · have ho : oN ns k = false := by unfold oN; rw [D0, hA, hE]; rfl
                    have ht : oT ns k = false := by unfold oT; rw [ho]; show (decide (0 < ns.length) && htB (k : Int)) = _; rw [D0, hN]; rfl
                    have hox : opX ns k = ⟨(k : Nat), ((0 : Nat) : Int), ((0 : Nat) : Int)⟩ := by unfold opX; rw [ho, ht]; rfl
                    have HLN := (show Hid (∀ w', Calls Tryd.prog 15 #[.agg #[.int .i64 (k : Nat), .int .i64 ((0 : Nat) : Int), .int .i64 ((0 : Nat) : Int)]] w' fun e w'' => e = .returned (.string (bs (lnT (opX ns k)))) ∧ Below w'.heap.size w' w'') from fun w' => by
                      rw [hox]
                      exact line15 _ ⟨⟨by show (1 : Int) ≤ (k : Int); omega, by show (k : Int) ≤ 10; omega⟩, ⟨by show (0 : Int) ≤ ((0 : Nat) : Int); omega, by show ((0 : Nat) : Int) ≤ 1000000; omega⟩, ⟨by show (0 : Int) ≤ ((0 : Nat) : Int); omega, by show ((0 : Nat) : Int) ≤ 1000000; omega⟩⟩ w')
                    have HCM := (show Hid (((bs (lnT (opX ns k))).toList == sX.toList) = decide (lnT (opX ns k) = s)) from HEQ.out _)
                    have HRY := (show Hid (lnT (opX ns k) = s → rdl s = some (opX ns k)) from fun h => rdl_op HNB.out hk1 hk10 h)
                    have HOX := (show Hid _ from hox)
                    have G6 : RlG w wn (wr.alloc (.cells #[.int .i64 (k : Nat), .int .i64 0, .int .i64 0] 38)) wr.heap.size k (0) (0) := HGN.out _ _
                    obtain ⟨p60, p61, p62, f61, f62⟩ := G6.cp
                    have HGF := (show Hid _ from G6)
                    have hki : (k : Int) ≤ 10 := by omega
                    clear ho ht hox G6 HGN HCN hA hE hN D0 D1
                    have hn0i : ¬ (0 : Int) < (ns.length : Int) := by omega
                    obtain ⟨OX, hOX⟩ : ∃ OX, opX ns k = OX := ⟨_, rfl⟩
                    rw [hOX] at HLN HCM HRY HOX
                    have HOE := (show Hid (opX ns k = OX) from hOX)
                    clear hOX
                    have HN6 := (show Hid (lnT OX ≠ s → ∀ j, 1 ≤ j → j < k + 1 → lnT (opX ns j) ≠ s) from fun h j h1 h2 => by
                      by_cases e : j = k
                      · subst e; rw [HOE.out]; exact h
                      · exact HJ.out.2 j h1 (by omega))
                    generalize bs (lnT OX) = sQ at *
                    generalize ns.length = nl at *
                    by_cases hls : lnT OX = s
                    · have hcm : (sQ.toList == sX.toList) = true := HCM.out.trans (decide_eq_true hls)
                      have HY := (show Hid _ from HRY.out hls)
                      clear hls HCM HN6 HRY
                      go_wp2_with fail
                      refine Calls.mono (HLN.out _) ?_
                      rintro e w9 ⟨rfl, hb9⟩
                      have G9 := HGF.out.still hb9
                      obtain ⟨p90, p91, p92, f91, f92⟩ := G9.cp
                      have bx := G9.bz
                      have c0 := bx.cell 0 (by simp)
                      have c1 := bx.cell 1 (by simp)
                      have c2 := bx.cell 2 (by simp)
                      have f0 := bx.frozen 0
                      have f1 := bx.frozen 1
                      have f2 := bx.frozen 2
                      simp only [List.getD_cons_zero, List.getD_cons_succ] at c0 c1 c2
                      have q3 := bx.set3 (.int .i64 (k : Nat)) (.int .i64 0) (.int .i64 0)
                      have Z0 := q3.cell 0 (by simp)
                      have Z1 := q3.cell 1 (by simp)
                      have Z2 := q3.cell 2 (by simp)
                      simp only [List.getD_cons_zero, List.getD_cons_succ] at Z0 Z1 Z2
                      have HB9 := (show Hid (Below w.heap.size w w9) from G9.bw)
                      clear q3 bx G9 hb9 HGF
                      go_wp2_with fail
                      refine bodyPost_ret (v := .tuple #[.agg #[.int .i64 (k : Nat), .int .i64 0, .int .i64 0], .bool true]) (by simp [results, Tryd.results22, go_sem, Z0, Z1, Z2]) rfl ?_
                      refine ⟨OX, true, ?_, bel_set3 HB9.out (Nat.le_refl _) _ _ _, fun _ => HY.out, fun h => (by cases h)⟩
                      first | (rw [HOX.out]; done) | (rw [HOX.out]; rfl)
                    · have hcm : (sQ.toList == sX.toList) = false := HCM.out.trans (decide_eq_false hls)
                      have HN7 := (show Hid _ from HN6.out hls)
                      clear hls HCM HN6 HRY
                      go_wp2_with fail
                      refine Calls.mono (HLN.out _) ?_
                      rintro e w9 ⟨rfl, hb9⟩
                      have G9 := HGF.out.still hb9
                      obtain ⟨p90, p91, p92, f91, f92⟩ := G9.cp
                      have HB9 := (show Hid (Below wn.heap.size wn w9) from G9.bn)
                      clear G9 hb9 HGF
                      go_wp2_with fail
                      exact ⟨⟨k + 1, by go_num, by omega, by omega, HB9.out, HN7.out⟩, by simp [RowKit.intOf]; omega⟩
                  · have ho : oN ns k = false := by unfold oN; rw [D0, hA, hE]; rfl
                    have ht : oT ns k = false := by unfold oT; rw [ho]; show (decide (0 < ns.length) && htB (k : Int)) = _; rw [D0, hN]; rfl
                    have hox : opX ns k = ⟨(k : Nat), ((0 : Nat) : Int), ((0 : Nat) : Int)⟩ := by unfold opX; rw [ho, ht]; rfl
                    have HLN := (show Hid (∀ w', Calls Tryd.prog 15 #[.agg #[.int .i64 (k : Nat), .int .i64 ((0 : Nat) : Int), .int .i64 ((0 : Nat) : Int)]] w' fun e w'' => e = .returned (.string (bs (lnT (opX ns k)))) ∧ Below w'.heap.size w' w'') from fun w' => by
                      rw [hox]
                      exact line15 _ ⟨⟨by show (1 : Int) ≤ (k : Int); omega, by show (k : Int) ≤ 10; omega⟩, ⟨by show (0 : Int) ≤ ((0 : Nat) : Int); omega, by show ((0 : Nat) : Int) ≤ 1000000; omega⟩, ⟨by show (0 : Int) ≤ ((0 : Nat) : Int); omega, by show ((0 : Nat) : Int) ≤ 1000000; omega⟩⟩ w')
                    have HCM := (show Hid (((bs (lnT (opX ns k))).toList == sX.toList) = decide (lnT (opX ns k) = s)) from HEQ.out _)
                    have HRY := (show Hid (lnT (opX ns k) = s → rdl s = some (opX ns k)) from fun h => rdl_op HNB.out hk1 hk10 h)
                    have HOX := (show Hid _ from hox)
                    have G6 : RlG w wn (wr.alloc (.cells #[.int .i64 (k : Nat), .int .i64 0, .int .i64 0] 38)) wr.heap.size k (0) (0) := HGN.out _ _
                    obtain ⟨p60, p61, p62, f61, f62⟩ := G6.cp
                    have HGF := (show Hid _ from G6)
                    have hki : (k : Int) ≤ 10 := by omega
                    clear ho ht hox G6 HGN HCN hA hE hN D0 D1
                    have hn0i : ¬ (0 : Int) < (ns.length : Int) := by omega
                    obtain ⟨OX, hOX⟩ : ∃ OX, opX ns k = OX := ⟨_, rfl⟩
                    rw [hOX] at HLN HCM HRY HOX
                    have HOE := (show Hid (opX ns k = OX) from hOX)
                    clear hOX
                    have HN6 := (show Hid (lnT OX ≠ s → ∀ j, 1 ≤ j → j < k + 1 → lnT (opX ns j) ≠ s) from fun h j h1 h2 => by
                      by_cases e : j = k
                      · subst e; rw [HOE.out]; exact h
                      · exact HJ.out.2 j h1 (by omega))
                    generalize bs (lnT OX) = sQ at *
                    generalize ns.length = nl at *
                    by_cases hls : lnT OX = s
                    · have hcm : (sQ.toList == sX.toList) = true := HCM.out.trans (decide_eq_true hls)
                      have HY := (show Hid _ from HRY.out hls)
                      clear hls HCM HN6 HRY
                      go_wp2_with fail
                      refine Calls.mono (HLN.out _) ?_
                      rintro e w9 ⟨rfl, hb9⟩
                      have G9 := HGF.out.still hb9
                      obtain ⟨p90, p91, p92, f91, f92⟩ := G9.cp
                      have bx := G9.bz
                      have c0 := bx.cell 0 (by simp)
                      have c1 := bx.cell 1 (by simp)
                      have c2 := bx.cell 2 (by simp)
                      have f0 := bx.frozen 0
                      have f1 := bx.frozen 1
                      have f2 := bx.frozen 2
                      simp only [List.getD_cons_zero, List.getD_cons_succ] at c0 c1 c2
                      have q3 := bx.set3 (.int .i64 (k : Nat)) (.int .i64 0) (.int .i64 0)
                      have Z0 := q3.cell 0 (by simp)
                      have Z1 := q3.cell 1 (by simp)
                      have Z2 := q3.cell 2 (by simp)
                      simp only [List.getD_cons_zero, List.getD_cons_succ] at Z0 Z1 Z2
                      have HB9 := (show Hid (Below w.heap.size w w9) from G9.bw)
                      clear q3 bx G9 hb9 HGF
                      go_wp2_with fail
                      refine bodyPost_ret (v := .tuple #[.agg #[.int .i64 (k : Nat), .int .i64 0, .int .i64 0], .bool true]) (by simp [results, Tryd.results22, go_sem, Z0, Z1, Z2]) rfl ?_
                      refine ⟨OX, true, ?_, bel_set3 HB9.out (Nat.le_refl _) _ _ _, fun _ => HY.out, fun h => (by cases h)⟩
                      first | (rw [HOX.out]; done) | (rw [HOX.out]; rfl)
                    · have hcm : (sQ.toList == sX.toList) = false := HCM.out.trans (decide_eq_false hls)
                      have HN7 := (show Hid _ from HN6.out hls)
                      clear hls HCM HN6 HRY
                      go_wp2_with fail
                      refine Calls.mono (HLN.out _) ?_
                      rintro e w9 ⟨rfl, hb9⟩
                      have G9 := HGF.out.still hb9
                      obtain ⟨p90, p91, p92, f91, f92⟩ := G9.cp
                      have HB9 := (show Hid (Below wn.heap.size wn w9) from G9.bn)
                      clear G9 hb9 HGF
                      go_wp2_with fail
                      exact ⟨⟨k + 1, by go_num, by omega, by omega, HB9.out, HN7.out⟩, by simp [RowKit.intOf]; omega⟩
                  · have ho : oN ns k = false := by unfold oN; rw [D0, hA, hE]; rfl
                    have ht : oT ns k = false := by unfold oT; rw [ho]; show (decide (0 < ns.length) && htB (k : Int)) = _; rw [D0, hN]; rfl
                    have hox : opX ns k = ⟨(k : Nat), ((0 : Nat) : Int), ((0 : Nat) : Int)⟩ := by unfold opX; rw [ho, ht]; rfl
                    have HLN := (show Hid (∀ w', Calls Tryd.prog 15 #[.agg #[.int .i64 (k : Nat), .int .i64 ((0 : Nat) : Int), .int .i64 ((0 : Nat) : Int)]] w' fun e w'' => e = .returned (.string (bs (lnT (opX ns k)))) ∧ Below w'.heap.size w' w'') from fun w' => by
                      rw [hox]
                      exact line15 _ ⟨⟨by show (1 : Int) ≤ (k : Int); omega, by show (k : Int) ≤ 10; omega⟩, ⟨by show (0 : Int) ≤ ((0 : Nat) : Int); omega, by show ((0 : Nat) : Int) ≤ 1000000; omega⟩, ⟨by show (0 : Int) ≤ ((0 : Nat) : Int); omega, by show ((0 : Nat) : Int) ≤ 1000000; omega⟩⟩ w')
                    have HCM := (show Hid (((bs (lnT (opX ns k))).toList == sX.toList) = decide (lnT (opX ns k) = s)) from HEQ.out _)
                    have HRY := (show Hid (lnT (opX ns k) = s → rdl s = some (opX ns k)) from fun h => rdl_op HNB.out hk1 hk10 h)
                    have HOX := (show Hid _ from hox)
                    have G6 : RlG w wn (wr.alloc (.cells #[.int .i64 (k : Nat), .int .i64 0, .int .i64 0] 38)) wr.heap.size k (0) (0) := HGN.out _ _
                    obtain ⟨p60, p61, p62, f61, f62⟩ := G6.cp
                    have HGF := (show Hid _ from G6)
                    have hki : (k : Int) ≤ 10 := by omega
                    clear ho ht hox G6 HGN HCN hA hE hN D0 D1
                    have hn0i : ¬ (0 : Int) < (ns.length : Int) := by omega
                    obtain ⟨OX, hOX⟩ : ∃ OX, opX ns k = OX := ⟨_, rfl⟩
                    rw [hOX] at HLN HCM HRY HOX
                    have HOE := (show Hid (opX ns k = OX) from hOX)
                    clear hOX
                    have HN6 := (show Hid (lnT OX ≠ s → ∀ j, 1 ≤ j → j < k + 1 → lnT (opX ns j) ≠ s) from fun h j h1 h2 => by
                      by_cases e : j = k
                      · subst e; rw [HOE.out]; exact h
                      · exact HJ.out.2 j h1 (by omega))
                    generalize bs (lnT OX) = sQ at *
                    generalize ns.length = nl at *
                    by_cases hls : lnT OX = s
                    · have hcm : (sQ.toList == sX.toList) = true := HCM.out.trans (decide_eq_true hls)
                      have HY := (show Hid _ from HRY.out hls)
                      clear hls HCM HN6 HRY
                      go_wp2_with fail
                      refine Calls.mono (HLN.out _) ?_
                      rintro e w9 ⟨rfl, hb9⟩
                      have G9 := HGF.out.still hb9
                      obtain ⟨p90, p91, p92, f91, f92⟩ := G9.cp
                      have bx := G9.bz
                      have c0 := bx.cell 0 (by simp)
                      have c1 := bx.cell 1 (by simp)
                      have c2 := bx.cell 2 (by simp)
                      have f0 := bx.frozen 0
                      have f1 := bx.frozen 1
                      have f2 := bx.frozen 2
                      simp only [List.getD_cons_zero, List.getD_cons_succ] at c0 c1 c2
                      have q3 := bx.set3 (.int .i64 (k : Nat)) (.int .i64 0) (.int .i64 0)
                      have Z0 := q3.cell 0 (by simp)
                      have Z1 := q3.cell 1 (by simp)
                      have Z2 := q3.cell 2 (by simp)
                      simp only [List.getD_cons_zero, List.getD_cons_succ] at Z0 Z1 Z2
                      have HB9 := (show Hid (Below w.heap.size w w9) from G9.bw)
                      clear q3 bx G9 hb9 HGF
                      go_wp2_with fail
                      refine bodyPost_ret (v := .tuple #[.agg #[.int .i64 (k : Nat), .int .i64 0, .int .i64 0], .bool true]) (by simp [results, Tryd.results22, go_sem, Z0, Z1, Z2]) rfl ?_
                      refine ⟨OX, true, ?_, bel_set3 HB9.out (Nat.le_refl _) _ _ _, fun _ => HY.out, fun h => (by cases h)⟩
                      first | (rw [HOX.out]; done) | (rw [HOX.out]; rfl)
                    · have hcm : (sQ.toList == sX.toList) = false := HCM.out.trans (decide_eq_false hls)
                      have HN7 := (show Hid _ from HN6.out hls)
                      clear hls HCM HN6 HRY
                      go_wp2_with fail
                      refine Calls.mono (HLN.out _) ?_
                      rintro e w9 ⟨rfl, hb9⟩
                      have G9 := HGF.out.still hb9
                      obtain ⟨p90, p91, p92, f91, f92⟩ := G9.cp
                      have HB9 := (show Hid (Below wn.heap.size wn w9) from G9.bn)
                      clear G9 hb9 HGF
                      go_wp2_with fail
                      exact ⟨⟨k + 1, by go_num, by omega, by omega, HB9.out, HN7.out⟩, by simp [RowKit.intOf]; omega⟩
                  · have ho : oN ns k = false := by unfold oN; rw [D0, hA, hE]; rfl
                    have ht : oT ns k = false := by unfold oT; rw [ho]; show (decide (0 < ns.length) && htB (k : Int)) = _; rw [D0, hN]; rfl
                    have hox : opX ns k = ⟨(k : Nat), ((0 : Nat) : Int), ((0 : Nat) : Int)⟩ := by unfold opX; rw [ho, ht]; rfl
                    have HLN := (show Hid (∀ w', Calls Tryd.prog 15 #[.agg #[.int .i64 (k : Nat), .int .i64 ((0 : Nat) : Int), .int .i64 ((0 : Nat) : Int)]] w' fun e w'' => e = .returned (.string (bs (lnT (opX ns k)))) ∧ Below w'.heap.size w' w'') from fun w' => by
                      rw [hox]
                      exact line15 _ ⟨⟨by show (1 : Int) ≤ (k : Int); omega, by show (k : Int) ≤ 10; omega⟩, ⟨by show (0 : Int) ≤ ((0 : Nat) : Int); omega, by show ((0 : Nat) : Int) ≤ 1000000; omega⟩, ⟨by show (0 : Int) ≤ ((0 : Nat) : Int); omega, by show ((0 : Nat) : Int) ≤ 1000000; omega⟩⟩ w')
                    have HCM := (show Hid (((bs (lnT (opX ns k))).toList == sX.toList) = decide (lnT (opX ns k) = s)) from HEQ.out _)
                    have HRY := (show Hid (lnT (opX ns k) = s → rdl s = some (opX ns k)) from fun h => rdl_op HNB.out hk1 hk10 h)
                    have HOX := (show Hid _ from hox)
                    have G6 : RlG w wn (wr.alloc (.cells #[.int .i64 (k : Nat), .int .i64 0, .int .i64 0] 38)) wr.heap.size k (0) (0) := HGN.out _ _
                    obtain ⟨p60, p61, p62, f61, f62⟩ := G6.cp
                    have HGF := (show Hid _ from G6)
                    have hki : (k : Int) ≤ 10 := by omega
                    clear ho ht hox G6 HGN HCN hA hE hN D0 D1
                    have hn0i : ¬ (0 : Int) < (ns.length : Int) := by omega
                    obtain ⟨OX, hOX⟩ : ∃ OX, opX ns k = OX := ⟨_, rfl⟩
                    rw [hOX] at HLN HCM HRY HOX
                    have HOE := (show Hid (opX ns k = OX) from hOX)
                    clear hOX
                    have HN6 := (show Hid (lnT OX ≠ s → ∀ j, 1 ≤ j → j < k + 1 → lnT (opX ns j) ≠ s) from fun h j h1 h2 => by
                      by_cases e : j = k
                      · subst e; rw [HOE.out]; exact h
                      · exact HJ.out.2 j h1 (by omega))
                    generalize bs (lnT OX) = sQ at *
                    generalize ns.length = nl at *
                    by_cases hls : lnT OX = s
                    · have hcm : (sQ.toList == sX.toList) = true := HCM.out.trans (decide_eq_true hls)
                      have HY := (show Hid _ from HRY.out hls)
                      clear hls HCM HN6 HRY
                      go_wp2_with fail
                      refine Calls.mono (HLN.out _) ?_
                      rintro e w9 ⟨rfl, hb9⟩
                      have G9 := HGF.out.still hb9
                      obtain ⟨p90, p91, p92, f91, f92⟩ := G9.cp
                      have bx := G9.bz
                      have c0 := bx.cell 0 (by simp)
                      have c1 := bx.cell 1 (by simp)
                      have c2 := bx.cell 2 (by simp)
                      have f0 := bx.frozen 0
                      have f1 := bx.frozen 1
                      have f2 := bx.frozen 2
                      simp only [List.getD_cons_zero, List.getD_cons_succ] at c0 c1 c2
                      have q3 := bx.set3 (.int .i64 (k : Nat)) (.int .i64 0) (.int .i64 0)
                      have Z0 := q3.cell 0 (by simp)
                      have Z1 := q3.cell 1 (by simp)
                      have Z2 := q3.cell 2 (by simp)
                      simp only [List.getD_cons_zero, List.getD_cons_succ] at Z0 Z1 Z2
                      have HB9 := (show Hid (Below w.heap.size w w9) from G9.bw)
                      clear q3 bx G9 hb9 HGF
                      go_wp2_with fail
                      refine bodyPost_ret (v := .tuple #[.agg #[.int .i64 (k : Nat), .int .i64 0, .int .i64 0], .bool true]) (by simp [results, Tryd.results22, go_sem, Z0, Z1, Z2]) rfl ?_
                      refine ⟨OX, true, ?_, bel_set3 HB9.out (Nat.le_refl _) _ _ _, fun _ => HY.out, fun h => (by cases h)⟩
                      first | (rw [HOX.out]; done) | (rw [HOX.out]; rfl)
                    · have hcm : (sQ.toList == sX.toList) = false := HCM.out.trans (decide_eq_false hls)
                      have HN7 := (show Hid _ from HN6.out hls)
                      clear hls HCM HN6 HRY
                      go_wp2_with fail
                      refine Calls.mono (HLN.out _) ?_
                      rintro e w9 ⟨rfl, hb9⟩
                      have G9 := HGF.out.still hb9
                      obtain ⟨p90, p91, p92, f91, f92⟩ := G9.cp
                      have HB9 := (show Hid (Below wn.heap.size wn w9) from G9.bn)
                      clear G9 hb9 HGF
                      go_wp2_with fail
                      exact ⟨⟨k + 1, by go_num, by omega, by omega, HB9.out, HN7.out⟩, by simp [RowKit.intOf]; omega⟩
                  · have ho : oN ns k = false := by unfold oN; rw [D0, hA, hE]; rfl
                    have ht : oT ns k = false := by unfold oT; rw [ho]; show (decide (0 < ns.length) && htB (k : Int)) = _; rw [D0, hN]; rfl
                    have hox : opX ns k = ⟨(k : Nat), ((0 : Nat) : Int), ((0 : Nat) : Int)⟩ := by unfold opX; rw [ho, ht]; rfl
                    have HLN := (show Hid (∀ w', Calls Tryd.prog 15 #[.agg #[.int .i64 (k : Nat), .int .i64 ((0 : Nat) : Int), .int .i64 ((0 : Nat) : Int)]] w' fun e w'' => e = .returned (.string (bs (lnT (opX ns k)))) ∧ Below w'.heap.size w' w'') from fun w' => by
                      rw [hox]
                      exact line15 _ ⟨⟨by show (1 : Int) ≤ (k : Int); omega, by show (k : Int) ≤ 10; omega⟩, ⟨by show (0 : Int) ≤ ((0 : Nat) : Int); omega, by show ((0 : Nat) : Int) ≤ 1000000; omega⟩, ⟨by show (0 : Int) ≤ ((0 : Nat) : Int); omega, by show ((0 : Nat) : Int) ≤ 1000000; omega⟩⟩ w')
                    have HCM := (show Hid (((bs (lnT (opX ns k))).toList == sX.toList) = decide (lnT (opX ns k) = s)) from HEQ.out _)
                    have HRY := (show Hid (lnT (opX ns k) = s → rdl s = some (opX ns k)) from fun h => rdl_op HNB.out hk1 hk10 h)
                    have HOX := (show Hid _ from hox)
                    have G6 : RlG w wn (wr.alloc (.cells #[.int .i64 (k : Nat), .int .i64 0, .int .i64 0] 38)) wr.heap.size k (0) (0) := HGN.out _ _
                    obtain ⟨p60, p61, p62, f61, f62⟩ := G6.cp
                    have HGF := (show Hid _ from G6)
                    have hki : (k : Int) ≤ 10 := by omega
                    clear ho ht hox G6 HGN HCN hA hE hN D0 D1
                    have hn0i : ¬ (0 : Int) < (ns.length : Int) := by omega
                    obtain ⟨OX, hOX⟩ : ∃ OX, opX ns k = OX := ⟨_, rfl⟩
                    rw [hOX] at HLN HCM HRY HOX
                    have HOE := (show Hid (opX ns k = OX) from hOX)
                    clear hOX
                    have HN6 := (show Hid (lnT OX ≠ s → ∀ j, 1 ≤ j → j < k + 1 → lnT (opX ns j) ≠ s) from fun h j h1 h2 => by
                      by_cases e : j = k
                      · subst e; rw [HOE.out]; exact h
                      · exact HJ.out.2 j h1 (by omega))
                    generalize bs (lnT OX) = sQ at *
                    generalize ns.length = nl at *
                    by_cases hls : lnT OX = s
                    · have hcm : (sQ.toList == sX.toList) = true := HCM.out.trans (decide_eq_true hls)
                      have HY := (show Hid _ from HRY.out hls)
                      clear hls HCM HN6 HRY
                      go_wp2_with fail
                      refine Calls.mono (HLN.out _) ?_
                      rintro e w9 ⟨rfl, hb9⟩
                      have G9 := HGF.out.still hb9
                      obtain ⟨p90, p91, p92, f91, f92⟩ := G9.cp
                      have bx := G9.bz
                      have c0 := bx.cell 0 (by simp)
                      have c1 := bx.cell 1 (by simp)
                      have c2 := bx.cell 2 (by simp)
                      have f0 := bx.frozen 0
                      have f1 := bx.frozen 1
                      have f2 := bx.frozen 2
                      simp only [List.getD_cons_zero, List.getD_cons_succ] at c0 c1 c2
                      have q3 := bx.set3 (.int .i64 (k : Nat)) (.int .i64 0) (.int .i64 0)
                      have Z0 := q3.cell 0 (by simp)
                      have Z1 := q3.cell 1 (by simp)
                      have Z2 := q3.cell 2 (by simp)
                      simp only [List.getD_cons_zero, List.getD_cons_succ] at Z0 Z1 Z2
                      have HB9 := (show Hid (Below w.heap.size w w9) from G9.bw)
                      clear q3 bx G9 hb9 HGF
                      go_wp2_with fail
                      refine bodyPost_ret (v := .tuple #[.agg #[.int .i64 (k : Nat), .int .i64 0, .int .i64 0], .bool true]) (by simp [results, Tryd.results22, go_sem, Z0, Z1, Z2]) rfl ?_
                      refine ⟨OX, true, ?_, bel_set3 HB9.out (Nat.le_refl _) _ _ _, fun _ => HY.out, fun h => (by cases h)⟩
                      first | (rw [HOX.out]; done) | (rw [HOX.out]; rfl)
                    · have hcm : (sQ.toList == sX.toList) = false := HCM.out.trans (decide_eq_false hls)
                      have HN7 := (show Hid _ from HN6.out hls)
                      clear hls HCM HN6 HRY
                      go_wp2_with fail
                      refine Calls.mono (HLN.out _) ?_
                      rintro e w9 ⟨rfl, hb9⟩
                      have G9 := HGF.out.still hb9
                      obtain ⟨p90, p91, p92, f91, f92⟩ := G9.cp
                      have HB9 := (show Hid (Below wn.heap.size wn w9) from G9.bn)
                      clear G9 hb9 HGF
                      go_wp2_with fail
                      exact ⟨⟨k + 1, by go_num, by omega, by omega, HB9.out, HN7.out⟩, by simp [RowKit.intOf]; omega⟩
                  · have ho : oN ns k = false := by unfold oN; rw [D0, hA, hE]; rfl
                    have ht : oT ns k = false := by unfold oT; rw [ho]; show (decide (0 < ns.length) && htB (k : Int)) = _; rw [D0, hN]; rfl
                    have hox : opX ns k = ⟨(k : Nat), ((0 : Nat) : Int), ((0 : Nat) : Int)⟩ := by unfold opX; rw [ho, ht]; rfl
                    have HLN := (show Hid (∀ w', Calls Tryd.prog 15 #[.agg #[.int .i64 (k : Nat), .int .i64 ((0 : Nat) : Int), .int .i64 ((0 : Nat) : Int)]] w' fun e w'' => e = .returned (.string (bs (lnT (opX ns k)))) ∧ Below w'.heap.size w' w'') from fun w' => by
                      rw [hox]
                      exact line15 _ ⟨⟨by show (1 : Int) ≤ (k : Int); omega, by show (k : Int) ≤ 10; omega⟩, ⟨by show (0 : Int) ≤ ((0 : Nat) : Int); omega, by show ((0 : Nat) : Int) ≤ 1000000; omega⟩, ⟨by show (0 : Int) ≤ ((0 : Nat) : Int); omega, by show ((0 : Nat) : Int) ≤ 1000000; omega⟩⟩ w')
                    have HCM := (show Hid (((bs (lnT (opX ns k))).toList == sX.toList) = decide (lnT (opX ns k) = s)) from HEQ.out _)
                    have HRY := (show Hid (lnT (opX ns k) = s → rdl s = some (opX ns k)) from fun h => rdl_op HNB.out hk1 hk10 h)
                    have HOX := (show Hid _ from hox)
                    have G6 : RlG w wn (wr.alloc (.cells #[.int .i64 (k : Nat), .int .i64 0, .int .i64 0] 38)) wr.heap.size k (0) (0) := HGN.out _ _
                    obtain ⟨p60, p61, p62, f61, f62⟩ := G6.cp
                    have HGF := (show Hid _ from G6)
                    have hki : (k : Int) ≤ 10 := by omega
                    clear ho ht hox G6 HGN HCN hA hE hN D0 D1
                    have hn0i : ¬ (0 : Int) < (ns.length : Int) := by omega
                    obtain ⟨OX, hOX⟩ : ∃ OX, opX ns k = OX := ⟨_, rfl⟩
                    rw [hOX] at HLN HCM HRY HOX
                    have HOE := (show Hid (opX ns k = OX) from hOX)
                    clear hOX
                    have HN6 := (show Hid (lnT OX ≠ s → ∀ j, 1 ≤ j → j < k + 1 → lnT (opX ns j) ≠ s) from fun h j h1 h2 => by
                      by_cases e : j = k
                      · subst e; rw [HOE.out]; exact h
                      · exact HJ.out.2 j h1 (by omega))
                    generalize bs (lnT OX) = sQ at *
                    generalize ns.length = nl at *
                    by_cases hls : lnT OX = s
                    · have hcm : (sQ.toList == sX.toList) = true := HCM.out.trans (decide_eq_true hls)
                      have HY := (show Hid _ from HRY.out hls)
                      clear hls HCM HN6 HRY
                      go_wp2_with fail
                      refine Calls.mono (HLN.out _) ?_
                      rintro e w9 ⟨rfl, hb9⟩
                      have G9 := HGF.out.still hb9
                      obtain ⟨p90, p91, p92, f91, f92⟩ := G9.cp
                      have bx := G9.bz
                      have c0 := bx.cell 0 (by simp)
                      have c1 := bx.cell 1 (by simp)
                      have c2 := bx.cell 2 (by simp)
                      have f0 := bx.frozen 0
                      have f1 := bx.frozen 1
                      have f2 := bx.frozen 2
                      simp only [List.getD_cons_zero, List.getD_cons_succ] at c0 c1 c2
                      have q3 := bx.set3 (.int .i64 (k : Nat)) (.int .i64 0) (.int .i64 0)
                      have Z0 := q3.cell 0 (by simp)
                      have Z1 := q3.cell 1 (by simp)
                      have Z2 := q3.cell 2 (by simp)
                      simp only [List.getD_cons_zero, List.getD_cons_succ] at Z0 Z1 Z2
                      have HB9 := (show Hid (Below w.heap.size w w9) from G9.bw)
                      clear q3 bx G9 hb9 HGF
                      go_wp2_with fail
                      refine bodyPost_ret (v := .tuple #[.agg #[.int .i64 (k : Nat), .int .i64 0, .int .i64 0], .bool true]) (by simp [results, Tryd.results22, go_sem, Z0, Z1, Z2]) rfl ?_
                      refine ⟨OX, true, ?_, bel_set3 HB9.out (Nat.le_refl _) _ _ _, fun _ => HY.out, fun h => (by cases h)⟩
                      first | (rw [HOX.out]; done) | (rw [HOX.out]; rfl)
                    · have hcm : (sQ.toList == sX.toList) = false := HCM.out.trans (decide_eq_false hls)
                      have HN7 := (show Hid _ from HN6.out hls)
                      clear hls HCM HN6 HRY
                      go_wp2_with fail
                      refine Calls.mono (HLN.out _) ?_
                      rintro e w9 ⟨rfl, hb9⟩
                      have G9 := HGF.out.still hb9
                      obtain ⟨p90, p91, p92, f91, f92⟩ := G9.cp
                      have HB9 := (show Hid (Below wn.heap.size wn w9) from G9.bn)
                      clear G9 hb9 HGF
                      go_wp2_with fail
                      exact ⟨⟨k + 1, by go_num, by omega, by omega, HB9.out, HN7.out⟩, by simp [RowKit.intOf]; omega⟩
              · obtain rfl : k = 11 := by omega
                have HZ := (show Hid (rdl s = none) from rdl_end HNE.out (fun k h1 h2 => HJ.out.2 k h1 (by omega)))
                have HRQ := (show Hid (RlF w wr) from HBN.out wr HJ.out.1)
                have bx := HRQ.out.bx
                have c0 := bx.cell 0 (by simp)
                have c1 := bx.cell 1 (by simp)
                have c2 := bx.cell 2 (by simp)
                have f0 := bx.frozen 0
                have f1 := bx.frozen 1
                have f2 := bx.frozen 2
                simp only [List.getD_cons_zero, List.getD_cons_succ] at c0 c1 c2
                have q3 := bx.set3 (.int .i64 0) (.int .i64 0) (.int .i64 0)
                have Z0 := q3.cell 0 (by simp)
                have Z1 := q3.cell 1 (by simp)
                have Z2 := q3.cell 2 (by simp)
                simp only [List.getD_cons_zero, List.getD_cons_succ] at Z0 Z1 Z2
                clear q3 bx
                go_wp2_with fail
                refine bodyPost_ret (v := .tuple #[.agg #[.int .i64 0, .int .i64 0, .int .i64 0], .bool false]) (by simp [results, Tryd.results22, go_sem, Z0, Z1, Z2]) rfl ?_
                exact ⟨⟨0, 0, 0⟩, false, rfl, bel_set3 HRQ.out.bel (Nat.le_refl _) _ _ _, fun h => (by cases h), fun _ => HZ.out⟩
/-- The specification's line, read. -/
theorem readLine22 (s : List UInt8) (hs : s.length ≤ 400000) (w : World) : Calls Tryd.prog 22 #[.string (bs s)] w (RiA s w) :=
  readLine22A s (bs s) (bs_size s) (bs_get s) (fun a b w' h1 h2 => slice_str s a b h1 h2 w') (fun x => by
    rw [ByteArray.toList_eq, ByteArray.toList_eq]
    have e1 : (bs x).data.toList = x := by simp [bs]
    have e2 : (bs s).data.toList = s := by simp [bs]
    rw [e1, e2]
    by_cases h : x = s
    · simp [h]
    · rw [decide_eq_false h, beq_eq_false_iff_ne]
      exact h) hs w
end Go.Proofs.YtanbdfeoijflaaaDoor
