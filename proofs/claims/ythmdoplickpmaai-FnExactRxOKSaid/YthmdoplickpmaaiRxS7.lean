import Derived.Test.YthmdoplickpmaaiRxS6
namespace Go.Proofs.Ythmdoplickpmaai
open Go.RowKit Go.Deep Go.Lib
set_option linter.unusedVariables false
set_option maxRecDepth 100000
set_option linter.unusedSimpArgs false

theorem Node.whole {w : World} {B : Nat} (h : Node w B) : ∃ cs : Array Value, w.heap[B]? = some (.cells cs 113 (0, 0)) ∧ cs.size = 258 ∧ ∀ u ∈ cs.toList, u.oneCell' = true := by
  obtain ⟨f, ⟨cs, h1, h2, h3⟩, _, h4⟩ := h
  refine ⟨cs, h1, h2, fun u hu => ?_⟩
  obtain ⟨i, hi⟩ := List.mem_iff_getElem?.1 hu
  rw [Array.getElem?_toList] at hi
  have hlt : i < 258 := by
    rcases Nat.lt_or_ge i 258 with h | h
    · exact h
    · rw [Array.getElem?_eq_none (by omega)] at hi; cases hi
  have := h3 i hlt
  rw [hi] at this
  cases this
  exact h4 i hlt
/-- The cells of a node, by their number. -/
def nf (k : Int) (u : Value) (i : Nat) : Value := if i = 0 then .int .i64 k else if i = 257 then u else .bool false
theorem nd_node (w : World) (k : Int) (u : Value) (hu : u.oneCell' = true) : Node (w.alloc (.cells (nd k u) 113)) w.heap.size := by
  refine ⟨nf k u, ⟨_, blk_alloc_new _ _, rfl, fun i hi => ?_⟩, fun i hi => ⟨false, ?_⟩, fun i hi => ?_⟩
  · unfold nd nf
    by_cases h0 : i = 0
    · subst h0; rfl
    · by_cases h1 : i = 257
      · subst h1; rfl
      · rw [if_neg h0, if_neg h1]
        obtain ⟨j, rfl⟩ : ∃ j, i = j + 1 := ⟨i - 1, by omega⟩
        simp only [List.getElem?_toArray, List.getElem?_cons_succ]
        rw [List.getElem?_append_left (by simp; omega), List.getElem?_replicate_of_lt (by omega)]
  · unfold nf
    rw [if_neg (by omega), if_neg (by omega)]
  · unfold nf
    split
    · rfl
    · split
      · exact hu
      · rfl
theorem built113 (k : Int) : Try.prog.built 113 [(0, .int .i64 k)] = some (nd k (.slice none 0 0)) := by kernel_rfl
/-- What a part of the spec's reader leaves: d more of the slack. -/
def AGot (r : Except Nat Nat) (p : Nat) (s : ByteArray) (c d : Nat) (g : Option Nat) (w : World) (e : Ending) (w' : World) : Prop := (∃ m : Nat, e = .returned (.int .i64 m)) ∧ match r with
  | .ok k => ∃ g', Rd w' p s k (c + d) g' ∧ Mv p g w g' w'
  | .error j => ∃ g', Bd w' p s j (c + d + 1) g' ∧ Mv p g w g' w'
/-- What is asked of a choice's code. -/
def SDoes (pC : Nat → Except Nat Nat) (p : Nat) (s : ByteArray) (k : Nat) : Prop := ∀ k' w c g, k < k' → c ≤ 1000 → Rd w p s k' c g → Calls Try.prog 49 #[.pointer (some ⟨p, 0, none⟩)] w fun e w' => AGot (pC k') p s c 2 g w e w'
/-- Where a choice ends. -/
def Ends (pC : Nat → Except Nat Nat) (s : ByteArray) (k : Nat) : Prop := ∀ k' k1, k < k' → k' ≤ s.size → pC k' = .ok k1 → k1 < s.size → seesB s k1 41 = true
theorem Ob.fresh {p B : Nat} {g : Option Nat} {w w0 w' : World} (h : Ob p B g w0 w') (hb : Below w.heap.size w w0) (hB : w.heap.size ≤ B) : Mv p g w g w' :=
  ⟨⟨h.fr.1.trans hb.os, h.fr.2.1.trans hb.tape, h.fr.2.2.1.trans hb.output, Nat.le_trans hb.size h.fr.2.2.2.1, fun k hk h1 h2 => (h.fr.2.2.2.2 k (Nat.lt_of_lt_of_le hk hb.size) h1 (by omega) h2).trans (hb.block k hk)⟩, .inl rfl⟩
theorem sOut_ok : ∀ b : UInt8, b ≠ 92 → ([124, 42, 43, 63, 40, 41, 46, 91, 93] : List UInt8).contains b = sOut.contains b := by
  intro b hb
  unfold sOut
  simp [hb]

theorem load_whole {W : World} {B : Nat} {cs : Array Value} (hg : W.heap[B]? = some (.cells cs 113 (0, 0))) (hcs : cs.size = 258) : (loadCellsFrom ⟨B, 0, none⟩ 0 258 #[]).run Try.prog W = .ok cs W := by
  have := run_loadCells_list (P := Try.prog) W ⟨B, 0, none⟩ cs.toList (fun j v hv => by
    have hadd : (⟨B, 0, none⟩ : Addr).add j = ⟨B, j, none⟩ := by unfold Addr.add; split <;> simp_all
    rw [hadd, cell_of_row _ _ j cs 113 (0, 0) hg]
    simpa using hv)
  rw [← hcs]
  simpa [loadCells] using this
set_option maxHeartbeats 3200000 in
theorem atom_s {pC : Nat → Except Nat Nat} {p k c : Nat} {s : ByteArray} {g : Option Nat} (w : World) (hC : SDoes pC p s k) (hE : Ends pC s k) (hg : RxGood s k pC) (h : Rd w p s k c g) (hc : c ≤ 1000) (hlt : k < s.size) :
    Calls Try.prog 69 #[.pointer (some ⟨p, 0, none⟩)] w fun e w' => AGot (xAtom pC s k) p s c 0 g w e w' := by
  have hs := h.small
  have hzr := (zero_of_info (P := Try.prog) (t := 113) (v := .agg (nd 0 (.slice none 0 0))) (n := 258) (by kernel_rfl)).1
  have hst := run_storeCells_new (P := Try.prog) w 113 (nd 0 (.slice none 0 0)) ((nd 0 (.slice none 0 0)).setIfInBounds 0 (.int .i64 1)) (by kernel_rfl) rfl (by kernel_rfl)
  simp only [Array.toList_setIfInBounds] at hst
  rw [show (nd 0 (.slice none 0 0)).setIfInBounds 0 (.int .i64 1) = nd 1 (.slice none 0 0) from by kernel_rfl] at hst
  have hgk := get!_eq s k hlt
  have hlt' : (k : Int) < s.size := by omega
  have hc3 : 3 ≤ c := (h.next hlt).1
  have hbl := bel_alloc w (.cells (nd 1 (.slice none 0 0)) 113)
  have h0 := h.bel hbl
  obtain ⟨x0, x1, x2, y1, y2, _⟩ := h0.cells
  have hB : w.heap.size ≠ p := by obtain ⟨_, n, h2, _⟩ := h; have := h2.lt.1; omega
  have hgB : g ≠ some w.heap.size := by
    intro e
    obtain ⟨_, n, h2, _⟩ := h
    have := (h2.lt.2.1 _ e).1
    omega
  have H0 := (show Hid _ from (⟨h0, nd_node w 1 (.slice none 0 0) rfl, Mv.bel hbl⟩ : Rd (w.alloc (.cells (nd 1 (.slice none 0 0)) 113)) p s k c g ∧ Node (w.alloc (.cells (nd 1 (.slice none 0 0)) 113)) w.heap.size ∧ Mv p g w g (w.alloc (.cells (nd 1 (.slice none 0 0)) 113))))
  have HFR := (show Hid _ from (⟨hbl, Nat.le_refl _⟩ : Below w.heap.size w (w.alloc (.cells (nd 1 (.slice none 0 0)) 113)) ∧ w.heap.size ≤ w.heap.size))
  clear h0 hbl h
  by_cases h40 : s[k] = 40
  · have hq : ((s[k].toNat : Int) == 40) = true := by rw [h40]; simp
    have hsee : seesB s k 40 = true := by unfold seesB; rw [hgk, h40]; simp [hlt]
    have hr : xAtom pC s k = (match pC (k + 1) with
      | .error j => .error j
      | .ok k1 => if seesB s k1 41 then .ok (k1 + 1) else .error k1) := by unfold xAtom; rw [if_pos hsee]; cases pC (k + 1) <;> rfl
    rw [hr]
    have HOR := (show Hid _ from fun W (hW : Rd W p s (k + 1) (c - 3) g) => hC (k + 1) W (c - 3) g (Nat.lt_succ_self _) (by omega) hW)
    have hee := hE (k + 1)
    have hin := hg (k + 1) (Nat.lt_succ_self _) hlt
    clear hr hsee h40 hgk hC hE hg
    generalize pC (k + 1) = r at *
    cases r with
    | error j =>
      clear hee hin
      dsimp only
      go_enter Try.func69, Try.ntmps69
      go_upto_region 2 with fail
      clear hst hzr
      generalize w.alloc (.cells (nd 1 (.slice none 0 0)) 113) = W0 at *
      generalize hBe : w.heap.size = B at *
      have HBE := (show Hid _ from hBe); clear hBe
      go_quiet (fail)
      have hD := (⟨H0.out.1.drewN nq, H0.out.2.1.drewN nq, H0.out.2.2.drewN nq⟩ : Rd (W0.drewN nq) p s k c g ∧ Node (W0.drewN nq) B ∧ Mv p g w g (W0.drewN nq))
      clear x0 x1 x2 y1 y2
      obtain ⟨x0, x1, x2, y1, y2, _⟩ := hD.1.cells
      have HD := (show Hid _ from hD); clear hD
      generalize W0.drewN nq = W1 at *
      have hset := Mv.set1 (p := p) (g := g) (w := W1) 1 (.int .i64 ((k : Int) + 1))
      have H2 := (show Hid _ from (⟨HD.out.1.adv hlt, HD.out.2.1.mv hset hB hgB, HD.out.2.2.trans hset⟩ : Rd (W1.setCell ⟨p, 1, none⟩ (.int .i64 ((k : Int) + 1))) p s (k + 1) (c - 3) g ∧ Node (W1.setCell ⟨p, 1, none⟩ (.int .i64 ((k : Int) + 1))) B ∧ Mv p g w g (W1.setCell ⟨p, 1, none⟩ (.int .i64 ((k : Int) + 1))))); clear hset
      go_wp2_with fail
      refine Calls.mono (HOR.out _ H2.out.1) ?_
      rintro e w3 ⟨⟨mm, rfl⟩, g3, h3, v3⟩
      have H3 := (show Hid _ from (⟨h3, H2.out.2.2.trans v3⟩ : Bd w3 p s j (c - 3 + 2 + 1) g3 ∧ Mv p g w g3 w3)); clear h3 v3
      go_wp2_with fail
      refine Calls.mono (more_bst w3 H3.out.1) ?_
      rintro e w4 ⟨rfl, h4, v4⟩
      obtain ⟨zz, z1, z2, z3⟩ := h4.cells
      have HFB := (show Hid _ from fail_bad zz w4 h4)
      have H4 := (show Hid _ from (⟨h4.mono (by omega), H3.out.2.trans v4⟩ : Bd w4 p s j (c + 0 + 1) g3 ∧ Mv p g w g3 w4)); clear h4 v4
      go_wp2_with fail
      refine Calls.mono HFB.out ?_
      rintro e w5 ⟨rfl, rfl⟩
      go_wp2_with fail
      go_ret
      exact ⟨⟨mm, rfl⟩, g3, H4.out.1, H4.out.2⟩
    | ok k1 =>
      have hk1 : k1 ≤ s.size := hin.2
      dsimp only
      by_cases hl1 : k1 < s.size
      · have hsee := hee k1 (Nat.lt_succ_self _) hlt rfl hl1
        rw [if_pos hsee]
        clear hsee hee hin
        go_enter Try.func69, Try.ntmps69
        go_upto_region 2 with fail
        clear hst hzr
        generalize w.alloc (.cells (nd 1 (.slice none 0 0)) 113) = W0 at *
        generalize hBe : w.heap.size = B at *
        have HBE := (show Hid _ from hBe); clear hBe
        go_quiet (fail)
        have hD := (⟨H0.out.1.drewN nq, H0.out.2.1.drewN nq, H0.out.2.2.drewN nq⟩ : Rd (W0.drewN nq) p s k c g ∧ Node (W0.drewN nq) B ∧ Mv p g w g (W0.drewN nq))
        clear x0 x1 x2 y1 y2
        obtain ⟨x0, x1, x2, y1, y2, _⟩ := hD.1.cells
        have HD := (show Hid _ from hD); clear hD
        generalize W0.drewN nq = W1 at *
        have hset := Mv.set1 (p := p) (g := g) (w := W1) 1 (.int .i64 ((k : Int) + 1))
        have H2 := (show Hid _ from (⟨HD.out.1.adv hlt, HD.out.2.1.mv hset hB hgB, HD.out.2.2.trans hset⟩ : Rd (W1.setCell ⟨p, 1, none⟩ (.int .i64 ((k : Int) + 1))) p s (k + 1) (c - 3) g ∧ Node (W1.setCell ⟨p, 1, none⟩ (.int .i64 ((k : Int) + 1))) B ∧ Mv p g w g (W1.setCell ⟨p, 1, none⟩ (.int .i64 ((k : Int) + 1))))); clear hset
        go_wp2_with fail
        refine Calls.mono (HOR.out _ H2.out.1) ?_
        rintro e w3 ⟨⟨mm, rfl⟩, g3, h3, v3⟩
        have H3 := (show Hid _ from (⟨h3, H2.out.2.2.trans v3⟩ : Rd w3 p s k1 (c - 3 + 2) g3 ∧ Mv p g w g3 w3)); clear h3 v3
        go_wp2_with fail
        refine Calls.mono (more_st w3 H3.out.1 (r := true) (by simp [hl1])) ?_
        rintro e w4 ⟨rfl, h4, v4⟩
        clear x0 x1 x2 y1 y2
        obtain ⟨x0, x1, x2, y1, y2, _⟩ := h4.cells
        have H4 := (show Hid _ from (⟨(h4.adv hl1).mono (by omega), (H3.out.2.trans v4).trans (Mv.set1 1 (.int .i64 ((k1 : Int) + 1)))⟩ : Rd (w4.setCell ⟨p, 1, none⟩ (.int .i64 ((k1 : Int) + 1))) p s (k1 + 1) (c + 0) g3 ∧ Mv p g w g3 (w4.setCell ⟨p, 1, none⟩ (.int .i64 ((k1 : Int) + 1))))); clear h4 v4
        go_wp2_with fail
        go_ret
        exact ⟨⟨mm, rfl⟩, g3, H4.out.1, H4.out.2⟩
      · have hsee : seesB s k1 41 = false := by unfold seesB; simp [hl1]
        rw [if_neg (by rw [hsee]; simp)]
        clear hsee hee hin
        go_enter Try.func69, Try.ntmps69
        go_upto_region 2 with fail
        clear hst hzr
        generalize w.alloc (.cells (nd 1 (.slice none 0 0)) 113) = W0 at *
        generalize hBe : w.heap.size = B at *
        have HBE := (show Hid _ from hBe); clear hBe
        go_quiet (fail)
        have hD := (⟨H0.out.1.drewN nq, H0.out.2.1.drewN nq, H0.out.2.2.drewN nq⟩ : Rd (W0.drewN nq) p s k c g ∧ Node (W0.drewN nq) B ∧ Mv p g w g (W0.drewN nq))
        clear x0 x1 x2 y1 y2
        obtain ⟨x0, x1, x2, y1, y2, _⟩ := hD.1.cells
        have HD := (show Hid _ from hD); clear hD
        generalize W0.drewN nq = W1 at *
        have hset := Mv.set1 (p := p) (g := g) (w := W1) 1 (.int .i64 ((k : Int) + 1))
        have H2 := (show Hid _ from (⟨HD.out.1.adv hlt, HD.out.2.1.mv hset hB hgB, HD.out.2.2.trans hset⟩ : Rd (W1.setCell ⟨p, 1, none⟩ (.int .i64 ((k : Int) + 1))) p s (k + 1) (c - 3) g ∧ Node (W1.setCell ⟨p, 1, none⟩ (.int .i64 ((k : Int) + 1))) B ∧ Mv p g w g (W1.setCell ⟨p, 1, none⟩ (.int .i64 ((k : Int) + 1))))); clear hset
        go_wp2_with fail
        refine Calls.mono (HOR.out _ H2.out.1) ?_
        rintro e w3 ⟨⟨mm, rfl⟩, g3, h3, v3⟩
        have H3 := (show Hid _ from (⟨h3, H2.out.2.2.trans v3⟩ : Rd w3 p s k1 (c - 3 + 2) g3 ∧ Mv p g w g3 w3)); clear h3 v3
        go_wp2_with fail
        refine Calls.mono (more_st w3 H3.out.1 (r := false) (by simp [hl1])) ?_
        rintro e w4 ⟨rfl, h4, v4⟩
        clear x0 x1 x2 y1 y2
        obtain ⟨x0, x1, x2, y1, y2, _⟩ := h4.cells
        have H4 := (show Hid _ from (⟨fail_at w4 h4, H3.out.2.trans v4⟩ : _ ∧ Mv p g w g3 w4)); clear h4 v4
        go_wp2_with fail
        refine Calls.mono H4.out.1 ?_
        rintro e w5 ⟨rfl, h5, v5, _⟩
        have H5 := (show Hid _ from (⟨h5.mono (by omega), H4.out.2.trans v5⟩ : Bd w5 p s k1 (c + 0 + 1) g3 ∧ Mv p g w g3 w5)); clear h5 v5
        go_wp2_with fail
        go_ret
        exact ⟨⟨mm, rfl⟩, g3, H5.out.1, H5.out.2⟩
  have hq40 : ((s[k].toNat : Int) == 40) = false := ne_of h40
  have hs40 : seesB s k 40 = false := by unfold seesB; rw [hgk]; simp [h40]
  clear h40 hC hE hg
  by_cases h46 : s[k] = 46
  · have hq : ((s[k].toNat : Int) == 46) = true := by rw [h46]; simp
    have hr : xAtom pC s k = .ok (k + 1) := by unfold xAtom; rw [if_neg (by rw [hs40]; simp), if_pos (by unfold seesB; rw [hgk, h46]; simp [hlt])]
    rw [hr]
    clear hr hs40 hgk h46
    go_enter Try.func69, Try.ntmps69
    go_upto_region 2 with fail
    clear hst hzr
    generalize w.alloc (.cells (nd 1 (.slice none 0 0)) 113) = W0 at *
    generalize hBe : w.heap.size = B at *
    have HBE := (show Hid _ from hBe); clear hBe
    go_quiet (fail)
    have hD := (⟨H0.out.1.drewN nq, H0.out.2.1.drewN nq, H0.out.2.2.drewN nq⟩ : Rd (W0.drewN nq) p s k c g ∧ Node (W0.drewN nq) B ∧ Mv p g w g (W0.drewN nq))
    clear x0 x1 x2 y1 y2
    obtain ⟨x0, x1, x2, y1, y2, _⟩ := hD.1.cells
    have HD := (show Hid _ from hD); clear hD
    generalize W0.drewN nq = W1 at *
    have hset := Mv.set1 (p := p) (g := g) (w := W1) 1 (.int .i64 ((k : Int) + 1))
    have H2 := (show Hid _ from (⟨HD.out.1.adv hlt, HD.out.2.1.mv hset hB hgB, HD.out.2.2.trans hset⟩ : Rd (W1.setCell ⟨p, 1, none⟩ (.int .i64 ((k : Int) + 1))) p s (k + 1) (c - 3) g ∧ Node (W1.setCell ⟨p, 1, none⟩ (.int .i64 ((k : Int) + 1))) B ∧ Mv p g w g (W1.setCell ⟨p, 1, none⟩ (.int .i64 ((k : Int) + 1))))); clear hset
    go_wp2_with fail
    generalize W1.setCell ⟨p, 1, none⟩ (.int .i64 ((k : Int) + 1)) = W2 at *
    clear x0 x1 x2 y1 y2
    go_loopw [5] (fun i wr => ∃ jj : Nat, i = .int .i64 jj ∧ jj ≤ 256 ∧ Hid (Rd wr p s (k + 1) (c - 3) g ∧ Node wr B ∧ Ob p B g W2 wr)) (fun i _ => 256 - (intOf i).toNat)
    case atStart => exact ⟨0, rfl, by omega, H2.out.1, H2.out.2.1, Ob.refl _ _ _ _⟩
    case round =>
      obtain ⟨i9, rfl, hj, HJ⟩ := hrel
      by_cases hjh : i9 < 256
      · have hj256 : (i9 : Int) < 256 := by omega
        obtain ⟨⟨bb, c0⟩, f0⟩ := HJ.out.2.1.cell i9 (by omega)
        have c0' : wr.cell? ⟨B, 1 + i9, none⟩ = some (.bool bb) := by rw [Nat.add_comm]; exact c0
        have f0' : wr.frozen? ⟨B, 1 + i9, none⟩ = false := by rw [Nat.add_comm]; exact f0
        have H6 := (show Hid _ from fun (v : Bool) => (⟨HJ.out.1.out (Out.set (o := 1 + i9) wr (.bool v) (Nat.le_refl B) (Nat.lt_succ_self B)) hB hgB, (by have := HJ.out.2.1.set i9 v; rw [Nat.add_comm] at this; exact this), HJ.out.2.2.trans (Ob.out (Out.set (o := 1 + i9) wr (.bool v) (Nat.le_refl B) (Nat.lt_succ_self B)))⟩ : Rd (wr.setCell ⟨B, 1 + i9, none⟩ (.bool v)) p s (k + 1) (c - 3) g ∧ Node (wr.setCell ⟨B, 1 + i9, none⟩ (.bool v)) B ∧ Ob p B g W2 (wr.setCell ⟨B, 1 + i9, none⟩ (.bool v))))
        go_wp2_with fail
        exact ⟨⟨i9 + 1, by go_num, by omega, H6.out _⟩, by simp [intOf]; omega⟩
      · have hjh' : (256 : Int) ≤ i9 := by omega
        have HMV : Hid (Mv p g w g wr) := by
          obtain ⟨o1, o2, o3, o4, o5⟩ := HJ.out.2.2.fr
          obtain ⟨⟨q1, q2, q3, q4, q5⟩, q6⟩ := H2.out.2.2
          exact ⟨⟨o1.trans q1, o2.trans q2, o3.trans q3, Nat.le_trans q4 o4, fun i hi e1 e2 => (o5 i (by omega) e1 (by have := HBE.out; omega) e2).trans (q5 i hi e1 e2)⟩, .inl rfl⟩
        have HT := (show Hid _ from (⟨HJ.out.1, HJ.out.2.1, HMV.out⟩ : Rd wr p s (k + 1) (c - 3) g ∧ Node wr B ∧ Mv p g w g wr))
        obtain ⟨cs, hcs1, hcs2, hcs3⟩ := HT.out.2.1.whole
        have HP := (show Hid _ from put_ok cs hcs2 hcs3 wr HT.out.1 (by omega))
        clear hcs3
        go_wp2_with fail
        refine wp_load_row 113 (.tmp 3) rfl B rfl 113 cs (0, 0) _ hcs1 Try.underlying113 rfl (by rw [hcs2]; exact size113) ?_
        clear hcs1
        go_wp2_with fail
        refine Calls.mono HP.out ?_
        rintro e w9 ⟨⟨mm, rfl⟩, g', h9, v9⟩
        have HZ := (show Hid _ from (⟨h9.mono (by omega), HT.out.2.2.trans v9⟩ : Rd w9 p s (k + 1) (c + 0) g' ∧ Mv p g w g' w9)); clear h9 v9
        go_wp2_with fail
        go_ret
        exact ⟨⟨mm, rfl⟩, g', HZ.out.1, HZ.out.2⟩
  have hq46 : ((s[k].toNat : Int) == 46) = false := ne_of h46
  have hs46 : seesB s k 46 = false := by unfold seesB; rw [hgk]; simp [h46]
  clear h46
  by_cases h91 : s[k] = 91
  · have hq : ((s[k].toNat : Int) == 91) = true := by rw [h91]; simp
    have hr : xAtom pC s k = xBeh s (k + 1) := by unfold xAtom; rw [if_neg (by rw [hs40]; simp), if_neg (by rw [hs46]; simp), if_pos (by unfold seesB; rw [hgk, h91]; simp [hlt]), xSet_beh]
    rw [hr]
    have HIT := (show Hid _ from fun (W : World) (B : Nat) (h1 : Rd W p s (k + 1) (c - 3) g) (h2 : Node W B) (h3 : B ≠ p) (h4 : g ≠ some B) => items_s W h1 h2 h3 h4)
    clear hr hs40 hs46 hgk h91
    generalize xBeh s (k + 1) = r at *
    go_enter Try.func69, Try.ntmps69
    go_upto_region 2 with fail
    clear hst hzr
    generalize w.alloc (.cells (nd 1 (.slice none 0 0)) 113) = W0 at *
    generalize hBe : w.heap.size = B at *
    have HBE := (show Hid _ from hBe); clear hBe
    go_quiet (fail)
    have hD := (⟨H0.out.1.drewN nq, H0.out.2.1.drewN nq, H0.out.2.2.drewN nq⟩ : Rd (W0.drewN nq) p s k c g ∧ Node (W0.drewN nq) B ∧ Mv p g w g (W0.drewN nq))
    clear x0 x1 x2 y1 y2
    obtain ⟨x0, x1, x2, y1, y2, _⟩ := hD.1.cells
    have HD := (show Hid _ from hD); clear hD
    generalize W0.drewN nq = W1 at *
    have hset := Mv.set1 (p := p) (g := g) (w := W1) 1 (.int .i64 ((k : Int) + 1))
    have H2 := (show Hid _ from (⟨HD.out.1.adv hlt, HD.out.2.1.mv hset hB hgB, HD.out.2.2.trans hset⟩ : Rd (W1.setCell ⟨p, 1, none⟩ (.int .i64 ((k : Int) + 1))) p s (k + 1) (c - 3) g ∧ Node (W1.setCell ⟨p, 1, none⟩ (.int .i64 ((k : Int) + 1))) B ∧ Mv p g w g (W1.setCell ⟨p, 1, none⟩ (.int .i64 ((k : Int) + 1))))); clear hset
    go_wp2_with fail
    refine Calls.mono (HIT.out _ _ H2.out.1 H2.out.2.1 hB hgB) ?_
    rintro e w3 ⟨rfl, o3, n3, s3⟩
    have HMV : Hid (Mv p g w g w3) := by
      obtain ⟨o1, o2, o3, o4, o5⟩ := o3.fr
      obtain ⟨⟨q1, q2, q3, q4, q5⟩, q6⟩ := H2.out.2.2
      exact ⟨⟨o1.trans q1, o2.trans q2, o3.trans q3, Nat.le_trans q4 o4, fun i hi e1 e2 => (o5 i (by omega) e1 (by have := HBE.out; omega) e2).trans (q5 i hi e1 e2)⟩, .inl rfl⟩
    clear o3 x0 x1 x2 y1 y2
    cases r with
    | ok k3 =>
      have HT := (show Hid _ from (⟨s3, n3, HMV.out⟩ : Rd w3 p s k3 (c - 3) g ∧ Node w3 B ∧ Mv p g w g w3)); clear s3 n3
      obtain ⟨cs, hcs1, hcs2, hcs3⟩ := HT.out.2.1.whole
      have HP := (show Hid _ from put_ok cs hcs2 hcs3 w3 HT.out.1 (by omega))
      clear hcs3
      go_wp2_with fail
      refine wp_load_row 113 (.tmp 3) rfl B rfl 113 cs (0, 0) _ hcs1 Try.underlying113 rfl (by rw [hcs2]; exact size113) ?_
      clear hcs1
      go_wp2_with fail
      refine Calls.mono HP.out ?_
      rintro e w9 ⟨⟨mm, rfl⟩, g', h9, v9⟩
      have HZ := (show Hid _ from (⟨h9.mono (by omega), HT.out.2.2.trans v9⟩ : Rd w9 p s (k3) (c + 0) g' ∧ Mv p g w g' w9)); clear h9 v9
      go_wp2_with fail
      go_ret
      exact ⟨⟨mm, rfl⟩, g', HZ.out.1, HZ.out.2⟩
    | error j =>
      have HT := (show Hid _ from (⟨s3, n3, HMV.out⟩ : Bd w3 p s j (c - 3) g ∧ Node w3 B ∧ Mv p g w g w3)); clear s3 n3
      obtain ⟨cs, hcs1, hcs2, hcs3⟩ := HT.out.2.1.whole
      have HP := (show Hid _ from put_bad cs hcs2 hcs3 w3 HT.out.1 (by omega))
      clear hcs3
      go_wp2_with fail
      refine wp_load_row 113 (.tmp 3) rfl B rfl 113 cs (0, 0) _ hcs1 Try.underlying113 rfl (by rw [hcs2]; exact size113) ?_
      clear hcs1
      go_wp2_with fail
      refine Calls.mono HP.out ?_
      rintro e w9 ⟨⟨mm, rfl⟩, g', h9, v9⟩
      have HZ := (show Hid _ from (⟨h9.mono (by omega), HT.out.2.2.trans v9⟩ : Bd w9 p s (j) (c + 0 + 1) g' ∧ Mv p g w g' w9)); clear h9 v9
      go_wp2_with fail
      go_ret
      exact ⟨⟨mm, rfl⟩, g', HZ.out.1, HZ.out.2⟩
  have hq91 : ((s[k].toNat : Int) == 91) = false := ne_of h91
  have hs91 : seesB s k 91 = false := by unfold seesB; rw [hgk]; simp [h91]
  clear h91
  have hr : xAtom pC s k = (match xOne sOut s k with
    | .error j => .error j
    | .ok (_, k1) => .ok k1) := by
    unfold xAtom
    rw [if_neg (by rw [hs40]; simp), if_neg (by rw [hs46]; simp), if_neg (by rw [hs91]; simp)]
    cases xOne sOut s k <;> rfl
  rw [hr]
  have HON := (show Hid _ from fun (W : World) (h1 : Rd W p s k c g) => one_s sOut ⟨#[124, 42, 43, 63, 40, 41, 46, 91, 93]⟩ (fun b hb => sOut_ok b hb) (by decide) W h1)
  clear hr hs40 hs46 hs91 hgk
  generalize xOne sOut s k = r at *
  go_enter Try.func69, Try.ntmps69
  go_upto_region 2 with fail
  clear hst hzr
  generalize w.alloc (.cells (nd 1 (.slice none 0 0)) 113) = W0 at *
  generalize hBe : w.heap.size = B at *
  have HBE := (show Hid _ from hBe); clear hBe
  go_quiet (fail)
  have hD := (⟨H0.out.1.drewN nq, H0.out.2.1.drewN nq, H0.out.2.2.drewN nq⟩ : Rd (W0.drewN nq) p s k c g ∧ Node (W0.drewN nq) B ∧ Mv p g w g (W0.drewN nq))
  clear x0 x1 x2 y1 y2
  obtain ⟨x0, x1, x2, y1, y2, _⟩ := hD.1.cells
  have HD := (show Hid _ from hD); clear hD
  generalize W0.drewN nq = W1 at *
  go_wp2_with fail
  refine Calls.mono (HON.out _ HD.out.1) ?_
  rintro e w3 ⟨g3, v3⟩
  have n3 := HD.out.2.1.mv v3 hB hgB
  have m3 := HD.out.2.2.trans v3
  clear x0 x1 x2 y1 y2 v3
  cases r with
  | ok a =>
    obtain ⟨b, k3⟩ := a
    obtain ⟨rfl, r3⟩ := g3
    dsimp only at r3 ⊢
    have hub := b.toNat_lt
    generalize b.toNat = z at *
    obtain ⟨⟨bb, c0⟩, f0⟩ := n3.cell z hub
    have c0' : w3.cell? ⟨B, 1 + z, none⟩ = some (.bool bb) := by rw [Nat.add_comm]; exact c0
    have f0' : w3.frozen? ⟨B, 1 + z, none⟩ = false := by rw [Nat.add_comm]; exact f0
    have hub' : (z : Int) < 256 := by omega
    have hso : Out B (B + 1) w3 (w3.setCell ⟨B, 1 + z, none⟩ (.bool true)) := Out.set (o := 1 + z) w3 (.bool true) (Nat.le_refl B) (Nat.lt_succ_self B)
    have hnn : Node (w3.setCell ⟨B, 1 + z, none⟩ (.bool true)) B := by
      have := n3.set z true
      rw [Nat.add_comm] at this
      exact this
    have HMV : Hid (Mv p g w g (w3.setCell ⟨B, 1 + z, none⟩ (.bool true))) := by
      obtain ⟨o1, o2, o3, o4, o5⟩ := (Ob.out (p := p) (g := g) hso).fr
      obtain ⟨⟨q1, q2, q3, q4, q5⟩, q6⟩ := m3
      exact ⟨⟨o1.trans q1, o2.trans q2, o3.trans q3, Nat.le_trans q4 o4, fun i hi e1 e2 => (o5 i (by omega) e1 (by have := HBE.out; omega) e2).trans (q5 i hi e1 e2)⟩, .inl rfl⟩
    have HT := (show Hid _ from (⟨r3.out hso hB hgB, hnn, HMV.out⟩ : Rd (w3.setCell ⟨B, 1 + z, none⟩ (.bool true)) p s k3 (c - 3) g ∧ Node (w3.setCell ⟨B, 1 + z, none⟩ (.bool true)) B ∧ Mv p g w g (w3.setCell ⟨B, 1 + z, none⟩ (.bool true)))); clear r3 hnn hso n3 m3
    obtain ⟨cs, hcs1, hcs2, hcs3⟩ := HT.out.2.1.whole
    have HP := (show Hid _ from put_ok cs hcs2 hcs3 _ HT.out.1 (by omega))
    clear hcs3
    go_wp2_with fail
    refine wp_load_row 113 (.tmp 3) rfl B rfl 113 cs (0, 0) _ hcs1 Try.underlying113 rfl (by rw [hcs2]; exact size113) ?_
    clear hcs1
    go_wp2_with fail
    refine Calls.mono HP.out ?_
    rintro e w9 ⟨⟨mm, rfl⟩, g', h9, v9⟩
    have HZ := (show Hid _ from (⟨h9.mono (by omega), HT.out.2.2.trans v9⟩ : Rd w9 p s (k3) (c + 0) g' ∧ Mv p g w g' w9)); clear h9 v9
    go_wp2_with fail
    go_ret
    exact ⟨⟨mm, rfl⟩, g', HZ.out.1, HZ.out.2⟩
  | error j =>
    obtain ⟨z, hub, rfl, r3⟩ := g3
    dsimp only
    obtain ⟨⟨bb, c0⟩, f0⟩ := n3.cell z hub
    have c0' : w3.cell? ⟨B, 1 + z, none⟩ = some (.bool bb) := by rw [Nat.add_comm]; exact c0
    have f0' : w3.frozen? ⟨B, 1 + z, none⟩ = false := by rw [Nat.add_comm]; exact f0
    have hub' : (z : Int) < 256 := by omega
    have hso : Out B (B + 1) w3 (w3.setCell ⟨B, 1 + z, none⟩ (.bool true)) := Out.set (o := 1 + z) w3 (.bool true) (Nat.le_refl B) (Nat.lt_succ_self B)
    have hnn : Node (w3.setCell ⟨B, 1 + z, none⟩ (.bool true)) B := by
      have := n3.set z true
      rw [Nat.add_comm] at this
      exact this
    have HMV : Hid (Mv p g w g (w3.setCell ⟨B, 1 + z, none⟩ (.bool true))) := by
      obtain ⟨o1, o2, o3, o4, o5⟩ := (Ob.out (p := p) (g := g) hso).fr
      obtain ⟨⟨q1, q2, q3, q4, q5⟩, q6⟩ := m3
      exact ⟨⟨o1.trans q1, o2.trans q2, o3.trans q3, Nat.le_trans q4 o4, fun i hi e1 e2 => (o5 i (by omega) e1 (by have := HBE.out; omega) e2).trans (q5 i hi e1 e2)⟩, .inl rfl⟩
    have HT := (show Hid _ from (⟨r3.out hso hB hgB, hnn, HMV.out⟩ : Bd (w3.setCell ⟨B, 1 + z, none⟩ (.bool true)) p s j c g ∧ Node (w3.setCell ⟨B, 1 + z, none⟩ (.bool true)) B ∧ Mv p g w g (w3.setCell ⟨B, 1 + z, none⟩ (.bool true)))); clear r3 hnn hso n3 m3
    obtain ⟨cs, hcs1, hcs2, hcs3⟩ := HT.out.2.1.whole
    have HP := (show Hid _ from put_bad cs hcs2 hcs3 _ HT.out.1 (by omega))
    clear hcs3
    go_wp2_with fail
    refine wp_load_row 113 (.tmp 3) rfl B rfl 113 cs (0, 0) _ hcs1 Try.underlying113 rfl (by rw [hcs2]; exact size113) ?_
    clear hcs1
    go_wp2_with fail
    refine Calls.mono HP.out ?_
    rintro e w9 ⟨⟨mm, rfl⟩, g', h9, v9⟩
    have HZ := (show Hid _ from (⟨h9.mono (by omega), HT.out.2.2.trans v9⟩ : Bd w9 p s (j) (c + 0 + 1) g' ∧ Mv p g w g' w9)); clear h9 v9
    go_wp2_with fail
    go_ret
    exact ⟨⟨mm, rfl⟩, g', HZ.out.1, HZ.out.2⟩
end Go.Proofs.Ythmdoplickpmaai
