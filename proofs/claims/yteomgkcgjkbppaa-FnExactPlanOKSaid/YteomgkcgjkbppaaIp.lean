import Derived.Test.YteomgkcgjkbppaaTt
import Derived.Test.YteomgkcgjkbppaaFt
import Derived.Test.YteomgkcgjkbppaaSize
/-! The program: isTreePattern. -/
namespace Go.Proofs.Yteomgkcgjkbppaa
open Go.RowKit Go.Deep Go.Shelf
set_option linter.unusedVariables false
set_option maxRecDepth 100000
set_option linter.unusedSimpArgs false
attribute [local go_sem] Oper.semAt_some

theorem all83 {l B0 n0 : Nat} (hl0 : l < B0) (hn0 : n0 ≤ l) (J Jx : List Yl → World → Prop) (hJb : Bears B0 J)
    (hY : ∀ m pre x W1, J pre W1 → YieldAt Fence.wide m Try.prog l (ylE x) W1 fun e W' => (e = .returned (.bool true) ∧ J (pre ++ [x]) W' ∧ But l W1 W') ∨ (e = .returned (.bool false) ∧ Jx (pre ++ [x]) W')) (p : Tr) (m : Nat) (v : Value) (bp : Nat) (W : World)
    (hl : Lies W (fun q => q < n0) p v) (hb : Box W bp 31 [.string p.name, .string p.text, .bool p.leaf, v]) (hJ : J [] W) (hB : B0 ≤ W.heap.size) (hk : p.cnt ≤ 1000000) :
    CallsIn Fence.wide m Try.prog 83 #[.func (.yield l) #[] #[], .pointer (some ⟨bp, 0, none⟩)] W fun e W' => (∃ u, e = .returned u) ∧ ((∃ ys : List Yl, ys.map (fun y => y.1.1) = sub p ∧ J ys W') ∨ (∃ ys : List Yl, (∃ zs, ys.map (fun y => y.1.1) ++ zs = sub p) ∧ Jx ys W')) := by
  have HCL := (show Hid _ from (callsIn_wide (n := m)).1 (tell84 hl0 hn0 J Jx hJb hY p m v (.slice none 0 0) 0 [] [] W hl hJ hB (own_nil _ _ _ _) (by omega)))
  obtain ⟨a, c, d, rfl⟩ := hl.form
  have c0 : W.cell? ⟨bp, 0, none⟩ = some (.string p.name) := hb.cell 0 (by simp)
  have c1 : W.cell? ⟨bp, 1, none⟩ = some (.string p.text) := hb.cell 1 (by simp)
  have c2 : W.cell? ⟨bp, 2, none⟩ = some (.bool p.leaf) := hb.cell 2 (by simp)
  have c3 : W.cell? ⟨bp, 3, none⟩ = some (.slice a c d) := hb.cell 3 (by simp)
  simp only [Tr.val] at HCL
  generalize p.name = n0 at *
  generalize p.text = x0 at *
  generalize p.leaf = l0 at *
  clear hb hl hJ hY
  refine callsIn_of_wp Try.func83 rfl trivial ?_ rfl
  simp only [Try.ntmps83, List.size_toArray, List.length_cons, List.length_nil, Nat.reduceAdd, Nat.reduceSub, Array.replicate_succ, Array.replicate_zero, List.push_toArray, List.append_toArray, List.nil_append, List.cons_append]
  refine wpIn_wide.2 ?_
  go_wp2_with fail
  refine Calls.mono HCL.out ?_
  rintro e W' (⟨rfl, ys, e1, e2, e3, e4⟩ | ⟨rfl, ys, e1, e2⟩)
  · have HE := (show Hid (J ys W') from (by first | (show J ys W'; simpa using e2) | (show Jx ys W'; simpa using e2)))
    clear e2 e3 e4 HCL
    go_wp2_with fail
    go_end0
    exact ⟨⟨_, rfl⟩, .inl ⟨ys, e1, HE.out⟩⟩
  · have HE := (show Hid (Jx ys W') from (by first | (show J ys W'; simpa using e2) | (show Jx ys W'; simpa using e2)))
    clear e2 HCL
    go_wp2_with fail
    go_end0
    exact ⟨⟨_, rfl⟩, .inr ⟨ys, e1, HE.out⟩⟩
theorem tin56 (n x : ByteArray) (lf : Bool) (a : Option Addr) (c d : Nat) (w : World) :
    Calls Try.prog 56 #[.agg #[.string n, .string x, .bool lf, .slice a c d]] w fun e w' => e = .returned (.func (.func 83) #[] #[.pointer (some ⟨w.heap.size, 0, none⟩)]) ∧ w' = w.alloc (.cells #[.string n, .string x, .bool lf, .slice a c d] 31) := by
  go_enter Try.func56, Try.ntmps56
  go_wp2_with fail
  go_ret
  exact ⟨rfl, rfl⟩
theorem yield_any {m m' : Nat} {P : Program} {l : Nat} {args : Array Value} {W : World} {R : Ending → World → Prop} (h : YieldAt Fence.wide m P l args W R) : YieldAt Fence.wide m' P l args W R := by
  obtain ⟨fn, tmps, assign, body, hy, hR⟩ := h
  exact ⟨fn, tmps, assign, body, hy, hR.1, fun c cs _ => hR.2 c cs (fun d h => by simp [Fence.wide] at h)⟩
set_option maxHeartbeats 3200000 in
theorem ipat37 {S : Nat → Prop} (p : Tr) (v : Value) (w : World) (h : Lies w S p v) :
    Calls Try.prog 37 #[p.val v] w fun e w' => e = .returned (.bool (patB p)) ∧ Below w.heap.size w w' := by
  have hl0 : Lies w (fun q => q < w.heap.size) p v := (h.lt).mono (fun q hq => hq.2)
  obtain ⟨a, c, d, rfl⟩ := h.form
  have hb2 : Below w.heap.size w ((w.alloc (.cells #[.string p.name, .string p.text, .bool p.leaf, .slice a c d] 31)).alloc (.cells #[.bool false] 4)) := (bel_alloc _ _).alloc (by simp) _
  have HOK := (show Hid _ from iOK_any p (.slice a c d) _ (hl0.still hb2))
  have HX1 := (show Hid (Box ((w.alloc (.cells #[.string p.name, .string p.text, .bool p.leaf, .slice a c d] 31)).alloc (.cells #[.bool false] 4)) w.heap.size 31 [.string p.name, .string p.text, .bool p.leaf, .slice a c d]) from (Box.new w 31 _).still (bel_alloc _ _))
  have HX2 := (show Hid (Box ((w.alloc (.cells #[.string p.name, .string p.text, .bool p.leaf, .slice a c d] 31)).alloc (.cells #[.bool false] 4)) (w.heap.size + 1) 4 [.bool false]) from (by
    have h := Box.new (w.alloc (.cells #[.string p.name, .string p.text, .bool p.leaf, .slice a c d] 31)) 4 [.bool false]
    rw [show (w.alloc (.cells #[.string p.name, .string p.text, .bool p.leaf, .slice a c d] 31)).heap.size = w.heap.size + 1 from by simp] at h
    exact h))
  have HB2 := (show Hid _ from hb2)
  simp only [Tr.val] at HOK ⊢
  refine (callsIn_wide (n := 5)).1 ?_
  refine callsIn_of_wp_marks Try.func37 rfl trivial ?_ rfl
  simp only [Try.ntmps37, List.size_toArray, List.length_cons, List.length_nil, Nat.reduceAdd, Nat.reduceSub, Array.replicate_succ, Array.replicate_zero, List.push_toArray, List.append_toArray, List.nil_append, List.cons_append]
  refine wpIn_wide.2 ?_
  go_wp2_with fail
  refine Calls.mono HOK.out ?_
  rintro e w1 ⟨rfl, hb1⟩
  have x1 := HX1.out.still hb1
  have x2 := HX2.out.still hb1
  have c0 : w1.cell? ⟨w.heap.size, 0, none⟩ = some (.string p.name) := x1.cell 0 (by simp)
  have c1 : w1.cell? ⟨w.heap.size, 1, none⟩ = some (.string p.text) := x1.cell 1 (by simp)
  have c2 : w1.cell? ⟨w.heap.size, 2, none⟩ = some (.bool p.leaf) := x1.cell 2 (by simp)
  have c3 : w1.cell? ⟨w.heap.size, 3, none⟩ = some (.slice a c d) := x1.cell 3 (by simp)
  have d0 : w1.cell? ⟨w.heap.size + 1, 0, none⟩ = some (.bool false) := x2.cell 0 (by simp)
  have d1 : w1.frozen? ⟨w.heap.size + 1, 0, none⟩ = false := x2.frozen 0
  have HB1 := (show Hid (Below w.heap.size w w1) from bel_trans HB2.out hb1)
  have HS1 := (show Hid (w.heap.size + 2 ≤ w1.heap.size) from (by show w.heap.size + 2 ≤ w1.heap.size; have := hb1.size; simp at this; omega))
  cases hok : p.ok
  · have HP := (show Hid (patB p = false) from (by show patB p = false; unfold patB; rw [hok]; rfl))
    go_wp2_with fail
    refine ⟨.bool false, by simp [results, Try.results37, go_sem, d0], by rw [HP.out], ?_⟩
    exact HB1.out.setCell (by simp) _
  · have HP := (show Hid (patB p = (sub p).all asks) from (by
      show patB p = _
      unfold patB
      rw [hok, nmV_sub p (by
        unfold Tr.ok at hok
        simp only [Bool.and_eq_true, decide_eq_true_eq] at hok
        first
          | exact hok.1.1
          | exact hok.2
          | exact hok.1
          | exact hok.1.2)]
      rfl))
    have hct := ok_cnt hok
    have HLW := (show Hid (Lies w1 (fun q => q < w.heap.size) p (.slice a c d)) from hl0.still HB1.out)
    have HX2' := (show Hid (Box w1 (w.heap.size + 1) 4 [.bool false]) from x2)
    clear x1 x2 HX1 HX2 HOK hok hb1 hl0 h HB2 hb2
    go_wp2_with fail
    refine Calls.mono (tin56 _ _ _ _ _ _ _) ?_
    rintro e w2 ⟨rfl, hw2⟩
    have HBV := (show Hid (Below w1.heap.size w1 w2) from (by rw [hw2]; exact bel_alloc _ _))
    have HZV := (show Hid (w2.heap.size = w1.heap.size + 1) from (by show w2.heap.size = w1.heap.size + 1; rw [hw2]; simp))
    have HXV := (show Hid (Box w2 w1.heap.size 31 [.string p.name, .string p.text, .bool p.leaf, .slice a c d]) from (by rw [hw2]; exact Box.new _ _ _))
    clear hw2 c0 c1 c2 c3 d0 d1
    go_wp2_with fail
    refine (wpIn_wide (n := 5)).1 ?_
    refine wpIn_rangeC (α := Yl) rfl (by omega) (gf := 83) (lb := #[.pointer (some ⟨w1.heap.size, 0, none⟩)]) rfl trivial (enters_of Try.func83 (by kernel_rfl) rfl) (encs := ylE) (fun _ => rfl)
      (fun pre W => Below w2.heap.size w2 W ∧ (pre.all fun y => asks y.1.1) = true)
      (fun pre W => (∃ y ∈ pre, asks y.1.1 = false) ∧ But (w.heap.size + 1) w2 W ∧ Box W (w.heap.size + 1) 4 [.bool false]) ?hI ?hIx ?h0 (S := fun ys => ys.map (fun y => y.1.1) = sub p) (Sp := fun ys => ∃ zs, ys.map (fun y => y.1.1) ++ zs = sub p) ?hseq ?hround ?hdone ?hstop
    case hI =>
      intro s A B row hs hg hr
      exact ⟨⟨hg.os.trans hs.1.os, hg.tape.trans hs.1.tape, hg.output.trans hs.1.output, Nat.le_trans hs.1.size hg.size, fun q hq => (hg.block q (by have := hs.1.size; omega) (fun e => by have := hr q e.symm; omega)).trans (hs.1.block q hq)⟩, hs.2⟩
    case hIx =>
      intro s A B row hs hg hr
      have hz := HZV.out
      have h1 := HS1.out
      refine ⟨hs.1, ⟨hg.os.trans hs.2.1.1, hg.tape.trans hs.2.1.2.1, hg.output.trans hs.2.1.2.2.1, Nat.le_trans hs.2.1.2.2.2.1 hg.size, fun q hq hne => (hg.block q (by have := hs.2.1.2.2.2.1; omega) (fun e => by have := hr q e.symm; omega)).trans (hs.2.1.2.2.2.2 q hq hne)⟩, hs.2.2.keep (hg.block _ hs.2.2.lt (fun e => by have := hr _ e.symm; omega))⟩
    case h0 => exact ⟨Below.refl _ _, rfl⟩
    case hseq =>
      intro J Jx W hbW hsz hJb hJxb hY hJ0
      have hz := HZV.out
      have := HS1.out
      exact all83 (l := w2.heap.size + 1) (B0 := w2.heap.size + 2) (n0 := w2.heap.size) (by omega) (by omega) J Jx hJb (fun m pre x W1 hj => yield_any (hY pre x W1 hj)) p _ _ w1.heap.size W ((((HLW.out.still HBV.out).still hbW)).mono (fun q hq => by have : q < w.heap.size := hq; show q < w2.heap.size; omega)) (HXV.out.still hbW) hJ0 hsz (by omega)
    case hround =>
      intro pre x W hi hsz
      obtain ⟨hbW, hall⟩ := hi
      obtain ⟨t1, t2, t3, e1⟩ := x.2.1
      obtain ⟨u1, u2, u3, e2⟩ := x.2.2.1
      have htx := x.2.2.2
      simp only [ylE, Tr.val, e1, e2]
      gi_wp2
      refine ⟨bel_alloc _ _, fun o => ?_⟩
      have hz := HZV.out
      have hs1 := HS1.out
      obtain ⟨Wb, hWb⟩ : ∃ Wb : World, (W.alloc (.cells #[.string x.1.1.name, .string x.1.1.text, .bool x.1.1.leaf, .slice t1 t2 t3] 31)).putObj (w2.heap.size + 1) o = Wb := ⟨_, rfl⟩
      rw [hWb]
      have xb : Box Wb W.heap.size 31 [.string x.1.1.name, .string x.1.1.text, .bool x.1.1.leaf, .slice t1 t2 t3] := by
        rw [← hWb]
        exact (Box.new W 31 _).keep (World.putObj_heap_other (by omega))
      have hbb : Below w2.heap.size w2 Wb := by
        rw [← hWb]
        exact (bel_trans hbW (bel_alloc _ _)).grown (grownBy_putObj' _ _ _) (by simp; omega) (fun k e => by cases e; omega)
      have y2 : Box Wb (w.heap.size + 1) 4 [.bool false] := (HX2'.out.still HBV.out).still hbb
      have HV := (show Hid _ from var72 x.1.1 (.slice t1 t2 t3) Wb rfl)
      simp only [Tr.val] at HV
      have HN := (show Hid (∀ wq : World, Calls Try.prog 73 #[.string x.1.1.text] wq fun e w' => e = .returned (.bool (nmB x.1.1.text)) ∧ w' = wq) from fun wq => iName x.1.1.text htx wq)
      have HASK := (show Hid (asks x.1.1 = (!(vrB x.1.1.name x.1.1.leaf) || nmB x.1.1.text)) from rfl)
      have HG := (show Hid (∀ w3 : World, Below Wb.heap.size Wb w3 → asks x.1.1 = true → Below Wb.heap.size Wb w3 ∧ (Below w2.heap.size w2 w3 ∧ ((pre ++ [x]).all fun y => asks y.1.1) = true)) from fun w3 hb ha => ⟨hb, bel_trans hbb hb, by rw [List.all_append, hall]; simp [ha]⟩)
      have HF := (show Hid (∀ w3 : World, Below Wb.heap.size Wb w3 → asks x.1.1 = false → (Wb.heap.size ≤ (w3.setCell ⟨w.heap.size + 1, 0, none⟩ (.bool false)).heap.size ∧ ∀ q, w2.heap.size ≤ q → q < Wb.heap.size → (w3.setCell ⟨w.heap.size + 1, 0, none⟩ (.bool false)).heap[q]? = Wb.heap[q]?) ∧ ((∃ y ∈ pre ++ [x], asks y.1.1 = false) ∧ But (w.heap.size + 1) w2 (w3.setCell ⟨w.heap.size + 1, 0, none⟩ (.bool false)) ∧ Box (w3.setCell ⟨w.heap.size + 1, 0, none⟩ (.bool false)) (w.heap.size + 1) 4 [.bool false])) from fun w3 hb ha => by
        have hb3 := bel_trans hbb hb
        refine ⟨⟨by simp; exact hb.size, fun q h1 h2 => (blk_setCell_other _ _ _ _ (by show q ≠ w.heap.size + 1; omega)).trans (hb.block q h2)⟩, ⟨x, by simp, ha⟩, ⟨hb3.os, hb3.tape, hb3.output, by simp; exact hb3.size, fun q h1 h2 => (blk_setCell_other _ _ _ _ (by exact h2)).trans (hb3.block q h1)⟩, (y2.still hb).set 0 (.bool false)⟩)
      have HXX := (show Hid (∀ w3 : World, Below Wb.heap.size Wb w3 → w3.cell? ⟨W.heap.size, 1, none⟩ = some (.string x.1.1.text) ∧ w3.cell? ⟨w.heap.size + 1, 0, none⟩ = some (.bool false) ∧ w3.frozen? ⟨w.heap.size + 1, 0, none⟩ = false) from fun w3 hb => ⟨(xb.still hb).cell 1 (by simp), (y2.still hb).cell 0 (by simp), (y2.still hb).frozen 0⟩)
      have c0 : Wb.cell? ⟨W.heap.size, 0, none⟩ = some (.string x.1.1.name) := xb.cell 0 (by simp)
      have c1 : Wb.cell? ⟨W.heap.size, 1, none⟩ = some (.string x.1.1.text) := xb.cell 1 (by simp)
      have c2 : Wb.cell? ⟨W.heap.size, 2, none⟩ = some (.bool x.1.1.leaf) := xb.cell 2 (by simp)
      have c3 : Wb.cell? ⟨W.heap.size, 3, none⟩ = some (.slice t1 t2 t3) := xb.cell 3 (by simp)
      clear xb y2 hbb hWb
      cases hvr : vrB x.1.1.name x.1.1.leaf
      · rw [hvr] at HV HASK
        gi_wp2_with (refine ⟨trivial, ?_⟩; gi_at_call 72; refine (CallsIn.inRound _ (callsIn_wide.2 HV.out)).mono ?_; rintro e w3 ⟨rfl, hb3⟩)
        refine ⟨trivial, ?_⟩
        gi_wp2
        exact HG.out w3 hb3 (by rw [HASK.out]; rfl)
      · rw [hvr] at HV HASK
        cases hnm : nmB x.1.1.text
        · rw [hnm] at HN HASK
          gi_wp2_with (first
            | (refine ⟨trivial, ?_⟩; gi_at_call 72; refine (CallsIn.inRound _ (callsIn_wide.2 HV.out)).mono ?_; rintro e w3 ⟨rfl, hb3⟩; obtain ⟨f1, f2, f3⟩ := HXX.out w3 hb3)
            | (refine ⟨trivial, ?_⟩; gi_at_call 73; refine (CallsIn.inRound _ (callsIn_wide.2 (HN.out _))).mono ?_; rintro e w4 ⟨rfl, rfl⟩))
          exact HF.out _ hb3 (by rw [HASK.out]; rfl)
        · rw [hnm] at HN HASK
          gi_wp2_with (first
            | (refine ⟨trivial, ?_⟩; gi_at_call 72; refine (CallsIn.inRound _ (callsIn_wide.2 HV.out)).mono ?_; rintro e w3 ⟨rfl, hb3⟩; obtain ⟨f1, f2, f3⟩ := HXX.out w3 hb3)
            | (refine ⟨trivial, ?_⟩; gi_at_call 73; refine (CallsIn.inRound _ (callsIn_wide.2 (HN.out _))).mono ?_; rintro e w4 ⟨rfl, rfl⟩))
          exact HG.out _ hb3 (by rw [HASK.out]; rfl)
    case hdone =>
      rintro ys W hS ⟨hbW, hall⟩ hD
      have hz := HZV.out
      have hs1 := HS1.out
      have bx : Box W (w.heap.size + 1) 4 [.bool false] := (HX2'.out.still HBV.out).still hbW
      have d0 : W.cell? ⟨w.heap.size + 1, 0, none⟩ = some (.bool false) := bx.cell 0 (by simp)
      have d1 : W.frozen? ⟨w.heap.size + 1, 0, none⟩ = false := bx.frozen 0
      have HE := (show Hid (patB p = true) from (by
        show patB p = true
        rw [HP.out, ← hS, List.all_map]
        exact hall))
      have hD2 : (W.setCell ⟨w.heap.size + 1, 0, none⟩ (.bool true)).heap[w2.heap.size]? = some (.deferred (some [])) := (blk_setCell_other _ _ _ _ (by show w2.heap.size ≠ w.heap.size + 1; omega)).trans hD
      have bx2 := bx.set 0 (.bool true)
      have HFIN := (show Hid (Below w.heap.size w ((W.setCell ⟨w.heap.size + 1, 0, none⟩ (.bool true)).putObj w2.heap.size (.deferred none)) ∧ ((W.setCell ⟨w.heap.size + 1, 0, none⟩ (.bool true)).putObj w2.heap.size (.deferred none)).cell? ⟨w.heap.size + 1, 0, none⟩ = some (.bool true)) from (by
        have hb := bel_trans (bel_trans HB1.out HBV.out) hbW
        refine ⟨(hb.setCell (p := ⟨w.heap.size + 1, 0, none⟩) (by simp) _).grown (grownBy_putObj' _ _ _) (by have := hb.size; simp; omega) (fun k e => by cases e; omega), ?_⟩
        exact (bx2.keep (World.putObj_heap_other (by omega))).cell 0 (by simp)))
      clear bx bx2 hbW hall hS
      go_wp2_with fail
      refine ⟨by simp, .inl ⟨_, _, rfl, run_takeDeferred hD2, ?_⟩⟩
      exact ⟨.bool true, by simp [results, Try.results37, go_sem, HFIN.out.2], by rw [HE.out], HFIN.out.1⟩
    case hstop =>
      rintro ys W ⟨zs, hS⟩ ⟨⟨y, hy1, hy2⟩, hbt, hbx⟩ hD
      have hz := HZV.out
      have hs1 := HS1.out
      have HE := (show Hid (patB p = false) from (by
        show patB p = false
        rw [HP.out, ← hS, List.all_append, List.all_map]
        have : (ys.all (asks ∘ fun y => y.1.1)) = false := List.all_eq_false.2 ⟨y, hy1, by simp [hy2]⟩
        rw [this]
        rfl))
      have HFIN := (show Hid (Below w.heap.size w (W.putObj w2.heap.size (.deferred none)) ∧ (W.putObj w2.heap.size (.deferred none)).cell? ⟨w.heap.size + 1, 0, none⟩ = some (.bool false)) from (by
        have hb := bel_trans HB1.out HBV.out
        have hb2 : Below w.heap.size w W := ⟨hbt.1.trans hb.os, hbt.2.1.trans hb.tape, hbt.2.2.1.trans hb.output, Nat.le_trans hb.size hbt.2.2.2.1, fun q hq => (hbt.2.2.2.2 q (by omega) (by omega)).trans (hb.block q hq)⟩
        refine ⟨hb2.grown (grownBy_putObj' _ _ _) hb2.size (fun k e => by cases e; omega), ?_⟩
        exact (hbx.keep (World.putObj_heap_other (by omega))).cell 0 (by simp)))
      clear hbt hbx hS hy1 hy2
      refine wpIn_wide.2 ?_
      go_wp2_with fail
      refine ⟨by simp, .inl ⟨_, _, rfl, run_takeDeferred hD, ?_⟩⟩
      exact ⟨.bool false, by simp [results, Try.results37, go_sem, HFIN.out.2], by rw [HE.out], HFIN.out.1⟩
end Go.Proofs.Yteomgkcgjkbppaa
