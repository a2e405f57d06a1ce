import Derived.Test.YteomgkcgjkbppaaBg
import Derived.Test.YteomgkcgjkbppaaEq
import Derived.Test.YteomgkcgjkbppaaFc
import Derived.Test.YteomgkcgjkbppaaTk
import Derived.Test.YteomgkcgjkbppaaFh
/-! The law: binds are compared. -/
namespace Go.Proofs.Yteomgkcgjkbppaa
open Go.RowKit Go.Deep Go.Lib
set_option linter.unusedVariables false
set_option maxRecDepth 100000
set_option linter.unusedSimpArgs false

/-- Binds that may be read. -/
def BRd (w : World) (bl : List (ByteArray × Tr)) (v : Value) : Prop :=
  ∃ (a : Option Addr) (cap b : Nat) (sv : Nat → Value), v = .slice a bl.length cap ∧ bl.length ≤ 9223372036854775807 ∧ (0 < bl.length → a = some ⟨b, 0, none⟩) ∧ (∀ i (hi : i < bl.length), w.cell? ⟨b, i * 5, none⟩ = some (.string bl[i].1) ∧ w.cell? ⟨b, i * 5 + 1, none⟩ = some (.string bl[i].2.name) ∧ w.cell? ⟨b, i * 5 + 2, none⟩ = some (.string bl[i].2.text) ∧ w.cell? ⟨b, i * 5 + 3, none⟩ = some (.bool bl[i].2.leaf) ∧ w.cell? ⟨b, i * 5 + 4, none⟩ = some (sv i)) ∧ ∀ i (hi : i < bl.length), Lies w (fun _ => True) bl[i].2 (sv i)
theorem own_brd {w : World} {bl : List (ByteArray × Tr)} {B : Nat} {v : Value} {sv : Nat → Value} (h : w.ownsRow B 62 5 v bl.length (bcs bl sv bl.length)) (hl : ∀ i (hi : i < bl.length), Lies w (fun _ => True) bl[i].2 (sv i)) : BRd w bl v := by
  have hc : ∀ (b : Nat) (cap : Nat), v = .slice (some ⟨b, 0, none⟩) bl.length cap → ∀ i (hi : i < bl.length), w.cell? ⟨b, i * 5, none⟩ = some (.string bl[i].1) ∧ w.cell? ⟨b, i * 5 + 1, none⟩ = some (.string bl[i].2.name) ∧ w.cell? ⟨b, i * 5 + 2, none⟩ = some (.string bl[i].2.text) ∧ w.cell? ⟨b, i * 5 + 3, none⟩ = some (.bool bl[i].2.leaf) ∧ w.cell? ⟨b, i * 5 + 4, none⟩ = some (sv i) := fun b cap e i hi => by
    subst e
    obtain ⟨g0, g1, g2, g3, g4⟩ := bcs_get bl sv bl.length i hi
    rw [nb_eq hi] at g0 g1 g2 g3
    exact ⟨by rw [World.ownsRow.cellAt h _ (by omega), g0], by rw [World.ownsRow.cellAt h _ (by omega), g1], by rw [World.ownsRow.cellAt h _ (by omega), g2], by rw [World.ownsRow.cellAt h _ (by omega), g3], by rw [World.ownsRow.cellAt h _ (by omega), g4]⟩
  rcases h.2 with ⟨rfl, h0⟩ | ⟨g, cap, cur, e, r2, r3, r4, r5, r6⟩
  · exact ⟨none, 0, 0, sv, by rw [h0], by omega, fun h => by omega, fun i hi => by omega, fun i hi => by omega⟩
  · exact ⟨some ⟨g, 0, none⟩, cap, g, sv, e, by unfold maxLen at r5; omega, fun _ => rfl, hc g cap e, hl⟩
theorem BLi.brd {w : World} {bl : List (ByteArray × Tr)} {v : Value} (h : BLi w bl v) : BRd w bl v := by
  obtain ⟨b, cap, sv, hv, ho, hs, hl⟩ := h
  exact own_brd ho hl
theorem BGr.brd {w : World} {bl : List (ByteArray × Tr)} {B : Nat} {v : Value} (h : BGr bl B bl.length v w) : BRd w bl v := by
  obtain ⟨fs, l, hh, h1, h2, h3, h4⟩ := h
  exact own_brd h1 (fun i hi => by rw [← nb_eq hi]; exact (h2 i hi).lies.mono (fun _ _ => trivial))
theorem BRd.still {w w' : World} {bl : List (ByteArray × Tr)} {v : Value} (h : BRd w bl v) (hb : Below w.heap.size w w') : BRd w' bl v := by
  obtain ⟨a, cap, b, sv, h1, h2, h3, h4, h5⟩ := h
  have mv : ∀ {b o : Nat} {v : Value}, w.cell? ⟨b, o, none⟩ = some v → w'.cell? ⟨b, o, none⟩ = some v := fun h => (hb.cell (lt_of_cell h)).trans h
  refine ⟨a, cap, b, sv, h1, h2, h3, fun i hi => ?_, fun i hi => (h5 i hi).still hb⟩
  obtain ⟨c0, c1, c2, c3, c4⟩ := h4 i hi
  exact ⟨mv c0, mv c1, mv c2, mv c3, mv c4⟩
theorem eqBind41 (x : ByteArray) (t : Tr) (q1 r1 : Option Addr) (q2 q3 r2 r3 : Nat) (w : World) (h1 : Lies w (fun _ => True) t (.slice q1 q2 q3)) (h2 : Lies w (fun _ => True) t (.slice r1 r2 r3)) :
    Calls Try.prog 41 #[.agg #[.string x, .string t.name, .string t.text, .bool t.leaf, .slice q1 q2 q3], .agg #[.string x, .string t.name, .string t.text, .bool t.leaf, .slice r1 r2 r3]] w fun e w' => e = .returned (.bool true) ∧ Below w.heap.size w w' := by
  have hb2 : Below w.heap.size w ((w.alloc (.cells #[.string x, .string t.name, .string t.text, .bool t.leaf, .slice q1 q2 q3] 62)).alloc (.cells #[.string x, .string t.name, .string t.text, .bool t.leaf, .slice r1 r2 r3] 62)) := (bel_alloc _ _).alloc (by simp) _
  have HCL := (show Hid _ from eq_any t _ _ _ (h1.still hb2) (h2.still hb2))
  simp only [Tr.val] at HCL
  have HB2 := (show Hid _ from hb2)
  clear h1 h2 hb2
  generalize t.name = n0 at *
  generalize t.text = x0 at *
  generalize t.leaf = l0 at *
  go_enter Try.func41, Try.ntmps41
  go_wp2_with fail
  refine Calls.mono HCL.out ?_
  rintro e w1 ⟨rfl, hb1⟩
  have HE := (show Hid _ from bel_trans HB2.out hb1)
  clear hb1 HCL
  go_wp2_with fail
  go_ret
  exact ⟨rfl, HE.out⟩
set_option maxHeartbeats 1600000 in
theorem eqBinds11 (bl : List (ByteArray × Tr)) (v v' : Value) (w : World) (h : BRd w bl v) (h' : BRd w bl v') :
    Calls Try.prog 11 #[v, v'] w fun e w' => e = .returned (.bool true) ∧ Below w.heap.size w w' := by
  obtain ⟨a1, cap1, b1, sv1, rfl, hm, ha1, hc1, hl1⟩ := h
  obtain ⟨a2, cap2, b2, sv2, rfl, _, ha2, hc2, hl2⟩ := h'
  have HD := (show Hid _ from (⟨ha1, hc1, hl1⟩ : _ ∧ _ ∧ _)); clear ha1 hc1 hl1
  have HD' := (show Hid _ from (⟨ha2, hc2, hl2⟩ : _ ∧ _ ∧ _)); clear ha2 hc2 hl2
  go_enter Try.func11, Try.ntmps11
  go_wp2_with fail
  go_loopw [5] (fun i wr => ∃ j : Nat, i = .int .i64 j ∧ j ≤ bl.length ∧ Hid (Below w.heap.size w wr)) (fun i _ => bl.length - (intOf i).toNat)
  case atStart => exact ⟨0, rfl, Nat.zero_le _, Below.refl _ _⟩
  case round =>
    obtain ⟨j, rfl, hj, HJ⟩ := hrel
    by_cases hlt : j < bl.length
    · obtain rfl := HD.out.1 (by omega)
      obtain rfl := HD'.out.1 (by omega)
      obtain ⟨d0, d1, d2, d3, d4⟩ := HD.out.2.1 j hlt
      obtain ⟨f0, f1, f2, f3, f4⟩ := HD'.out.2.1 j hlt
      obtain ⟨q1, q2, q3, hq⟩ := (HD.out.2.2 j hlt).form
      obtain ⟨r1, r2, r3, hr⟩ := (HD'.out.2.2 j hlt).form
      have hl1 := HD.out.2.2 j hlt
      have hl2 := HD'.out.2.2 j hlt
      rw [hq] at d4 hl1
      rw [hr] at f4 hl2
      have HSK := (show Hid (∀ w' : World, Below wr.heap.size wr w' → w'.cell? ⟨b1, j * 5, none⟩ = some (.string bl[j].1) ∧ w'.cell? ⟨b1, j * 5 + 1, none⟩ = some (.string bl[j].2.name) ∧ w'.cell? ⟨b1, j * 5 + 2, none⟩ = some (.string bl[j].2.text) ∧ w'.cell? ⟨b1, j * 5 + 3, none⟩ = some (.bool bl[j].2.leaf) ∧ w'.cell? ⟨b1, j * 5 + 4, none⟩ = some (.slice q1 q2 q3) ∧ w'.cell? ⟨b2, j * 5, none⟩ = some (.string bl[j].1) ∧ w'.cell? ⟨b2, j * 5 + 1, none⟩ = some (.string bl[j].2.name) ∧ w'.cell? ⟨b2, j * 5 + 2, none⟩ = some (.string bl[j].2.text) ∧ w'.cell? ⟨b2, j * 5 + 3, none⟩ = some (.bool bl[j].2.leaf) ∧ w'.cell? ⟨b2, j * 5 + 4, none⟩ = some (.slice r1 r2 r3)) from fun w' hb => by
        have hbw := bel_trans HJ.out hb
        have mv : ∀ {b o : Nat} {v : Value}, w.cell? ⟨b, o, none⟩ = some v → w'.cell? ⟨b, o, none⟩ = some v := fun h => (hbw.cell (lt_of_cell h)).trans h
        exact ⟨mv d0, mv d1, mv d2, mv d3, mv d4, mv f0, mv f1, mv f2, mv f3, mv f4⟩)
      have hd0 : Below wr.heap.size wr wr.drew := (Below.refl _ _).drew
      have HCL := (show Hid _ from eqBind41 bl[j].1 bl[j].2 q1 r1 q2 q3 r2 r3 wr.drew (hl1.still (bel_trans HJ.out hd0)) (hl2.still (bel_trans HJ.out hd0)))
      have hS0 := HSK.out _ hd0
      have HD0 := (show Hid _ from hd0)
      have i1 : (0 : Int) ≤ (j : Int) := by omega
      have i2 : (j : Int) < (bl.length : Int) := by omega
      clear d0 d1 d2 d3 d4 f0 f1 f2 f3 f4 hl1 hl2 hq hr hd0
      generalize bl[j].1 = m0 at *
      generalize bl[j].2.name = m1 at *
      generalize bl[j].2.text = m2 at *
      generalize bl[j].2.leaf = m3 at *
      go_wp2_with fail
      go_region_held3 (fun wq => wq.cell? ⟨b1, j * 5, none⟩ = some (.string m0) ∧ wq.cell? ⟨b1, j * 5 + 1, none⟩ = some (.string m1) ∧ wq.cell? ⟨b1, j * 5 + 2, none⟩ = some (.string m2) ∧ wq.cell? ⟨b1, j * 5 + 3, none⟩ = some (.bool m3) ∧ wq.cell? ⟨b1, j * 5 + 4, none⟩ = some (.slice q1 q2 q3) ∧ wq.cell? ⟨b2, j * 5, none⟩ = some (.string m0) ∧ wq.cell? ⟨b2, j * 5 + 1, none⟩ = some (.string m1) ∧ wq.cell? ⟨b2, j * 5 + 2, none⟩ = some (.string m2) ∧ wq.cell? ⟨b2, j * 5 + 3, none⟩ = some (.bool m3) ∧ wq.cell? ⟨b2, j * 5 + 4, none⟩ = some (.slice r1 r2 r3)) (first | with_reducible exact hS0 | with_reducible exact hS1) ((first | (go_at_call 41; refine Calls.mono HCL.out ?_; rintro e w3 ⟨rfl, hb3⟩; have hx1 : Below wr.heap.size wr w3 := HD0.out.trans (hb3.mono (Nat.le_refl _)); have hS1 := HSK.out w3 hx1)))
      have HE := (show Hid _ from bel_trans HJ.out hx1)
      clear hS0 hS1 hb3 hx1
      go_wp2_with fail
      exact ⟨⟨j + 1, by go_num, by omega, HE⟩, by simp [intOf]; omega⟩
    · have q1 : ¬ ((j : Int) < (bl.length : Int)) := by omega
      have HE := (show Hid _ from HJ.out)
      go_wp2_with fail
      go_ret
      exact ⟨rfl, HE.out⟩
end Go.Proofs.Yteomgkcgjkbppaa

/-! The program: bindingsOf. -/
namespace Go.Proofs.Yteomgkcgjkbppaa
open Go.RowKit Go.Deep Go.Maps Go.WideMaps Go.ChangeMaps Go.Lib
set_option linter.unusedVariables false
set_option maxRecDepth 100000
set_option linter.unusedSimpArgs false

/-- The names of binds, as keys. -/
def bks (bl : List (ByteArray × Tr)) : List Value := bl.map fun b => Value.string b.1
theorem bks_len (bl : List (ByteArray × Tr)) : (bks bl).length = bl.length := by simp [bks]
theorem bks_take {bl : List (ByteArray × Tr)} {j : Nat} (h : j < bl.length) : bks (bl.take (j + 1)) = bks (bl.take j) ++ [.string bl[j].1] := by
  unfold bks
  rw [List.take_succ_eq_append_getElem h, List.map_append]
  rfl
theorem bks_mem {bl : List (ByteArray × Tr)} {j : Nat} (hj : j < bl.length) : Value.string bl[j].1 ∈ bks (bl.take j) ↔ ((List.range j).all fun q => !eqS (nb bl q).1 (nb bl j).1) = false := by
  unfold bks
  rw [List.mem_map]
  constructor
  · rintro ⟨b, hb, e⟩
    injection e with e
    obtain ⟨i, hi, rfl⟩ := List.mem_iff_getElem.1 hb
    rw [List.length_take] at hi
    rw [List.getElem_take] at e
    cases h : ((List.range j).all fun q => !eqS (nb bl q).1 (nb bl j).1)
    · rfl
    · have := List.all_eq_true.1 h i (List.mem_range.2 (by omega))
      rw [nb_eq hj, nb_eq (show i < bl.length by omega), e, eqS_refl] at this
      cases this
  · intro h
    obtain ⟨q, hq, h2⟩ := List.all_eq_false.1 h
    have hq' : q < j := List.mem_range.1 hq
    have h3 : eqS (nb bl q).1 (nb bl j).1 = true := by simpa using h2
    rw [eqS_iff, nb_eq hj, nb_eq (show q < bl.length by omega)] at h3
    refine ⟨bl[q], List.mem_iff_getElem.2 ⟨q, by rw [List.length_take]; omega, by rw [List.getElem_take]⟩, by rw [h3]⟩
theorem bdJ_len (bl : List (ByteArray × Tr)) : ∀ j, j ≤ bl.length → bdJ bl j = true → j ≤ bwL (bl.take j)
  | 0, _, _ => Nat.zero_le _
  | j + 1, h, e => by
    rw [bdJ, Bool.and_eq_true] at e
    have h1 := bdJ_len bl j (by omega) e.1
    rw [bwL_take_succ bl j (by omega)]
    have h2 := e.2
    unfold oneB at h2
    rw [Bool.and_eq_true, nb_eq (show j < bl.length by omega)] at h2
    obtain ⟨h3, _⟩ := nmB_iff.1 h2.1
    omega
/-- What stands while bindingsOf goes through the binds. -/
structure BoI (w : World) (bl : List (ByteArray × Tr)) (bv : Value) (j : Nat) (wr : World) : Prop where
  bel : Below w.heap.size w wr
  bz : Box wr w.heap.size 67 [.map none, .slice none 0 0]
  bk : Box wr (w.heap.size + 1 + 1) 67 [.map (some (w.heap.size + 1)), bv]
  mn : Mn wr (w.heap.size + 1) 9 (bks (bl.take j))
theorem BoI.still {w wr w' : World} {bl : List (ByteArray × Tr)} {bv : Value} {j : Nat} (h : BoI w bl bv j wr) (hb : Below wr.heap.size wr w') : BoI w bl bv j w' :=
  ⟨bel_trans h.bel hb, h.bz.still hb, h.bk.still hb, h.mn.keep (hb.block _ h.mn.lt)⟩
theorem BoI.put {w wr w' : World} {bl : List (ByteArray × Tr)} {bv : Value} {j i : Nat} (h : BoI w bl bv j wr) (hk : K1 (w.heap.size + 1) wr w') (hm : Mn w' (w.heap.size + 1) 9 (bks (bl.take i))) : BoI w bl bv i w' :=
  ⟨⟨hk.os.trans h.bel.os, hk.tape.trans h.bel.tape, hk.output.trans h.bel.output, Nat.le_trans h.bel.size hk.size, fun q hq => (hk.block q (by have := h.bel.size; omega) (by omega)).trans (h.bel.block q hq)⟩,
    h.bz.keep (hk.block _ h.bz.lt (by omega)), h.bk.keep (hk.block _ h.bk.lt (by omega)), hm⟩
theorem BoI.start (w : World) (bl : List (ByteArray × Tr)) (a : Option Addr) (cap : Nat) : BoI w bl (.slice a bl.length cap) 0 (((w.alloc (.cells #[.map none, .slice none 0 0] 67)).alloc (.map #[] 0)).alloc (.cells #[.map (some (w.heap.size + 1)), .slice a bl.length cap] 67)) := by
  have s1 : (w.alloc (.cells #[.map none, .slice none 0 0] 67)).heap.size = w.heap.size + 1 := by simp
  have s2 : ((w.alloc (.cells #[.map none, .slice none 0 0] 67)).alloc (.map #[] 0)).heap.size = w.heap.size + 1 + 1 := by simp
  refine ⟨bel_trans (bel_trans (bel_alloc _ _) (bel_alloc _ _)) (bel_alloc _ _), ((Box.new w 67 [.map none, .slice none 0 0]).still (bel_alloc _ _)).still (bel_alloc _ _), ?_, ?_⟩
  · have h := Box.new ((w.alloc (.cells #[.map none, .slice none 0 0] 67)).alloc (.map #[] 0)) 67 [.map (some (w.heap.size + 1)), .slice a bl.length cap]
    rw [s2] at h
    exact h
  · have h := (Mn.new (w.alloc (.cells #[.map none, .slice none 0 0] 67)) 9).keep ((bel_alloc ((w.alloc (.cells #[.map none, .slice none 0 0] 67)).alloc (.map #[] 0)) (.cells #[.map (some (w.heap.size + 1)), .slice a bl.length cap] 67)).block (w.alloc (.cells #[.map none, .slice none 0 0] 67)).heap.size (by rw [s2, s1]; omega))
    rw [s1] at h
    exact h
/-- What bindingsOf leaves. -/
def BoA (bl : List (ByteArray × Tr)) (bv : Value) (w : World) (e : Ending) (w' : World) : Prop :=
  Below w.heap.size w w' ∧ (bdB bl = false → e = .returned (.tuple #[.agg #[.map none, .slice none 0 0], .bool false])) ∧
    (bdB bl = true → ∃ mb, e = .returned (.tuple #[.agg #[.map (some mb), bv], .bool true]) ∧ w.heap.size ≤ mb ∧ Mn w' mb 9 (bks bl))
set_option maxHeartbeats 3200000 in
theorem bindings52 (bl : List (ByteArray × Tr)) (a : Option Addr) (cap : Nat) (w : World) (h : BRd w bl (.slice a bl.length cap)) (hxs : ∀ i (hi : i < bl.length), bl[i].1.size ≤ maxLen) (hwt : bwt bl ≤ 1048576) :
    Calls Try.prog 52 #[.slice a bl.length cap] w (BoA bl (.slice a bl.length cap) w) := by
  obtain ⟨a', cap', b, sv, e, hm, ha, hcell, hk⟩ := h
  injection e with e1 e2 e3
  subst e1
  clear e2 e3
  have HD := (show Hid _ from (⟨ha, hcell, hk⟩ : _ ∧ _ ∧ _)); clear ha hcell hk
  have HX := (show Hid (∀ i (hi : i < bl.length), bl[i].1.size ≤ maxLen) from hxs); clear hxs
  have HLN := (show Hid (∀ j, j ≤ bl.length → bdJ bl j = true → j ≤ 524288) from fun j hj h => by
    have h1 := bdJ_len bl j hj h
    have h2 := bwL_take_le bl j
    unfold bwt at hwt
    omega)
  have hlen : bl.length ≤ 1048576 := by unfold bwt at hwt; omega
  clear hwt
  have HNO := (show Hid (∀ w' : World, bdB bl = false → Below w.heap.size w w' → BoA bl (.slice a bl.length cap) w (.returned (.tuple #[.agg #[.map none, .slice none 0 0], .bool false])) w') from fun w' h h1 => ⟨h1, fun _ => rfl, fun h2 => by rw [h] at h2; cases h2⟩)
  have HYS := (show Hid (∀ w' : World, bdB bl = true → Below w.heap.size w w' → Mn w' (w.heap.size + 1) 9 (bks bl) → BoA bl (.slice a bl.length cap) w (.returned (.tuple #[.agg #[.map (some (w.heap.size + 1)), .slice a bl.length cap], .bool true])) w') from fun w' h h1 h2 => ⟨h1, fun h3 => (by rw [h] at h3; cases h3), fun _ => ⟨_, rfl, by omega, h2⟩⟩)
  have HBD := (show Hid (bdB bl = bdJ bl bl.length) from rfl)
  have HST := (show Hid _ from BoI.start w bl a cap)
  generalize hBD : bdB bl = D at *
  clear hBD
  have hmk := fun w => run_makeMap (P := Try.prog) 65 w
  go_enter Try.func52, Try.ntmps52
  go_wp2_with fail
  go_loopw [12] (fun i wr => ∃ j : Nat, i = .int .i64 j ∧ j ≤ bl.length ∧ Hid (bdJ bl j = true) ∧ Hid (BoI w bl (.slice a bl.length cap) j wr)) (fun i _ => bl.length - (intOf i).toNat)
  case atStart => exact ⟨0, rfl, Nat.zero_le _, (rfl : bdJ bl 0 = true), HST.out⟩
  case round =>
    obtain ⟨j, rfl, hj, HJ, HI⟩ := hrel
    clear HST
    by_cases hlt : j < bl.length
    · have q1 : (j : Int) < (bl.length : Int) := by omega
      have q0 : (0 : Int) ≤ (j : Int) := by omega
      obtain rfl := HD.out.1 (by omega)
      obtain ⟨c0, c1, c2, c3, c4⟩ := HD.out.2.1 j hlt
      have hbel := HI.out.bel
      have hlj := (HD.out.2.2 j hlt).still hbel
      obtain ⟨a4, l4, p4, e4⟩ := hlj.form
      rw [e4] at c4 hlj
      rw [← hbel.cell (lt_of_cell c0)] at c0
      rw [← hbel.cell (lt_of_cell c1)] at c1
      rw [← hbel.cell (lt_of_cell c2)] at c2
      rw [← hbel.cell (lt_of_cell c3)] at c3
      rw [← hbel.cell (lt_of_cell c4)] at c4
      have HN := (show Hid (∀ wq : World, Calls Try.prog 73 #[.string bl[j].1] wq fun e w' => e = .returned (.bool (nmB bl[j].1)) ∧ w' = wq) from fun wq => iName _ (HX.out j hlt) wq)
      have HO := (show Hid (Calls Try.prog 38 #[.agg #[.string bl[j].2.name, .string bl[j].2.text, .bool bl[j].2.leaf, .slice a4 l4 p4]] (wr.alloc (.cells #[.string bl[j].1, .string bl[j].2.name, .string bl[j].2.text, .bool bl[j].2.leaf, .slice a4 l4 p4] 62)) fun e w' => e = .returned (.bool bl[j].2.ok) ∧ Below (wr.alloc (.cells #[.string bl[j].1, .string bl[j].2.name, .string bl[j].2.text, .bool bl[j].2.leaf, .slice a4 l4 p4] 62)).heap.size (wr.alloc (.cells #[.string bl[j].1, .string bl[j].2.name, .string bl[j].2.text, .bool bl[j].2.leaf, .slice a4 l4 p4] 62)) w') from iOK_any bl[j].2 _ _ (hlj.still (bel_alloc _ _)))
      have HON := (show Hid (oneB bl j = (nmB bl[j].1 && (bl[j].2.ok && (List.range j).all fun i => !eqS (nb bl i).1 (nb bl j).1))) from (by show _ = _; unfold oneB; rw [nb_eq hlt]))
      have HNX := (show Hid (oneB bl j = false → D = false) from fun h => by
        rw [HBD.out]
        exact bdJ_false bl bl.length (i := j + 1) (by omega) (by rw [bdJ, h]; simp))
      have HNY := (show Hid (oneB bl j = true → bdJ bl (j + 1) = true) from fun h => by rw [bdJ, h, HJ.out]; rfl)
      have HMM := (show Hid (Value.string bl[j].1 ∈ bks (bl.take j) ↔ ((List.range j).all fun q => !eqS (nb bl q).1 (nb bl j).1) = false) from bks_mem hlt)
      have HKT := (show Hid (bks (bl.take (j + 1)) = bks (bl.take j) ++ [.string bl[j].1]) from bks_take hlt)
      have hkl : (bks (bl.take j)).length = j := by rw [bks_len, List.length_take]; omega
      have HKL := (show Hid _ from hkl)
      have hj5 := HLN.out j hj HJ.out
      have HNU := (show Hid (∀ wq : World, Mn wq (w.heap.size + 1) 9 (bks (bl.take j)) → Calls Try.prog 81 #[.map (some (w.heap.size + 1)), .string bl[j].1] wq (NoR (w.heap.size + 1) 9 (bks (bl.take j)) (.string bl[j].1) wq)) from fun wq h => number81 _ _ _ _ wq (keyOf_string_mk (P := Try.prog) Try.underlying9 (HX.out j hlt)) h (by rw [hkl]; omega))
      have HBX := (show Hid (Box (wr.alloc (.cells #[.string bl[j].1, .string bl[j].2.name, .string bl[j].2.text, .bool bl[j].2.leaf, .slice a4 l4 p4] 62)) wr.heap.size 62 [.string bl[j].1, .string bl[j].2.name, .string bl[j].2.text, .bool bl[j].2.leaf, .slice a4 l4 p4]) from Box.new wr 62 _)
      clear hlj hbel hkl e4 hj5 HJ
      unfold NoR at HNU
      generalize bl[j].1 = x0 at *
      generalize bl[j].2.name = x1 at *
      generalize bl[j].2.text = x2 at *
      generalize bl[j].2.leaf = x3 at *
      generalize bl[j].2.ok = ok at *
      generalize hAL : ((List.range j).all fun q => !eqS (nb bl q).1 (nb bl j).1) = al at *
      generalize hOB : oneB bl j = ob at *
      clear hAL hOB
      have HI1 := (show Hid (BoI w bl (.slice (some ⟨b, 0, none⟩) bl.length cap) j (wr.alloc (.cells #[.string x0, .string x1, .string x2, .bool x3, .slice a4 l4 p4] 62))) from HI.out.still (bel_alloc _ _))
      cases hnm : nmB x0
      · rw [hnm] at HN HON
        have HF := (show Hid (D = false) from HNX.out (by rw [HON.out]; rfl))
        obtain ⟨hbw, bz, _, _⟩ := HI1.out
        have Z0 : (wr.alloc (.cells #[.string x0, .string x1, .string x2, .bool x3, .slice a4 l4 p4] 62)).cell? ⟨w.heap.size, 0, none⟩ = some (.map none) := bz.cell 0 (by simp)
        have Z1 : (wr.alloc (.cells #[.string x0, .string x1, .string x2, .bool x3, .slice a4 l4 p4] 62)).cell? ⟨w.heap.size, 1, none⟩ = some (.slice none 0 0) := bz.cell 1 (by simp)
        have y0 : (wr.alloc (.cells #[.string x0, .string x1, .string x2, .bool x3, .slice a4 l4 p4] 62)).frozen? ⟨w.heap.size, 0, none⟩ = false := bz.frozen 0
        have y1 : (wr.alloc (.cells #[.string x0, .string x1, .string x2, .bool x3, .slice a4 l4 p4] 62)).frozen? ⟨w.heap.size, 1, none⟩ = false := bz.frozen 1
        have HBW := (show Hid _ from hbw)
        clear hbw bz hnm HON HNX HNY HMM HKT HKL HNU HO HI HI1 HBX
        go_wp2_with fail
        refine Calls.mono (HN.out _) ?_
        rintro e w2 ⟨rfl, rfl⟩
        go_wp2_with fail
        refine bodyPost_ret (v := .tuple #[.agg #[.map none, .slice none 0 0], .bool false]) (by simp [results, Try.results52, go_sem, Z0, Z1]) rfl (HNO.out _ HF.out ?_)
        exact (HBW.out.setCell (by simp) _).setCell (by simp) _
      rw [hnm] at HN HON
      cases ok
      · have HF := (show Hid (D = false) from HNX.out (by rw [HON.out]; rfl))
        clear hnm HON HNX HNY HMM HKT HKL HNU
        go_wp2_with fail
        refine Calls.mono (HN.out _) ?_
        rintro e w2 ⟨rfl, rfl⟩
        go_wp2_with fail
        refine Calls.mono HO.out ?_
        rintro e w3 ⟨rfl, hb3⟩
        obtain ⟨hbw, bz, _, _⟩ := HI1.out.still hb3
        have Z0 : w3.cell? ⟨w.heap.size, 0, none⟩ = some (.map none) := bz.cell 0 (by simp)
        have Z1 : w3.cell? ⟨w.heap.size, 1, none⟩ = some (.slice none 0 0) := bz.cell 1 (by simp)
        have y0 : w3.frozen? ⟨w.heap.size, 0, none⟩ = false := bz.frozen 0
        have y1 : w3.frozen? ⟨w.heap.size, 1, none⟩ = false := bz.frozen 1
        have HBW := (show Hid _ from hbw)
        clear hbw bz hb3 HO HI HI1 HBX c0 c1 c2 c3 c4
        go_wp2_with fail
        refine bodyPost_ret (v := .tuple #[.agg #[.map none, .slice none 0 0], .bool false]) (by simp [results, Try.results52, go_sem, Z0, Z1]) rfl (HNO.out _ HF.out ?_)
        exact (HBW.out.setCell (by simp) _).setCell (by simp) _
      clear hnm
      go_wp2_with fail
      refine Calls.mono (HN.out _) ?_
      rintro e w2 ⟨rfl, rfl⟩
      go_wp2_with fail
      refine Calls.mono HO.out ?_
      rintro e w3 ⟨rfl, hb3⟩
      have hi3 := HI1.out.still hb3
      have hbx3 := HBX.out.still hb3
      have X0 : w3.cell? ⟨wr.heap.size, 0, none⟩ = some (.string x0) := hbx3.cell 0 (by simp)
      have K0 : w3.cell? ⟨w.heap.size + 1 + 1, 0, none⟩ = some (.map (some (w.heap.size + 1))) := hi3.bk.cell 0 (by simp)
      have HC4 := (show Hid _ from HNU.out w3 hi3.mn)
      have HI3 := (show Hid (BoI w bl (.slice (some ⟨b, 0, none⟩) bl.length cap) j w3) from hi3)
      clear hb3 HO HI HI1 HBX c0 c1 c2 c3 c4 hi3 hbx3 HNU
      go_wp2_with fail
      refine Calls.mono HC4.out ?_
      rintro e w4 ⟨n, rfl, hk4, hor⟩
      cases al
      · have HF := (show Hid (D = false) from HNX.out (by rw [HON.out]; rfl))
        have hmem := HMM.out.2 rfl
        obtain ⟨hn, hmn⟩ : n < j ∧ Mn w4 (w.heap.size + 1) 9 (bks (bl.take j)) := by
          rcases hor with ⟨h1, h2⟩ | ⟨h1, _⟩
          · have := (List.getElem?_eq_some_iff.1 h1).1
            rw [HKL.out] at this
            exact ⟨this, h2⟩
          · exact absurd hmem h1
        have hij : ((n : Int) != (j : Int)) = true := by simp; omega
        obtain ⟨hbw, bz, _, _⟩ := HI3.out.put hk4 hmn
        have Z0 : w4.cell? ⟨w.heap.size, 0, none⟩ = some (.map none) := bz.cell 0 (by simp)
        have Z1 : w4.cell? ⟨w.heap.size, 1, none⟩ = some (.slice none 0 0) := bz.cell 1 (by simp)
        have y0 : w4.frozen? ⟨w.heap.size, 0, none⟩ = false := bz.frozen 0
        have y1 : w4.frozen? ⟨w.heap.size, 1, none⟩ = false := bz.frozen 1
        have HBW := (show Hid _ from hbw)
        clear hbw bz hmem hor hk4 hmn hn HC4 HI3 HON HNX HNY HMM HKT HKL X0 K0
        go_wp2_with fail
        refine bodyPost_ret (v := .tuple #[.agg #[.map none, .slice none 0 0], .bool false]) (by simp [results, Try.results52, go_sem, Z0, Z1]) rfl (HNO.out _ HF.out ?_)
        exact (HBW.out.setCell (by simp) _).setCell (by simp) _
      · have HBN := (show Hid _ from HNY.out (by rw [HON.out]; rfl))
        obtain ⟨hn, hmn⟩ : n = j ∧ Mn w4 (w.heap.size + 1) 9 (bks (bl.take (j + 1))) := by
          rcases hor with ⟨h1, h2⟩ | ⟨_, h1, h2⟩
          · have := HMM.out.1 (List.mem_of_getElem? h1)
            cases this
          · rw [HKL.out] at h1
            rw [HKT.out]
            exact ⟨h1, h2⟩
        have hij : ((n : Int) != (j : Int)) = false := by simp; omega
        have HI4 := (show Hid (BoI w bl (.slice (some ⟨b, 0, none⟩) bl.length cap) (j + 1) w4) from HI3.out.put hk4 hmn)
        clear hor hk4 hmn hn HC4 HI3 HON HNX HNY HMM HKT HKL X0 K0
        go_wp2_with fail
        exact ⟨⟨j + 1, by go_num, by omega, HBN, HI4⟩, by simp [intOf]; omega⟩
    · have q1 : ¬ ((j : Int) < (bl.length : Int)) := by omega
      have hje : j = bl.length := by omega
      have HF := (show Hid (D = true) from (by show D = true; rw [HBD.out, ← hje]; exact HJ.out))
      obtain ⟨hbw, bz, bk, hmn⟩ := HI.out
      rw [hje, List.take_length] at hmn
      have Z0 : wr.cell? ⟨w.heap.size, 0, none⟩ = some (.map none) := bz.cell 0 (by simp)
      have Z1 : wr.cell? ⟨w.heap.size, 1, none⟩ = some (.slice none 0 0) := bz.cell 1 (by simp)
      have y0 : wr.frozen? ⟨w.heap.size, 0, none⟩ = false := bz.frozen 0
      have y1 : wr.frozen? ⟨w.heap.size, 1, none⟩ = false := bz.frozen 1
      have K0 : wr.cell? ⟨w.heap.size + 1 + 1, 0, none⟩ = some (.map (some (w.heap.size + 1))) := bk.cell 0 (by simp)
      have K1' : wr.cell? ⟨w.heap.size + 1 + 1, 1, none⟩ = some (.slice a bl.length cap) := bk.cell 1 (by simp)
      have HBW := (show Hid (Below w.heap.size w wr ∧ Mn wr (w.heap.size + 1) 9 (bks bl)) from ⟨hbw, hmn⟩)
      clear hbw bz bk hmn HI HJ hje
      go_wp2_with fail
      refine bodyPost_ret (v := .tuple #[.agg #[.map (some (w.heap.size + 1)), .slice a bl.length cap], .bool true]) (by simp [results, Try.results52, go_sem, Z0, Z1]) rfl (HYS.out _ HF.out ?_ ?_)
      · exact (HBW.out.1.setCell (by simp) _).setCell (by simp) _
      · exact HBW.out.2.keep ((blk_setCell_other _ _ _ _ (by show w.heap.size + 1 ≠ w.heap.size; omega)).trans (blk_setCell_other _ _ _ _ (by show w.heap.size + 1 ≠ w.heap.size; omega)))
end Go.Proofs.Yteomgkcgjkbppaa
