import Derived.Test.YtbgoikaelmacbaaBg
import Derived.Test.YtbgoikaelmacbaaEq
import Derived.Test.YtbgoikaelmacbaaFc
import Derived.Test.YtbgoikaelmacbaaTk
import Derived.Test.YtbgoikaelmacbaaFh
import Derived.Test.YtbgoikaelmacbaaFt
import Derived.BigQuiet
import Derived.Laws.EntriesVeiled
import Derived.Test.YtbgoikaelmacbaaOutw
import Derived.Deep.RegionHeld3
/-! The law: binds are compared. -/
namespace Go.Proofs.Ytbgoikaelmacbaa
open Go.RowKit Go.Deep Go.Lib
set_option linter.unusedVariables false
set_option maxRecDepth 100000
set_option linter.unusedSimpArgs false

/-- Binds that may be read. -/
def BRd (w : World) (bl : List (ByteArray × Tr)) (v : Value) : Prop :=
  ∃ (a : Option Addr) (cap b : Nat) (sv : Nat → Value), v = .slice a bl.length cap ∧ bl.length ≤ 9223372036854775807 ∧ (0 < bl.length → a = some ⟨b, 0, none⟩) ∧ (∀ i (hi : i < bl.length), w.cell? ⟨b, i * 5, none⟩ = some (.string bl[i].1) ∧ w.cell? ⟨b, i * 5 + 1, none⟩ = some (.string bl[i].2.name) ∧ w.cell? ⟨b, i * 5 + 2, none⟩ = some (.string bl[i].2.text) ∧ w.cell? ⟨b, i * 5 + 3, none⟩ = some (.bool bl[i].2.leaf) ∧ w.cell? ⟨b, i * 5 + 4, none⟩ = some (sv i)) ∧ ∀ i (hi : i < bl.length), Lies w (fun _ => True) bl[i].2 (sv i)
theorem own_brd {w : World} {bl : List (ByteArray × Tr)} {B : Nat} {v : Value} {sv : Nat → Value} (h : w.ownsRow B 47 5 v bl.length (bcs bl sv bl.length)) (hl : ∀ i (hi : i < bl.length), Lies w (fun _ => True) bl[i].2 (sv i)) : BRd w bl v := by
  have hc : ∀ (b : Nat) (cap : Nat), v = .slice (some ⟨b, 0, none⟩) bl.length cap → ∀ i (hi : i < bl.length), w.cell? ⟨b, i * 5, none⟩ = some (.string bl[i].1) ∧ w.cell? ⟨b, i * 5 + 1, none⟩ = some (.string bl[i].2.name) ∧ w.cell? ⟨b, i * 5 + 2, none⟩ = some (.string bl[i].2.text) ∧ w.cell? ⟨b, i * 5 + 3, none⟩ = some (.bool bl[i].2.leaf) ∧ w.cell? ⟨b, i * 5 + 4, none⟩ = some (sv i) := fun b cap e i hi => by
    subst e
    obtain ⟨g0, g1, g2, g3, g4⟩ := bcs_get bl sv bl.length i hi
    rw [nb_eq hi] at g0 g1 g2 g3
    exact ⟨by rw [World.ownsRow.cellAt h _ (by omega), g0], by rw [World.ownsRow.cellAt h _ (by omega), g1], by rw [World.ownsRow.cellAt h _ (by omega), g2], by rw [World.ownsRow.cellAt h _ (by omega), g3], by rw [World.ownsRow.cellAt h _ (by omega), g4]⟩
  rcases h.2 with ⟨rfl, h0⟩ | ⟨g, cap, cur, e, r2, r3, r4, r5, r6⟩
  · exact ⟨none, 0, 0, sv, by rw [h0], by omega, fun h => by omega, fun i hi => by omega, fun i hi => by omega⟩
  · exact ⟨some ⟨g, 0, none⟩, cap, g, sv, e, by unfold maxLen at r5; omega, fun _ => rfl, hc g cap e, hl⟩
theorem BLi.brd {w : World} {bl : List (ByteArray × Tr)} {v : Value} (h : BLi w bl v) : BRd w bl v := by
  obtain ⟨b, cap, sv, hv, ho, hs, hl⟩ := h
  exact own_brd ho hl
theorem BGr.brd {w : World} {bl : List (ByteArray × Tr)} {B : Nat} {v : Value} (h : BGr bl B bl.length v w) : BRd w bl v := by
  obtain ⟨fs, l, hh, h1, h2, h3, h4⟩ := h
  exact own_brd h1 (fun i hi => by rw [← nb_eq hi]; exact (h2 i hi).lies.mono (fun _ _ => trivial))
theorem BRd.still {w w' : World} {bl : List (ByteArray × Tr)} {v : Value} (h : BRd w bl v) (hb : Below w.heap.size w w') : BRd w' bl v := by
  obtain ⟨a, cap, b, sv, h1, h2, h3, h4, h5⟩ := h
  have mv : ∀ {b o : Nat} {v : Value}, w.cell? ⟨b, o, none⟩ = some v → w'.cell? ⟨b, o, none⟩ = some v := fun h => (hb.cell (lt_of_cell h)).trans h
  refine ⟨a, cap, b, sv, h1, h2, h3, fun i hi => ?_, fun i hi => (h5 i hi).still hb⟩
  obtain ⟨c0, c1, c2, c3, c4⟩ := h4 i hi
  exact ⟨mv c0, mv c1, mv c2, mv c3, mv c4⟩
end Go.Proofs.Ytbgoikaelmacbaa

/-! The program: bindingsOf. -/
namespace Go.Proofs.Ytbgoikaelmacbaa
open Go.RowKit Go.Deep Go.Maps Go.WideMaps Go.ChangeMaps Go.Lib
set_option linter.unusedVariables false
set_option maxRecDepth 100000
set_option linter.unusedSimpArgs false

/-- The names of binds, as keys. -/
def bks (bl : List (ByteArray × Tr)) : List Value := bl.map fun b => Value.string b.1
theorem bks_len (bl : List (ByteArray × Tr)) : (bks bl).length = bl.length := by simp [bks]
theorem bks_take {bl : List (ByteArray × Tr)} {j : Nat} (h : j < bl.length) : bks (bl.take (j + 1)) = bks (bl.take j) ++ [.string bl[j].1] := by
  unfold bks
  rw [List.take_succ_eq_append_getElem h, List.map_append]
  rfl
theorem bks_mem {bl : List (ByteArray × Tr)} {j : Nat} (hj : j < bl.length) : Value.string bl[j].1 ∈ bks (bl.take j) ↔ ((List.range j).all fun q => !eqS (nb bl q).1 (nb bl j).1) = false := by
  unfold bks
  rw [List.mem_map]
  constructor
  · rintro ⟨b, hb, e⟩
    injection e with e
    obtain ⟨i, hi, rfl⟩ := List.mem_iff_getElem.1 hb
    rw [List.length_take] at hi
    rw [List.getElem_take] at e
    cases h : ((List.range j).all fun q => !eqS (nb bl q).1 (nb bl j).1)
    · rfl
    · have := List.all_eq_true.1 h i (List.mem_range.2 (by omega))
      rw [nb_eq hj, nb_eq (show i < bl.length by omega), e, eqS_refl] at this
      cases this
  · intro h
    obtain ⟨q, hq, h2⟩ := List.all_eq_false.1 h
    have hq' : q < j := List.mem_range.1 hq
    have h3 : eqS (nb bl q).1 (nb bl j).1 = true := by simpa using h2
    rw [eqS_iff, nb_eq hj, nb_eq (show q < bl.length by omega)] at h3
    refine ⟨bl[q], List.mem_iff_getElem.2 ⟨q, by rw [List.length_take]; omega, by rw [List.getElem_take]⟩, by rw [h3]⟩
theorem bdJ_len (bl : List (ByteArray × Tr)) : ∀ j, j ≤ bl.length → bdJ bl j = true → j ≤ bwL (bl.take j)
  | 0, _, _ => Nat.zero_le _
  | j + 1, h, e => by
    rw [bdJ, Bool.and_eq_true] at e
    have h1 := bdJ_len bl j (by omega) e.1
    rw [bwL_take_succ bl j (by omega)]
    have h2 := e.2
    unfold oneB at h2
    rw [Bool.and_eq_true, nb_eq (show j < bl.length by omega)] at h2
    obtain ⟨h3, _⟩ := nmB_iff.1 h2.1
    omega
/-- What stands while bindingsOf goes through the binds. -/
structure BoI (w : World) (bl : List (ByteArray × Tr)) (bv : Value) (j : Nat) (wr : World) : Prop where
  bel : Below w.heap.size w wr
  bz : Box wr w.heap.size 54 [.map none, .slice none 0 0]
  bk : Box wr (w.heap.size + 1 + 1) 54 [.map (some (w.heap.size + 1)), bv]
  mn : Mn wr (w.heap.size + 1) 9 (bks (bl.take j))
theorem BoI.still {w wr w' : World} {bl : List (ByteArray × Tr)} {bv : Value} {j : Nat} (h : BoI w bl bv j wr) (hb : Below wr.heap.size wr w') : BoI w bl bv j w' :=
  ⟨bel_trans h.bel hb, h.bz.still hb, h.bk.still hb, h.mn.keep (hb.block _ h.mn.lt)⟩
theorem BoI.put {w wr w' : World} {bl : List (ByteArray × Tr)} {bv : Value} {j i : Nat} (h : BoI w bl bv j wr) (hk : K1 (w.heap.size + 1) wr w') (hm : Mn w' (w.heap.size + 1) 9 (bks (bl.take i))) : BoI w bl bv i w' :=
  ⟨⟨hk.os.trans h.bel.os, hk.tape.trans h.bel.tape, hk.output.trans h.bel.output, Nat.le_trans h.bel.size hk.size, fun q hq => (hk.block q (by have := h.bel.size; omega) (by omega)).trans (h.bel.block q hq)⟩,
    h.bz.keep (hk.block _ h.bz.lt (by omega)), h.bk.keep (hk.block _ h.bk.lt (by omega)), hm⟩
theorem BoI.start (w : World) (bl : List (ByteArray × Tr)) (a : Option Addr) (cap : Nat) : BoI w bl (.slice a bl.length cap) 0 (((w.alloc (.cells #[.map none, .slice none 0 0] 54)).alloc (.map #[] 0)).alloc (.cells #[.map (some (w.heap.size + 1)), .slice a bl.length cap] 54)) := by
  have s1 : (w.alloc (.cells #[.map none, .slice none 0 0] 54)).heap.size = w.heap.size + 1 := by simp
  have s2 : ((w.alloc (.cells #[.map none, .slice none 0 0] 54)).alloc (.map #[] 0)).heap.size = w.heap.size + 1 + 1 := by simp
  refine ⟨bel_trans (bel_trans (bel_alloc _ _) (bel_alloc _ _)) (bel_alloc _ _), ((Box.new w 54 [.map none, .slice none 0 0]).still (bel_alloc _ _)).still (bel_alloc _ _), ?_, ?_⟩
  · have h := Box.new ((w.alloc (.cells #[.map none, .slice none 0 0] 54)).alloc (.map #[] 0)) 54 [.map (some (w.heap.size + 1)), .slice a bl.length cap]
    rw [s2] at h
    exact h
  · have h := (Mn.new (w.alloc (.cells #[.map none, .slice none 0 0] 54)) 9).keep ((bel_alloc ((w.alloc (.cells #[.map none, .slice none 0 0] 54)).alloc (.map #[] 0)) (.cells #[.map (some (w.heap.size + 1)), .slice a bl.length cap] 54)).block (w.alloc (.cells #[.map none, .slice none 0 0] 54)).heap.size (by rw [s2, s1]; omega))
    rw [s1] at h
    exact h
/-- What bindingsOf leaves. -/
def BoA (bl : List (ByteArray × Tr)) (bv : Value) (w : World) (e : Ending) (w' : World) : Prop :=
  Below w.heap.size w w' ∧ (bdB bl = false → e = .returned (.tuple #[.agg #[.map none, .slice none 0 0], .bool false])) ∧
    (bdB bl = true → ∃ mb, e = .returned (.tuple #[.agg #[.map (some mb), bv], .bool true]) ∧ w.heap.size ≤ mb ∧ Mn w' mb 9 (bks bl))
set_option maxHeartbeats 3200000 in
theorem bindings52 (bl : List (ByteArray × Tr)) (a : Option Addr) (cap : Nat) (w : World) (h : BRd w bl (.slice a bl.length cap)) (hxs : ∀ i (hi : i < bl.length), bl[i].1.size ≤ maxLen) (hwt : bwt bl ≤ 1048576) :
    Calls Try.prog 28 #[.slice a bl.length cap] w (BoA bl (.slice a bl.length cap) w) := by
  obtain ⟨a', cap', b, sv, e, hm, ha, hcell, hk⟩ := h
  injection e with e1 e2 e3
  subst e1
  clear e2 e3
  have HD := (show Hid _ from (⟨ha, hcell, hk⟩ : _ ∧ _ ∧ _)); clear ha hcell hk
  have HX := (show Hid (∀ i (hi : i < bl.length), bl[i].1.size ≤ maxLen) from hxs); clear hxs
  have HLN := (show Hid (∀ j, j ≤ bl.length → bdJ bl j = true → j ≤ 524288) from fun j hj h => by
    have h1 := bdJ_len bl j hj h
    have h2 := bwL_take_le bl j
    unfold bwt at hwt
    omega)
  have hlen : bl.length ≤ 1048576 := by unfold bwt at hwt; omega
  clear hwt
  have HNO := (show Hid (∀ w' : World, bdB bl = false → Below w.heap.size w w' → BoA bl (.slice a bl.length cap) w (.returned (.tuple #[.agg #[.map none, .slice none 0 0], .bool false])) w') from fun w' h h1 => ⟨h1, fun _ => rfl, fun h2 => by rw [h] at h2; cases h2⟩)
  have HYS := (show Hid (∀ w' : World, bdB bl = true → Below w.heap.size w w' → Mn w' (w.heap.size + 1) 9 (bks bl) → BoA bl (.slice a bl.length cap) w (.returned (.tuple #[.agg #[.map (some (w.heap.size + 1)), .slice a bl.length cap], .bool true])) w') from fun w' h h1 h2 => ⟨h1, fun h3 => (by rw [h] at h3; cases h3), fun _ => ⟨_, rfl, by omega, h2⟩⟩)
  have HBD := (show Hid (bdB bl = bdJ bl bl.length) from rfl)
  have HST := (show Hid _ from BoI.start w bl a cap)
  generalize hBD : bdB bl = D at *
  clear hBD
  have hmk := fun w => run_makeMap (P := Try.prog) 52 w
  go_enter Try.func28, Try.ntmps28
  go_wp2_with fail
  go_loopw [12] (fun i wr => ∃ j : Nat, i = .int .i64 j ∧ j ≤ bl.length ∧ Hid (bdJ bl j = true) ∧ Hid (BoI w bl (.slice a bl.length cap) j wr)) (fun i _ => bl.length - (intOf i).toNat)
  case atStart => exact ⟨0, rfl, Nat.zero_le _, (rfl : bdJ bl 0 = true), HST.out⟩
  case round =>
    obtain ⟨j, rfl, hj, HJ, HI⟩ := hrel
    clear HST
    by_cases hlt : j < bl.length
    · have q1 : (j : Int) < (bl.length : Int) := by omega
      have q0 : (0 : Int) ≤ (j : Int) := by omega
      obtain rfl := HD.out.1 (by omega)
      obtain ⟨c0, c1, c2, c3, c4⟩ := HD.out.2.1 j hlt
      have hbel := HI.out.bel
      have hlj := (HD.out.2.2 j hlt).still hbel
      obtain ⟨a4, l4, p4, e4⟩ := hlj.form
      rw [e4] at c4 hlj
      rw [← hbel.cell (lt_of_cell c0)] at c0
      rw [← hbel.cell (lt_of_cell c1)] at c1
      rw [← hbel.cell (lt_of_cell c2)] at c2
      rw [← hbel.cell (lt_of_cell c3)] at c3
      rw [← hbel.cell (lt_of_cell c4)] at c4
      have HN := (show Hid (∀ wq : World, Calls Try.prog 52 #[.string bl[j].1] wq fun e w' => e = .returned (.bool (nmB bl[j].1)) ∧ w' = wq) from fun wq => iName _ (HX.out j hlt) wq)
      have HO := (show Hid (Calls Try.prog 25 #[.agg #[.string bl[j].2.name, .string bl[j].2.text, .bool bl[j].2.leaf, .slice a4 l4 p4]] (wr.alloc (.cells #[.string bl[j].1, .string bl[j].2.name, .string bl[j].2.text, .bool bl[j].2.leaf, .slice a4 l4 p4] 47)) fun e w' => e = .returned (.bool bl[j].2.ok) ∧ Below (wr.alloc (.cells #[.string bl[j].1, .string bl[j].2.name, .string bl[j].2.text, .bool bl[j].2.leaf, .slice a4 l4 p4] 47)).heap.size (wr.alloc (.cells #[.string bl[j].1, .string bl[j].2.name, .string bl[j].2.text, .bool bl[j].2.leaf, .slice a4 l4 p4] 47)) w') from iOK_any bl[j].2 _ _ (hlj.still (bel_alloc _ _)))
      have HON := (show Hid (oneB bl j = (nmB bl[j].1 && (bl[j].2.ok && (List.range j).all fun i => !eqS (nb bl i).1 (nb bl j).1))) from (by show _ = _; unfold oneB; rw [nb_eq hlt]))
      have HNX := (show Hid (oneB bl j = false → D = false) from fun h => by
        rw [HBD.out]
        exact bdJ_false bl bl.length (i := j + 1) (by omega) (by rw [bdJ, h]; simp))
      have HNY := (show Hid (oneB bl j = true → bdJ bl (j + 1) = true) from fun h => by rw [bdJ, h, HJ.out]; rfl)
      have HMM := (show Hid (Value.string bl[j].1 ∈ bks (bl.take j) ↔ ((List.range j).all fun q => !eqS (nb bl q).1 (nb bl j).1) = false) from bks_mem hlt)
      have HKT := (show Hid (bks (bl.take (j + 1)) = bks (bl.take j) ++ [.string bl[j].1]) from bks_take hlt)
      have hkl : (bks (bl.take j)).length = j := by rw [bks_len, List.length_take]; omega
      have HKL := (show Hid _ from hkl)
      have hj5 := HLN.out j hj HJ.out
      have HNU := (show Hid (∀ wq : World, Mn wq (w.heap.size + 1) 9 (bks (bl.take j)) → Calls Try.prog 55 #[.map (some (w.heap.size + 1)), .string bl[j].1] wq (NoR (w.heap.size + 1) 9 (bks (bl.take j)) (.string bl[j].1) wq)) from fun wq h => number81 _ _ _ _ wq (keyOf_string_mk (P := Try.prog) Try.underlying9 (HX.out j hlt)) h (by rw [hkl]; omega))
      have HBX := (show Hid (Box (wr.alloc (.cells #[.string bl[j].1, .string bl[j].2.name, .string bl[j].2.text, .bool bl[j].2.leaf, .slice a4 l4 p4] 47)) wr.heap.size 47 [.string bl[j].1, .string bl[j].2.name, .string bl[j].2.text, .bool bl[j].2.leaf, .slice a4 l4 p4]) from Box.new wr 47 _)
      clear hlj hbel hkl e4 hj5 HJ
      unfold NoR at HNU
      generalize bl[j].1 = x0 at *
      generalize bl[j].2.name = x1 at *
      generalize bl[j].2.text = x2 at *
      generalize bl[j].2.leaf = x3 at *
      generalize bl[j].2.ok = ok at *
      generalize hAL : ((List.range j).all fun q => !eqS (nb bl q).1 (nb bl j).1) = al at *
      generalize hOB : oneB bl j = ob at *
      clear hAL hOB
      have HI1 := (show Hid (BoI w bl (.slice (some ⟨b, 0, none⟩) bl.length cap) j (wr.alloc (.cells #[.string x0, .string x1, .string x2, .bool x3, .slice a4 l4 p4] 47))) from HI.out.still (bel_alloc _ _))
      cases hnm : nmB x0
      · rw [hnm] at HN HON
        have HF := (show Hid (D = false) from HNX.out (by rw [HON.out]; rfl))
        obtain ⟨hbw, bz, _, _⟩ := HI1.out
        have Z0 : (wr.alloc (.cells #[.string x0, .string x1, .string x2, .bool x3, .slice a4 l4 p4] 47)).cell? ⟨w.heap.size, 0, none⟩ = some (.map none) := bz.cell 0 (by simp)
        have Z1 : (wr.alloc (.cells #[.string x0, .string x1, .string x2, .bool x3, .slice a4 l4 p4] 47)).cell? ⟨w.heap.size, 1, none⟩ = some (.slice none 0 0) := bz.cell 1 (by simp)
        have y0 : (wr.alloc (.cells #[.string x0, .string x1, .string x2, .bool x3, .slice a4 l4 p4] 47)).frozen? ⟨w.heap.size, 0, none⟩ = false := bz.frozen 0
        have y1 : (wr.alloc (.cells #[.string x0, .string x1, .string x2, .bool x3, .slice a4 l4 p4] 47)).frozen? ⟨w.heap.size, 1, none⟩ = false := bz.frozen 1
        have HBW := (show Hid _ from hbw)
        clear hbw bz hnm HON HNX HNY HMM HKT HKL HNU HO HI HI1 HBX
        go_wp2_with fail
        refine Calls.mono (HN.out _) ?_
        rintro e w2 ⟨rfl, rfl⟩
        go_wp2_with fail
        refine bodyPost_ret (v := .tuple #[.agg #[.map none, .slice none 0 0], .bool false]) (by simp [results, Try.results28, go_sem, Z0, Z1]) rfl (HNO.out _ HF.out ?_)
        exact (HBW.out.setCell (by simp) _).setCell (by simp) _
      rw [hnm] at HN HON
      cases ok
      · have HF := (show Hid (D = false) from HNX.out (by rw [HON.out]; rfl))
        clear hnm HON HNX HNY HMM HKT HKL HNU
        go_wp2_with fail
        refine Calls.mono (HN.out _) ?_
        rintro e w2 ⟨rfl, rfl⟩
        go_wp2_with fail
        refine Calls.mono HO.out ?_
        rintro e w3 ⟨rfl, hb3⟩
        obtain ⟨hbw, bz, _, _⟩ := HI1.out.still hb3
        have Z0 : w3.cell? ⟨w.heap.size, 0, none⟩ = some (.map none) := bz.cell 0 (by simp)
        have Z1 : w3.cell? ⟨w.heap.size, 1, none⟩ = some (.slice none 0 0) := bz.cell 1 (by simp)
        have y0 : w3.frozen? ⟨w.heap.size, 0, none⟩ = false := bz.frozen 0
        have y1 : w3.frozen? ⟨w.heap.size, 1, none⟩ = false := bz.frozen 1
        have HBW := (show Hid _ from hbw)
        clear hbw bz hb3 HO HI HI1 HBX c0 c1 c2 c3 c4
        go_wp2_with fail
        refine bodyPost_ret (v := .tuple #[.agg #[.map none, .slice none 0 0], .bool false]) (by simp [results, Try.results28, go_sem, Z0, Z1]) rfl (HNO.out _ HF.out ?_)
        exact (HBW.out.setCell (by simp) _).setCell (by simp) _
      clear hnm
      go_wp2_with fail
      refine Calls.mono (HN.out _) ?_
      rintro e w2 ⟨rfl, rfl⟩
      go_wp2_with fail
      refine Calls.mono HO.out ?_
      rintro e w3 ⟨rfl, hb3⟩
      have hi3 := HI1.out.still hb3
      have hbx3 := HBX.out.still hb3
      have X0 : w3.cell? ⟨wr.heap.size, 0, none⟩ = some (.string x0) := hbx3.cell 0 (by simp)
      have K0 : w3.cell? ⟨w.heap.size + 1 + 1, 0, none⟩ = some (.map (some (w.heap.size + 1))) := hi3.bk.cell 0 (by simp)
      have HC4 := (show Hid _ from HNU.out w3 hi3.mn)
      have HI3 := (show Hid (BoI w bl (.slice (some ⟨b, 0, none⟩) bl.length cap) j w3) from hi3)
      clear hb3 HO HI HI1 HBX c0 c1 c2 c3 c4 hi3 hbx3 HNU
      go_wp2_with fail
      refine Calls.mono HC4.out ?_
      rintro e w4 ⟨n, rfl, hk4, hor⟩
      cases al
      · have HF := (show Hid (D = false) from HNX.out (by rw [HON.out]; rfl))
        have hmem := HMM.out.2 rfl
        obtain ⟨hn, hmn⟩ : n < j ∧ Mn w4 (w.heap.size + 1) 9 (bks (bl.take j)) := by
          rcases hor with ⟨h1, h2⟩ | ⟨h1, _⟩
          · have := (List.getElem?_eq_some_iff.1 h1).1
            rw [HKL.out] at this
            exact ⟨this, h2⟩
          · exact absurd hmem h1
        have hij : ((n : Int) != (j : Int)) = true := by simp; omega
        obtain ⟨hbw, bz, _, _⟩ := HI3.out.put hk4 hmn
        have Z0 : w4.cell? ⟨w.heap.size, 0, none⟩ = some (.map none) := bz.cell 0 (by simp)
        have Z1 : w4.cell? ⟨w.heap.size, 1, none⟩ = some (.slice none 0 0) := bz.cell 1 (by simp)
        have y0 : w4.frozen? ⟨w.heap.size, 0, none⟩ = false := bz.frozen 0
        have y1 : w4.frozen? ⟨w.heap.size, 1, none⟩ = false := bz.frozen 1
        have HBW := (show Hid _ from hbw)
        clear hbw bz hmem hor hk4 hmn hn HC4 HI3 HON HNX HNY HMM HKT HKL X0 K0
        go_wp2_with fail
        refine bodyPost_ret (v := .tuple #[.agg #[.map none, .slice none 0 0], .bool false]) (by simp [results, Try.results28, go_sem, Z0, Z1]) rfl (HNO.out _ HF.out ?_)
        exact (HBW.out.setCell (by simp) _).setCell (by simp) _
      · have HBN := (show Hid _ from HNY.out (by rw [HON.out]; rfl))
        obtain ⟨hn, hmn⟩ : n = j ∧ Mn w4 (w.heap.size + 1) 9 (bks (bl.take (j + 1))) := by
          rcases hor with ⟨h1, h2⟩ | ⟨_, h1, h2⟩
          · have := HMM.out.1 (List.mem_of_getElem? h1)
            cases this
          · rw [HKL.out] at h1
            rw [HKT.out]
            exact ⟨h1, h2⟩
        have hij : ((n : Int) != (j : Int)) = false := by simp; omega
        have HI4 := (show Hid (BoI w bl (.slice (some ⟨b, 0, none⟩) bl.length cap) (j + 1) w4) from HI3.out.put hk4 hmn)
        clear hor hk4 hmn hn HC4 HI3 HON HNX HNY HMM HKT HKL X0 K0
        go_wp2_with fail
        exact ⟨⟨j + 1, by go_num, by omega, HBN, HI4⟩, by simp [intOf]; omega⟩
    · have q1 : ¬ ((j : Int) < (bl.length : Int)) := by omega
      have hje : j = bl.length := by omega
      have HF := (show Hid (D = true) from (by show D = true; rw [HBD.out, ← hje]; exact HJ.out))
      obtain ⟨hbw, bz, bk, hmn⟩ := HI.out
      rw [hje, List.take_length] at hmn
      have Z0 : wr.cell? ⟨w.heap.size, 0, none⟩ = some (.map none) := bz.cell 0 (by simp)
      have Z1 : wr.cell? ⟨w.heap.size, 1, none⟩ = some (.slice none 0 0) := bz.cell 1 (by simp)
      have y0 : wr.frozen? ⟨w.heap.size, 0, none⟩ = false := bz.frozen 0
      have y1 : wr.frozen? ⟨w.heap.size, 1, none⟩ = false := bz.frozen 1
      have K0 : wr.cell? ⟨w.heap.size + 1 + 1, 0, none⟩ = some (.map (some (w.heap.size + 1))) := bk.cell 0 (by simp)
      have K1' : wr.cell? ⟨w.heap.size + 1 + 1, 1, none⟩ = some (.slice a bl.length cap) := bk.cell 1 (by simp)
      have HBW := (show Hid (Below w.heap.size w wr ∧ Mn wr (w.heap.size + 1) 9 (bks bl)) from ⟨hbw, hmn⟩)
      clear hbw bz bk hmn HI HJ hje
      go_wp2_with fail
      refine bodyPost_ret (v := .tuple #[.agg #[.map (some (w.heap.size + 1)), .slice a bl.length cap], .bool true]) (by simp [results, Try.results28, go_sem, Z0, Z1]) rfl (HYS.out _ HF.out ?_ ?_)
      · exact (HBW.out.1.setCell (by simp) _).setCell (by simp) _
      · exact HBW.out.2.keep ((blk_setCell_other _ _ _ _ (by show w.heap.size + 1 ≠ w.heap.size; omega)).trans (blk_setCell_other _ _ _ _ (by show w.heap.size + 1 ≠ w.heap.size; omega)))
end Go.Proofs.Ytbgoikaelmacbaa

/-! The program: haveAll. -/
namespace Go.Proofs.Ytbgoikaelmacbaa
open Go.RowKit Go.Deep Go.Maps Go.WideMaps Go.ChangeMaps Go.Lib
set_option linter.unusedVariables false
set_option maxRecDepth 100000
set_option linter.unusedSimpArgs false

theorem Mn.look_ok {w : World} {b : Nat} {ks : List Value} (h : Mn w b 9 ks) {s : ByteArray} (hs : s.size ≤ maxLen) {B : Bool} (hB : B = true ↔ Value.string s ∈ ks) :
    ∃ c : Int, ∀ w' : World, w'.heap[b]? = w.heap[b]? → (Instr.lookup 52 (.map (some b)) (.string s) true).run Try.prog w' = .ok (.tuple #[.int .i64 c, .bool B]) w' := by
  obtain ⟨D, ⟨es, clock, d0, d1⟩, d2, d3, d4, d6, d7⟩ := h
  have hw0 : (Lit.int .i64 0).wf = true := by decide
  obtain ⟨l, hl⟩ : ∃ l, keyOf Try.prog 9 (.string s) = some l := ⟨_, keyOf_string_mk (P := Try.prog) Try.underlying9 hs⟩
  have e : Maps.has D l = B := by
    rw [Bool.eq_iff_iff, hB]
    exact d6 _ _ hl
  have key : ∀ w' : World, w'.heap[b]? = w.heap[b]? → ∃ c : Int, D.atKey l (.lit (.int .i64 0)) = .lit (.int .i64 c) ∧ (Instr.lookup 52 (.map (some b)) (.string s) true).run Try.prog w' = .ok (.tuple #[.int .i64 c, .bool B]) w' := by
    intro w' hw
    have d1' : w'.ownsMap Try.prog 9 (plainElem Try.prog 3) b ks.length D := ⟨es, clock, hw.trans d0, d1⟩
    obtain ⟨v, ps, hr, hv⟩ := d1'.look_ok keyed9 Try.underlying52 (zero3c w') (plainElem_int Try.underlying3 hw0) hl
    obtain ⟨c, rfl, hc, hwc⟩ := plainElem_int_inv Try.underlying3 hv
    simp only [Prod.mk.injEq] at hc
    exact ⟨c, hc.1, by rw [hr, e]⟩
  obtain ⟨c, hc, _⟩ := key w rfl
  refine ⟨c, fun w' hw => ?_⟩
  obtain ⟨c', hc', hr⟩ := key w' hw
  rw [hc] at hc'
  have : c' = c := by simpa using hc'.symm
  rw [hr, this]
theorem Mn.look {w : World} {b : Nat} {ks : List Value} (h : Mn w b 9 ks) {s : ByteArray} (hs : s.size ≤ maxLen) {n : Nat} (hn : ks[n]? = some (.string s)) (w' : World) (hw : w'.heap[b]? = w.heap[b]?) :
    (Instr.lookup 52 (.map (some b)) (.string s) false).run Try.prog w' = .ok (.int .i64 (n : Nat)) w' := by
  obtain ⟨D, ⟨es, clock, d0, d1⟩, d2, d3, d4, d6, d7⟩ := h
  have d1' : w'.ownsMap Try.prog 9 (plainElem Try.prog 3) b ks.length D := ⟨es, clock, hw.trans d0, d1⟩
  obtain ⟨l, hl⟩ : ∃ l, keyOf Try.prog 9 (.string s) = some l := ⟨_, keyOf_string_mk (P := Try.prog) Try.underlying9 hs⟩
  obtain ⟨c, hr, hat, hwc⟩ := d1'.lookup_int keyed9 Try.underlying52 Try.underlying3 (zero3c w') hl
  have h1 := d7 n _ _ (.lit (.int .i64 0)) hn hl
  have hc : c = ((n : Nat) : Int) := by
    have h2 := hat
    rw [h1] at h2
    simpa using h2.symm
  rw [hr, hc]
theorem look_mem {bl : List (ByteArray × Tr)} {s : ByteArray} : (look bl s).isSome = true ↔ Value.string s ∈ bks bl := by
  unfold bks
  induction bl with
  | nil => simp [look]
  | cons b r ih =>
    rw [look, List.map_cons, List.mem_cons]
    split
    · rename_i h
      rw [eqS_iff] at h
      simp [h]
    · rename_i h
      rw [ih]
      constructor
      · exact .inr
      · rintro (e | e)
        · injection e with e
          exact absurd (eqS_iff.2 e.symm) h
        · exact e
/-- Bindings that are known: a box with the map of their numbers, and the row of binds. -/
structure KS (w : World) (bl : List (ByteArray × Tr)) (gb mb : Nat) (a : Option Addr) (cap : Nat) : Prop where
  bx : Box w gb 54 [.map (some mb), .slice a bl.length cap]
  mn : Mn w mb 9 (bks bl)
  rd : BRd w bl (.slice a bl.length cap)
theorem KS.still {w w' : World} {bl : List (ByteArray × Tr)} {gb mb : Nat} {a : Option Addr} {cap : Nat} (h : KS w bl gb mb a cap) (hb : Below w.heap.size w w') : KS w' bl gb mb a cap :=
  ⟨h.bx.still hb, h.mn.keep (hb.block _ h.mn.lt), h.rd.still hb⟩
theorem bel_drewN {B : Nat} {a w : World} (h : Below B a w) (n : Nat) : Below B a (w.drewN n) := h.trans ⟨rfl, rfl, rfl, Nat.le_refl _, fun _ _ => rfl⟩
set_option maxHeartbeats 1600000 in
theorem allHave82 (bl : List (ByteArray × Tr)) (gb : Nat) (k : List Tr) (a1 : Option Addr) (cap1 b1 off1 : Nat) (sv : Nat → Value) (w : World) (hc : k.length ≤ 9223372036854775807)
    (ha : 0 < k.length → a1 = some ⟨b1, off1, none⟩)
    (hcell : ∀ i (hi : i < k.length), w.cell? ⟨b1, off1 + i * 4, none⟩ = some (.string k[i].name) ∧ w.cell? ⟨b1, off1 + i * 4 + 1, none⟩ = some (.string k[i].text) ∧ w.cell? ⟨b1, off1 + i * 4 + 2, none⟩ = some (.bool k[i].leaf) ∧ w.cell? ⟨b1, off1 + i * 4 + 3, none⟩ = some (sv i))
    (hsv : ∀ i (hi : i < k.length), ∃ x y z, sv i = .slice x y z)
    (ih : ∀ i (hi : i < k.length) (wq : World), Below w.heap.size w wq → Calls Try.prog 29 #[.pointer (some ⟨gb, 0, none⟩), k[i].val (sv i)] wq fun e w' => e = .returned (.bool (hvT bl k[i])) ∧ Below wq.heap.size wq w') :
    Calls Try.prog 56 #[.slice a1 k.length cap1, .func (.func 29) #[.pointer (some ⟨gb, 0, none⟩)] #[]] w fun e w' => e = .returned (.bool (k.all (hvT bl))) ∧ Below w.heap.size w w' := by
  have HI := (show Hid _ from ih); clear ih
  have HD := (show Hid _ from (⟨ha, hcell, hsv⟩ : _ ∧ _ ∧ _)); clear ha hcell hsv
  have HAL := (show Hid (∀ j (hj : j < k.length), hvT bl k[j] = false → k.all (hvT bl) = false) from fun j hj h => by
    rw [List.all_eq_false]
    exact ⟨k[j], List.getElem_mem hj, by rw [h]; simp⟩)
  have HAT := (show Hid ((∀ j (hj : j < k.length), hvT bl k[j] = true) → k.all (hvT bl) = true) from fun h => by
    rw [List.all_eq_true]
    intro x hx
    obtain ⟨i, hi, rfl⟩ := List.mem_iff_getElem.1 hx
    exact h i hi)
  generalize k.all (hvT bl) = R at *
  go_enter Try.func56, Try.ntmps56
  go_wp2_with fail
  go_loopw [9] (fun i wr => ∃ j : Nat, i = .int .i64 j ∧ j ≤ k.length ∧ Hid (Below w.heap.size w wr) ∧ Hid (∀ i (hi : i < k.length), i < j → hvT bl k[i] = true)) (fun i _ => k.length - (intOf i).toNat)
  case atStart => exact ⟨0, rfl, Nat.zero_le _, Below.refl _ _, fun i _ h => absurd h (Nat.not_lt_zero _)⟩
  case round =>
    obtain ⟨j, rfl, hj, HB, HJ⟩ := hrel
    by_cases hlt : j < k.length
    · have q1 : (j : Int) < (k.length : Int) := by omega
      have q0 : (0 : Int) ≤ (j : Int) := by omega
      obtain rfl := HD.out.1 (by omega)
      obtain ⟨c0, c1, c2, c3⟩ := HD.out.2.1 j hlt
      obtain ⟨x1, x2, x3, e3⟩ := HD.out.2.2 j hlt
      have hbel := HB.out
      rw [← hbel.cell (lt_of_cell c0)] at c0
      rw [← hbel.cell (lt_of_cell c1)] at c1
      rw [← hbel.cell (lt_of_cell c2)] at c2
      rw [← hbel.cell (lt_of_cell c3)] at c3
      have HCL := (show Hid _ from HI.out j hlt (wr.alloc (.cells #[.string k[j].name, .string k[j].text, .bool k[j].leaf, .slice x1 x2 x3] 26)) (bel_trans hbel (bel_alloc _ _)))
      rw [e3] at c3 HCL
      simp only [Tr.val] at HCL
      have HB2 := (show Hid (Below w.heap.size w (wr.alloc (.cells #[.string k[j].name, .string k[j].text, .bool k[j].leaf, .slice x1 x2 x3] 26))) from bel_trans hbel (bel_alloc _ _))
      have HNX := (show Hid (hvT bl k[j] = true → ∀ i (hi : i < k.length), i < j + 1 → hvT bl k[i] = true) from fun h i hi hij => by
        by_cases e : i = j
        · subst e; exact h
        · exact HJ.out i hi (by omega))
      have HFX := (show Hid (hvT bl k[j] = false → R = false) from HAL.out j hlt)
      clear hbel e3 HJ HB
      generalize hvT bl k[j] = r at *
      generalize k[j].name = y0 at *
      generalize k[j].text = y1 at *
      generalize k[j].leaf = y2 at *
      go_wp2_with fail
      refine Calls.mono HCL.out ?_
      rintro e w1 ⟨rfl, hb1⟩
      have HB3 := (show Hid (Below w.heap.size w w1) from bel_trans HB2.out hb1)
      clear hb1 HB2 HCL c0 c1 c2 c3
      cases r
      · have HF := (show Hid _ from HFX.out rfl)
        clear HNX HFX
        go_wp2_with fail
        go_ret
        exact ⟨by rw [HF.out]; rfl, HB3.out⟩
      · have HF := (show Hid _ from HNX.out rfl)
        clear HNX HFX
        go_wp2_with fail
        exact ⟨⟨j + 1, by go_num, by omega, HB3, HF⟩, by simp [intOf]; omega⟩
    · have q1 : ¬ ((j : Int) < (k.length : Int)) := by omega
      have HF := (show Hid (R = true) from HAT.out (fun i hi => HJ.out i hi (by omega)))
      go_wp2_with fail
      go_ret
      exact ⟨by rw [HF.out]; rfl, HB.out⟩
set_option maxHeartbeats 1600000 in
theorem have53 (bl : List (ByteArray × Tr)) (gb mb : Nat) (a : Option Addr) (cap : Nat) (p : Tr) : ∀ (v : Value) (w : World), KS w bl gb mb a cap → Lies w (fun _ => True) p v →
    Calls Try.prog 29 #[.pointer (some ⟨gb, 0, none⟩), p.val v] w fun e w' => e = .returned (.bool (hvT bl p)) ∧ Below w.heap.size w w' := by
  refine Tr.ind (P := fun p => ∀ (v : Value) (w : World), KS w bl gb mb a cap → Lies w (fun _ => True) p v → Calls Try.prog 29 #[.pointer (some ⟨gb, 0, none⟩), p.val v] w fun e w' => e = .returned (.bool (hvT bl p)) ∧ Below w.heap.size w w') ?_ p
  intro n x lf k ih v w hks hl
  rw [hvT_mk]
  obtain ⟨a1, cap1, b1, off1, sv, rfl, hn, hx, hc, hm, ha, hcell, hk⟩ := hl.out
  dsimp only at hn hx hc hm ha hcell hk
  have hb1 := bel_alloc w (.cells #[.string n, .string x, .bool lf, .slice a1 k.length cap1] 26)
  have HV := (show Hid _ from var72 ⟨n, x, lf, k⟩ (.slice a1 k.length cap1) (w.alloc (.cells #[.string n, .string x, .bool lf, .slice a1 k.length cap1] 26)) rfl)
  have HX1 := (show Hid (Box (w.alloc (.cells #[.string n, .string x, .bool lf, .slice a1 k.length cap1] 26)) w.heap.size 26 [.string n, .string x, .bool lf, .slice a1 k.length cap1]) from Box.new w 26 _)
  have HB1 := (show Hid _ from hb1)
  simp only [Tr.val] at HV ⊢
  cases hvr : vrB n lf
  · rw [hvr] at HV
    rw [if_neg (by simp)]
    have HAL := (show Hid (∀ wq : World, Below w.heap.size w wq → Calls Try.prog 56 #[.slice a1 k.length cap1, .func (.func 29) #[.pointer (some ⟨gb, 0, none⟩)] #[]] wq fun e w' => e = .returned (.bool (k.all (hvT bl))) ∧ Below wq.heap.size wq w') from fun wq hb => by
      have mv : ∀ {b o : Nat} {v : Value}, w.cell? ⟨b, o, none⟩ = some v → wq.cell? ⟨b, o, none⟩ = some v := fun h => (hb.cell (lt_of_cell h)).trans h
      refine allHave82 bl gb k a1 cap1 b1 off1 sv wq (by unfold maxLen at hm; omega) (fun h => (ha h).1) (fun i hi => ?_) (fun i hi => (hk i hi).form) (fun i hi w2 hb2 => ih i hi (sv i) w2 (hks.still (bel_trans hb hb2)) ((hk i hi).still (bel_trans hb hb2)))
      obtain ⟨c0, c1, c2, c3⟩ := hcell i hi
      exact ⟨mv c0, mv c1, mv c2, mv c3⟩)
    clear hks hl hcell hk ha ih hb1 hvr
    generalize k.all (hvT bl) = R at *
    go_enter Try.func29, Try.ntmps29
    go_wp2_with fail
    refine Calls.mono HV.out ?_
    rintro e w1 ⟨rfl, hb1⟩
    have bx1 := HX1.out.still hb1
    have A3 : w1.cell? ⟨w.heap.size, 3, none⟩ = some (.slice a1 k.length cap1) := bx1.cell 3 (by simp)
    have HW1 := (show Hid (Below w.heap.size w w1) from bel_trans HB1.out hb1)
    clear bx1 hb1 HV
    have HCL := (show Hid _ from HAL.out w1 HW1.out)
    clear HAL
    go_wp2_with fail
    refine Calls.mono HCL.out ?_
    rintro e w2 ⟨rfl, hb2⟩
    have HE := (show Hid _ from bel_trans HW1.out hb2)
    clear hb2 HCL
    go_wp2_with fail
    go_ret
    exact ⟨rfl, HE.out⟩
  · rw [hvr] at HV
    rw [if_pos rfl]
    have HKS := (show Hid (KS w bl gb mb a cap) from hks)
    have HLM := (show Hid ((look bl x).isSome = true ↔ Value.string x ∈ bks bl) from look_mem)
    clear hks hl hcell hk ha ih hb1 hvr
    generalize (look bl x).isSome = R at *
    go_enter Try.func29, Try.ntmps29
    go_wp2_with fail
    refine Calls.mono HV.out ?_
    rintro e w1 ⟨rfl, hb1⟩
    have bx1 := HX1.out.still hb1
    have A1 : w1.cell? ⟨w.heap.size, 1, none⟩ = some (.string x) := bx1.cell 1 (by simp)
    have HW1 := (show Hid (Below w.heap.size w w1) from bel_trans HB1.out hb1)
    have hks1 := HKS.out.still HW1.out
    have G0 : w1.cell? ⟨gb, 0, none⟩ = some (.map (some mb)) := hks1.bx.cell 0 (by simp)
    obtain ⟨c, hlk0⟩ := hks1.mn.look_ok hx HLM.out
    have hlk : ∀ m : Nat, (Instr.lookup 52 (.map (some mb)) (.string x) true).run Try.prog (w1.drewN m) = .ok (.tuple #[.int .i64 c, .bool R]) (w1.drewN m) := fun m => hlk0 _ rfl
    clear hlk0
    clear bx1 hb1 HV hks1
    go_wp2_with fail
    go_quiet (fail)
    go_wp2_with fail
    go_ret
    exact ⟨rfl, bel_drewN HW1.out _⟩
end Go.Proofs.Ytbgoikaelmacbaa

/-! The program: fill. -/
namespace Go.Proofs.Ytbgoikaelmacbaa
open Go.RowKit Go.Deep Go.Maps Go.WideMaps Go.ChangeMaps Go.Lib
set_option linter.unusedVariables false
set_option maxRecDepth 100000
set_option linter.unusedSimpArgs false

theorem FGr.past {k : List Tr} {C B j g o : Nat} {v x : Value} {w : World} (h : FGr k C B j v w) (h1 : C ≤ g) (h2 : g < B) : FGr k C B j v (w.setCell ⟨g, o, none⟩ x) := by
  obtain ⟨fs, hown, hls⟩ := h
  refine ⟨fs, own_keep1 hown (fun q hq => blk_setCell_other _ _ _ _ (by have := (World.ownsRow.lt hown q hq).1; show q ≠ g; omega)), fun i hi => (hls i hi).keep (fun q hq => blk_setCell_other _ _ _ _ (by show q ≠ g; have := hq.2; omega))⟩
theorem KS.at {w : World} {bl : List (ByteArray × Tr)} {gb mb : Nat} {a : Option Addr} {cap : Nat} (h : KS w bl gb mb a cap) {x : ByteArray} (hx : x.size ≤ maxLen) {T : Tr} (hl : look bl x = some T) :
    ∃ (n b : Nat) (hn : n < bl.length) (x1 : Option Addr) (x2 x3 : Nat), a = some ⟨b, 0, none⟩ ∧ bl[n].2 = T ∧ (∀ w' : World, w'.heap[mb]? = w.heap[mb]? → (Instr.lookup 52 (.map (some mb)) (.string x) false).run Try.prog w' = .ok (.int .i64 (n : Nat)) w') ∧
      w.cell? ⟨b, n * 5 + 1, none⟩ = some (.string T.name) ∧ w.cell? ⟨b, n * 5 + 2, none⟩ = some (.string T.text) ∧ w.cell? ⟨b, n * 5 + 3, none⟩ = some (.bool T.leaf) ∧ w.cell? ⟨b, n * 5 + 4, none⟩ = some (.slice x1 x2 x3) ∧ Lies w (fun _ => True) T (.slice x1 x2 x3) := by
  have hm : Value.string x ∈ bks bl := look_mem.1 (by rw [hl]; rfl)
  obtain ⟨n, hn, hne⟩ := List.mem_iff_getElem.1 hm
  have hng : (bks bl)[n]? = some (.string x) := by rw [List.getElem?_eq_getElem hn, hne]
  have hnd : (bks bl).Nodup := by obtain ⟨D, _, _, _, d4, _⟩ := h.mn.ex; exact d4
  obtain ⟨hnb, hlk⟩ := look_key (bl := bl) hnd hng
  obtain ⟨a', cap', b, sv, e, hm', ha, hc, hls⟩ := h.rd
  injection e with e1 e2 e3
  subst e1
  have hT : bl[n].2 = T := by rw [hlk] at hl; injection hl
  obtain ⟨c0, c1, c2, c3, c4⟩ := hc n hnb
  have hlies := hls n hnb
  obtain ⟨x1, x2, x3, es⟩ := hlies.form
  rw [hT] at c1 c2 c3 hlies
  rw [es] at c4 hlies
  exact ⟨n, b, hnb, x1, x2, x3, ha (by omega), hT, fun w' hw => h.mn.look hx hng w' hw, c1, c2, c3, c4, hlies⟩
set_option maxHeartbeats 3200000 in
theorem ifill54 (W0 : World) (bl : List (ByteArray × Tr)) (gb mb : Nat) (a : Option Addr) (cap : Nat) (hks : KS W0 bl gb mb a cap) (p : Tr) : ∀ (v : Value) (w : World), Lies W0 (fun _ => True) p v → Below W0.heap.size W0 w → hvT bl p = true → p.cnt ≤ 1000 →
    Calls Try.prog 30 #[.pointer (some ⟨gb, 0, none⟩), p.val v] w (FlA W0.heap.size (flT bl p) w) := by
  refine Tr.ind (P := fun p => ∀ (v : Value) (w : World), Lies W0 (fun _ => True) p v → Below W0.heap.size W0 w → hvT bl p = true → p.cnt ≤ 1000 → Calls Try.prog 30 #[.pointer (some ⟨gb, 0, none⟩), p.val v] w (FlA W0.heap.size (flT bl p) w)) ?_ p
  intro n x lf k ih v w hl hbel hhv hcnt
  rw [Tr.cnt_mk] at hcnt
  rw [hvT_mk] at hhv
  rw [flT_mk]
  obtain ⟨a1, cap1, b1, off1, sv, rfl, hn, hx, hc, hm, ha, hcell, hk⟩ := hl.out
  dsimp only at hn hx hc hm ha hcell hk
  have HX := (show Hid (n.size ≤ maxLen ∧ x.size ≤ maxLen) from ⟨hn, hx⟩)
  have hkl : k.length ≤ 1000 := by
    have := Tr.len_le_cntL k
    omega
  have hCw := hbel.size
  have hb2 : Below w.heap.size w ((w.alloc (.cells #[.string n, .string x, .bool lf, .slice a1 k.length cap1] 26)).alloc (.cells #[.string ByteArray.empty, .string ByteArray.empty, .bool false, .slice none 0 0] 26)) := (bel_alloc _ _).alloc (by simp) _
  have HV := (show Hid _ from var72 ⟨n, x, lf, k⟩ (.slice a1 k.length cap1) ((w.alloc (.cells #[.string n, .string x, .bool lf, .slice a1 k.length cap1] 26)).alloc (.cells #[.string ByteArray.empty, .string ByteArray.empty, .bool false, .slice none 0 0] 26)) rfl)
  have HX1 := (show Hid (Box ((w.alloc (.cells #[.string n, .string x, .bool lf, .slice a1 k.length cap1] 26)).alloc (.cells #[.string ByteArray.empty, .string ByteArray.empty, .bool false, .slice none 0 0] 26)) w.heap.size 26 [.string n, .string x, .bool lf, .slice a1 k.length cap1]) from (Box.new w 26 _).still (bel_alloc _ _))
  have HX2 := (show Hid (Box ((w.alloc (.cells #[.string n, .string x, .bool lf, .slice a1 k.length cap1] 26)).alloc (.cells #[.string ByteArray.empty, .string ByteArray.empty, .bool false, .slice none 0 0] 26)) (w.heap.size + 1) 26 [.string ByteArray.empty, .string ByteArray.empty, .bool false, .slice none 0 0]) from (by
    have h := Box.new (w.alloc (.cells #[.string n, .string x, .bool lf, .slice a1 k.length cap1] 26)) 26 [.string ByteArray.empty, .string ByteArray.empty, .bool false, .slice none 0 0]
    rw [show (w.alloc (.cells #[.string n, .string x, .bool lf, .slice a1 k.length cap1] 26)).heap.size = w.heap.size + 1 from by simp] at h
    exact h))
  have HZ2 := (show Hid (((w.alloc (.cells #[.string n, .string x, .bool lf, .slice a1 k.length cap1] 26)).alloc (.cells #[.string ByteArray.empty, .string ByteArray.empty, .bool false, .slice none 0 0] 26)).heap.size = w.heap.size + 2) from (by show _ = _; simp))
  have HB2 := (show Hid _ from hb2)
  have HBL := (show Hid (Below W0.heap.size W0 w) from hbel)
  have HI := (show Hid _ from ih); clear ih
  have HC := (show Hid _ from hcell); clear hcell
  have HK := (show Hid _ from hk); clear hk
  have HA := (show Hid (0 < k.length → a1 = some ⟨b1, off1, none⟩) from fun h => (ha h).1); clear ha hl hbel hb2
  simp only [Tr.val] at HV ⊢
  unfold maxLen at hm
  cases hvr : vrB n lf
  · rw [hvr, if_neg (by simp)] at hhv
    rw [hvr] at HV
    rw [if_neg (by simp)]
    have HHV := (show Hid (∀ i (hi : i < k.length), hvT bl k[i] = true) from fun i hi => List.all_eq_true.1 hhv _ (List.getElem_mem hi))
    have HCN := (show Hid (∀ i (hi : i < k.length), k[i].cnt ≤ 1000) from fun i hi => by
      have := Tr.cnt_mem k i hi
      omega)
    clear hvr hhv hcnt hks
    obtain ⟨i29, hi29, hzz⟩ := Option.map_eq_some_iff.1 info26
    simp only [Prod.mk.injEq] at hzz
    obtain ⟨hz0, hz1, hz2⟩ := hzz
    go_enter Try.func30, Try.ntmps30
    go_wp2_with fail
    refine Calls.mono HV.out ?_
    rintro e w1 ⟨rfl, hb1⟩
    have bx1 := HX1.out.still hb1
    have A0 : w1.cell? ⟨w.heap.size, 0, none⟩ = some (.string n) := bx1.cell 0 (by simp)
    have A1 : w1.cell? ⟨w.heap.size, 1, none⟩ = some (.string x) := bx1.cell 1 (by simp)
    have A2 : w1.cell? ⟨w.heap.size, 2, none⟩ = some (.bool lf) := bx1.cell 2 (by simp)
    have A3 : w1.cell? ⟨w.heap.size, 3, none⟩ = some (.slice a1 k.length cap1) := bx1.cell 3 (by simp)
    have HW1 := (show Hid (Below w.heap.size w w1 ∧ w.heap.size + 2 ≤ w1.heap.size ∧ Box w1 (w.heap.size + 1) 26 [.string ByteArray.empty, .string ByteArray.empty, .bool false, .slice none 0 0]) from ⟨bel_trans HB2.out hb1, (by have := hb1.size; rw [HZ2.out] at this; exact this), HX2.out.still hb1⟩)
    have A4 : (w1.alloc (.cells #[.string n, .string x, .bool lf, .slice none 0 0] 26)).cell? ⟨w.heap.size, 3, none⟩ = some (.slice a1 k.length cap1) := (bx1.still (bel_alloc _ _)).cell 3 (by simp)
    clear hb1 HV bx1 HB2 HZ2 HX1 HX2
    go_wp2_with fail
    go_loopw [34] (fun i wr => ∃ (j : Nat) (a' : Option Addr) (m' c' : Nat), j ≤ k.length ∧ i = .int .i64 j ∧ Hid (Below w1.heap.size w1 wr) ∧ Hid (Box4 wr w1.heap.size (.string n) (.string x) (.bool lf) (.slice a' m' c')) ∧ Hid (FGr (k.map (flT bl)) W0.heap.size (w1.heap.size + 1) j (.slice a' m' c') wr)) (fun i _ => k.length - (intOf i).toNat)
    case atStart => exact ⟨0, none, 0, 0, Nat.zero_le _, rfl, bel_alloc _ _, Box4.new w1 (.string n) (.string x) (.bool lf) (.slice none 0 0), FGr.nil _ _ (World.ownsRow_nil _ _ _ _)⟩
    case round =>
      obtain ⟨j, a', m', c', hj, rfl, HR, HB, HG⟩ := hrel
      clear A0 A1 A2 A3 A4
      by_cases hlt : j < k.length
      · have q1 : (j : Int) < (k.length : Int) := by omega
        have q0 : (0 : Int) ≤ (j : Int) := by omega
        have hbw : Below W0.heap.size W0 wr := HBL.out.trans ((HW1.out.1.mono hCw).trans (HR.out.mono (by have := HW1.out.2.1; omega)))
        have hwz : w1.heap.size + 1 ≤ wr.heap.size := by have := HB.out.lt; omega
        have hw1z := HW1.out.2.1
        obtain rfl := HA.out (by omega)
        obtain ⟨c0, c1, c2, c3⟩ := HC.out j hlt
        rw [← hbw.cell (lt_of_cell c0)] at c0
        rw [← hbw.cell (lt_of_cell c1)] at c1
        rw [← hbw.cell (lt_of_cell c2)] at c2
        rw [← hbw.cell (lt_of_cell c3)] at c3
        obtain ⟨a4, l4, p4, hsv⟩ := (HK.out j hlt).form
        have hcl := fun (wq : World) (hq : Below wr.heap.size wr wq) => HI.out j hlt (sv j) wq (HK.out j hlt) (hbw.trans (hq.mono (by omega))) (HHV.out j hlt) (HCN.out j hlt)
        rw [hsv] at c3
        simp only [hsv, Tr.val] at hcl
        unfold FlA at hcl
        have HNT := (show Hid (nth (k.map (flT bl)) j = flT bl k[j]) from nth_map bl hlt)
        generalize flT bl k[j] = T at *
        generalize k[j].name = kn at *
        generalize k[j].text = kx at *
        generalize k[j].leaf = kl at *
        have hba := bel_alloc wr (.cells #[.string kn, .string kx, .bool kl, .slice a4 l4 p4] 26)
        have hdr := hba.drew
        have HCL := (show Hid _ from hcl _ hdr)
        have HDR := (show Hid (Below wr.heap.size wr (wr.alloc (.cells #[.string kn, .string kx, .bool kl, .slice a4 l4 p4] 26)).drew) from hdr)
        have HSZ := (show Hid ((wr.alloc (.cells #[.string kn, .string kx, .bool kl, .slice a4 l4 p4] 26)).drew.heap.size = wr.heap.size + 1) from (by show _ = _; simp))
        obtain ⟨fs, hown, hls⟩ := HG.out
        have HF := (show Hid _ from (⟨hown, hls⟩ : _ ∧ _)); clear hown hls hcl hsv
        have HBA := (show Hid (Box4 (wr.alloc (.cells #[.string kn, .string kx, .bool kl, .slice a4 l4 p4] 26)) w1.heap.size (.string n) (.string x) (.bool lf) (.slice a' m' c')) from HB.out.still hba)
        have T3 := HBA.out.cells.2.2.2
        have f3 := HBA.out.frozen 3
        have hlen1 : j + 1 ≤ 1000 := by omega
        clear hba hdr HG
        go_wp2_with fail
        go_region_law (first
          | (refine step_append_lies _ rfl (.tmp 39) (.tmp 43) 24 rfl (w1.heap.size + 1) 26 i29 _ 4 64 Try.underlying24 hi29 hz0 hz1 hz2 rfl (by decide) _ j (kc (k.map (flT bl)) fs j) (by simp [Act.eval, Act.put]) HO2.out ⟨w2.heap.size, 0, none⟩ 1 1 [.string T.name, .string T.text, .bool T.leaf, .slice a2 l2 p2] (by simp [Act.eval, Act.put]) rfl (cell_four_box _ _ _ _ _ _) (by intro u hu; simp at hu; rcases hu with rfl | rfl | rfl | rfl <;> rfl) (by decide) (by unfold maxLen; omega) (by omega) (by simp; omega) _ rfl ?_; intro g3 cap3 w3 hown3 hgr3 hat3 hlt3; have B3 := (B1.still (bel_alloc _ _)).keep (hgr3.block _ (by simp; omega) (fun e => by have := (World.ownsRow.lt HF.out.1 _ e.symm).1; omega)); have V3 := B3.cells.2.2.2; have g3f := B3.frozen 3)
          | (go_simp; go_at_call 30; refine Calls.mono HCL.out ?_; rintro e w2 ⟨u1, rfl, hb1, hl1⟩; obtain ⟨a2, l2, p2, rfl⟩ := hl1.form; have hbA := bel_trans HDR.out hb1; have hs1 : wr.heap.size ≤ w2.heap.size := hbA.size; have B1 := HB.out.still hbA; have U3 := B1.cells.2.2.2; have U4 := (B1.still (bel_alloc w2 (.cells #[.string T.name, .string T.text, .bool T.leaf, .slice a2 l2 p2] 26))).cells.2.2.2; have HO2 := (show Hid _ from own_still (own_still HF.out.1 hbA) (bel_alloc w2 (.cells #[.string T.name, .string T.text, .bool T.leaf, .slice a2 l2 p2] 26)))))
        all_goals
          obtain ⟨hown, hls⟩ := HF.out
          have hl2 : Lies w2 (fun q => q < W0.heap.size ∨ wr.heap.size ≤ q) T (.slice a2 l2 p2) := hl1.mono (fun q hq => by have := HSZ.out; omega)
          have hG3 : FGr (k.map (flT bl)) W0.heap.size (w1.heap.size + 1) (j + 1) (.slice (some ⟨g3, 0, none⟩) (j + 1) cap3) w3 := by
            rw [← HNT.out] at hown3 hl2
            exact FGr.step hown hls (by omega) hwz (bel_trans hbA (bel_alloc _ _)) (hl2.still (bel_alloc _ _)) hown3 hgr3 hat3
          have hb3 := ((HR.out.trans ((bel_trans hbA (bel_alloc w2 (.cells #[.string T.name, .string T.text, .bool T.leaf, .slice a2 l2 p2] 26))).mono (by omega))).grown hgr3 (by simp; omega) (fun q hq => by
            have := (World.ownsRow.lt hown q hq).1
            omega)).setCell (p := ⟨w1.heap.size, 3, none⟩) (Nat.le_refl _) (.slice (some ⟨g3, 0, none⟩) (j + 1) cap3)
          have H3 := (show Hid _ from hG3.past (g := w1.heap.size) (o := 3) (x := .slice (some ⟨g3, 0, none⟩) (j + 1) cap3) (by omega) (by omega))
          have H4 := (show Hid _ from B3.set3 (.slice (some ⟨g3, 0, none⟩) (j + 1) cap3))
          have H5 := (show Hid _ from hb3)
          clear hG3 B3 hown3 hgr3 hat3 hl1 hl2 hown hls V3 U3 U4 B1 T3 f3 g3f hb3
          go_wp2_with fail
          exact ⟨⟨j + 1, _, _, _, by omega, by go_num, H5, H4, H3⟩, by simp [intOf]; omega⟩
      · have q1 : ¬ ((j : Int) < (k.length : Int)) := by omega
        have hje : j = k.length := by omega
        have hfin : Lies wr (fun q => q < W0.heap.size ∨ w1.heap.size + 1 ≤ q) ⟨n, x, lf, k.map (flT bl)⟩ (.slice a' m' c') := by
          refine FGr.done (n := n) (x := x) (le := lf) ?_ HX.out.1 HX.out.2
          rw [List.length_map, ← hje]
          exact HG.out
        have hw1z := HW1.out.2.1
        have bx2 := HW1.out.2.2.keep (HR.out.block (w.heap.size + 1) (by omega))
        have Z0 : wr.cell? ⟨w.heap.size + 1, 0, none⟩ = some (.string ByteArray.empty) := bx2.cell 0 (by simp)
        have Z1 : wr.cell? ⟨w.heap.size + 1, 1, none⟩ = some (.string ByteArray.empty) := bx2.cell 1 (by simp)
        have Z2 : wr.cell? ⟨w.heap.size + 1, 2, none⟩ = some (.bool false) := bx2.cell 2 (by simp)
        have Z3 : wr.cell? ⟨w.heap.size + 1, 3, none⟩ = some (.slice none 0 0) := bx2.cell 3 (by simp)
        have y0 : wr.frozen? ⟨w.heap.size + 1, 0, none⟩ = false := bx2.frozen 0
        have y1 : wr.frozen? ⟨w.heap.size + 1, 1, none⟩ = false := bx2.frozen 1
        have y2 : wr.frozen? ⟨w.heap.size + 1, 2, none⟩ = false := bx2.frozen 2
        have y3 : wr.frozen? ⟨w.heap.size + 1, 3, none⟩ = false := bx2.frozen 3
        obtain ⟨T0, T1, T2, T3⟩ := HB.out.cells
        have HBW := (show Hid (Below w.heap.size w wr) from HW1.out.1.trans (HR.out.mono (by omega)))
        have HF := (show Hid (Lies wr (fun q => q < W0.heap.size ∨ w1.heap.size + 1 ≤ q) ⟨n, x, lf, k.map (flT bl)⟩ (.slice a' m' c')) from hfin)
        clear hfin bx2 HG HR hje HB
        go_wp2_with fail
        refine bodyPost_ret (v := .agg #[.string n, .string x, .bool lf, .slice a' m' c']) (by simp [results, Try.results30, go_sem, Z0, Z1, Z2, Z3]) rfl ⟨_, rfl, ?_, ?_⟩
        · exact (((HBW.out.setCell (by simp) _).setCell (by simp) _).setCell (by simp) _).setCell (by simp) _
        · refine Lies.mono (S := fun q => q < W0.heap.size ∨ w1.heap.size + 1 ≤ q) (fun q hq => by omega) (Lies.keep (w := wr) (fun q hq => ?_) HF.out)
          have e2 : q ≠ w.heap.size + 1 := by omega
          exact (blk_setCell_other _ _ _ _ e2).trans ((blk_setCell_other _ _ _ _ e2).trans ((blk_setCell_other _ _ _ _ e2).trans (blk_setCell_other _ _ _ _ e2)))
  · rw [hvr, if_pos rfl] at hhv
    rw [hvr] at HV
    rw [if_pos rfl]
    obtain ⟨T, hT⟩ := Option.isSome_iff_exists.1 hhv
    rw [hT]
    dsimp only [Option.getD]
    have HLK := (show Hid (look bl x = some T) from hT)
    have HKS := (show Hid (KS W0 bl gb mb a cap) from hks)
    clear hT hhv hvr HI HK HC HA hks
    go_enter Try.func30, Try.ntmps30
    go_wp2_with fail
    refine Calls.mono HV.out ?_
    rintro e w1 ⟨rfl, hb1⟩
    have bx1 := HX1.out.still hb1
    have bx2 := HX2.out.still hb1
    have HW1 := (show Hid (Below w.heap.size w w1) from bel_trans HB2.out hb1)
    have hbw : Below W0.heap.size W0 w1 := HBL.out.trans (HW1.out.mono hCw)
    have hk1 := HKS.out.still hbw
    obtain ⟨m, bb, hmb, x1, x2, x3, rfl, hbt, hrun, d1, d2, d3, d4, dl⟩ := HKS.out.at HX.out.2 HLK.out
    have hbb : bb ≠ w.heap.size + 1 := by have : bb < W0.heap.size := lt_of_cell d1; omega
    rw [← hbw.cell (lt_of_cell d1)] at d1
    rw [← hbw.cell (lt_of_cell d2)] at d2
    rw [← hbw.cell (lt_of_cell d3)] at d3
    rw [← hbw.cell (lt_of_cell d4)] at d4
    have hmbb : w1.heap[mb]? = W0.heap[mb]? := hbw.block mb HKS.out.mn.lt
    have G0 : w1.cell? ⟨gb, 0, none⟩ = some (.map (some mb)) := hk1.bx.cell 0 (by simp)
    have G1 : w1.cell? ⟨gb, 1, none⟩ = some (.slice (some ⟨bb, 0, none⟩) bl.length cap) := hk1.bx.cell 1 (by simp)
    have A1 : w1.cell? ⟨w.heap.size, 1, none⟩ = some (.string x) := bx1.cell 1 (by simp)
    have Z0 : w1.cell? ⟨w.heap.size + 1, 0, none⟩ = some (.string ByteArray.empty) := bx2.cell 0 (by simp)
    have Z1 : w1.cell? ⟨w.heap.size + 1, 1, none⟩ = some (.string ByteArray.empty) := bx2.cell 1 (by simp)
    have Z2 : w1.cell? ⟨w.heap.size + 1, 2, none⟩ = some (.bool false) := bx2.cell 2 (by simp)
    have Z3 : w1.cell? ⟨w.heap.size + 1, 3, none⟩ = some (.slice none 0 0) := bx2.cell 3 (by simp)
    have y0 : w1.frozen? ⟨w.heap.size + 1, 0, none⟩ = false := bx2.frozen 0
    have y1 : w1.frozen? ⟨w.heap.size + 1, 1, none⟩ = false := bx2.frozen 1
    have y2 : w1.frozen? ⟨w.heap.size + 1, 2, none⟩ = false := bx2.frozen 2
    have y3 : w1.frozen? ⟨w.heap.size + 1, 3, none⟩ = false := bx2.frozen 3
    have HLY := (show Hid (Lies w1 (fun q => q < W0.heap.size) T (.slice x1 x2 x3)) from (dl.lt.keep (fun q hq => hbw.block q hq.2)).mono (fun q hq => hq.2))
    have hlen : bl.length ≤ 9223372036854775807 := by
      obtain ⟨_, _, _, _, _, h, _⟩ := HKS.out.rd
      exact h
    have i1 : (0 : Int) ≤ (m : Int) := by omega
    have i2 : (m : Int) < (bl.length : Int) := by omega
    have g1 : gb ≠ w.heap.size + 1 := by have := HKS.out.bx.lt; omega
    have g2 : mb ≠ w.heap.size + 1 := by have := HKS.out.mn.lt; omega
    have g3 : bb ≠ w.heap.size + 1 := hbb
    have hSQ : ∀ wq : World, (∀ q, q ≠ w.heap.size + 1 → wq.heap[q]? = w1.heap[q]?) → wq.cell? ⟨gb, 0, none⟩ = some (.map (some mb)) ∧ wq.cell? ⟨gb, 1, none⟩ = some (.slice (some ⟨bb, 0, none⟩) bl.length cap) ∧ wq.cell? ⟨w.heap.size, 1, none⟩ = some (.string x) ∧ wq.cell? ⟨bb, m * 5 + 1, none⟩ = some (.string T.name) ∧ wq.cell? ⟨bb, m * 5 + 2, none⟩ = some (.string T.text) ∧ wq.cell? ⟨bb, m * 5 + 3, none⟩ = some (.bool T.leaf) ∧ wq.cell? ⟨bb, m * 5 + 4, none⟩ = some (.slice x1 x2 x3) ∧ (Instr.lookup 52 (.map (some mb)) (.string x) false).run Try.prog wq = .ok (.int .i64 (m : Nat)) wq := fun wq h =>
      ⟨(World.cell?_of_block (w := w1) (h gb g1)).trans G0, (World.cell?_of_block (w := w1) (h gb g1)).trans G1, (World.cell?_of_block (w := w1) (h w.heap.size (by omega))).trans A1, (World.cell?_of_block (w := w1) (h bb g3)).trans d1, (World.cell?_of_block (w := w1) (h bb g3)).trans d2, (World.cell?_of_block (w := w1) (h bb g3)).trans d3, (World.cell?_of_block (w := w1) (h bb g3)).trans d4, hrun _ ((h mb g2).trans hmbb)⟩
    have hS0 := hSQ w1.drew (fun q _ => rfl)
    have hS1 := hSQ ((((w1.setCell ⟨w.heap.size + 1, 0, none⟩ (.string T.name)).setCell ⟨w.heap.size + 1, 1, none⟩ (.string T.text)).setCell ⟨w.heap.size + 1, 2, none⟩ (.bool T.leaf)).setCell ⟨w.heap.size + 1, 3, none⟩ (.slice x1 x2 x3)).drew (fun q e2 => (blk_setCell_other _ _ _ _ e2).trans ((blk_setCell_other _ _ _ _ e2).trans ((blk_setCell_other _ _ _ _ e2).trans (blk_setCell_other _ _ _ _ e2))))
    clear hb1 HV bx1 bx2 hk1 hrun dl G0 G1 A1 d1 d2 d3 d4 HLK hbt hmb hmbb HX1 HX2 hSQ g1 g2 g3 hbb
    go_wp2_with fail
    go_region_held3 (fun wq => wq.cell? ⟨gb, 0, none⟩ = some (.map (some mb)) ∧ wq.cell? ⟨gb, 1, none⟩ = some (.slice (some ⟨bb, 0, none⟩) bl.length cap) ∧ wq.cell? ⟨w.heap.size, 1, none⟩ = some (.string x) ∧ wq.cell? ⟨bb, m * 5 + 1, none⟩ = some (.string T.name) ∧ wq.cell? ⟨bb, m * 5 + 2, none⟩ = some (.string T.text) ∧ wq.cell? ⟨bb, m * 5 + 3, none⟩ = some (.bool T.leaf) ∧ wq.cell? ⟨bb, m * 5 + 4, none⟩ = some (.slice x1 x2 x3) ∧ (Instr.lookup 52 (.map (some mb)) (.string x) false).run Try.prog wq = .ok (.int .i64 (m : Nat)) wq) (first | with_reducible exact hS0 | with_reducible exact hS1) (fail)
    clear hS0 hS1
    go_wp2_with fail
    refine bodyPost_ret (v := .agg #[.string T.name, .string T.text, .bool T.leaf, .slice x1 x2 x3]) (by simp [results, Try.results30, go_sem, Z0, Z1, Z2, Z3]) rfl ⟨_, rfl, ?_, ?_⟩
    · exact ((((HW1.out.setCell (by simp) _).setCell (by simp) _).setCell (by simp) _).setCell (by simp) _).drew
    · refine Lies.mono (S := fun q => q < W0.heap.size) (fun q hq => .inl hq) (Lies.keep (w := w1) (fun q hq => ?_) HLY.out)
      have e2 : q ≠ w.heap.size + 1 := by omega
      exact (blk_setCell_other _ _ _ _ e2).trans ((blk_setCell_other _ _ _ _ e2).trans ((blk_setCell_other _ _ _ _ e2).trans (blk_setCell_other _ _ _ _ e2)))
end Go.Proofs.Ytbgoikaelmacbaa
