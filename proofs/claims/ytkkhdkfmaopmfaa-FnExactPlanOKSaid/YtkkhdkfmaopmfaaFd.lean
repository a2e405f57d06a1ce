import Derived.Test.YtkkhdkfmaopmfaaFc
import Derived.Test.YtkkhdkfmaopmfaaTk
import Derived.Test.YtkkhdkfmaopmfaaBq
import Derived.Test.YtkkhdkfmaopmfaaFh
/-! The program: bindingsOf. -/
namespace Go.Proofs.Ytkkhdkfmaopmfaa
open Go.RowKit Go.Deep Go.Maps Go.WideMaps Go.ChangeMaps Go.Lib
set_option linter.unusedVariables false
set_option maxRecDepth 100000
set_option linter.unusedSimpArgs false

/-- The names of binds, as keys. -/
def bks (bl : List (ByteArray × Tr)) : List Value := bl.map fun b => Value.string b.1
theorem bks_len (bl : List (ByteArray × Tr)) : (bks bl).length = bl.length := by simp [bks]
theorem bks_take {bl : List (ByteArray × Tr)} {j : Nat} (h : j < bl.length) : bks (bl.take (j + 1)) = bks (bl.take j) ++ [.string bl[j].1] := by
  unfold bks
  rw [List.take_succ_eq_append_getElem h, List.map_append]
  rfl
theorem bks_mem {bl : List (ByteArray × Tr)} {j : Nat} (hj : j < bl.length) : Value.string bl[j].1 ∈ bks (bl.take j) ↔ ((List.range j).all fun q => !eqS (nb bl q).1 (nb bl j).1) = false := by
  unfold bks
  rw [List.mem_map]
  constructor
  · rintro ⟨b, hb, e⟩
    injection e with e
    obtain ⟨i, hi, rfl⟩ := List.mem_iff_getElem.1 hb
    rw [List.length_take] at hi
    rw [List.getElem_take] at e
    cases h : ((List.range j).all fun q => !eqS (nb bl q).1 (nb bl j).1)
    · rfl
    · have := List.all_eq_true.1 h i (List.mem_range.2 (by omega))
      rw [nb_eq hj, nb_eq (show i < bl.length by omega), e, eqS_refl] at this
      cases this
  · intro h
    obtain ⟨q, hq, h2⟩ := List.all_eq_false.1 h
    have hq' : q < j := List.mem_range.1 hq
    have h3 : eqS (nb bl q).1 (nb bl j).1 = true := by simpa using h2
    rw [eqS_iff, nb_eq hj, nb_eq (show q < bl.length by omega)] at h3
    refine ⟨bl[q], List.mem_iff_getElem.2 ⟨q, by rw [List.length_take]; omega, by rw [List.getElem_take]⟩, by rw [h3]⟩
theorem bdJ_len (bl : List (ByteArray × Tr)) : ∀ j, j ≤ bl.length → bdJ bl j = true → j ≤ bwL (bl.take j)
  | 0, _, _ => Nat.zero_le _
  | j + 1, h, e => by
    rw [bdJ, Bool.and_eq_true] at e
    have h1 := bdJ_len bl j (by omega) e.1
    rw [bwL_take_succ bl j (by omega)]
    have h2 := e.2
    unfold oneB at h2
    rw [Bool.and_eq_true, nb_eq (show j < bl.length by omega)] at h2
    obtain ⟨h3, _⟩ := nmB_iff.1 h2.1
    omega
/-- What stands while bindingsOf goes through the binds. -/
structure BoI (w : World) (bl : List (ByteArray × Tr)) (bv : Value) (j : Nat) (wr : World) : Prop where
  bel : Below w.heap.size w wr
  bz : Box wr w.heap.size 67 [.map none, .slice none 0 0]
  bk : Box wr (w.heap.size + 1 + 1) 67 [.map (some (w.heap.size + 1)), bv]
  mn : Mn wr (w.heap.size + 1) 9 (bks (bl.take j))
theorem BoI.still {w wr w' : World} {bl : List (ByteArray × Tr)} {bv : Value} {j : Nat} (h : BoI w bl bv j wr) (hb : Below wr.heap.size wr w') : BoI w bl bv j w' :=
  ⟨bel_trans h.bel hb, h.bz.still hb, h.bk.still hb, h.mn.keep (hb.block _ h.mn.lt)⟩
theorem BoI.put {w wr w' : World} {bl : List (ByteArray × Tr)} {bv : Value} {j i : Nat} (h : BoI w bl bv j wr) (hk : K1 (w.heap.size + 1) wr w') (hm : Mn w' (w.heap.size + 1) 9 (bks (bl.take i))) : BoI w bl bv i w' :=
  ⟨⟨hk.os.trans h.bel.os, hk.tape.trans h.bel.tape, hk.output.trans h.bel.output, Nat.le_trans h.bel.size hk.size, fun q hq => (hk.block q (by have := h.bel.size; omega) (by omega)).trans (h.bel.block q hq)⟩,
    h.bz.keep (hk.block _ h.bz.lt (by omega)), h.bk.keep (hk.block _ h.bk.lt (by omega)), hm⟩
theorem BoI.start (w : World) (bl : List (ByteArray × Tr)) (a : Option Addr) (cap : Nat) : BoI w bl (.slice a bl.length cap) 0 (((w.alloc (.cells #[.map none, .slice none 0 0] 67)).alloc (.map #[] 0)).alloc (.cells #[.map (some (w.heap.size + 1)), .slice a bl.length cap] 67)) := by
  have s1 : (w.alloc (.cells #[.map none, .slice none 0 0] 67)).heap.size = w.heap.size + 1 := by simp
  have s2 : ((w.alloc (.cells #[.map none, .slice none 0 0] 67)).alloc (.map #[] 0)).heap.size = w.heap.size + 1 + 1 := by simp
  refine ⟨bel_trans (bel_trans (bel_alloc _ _) (bel_alloc _ _)) (bel_alloc _ _), ((Box.new w 67 [.map none, .slice none 0 0]).still (bel_alloc _ _)).still (bel_alloc _ _), ?_, ?_⟩
  · have h := Box.new ((w.alloc (.cells #[.map none, .slice none 0 0] 67)).alloc (.map #[] 0)) 67 [.map (some (w.heap.size + 1)), .slice a bl.length cap]
    rw [s2] at h
    exact h
  · have h := (Mn.new (w.alloc (.cells #[.map none, .slice none 0 0] 67)) 9).keep ((bel_alloc ((w.alloc (.cells #[.map none, .slice none 0 0] 67)).alloc (.map #[] 0)) (.cells #[.map (some (w.heap.size + 1)), .slice a bl.length cap] 67)).block (w.alloc (.cells #[.map none, .slice none 0 0] 67)).heap.size (by rw [s2, s1]; omega))
    rw [s1] at h
    exact h
/-- What bindingsOf leaves. -/
def BoA (bl : List (ByteArray × Tr)) (bv : Value) (w : World) (e : Ending) (w' : World) : Prop :=
  Below w.heap.size w w' ∧ (bdB bl = false → e = .returned (.tuple #[.agg #[.map none, .slice none 0 0], .bool false])) ∧
    (bdB bl = true → ∃ mb, e = .returned (.tuple #[.agg #[.map (some mb), bv], .bool true]) ∧ w.heap.size ≤ mb ∧ Mn w' mb 9 (bks bl))
set_option maxHeartbeats 3200000 in
theorem bindings52 (bl : List (ByteArray × Tr)) (a : Option Addr) (cap : Nat) (w : World) (h : BRd w bl (.slice a bl.length cap)) (hxs : ∀ i (hi : i < bl.length), bl[i].1.size ≤ maxLen) (hwt : bwt bl ≤ 1048576) :
    Calls Try.prog 52 #[.slice a bl.length cap] w (BoA bl (.slice a bl.length cap) w) := by
  obtain ⟨a', cap', b, sv, e, hm, ha, hcell, hk⟩ := h
  injection e with e1 e2 e3
  subst e1
  clear e2 e3
  have HD := (show Hid _ from (⟨ha, hcell, hk⟩ : _ ∧ _ ∧ _)); clear ha hcell hk
  have HX := (show Hid (∀ i (hi : i < bl.length), bl[i].1.size ≤ maxLen) from hxs); clear hxs
  have HLN := (show Hid (∀ j, j ≤ bl.length → bdJ bl j = true → j ≤ 524288) from fun j hj h => by
    have h1 := bdJ_len bl j hj h
    have h2 := bwL_take_le bl j
    unfold bwt at hwt
    omega)
  have hlen : bl.length ≤ 1048576 := by unfold bwt at hwt; omega
  clear hwt
  have HNO := (show Hid (∀ w' : World, bdB bl = false → Below w.heap.size w w' → BoA bl (.slice a bl.length cap) w (.returned (.tuple #[.agg #[.map none, .slice none 0 0], .bool false])) w') from fun w' h h1 => ⟨h1, fun _ => rfl, fun h2 => by rw [h] at h2; cases h2⟩)
  have HYS := (show Hid (∀ w' : World, bdB bl = true → Below w.heap.size w w' → Mn w' (w.heap.size + 1) 9 (bks bl) → BoA bl (.slice a bl.length cap) w (.returned (.tuple #[.agg #[.map (some (w.heap.size + 1)), .slice a bl.length cap], .bool true])) w') from fun w' h h1 h2 => ⟨h1, fun h3 => (by rw [h] at h3; cases h3), fun _ => ⟨_, rfl, by omega, h2⟩⟩)
  have HBD := (show Hid (bdB bl = bdJ bl bl.length) from rfl)
  have HST := (show Hid _ from BoI.start w bl a cap)
  generalize hBD : bdB bl = D at *
  clear hBD
  have hmk := fun w => run_makeMap (P := Try.prog) 65 w
  go_enter Try.func52, Try.ntmps52
  go_wp2_with fail
  go_loopw [12] (fun i wr => ∃ j : Nat, i = .int .i64 j ∧ j ≤ bl.length ∧ Hid (bdJ bl j = true) ∧ Hid (BoI w bl (.slice a bl.length cap) j wr)) (fun i _ => bl.length - (intOf i).toNat)
  case atStart => exact ⟨0, rfl, Nat.zero_le _, (rfl : bdJ bl 0 = true), HST.out⟩
  case round =>
    obtain ⟨j, rfl, hj, HJ, HI⟩ := hrel
    clear HST
    by_cases hlt : j < bl.length
    · have q1 : (j : Int) < (bl.length : Int) := by omega
      have q0 : (0 : Int) ≤ (j : Int) := by omega
      obtain rfl := HD.out.1 (by omega)
      obtain ⟨c0, c1, c2, c3, c4⟩ := HD.out.2.1 j hlt
      have hbel := HI.out.bel
      have hlj := (HD.out.2.2 j hlt).still hbel
      obtain ⟨a4, l4, p4, e4⟩ := hlj.form
      rw [e4] at c4 hlj
      rw [← hbel.cell (lt_of_cell c0)] at c0
      rw [← hbel.cell (lt_of_cell c1)] at c1
      rw [← hbel.cell (lt_of_cell c2)] at c2
      rw [← hbel.cell (lt_of_cell c3)] at c3
      rw [← hbel.cell (lt_of_cell c4)] at c4
      have HN := (show Hid (∀ wq : World, Calls Try.prog 73 #[.string bl[j].1] wq fun e w' => e = .returned (.bool (nmB bl[j].1)) ∧ w' = wq) from fun wq => iName _ (HX.out j hlt) wq)
      have HO := (show Hid (Calls Try.prog 38 #[.agg #[.string bl[j].2.name, .string bl[j].2.text, .bool bl[j].2.leaf, .slice a4 l4 p4]] (wr.alloc (.cells #[.string bl[j].1, .string bl[j].2.name, .string bl[j].2.text, .bool bl[j].2.leaf, .slice a4 l4 p4] 62)) fun e w' => e = .returned (.bool bl[j].2.ok) ∧ Below (wr.alloc (.cells #[.string bl[j].1, .string bl[j].2.name, .string bl[j].2.text, .bool bl[j].2.leaf, .slice a4 l4 p4] 62)).heap.size (wr.alloc (.cells #[.string bl[j].1, .string bl[j].2.name, .string bl[j].2.text, .bool bl[j].2.leaf, .slice a4 l4 p4] 62)) w') from iOK_any bl[j].2 _ _ (hlj.still (bel_alloc _ _)))
      have HON := (show Hid (oneB bl j = (nmB bl[j].1 && (bl[j].2.ok && (List.range j).all fun i => !eqS (nb bl i).1 (nb bl j).1))) from (by show _ = _; unfold oneB; rw [nb_eq hlt]))
      have HNX := (show Hid (oneB bl j = false → D = false) from fun h => by
        rw [HBD.out]
        exact bdJ_false bl bl.length (i := j + 1) (by omega) (by rw [bdJ, h]; simp))
      have HNY := (show Hid (oneB bl j = true → bdJ bl (j + 1) = true) from fun h => by rw [bdJ, h, HJ.out]; rfl)
      have HMM := (show Hid (Value.string bl[j].1 ∈ bks (bl.take j) ↔ ((List.range j).all fun q => !eqS (nb bl q).1 (nb bl j).1) = false) from bks_mem hlt)
      have HKT := (show Hid (bks (bl.take (j + 1)) = bks (bl.take j) ++ [.string bl[j].1]) from bks_take hlt)
      have hkl : (bks (bl.take j)).length = j := by rw [bks_len, List.length_take]; omega
      have HKL := (show Hid _ from hkl)
      have hj5 := HLN.out j hj HJ.out
      have HNU := (show Hid (∀ wq : World, Mn wq (w.heap.size + 1) 9 (bks (bl.take j)) → Calls Try.prog 81 #[.map (some (w.heap.size + 1)), .string bl[j].1] wq (NoR (w.heap.size + 1) 9 (bks (bl.take j)) (.string bl[j].1) wq)) from fun wq h => number81 _ _ _ _ wq (keyOf_string_mk (P := Try.prog) Try.underlying9 (HX.out j hlt)) h (by rw [hkl]; omega))
      have HBX := (show Hid (Box (wr.alloc (.cells #[.string bl[j].1, .string bl[j].2.name, .string bl[j].2.text, .bool bl[j].2.leaf, .slice a4 l4 p4] 62)) wr.heap.size 62 [.string bl[j].1, .string bl[j].2.name, .string bl[j].2.text, .bool bl[j].2.leaf, .slice a4 l4 p4]) from Box.new wr 62 _)
      clear hlj hbel hkl e4 hj5 HJ
      unfold NoR at HNU
      generalize bl[j].1 = x0 at *
      generalize bl[j].2.name = x1 at *
      generalize bl[j].2.text = x2 at *
      generalize bl[j].2.leaf = x3 at *
      generalize bl[j].2.ok = ok at *
      generalize hAL : ((List.range j).all fun q => !eqS (nb bl q).1 (nb bl j).1) = al at *
      generalize hOB : oneB bl j = ob at *
      clear hAL hOB
      have HI1 := (show Hid (BoI w bl (.slice (some ⟨b, 0, none⟩) bl.length cap) j (wr.alloc (.cells #[.string x0, .string x1, .string x2, .bool x3, .slice a4 l4 p4] 62))) from HI.out.still (bel_alloc _ _))
      cases hnm : nmB x0
      · rw [hnm] at HN HON
        have HF := (show Hid (D = false) from HNX.out (by rw [HON.out]; rfl))
        obtain ⟨hbw, bz, _, _⟩ := HI1.out
        have Z0 : (wr.alloc (.cells #[.string x0, .string x1, .string x2, .bool x3, .slice a4 l4 p4] 62)).cell? ⟨w.heap.size, 0, none⟩ = some (.map none) := bz.cell 0 (by simp)
        have Z1 : (wr.alloc (.cells #[.string x0, .string x1, .string x2, .bool x3, .slice a4 l4 p4] 62)).cell? ⟨w.heap.size, 1, none⟩ = some (.slice none 0 0) := bz.cell 1 (by simp)
        have y0 : (wr.alloc (.cells #[.string x0, .string x1, .string x2, .bool x3, .slice a4 l4 p4] 62)).frozen? ⟨w.heap.size, 0, none⟩ = false := bz.frozen 0
        have y1 : (wr.alloc (.cells #[.string x0, .string x1, .string x2, .bool x3, .slice a4 l4 p4] 62)).frozen? ⟨w.heap.size, 1, none⟩ = false := bz.frozen 1
        have HBW := (show Hid _ from hbw)
        clear hbw bz hnm HON HNX HNY HMM HKT HKL HNU HO HI HI1 HBX
        go_wp2_with fail
        refine Calls.mono (HN.out _) ?_
        rintro e w2 ⟨rfl, rfl⟩
        go_wp2_with fail
        refine bodyPost_ret (v := .tuple #[.agg #[.map none, .slice none 0 0], .bool false]) (by simp [results, Try.results52, go_sem, Z0, Z1]) rfl (HNO.out _ HF.out ?_)
        exact (HBW.out.setCell (by simp) _).setCell (by simp) _
      rw [hnm] at HN HON
      cases ok
      · have HF := (show Hid (D = false) from HNX.out (by rw [HON.out]; rfl))
        clear hnm HON HNX HNY HMM HKT HKL HNU
        go_wp2_with fail
        refine Calls.mono (HN.out _) ?_
        rintro e w2 ⟨rfl, rfl⟩
        go_wp2_with fail
        refine Calls.mono HO.out ?_
        rintro e w3 ⟨rfl, hb3⟩
        obtain ⟨hbw, bz, _, _⟩ := HI1.out.still hb3
        have Z0 : w3.cell? ⟨w.heap.size, 0, none⟩ = some (.map none) := bz.cell 0 (by simp)
        have Z1 : w3.cell? ⟨w.heap.size, 1, none⟩ = some (.slice none 0 0) := bz.cell 1 (by simp)
        have y0 : w3.frozen? ⟨w.heap.size, 0, none⟩ = false := bz.frozen 0
        have y1 : w3.frozen? ⟨w.heap.size, 1, none⟩ = false := bz.frozen 1
        have HBW := (show Hid _ from hbw)
        clear hbw bz hb3 HO HI HI1 HBX c0 c1 c2 c3 c4
        go_wp2_with fail
        refine bodyPost_ret (v := .tuple #[.agg #[.map none, .slice none 0 0], .bool false]) (by simp [results, Try.results52, go_sem, Z0, Z1]) rfl (HNO.out _ HF.out ?_)
        exact (HBW.out.setCell (by simp) _).setCell (by simp) _
      clear hnm
      go_wp2_with fail
      refine Calls.mono (HN.out _) ?_
      rintro e w2 ⟨rfl, rfl⟩
      go_wp2_with fail
      refine Calls.mono HO.out ?_
      rintro e w3 ⟨rfl, hb3⟩
      have hi3 := HI1.out.still hb3
      have hbx3 := HBX.out.still hb3
      have X0 : w3.cell? ⟨wr.heap.size, 0, none⟩ = some (.string x0) := hbx3.cell 0 (by simp)
      have K0 : w3.cell? ⟨w.heap.size + 1 + 1, 0, none⟩ = some (.map (some (w.heap.size + 1))) := hi3.bk.cell 0 (by simp)
      have HC4 := (show Hid _ from HNU.out w3 hi3.mn)
      have HI3 := (show Hid (BoI w bl (.slice (some ⟨b, 0, none⟩) bl.length cap) j w3) from hi3)
      clear hb3 HO HI HI1 HBX c0 c1 c2 c3 c4 hi3 hbx3 HNU
      go_wp2_with fail
      refine Calls.mono HC4.out ?_
      rintro e w4 ⟨n, rfl, hk4, hor⟩
      cases al
      · have HF := (show Hid (D = false) from HNX.out (by rw [HON.out]; rfl))
        have hmem := HMM.out.2 rfl
        obtain ⟨hn, hmn⟩ : n < j ∧ Mn w4 (w.heap.size + 1) 9 (bks (bl.take j)) := by
          rcases hor with ⟨h1, h2⟩ | ⟨h1, _⟩
          · have := (List.getElem?_eq_some_iff.1 h1).1
            rw [HKL.out] at this
            exact ⟨this, h2⟩
          · exact absurd hmem h1
        have hij : ((n : Int) != (j : Int)) = true := by simp; omega
        obtain ⟨hbw, bz, _, _⟩ := HI3.out.put hk4 hmn
        have Z0 : w4.cell? ⟨w.heap.size, 0, none⟩ = some (.map none) := bz.cell 0 (by simp)
        have Z1 : w4.cell? ⟨w.heap.size, 1, none⟩ = some (.slice none 0 0) := bz.cell 1 (by simp)
        have y0 : w4.frozen? ⟨w.heap.size, 0, none⟩ = false := bz.frozen 0
        have y1 : w4.frozen? ⟨w.heap.size, 1, none⟩ = false := bz.frozen 1
        have HBW := (show Hid _ from hbw)
        clear hbw bz hmem hor hk4 hmn hn HC4 HI3 HON HNX HNY HMM HKT HKL X0 K0
        go_wp2_with fail
        refine bodyPost_ret (v := .tuple #[.agg #[.map none, .slice none 0 0], .bool false]) (by simp [results, Try.results52, go_sem, Z0, Z1]) rfl (HNO.out _ HF.out ?_)
        exact (HBW.out.setCell (by simp) _).setCell (by simp) _
      · have HBN := (show Hid _ from HNY.out (by rw [HON.out]; rfl))
        obtain ⟨hn, hmn⟩ : n = j ∧ Mn w4 (w.heap.size + 1) 9 (bks (bl.take (j + 1))) := by
          rcases hor with ⟨h1, h2⟩ | ⟨_, h1, h2⟩
          · have := HMM.out.1 (List.mem_of_getElem? h1)
            cases this
          · rw [HKL.out] at h1
            rw [HKT.out]
            exact ⟨h1, h2⟩
        have hij : ((n : Int) != (j : Int)) = false := by simp; omega
        have HI4 := (show Hid (BoI w bl (.slice (some ⟨b, 0, none⟩) bl.length cap) (j + 1) w4) from HI3.out.put hk4 hmn)
        clear hor hk4 hmn hn HC4 HI3 HON HNX HNY HMM HKT HKL X0 K0
        go_wp2_with fail
        exact ⟨⟨j + 1, by go_num, by omega, HBN, HI4⟩, by simp [intOf]; omega⟩
    · have q1 : ¬ ((j : Int) < (bl.length : Int)) := by omega
      have hje : j = bl.length := by omega
      have HF := (show Hid (D = true) from (by show D = true; rw [HBD.out, ← hje]; exact HJ.out))
      obtain ⟨hbw, bz, bk, hmn⟩ := HI.out
      rw [hje, List.take_length] at hmn
      have Z0 : wr.cell? ⟨w.heap.size, 0, none⟩ = some (.map none) := bz.cell 0 (by simp)
      have Z1 : wr.cell? ⟨w.heap.size, 1, none⟩ = some (.slice none 0 0) := bz.cell 1 (by simp)
      have y0 : wr.frozen? ⟨w.heap.size, 0, none⟩ = false := bz.frozen 0
      have y1 : wr.frozen? ⟨w.heap.size, 1, none⟩ = false := bz.frozen 1
      have K0 : wr.cell? ⟨w.heap.size + 1 + 1, 0, none⟩ = some (.map (some (w.heap.size + 1))) := bk.cell 0 (by simp)
      have K1' : wr.cell? ⟨w.heap.size + 1 + 1, 1, none⟩ = some (.slice a bl.length cap) := bk.cell 1 (by simp)
      have HBW := (show Hid (Below w.heap.size w wr ∧ Mn wr (w.heap.size + 1) 9 (bks bl)) from ⟨hbw, hmn⟩)
      clear hbw bz bk hmn HI HJ hje
      go_wp2_with fail
      refine bodyPost_ret (v := .tuple #[.agg #[.map (some (w.heap.size + 1)), .slice a bl.length cap], .bool true]) (by simp [results, Try.results52, go_sem, Z0, Z1]) rfl (HYS.out _ HF.out ?_ ?_)
      · exact (HBW.out.1.setCell (by simp) _).setCell (by simp) _
      · exact HBW.out.2.keep ((blk_setCell_other _ _ _ _ (by show w.heap.size + 1 ≠ w.heap.size; omega)).trans (blk_setCell_other _ _ _ _ (by show w.heap.size + 1 ≠ w.heap.size; omega)))
end Go.Proofs.Ytkkhdkfmaopmfaa
