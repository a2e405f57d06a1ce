import Derived.Test.YtaimlmjgicmbeaaYb
import Derived.Lib.BufferMore
import Derived.Test.YtaimlmjgicmbeaaWv
import Derived.Test.YtaimlmjgicmbeaaYg
/-! The program: clones, and rows turned round. -/
namespace Go.Proofs.Ytaimlmjgicmbeaa
open Go.RowKit Go.Deep
set_option linter.unusedVariables false
set_option maxRecDepth 100000
set_option linter.unusedSimpArgs false

theorem info66x : (Try.prog.info? 66).map (fun i => (i.zero, i.size, i.bytes)) = some (some (.agg #[.int .i64 0, .slice none 0 0, .string ByteArray.empty, .int .i64 0, .int .i64 0]), 5, 64) := by kernel_rfl
theorem addX (b off j : Nat) : (⟨b, off, none⟩ : Addr).add j = ⟨b, off + j, none⟩ := by cases j <;> simp [Addr.add]
theorem grown_belX {w w0 w' : World} {o : Option Nat} (hb : Below w.heap.size w w0) (hg : w0.grownBy w' o) (ho : ∀ k, o = some k → w.heap.size ≤ k) : Below w.heap.size w w' := by
  refine ⟨hg.os.trans hb.os, hg.tape.trans hb.tape, hg.output.trans hb.output, Nat.le_trans hb.size hg.size, fun k hk => ?_⟩
  refine (hg.block k (Nat.lt_of_lt_of_le hk hb.size) (fun e => ?_)).trans (hb.block k hk)
  have := ho k e.symm
  omega
theorem own_someX {w : World} {B e z n : Nat} {v : Value} {xs : List Value} (h : w.ownsRow B e z v n xs) (h0 : 0 < n) : ∃ g c, v = .slice (some ⟨g, 0, none⟩) n c := by
  rcases h.2 with ⟨rfl, e⟩ | ⟨g, cp, cur, r1, _⟩
  · omega
  · exact ⟨g, cp, r1⟩
set_option maxHeartbeats 1600000 in
/-- The clone of numbers. -/
theorem clone55 {S : Nat → Prop} (l : List Int) (v : Value) (w : World) (h : Ints w S l v) (hl : l.length ≤ 1048576) :
    Calls Try.prog 55 #[v] w fun e w' => ∃ u, e = .returned u ∧ Below w.heap.size w w' ∧ w'.ownsRow w.heap.size 3 1 u l.length (iv l) := by
  obtain ⟨i3, hi3, hzz⟩ := Option.map_eq_some_iff.1 info3y
  simp only [Prod.mk.injEq] at hzz
  obtain ⟨hz0, hz1, hz2⟩ := hzz
  obtain ⟨a, cap, b, off, rfl, hc, hm, ha, hcell⟩ := h
  have hb0 := bel_alloc w (.cells #[] 3)
  have HO : Hid ((w.alloc (.cells #[] 3)).ownsRow w.heap.size 3 1 (.slice (some ⟨w.heap.size, 0, none⟩) 0 0) 0 []) := World.ownsRow_lit (base := w.heap.size) (e := 3) (size := 1) w #[] 0 (Nat.le_refl _) (Nat.zero_le _) rfl
  have HB0 := (show Hid _ from hb0)
  cases a with
  | none =>
    obtain rfl : l = [] := by
      apply List.eq_nil_of_length_eq_zero
      apply Decidable.byContradiction
      intro h0
      have := (ha (by omega)).1
      cases this
    have hnil : ∀ W, (binOp .eql 27 (.slice none 0 cap) (.slice none 0 0)).run Try.prog W = .ok (.bool true) W := fun W => Lib.run_eql_slice_nil_nil W _ _ Try.underlying27
    clear ha hcell hb0
    rw [List.length_nil]
    go_enter Try.func55, Try.ntmps55
    go_wp2_with fail
    go_ret
    exact ⟨_, rfl, Below.refl _ _, rfl, .inl ⟨rfl, rfl⟩⟩
  | some ad =>
    have HNW : Hid (∀ j u, (iv l)[j]? = some u → (w.alloc (.cells #[] 3)).cell? (ad.add j) = some u) := fun j u hu => by
      have hj : j < l.length := by
        have := (List.getElem?_eq_some_iff.1 hu).1
        simpa using this
      have e := (ha (by omega)).1
      injection e with e
      rw [e, addX]
      simp [hj] at hu
      rw [← hu]
      exact (hb0.cell (lt_of_cell (hcell j hj))).trans (hcell j hj)
    have HON : Hid (∀ u ∈ iv l, u.oneCell' = true) := fun u hu => by
      obtain ⟨x, _, rfl⟩ := List.mem_map.1 hu
      rfl
    have HLN := (show Hid _ from iv_len l)
    have hnil : ∀ W, (binOp .eql 27 (.slice (some ad) l.length cap) (.slice none 0 0)).run Try.prog W = .ok (.bool false) W := fun W => Lib.run_eql_slice_some_nil W _ _ _ Try.underlying27
    clear ha hcell hb0
    go_enter Try.func55, Try.ntmps55
    go_wp2_with (at_builtin; refine wpList_append_own_at _ rfl (.tmp 5) (.tmp 6) 27 rfl w.heap.size 3 i3 _ 1 8 Try.underlying27 hi3 hz0 hz1 hz2 rfl (by decide) _ 0 [] rfl HO.out ad l.length cap (iv l) rfl (by simp) HNW.out HON.out ?c3 (by omega) ?c4 ?nx)
    case c3 => unfold maxLen; omega
    case c4 => simp
    case nx =>
      intro v' w1 hown hgr hnil' hat
      have HY := (show Hid _ from (⟨hown, grown_belX HB0.out hgr (fun k hk => Nat.le_of_eq (by simpa [Value.ownBlock] using hk))⟩ : _ ∧ _))
      clear hown hgr hnil' hat
      go_wp2_with fail
      go_ret
      exact ⟨_, rfl, HY.out.2, by simpa using HY.out.1⟩
/-- A Prod's cells. -/
def pcv (l : List Pd) (sv : Nat → Value) (i k : Nat) : Value :=
  if k = 0 then .int .i64 (l.getD i ⟨0, [], ByteArray.empty, 0, 0⟩).left else if k = 1 then sv i else if k = 2 then .string (l.getD i ⟨0, [], ByteArray.empty, 0, 0⟩).label else if k = 3 then .int .i64 (l.getD i ⟨0, [], ByteArray.empty, 0, 0⟩).lev else .int .i64 (l.getD i ⟨0, [], ByteArray.empty, 0, 0⟩).asc
def pvs (l : List Pd) (sv : Nat → Value) : List Value := (List.range (l.length * 5)).map (fun j => pcv l sv (j / 5) (j % 5))
theorem pvs_len (l : List Pd) (sv : Nat → Value) : (pvs l sv).length = l.length * 5 := by simp [pvs]
set_option maxHeartbeats 1600000 in
/-- The clone of Prods: the Rights lie where they lay. -/
theorem clone54 (l : List Pd) (a : Option Addr) (cap b off : Nat) (sv : Nat → Value) (w : World) (hc : l.length ≤ cap) (hm : cap ≤ maxLen) (ha : 0 < l.length → a = some ⟨b, off, none⟩)
    (hcell : ∀ i (hi : i < l.length), w.cell? ⟨b, off + i * 5, none⟩ = some (.int .i64 l[i].left) ∧ w.cell? ⟨b, off + i * 5 + 1, none⟩ = some (sv i) ∧ w.cell? ⟨b, off + i * 5 + 2, none⟩ = some (.string l[i].label) ∧ w.cell? ⟨b, off + i * 5 + 3, none⟩ = some (.int .i64 l[i].lev) ∧ w.cell? ⟨b, off + i * 5 + 4, none⟩ = some (.int .i64 l[i].asc))
    (hsv : ∀ i, i < l.length → (sv i).oneCell' = true) (hl : l.length ≤ 1048576) :
    Calls Try.prog 54 #[.slice a l.length cap] w fun e w' => ∃ u, e = .returned u ∧ Below w.heap.size w w' ∧ w'.ownsRow w.heap.size 66 5 u l.length (pvs l sv) := by
  obtain ⟨i3, hi3, hzz⟩ := Option.map_eq_some_iff.1 info66x
  simp only [Prod.mk.injEq] at hzz
  obtain ⟨hz0, hz1, hz2⟩ := hzz
  have hb0 := bel_alloc w (.cells #[] 66)
  have HO : Hid ((w.alloc (.cells #[] 66)).ownsRow w.heap.size 66 5 (.slice (some ⟨w.heap.size, 0, none⟩) 0 0) 0 []) := World.ownsRow_lit (base := w.heap.size) (e := 66) (size := 5) w #[] 0 (Nat.le_refl _) (Nat.zero_le _) rfl
  have HB0 := (show Hid _ from hb0)
  cases a with
  | none =>
    obtain rfl : l = [] := by
      apply List.eq_nil_of_length_eq_zero
      apply Decidable.byContradiction
      intro h0
      have := ha (by omega)
      cases this
    have hnil : ∀ W, (binOp .eql 32 (.slice none 0 cap) (.slice none 0 0)).run Try.prog W = .ok (.bool true) W := fun W => Lib.run_eql_slice_nil_nil W _ _ Try.underlying32
    clear ha hcell hb0
    rw [List.length_nil]
    go_enter Try.func54, Try.ntmps54
    go_wp2_with fail
    go_ret
    exact ⟨_, rfl, Below.refl _ _, rfl, .inl ⟨rfl, rfl⟩⟩
  | some ad =>
    have HNW : Hid (∀ j u, (pvs l sv)[j]? = some u → (w.alloc (.cells #[] 66)).cell? (ad.add j) = some u) := fun j u hu => by
      have hj : j < l.length * 5 := by
        have := (List.getElem?_eq_some_iff.1 hu).1
        rw [pvs_len] at this
        exact this
      have hi : j / 5 < l.length := by omega
      have e := ha (by omega)
      injection e with e
      rw [e, addX]
      have hu2 : pcv l sv (j / 5) (j % 5) = u := by simpa [pvs, hj] using hu
      rw [← hu2]
      obtain ⟨c0, c1, c2, c3, c4⟩ := hcell (j / 5) hi
      have hd : l.getD (j / 5) ⟨0, [], ByteArray.empty, 0, 0⟩ = l[j / 5] := getD_lt _ _ hi
      have hr : j % 5 = 0 ∨ j % 5 = 1 ∨ j % 5 = 2 ∨ j % 5 = 3 ∨ j % 5 = 4 := by omega
      unfold pcv
      rw [hd]
      rcases hr with h5 | h5 | h5 | h5 | h5
      · rw [h5, show off + j = off + j / 5 * 5 by omega]; exact (hb0.cell (lt_of_cell c0)).trans c0
      · rw [h5, show off + j = off + j / 5 * 5 + 1 by omega]; exact (hb0.cell (lt_of_cell c1)).trans c1
      · rw [h5, show off + j = off + j / 5 * 5 + 2 by omega]; exact (hb0.cell (lt_of_cell c2)).trans c2
      · rw [h5, show off + j = off + j / 5 * 5 + 3 by omega]; exact (hb0.cell (lt_of_cell c3)).trans c3
      · rw [h5, show off + j = off + j / 5 * 5 + 4 by omega]; exact (hb0.cell (lt_of_cell c4)).trans c4
    have HON : Hid (∀ u ∈ pvs l sv, u.oneCell' = true) := fun u hu => by
      obtain ⟨j, hj, rfl⟩ := List.mem_map.1 hu
      have hj : j < l.length * 5 := by simpa using hj
      have hs := hsv (j / 5) (by omega)
      unfold pcv
      repeat' split
      all_goals first | exact hs | rfl
    have HLN := (show Hid _ from pvs_len l sv)
    have hnil : ∀ W, (binOp .eql 32 (.slice (some ad) l.length cap) (.slice none 0 0)).run Try.prog W = .ok (.bool false) W := fun W => Lib.run_eql_slice_some_nil W _ _ _ Try.underlying32
    generalize pvs l sv = XS at *
    clear ha hcell hb0 hsv
    go_enter Try.func54, Try.ntmps54
    go_wp2_with (at_builtin; refine wpList_append_own_at _ rfl (.tmp 5) (.tmp 6) 32 rfl w.heap.size 66 i3 _ 5 64 Try.underlying32 hi3 hz0 hz1 hz2 rfl (by decide) _ 0 [] rfl HO.out ad l.length cap XS rfl HLN.out HNW.out HON.out ?c3 (by omega) ?c4 ?nx)
    case c3 => unfold maxLen; omega
    case c4 => simp
    case nx =>
      intro v' w1 hown hgr hnil' hat
      have HY := (show Hid _ from (⟨hown, grown_belX HB0.out hgr (fun k hk => Nat.le_of_eq (by simpa [Value.ownBlock] using hk))⟩ : _ ∧ _))
      clear hown hgr hnil' hat
      go_wp2_with fail
      go_ret
      exact ⟨_, rfl, HY.out.2, by simpa using HY.out.1⟩
/-- All but one block is as it was. -/
structure But (b : Nat) (w w' : World) : Prop where
  os : w'.os = w.os
  tape : w'.tape = w.tape
  output : w'.output = w.output
  size : w'.heap.size = w.heap.size
  block : ∀ k, k < w.heap.size → k ≠ b → w'.heap[k]? = w.heap[k]?
theorem But.refl (b : Nat) (w : World) : But b w w := ⟨rfl, rfl, rfl, rfl, fun _ _ _ => rfl⟩
theorem But.below {b B : Nat} {w w0 w' : World} (h : But b w w') (hb : Below B w0 w) (hB : B ≤ b) (hz : B ≤ w.heap.size) : Below B w0 w' :=
  ⟨h.os.trans hb.os, h.tape.trans hb.tape, h.output.trans hb.output, by rw [h.size]; exact hb.size, fun k hk => (h.block k (by omega) (by omega)).trans (hb.block k hk)⟩
theorem But.set {b : Nat} {w w' : World} (h : But b w w') (o : Nat) (v : Value) : But b w (w'.setCell ⟨b, o, none⟩ v) :=
  ⟨h.os, h.tape, h.output, by simpa using h.size, fun k hk hne => (blk_setCell_other _ _ _ _ (by show k ≠ b; exact hne)).trans (h.block k hk hne)⟩
/-- Turned round as far as so many from both ends. -/
def rvL (l : List Int) (i : Nat) : List Int := (List.range l.length).map (fun k => if k < i ∨ l.length ≤ k + i then l.getD (l.length - 1 - k) 0 else l.getD k 0)
theorem rvL_len (l : List Int) (i : Nat) : (rvL l i).length = l.length := by simp [rvL]
theorem rvL_get (l : List Int) (i k : Nat) (h : k < (rvL l i).length) : (rvL l i)[k] = if k < i ∨ l.length ≤ k + i then l.getD (l.length - 1 - k) 0 else l.getD k 0 := by
  simp [rvL]
theorem rvL_zero (l : List Int) : rvL l 0 = l := by
  apply List.ext_getElem (rvL_len l 0)
  intro k h1 h2
  rw [rvL_get, if_neg (by omega), getD_lt _ _ h2]
theorem rvL_end (l : List Int) (i : Nat) (h : l.length ≤ i + i + 1) : rvL l i = l.reverse := by
  apply List.ext_getElem (by rw [rvL_len, List.length_reverse])
  intro k h1 h2
  rw [List.length_reverse] at h2
  rw [rvL_get, List.getElem_reverse]
  split
  · rw [getD_lt _ _ (by omega)]
  · have e : l.length - 1 - k = k := by omega
    rw [getD_lt _ _ h2]
    simp only [e]
theorem OwnI.set {w : World} {b : Nat} {l m : List Int} {v : Value} {i : Nat} {x : Int} (h : OwnI w b l v) (hi : i < l.length) (hm : m = l.set i x) : OwnI (w.setCell ⟨b, i, none⟩ (.int .i64 x)) b m v := by
  subst hm
  obtain ⟨a, cap, f, hv, hc, hm, ha, hf⟩ := h
  refine ⟨a, cap, fun j => if j = i then .int .i64 x else f j, by rw [hv, List.length_set], by rw [List.length_set]; exact hc, hm, fun h0 => ?_, fun j hj => ?_⟩
  · rw [List.length_set] at h0
    exact ⟨(ha h0).1, (ha h0).2.set i _⟩
  · rw [List.length_set] at hj
    rw [List.getElem_set]
    by_cases e : j = i
    · simp [e]
    · simp [e, Ne.symm e, hf j hj]
theorem OwnI.cell {w : World} {b : Nat} {l : List Int} {v : Value} (h : OwnI w b l v) {i : Nat} (hi : i < l.length) : w.cell? ⟨b, i, none⟩ = some (.int .i64 l[i]) := by
  obtain ⟨a, cap, f, hv, hc, hm, ha, hf⟩ := h
  rw [(ha (by omega)).2.cell (by omega), hf i hi]
theorem OwnI.frozen {w : World} {b : Nat} {l : List Int} {v : Value} (h : OwnI w b l v) (h0 : 0 < l.length) (i : Nat) : w.frozen? ⟨b, i, none⟩ = false := by
  obtain ⟨a, cap, f, hv, hc, hm, ha, hf⟩ := h
  exact (ha h0).2.frozen i
theorem OwnI.addr {w : World} {b : Nat} {l : List Int} {v : Value} (h : OwnI w b l v) : ∃ a c, v = .slice a l.length c ∧ l.length ≤ c ∧ c ≤ maxLen ∧ (0 < l.length → a = some ⟨b, 0, none⟩) := by
  obtain ⟨a, cap, f, hv, hc, hm, ha, hf⟩ := h
  exact ⟨a, cap, hv, hc, hm, fun h0 => (ha h0).1⟩
theorem rvL_step {l : List Int} {i : Nat} (h : i + i + 1 < l.length) : ((rvL l i).set i (l.getD (l.length - 1 - i) 0)).set (l.length - 1 - i) (l.getD i 0) = rvL l (i + 1) ∧ ((rvL l i).set (l.length - 1 - i) (l.getD i 0)).set i (l.getD (l.length - 1 - i) 0) = rvL l (i + 1) := by
  have key : ∀ m : List Int, m.length = l.length → (∀ k (hk : k < m.length), m[k] = if k = l.length - 1 - i then l.getD i 0 else if k = i then l.getD (l.length - 1 - i) 0 else (rvL l i).getD k 0) → m = rvL l (i + 1) := by
    intro m hm hg
    apply List.ext_getElem (by rw [hm, rvL_len])
    intro k h1 h2
    rw [hg, rvL_get]
    by_cases e1 : k = l.length - 1 - i
    · rw [if_pos e1, if_pos (by omega), e1, show l.length - 1 - (l.length - 1 - i) = i by omega]
    · rw [if_neg e1]
      by_cases e2 : k = i
      · rw [if_pos e2, if_pos (by omega), e2]
      · rw [if_neg e2, getD_lt _ _ (by rw [rvL_len]; omega), rvL_get]
        by_cases e3 : k < i ∨ l.length ≤ k + i
        · rw [if_pos e3, if_pos (by omega)]
        · rw [if_neg e3, if_neg (by omega)]
  constructor
  · apply key _ (by simp [rvL_len])
    intro k hk
    simp only [List.length_set] at hk
    rw [List.getElem_set, List.getElem_set, getD_lt _ _ hk]
    by_cases e1 : k = l.length - 1 - i
    · rw [if_pos e1, if_pos e1.symm]
    · rw [if_neg e1, if_neg (fun e => e1 e.symm)]
      by_cases e2 : k = i
      · rw [if_pos e2, if_pos e2.symm]
      · rw [if_neg e2, if_neg (fun e => e2 e.symm)]
  · apply key _ (by simp [rvL_len])
    intro k hk
    simp only [List.length_set] at hk
    rw [List.getElem_set, List.getElem_set, getD_lt _ _ hk]
    by_cases e2 : k = i
    · rw [if_pos e2.symm, if_neg (by omega), if_pos e2]
    · rw [if_neg (fun e => e2 e.symm), if_neg e2]
      by_cases e1 : k = l.length - 1 - i
      · rw [if_pos e1.symm, if_pos e1]
      · rw [if_neg (fun e => e1 e.symm), if_neg e1]
theorem rvL_at {l : List Int} {i k : Nat} (h : k < l.length) (h1 : ¬ (k < i ∨ l.length ≤ k + i)) (h2 : k < (rvL l i).length) : (rvL l i)[k] = l.getD k 0 := by
  rw [rvL_get, if_neg h1]
set_option maxHeartbeats 3200000 in
/-- Reverse. -/
theorem rev39 (l : List Int) (v : Value) (b : Nat) (w : World) (h : OwnI w b l v) :
    Calls Try.prog 39 #[v] w fun e w' => e = .returned (.tuple #[]) ∧ But b w w' ∧ OwnI w' b l.reverse v := by
  obtain ⟨a, cap, rfl, hc, hm, ha⟩ := h.addr
  unfold maxLen at hm
  have HW := (show Hid _ from h)
  have HA := (show Hid _ from ha)
  clear h ha
  have k0 : IntKind.i64.wrap ((l.length : Int) - 1) = (l.length : Int) - 1 := by rw [IntKind.wrap_i64]; omega
  go_enter Try.func39, Try.ntmps39
  go_wp2_with fail
  go_loopw [2, 3] (fun u2 u3 wr => ∃ j : Nat, u2 = .int .i64 j ∧ u3 = .int .i64 ((l.length : Int) - 1 - j) ∧ j ≤ l.length ∧ Hid (But b w wr ∧ OwnI wr b (rvL l j) (.slice a l.length cap))) (fun u2 _ _ => l.length - (intOf u2).toNat)
  case atStart => exact ⟨0, rfl, by simp, Nat.zero_le _, But.refl b w, by rw [rvL_zero]; exact HW.out⟩
  case round =>
    obtain ⟨j, rfl, rfl, hj, HJ⟩ := hrel
    have kd : IntKind.i64.wrap ((l.length : Int) - 1 - j - 1) = (l.length : Int) - 1 - (j + 1 : Nat) := by rw [IntKind.wrap_i64]; omega
    by_cases hlt : j + j + 1 < l.length
    · obtain rfl := HA.out (by omega)
      have hL := rvL_len l j
      have c1 := HJ.out.2.cell (i := j) (by omega)
      have c2 := HJ.out.2.cell (i := l.length - 1 - j) (by omega)
      rw [rvL_at (by omega) (by omega)] at c1 c2
      have f1 := HJ.out.2.frozen (by omega) j
      have f2 := HJ.out.2.frozen (by omega) (l.length - 1 - j)
      obtain ⟨m, hm2⟩ : ∃ m : Nat, l.length - 1 - j = m := ⟨_, rfl⟩
      have hmi : (l.length : Int) - 1 - j = (m : Int) := by omega
      have HS := (show Hid _ from rvL_step hlt)
      have HML := (show Hid (j < (rvL l j).length ∧ m < (rvL l j).length ∧ j ≠ m) from (show _ ∧ _ ∧ _ from ⟨by omega, by omega, by omega⟩))
      have hmc : m < l.length := by omega
      have hjm : j < m := by omega
      rw [hm2] at c2 f2 HS
      have hmd : (l.length : Int) - 1 - (j + 1 : Nat) = (m : Int) - 1 := by omega
      rw [hmi] at kd ⊢
      rw [hmd] at kd
      generalize l.getD j 0 = X at *
      generalize l.getD m 0 = Y at *
      clear hL hm2 hlt
      go_wp2_with fail
      go_region
      all_goals go_wp2_with fail
      have hB := (HJ.out.1.set j (.int .i64 Y)).set m (.int .i64 X)
      have hO := (HJ.out.2.set (x := Y) HML.out.1 rfl).set (i := m) (x := X) (by rw [List.length_set]; exact HML.out.2.1) HS.out.1.symm
      exact ⟨⟨j + 1, by go_num, by rw [hmd], by omega, ⟨hB.os, hB.tape, hB.output, hB.size, hB.block⟩, hO⟩, by simp [intOf]; omega⟩
    · have he := rvL_end l j (by omega)
      have HE := (show Hid _ from (⟨HJ.out.1, by have := HJ.out.2; rw [he] at this; exact this⟩ : But b w wr ∧ OwnI wr b l.reverse (.slice a l.length cap)))
      clear he HJ
      have kf : decide ((j : Int) < (l.length : Int) - 1 - j) = false := by simp; omega
      go_wp2_with fail
      refine bodyPost_end (v := .tuple #[]) (by simp [results, Try.results39]) rfl ?_
      exact ⟨rfl, HE.out.1, HE.out.2⟩
set_option maxHeartbeats 1600000 in
/-- Numbers turned round, in a row of their own. -/
theorem reversed38 {S : Nat → Prop} (l : List Int) (v : Value) (w : World) (h : Ints w S l v) (hl : l.length ≤ 1048576) :
    Calls Try.prog 38 #[v] w fun e w' => ∃ u b, e = .returned u ∧ Below w.heap.size w w' ∧ OwnI w' b l.reverse u ∧ w.heap.size ≤ b := by
  have HCL := (show Hid _ from clone55 l v w h hl)
  clear h
  go_enter Try.func38, Try.ntmps38
  go_wp2_with fail
  refine Calls.mono HCL.out ?_
  rintro e w1 ⟨u, rfl, hb1, ho⟩
  obtain ⟨b, hO, hk⟩ : ∃ b, OwnI w1 b l u ∧ w.heap.size ≤ b := by
    obtain ⟨b, h1, h2⟩ := own_ints ho
    by_cases h0 : 0 < l.length
    · exact ⟨b, h1, (h2 h0).1⟩
    · exact ⟨w.heap.size, h1.any h0 _, Nat.le_refl _⟩
  have HRV := (show Hid _ from rev39 l u b w1 hO)
  have HB1 := (show Hid (Below w.heap.size w w1 ∧ w.heap.size ≤ b) from (show _ ∧ _ from ⟨hb1, hk⟩))
  clear ho hO hk hb1
  go_wp2_with fail
  refine Calls.mono HRV.out ?_
  rintro e w2 ⟨rfl, hbt, ho2⟩
  have HE := (show Hid _ from (⟨hbt.below HB1.out.1 HB1.out.2 HB1.out.1.size, ho2⟩ : Below w.heap.size w w2 ∧ _))
  clear hbt ho2
  go_wp2_with fail
  go_ret
  exact ⟨u, b, rfl, HE.out.1, HE.out.2, HB1.out.2⟩
end Go.Proofs.Ytaimlmjgicmbeaa

/-! The program: rules turned round, and Downwards. -/
namespace Go.Proofs.Ytaimlmjgicmbeaa
open Go.RowKit Go.Deep
set_option linter.unusedVariables false
set_option maxRecDepth 100000
set_option linter.unusedSimpArgs false

theorem Ints.top {w : World} {S : Nat → Prop} {l : List Int} {v : Value} (h : Ints w S l v) : Ints w (fun b => S b ∧ b < w.heap.size) l v := by
  obtain ⟨a, cap, b, off, hv, hc, hm, ha, hcell⟩ := h
  exact ⟨a, cap, b, off, hv, hc, hm, fun h0 => ⟨(ha h0).1, (ha h0).2, lt_of_cell (hcell 0 h0)⟩, hcell⟩
theorem Pds.top {w : World} {S : Nat → Prop} {l : List Pd} {v : Value} (h : Pds w S l v) : Pds w (fun b => S b ∧ b < w.heap.size) l v := by
  obtain ⟨a, cap, b, off, sv, hv, hc, hm, ha, hcell, hr⟩ := h
  exact ⟨a, cap, b, off, sv, hv, hc, hm, fun h0 => ⟨(ha h0).1, (ha h0).2, lt_of_cell (hcell 0 h0).1⟩, hcell, fun i hi => (hr i hi).top⟩
theorem Ints.setOther {w : World} {S : Nat → Prop} {l : List Int} {v u : Value} {g o : Nat} (h : Ints w S l v) (hn : ¬ S g) : Ints (w.setCell ⟨g, o, none⟩ u) S l v :=
  h.keep (fun b hb _ => blk_setCell_other _ _ _ _ (by show b ≠ g; rintro rfl; exact hn hb))
/-- The Prods while their Rights are turned round: all before the j-th are. -/
structure TrI (w wr : World) (S : Nat → Prop) (l : List Pd) (g cp j : Nat) (f : Nat → Value) : Prop where
  row : wr.rowIs g 66 (cp * 5) f
  hg : w.heap.size + 2 ≤ g
  hc : l.length ≤ cp
  hm : cp ≤ maxLen
  cells : ∀ i (hi : i < l.length), f (i * 5) = .int .i64 l[i].left ∧ f (i * 5 + 2) = .string l[i].label ∧ f (i * 5 + 3) = .int .i64 l[i].lev ∧ f (i * 5 + 4) = .int .i64 l[i].asc ∧ l[i].label.size ≤ maxLen ∧ l[i].right.length ≤ 1048576
  rights : ∀ i (hi : i < l.length), Ints wr (fun b => (S b ∨ w.heap.size + 2 ≤ b) ∧ b ≠ g) (if i < j then l[i].right.reverse else l[i].right) (f (i * 5 + 1))
theorem TrI.next {w wr w3 : World} {S : Nat → Prop} {l : List Pd} {g cp j b : Nat} {f : Nat → Value} {ur : Value} (h : TrI w wr S l g cp j f) (hj : j < l.length) (hb : Below wr.heap.size wr w3) (hw : w.heap.size + 2 ≤ wr.heap.size) (ho : OwnI w3 b l[j].right.reverse ur) (hbb : wr.heap.size ≤ b) :
    TrI w (w3.setCell ⟨g, j * 5 + 1, none⟩ ur) S l g cp (j + 1) (fun k => if k = j * 5 + 1 then ur else f k) := by
  have hgl := World.rowIs.lt h.row
  refine ⟨World.rowIs.set (World.rowIs.of_block h.row (hb.block _ hgl)) (j * 5 + 1) ur, h.hg, h.hc, h.hm, fun i hi => ?_, fun i hi => ?_⟩
  · obtain ⟨c0, c2, c3, c4, c5⟩ := h.cells i hi
    refine ⟨?_, ?_, ?_, ?_, c5⟩
    · rw [if_neg (by omega)]; exact c0
    · rw [if_neg (by omega)]; exact c2
    · rw [if_neg (by omega)]; exact c3
    · rw [if_neg (by omega)]; exact c4
  · refine Ints.setOther ?_ (fun hn => hn.2 rfl)
    by_cases e : i = j
    · subst e
      rw [if_pos (by omega), if_pos rfl]
      exact ho.ints.mono (fun c hc => by
        have hc' : c = b := hc
        exact ⟨.inr (by omega), by omega⟩)
    · have h1 := (h.rights i hi).still hb
      rw [if_neg (show ¬ (i * 5 + 1 = j * 5 + 1) by omega)]
      by_cases e2 : i < j
      · rw [if_pos e2] at h1
        rw [if_pos (by omega)]
        exact h1
      · rw [if_neg e2] at h1
        rw [if_neg (by omega)]
        exact h1
theorem TrI.done {w wr : World} {S : Nat → Prop} {l : List Pd} {g cp : Nat} {f : Nat → Value} (h : TrI w wr S l g cp l.length f) : Pds wr (fun b => (S b ∨ w.heap.size + 2 ≤ b) ∧ b < wr.heap.size) (l.map mirP) (.slice (some ⟨g, 0, none⟩) l.length cp) := by
  have hL : (l.map mirP).length = l.length := List.length_map ..
  have hh := h.hg
  refine Pds.top ⟨_, cp, g, 0, fun i => f (i * 5 + 1), by rw [hL], by rw [hL]; exact h.hc, h.hm, fun _ => ⟨rfl, .inr (by omega)⟩, fun i hi => ?_, fun i hi => ?_⟩
  · rw [hL] at hi
    obtain ⟨c0, c2, c3, c4, c5, c6⟩ := h.cells i hi
    have hc := h.hc
    rw [List.getElem_map]
    simp only [Nat.zero_add]
    exact ⟨(h.row.cell (by omega)).trans (by rw [c0]; rfl), h.row.cell (by omega), (h.row.cell (by omega)).trans (by rw [c2]; rfl), (h.row.cell (by omega)).trans (by rw [c3]; rfl), (h.row.cell (by omega)).trans (by rw [c4]; rfl), c5⟩
  · rw [hL] at hi
    have h1 := h.rights i hi
    rw [if_pos hi] at h1
    rw [List.getElem_map]
    exact h1.mono (fun b hb => hb.1)
theorem pvs_at {l : List Pd} {sv : Nat → Value} {i k : Nat} (hi : i < l.length) (hk : k < 5) : (pvs l sv)[i * 5 + k]? = some (pcv l sv i k) := by
  unfold pvs
  rw [List.getElem?_map, List.getElem?_range (by omega)]
  simp only [Option.map_some]
  rw [show (i * 5 + k) / 5 = i by omega, show (i * 5 + k) % 5 = k by omega]
theorem TrI.start {w w1 : World} {S : Nat → Prop} {l : List Pd} {u : Value} {sv : Nat → Value} (h : w1.ownsRow (w.heap.size + 2) 66 5 u l.length (pvs l sv)) (hr : ∀ i (hi : i < l.length), Ints w1 S l[i].right (sv i) ∧ l[i].label.size ≤ maxLen ∧ l[i].right.length ≤ 1048576) (hS : ∀ b, S b → b < w.heap.size) :
    ∃ a cp, u = .slice a l.length cp ∧ l.length ≤ cp ∧ cp ≤ maxLen ∧ (0 < l.length → ∃ g f, a = some ⟨g, 0, none⟩ ∧ TrI w w1 S l g cp 0 f) := by
  rcases h.2 with ⟨rfl, h0⟩ | ⟨g, cap, cur, rfl, hB, hg, hnc, hcm, hcs, htk⟩
  · exact ⟨none, 0, by rw [h0], by omega, by unfold maxLen; omega, fun h => absurd h (by omega)⟩
  · refine ⟨_, cap, rfl, hnc, hcm, fun h0 => ⟨g, fun i => (cur[i]?).getD .nilFunc, rfl, ?_⟩⟩
    have hat : ∀ i k, i < l.length → k < 5 → (cur[i * 5 + k]?).getD .nilFunc = pcv l sv i k := by
      intro i k hi hk
      have e := pvs_at (sv := sv) hi hk
      rw [← htk, List.getElem?_take, if_pos (by omega)] at e
      rw [← Array.getElem?_toList, e]
      rfl
    refine ⟨⟨cur, hg, hcs, fun i hi => ?_⟩, hB, hnc, hcm, fun i hi => ?_, fun i hi => ?_⟩
    · have e : cur[i]? = some cur[i] := Array.getElem?_eq_getElem (by omega)
      simp [e]
    · have hd : l.getD i ⟨0, [], ByteArray.empty, 0, 0⟩ = l[i] := getD_lt _ _ hi
      have e0 := hat i 0 hi (by omega)
      have e2 := hat i 2 hi (by omega)
      have e3 := hat i 3 hi (by omega)
      have e4 := hat i 4 hi (by omega)
      unfold pcv at e0 e2 e3 e4
      rw [hd] at e0 e2 e3 e4
      exact ⟨e0, e2, e3, e4, (hr i hi).2⟩
    · have e1 := hat i 1 hi (by omega)
      unfold pcv at e1
      rw [if_neg (by omega)]
      rw [show (cur[i * 5 + 1]?).getD .nilFunc = sv i from e1]
      exact (hr i hi).1.mono (fun b hb => ⟨.inl hb, by have := hS b hb; omega⟩)
/-- What stands while one goes on. -/
structure TrQ (w wr : World) (S : Nat → Prop) (d : Bn) (v0 v1 : Value) (a : Option Addr) (cp j : Nat) : Prop where
  bel : Below w.heap.size w wr
  b0 : Box wr w.heap.size 34 [v0, v1, .int .i64 d.own, .slice a d.prods.length cp]
  b1 : Box wr (w.heap.size + 1) 34 [.slice none 0 0, .slice none 0 0, .int .i64 0, .slice none 0 0]
  hc : d.prods.length ≤ cp
  hm : cp ≤ maxLen
  row : 0 < d.prods.length → ∃ g f, a = some ⟨g, 0, none⟩ ∧ TrI w wr S d.prods g cp j f
theorem TrQ.next {w wr w3 : World} {S : Nat → Prop} {d : Bn} {v0 v1 ur : Value} {g cp j b : Nat} (h : TrQ w wr S d v0 v1 (some ⟨g, 0, none⟩) cp j) (hj : j < d.prods.length) (hb : Below wr.heap.size wr w3) (ho : OwnI w3 b d.prods[j].right.reverse ur) (hbb : wr.heap.size ≤ b) :
    TrQ w (w3.setCell ⟨g, j * 5 + 1, none⟩ ur) S d v0 v1 (some ⟨g, 0, none⟩) cp (j + 1) := by
  obtain ⟨g', f, e, hT⟩ := h.row (by omega)
  injection e with e
  injection e with e
  subst e
  have hg := hT.hg
  have hsz := h.b1.lt
  exact ⟨(bel_trans h.bel hb).setCell (by show w.heap.size ≤ g; omega) _, (h.b0.still hb).past (by omega), (h.b1.still hb).past (by omega), h.hc, h.hm, fun _ => ⟨g, _, rfl, hT.next hj hb (by omega) ho hbb⟩⟩
theorem TrQ.done {w wr : World} {S : Nat → Prop} {d : Bn} {v0 v1 v3 : Value} {a : Option Addr} {cp : Nat} (h : TrQ w wr S d v0 v1 a cp d.prods.length) (hl : BLies w S d v0 v1 v3) (hS : ∀ b, S b → b < w.heap.size) :
    BLies wr (fun b => (S b ∨ w.heap.size + 2 ≤ b) ∧ b < wr.heap.size) (mirB d) v0 v1 (.slice a d.prods.length cp) := by
  have hsz := h.bel.size
  have hm : ∀ b, S b → (S b ∨ w.heap.size + 2 ≤ b) ∧ b < wr.heap.size := fun b hb => ⟨.inl hb, Nat.lt_of_lt_of_le (hS b hb) hsz⟩
  refine ⟨(hl.terms.still h.bel).mono hm, (hl.nons.still h.bel).mono hm, ?_⟩
  by_cases h0 : 0 < d.prods.length
  · obtain ⟨g, f, rfl, hT⟩ := h.row h0
    exact hT.done
  · have e : d.prods.map mirP = [] := by
      rw [List.eq_nil_of_length_eq_zero (show d.prods.length = 0 by omega)]; rfl
    have hL : (mirB d).prods.length = d.prods.length := by simp [mirB]
    have hL0 : (mirB d).prods.length = 0 := by omega
    exact ⟨a, cp, 0, 0, fun _ => .nilFunc, by rw [hL], by rw [hL]; exact h.hc, h.hm, fun h1 => absurd h1 (by omega), fun i hi => absurd hi (by omega), fun i hi => absurd hi (by omega)⟩
theorem BLies.keepX {w w' : World} {S : Nat → Prop} {d : Bn} {v0 v1 v3 : Value} (h : BLies w S d v0 v1 v3) (hb : ∀ b, S b → b < w.heap.size → w'.heap[b]? = w.heap[b]?) : BLies w' S d v0 v1 v3 := ⟨h.terms.keep hb, h.nons.keep hb, h.prods.keep hb⟩
theorem BLies.monoX {w : World} {S S' : Nat → Prop} {d : Bn} {v0 v1 v3 : Value} (h : BLies w S d v0 v1 v3) (hS : ∀ b, S b → S' b) : BLies w S' d v0 v1 v3 := ⟨h.terms.mono hS, h.nons.mono hS, h.prods.mono hS⟩
theorem info34x : (Try.prog.info? 34).map (fun i => (i.zero, i.size)) = some (some (.agg #[.slice none 0 0, .slice none 0 0, .int .i64 0, .slice none 0 0]), 4) := by kernel_rfl
set_option maxHeartbeats 3200000 in
/-- The rules turned round. -/
theorem turned37 {S : Nat → Prop} (d : Bn) (v0 v1 v3 : Value) (w : World) (h : BLies w S d v0 v1 v3) (hs : d.Small) (hS : ∀ b, S b → b < w.heap.size) :
    Calls Try.prog 37 #[.agg #[v0, v1, .int .i64 d.own, v3]] w fun e w' => ∃ u, e = .returned (.agg #[v0, v1, .int .i64 d.own, u]) ∧ Below w.heap.size w w' ∧ BLies w' (fun b => (S b ∨ w.heap.size ≤ b) ∧ b < w'.heap.size) (mirB d) v0 v1 u := by
  obtain ⟨a3, c3, b3, o3, sv, rfl, hc, hm, ha, hcell, hr⟩ := h.prods
  obtain ⟨W, hW⟩ : ∃ W, (w.alloc (.cells #[v0, v1, .int .i64 d.own, .slice a3 d.prods.length c3] 34)).alloc (.cells #[.slice none 0 0, .slice none 0 0, .int .i64 0, .slice none 0 0] 34) = W := ⟨_, rfl⟩
  have hbW : Below w.heap.size w W := by rw [← hW]; exact bel_trans (bel_alloc _ _) (bel_alloc _ _)
  have hzW : W.heap.size = w.heap.size + 2 := by rw [← hW]; simp
  have bx0 : Box W w.heap.size 34 [v0, v1, .int .i64 d.own, .slice a3 d.prods.length c3] := by rw [← hW]; exact (Box.new w 34 _).still (bel_alloc _ _)
  have bx1 : Box W (w.heap.size + 1) 34 [.slice none 0 0, .slice none 0 0, .int .i64 0, .slice none 0 0] := by
    rw [← hW]
    have := Box.new (w.alloc (.cells #[v0, v1, .int .i64 d.own, .slice a3 d.prods.length c3] 34)) 34 [.slice none 0 0, .slice none 0 0, .int .i64 0, .slice none 0 0]
    simpa using this
  have HCL := (show Hid _ from clone54 d.prods a3 c3 b3 o3 sv W hc hm (fun h0 => (ha h0).1) (fun i hi => by
    obtain ⟨c0, c1, c2, c3, c4, _⟩ := hcell i hi
    exact ⟨(hbW.cell (lt_of_cell c0)).trans c0, (hbW.cell (lt_of_cell c1)).trans c1, (hbW.cell (lt_of_cell c2)).trans c2, (hbW.cell (lt_of_cell c3)).trans c3, (hbW.cell (lt_of_cell c4)).trans c4⟩)
    (fun i hi => by obtain ⟨a, c, e, _⟩ := (hr i hi).form; rw [e]; rfl) hs.prods)
  have HR := (show Hid (∀ (w1 : World), Below W.heap.size W w1 → ∀ i (hi : i < d.prods.length), Ints w1 S d.prods[i].right (sv i) ∧ d.prods[i].label.size ≤ maxLen ∧ d.prods[i].right.length ≤ 1048576) from fun w1 hb1 i hi => ⟨((hr i hi).still hbW).still hb1, (hcell i hi).2.2.2.2.2, hs.right i hi⟩)
  have HBX := (show Hid (Below w.heap.size w W ∧ Box W w.heap.size 34 [v0, v1, .int .i64 d.own, .slice a3 d.prods.length c3] ∧ Box W (w.heap.size + 1) 34 [.slice none 0 0, .slice none 0 0, .int .i64 0, .slice none 0 0] ∧ W.heap.size = w.heap.size + 2) from (show _ ∧ _ ∧ _ ∧ _ from ⟨hbW, bx0, bx1, hzW⟩))
  have k3 := bx0.cell 3 (by simp)
  simp only [List.getD_cons_zero, List.getD_cons_succ] at k3
  have HH := (show Hid (BLies w S d v0 v1 (.slice a3 d.prods.length c3)) from h)
  have HSS := (show Hid _ from hS)
  have hPM := (show Hid (d.prods.length ≤ 1048576) from hs.prods)
  clear hcell hr ha hbW bx0 bx1 hzW h hs hS
  go_enter Try.func37, Try.ntmps37
  go_wp2_with fail
  refine Calls.mono HCL.out ?_
  rintro e w1 ⟨u, rfl, hb1, ho⟩
  rw [HBX.out.2.2.2] at ho
  obtain ⟨a, cp, rfl, hcn, hcm, hg⟩ := TrI.start (w := w) ho (HR.out w1 hb1) HSS.out
  have HT0 := (show Hid (TrQ w (w1.setCell ⟨w.heap.size, 3, none⟩ (.slice a d.prods.length cp)) S d v0 v1 a cp 0) from by
    have hz := HBX.out.2.2.2
    have hz1 := hb1.size
    refine ⟨(bel_trans HBX.out.1 hb1).setCell (Nat.le_refl _) _, (HBX.out.2.1.still hb1).set 3 _, (HBX.out.2.2.1.still hb1).past (by omega), hcn, hcm, fun h0 => ?_⟩
    obtain ⟨g, f, e, hT⟩ := hg h0
    have hgg := hT.hg
    exact ⟨g, f, e, World.rowIs.of_block hT.row (blk_setCell_other _ _ _ _ (by show g ≠ w.heap.size; omega)), hT.hg, hT.hc, hT.hm, hT.cells, fun i hi => (hT.rights i hi).keep (fun b hb hlt => blk_setCell_other _ _ _ _ (by
      show b ≠ w.heap.size
      rcases hb.1 with h | h
      · have := HSS.out b h
        omega
      · omega))⟩)
  have k4 := (HBX.out.2.1.still hb1).cell 3 (by simp)
  have k5 := (HBX.out.2.1.still hb1).frozen 3
  simp only [List.getD_cons_zero, List.getD_cons_succ] at k4
  clear hg ho hb1 k3 HCL HR
  go_wp2_with fail
  clear k4 k5
  generalize w1.setCell ⟨w.heap.size, 3, none⟩ (.slice a d.prods.length cp) = W2 at *
  go_loopw [12] (fun i wr => ∃ j : Nat, i = .int .i64 j ∧ j ≤ d.prods.length ∧ Hid (TrQ w wr S d v0 v1 a cp j)) (fun i _ => d.prods.length - (intOf i).toNat)
  case atStart => exact ⟨0, rfl, Nat.zero_le _, HT0.out⟩
  case round =>
    obtain ⟨j, rfl, hj, HJ⟩ := hrel
    unfold maxLen at hcm
    by_cases hlt : j < d.prods.length
    · obtain ⟨g, f, rfl, hT⟩ := HJ.out.row (by omega)
      obtain ⟨c0, c2, c3, c4, _, hr12⟩ := hT.cells j hlt
      have hri := hT.rights j hlt
      rw [if_neg (Nat.lt_irrefl _)] at hri
      have e0 := hT.row.cell (i := j * 5) (by omega)
      have e1 := hT.row.cell (i := j * 5 + 1) (by omega)
      have e2 := hT.row.cell (i := j * 5 + 2) (by omega)
      have e3 := hT.row.cell (i := j * 5 + 3) (by omega)
      have e4 := hT.row.cell (i := j * 5 + 4) (by omega)
      rw [c0] at e0
      rw [c2] at e2
      rw [c3] at e3
      rw [c4] at e4
      obtain ⟨ra, rc, hrv, _⟩ := hri.form
      rw [hrv] at e1 hri
      obtain ⟨WA, hWA⟩ : ∃ WA, wr.alloc (.cells #[.int .i64 d.prods[j].left, .slice ra d.prods[j].right.length rc, .string d.prods[j].label, .int .i64 d.prods[j].lev, .int .i64 d.prods[j].asc] 66) = WA := ⟨_, rfl⟩
      have hbA : Below wr.heap.size wr WA := by rw [← hWA]; exact bel_alloc _ _
      have HRV := (show Hid (∀ w', Below WA.heap.size WA w' → Calls Try.prog 38 #[.slice ra d.prods[j].right.length rc] w' fun e w'' => ∃ u b, e = .returned u ∧ Below w'.heap.size w' w'' ∧ OwnI w'' b d.prods[j].right.reverse u ∧ w'.heap.size ≤ b) from fun w' hb => reversed38 _ _ w' ((hri.still hbA).still hb) hr12)
      have hbx := Box.new wr 66 [.int .i64 d.prods[j].left, .slice ra d.prods[j].right.length rc, .string d.prods[j].label, .int .i64 d.prods[j].lev, .int .i64 d.prods[j].asc]
      rw [show (wr.alloc (.cells [Value.int .i64 d.prods[j].left, .slice ra d.prods[j].right.length rc, .string d.prods[j].label, .int .i64 d.prods[j].lev, .int .i64 d.prods[j].asc].toArray 66)) = WA from hWA] at hbx
      have b0 := (HJ.out.b0.still hbA).cell 3 (by simp)
      have b1 := hbx.cell 1 (by simp)
      simp only [List.getD_cons_zero, List.getD_cons_succ] at b0 b1
      have HS3 := (show Hid (∀ w', Below WA.heap.size WA w' → w'.cell? ⟨w.heap.size, 3, none⟩ = some (.slice (some ⟨g, 0, none⟩) d.prods.length cp) ∧ w'.cell? ⟨wr.heap.size, 1, none⟩ = some (.slice ra d.prods[j].right.length rc)) from fun w' hb => ⟨(hb.cell (lt_of_cell b0)).trans b0, (hb.cell (lt_of_cell b1)).trans b1⟩)
      have HBA := (show Hid (Below wr.heap.size wr WA) from hbA)
      have HROW := (show Hid _ from hT.row)
      have hgg := hT.hg
      clear hT c0 c2 c3 c4 hri hrv hbA hbx hr12
      go_wp2_with fail
      have hbd := (Below.refl WA.heap.size WA).drew
      have hS0 := HS3.out _ hbd
      have HR2 := (show Hid (Calls Try.prog 38 #[.slice ra d.prods[j].right.length rc] WA.drew fun e w'' => ∃ u b, e = .returned u ∧ Below WA.drew.heap.size WA.drew w'' ∧ OwnI w'' b d.prods[j].right.reverse u ∧ WA.drew.heap.size ≤ b) from HRV.out _ hbd)
      have HS4 := (show Hid (∀ (w3 : World) (u : Value), w3.cell? ⟨w.heap.size, 3, none⟩ = some (.slice (some ⟨g, 0, none⟩) d.prods.length cp) ∧ w3.cell? ⟨wr.heap.size, 1, none⟩ = some (.slice ra d.prods[j].right.length rc) → (w3.setCell ⟨g, j * 5 + 1, none⟩ u).cell? ⟨w.heap.size, 3, none⟩ = some (.slice (some ⟨g, 0, none⟩) d.prods.length cp) ∧ (w3.setCell ⟨g, j * 5 + 1, none⟩ u).cell? ⟨wr.heap.size, 1, none⟩ = some (.slice ra d.prods[j].right.length rc)) from fun w3 u h => ⟨(World.cell?_of_block (w := w3) (blk_setCell_other _ _ _ _ (by have := hgg; show w.heap.size ≠ g; omega))).trans h.1, (World.cell?_of_block (w := w3) (blk_setCell_other _ _ _ _ (by have := lt_of_cell e0; show wr.heap.size ≠ g; have h9 : g < wr.heap.size := this; omega))).trans h.2⟩)
      have HTJ := (show Hid (∀ (w3 : World) (b : Nat) (ur : Value), Below wr.heap.size wr w3 → OwnI w3 b d.prods[j].right.reverse ur → wr.heap.size ≤ b → TrQ w (w3.setCell ⟨g, j * 5 + 1, none⟩ ur) S d v0 v1 (some ⟨g, 0, none⟩) cp (j + 1) ∧ w3.cell? ⟨g, j * 5 + 1, none⟩ = some (.slice ra d.prods[j].right.length rc) ∧ w3.frozen? ⟨g, j * 5 + 1, none⟩ = false) from fun w3 b ur h1 h2 h3 => ⟨TrQ.next HJ.out hlt h1 h2 h3, (h1.cell (lt_of_cell e1)).trans e1, (World.rowIs.of_block HROW.out (h1.block _ (lt_of_cell e1))).frozen _⟩)
      go_region_held3 (fun wq => wq.cell? ⟨w.heap.size, 3, none⟩ = some (.slice (some ⟨g, 0, none⟩) d.prods.length cp) ∧ wq.cell? ⟨wr.heap.size, 1, none⟩ = some (.slice ra d.prods[j].right.length rc)) (first | with_reducible exact hS0 | with_reducible exact hS1 | with_reducible exact hS2) ((go_at_call 38; refine Calls.mono HR2.out ?_; rintro e w3 ⟨u, b, rfl, hb3, ho3, hbb⟩; have hf3 := ho3.form; rw [List.length_reverse] at hf3; obtain ⟨ua, uc, rfl, _⟩ := hf3; have hB3 := bel_trans hbd hb3; have hS1 := HS3.out _ hB3; have hS2 := HS4.out w3 (.slice ua d.prods[j].right.length uc) hS1; obtain ⟨hn1, g1, g2⟩ := HTJ.out _ _ _ (bel_trans HBA.out hB3) ho3 (Nat.le_trans HBA.out.size hbb); have HN := (show Hid _ from hn1); clear ho3 hbb hn1))
      clear hS0 hS1 hS2 g1 g2 e0 e1 e2 e3 e4 b0 b1 hB3 hb3 hbd hWA hgg HS4 HTJ HS3 HR2 HRV
      go_wp2_with fail
      exact ⟨⟨j + 1, by go_num, by omega, HN.out⟩, by simp [intOf]; omega⟩
    · obtain rfl : j = d.prods.length := by omega
      have b0 := HJ.out.b0
      have b1 := HJ.out.b1
      obtain ⟨x0, y0, x1, y1, _, _, rfl, rfl, _⟩ := HH.out.form
      have q0 := b0.cell 0 (by simp)
      have q1 := b0.cell 1 (by simp)
      have q2 := b0.cell 2 (by simp)
      have q3 := b0.cell 3 (by simp)
      have z0 := b1.cell 0 (by simp)
      have z1 := b1.cell 1 (by simp)
      have z2 := b1.cell 2 (by simp)
      have z3 := b1.cell 3 (by simp)
      have f0 := b1.frozen 0
      have f1 := b1.frozen 1
      have f2 := b1.frozen 2
      have f3 := b1.frozen 3
      simp only [List.getD_cons_zero, List.getD_cons_succ] at q0 q1 q2 q3 z0 z1 z2 z3
      clear b0 b1
      go_wp2_with fail
      refine bodyPost_ret (v := .agg #[.slice x0 d.terms.length y0, .slice x1 d.nons.length y1, .int .i64 d.own, .slice a d.prods.length cp]) (by simp [results, Try.results37, go_sem, z0, z1, z2, z3]) rfl ⟨_, rfl, ?_, ?_⟩
      · repeat (refine Below.setCell ?_ (by dsimp only; omega) _)
        exact HJ.out.bel
      · have hD := HJ.out.done HH.out HSS.out
        refine (hD.keepX (fun b hb hlt => ?_)).monoX (fun b hb => ⟨hb.1.elim .inl (fun h => .inr (by omega)), by simpa using hb.2⟩)
        have hne : b ≠ w.heap.size + 1 := by
          rcases hb.1 with h | h
          · have := HSS.out b h
            omega
          · omega
        repeat rw [blk_setCell_other _ _ _ _ (by exact hne)]
theorem pdB_mir (T N : Nat) (p : Pd) : pdB T N (mirP p) = pdB T N p := by
  unfold pdB mirP
  simp only [List.length_reverse, List.all_reverse]
theorem bnB_mir (d : Bn) : bnB (mirB d) = bnB d := by
  have e1 : szB (mirB d) = szB d := by
    unfold szB
    rw [show (mirB d).terms = d.terms from rfl, show (mirB d).nons = d.nons from rfl, show (mirB d).own = d.own from rfl, show (mirB d).prods.length = d.prods.length by simp [mirB]]
  have e2 : (mirB d).prods.all (pdB d.terms.length d.nons.length) = d.prods.all (pdB d.terms.length d.nons.length) := by
    rw [show (mirB d).prods = d.prods.map mirP from rfl, List.all_map]
    congr 1
    funext p
    exact pdB_mir _ _ p
  unfold bnB
  rw [e1, show (mirB d).terms = d.terms from rfl, show (mirB d).nons = d.nons from rfl, e2]
/-- What Downwards leaves. -/
theorem mir_cd (d : Bn) (non : Int) (n : Nat) : cdR (mirB d) non n = cdR d non n := by
  unfold cdR
  rw [bnB_mir, show (mirB d).nons = d.nons from rfl]
theorem dw_ans (d : Bn) (non : Int) (U : List Int) : dwI d non U = dwS d non U := (dw_same (mir_cd d non) U).symm
set_option maxHeartbeats 1600000 in
theorem iDw {S : Nat → Prop} (d : Bn) (U : List Int) (v0 v1 v3 vd : Value) (non : Int) (w : World) (h : BLies w S d v0 v1 v3) (hs : d.Small) (hd : Ints w S U vd) (hU : U.length ≤ 1048576) (hS : ∀ b, S b → b < w.heap.size) :
    Calls Try.prog 16 #[.agg #[v0, v1, .int .i64 d.own, v3], .int .i64 non, vd] w fun e w' => YAns (dwI d non U) w e w' := by
  have hb0 := bel_alloc w (.cells #[v0, v1, .int .i64 d.own, v3] 34)
  have HCL := (show Hid _ from turned37 d v0 v1 v3 _ (h.still hb0) hs (fun b hb => Nat.lt_of_lt_of_le (hS b hb) hb0.size))
  have hx := Box.new w 34 [v0, v1, .int .i64 d.own, v3]
  have HUD := (show Hid (∀ w', Below w.heap.size w w' → Calls Try.prog 38 #[vd] w' fun e w'' => ∃ u b, e = .returned u ∧ Below w'.heap.size w' w'' ∧ OwnI w'' b U.reverse u ∧ w'.heap.size ≤ b) from fun w' hb => reversed38 U vd w' (hd.still hb) hU)
  obtain ⟨a0, c0, a1, c1, a3, c3, rfl, rfl, rfl⟩ := h.form
  obtain ⟨ad, cd, rfl, _⟩ := hd.form
  have HB0 := (show Hid _ from hb0)
  have x0 := hx.cell 0 (by simp)
  have x1 := hx.cell 1 (by simp)
  have x2 := hx.cell 2 (by simp)
  have x3 := hx.cell 3 (by simp)
  simp only [List.getD_cons_zero, List.getD_cons_succ] at x0 x1 x2 x3
  clear hx h hd hS hb0 hs hU
  go_enter Try.func16, Try.ntmps16
  go_wp2_with fail
  refine Calls.mono HCL.out ?_
  rintro e w1 ⟨u, rfl, hb1, hl1⟩
  have hB1 := bel_trans HB0.out hb1
  have HRV := (show Hid _ from HUD.out w1 hB1)
  have HB1 := (show Hid _ from hB1)
  have HL1 := (show Hid _ from hl1)
  clear x0 x1 x2 x3 hb1 hl1 hB1 HUD HCL
  go_wp2_with fail
  refine Calls.mono HRV.out ?_
  rintro e w2 ⟨r, b, rfl, hb2, ho2, hbb⟩
  have hl2 := HL1.out.still hb2
  have hz2 := hb2.size
  have HUP := (show Hid _ from iUp (S := fun c => c < w2.heap.size) (mirB d) U.reverse _ _ _ r non w2 (hl2.monoX (fun c hc => Nat.lt_of_lt_of_le hc.2 hz2)) (ho2.ints.top.mono (fun c hc => hc.2)) (fun c hc => hc))
  have HB2 := (show Hid _ from bel_trans HB1.out hb2)
  clear hl2 hz2 hb2 ho2 hbb HL1 HRV
  go_wp2_with fail
  refine Calls.mono HUP.out ?_
  intro e w3 hy
  obtain ⟨v, b3, rfl, hb3, ho3, hk3⟩ := hy.high
  have HB3 := (show Hid _ from bel_trans HB2.out hb3)
  have HRW := (show Hid _ from rev39 _ v b3 w3 ho3)
  have HZ := (show Hid (w2.heap.size ≤ b3) from hk3)
  clear hy hb3 ho3 hk3 HUP
  go_wp2_with fail
  refine Calls.mono HRW.out ?_
  rintro e w4 ⟨rfl, hbt, ho4⟩
  have HE := (show Hid (Below w.heap.size w w4 ∧ OwnI w4 b3 (upR (mirB d) non U.reverse).1.reverse v ∧ w.heap.size ≤ b3) from ⟨hbt.below HB3.out (Nat.le_trans HB2.out.size HZ.out) HB3.out.size, ho4, Nat.le_trans HB2.out.size HZ.out⟩)
  clear hbt ho4
  go_wp2_with fail
  refine bodyPost_ret (v := .tuple #[v, .int .i64 (upR (mirB d) non U.reverse).2]) (by simp [results, Try.results16, go_sem]) rfl ?_
  exact ⟨v, b3, rfl, HE.out.1, HE.out.2.1, fun _ => HE.out.2.2⟩
end Go.Proofs.Ytaimlmjgicmbeaa
