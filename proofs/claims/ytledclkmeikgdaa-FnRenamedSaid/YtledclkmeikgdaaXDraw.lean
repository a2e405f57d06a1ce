import Derived.Test.YtledclkmeikgdaaXMark
import Derived.Deep.RegionWith
import Derived.Test.YtledclkmeikgdaaXTo
namespace Go.Proofs.Ytledclkmeikgdaa.T
open Go.RowKit Go.Deep Go.Lib
set_option linter.unusedVariables false
set_option maxRecDepth 100000
set_option linter.unusedSimpArgs false

/-- Bytes in memory. -/
def Byts (w : World) (cs : List UInt8) (b off : Nat) : Prop := ∀ i (hi : i < cs.length), w.cell? ⟨b, off + i, none⟩ = some (.int .u8 cs[i].toNat)
/-- The block of a cursor. -/
def Box3 (w : World) (c : Nat) (c0 c1 c2 : Value) : Prop := ∃ f, w.rowIs c 111 3 f ∧ f 0 = c0 ∧ f 1 = c1 ∧ f 2 = c2
theorem Box3.lt {w : World} {b : Nat} {c0 c1 c2 : Value} (h : Box3 w b c0 c1 c2) : b < w.heap.size := by
  obtain ⟨f, h, _⟩ := h; exact h.lt
theorem Box3.new (w : World) (c0 c1 c2 : Value) : Box3 (w.alloc (.cells #[c0, c1, c2] 111)) w.heap.size c0 c1 c2 :=
  ⟨fun i => (#[c0, c1, c2][i]?).getD c0, ⟨#[c0, c1, c2], blk_alloc_new _ _, rfl, fun i hi => by simp [hi]⟩, rfl, rfl, rfl⟩
theorem Box3.keep {w w' : World} {b : Nat} {c0 c1 c2 : Value} (h : Box3 w b c0 c1 c2) (hb : w'.heap[b]? = w.heap[b]?) : Box3 w' b c0 c1 c2 := by
  obtain ⟨f, h, e⟩ := h; exact ⟨f, h.of_block hb, e⟩
theorem Box3.cells {w : World} {b : Nat} {c0 c1 c2 : Value} (h : Box3 w b c0 c1 c2) : w.cell? ⟨b, 0, none⟩ = some c0 ∧ w.cell? ⟨b, 1, none⟩ = some c1 ∧ w.cell? ⟨b, 2, none⟩ = some c2 := by
  obtain ⟨f, h, rfl, rfl, rfl⟩ := h
  exact ⟨h.cell (by omega), h.cell (by omega), h.cell (by omega)⟩
theorem Box3.frozen {w : World} {b : Nat} {c0 c1 c2 : Value} (h : Box3 w b c0 c1 c2) (i : Nat) : w.frozen? ⟨b, i, none⟩ = false := by
  obtain ⟨f, h, _⟩ := h; exact h.frozen i
theorem Box3.set1 {w : World} {b : Nat} {c0 c1 c2 : Value} (h : Box3 w b c0 c1 c2) (u : Value) : Box3 (w.setCell ⟨b, 1, none⟩ u) b c0 u c2 := by
  obtain ⟨f, h, rfl, rfl, rfl⟩ := h
  exact ⟨_, h.set 1 u, if_neg (by omega), if_pos rfl, if_neg (by omega)⟩
theorem Box3.set2 {w : World} {b : Nat} {c0 c1 c2 : Value} (h : Box3 w b c0 c1 c2) (u : Value) : Box3 (w.setCell ⟨b, 2, none⟩ u) b c0 c1 u := by
  obtain ⟨f, h, rfl, rfl, rfl⟩ := h
  exact ⟨_, h.set 2 u, if_neg (by omega), if_neg (by omega), if_pos rfl⟩

/-- A cursor over bytes: how many are drawn, and the seed of those behind them. -/
def Cur (w : World) (cs : List UInt8) (a : Option Addr) (cap b off c : Nat) (s : Nat × Nat) : Prop :=
  s.1 ≤ cs.length ∧ s.2 < 2147483648 ∧ cs.length ≤ 1048576 ∧ cs.length ≤ cap ∧ cap ≤ 2 ^ 63 - 1 ∧ (0 < cs.length → b < c) ∧ (0 < cs.length → a = some ⟨b, off, none⟩) ∧ Byts w cs b off ∧ Box3 w c (.slice a cs.length cap) (.int .i64 s.1) (.int .i64 s.2)
theorem Cur.keep {w w' : World} {cs : List UInt8} {a : Option Addr} {cap b off c : Nat} {s : Nat × Nat} (h : Cur w cs a cap b off c s) (hk : ∀ k, k ≤ c → w'.heap[k]? = w.heap[k]?) : Cur w' cs a cap b off c s := by
  obtain ⟨h0, h1, h2, h3, h4, h5, h6, h7, h8⟩ := h
  exact ⟨h0, h1, h2, h3, h4, h5, h6, fun i hi => (World.cell?_of_block (w := w) (hk b (by have := h5 (by omega); omega))).trans (h7 i hi), h8.keep (hk c (Nat.le_refl _))⟩
theorem Cur.still {w w' : World} {cs : List UInt8} {a : Option Addr} {cap b off c : Nat} {s : Nat × Nat} (h : Cur w cs a cap b off c s) (hb : Below w.heap.size w w') : Cur w' cs a cap b off c s :=
  h.keep (fun k hk => hb.block k (by have := h.2.2.2.2.2.2.2.2.lt; omega))

theorem Out.drew {lo hi : Nat} {w w' : World} (h : Out lo hi w w') : Out lo hi w w'.drew := ⟨h.1, h.2.1, h.2.2.1, h.2.2.2.1, h.2.2.2.2⟩
theorem Cur.drew {w : World} {cs : List UInt8} {a : Option Addr} {cap b off c : Nat} {s : Nat × Nat} (h : Cur w cs a cap b off c s) : Cur w.drew cs a cap b off c s := h.keep (fun _ _ => rfl)
theorem Byts.set {w : World} {cs : List UInt8} {b off c o : Nat} {x : Value} (h : Byts w cs b off) (hb : 0 < cs.length → b < c) : Byts (w.setCell ⟨c, o, none⟩ x) cs b off := fun i hi => (World.cell?_of_block (w := w) (blk_setCell_other _ _ _ _ (by show b ≠ c; have := hb (by omega); omega))).trans (h i hi)

/-- The next byte. -/
def cByte (cs : List UInt8) (s : Nat × Nat) : Nat × (Nat × Nat) :=
  if h : s.1 < cs.length then (cs[s.1].toNat, (s.1 + 1, s.2))
  else (if cs.length = 0 then 0 else (s.2 * 1103515245 + 12345) % 2147483648 / 65536 % 256, (s.1, (s.2 * 1103515245 + 12345) % 2147483648))
theorem cByte_lt (cs : List UInt8) (s : Nat × Nat) : (cByte cs s).1 < 256 := by
  unfold cByte
  split
  · exact (cs[s.1]).toNat_lt
  · dsimp only
    split <;> omega

set_option maxHeartbeats 800000 in
theorem byte_any {cs : List UInt8} {a : Option Addr} {cap b off c : Nat} {s : Nat × Nat} (w : World) (h : Cur w cs a cap b off c s) :
    Calls Try.prog 75 #[.pointer (some ⟨c, 0, none⟩)] w fun e w' => e = .returned (.int .i64 (cByte cs s).1) ∧ Out c (c + 1) w w' ∧ w'.heap.size = w.heap.size ∧ Cur w' cs a cap b off c (cByte cs s).2 := by
  obtain ⟨at_, seed⟩ := s
  obtain ⟨h0, h1, h2, h3, h4, h5, h6, h7, h8⟩ := h
  dsimp only at h0 h1 h8
  obtain ⟨x0, x1, x2⟩ := h8.cells
  have y1 := h8.frozen 1
  have y2 := h8.frozen 2
  have H7 := (show Hid _ from h7); clear h7
  by_cases hlt : at_ < cs.length
  · have e : cByte cs (at_, seed) = (cs[at_].toNat, (at_ + 1, seed)) := dif_pos hlt
    rw [e]
    dsimp only
    obtain rfl := h6 (by omega)
    have b0 := H7.out at_ hlt
    have hx := h8.set1 (.int .i64 ((at_ : Int) + 1))
    obtain ⟨z0, z1, z2⟩ := hx.cells
    have b1 : (w.setCell ⟨c, 1, none⟩ (.int .i64 ((at_ : Int) + 1))).cell? ⟨b, off + at_, none⟩ = some (.int .u8 cs[at_].toNat) := (World.cell?_of_block (w := w) (blk_setCell_other _ _ _ _ (by show b ≠ c; omega))).trans b0
    have H8 := (show Hid _ from hx); clear hx h8 b0
    have hu : (cs[at_].toNat : Int) < 256 := by have := (cs[at_]).toNat_lt; omega
    generalize cs[at_].toNat = q at *
    clear e h6
    have hsub : (at_ : Int) + 1 - 1 = at_ := by omega
    go_enter Try.func75, Try.ntmps75
    go_wp2_with fail
    go_region
    go_wp2_with fail
    go_region
    go_wp2_with fail
    go_ret
    refine ⟨rfl, (Out.set _ _ (Nat.le_refl _) (by omega)).drew.drew, by simp [World.drew, World.setCell], ?_⟩
    have hB : Byts w cs b off := H7.out
    exact Cur.drew (Cur.drew ⟨by dsimp only; omega, h1, h2, h3, h4, h5, fun _ => rfl, hB.set h5, H8.out⟩)
  · have e : cByte cs (at_, seed) = (if cs.length = 0 then 0 else (seed * 1103515245 + 12345) % 2147483648 / 65536 % 256, (at_, (seed * 1103515245 + 12345) % 2147483648)) := dif_neg hlt
    rw [e]
    dsimp only
    have hge : (cs.length : Int) ≤ at_ := by omega
    have r1 : ((seed : Int) * 1103515245 + 12345).tmod 2147483648 = ((seed * 1103515245 + 12345) % 2147483648 : Nat) := by
      rw [Int.tmod_eq_emod_of_nonneg (by omega)]; omega
    have hx := h8.set2 (.int .i64 ((seed * 1103515245 + 12345) % 2147483648 : Nat))
    have hlt2 : (seed * 1103515245 + 12345) % 2147483648 < 2147483648 := Nat.mod_lt _ (by decide)
    generalize hq : (seed * 1103515245 + 12345) % 2147483648 = q at *
    obtain ⟨z0, z1, z2⟩ := hx.cells
    have H8 := (show Hid _ from hx); clear hx h8 hq e
    by_cases hl0 : cs.length = 0
    · rw [if_pos hl0]
      go_enter Try.func75, Try.ntmps75
      go_wp2_with fail
      go_region
      go_wp2_with fail
      go_ret
      refine ⟨rfl, (Out.set _ _ (Nat.le_refl _) (by omega)).drew, by simp [World.drew, World.setCell], ?_⟩
      have hB : Byts w cs b off := H7.out
      exact Cur.drew ⟨h0, hlt2, h2, h3, h4, h5, h6, hB.set h5, H8.out⟩
    · rw [if_neg hl0]
      have r2 : ((q : Int).tdiv 65536).tmod 256 = (q / 65536 % 256 : Nat) := by
        rw [Int.tdiv_eq_ediv_of_nonneg (by omega), Int.tmod_eq_emod_of_nonneg (by omega)]; omega
      go_enter Try.func75, Try.ntmps75
      go_wp2_with fail
      go_region
      go_wp2_with fail
      go_ret
      refine ⟨ret_int (by omega), (Out.set _ _ (Nat.le_refl _) (by omega)).drew, by simp [World.drew, World.setCell], ?_⟩
      have hB : Byts w cs b off := H7.out
      exact Cur.drew ⟨h0, hlt2, h2, h3, h4, h5, h6, hB.set h5, H8.out⟩

/-- A number drawn from 0 to n - 1. -/
def cPick (cs : List UInt8) (n : Nat) (s : Nat × Nat) : Nat × (Nat × Nat) :=
  if n ≤ 1 then (0, s) else if n ≤ 256 then ((cByte cs s).1 % n, (cByte cs s).2)
  else (((cByte cs s).1 * 256 + (cByte cs (cByte cs s).2).1) % n, (cByte cs (cByte cs s).2).2)
theorem cPick_lt (cs : List UInt8) (n : Nat) (s : Nat × Nat) (hn : 0 < n) : (cPick cs n s).1 < n := by
  unfold cPick
  split
  · exact hn
  · split <;> exact Nat.mod_lt _ hn

set_option maxHeartbeats 800000 in
theorem pick_any {cs : List UInt8} {a : Option Addr} {cap b off c : Nat} {s : Nat × Nat} (n : Nat) (w : World) (h : Cur w cs a cap b off c s) (hn : n ≤ 1048576) :
    Calls Try.prog 30 #[.pointer (some ⟨c, 0, none⟩), .int .i64 n] w fun e w' => e = .returned (.int .i64 (cPick cs n s).1) ∧ Out c (c + 1) w w' ∧ w'.heap.size = w.heap.size ∧ Cur w' cs a cap b off c (cPick cs n s).2 := by
  have HC := (show Hid _ from h); clear h
  by_cases h1 : n ≤ 1
  · have e : cPick cs n s = (0, s) := if_pos h1
    rw [e]
    have h1' : (n : Int) ≤ 1 := by omega
    go_enter Try.func30, Try.ntmps30
    go_wp2_with fail
    go_ret
    exact ⟨rfl, Out.refl _ _ _, rfl, HC.out⟩
  · by_cases h2 : n ≤ 256
    · have e : cPick cs n s = ((cByte cs s).1 % n, (cByte cs s).2) := by unfold cPick; rw [if_neg h1, if_pos h2]
      rw [e]
      have h1' : (1 : Int) < n := by omega
      have h2' : (n : Int) ≤ 256 := by omega
      have hl := cByte_lt cs s
      have hcl := byte_any w HC.out
      have HCL := (show Hid _ from hcl); clear hcl
      generalize cByte cs s = q at *
      obtain ⟨q, s1⟩ := q
      dsimp only at hl
      go_enter Try.func30, Try.ntmps30
      go_wp2_with fail
      refine Calls.mono HCL.out ?_
      rintro e w1 ⟨rfl, ho1, hs1, hc1⟩
      dsimp only at hc1 ⊢
      have H1 := (show Hid _ from (⟨ho1, hs1, hc1⟩ : _ ∧ _ ∧ _)); clear ho1 hs1 hc1
      go_wp2_with fail
      go_ret
      exact ⟨ret_int (by simp), H1.out⟩
    · have e : cPick cs n s = (((cByte cs s).1 * 256 + (cByte cs (cByte cs s).2).1) % n, (cByte cs (cByte cs s).2).2) := by unfold cPick; rw [if_neg h1, if_neg h2]
      rw [e]
      have h1' : (1 : Int) < n := by omega
      have h2' : (256 : Int) < n := by omega
      have hl := cByte_lt cs s
      have hcl := byte_any w HC.out
      have HCL := (show Hid _ from hcl); clear hcl
      generalize cByte cs s = q at *
      obtain ⟨q, s1⟩ := q
      dsimp only at hl ⊢
      have hl2 := cByte_lt cs s1
      have hby : ∀ w1, Cur w1 cs a cap b off c s1 → Calls Try.prog 75 #[.pointer (some ⟨c, 0, none⟩)] w1 fun e w' => e = .returned (.int .i64 (cByte cs s1).1) ∧ Out c (c + 1) w1 w' ∧ w'.heap.size = w1.heap.size ∧ Cur w' cs a cap b off c (cByte cs s1).2 := fun w1 h => byte_any w1 h
      have HBY := (show Hid _ from hby); clear hby
      generalize cByte cs s1 = q2 at *
      obtain ⟨q2, s2⟩ := q2
      dsimp only at hl2 ⊢
      go_enter Try.func30, Try.ntmps30
      go_wp2_with fail
      refine Calls.mono HCL.out ?_
      rintro e w1 ⟨rfl, ho1, hs1, hc1⟩
      dsimp only at hc1 ⊢
      have hcl := HBY.out w1 hc1
      have HCL := (show Hid _ from hcl); clear hcl hc1
      go_wp2_with fail
      refine Calls.mono HCL.out ?_
      rintro e w2 ⟨rfl, ho2, hs2, hc2⟩
      dsimp only at hc2 ⊢
      have H1 := (show Hid _ from (⟨ho1.trans ho2, hs2.trans hs1, hc2⟩ : _ ∧ _ ∧ _)); clear ho1 hs1 hc2 ho2 hs2
      go_wp2_with fail
      go_ret
      exact ⟨ret_int (by simp), H1.out⟩

/-- A cursor, made. -/
theorem drawCur_any {cs : List UInt8} {a : Option Addr} {cap b off : Nat} (w : World) (h2 : cs.length ≤ 1048576) (h3 : cs.length ≤ cap) (h4 : cap ≤ 2 ^ 63 - 1) (hb : 0 < cs.length → b < w.heap.size) (h6 : 0 < cs.length → a = some ⟨b, off, none⟩) (h7 : Byts w cs b off) :
    Calls Try.prog 28 #[.slice a cs.length cap] w fun e w' => e = .returned (.pointer (some ⟨w.heap.size, 0, none⟩)) ∧ Below w.heap.size w w' ∧ w'.heap.size = w.heap.size + 1 ∧ Cur w' cs a cap b off w.heap.size (0, 17 + cs.length) := by
  have HB := (show Hid _ from h7); clear h7
  go_enter Try.func28, Try.ntmps28
  go_wp2_with fail
  go_ret
  have hB : Byts w cs b off := HB.out
  refine ⟨rfl, bel_alloc _ _, by simp, Nat.zero_le _, by dsimp only; omega, h2, h3, h4, hb, h6, fun i hi => ((bel_alloc w _).cell (lt_of_cell (hB i hi))).trans (hB i hi), ?_⟩
  have := Box3.new w (.slice a cs.length cap) (.int .i64 0) (.int .i64 (17 + cs.length : Nat))
  simpa using this
end Go.Proofs.Ytledclkmeikgdaa.T

namespace Go.Proofs.Ytledclkmeikgdaa.T
open Go.RowKit Go.Deep Go.Lib
set_option linter.unusedVariables false
set_option maxRecDepth 100000
set_option linter.unusedSimpArgs false

/-- One of a list of texts. -/
def pickOf (l : List ByteArray) (i : Nat) : ByteArray := (l[i]?).getD ⟨#[]⟩
theorem pickOf_size {l : List ByteArray} {m : Nat} (h : l.all (fun x => decide (x.size ≤ m)) = true) (i : Nat) : (pickOf l i).size ≤ m := by
  unfold pickOf
  cases e : l[i]? with
  | none => exact Nat.zero_le _
  | some x => exact of_decide_eq_true (List.all_eq_true.1 h x (List.mem_of_getElem? e))
theorem cell_pick (w : World) (l : List ByteArray) (T : TypeId) (cs : Array Value) (hcs : cs = (l.map Value.string).toArray) (i : Nat) (hi : i < l.length) : (w.alloc (.cells cs T)).cell? ⟨w.heap.size, i, none⟩ = some (.string (pickOf l i)) := by
  subst hcs
  simp [go_sem, pickOf, hi]
theorem Out.cell {lo hi : Nat} {w w' : World} (h : Out lo hi w w') {k o : Nat} {v : Value} (hc : w.cell? ⟨k, o, none⟩ = some v) (hk : k < lo ∨ hi ≤ k) : w'.cell? ⟨k, o, none⟩ = some v :=
  (World.cell?_of_block (w := w) (h.2.2.2.2 k (lt_of_cell hc) hk)).trans hc

theorem leafD_any (n x : ByteArray) (w : World) : Calls Try.prog 47 #[.string n, .string x] w fun e w' => e = .returned (.agg #[.string n, .string x, .bool true, .slice none 0 0]) ∧ Below w.heap.size w w' := by
  go_enter Try.func47, Try.ntmps47
  go_wp2_with fail
  refine bodyPost_ret (v := .agg #[.string n, .string x, .bool true, .slice none 0 0]) (by simp [results, Try.results47, go_sem]) rfl ⟨rfl, ?_⟩
  exact bel_alloc _ _
theorem nodeD_any (n : ByteArray) (a : Option Addr) (m c : Nat) (w : World) : Calls Try.prog 48 #[.string n, .slice a m c] w fun e w' => e = .returned (.agg #[.string n, .string ByteArray.empty, .bool false, .slice a m c]) ∧ Below w.heap.size w w' := by
  go_enter Try.func48, Try.ntmps48
  go_wp2_with fail
  refine bodyPost_ret (v := .agg #[.string n, .string ByteArray.empty, .bool false, .slice a m c]) (by simp [results, Try.results48, go_sem]; rfl) rfl ⟨rfl, ?_⟩
  exact bel_alloc _ _
end Go.Proofs.Ytledclkmeikgdaa.T
