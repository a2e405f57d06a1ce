import Derived.Test.YtbgoikaelmacbaaMark
import Derived.Deep.RegionWith
import Derived.Test.YtbgoikaelmacbaaGrow
import Derived.Test.YtbgoikaelmacbaaOutw
namespace Go.Proofs.Ytbgoikaelmacbaa
open Go.RowKit Go.Deep Go.Lib
set_option linter.unusedVariables false
set_option maxRecDepth 100000
set_option linter.unusedSimpArgs false

/-- Bytes in memory. -/
def Byts (w : World) (cs : List UInt8) (b off : Nat) : Prop := ∀ i (hi : i < cs.length), w.cell? ⟨b, off + i, none⟩ = some (.int .u8 cs[i].toNat)
/-- The block of a cursor. -/
def Box3 (w : World) (c : Nat) (c0 c1 c2 : Value) : Prop := ∃ f, w.rowIs c 71 3 f ∧ f 0 = c0 ∧ f 1 = c1 ∧ f 2 = c2
theorem Box3.lt {w : World} {b : Nat} {c0 c1 c2 : Value} (h : Box3 w b c0 c1 c2) : b < w.heap.size := by
  obtain ⟨f, h, _⟩ := h; exact h.lt
theorem Box3.new (w : World) (c0 c1 c2 : Value) : Box3 (w.alloc (.cells #[c0, c1, c2] 71)) w.heap.size c0 c1 c2 :=
  ⟨fun i => (#[c0, c1, c2][i]?).getD c0, ⟨#[c0, c1, c2], blk_alloc_new _ _, rfl, fun i hi => by simp [hi]⟩, rfl, rfl, rfl⟩
theorem Box3.keep {w w' : World} {b : Nat} {c0 c1 c2 : Value} (h : Box3 w b c0 c1 c2) (hb : w'.heap[b]? = w.heap[b]?) : Box3 w' b c0 c1 c2 := by
  obtain ⟨f, h, e⟩ := h; exact ⟨f, h.of_block hb, e⟩
theorem Box3.cells {w : World} {b : Nat} {c0 c1 c2 : Value} (h : Box3 w b c0 c1 c2) : w.cell? ⟨b, 0, none⟩ = some c0 ∧ w.cell? ⟨b, 1, none⟩ = some c1 ∧ w.cell? ⟨b, 2, none⟩ = some c2 := by
  obtain ⟨f, h, rfl, rfl, rfl⟩ := h
  exact ⟨h.cell (by omega), h.cell (by omega), h.cell (by omega)⟩
theorem Box3.frozen {w : World} {b : Nat} {c0 c1 c2 : Value} (h : Box3 w b c0 c1 c2) (i : Nat) : w.frozen? ⟨b, i, none⟩ = false := by
  obtain ⟨f, h, _⟩ := h; exact h.frozen i
theorem Box3.set1 {w : World} {b : Nat} {c0 c1 c2 : Value} (h : Box3 w b c0 c1 c2) (u : Value) : Box3 (w.setCell ⟨b, 1, none⟩ u) b c0 u c2 := by
  obtain ⟨f, h, rfl, rfl, rfl⟩ := h
  exact ⟨_, h.set 1 u, if_neg (by omega), if_pos rfl, if_neg (by omega)⟩
theorem Box3.set2 {w : World} {b : Nat} {c0 c1 c2 : Value} (h : Box3 w b c0 c1 c2) (u : Value) : Box3 (w.setCell ⟨b, 2, none⟩ u) b c0 c1 u := by
  obtain ⟨f, h, rfl, rfl, rfl⟩ := h
  exact ⟨_, h.set 2 u, if_neg (by omega), if_neg (by omega), if_pos rfl⟩

/-- A cursor over bytes: how many are drawn, and the seed of those behind them. -/
def Cur (w : World) (cs : List UInt8) (a : Option Addr) (cap b off c : Nat) (s : Nat × Nat) : Prop :=
  s.1 ≤ cs.length ∧ s.2 < 2147483648 ∧ cs.length ≤ 1048576 ∧ cs.length ≤ cap ∧ cap ≤ 2 ^ 63 - 1 ∧ (0 < cs.length → b < c) ∧ (0 < cs.length → a = some ⟨b, off, none⟩) ∧ Byts w cs b off ∧ Box3 w c (.slice a cs.length cap) (.int .i64 s.1) (.int .i64 s.2)
theorem Cur.keep {w w' : World} {cs : List UInt8} {a : Option Addr} {cap b off c : Nat} {s : Nat × Nat} (h : Cur w cs a cap b off c s) (hk : ∀ k, k ≤ c → w'.heap[k]? = w.heap[k]?) : Cur w' cs a cap b off c s := by
  obtain ⟨h0, h1, h2, h3, h4, h5, h6, h7, h8⟩ := h
  exact ⟨h0, h1, h2, h3, h4, h5, h6, fun i hi => (World.cell?_of_block (w := w) (hk b (by have := h5 (by omega); omega))).trans (h7 i hi), h8.keep (hk c (Nat.le_refl _))⟩
theorem Cur.still {w w' : World} {cs : List UInt8} {a : Option Addr} {cap b off c : Nat} {s : Nat × Nat} (h : Cur w cs a cap b off c s) (hb : Below w.heap.size w w') : Cur w' cs a cap b off c s :=
  h.keep (fun k hk => hb.block k (by have := h.2.2.2.2.2.2.2.2.lt; omega))

theorem Out.drew {lo hi : Nat} {w w' : World} (h : Out lo hi w w') : Out lo hi w w'.drew := ⟨h.1, h.2.1, h.2.2.1, h.2.2.2.1, h.2.2.2.2⟩
theorem Cur.drew {w : World} {cs : List UInt8} {a : Option Addr} {cap b off c : Nat} {s : Nat × Nat} (h : Cur w cs a cap b off c s) : Cur w.drew cs a cap b off c s := h.keep (fun _ _ => rfl)
theorem Byts.set {w : World} {cs : List UInt8} {b off c o : Nat} {x : Value} (h : Byts w cs b off) (hb : 0 < cs.length → b < c) : Byts (w.setCell ⟨c, o, none⟩ x) cs b off := fun i hi => (World.cell?_of_block (w := w) (blk_setCell_other _ _ _ _ (by show b ≠ c; have := hb (by omega); omega))).trans (h i hi)

/-- The next byte. -/
def cByte (cs : List UInt8) (s : Nat × Nat) : Nat × (Nat × Nat) :=
  if h : s.1 < cs.length then (cs[s.1].toNat, (s.1 + 1, s.2))
  else (if cs.length = 0 then 0 else (s.2 * 1103515245 + 12345) % 2147483648 / 65536 % 256, (s.1, (s.2 * 1103515245 + 12345) % 2147483648))
theorem cByte_lt (cs : List UInt8) (s : Nat × Nat) : (cByte cs s).1 < 256 := by
  unfold cByte
  split
  · exact (cs[s.1]).toNat_lt
  · dsimp only
    split <;> omega

set_option maxHeartbeats 800000 in
theorem byte_any {cs : List UInt8} {a : Option Addr} {cap b off c : Nat} {s : Nat × Nat} (w : World) (h : Cur w cs a cap b off c s) :
    Calls Try.prog 40 #[.pointer (some ⟨c, 0, none⟩)] w fun e w' => e = .returned (.int .i64 (cByte cs s).1) ∧ Out c (c + 1) w w' ∧ w'.heap.size = w.heap.size ∧ Cur w' cs a cap b off c (cByte cs s).2 := by
  obtain ⟨at_, seed⟩ := s
  obtain ⟨h0, h1, h2, h3, h4, h5, h6, h7, h8⟩ := h
  dsimp only at h0 h1 h8
  obtain ⟨x0, x1, x2⟩ := h8.cells
  have y1 := h8.frozen 1
  have y2 := h8.frozen 2
  have H7 := (show Hid _ from h7); clear h7
  by_cases hlt : at_ < cs.length
  · have e : cByte cs (at_, seed) = (cs[at_].toNat, (at_ + 1, seed)) := dif_pos hlt
    rw [e]
    dsimp only
    obtain rfl := h6 (by omega)
    have b0 := H7.out at_ hlt
    have hx := h8.set1 (.int .i64 ((at_ : Int) + 1))
    obtain ⟨z0, z1, z2⟩ := hx.cells
    have b1 : (w.setCell ⟨c, 1, none⟩ (.int .i64 ((at_ : Int) + 1))).cell? ⟨b, off + at_, none⟩ = some (.int .u8 cs[at_].toNat) := (World.cell?_of_block (w := w) (blk_setCell_other _ _ _ _ (by show b ≠ c; omega))).trans b0
    have H8 := (show Hid _ from hx); clear hx h8 b0
    have hu : (cs[at_].toNat : Int) < 256 := by have := (cs[at_]).toNat_lt; omega
    generalize cs[at_].toNat = q at *
    clear e h6
    have hsub : (at_ : Int) + 1 - 1 = at_ := by omega
    go_enter Try.func40, Try.ntmps40
    go_wp2_with fail
    go_region
    go_wp2_with fail
    go_region
    go_wp2_with fail
    go_ret
    refine ⟨rfl, (Out.set _ _ (Nat.le_refl _) (by omega)).drew.drew, by simp [World.drew, World.setCell], ?_⟩
    have hB : Byts w cs b off := H7.out
    exact Cur.drew (Cur.drew ⟨by dsimp only; omega, h1, h2, h3, h4, h5, fun _ => rfl, hB.set h5, H8.out⟩)
  · have e : cByte cs (at_, seed) = (if cs.length = 0 then 0 else (seed * 1103515245 + 12345) % 2147483648 / 65536 % 256, (at_, (seed * 1103515245 + 12345) % 2147483648)) := dif_neg hlt
    rw [e]
    dsimp only
    have hge : (cs.length : Int) ≤ at_ := by omega
    have r1 : ((seed : Int) * 1103515245 + 12345).tmod 2147483648 = ((seed * 1103515245 + 12345) % 2147483648 : Nat) := by
      rw [Int.tmod_eq_emod_of_nonneg (by omega)]; omega
    have hx := h8.set2 (.int .i64 ((seed * 1103515245 + 12345) % 2147483648 : Nat))
    have hlt2 : (seed * 1103515245 + 12345) % 2147483648 < 2147483648 := Nat.mod_lt _ (by decide)
    generalize hq : (seed * 1103515245 + 12345) % 2147483648 = q at *
    obtain ⟨z0, z1, z2⟩ := hx.cells
    have H8 := (show Hid _ from hx); clear hx h8 hq e
    by_cases hl0 : cs.length = 0
    · rw [if_pos hl0]
      go_enter Try.func40, Try.ntmps40
      go_wp2_with fail
      go_region
      go_wp2_with fail
      go_ret
      refine ⟨rfl, (Out.set _ _ (Nat.le_refl _) (by omega)).drew, by simp [World.drew, World.setCell], ?_⟩
      have hB : Byts w cs b off := H7.out
      exact Cur.drew ⟨h0, hlt2, h2, h3, h4, h5, h6, hB.set h5, H8.out⟩
    · rw [if_neg hl0]
      have r2 : ((q : Int).tdiv 65536).tmod 256 = (q / 65536 % 256 : Nat) := by
        rw [Int.tdiv_eq_ediv_of_nonneg (by omega), Int.tmod_eq_emod_of_nonneg (by omega)]; omega
      go_enter Try.func40, Try.ntmps40
      go_wp2_with fail
      go_region
      go_wp2_with fail
      go_ret
      refine ⟨ret_int (by omega), (Out.set _ _ (Nat.le_refl _) (by omega)).drew, by simp [World.drew, World.setCell], ?_⟩
      have hB : Byts w cs b off := H7.out
      exact Cur.drew ⟨h0, hlt2, h2, h3, h4, h5, h6, hB.set h5, H8.out⟩

/-- A number drawn from 0 to n - 1. -/
def cPick (cs : List UInt8) (n : Nat) (s : Nat × Nat) : Nat × (Nat × Nat) :=
  if n ≤ 1 then (0, s) else if n ≤ 256 then ((cByte cs s).1 % n, (cByte cs s).2)
  else (((cByte cs s).1 * 256 + (cByte cs (cByte cs s).2).1) % n, (cByte cs (cByte cs s).2).2)
theorem cPick_lt (cs : List UInt8) (n : Nat) (s : Nat × Nat) (hn : 0 < n) : (cPick cs n s).1 < n := by
  unfold cPick
  split
  · exact hn
  · split <;> exact Nat.mod_lt _ hn

set_option maxHeartbeats 800000 in
theorem pick_any {cs : List UInt8} {a : Option Addr} {cap b off c : Nat} {s : Nat × Nat} (n : Nat) (w : World) (h : Cur w cs a cap b off c s) (hn : n ≤ 1048576) :
    Calls Try.prog 17 #[.pointer (some ⟨c, 0, none⟩), .int .i64 n] w fun e w' => e = .returned (.int .i64 (cPick cs n s).1) ∧ Out c (c + 1) w w' ∧ w'.heap.size = w.heap.size ∧ Cur w' cs a cap b off c (cPick cs n s).2 := by
  have HC := (show Hid _ from h); clear h
  by_cases h1 : n ≤ 1
  · have e : cPick cs n s = (0, s) := if_pos h1
    rw [e]
    have h1' : (n : Int) ≤ 1 := by omega
    go_enter Try.func17, Try.ntmps17
    go_wp2_with fail
    go_ret
    exact ⟨rfl, Out.refl _ _ _, rfl, HC.out⟩
  · by_cases h2 : n ≤ 256
    · have e : cPick cs n s = ((cByte cs s).1 % n, (cByte cs s).2) := by unfold cPick; rw [if_neg h1, if_pos h2]
      rw [e]
      have h1' : (1 : Int) < n := by omega
      have h2' : (n : Int) ≤ 256 := by omega
      have hl := cByte_lt cs s
      have hcl := byte_any w HC.out
      have HCL := (show Hid _ from hcl); clear hcl
      generalize cByte cs s = q at *
      obtain ⟨q, s1⟩ := q
      dsimp only at hl
      go_enter Try.func17, Try.ntmps17
      go_wp2_with fail
      refine Calls.mono HCL.out ?_
      rintro e w1 ⟨rfl, ho1, hs1, hc1⟩
      dsimp only at hc1 ⊢
      have H1 := (show Hid _ from (⟨ho1, hs1, hc1⟩ : _ ∧ _ ∧ _)); clear ho1 hs1 hc1
      go_wp2_with fail
      go_ret
      exact ⟨ret_int (by simp), H1.out⟩
    · have e : cPick cs n s = (((cByte cs s).1 * 256 + (cByte cs (cByte cs s).2).1) % n, (cByte cs (cByte cs s).2).2) := by unfold cPick; rw [if_neg h1, if_neg h2]
      rw [e]
      have h1' : (1 : Int) < n := by omega
      have h2' : (256 : Int) < n := by omega
      have hl := cByte_lt cs s
      have hcl := byte_any w HC.out
      have HCL := (show Hid _ from hcl); clear hcl
      generalize cByte cs s = q at *
      obtain ⟨q, s1⟩ := q
      dsimp only at hl ⊢
      have hl2 := cByte_lt cs s1
      have hby : ∀ w1, Cur w1 cs a cap b off c s1 → Calls Try.prog 40 #[.pointer (some ⟨c, 0, none⟩)] w1 fun e w' => e = .returned (.int .i64 (cByte cs s1).1) ∧ Out c (c + 1) w1 w' ∧ w'.heap.size = w1.heap.size ∧ Cur w' cs a cap b off c (cByte cs s1).2 := fun w1 h => byte_any w1 h
      have HBY := (show Hid _ from hby); clear hby
      generalize cByte cs s1 = q2 at *
      obtain ⟨q2, s2⟩ := q2
      dsimp only at hl2 ⊢
      go_enter Try.func17, Try.ntmps17
      go_wp2_with fail
      refine Calls.mono HCL.out ?_
      rintro e w1 ⟨rfl, ho1, hs1, hc1⟩
      dsimp only at hc1 ⊢
      have hcl := HBY.out w1 hc1
      have HCL := (show Hid _ from hcl); clear hcl hc1
      go_wp2_with fail
      refine Calls.mono HCL.out ?_
      rintro e w2 ⟨rfl, ho2, hs2, hc2⟩
      dsimp only at hc2 ⊢
      have H1 := (show Hid _ from (⟨ho1.trans ho2, hs2.trans hs1, hc2⟩ : _ ∧ _ ∧ _)); clear ho1 hs1 hc2 ho2 hs2
      go_wp2_with fail
      go_ret
      exact ⟨ret_int (by simp), H1.out⟩

/-- A size that grows with the code. -/
def cSize (cs : List UInt8) (most : Nat) (s : Nat × Nat) : Nat × (Nat × Nat) := cPick cs (min (cs.length / 12 + 2) most + 1) s
set_option maxHeartbeats 800000 in
theorem size_any {cs : List UInt8} {a : Option Addr} {cap b off c : Nat} {s : Nat × Nat} (n : Nat) (w : World) (h : Cur w cs a cap b off c s) (hn : n ≤ 1000) :
    Calls Try.prog 46 #[.pointer (some ⟨c, 0, none⟩), .int .i64 n] w fun e w' => e = .returned (.int .i64 (cSize cs n s).1) ∧ Out c (c + 1) w w' ∧ w'.heap.size = w.heap.size ∧ Cur w' cs a cap b off c (cSize cs n s).2 := by
  have hc := h
  obtain ⟨h0, h1, h2, h3, h4, h5, h6, h7, h8⟩ := h
  obtain ⟨x0, x1, x2⟩ := h8.cells
  have e0 : cSize cs n s = cPick cs (min (cs.length / 12 + 2) n + 1) s := rfl
  rw [e0]
  by_cases hm : n < cs.length / 12 + 2
  · have e : min (cs.length / 12 + 2) n = n := by omega
    rw [e]
    have hcl : Calls Try.prog 17 #[.pointer (some ⟨c, 0, none⟩), .int .i64 ((n : Int) + 1)] w _ := pick_any (n + 1) w hc (by omega)
    have HCL := (show Hid _ from hcl); clear hcl
    clear h7 h8 hc e0 e
    have hm' : (n : Int) < (cs.length : Int) / 12 + 2 := by omega
    go_enter Try.func46, Try.ntmps46
    go_wp2_with fail
    refine Calls.mono HCL.out ?_
    rintro e w1 ⟨rfl, H1⟩
    go_wp2_with fail
    go_ret
    exact ⟨rfl, H1⟩
  · have e : min (cs.length / 12 + 2) n = cs.length / 12 + 2 := by omega
    rw [e]
    have hcl : Calls Try.prog 17 #[.pointer (some ⟨c, 0, none⟩), .int .i64 ((cs.length : Int) / 12 + 2 + 1)] w _ := pick_any (cs.length / 12 + 2 + 1) w hc (by omega)
    have HCL := (show Hid _ from hcl); clear hcl
    clear h7 h8 hc e0 e
    have hm' : (cs.length : Int) / 12 + 2 ≤ (n : Int) := by omega
    go_enter Try.func46, Try.ntmps46
    go_wp2_with fail
    refine Calls.mono HCL.out ?_
    rintro e w1 ⟨rfl, H1⟩
    go_wp2_with fail
    go_ret
    exact ⟨rfl, H1⟩

/-- A cursor, made. -/
theorem drawCur_any {cs : List UInt8} {a : Option Addr} {cap b off : Nat} (w : World) (h2 : cs.length ≤ 1048576) (h3 : cs.length ≤ cap) (h4 : cap ≤ 2 ^ 63 - 1) (hb : 0 < cs.length → b < w.heap.size) (h6 : 0 < cs.length → a = some ⟨b, off, none⟩) (h7 : Byts w cs b off) :
    Calls Try.prog 14 #[.slice a cs.length cap] w fun e w' => e = .returned (.pointer (some ⟨w.heap.size, 0, none⟩)) ∧ Below w.heap.size w w' ∧ w'.heap.size = w.heap.size + 1 ∧ Cur w' cs a cap b off w.heap.size (0, 17 + cs.length) := by
  have HB := (show Hid _ from h7); clear h7
  go_enter Try.func14, Try.ntmps14
  go_wp2_with fail
  go_ret
  have hB : Byts w cs b off := HB.out
  refine ⟨rfl, bel_alloc _ _, by simp, Nat.zero_le _, by dsimp only; omega, h2, h3, h4, hb, h6, fun i hi => ((bel_alloc w _).cell (lt_of_cell (hB i hi))).trans (hB i hi), ?_⟩
  have := Box3.new w (.slice a cs.length cap) (.int .i64 0) (.int .i64 (17 + cs.length : Nat))
  simpa using this
end Go.Proofs.Ytbgoikaelmacbaa

namespace Go.Proofs.Ytbgoikaelmacbaa
open Go.RowKit Go.Deep Go.Lib
set_option linter.unusedVariables false
set_option maxRecDepth 100000
set_option linter.unusedSimpArgs false

/-- One of a list of texts. -/
def pickOf (l : List ByteArray) (i : Nat) : ByteArray := (l[i]?).getD ⟨#[]⟩
theorem pickOf_size {l : List ByteArray} {m : Nat} (h : l.all (fun x => decide (x.size ≤ m)) = true) (i : Nat) : (pickOf l i).size ≤ m := by
  unfold pickOf
  cases e : l[i]? with
  | none => exact Nat.zero_le _
  | some x => exact of_decide_eq_true (List.all_eq_true.1 h x (List.mem_of_getElem? e))
theorem cell_pick (w : World) (l : List ByteArray) (T : TypeId) (cs : Array Value) (hcs : cs = (l.map Value.string).toArray) (i : Nat) (hi : i < l.length) : (w.alloc (.cells cs T)).cell? ⟨w.heap.size, i, none⟩ = some (.string (pickOf l i)) := by
  subst hcs
  simp [go_sem, pickOf, hi]
theorem Out.cell {lo hi : Nat} {w w' : World} (h : Out lo hi w w') {k o : Nat} {v : Value} (hc : w.cell? ⟨k, o, none⟩ = some v) (hk : k < lo ∨ hi ≤ k) : w'.cell? ⟨k, o, none⟩ = some v :=
  (World.cell?_of_block (w := w) (h.2.2.2.2 k (lt_of_cell hc) hk)).trans hc

def nmL : List ByteArray := [⟨#[65, 100, 100]⟩, ⟨#[78, 117, 109]⟩, ⟨#[73, 100]⟩, ⟨#[97]⟩, ⟨#[98]⟩, ⟨#[120, 49]⟩, ⟨#[90, 95, 122]⟩, ⟨#[76, 105, 115, 116]⟩, ⟨#[73, 102]⟩, ⟨#[97, 98, 99, 100, 101, 102, 103, 104, 105, 106, 107, 108, 109, 110, 111, 112, 113, 114, 115, 116, 117, 118, 119, 120]⟩]
def txL : List ByteArray := [⟨#[]⟩, ⟨#[49]⟩, ⟨#[43]⟩, ⟨#[120]⟩, ⟨#[97, 32, 98]⟩, ⟨#[34]⟩, ⟨#[92, 10]⟩, ⟨#[0, 255, 126]⟩, ⟨#[49, 50]⟩, ⟨#[127]⟩, ⟨#[105, 102]⟩]
def cName (cs : List UInt8) (s : Nat × Nat) : ByteArray × (Nat × Nat) := (pickOf nmL (cPick cs 10 s).1, (cPick cs 10 s).2)
def cText (cs : List UInt8) (s : Nat × Nat) : ByteArray × (Nat × Nat) := (pickOf txL (cPick cs 11 s).1, (cPick cs 11 s).2)
theorem cName_size (cs : List UInt8) (s : Nat × Nat) : (cName cs s).1.size ≤ 24 := pickOf_size (by decide) _
theorem cText_size (cs : List UInt8) (s : Nat × Nat) : (cText cs s).1.size ≤ 3 := pickOf_size (by decide) _

set_option maxHeartbeats 800000 in
theorem nameD_any {cs : List UInt8} {a : Option Addr} {cap b off c : Nat} {s : Nat × Nat} (w : World) (h : Cur w cs a cap b off c s) :
    Calls Try.prog 62 #[.pointer (some ⟨c, 0, none⟩)] w fun e w' => e = .returned (.string (cName cs s).1) ∧ Out c (c + 1) w w' ∧ Cur w' cs a cap b off c (cName cs s).2 := by
  have hc := h.2.2.2.2.2.2.2.2.lt
  have hcl := pick_any 10 _ (h.still (bel_alloc w (.cells #[.string ⟨#[65, 100, 100]⟩, .string ⟨#[78, 117, 109]⟩, .string ⟨#[73, 100]⟩, .string ⟨#[97]⟩, .string ⟨#[98]⟩, .string ⟨#[120, 49]⟩, .string ⟨#[90, 95, 122]⟩, .string ⟨#[76, 105, 115, 116]⟩, .string ⟨#[73, 102]⟩, .string ⟨#[97, 98, 99, 100, 101, 102, 103, 104, 105, 106, 107, 108, 109, 110, 111, 112, 113, 114, 115, 116, 117, 118, 119, 120]⟩] 9))) (by decide)
  have hl := cPick_lt cs 10 s (by decide)
  have e : cName cs s = (pickOf nmL (cPick cs 10 s).1, (cPick cs 10 s).2) := rfl
  rw [e]
  have HCL := (show Hid _ from hcl); clear hcl h e
  generalize cPick cs 10 s = q at *
  obtain ⟨q, s1⟩ := q
  dsimp only at hl ⊢
  have x0 := cell_pick w nmL 9 #[.string ⟨#[65, 100, 100]⟩, .string ⟨#[78, 117, 109]⟩, .string ⟨#[73, 100]⟩, .string ⟨#[97]⟩, .string ⟨#[98]⟩, .string ⟨#[120, 49]⟩, .string ⟨#[90, 95, 122]⟩, .string ⟨#[76, 105, 115, 116]⟩, .string ⟨#[73, 102]⟩, .string ⟨#[97, 98, 99, 100, 101, 102, 103, 104, 105, 106, 107, 108, 109, 110, 111, 112, 113, 114, 115, 116, 117, 118, 119, 120]⟩] rfl q hl
  have HX := (show Hid _ from x0); clear x0
  go_enter Try.func62, Try.ntmps62
  go_wp2_with fail
  refine Calls.mono HCL.out ?_
  rintro e w1 ⟨rfl, ho1, hs1, hc1⟩
  have x1 := Out.cell ho1 HX.out (.inr hc)
  have H1 := (show Hid _ from (⟨(Out.of_below (bel_alloc w _)).trans ho1, hc1⟩ : _ ∧ _)); clear ho1 hs1 hc1
  dsimp only
  go_wp2_with fail
  go_ret
  exact ⟨rfl, H1.out⟩

set_option maxHeartbeats 800000 in
theorem textD_any {cs : List UInt8} {a : Option Addr} {cap b off c : Nat} {s : Nat × Nat} (w : World) (h : Cur w cs a cap b off c s) :
    Calls Try.prog 63 #[.pointer (some ⟨c, 0, none⟩)] w fun e w' => e = .returned (.string (cText cs s).1) ∧ Out c (c + 1) w w' ∧ Cur w' cs a cap b off c (cText cs s).2 := by
  have hc := h.2.2.2.2.2.2.2.2.lt
  have hcl := pick_any 11 _ (h.still (bel_alloc w (.cells #[.string ⟨#[]⟩, .string ⟨#[49]⟩, .string ⟨#[43]⟩, .string ⟨#[120]⟩, .string ⟨#[97, 32, 98]⟩, .string ⟨#[34]⟩, .string ⟨#[92, 10]⟩, .string ⟨#[0, 255, 126]⟩, .string ⟨#[49, 50]⟩, .string ⟨#[127]⟩, .string ⟨#[105, 102]⟩] 9))) (by decide)
  have hl := cPick_lt cs 11 s (by decide)
  have e : cText cs s = (pickOf txL (cPick cs 11 s).1, (cPick cs 11 s).2) := rfl
  rw [e]
  have HCL := (show Hid _ from hcl); clear hcl h e
  generalize cPick cs 11 s = q at *
  obtain ⟨q, s1⟩ := q
  dsimp only at hl ⊢
  have x0 := cell_pick w txL 9 #[.string ⟨#[]⟩, .string ⟨#[49]⟩, .string ⟨#[43]⟩, .string ⟨#[120]⟩, .string ⟨#[97, 32, 98]⟩, .string ⟨#[34]⟩, .string ⟨#[92, 10]⟩, .string ⟨#[0, 255, 126]⟩, .string ⟨#[49, 50]⟩, .string ⟨#[127]⟩, .string ⟨#[105, 102]⟩] rfl q hl
  have HX := (show Hid _ from x0); clear x0
  go_enter Try.func63, Try.ntmps63
  go_wp2_with fail
  refine Calls.mono HCL.out ?_
  rintro e w1 ⟨rfl, ho1, hs1, hc1⟩
  have x1 := Out.cell ho1 HX.out (.inr hc)
  have H1 := (show Hid _ from (⟨(Out.of_below (bel_alloc w _)).trans ho1, hc1⟩ : _ ∧ _)); clear ho1 hs1 hc1
  dsimp only
  go_wp2_with fail
  go_ret
  exact ⟨rfl, H1.out⟩

theorem leafD_any (n x : ByteArray) (w : World) : Calls Try.prog 39 #[.string n, .string x] w fun e w' => e = .returned (.agg #[.string n, .string x, .bool true, .slice none 0 0]) ∧ Below w.heap.size w w' := by
  go_enter Try.func39, Try.ntmps39
  go_wp2_with fail
  refine bodyPost_ret (v := .agg #[.string n, .string x, .bool true, .slice none 0 0]) (by simp [results, Try.results39, go_sem]) rfl ⟨rfl, ?_⟩
  exact bel_alloc _ _
theorem nodeD_any (n : ByteArray) (a : Option Addr) (m c : Nat) (w : World) : Calls Try.prog 38 #[.string n, .slice a m c] w fun e w' => e = .returned (.agg #[.string n, .string ByteArray.empty, .bool false, .slice a m c]) ∧ Below w.heap.size w w' := by
  go_enter Try.func38, Try.ntmps38
  go_wp2_with fail
  refine bodyPost_ret (v := .agg #[.string n, .string ByteArray.empty, .bool false, .slice a m c]) (by simp [results, Try.results38, go_sem]; rfl) rfl ⟨rfl, ?_⟩
  exact bel_alloc _ _
end Go.Proofs.Ytbgoikaelmacbaa

namespace Go.Proofs.Ytbgoikaelmacbaa
open Go.RowKit Go.Deep Go.Lib
set_option linter.unusedVariables false
set_option maxRecDepth 100000
set_option linter.unusedSimpArgs false

theorem Grw.carry {k : List Tr} {B j : Nat} {v : Value} {w w' : World} (h : Grw k B j v w) (hs : w.heap.size ≤ w'.heap.size) (hk : ∀ q, B ≤ q → q < w.heap.size → w'.heap[q]? = w.heap[q]?) : Grw k B j v w' := by
  obtain ⟨fs, l, h, hown, hls, hr, hd⟩ := h
  refine ⟨fs, l, h, ⟨hown.1, ?_⟩, fun i hi => ?_, fun i hi => ?_, hd⟩
  · rcases hown.2 with e | ⟨g, cap, cur, e, hB, hg, rest⟩
    · exact .inl e
    · exact .inr ⟨g, cap, cur, e, hB, (hk g hB (Array.getElem?_eq_some_iff.1 hg).1).trans hg, rest⟩
  · exact (hls i hi).keep (Nat.le_refl _) (Nat.le_refl _) (fun q h1 h2 h3 => hk q (Nat.le_trans (hr i hi).1 h1) h3)
  · exact ⟨(hr i hi).1, Nat.le_trans (hr i hi).2.1 hs, (hr i hi).2.2⟩
theorem Grw.still {k : List Tr} {B j : Nat} {v : Value} {w w' : World} (h : Grw k B j v w) (hb : Below w.heap.size w w') : Grw k B j v w' := h.carry hb.size (fun q _ hq => hb.block q hq)
theorem Grw.out {k : List Tr} {B j c : Nat} {v : Value} {w w' : World} (h : Grw k B j v w) (ho : Out c (c + 1) w w') (hc : c < B) : Grw k B j v w' := h.carry ho.2.2.2.1 (fun q hq hl => ho.2.2.2.2 q hl (by omega))
theorem Grw.low {k : List Tr} {B B' j : Nat} {v : Value} {w : World} (h : Grw k B j v w) (hB : B' ≤ B) : Grw k B' j v w := by
  obtain ⟨fs, l, h, hown, hls, hr, hd⟩ := h
  refine ⟨fs, l, h, ⟨hown.1, ?_⟩, hls, fun i hi => ⟨Nat.le_trans hB (hr i hi).1, (hr i hi).2⟩, hd⟩
  rcases hown.2 with e | ⟨g, cap, cur, e, hB1, rest⟩
  · exact .inl e
  · exact .inr ⟨g, cap, cur, e, Nat.le_trans hB hB1, rest⟩
theorem Grw.form {k : List Tr} {B j : Nat} {v : Value} {w : World} (h : Grw k B j v w) : ∃ a m c, v = .slice a m c := by
  obtain ⟨fs, l, h, hown, _⟩ := h
  obtain ⟨a, cap, e⟩ := own_slice hown
  exact ⟨a, j, cap, e⟩
theorem Grw.nil (w : World) (B : Nat) (k : List Tr) : Grw k B 0 (.slice none 0 0) w :=
  ⟨fun _ => .bool false, fun _ => 0, fun _ => 0, World.ownsRow_nil _ _ _ _, fun i hi => absurd hi (Nat.not_lt_zero _), fun i hi => absurd hi (Nat.not_lt_zero _), fun i i' _ hi => absurd hi (Nat.not_lt_zero _)⟩
theorem Grw.made (w : World) (B : Nat) (k : List Tr) (hB : B ≤ w.heap.size) : Grw k B 0 (.slice (some ⟨w.heap.size, 0, none⟩) 0 0) (w.alloc (.cells #[] 26)) :=
  ⟨fun _ => .bool false, fun _ => 0, fun _ => 0, World.ownsRow_made (size := 4) w #[] 0 hB (Nat.zero_le _) rfl, fun i hi => absurd hi (Nat.not_lt_zero _), fun i hi => absurd hi (Nat.not_lt_zero _), fun i i' _ hi => absurd hi (Nat.not_lt_zero _)⟩
/-- One more Kid, made by a call that may write below B. -/
theorem Grw.stepO {k : List Tr} {B j g cap a c : Nat} {v u : Value} {wr w2 w3 : World} {fs : Nat → Value} {l h : Nat → Nat} (hown : wr.ownsRow B 26 4 v j (kc k fs j)) (hls : ∀ i, i < j → Own w2 (l i) (h i) (nth k i) (fs i))
    (hr : ∀ i, i < j → B ≤ l i ∧ h i ≤ wr.heap.size ∧ ∀ g, v.ownBlock = some g → g < l i ∨ h i ≤ g) (hd : ∀ i i', i < i' → i' < j → h i ≤ l i') (hB : B ≤ wr.heap.size)
    (hs : wr.heap.size ≤ w2.heap.size) (hu : Own w2 a c (nth k j) u) (ha : wr.heap.size ≤ a) (hc : c ≤ w2.heap.size)
    (hown3 : w3.ownsRow B 26 4 (.slice (some ⟨g, 0, none⟩) (j + 1) cap) (j + 1) (kc k fs j ++ [.string (nth k j).name, .string (nth k j).text, .bool (nth k j).leaf, u]))
    (hgr : w2.grownBy w3 v.ownBlock) (hat : v.ownBlock = some g ∨ g = w2.heap.size) : Grw k B (j + 1) (.slice (some ⟨g, 0, none⟩) (j + 1) cap) w3 := by
  have hs3 := hgr.size
  have hvl := hown.lt
  refine ⟨fun i => if i = j then u else fs i, fun i => if i = j then a else l i, fun i => if i = j then c else h i, ?_, fun i hi => ?_, fun i hi => ?_, fun i i' hii hi' => ?_⟩
  · rw [kc, kc_congr k (fs := fun i => if i = j then u else fs i) (gs := fs) j (fun i hi => if_neg (by omega))]
    simp only [if_true]
    exact hown3
  · by_cases e : i = j
    · subst e
      simp only [if_true]
      exact hu.keep (Nat.le_refl _) (Nat.le_refl _) (fun q h1 h2 h3 => hgr.block q h3 (fun e => by have := hvl q e.symm; omega))
    · simp only [if_neg e]
      have hri := hr i (by omega)
      exact (hls i (by omega)).keep (Nat.le_refl _) (Nat.le_refl _) (fun q h1 h2 h3 => hgr.block q h3 (fun e => by have := hri.2.2 q e.symm; omega))
  · refine ⟨?_, ?_, fun q hq => ?_⟩
    · dsimp only
      split
      · omega
      · exact (hr i (by omega)).1
    · dsimp only
      split
      · omega
      · have := (hr i (by omega)).2.1; omega
    · simp [Value.ownBlock] at hq
      subst hq
      dsimp only
      split
      · rcases hat with e | e
        · have := hvl g e; omega
        · omega
      · have hri := hr i (by omega)
        rcases hat with e | e
        · exact hri.2.2 g e
        · omega
  · dsimp only
    by_cases e : i' = j
    · subst e
      rw [if_pos rfl, if_neg (by omega)]
      have := (hr i (by omega)).2.1
      omega
    · rw [if_neg e, if_neg (by omega)]; exact hd i i' hii (by omega)
theorem Box4.out {w w' : World} {b c : Nat} {c0 c1 c2 c3 : Value} (h : Box4 w b c0 c1 c2 c3) (ho : Out c (c + 1) w w') (hb : c < b) : Box4 w' b c0 c1 c2 c3 := h.keep (ho.2.2.2.2 b h.lt (by omega))
theorem Out.below {c : Nat} {a b d : World} (h : Out c (c + 1) a b) (g : Below b.heap.size b d) : Out c (c + 1) a d := h.trans (Out.of_below g)
theorem Cur.lt {w : World} {cs : List UInt8} {a : Option Addr} {cap b off c : Nat} {s : Nat × Nat} (h : Cur w cs a cap b off c s) : c < w.heap.size := h.2.2.2.2.2.2.2.2.lt
theorem Cur.set {w : World} {cs : List UInt8} {a : Option Addr} {cap b off c g o : Nat} {s : Nat × Nat} {x : Value} (h : Cur w cs a cap b off c s) (hg : c < g) : Cur (w.setCell ⟨g, o, none⟩ x) cs a cap b off c s :=
  h.keep (fun k hk => blk_setCell_other _ _ _ _ (by show k ≠ g; omega))
theorem Grw.set {k : List Tr} {B j g o : Nat} {v x : Value} {w : World} (h : Grw k B j v w) (hg : g < B) : Grw k B j v (w.setCell ⟨g, o, none⟩ x) :=
  h.carry (by simp [World.setCell]) (fun q hq _ => blk_setCell_other _ _ _ _ (by show q ≠ g; omega))
theorem Out.put {c g o : Nat} {a b : World} {x : Value} (h : Out c (c + 1) a b) (hg : a.heap.size ≤ g) : Out c (c + 1) a (b.setCell ⟨g, o, none⟩ x) :=
  ⟨h.1, h.2.1, h.2.2.1, by have := h.2.2.2.1; simp [World.setCell]; omega, fun k hk hn => (blk_setCell_other _ _ _ _ (by show k ≠ g; omega)).trans (h.2.2.2.2 k hk hn)⟩

/-- A leaf drawn. -/
def cLeaf (cs : List UInt8) (s : Nat × Nat) : Tr × (Nat × Nat) := (⟨(cName cs s).1, (cText cs (cName cs s).2).1, true, []⟩, (cText cs (cName cs s).2).2)
/-- The state behind j draws. -/
def cSt (f : Nat × Nat → Tr × (Nat × Nat)) : Nat → Nat × Nat → Nat × Nat
  | 0, s => s
  | j + 1, s => (f (cSt f j s)).2
def cKids (f : Nat × Nat → Tr × (Nat × Nat)) (m : Nat) (s : Nat × Nat) : List Tr := (List.range m).map fun j => (f (cSt f j s)).1
theorem cKids_len (f : Nat × Nat → Tr × (Nat × Nat)) (m : Nat) (s : Nat × Nat) : (cKids f m s).length = m := by simp [cKids]
theorem cKids_nth (f : Nat × Nat → Tr × (Nat × Nat)) (m : Nat) (s : Nat × Nat) (j : Nat) (h : j < m) : nth (cKids f m s) j = (f (cSt f j s)).1 := by simp [nth, cKids, h]
/-- A tree drawn. -/
def cNode (cs : List UInt8) (f : Nat × Nat → Tr × (Nat × Nat)) (m : Nat) (s : Nat × Nat) : Tr × (Nat × Nat) := (⟨(cName cs (cSt f m s)).1, ByteArray.empty, false, cKids f m s⟩, (cName cs (cSt f m s)).2)
def cTree (cs : List UInt8) : Nat → Nat × Nat → Tr × (Nat × Nat)
  | 0, s => cLeaf cs s
  | d + 1, s => if (cPick cs 3 s).1 = 0 then cLeaf cs (cPick cs 3 s).2 else cNode cs (cTree cs d) (cPick cs 4 (cPick cs 3 s).2).1 (cPick cs 4 (cPick cs 3 s).2).2
theorem wtL_le (k : List Tr) (W : Nat) (h : ∀ x ∈ k, x.wt ≤ W) : Tr.wtL k ≤ k.length * W := by
  induction k with
  | nil => simp [Tr.wtL]
  | cons t r ih =>
    have h1 := h t (by simp)
    have h2 := ih (fun x hx => h x (by simp [hx]))
    simp [Tr.wtL] at h2 ⊢
    have e : (r.length + 1) * W = r.length * W + W := Nat.succ_mul _ _
    omega
theorem cTree_wt (cs : List UInt8) : ∀ d s, (cTree cs d s).1.wt ≤ 40 * 4 ^ d
  | 0, s => by
    have h1 := cName_size cs s
    have h2 := cText_size cs (cName cs s).2
    show Tr.wt ⟨_, _, _, _⟩ ≤ _
    rw [Tr.wt_mk]
    simp [Tr.wtL]
    omega
  | d + 1, s => by
    unfold cTree
    split
    · have h1 := cName_size cs (cPick cs 3 s).2
      have h2 := cText_size cs (cName cs (cPick cs 3 s).2).2
      show Tr.wt ⟨_, _, _, _⟩ ≤ _
      rw [Tr.wt_mk]
      simp [Tr.wtL]
      have : 0 < 4 ^ (d + 1) := Nat.pow_pos (by decide)
      omega
    · have hm := cPick_lt cs 4 (cPick cs 3 s).2 (by decide)
      generalize cPick cs 4 (cPick cs 3 s).2 = p at *
      obtain ⟨m, s2⟩ := p
      dsimp only at hm ⊢
      have h1 := cName_size cs (cSt (cTree cs d) m s2)
      have h2 := wtL_le (cKids (cTree cs d) m s2) (40 * 4 ^ d) (fun x hx => by
        obtain ⟨j, _, rfl⟩ := List.mem_map.1 hx
        exact cTree_wt cs d _)
      have h0 : 0 < 4 ^ d := Nat.pow_pos (by decide)
      rw [cKids_len] at h2
      show Tr.wt ⟨_, _, _, _⟩ ≤ _
      rw [Tr.wt_mk, cKids_len]
      have e : 4 ^ (d + 1) = 4 ^ d * 4 := Nat.pow_succ ..
      rw [e]
      have h3 : m * (40 * 4 ^ d) ≤ 3 * (40 * 4 ^ d) := Nat.mul_le_mul_right _ (by omega)
      have h4 : ByteArray.empty.size = 0 := rfl
      omega
theorem cTree_nm (cs : List UInt8) (d : Nat) (s : Nat × Nat) : (cTree cs d s).1.name.size ≤ maxLen ∧ (cTree cs d s).1.text.size ≤ maxLen := by
  have hn := fun s => cName_size cs s
  have ht := fun s => cText_size cs s
  cases d with
  | zero => exact ⟨Nat.le_trans (hn _) (by unfold maxLen; omega), Nat.le_trans (ht _) (by unfold maxLen; omega)⟩
  | succ d =>
    unfold cTree
    split
    · exact ⟨Nat.le_trans (hn _) (by unfold maxLen; omega), Nat.le_trans (ht _) (by unfold maxLen; omega)⟩
    · exact ⟨Nat.le_trans (hn _) (by unfold maxLen; omega), Nat.zero_le _⟩

/-- What a drawing call comes to. -/
def Drew (cs : List UInt8) (a : Option Addr) (cap b off c : Nat) (r : Tr × (Nat × Nat)) (w : World) (e : Ending) (w' : World) : Prop :=
  ∃ xa xm xc, e = .returned (r.1.val (.slice xa xm xc)) ∧ Out c (c + 1) w w' ∧ Cur w' cs a cap b off c r.2 ∧ Grw r.1.kids w.heap.size r.1.kids.length (.slice xa xm xc) w'

set_option maxHeartbeats 1600000 in
theorem drawTree_any {cs : List UInt8} {a : Option Addr} {cap b off c : Nat} (d : Nat) : ∀ (s : Nat × Nat) (w : World), Cur w cs a cap b off c s → d ≤ 6 →
    Calls Try.prog 45 #[.pointer (some ⟨c, 0, none⟩), .int .i64 d] w fun e w' => Drew cs a cap b off c (cTree cs d s) w e w' := by
  induction d with
  | zero =>
    intro s w hc hd
    have e : cTree cs 0 s = (⟨(cName cs s).1, (cText cs (cName cs s).2).1, true, []⟩, (cText cs (cName cs s).2).2) := rfl
    rw [e]
    have hlt := hc.lt
    have hcl := nameD_any _ (hc.still (bel_alloc w (.cells #[.string ByteArray.empty, .string ByteArray.empty, .bool false, .slice none 0 0] 26)))
    have HCL := (show Hid _ from hcl); clear hcl hc e
    have htx : ∀ s1 w1, Cur w1 cs a cap b off c s1 → _ := fun s1 w1 h => textD_any w1 h
    have HTX := (show Hid _ from htx); clear htx
    generalize cName cs s = q at *
    obtain ⟨nm, s1⟩ := q
    dsimp only
    have HT1 := (show Hid _ from HTX.out s1); clear HTX
    generalize cText cs s1 = q2 at *
    obtain ⟨tx, s2⟩ := q2
    dsimp only
    have R0 := Box4.new w (.string ByteArray.empty) (.string ByteArray.empty) (.bool false) (.slice none 0 0)
    have HR0 := (show Hid _ from R0); clear R0
    go_enter Try.func45, Try.ntmps45
    go_wp2_with fail
    refine Calls.mono HCL.out ?_
    rintro e w1 ⟨rfl, ho1, hc1⟩
    dsimp only at hc1 ⊢
    have HR1 := (show Hid _ from Box4.out HR0.out ho1 hlt)
    have hcl := HT1.out w1 hc1
    have HCL := (show Hid _ from hcl); clear hcl hc1
    go_wp2_with fail
    refine Calls.mono HCL.out ?_
    rintro e w2 ⟨rfl, ho2, hc2⟩
    dsimp only at hc2 ⊢
    have HR2 := (show Hid _ from Box4.out HR1.out ho2 hlt)
    have H2 := (show Hid _ from (⟨((Out.of_below (bel_alloc w _)).trans ho1).trans ho2, hc2⟩ : Out c (c + 1) w w2 ∧ _)); clear ho1 ho2 hc2
    go_wp2_with fail
    refine Calls.mono (leafD_any nm tx w2) ?_
    rintro e w3 ⟨rfl, hb3⟩
    have R3 := Box4.still HR2.out hb3
    obtain ⟨Z0, Z1, Z2, Z3⟩ := R3.cells
    have y0 := R3.frozen 0
    have y1 := R3.frozen 1
    have y2 := R3.frozen 2
    have y3 := R3.frozen 3
    have H3 := (show Hid _ from (⟨Out.below H2.out.1 hb3, Cur.still H2.out.2 hb3⟩ : _ ∧ _)); clear R3 hb3
    go_wp2_with fail
    refine bodyPost_ret (v := .agg #[.string nm, .string tx, .bool true, .slice none 0 0]) (by simp [results, Try.results45, go_sem, Z0, Z1, Z2, Z3]) rfl ?_
    exact ⟨none, 0, 0, rfl, (((H3.out.1.put (Nat.le_refl _)).put (Nat.le_refl _)).put (Nat.le_refl _)).put (Nat.le_refl _), (((Cur.set H3.out.2 hlt).set hlt).set hlt).set hlt, Grw.nil _ _ _⟩
  | succ d ih =>
    intro s w hc hd
    rw [show ((d + 1 : Nat) : Int) = (d : Int) + 1 from rfl]
    have hlt := hc.lt
    have hsub : (d : Int) + 1 - 1 = d := by omega
    have hd6 : (d : Int) ≤ 6 := by omega
    have hpk := pick_any 3 _ (hc.still (bel_alloc w (.cells #[.string ByteArray.empty, .string ByteArray.empty, .bool false, .slice none 0 0] 26))) (by decide)
    have HPK := (show Hid _ from hpk); clear hpk hc
    have HIH := (show Hid _ from ih); clear ih
    have R0 := Box4.new w (.string ByteArray.empty) (.string ByteArray.empty) (.bool false) (.slice none 0 0)
    have HR0 := (show Hid _ from R0); clear R0
    by_cases hk : (cPick cs 3 s).1 = 0
    · have e : cTree cs (d + 1) s = cLeaf cs (cPick cs 3 s).2 := if_pos hk
      have e2 : cLeaf cs (cPick cs 3 s).2 = (⟨(cName cs (cPick cs 3 s).2).1, (cText cs (cName cs (cPick cs 3 s).2).2).1, true, []⟩, (cText cs (cName cs (cPick cs 3 s).2).2).2) := rfl
      rw [e, e2]
      clear e e2
      generalize cPick cs 3 s = q at *
      obtain ⟨q, s1⟩ := q
      dsimp only at hk ⊢
      subst hk
      have hnm : ∀ w1, Cur w1 cs a cap b off c s1 → _ := fun w1 h => nameD_any w1 h
      have HNM := (show Hid _ from hnm); clear hnm
      generalize cName cs s1 = q1 at *
      obtain ⟨nm, s2⟩ := q1
      dsimp only
      have htx : ∀ w1, Cur w1 cs a cap b off c s2 → _ := fun w1 h => textD_any w1 h
      have HTX := (show Hid _ from htx); clear htx
      generalize cText cs s2 = q2 at *
      obtain ⟨tx, s3⟩ := q2
      dsimp only
      go_enter Try.func45, Try.ntmps45
      go_wp2_with fail
      refine Calls.mono HPK.out ?_
      rintro e w1 ⟨rfl, ho1, _, hc1⟩
      dsimp only at hc1 ⊢
      have HR1 := (show Hid _ from Box4.out HR0.out ho1 hlt)
      have hcl := HNM.out w1 hc1
      have HCL := (show Hid _ from hcl); clear hcl hc1
      go_wp2_with fail
      refine Calls.mono HCL.out ?_
      rintro e w2 ⟨rfl, ho2, hc2⟩
      dsimp only at hc2 ⊢
      have HR2 := (show Hid _ from Box4.out HR1.out ho2 hlt)
      have hcl := HTX.out w2 hc2
      have HCL := (show Hid _ from hcl); clear hcl hc2
      go_wp2_with fail
      refine Calls.mono HCL.out ?_
      rintro e w3 ⟨rfl, ho3, hc3⟩
      dsimp only at hc3 ⊢
      have HR3 := (show Hid _ from Box4.out HR2.out ho3 hlt)
      have H3 := (show Hid _ from (⟨(((Out.of_below (bel_alloc w _)).trans ho1).trans ho2).trans ho3, hc3⟩ : Out c (c + 1) w w3 ∧ _)); clear ho1 ho2 ho3 hc3
      go_wp2_with fail
      refine Calls.mono (leafD_any nm tx w3) ?_
      rintro e w4 ⟨rfl, hb4⟩
      have R4 := Box4.still HR3.out hb4
      obtain ⟨Z0, Z1, Z2, Z3⟩ := R4.cells
      have y0 := R4.frozen 0
      have y1 := R4.frozen 1
      have y2 := R4.frozen 2
      have y3 := R4.frozen 3
      have H4 := (show Hid _ from (⟨Out.below H3.out.1 hb4, Cur.still H3.out.2 hb4⟩ : _ ∧ _)); clear R4 hb4
      go_wp2_with fail
      refine bodyPost_ret (v := .agg #[.string nm, .string tx, .bool true, .slice none 0 0]) (by simp [results, Try.results45, go_sem, Z0, Z1, Z2, Z3]) rfl ?_
      exact ⟨none, 0, 0, rfl, (((H4.out.1.put (Nat.le_refl _)).put (Nat.le_refl _)).put (Nat.le_refl _)).put (Nat.le_refl _), (((Cur.set H4.out.2 hlt).set hlt).set hlt).set hlt, Grw.nil _ _ _⟩
    · have e : cTree cs (d + 1) s = cNode cs (cTree cs d) (cPick cs 4 (cPick cs 3 s).2).1 (cPick cs 4 (cPick cs 3 s).2).2 := if_neg hk
      rw [e]
      clear e
      generalize cPick cs 3 s = q at *
      obtain ⟨q, s1⟩ := q
      dsimp only at hk ⊢
      have hkb : ((q : Int) == 0) = false := by simp; omega
      have hkd : q ≠ 0 := hk
      have hp4 : ∀ w1, Cur w1 cs a cap b off c s1 → _ := fun w1 h => pick_any 4 w1 h (by decide)
      have HP4 := (show Hid _ from hp4); clear hp4
      have hm := cPick_lt cs 4 s1 (by decide)
      generalize cPick cs 4 s1 = q1 at *
      obtain ⟨m, s2⟩ := q1
      dsimp only at hm ⊢
      obtain ⟨i28, hi28, hzz⟩ := Option.map_eq_some_iff.1 info26
      simp only [Prod.mk.injEq] at hzz
      obtain ⟨hz0, hz1, hz2⟩ := hzz
      go_enter Try.func45, Try.ntmps45
      go_wp2_with fail
      refine Calls.mono HPK.out ?_
      rintro e w1 ⟨rfl, ho1, hs1, hc1⟩
      dsimp only at hc1 ⊢
      have hsz1 : w.heap.size + 1 ≤ w1.heap.size := by rw [hs1]; simp
      clear hs1
      have HR1 := (show Hid _ from (Box4.out HR0.out ho1 hlt).still (bel_alloc w1 (.cells #[] 26)))
      have hcl := HP4.out _ (hc1.still (bel_alloc w1 (.cells #[] 26)))
      have hG1 := Grw.made w1 (w.heap.size + 1) (cKids (cTree cs d) m s2) (by omega)
      have HG1 := (show Hid _ from hG1); clear hG1
      have HCL := (show Hid _ from hcl); clear hcl hc1
      have H1 := (show Hid _ from (((Out.of_below (bel_alloc w _)).trans ho1).below (bel_alloc w1 (.cells #[] 26)) : Out c (c + 1) w _)); clear ho1
      go_wp2_with fail
      refine Calls.mono HCL.out ?_
      rintro e w2 ⟨rfl, ho2, hs2, hc2⟩
      dsimp only at hc2 ⊢
      have H2 := (show Hid _ from (⟨Out.trans H1.out ho2, hc2, Box4.out HR1.out ho2 hlt, Grw.out HG1.out ho2 (by omega)⟩ : _ ∧ _ ∧ _ ∧ _)); clear ho2 hc2 hs2
      go_wp2_with fail
      go_loopw [5, 6] (fun u i wr => ∃ (j : Nat), j ≤ m ∧ i = .int .i64 (m - j : Nat) ∧ (∃ a' m' c', u = .slice a' m' c') ∧ w.heap.size + 1 ≤ wr.heap.size ∧ Hid (Out c (c + 1) w wr ∧ Cur wr cs a cap b off c (cSt (cTree cs d) j s2) ∧ Box4 wr w.heap.size (.string ByteArray.empty) (.string ByteArray.empty) (.bool false) (.slice none 0 0) ∧ Grw (cKids (cTree cs d) m s2) (w.heap.size + 1) j u wr)) (fun _ i _ => (intOf i).toNat)
      case atStart => exact ⟨0, Nat.zero_le _, rfl, ⟨_, _, _, rfl⟩, by have := H2.out.2.2.1.lt; omega, H2.out⟩
      case round =>
        obtain ⟨j, hj, rfl, ⟨a', m', c', rfl⟩, hwz, HR⟩ := hrel
        by_cases hlj : j < m
        · have hmj : (0 : Int) < ((m - j : Nat) : Int) := by omega
          have hcl := HIH.out _ wr HR.out.2.1 (by omega)
          have HCL := (show Hid _ from hcl); clear hcl
          have hnm := cTree_nm cs d (cSt (cTree cs d) j s2)
          have hnt : nth (cKids (cTree cs d) m s2) j = (cTree cs d (cSt (cTree cs d) j s2)).1 := cKids_nth _ _ _ _ hlj
          have hst : cSt (cTree cs d) (j + 1) s2 = (cTree cs d (cSt (cTree cs d) j s2)).2 := rfl
          have HE := (show Hid _ from (⟨hnt, hst⟩ : _ ∧ _)); clear hnt hst
          generalize hkd : cTree cs d (cSt (cTree cs d) j s2) = kd at *
          obtain ⟨kd, s3⟩ := kd
          dsimp only at hnm HE
          generalize hmm : m - j = mj at *
          go_wp2_with fail
          refine Calls.mono HCL.out ?_
          rintro e w3 ⟨xa, xm, xc, rfl, ho3, hc3, hg3⟩
          dsimp only at hc3 hg3 ⊢
          obtain ⟨fs, ls, hs, hown, hls, hr, hd'⟩ := HR.out.2.2.2
          have hok := Grw.done (n := kd.name) (x := kd.text) (le := kd.leaf) hg3 hnm.1 hnm.2
          have hkd' : Own w3 wr.heap.size w3.heap.size kd (.slice xa xm xc) := by cases kd; exact hok
          have hG := Grw.out (⟨fs, ls, hs, hown, hls, hr, hd'⟩ : Grw (cKids (cTree cs d) m s2) (w.heap.size + 1) j (.slice a' m' c') wr) ho3 (by omega)
          have hls3 : ∀ i, i < j → Own w3 (ls i) (hs i) (nth (cKids (cTree cs d) m s2) i) (fs i) := fun i hi => (hls i hi).keep (Nat.le_refl _) (Nat.le_refl _) (fun q h1 h2 h3 => ho3.2.2.2.2 q h3 (by have := (hr i hi).1; omega))
          have hown2 : (w3.alloc (.cells #[.string kd.name, .string kd.text, .bool kd.leaf, .slice xa xm xc] 26)).ownsRow (w.heap.size + 1) 26 4 (.slice a' m' c') j (kc (cKids (cTree cs d) m s2) fs j) := by
            refine own_still (w := w3) ⟨hown.1, ?_⟩ (bel_alloc _ _)
            rcases hown.2 with e | ⟨g, cap', cur, e, hB, hg, rest⟩
            · exact .inl e
            · exact .inr ⟨g, cap', cur, e, hB, (ho3.2.2.2.2 g (Array.getElem?_eq_some_iff.1 hg).1 (by omega)).trans hg, rest⟩
          have HO2 := (show Hid _ from hown2)
          have HF := (show Hid _ from (⟨hkd', hown, hls3, hr, hd', Out.trans HR.out.1 ho3, hc3, Box4.out HR.out.2.2.1 ho3 hlt, ho3.2.2.2.1⟩ : _ ∧ _ ∧ _ ∧ _ ∧ _ ∧ _ ∧ _ ∧ _ ∧ _)); clear hkd' hown hls hls3 hr hd' hown2 hok hG hg3 hc3 ho3
          have hj6 : j + 1 ≤ 4 := by omega
          go_wp2_with (at_builtin; refine wpList_append_lies _ rfl (.tmp 26) (.tmp 31) 24 rfl (w.heap.size + 1) 26 i28 _ 4 64 Try.underlying24 hi28 hz0 hz1 hz2 rfl (by decide) _ j (kc (cKids (cTree cs d) m s2) fs j) rfl HO2.out ⟨w3.heap.size, 0, none⟩ 1 1 [.string kd.name, .string kd.text, .bool kd.leaf, .slice xa xm xc] rfl rfl ?c1 ?c2 (by decide) ?c3 (by omega) ?c5 _ rfl ?nx)
          case c1 => exact cell_four_box _ _ _ _ _ _
          case c2 => intro u hu; simp at hu; rcases hu with rfl | rfl | rfl | rfl <;> rfl
          case c3 => unfold maxLen; omega
          case c5 => have := HF.out.2.2.2.2.2.2.2.2; simp; omega
          case nx =>
            intro g4 cap4 w4 hown4 hgr4 hat4 hlt4
            obtain ⟨hkd', hown, hls3, hr, hd', ho, hc3, hbx, hss⟩ := HF.out
            have hvl := hown.lt
            have hG4 : Grw (cKids (cTree cs d) m s2) (w.heap.size + 1) (j + 1) (.slice (some ⟨g4, 0, none⟩) (j + 1) cap4) w4 := by
              have h1 := hkd'
              rw [← HE.out.1] at hown4 h1
              exact Grw.stepO hown (fun i hi => (hls3 i hi).still (bel_alloc _ _)) hr hd' hwz (by simp; omega) (h1.still (bel_alloc _ _)) (Nat.le_refl _) (by simp) hown4 hgr4 (by rw [World.size_alloc]; exact hat4)
            have hblk : ∀ q, q < w.heap.size + 1 → w4.heap[q]? = w3.heap[q]? := fun q hq => (hgr4.block q (by simp; omega) (fun e => by have := hvl q e.symm; omega)).trans ((bel_alloc w3 _).block q (by omega))
            have hsz4 : w3.heap.size + 1 ≤ w4.heap.size := by have := hgr4.size; simp at this; omega
            have ho4 : Out c (c + 1) w w4 := ⟨hgr4.os.trans ho.1, hgr4.tape.trans ho.2.1, hgr4.output.trans ho.2.2.1, by have := ho.2.2.2.1; omega, fun k hk hn => (hblk k (by omega)).trans (ho.2.2.2.2 k hk hn)⟩
            have hc4 := hc3.keep (fun k hk => hblk k (by omega))
            have hb4 := hbx.keep (hblk w.heap.size (by omega))
            rw [← HE.out.2] at hc4
            have HG4 := (show Hid _ from (⟨ho4, hc4, hb4, hG4⟩ : _ ∧ _ ∧ _ ∧ _)); clear ho4 hc4 hb4 hG4 hown4 hgr4 hat4 hkd' hown hls3 hr hd' ho hc3 hbx hblk hvl
            go_wp2_with fail
            exact ⟨⟨j + 1, by omega, val_int (by omega), ⟨_, _, _, rfl⟩, by omega, HG4⟩, by simp [intOf]; omega⟩
        · have hje : j = m := by omega
          subst hje
          have hnm := nameD_any wr HR.out.2.1
          have HNM := (show Hid _ from hnm); clear hnm
          have hcn : cNode cs (cTree cs d) j s2 = (⟨(cName cs (cSt (cTree cs d) j s2)).1, ByteArray.empty, false, cKids (cTree cs d) j s2⟩, (cName cs (cSt (cTree cs d) j s2)).2) := rfl
          have HCN := (show Hid _ from hcn); clear hcn
          generalize cName cs (cSt (cTree cs d) j s2) = q1 at *
          obtain ⟨nm, s3⟩ := q1
          have hz : ((j - j : Nat) : Int) ≤ 0 := by omega
          generalize hjj : j - j = jj at *
          go_wp2_with fail
          refine Calls.mono HNM.out ?_
          rintro e w3 ⟨rfl, ho3, hc3⟩
          dsimp only at hc3 ⊢
          go_wp2_with fail
          refine Calls.mono (nodeD_any nm _ _ _ w3) ?_
          rintro e w4 ⟨rfl, hb4⟩
          have R4 := (Box4.out HR.out.2.2.1 ho3 hlt).still hb4
          obtain ⟨Z0, Z1, Z2, Z3⟩ := R4.cells
          have y0 := R4.frozen 0
          have y1 := R4.frozen 1
          have y2 := R4.frozen 2
          have y3 := R4.frozen 3
          have H4 := (show Hid _ from (⟨(Out.trans HR.out.1 ho3).below hb4, hc3.still hb4, (Grw.out HR.out.2.2.2 ho3 (by omega)).still hb4⟩ : _ ∧ _ ∧ _)); clear R4 hb4 ho3 hc3
          go_wp2_with fail
          refine bodyPost_ret (v := .agg #[.string nm, .string ByteArray.empty, .bool false, .slice a' m' c']) (by simp [results, Try.results45, go_sem, Z0, Z1, Z2, Z3]) rfl ?_
          rw [HCN.out]
          refine ⟨a', m', c', rfl, (((H4.out.1.put (Nat.le_refl _)).put (Nat.le_refl _)).put (Nat.le_refl _)).put (Nat.le_refl _), (((Cur.set H4.out.2.1 hlt).set hlt).set hlt).set hlt, ?_⟩
          dsimp only
          rw [cKids_len]
          exact Grw.low ((((Grw.set H4.out.2.2 (Nat.lt_succ_self _)).set (Nat.lt_succ_self _)).set (Nat.lt_succ_self _)).set (Nat.lt_succ_self _)) (Nat.le_succ w.heap.size)
end Go.Proofs.Ytbgoikaelmacbaa
