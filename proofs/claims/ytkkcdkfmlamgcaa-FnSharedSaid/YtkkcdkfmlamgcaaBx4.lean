import Derived.Test.YtkkcdkfmlamgcaaCur
import Derived.Test.YtkkcdkfmlamgcaaEq
import Derived.Test.YtkkcdkfmlamgcaaTx
namespace Go.Proofs.Ytkkcdkfmlamgcaa
open Go.RowKit Go.Deep Go.Lib
set_option linter.unusedVariables false
set_option maxRecDepth 100000
set_option linter.unusedSimpArgs false

/-- One of a list of texts. -/
def pickOf (l : List ByteArray) (i : Nat) : ByteArray := (l[i]?).getD ⟨#[]⟩
theorem pickOf_size {l : List ByteArray} {m : Nat} (h : l.all (fun x => decide (x.size ≤ m)) = true) (i : Nat) : (pickOf l i).size ≤ m := by
  unfold pickOf
  cases e : l[i]? with
  | none => exact Nat.zero_le _
  | some x => exact of_decide_eq_true (List.all_eq_true.1 h x (List.mem_of_getElem? e))
theorem cell_pick (w : World) (l : List ByteArray) (T : TypeId) (cs : Array Value) (hcs : cs = (l.map Value.string).toArray) (i : Nat) (hi : i < l.length) : (w.alloc (.cells cs T)).cell? ⟨w.heap.size, i, none⟩ = some (.string (pickOf l i)) := by
  subst hcs
  simp [go_sem, pickOf, hi]
theorem Out.cell {lo hi : Nat} {w w' : World} (h : Out lo hi w w') {k o : Nat} {v : Value} (hc : w.cell? ⟨k, o, none⟩ = some v) (hk : k < lo ∨ hi ≤ k) : w'.cell? ⟨k, o, none⟩ = some v :=
  (World.cell?_of_block (w := w) (h.2.2.2.2 k (lt_of_cell hc) hk)).trans hc

def nmL : List ByteArray := [⟨#[65, 100, 100]⟩, ⟨#[78, 117, 109]⟩, ⟨#[73, 100]⟩, ⟨#[97]⟩, ⟨#[98]⟩, ⟨#[120, 49]⟩, ⟨#[90, 95, 122]⟩, ⟨#[76, 105, 115, 116]⟩, ⟨#[73, 102]⟩, ⟨#[97, 98, 99, 100, 101, 102, 103, 104, 105, 106, 107, 108, 109, 110, 111, 112, 113, 114, 115, 116, 117, 118, 119, 120]⟩]
def txL : List ByteArray := [⟨#[]⟩, ⟨#[49]⟩, ⟨#[43]⟩, ⟨#[120]⟩, ⟨#[97, 32, 98]⟩, ⟨#[34]⟩, ⟨#[92, 10]⟩, ⟨#[0, 255, 126]⟩, ⟨#[49, 50]⟩, ⟨#[127]⟩, ⟨#[105, 102]⟩]
def cName (cs : List UInt8) (s : Nat × Nat) : ByteArray × (Nat × Nat) := (pickOf nmL (cPick cs 10 s).1, (cPick cs 10 s).2)
def cText (cs : List UInt8) (s : Nat × Nat) : ByteArray × (Nat × Nat) := (pickOf txL (cPick cs 11 s).1, (cPick cs 11 s).2)
theorem cName_size (cs : List UInt8) (s : Nat × Nat) : (cName cs s).1.size ≤ 24 := pickOf_size (by decide) _
theorem cText_size (cs : List UInt8) (s : Nat × Nat) : (cText cs s).1.size ≤ 3 := pickOf_size (by decide) _

set_option maxHeartbeats 800000 in
theorem nameD_any {cs : List UInt8} {a : Option Addr} {cap b off c : Nat} {s : Nat × Nat} (w : World) (h : Cur w cs a cap b off c s) :
    Calls Try.prog 44 #[.pointer (some ⟨c, 0, none⟩)] w fun e w' => e = .returned (.string (cName cs s).1) ∧ Out c (c + 1) w w' ∧ Cur w' cs a cap b off c (cName cs s).2 := by
  have hc := h.2.2.2.2.2.2.2.2.lt
  have hcl := pick_any 10 _ (h.still (bel_alloc w (.cells #[.string ⟨#[65, 100, 100]⟩, .string ⟨#[78, 117, 109]⟩, .string ⟨#[73, 100]⟩, .string ⟨#[97]⟩, .string ⟨#[98]⟩, .string ⟨#[120, 49]⟩, .string ⟨#[90, 95, 122]⟩, .string ⟨#[76, 105, 115, 116]⟩, .string ⟨#[73, 102]⟩, .string ⟨#[97, 98, 99, 100, 101, 102, 103, 104, 105, 106, 107, 108, 109, 110, 111, 112, 113, 114, 115, 116, 117, 118, 119, 120]⟩] 9))) (by decide)
  have hl := cPick_lt cs 10 s (by decide)
  have e : cName cs s = (pickOf nmL (cPick cs 10 s).1, (cPick cs 10 s).2) := rfl
  rw [e]
  have HCL := (show Hid _ from hcl); clear hcl h e
  generalize cPick cs 10 s = q at *
  obtain ⟨q, s1⟩ := q
  dsimp only at hl ⊢
  have x0 := cell_pick w nmL 9 #[.string ⟨#[65, 100, 100]⟩, .string ⟨#[78, 117, 109]⟩, .string ⟨#[73, 100]⟩, .string ⟨#[97]⟩, .string ⟨#[98]⟩, .string ⟨#[120, 49]⟩, .string ⟨#[90, 95, 122]⟩, .string ⟨#[76, 105, 115, 116]⟩, .string ⟨#[73, 102]⟩, .string ⟨#[97, 98, 99, 100, 101, 102, 103, 104, 105, 106, 107, 108, 109, 110, 111, 112, 113, 114, 115, 116, 117, 118, 119, 120]⟩] rfl q hl
  have HX := (show Hid _ from x0); clear x0
  go_enter Try.func44, Try.ntmps44
  go_wp2_with fail
  refine Calls.mono HCL.out ?_
  rintro e w1 ⟨rfl, ho1, hs1, hc1⟩
  have x1 := Out.cell ho1 HX.out (.inr hc)
  have H1 := (show Hid _ from (⟨(Out.of_below (bel_alloc w _)).trans ho1, hc1⟩ : _ ∧ _)); clear ho1 hs1 hc1
  dsimp only
  go_wp2_with fail
  go_ret
  exact ⟨rfl, H1.out⟩

set_option maxHeartbeats 800000 in
theorem textD_any {cs : List UInt8} {a : Option Addr} {cap b off c : Nat} {s : Nat × Nat} (w : World) (h : Cur w cs a cap b off c s) :
    Calls Try.prog 45 #[.pointer (some ⟨c, 0, none⟩)] w fun e w' => e = .returned (.string (cText cs s).1) ∧ Out c (c + 1) w w' ∧ Cur w' cs a cap b off c (cText cs s).2 := by
  have hc := h.2.2.2.2.2.2.2.2.lt
  have hcl := pick_any 11 _ (h.still (bel_alloc w (.cells #[.string ⟨#[]⟩, .string ⟨#[49]⟩, .string ⟨#[43]⟩, .string ⟨#[120]⟩, .string ⟨#[97, 32, 98]⟩, .string ⟨#[34]⟩, .string ⟨#[92, 10]⟩, .string ⟨#[0, 255, 126]⟩, .string ⟨#[49, 50]⟩, .string ⟨#[127]⟩, .string ⟨#[105, 102]⟩] 9))) (by decide)
  have hl := cPick_lt cs 11 s (by decide)
  have e : cText cs s = (pickOf txL (cPick cs 11 s).1, (cPick cs 11 s).2) := rfl
  rw [e]
  have HCL := (show Hid _ from hcl); clear hcl h e
  generalize cPick cs 11 s = q at *
  obtain ⟨q, s1⟩ := q
  dsimp only at hl ⊢
  have x0 := cell_pick w txL 9 #[.string ⟨#[]⟩, .string ⟨#[49]⟩, .string ⟨#[43]⟩, .string ⟨#[120]⟩, .string ⟨#[97, 32, 98]⟩, .string ⟨#[34]⟩, .string ⟨#[92, 10]⟩, .string ⟨#[0, 255, 126]⟩, .string ⟨#[49, 50]⟩, .string ⟨#[127]⟩, .string ⟨#[105, 102]⟩] rfl q hl
  have HX := (show Hid _ from x0); clear x0
  go_enter Try.func45, Try.ntmps45
  go_wp2_with fail
  refine Calls.mono HCL.out ?_
  rintro e w1 ⟨rfl, ho1, hs1, hc1⟩
  have x1 := Out.cell ho1 HX.out (.inr hc)
  have H1 := (show Hid _ from (⟨(Out.of_below (bel_alloc w _)).trans ho1, hc1⟩ : _ ∧ _)); clear ho1 hs1 hc1
  dsimp only
  go_wp2_with fail
  go_ret
  exact ⟨rfl, H1.out⟩

theorem leafD_any (n x : ByteArray) (w : World) : Calls Try.prog 19 #[.string n, .string x] w fun e w' => e = .returned (.agg #[.string n, .string x, .bool true, .slice none 0 0]) ∧ Below w.heap.size w w' := by
  go_enter Try.func19, Try.ntmps19
  go_wp2_with fail
  refine bodyPost_ret (v := .agg #[.string n, .string x, .bool true, .slice none 0 0]) (by simp [results, Try.results19, go_sem]) rfl ⟨rfl, ?_⟩
  exact bel_alloc _ _
theorem nodeD_any (n : ByteArray) (a : Option Addr) (m c : Nat) (w : World) : Calls Try.prog 32 #[.string n, .slice a m c] w fun e w' => e = .returned (.agg #[.string n, .string ByteArray.empty, .bool false, .slice a m c]) ∧ Below w.heap.size w w' := by
  go_enter Try.func32, Try.ntmps32
  go_wp2_with fail
  refine bodyPost_ret (v := .agg #[.string n, .string ByteArray.empty, .bool false, .slice a m c]) (by simp [results, Try.results32, go_sem]; rfl) rfl ⟨rfl, ?_⟩
  exact bel_alloc _ _
end Go.Proofs.Ytkkcdkfmlamgcaa

/-! A Tree in a block of its own. -/
namespace Go.Proofs.Ytkkcdkfmlamgcaa
open Go.RowKit Go.Deep Go.Lib
set_option linter.unusedVariables false
set_option maxRecDepth 100000
set_option linter.unusedSimpArgs false

def Box4 (w : World) (b : Nat) (c0 c1 c2 c3 : Value) : Prop := ∃ f, w.rowIs b 39 4 f ∧ f 0 = c0 ∧ f 1 = c1 ∧ f 2 = c2 ∧ f 3 = c3
theorem Box4.lt {w : World} {b : Nat} {c0 c1 c2 c3 : Value} (h : Box4 w b c0 c1 c2 c3) : b < w.heap.size := by
  obtain ⟨f, h, _⟩ := h; exact h.lt
theorem Box4.new (w : World) (c0 c1 c2 c3 : Value) : Box4 (w.alloc (.cells #[c0, c1, c2, c3] 39)) w.heap.size c0 c1 c2 c3 :=
  ⟨fun i => (#[c0, c1, c2, c3][i]?).getD (.bool false), ⟨#[c0, c1, c2, c3], blk_alloc_new _ _, rfl, fun i hi => by simp [hi]⟩, rfl, rfl, rfl, rfl⟩
theorem Box4.keep {w w' : World} {b : Nat} {c0 c1 c2 c3 : Value} (h : Box4 w b c0 c1 c2 c3) (hb : w'.heap[b]? = w.heap[b]?) : Box4 w' b c0 c1 c2 c3 := by
  obtain ⟨f, h, r⟩ := h; exact ⟨f, h.of_block hb, r⟩
theorem Box4.still {w w' : World} {b : Nat} {c0 c1 c2 c3 : Value} (h : Box4 w b c0 c1 c2 c3) (hb : Below w.heap.size w w') : Box4 w' b c0 c1 c2 c3 := h.keep (hb.block b h.lt)
theorem Box4.cells {w : World} {b : Nat} {c0 c1 c2 c3 : Value} (h : Box4 w b c0 c1 c2 c3) : Four w b c0 c1 c2 c3 := by
  obtain ⟨f, h, rfl, rfl, rfl, rfl⟩ := h
  exact ⟨h.cell (by decide), h.cell (by decide), h.cell (by decide), h.cell (by decide)⟩
theorem Box4.frozen {w : World} {b : Nat} {c0 c1 c2 c3 : Value} (h : Box4 w b c0 c1 c2 c3) (i : Nat) : w.frozen? ⟨b, i, none⟩ = false := by
  obtain ⟨f, h, _⟩ := h; exact h.frozen i
theorem Box4.set3 {w : World} {b : Nat} {c0 c1 c2 c3 : Value} (h : Box4 w b c0 c1 c2 c3) (u : Value) : Box4 (w.setCell ⟨b, 3, none⟩ u) b c0 c1 c2 u := by
  obtain ⟨f, h, rfl, rfl, rfl, rfl⟩ := h
  exact ⟨_, h.set 3 u, rfl, rfl, rfl, rfl⟩
theorem Box4.set4 {w : World} {b : Nat} {c0 c1 c2 c3 : Value} (h : Box4 w b c0 c1 c2 c3) (u0 u1 u2 u3 : Value) : Box4 ((((w.setCell ⟨b, 0, none⟩ u0).setCell ⟨b, 1, none⟩ u1).setCell ⟨b, 2, none⟩ u2).setCell ⟨b, 3, none⟩ u3) b u0 u1 u2 u3 := by
  obtain ⟨f, h, rfl, rfl, rfl, rfl⟩ := h
  exact ⟨_, (((h.set 0 u0).set 1 u1).set 2 u2).set 3 u3, rfl, rfl, rfl, rfl⟩

end Go.Proofs.Ytkkcdkfmlamgcaa
