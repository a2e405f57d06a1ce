import Derived.Test.YtcpjoicejbcndaaCu
import Derived.Deep.AppendLies
import Derived.Deep.OwnRows
import Derived.Laws.BytesArg
/-! What is drawn for FnEditsMeet: what is said, and what stands while one draws. -/
namespace Go.Proofs.Ytcpjoicejbcndaa
open Go.RowKit Go.Deep Go.Lib
set_option linter.unusedVariables false
set_option maxRecDepth 100000
set_option linter.unusedSimpArgs false

/-- An edit. -/
structure Ed3 where
  a : Int
  d : Int
  s : ByteArray
def pickOf (l : List ByteArray) (i : Nat) : ByteArray := (l[i]?).getD ⟨#[]⟩
def litE : List ByteArray := [⟨#[]⟩, ⟨#[97]⟩, ⟨#[98, 99]⟩, ⟨#[100, 101, 102]⟩]
def numE (i : Nat) : Int := if i = 0 then -1 else if i = 1 then 4000 else 4001
/-- So many bytes 0. -/
def zrs (n : Nat) : ByteArray := strOfNums (List.replicate n 0)
theorem zrs_size (n : Nat) : (zrs n).size = n := by
  unfold zrs strOfNums
  simp [ByteArray.size]
def cEd (cs : List UInt8) (s : Nat × Nat) : Ed3 × (Nat × Nat) :=
  (⟨((cPick cs 8 s).1 : Nat), ((cPick cs 5 (cPick cs 8 s).2).1 : Nat), pickOf litE (cPick cs 4 (cPick cs 5 (cPick cs 8 s).2).2).1⟩, (cPick cs 4 (cPick cs 5 (cPick cs 8 s).2).2).2)
def cEs (cs : List UInt8) (s : Nat × Nat) (j : Nat) : List Ed3 × (Nat × Nat) := match j with
  | 0 => ([], s)
  | 1 => ([(cEd cs s).1], (cEd cs s).2)
  | _ => ([(cEd cs s).1, (cEd cs (cEd cs s).2).1], (cEd cs (cEd cs s).2).2)
theorem cEs_succ (cs : List UInt8) (s : Nat × Nat) (j : Nat) (h : j < 2) : cEs cs s (j + 1) = ((cEs cs s j).1 ++ [(cEd cs (cEs cs s j).2).1], (cEd cs (cEs cs s j).2).2) := by
  have : j = 0 ∨ j = 1 := by omega
  rcases this with rfl | rfl <;> rfl
/-- One of them is changed. -/
def cMod (cs : List UInt8) (s : Nat × Nat) (e : Ed3) : Ed3 :=
  if (cPick cs 3 s).1 = 0 then ⟨numE (cPick cs 3 (cPick cs 3 s).2).1, e.d, e.s⟩
  else if (cPick cs 3 s).1 = 1 then ⟨e.a, numE (cPick cs 3 (cPick cs 3 s).2).1, e.s⟩
  else ⟨e.a, e.d, zrs (4000 + (cPick cs 2 (cPick cs 3 s).2).1)⟩
/-- What DrawMoveEdit draws, once the two are there. -/
def cTwo (cs : List UInt8) (s : Nat × Nat) (x y : Ed3) : Ed3 × Ed3 :=
  if (cPick cs 10 s).1 = 0 then
    (if (cPick cs 2 (cPick cs 10 s).2).1 = 0 then (cMod cs (cPick cs 2 (cPick cs 10 s).2).2 x, y) else (x, cMod cs (cPick cs 2 (cPick cs 10 s).2).2 y))
  else (x, y)
def cMe (cs : List UInt8) : Ed3 × Ed3 :=
  cTwo cs (cEs cs (0, 17 + cs.length) 2).2 (cEd cs (0, 17 + cs.length)).1 (cEd cs (cEd cs (0, 17 + cs.length)).2).1
/-- What is known of an edit that was drawn. -/
structure Ed3.Sm (e : Ed3) : Prop where
  a : -1 ≤ e.a ∧ e.a ≤ 4001
  d : -1 ≤ e.d ∧ e.d ≤ 4001
  s : e.s.size ≤ 4001
theorem litE_size (i : Nat) : (pickOf litE i).size ≤ 3 := by
  unfold pickOf litE
  rcases i with _ | _ | _ | _ | i <;> simp <;> decide
theorem numE_sm (i : Nat) : -1 ≤ numE i ∧ numE i ≤ 4001 := by unfold numE; split <;> (try split) <;> omega
theorem cEd_sm (cs : List UInt8) (s : Nat × Nat) : (cEd cs s).1.Sm := by
  have h1 := cPick_lt cs 8 s (by omega)
  have h2 := cPick_lt cs 5 (cPick cs 8 s).2 (by omega)
  refine ⟨?_, ?_, ?_⟩ <;> unfold cEd <;> dsimp only
  · omega
  · omega
  · have := litE_size (cPick cs 4 (cPick cs 5 (cPick cs 8 s).2).2).1; omega
theorem cMod_sm (cs : List UInt8) (s : Nat × Nat) (e : Ed3) (h : e.Sm) : (cMod cs s e).Sm := by
  unfold cMod
  split
  · exact ⟨numE_sm _, h.d, h.s⟩
  · split
    · exact ⟨h.a, numE_sm _, h.s⟩
    · refine ⟨h.a, h.d, ?_⟩
      have := cPick_lt cs 2 (cPick cs 3 s).2 (by omega)
      rw [zrs_size]; omega
theorem cMe_sm (cs : List UInt8) : (cMe cs).1.Sm ∧ (cMe cs).2.Sm := by
  unfold cMe cTwo
  have h1 := cEd_sm cs (0, 17 + cs.length)
  have h2 := cEd_sm cs (cEd cs (0, 17 + cs.length)).2
  split
  · split
    · exact ⟨cMod_sm _ _ _ h1, h2⟩
    · exact ⟨h1, cMod_sm _ _ _ h2⟩
  · exact ⟨h1, h2⟩

theorem own_keep {w w' : World} {base e size n : Nat} {v : Value} {xs : List Value} (h : w.ownsRow base e size v n xs) (hb : ∀ b, v.ownBlock = some b → w'.heap[b]? = w.heap[b]?) : w'.ownsRow base e size v n xs := by
  obtain ⟨h1, h2⟩ := h
  refine ⟨h1, ?_⟩
  rcases h2 with h2 | ⟨g, cap, cur, rfl, hg, hh, rest⟩
  · exact .inl h2
  · exact .inr ⟨g, cap, cur, rfl, hg, (hb g rfl).trans hh, rest⟩
theorem own_lt {w : World} {base e size n : Nat} {v : Value} {xs : List Value} (h : w.ownsRow base e size v n xs) {b : Nat} (hb : v.ownBlock = some b) : base ≤ b ∧ b < w.heap.size := World.ownsRow.lt h b hb
/-- The edits' cells. -/
def ev (l : List Ed3) : List Value := l.flatMap (fun x => edC x.a x.d x.s)
theorem ev_append (l l' : List Ed3) : ev (l ++ l') = ev l ++ ev l' := by unfold ev; rw [List.flatMap_append]
/-- What stands while one draws: the cursor behind two boxes. -/
structure DS (w : World) (cs : List UInt8) (a : Option Addr) (cap b off : Nat) (s : Nat × Nat) (wq : World) : Prop where
  bel : Below w.heap.size w wq
  cur : Cur wq cs a cap b off (w.heap.size + 1 + 1) s
  r0 : Box wq w.heap.size 25 (edC 0 0 ⟨#[]⟩)
  r1 : Box wq (w.heap.size + 1) 25 (edC 0 0 ⟨#[]⟩)
  sz : w.heap.size + 1 + 1 + 1 ≤ wq.heap.size
variable {w : World} {cs : List UInt8} {a : Option Addr} {cap b off : Nat} {s s' : Nat × Nat} {wq wr : World}
theorem DS.low (h : DS w cs a cap b off s wq) (hb : Below (w.heap.size + 1 + 1 + 1) wq wr) : DS w cs a cap b off s wr :=
  ⟨h.bel.trans (hb.mono (by omega)), h.cur.keep (fun k hk => hb.block k (by omega)), h.r0.keep (hb.block _ (by omega)), h.r1.keep (hb.block _ (by omega)), Nat.le_trans h.sz hb.size⟩
theorem DS.still (h : DS w cs a cap b off s wq) (hb : Below wq.heap.size wq wr) : DS w cs a cap b off s wr := h.low (hb.mono h.sz)
theorem DS.step (h : DS w cs a cap b off s wq) (ho : Out (w.heap.size + 1 + 1) (w.heap.size + 1 + 1 + 1) wq wr) (hs : wr.heap.size = wq.heap.size) (hc : Cur wr cs a cap b off (w.heap.size + 1 + 1) s') : DS w cs a cap b off s' wr :=
  ⟨⟨ho.1.trans h.bel.os, ho.2.1.trans h.bel.tape, ho.2.2.1.trans h.bel.output, Nat.le_trans h.bel.size ho.2.2.2.1, fun k hk => (ho.2.2.2.2 k (by have := h.bel.size; omega) (.inl (by omega))).trans (h.bel.block k hk)⟩, hc,
    h.r0.keep (ho.2.2.2.2 _ h.r0.lt (.inl (by omega))), h.r1.keep (ho.2.2.2.2 _ h.r1.lt (.inl (by omega))), by have := h.sz; omega⟩
/-- A number is drawn. -/
def PkA (w : World) (cs : List UInt8) (a : Option Addr) (cap b off : Nat) (n : Nat) (s : Nat × Nat) (wq : World) (e : Ending) (w' : World) : Prop :=
  e = .returned (.int .i64 ((cPick cs n s).1 : Nat)) ∧ DS w cs a cap b off (cPick cs n s).2 w' ∧ Out (w.heap.size + 1 + 1) (w.heap.size + 1 + 1 + 1) wq w' ∧ w'.heap.size = wq.heap.size
theorem pick11 (n : Nat) (hn : n ≤ 1048576) (h : DS w cs a cap b off s wq) : Calls Try.prog 11 #[.pointer (some ⟨w.heap.size + 1 + 1, 0, none⟩), .int .i64 (n : Int)] wq (PkA w cs a cap b off n s wq) :=
  (pick_any n wq h.cur hn).mono fun e w' ⟨h1, h2, h3, h4⟩ => ⟨h1, h.step h2 h3 h4, h2, h3⟩
/-- A row, as long as only the cursor is written. -/
theorem own_out {base e size n : Nat} {v : Value} {xs : List Value} (h : wq.ownsRow base e size v n xs) (ho : Out (w.heap.size + 1 + 1) (w.heap.size + 1 + 1 + 1) wq wr) (hb : w.heap.size + 1 + 1 + 1 ≤ base) : wr.ownsRow base e size v n xs :=
  own_keep h (fun q hq => ho.2.2.2.2 q (own_lt h hq).2 (.inr (by have := (own_lt h hq).1; omega)))
theorem cell_out {k o : Nat} {v : Value} (hc : wq.cell? ⟨k, o, none⟩ = some v) (ho : Out (w.heap.size + 1 + 1) (w.heap.size + 1 + 1 + 1) wq wr) (hk : w.heap.size + 1 + 1 + 1 ≤ k) : wr.cell? ⟨k, o, none⟩ = some v :=
  (World.cell?_of_block (w := wq) (ho.2.2.2.2 k (lt_of_cell hc) (.inr hk))).trans hc
theorem cell_lit (w : World) (i : Nat) (hi : i < 4) : (w.alloc (.cells #[.string ⟨#[]⟩, .string ⟨#[97]⟩, .string ⟨#[98, 99]⟩, .string ⟨#[100, 101, 102]⟩] 9)).cell? ⟨w.heap.size, i, none⟩ = some (.string (pickOf litE i)) := by
  have : i = 0 ∨ i = 1 ∨ i = 2 ∨ i = 3 := by omega
  rcases this with rfl | rfl | rfl | rfl <;> simp [go_sem, pickOf, litE]
theorem cell_num (w : World) (i : Nat) (hi : i < 3) : (w.alloc (.cells #[.int .i64 (-1), .int .i64 4000, .int .i64 4001] 3)).cell? ⟨w.heap.size, i, none⟩ = some (.int .i64 (numE i)) := by
  have : i = 0 ∨ i = 1 ∨ i = 2 := by omega
  rcases this with rfl | rfl | rfl <;> simp [go_sem, numE]
theorem info25p : (Try.prog.info? 25).map (fun i => (i.zero, i.size, i.bytes)) = some (some (.agg #[.int .i64 0, .int .i64 0, .string ByteArray.empty]), 3, 32) := by kernel_rfl
/-- A row of two edits, its cells told one by one. -/
def R6 (w : World) (g : Nat) (x y : Ed3) : Prop := ∃ n f, w.rowIs g 25 n f ∧ 6 ≤ n ∧ f 0 = .int .i64 x.a ∧ f 1 = .int .i64 x.d ∧ f 2 = .string x.s ∧ f 3 = .int .i64 y.a ∧ f 4 = .int .i64 y.d ∧ f 5 = .string y.s
theorem R6.of {base g c : Nat} {x y : Ed3} (h : wq.ownsRow base 25 3 (.slice (some ⟨g, 0, none⟩) 2 c) 2 (ev [x, y])) : R6 wq g x y := by
  obtain ⟨h1, h2⟩ := h
  rcases h2 with ⟨h2, h3⟩ | ⟨g', cap', cur, hv', hg, hh, hc, hcm, hs, ht⟩
  · omega
  · obtain rfl : g = g' := by injection hv' with e1 e2 e3; injection e1 with e1; injection e1 with e1
    have hk : ∀ i v, i < 6 → (ev [x, y])[i]? = some v → cur[i]? = some v := by
      intro i v hi e
      rw [← ht, List.getElem?_take_of_lt (by omega)] at e
      simpa using e
    have h6 : 6 ≤ cur.size := by
      have := hk 5 (.string y.s) (by omega) rfl
      have := (Array.getElem?_eq_some_iff.1 this).1
      omega
    refine ⟨cur.size, fun i => cur.getD i .nilFunc, ⟨cur, hh, rfl, fun i hi => by simp [hi]⟩, h6, ?_, ?_, ?_, ?_, ?_, ?_⟩ <;> dsimp only <;> rw [Array.getD_eq_getD_getElem?]
    · rw [hk 0 (.int .i64 x.a) (by omega) rfl]; rfl
    · rw [hk 1 (.int .i64 x.d) (by omega) rfl]; rfl
    · rw [hk 2 (.string x.s) (by omega) rfl]; rfl
    · rw [hk 3 (.int .i64 y.a) (by omega) rfl]; rfl
    · rw [hk 4 (.int .i64 y.d) (by omega) rfl]; rfl
    · rw [hk 5 (.string y.s) (by omega) rfl]; rfl
theorem R6.cells {g : Nat} {x y : Ed3} (h : R6 wq g x y) : (wq.cell? ⟨g, 0, none⟩ = some (.int .i64 x.a) ∧ wq.cell? ⟨g, 1, none⟩ = some (.int .i64 x.d) ∧ wq.cell? ⟨g, 2, none⟩ = some (.string x.s)) ∧ wq.cell? ⟨g, 3, none⟩ = some (.int .i64 y.a) ∧ wq.cell? ⟨g, 4, none⟩ = some (.int .i64 y.d) ∧ wq.cell? ⟨g, 5, none⟩ = some (.string y.s) := by
  obtain ⟨n, f, h, h6, e0, e1, e2, e3, e4, e5⟩ := h
  rw [← e0, ← e1, ← e2, ← e3, ← e4, ← e5]
  exact ⟨⟨h.cell (by omega), h.cell (by omega), h.cell (by omega)⟩, h.cell (by omega), h.cell (by omega), h.cell (by omega)⟩
theorem R6.frozen {g : Nat} {x y : Ed3} (h : R6 wq g x y) (i : Nat) : wq.frozen? ⟨g, i, none⟩ = false := by
  obtain ⟨n, f, h, _⟩ := h
  exact h.frozen i
theorem R6.keep {g : Nat} {x y : Ed3} (h : R6 wq g x y) (hb : wr.heap[g]? = wq.heap[g]?) : R6 wr g x y := by
  obtain ⟨n, f, h, e⟩ := h
  exact ⟨n, f, h.of_block hb, e⟩
theorem R6.lt {g : Nat} {x y : Ed3} (h : R6 wq g x y) : g < wq.heap.size := by
  obtain ⟨n, f, h, _⟩ := h
  exact h.lt
theorem R6.past {g q o : Nat} {x y : Ed3} {u : Value} (h : R6 wq g x y) (hq : g ≠ q) : R6 (wq.setCell ⟨q, o, none⟩ u) g x y := h.keep (blk_setCell_other _ _ _ _ (by exact hq))
theorem R6.drew {g : Nat} {x y : Ed3} (h : R6 wq g x y) : R6 wq.drew g x y := h.keep rfl
theorem R6.set0 {g : Nat} {x y e : Ed3} (h : R6 wq g x y) : R6 (((wq.setCell ⟨g, 0, none⟩ (.int .i64 e.a)).setCell ⟨g, 1, none⟩ (.int .i64 e.d)).setCell ⟨g, 2, none⟩ (.string e.s)) g e y := by
  obtain ⟨n, f, h, h6, e0, e1, e2, e3, e4, e5⟩ := h
  refine ⟨n, _, ((h.set 0 _).set 1 _).set 2 _, h6, ?_, ?_, ?_, ?_, ?_, ?_⟩ <;> simp [e0, e1, e2, e3, e4, e5]
theorem R6.set1 {g : Nat} {x y e : Ed3} (h : R6 wq g x y) : R6 (((wq.setCell ⟨g, 3, none⟩ (.int .i64 e.a)).setCell ⟨g, 4, none⟩ (.int .i64 e.d)).setCell ⟨g, 5, none⟩ (.string e.s)) g x e := by
  obtain ⟨n, f, h, h6, e0, e1, e2, e3, e4, e5⟩ := h
  refine ⟨n, _, ((h.set 3 _).set 4 _).set 5 _, h6, ?_, ?_, ?_, ?_, ?_, ?_⟩ <;> simp [e0, e1, e2, e3, e4, e5]
theorem info5p : (Try.prog.info? 5).map (fun i => (i.zero, i.size, i.bytes)) = some (some (.int .u8 0), 1, 1) := by kernel_rfl
/-- Bytes that are made, and as a text. -/
theorem run_makeZ (n : Nat) (hn : n ≤ 4001) (w : World) :
    (Instr.makeSlice 22 (.int .i64 (n : Int)) (.int .i64 (n : Int))).run Try.prog w = .ok (.slice (some ⟨w.heap.size, 0, none⟩) n n) (w.alloc (.cells (madeCells #[.int .u8 0] n) 5)) := by
  obtain ⟨i, hi, hzz⟩ := Option.map_eq_some_iff.1 info5p
  simp only [Prod.mk.injEq] at hzz
  obtain ⟨hz, hs, hb⟩ := hzz
  have hr := run_make (P := Try.prog) w 22 5 i _ Try.underlying22 hi hz .i64 .i64 n n (by omega) (Int.le_refl _) (by rw [hb]; omega) (by omega)
  simp only [Int.toNat_natCast, hs, Nat.mul_one] at hr
  exact hr
theorem run_convZ (n : Nat) (w : World) : (convert 22 9 (.slice (some ⟨w.heap.size, 0, none⟩) n n)).run Try.prog (w.alloc (.cells (madeCells #[.int .u8 0] n) 5)) = .ok (.string (zrs n)) (w.alloc (.cells (madeCells #[.int .u8 0] n) 5)) := by
  refine run_convert_bytes_arg (P := Try.prog) _ 22 5 Try.underlying22 Try.underlying5 w.heap.size 0 n n (List.replicate n 0) (by simp) (fun i hi => ?_) 9 Try.underlying9
  have hr : (w.alloc (.cells (madeCells #[.int .u8 0] n) 5)).rowIs w.heap.size 5 n (fun _ => .int .u8 0) := ⟨madeCells #[.int .u8 0] n, blk_alloc_new _ _, by simp [madeCells], fun i hi => by simp [madeCells, hi, Nat.mod_one]⟩
  rw [Nat.zero_add, hr.cell hi]
  simp [List.getD_eq_getElem?_getD, hi]
end Go.Proofs.Ytcpjoicejbcndaa
