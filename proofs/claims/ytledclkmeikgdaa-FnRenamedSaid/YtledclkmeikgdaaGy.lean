import Derived.Test.YtledclkmeikgdaaGx
import Derived.Maps.OwnSet
import Derived.DeepKeys4
import Derived.BigQuiet
/-! The program: the scopes that were seen, as a map; news. -/
namespace Go.Proofs.Ytledclkmeikgdaa
open Go.RowKit Go.Deep Go.Maps Go.WideMaps Go.ChangeMaps
set_option linter.unusedVariables false
set_option maxRecDepth 100000
set_option linter.unusedSimpArgs false

/-- All blocks that were there but one are as they were. -/
structure KB (m : Nat) (w w' : World) : Prop where
  os : w'.os = w.os
  tape : w'.tape = w.tape
  output : w'.output = w.output
  size : w.heap.size ≤ w'.heap.size
  block : ∀ k, k < w.heap.size → k ≠ m → w'.heap[k]? = w.heap[k]?
theorem KB.refl (m : Nat) (w : World) : KB m w w := ⟨rfl, rfl, rfl, Nat.le_refl _, fun _ _ _ => rfl⟩
theorem KB.of_below {m : Nat} {w w' : World} (h : Below w.heap.size w w') : KB m w w' := ⟨h.os, h.tape, h.output, h.size, fun k hk _ => h.block k hk⟩
theorem KB.trans {m : Nat} {a b c : World} (h : KB m a b) (k : KB m b c) : KB m a c :=
  ⟨k.os.trans h.os, k.tape.trans h.tape, k.output.trans h.output, Nat.le_trans h.size k.size, fun q hq hm => (k.block q (Nat.lt_of_lt_of_le hq h.size) hm).trans (h.block q hq hm)⟩
theorem KB.bel {m : Nat} {a b c : World} (h : KB m a b) (k : Below b.heap.size b c) : KB m a c := h.trans (KB.of_below k)
theorem KB.grown {m : Nat} {w a a' : World} {row : Option Nat} (h : KB m w a) (g : a.grownBy a' row) (hr : ∀ k, row = some k → w.heap.size ≤ k ∨ k = m) : KB m w a' := by
  have hb := (Below.refl 0 a).grown g (Nat.zero_le _) (fun k _ => Nat.zero_le _)
  exact ⟨hb.os.trans h.os, hb.tape.trans h.tape, hb.output.trans h.output, Nat.le_trans h.size g.size, fun k hk hm => (g.block k (Nat.lt_of_lt_of_le hk h.size) (fun e => by have := hr k e.symm; omega)).trans (h.block k hk hm)⟩
theorem KB.cell {m : Nat} {w w' : World} (h : KB m w w') {g o : Nat} {v : Value} (hg : g ≠ m) (hc : w.cell? ⟨g, o, none⟩ = some v) : w'.cell? ⟨g, o, none⟩ = some v :=
  (World.cell?_of_block (w := w) (a := ⟨g, o, none⟩) (h.block g (lt_of_cell hc) hg)).trans hc
theorem keyed3 : Keyed Try.prog 3 := int_keyed Try.underlying3
theorem wfI {x : Int} (h0 : 0 ≤ x) (h : x < 60) : (Lit.int .i64 x).wf = true := by
  have hm : IntKind.i64.min = -9223372036854775808 := by decide
  have hM : IntKind.i64.max = 9223372036854775807 := by decide
  simp [Lit.wf, hm, hM]
  omega
theorem keyI {x : Int} (h0 : 0 ≤ x) (h : x < 60) : keyOf Try.prog 3 (.int .i64 x) = some (.int .i64 x) := keyOf_int_mk Try.underlying3 (wfI h0 h)
/-- Block m is a map whose keys are these. -/
structure MS (w : World) (m : Nat) (seen : List Int) : Prop where
  ex : ∃ (D : DataW Unit), w.ownsMap Try.prog 3 unitElem m seen.length D ∧ Tidy D ∧ size D = seen.length ∧ ∀ x : Int, 0 ≤ x → x < 60 → (has D (.int .i64 x) = true ↔ x ∈ seen)
theorem MS.new (w : World) : MS (w.alloc (.map #[] 0)) w.heap.size [] :=
  ⟨.map [], World.ownsMap_made w Try.prog 3 unitElem, tidy_empty, rfl, fun x _ _ => by simp [has]⟩
theorem MS.keep {w w' : World} {m : Nat} {seen : List Int} (h : MS w m seen) (hb : w'.heap[m]? = w.heap[m]?) : MS w' m seen := by
  obtain ⟨D, ⟨es, clock, h3, h4⟩, h2⟩ := h
  exact ⟨D, ⟨es, clock, hb.trans h3, h4⟩, h2⟩
theorem MS.lt {w : World} {m : Nat} {seen : List Int} (h : MS w m seen) : m < w.heap.size := by
  obtain ⟨D, h1, _⟩ := h
  exact h1.lt
theorem MS.bel {w w' : World} {m : Nat} {seen : List Int} (h : MS w m seen) (hb : Below w.heap.size w w') : MS w' m seen := h.keep (hb.block m h.lt)
/-- How large a map is. -/
def mpS (m : Nat) (w : World) : Nat := match w.heap[m]? with
  | some (.map es _) => es.size
  | _ => 0
theorem MS.size {w : World} {m : Nat} {seen : List Int} (h : MS w m seen) : mpS m w = seen.length := by
  obtain ⟨D, ⟨es, clock, h3, h4, h5, rfl⟩, h6, h7, h8⟩ := h
  unfold mpS
  rw [h3]
  dsimp only
  rw [← h7]
  exact (length_read (P := Try.prog) (k := 3) (R0 := unitElem) es).symm
theorem zeroU (w : World) : (zeroValue 141).run Try.prog w = .ok (.agg #[]) w := by
  exact (Option.map_eq_some_iff.1 (show (Try.prog.info? 141).map (fun i => i.zero) = some (some (.agg #[])) by kernel_rfl)).elim fun i hi => by simp [zeroValue, typeInfo, hi.1, hi.2]
theorem MS.look {w : World} {m : Nat} {seen : List Int} (h : MS w m seen) {x : Int} (h0 : 0 ≤ x) (h1 : x < 60) :
    (Instr.lookup 119 (.map (some m)) (.int .i64 x) true).run Try.prog w = .ok (.tuple #[.agg #[], .bool (hasI seen x)]) w := by
  obtain ⟨D, d1, d2, d3, d4⟩ := h
  obtain ⟨v, ps, hr, hv⟩ := d1.look_ok keyed3 Try.underlying119 (zeroU w) unitElem_mk (keyI h0 h1)
  obtain ⟨rfl, _⟩ := unitElem_inv hv
  have hb : has D (.int .i64 x) = hasI seen x := by
    unfold hasI
    rw [Bool.eq_iff_iff, d4 x h0 h1, decide_eq_true_eq]
  rw [hr, hb]
theorem MS.put {w : World} {m : Nat} {seen : List Int} (h : MS w m seen) {x : Int} (h0 : 0 ≤ x) (h1 : x < 60) (hn : x ∉ seen) (hl : seen.length ≤ 1000) :
    ∃ w', (Instr.mapUpdate 119 (.map (some m)) (.int .i64 x) (.agg #[])).run Try.prog w = .ok () w' ∧ MS w' m (seen ++ [x]) ∧ w.grownBy w' (some m) ∧ w'.heap.size = w.heap.size := by
  obtain ⟨D, d1, d2, d3, d4⟩ := h
  obtain ⟨w', hr, ho, ht⟩ := d1.store keyed3 Try.underlying119 (by unfold maxLen; omega) (keyI h0 h1) unitElem_mk
  have hf : has D (.int .i64 x) = false := by
    cases e : has D (.int .i64 x)
    · rfl
    · exact absurd ((d4 x h0 h1).1 e) hn
  have hkl := keyed3.key (keyI h0 h1)
  refine ⟨w', hr, ⟨_, by simpa using ho, d2.put hkl _, ?_, fun y hy0 hy1 => ?_⟩, ht.grown, ?_⟩
  · rw [size_put d2, hf, d3]; simp
  · by_cases e : y = x
    · subst e
      rw [has_put_same d2.isMap hkl]
      simp
    · rw [has_put_other (fun e2 => e (by injection e2)), d4 y hy0 hy1]
      simp [e]
  · obtain ⟨es, clock, es', clock', _, rfl⟩ := ht
    simp [setBlock]
theorem MS.clear {w : World} {m : Nat} {seen : List Int} (h : MS w m seen) (ty : TypeId) :
    ∃ w', (Builtin.clear_ #[119] ty #[.map (some m)]).run Try.prog w = .ok (.tuple #[]) w' ∧ MS w' m [] ∧ w.grownBy w' (some m) := by
  obtain ⟨D, ⟨es, clock, h3, F, h5, rfl⟩, _⟩ := h
  refine ⟨setBlock w m (.map #[] clock), ?_, ⟨.map [], ⟨#[], clock, heap_setBlock_same h3 _, ?_, by simp, rfl⟩, tidy_empty, rfl, fun x _ _ => by simp [has]⟩, World.mapTurned.grown ⟨es, clock, #[], clock, h3, rfl⟩⟩
  · simp [Builtin.clear_, run_underlying Try.underlying119, getObj, setObj, Sem.run, Sem.run_bind, h3, Result.andThen, setBlock]
  · exact ⟨by unfold maxLen; simp, MapKept.stamped_empty clock, by simp⟩
/-- What news leaves. -/
def NwA (m : Nat) (seen l : List Int) (w : World) (e : Ending) (w' : World) : Prop := ∃ (a : Option Addr) (cp : Nat), e = .returned (.slice a (nwF seen l).length cp) ∧ KB m w w' ∧ MS w' m (seen ++ nwF seen l) ∧ w'.ownsRow w.heap.size 3 1 (.slice a (nwF seen l).length cp) (nwF seen l).length (iv (nwF seen l))
set_option maxHeartbeats 3200000 in
theorem news85 (l : List Int) (v : Value) (seen : List Int) (p m : Nat) (w : World) (hl : Ints w (fun b => b ≠ m) l v) (hM : MS w m seen) (hp : p ≠ m) (k4 : w.cell? ⟨p, 4, none⟩ = some (.map (some m))) (hr : ∀ x ∈ l, 0 ≤ x ∧ x < 60) (hll : l.length ≤ 120) (hls : seen.length ≤ 60) :
    Calls Try.prog 88 #[.pointer (some ⟨p, 0, none⟩), v] w (NwA m seen l w) := by
  obtain ⟨a, cap, b, off, rfl, hc, hm, ha, hcell⟩ := hl
  have HC := (show Hid _ from hcell); clear hcell
  have HA := (show Hid (0 < l.length → a = some ⟨b, off, none⟩ ∧ b ≠ m) from ha); clear ha
  have HR := (show Hid _ from hr); clear hr
  have HK4 := (show Hid _ from k4)
  unfold maxLen at hm
  obtain ⟨i3, hi3, hzz⟩ := Option.map_eq_some_iff.1 info3g
  simp only [Prod.mk.injEq] at hzz
  obtain ⟨hz0, hz1, hz2⟩ := hzz
  have HDL := (show Hid (∀ j, (nwF seen (l.take j)).length ≤ j) from fun j => by have := nwF_le (l.take j) seen; rw [List.length_take] at this; omega)
  have HML := (show Hid (m < w.heap.size) from hM.lt)
  have HST := (show Hid (KB m w w ∧ MS w m (seen ++ nwF seen (l.take 0)) ∧ w.ownsRow w.heap.size 3 1 (.slice none (nwF seen (l.take 0)).length 0) (nwF seen (l.take 0)).length (iv (nwF seen (l.take 0)))) from ⟨KB.refl _ _, by simpa [nwF] using hM, ownNil _ _ _ _⟩)
  clear hM
  go_enter Try.func88, Try.ntmps88
  go_wp2_with fail
  go_loopw [5, 12] (fun u i wr => ∃ (j : Nat) (ua : Option Addr) (cp : Nat), i = .int .i64 j ∧ j ≤ l.length ∧ u = .slice ua (nwF seen (l.take j)).length cp ∧ Hid (KB m w wr ∧ MS wr m (seen ++ nwF seen (l.take j)) ∧ wr.ownsRow w.heap.size 3 1 (.slice ua (nwF seen (l.take j)).length cp) (nwF seen (l.take j)).length (iv (nwF seen (l.take j))))) (fun _ i _ => l.length - (intOf i).toNat)
  case atStart => exact ⟨0, none, 0, rfl, Nat.zero_le _, rfl, HST⟩
  case round =>
    obtain ⟨j, ua, cp, rfl, hj, rfl, HI⟩ := hrel
    clear HST k4
    by_cases hjl : j < l.length
    · obtain ⟨rfl, hbm⟩ := HA.out (by omega)
      have c0 := HI.out.1.cell hbm (HC.out j hjl)
      have k4 := HI.out.1.cell hp HK4.out
      obtain ⟨r0, r1⟩ := HR.out l[j] (List.getElem_mem hjl)
      have HOLD := (show Hid (l[j] ∈ seen ++ nwF seen (l.take j) → nwF seen (l.take (j + 1)) = nwF seen (l.take j)) from fun h => nwF_old hjl h)
      have HNEW := (show Hid (l[j] ∉ seen ++ nwF seen (l.take j) → nwF seen (l.take (j + 1)) = nwF seen (l.take j) ++ [l[j]]) from fun h => nwF_new hjl h)
      have hlk := HI.out.2.1.look r0 r1
      generalize l[j] = x at *
      have hba := bel_alloc wr (.cells #[] 141)
      have HB1 := (show Hid (KB m w (wr.alloc (.cells #[] 141)) ∧ MS (wr.alloc (.cells #[] 141)) m (seen ++ nwF seen (l.take j)) ∧ (wr.alloc (.cells #[] 141)).ownsRow w.heap.size 3 1 (.slice ua (nwF seen (l.take j)).length cp) (nwF seen (l.take j)).length (iv (nwF seen (l.take j)))) from ⟨HI.out.1.bel hba, HI.out.2.1.bel hba, ownBel (C := 0) HI.out.2.2 hba⟩)
      have k4' : (wr.alloc (.cells #[] 141)).cell? ⟨p, 4, none⟩ = some (.map (some m)) := HB1.out.1.cell hp HK4.out
      clear hba
      by_cases hin : x ∈ seen ++ nwF seen (l.take j)
      case pos =>
        have HF := (show Hid _ from HOLD.out hin)
        rw [show hasI (seen ++ nwF seen (l.take j)) x = true from by unfold hasI; exact decide_eq_true hin] at hlk
        clear hin
        go_wp2_with fail
        rw [← HF.out]
        exact ⟨⟨j + 1, ua, cp, by go_num, by omega, rfl, by rw [HF.out]; exact HB1⟩, by simp [intOf]; omega⟩
      case neg =>
        have HF := (show Hid _ from HNEW.out hin)
        rw [show hasI (seen ++ nwF seen (l.take j)) x = false from by unfold hasI; exact decide_eq_false hin] at hlk
        obtain ⟨w3, hup, hms, hgr, hsz⟩ := HB1.out.2.1.put r0 r1 hin (by rw [List.length_append]; have := HDL.out j; omega)
        have HB3 := (show Hid (KB m w w3 ∧ MS w3 m (seen ++ nwF seen (l.take j) ++ [x]) ∧ w3.ownsRow w.heap.size 3 1 (.slice ua (nwF seen (l.take j)).length cp) (nwF seen (l.take j)).length (iv (nwF seen (l.take j)))) from ⟨HB1.out.1.grown hgr (fun k hk => .inr (by injection hk with h; exact h.symm)), hms, ownKeep HB1.out.2.2 (fun k hk => hgr.block k (World.ownsRow.lt HB1.out.2.2 k hk).2 (fun e => by
          have h1 := (World.ownsRow.lt HB1.out.2.2 k hk).1
          have h2 := HML.out
          injection e with e
          omega))⟩)
        clear hms hgr hsz hin
        have hba := bel_alloc w3 (.cells #[.int .i64 x] 3)
        have HO1 := (show Hid _ from ownBel (C := 0) HB3.out.2.2 hba)
        have HB4 := (show Hid (KB m w (w3.alloc (.cells #[.int .i64 x] 3)) ∧ MS (w3.alloc (.cells #[.int .i64 x] 3)) m (seen ++ nwF seen (l.take j) ++ [x])) from ⟨HB3.out.1.bel hba, HB3.out.2.1.bel hba⟩)
        have hNN := HDL.out j
        have HOB := (show Hid (∀ k, (Value.slice ua (nwF seen (l.take j)).length cp).ownBlock = some k → w.heap.size ≤ k) from fun k hk => (World.ownsRow.lt HI.out.2.2 k hk).1)
        generalize hNl : (nwF seen (l.take j)).length = NN at *
        have HNl := (show Hid _ from hNl); clear hNl hba
        go_wp2_with (at_builtin; refine wpList_append_lies _ rfl (.tmp 33) (.tmp 35) 34 rfl w.heap.size 3 i3 _ 1 8 Try.underlying34 hi3 hz0 hz1 hz2 rfl (by decide) _ NN _ rfl HO1.out ⟨w3.heap.size, 0, none⟩ 1 1 [.int .i64 x] rfl rfl ?c1 ?c2 (by decide) ?c3 ?c5 ?c4 _ rfl ?nx)
        case c2 => rfl
        case c3 => unfold maxLen; omega
        case c5 => omega
        case c4 => have := HB4.out.1.size; simp at this; exact this
        case nx =>
          intro g7 cap7 w7 hown7 hgr7 hat7 hlt7
          have HX := (show Hid (KB m w w7 ∧ MS w7 m (seen ++ nwF seen (l.take (j + 1))) ∧ w7.ownsRow w.heap.size 3 1 (.slice (some ⟨g7, 0, none⟩) (NN + 1) cap7) (nwF seen (l.take (j + 1))).length (iv (nwF seen (l.take (j + 1))))) from by
            refine ⟨HB4.out.1.grown hgr7 (fun k hk => .inl (HOB.out k hk)), ?_, ?_⟩
            · rw [HF.out, ← List.append_assoc]
              exact HB4.out.2.keep (hgr7.block m HB4.out.2.lt (fun e => by have := HOB.out m e.symm; have := HML.out; omega))
            · rw [HF.out, List.length_append, HNl.out]
              simpa [iv] using hown7)
          have HLN := (show Hid ((nwF seen (l.take (j + 1))).length = NN + 1) from by show _ = _; rw [HF.out, List.length_append, HNl.out]; rfl)
          clear hown7 hgr7 hat7 hlt7 HB4 HO1 HB3 hup hlk
          go_wp2_with fail
          exact ⟨⟨j + 1, _, _, by go_num, by omega, by rw [HLN.out], by rw [HLN.out]; have := HX; rw [HLN.out] at this; exact this⟩, by simp [intOf]; omega⟩
    · obtain rfl : j = l.length := by omega
      have HX := HI
      rw [List.take_length] at HX
      rw [List.take_length]
      go_wp2_with fail
      go_ret
      exact ⟨_, _, rfl, HX.out.1, HX.out.2.1, HX.out.2.2⟩
end Go.Proofs.Ytledclkmeikgdaa
