import Derived.Test.YtnmdgbnbnpibhaaCj
/-! A map that counts: m[k]++ as it is carried out (a look, an entry, a store into it). -/
namespace Go.Proofs.Ytnmdgbnbnpibhaa
open Go.RowKit Go.Deep Go.Maps Go.WideMaps Go.ChangeMaps Go.WideElems Go.MapKept
set_option linter.unusedVariables false
set_option maxRecDepth 100000
set_option linter.unusedSimpArgs false

theorem law119 : KeyLaw Try.prog 119 := deep_law_laid laidOutC (m := 2) (by omega) (of_decide_eq_true (by kernel_rfl)) (by kernel_rfl) (by kernel_rfl)
theorem keyed119 : Keyed Try.prog 119 := Keyed.of_law law119
def kv3 (x i j : Int) : Value := .agg #[.int .i64 x, .int .i64 i, .int .i64 j]
theorem kv3_inj {x i j x' i' j' : Int} (h : kv3 x i j = kv3 x' i' j') : x = x' ∧ i = i' ∧ j = j' := by
  simp [kv3] at h
  exact h
theorem kty119 : Try.prog.keyType 119 = true := by kernel_rfl
theorem cel119 : Try.prog.cellsOf 119 = 3 := by kernel_rfl
theorem key119 {x i j : Int} (hx : Sl x) (hi : Sl i) (hj : Sl j) : ∃ l, keyOf Try.prog 119 (kv3 x i j) = some l := by
  obtain ⟨n, hn⟩ := types_pos
  have hf : (kv3 x i j).formed Try.prog 119 = true := by simp [Value.formed, kv3, Try.underlying119, cel119]
  unfold keyOf
  rw [Try.underlying119]
  simp only [kty119, hf, hn, Bool.and_self, if_true]
  simp [Program.keyLits, Try.underlying119, cel119, cel3, Try.underlying3, kv3, Value.cells, hx.wf, hi.wf, hj.wf]
section
variable {w : World} {b : Nat} {es : Array MapEntry} {clock : Nat} {R : Value → Option (DataW Unit × List MemPlace)}
/-- An entry is made as if what was looked up were stored. -/
theorem entry_as (hb : w.heap[b]? = some (.map es clock)) (F : Fit Try.prog 119 R es clock) {key : Value} {kl : Lit} (hkey : keyOf Try.prog 119 key = some kl) :
    ∃ (v0 : Value) (st : Nat) (w1 : World), (Instr.mapEntry 117 (.map (some b)) key).run Try.prog w = .ok (.tuple #[v0, goInt st]) w1 ∧
      (Instr.mapUpdate 117 (.map (some b)) key v0).run Try.prog w = .ok () w1 ∧ (Instr.lookup 117 (.map (some b)) key false).run Try.prog w = .ok v0 w := by
  have ht := Try.underlying117
  have hz := zero3c
  rcases law119.find w hkey es.toList F.keys with ⟨h1, h2⟩ | ⟨j, e0, h1, h2, h3⟩
  · refine ⟨.int .i64 0, clock, setBlock w b (.map (es.push ⟨key, .int .i64 0, clock⟩) (clock + 1)), ?_, ?_, ?_⟩
    · simp [Instr.mapEntry, run_underlying ht, MapKept.run_getObj_map hb, law119.check w false hkey, h1, hz, MapKept.run_setObj_map _ hb, Result.andThen, setBlock]
    · simp [Instr.mapUpdate, run_underlying ht, MapKept.run_getObj_map hb, law119.check w false hkey, h1, MapKept.run_setObj_map _ hb, Result.andThen, setBlock]
    · simp [Instr.lookup, run_underlying ht, MapKept.run_getObj_map hb, law119.check w _ hkey, h1, hz, Result.andThen]
  · have hj : es[j]? = some e0 := by simpa using h2
    have hsame : es.modify j (fun e => { e with key := key }) = es := by
      apply Array.ext'
      rw [Array.toList_modify, modify_eq_set _ _ _ _ h2]
      have : ({ e0 with key := key } : MapEntry) = e0 := by rw [← h3]
      rw [this]
      exact set_self _ _ _ h2
    have hsame2 : es.modify j (fun e => { e with key := key, val := e0.val }) = es := by
      apply Array.ext'
      rw [Array.toList_modify, modify_eq_set _ _ _ _ h2]
      have : ({ e0 with key := key, val := e0.val } : MapEntry) = e0 := by rw [← h3]
      rw [this]
      exact set_self _ _ _ h2
    refine ⟨e0.val, e0.born, setBlock w b (.map es clock), ?_, ?_, ?_⟩
    · simp [Instr.mapEntry, run_underlying ht, MapKept.run_getObj_map hb, law119.check w false hkey, h1, hj, h3, law119.stays w hkey, hsame, MapKept.run_setObj_map _ hb, Result.andThen, setBlock]
    · simp [Instr.mapUpdate, run_underlying ht, MapKept.run_getObj_map hb, law119.check w false hkey, h1, hj, h3, law119.stays w hkey, hsame2, MapKept.run_setObj_map _ hb, Result.andThen, setBlock]
    · simp [Instr.lookup, run_underlying ht, MapKept.run_getObj_map hb, law119.check w _ hkey, h1, Result.andThen]
end
/-- What the map tells. -/
def CmOK (D : DataW Unit) (f : Int → Int → Int → Nat) : Prop := Tidy D ∧ ∀ x i j l, keyOf Try.prog 119 (kv3 x i j) = some l → D.atKey l (.lit (.int .i64 0)) = .lit (.int .i64 (f x i j))
/-- Block b is a map that counts. -/
structure Cm (w : World) (b n : Nat) (f : Int → Int → Int → Nat) : Prop where
  ex : ∃ (D : DataW Unit), w.ownsMap Try.prog 119 (plainElem Try.prog 3) b n D ∧ CmOK D f
theorem Cm.new (w : World) : Cm (w.alloc (.map #[] 0)) w.heap.size 0 (fun _ _ _ => 0) :=
  ⟨.map [], World.ownsMap_made w Try.prog 119 (plainElem Try.prog 3), tidy_empty, fun x i j l _ => by simp [DataW.atKey]⟩
theorem Cm.keep {w w' : World} {b n : Nat} {f : Int → Int → Int → Nat} (h : Cm w b n f) (hb : w'.heap[b]? = w.heap[b]?) : Cm w' b n f := by
  obtain ⟨D, h1, h2⟩ := h
  refine ⟨D, ?_, h2⟩
  obtain ⟨es, clock, h3, h4⟩ := h1
  exact ⟨es, clock, hb.trans h3, h4⟩
theorem Cm.lt {w : World} {b n : Nat} {f : Int → Int → Int → Nat} (h : Cm w b n f) : b < w.heap.size := by
  obtain ⟨D, h1, _⟩ := h
  exact h1.lt
theorem Cm.look {w : World} {b n : Nat} {f : Int → Int → Int → Nat} (h : Cm w b n f) {x i j : Int} {l : Lit} (hk : keyOf Try.prog 119 (kv3 x i j) = some l) :
    (Instr.lookup 117 (.map (some b)) (kv3 x i j) false).run Try.prog w = .ok (.int .i64 (f x i j)) w := by
  obtain ⟨D, h1, h2, h3⟩ := h
  obtain ⟨c, hr, hat, _⟩ := h1.lookup_int keyed119 Try.underlying117 Try.underlying3 (zero3c w) hk
  have := h3 x i j l hk
  rw [hat] at this
  have e : c = ((f x i j : Nat) : Int) := by simpa using this
  rw [hr, e]
def addF (f : Int → Int → Int → Nat) (x i j : Int) : Int → Int → Int → Nat := fun x' i' j' => if x' = x ∧ i' = i ∧ j' = j then f x i j + 1 else f x' i' j'
theorem Cm.bump {w : World} {b n : Nat} {f : Int → Int → Int → Nat} (h : Cm w b n f) (hn : n + 1 < maxLen) {x i j : Int} {l : Lit} (hk : keyOf Try.prog 119 (kv3 x i j) = some l) (hf : f x i j ≤ 1000000) :
    ∃ (st : Nat) (w1 w3 : World), (Instr.mapEntry 117 (.map (some b)) (kv3 x i j)).run Try.prog w = .ok (.tuple #[.int .i64 (f x i j), goInt st]) w1 ∧
      (Instr.lookup 117 (.map (some b)) (kv3 x i j) false).run Try.prog w = .ok (.int .i64 (f x i j)) w ∧
      (Instr.lookup 117 (.map (some b)) (kv3 x i j) false).run Try.prog w1 = .ok (.int .i64 (f x i j)) w1 ∧
      (Instr.entryStore 117 (.map (some b)) (goInt st) (.int .i64 ((f x i j : Int) + 1))).run Try.prog w1 = .ok () w3 ∧
      K1 b w w1 ∧ K1 b w w3 ∧ Cm w3 b (n + 1) (addF f x i j) := by
  have hlk := h.look hk
  obtain ⟨D, h1, h2, h3⟩ := h
  have h1' := h1
  obtain ⟨es, clock, hb, F, hs, hD⟩ := h1'
  obtain ⟨v0, st, w1, r1, r2, r3⟩ := entry_as hb F hk
  rw [hlk] at r3
  obtain rfl : v0 = .int .i64 (f x i j) := by injection r3 with e _; exact e.symm
  obtain ⟨v0', st', es1, clock1, r1', _, hst⟩ := entry_then_store law119 Try.underlying117 (fun u => zero3c u) hb F hk
  rw [r1] at r1'
  have e1 : w1 = setBlock w b (.map es1 clock1) := by injection r1'
  have e2 : goInt st = goInt st' := by
    injection r1' with e _
    injection e with e
    simp at e
    exact e.2
  have hp0 := plain3 (n := f x i j) (by omega)
  obtain ⟨w1', q1, o1, g1⟩ := h1.update keyed119 Try.underlying117 (by omega) hk hp0
  rw [r2] at q1
  obtain rfl : w1 = w1' := by injection q1
  have hp1 := plain3 (n := f x i j + 1) (by omega)
  obtain ⟨w3', q3, o3, g3⟩ := h1.update keyed119 Try.underlying117 (by omega) hk hp1
  obtain ⟨es', clock', s1, s2⟩ := hst w1 (.int .i64 ((f x i j + 1 : Nat) : Int)) (by rw [e1]; exact heap_setBlock_same hb _)
  rw [s2] at q3
  have e3 : setBlock w b (.map es' clock') = w3' := by injection q3
  have hkl := keyed119.key hk
  have hT : Tidy (D.put l (.lit (.int .i64 ((f x i j + 1 : Nat) : Int)))) := h2.put hkl _
  have ho3 : (setBlock w1 b (.map es' clock')).ownsMap Try.prog 119 (plainElem Try.prog 3) b (n + 1) (D.put l (.lit (.int .i64 ((f x i j + 1 : Nat) : Int)))) := by
    rw [← e3] at o3
    obtain ⟨es2, c2, hb2, F2⟩ := o3
    refine ⟨es2, c2, ?_, F2⟩
    rw [heap_setBlock_same hb] at hb2
    rw [heap_setBlock_same (show w1.heap[b]? = some (.map es1 clock1) from by rw [e1]; exact heap_setBlock_same hb _)]
    exact hb2
  have hb1 : w1.heap[b]? = some (.map es1 clock1) := by rw [e1]; exact heap_setBlock_same hb _
  have k1 : K1 b w w1 := ⟨g1.os, g1.tape, g1.output, g1.size, fun k hk h => g1.block k hk (fun e => h (by injection e))⟩
  refine ⟨st, w1, setBlock w1 b (.map es' clock'), r1, hlk, ?_, ?_, k1, ?_, ⟨_, ho3, hT, fun x' i' j' l' hk' => ?_⟩⟩
  · obtain ⟨c, hr, hat, _⟩ := o1.lookup_int keyed119 Try.underlying117 Try.underlying3 (zero3c w1) hk
    rw [atKey_put_same h2.isMap hkl] at hat
    have e : c = ((f x i j : Nat) : Int) := by simpa using hat.symm
    rw [hr, e]
  · rw [e2, show ((f x i j : Int) + 1) = ((f x i j + 1 : Nat) : Int) by omega]; exact s1
  · refine ⟨k1.os, k1.tape, k1.output, ?_, fun k hk h => ?_⟩
    · have : (setBlock w1 b (.map es' clock')).heap.size = w1.heap.size := by simp [setBlock]
      rw [this]; exact k1.size
    · rw [heap_setBlock_other hb1 _ (fun e => h (by exact e))]; exact k1.block k hk h
  · unfold addF
    by_cases e : x' = x ∧ i' = i ∧ j' = j
    · obtain ⟨rfl, rfl, rfl⟩ := e
      rw [hk] at hk'
      obtain rfl : l = l' := by injection hk'
      rw [atKey_put_same h2.isMap hkl, if_pos ⟨rfl, rfl, rfl⟩]
    · rw [if_neg e, atKey_put_other (fun e2 => e (by
        have := keyed119.inj (by rw [e2] at hk'; exact hk') hk
        exact kv3_inj this))]
      exact h3 x' i' j' l' hk'
end Go.Proofs.Ytnmdgbnbnpibhaa
