import Derived.Test.YtboffildchoelaaBxs
import Derived.Maps.OwnSet
import Derived.DeepKeys4
import Derived.BigQuiet
/-! Maps that number names as they are first met. -/
namespace Go.Proofs.Ytboffildchoelaa
open Go.RowKit Go.Deep Go.Maps Go.WideMaps Go.ChangeMaps Go.Lib
set_option linter.unusedVariables false
set_option maxRecDepth 100000
set_option linter.unusedSimpArgs false

theorem keyed9 : Keyed Try.prog 9 := string_keyed Try.underlying9
theorem wfN {x : Nat} (h : x ≤ 1000000000) : (Lit.int .i64 (x : Int)).wf = true := by
  have hm : IntKind.i64.min = -9223372036854775808 := by decide
  have hM : IntKind.i64.max = 9223372036854775807 := by decide
  simp [Lit.wf, hm, hM]
  omega
/-- Block b is a map that numbers these keys. -/
structure Mn (w : World) (b : Nat) (K : TypeId) (ks : List Value) : Prop where
  ex : ∃ (D : DataW Unit), w.ownsMap Try.prog K (plainElem Try.prog 3) b ks.length D ∧ Tidy D ∧ size D = ks.length ∧ ks.Nodup ∧ (∀ v l, keyOf Try.prog K v = some l → (has D l = true ↔ v ∈ ks)) ∧ ∀ (i : Nat) v l z, ks[i]? = some v → keyOf Try.prog K v = some l → D.atKey l z = .lit (.int .i64 i)
theorem Mn.new (w : World) (K : TypeId) : Mn (w.alloc (.map #[] 0)) w.heap.size K [] :=
  ⟨.map [], World.ownsMap_made w Try.prog K (plainElem Try.prog 3), tidy_empty, rfl, by simp, fun v l _ => by simp [has], by simp⟩
theorem Mn.keep {w w' : World} {b : Nat} {K : TypeId} {ks : List Value} (h : Mn w b K ks) (hb : w'.heap[b]? = w.heap[b]?) : Mn w' b K ks := by
  obtain ⟨D, h1, h2⟩ := h
  refine ⟨D, ?_, h2⟩
  obtain ⟨es, clock, h3, h4⟩ := h1
  exact ⟨es, clock, hb.trans h3, h4⟩
theorem Mn.lt {w : World} {b : Nat} {K : TypeId} {ks : List Value} (h : Mn w b K ks) : b < w.heap.size := by
  obtain ⟨D, h1, _⟩ := h
  exact h1.lt
/-- One more is known. -/
theorem Mn.put {w1 : World} {b : Nat} {K : TypeId} (T : Keyed Try.prog K) {D : DataW Unit} {ks : List Value} (h2 : Tidy D) (h3 : size D = ks.length) (h4 : ks.Nodup) (h6 : ∀ v l, keyOf Try.prog K v = some l → (has D l = true ↔ v ∈ ks)) (h7 : ∀ (i : Nat) v l z, ks[i]? = some v → keyOf Try.prog K v = some l → D.atKey l z = .lit (.int .i64 i))
    {v : Value} {l : Lit} (hl : keyOf Try.prog K v = some l) (hm : v ∉ ks) (ho : w1.ownsMap Try.prog K (plainElem Try.prog 3) b (ks.length + 1) (D.put l (.lit (.int .i64 (ks.length : Nat))))) : Mn w1 b K (ks ++ [v]) := by
  have hkl := T.key hl
  have hne : ∀ u l', keyOf Try.prog K u = some l' → u ≠ v → l' ≠ l := fun u l' h e e2 => e (T.inj (by rw [e2] at h; exact h) hl)
  have hf : has D l = false := by
    cases e : has D l
    · rfl
    · exact absurd ((h6 v l hl).1 e) hm
  refine ⟨D.put l (.lit (.int .i64 (ks.length : Nat))), by simpa using ho, h2.put hkl _, ?_, ?_, fun u l' hl' => ?_, fun i u l' z hu hl' => ?_⟩
  · rw [size_put h2, hf, h3]; simp
  · rw [List.nodup_append]
    exact ⟨h4, by simp, fun a ha c hc => by simp at hc; subst hc; exact fun e => hm (e ▸ ha)⟩
  · by_cases e : u = v
    · subst e
      obtain rfl : l' = l := by rw [hl] at hl'; injection hl' with h; exact h.symm
      rw [has_put_same h2.isMap hkl]
      simp
    · rw [has_put_other (hne u l' hl' e), h6 u l' hl']
      simp [e]
  · by_cases e : i < ks.length
    · rw [List.getElem?_append_left e] at hu
      have hne' : u ≠ v := fun e => hm (e ▸ List.mem_of_getElem? hu)
      rw [atKey_put_other (hne u l' hl' hne')]
      exact h7 i u l' z hu hl'
    · rw [List.getElem?_append_right (by omega)] at hu
      obtain ⟨e1, e2⟩ : i - ks.length = 0 ∧ v = u := by
        cases hi : i - ks.length with
        | zero => rw [hi] at hu; simpa using hu
        | succ n => rw [hi] at hu; simp at hu
      subst e2
      obtain rfl : l' = l := by rw [hl] at hl'; injection hl' with h; exact h.symm
      rw [atKey_put_same h2.isMap hkl]
      congr 3
      omega
theorem zero3c (w : World) : (zeroValue 3).run Try.prog w = .ok (.int .i64 0) w := by
  exact (Option.map_eq_some_iff.1 (show (Try.prog.info? 3).map (fun i => i.zero) = some (some (.int .i64 0)) by kernel_rfl)).elim fun i hi => by simp [zeroValue, typeInfo, hi.1, hi.2]
theorem plain3 {n : Nat} (h1 : n ≤ 1000000000) : plainElem (H := Unit) Try.prog 3 (.int .i64 (n : Nat)) = some (.lit (.int .i64 (n : Nat)), []) := plainElem_int Try.underlying3 (wfN h1)
/-- All blocks but one are as they were. -/
structure K1 (a : Nat) (w w' : World) : Prop where
  os : w'.os = w.os
  tape : w'.tape = w.tape
  output : w'.output = w.output
  size : w.heap.size ≤ w'.heap.size
  block : ∀ k, k < w.heap.size → k ≠ a → w'.heap[k]? = w.heap[k]?
theorem K1.of_below {a : Nat} {x y : World} (h : Below x.heap.size x y) : K1 a x y := ⟨h.os, h.tape, h.output, h.size, fun k hk _ => h.block k hk⟩
theorem K1.turned {a : Nat} {x y z : World} (hb : Below x.heap.size x y) (h : y.mapTurned z a) : K1 a x z :=
  ⟨h.grown.os.trans hb.os, h.grown.tape.trans hb.tape, h.grown.output.trans hb.output, Nat.le_trans hb.size h.grown.size, fun k hk h1 => (h.grown.block k (Nat.lt_of_lt_of_le hk hb.size) (fun e => h1 (by injection e))).trans (hb.block k hk)⟩
/-- A key gets its number. -/
def NoR (b : Nat) (K : TypeId) (ks : List Value) (v : Value) (w : World) (e : Ending) (w' : World) : Prop :=
  ∃ n : Nat, e = .returned (.int .i64 (n : Nat)) ∧ K1 b w w' ∧ ((ks[n]? = some v ∧ Mn w' b K ks) ∨ (v ∉ ks ∧ n = ks.length ∧ Mn w' b K (ks ++ [v])))
set_option maxHeartbeats 1600000 in
theorem number81 (b : Nat) (ks : List Value) (s : ByteArray) (l : Lit) (w : World) (hl : keyOf Try.prog 9 (.string s) = some l) (hM : Mn w b 9 ks) (hk : ks.length ≤ 1000000) :
    Calls Try.prog 73 #[.map (some b), .string s] w (NoR b 9 ks (.string s) w) := by
  have hm1 := hM
  have HM1 := (show Hid (Mn w b 9 ks) from hm1)
  have hba := Below.refl w.heap.size w
  have HB := (show Hid _ from hba); clear hba
  obtain ⟨D, d1, d2, d3, d4, d6, d7⟩ := hm1
  have HD := (show Hid _ from (⟨d1, d2, d3, d4, d6, d7⟩ : _ ∧ _ ∧ _ ∧ _ ∧ _ ∧ _)); clear d1 d2 d3 d4
  have HL := (show Hid _ from hl)
  clear hM
  by_cases hin : (.string s) ∈ ks
  · obtain ⟨i, hi, hie⟩ := List.mem_iff_getElem.1 hin
    have hig : ks[i]? = some (.string s) := by rw [List.getElem?_eq_getElem hi, hie]
    have hh : has D l = true := (d6 _ _ hl).2 hin
    have ha := d7 i _ l (.lit (.int .i64 0)) hig hl
    have HA := (show Hid _ from ha)
    have HG := (show Hid _ from hig); clear ha d6 d7 hin hie hig
    go_enter Try.func73, Try.ntmps73
    go_wp2_with (at_lookup; refine wpList_lookup_own_ok_int _ rfl _ _ 110 rfl 9 3 .i64 keyed9 Try.underlying110 Try.underlying3 (zero3c _) b _ D rfl HD.out.1 _ _ rfl HL.out ?_; intro c hat hwc)
    go_ret
    have hc : c = ((i : Nat) : Int) := by
      have h1 := HA.out
      have h2 : D.atKey l (DataW.lit (Lit.int IntKind.i64 0)) = DataW.lit (Lit.int IntKind.i64 c) := hat
      rw [h1] at h2
      simpa using h2.symm
    exact ⟨i, by rw [hc]; rfl, K1.of_below HB.out, .inl ⟨HG.out, HM1.out⟩⟩
  · have hh : has D l = false := by
      cases e : has D l
      · rfl
      · exact absurd ((d6 _ _ hl).1 e) hin
    have HIN := (show Hid _ from hin)
    clear d6 d7 hin hl
    have hlen := HD.out.1.len Try.underlying110 3
    rw [HD.out.2.2.1] at hlen
    have hpe := plain3 (n := ks.length) (by omega)
    go_enter Try.func73, Try.ntmps73
    go_wp2_with (first
      | (at_lookup; refine wpList_lookup_own_ok_int _ rfl _ _ 110 rfl 9 3 .i64 keyed9 Try.underlying110 Try.underlying3 (zero3c _) b _ D rfl HD.out.1 _ _ rfl HL.out ?_; intro c hat hwc)
      | (at_mapUpdate; refine wpList_mapUpdate_in _ rfl _ _ _ 110 rfl 9 3 keyed9 Try.underlying110 _ b _ D rfl HD.out.1 ?hn _ _ _ rfl rfl HL.out _ _ hpe ?nx))
    case hn => unfold maxLen; omega
    case nx =>
      intro w3 hown3 hturn3
      have HM3 := (show Hid _ from Mn.put keyed9 HD.out.2.1 HD.out.2.2.1 HD.out.2.2.2.1 HD.out.2.2.2.2.1 HD.out.2.2.2.2.2 HL.out HIN.out hown3)
      have HT3 := (show Hid _ from K1.turned HB.out hturn3); clear hown3 hturn3
      go_wp2_with fail
      go_ret
      exact ⟨ks.length, rfl, HT3.out, .inr ⟨HIN.out, rfl, HM3.out⟩⟩
end Go.Proofs.Ytboffildchoelaa
