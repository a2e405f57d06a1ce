import Derived.Test.YtaimlmjgicmbeaaChecked
import Derived.Test.YtaimlmjgicmbeaaBase
import Derived.Maps.OwnSet
import Derived.StringKeys
import Derived.KernelRfl
import Derived.Outline
import Derived.BigQuiet
/-! A map of texts to their numbers, as they are first met: numberOf, firstAgain, apart. -/
namespace Go.Proofs.Ytaimlmjgicmbeaa
open Go.RowKit Go.Deep Go.Maps Go.WideMaps Go.ChangeMaps
set_option linter.unusedVariables false
set_option maxRecDepth 100000
set_option linter.unusedSimpArgs false

/-- A text as a key. -/
abbrev ky (t : ByteArray) : Lit := .string t.data.toList
theorem ky_inj {t u : ByteArray} (h : ky t = ky u) : t = u := by
  have : t.data.toList = u.data.toList := by simpa [ky] using h
  cases t; cases u
  simpa [Array.toList_inj] using this
theorem ky_lit (t : ByteArray) : WideAt.IsKeyLit (ky t) := by simp [WideAt.IsKeyLit]
/-- Block b is the map of these texts (no two alike) to their numbers. -/
structure Met (w : World) (b : Nat) (ts : List ByteArray) : Prop where
  ex : ∃ D : DataW Unit, w.ownsMap Try.prog 9 (plainElem Try.prog 3) b ts.length D ∧ Tidy D ∧ size D = ts.length ∧ (∀ t, has D (ky t) = true ↔ t ∈ ts) ∧ ∀ i (hi : i < ts.length), ∀ z, D.atKey (ky ts[i]) z = .lit (.int .i64 i)
theorem Met.new (w : World) : Met (w.alloc (.map #[] 0)) w.heap.size [] :=
  ⟨.map [], World.ownsMap_made w Try.prog 9 (plainElem Try.prog 3), tidy_empty, rfl, fun t => by simp [has], fun i hi => absurd hi (Nat.not_lt_zero _)⟩
theorem Met.lt {w : World} {b : Nat} {ts : List ByteArray} (h : Met w b ts) : b < w.heap.size := by obtain ⟨D, h, _⟩ := h; exact h.lt
theorem zero3 (w : World) : (zeroValue 3).run Try.prog w = .ok (.int .i64 0) w := by
  exact (Option.map_eq_some_iff.1 (show (Try.prog.info? 3).map (fun i => i.zero) = some (some (.int .i64 0)) by kernel_rfl)).elim fun i hi => by simp [zeroValue, typeInfo, hi.1, hi.2]

set_option maxHeartbeats 800000 in
theorem numberOf_old {b i : Nat} {ts : List ByteArray} (t : ByteArray) (ht : t.size ≤ maxLen) (w : World) (h : Met w b ts) (hi : i < ts.length) (he : ts[i] = t) :
    Calls Try.prog 73 #[.map (some b), .string t] w fun e w' => e = .returned (.int .i64 i) ∧ w' = w := by
  obtain ⟨D, h1, h2, h3, h4, h5⟩ := h
  have hk := keyOf_string_mk (P := Try.prog) Try.underlying9 ht
  have hh : has D (ky t) = true := (h4 t).2 (by rw [← he]; exact List.getElem_mem hi)
  have ha := h5 i hi (.lit (.int .i64 0))
  rw [he] at ha
  have HD := (show Hid _ from (⟨h1, ha⟩ : _ ∧ _)); clear h1 h2 h3 h4 h5 ha he hi
  go_enter Try.func73, Try.ntmps73
  go_wp2_with (at_lookup; refine wpList_lookup_own_ok_int _ rfl _ _ 112 rfl 9 3 .i64 (string_keyed Try.underlying9) Try.underlying112 Try.underlying3 (zero3 _) b _ D rfl HD.out.1 _ _ rfl hk ?_; intro c hat hwc)
  go_ret
  have hc : c = i := by
    have h1 := HD.out.2
    have h2 : D.atKey (ky t) (DataW.lit (Lit.int IntKind.i64 0)) = DataW.lit (Lit.int IntKind.i64 c) := hat
    rw [h1] at h2
    simpa using h2.symm
  exact ⟨by rw [hc]; rfl, rfl⟩

set_option maxHeartbeats 800000 in
theorem numberOf_new {b : Nat} {ts : List ByteArray} (t : ByteArray) (ht : t.size ≤ maxLen) (w : World) (h : Met w b ts) (hn : t ∉ ts) (hl : ts.length ≤ 1048576) :
    Calls Try.prog 73 #[.map (some b), .string t] w fun e w' => e = .returned (.int .i64 ts.length) ∧ Met w' b (ts ++ [t]) ∧ w.grownBy w' (some b) := by
  obtain ⟨D, h1, h2, h3, h4, h5⟩ := h
  have hk := keyOf_string_mk (P := Try.prog) Try.underlying9 ht
  have hh : has D (ky t) = false := by
    cases e : has D (ky t)
    · rfl
    · exact absurd ((h4 t).1 e) hn
  have hpe : plainElem (H := Unit) Try.prog 3 (.int .i64 (ts.length : Int)) = some (.lit (.int .i64 (ts.length : Int)), []) := plainElem_int Try.underlying3 (by
    have hm : IntKind.i64.min = -9223372036854775808 := by decide
    simp [Lit.wf, hm]
    omega)
  have hlen := h1.len Try.underlying112 3
  rw [h3] at hlen
  have HD := (show Hid _ from (⟨h1, h2, h3, h4, h5⟩ : _ ∧ _ ∧ _ ∧ _ ∧ _)); clear h1 h2 h3 h4 h5
  go_enter Try.func73, Try.ntmps73
  go_wp2_with (first
    | (at_lookup; refine wpList_lookup_own_ok_int _ rfl _ _ 112 rfl 9 3 .i64 (string_keyed Try.underlying9) Try.underlying112 Try.underlying3 (zero3 _) b _ D rfl HD.out.1 _ _ rfl hk ?_; intro c hat hwc)
    | (at_mapUpdate; refine wpList_mapUpdate_in _ rfl _ _ _ 112 rfl 9 3 (string_keyed Try.underlying9) Try.underlying112 _ b _ D rfl HD.out.1 ?hn _ _ _ rfl rfl hk _ _ hpe ?nx))
  case hn => unfold maxLen; omega
  case nx =>
    intro w1 hown1 hturn1
    obtain ⟨h1, h2, h3, h4, h5⟩ := HD.out
    have hM : Met w1 b (ts ++ [t]) := by
      refine ⟨D.put (ky t) (.lit (.int .i64 (ts.length : Int))), by simpa using hown1, h2.put (ky_lit t) _, ?_, fun u => ?_, fun i hi z => ?_⟩
      · rw [size_put h2, hh, h3]; simp
      · by_cases hu : u = t
        · subst hu
          rw [has_put_same h2.isMap (ky_lit u)]
          simp
        · rw [has_put_other (fun e => hu (ky_inj e)), h4 u]
          simp [hu]
      · by_cases hlt : i < ts.length
        · have e : (ts ++ [t])[i] = ts[i] := List.getElem_append_left hlt
          rw [e, atKey_put_other (fun e2 => hn (by rw [← ky_inj e2]; exact List.getElem_mem hlt))]
          exact h5 i hlt z
        · have hie : i = ts.length := by simp at hi; omega
          subst hie
          have e : (ts ++ [t])[ts.length] = t := by simp
          rw [e, atKey_put_same h2.isMap (ky_lit t)]
    have HM := (show Hid _ from (⟨hM, hturn1.grown⟩ : Met w1 b (ts ++ [t]) ∧ w.grownBy w1 (some b))); clear hM hown1 hturn1 h1 h2 h3 h4 h5
    go_wp2_with fail
    go_ret
    exact ⟨rfl, HM.out.1, HM.out.2⟩

/-- Texts that lie behind a slice, in a block of S. -/
def Strs (w : World) (S : Nat → Prop) (l : List ByteArray) (v : Value) : Prop :=
  ∃ (a : Option Addr) (cap b off : Nat), v = .slice a l.length cap ∧ l.length ≤ cap ∧ cap ≤ maxLen ∧ (0 < l.length → a = some ⟨b, off, none⟩ ∧ S b) ∧ ∀ i (hi : i < l.length), w.cell? ⟨b, off + i, none⟩ = some (.string l[i]) ∧ l[i].size ≤ maxLen
theorem Strs.still {w w' : World} {S : Nat → Prop} {l : List ByteArray} {v : Value} (h : Strs w S l v) (hb : Below w.heap.size w w') : Strs w' S l v := by
  obtain ⟨a, cap, b, off, hv, hc, hm, ha, hcell⟩ := h
  exact ⟨a, cap, b, off, hv, hc, hm, ha, fun i hi => ⟨(hb.cell (lt_of_cell (hcell i hi).1)).trans (hcell i hi).1, (hcell i hi).2⟩⟩
theorem Strs.keep {w w' : World} {S : Nat → Prop} {l : List ByteArray} {v : Value} (h : Strs w S l v) (hb : ∀ b, S b → b < w.heap.size → w'.heap[b]? = w.heap[b]?) : Strs w' S l v := by
  obtain ⟨a, cap, b, off, hv, hc, hm, ha, hcell⟩ := h
  exact ⟨a, cap, b, off, hv, hc, hm, ha, fun i hi => ⟨(World.cell?_of_block (w := w) (hb b (ha (by omega)).2 (lt_of_cell (hcell i hi).1))).trans (hcell i hi).1, (hcell i hi).2⟩⟩
theorem Strs.mono {w : World} {S S' : Nat → Prop} {l : List ByteArray} {v : Value} (h : Strs w S l v) (hS : ∀ b, S b → S' b) : Strs w S' l v := by
  obtain ⟨a, cap, b, off, hv, hc, hm, ha, hcell⟩ := h
  exact ⟨a, cap, b, off, hv, hc, hm, fun h0 => ⟨(ha h0).1, hS _ (ha h0).2⟩, hcell⟩
theorem Strs.form {w : World} {S : Nat → Prop} {l : List ByteArray} {v : Value} (h : Strs w S l v) : ∃ a cap, v = .slice a l.length cap ∧ l.length ≤ maxLen := by
  obtain ⟨a, cap, b, off, hv, hc, hm, _⟩ := h
  exact ⟨_, _, hv, by omega⟩
/-- Whether no two are alike. -/
def apB (l : List ByteArray) : Bool := decide l.Nodup
theorem grown_below {L b : Nat} {w0 w w' : World} (h : Below L w0 w) (g : w.grownBy w' (some b)) (hb : L ≤ b) (hL : L ≤ w.heap.size) : Below L w0 w' :=
  ⟨g.os.trans h.os, g.tape.trans h.tape, g.output.trans h.output, Nat.le_trans h.size g.size, fun k hk => (g.block k (by omega) (fun e => by cases e; omega)).trans (h.block k hk)⟩
theorem Met.still {w w' : World} {b : Nat} {ts : List ByteArray} (h : Met w b ts) (hb : Below w.heap.size w w') : Met w' b ts := by
  obtain ⟨D, h1, h2⟩ := h
  refine ⟨D, ?_, h2⟩
  obtain ⟨es, clock, g1, g2⟩ := h1
  exact ⟨es, clock, (hb.block b (Array.getElem?_eq_some_iff.1 g1).1).trans g1, g2⟩
end Go.Proofs.Ytaimlmjgicmbeaa
