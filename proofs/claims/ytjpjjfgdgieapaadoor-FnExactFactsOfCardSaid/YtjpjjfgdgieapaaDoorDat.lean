import Derived.Test.YtjpjjfgdgieapaaDoorChecked
import Derived.Test.YtjpjjfgdgieapaaDoorBase
import Derived.Maps.OwnSet
import Derived.StringKeys
import Derived.KernelRfl
import Derived.Outline
import Derived.BigQuiet
/-! A map of texts to their numbers, as they are first met: numberOf, firstAgain, apart. -/
namespace Go.Proofs.YtjpjjfgdgieapaaDoor
open Go.RowKit Go.Deep Go.Maps Go.WideMaps Go.ChangeMaps
set_option linter.unusedVariables false
set_option maxRecDepth 100000
set_option linter.unusedSimpArgs false

/-- A text as a key. -/
abbrev ky (t : ByteArray) : Lit := .string t.data.toList
theorem ky_inj {t u : ByteArray} (h : ky t = ky u) : t = u := by
  have : t.data.toList = u.data.toList := by simpa [ky] using h
  cases t; cases u
  simpa [Array.toList_inj] using this
theorem ky_lit (t : ByteArray) : WideAt.IsKeyLit (ky t) := by simp [WideAt.IsKeyLit]
/-- Block b is the map of these texts (no two alike) to their numbers. -/
structure Met (w : World) (b : Nat) (ts : List ByteArray) : Prop where
  ex : ∃ D : DataW Unit, w.ownsMap Tryd.prog 9 (plainElem Tryd.prog 3) b ts.length D ∧ Tidy D ∧ size D = ts.length ∧ (∀ t, has D (ky t) = true ↔ t ∈ ts) ∧ ∀ i (hi : i < ts.length), ∀ z, D.atKey (ky ts[i]) z = .lit (.int .i64 i)
theorem Met.new (w : World) : Met (w.alloc (.map #[] 0)) w.heap.size [] :=
  ⟨.map [], World.ownsMap_made w Tryd.prog 9 (plainElem Tryd.prog 3), tidy_empty, rfl, fun t => by simp [has], fun i hi => absurd hi (Nat.not_lt_zero _)⟩
theorem Met.lt {w : World} {b : Nat} {ts : List ByteArray} (h : Met w b ts) : b < w.heap.size := by obtain ⟨D, h, _⟩ := h; exact h.lt
theorem zero3 (w : World) : (zeroValue 3).run Tryd.prog w = .ok (.int .i64 0) w := by
  exact (Option.map_eq_some_iff.1 (show (Tryd.prog.info? 3).map (fun i => i.zero) = some (some (.int .i64 0)) by kernel_rfl)).elim fun i hi => by simp [zeroValue, typeInfo, hi.1, hi.2]

set_option maxHeartbeats 800000 in
theorem numberOf_old {b i : Nat} {ts : List ByteArray} (t : ByteArray) (ht : t.size ≤ maxLen) (w : World) (h : Met w b ts) (hi : i < ts.length) (he : ts[i] = t) :
    Calls Tryd.prog 92 #[.map (some b), .string t] w fun e w' => e = .returned (.int .i64 i) ∧ w' = w := by
  obtain ⟨D, h1, h2, h3, h4, h5⟩ := h
  have hk := keyOf_string_mk (P := Tryd.prog) Tryd.underlying9 ht
  have hh : has D (ky t) = true := (h4 t).2 (by rw [← he]; exact List.getElem_mem hi)
  have ha := h5 i hi (.lit (.int .i64 0))
  rw [he] at ha
  have HD := (show Hid _ from (⟨h1, ha⟩ : _ ∧ _)); clear h1 h2 h3 h4 h5 ha he hi
  go_enter Tryd.func92, Tryd.ntmps92
  go_wp2_with (at_lookup; refine wpList_lookup_own_ok_int _ rfl _ _ 126 rfl 9 3 .i64 (string_keyed Tryd.underlying9) Tryd.underlying126 Tryd.underlying3 (zero3 _) b _ D rfl HD.out.1 _ _ rfl hk ?_; intro c hat hwc)
  go_ret
  have hc : c = i := by
    have h1 := HD.out.2
    have h2 : D.atKey (ky t) (DataW.lit (Lit.int IntKind.i64 0)) = DataW.lit (Lit.int IntKind.i64 c) := hat
    rw [h1] at h2
    simpa using h2.symm
  exact ⟨by rw [hc]; rfl, rfl⟩

set_option maxHeartbeats 800000 in
theorem numberOf_new {b : Nat} {ts : List ByteArray} (t : ByteArray) (ht : t.size ≤ maxLen) (w : World) (h : Met w b ts) (hn : t ∉ ts) (hl : ts.length ≤ 1048576) :
    Calls Tryd.prog 92 #[.map (some b), .string t] w fun e w' => e = .returned (.int .i64 ts.length) ∧ Met w' b (ts ++ [t]) ∧ w.grownBy w' (some b) := by
  obtain ⟨D, h1, h2, h3, h4, h5⟩ := h
  have hk := keyOf_string_mk (P := Tryd.prog) Tryd.underlying9 ht
  have hh : has D (ky t) = false := by
    cases e : has D (ky t)
    · rfl
    · exact absurd ((h4 t).1 e) hn
  have hpe : plainElem (H := Unit) Tryd.prog 3 (.int .i64 (ts.length : Int)) = some (.lit (.int .i64 (ts.length : Int)), []) := plainElem_int Tryd.underlying3 (by
    have hm : IntKind.i64.min = -9223372036854775808 := by decide
    simp [Lit.wf, hm]
    omega)
  have hlen := h1.len Tryd.underlying126 3
  rw [h3] at hlen
  have HD := (show Hid _ from (⟨h1, h2, h3, h4, h5⟩ : _ ∧ _ ∧ _ ∧ _ ∧ _)); clear h1 h2 h3 h4 h5
  go_enter Tryd.func92, Tryd.ntmps92
  go_wp2_with (first
    | (at_lookup; refine wpList_lookup_own_ok_int _ rfl _ _ 126 rfl 9 3 .i64 (string_keyed Tryd.underlying9) Tryd.underlying126 Tryd.underlying3 (zero3 _) b _ D rfl HD.out.1 _ _ rfl hk ?_; intro c hat hwc)
    | (at_mapUpdate; refine wpList_mapUpdate_in _ rfl _ _ _ 126 rfl 9 3 (string_keyed Tryd.underlying9) Tryd.underlying126 _ b _ D rfl HD.out.1 ?hn _ _ _ rfl rfl hk _ _ hpe ?nx))
  case hn => unfold maxLen; omega
  case nx =>
    intro w1 hown1 hturn1
    obtain ⟨h1, h2, h3, h4, h5⟩ := HD.out
    have hM : Met w1 b (ts ++ [t]) := by
      refine ⟨D.put (ky t) (.lit (.int .i64 (ts.length : Int))), by simpa using hown1, h2.put (ky_lit t) _, ?_, fun u => ?_, fun i hi z => ?_⟩
      · rw [size_put h2, hh, h3]; simp
      · by_cases hu : u = t
        · subst hu
          rw [has_put_same h2.isMap (ky_lit u)]
          simp
        · rw [has_put_other (fun e => hu (ky_inj e)), h4 u]
          simp [hu]
      · by_cases hlt : i < ts.length
        · have e : (ts ++ [t])[i] = ts[i] := List.getElem_append_left hlt
          rw [e, atKey_put_other (fun e2 => hn (by rw [← ky_inj e2]; exact List.getElem_mem hlt))]
          exact h5 i hlt z
        · have hie : i = ts.length := by simp at hi; omega
          subst hie
          have e : (ts ++ [t])[ts.length] = t := by simp
          rw [e, atKey_put_same h2.isMap (ky_lit t)]
    have HM := (show Hid _ from (⟨hM, hturn1.grown⟩ : Met w1 b (ts ++ [t]) ∧ w.grownBy w1 (some b))); clear hM hown1 hturn1 h1 h2 h3 h4 h5
    go_wp2_with fail
    go_ret
    exact ⟨rfl, HM.out.1, HM.out.2⟩

/-- Texts that lie behind a slice, in a block of S. -/
def Strs (w : World) (S : Nat → Prop) (l : List ByteArray) (v : Value) : Prop :=
  ∃ (a : Option Addr) (cap b off : Nat), v = .slice a l.length cap ∧ l.length ≤ cap ∧ cap ≤ maxLen ∧ (0 < l.length → a = some ⟨b, off, none⟩ ∧ S b) ∧ ∀ i (hi : i < l.length), w.cell? ⟨b, off + i, none⟩ = some (.string l[i]) ∧ l[i].size ≤ maxLen
theorem Strs.still {w w' : World} {S : Nat → Prop} {l : List ByteArray} {v : Value} (h : Strs w S l v) (hb : Below w.heap.size w w') : Strs w' S l v := by
  obtain ⟨a, cap, b, off, hv, hc, hm, ha, hcell⟩ := h
  exact ⟨a, cap, b, off, hv, hc, hm, ha, fun i hi => ⟨(hb.cell (lt_of_cell (hcell i hi).1)).trans (hcell i hi).1, (hcell i hi).2⟩⟩
theorem Strs.keep {w w' : World} {S : Nat → Prop} {l : List ByteArray} {v : Value} (h : Strs w S l v) (hb : ∀ b, S b → b < w.heap.size → w'.heap[b]? = w.heap[b]?) : Strs w' S l v := by
  obtain ⟨a, cap, b, off, hv, hc, hm, ha, hcell⟩ := h
  exact ⟨a, cap, b, off, hv, hc, hm, ha, fun i hi => ⟨(World.cell?_of_block (w := w) (hb b (ha (by omega)).2 (lt_of_cell (hcell i hi).1))).trans (hcell i hi).1, (hcell i hi).2⟩⟩
theorem Strs.mono {w : World} {S S' : Nat → Prop} {l : List ByteArray} {v : Value} (h : Strs w S l v) (hS : ∀ b, S b → S' b) : Strs w S' l v := by
  obtain ⟨a, cap, b, off, hv, hc, hm, ha, hcell⟩ := h
  exact ⟨a, cap, b, off, hv, hc, hm, fun h0 => ⟨(ha h0).1, hS _ (ha h0).2⟩, hcell⟩
theorem Strs.form {w : World} {S : Nat → Prop} {l : List ByteArray} {v : Value} (h : Strs w S l v) : ∃ a cap, v = .slice a l.length cap ∧ l.length ≤ maxLen := by
  obtain ⟨a, cap, b, off, hv, hc, hm, _⟩ := h
  exact ⟨_, _, hv, by omega⟩
/-- Whether no two are alike. -/
def apB (l : List ByteArray) : Bool := decide l.Nodup
theorem grown_below {L b : Nat} {w0 w w' : World} (h : Below L w0 w) (g : w.grownBy w' (some b)) (hb : L ≤ b) (hL : L ≤ w.heap.size) : Below L w0 w' :=
  ⟨g.os.trans h.os, g.tape.trans h.tape, g.output.trans h.output, Nat.le_trans h.size g.size, fun k hk => (g.block k (by omega) (fun e => by cases e; omega)).trans (h.block k hk)⟩
theorem Met.still {w w' : World} {b : Nat} {ts : List ByteArray} (h : Met w b ts) (hb : Below w.heap.size w w') : Met w' b ts := by
  obtain ⟨D, h1, h2⟩ := h
  refine ⟨D, ?_, h2⟩
  obtain ⟨es, clock, g1, g2⟩ := h1
  exact ⟨es, clock, (hb.block b (Array.getElem?_eq_some_iff.1 g1).1).trans g1, g2⟩
end Go.Proofs.YtjpjjfgdgieapaaDoor

namespace Go.Proofs.YtjpjjfgdgieapaaDoor
open Go.RowKit Go.Deep Go.Maps Go.WideMaps Go.ChangeMaps
set_option linter.unusedVariables false
set_option maxRecDepth 100000
set_option linter.unusedSimpArgs false

set_option maxHeartbeats 1600000 in
theorem firstAgain_any {S : Nat → Prop} (l : List ByteArray) (v : Value) (w : World) (h : Strs w S l v) (hl : l.length ≤ 1048576) :
    Calls Tryd.prog 82 #[v] w fun e w' => (∃ t, e = .returned (.tuple #[.string t, .bool (!apB l)])) ∧ Below w.heap.size w w' := by
  obtain ⟨a, cap, b, off, rfl, hc, hm, ha, hcell⟩ := h
  have HC := (show Hid _ from hcell); clear hcell
  have HA := (show Hid _ from ha); clear ha
  have hmk := fun w => run_makeMap (P := Tryd.prog) 126 w
  generalize hR : apB l = R
  have HR := (show Hid _ from hR); clear hR
  unfold maxLen at hm
  go_enter Tryd.func82, Tryd.ntmps82
  go_wp2_with fail
  go_loopw [10] (fun i wr => ∃ j : Nat, i = .int .i64 j ∧ j ≤ l.length ∧ Hid (Met wr w.heap.size (l.take j) ∧ (l.take j).Nodup ∧ Below w.heap.size w wr)) (fun i _ => l.length - (intOf i).toNat)
  case atStart => exact ⟨0, rfl, Nat.zero_le _, by simpa using Met.new w, by simp, bel_alloc _ _⟩
  case round =>
    obtain ⟨j, rfl, hj, HJ⟩ := hrel
    by_cases hjl : j < l.length
    · have hjl' : (j : Int) < l.length := by omega
      obtain ⟨rfl, _⟩ := HA.out (by omega)
      have c0 := (HC.out j hjl).1
      rw [← HJ.out.2.2.cell (lt_of_cell c0)] at c0
      have hts := (HC.out j hjl).2
      have hlt : (l.take j).length = j := by simp; omega
      have htk : l.take (j + 1) = l.take j ++ [l[j]] := by rw [List.take_add_one, List.getElem?_eq_getElem hjl]; rfl
      by_cases hmem : l[j] ∈ l.take j
      · obtain ⟨i0, hi0, he0⟩ := List.mem_iff_getElem.1 hmem
        have hi0' : i0 < j := by rw [hlt] at hi0; exact hi0
        have hne : ((i0 : Int) != j) = true := by simp; omega
        have hne' : ¬ ((i0 : Int) = j) := by omega
        have HF : Hid (R = false) := by
          show R = false
          rw [← HR.out]
          unfold apB
          simp only [decide_eq_false_iff_not]
          intro hnd
          have : (l.take (j + 1)).Nodup := List.Nodup.sublist (List.take_sublist _ _) hnd
          rw [htk, List.nodup_append] at this
          exact this.2.2 _ hmem _ (by simp) rfl
        have HNO := (show Hid _ from numberOf_old l[j] hts wr HJ.out.1 hi0 he0)
        clear htk hmem he0 hlt
        generalize l[j] = t at *
        go_wp2_with fail
        refine Calls.mono HNO.out ?_
        rintro e w1 ⟨rfl, rfl⟩
        go_wp2_with fail
        refine bodyPost_ret (v := .tuple #[.string t, .bool true]) (by simp [results, Tryd.results82, go_sem]) rfl ⟨⟨t, by rw [HF.out]; rfl⟩, HJ.out.2.2⟩
      · have hnn := numberOf_new l[j] hts wr HJ.out.1 hmem (by omega)
        rw [hlt, ← htk] at hnn
        have hnd : (l.take (j + 1)).Nodup := by
          rw [htk, List.nodup_append]
          refine ⟨HJ.out.2.1, by simp, fun x hx y hy e => ?_⟩
          simp at hy
          subst hy
          exact hmem (e ▸ hx)
        have HNO := (show Hid _ from hnn); clear hnn
        have HND := (show Hid _ from hnd); clear hnd htk hmem hlt
        have hwz : w.heap.size ≤ wr.heap.size := HJ.out.2.2.size
        generalize l[j] = t at *
        go_wp2_with fail
        refine Calls.mono HNO.out ?_
        rintro e w1 ⟨rfl, hm1, hg1⟩
        have H2 := (show Hid _ from (⟨hm1, HND.out, grown_below HJ.out.2.2 hg1 (Nat.le_refl _) hwz⟩ : Met w1 w.heap.size (l.take (j + 1)) ∧ (l.take (j + 1)).Nodup ∧ Below w.heap.size w w1)); clear hm1 hg1
        go_wp2_with fail
        exact ⟨⟨j + 1, by go_num, by omega, H2⟩, by simp [intOf]; omega⟩
    · have hje : j = l.length := by omega
      have HF : Hid (R = true) := by
        show R = true
        rw [← HR.out]
        unfold apB
        have := HJ.out.2.1
        rw [hje, List.take_length] at this
        simpa using this
      have hjl' : (l.length : Int) ≤ j := by omega
      clear hje
      go_wp2_with fail
      refine bodyPost_ret (v := .tuple #[.string ⟨#[]⟩, .bool false]) (by simp [results, Tryd.results82, go_sem]) rfl ⟨⟨_, by rw [HF.out]; rfl⟩, HJ.out.2.2⟩

theorem apart_any {S : Nat → Prop} (l : List ByteArray) (v : Value) (w : World) (h : Strs w S l v) (hl : l.length ≤ 1048576) :
    Calls Tryd.prog 57 #[v] w fun e w' => e = .returned (.bool (apB l)) ∧ Below w.heap.size w w' := by
  have HF := (show Hid _ from firstAgain_any l v w h hl)
  obtain ⟨a, cap, rfl, _⟩ := h.form
  clear h
  generalize apB l = R at *
  go_enter Tryd.func57, Tryd.ntmps57
  go_wp2_with fail
  refine Calls.mono HF.out ?_
  rintro e w1 ⟨⟨t, rfl⟩, hb⟩
  have HB := (show Hid _ from hb); clear hb
  cases R
  all_goals
    go_wp2_with fail
    go_ret
    exact ⟨rfl, HB.out⟩
end Go.Proofs.YtjpjjfgdgieapaaDoor

/-! Plain rules, as data and in memory. -/
namespace Go.Proofs.YtjpjjfgdgieapaaDoor
open Go.RowKit Go.Deep
set_option linter.unusedVariables false
set_option maxRecDepth 100000
set_option linter.unusedSimpArgs false

structure Tm where
  name : ByteArray
  lev : Int
  asc : Int
structure Pd where
  left : Int
  right : List Int
  label : ByteArray
  lev : Int
  asc : Int
structure Bn where
  terms : List Tm
  nons : List ByteArray
  own : Int
  prods : List Pd
/-- Terms behind a slice. -/
def Tms (w : World) (S : Nat → Prop) (l : List Tm) (v : Value) : Prop :=
  ∃ (a : Option Addr) (cap b off : Nat), v = .slice a l.length cap ∧ l.length ≤ cap ∧ cap ≤ maxLen ∧ (0 < l.length → a = some ⟨b, off, none⟩ ∧ S b) ∧ ∀ i (hi : i < l.length), w.cell? ⟨b, off + i * 3, none⟩ = some (.string l[i].name) ∧ w.cell? ⟨b, off + i * 3 + 1, none⟩ = some (.int .i64 l[i].lev) ∧ w.cell? ⟨b, off + i * 3 + 2, none⟩ = some (.int .i64 l[i].asc) ∧ l[i].name.size ≤ maxLen
theorem Tms.keep {w w' : World} {S : Nat → Prop} {l : List Tm} {v : Value} (h : Tms w S l v) (hb : ∀ b, S b → b < w.heap.size → w'.heap[b]? = w.heap[b]?) : Tms w' S l v := by
  obtain ⟨a, cap, b, off, hv, hc, hm, ha, hcell⟩ := h
  refine ⟨a, cap, b, off, hv, hc, hm, ha, fun i hi => ?_⟩
  obtain ⟨h0, h1, h2, h3⟩ := hcell i hi
  have hbk := hb b (ha (by omega)).2 (lt_of_cell h0)
  exact ⟨(World.cell?_of_block (w := w) hbk).trans h0, (World.cell?_of_block (w := w) hbk).trans h1, (World.cell?_of_block (w := w) hbk).trans h2, h3⟩
theorem Tms.still {w w' : World} {S : Nat → Prop} {l : List Tm} {v : Value} (h : Tms w S l v) (hb : Below w.heap.size w w') : Tms w' S l v := h.keep (fun b _ hlt => hb.block b hlt)
theorem Tms.mono {w : World} {S S' : Nat → Prop} {l : List Tm} {v : Value} (h : Tms w S l v) (hS : ∀ b, S b → S' b) : Tms w S' l v := by
  obtain ⟨a, cap, b, off, hv, hc, hm, ha, hcell⟩ := h
  exact ⟨a, cap, b, off, hv, hc, hm, fun h0 => ⟨(ha h0).1, hS _ (ha h0).2⟩, hcell⟩
theorem Tms.form {w : World} {S : Nat → Prop} {l : List Tm} {v : Value} (h : Tms w S l v) : ∃ a cap, v = .slice a l.length cap ∧ l.length ≤ maxLen := by
  obtain ⟨a, cap, b, off, hv, hc, hm, _⟩ := h
  exact ⟨_, _, hv, by omega⟩
/-- Prods behind a slice. -/
def Pds (w : World) (S : Nat → Prop) (l : List Pd) (v : Value) : Prop :=
  ∃ (a : Option Addr) (cap b off : Nat) (sv : Nat → Value), v = .slice a l.length cap ∧ l.length ≤ cap ∧ cap ≤ maxLen ∧ (0 < l.length → a = some ⟨b, off, none⟩ ∧ S b) ∧
    (∀ i (hi : i < l.length), w.cell? ⟨b, off + i * 5, none⟩ = some (.int .i64 l[i].left) ∧ w.cell? ⟨b, off + i * 5 + 1, none⟩ = some (sv i) ∧ w.cell? ⟨b, off + i * 5 + 2, none⟩ = some (.string l[i].label) ∧ w.cell? ⟨b, off + i * 5 + 3, none⟩ = some (.int .i64 l[i].lev) ∧ w.cell? ⟨b, off + i * 5 + 4, none⟩ = some (.int .i64 l[i].asc) ∧ l[i].label.size ≤ maxLen) ∧
    ∀ i (hi : i < l.length), Ints w S l[i].right (sv i)
theorem Pds.keep {w w' : World} {S : Nat → Prop} {l : List Pd} {v : Value} (h : Pds w S l v) (hb : ∀ b, S b → b < w.heap.size → w'.heap[b]? = w.heap[b]?) : Pds w' S l v := by
  obtain ⟨a, cap, b, off, sv, hv, hc, hm, ha, hcell, hr⟩ := h
  refine ⟨a, cap, b, off, sv, hv, hc, hm, ha, fun i hi => ?_, fun i hi => (hr i hi).keep hb⟩
  obtain ⟨h0, h1, h2, h3, h4, h5⟩ := hcell i hi
  have hbk := hb b (ha (by omega)).2 (lt_of_cell h0)
  exact ⟨(World.cell?_of_block (w := w) hbk).trans h0, (World.cell?_of_block (w := w) hbk).trans h1, (World.cell?_of_block (w := w) hbk).trans h2, (World.cell?_of_block (w := w) hbk).trans h3, (World.cell?_of_block (w := w) hbk).trans h4, h5⟩
theorem Pds.still {w w' : World} {S : Nat → Prop} {l : List Pd} {v : Value} (h : Pds w S l v) (hb : Below w.heap.size w w') : Pds w' S l v := h.keep (fun b _ hlt => hb.block b hlt)
theorem Pds.mono {w : World} {S S' : Nat → Prop} {l : List Pd} {v : Value} (h : Pds w S l v) (hS : ∀ b, S b → S' b) : Pds w S' l v := by
  obtain ⟨a, cap, b, off, sv, hv, hc, hm, ha, hcell, hr⟩ := h
  exact ⟨a, cap, b, off, sv, hv, hc, hm, fun h0 => ⟨(ha h0).1, hS _ (ha h0).2⟩, hcell, fun i hi => (hr i hi).mono hS⟩
theorem Pds.form {w : World} {S : Nat → Prop} {l : List Pd} {v : Value} (h : Pds w S l v) : ∃ a cap, v = .slice a l.length cap ∧ l.length ≤ maxLen := by
  obtain ⟨a, cap, b, off, sv, hv, hc, hm, _⟩ := h
  exact ⟨_, _, hv, by omega⟩
/-- Plain rules in memory: their three slices. -/
structure BLies (w : World) (S : Nat → Prop) (d : Bn) (v0 v1 v3 : Value) : Prop where
  terms : Tms w S d.terms v0
  nons : Strs w S d.nons v1
  prods : Pds w S d.prods v3
theorem BLies.still {w w' : World} {S : Nat → Prop} {d : Bn} {v0 v1 v3 : Value} (h : BLies w S d v0 v1 v3) (hb : Below w.heap.size w w') : BLies w' S d v0 v1 v3 := ⟨h.terms.still hb, h.nons.still hb, h.prods.still hb⟩
theorem BLies.form {w : World} {S : Nat → Prop} {d : Bn} {v0 v1 v3 : Value} (h : BLies w S d v0 v1 v3) : ∃ a0 c0 a1 c1 a3 c3, v0 = .slice a0 d.terms.length c0 ∧ v1 = .slice a1 d.nons.length c1 ∧ v3 = .slice a3 d.prods.length c3 := by
  obtain ⟨a0, c0, e0, _⟩ := h.terms.form
  obtain ⟨a1, c1, e1, _⟩ := h.nons.form
  obtain ⟨a3, c3, e3, _⟩ := h.prods.form
  exact ⟨_, _, _, _, _, _, e0, e1, e3⟩
/-- All its rows are short enough to be made. -/
structure Bn.Small (d : Bn) : Prop where
  terms : d.terms.length ≤ 1048576
  nons : d.nons.length ≤ 1048576
  prods : d.prods.length ≤ 1048576
  right : ∀ i (hi : i < d.prods.length), d.prods[i].right.length ≤ 1048576

/-- How much is left. -/
def Left (n : Nat) (P : Prop) (e : Ending) : Prop := e = .returned (.int .i64 (-1)) ∨ ∃ m : Nat, e = .returned (.int .i64 m) ∧ m ≤ n ∧ P
theorem szInts_any {S : Nat → Prop} (l : List Int) (v : Value) (w : World) (n : Nat) (h : Ints w S l v) (hn : n ≤ 1048576) :
    Calls Tryd.prog 76 #[v, .int .i64 n] w fun e w' => Left n (l.length ≤ 1048576) e ∧ Below w.heap.size w w' := by
  obtain ⟨a, cap, rfl, hm⟩ := h.form
  unfold maxLen at hm
  clear h
  generalize l.length = len at *
  by_cases hlt : (n : Int) - len < 0
  · go_enter Tryd.func76, Tryd.ntmps76
    go_wp2_with fail
    go_ret
    exact ⟨.inl rfl, Below.refl _ _⟩
  · go_enter Tryd.func76, Tryd.ntmps76
    go_wp2_with fail
    go_ret
    exact ⟨.inr ⟨n - len, by rw [show ((n - len : Nat) : Int) = (n : Int) - len by omega]; rfl, by omega, by omega⟩, Below.refl _ _⟩
set_option maxHeartbeats 400000 in
theorem szTerm_any (t : Tm) (w : World) (n : Nat) (hs : t.name.size ≤ maxLen) (hn : n ≤ 1048576) :
    Calls Tryd.prog 43 #[.agg #[.string t.name, .int .i64 t.lev, .int .i64 t.asc], .int .i64 n] w fun e w' => Left n True e ∧ Below w.heap.size w w' := by
  unfold maxLen at hs
  by_cases hlt : (n : Int) - t.name.size < 0
  · go_enter Tryd.func43, Tryd.ntmps43
    go_wp2_with fail
    go_ret
    exact ⟨.inl rfl, bel_alloc _ _⟩
  · go_enter Tryd.func43, Tryd.ntmps43
    go_wp2_with fail
    go_ret
    exact ⟨.inr ⟨n - t.name.size, by rw [show ((n - t.name.size : Nat) : Int) = (n : Int) - t.name.size by omega]; rfl, by omega, trivial⟩, bel_alloc _ _⟩
set_option maxHeartbeats 400000 in
theorem szTerms_any {S : Nat → Prop} (l : List Tm) (v : Value) (w : World) (n : Nat) (h : Tms w S l v) (hn : n ≤ 1048576) :
    Calls Tryd.prog 13 #[v, .int .i64 n] w fun e w' => Left n (l.length ≤ 1048576) e ∧ Below w.heap.size w w' := by
  obtain ⟨a, cap, b, off, rfl, hc, hm, ha, hcell⟩ := h
  have HC := (show Hid _ from hcell); clear hcell
  have HA := (show Hid _ from ha); clear ha
  unfold maxLen at hm
  by_cases hlt : (n : Int) - l.length < 0
  · go_enter Tryd.func13, Tryd.ntmps13
    go_wp2_with fail
    go_ret
    exact ⟨.inl rfl, Below.refl _ _⟩
  · go_enter Tryd.func13, Tryd.ntmps13
    go_wp2_with fail
    go_loopw [1, 5] (fun u i wr => ∃ (j m : Nat), j ≤ l.length ∧ i = .int .i64 j ∧ u = .int .i64 m ∧ m ≤ n ∧ Below w.heap.size w wr) (fun _ i _ => l.length - (intOf i).toNat)
    case atStart => exact ⟨0, n - l.length, Nat.zero_le _, rfl, by go_num, by omega, Below.refl _ _⟩
    case round =>
      obtain ⟨j, m, hj, rfl, rfl, hmn, hbel⟩ := hrel
      by_cases hjl : j < l.length
      · obtain ⟨rfl, _⟩ := HA.out (by omega)
        obtain ⟨c0, c1, c2, hs⟩ := HC.out j (by omega)
        rw [← hbel.cell (lt_of_cell c0)] at c0
        rw [← hbel.cell (lt_of_cell c1)] at c1
        rw [← hbel.cell (lt_of_cell c2)] at c2
        have HCL := (show Hid _ from szTerm_any l[j] wr m hs (by omega))
        go_wp2_with fail
        refine Calls.mono HCL.out ?_
        rintro e w1 ⟨rfl | ⟨m1, rfl, hm1, _⟩, hb1⟩
        · have hbw := bel_trans hbel hb1
          go_wp2_with fail
          go_ret
          exact ⟨.inl rfl, hbw⟩
        · have hbw := bel_trans hbel hb1
          clear c0 c1 c2
          go_wp2_with fail
          exact ⟨⟨j + 1, m1, by omega, by go_num, rfl, by omega, hbw⟩, by simp [intOf]; omega⟩
      · obtain rfl : j = l.length := by omega
        go_wp2_with fail
        go_ret
        exact ⟨.inr ⟨m, rfl, hmn, by omega⟩, hbel⟩
end Go.Proofs.YtjpjjfgdgieapaaDoor
