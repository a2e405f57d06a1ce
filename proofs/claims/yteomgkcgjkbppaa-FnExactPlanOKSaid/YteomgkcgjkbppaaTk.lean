import Derived.Test.YteomgkcgjkbppaaMn
import Derived.Test.YteomgkcgjkbppaaBg
/-! The program: bindings, and take. -/
namespace Go.Proofs.Yteomgkcgjkbppaa
open Go.RowKit Go.Deep Go.Maps Go.WideMaps Go.ChangeMaps Go.Lib
set_option linter.unusedVariables false
set_option maxRecDepth 100000
set_option linter.unusedSimpArgs false

/-- All below B but two blocks is as it was. -/
structure Kp (B gb mb : Nat) (w w' : World) : Prop where
  os : w'.os = w.os
  tape : w'.tape = w.tape
  output : w'.output = w.output
  size : w.heap.size ≤ w'.heap.size
  block : ∀ q, q < B → q ≠ gb → q ≠ mb → w'.heap[q]? = w.heap[q]?
theorem Kp.trans {B gb mb : Nat} {a b c : World} (h : Kp B gb mb a b) (k : Kp B gb mb b c) : Kp B gb mb a c :=
  ⟨k.os.trans h.os, k.tape.trans h.tape, k.output.trans h.output, Nat.le_trans h.size k.size, fun q h1 h2 h3 => (k.block q h1 h2 h3).trans (h.block q h1 h2 h3)⟩
theorem Kp.of_below {B gb mb : Nat} {a b : World} (hB : B ≤ a.heap.size) (h : Below a.heap.size a b) : Kp B gb mb a b :=
  ⟨h.os, h.tape, h.output, h.size, fun q h1 _ _ => h.block q (by omega)⟩
/-- Bindings as they lie: a box with a map that numbers the names, and the row of binds, which is its own. -/
structure BS (S : Nat → Prop) (B gb mb : Nat) (bl : List (ByteArray × Tr)) (w : World) : Prop where
  sz : B ≤ w.heap.size
  lt : gb < B ∧ mb < B ∧ gb ≠ mb
  ex : ∃ (ba : Option Addr) (cap : Nat) (sv : Nat → Value), Box w gb 67 [.map (some mb), .slice ba bl.length cap] ∧ w.ownsRow B 62 5 (.slice ba bl.length cap) bl.length (bcs bl sv bl.length) ∧ ∀ i (hi : i < bl.length), Lies w S bl[i].2 (sv i)
  mn : Mn w mb 9 (bl.map fun b => Value.string b.1)
theorem BS.still {S : Nat → Prop} {B gb mb : Nat} {bl : List (ByteArray × Tr)} {w w' : World} (h : BS S B gb mb bl w) (hb : Below w.heap.size w w') : BS S B gb mb bl w' := by
  obtain ⟨ba, cap, sv, h1, h2, h3⟩ := h.ex
  exact ⟨Nat.le_trans h.sz hb.size, h.lt, ⟨ba, cap, sv, h1.still hb, own_still h2 hb, fun i hi => (h3 i hi).still hb⟩, h.mn.keep (hb.block mb h.mn.lt)⟩
theorem look_key {bl : List (ByteArray × Tr)} {x : ByteArray} {n : Nat} (hd : (bl.map fun b => Value.string b.1).Nodup) (h : (bl.map fun b => Value.string b.1)[n]? = some (.string x)) : ∃ hn : n < bl.length, look bl x = some bl[n].2 := by
  rw [List.getElem?_map] at h
  obtain ⟨b, h1, h2⟩ := Option.map_eq_some_iff.1 h
  obtain ⟨hn, h3⟩ := List.getElem?_eq_some_iff.1 h1
  injection h2 with h2
  refine ⟨hn, look_at hn (fun i hi hin e => ?_) (by rw [h3]; exact h2)⟩
  have := List.pairwise_iff_getElem.1 hd i n (by simpa using hi) (by simpa using hn) hin
  rw [List.getElem_map, List.getElem_map, e, h3, h2] at this
  exact this rfl
theorem look_new {bl : List (ByteArray × Tr)} {x : ByteArray} (h : Value.string x ∉ (bl.map fun b => Value.string b.1)) : look bl x = none :=
  look_none (fun i hi e => h (List.mem_map.2 ⟨bl[i], List.getElem_mem hi, by rw [e]⟩))
theorem bel_frozen {w w' : World} {b o : Nat} (h : Below w.heap.size w w') (hb : b < w.heap.size) : w'.frozen? ⟨b, o, none⟩ = w.frozen? ⟨b, o, none⟩ := (bcell h).2 b o hb
/-- What take leaves. -/
def TkA (S : Nat → Prop) (B gb mb : Nat) (x : ByteArray) (t : Tr) (bl : List (ByteArray × Tr)) (w : World) (e : Ending) (w' : World) : Prop :=
  e = .returned (.bool (mtV x t bl).2) ∧ BS S B gb mb (mtV x t bl).1 w' ∧ Kp B gb mb w w'
set_option maxHeartbeats 3200000 in
theorem take97 {S : Nat → Prop} {B gb mb : Nat} (hS : ∀ q, S q → q < B ∧ q ≠ gb ∧ q ≠ mb) (bl : List (ByteArray × Tr)) (x : ByteArray) (t : Tr) (tv : Value) (w : World) (h : BS S B gb mb bl w) (ht : Lies w S t tv) (hx : x.size ≤ maxLen) (hn : bl.length + 1 ≤ 1000000) :
    Calls Try.prog 97 #[.pointer (some ⟨gb, 0, none⟩), .string x, t.val tv] w (TkA S B gb mb x t bl w) := by
  obtain ⟨y1, y2, y3, rfl⟩ := ht.form
  have HSS := (show Hid _ from hS)
  have HBS := (show Hid (BS S B gb mb bl w) from h)
  have HT := (show Hid (Lies w S t (.slice y1 y2 y3)) from ht)
  have HR := (show Hid (∀ R : List (ByteArray × Tr) × Bool, mtV x t bl = R → ∀ w' : World, BS S B gb mb R.1 w' → Kp B gb mb w w' → TkA S B gb mb x t bl w (.returned (.bool R.2)) w') from fun R hR w' h1 h2 => by
    subst hR
    exact ⟨rfl, h1, h2⟩)
  have HMV := (show Hid (mtV x t bl = match look bl x with | some u => (bl, eqT u t) | none => (bl ++ [(x, t)], true)) from rfl)
  have HSM := (show Hid (∀ (i : Nat) (hi : i < bl.length) (v : Value) (wq : World), Lies wq S bl[i].2 v → Lies wq S t (.slice y1 y2 y3) → Calls Try.prog 109 #[bl[i].2.val v, t.val (.slice y1 y2 y3)] wq fun e w' => e = .returned (.bool (eqT bl[i].2 t)) ∧ Below wq.heap.size wq w') from fun i hi v wq h1 h2 => same109 bl[i].2 t v _ wq h1 h2)
  simp only [Tr.val] at HSM ⊢
  generalize hn0 : t.name = n0 at *
  generalize hx0 : t.text = x0 at *
  generalize hl0 : t.leaf = l0 at *
  have HFV := (show Hid (n0 = t.name ∧ x0 = t.text ∧ l0 = t.leaf) from ⟨hn0.symm, hx0.symm, hl0.symm⟩)
  clear hn0 hx0 hl0
  have hb1 := bel_alloc w (.cells #[.string n0, .string x0, .bool l0, .slice y1 y2 y3] 31)
  have HB1 := (show Hid (Below w.heap.size w (w.alloc (.cells #[.string n0, .string x0, .bool l0, .slice y1 y2 y3] 31))) from hb1)
  have HX := (show Hid (Box (w.alloc (.cells #[.string n0, .string x0, .bool l0, .slice y1 y2 y3] 31)) w.heap.size 31 [.string n0, .string x0, .bool l0, .slice y1 y2 y3]) from Box.new w 31 _)
  have h1 := h.still hb1
  obtain ⟨ba, cap, sv, e1', e2', e3'⟩ := h.ex
  have HOW := (show Hid (w.ownsRow B 62 5 (.slice ba bl.length cap) bl.length (bcs bl sv bl.length)) from e2')
  have e1 := e1'.still hb1
  have e2 := own_still e2' hb1
  have e3 : ∀ i (hi : i < bl.length), Lies (w.alloc (.cells #[.string n0, .string x0, .bool l0, .slice y1 y2 y3] 31)) S bl[i].2 (sv i) := fun i hi => (e3' i hi).still hb1
  have c0 : (w.alloc (.cells #[.string n0, .string x0, .bool l0, .slice y1 y2 y3] 31)).cell? ⟨gb, 0, none⟩ = some (.map (some mb)) := e1.cell 0 (by simp)
  have HNU := (show Hid _ from number81 mb (bl.map fun b => Value.string b.1) x _ (w.alloc (.cells #[.string n0, .string x0, .bool l0, .slice y1 y2 y3] 31)) (keyOf_string_mk (P := Try.prog) Try.underlying9 hx) h1.mn (by simp; omega))
  have HEX := (show Hid (Box (w.alloc (.cells #[.string n0, .string x0, .bool l0, .slice y1 y2 y3] 31)) gb 67 [.map (some mb), .slice ba bl.length cap] ∧ (w.alloc (.cells #[.string n0, .string x0, .bool l0, .slice y1 y2 y3] 31)).ownsRow B 62 5 (.slice ba bl.length cap) bl.length (bcs bl sv bl.length) ∧ ∀ i (hi : i < bl.length), Lies (w.alloc (.cells #[.string n0, .string x0, .bool l0, .slice y1 y2 y3] 31)) S bl[i].2 (sv i)) from ⟨e1, e2, e3⟩)
  have HLT := (show Hid (gb < B ∧ mb < B ∧ gb ≠ mb) from h.lt)
  have HSZ := (show Hid (B ≤ w.heap.size) from h.sz)
  have HND := (show Hid ((bl.map fun b => Value.string b.1).Nodup) from (by obtain ⟨D, _, _, _, d4, _⟩ := h.mn.ex; exact d4))
  clear h ht hS e1 e2 e3 h1 hb1 e1' e2' e3'
  unfold NoR at HNU
  go_enter Try.func97, Try.ntmps97
  go_wp2_with fail
  refine Calls.mono HNU.out ?_
  rintro e w2 ⟨n, rfl, hk, hor⟩
  have HK := (show Hid (K1 mb (w.alloc (.cells #[.string n0, .string x0, .bool l0, .slice y1 y2 y3] 31)) w2) from hk)
  have hsz1 : (w.alloc (.cells #[.string n0, .string x0, .bool l0, .slice y1 y2 y3] 31)).heap.size = w.heap.size + 1 := by simp
  have hkb : ∀ q, q < w.heap.size + 1 → q ≠ mb → w2.heap[q]? = (w.alloc (.cells #[.string n0, .string x0, .bool l0, .slice y1 y2 y3] 31)).heap[q]? := fun q h1 h2 => hk.block q (by rw [hsz1]; exact h1) h2
  have HKB := (show Hid _ from hkb)
  have bx := HX.out.keep (hkb _ (by omega) (by have := HLT.out; have := HSZ.out; omega))
  have bg := HEX.out.1.keep (hkb gb (by have := HLT.out; have := HSZ.out; omega) HLT.out.2.2)
  have HO2 := (show Hid (w2.ownsRow B 62 5 (.slice ba bl.length cap) bl.length (bcs bl sv bl.length)) from own_keep1 HEX.out.2.1 (fun q hq => hk.block q (World.ownsRow.lt HEX.out.2.1 q hq).2 (by have := (World.ownsRow.lt HEX.out.2.1 q hq).1; have := HLT.out; omega)))
  have HL2 := (show Hid (∀ i (hi : i < bl.length), Lies w2 S bl[i].2 (sv i)) from fun i hi => (HEX.out.2.2 i hi).keep (fun q hq => hkb q (by have := (HSS.out q hq).1; have := HSZ.out; omega) (HSS.out q hq).2.2))
  have HT2 := (show Hid (Lies w2 S t (.slice y1 y2 y3)) from (HT.out.still HB1.out).keep (fun q hq => hkb q (by have := (HSS.out q hq).1; have := HSZ.out; omega) (HSS.out q hq).2.2))
  have HKP := (show Hid (Kp B gb mb w w2) from (Kp.of_below HSZ.out HB1.out).trans ⟨hk.os, hk.tape, hk.output, hk.size, fun q h1 h2 h3 => hkb q (by have := HSZ.out; omega) h3⟩)
  have HZ2 := (show Hid (w.heap.size + 1 ≤ w2.heap.size) from (by have := hk.size; rw [hsz1] at this; exact this))
  have HBX := (show Hid (Box w2 w.heap.size 31 [.string n0, .string x0, .bool l0, .slice y1 y2 y3]) from bx)
  have HBG := (show Hid (Box w2 gb 67 [.map (some mb), .slice ba bl.length cap]) from bg)
  have g1 : w2.cell? ⟨gb, 1, none⟩ = some (.slice ba bl.length cap) := bg.cell 1 (by simp)
  clear hk hkb bx bg HX HEX HT HNU HB1 HK c0 hsz1
  rcases hor with ⟨hkn, hmn⟩ | ⟨hnk, rfl, hmn⟩
  · obtain ⟨hlt, hlk⟩ := look_key HND.out hkn
    have HMN := (show Hid (Mn w2 mb 9 (bl.map fun b => Value.string b.1)) from hmn)
    obtain ⟨q1, q2, q3, hq⟩ := (HL2.out n hlt).form
    have HHS := (show Hid (∀ wq : World, Below w2.heap.size w2 wq → wq.cell? ⟨gb, 1, none⟩ = some (.slice ba bl.length cap) ∧ (wq.cell? ⟨w.heap.size, 0, none⟩ = some (.string n0) ∧ wq.cell? ⟨w.heap.size, 1, none⟩ = some (.string x0) ∧ wq.cell? ⟨w.heap.size, 2, none⟩ = some (.bool l0) ∧ wq.cell? ⟨w.heap.size, 3, none⟩ = some (.slice y1 y2 y3)) ∧ ∃ b9, ba = some ⟨b9, 0, none⟩ ∧ wq.cell? ⟨b9, n * 5 + 1, none⟩ = some (.string bl[n].2.name) ∧ wq.cell? ⟨b9, n * 5 + 2, none⟩ = some (.string bl[n].2.text) ∧ wq.cell? ⟨b9, n * 5 + 3, none⟩ = some (.bool bl[n].2.leaf) ∧ wq.cell? ⟨b9, n * 5 + 4, none⟩ = some (.slice q1 q2 q3)) from fun wq hb => by
      have hown := own_still HO2.out hb
      obtain ⟨_, t1, t2, t3, t4⟩ := bcs_get bl sv bl.length n hlt
      rw [nb_eq hlt] at t1 t2 t3
      rw [hq] at t4
      have bxq := HBX.out.still hb
      refine ⟨(HBG.out.still hb).cell 1 (by simp), ⟨bxq.cell 0 (by simp), bxq.cell 1 (by simp), bxq.cell 2 (by simp), bxq.cell 3 (by simp)⟩, ?_⟩
      rcases hown.2 with ⟨e, e0⟩ | ⟨b9, cp, cur, e, _⟩
      · omega
      · injection e with e _ _
        subst e
        exact ⟨b9, rfl, by rw [World.ownsRow.cellAt hown _ (by omega), t1], by rw [World.ownsRow.cellAt hown _ (by omega), t2], by rw [World.ownsRow.cellAt hown _ (by omega), t3], by rw [World.ownsRow.cellAt hown _ (by omega), t4]⟩)
    obtain ⟨_, _, b9, rfl, _⟩ := HHS.out w2 (Below.refl _ _)
    have hd0 : Below w2.heap.size w2 w2.drew := (Below.refl _ _).drew
    have hcl := HSM.out n hlt (sv n) w2.drew ((HL2.out n hlt).still hd0) (HT2.out.still hd0)
    rw [hq] at hcl
    have HCL := (show Hid _ from hcl)
    have HFN := (show Hid (∀ w3 : World, Below w2.heap.size w2 w3 → TkA S B gb mb x t bl w (.returned (.bool (eqT bl[n].2 t))) w3) from fun w3 hb => by
      refine HR.out (bl, eqT bl[n].2 t) (by rw [HMV.out, hlk]) w3 ?_ (HKP.out.trans (Kp.of_below (by have := HSZ.out; have := HZ2.out; omega) hb))
      exact ⟨by have := HSZ.out; have := HZ2.out; have := hb.size; omega, HLT.out, ⟨_, cap, sv, HBG.out.still hb, own_still HO2.out hb, fun i hi => (HL2.out i hi).still hb⟩, HMN.out.keep (hb.block mb HMN.out.lt)⟩)
    have HSK := (show Hid (∀ wq : World, Below w2.heap.size w2 wq → wq.cell? ⟨gb, 1, none⟩ = some (.slice (some ⟨b9, 0, none⟩) bl.length cap) ∧ (wq.cell? ⟨w.heap.size, 0, none⟩ = some (.string n0) ∧ wq.cell? ⟨w.heap.size, 1, none⟩ = some (.string x0) ∧ wq.cell? ⟨w.heap.size, 2, none⟩ = some (.bool l0) ∧ wq.cell? ⟨w.heap.size, 3, none⟩ = some (.slice y1 y2 y3)) ∧ wq.cell? ⟨b9, n * 5 + 1, none⟩ = some (.string bl[n].2.name) ∧ wq.cell? ⟨b9, n * 5 + 2, none⟩ = some (.string bl[n].2.text) ∧ wq.cell? ⟨b9, n * 5 + 3, none⟩ = some (.bool bl[n].2.leaf) ∧ wq.cell? ⟨b9, n * 5 + 4, none⟩ = some (.slice q1 q2 q3)) from fun wq hb => by
      obtain ⟨r1, r2, b8, r3, r4⟩ := HHS.out wq hb
      injection r3 with r3
      injection r3 with r3
      subst r3
      exact ⟨r1, r2, r4⟩)
    have hS0 := HSK.out _ hd0
    have HD0 := (show Hid _ from hd0)
    have i1 : (0 : Int) ≤ (n : Int) := by omega
    have i2 : (n : Int) < (bl.length : Int) := by omega
    clear hkn hmn hlk hq hcl hd0 HHS HR HMV HSM HO2 HL2 HT2 HKP HBX HBG HMN HND HKB HSS HBS HFV
    generalize eqT bl[n].2 t = D at *
    generalize bl[n].2.name = m1 at *
    generalize bl[n].2.text = m2 at *
    generalize bl[n].2.leaf = m3 at *
    go_wp2_with fail
    go_region_held3 (fun wq => wq.cell? ⟨gb, 1, none⟩ = some (.slice (some ⟨b9, 0, none⟩) bl.length cap) ∧ (wq.cell? ⟨w.heap.size, 0, none⟩ = some (.string n0) ∧ wq.cell? ⟨w.heap.size, 1, none⟩ = some (.string x0) ∧ wq.cell? ⟨w.heap.size, 2, none⟩ = some (.bool l0) ∧ wq.cell? ⟨w.heap.size, 3, none⟩ = some (.slice y1 y2 y3)) ∧ wq.cell? ⟨b9, n * 5 + 1, none⟩ = some (.string m1) ∧ wq.cell? ⟨b9, n * 5 + 2, none⟩ = some (.string m2) ∧ wq.cell? ⟨b9, n * 5 + 3, none⟩ = some (.bool m3) ∧ wq.cell? ⟨b9, n * 5 + 4, none⟩ = some (.slice q1 q2 q3)) (first | with_reducible exact hS0 | with_reducible exact hS1) ((first | (go_at_call 109; refine Calls.mono HCL.out ?_; rintro e w3 ⟨rfl, hb3⟩; have hx1 : Below w2.heap.size w2 w3 := HD0.out.trans (hb3.mono (Nat.le_refl _)); have hS1 := HSK.out w3 hx1)))
    have HE := (show Hid _ from HFN.out w3 hx1)
    clear hS0 hS1 hb3 hx1
    go_wp2_with fail
    go_ret
    exact HE.out
  · rw [List.length_map]
    have hlk := look_new hnk
    have HMN := (show Hid (Mn w2 mb 9 ((bl ++ [(x, t)]).map fun b => Value.string b.1)) from (by rw [List.map_append]; exact hmn))
    have hd0 : Below w2.heap.size w2 w2.drew := (Below.refl _ _).drew
    have hd1 : Below w2.heap.size w2 (w2.drew.alloc (.cells #[.string x, .string n0, .string x0, .bool l0, .slice y1 y2 y3] 62)) := hd0.alloc (Nat.le_refl _) _
    have HBS4 := (show Hid (∀ wq : World, Below w2.heap.size w2 wq → (fun wq => wq.cell? ⟨w.heap.size, 0, none⟩ = some (.string n0) ∧ wq.cell? ⟨w.heap.size, 1, none⟩ = some (.string x0) ∧ wq.cell? ⟨w.heap.size, 2, none⟩ = some (.bool l0) ∧ wq.cell? ⟨w.heap.size, 3, none⟩ = some (.slice y1 y2 y3)) wq) from fun wq hb => ⟨(HBX.out.still hb).cell 0 (by simp), (HBX.out.still hb).cell 1 (by simp), (HBX.out.still hb).cell 2 (by simp), (HBX.out.still hb).cell 3 (by simp)⟩)
    have hS0 := HBS4.out _ hd0
    have hS1 := HBS4.out _ hd1
    dsimp only at hS0 hS1
    have C4 : w2.drew.cell? ⟨gb, 1, none⟩ = some (.slice ba bl.length cap) := (HBG.out.still hd0).cell 1 (by simp)
    have C5 : (w2.drew.alloc (.cells #[.string x, .string n0, .string x0, .bool l0, .slice y1 y2 y3] 62)).cell? ⟨gb, 1, none⟩ = some (.slice ba bl.length cap) := (HBG.out.still hd1).cell 1 (by simp)
    have C6 : (w2.alloc (.cells #[.string x, .string n0, .string x0, .bool l0, .slice y1 y2 y3] 62)).drew.cell? ⟨gb, 1, none⟩ = some (.slice ba bl.length cap) := C5
    have HO5 := (show Hid ((w2.drew.alloc (.cells #[.string x, .string n0, .string x0, .bool l0, .slice y1 y2 y3] 62)).ownsRow B 62 5 (.slice ba bl.length cap) bl.length (bcs bl sv bl.length)) from own_still HO2.out hd1)
    have HZ5 := (show Hid (B ≤ (w2.drew.alloc (.cells #[.string x, .string n0, .string x0, .bool l0, .slice y1 y2 y3] 62)).heap.size) from (by show _ ≤ _; have := HSZ.out; have := HZ2.out; have := hd1.size; omega))
    have HUP := (show Hid (∀ (g7 cap7 : Nat) (w7 : World), w7.ownsRow B 62 5 (.slice (some ⟨g7, 0, none⟩) (bl.length + 1) cap7) (bl.length + 1) (bcs bl sv bl.length ++ [.string x, .string n0, .string x0, .bool l0, .slice y1 y2 y3]) → (w2.drew.alloc (.cells #[.string x, .string n0, .string x0, .bool l0, .slice y1 y2 y3] 62)).grownBy w7 (Value.slice ba bl.length cap).ownBlock → ((Value.slice ba bl.length cap).ownBlock = some g7 ∨ g7 = (w2.drew.alloc (.cells #[.string x, .string n0, .string x0, .bool l0, .slice y1 y2 y3] 62)).heap.size) → ((fun wq => wq.cell? ⟨w.heap.size, 0, none⟩ = some (.string n0) ∧ wq.cell? ⟨w.heap.size, 1, none⟩ = some (.string x0) ∧ wq.cell? ⟨w.heap.size, 2, none⟩ = some (.bool l0) ∧ wq.cell? ⟨w.heap.size, 3, none⟩ = some (.slice y1 y2 y3)) w7) ∧ w7.frozen? ⟨gb, 1, none⟩ = false ∧ w7.cell? ⟨gb, 1, none⟩ = some (.slice ba bl.length cap) ∧ ((fun wq => wq.cell? ⟨w.heap.size, 0, none⟩ = some (.string n0) ∧ wq.cell? ⟨w.heap.size, 1, none⟩ = some (.string x0) ∧ wq.cell? ⟨w.heap.size, 2, none⟩ = some (.bool l0) ∧ wq.cell? ⟨w.heap.size, 3, none⟩ = some (.slice y1 y2 y3)) (w7.setCell ⟨gb, 1, none⟩ (.slice (some ⟨g7, 0, none⟩) (bl.length + 1) cap7))) ∧ Hid (TkA S B gb mb x t bl w (.returned (.bool true)) (w7.setCell ⟨gb, 1, none⟩ (.slice (some ⟨g7, 0, none⟩) (bl.length + 1) cap7)))) from fun g7 cap7 w7 o1 o2 o3 => by
      have hlow := fun q (hq : (Value.slice ba bl.length cap).ownBlock = some q) => (World.ownsRow.lt HO2.out q hq).1
      have hl2 := fun q (hq : (Value.slice ba bl.length cap).ownBlock = some q) => (World.ownsRow.lt HO2.out q hq).2
      have z1 := HSZ.out
      have z2 := HZ2.out
      have z3 := HLT.out
      have z4 := hd1.size
      have kb : ∀ q, q < w2.heap.size → (Value.slice ba bl.length cap).ownBlock ≠ some q → w7.heap[q]? = w2.heap[q]? := fun q h1 h2 => (o2.block q (by omega) (fun e => h2 e.symm)).trans (hd1.block q h1)
      have nB : ∀ q, q < B → (Value.slice ba bl.length cap).ownBlock ≠ some q := fun q h1 e => by have := hlow q e; omega
      have nX : (Value.slice ba bl.length cap).ownBlock ≠ some w.heap.size := fun e => by
        have := (World.ownsRow.lt HOW.out _ e).2
        omega
      have bx7 := HBX.out.keep (kb w.heap.size (by omega) nX)
      have bg7 := HBG.out.keep (kb gb (by omega) (nB gb (by omega)))
      have bx8 := bx7.past (q := gb) (o := 1) (u := .slice (some ⟨g7, 0, none⟩) (bl.length + 1) cap7) (by omega)
      have kc8 : ∀ q, q < B → q ≠ gb → (w7.setCell ⟨gb, 1, none⟩ (.slice (some ⟨g7, 0, none⟩) (bl.length + 1) cap7)).heap[q]? = w2.heap[q]? := fun q h1 h2 => (blk_setCell_other _ _ _ _ (by exact h2)).trans (kb q (by omega) (nB q h1))
      refine ⟨⟨bx7.cell 0 (by simp), bx7.cell 1 (by simp), bx7.cell 2 (by simp), bx7.cell 3 (by simp)⟩, bg7.frozen 1, bg7.cell 1 (by simp), ⟨bx8.cell 0 (by simp), bx8.cell 1 (by simp), bx8.cell 2 (by simp), bx8.cell 3 (by simp)⟩, ?_⟩
      obtain ⟨v1, v2, v3⟩ := HFV.out
      subst v1 v2 v3
      have hlen : (bl ++ [(x, t)]).length = bl.length + 1 := by simp
      refine HR.out (bl ++ [(x, t)], true) (by rw [HMV.out, hlk]) _ ⟨?_, HLT.out, ⟨some ⟨g7, 0, none⟩, cap7, fun i => if i = bl.length then .slice y1 y2 y3 else sv i, ?_, ?_, fun i hi => ?_⟩, ?_⟩ (HKP.out.trans ⟨o2.os.trans hd1.os, o2.tape.trans hd1.tape, o2.output.trans hd1.output, ?_, fun q h1 h2 h3 => kc8 q h1 h2⟩)
      · have := o2.size
        simp only [World.size_setCell]
        omega
      · dsimp only
        rw [hlen]
        exact bg7.set 1 _
      · dsimp only
        rw [hlen, bcs, bcs_congr (cl := bl) (tv := sv) bl.length (fun i hi => ⟨nb_app hi, if_neg (by omega)⟩), nb_last]
        simp only [if_true]
        exact own_keep1 o1 (fun q hq => blk_setCell_other _ _ _ _ (by have := (World.ownsRow.lt o1 q hq).1; show q ≠ gb; omega))
      · dsimp only at hi ⊢
        rw [hlen] at hi
        by_cases e : i = bl.length
        · subst e
          simp only [if_true]
          rw [List.getElem_append_right (Nat.le_refl _)]
          simp
          exact HT2.out.keep (fun q hq => kc8 q (HSS.out q hq).1 (HSS.out q hq).2.1)
        · have hi2 : i < bl.length := by omega
          rw [if_neg e, List.getElem_append_left hi2]
          exact (HL2.out i hi2).keep (fun q hq => kc8 q (HSS.out q hq).1 (HSS.out q hq).2.1)
      · exact HMN.out.keep (kc8 mb (by omega) (by omega))
      · have := o2.size
        simp only [World.size_setCell]
        omega)
    clear hnk hmn hlk hd0 hd1 HR HMV HSM HO2 HL2 HT2 HKP HBX HBG HMN HND HKB HSS HBS HFV HBS4 HOW
    obtain ⟨i62, hi62, hz0, hz1, hz2⟩ := info_parts info62s
    go_wp2_with fail
    refine wp_region_held_drew (S := (fun wq => wq.cell? ⟨w.heap.size, 0, none⟩ = some (.string n0) ∧ wq.cell? ⟨w.heap.size, 1, none⟩ = some (.string x0) ∧ wq.cell? ⟨w.heap.size, 2, none⟩ = some (.bool l0) ∧ wq.cell? ⟨w.heap.size, 3, none⟩ = some (.slice y1 y2 y3))) (by kernel_rfl) hS0 (fun hHeld => ?_)
    refine wpAnyH_take (i := 0) (oi := { dst := some 31, op := Go.Op.move (Go.Operand.tmp 0), type := 122, pos := "l11_rewriting.go:192", after := #[], guard := none }) (v := ?v1) rfl (by kernel_rfl) (by kernel_rfl) (by kernel_rfl) (fun _ _ _ h => h) (Or.inl ⟨by rfl, ?h1⟩) hHeld ?r1
    case h1 => (intro w hSw; (try dsimp only at hSw); go_simp; try with_reducible rfl)
    try simp only [Act.put, List.setIfInBounds_toArray, List.set_cons_zero, List.set_cons_succ]
    refine wpAnyH_take (i := 1) (oi := { dst := some 32, op := Go.Op.move (Go.Operand.tmp 0), type := 122, pos := "l11_rewriting.go:192", after := #[], guard := none }) (v := ?v2) rfl (by kernel_rfl) (by kernel_rfl) (by kernel_rfl) (fun _ _ _ h => h) (Or.inl ⟨by rfl, ?h2⟩) hHeld ?r2
    case h2 => (intro w hSw; (try dsimp only at hSw); go_simp; try with_reducible rfl)
    try simp only [Act.put, List.setIfInBounds_toArray, List.set_cons_zero, List.set_cons_succ]
    refine wpAnyH_take (i := 2) (oi := { dst := some 33, op := Go.Op.nilCheck (Go.Operand.tmp 32), type := 0, pos := "l11_rewriting.go:192", after := #[{ on := 1, ground := Go.Ground.data }], guard := none }) (v := ?v3) rfl (by kernel_rfl) (by kernel_rfl) (by kernel_rfl) (fun _ _ _ h => h) (Or.inl ⟨by rfl, ?h3⟩) hHeld ?r3
    case h3 => (intro w hSw; (try dsimp only at hSw); go_simp; try with_reducible rfl)
    try simp only [Act.put, List.setIfInBounds_toArray, List.set_cons_zero, List.set_cons_succ]
    refine wpAnyH_take (i := 3) (oi := { dst := some 34, op := Go.Op.fieldAddr 67 (Go.Operand.tmp 33) 1, type := 0, pos := "l11_rewriting.go:192", after := #[{ on := 2, ground := Go.Ground.data }], guard := none }) (v := ?v4) rfl (by kernel_rfl) (by kernel_rfl) (by kernel_rfl) (fun _ _ _ h => h) (Or.inl ⟨by rfl, ?h4⟩) hHeld ?r4
    case h4 => (intro w hSw; (try dsimp only at hSw); go_simp; try with_reducible rfl)
    try simp only [Act.put, List.setIfInBounds_toArray, List.set_cons_zero, List.set_cons_succ]
    refine wpAnyH_take (i := 5) (oi := { dst := some 36, op := Go.Op.move (Go.Operand.tmp 1), type := 9, pos := "l11_rewriting.go:192", after := #[], guard := none }) (v := ?v5) rfl (by kernel_rfl) (by kernel_rfl) (by kernel_rfl) (fun _ _ _ h => h) (Or.inl ⟨by rfl, ?h5⟩) hHeld ?r5
    case h5 => (intro w hSw; (try dsimp only at hSw); go_simp; try with_reducible rfl)
    try simp only [Act.put, List.setIfInBounds_toArray, List.set_cons_zero, List.set_cons_succ]
    refine wpAnyH_take (i := 6) (oi := { dst := some 37, op := Go.Op.load 31 (Go.Operand.tmp 5), type := 31, pos := "l11_rewriting.go:192", after := #[], guard := none }) (v := ?v6) rfl (by kernel_rfl) (by kernel_rfl) (by kernel_rfl) (fun _ _ _ h => h) (Or.inl ⟨by rfl, ?h6⟩) hHeld ?r6
    case h6 => (intro w hSw; (try dsimp only at hSw); go_simp; try with_reducible rfl)
    try simp only [Act.put, List.setIfInBounds_toArray, List.set_cons_zero, List.set_cons_succ]
    refine wpAnyH_take (i := 7) (oi := { dst := some 38, op := Go.Op.build 62 #[(0, Go.Operand.tmp 36), (1, Go.Operand.tmp 37)], type := 62, pos := "l11_rewriting.go:192", after := #[{ on := 5, ground := Go.Ground.data }, { on := 6, ground := Go.Ground.data }], guard := none }) (v := ?v7) rfl (by kernel_rfl) (by kernel_rfl) (by kernel_rfl) (fun _ _ _ h => h) (Or.inl ⟨by rfl, ?h7⟩) hHeld ?r7
    case h7 => (intro w hSw; (try dsimp only at hSw); go_simp; try with_reducible rfl)
    try simp only [Act.put, List.setIfInBounds_toArray, List.set_cons_zero, List.set_cons_succ]
    refine wpAnyH_ready (rs := [4, 8]) (by kernel_rfl) (by simp) ?_
    refine (AllReadyH.cons (o := { dst := some 35, op := Go.Op.load 26 (Go.Operand.tmp 34), type := 26, pos := "l11_rewriting.go:192", after := #[{ on := 3, ground := Go.Ground.data }], guard := none }) rfl (fun K hK => ?_) (AllReadyH.cons (o := { dst := some 39, op := Go.Op.buildSlice 26 1 #[(0, Go.Operand.tmp 38)], type := 26, pos := "l11_rewriting.go:192", after := #[{ on := 7, ground := Go.Ground.data }], guard := none }) rfl (fun K hK => ?_) AllReadyH.nil))
    · go_simp
      clear hHeld
      refine hK.out _ _ hS0 (fun hHeld => ?_)
      clear hK K
      try simp only [Act.put, List.setIfInBounds_toArray, List.set_cons_zero, List.set_cons_succ]
      refine wpAnyH_ready (rs := [8]) (by kernel_rfl) (by simp) ?_
      refine (AllReadyH.cons (o := { dst := some 39, op := Go.Op.buildSlice 26 1 #[(0, Go.Operand.tmp 38)], type := 26, pos := "l11_rewriting.go:192", after := #[{ on := 7, ground := Go.Ground.data }], guard := none }) rfl (fun K hK => ?_) AllReadyH.nil)
      go_simp
      clear hHeld
      refine hK.out _ _ hS1 (fun hHeld => ?_)
      clear hK K
      try simp only [Act.put, List.setIfInBounds_toArray, List.set_cons_zero, List.set_cons_succ]
      refine wpAnyH_ready (rs := [9]) (by kernel_rfl) (by simp) ?_
      refine (AllReadyH.cons (o := { dst := some 40, op := Go.Op.call { callee := Go.Callee.builtin Go.Builtin.append, args := #[Go.Operand.tmp 35, Go.Operand.tmp 39], argTypes := #[26, 26] }, type := 26, pos := "l11_rewriting.go:192", after := #[{ on := 4, ground := Go.Ground.data }, { on := 8, ground := Go.Ground.data }], guard := none }) rfl (fun K hK => ?_) AllReadyH.nil)
      (refine step_append_lies _ rfl (.tmp 35) (.tmp 39) 26 rfl B 62 i62 _ 5 80 Try.underlying26 hi62 hz0 hz1 hz2 rfl (by decide) _ bl.length (bcs bl sv bl.length) (by simp [Act.eval, Act.put]) HO5.out ⟨w2.heap.size, 0, none⟩ 1 1 [.string x, .string n0, .string x0, .bool l0, .slice y1 y2 y3] (by simp [Act.eval, Act.put]) rfl (World.news_of_block (cs := #[.string x, .string n0, .string x0, .bool l0, .slice y1 y2 y3]) (blk_alloc_new _ _)) (by intro y hy; simp at hy; rcases hy with rfl | rfl | rfl | rfl | rfl <;> rfl) (by decide) (by unfold maxLen; omega) (by omega) HZ5.out _ rfl ?_; intro g7 cap7 w7 hown7 hgr7 hat7 hlt7; obtain ⟨hS7, f7, f8, hS8, HE7⟩ := HUP.out g7 cap7 w7 hown7 hgr7 hat7; clear hown7 hgr7 hat7 hlt7 HUP HO5 HZ5)
      clear hHeld
      refine hK.out _ _ hS7 (fun hHeld => ?_)
      clear hK K
      try simp only [Act.put, List.setIfInBounds_toArray, List.set_cons_zero, List.set_cons_succ]
      refine wpAnyH_take (i := 10) (oi := { dst := some 41, op := Go.Op.nilCheck (Go.Operand.tmp 31), type := 0, pos := "l11_rewriting.go:192", after := #[{ on := 0, ground := Go.Ground.data }, { on := 0, ground := Go.Ground.phase }, { on := 1, ground := Go.Ground.phase }, { on := 2, ground := Go.Ground.phase }, { on := 3, ground := Go.Ground.phase }, { on := 4, ground := Go.Ground.phase }, { on := 5, ground := Go.Ground.phase }, { on := 6, ground := Go.Ground.phase }, { on := 7, ground := Go.Ground.phase }, { on := 8, ground := Go.Ground.phase }, { on := 9, ground := Go.Ground.phase }], guard := none }) (v := ?v8) rfl (by kernel_rfl) (by kernel_rfl) (by kernel_rfl) (fun _ _ _ h => h) (Or.inl ⟨by rfl, ?h8⟩) hHeld ?r8
      case h8 => (intro w hSw; (try dsimp only at hSw); go_simp; try with_reducible rfl)
      try simp only [Act.put, List.setIfInBounds_toArray, List.set_cons_zero, List.set_cons_succ]
      refine wpAnyH_take (i := 11) (oi := { dst := some 42, op := Go.Op.fieldAddr 67 (Go.Operand.tmp 41) 1, type := 0, pos := "l11_rewriting.go:192", after := #[{ on := 10, ground := Go.Ground.data }, { on := 0, ground := Go.Ground.phase }, { on := 1, ground := Go.Ground.phase }, { on := 2, ground := Go.Ground.phase }, { on := 3, ground := Go.Ground.phase }, { on := 4, ground := Go.Ground.phase }, { on := 5, ground := Go.Ground.phase }, { on := 6, ground := Go.Ground.phase }, { on := 7, ground := Go.Ground.phase }, { on := 8, ground := Go.Ground.phase }, { on := 9, ground := Go.Ground.phase }], guard := none }) (v := ?v9) rfl (by kernel_rfl) (by kernel_rfl) (by kernel_rfl) (fun _ _ _ h => h) (Or.inl ⟨by rfl, ?h9⟩) hHeld ?r9
      case h9 => (intro w hSw; (try dsimp only at hSw); go_simp; try with_reducible rfl)
      try simp only [Act.put, List.setIfInBounds_toArray, List.set_cons_zero, List.set_cons_succ]
      refine wpAnyH_ready (rs := [12]) (by kernel_rfl) (by simp) ?_
      refine (AllReadyH.cons (o := { dst := none, op := Go.Op.store 26 (Go.Operand.tmp 42) (Go.Operand.tmp 40), type := 0, pos := "l11_rewriting.go:192", after := #[{ on := 11, ground := Go.Ground.data }, { on := 9, ground := Go.Ground.data }, { on := 9, ground := Go.Ground.chain }, { on := 0, ground := Go.Ground.phase }, { on := 1, ground := Go.Ground.phase }, { on := 2, ground := Go.Ground.phase }, { on := 3, ground := Go.Ground.phase }, { on := 4, ground := Go.Ground.phase }, { on := 5, ground := Go.Ground.phase }, { on := 6, ground := Go.Ground.phase }, { on := 7, ground := Go.Ground.phase }, { on := 8, ground := Go.Ground.phase }, { on := 9, ground := Go.Ground.phase }], guard := none }) rfl (fun K hK => ?_) AllReadyH.nil)
      go_simp
      clear hHeld
      refine hK.out _ _ hS8 (fun hHeld => ?_)
      clear hK K
      try simp only [Act.put, List.setIfInBounds_toArray, List.set_cons_zero, List.set_cons_succ]
      refine wpAnyH_done (by kernel_rfl) ?_ _
      go_wp2_with fail
      go_ret
      exact HE7.out
    · go_simp
      clear hHeld
      refine hK.out _ _ hS1 (fun hHeld => ?_)
      clear hK K
      try simp only [Act.put, List.setIfInBounds_toArray, List.set_cons_zero, List.set_cons_succ]
      refine wpAnyH_ready (rs := [4]) (by kernel_rfl) (by simp) ?_
      refine (AllReadyH.cons (o := { dst := some 35, op := Go.Op.load 26 (Go.Operand.tmp 34), type := 26, pos := "l11_rewriting.go:192", after := #[{ on := 3, ground := Go.Ground.data }], guard := none }) rfl (fun K hK => ?_) AllReadyH.nil)
      go_simp
      clear hHeld
      refine hK.out _ _ hS1 (fun hHeld => ?_)
      clear hK K
      try simp only [Act.put, List.setIfInBounds_toArray, List.set_cons_zero, List.set_cons_succ]
      refine wpAnyH_ready (rs := [9]) (by kernel_rfl) (by simp) ?_
      refine (AllReadyH.cons (o := { dst := some 40, op := Go.Op.call { callee := Go.Callee.builtin Go.Builtin.append, args := #[Go.Operand.tmp 35, Go.Operand.tmp 39], argTypes := #[26, 26] }, type := 26, pos := "l11_rewriting.go:192", after := #[{ on := 4, ground := Go.Ground.data }, { on := 8, ground := Go.Ground.data }], guard := none }) rfl (fun K hK => ?_) AllReadyH.nil)
      (refine step_append_lies _ rfl (.tmp 35) (.tmp 39) 26 rfl B 62 i62 _ 5 80 Try.underlying26 hi62 hz0 hz1 hz2 rfl (by decide) _ bl.length (bcs bl sv bl.length) (by simp [Act.eval, Act.put]) HO5.out ⟨w2.heap.size, 0, none⟩ 1 1 [.string x, .string n0, .string x0, .bool l0, .slice y1 y2 y3] (by simp [Act.eval, Act.put]) rfl (World.news_of_block (cs := #[.string x, .string n0, .string x0, .bool l0, .slice y1 y2 y3]) (blk_alloc_new _ _)) (by intro y hy; simp at hy; rcases hy with rfl | rfl | rfl | rfl | rfl <;> rfl) (by decide) (by unfold maxLen; omega) (by omega) HZ5.out _ rfl ?_; intro g7 cap7 w7 hown7 hgr7 hat7 hlt7; obtain ⟨hS7, f7, f8, hS8, HE7⟩ := HUP.out g7 cap7 w7 hown7 hgr7 hat7; clear hown7 hgr7 hat7 hlt7 HUP HO5 HZ5)
      clear hHeld
      refine hK.out _ _ hS7 (fun hHeld => ?_)
      clear hK K
      try simp only [Act.put, List.setIfInBounds_toArray, List.set_cons_zero, List.set_cons_succ]
      refine wpAnyH_take (i := 10) (oi := { dst := some 41, op := Go.Op.nilCheck (Go.Operand.tmp 31), type := 0, pos := "l11_rewriting.go:192", after := #[{ on := 0, ground := Go.Ground.data }, { on := 0, ground := Go.Ground.phase }, { on := 1, ground := Go.Ground.phase }, { on := 2, ground := Go.Ground.phase }, { on := 3, ground := Go.Ground.phase }, { on := 4, ground := Go.Ground.phase }, { on := 5, ground := Go.Ground.phase }, { on := 6, ground := Go.Ground.phase }, { on := 7, ground := Go.Ground.phase }, { on := 8, ground := Go.Ground.phase }, { on := 9, ground := Go.Ground.phase }], guard := none }) (v := ?v10) rfl (by kernel_rfl) (by kernel_rfl) (by kernel_rfl) (fun _ _ _ h => h) (Or.inl ⟨by rfl, ?h10⟩) hHeld ?r10
      case h10 => (intro w hSw; (try dsimp only at hSw); go_simp; try with_reducible rfl)
      try simp only [Act.put, List.setIfInBounds_toArray, List.set_cons_zero, List.set_cons_succ]
      refine wpAnyH_take (i := 11) (oi := { dst := some 42, op := Go.Op.fieldAddr 67 (Go.Operand.tmp 41) 1, type := 0, pos := "l11_rewriting.go:192", after := #[{ on := 10, ground := Go.Ground.data }, { on := 0, ground := Go.Ground.phase }, { on := 1, ground := Go.Ground.phase }, { on := 2, ground := Go.Ground.phase }, { on := 3, ground := Go.Ground.phase }, { on := 4, ground := Go.Ground.phase }, { on := 5, ground := Go.Ground.phase }, { on := 6, ground := Go.Ground.phase }, { on := 7, ground := Go.Ground.phase }, { on := 8, ground := Go.Ground.phase }, { on := 9, ground := Go.Ground.phase }], guard := none }) (v := ?v11) rfl (by kernel_rfl) (by kernel_rfl) (by kernel_rfl) (fun _ _ _ h => h) (Or.inl ⟨by rfl, ?h11⟩) hHeld ?r11
      case h11 => (intro w hSw; (try dsimp only at hSw); go_simp; try with_reducible rfl)
      try simp only [Act.put, List.setIfInBounds_toArray, List.set_cons_zero, List.set_cons_succ]
      refine wpAnyH_ready (rs := [12]) (by kernel_rfl) (by simp) ?_
      refine (AllReadyH.cons (o := { dst := none, op := Go.Op.store 26 (Go.Operand.tmp 42) (Go.Operand.tmp 40), type := 0, pos := "l11_rewriting.go:192", after := #[{ on := 11, ground := Go.Ground.data }, { on := 9, ground := Go.Ground.data }, { on := 9, ground := Go.Ground.chain }, { on := 0, ground := Go.Ground.phase }, { on := 1, ground := Go.Ground.phase }, { on := 2, ground := Go.Ground.phase }, { on := 3, ground := Go.Ground.phase }, { on := 4, ground := Go.Ground.phase }, { on := 5, ground := Go.Ground.phase }, { on := 6, ground := Go.Ground.phase }, { on := 7, ground := Go.Ground.phase }, { on := 8, ground := Go.Ground.phase }, { on := 9, ground := Go.Ground.phase }], guard := none }) rfl (fun K hK => ?_) AllReadyH.nil)
      go_simp
      clear hHeld
      refine hK.out _ _ hS8 (fun hHeld => ?_)
      clear hK K
      try simp only [Act.put, List.setIfInBounds_toArray, List.set_cons_zero, List.set_cons_succ]
      refine wpAnyH_done (by kernel_rfl) ?_ _
      go_wp2_with fail
      go_ret
      exact HE7.out
end Go.Proofs.Yteomgkcgjkbppaa
