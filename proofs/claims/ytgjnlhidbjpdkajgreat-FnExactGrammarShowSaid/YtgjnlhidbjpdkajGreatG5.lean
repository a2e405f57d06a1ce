import Derived.Test.YtgjnlhidbjpdkajGreatG4
/-! The walk through the parts: the program. -/
namespace Go.Proofs.YtgjnlhidbjpdkajGreat
open Go.RowKit Go.Deep
set_option linter.unusedVariables false
set_option maxRecDepth 100000
set_option linter.unusedSimpArgs false

/-- All blocks that were there, but g, are as they were. -/
structure Bt (g : Nat) (w w' : World) : Prop where
  os : w'.os = w.os
  tape : w'.tape = w.tape
  output : w'.output = w.output
  size : w.heap.size ≤ w'.heap.size
  block : ∀ k, k < w.heap.size → k ≠ g → w'.heap[k]? = w.heap[k]?
theorem Bt.refl (g : Nat) (w : World) : Bt g w w := ⟨rfl, rfl, rfl, Nat.le_refl _, fun _ _ _ => rfl⟩
theorem Bt.trans {g : Nat} {a b c : World} (h : Bt g a b) (k : Bt g b c) : Bt g a c :=
  ⟨k.os.trans h.os, k.tape.trans h.tape, k.output.trans h.output, Nat.le_trans h.size k.size, fun q hq hr => (k.block q (Nat.lt_of_lt_of_le hq h.size) hr).trans (h.block q hq hr)⟩
theorem Bt.of_below {g : Nat} {a b : World} (h : Below a.heap.size a b) : Bt g a b := ⟨h.os, h.tape, h.output, h.size, fun k hk _ => h.block k hk⟩
theorem Bt.set {g o : Nat} (w : World) (u : Value) : Bt g w (w.setCell ⟨g, o, none⟩ u) := ⟨rfl, rfl, rfl, by simp [World.setCell], fun k _ hr => blk_setCell_other _ _ _ _ (by exact hr)⟩
theorem Bt.below {g : Nat} {a b : World} {B : Nat} (h : Bt g a b) (hg : B ≤ g) (hB : B ≤ a.heap.size) : Below B a b := ⟨h.os, h.tape, h.output, h.size, fun k hk => h.block k (by omega) (by omega)⟩

/-- Part by part; rec: what is within a part. -/
def altsL (rec : List Int → Int → Nat → Option Nat) : List (List Int) → Int → Nat → Option Nat
  | [], _, e => some e
  | a :: r, x, e => match rec a x e with
    | none => none
    | some e' => altsL rec r x e'
def dfl : DPart := ⟨0, ByteArray.empty, []⟩
def thrL (parts : List DPart) (rec : List Int → Int → Nat → Option Nat) : List Int → Int → Nat → Option Nat
  | [], _, e => some e
  | x :: r, bw, e => if x < e ∨ bw ≤ x then none else match altsL rec (parts.getD x.toNat dfl).alts x e with
    | none => none
    | some e' => if x = e' then thrL parts rec r bw (e' + 1) else none
def thr (parts : List DPart) : Nat → List Int → Int → Nat → Option Nat
  | 0 => thrL parts fun _ _ _ => none
  | f + 1 => thrL parts (thr parts f)
theorem altsL_end {rec : List Int → Int → Nat → Option Nat} {l : List (List Int)} {x : Int} {k e : Nat} (h : l.length ≤ k) : altsL rec (l.drop k) x e = some e := by
  rw [List.drop_eq_nil_of_le h, altsL]
theorem altsL_none {rec : List Int → Int → Nat → Option Nat} {l : List (List Int)} {x : Int} {k e : Nat} (h : k < l.length) (hr : rec l[k] x e = none) : altsL rec (l.drop k) x e = none := by
  rw [List.drop_eq_getElem_cons h, altsL, hr]
theorem altsL_some {rec : List Int → Int → Nat → Option Nat} {l : List (List Int)} {x : Int} {k e e' : Nat} (h : k < l.length) (hr : rec l[k] x e = some e') : altsL rec (l.drop k) x e = altsL rec (l.drop (k + 1)) x e' := by
  rw [List.drop_eq_getElem_cons h, altsL, hr]
theorem thrL_end {parts : List DPart} {rec : List Int → Int → Nat → Option Nat} {l : List Int} {b : Int} {k e : Nat} (h : l.length ≤ k) : thrL parts rec (l.drop k) b e = some e := by
  rw [List.drop_eq_nil_of_le h, thrL]
theorem thrL_out {parts : List DPart} {rec : List Int → Int → Nat → Option Nat} {l : List Int} {b : Int} {k e : Nat} (h : k < l.length) (hx : l[k] < e ∨ b ≤ l[k]) : thrL parts rec (l.drop k) b e = none := by
  rw [List.drop_eq_getElem_cons h, thrL, if_pos hx]
theorem thrL_none {parts : List DPart} {rec : List Int → Int → Nat → Option Nat} {l : List Int} {b : Int} {k e : Nat} (h : k < l.length) (hx : ¬ (l[k] < e ∨ b ≤ l[k])) (ha : altsL rec (parts.getD l[k].toNat dfl).alts l[k] e = none) : thrL parts rec (l.drop k) b e = none := by
  rw [List.drop_eq_getElem_cons h, thrL, if_neg hx, ha]
theorem thrL_ne {parts : List DPart} {rec : List Int → Int → Nat → Option Nat} {l : List Int} {b : Int} {k e e' : Nat} (h : k < l.length) (hx : ¬ (l[k] < e ∨ b ≤ l[k])) (ha : altsL rec (parts.getD l[k].toNat dfl).alts l[k] e = some e') (hn : ¬ l[k] = e') : thrL parts rec (l.drop k) b e = none := by
  rw [List.drop_eq_getElem_cons h, thrL, if_neg hx, ha]
  simp only [if_neg hn]
theorem thrL_some {parts : List DPart} {rec : List Int → Int → Nat → Option Nat} {l : List Int} {b : Int} {k e e' : Nat} (h : k < l.length) (hx : ¬ (l[k] < e ∨ b ≤ l[k])) (ha : altsL rec (parts.getD l[k].toNat dfl).alts l[k] e = some e') (hn : l[k] = e') : thrL parts rec (l.drop k) b e = thrL parts rec (l.drop (k + 1)) b (e' + 1) := by
  rw [List.drop_eq_getElem_cons h, thrL, if_neg hx, ha]
  simp only [if_pos hn]

/-- What is answered of a walk. -/
def ThrA (R : Option Nat) (g : Nat) (vp : Value) (e : Ending) (w' : World) : Prop :=
  (∃ e' : Nat, R = some e' ∧ e = .returned (.bool true) ∧ Box w' g 125 [vp, .int .i64 e']) ∨ (R = none ∧ e = .returned (.bool false) ∧ ∃ z : Nat, Box w' g 125 [vp, .int .i64 z])
set_option maxHeartbeats 3200000 in
theorem through_step {S : Nat → Prop} (parts : List DPart) (rec : List Int → Int → Nat → Option Nat) (vp : Value) (g : Nat) (below : Int) (hS : ∀ b, S b → b ≠ g) (hpl : parts.length ≤ 200) (hbl : below ≤ parts.length)
    (HR : ∀ (l : List Int) (v : Value) (b' : Int) (e : Nat) (w : World), 0 ≤ b' → b' < below → Ints w S l v → PartR w S parts vp → Box w g 125 [vp, .int .i64 e] → e ≤ 200 → Calls Tryz.prog 84 #[.pointer (some ⟨g, 0, none⟩), v, .int .i64 b'] w fun en w' => ThrA (rec l b' e) g vp en w' ∧ Bt g w w' ∧ ∀ e', rec l b' e = some e' → e' ≤ 200)
    (items : List Int) (v : Value) (e : Nat) (w : World) (hI : Ints w S items v) (hP : PartR w S parts vp) (hB : Box w g 125 [vp, .int .i64 e]) (he : e ≤ 200) :
    Calls Tryz.prog 84 #[.pointer (some ⟨g, 0, none⟩), v, .int .i64 below] w fun en w' => ThrA (thrL parts rec items below e) g vp en w' ∧ Bt g w w' ∧ ∀ e', thrL parts rec items below e = some e' → e' ≤ 200 := by
  have HRR := (show Hid _ from HR); clear HR
  have HPP := (show Hid _ from hP)
  have HII := (show Hid _ from hI)
  obtain ⟨a, cap, b, off, rfl, hc, hm, ha, hcell⟩ := hI
  have HC := (show Hid _ from hcell); clear hcell
  have HA := (show Hid _ from ha); clear ha
  obtain ⟨ap, cp, bp, op, s2, rfl, hcp, hmp, hap, hcellp, rp⟩ := hP
  have HCP := (show Hid _ from hcellp); clear hcellp
  have HAP := (show Hid _ from hap); clear hap
  have HRP := (show Hid _ from rp); clear rp
  have HSS := (show Hid _ from hS); clear hS
  have HB0 := (show Hid _ from hB); clear hB
  unfold maxLen at hm hmp
  generalize hR : thrL parts rec items below e = R
  have HRes := (show Hid _ from hR); clear hR
  go_enter Tryz.func84, Tryz.ntmps84
  go_wp2_with fail
  go_loopw [13] (fun i wr => ∃ (j e1 : Nat), i = .int .i64 j ∧ j ≤ items.length ∧ e1 ≤ 200 ∧ Hid (Bt g w wr ∧ Box wr g 125 [.slice ap parts.length cp, .int .i64 e1] ∧ thrL parts rec (items.drop j) below e1 = R)) (fun i _ => items.length - (intOf i).toNat)
  case atStart => exact ⟨0, e, rfl, Nat.zero_le _, he, Bt.refl _ _, HB0.out, by rw [List.drop_zero]; exact HRes.out⟩
  case round =>
    obtain ⟨j, e1, rfl, hj, he1, HX⟩ := hrel
    by_cases hjl : j < items.length
    · have hjl' := hjl
      obtain ⟨rfl, hSb⟩ := HA.out (by omega)
      have c0 := HC.out j hjl'
      have hkb : wr.heap[b]? = w.heap[b]? := HX.out.1.block b (lt_of_cell c0) (HSS.out b hSb)
      rw [← World.cell?_of_block (w := w) hkb] at c0
      have x0 : wr.cell? ⟨g, 0, none⟩ = some (.slice ap parts.length cp) := HX.out.2.1.cell 0 (by simp)
      have x1 : wr.cell? ⟨g, 1, none⟩ = some (.int .i64 e1) := HX.out.2.1.cell 1 (by simp)
      clear hkb hSb
      by_cases h1 : items[j] < e1
      · have HE : Hid (R = none) := HX.out.2.2.symm.trans (thrL_out hjl' (.inl h1))
        generalize items[j] = x at *
        go_wp2_with fail
        go_ret
        exact ⟨.inr ⟨HE.out, rfl, e1, HX.out.2.1⟩, HX.out.1, fun e' h => by rw [HE.out] at h; cases h⟩
      · by_cases h2 : below ≤ items[j]
        · have HE : Hid (R = none) := HX.out.2.2.symm.trans (thrL_out hjl' (.inr h2))
          generalize items[j] = x at *
          go_wp2_with fail
          go_ret
          exact ⟨.inr ⟨HE.out, rfl, e1, HX.out.2.1⟩, HX.out.1, fun e' h => by rw [HE.out] at h; cases h⟩
        · have hx : ¬ (items[j] < e1 ∨ below ≤ items[j]) := by omega
          have HT0 : Hid (∀ e', altsL rec (parts.getD items[j].toNat dfl).alts items[j] e1 = some e' → (¬ items[j] = e' → R = none) ∧ (items[j] = e' → thrL parts rec (items.drop (j + 1)) below (e' + 1) = R)) := fun e' h => ⟨fun hn => HX.out.2.2.symm.trans (thrL_ne hjl' hx h hn), fun hn => (thrL_some hjl' hx h hn).symm.trans HX.out.2.2⟩
          have HTN : Hid (altsL rec (parts.getD items[j].toNat dfl).alts items[j] e1 = none → R = none) := fun h => HX.out.2.2.symm.trans (thrL_none hjl' hx h)
          have HXb := (show Hid _ from (⟨HX.out.1, HX.out.2.1⟩ : Bt g w wr ∧ Box wr g 125 [.slice ap parts.length cp, .int .i64 e1]))
          clear hx HX
          generalize items[j] = x at *
          obtain ⟨n, rfl⟩ : ∃ n : Nat, x = n := ⟨x.toNat, by omega⟩
          have hnl : n < parts.length := by omega
          simp only [Int.toNat_natCast] at HT0 HTN
          rw [getD_lt _ _ hnl] at HT0 HTN
          obtain ⟨rfl, hSp⟩ := HAP.out (by omega)
          obtain ⟨d0, d1, d2, _⟩ := HCP.out n hnl
          have hkp : wr.heap[bp]? = w.heap[bp]? := HXb.out.1.block bp (lt_of_cell d0) (HSS.out bp hSp)
          rw [← World.cell?_of_block (w := w) hkp] at d2
          have hIR := HRP.out n hnl
          have HIR := (show Hid _ from hIR)
          obtain ⟨a4, c4, b4, o4, s0, e4, hc4, hm4, ha4, hcell4, r4⟩ := hIR
          rw [e4] at d2
          have HC4 := (show Hid _ from hcell4); clear hcell4
          have HA4 := (show Hid _ from ha4); clear ha4
          have HR4 := (show Hid _ from r4); clear r4
          clear e4 d0 d1 hkp hSp
          generalize parts[n].alts = AL at *
          unfold maxLen at hm4
          go_wp2_with fail
          clear x0 x1 d2 c0
          go_loopw [37] (fun i wq => ∃ (k e2 : Nat), i = .int .i64 k ∧ k ≤ AL.length ∧ e2 ≤ 200 ∧ Hid (Bt g w wq ∧ Box wq g 125 [.slice (some ⟨bp, op, none⟩) parts.length cp, .int .i64 e2] ∧ altsL rec (AL.drop k) n e2 = altsL rec AL n e1)) (fun i _ => AL.length - (intOf i).toNat)
          case atStart => exact ⟨0, e1, rfl, Nat.zero_le _, he1, HXb.out.1, HXb.out.2, by rw [List.drop_zero]⟩
          case round =>
            clear HXb
            obtain ⟨k, e2, rfl, hk, he2, HX⟩ := hrel
            by_cases hkl : k < AL.length
            · have hkl' := hkl
              obtain ⟨rfl, hS4⟩ := HA4.out (by omega)
              have f0 := HC4.out k hkl'
              have hk4 : wr.heap[b4]? = w.heap[b4]? := HX.out.1.block b4 (lt_of_cell f0) (HSS.out b4 hS4)
              rw [← World.cell?_of_block (w := w) hk4] at f0
              have hcl := HRR.out AL[k] (s0 k) n e2 wr (by omega) (by omega) ((HR4.out k hkl').keep (fun b hb hlt => HX.out.1.block b hlt (HSS.out b hb))) (PartR.keep HPP.out (fun b hb hlt => HX.out.1.block b hlt (HSS.out b hb))) HX.out.2.1 he2
              obtain ⟨a5, c5, e5, _⟩ := (HR4.out k hkl').form
              rw [e5] at f0 hcl
              have HCL := (show Hid _ from hcl); clear hcl e5 hk4 hS4
              go_wp2_with fail
              refine Calls.mono HCL.out ?_
              rintro en w1 ⟨⟨e3, hr3, rfl, hb3⟩ | ⟨hr3, rfl, z, hb3⟩, ht3, hl3⟩
              · have HN := (show Hid (Bt g w w1 ∧ Box w1 g 125 [.slice (some ⟨bp, op, none⟩) parts.length cp, .int .i64 e3] ∧ altsL rec (AL.drop (k + 1)) n e3 = altsL rec AL n e1) from ⟨HX.out.1.trans ht3, hb3, (altsL_some hkl' hr3).symm.trans HX.out.2.2⟩)
                have he3 := hl3 e3 hr3
                clear hr3 hb3 ht3 hl3 f0
                go_wp2_with fail
                exact ⟨⟨k + 1, e3, by go_num, by omega, he3, HN⟩, by simp [intOf]; omega⟩
              · have HN := (show Hid _ from (⟨HX.out.1.trans ht3, hb3, HTN.out (HX.out.2.2.symm.trans (altsL_none hkl' hr3))⟩ : Bt g w w1 ∧ _ ∧ R = none))
                clear hr3 hb3 ht3 hl3 f0
                go_wp2_with fail
                go_ret
                exact ⟨.inr ⟨HN.out.2.2, rfl, z, HN.out.2.1⟩, HN.out.1, fun e' h => by rw [HN.out.2.2] at h; cases h⟩
            · have hae : altsL rec AL n e1 = some e2 := HX.out.2.2.symm.trans (altsL_end (by omega))
              have HT := (show Hid _ from HT0.out e2 hae)
              have x1 : wr.cell? ⟨g, 1, none⟩ = some (.int .i64 e2) := HX.out.2.1.cell 1 (by simp)
              have z1 := HX.out.2.1.frozen 1
              clear hae
              by_cases hne : n = e2
              · subst hne
                have HN := (show Hid (Bt g w (wr.setCell ⟨g, 1, none⟩ (.int .i64 ((n : Int) + 1))) ∧ Box (wr.setCell ⟨g, 1, none⟩ (.int .i64 ((n : Int) + 1))) g 125 [.slice (some ⟨bp, op, none⟩) parts.length cp, .int .i64 ((n + 1 : Nat) : Int)] ∧ thrL parts rec (items.drop (j + 1)) below (n + 1) = R) from ⟨HX.out.1.trans (Bt.set _ _), HX.out.2.1.set 1 _, HT.out.2 rfl⟩)
                have hnn : ((n : Int) != n) = false := by simp
                have hn200 : n + 1 ≤ 200 := by omega
                go_wp2_with fail
                exact ⟨⟨j + 1, n + 1, by go_num, by omega, hn200, HN⟩, by simp [intOf]; omega⟩
              · have HN := (show Hid (R = none) from HT.out.1 (by omega))
                have hnn : ((n : Int) != e2) = true := by simp; omega
                go_wp2_with fail
                go_ret
                exact ⟨.inr ⟨HN.out, rfl, e2, HX.out.2.1⟩, HX.out.1, fun e' h => by rw [HN.out] at h; cases h⟩
    · have HE : Hid (some e1 = R) := (thrL_end (by omega)).symm.trans HX.out.2.2
      go_wp2_with fail
      go_ret
      exact ⟨.inl ⟨e1, HE.out.symm, rfl, HX.out.2.1⟩, HX.out.1, fun e' h => by rw [← HE.out] at h; cases h; exact he1⟩
/-- The walk, whole. -/
theorem through_any {S : Nat → Prop} (parts : List DPart) (vp : Value) (g : Nat) (hS : ∀ b, S b → b ≠ g) (hpl : parts.length ≤ 200) : ∀ (f : Nat) (items : List Int) (v : Value) (below : Int) (e : Nat) (w : World), below ≤ f → below ≤ parts.length → Ints w S items v → PartR w S parts vp → Box w g 125 [vp, .int .i64 e] → e ≤ 200 →
    Calls Tryz.prog 84 #[.pointer (some ⟨g, 0, none⟩), v, .int .i64 below] w fun en w' => ThrA (thr parts f items below e) g vp en w' ∧ Bt g w w' ∧ ∀ e', thr parts f items below e = some e' → e' ≤ 200 := by
  intro f
  induction f with
  | zero =>
    intro items v below e w hf hb hI hP hB he
    exact through_step parts _ vp g below hS hpl hb (fun l v b' e w h1 h2 => absurd h2 (by omega)) items v e w hI hP hB he
  | succ f ih =>
    intro items v below e w hf hb hI hP hB he
    exact through_step parts (thr parts f) vp g below hS hpl hb (fun l v b' e w h1 h2 hI hP hB he => ih l v b' e w (by omega) (by omega) hI hP hB he) items v e w hI hP hB he
end Go.Proofs.YtgjnlhidbjpdkajGreat
