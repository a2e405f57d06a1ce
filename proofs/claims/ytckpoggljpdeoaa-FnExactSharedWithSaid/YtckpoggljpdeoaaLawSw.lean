import Derived.Test.YtckpoggljpdeoaaSi
import Derived.Test.YtckpoggljpdeoaaEq
import Derived.Test.YtckpoggljpdeoaaSz
/-! The law FnExactSharedWith, walked. -/
namespace Go.Proofs.Ytckpoggljpdeoaa
open Go.RowKit Go.Deep
set_option linter.unusedVariables false
set_option maxRecDepth 100000
set_option linter.unusedSimpArgs false

theorem Lies.any {w : World} {S : Nat → Prop} {t : Tr} {v : Value} (h : Lies w S t v) : Lies w (fun _ => True) t v :=
  Lies.carry (S' := fun _ => True) (fun b _ _ => trivial) (fun b o _ _ => rfl) (fun b o v h => lt_of_cell h) h
/-- Eight cells. -/
def E8 (p q : Nat) (an ax : ByteArray) (af : Bool) (va : Value) (bn bx : ByteArray) (bf : Bool) (vb : Value) (wq : World) : Prop :=
  (wq.cell? ⟨p, 0, none⟩ = some (.string an) ∧ wq.cell? ⟨p, 1, none⟩ = some (.string ax) ∧ wq.cell? ⟨p, 2, none⟩ = some (.bool af) ∧ wq.cell? ⟨p, 3, none⟩ = some va) ∧ wq.cell? ⟨q, 0, none⟩ = some (.string bn) ∧ wq.cell? ⟨q, 1, none⟩ = some (.string bx) ∧ wq.cell? ⟨q, 2, none⟩ = some (.bool bf) ∧ wq.cell? ⟨q, 3, none⟩ = some vb
theorem E8.of {p q T T' : Nat} {an ax : ByteArray} {af : Bool} {va : Value} {bn bx : ByteArray} {bf : Bool} {vb : Value} {wq : World} (h : Box wq p T [.string an, .string ax, .bool af, va]) (h' : Box wq q T' [.string bn, .string bx, .bool bf, vb]) : E8 p q an ax af va bn bx bf vb wq :=
  ⟨⟨h.cell 0 (by simp), h.cell 1 (by simp), h.cell 2 (by simp), h.cell 3 (by simp)⟩, h'.cell 0 (by simp), h'.cell 1 (by simp), h'.cell 2 (by simp), h'.cell 3 (by simp)⟩
set_option maxHeartbeats 12800000 in
theorem lawSw {S S' : Nat → Prop} (a b : Tr) (va vb : Value) (w : World) (ha : Lies w S a va) (hb : Lies w S' b vb) :
    Calls Try.prog 6 #[a.val va, b.val vb] w fun e w' => e = .returned (.bool true) ∧ Below w.heap.size w w' := by
  have hbb : Below w.heap.size w ((w.alloc (.cells #[.string a.name, .string a.text, .bool a.leaf, va] 54)).alloc (.cells #[.string b.name, .string b.text, .bool b.leaf, vb] 54)) := (bel_alloc _ _).alloc (by simp) _
  have B1 := (Box.new w 54 [.string a.name, .string a.text, .bool a.leaf, va]).still (bel_alloc _ (.cells #[.string b.name, .string b.text, .bool b.leaf, vb] 54))
  have B2 : Box ((w.alloc (.cells #[.string a.name, .string a.text, .bool a.leaf, va] 54)).alloc (.cells #[.string b.name, .string b.text, .bool b.leaf, vb] 54)) (w.heap.size + 1) 54 [.string b.name, .string b.text, .bool b.leaf, vb] := by
    have := Box.new (w.alloc (.cells #[.string a.name, .string a.text, .bool a.leaf, va] 54)) 54 [.string b.name, .string b.text, .bool b.leaf, vb]
    simpa using this
  have HZA : Hid (∀ wq, Below w.heap.size w wq → Calls Try.prog 25 #[.agg #[.string a.name, .string a.text, .bool a.leaf, va], .int .i64 1048576] wq fun e w' => e = .returned (.int .i64 (szR a.wt 1048576)) ∧ Below wq.heap.size wq w') := fun wq h => sz_any a va wq 1048576 (ha.still h) (by omega) (Int.le_refl _)
  have HZB : Hid (∀ wq (left : Int), Below w.heap.size w wq → 0 ≤ left → left ≤ 1048576 → Calls Try.prog 25 #[.agg #[.string b.name, .string b.text, .bool b.leaf, vb], .int .i64 left] wq fun e w' => e = .returned (.int .i64 (szR b.wt left)) ∧ Below wq.heap.size wq w') := fun wq left h h0 h1 => sz_any b vb wq left (hb.still h) h0 h1
  have HTA : Hid (∀ wq, Below w.heap.size w wq → a.wt ≤ 1048576 → Calls Try.prog 27 #[.agg #[.string a.name, .string a.text, .bool a.leaf, va]] wq fun e w' => ∃ v', e = .returned (.agg #[.string a.name, .string a.text, .bool a.leaf, v']) ∧ Below wq.heap.size wq w' ∧ Lies w' (fun b => wq.heap.size ≤ b) a v') := fun wq h hs => to_any a va wq (ha.still h) hs
  have HTB : Hid (∀ wq, Below w.heap.size w wq → b.wt ≤ 1048576 → Calls Try.prog 27 #[.agg #[.string b.name, .string b.text, .bool b.leaf, vb]] wq fun e w' => ∃ v', e = .returned (.agg #[.string b.name, .string b.text, .bool b.leaf, v']) ∧ Below wq.heap.size wq w' ∧ Lies w' (fun q => wq.heap.size ≤ q) b v') := fun wq h hs => to_any b vb wq (hb.still h) hs
  have HSP : Hid (∀ (wq : World) (S1 S2 : Nat → Prop) (v1 v2 : Value), Lies wq S1 a v1 → Lies wq S2 b v2 → Calls Try.prog 26 #[.agg #[.string a.name, .string a.text, .bool a.leaf, v1], .agg #[.string b.name, .string b.text, .bool b.leaf, v2]] wq fun e w' => e = .returned (.tuple #[.int .i64 (swN a b : Nat), .int .i64 (swC a b)]) ∧ Below wq.heap.size wq w') := fun wq S1 S2 v1 v2 h1 h2 => sShared a b v1 v2 wq h1 h2
  have HIM : Hid (∀ (wq : World) (S1 S2 : Nat → Prop) (v1 v2 : Value), Lies wq S1 a v1 → Lies wq S2 b v2 → Calls Try.prog 28 #[.agg #[.string a.name, .string a.text, .bool a.leaf, v1], .agg #[.string b.name, .string b.text, .bool b.leaf, v2]] wq fun e w' => e = .returned (.tuple #[.int .i64 (swN a b : Nat), .int .i64 (swC a b)]) ∧ Below wq.heap.size wq w') := fun wq S1 S2 v1 v2 h1 h2 => iShared a b v1 v2 wq h1 h2
  have HEA : Hid (∀ (wq : World) (S1 S2 : Nat → Prop) (v1 v2 : Value), Lies wq S1 a v1 → Lies wq S2 a v2 → Calls Try.prog 29 #[.agg #[.string a.name, .string a.text, .bool a.leaf, v1], .agg #[.string a.name, .string a.text, .bool a.leaf, v2]] wq fun e w' => e = .returned (.bool true) ∧ Below wq.heap.size wq w') := fun wq S1 S2 v1 v2 h1 h2 => eq_any a v1 v2 wq h1 h2
  have HEB : Hid (∀ (wq : World) (S1 S2 : Nat → Prop) (v1 v2 : Value), Lies wq S1 b v1 → Lies wq S2 b v2 → Calls Try.prog 29 #[.agg #[.string b.name, .string b.text, .bool b.leaf, v1], .agg #[.string b.name, .string b.text, .bool b.leaf, v2]] wq fun e w' => e = .returned (.bool true) ∧ Below wq.heap.size wq w') := fun wq S1 S2 v1 v2 h1 h2 => eq_any b v1 v2 wq h1 h2
  obtain ⟨aa, al, ap, rfl⟩ := ha.form
  obtain ⟨ba, bl, bp, rfl⟩ := hb.form
  clear ha hb
  have HX := (show Hid _ from (⟨hbb, B1, B2⟩ : _ ∧ _ ∧ _)); clear hbb B1 B2
  simp only [Tr.val]
  generalize a.name = an at *
  generalize a.text = ax at *
  generalize a.leaf = af at *
  generalize b.name = bn at *
  generalize b.text = bx at *
  generalize b.leaf = bf at *
  generalize hswn : swN a b = N at *
  generalize hswc : swC a b = C at *
  clear hswn hswc
  have C1 : Hid (Calls Try.prog 25 #[.agg #[.string an, .string ax, .bool af, .slice aa al ap], .int .i64 1048576] ((w.alloc (.cells #[.string an, .string ax, .bool af, .slice aa al ap] 54)).alloc (.cells #[.string bn, .string bx, .bool bf, .slice ba bl bp] 54)) fun e w' => e = .returned (.int .i64 (szR a.wt 1048576)) ∧ Below ((w.alloc (.cells #[.string an, .string ax, .bool af, .slice aa al ap] 54)).alloc (.cells #[.string bn, .string bx, .bool bf, .slice ba bl bp] 54)).heap.size ((w.alloc (.cells #[.string an, .string ax, .bool af, .slice aa al ap] 54)).alloc (.cells #[.string bn, .string bx, .bool bf, .slice ba bl bp] 54)) w') := HZA.out _ HX.out.1
  by_cases hwa : (a.wt : Int) ≤ 1048576
  case neg =>
    rw [szR_no (by omega)] at C1
    clear HZA HZB HTA HTB HSP HIM HEA HEB hwa
    go_enter Try.func6, Try.ntmps6
    go_wp2_with fail
    refine Calls.mono C1.out ?_
    rintro e w1 ⟨rfl, hb1⟩
    have HE := (show Hid _ from bel_trans HX.out.1 hb1); clear hb1
    go_wp2_with fail
    go_ret
    exact ⟨rfl, HE.out⟩
  rw [szR_yes hwa] at C1
  generalize hlf : (1048576 : Int) - (a.wt : Int) = lf at *
  have hlf0 : 0 ≤ lf := by omega
  have hlf1 : lf ≤ 1048576 := by omega
  have hlfd : decide (lf < 0) = false := by simp; omega
  have HWA := (show Hid (a.wt ≤ 1048576) from (by show _ ≤ _; omega)); clear hwa hlf HZA
  go_enter Try.func6, Try.ntmps6
  go_wp2_with fail
  refine Calls.mono C1.out ?_
  rintro e w1 ⟨rfl, hb1⟩
  have H1 := (show Hid (Below w.heap.size w w1 ∧ Box w1 w.heap.size 54 [.string an, .string ax, .bool af, .slice aa al ap] ∧ Box w1 (w.heap.size + 1) 54 [.string bn, .string bx, .bool bf, .slice ba bl bp]) from ⟨bel_trans HX.out.1 hb1, HX.out.2.1.still hb1, HX.out.2.2.still hb1⟩)
  clear hb1 HX C1
  have s0 : w1.cell? ⟨w.heap.size + 1, 0, none⟩ = some (.string bn) := H1.out.2.2.cell 0 (by simp)
  have s1 : w1.cell? ⟨w.heap.size + 1, 1, none⟩ = some (.string bx) := H1.out.2.2.cell 1 (by simp)
  have s2 : w1.cell? ⟨w.heap.size + 1, 2, none⟩ = some (.bool bf) := H1.out.2.2.cell 2 (by simp)
  have s3 : w1.cell? ⟨w.heap.size + 1, 3, none⟩ = some (.slice ba bl bp) := H1.out.2.2.cell 3 (by simp)
  have C2 : Hid (Calls Try.prog 25 #[.agg #[.string bn, .string bx, .bool bf, .slice ba bl bp], .int .i64 lf] w1 fun e w' => e = .returned (.int .i64 (szR b.wt lf)) ∧ Below w1.heap.size w1 w') := HZB.out _ lf H1.out.1 hlf0 hlf1
  by_cases hwb : (b.wt : Int) ≤ lf
  case neg =>
    rw [szR_no (by omega)] at C2
    clear HZB HTA HTB HSP HIM HEA HEB hwb
    go_wp2_with fail
    refine Calls.mono C2.out ?_
    rintro e w2 ⟨rfl, hb2⟩
    have HE := (show Hid _ from bel_trans H1.out.1 hb2); clear hb2
    go_wp2_with fail
    go_ret
    exact ⟨rfl, HE.out⟩
  rw [szR_yes hwb] at C2
  generalize hlg : lf - (b.wt : Int) = lg at *
  have hlgd : decide (lg < 0) = false := by simp; omega
  have HWB := (show Hid (b.wt ≤ 1048576) from (by show _ ≤ _; omega)); clear hwb hlg HZB
  have HUA : Hid (∀ wq, Below w.heap.size w wq → Calls Try.prog 27 #[.agg #[.string an, .string ax, .bool af, .slice aa al ap]] wq fun e w' => ∃ v', e = .returned (.agg #[.string an, .string ax, .bool af, v']) ∧ Below wq.heap.size wq w' ∧ Lies w' (fun b => wq.heap.size ≤ b) a v') := fun wq h => HTA.out wq h HWA.out
  have HUB : Hid (∀ wq, Below w.heap.size w wq → Calls Try.prog 27 #[.agg #[.string bn, .string bx, .bool bf, .slice ba bl bp]] wq fun e w' => ∃ v', e = .returned (.agg #[.string bn, .string bx, .bool bf, v']) ∧ Below wq.heap.size wq w' ∧ Lies w' (fun q => wq.heap.size ≤ q) b v') := fun wq h => HTB.out wq h HWB.out
  clear HTA HTB
  go_wp2_with fail
  refine Calls.mono C2.out ?_
  rintro e w2 ⟨rfl, hb2⟩
  have H2 := (show Hid (Below w.heap.size w w2 ∧ Box w2 w.heap.size 54 [.string an, .string ax, .bool af, .slice aa al ap] ∧ Box w2 (w.heap.size + 1) 54 [.string bn, .string bx, .bool bf, .slice ba bl bp]) from ⟨bel_trans H1.out.1 hb2, H1.out.2.1.still hb2, H1.out.2.2.still hb2⟩)
  clear hb2 H1 C2 s0 s1 s2 s3
  have HC := (show Hid (∀ wq, Below w2.heap.size w2 wq → E8 w.heap.size (w.heap.size + 1) an ax af (.slice aa al ap) bn bx bf (.slice ba bl bp) wq) from fun wq h => E8.of (H2.out.2.1.still h) (H2.out.2.2.still h))
  go_wp2_with fail
  go_cut [6, 7] from 22 to 29 (fun v6 v7 wx => v6 = .int .i64 (N : Nat) ∧ v7 = .int .i64 C ∧ Hid (Below w2.heap.size w2 wx))
  case first =>
    have hbd := (Below.refl w2.heap.size w2).drew
    have hS0 := HC.out _ hbd
    have hB0 := bel_trans H2.out.1 hbd
    unfold E8 at hS0
    go_region_held3 (fun wq => (wq.cell? ⟨w.heap.size, 0, none⟩ = some (.string an) ∧ wq.cell? ⟨w.heap.size, 1, none⟩ = some (.string ax) ∧ wq.cell? ⟨w.heap.size, 2, none⟩ = some (.bool af) ∧ wq.cell? ⟨w.heap.size, 3, none⟩ = some (.slice aa al ap)) ∧ wq.cell? ⟨w.heap.size + 1, 0, none⟩ = some (.string bn) ∧ wq.cell? ⟨w.heap.size + 1, 1, none⟩ = some (.string bx) ∧ wq.cell? ⟨w.heap.size + 1, 2, none⟩ = some (.bool bf) ∧ wq.cell? ⟨w.heap.size + 1, 3, none⟩ = some (.slice ba bl bp)) (first | with_reducible exact hS0 | with_reducible exact hS1 | with_reducible exact hS2 | with_reducible exact hS3) ((first
      | (go_at_call 26; refine Calls.mono (HSP.out _ _ _ _ _ LA LB) ?_; rintro e w5 ⟨rfl, hb5⟩; have hF := bel_trans hF2 hb5; have hS3 := (show E8 _ _ _ _ _ _ _ _ _ _ _ from HC.out _ hF); unfold E8 at hS3)
      | (go_at_call 27; with_reducible refine Calls.mono (HUA.out _ hBb) ?_; rintro e w4 ⟨v4, rfl, hb4, lA⟩; obtain ⟨x1, x2, x3, rfl⟩ := lA.form; have LA := lA; have LB := Lies.still lBb hb4; have hF2 := bel_trans hFb hb4; have hS2 := (show E8 _ _ _ _ _ _ _ _ _ _ _ from HC.out _ hF2); unfold E8 at hS2)
      | (go_at_call 27; with_reducible refine Calls.mono (HUB.out _ hBa) ?_; rintro e w4 ⟨v4, rfl, hb4, lB⟩; obtain ⟨x1, x2, x3, rfl⟩ := lB.form; have LB := lB; have LA := Lies.still lAa hb4; have hF2 := bel_trans hFa hb4; have hS2 := (show E8 _ _ _ _ _ _ _ _ _ _ _ from HC.out _ hF2); unfold E8 at hS2)
      | (go_at_call 27; with_reducible refine Calls.mono (HUA.out _ hB0) ?_; rintro e w3 ⟨v3, rfl, hb3, lAa⟩; obtain ⟨y1, y2, y3, rfl⟩ := lAa.form; have hFa := bel_trans hbd hb3; have hBa := bel_trans hB0 hb3; have hS1 := (show E8 _ _ _ _ _ _ _ _ _ _ _ from HC.out _ hFa); unfold E8 at hS1)
      | (go_at_call 27; with_reducible refine Calls.mono (HUB.out _ hB0) ?_; rintro e w3 ⟨v3, rfl, hb3, lBb⟩; obtain ⟨y1, y2, y3, rfl⟩ := lBb.form; have hFb := bel_trans hbd hb3; have hBb := bel_trans hB0 hb3; have hS1 := (show E8 _ _ _ _ _ _ _ _ _ _ _ from HC.out _ hFb); unfold E8 at hS1)))
    all_goals go_wp2_with fail
    all_goals go_meet
    all_goals exact ⟨rfl, rfl, hF⟩
  case rest =>
    obtain ⟨rfl, rfl, HXC⟩ := hcut
    obtain ⟨wz, rfl⟩ : ∃ wz, wz = wc := ⟨_, rfl⟩
    have H3 := (show Hid (Below w.heap.size w wz ∧ Box wz w.heap.size 54 [.string an, .string ax, .bool af, .slice aa al ap] ∧ Box wz (w.heap.size + 1) 54 [.string bn, .string bx, .bool bf, .slice ba bl bp]) from ⟨bel_trans H2.out.1 HXC.out, H2.out.2.1.still HXC.out, H2.out.2.2.still HXC.out⟩)
    clear HXC HC H2 HSP
    have r0 : wz.cell? ⟨w.heap.size, 0, none⟩ = some (.string an) := H3.out.2.1.cell 0 (by simp)
    have r1 : wz.cell? ⟨w.heap.size, 1, none⟩ = some (.string ax) := H3.out.2.1.cell 1 (by simp)
    have r2 : wz.cell? ⟨w.heap.size, 2, none⟩ = some (.bool af) := H3.out.2.1.cell 2 (by simp)
    have r3 : wz.cell? ⟨w.heap.size, 3, none⟩ = some (.slice aa al ap) := H3.out.2.1.cell 3 (by simp)
    go_wp2_with fail
    refine Calls.mono (HUA.out _ H3.out.1) ?_
    rintro e w3 ⟨v3, rfl, hb3, lx⟩
    obtain ⟨xa, xl, xp, rfl⟩ := lx.form
    have hbX := bel_alloc w3 (.cells #[.string an, .string ax, .bool af, .slice xa xl xp] 59)
    have H4 := (show Hid (Below w.heap.size w (w3.alloc (.cells #[.string an, .string ax, .bool af, .slice xa xl xp] 59)) ∧ Box (w3.alloc (.cells #[.string an, .string ax, .bool af, .slice xa xl xp] 59)) w.heap.size 54 [.string an, .string ax, .bool af, .slice aa al ap] ∧ Box (w3.alloc (.cells #[.string an, .string ax, .bool af, .slice xa xl xp] 59)) (w.heap.size + 1) 54 [.string bn, .string bx, .bool bf, .slice ba bl bp] ∧ Box (w3.alloc (.cells #[.string an, .string ax, .bool af, .slice xa xl xp] 59)) w3.heap.size 59 [.string an, .string ax, .bool af, .slice xa xl xp] ∧ Lies (w3.alloc (.cells #[.string an, .string ax, .bool af, .slice xa xl xp] 59)) (fun b => wz.heap.size ≤ b) a (.slice xa xl xp)) from ⟨bel_trans H3.out.1 (bel_trans hb3 hbX), H3.out.2.1.still (bel_trans hb3 hbX), H3.out.2.2.still (bel_trans hb3 hbX), Box.new _ _ _, lx.still hbX⟩)
    clear hb3 hbX lx H3 r0 r1 r2 r3
    have s0 : (w3.alloc (.cells #[.string an, .string ax, .bool af, .slice xa xl xp] 59)).cell? ⟨w.heap.size + 1, 0, none⟩ = some (.string bn) := H4.out.2.2.1.cell 0 (by simp)
    have s1 : (w3.alloc (.cells #[.string an, .string ax, .bool af, .slice xa xl xp] 59)).cell? ⟨w.heap.size + 1, 1, none⟩ = some (.string bx) := H4.out.2.2.1.cell 1 (by simp)
    have s2 : (w3.alloc (.cells #[.string an, .string ax, .bool af, .slice xa xl xp] 59)).cell? ⟨w.heap.size + 1, 2, none⟩ = some (.bool bf) := H4.out.2.2.1.cell 2 (by simp)
    have s3 : (w3.alloc (.cells #[.string an, .string ax, .bool af, .slice xa xl xp] 59)).cell? ⟨w.heap.size + 1, 3, none⟩ = some (.slice ba bl bp) := H4.out.2.2.1.cell 3 (by simp)
    have C4 : Hid (Calls Try.prog 27 #[.agg #[.string bn, .string bx, .bool bf, .slice ba bl bp]] (w3.alloc (.cells #[.string an, .string ax, .bool af, .slice xa xl xp] 59)) fun e w' => ∃ v', e = .returned (.agg #[.string bn, .string bx, .bool bf, v']) ∧ Below (w3.alloc (.cells #[.string an, .string ax, .bool af, .slice xa xl xp] 59)).heap.size (w3.alloc (.cells #[.string an, .string ax, .bool af, .slice xa xl xp] 59)) w' ∧ Lies w' (fun q => (w3.alloc (.cells #[.string an, .string ax, .bool af, .slice xa xl xp] 59)).heap.size ≤ q) b v') := HUB.out _ H4.out.1
    go_wp2_with fail
    refine Calls.mono C4.out ?_
    rintro e w4 ⟨v4, rfl, hb4, ly⟩
    obtain ⟨ya, yl, yp, rfl⟩ := ly.form
    have hbY := bel_alloc w4 (.cells #[.string bn, .string bx, .bool bf, .slice ya yl yp] 59)
    have H5 := (show Hid (Below w.heap.size w (w4.alloc (.cells #[.string bn, .string bx, .bool bf, .slice ya yl yp] 59)) ∧ Box (w4.alloc (.cells #[.string bn, .string bx, .bool bf, .slice ya yl yp] 59)) w.heap.size 54 [.string an, .string ax, .bool af, .slice aa al ap] ∧ Box (w4.alloc (.cells #[.string bn, .string bx, .bool bf, .slice ya yl yp] 59)) (w.heap.size + 1) 54 [.string bn, .string bx, .bool bf, .slice ba bl bp] ∧ Box (w4.alloc (.cells #[.string bn, .string bx, .bool bf, .slice ya yl yp] 59)) w3.heap.size 59 [.string an, .string ax, .bool af, .slice xa xl xp] ∧ Lies (w4.alloc (.cells #[.string bn, .string bx, .bool bf, .slice ya yl yp] 59)) (fun _ => True) a (.slice xa xl xp) ∧ Box (w4.alloc (.cells #[.string bn, .string bx, .bool bf, .slice ya yl yp] 59)) w4.heap.size 59 [.string bn, .string bx, .bool bf, .slice ya yl yp] ∧ Lies (w4.alloc (.cells #[.string bn, .string bx, .bool bf, .slice ya yl yp] 59)) (fun _ => True) b (.slice ya yl yp)) from ⟨bel_trans H4.out.1 (bel_trans hb4 hbY), H4.out.2.1.still (bel_trans hb4 hbY), H4.out.2.2.1.still (bel_trans hb4 hbY), H4.out.2.2.2.1.still (bel_trans hb4 hbY), Lies.any (H4.out.2.2.2.2.still (bel_trans hb4 hbY)), Box.new _ _ _, Lies.any (ly.still hbY)⟩)
    clear hb4 hbY ly H4 C4 s0 s1 s2 s3
    have x0 : (w4.alloc (.cells #[.string bn, .string bx, .bool bf, .slice ya yl yp] 59)).cell? ⟨w3.heap.size, 0, none⟩ = some (.string an) := H5.out.2.2.2.1.cell 0 (by simp)
    have x1 : (w4.alloc (.cells #[.string bn, .string bx, .bool bf, .slice ya yl yp] 59)).cell? ⟨w3.heap.size, 1, none⟩ = some (.string ax) := H5.out.2.2.2.1.cell 1 (by simp)
    have x2 : (w4.alloc (.cells #[.string bn, .string bx, .bool bf, .slice ya yl yp] 59)).cell? ⟨w3.heap.size, 2, none⟩ = some (.bool af) := H5.out.2.2.2.1.cell 2 (by simp)
    have x3 : (w4.alloc (.cells #[.string bn, .string bx, .bool bf, .slice ya yl yp] 59)).cell? ⟨w3.heap.size, 3, none⟩ = some (.slice xa xl xp) := H5.out.2.2.2.1.cell 3 (by simp)
    have y0 : (w4.alloc (.cells #[.string bn, .string bx, .bool bf, .slice ya yl yp] 59)).cell? ⟨w4.heap.size, 0, none⟩ = some (.string bn) := H5.out.2.2.2.2.2.1.cell 0 (by simp)
    have y1 : (w4.alloc (.cells #[.string bn, .string bx, .bool bf, .slice ya yl yp] 59)).cell? ⟨w4.heap.size, 1, none⟩ = some (.string bx) := H5.out.2.2.2.2.2.1.cell 1 (by simp)
    have y2 : (w4.alloc (.cells #[.string bn, .string bx, .bool bf, .slice ya yl yp] 59)).cell? ⟨w4.heap.size, 2, none⟩ = some (.bool bf) := H5.out.2.2.2.2.2.1.cell 2 (by simp)
    have y3 : (w4.alloc (.cells #[.string bn, .string bx, .bool bf, .slice ya yl yp] 59)).cell? ⟨w4.heap.size, 3, none⟩ = some (.slice ya yl yp) := H5.out.2.2.2.2.2.1.cell 3 (by simp)
    have C5 : Hid (Calls Try.prog 28 #[.agg #[.string an, .string ax, .bool af, .slice xa xl xp], .agg #[.string bn, .string bx, .bool bf, .slice ya yl yp]] (w4.alloc (.cells #[.string bn, .string bx, .bool bf, .slice ya yl yp] 59)) fun e w' => e = .returned (.tuple #[.int .i64 (N : Nat), .int .i64 C]) ∧ Below (w4.alloc (.cells #[.string bn, .string bx, .bool bf, .slice ya yl yp] 59)).heap.size (w4.alloc (.cells #[.string bn, .string bx, .bool bf, .slice ya yl yp] 59)) w') := HIM.out _ _ _ _ _ H5.out.2.2.2.2.1 H5.out.2.2.2.2.2.2
    have hnN : ((N : Int) != (N : Int)) = false := by simp
    have hnC : ((C : Int) != C) = false := by simp
    go_wp2_with fail
    refine Calls.mono C5.out ?_
    rintro e w5 ⟨rfl, hb5⟩
    have H6 := (show Hid (Below w.heap.size w w5 ∧ Box w5 w.heap.size 54 [.string an, .string ax, .bool af, .slice aa al ap] ∧ Box w5 (w.heap.size + 1) 54 [.string bn, .string bx, .bool bf, .slice ba bl bp] ∧ Box w5 w3.heap.size 59 [.string an, .string ax, .bool af, .slice xa xl xp] ∧ Lies w5 (fun _ => True) a (.slice xa xl xp) ∧ Box w5 w4.heap.size 59 [.string bn, .string bx, .bool bf, .slice ya yl yp] ∧ Lies w5 (fun _ => True) b (.slice ya yl yp)) from ⟨bel_trans H5.out.1 hb5, H5.out.2.1.still hb5, H5.out.2.2.1.still hb5, H5.out.2.2.2.1.still hb5, H5.out.2.2.2.2.1.still hb5, H5.out.2.2.2.2.2.1.still hb5, H5.out.2.2.2.2.2.2.still hb5⟩)
    clear hb5 H5 C5 x0 x1 x2 x3 y0 y1 y2 y3 HIM
    generalize hp3 : w3.heap.size = p3 at *
    generalize hp4 : w4.heap.size = p4 at *
    clear hp3 hp4
    have HCA := (show Hid (∀ wq, Below w5.heap.size w5 wq → E8 p3 w.heap.size an ax af (.slice xa xl xp) an ax af (.slice aa al ap) wq) from fun wq h => E8.of (H6.out.2.2.2.1.still h) (H6.out.2.1.still h))
    go_wp2_with fail
    go_cut [52] from 48 to 51 (fun v wx => v = .bool false ∧ Hid (Below w5.heap.size w5 wx))
    case first =>
      have hbd := (Below.refl w5.heap.size w5).drew
      have hS0 := HCA.out _ hbd
      have hB0 := bel_trans H6.out.1 hbd
      unfold E8 at hS0
      go_region_held3 (fun wq => (wq.cell? ⟨p3, 0, none⟩ = some (.string an) ∧ wq.cell? ⟨p3, 1, none⟩ = some (.string ax) ∧ wq.cell? ⟨p3, 2, none⟩ = some (.bool af) ∧ wq.cell? ⟨p3, 3, none⟩ = some (.slice xa xl xp)) ∧ wq.cell? ⟨w.heap.size, 0, none⟩ = some (.string an) ∧ wq.cell? ⟨w.heap.size, 1, none⟩ = some (.string ax) ∧ wq.cell? ⟨w.heap.size, 2, none⟩ = some (.bool af) ∧ wq.cell? ⟨w.heap.size, 3, none⟩ = some (.slice aa al ap)) (first | with_reducible exact hS0 | with_reducible exact hS1 | with_reducible exact hS2) ((first
        | (go_at_call 29; refine Calls.mono (HEA.out _ _ _ _ _ LX LC) ?_; rintro e w7 ⟨rfl, hb7⟩; have hF2 := bel_trans hF1 hb7; have hS2 := (show E8 _ _ _ _ _ _ _ _ _ _ _ from HCA.out _ hF2); unfold E8 at hS2)
        | (go_at_call 27; refine Calls.mono (HUA.out _ hB0) ?_; rintro e w6 ⟨v6, rfl, hb6, LC⟩; obtain ⟨z1, z2, z3, rfl⟩ := LC.form; have hF1 := bel_trans hbd hb6; have LX := Lies.still H6.out.2.2.2.2.1 hF1; have hS1 := (show E8 _ _ _ _ _ _ _ _ _ _ _ from HCA.out _ hF1); unfold E8 at hS1)))
      all_goals go_wp2_with fail
      all_goals go_meet
      all_goals exact ⟨rfl, hF2⟩
    case rest =>
      obtain ⟨rfl, HXD⟩ := hcut
      obtain ⟨wy, rfl⟩ : ∃ wy, wy = wc := ⟨_, rfl⟩
      have H7 := (show Hid (Below w.heap.size w wy ∧ Box wy (w.heap.size + 1) 54 [.string bn, .string bx, .bool bf, .slice ba bl bp] ∧ Box wy p4 59 [.string bn, .string bx, .bool bf, .slice ya yl yp] ∧ Lies wy (fun _ => True) b (.slice ya yl yp)) from ⟨bel_trans H6.out.1 HXD.out, H6.out.2.2.1.still HXD.out, H6.out.2.2.2.2.2.1.still HXD.out, H6.out.2.2.2.2.2.2.still HXD.out⟩)
      clear HXD HCA H6
      have HCB := (show Hid (∀ wq, Below wy.heap.size wy wq → E8 p4 (w.heap.size + 1) bn bx bf (.slice ya yl yp) bn bx bf (.slice ba bl bp) wq) from fun wq h => E8.of (H7.out.2.2.1.still h) (H7.out.2.1.still h))
      go_wp2_with fail
      go_cut [57] from 53 to 56 (fun v wx => v = .bool false ∧ Hid (Below wy.heap.size wy wx))
      case first =>
        have hbd := (Below.refl wy.heap.size wy).drew
        have hS0 := HCB.out _ hbd
        have hB0 := bel_trans H7.out.1 hbd
        unfold E8 at hS0
        go_region_held3 (fun wq => (wq.cell? ⟨p4, 0, none⟩ = some (.string bn) ∧ wq.cell? ⟨p4, 1, none⟩ = some (.string bx) ∧ wq.cell? ⟨p4, 2, none⟩ = some (.bool bf) ∧ wq.cell? ⟨p4, 3, none⟩ = some (.slice ya yl yp)) ∧ wq.cell? ⟨w.heap.size + 1, 0, none⟩ = some (.string bn) ∧ wq.cell? ⟨w.heap.size + 1, 1, none⟩ = some (.string bx) ∧ wq.cell? ⟨w.heap.size + 1, 2, none⟩ = some (.bool bf) ∧ wq.cell? ⟨w.heap.size + 1, 3, none⟩ = some (.slice ba bl bp)) (first | with_reducible exact hS0 | with_reducible exact hS1 | with_reducible exact hS2) ((first
          | (go_at_call 29; refine Calls.mono (HEB.out _ _ _ _ _ LX LC) ?_; rintro e w7 ⟨rfl, hb7⟩; have hF2 := bel_trans hF1 hb7; have hS2 := (show E8 _ _ _ _ _ _ _ _ _ _ _ from HCB.out _ hF2); unfold E8 at hS2)
          | (go_at_call 27; refine Calls.mono (HUB.out _ hB0) ?_; rintro e w6 ⟨v6, rfl, hb6, LC⟩; obtain ⟨z1, z2, z3, rfl⟩ := LC.form; have hF1 := bel_trans hbd hb6; have LX := Lies.still H7.out.2.2.2 hF1; have hS1 := (show E8 _ _ _ _ _ _ _ _ _ _ _ from HCB.out _ hF1); unfold E8 at hS1)))
        all_goals go_wp2_with fail
        all_goals go_meet
        all_goals exact ⟨rfl, hF2⟩
      case rest =>
        obtain ⟨rfl, HXE⟩ := hcut
        have HE := (show Hid _ from bel_trans H7.out.1 HXE.out)
        clear HXE H7 HCB
        go_wp2_with fail
        go_ret
        exact ⟨rfl, HE.out⟩
end Go.Proofs.Ytckpoggljpdeoaa
