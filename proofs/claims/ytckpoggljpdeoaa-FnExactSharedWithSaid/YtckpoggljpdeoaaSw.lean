import Derived.Test.YtckpoggljpdeoaaCo
/-! The specification: SharedWith. -/
namespace Go.Proofs.Ytckpoggljpdeoaa
open Go.RowKit Go.Deep
set_option linter.unusedVariables false
set_option maxRecDepth 100000
set_option linter.unusedSimpArgs false

/-- The nodes of two trees, the first one's number of nodes, the second one's number. -/
def n2 (a b : Tr) : List Nd := (putT b (putT a []).1).1
def m2 (a : Tr) : Nat := (putT a []).1.length
def q2 (a b : Tr) : Nat := (putT b (putT a []).1).2
theorem putTs2 (a b : Tr) : putTs [a, b] [] = (n2 a b, [(putT a []).2, q2 a b]) := rfl
theorem putTs1 (a : Tr) : putTs [a] [] = ((putT a []).1, [(putT a []).2]) := rfl
def okB (a b : Tr) : Bool := a.ok && b.ok
def swN (a b : Tr) : Nat := if okB a b then vv (kf (m2 a)) (n2 a b) (q2 a b) else 0
def swC (a b : Tr) : Int := if okB a b then 0 else 1
theorem ok_cnt {t : Tr} (h : t.ok = true) : t.cnt ≤ 1000 := by
  unfold Tr.ok at h
  simp only [Bool.and_eq_true, decide_eq_true_eq] at h
  exact h.1.1
theorem gd_nil : gdN [] := fun q n h => by simp at h
theorem n2_facts (a b : Tr) : (n2 a b).Nodup ∧ gdN (n2 a b) ∧ isT b (n2 a b) (q2 a b) ∧ (n2 a b).length ≤ a.cnt + b.cnt ∧ m2 a ≤ a.cnt := by
  have h1 := (putT_keep a [] (by simp)).2.1
  have h2 := (putT_keep b _ h1).2.1
  have h3 := putT_len a []
  have h4 := putT_len b (putT a []).1
  simp only [List.length_nil] at h3
  exact ⟨h2, putT_gd b _ h1 (putT_gd a [] (by simp) gd_nil), isT_put b _, by unfold n2; omega, by unfold m2; omega⟩
theorem Lies.in' {w : World} {S : Nat → Prop} {t : Tr} {v : Value} (h : Lies w S t v) : Lies w (fun q => q < w.heap.size) t v :=
  Lies.carry (S' := fun q => q < w.heap.size) (fun b _ hb => hb) (fun b o _ _ => rfl) (fun b o v h => lt_of_cell h) h
theorem Lies.to' {w w' : World} {S : Nat → Prop} {t : Tr} {v : Value} {B : Nat} (h : Lies w S t v) (hb : Below w.heap.size w w') (hB : w.heap.size ≤ B) : Lies w' (fun q => q < B) t v :=
  Lies.carry (S' := fun q => q < B) (fun b _ hb => by omega) (fun b o _ hlt => World.cell?_of_block (w := w) (hb.block b hlt)) (fun b o v h => lt_of_cell h) h
/-- Two trees in a row that was made. -/
theorem trs2 {w : World} {S S' : Nat → Prop} {a b : Tr} {va vb : Value} (ha : Lies w S a va) (hb : Lies w S' b vb) : Trs (w.alloc (.cells #[.string a.name, .string a.text, .bool a.leaf, va, .string b.name, .string b.text, .bool b.leaf, vb] 59)) (fun q => q < w.heap.size + 1) [a, b] (.slice (some ⟨w.heap.size, 0, none⟩) 2 2) := by
  have hbx := Box.new w 59 [.string a.name, .string a.text, .bool a.leaf, va, .string b.name, .string b.text, .bool b.leaf, vb]
  have hba := bel_alloc w (.cells #[.string a.name, .string a.text, .bool a.leaf, va, .string b.name, .string b.text, .bool b.leaf, vb] 59)
  refine ⟨some ⟨w.heap.size, 0, none⟩, 2, w.heap.size, 0, fun i => if i = 0 then va else vb, rfl, Nat.le_refl _, by decide, fun _ => ⟨rfl, by omega⟩, fun i hi => ?_, fun i hi => ?_⟩
  · match i, hi with
    | 0, _ => exact ⟨hbx.cell 0 (by simp), hbx.cell 1 (by simp), hbx.cell 2 (by simp), hbx.cell 3 (by simp)⟩
    | 1, _ => exact ⟨hbx.cell 4 (by simp), hbx.cell 5 (by simp), hbx.cell 6 (by simp), hbx.cell 7 (by simp)⟩
  · match i, hi with
    | 0, _ => exact ha.to' hba (by omega)
    | 1, _ => exact hb.to' hba (by omega)
theorem trs1 {w : World} {S : Nat → Prop} {a : Tr} {va : Value} (ha : Lies w S a va) : Trs (w.alloc (.cells #[.string a.name, .string a.text, .bool a.leaf, va] 59)) (fun q => q < w.heap.size + 1) [a] (.slice (some ⟨w.heap.size, 0, none⟩) 1 1) := by
  have hbx := Box.new w 59 [.string a.name, .string a.text, .bool a.leaf, va]
  have hba := bel_alloc w (.cells #[.string a.name, .string a.text, .bool a.leaf, va] 59)
  refine ⟨some ⟨w.heap.size, 0, none⟩, 1, w.heap.size, 0, fun i => va, rfl, Nat.le_refl _, by decide, fun _ => ⟨rfl, by omega⟩, fun i hi => ?_, fun i hi => ?_⟩
  · match i, hi with
    | 0, _ => exact ⟨hbx.cell 0 (by simp), hbx.cell 1 (by simp), hbx.cell 2 (by simp), hbx.cell 3 (by simp)⟩
  · match i, hi with
    | 0, _ => exact ha.to' hba (by omega)
theorem cntL2 (a b : Tr) : Tr.cntL [a, b] = a.cnt + b.cnt := by simp [Tr.cntL]
theorem cntL1 (a : Tr) : Tr.cntL [a] = a.cnt := by simp [Tr.cntL]
theorem run_field35 (u r : Value) (w : World) : (Instr.field 35 (.agg #[u, r]) 0).run Try.prog w = .ok u w := by
  unfold Instr.field
  simp [run_underlying Try.underlying35, asAgg, part, isAgg, run_underlying Try.underlying32]
/-- What SharedWith answers. -/
def SwR (a b : Tr) (w : World) (e : Ending) (w' : World) : Prop := e = .returned (.tuple #[.int .i64 (swN a b : Nat), .int .i64 (swC a b)]) ∧ Below w.heap.size w w'
set_option maxHeartbeats 3200000 in
theorem sShared {S S' : Nat → Prop} (a b : Tr) (va vb : Value) (w : World) (ha : Lies w S a va) (hb : Lies w S' b vb) :
    Calls Try.prog 26 #[a.val va, b.val vb] w (SwR a b w) := by
  have hbb : Below w.heap.size w ((w.alloc (.cells #[.string a.name, .string a.text, .bool a.leaf, va] 59)).alloc (.cells #[.string b.name, .string b.text, .bool b.leaf, vb] 59)) := (bel_alloc _ _).alloc (by simp) _
  have B1 := (Box.new w 59 [.string a.name, .string a.text, .bool a.leaf, va]).still (bel_alloc _ (.cells #[.string b.name, .string b.text, .bool b.leaf, vb] 59))
  have B2 : Box ((w.alloc (.cells #[.string a.name, .string a.text, .bool a.leaf, va] 59)).alloc (.cells #[.string b.name, .string b.text, .bool b.leaf, vb] 59)) (w.heap.size + 1) 59 [.string b.name, .string b.text, .bool b.leaf, vb] := by
    have := Box.new (w.alloc (.cells #[.string a.name, .string a.text, .bool a.leaf, va] 59)) 59 [.string b.name, .string b.text, .bool b.leaf, vb]
    simpa using this
  have HOA : Hid (∀ wq, Below w.heap.size w wq → Calls Try.prog 55 #[.agg #[.string a.name, .string a.text, .bool a.leaf, va]] wq fun e w' => e = .returned (.bool a.ok) ∧ Below wq.heap.size wq w') := fun wq h => sOK_any a va wq (ha.still h)
  have HOB : Hid (∀ wq, Below w.heap.size w wq → Calls Try.prog 55 #[.agg #[.string b.name, .string b.text, .bool b.leaf, vb]] wq fun e w' => e = .returned (.bool b.ok) ∧ Below wq.heap.size wq w') := fun wq h => sOK_any b vb wq (hb.still h)
  have HS2 : Hid (∀ wq, Below w.heap.size w wq → a.ok = true → b.ok = true → Calls Try.prog 33 #[.slice (some ⟨wq.heap.size, 0, none⟩) 2 2] (wq.alloc (.cells #[.string a.name, .string a.text, .bool a.leaf, va, .string b.name, .string b.text, .bool b.leaf, vb] 59)) (ShA [a, b] (wq.alloc (.cells #[.string a.name, .string a.text, .bool a.leaf, va, .string b.name, .string b.text, .bool b.leaf, vb] 59)))) := fun wq h o1 o2 => share33 [a, b] _ _ (fun q hq => by simpa using hq) (trs2 (ha.still h) (hb.still h)) (by rw [cntL2]; have := ok_cnt o1; have := ok_cnt o2; omega)
  have HS1 : Hid (∀ wq, Below w.heap.size w wq → a.ok = true → Calls Try.prog 33 #[.slice (some ⟨wq.heap.size, 0, none⟩) 1 1] (wq.alloc (.cells #[.string a.name, .string a.text, .bool a.leaf, va] 59)) (ShA [a] (wq.alloc (.cells #[.string a.name, .string a.text, .bool a.leaf, va] 59)))) := fun wq h o1 => share33 [a] _ _ (fun q hq => by simpa using hq) (trs1 (ha.still h)) (by rw [cntL1]; have := ok_cnt o1; omega)
  have HCT : Hid (∀ (wq : World) (B : Nat) (u r : Value) (rs : List Nat), Below w.heap.size w wq → w.heap.size ≤ B → B ≤ wq.heap.size → DgR B wq (n2 a b) rs u r → a.ok = true → b.ok = true → Calls Try.prog 56 #[.agg #[u, r], .int .i64 (m2 a : Nat), .agg #[.string b.name, .string b.text, .bool b.leaf, vb]] wq fun e w' => e = .returned (.int .i64 (vv (kf (m2 a)) (n2 a b) (q2 a b) : Nat)) ∧ Below wq.heap.size wq w') := fun wq B u r rs h hB1 hB2 hd o1 o2 => by
    obtain ⟨f1, f2, f3, f4, f5⟩ := n2_facts a b
    have c1 := ok_cnt o1
    have c2 := ok_cnt o2
    obtain ⟨K, d1, d2, d3⟩ := hd
    obtain ⟨ra, rp, hr, _⟩ := own_ne d2
    refine count56 (S := fun q => q < w.heap.size) (K := K) (B := B) (fun q hq => by omega) (n2 a b) f1 f2 (m2 a) (by omega) (by omega) u r (by rw [hr]; rfl) ⟨_, _, _, hr⟩ b vb (q2 a b) wq (Lies.to' hb h (Nat.le_refl _)) d1 hB2 (by omega) f3
  have HM := (show Hid (m2 a = (putTs [a] []).1.length) from rfl)
  obtain ⟨aa, al, ap, rfl⟩ := ha.form
  obtain ⟨ba, bl, bp, rfl⟩ := hb.form
  clear ha hb
  have HX := (show Hid _ from (⟨hbb, B1, B2⟩ : _ ∧ _ ∧ _)); clear hbb B1 B2
  simp only [Tr.val]
  generalize a.name = an at *
  generalize a.text = ax at *
  generalize a.leaf = af at *
  generalize b.name = bn at *
  generalize b.text = bx at *
  generalize b.leaf = bf at *
  have HBAD := (show Hid (okB a b = false → swN a b = 0 ∧ swC a b = 1) from fun h => by unfold swN swC; rw [h]; exact ⟨rfl, rfl⟩)
  have C1 : Hid (Calls Try.prog 55 #[.agg #[.string an, .string ax, .bool af, .slice aa al ap]] ((w.alloc (.cells #[.string an, .string ax, .bool af, .slice aa al ap] 59)).alloc (.cells #[.string bn, .string bx, .bool bf, .slice ba bl bp] 59)) fun e w' => e = .returned (.bool a.ok) ∧ Below ((w.alloc (.cells #[.string an, .string ax, .bool af, .slice aa al ap] 59)).alloc (.cells #[.string bn, .string bx, .bool bf, .slice ba bl bp] 59)).heap.size ((w.alloc (.cells #[.string an, .string ax, .bool af, .slice aa al ap] 59)).alloc (.cells #[.string bn, .string bx, .bool bf, .slice ba bl bp] 59)) w') := HOA.out _ HX.out.1
  cases oa : a.ok with
  | false =>
    rw [oa] at C1
    have HF := (show Hid _ from HBAD.out (by unfold okB; rw [oa]; rfl))
    clear HS1 HS2 HCT oa HOA HOB
    go_enter Try.func26, Try.ntmps26
    go_wp2_with fail
    refine Calls.mono C1.out ?_
    rintro e w1 ⟨rfl, hb1⟩
    have HE := (show Hid _ from bel_trans HX.out.1 hb1)
    clear hb1
    go_wp2_with fail
    refine bodyPost_ret (v := .tuple #[.int .i64 0, .int .i64 1]) (by simp [results, Try.results26, go_sem]) rfl ?_
    exact ⟨by rw [HF.out.1, HF.out.2]; rfl, HE.out⟩
  | true =>
    rw [oa] at C1
    cases ob : b.ok with
    | false =>
      have HF := (show Hid _ from HBAD.out (by unfold okB; rw [oa, ob]; rfl))
      rw [ob] at HOB
      clear HS1 HS2 HCT oa HOA ob
      go_enter Try.func26, Try.ntmps26
      go_wp2_with fail
      refine Calls.mono C1.out ?_
      rintro e w1 ⟨rfl, hb1⟩
      have y2 := HX.out.2.2.still hb1
      have s0 : w1.cell? ⟨w.heap.size + 1, 0, none⟩ = some (.string bn) := y2.cell 0 (by simp)
      have s1 : w1.cell? ⟨w.heap.size + 1, 1, none⟩ = some (.string bx) := y2.cell 1 (by simp)
      have s2 : w1.cell? ⟨w.heap.size + 1, 2, none⟩ = some (.bool bf) := y2.cell 2 (by simp)
      have s3 : w1.cell? ⟨w.heap.size + 1, 3, none⟩ = some (.slice ba bl bp) := y2.cell 3 (by simp)
      have HB1 := (show Hid _ from bel_trans HX.out.1 hb1)
      have C2 : Hid (Calls Try.prog 55 #[.agg #[.string bn, .string bx, .bool bf, .slice ba bl bp]] w1 fun e w' => e = .returned (.bool false) ∧ Below w1.heap.size w1 w') := HOB.out _ HB1.out
      clear hb1 y2 HOB
      go_wp2_with fail
      refine Calls.mono C2.out ?_
      rintro e w2 ⟨rfl, hb2⟩
      have HE := (show Hid _ from bel_trans HB1.out hb2)
      clear hb2
      go_wp2_with fail
      refine bodyPost_ret (v := .tuple #[.int .i64 0, .int .i64 1]) (by simp [results, Try.results26, go_sem]) rfl ?_
      exact ⟨by rw [HF.out.1, HF.out.2]; rfl, HE.out⟩
    | true =>
      have HF := (show Hid (swN a b = vv (kf (m2 a)) (n2 a b) (q2 a b) ∧ swC a b = 0) from (by unfold swN swC okB; rw [oa, ob]; exact ⟨rfl, rfl⟩))
      have HG2 : Hid (∀ wq, Below w.heap.size w wq → Calls Try.prog 33 #[.slice (some ⟨wq.heap.size, 0, none⟩) 2 2] (wq.alloc (.cells #[.string an, .string ax, .bool af, .slice aa al ap, .string bn, .string bx, .bool bf, .slice ba bl bp] 59)) (ShA [a, b] (wq.alloc (.cells #[.string an, .string ax, .bool af, .slice aa al ap, .string bn, .string bx, .bool bf, .slice ba bl bp] 59)))) := fun wq h => HS2.out wq h oa ob
      have HG1 : Hid (∀ wq, Below w.heap.size w wq → Calls Try.prog 33 #[.slice (some ⟨wq.heap.size, 0, none⟩) 1 1] (wq.alloc (.cells #[.string an, .string ax, .bool af, .slice aa al ap] 59)) (ShA [a] (wq.alloc (.cells #[.string an, .string ax, .bool af, .slice aa al ap] 59)))) := fun wq h => HS1.out wq h oa
      have HGC := (show Hid (∀ (wq : World) (B : Nat) (u r : Value) (rs : List Nat), Below w.heap.size w wq → w.heap.size ≤ B → B ≤ wq.heap.size → DgR B wq (n2 a b) rs u r → Calls Try.prog 56 #[.agg #[u, r], .int .i64 (m2 a : Nat), .agg #[.string bn, .string bx, .bool bf, .slice ba bl bp]] wq fun e w' => e = .returned (.int .i64 (vv (kf (m2 a)) (n2 a b) (q2 a b) : Nat)) ∧ Below wq.heap.size wq w') from fun wq B u r rs h1 h2 h3 h4 => HCT.out wq B u r rs h1 h2 h3 h4 oa ob)
      rw [ob] at HOB
      clear HS1 HS2 HCT oa HOA ob
      go_enter Try.func26, Try.ntmps26
      go_wp2_with fail
      refine Calls.mono C1.out ?_
      rintro e w1 ⟨rfl, hb1⟩
      have y2 := HX.out.2.2.still hb1
      have s0 : w1.cell? ⟨w.heap.size + 1, 0, none⟩ = some (.string bn) := y2.cell 0 (by simp)
      have s1 : w1.cell? ⟨w.heap.size + 1, 1, none⟩ = some (.string bx) := y2.cell 1 (by simp)
      have s2 : w1.cell? ⟨w.heap.size + 1, 2, none⟩ = some (.bool bf) := y2.cell 2 (by simp)
      have s3 : w1.cell? ⟨w.heap.size + 1, 3, none⟩ = some (.slice ba bl bp) := y2.cell 3 (by simp)
      have HB1 := (show Hid (Below w.heap.size w w1 ∧ Box w1 w.heap.size 59 [.string an, .string ax, .bool af, .slice aa al ap] ∧ Box w1 (w.heap.size + 1) 59 [.string bn, .string bx, .bool bf, .slice ba bl bp]) from ⟨bel_trans HX.out.1 hb1, HX.out.2.1.still hb1, y2⟩)
      have C2 : Hid (Calls Try.prog 55 #[.agg #[.string bn, .string bx, .bool bf, .slice ba bl bp]] w1 fun e w' => e = .returned (.bool true) ∧ Below w1.heap.size w1 w') := HOB.out _ HB1.out.1
      clear hb1 y2 HOB C1
      go_wp2_with fail
      refine Calls.mono C2.out ?_
      rintro e w2 ⟨rfl, hb2⟩
      have HB2 := (show Hid (Below w.heap.size w w2 ∧ Box w2 w.heap.size 59 [.string an, .string ax, .bool af, .slice aa al ap] ∧ Box w2 (w.heap.size + 1) 59 [.string bn, .string bx, .bool bf, .slice ba bl bp]) from ⟨bel_trans HB1.out.1 hb2, HB1.out.2.1.still hb2, HB1.out.2.2.still hb2⟩)
      clear hb2 s0 s1 s2 s3 C2
      have r0 : w2.cell? ⟨w.heap.size, 0, none⟩ = some (.string an) := HB2.out.2.1.cell 0 (by simp)
      have r1 : w2.cell? ⟨w.heap.size, 1, none⟩ = some (.string ax) := HB2.out.2.1.cell 1 (by simp)
      have r2 : w2.cell? ⟨w.heap.size, 2, none⟩ = some (.bool af) := HB2.out.2.1.cell 2 (by simp)
      have r3 : w2.cell? ⟨w.heap.size, 3, none⟩ = some (.slice aa al ap) := HB2.out.2.1.cell 3 (by simp)
      have s0 : w2.cell? ⟨w.heap.size + 1, 0, none⟩ = some (.string bn) := HB2.out.2.2.cell 0 (by simp)
      have s1 : w2.cell? ⟨w.heap.size + 1, 1, none⟩ = some (.string bx) := HB2.out.2.2.cell 1 (by simp)
      have s2 : w2.cell? ⟨w.heap.size + 1, 2, none⟩ = some (.bool bf) := HB2.out.2.2.cell 2 (by simp)
      have s3 : w2.cell? ⟨w.heap.size + 1, 3, none⟩ = some (.slice ba bl bp) := HB2.out.2.2.cell 3 (by simp)
      have C3 : Hid (Calls Try.prog 33 #[.slice (some ⟨w2.heap.size, 0, none⟩) 2 2] (w2.alloc (.cells #[.string an, .string ax, .bool af, .slice aa al ap, .string bn, .string bx, .bool bf, .slice ba bl bp] 59)) (ShA [a, b] (w2.alloc (.cells #[.string an, .string ax, .bool af, .slice aa al ap, .string bn, .string bx, .bool bf, .slice ba bl bp] 59)))) := HG2.out w2 HB2.out.1
      go_wp2_with fail
      refine Calls.mono C3.out ?_
      rintro e w3 ⟨u, r, rfl, hb3, hd3⟩
      rw [putTs2] at hd3
      dsimp only at hd3
      obtain ⟨a1, c1, a2, c2, rfl, rfl, _, _⟩ := hd3.forms
      have hbA := bel_trans (bel_alloc w2 (.cells #[.string an, .string ax, .bool af, .slice aa al ap, .string bn, .string bx, .bool bf, .slice ba bl bp] 59)) hb3
      have hl2 : [(putT a []).2, q2 a b].length = 2 := rfl
      rw [hl2] at hd3 ⊢
      have hbC := bel_alloc w3 (.cells #[.slice a1 (n2 a b).length c1, .slice a2 2 c2] 35)
      have H3 := (show Hid (Below w.heap.size w (w3.alloc (.cells #[.slice a1 (n2 a b).length c1, .slice a2 2 c2] 35)) ∧ Box (w3.alloc (.cells #[.slice a1 (n2 a b).length c1, .slice a2 2 c2] 35)) w.heap.size 59 [.string an, .string ax, .bool af, .slice aa al ap] ∧ Box (w3.alloc (.cells #[.slice a1 (n2 a b).length c1, .slice a2 2 c2] 35)) (w.heap.size + 1) 59 [.string bn, .string bx, .bool bf, .slice ba bl bp] ∧ Box (w3.alloc (.cells #[.slice a1 (n2 a b).length c1, .slice a2 2 c2] 35)) w3.heap.size 35 [.slice a1 (n2 a b).length c1, .slice a2 2 c2] ∧ ∃ B, w.heap.size ≤ B ∧ B ≤ (w3.alloc (.cells #[.slice a1 (n2 a b).length c1, .slice a2 2 c2] 35)).heap.size ∧ DgR B (w3.alloc (.cells #[.slice a1 (n2 a b).length c1, .slice a2 2 c2] 35)) (n2 a b) [(putT a []).2, q2 a b] (.slice a1 (n2 a b).length c1) (.slice a2 2 c2)) from ⟨bel_trans HB2.out.1 (bel_trans hbA hbC), HB2.out.2.1.still (bel_trans hbA hbC), HB2.out.2.2.still (bel_trans hbA hbC), Box.new _ _ _, _, by
        have e1 := HB2.out.1.size
        have e2 : (w2.alloc (.cells #[.string an, .string ax, .bool af, .slice aa al ap, .string bn, .string bx, .bool bf, .slice ba bl bp] 59)).heap.size = w2.heap.size + 1 := by simp
        omega, by
        have e1 := hb3.size
        have e2 := hbC.size
        omega, hd3.still hbC⟩)
      have C4 : Hid (Calls Try.prog 33 #[.slice (some ⟨w3.heap.size + 1, 0, none⟩) 1 1] ((w3.alloc (.cells #[.slice a1 (n2 a b).length c1, .slice a2 2 c2] 35)).alloc (.cells #[.string an, .string ax, .bool af, .slice aa al ap] 59)) (ShA [a] ((w3.alloc (.cells #[.slice a1 (n2 a b).length c1, .slice a2 2 c2] 35)).alloc (.cells #[.string an, .string ax, .bool af, .slice aa al ap] 59)))) := by
        have e1 := HG1.out _ H3.out.1
        have e2 : (w3.alloc (.cells #[.slice a1 (n2 a b).length c1, .slice a2 2 c2] 35)).heap.size = w3.heap.size + 1 := by simp
        rw [e2] at e1
        exact e1
      clear hbA hbC hb3 hd3 hl2 HB2 HG2 C3 HB1 HG1 r0 r1 r2 r3 s0 s1 s2 s3
      have r0 : (w3.alloc (.cells #[.slice a1 (n2 a b).length c1, .slice a2 2 c2] 35)).cell? ⟨w.heap.size, 0, none⟩ = some (.string an) := H3.out.2.1.cell 0 (by simp)
      have r1 : (w3.alloc (.cells #[.slice a1 (n2 a b).length c1, .slice a2 2 c2] 35)).cell? ⟨w.heap.size, 1, none⟩ = some (.string ax) := H3.out.2.1.cell 1 (by simp)
      have r2 : (w3.alloc (.cells #[.slice a1 (n2 a b).length c1, .slice a2 2 c2] 35)).cell? ⟨w.heap.size, 2, none⟩ = some (.bool af) := H3.out.2.1.cell 2 (by simp)
      have r3 : (w3.alloc (.cells #[.slice a1 (n2 a b).length c1, .slice a2 2 c2] 35)).cell? ⟨w.heap.size, 3, none⟩ = some (.slice aa al ap) := H3.out.2.1.cell 3 (by simp)
      go_wp2_with fail
      refine Calls.mono C4.out ?_
      rintro e w4 ⟨u4, r4, rfl, hb4, hd4⟩
      obtain ⟨a5, c5, a6, c6, rfl, rfl, hm5, _⟩ := hd4.forms
      rw [show (putTs [a] []).1.length = m2 a from rfl] at hm5 ⊢
      have hbD := bel_trans (bel_alloc (w3.alloc (.cells #[.slice a1 (n2 a b).length c1, .slice a2 2 c2] 35)) (.cells #[.string an, .string ax, .bool af, .slice aa al ap] 59)) hb4
      obtain ⟨B, hB1, hB2, hd⟩ := H3.out.2.2.2.2
      have C5 : Hid (Calls Try.prog 56 #[.agg #[.slice a1 (n2 a b).length c1, .slice a2 2 c2], .int .i64 (m2 a : Nat), .agg #[.string bn, .string bx, .bool bf, .slice ba bl bp]] w4 fun e w' => e = .returned (.int .i64 (vv (kf (m2 a)) (n2 a b) (q2 a b) : Nat)) ∧ Below w4.heap.size w4 w') := HGC.out w4 B _ _ _ (bel_trans H3.out.1 hbD) hB1 (Nat.le_trans hB2 hbD.size) (hd.still hbD)
      have x1 := H3.out.2.2.2.1.still hbD
      have x2 := H3.out.2.2.1.still hbD
      have d0 : w4.cell? ⟨w3.heap.size, 0, none⟩ = some (.slice a1 (n2 a b).length c1) := x1.cell 0 (by simp)
      have d1 : w4.cell? ⟨w3.heap.size, 1, none⟩ = some (.slice a2 2 c2) := x1.cell 1 (by simp)
      have s0 : w4.cell? ⟨w.heap.size + 1, 0, none⟩ = some (.string bn) := x2.cell 0 (by simp)
      have s1 : w4.cell? ⟨w.heap.size + 1, 1, none⟩ = some (.string bx) := x2.cell 1 (by simp)
      have s2 : w4.cell? ⟨w.heap.size + 1, 2, none⟩ = some (.bool bf) := x2.cell 2 (by simp)
      have s3 : w4.cell? ⟨w.heap.size + 1, 3, none⟩ = some (.slice ba bl bp) := x2.cell 3 (by simp)
      have H4 := (show Hid _ from bel_trans H3.out.1 hbD)
      clear x1 x2 hd hbD hd4 hb4 C4 H3 HGC r0 r1 r2 r3 hB1 hB2
      generalize vv (kf (m2 a)) (n2 a b) (q2 a b) = V at *
      generalize (n2 a b).length = N at *
      generalize m2 a = M at *
      unfold maxLen at hm5
      have hfd := run_field35
      go_wp2_with fail
      clear hfd
      refine Calls.mono C5.out ?_
      rintro e w5 ⟨rfl, hb5⟩
      have HE := (show Hid _ from bel_trans H4.out hb5)
      clear hb5
      go_wp2_with fail
      refine bodyPost_ret (v := .tuple #[.int .i64 (V : Nat), .int .i64 0]) (by simp [results, Try.results26, go_sem]) rfl ?_
      exact ⟨by rw [HF.out.1, HF.out.2], HE.out⟩
end Go.Proofs.Ytckpoggljpdeoaa
