import Derived.Test.YtblfeifedcddnaaVn
/-! The program: patch. -/
namespace Go.Proofs.Ytblfeifedcddnaa
open Go.RowKit Go.Deep Go.Lib
set_option linter.unusedVariables false
set_option maxRecDepth 100000
set_option linter.unusedSimpArgs false

abbrev o82_10_0 : Oper := { dst := some 34, op := Go.Op.fieldAddr 51 (Go.Operand.tmp 4) 0, type := 0, pos := "l15_merging.go:227", after := #[], guard := none }
abbrev o82_10_1 : Oper := { dst := some 35, op := Go.Op.load 9 (Go.Operand.tmp 34), type := 9, pos := "l15_merging.go:227", after := #[{ on := 0, ground := Go.Ground.data }], guard := none }
abbrev o82_10_2 : Oper := { dst := some 36, op := Go.Op.move (Go.Operand.tmp 8), type := 30, pos := "l15_merging.go:227", after := #[], guard := none }
abbrev o82_10_3 : Oper := { dst := some 37, op := Go.Op.build 51 #[(0, Go.Operand.tmp 35), (3, Go.Operand.tmp 36)], type := 51, pos := "l15_merging.go:227", after := #[{ on := 1, ground := Go.Ground.data }, { on := 2, ground := Go.Ground.data }], guard := none }
abbrev o82_10_4 : Oper := { dst := some 38, op := Go.Op.move (Go.Operand.tmp 9), type := 4, pos := "l15_merging.go:227", after := #[], guard := none }
abbrev o82_10_5 : Oper := { dst := some 39, op := Go.Op.move (Go.Operand.tmp 38), type := 4, pos := "l15_merging.go:227", after := #[{ on := 4, ground := Go.Ground.data }], guard := none }
abbrev o82_10_6 : Oper := { dst := some 40, op := Go.Op.fieldAddr 51 (Go.Operand.tmp 4) 2, type := 0, pos := "l15_merging.go:227", after := #[{ on := 5, ground := Go.Ground.guard }, { on := 10, ground := Go.Ground.gcOnly Go.Departure.lateStores }], guard := some (5, true) }
abbrev o82_10_7 : Oper := { dst := some 41, op := Go.Op.load 4 (Go.Operand.tmp 40), type := 4, pos := "l15_merging.go:227", after := #[{ on := 6, ground := Go.Ground.data }, { on := 5, ground := Go.Ground.guard }, { on := 10, ground := Go.Ground.gcOnly Go.Departure.lateStores }], guard := some (5, true) }
abbrev o82_10_8 : Oper := { dst := some 42, op := Go.Op.unOp Go.UnOp.not 4 (Go.Operand.tmp 41), type := 4, pos := "l15_merging.go:227", after := #[{ on := 7, ground := Go.Ground.data }, { on := 5, ground := Go.Ground.guard }, { on := 10, ground := Go.Ground.gcOnly Go.Departure.lateStores }], guard := some (5, true) }
abbrev o82_10_9 : Oper := { dst := some 43, op := Go.Op.pick (Go.Operand.tmp 39) (Go.Operand.tmp 42) (Go.Operand.const (Go.Value.bool false)), type := 4, pos := "l15_merging.go:227", after := #[{ on := 5, ground := Go.Ground.data }, { on := 8, ground := Go.Ground.data }, { on := 10, ground := Go.Ground.gcOnly Go.Departure.lateStores }], guard := none }
abbrev o82_10_10 : Oper := { dst := none, op := Go.Op.store 51 (Go.Operand.tmp 6) (Go.Operand.tmp 37), type := 0, pos := "l15_merging.go:227", after := #[{ on := 3, ground := Go.Ground.data }, { on := 5, ground := Go.Ground.chain }, { on := 0, ground := Go.Ground.phase }, { on := 1, ground := Go.Ground.phase }, { on := 2, ground := Go.Ground.phase }, { on := 3, ground := Go.Ground.phase }, { on := 4, ground := Go.Ground.textOnly Go.Departure.lateStores }, { on := 5, ground := Go.Ground.textOnly Go.Departure.lateStores }, { on := 6, ground := Go.Ground.textOnly Go.Departure.lateStores }, { on := 7, ground := Go.Ground.textOnly Go.Departure.lateStores }, { on := 8, ground := Go.Ground.textOnly Go.Departure.lateStores }, { on := 9, ground := Go.Ground.textOnly Go.Departure.lateStores }], guard := none }
abbrev o82_10_11 : Oper := { dst := some 7, op := Go.Op.assign (Go.Operand.tmp 43), type := 4, pos := "l15_merging.go:227", after := #[{ on := 9, ground := Go.Ground.data }, { on := 10, ground := Go.Ground.chain }, { on := 0, ground := Go.Ground.phase }, { on := 1, ground := Go.Ground.phase }, { on := 2, ground := Go.Ground.phase }, { on := 3, ground := Go.Ground.phase }, { on := 4, ground := Go.Ground.phase }, { on := 5, ground := Go.Ground.phase }, { on := 6, ground := Go.Ground.phase }, { on := 7, ground := Go.Ground.phase }, { on := 8, ground := Go.Ground.phase }, { on := 9, ground := Go.Ground.phase }, { on := 10, ground := Go.Ground.phase }], guard := none }
/-- The answer's cells are set at the end. -/
theorem IpA.of {C gb n0 n D : Nat} {r : Option Tr} {w w1 : World} {T : Tr} {a : Option Addr} {m c : Nat} {B : Bool} (hb : But gb w w1) (bx : Box w1 gb 119 [.int .i64 n]) (hgl : gb < w.heap.size) (hl : Lies w1 (fun q => q < C ∨ w.heap.size + 3 ≤ q) T (.slice a m c)) (hC : C ≤ w.heap.size) (hn : n ≤ n0 + D) (h1 : B = true → ∃ T0, r = some T0 ∧ QT n0 n T0 T) (h2 : B = false → r = none) (x0 x1 x2 x3 : Value) :
    IpA C gb n0 D r w (.returned (.tuple #[.agg #[.string T.name, .string T.text, .bool T.leaf, .slice a m c], .bool B])) ((((w1.setCell ⟨w.heap.size + 1 + 1, 0, none⟩ x0).setCell ⟨w.heap.size + 1 + 1, 1, none⟩ x1).setCell ⟨w.heap.size + 1 + 1, 2, none⟩ x2).setCell ⟨w.heap.size + 1 + 1, 3, none⟩ x3) := by
  have hg : gb ≠ w.heap.size + 1 + 1 := by omega
  refine ⟨T, _, B, n, rfl, (((hb.setNew (by omega) _).setNew (by omega) _).setNew (by omega) _).setNew (by omega) _, (((bx.past hg).past hg).past hg).past hg, ?_, hn, h1, h2⟩
  refine Lies.mono (S := fun q => q < C ∨ w.heap.size + 3 ≤ q) (fun q hq => by omega) (Lies.keep (w := w1) (fun q hq => ?_) hl)
  have e2 : q ≠ w.heap.size + 1 + 1 := by omega
  exact (blk_setCell_other _ _ _ _ e2).trans ((blk_setCell_other _ _ _ _ e2).trans ((blk_setCell_other _ _ _ _ e2).trans (blk_setCell_other _ _ _ _ e2)))
theorem pa_right {d : De} {a T : Tr} (h : pa d a = some T) (h4 : ¬ d.kind = 3) : arB d = true := by
  obtain ⟨c, t, k⟩ := d
  rw [pa_mk] at h
  dsimp only at h4
  unfold arB
  dsimp only
  by_cases h1 : c = 1
  · subst h1
    rw [if_pos rfl] at h
    split at h
    · rename_i hh
      simpa using hh
    · cases h
  · by_cases h2 : c = 2
    · subst h2
      rw [if_neg (by decide), if_pos rfl] at h
      split at h
      · rename_i hh
        simpa using hh
      · cases h
    · rw [if_neg h1, if_neg h2, if_neg h4] at h
      cases h
set_option maxHeartbeats 6400000 in
theorem patch82 (W0 : World) (d : De) : ∀ (a : Tr) (v tv kv : Value) (w : World) (gb n : Nat), Lies W0 (fun _ => True) a v → DLies W0 (fun _ => True) d tv kv → Below W0.heap.size W0 w → W0.heap.size ≤ gb → Box w gb 119 [.int .i64 n] → n + d.wt ≤ 1099511627776 → d.wt ≤ 1048576 →
    Calls Try.prog 82 #[.pointer (some ⟨gb, 0, none⟩), a.val v, d.val tv kv] w (IpA W0.heap.size gb n d.wt (pa d a) w) := by
  refine De.ind (P := fun d => ∀ (a : Tr) (v tv kv : Value) (w : World) (gb n : Nat), Lies W0 (fun _ => True) a v → DLies W0 (fun _ => True) d tv kv → Below W0.heap.size W0 w → W0.heap.size ≤ gb → Box w gb 119 [.int .i64 n] → n + d.wt ≤ 1099511627776 → d.wt ≤ 1048576 → Calls Try.prog 82 #[.pointer (some ⟨gb, 0, none⟩), a.val v, d.val tv kv] w (IpA W0.heap.size gb n d.wt (pa d a) w)) ?_ d
  intro c t k ih a v tv kv w gb n ha hd hb hg hbx hn hwt
  have hgl := hbx.lt
  have hC := hb.size
  obtain ⟨hbW, bA, bD, bR⟩ := w79_box w a v ⟨c, t, k⟩ tv kv
  obtain ⟨aa, acap, ab, aoff, asv, hav, hn0, hx0, hac, ham, haa, hacell, hakid⟩ := ha.out
  obtain ⟨ht, ka, kp, kb, koff, kts, kks, hkv, hkc, hkm, hka, hkcell, hkkid⟩ := hd.out
  dsimp only at hac hkc hka hkcell hkkid hkv ht hav hn0 haa hacell hakid
  have HRT := (show Hid (∀ wq, Below w.heap.size w wq → Calls Try.prog 109 #[(De.mk c t k).val tv kv] wq fun e w' => e = .returned (.bool (arB ⟨c, t, k⟩)) ∧ Below wq.heap.size wq w') from fun wq h => right109 _ _ _ wq (hd.still (hb.trans (h.mono hC))))
  have HLA := (show Hid (∀ wq, Below w.heap.size w wq → Lies wq (fun q => q < W0.heap.size ∨ w.heap.size + 3 ≤ q) a v) from fun wq h => Lies.mono (S := fun q => True ∧ q < W0.heap.size) (fun q hq => .inl hq.2) (Lies.keep (w := W0) (fun q hq => (hb.trans (h.mono hC)).block q hq.2) ha.lt))
  have HLT := (show Hid (∀ wq, Below w.heap.size w wq → Lies wq (fun q => q < W0.heap.size ∨ w.heap.size + 3 ≤ q) t tv) from fun wq h => Lies.mono (S := fun q => True ∧ q < W0.heap.size) (fun q hq => .inl hq.2) (Lies.keep (w := W0) (fun q hq => (hb.trans (h.mono hC)).block q hq.2) ht.lt))
  rw [De.wt_mk] at hn hwt
  have HPK := (show Hid (∀ wq, Below w.heap.size w wq → Calls Try.prog 110 #[.pointer (some ⟨gb, 0, none⟩), .slice aa a.kids.length acap, .slice ka k.length kp] wq (PkA W0.heap.size gb n k a.kids wq)) from fun wq h => pkids110 W0 k a.kids ka kp kb koff kts kks aa acap ab aoff asv wq gb n hkc hkm (fun h0 => (hka h0).1) hkcell hkkid hac ham (fun h0 => (haa h0).1) hacell hakid (hb.trans (h.mono hC)) hg (hbx.still h) (by omega) (by omega) ih)
  obtain ⟨ta, tl, tp, rfl⟩ := ht.form
  subst hav hkv
  have HNM := (show Hid (a.name.size ≤ maxLen) from hn0)
  have HB := (show Hid _ from hb)
  have HBG := (show Hid _ from hbx)
  have HBX := (show Hid _ from (⟨hbW, bA, bD, bR⟩ : _ ∧ _ ∧ _ ∧ _))
  have HPA := (show Hid _ from pa_mk c t k a)
  have HW := (show Hid ((De.mk c t k).wt = t.wt + (k.length + De.wtL k)) from De.wt_mk c t k)
  have HFN := (show Hid (∀ (w1 : World) (T : Tr) (ua : Option Addr) (ul up : Nat) (B : Bool), Below w.heap.size w w1 → Lies w1 (fun q => q < W0.heap.size ∨ w.heap.size + 3 ≤ q) T (.slice ua ul up) → (B = true → ∃ T0, pa ⟨c, t, k⟩ a = some T0 ∧ QT n n T0 T) → (B = false → pa ⟨c, t, k⟩ a = none) → ∀ x0 x1 x2 x3, IpA W0.heap.size gb n (De.mk c t k).wt (pa ⟨c, t, k⟩ a) w (.returned (.tuple #[.agg #[.string T.name, .string T.text, .bool T.leaf, .slice ua ul up], .bool B])) ((((w1.setCell ⟨w.heap.size + 1 + 1, 0, none⟩ x0).setCell ⟨w.heap.size + 1 + 1, 1, none⟩ x1).setCell ⟨w.heap.size + 1 + 1, 2, none⟩ x2).setCell ⟨w.heap.size + 1 + 1, 3, none⟩ x3)) from fun w1 T ua ul up B h1 h2 h3 h4 x0 x1 x2 x3 => IpA.of (But.of_below h1) (HBG.out.still h1) hgl h2 hC (by omega) h3 h4 x0 x1 x2 x3)
  clear ha hd hb bA bD bR hbW hka hkcell hkkid haa hacell hakid hn0 hx0 ht ham hkm ih hbx
  simp only [Tr.val, De.val] at HRT HBX ⊢
  have HC1 := (show Hid _ from HRT.out _ HBX.out.1)
  clear HRT
  cases har : arB ⟨c, t, k⟩
  · have HNO := (show Hid (pa ⟨c, t, k⟩ a = none) from (by
      show _ = _
      cases hp : pa ⟨c, t, k⟩ a with
      | none => rfl
      | some T =>
        exfalso
        by_cases h3 : c = 3
        · subst h3
          have hz : zeB t = false := by unfold arB at har; simpa using har
          rw [HPA.out, hz] at hp
          simp at hp
        · have := pa_right hp h3
          rw [har] at this
          cases this))
    rw [har] at HC1
    have HE := (show Hid _ from fun w1 h => HFN.out w1 noTr none 0 0 false h (lies_no _ _) (fun h => absurd h (by simp)) (fun _ => HNO.out))
    clear HPK HLA HLT HPA HFN HNO har HNM HB HBG HW
    go_enter Try.func82, Try.ntmps82
    go_wp2_with fail
    refine Calls.mono HC1.out ?_
    rintro e w1 ⟨rfl, hb1⟩
    have hbr := HBX.out.2.2.2.still hb1
    have r0 : w1.cell? ⟨w.heap.size + 1 + 1, 0, none⟩ = some (.string ⟨#[]⟩) := hbr.cell 0 (by simp)
    have r1 : w1.cell? ⟨w.heap.size + 1 + 1, 1, none⟩ = some (.string ⟨#[]⟩) := hbr.cell 1 (by simp)
    have r2 : w1.cell? ⟨w.heap.size + 1 + 1, 2, none⟩ = some (.bool false) := hbr.cell 2 (by simp)
    have r3 : w1.cell? ⟨w.heap.size + 1 + 1, 3, none⟩ = some (.slice none 0 0) := hbr.cell 3 (by simp)
    have fr0 := hbr.frozen 0
    have fr1 := hbr.frozen 1
    have fr2 := hbr.frozen 2
    have fr3 := hbr.frozen 3
    have HF := (show Hid _ from HE.out w1 (bel_trans HBX.out.1 hb1))
    clear hb1 hbr HE HBX HC1
    go_wp2_with fail
    refine bodyPost_ret (v := .tuple #[.agg #[.string ⟨#[]⟩, .string ⟨#[]⟩, .bool false, .slice none 0 0], .bool false]) (by simp [results, Try.results82, go_sem, r0, r1, r2, r3]) rfl ?_
    exact HF.out _ _ _ _
  · rw [har] at HC1
    go_enter Try.func82, Try.ntmps82
    go_wp2_with fail
    refine Calls.mono HC1.out ?_
    rintro e w1 ⟨rfl, hb1⟩
    have HB1 := (show Hid (Below w.heap.size w w1) from bel_trans HBX.out.1 hb1)
    have hba := HBX.out.2.1.still hb1
    have hbd := HBX.out.2.2.1.still hb1
    have hbr := HBX.out.2.2.2.still hb1
    have a0 : w1.cell? ⟨w.heap.size, 0, none⟩ = some (.string a.name) := hba.cell 0 (by simp)
    have a1 : w1.cell? ⟨w.heap.size, 1, none⟩ = some (.string a.text) := hba.cell 1 (by simp)
    have a2 : w1.cell? ⟨w.heap.size, 2, none⟩ = some (.bool a.leaf) := hba.cell 2 (by simp)
    have a3 : w1.cell? ⟨w.heap.size, 3, none⟩ = some (.slice aa a.kids.length acap) := hba.cell 3 (by simp)
    have b0 : w1.cell? ⟨w.heap.size + 1, 0, none⟩ = some (.int .i64 c) := hbd.cell 0 (by simp)
    have b1 : w1.cell? ⟨w.heap.size + 1, 1, none⟩ = some (.string t.name) := hbd.cell 1 (by simp)
    have b2 : w1.cell? ⟨w.heap.size + 1, 2, none⟩ = some (.string t.text) := hbd.cell 2 (by simp)
    have b3 : w1.cell? ⟨w.heap.size + 1, 3, none⟩ = some (.bool t.leaf) := hbd.cell 3 (by simp)
    have b4 : w1.cell? ⟨w.heap.size + 1, 4, none⟩ = some (.slice ta tl tp) := hbd.cell 4 (by simp)
    have b5 : w1.cell? ⟨w.heap.size + 1, 5, none⟩ = some (.slice ka k.length kp) := hbd.cell 5 (by simp)
    have r0 : w1.cell? ⟨w.heap.size + 1 + 1, 0, none⟩ = some (.string ⟨#[]⟩) := hbr.cell 0 (by simp)
    have r1 : w1.cell? ⟨w.heap.size + 1 + 1, 1, none⟩ = some (.string ⟨#[]⟩) := hbr.cell 1 (by simp)
    have r2 : w1.cell? ⟨w.heap.size + 1 + 1, 2, none⟩ = some (.bool false) := hbr.cell 2 (by simp)
    have r3 : w1.cell? ⟨w.heap.size + 1 + 1, 3, none⟩ = some (.slice none 0 0) := hbr.cell 3 (by simp)
    have fr0 := hbr.frozen 0
    have fr1 := hbr.frozen 1
    have fr2 := hbr.frozen 2
    have fr3 := hbr.frozen 3
    have HBA1 := (show Hid _ from hba)
    have HBR1 := (show Hid _ from hbr)
    have hsz := hbr.lt
    clear hb1 hba hbd hbr HC1 HBX
    by_cases h1 : c = 1
    · subst h1
      have hze : (zeB t && k.isEmpty) = true := by unfold arB at har; simpa using har
      have HP := (show Hid (pa ⟨1, t, k⟩ a = some a) from HPA.out.trans (by rw [if_pos rfl, if_pos hze]))
      have HF := (show Hid _ from HFN.out w1 a aa a.kids.length acap true HB1.out (HLA.out w1 HB1.out) (fun _ => ⟨a, HP.out, QT.same _ _⟩) (fun h => absurd h (by simp)))
      clear HPK HLA HLT HPA HFN HP har hze HNM HB HBG HW
      go_wp2_with fail
      refine bodyPost_ret (v := .tuple #[.agg #[.string a.name, .string a.text, .bool a.leaf, .slice aa a.kids.length acap], .bool true]) (by simp [results, Try.results82, go_sem, r0, r1, r2, r3]) rfl ?_
      exact HF.out _ _ _ _
    by_cases h2 : c = 2
    · subst h2
      have hze : (t.ok && k.isEmpty) = true := by unfold arB at har; simpa using har
      have HP := (show Hid (pa ⟨2, t, k⟩ a = some t) from HPA.out.trans (by rw [if_neg (by decide), if_pos rfl, if_pos hze]))
      have HF := (show Hid _ from HFN.out w1 t ta tl tp true HB1.out (HLT.out w1 HB1.out) (fun _ => ⟨t, HP.out, QT.same _ _⟩) (fun h => absurd h (by simp)))
      clear HPK HLA HLT HPA HFN HP har hze HNM HB HBG HW h1
      go_wp2_with fail
      refine bodyPost_ret (v := .tuple #[.agg #[.string t.name, .string t.text, .bool t.leaf, .slice ta tl tp], .bool true]) (by simp [results, Try.results82, go_sem, r0, r1, r2, r3]) rfl ?_
      exact HF.out _ _ _ _
    by_cases h3 : c = 3
    · subst h3
      have hze : zeB t = true := by unfold arB at har; simpa using har
      have HPA3 := (show Hid (pa ⟨3, t, k⟩ a = if a.leaf = true then none else (match paJ k a.kids k.length with | some s => if s.2 = a.kids.length then some ⟨a.name, ByteArray.empty, false, s.1⟩ else none | none => none)) from HPA.out.trans (by rw [if_neg (by decide), if_neg (by decide), if_pos rfl, hze]; cases a.leaf <;> rfl))
      have HC2 := (show Hid _ from HPK.out w1 HB1.out)
      clear HPK HLA HLT HPA HFN har hze
      go_wp2_with fail
      refine Calls.mono HC2.out ?_
      rintro e w2 ⟨ua, up, m', B, n2, rfl, hik, hn2, hB1, hB2⟩
      have hgA : ∀ q, q < w1.heap.size → q ≠ gb → w2.heap[q]? = w1.heap[q]? := fun q hq hp => hik.but.block hq hp
      have hba2 := HBA1.out.keep (hgA _ HBA1.out.lt (by omega))
      have hbr2 := HBR1.out.keep (hgA _ HBR1.out.lt (by omega))
      clear a0 a1 a2 a3 r0 r1 r2 r3 fr0 fr1 fr2 fr3
      have HFN3 := (show Hid (∀ (BB : Bool), (BB = true → ∃ T0, pa ⟨3, t, k⟩ a = some T0 ∧ QT n n2 T0 ⟨a.name, ByteArray.empty, false, m'⟩) → (BB = false → pa ⟨3, t, k⟩ a = none) → ∀ x0 x1 x2 x3, IpA W0.heap.size gb n (De.mk 3 t k).wt (pa ⟨3, t, k⟩ a) w (.returned (.tuple #[.agg #[.string a.name, .string ⟨#[]⟩, .bool false, .slice ua m'.length up], .bool BB])) ((((w2.drew.setCell ⟨w.heap.size + 1 + 1, 0, none⟩ x0).setCell ⟨w.heap.size + 1 + 1, 1, none⟩ x1).setCell ⟨w.heap.size + 1 + 1, 2, none⟩ x2).setCell ⟨w.heap.size + 1 + 1, 3, none⟩ x3)) from fun BB g1 g2 x0 x1 x2 x3 => by
        have hdr := (Below.refl w2.heap.size w2).drew
        have hs1 := HB1.out.size
        refine IpA.of (T := ⟨a.name, ByteArray.empty, false, m'⟩) ((But.of_below HB1.out).trans (hik.but.trans (But.of_below hdr))) (hik.box.still hdr) hgl ((Lies.mono (fun q h => ?_) (FGr.done (n := a.name) (x := ByteArray.empty) (le := false) hik.fg HNM.out (Nat.zero_le _))).still hdr) hC (by rw [HW.out]; omega) g1 g2 x0 x1 x2 x3
        omega)
      have hS0 : w2.drew.cell? ⟨w.heap.size, 0, none⟩ = some (.string a.name) ∧ w2.drew.cell? ⟨w.heap.size, 2, none⟩ = some (.bool a.leaf) := ⟨hba2.cell 0 (by simp), hba2.cell 2 (by simp)⟩
      have hbq := (((((hba2.still (Below.refl w2.heap.size w2).drew)).past (q := w.heap.size + 1 + 1) (o := 0) (u := .string a.name) (by omega)).past (q := w.heap.size + 1 + 1) (o := 1) (u := .string ⟨#[]⟩) (by omega)).past (q := w.heap.size + 1 + 1) (o := 2) (u := .bool false) (by omega)).past (q := w.heap.size + 1 + 1) (o := 3) (u := .slice ua m'.length up) (by omega)
      have hS1 : ((((w2.drew.setCell ⟨w.heap.size + 1 + 1, 0, none⟩ (.string a.name)).setCell ⟨w.heap.size + 1 + 1, 1, none⟩ (.string ⟨#[]⟩)).setCell ⟨w.heap.size + 1 + 1, 2, none⟩ (.bool false)).setCell ⟨w.heap.size + 1 + 1, 3, none⟩ (.slice ua m'.length up)).cell? ⟨w.heap.size, 0, none⟩ = some (.string a.name) ∧ ((((w2.drew.setCell ⟨w.heap.size + 1 + 1, 0, none⟩ (.string a.name)).setCell ⟨w.heap.size + 1 + 1, 1, none⟩ (.string ⟨#[]⟩)).setCell ⟨w.heap.size + 1 + 1, 2, none⟩ (.bool false)).setCell ⟨w.heap.size + 1 + 1, 3, none⟩ (.slice ua m'.length up)).cell? ⟨w.heap.size, 2, none⟩ = some (.bool a.leaf) := ⟨hbq.cell 0 (by simp), hbq.cell 2 (by simp)⟩
      have r0 : w2.cell? ⟨w.heap.size + 1 + 1, 0, none⟩ = some (.string ⟨#[]⟩) := hbr2.cell 0 (by simp)
      have r1 : w2.cell? ⟨w.heap.size + 1 + 1, 1, none⟩ = some (.string ⟨#[]⟩) := hbr2.cell 1 (by simp)
      have r2 : w2.cell? ⟨w.heap.size + 1 + 1, 2, none⟩ = some (.bool false) := hbr2.cell 2 (by simp)
      have r3 : w2.cell? ⟨w.heap.size + 1 + 1, 3, none⟩ = some (.slice none 0 0) := hbr2.cell 3 (by simp)
      have fr0 := hbr2.frozen 0
      have fr1 := hbr2.frozen 1
      have fr2 := hbr2.frozen 2
      have fr3 := hbr2.frozen 3
      have g0 : w2.drew.cell? ⟨w.heap.size + 1 + 1, 0, none⟩ = some (.string ⟨#[]⟩) := r0
      have g1 : w2.drew.cell? ⟨w.heap.size + 1 + 1, 1, none⟩ = some (.string ⟨#[]⟩) := r1
      have g2 : w2.drew.cell? ⟨w.heap.size + 1 + 1, 2, none⟩ = some (.bool false) := r2
      have g3 : w2.drew.cell? ⟨w.heap.size + 1 + 1, 3, none⟩ = some (.slice none 0 0) := r3
      have p0 : w2.drew.frozen? ⟨w.heap.size + 1 + 1, 0, none⟩ = false := fr0
      have p1 : w2.drew.frozen? ⟨w.heap.size + 1 + 1, 1, none⟩ = false := fr1
      have p2 : w2.drew.frozen? ⟨w.heap.size + 1 + 1, 2, none⟩ = false := fr2
      have p3 : w2.drew.frozen? ⟨w.heap.size + 1 + 1, 3, none⟩ = false := fr3
      have HQQ := (show Hid _ from (⟨hB1, hB2⟩ : _ ∧ _))
      clear hbq hik hgA hba2 hbr2 hn2 hB1 hB2 HBA1 HBR1 HB1 HC2 HBG HB HNM HW
      cases B
      · have HF := (show Hid _ from HFN3.out false (fun h => absurd h (by simp)) (fun _ => HPA3.out.trans (by
          cases a.leaf
          · simp
            cases hp : paJ k a.kids k.length with
            | none => rfl
            | some s => exact if_neg (HQQ.out.2 rfl s hp)
          · rfl)))
        clear HFN3 HPA3 HQQ
        go_wp2_with fail
        refine wp_region_held_drew (S := (fun wq => wq.cell? ⟨w.heap.size, 0, none⟩ = some (.string a.name) ∧ wq.cell? ⟨w.heap.size, 2, none⟩ = some (.bool a.leaf))) (by kernel_rfl) hS0 (fun hHeld => ?_)
        refine wpAnyH_take (i := 0) (oi := o82_10_0) (v := ?v1) rfl (by kernel_rfl) (by kernel_rfl) (by kernel_rfl) (fun _ _ _ h => h) (Or.inl ⟨by rfl, ?h1⟩) hHeld ?r1
        case h1 => (intro w hSw; (try dsimp only at hSw); go_simp; try with_reducible rfl)
        try simp only [Act.put, List.setIfInBounds_toArray, List.set_cons_zero, List.set_cons_succ]
        refine wpAnyH_take (i := 1) (oi := o82_10_1) (v := ?v2) rfl (by kernel_rfl) (by kernel_rfl) (by kernel_rfl) (fun _ _ _ h => h) (Or.inl ⟨by rfl, ?h2⟩) hHeld ?r2
        case h2 => (intro w hSw; (try dsimp only at hSw); go_simp; try with_reducible rfl)
        try simp only [Act.put, List.setIfInBounds_toArray, List.set_cons_zero, List.set_cons_succ]
        refine wpAnyH_take (i := 2) (oi := o82_10_2) (v := ?v3) rfl (by kernel_rfl) (by kernel_rfl) (by kernel_rfl) (fun _ _ _ h => h) (Or.inl ⟨by rfl, ?h3⟩) hHeld ?r3
        case h3 => (intro w hSw; (try dsimp only at hSw); go_simp; try with_reducible rfl)
        try simp only [Act.put, List.setIfInBounds_toArray, List.set_cons_zero, List.set_cons_succ]
        refine wpAnyH_take (i := 3) (oi := o82_10_3) (v := ?v4) rfl (by kernel_rfl) (by kernel_rfl) (by kernel_rfl) (fun _ _ _ h => h) (Or.inl ⟨by rfl, ?h4⟩) hHeld ?r4
        case h4 => (intro w hSw; (try dsimp only at hSw); go_simp; try with_reducible rfl)
        try simp only [Act.put, List.setIfInBounds_toArray, List.set_cons_zero, List.set_cons_succ]
        refine wpAnyH_take (i := 4) (oi := o82_10_4) (v := ?v5) rfl (by kernel_rfl) (by kernel_rfl) (by kernel_rfl) (fun _ _ _ h => h) (Or.inl ⟨by rfl, ?h5⟩) hHeld ?r5
        case h5 => (intro w hSw; (try dsimp only at hSw); go_simp; try with_reducible rfl)
        try simp only [Act.put, List.setIfInBounds_toArray, List.set_cons_zero, List.set_cons_succ]
        refine wpAnyH_take (i := 5) (oi := o82_10_5) (v := ?v6) rfl (by kernel_rfl) (by kernel_rfl) (by kernel_rfl) (fun _ _ _ h => h) (Or.inl ⟨by rfl, ?h6⟩) hHeld ?r6
        case h6 => (intro w hSw; (try dsimp only at hSw); go_simp; try with_reducible rfl)
        try simp only [Act.put, List.setIfInBounds_toArray, List.set_cons_zero, List.set_cons_succ]
        refine wpAnyH_take (i := 6) (oi := o82_10_6) (v := undef) rfl (by kernel_rfl) (by kernel_rfl) (by kernel_rfl) (fun _ _ _ h => h) (Or.inr ⟨by rfl, rfl⟩) hHeld ?_
        try simp only [Act.put, List.setIfInBounds_toArray, List.set_cons_zero, List.set_cons_succ]
        refine wpAnyH_take (i := 7) (oi := o82_10_7) (v := undef) rfl (by kernel_rfl) (by kernel_rfl) (by kernel_rfl) (fun _ _ _ h => h) (Or.inr ⟨by rfl, rfl⟩) hHeld ?_
        try simp only [Act.put, List.setIfInBounds_toArray, List.set_cons_zero, List.set_cons_succ]
        refine wpAnyH_take (i := 8) (oi := o82_10_8) (v := undef) rfl (by kernel_rfl) (by kernel_rfl) (by kernel_rfl) (fun _ _ _ h => h) (Or.inr ⟨by rfl, rfl⟩) hHeld ?_
        try simp only [Act.put, List.setIfInBounds_toArray, List.set_cons_zero, List.set_cons_succ]
        refine wpAnyH_take (i := 9) (oi := o82_10_9) (v := ?v7) rfl (by kernel_rfl) (by kernel_rfl) (by kernel_rfl) (fun _ _ _ h => h) (Or.inl ⟨by rfl, ?h7⟩) hHeld ?r7
        case h7 => (intro w hSw; (try dsimp only at hSw); go_simp; try with_reducible rfl)
        try simp only [Act.put, List.setIfInBounds_toArray, List.set_cons_zero, List.set_cons_succ]
        refine wpAnyH_ready (rs := [10]) (by kernel_rfl) (by simp) ?_
        refine (AllReadyH.cons (o := o82_10_10) rfl (fun K hK => ?_) AllReadyH.nil)
        go_simp
        clear hHeld
        refine hK.out _ _ hS1 (fun hHeld => ?_)
        clear hK K
        try simp only [Act.put, List.setIfInBounds_toArray, List.set_cons_zero, List.set_cons_succ]
        refine wpAnyH_ready (rs := [11]) (by kernel_rfl) (by simp) ?_
        refine (AllReadyH.cons (o := o82_10_11) rfl (fun K hK => ?_) AllReadyH.nil)
        go_simp
        clear hHeld
        refine hK.out _ _ hS1 (fun hHeld => ?_)
        clear hK K
        try simp only [Act.put, List.setIfInBounds_toArray, List.set_cons_zero, List.set_cons_succ]
        refine wpAnyH_done (by kernel_rfl) ?_ _
        clear hHeld hS0 hS1
        go_wp2_with fail
        refine bodyPost_ret (v := .tuple #[.agg #[.string a.name, .string ⟨#[]⟩, .bool false, .slice ua m'.length up], .bool false]) (by simp [results, Try.results82, go_sem, r0, r1, r2, r3]) rfl ?_
        exact HF.out _ _ _ _
      · have HF := (show Hid _ from HFN3.out (!a.leaf) (fun h => by
          obtain ⟨s, hs1, hs2, hs3⟩ := HQQ.out.1 rfl
          have hl : a.leaf = false := by simpa using h
          exact ⟨⟨a.name, ByteArray.empty, false, s.1⟩, HPA3.out.trans (by rw [hl, hs1]; simp [hs2]), hs3.node _⟩) (fun h => by
          have hl : a.leaf = true := by simpa using h
          exact HPA3.out.trans (by rw [hl]; rfl)))
        clear HFN3 HPA3 HQQ
        go_wp2_with fail
        refine wp_region_held_drew (S := (fun wq => wq.cell? ⟨w.heap.size, 0, none⟩ = some (.string a.name) ∧ wq.cell? ⟨w.heap.size, 2, none⟩ = some (.bool a.leaf))) (by kernel_rfl) hS0 (fun hHeld => ?_)
        refine wpAnyH_take (i := 0) (oi := o82_10_0) (v := ?v8) rfl (by kernel_rfl) (by kernel_rfl) (by kernel_rfl) (fun _ _ _ h => h) (Or.inl ⟨by rfl, ?h8⟩) hHeld ?r8
        case h8 => (intro w hSw; (try dsimp only at hSw); go_simp; try with_reducible rfl)
        try simp only [Act.put, List.setIfInBounds_toArray, List.set_cons_zero, List.set_cons_succ]
        refine wpAnyH_take (i := 1) (oi := o82_10_1) (v := ?v9) rfl (by kernel_rfl) (by kernel_rfl) (by kernel_rfl) (fun _ _ _ h => h) (Or.inl ⟨by rfl, ?h9⟩) hHeld ?r9
        case h9 => (intro w hSw; (try dsimp only at hSw); go_simp; try with_reducible rfl)
        try simp only [Act.put, List.setIfInBounds_toArray, List.set_cons_zero, List.set_cons_succ]
        refine wpAnyH_take (i := 2) (oi := o82_10_2) (v := ?v10) rfl (by kernel_rfl) (by kernel_rfl) (by kernel_rfl) (fun _ _ _ h => h) (Or.inl ⟨by rfl, ?h10⟩) hHeld ?r10
        case h10 => (intro w hSw; (try dsimp only at hSw); go_simp; try with_reducible rfl)
        try simp only [Act.put, List.setIfInBounds_toArray, List.set_cons_zero, List.set_cons_succ]
        refine wpAnyH_take (i := 3) (oi := o82_10_3) (v := ?v11) rfl (by kernel_rfl) (by kernel_rfl) (by kernel_rfl) (fun _ _ _ h => h) (Or.inl ⟨by rfl, ?h11⟩) hHeld ?r11
        case h11 => (intro w hSw; (try dsimp only at hSw); go_simp; try with_reducible rfl)
        try simp only [Act.put, List.setIfInBounds_toArray, List.set_cons_zero, List.set_cons_succ]
        refine wpAnyH_take (i := 4) (oi := o82_10_4) (v := ?v12) rfl (by kernel_rfl) (by kernel_rfl) (by kernel_rfl) (fun _ _ _ h => h) (Or.inl ⟨by rfl, ?h12⟩) hHeld ?r12
        case h12 => (intro w hSw; (try dsimp only at hSw); go_simp; try with_reducible rfl)
        try simp only [Act.put, List.setIfInBounds_toArray, List.set_cons_zero, List.set_cons_succ]
        refine wpAnyH_take (i := 5) (oi := o82_10_5) (v := ?v13) rfl (by kernel_rfl) (by kernel_rfl) (by kernel_rfl) (fun _ _ _ h => h) (Or.inl ⟨by rfl, ?h13⟩) hHeld ?r13
        case h13 => (intro w hSw; (try dsimp only at hSw); go_simp; try with_reducible rfl)
        try simp only [Act.put, List.setIfInBounds_toArray, List.set_cons_zero, List.set_cons_succ]
        refine wpAnyH_take (i := 6) (oi := o82_10_6) (v := ?v14) rfl (by kernel_rfl) (by kernel_rfl) (by kernel_rfl) (fun _ _ _ h => h) (Or.inl ⟨by rfl, ?h14⟩) hHeld ?r14
        case h14 => (intro w hSw; (try dsimp only at hSw); go_simp; try with_reducible rfl)
        try simp only [Act.put, List.setIfInBounds_toArray, List.set_cons_zero, List.set_cons_succ]
        refine wpAnyH_take (i := 7) (oi := o82_10_7) (v := ?v15) rfl (by kernel_rfl) (by kernel_rfl) (by kernel_rfl) (fun _ _ _ h => h) (Or.inl ⟨by rfl, ?h15⟩) hHeld ?r15
        case h15 => (intro w hSw; (try dsimp only at hSw); go_simp; try with_reducible rfl)
        try simp only [Act.put, List.setIfInBounds_toArray, List.set_cons_zero, List.set_cons_succ]
        refine wpAnyH_take (i := 8) (oi := o82_10_8) (v := ?v16) rfl (by kernel_rfl) (by kernel_rfl) (by kernel_rfl) (fun _ _ _ h => h) (Or.inl ⟨by rfl, ?h16⟩) hHeld ?r16
        case h16 => (intro w hSw; (try dsimp only at hSw); go_simp; try with_reducible rfl)
        try simp only [Act.put, List.setIfInBounds_toArray, List.set_cons_zero, List.set_cons_succ]
        refine wpAnyH_take (i := 9) (oi := o82_10_9) (v := ?v17) rfl (by kernel_rfl) (by kernel_rfl) (by kernel_rfl) (fun _ _ _ h => h) (Or.inl ⟨by rfl, ?h17⟩) hHeld ?r17
        case h17 => (intro w hSw; (try dsimp only at hSw); go_simp; try with_reducible rfl)
        try simp only [Act.put, List.setIfInBounds_toArray, List.set_cons_zero, List.set_cons_succ]
        refine wpAnyH_ready (rs := [10]) (by kernel_rfl) (by simp) ?_
        refine (AllReadyH.cons (o := o82_10_10) rfl (fun K hK => ?_) AllReadyH.nil)
        go_simp
        clear hHeld
        refine hK.out _ _ hS1 (fun hHeld => ?_)
        clear hK K
        try simp only [Act.put, List.setIfInBounds_toArray, List.set_cons_zero, List.set_cons_succ]
        refine wpAnyH_ready (rs := [11]) (by kernel_rfl) (by simp) ?_
        refine (AllReadyH.cons (o := o82_10_11) rfl (fun K hK => ?_) AllReadyH.nil)
        go_simp
        clear hHeld
        refine hK.out _ _ hS1 (fun hHeld => ?_)
        clear hK K
        try simp only [Act.put, List.setIfInBounds_toArray, List.set_cons_zero, List.set_cons_succ]
        refine wpAnyH_done (by kernel_rfl) ?_ _
        clear hHeld hS0 hS1
        go_wp2_with fail
        refine bodyPost_ret (v := .tuple #[.agg #[.string a.name, .string ⟨#[]⟩, .bool false, .slice ua m'.length up], .bool (!a.leaf)]) (by simp [results, Try.results82, go_sem, r0, r1, r2, r3]) rfl ?_
        exact HF.out _ _ _ _
    have i1 : (c == 1) = false := by simpa using h1
    have i2 : (c == 2) = false := by simpa using h2
    have i3 : (c == 3) = false := by simpa using h3
    have HNO := (show Hid (pa ⟨c, t, k⟩ a = none) from HPA.out.trans (by rw [if_neg h1, if_neg h2, if_neg h3]))
    have HF := (show Hid _ from HFN.out w1 noTr none 0 0 false HB1.out (lies_no _ _) (fun h => absurd h (by simp)) (fun _ => HNO.out))
    clear HPK HLA HLT HPA HFN HNO har HNM HB HBG HW h1 h2 h3
    go_wp2_with fail
    refine bodyPost_ret (v := .tuple #[.agg #[.string ⟨#[]⟩, .string ⟨#[]⟩, .bool false, .slice none 0 0], .bool false]) (by simp [results, Try.results82, go_sem, r0, r1, r2, r3]) rfl ?_
    exact HF.out _ _ _ _
end Go.Proofs.Ytblfeifedcddnaa
