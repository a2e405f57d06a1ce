import Derived.Test.YthmdoplickpmaaaPath
import Derived.Deep.RegionHeld3
namespace Go.Proofs.Ythmdoplickpmaaa
open Go.RowKit Go.Deep Go.Lib
set_option linter.unusedVariables false
set_option maxRecDepth 100000
set_option linter.unusedSimpArgs false

theorem chain_wt : ∀ n, (chainT n).wt ≤ 1 + 2 * n
  | 0 => by
    show Tr.wt ⟨_, _, _, _⟩ ≤ _
    rw [Tr.wt_mk]
    decide
  | n + 1 => by
    have := chain_wt n
    show Tr.wt ⟨_, _, _, _⟩ ≤ _
    rw [Tr.wt_mk]
    have h1 : (⟨#[110]⟩ : ByteArray).size = 1 := rfl
    have h2 : ByteArray.empty.size = 0 := rfl
    simp [Tr.wtL, h1, h2]
    omega
theorem rep_wt (n : Nat) (x : Tr) (nm : ByteArray) : Tr.wt ⟨nm, ByteArray.empty, false, List.replicate n x⟩ ≤ nm.size + n * (x.wt + 1) := by
  rw [Tr.wt_mk]
  have h := wtL_le (List.replicate n x) x.wt (fun y hy => by rw [List.eq_of_mem_replicate hy]; exact Nat.le_refl _)
  have h2 : ByteArray.empty.size = 0 := rfl
  rw [List.length_replicate] at h ⊢
  have e : n * (x.wt + 1) = n * x.wt + n := Nat.mul_succ _ _
  omega
theorem lf_wt (n x : ByteArray) : (lf n x).wt = n.size + x.size := by
  show Tr.wt ⟨_, _, _, _⟩ = _
  rw [Tr.wt_mk]
  simp [Tr.wtL]
theorem spoil_wt (cs : List UInt8) (t : Tr) (k : Nat) (s : Nat × Nat) (h : t.wt ≤ 163840) : (cSpoil cs t k s).1.wt ≤ 200000 := by
  have hk := wt_kids t
  unfold cSpoil
  split
  · have h1 : (pickOf bdL (cPick cs 4 s).1).size ≤ 25 := pickOf_size (by decide) _
    show Tr.wt ⟨_, _, _, _⟩ ≤ _
    rw [Tr.wt_mk]; omega
  split
  · show Tr.wt ⟨_, _, _, _⟩ ≤ _
    rw [Tr.wt_mk]; omega
  split
  · show Tr.wt ⟨_, _, _, _⟩ ≤ _
    rw [Tr.wt_mk, ByteArray.size_append]
    have h1 : (⟨#[113]⟩ : ByteArray).size = 1 := rfl
    omega
  split
  · show Tr.wt ⟨_, _, _, _⟩ ≤ _
    rw [Tr.wt_mk, Tr.wtL_append, List.length_append]
    have h1 : Tr.wtL [dashT] = 1 := by
      have : dashT.wt = 1 := by show Tr.wt ⟨_, _, _, _⟩ = _; rw [Tr.wt_mk]; rfl
      simp [Tr.wtL, this]
    simp only [List.length_cons, List.length_nil]
    omega
  split
  · have h1 := cLoop_le cs 60 2 62 1 s
    have h2 := chain_wt ((cLoop cs 60 2 62 1 s).1 - 1)
    dsimp only
    omega
  split
  · have h1 := cLoop_le cs 1000 2 1002 1 s
    have h2 := rep_wt ((cLoop cs 1000 2 1002 1 s).1 - 1) (lf ⟨#[107]⟩ ⟨#[]⟩) ⟨#[110]⟩
    have h3 : (lf ⟨#[107]⟩ ⟨#[]⟩).wt = 1 := lf_wt _ _
    have h4 : (⟨#[110]⟩ : ByteArray).size = 1 := rfl
    rw [h3, h4] at h2
    dsimp only
    omega
  split
  · have h1 := cPick_lt cs 2 s (by decide)
    dsimp only
    rw [lf_wt, zs_size]
    have h4 : (⟨#[97]⟩ : ByteArray).size = 1 := rfl
    omega
  split
  · have h1 := cLoop_le cs 24 3 27 0 s
    have h2 := rep_wt ((cLoop cs 24 3 27 0 s).1) (lf ⟨#[97, 98, 99]⟩ (zs 200)) ⟨#[110]⟩
    have h3 : (lf ⟨#[97, 98, 99]⟩ (zs 200)).wt = 203 := by rw [lf_wt, zs_size]; rfl
    have h4 : (⟨#[110]⟩ : ByteArray).size = 1 := rfl
    rw [h3, h4] at h2
    dsimp only
    omega
  · dsimp only; omega
theorem cAny_wt (cs : List UInt8) (s : Nat × Nat) : (cAny cs s).1.wt ≤ 200000 := by
  unfold cAny
  refine spoil_wt cs _ _ _ ?_
  have h1 := cTree_wt cs (1 + (cSize cs 5 s).1) (cSize cs 5 s).2
  have h2 := cSize_le cs 5 s
  have h3 : 4 ^ (1 + (cSize cs 5 s).1) ≤ 4 ^ 6 := Nat.pow_le_pow_right (by decide) (by omega)
  omega

/-- What DrawTreePut draws. -/
def cPutT (cs : List UInt8) : Tr × (Nat × Nat) := if (cPick cs 4 (cTree cs 3 (0, 17 + cs.length)).2).1 = 0 then cAny cs (cPick cs 4 (cTree cs 3 (0, 17 + cs.length)).2).2 else ((cTree cs 3 (0, 17 + cs.length)).1, (cPick cs 4 (cTree cs 3 (0, 17 + cs.length)).2).2)
def cPutL (cs : List UInt8) : List Int × (Nat × Nat) := cTail cs (cPath cs ((cPutT cs).1.wt + 1) (cPutT cs).1 (cPutT cs).2)
def cPutU (cs : List UInt8) : Tr × (Nat × Nat) := cAny cs (cPutL cs).2
theorem cPutT_wt (cs : List UInt8) : (cPutT cs).1.wt ≤ 200000 := by
  unfold cPutT
  split
  · exact cAny_wt _ _
  · have h1 := cTree_wt cs 3 (0, 17 + cs.length)
    dsimp only
    omega
theorem cPutL_len (cs : List UInt8) : (cPutL cs).1.length ≤ 200002 := by
  have h1 := cTail_len cs (cPath cs ((cPutT cs).1.wt + 1) (cPutT cs).1 (cPutT cs).2)
  have h2 := cPath_len cs ((cPutT cs).1.wt + 1) (cPutT cs).1 (cPutT cs).2
  have h3 := cPutT_wt cs
  unfold cPutL
  omega
theorem Out.bel {c B : Nat} {a b : World} (h : Out c (c + 1) a b) (hB : B ≤ c) (ha : B ≤ a.heap.size) : Below B a b := ⟨h.1, h.2.1, h.2.2.1, h.2.2.2.1, fun k hk => h.2.2.2.2 k (by omega) (.inl (by omega))⟩

theorem Four.set {w : World} {g B o : Nat} {c0 c1 c2 c3 x : Value} (h : Four w g c0 c1 c2 c3) (hB : g ≠ B) : Four (w.setCell ⟨B, o, none⟩ x) g c0 c1 c2 c3 := by
  have e : ∀ i, (w.setCell ⟨B, o, none⟩ x).cell? ⟨g, i, none⟩ = w.cell? ⟨g, i, none⟩ := fun i => World.cell?_of_block (w := w) (blk_setCell_other _ _ _ _ (by exact hB))
  exact ⟨(e 0).trans h.1, (e 1).trans h.2.1, (e 2).trans h.2.2.1, (e 3).trans h.2.2.2⟩
/-- As DrawTreePut finds it behind the tree. -/
def Mid (cs : List UInt8) (a : Option Addr) (cap b off c : Nat) (w1 : World) (g : Nat) (tt : Tr) (st : Nat × Nat) (v : Value) (wX : World) : Prop :=
  Out c (c + 1) w1 wX ∧ Cur wX cs a cap b off c st ∧ Box4 wX g (.string tt.name) (.string tt.text) (.bool tt.leaf) v ∧ Lies wX (fun q => w1.heap.size ≤ q ∧ q ≠ g) tt v
theorem Ints.weak {w : World} {S S' : Nat → Prop} {l : List Int} {v : Value} (h : Ints w S l v) (hS : ∀ q, S q → S' q) : Ints w S' l v := by
  obtain ⟨pa, pcap, pb, poff, e, h1, h2, h3, h4⟩ := h
  exact ⟨pa, pcap, pb, poff, e, h1, h2, fun q => ⟨(h3 q).1, hS _ (h3 q).2⟩, h4⟩
theorem bel_set4 {b B : Nat} {w w' : World} {x0 x1 x2 x3 : Value} (h : Below b w w') (hB : b ≤ B) : Below b w ((((w'.setCell ⟨B, 0, none⟩ x0).setCell ⟨B, 1, none⟩ x1).setCell ⟨B, 2, none⟩ x2).setCell ⟨B, 3, none⟩ x3) :=
  (((h.setCell hB _).setCell hB _).setCell hB _).setCell hB _
/-- Three things drawn from a code. -/
def DrewP (cs : List UInt8) (w : World) (e : Ending) (w' : World) : Prop :=
  ∃ ta tm tc pa pm pc ua um uc, e = .returned (.tuple #[(cPutT cs).1.val (.slice ta tm tc), .slice pa pm pc, (cPutU cs).1.val (.slice ua um uc)]) ∧ Below w.heap.size w w' ∧ Lies w' (fun q => w.heap.size ≤ q) (cPutT cs).1 (.slice ta tm tc) ∧ Ints w' (fun q => w.heap.size ≤ q) (cPutL cs).1 (.slice pa pm pc) ∧ Lies w' (fun q => w.heap.size ≤ q) (cPutU cs).1 (.slice ua um uc)

set_option maxHeartbeats 3200000 in
theorem dput_any {cs : List UInt8} {a : Option Addr} {cap b off : Nat} (w : World) (h2 : cs.length ≤ 1048576) (h3 : cs.length ≤ cap) (h4 : cap ≤ 2 ^ 63 - 1) (hb : b < w.heap.size + 2) (h6 : 0 < cs.length → a = some ⟨b, off, none⟩) (h7 : Byts w cs b off) :
    Calls Try.prog 11 #[.slice a cs.length cap] w fun e w' => DrewP cs w e w' := by
  have hb0 := bel_alloc w (.cells #[.string ByteArray.empty, .string ByteArray.empty, .bool false, .slice none 0 0] 28)
  have hb1 := bel_alloc (w.alloc (.cells #[.string ByteArray.empty, .string ByteArray.empty, .bool false, .slice none 0 0] 28)) (.cells #[.string ByteArray.empty, .string ByteArray.empty, .bool false, .slice none 0 0] 28)
  have hcl := drawCur_any (a := a) (cap := cap) (b := b) (off := off) (cs := cs) ((w.alloc (.cells #[.string ByteArray.empty, .string ByteArray.empty, .bool false, .slice none 0 0] 28)).alloc (.cells #[.string ByteArray.empty, .string ByteArray.empty, .bool false, .slice none 0 0] 28)) h2 h3 h4 (fun _ => by simp; omega) h6 (fun i hi => ((hb1.cell (lt_of_cell ((hb0.cell (lt_of_cell (h7 i hi))).trans (h7 i hi))))).trans ((hb0.cell (lt_of_cell (h7 i hi))).trans (h7 i hi)))
  have R0 := (Box4.new w (.string ByteArray.empty) (.string ByteArray.empty) (.bool false) (.slice none 0 0)).still hb1
  have R1 := Box4.new (w.alloc (.cells #[.string ByteArray.empty, .string ByteArray.empty, .bool false, .slice none 0 0] 28)) (.string ByteArray.empty) (.string ByteArray.empty) (.bool false) (.slice none 0 0)
  simp only [World.size_alloc] at hcl R1
  have hbw := bel_trans hb0 hb1
  have H0 := (show Hid _ from (⟨R0, R1, hbw⟩ : _ ∧ _ ∧ _)); clear R0 R1 hbw hb0 hb1
  have HCL := (show Hid _ from hcl); clear hcl h7
  go_enter Try.func11, Try.ntmps11
  go_wp2_with fail
  refine Calls.mono HCL.out ?_
  rintro e w1 ⟨rfl, hbb, hq1, hc1⟩
  have hb1 : Below (w.heap.size + 1 + 1) ((w.alloc (.cells #[.string ByteArray.empty, .string ByteArray.empty, .bool false, .slice none 0 0] 28)).alloc (.cells #[.string ByteArray.empty, .string ByteArray.empty, .bool false, .slice none 0 0] 28)) w1 := by simpa using hbb
  clear hbb hq1
  have hz1 : w.heap.size + 1 + 1 < w1.heap.size := hc1.lt
  have H1 := (show Hid _ from (⟨H0.out.1.keep (hb1.block _ (by omega)), H0.out.2.1.keep (hb1.block _ (by omega)), H0.out.2.2.trans (hb1.mono (by omega))⟩ : Box4 w1 _ _ _ _ _ ∧ Box4 w1 _ _ _ _ _ ∧ Below w.heap.size w w1)); clear hb1
  have hcl := drawTree_any 3 (0, 17 + cs.length) w1 hc1 (by decide)
  have HCL := (show Hid _ from hcl); clear hcl hc1
  have hTT : cPutT cs = if (cPick cs 4 (cTree cs 3 (0, 17 + cs.length)).2).1 = 0 then cAny cs (cPick cs 4 (cTree cs 3 (0, 17 + cs.length)).2).2 else ((cTree cs 3 (0, 17 + cs.length)).1, (cPick cs 4 (cTree cs 3 (0, 17 + cs.length)).2).2) := rfl
  have hnm := cTree_nm cs 3 (0, 17 + cs.length)
  have HTT := (show Hid _ from hTT); clear hTT
  generalize cTree cs 3 (0, 17 + cs.length) = q at *
  obtain ⟨t1, s1⟩ := q
  dsimp only at HTT hnm
  have hpk : ∀ w', Cur w' cs a cap b off (w.heap.size + 1 + 1) s1 → _ := fun w' h => pick_any 4 w' h (by decide)
  have HPK := (show Hid _ from hpk); clear hpk
  generalize cPick cs 4 s1 = q at *
  obtain ⟨p4, s2⟩ := q
  dsimp only at HTT
  generalize hcv : w.heap.size + 1 + 1 = c at *
  have hcw : w.heap.size + 2 ≤ c := by omega
  clear hcv
  go_wp2_with fail
  refine Calls.mono HCL.out ?_
  rintro e w2 ⟨xa, xm, xc, rfl, ho2, hc2, hg2⟩
  dsimp only at hc2 hg2 ⊢
  have hz2 := ho2.2.2.2.1
  have hb2 := bel_alloc w2 (.cells #[.string t1.name, .string t1.text, .bool t1.leaf, .slice xa xm xc] 28)
  have hgo := Grw.done (n := t1.name) (x := t1.text) (le := t1.leaf) hg2 hnm.1 hnm.2
  have hgo' : Own w2 w1.heap.size w2.heap.size t1 (.slice xa xm xc) := by cases t1; exact hgo
  have hl2 : Lies w2 (fun q => w1.heap.size ≤ q ∧ q < w2.heap.size) t1 (.slice xa xm xc) := (Own.lies hgo').mono (fun q hq => hq)
  have hcl := HPK.out _ (hc2.still hb2)
  have HCL := (show Hid _ from hcl)
  have H2 := (show Hid _ from (⟨ho2.below hb2, Box4.new w2 (.string t1.name) (.string t1.text) (.bool t1.leaf) (.slice xa xm xc), hl2.still hb2⟩ : Out c (c + 1) w1 _ ∧ _ ∧ _)); clear hcl ho2 hc2 hg2 hgo hgo' hl2 hb2
  go_wp2_with fail
  refine Calls.mono HCL.out ?_
  rintro e w3 ⟨rfl, ho3, hq3, hc3⟩
  clear hq3
  have hz3 := ho3.2.2.2.1
  simp only [World.size_alloc] at hz3
  dsimp only at hc3 ⊢
  have hl3 : Lies w3 (fun q => w1.heap.size ≤ q ∧ q < w2.heap.size) t1 (.slice xa xm xc) := Lies.keep (fun q hq => ho3.2.2.2.2 q (by simp; omega) (.inr (by omega))) H2.out.2.2
  have H3 := (show Hid _ from (⟨H2.out.1.trans ho3, hc3, Box4.out H2.out.2.1 ho3 (by omega), hl3⟩ : Out c (c + 1) w1 w3 ∧ _ ∧ _ ∧ _)); clear ho3 hc3 hl3 H2
  by_cases hp4 : p4 = 0
  · subst hp4
    have hTT2 : cPutT cs = cAny cs s2 := HTT.out
    have hda := drawAny_any s2 w3 H3.out.2.1
    have HDA := (show Hid _ from hda); clear hda
    generalize cAny cs s2 = q at *
    obtain ⟨tt, st⟩ := q
    have HT := (show Hid _ from hTT2); clear hTT2
    go_wp2_with fail
    refine Calls.mono HDA.out ?_
    rintro e w4 ⟨ya, ym, yc, rfl, ho4, hc4, hl4⟩
    dsimp only at hc4 hl4 ⊢
    have hz4 := ho4.2.2.2.1
    have G4 := Box4.out H3.out.2.2.1 ho4 (by omega)
    obtain ⟨g0, g1, g2, g3⟩ := G4.cells
    have yy0 := G4.frozen 0
    have yy1 := G4.frozen 1
    have yy2 := G4.frozen 2
    have yy3 := G4.frozen 3
    have HX : Hid (Mid cs a cap b off c w1 w2.heap.size tt st (.slice ya ym yc) ((((w4.setCell ⟨w2.heap.size, 0, none⟩ (.string tt.name)).setCell ⟨w2.heap.size, 1, none⟩ (.string tt.text)).setCell ⟨w2.heap.size, 2, none⟩ (.bool tt.leaf)).setCell ⟨w2.heap.size, 3, none⟩ (.slice ya ym yc))) :=
      (⟨(((((H3.out.1.trans ho4).put (by omega)).put (by omega)).put (by omega)).put (by omega)), ((((hc4.set (by omega)).set (by omega)).set (by omega)).set (by omega)), Box4.set4 G4 _ _ _ _, (((((hl4.mono (fun q hq => ⟨by omega, by omega⟩ : ∀ q, w3.heap.size ≤ q → w1.heap.size ≤ q ∧ q ≠ w2.heap.size)).set (fun h => h.2 rfl)).set (fun h => h.2 rfl)).set (fun h => h.2 rfl)).set (fun h => h.2 rfl))⟩)
    clear ho4 hc4 hl4 G4
    have hgX : w2.heap.size < ((((w4.setCell ⟨w2.heap.size, 0, none⟩ (.string tt.name)).setCell ⟨w2.heap.size, 1, none⟩ (.string tt.text)).setCell ⟨w2.heap.size, 2, none⟩ (.bool tt.leaf)).setCell ⟨w2.heap.size, 3, none⟩ (.slice ya ym yc)).heap.size := by simp [World.setCell]; omega
    obtain ⟨X0, X1, X2, X3⟩ := Box4.cells HX.out.2.2.1
    have HGX := (show Hid _ from hgX); clear hgX
    go_wp2_with fail
    clear g0 g1 g2 g3 yy0 yy1 yy2 yy3
    generalize hwX : ((((w4.setCell ⟨w2.heap.size, 0, none⟩ (.string tt.name)).setCell ⟨w2.heap.size, 1, none⟩ (.string tt.text)).setCell ⟨w2.heap.size, 2, none⟩ (.bool tt.leaf)).setCell ⟨w2.heap.size, 3, none⟩ (.slice ya ym yc)) = wX at *
    have hgX : w2.heap.size < wX.heap.size := HGX.out
    clear hwX X0 X1 X2 X3 HGX hz4
    skip
    have hwtt : tt.wt ≤ 200000 := by have := cPutT_wt cs; rw [HT.out] at this; exact this
    have hpt := path_any tt _ st wX HX.out.2.1 ((Lies.lt HX.out.2.2.2).mono (fun q hq => ⟨by have := hq.1.1; omega, hq.2⟩)) (by omega)
    have hpl : cPutL cs = cTail cs (cPath cs (tt.wt + 1) tt st) := by unfold cPutL; rw [HT.out]
    have hpu : cPutU cs = cAny cs (cTail cs (cPath cs (tt.wt + 1) tt st)).2 := by unfold cPutU; rw [hpl]
    have HPL := (show Hid _ from (⟨hpl, hpu⟩ : _ ∧ _)); clear hpl hpu
    have HPT := (show Hid _ from hpt); clear hpt
    generalize cTail cs (cPath cs (tt.wt + 1) tt st) = pth at *
    obtain ⟨L, s5⟩ := pth
    (try dsimp only at HPL)
    obtain ⟨X0, X1, X2, X3⟩ := Box4.cells HX.out.2.2.1

    refine Calls.mono HPT.out ?_
    rintro e w5 ⟨pa, pm, pc, rfl, ho5, hc5, hi5⟩
    (try dsimp only at hc5 hi5)
    have hs5 := ho5.2.2.2.1
    have hl5 : Lies w5 (fun q => w1.heap.size ≤ q) tt (.slice ya ym yc) := (Lies.keep (fun q hq => ho5.2.2.2.2 q hq.2 (by have := hq.1.1; omega)) (Lies.lt HX.out.2.2.2)).mono (fun q hq => hq.1.1)
    have H5 := (show Hid _ from (⟨HX.out.1.trans ho5, Box4.out HX.out.2.2.1 ho5 (by omega), hl5, hi5⟩ : Out c (c + 1) w1 w5 ∧ _ ∧ _ ∧ _)); clear ho5 hl5 hi5 X0 X1 X2 X3
    have hda := drawAny_any s5 w5.drew (Cur.drew hc5)
    have HDA := (show Hid _ from hda); clear hda hc5
    generalize hU : cAny cs s5 = U at *
    obtain ⟨U, s6⟩ := U
    clear hU
    have hs51 := H5.out.1.2.2.2.1
    have hcg : c < w2.heap.size := by omega
    have hc0 : w.heap.size < c := by omega
    have hc1 : w.heap.size + 1 < c := by omega
    have hw50 : w.heap.size < w5.heap.size := by omega
    have hw51 : w.heap.size + 1 < w5.heap.size := by omega
    have hne : w.heap.size + 1 ≠ w.heap.size := by omega
    have hgh : w2.heap.size ≠ w.heap.size := by omega
    have hgh1 : w2.heap.size ≠ w.heap.size + 1 := by omega
    have H15 := (show Hid _ from (⟨H1.out.1.keep (H5.out.1.2.2.2.2 _ (by omega) (.inl (by omega))), H1.out.2.1.keep (H5.out.1.2.2.2.2 _ (by omega) (.inl (by omega)))⟩ : Box4 w5 w.heap.size _ _ _ _ ∧ Box4 w5 (w.heap.size + 1) _ _ _ _))
    have hS5 : Four w5.drew w2.heap.size (.string tt.name) (.string tt.text) (.bool tt.leaf) (.slice ya ym yc) := Box4.cells H5.out.2.1
    go_wp2_with fail
    go_region_held3 (fun w' => w'.cell? ⟨w2.heap.size, 0, none⟩ = some (.string tt.name) ∧ w'.cell? ⟨w2.heap.size, 1, none⟩ = some (.string tt.text) ∧ w'.cell? ⟨w2.heap.size, 2, none⟩ = some (.bool tt.leaf) ∧ w'.cell? ⟨w2.heap.size, 3, none⟩ = some (.slice ya ym yc)) (((show Four _ w2.heap.size (.string tt.name) (.string tt.text) (.bool tt.leaf) (.slice ya ym yc)); (first | with_reducible exact hS5 | with_reducible exact hS6 | with_reducible exact (((hS6.set hgh).set hgh).set hgh).set hgh | with_reducible exact (((((((hS6.set hgh).set hgh).set hgh).set hgh).set hgh1).set hgh1).set hgh1).set hgh1)))
      (first
      | (go_at_call 19; refine Calls.mono HDA.out ?_; rintro e w6 ⟨ua, um, uc, rfl, ho6, hc6, hl6⟩; have ho6' : Out c (c + 1) w5 w6 := ho6; have hs6 := ho6'.2.2.2.1; have hS6 := (Box4.out H5.out.2.1 ho6' hcg).cells; have hh0 := H15.out.1.keep (ho6'.2.2.2.2 w.heap.size hw50 (.inl hc0)); have hh1 := H15.out.2.keep (ho6'.2.2.2.2 (w.heap.size + 1) hw51 (.inl hc1)); have y0 := hh0.frozen 0; have y1 := hh0.frozen 1; have y2 := hh0.frozen 2; have y3 := hh0.frozen 3; have x0 := hh0.cells.1; have x1 := hh0.cells.2.1; have x2 := hh0.cells.2.2.1; have x3 := hh0.cells.2.2.2; have hh1' : Box4 ((((w6.setCell ⟨w.heap.size, 0, none⟩ (.string tt.name)).setCell ⟨w.heap.size, 1, none⟩ (.string tt.text)).setCell ⟨w.heap.size, 2, none⟩ (.bool tt.leaf)).setCell ⟨w.heap.size, 3, none⟩ (.slice ya ym yc)) (w.heap.size + 1) (.string ByteArray.empty) (.string ByteArray.empty) (.bool false) (.slice none 0 0) := (((hh1.past hne).past hne).past hne).past hne; have u0 := hh1'.frozen 0; have u1 := hh1'.frozen 1; have u2 := hh1'.frozen 2; have u3 := hh1'.frozen 3; have v0 := hh1'.cells.1; have v1 := hh1'.cells.2.1; have v2 := hh1'.cells.2.2.1; have v3 := hh1'.cells.2.2.2))
    all_goals
      have R0 := (((((Box4.set4 hh0 (.string tt.name) (.string tt.text) (.bool tt.leaf) (.slice ya ym yc)).past (g := w.heap.size + 1) (o := 0) (x := .string U.name) (by omega)).past (g := w.heap.size + 1) (o := 1) (x := .string U.text) (by omega)).past (g := w.heap.size + 1) (o := 2) (x := .bool U.leaf) (by omega)).past (g := w.heap.size + 1) (o := 3) (x := .slice ua um uc) (by omega))
      have R1 := Box4.set4 hh1' (.string U.name) (.string U.text) (.bool U.leaf) (.slice ua um uc)
      have hbw6 := H1.out.2.2.trans (Out.bel (H5.out.1.trans ho6') (by omega) (by omega) : Below w.heap.size w1 w6)
      have hlT : Lies w6 (fun q => w1.heap.size ≤ q) tt (.slice ya ym yc) := (Lies.keep (fun q hq => ho6'.2.2.2.2 q hq.2 (.inr (by have := hq.1; omega))) (Lies.lt H5.out.2.2.1)).mono (fun q hq => hq.1)
      have hI6 := Ints.keep H5.out.2.2.2 (w' := w6) (fun q hq hq2 => ho6'.2.2.2.2 q hq2 (.inr (by have : wX.heap.size + 1 ≤ q := hq; omega)))
      have HE := (show Hid _ from (⟨R0, R1, hbw6, hlT, hI6, hl6⟩ : _ ∧ _ ∧ _ ∧ _ ∧ _ ∧ _)); clear hbw6 hlT hI6 hl6
      obtain ⟨r0, r1, r2, r3⟩ := R0.cells
      obtain ⟨r4, r5, r6, r7⟩ := R1.cells
      clear R0 R1
      go_wp2_with fail
      refine bodyPost_ret (v := .tuple #[.agg #[.string tt.name, .string tt.text, .bool tt.leaf, .slice ya ym yc], .slice pa pm pc, .agg #[.string U.name, .string U.text, .bool U.leaf, .slice ua um uc]]) (by simp [results, Try.results11, go_sem, r0, r1, r2, r3, r4, r5, r6, r7, x0, x1, x2, x3, v0, v1, v2, v3]) rfl ?_
      unfold DrewP
      rw [HT.out, HPL.out.1, HPL.out.2]
      have hq6 : w5.heap.size ≤ w6.heap.size := hs6
      have hlU : Lies w6 (fun q => w5.heap.size ≤ q) U (.slice ua um uc) := HE.out.2.2.2.2.2
      refine ⟨ya, ym, yc, pa, pm, pc, ua, um, uc, rfl, bel_set4 (bel_set4 HE.out.2.2.1 (Nat.le_refl _)) (Nat.le_succ _), ?_, ?_, ?_⟩
      · exact ((((((((Lies.set HE.out.2.2.2.1 (by omega)).set (by omega)).set (by omega)).set (by omega)).set (by omega)).set (by omega)).set (by omega)).set (by omega)).mono (fun q hq => by have : w1.heap.size ≤ q := hq; omega)
      · refine Ints.weak (Ints.keep HE.out.2.2.2.2.1 (fun q hq hq2 => ?_)) (fun q hq => by have : wX.heap.size + 1 ≤ q := hq; omega)
        have : wX.heap.size + 1 ≤ q := hq
        rw [blk_setCell_other _ _ _ _ (by show q ≠ w.heap.size + 1; omega), blk_setCell_other _ _ _ _ (by show q ≠ w.heap.size + 1; omega), blk_setCell_other _ _ _ _ (by show q ≠ w.heap.size + 1; omega), blk_setCell_other _ _ _ _ (by show q ≠ w.heap.size + 1; omega),
          blk_setCell_other _ _ _ _ (by show q ≠ w.heap.size; omega), blk_setCell_other _ _ _ _ (by show q ≠ w.heap.size; omega), blk_setCell_other _ _ _ _ (by show q ≠ w.heap.size; omega), blk_setCell_other _ _ _ _ (by show q ≠ w.heap.size; omega)]
      · exact ((((((((Lies.set hlU (by omega)).set (by omega)).set (by omega)).set (by omega)).set (by omega)).set (by omega)).set (by omega)).set (by omega)).mono (fun q hq => by have : w5.heap.size ≤ q := hq; omega)
  · have hTT2 : cPutT cs = (t1, s2) := by rw [HTT.out, if_neg hp4]
    have h4b : ((p4 : Int) == 0) = false := by simp; omega
    generalize htt : t1 = tt at *
    generalize hst : s2 = st at *
    have HT := (show Hid _ from hTT2); clear hTT2
    generalize hwX : w3 = wX at *
    generalize hya : xa = ya at *
    generalize hym : xm = ym at *
    generalize hyc : xc = yc at *
    have hgX : w2.heap.size < wX.heap.size := by omega
    have HX : Hid (Mid cs a cap b off c w1 w2.heap.size tt st (.slice ya ym yc) wX) := (⟨H3.out.1, H3.out.2.1, H3.out.2.2.1, Lies.mono (fun q hq => ⟨hq.1, by have := hq.2; omega⟩) H3.out.2.2.2⟩)
    clear htt hst hwX hya hym hyc
    have hwtt : tt.wt ≤ 200000 := by have := cPutT_wt cs; rw [HT.out] at this; exact this
    have hpt := path_any tt _ st wX HX.out.2.1 ((Lies.lt HX.out.2.2.2).mono (fun q hq => ⟨by have := hq.1.1; omega, hq.2⟩)) (by omega)
    have hpl : cPutL cs = cTail cs (cPath cs (tt.wt + 1) tt st) := by unfold cPutL; rw [HT.out]
    have hpu : cPutU cs = cAny cs (cTail cs (cPath cs (tt.wt + 1) tt st)).2 := by unfold cPutU; rw [hpl]
    have HPL := (show Hid _ from (⟨hpl, hpu⟩ : _ ∧ _)); clear hpl hpu
    have HPT := (show Hid _ from hpt); clear hpt
    generalize cTail cs (cPath cs (tt.wt + 1) tt st) = pth at *
    obtain ⟨L, s5⟩ := pth
    (try dsimp only at HPL)
    obtain ⟨X0, X1, X2, X3⟩ := Box4.cells HX.out.2.2.1
    go_wp2_with fail
    refine Calls.mono HPT.out ?_
    rintro e w5 ⟨pa, pm, pc, rfl, ho5, hc5, hi5⟩
    (try dsimp only at hc5 hi5)
    have hs5 := ho5.2.2.2.1
    have hl5 : Lies w5 (fun q => w1.heap.size ≤ q) tt (.slice ya ym yc) := (Lies.keep (fun q hq => ho5.2.2.2.2 q hq.2 (by have := hq.1.1; omega)) (Lies.lt HX.out.2.2.2)).mono (fun q hq => hq.1.1)
    have H5 := (show Hid _ from (⟨HX.out.1.trans ho5, Box4.out HX.out.2.2.1 ho5 (by omega), hl5, hi5⟩ : Out c (c + 1) w1 w5 ∧ _ ∧ _ ∧ _)); clear ho5 hl5 hi5 X0 X1 X2 X3
    have hda := drawAny_any s5 w5.drew (Cur.drew hc5)
    have HDA := (show Hid _ from hda); clear hda hc5
    generalize hU : cAny cs s5 = U at *
    obtain ⟨U, s6⟩ := U
    clear hU
    have hs51 := H5.out.1.2.2.2.1
    have hcg : c < w2.heap.size := by omega
    have hc0 : w.heap.size < c := by omega
    have hc1 : w.heap.size + 1 < c := by omega
    have hw50 : w.heap.size < w5.heap.size := by omega
    have hw51 : w.heap.size + 1 < w5.heap.size := by omega
    have hne : w.heap.size + 1 ≠ w.heap.size := by omega
    have hgh : w2.heap.size ≠ w.heap.size := by omega
    have hgh1 : w2.heap.size ≠ w.heap.size + 1 := by omega
    have H15 := (show Hid _ from (⟨H1.out.1.keep (H5.out.1.2.2.2.2 _ (by omega) (.inl (by omega))), H1.out.2.1.keep (H5.out.1.2.2.2.2 _ (by omega) (.inl (by omega)))⟩ : Box4 w5 w.heap.size _ _ _ _ ∧ Box4 w5 (w.heap.size + 1) _ _ _ _))
    have hS5 : Four w5.drew w2.heap.size (.string tt.name) (.string tt.text) (.bool tt.leaf) (.slice ya ym yc) := Box4.cells H5.out.2.1
    go_wp2_with fail
    go_region_held3 (fun w' => w'.cell? ⟨w2.heap.size, 0, none⟩ = some (.string tt.name) ∧ w'.cell? ⟨w2.heap.size, 1, none⟩ = some (.string tt.text) ∧ w'.cell? ⟨w2.heap.size, 2, none⟩ = some (.bool tt.leaf) ∧ w'.cell? ⟨w2.heap.size, 3, none⟩ = some (.slice ya ym yc)) (((show Four _ w2.heap.size (.string tt.name) (.string tt.text) (.bool tt.leaf) (.slice ya ym yc)); (first | with_reducible exact hS5 | with_reducible exact hS6 | with_reducible exact (((hS6.set hgh).set hgh).set hgh).set hgh | with_reducible exact (((((((hS6.set hgh).set hgh).set hgh).set hgh).set hgh1).set hgh1).set hgh1).set hgh1)))
      (first
      | (go_at_call 19; refine Calls.mono HDA.out ?_; rintro e w6 ⟨ua, um, uc, rfl, ho6, hc6, hl6⟩; have ho6' : Out c (c + 1) w5 w6 := ho6; have hs6 := ho6'.2.2.2.1; have hS6 := (Box4.out H5.out.2.1 ho6' hcg).cells; have hh0 := H15.out.1.keep (ho6'.2.2.2.2 w.heap.size hw50 (.inl hc0)); have hh1 := H15.out.2.keep (ho6'.2.2.2.2 (w.heap.size + 1) hw51 (.inl hc1)); have y0 := hh0.frozen 0; have y1 := hh0.frozen 1; have y2 := hh0.frozen 2; have y3 := hh0.frozen 3; have x0 := hh0.cells.1; have x1 := hh0.cells.2.1; have x2 := hh0.cells.2.2.1; have x3 := hh0.cells.2.2.2; have hh1' : Box4 ((((w6.setCell ⟨w.heap.size, 0, none⟩ (.string tt.name)).setCell ⟨w.heap.size, 1, none⟩ (.string tt.text)).setCell ⟨w.heap.size, 2, none⟩ (.bool tt.leaf)).setCell ⟨w.heap.size, 3, none⟩ (.slice ya ym yc)) (w.heap.size + 1) (.string ByteArray.empty) (.string ByteArray.empty) (.bool false) (.slice none 0 0) := (((hh1.past hne).past hne).past hne).past hne; have u0 := hh1'.frozen 0; have u1 := hh1'.frozen 1; have u2 := hh1'.frozen 2; have u3 := hh1'.frozen 3; have v0 := hh1'.cells.1; have v1 := hh1'.cells.2.1; have v2 := hh1'.cells.2.2.1; have v3 := hh1'.cells.2.2.2))
    all_goals
      have R0 := (((((Box4.set4 hh0 (.string tt.name) (.string tt.text) (.bool tt.leaf) (.slice ya ym yc)).past (g := w.heap.size + 1) (o := 0) (x := .string U.name) (by omega)).past (g := w.heap.size + 1) (o := 1) (x := .string U.text) (by omega)).past (g := w.heap.size + 1) (o := 2) (x := .bool U.leaf) (by omega)).past (g := w.heap.size + 1) (o := 3) (x := .slice ua um uc) (by omega))
      have R1 := Box4.set4 hh1' (.string U.name) (.string U.text) (.bool U.leaf) (.slice ua um uc)
      have hbw6 := H1.out.2.2.trans (Out.bel (H5.out.1.trans ho6') (by omega) (by omega) : Below w.heap.size w1 w6)
      have hlT : Lies w6 (fun q => w1.heap.size ≤ q) tt (.slice ya ym yc) := (Lies.keep (fun q hq => ho6'.2.2.2.2 q hq.2 (.inr (by have := hq.1; omega))) (Lies.lt H5.out.2.2.1)).mono (fun q hq => hq.1)
      have hI6 := Ints.keep H5.out.2.2.2 (w' := w6) (fun q hq hq2 => ho6'.2.2.2.2 q hq2 (.inr (by have : wX.heap.size + 1 ≤ q := hq; omega)))
      have HE := (show Hid _ from (⟨R0, R1, hbw6, hlT, hI6, hl6⟩ : _ ∧ _ ∧ _ ∧ _ ∧ _ ∧ _)); clear hbw6 hlT hI6 hl6
      obtain ⟨r0, r1, r2, r3⟩ := R0.cells
      obtain ⟨r4, r5, r6, r7⟩ := R1.cells
      clear R0 R1
      go_wp2_with fail
      refine bodyPost_ret (v := .tuple #[.agg #[.string tt.name, .string tt.text, .bool tt.leaf, .slice ya ym yc], .slice pa pm pc, .agg #[.string U.name, .string U.text, .bool U.leaf, .slice ua um uc]]) (by simp [results, Try.results11, go_sem, r0, r1, r2, r3, r4, r5, r6, r7, x0, x1, x2, x3, v0, v1, v2, v3]) rfl ?_
      unfold DrewP
      rw [HT.out, HPL.out.1, HPL.out.2]
      have hq6 : w5.heap.size ≤ w6.heap.size := hs6
      have hlU : Lies w6 (fun q => w5.heap.size ≤ q) U (.slice ua um uc) := HE.out.2.2.2.2.2
      refine ⟨ya, ym, yc, pa, pm, pc, ua, um, uc, rfl, bel_set4 (bel_set4 HE.out.2.2.1 (Nat.le_refl _)) (Nat.le_succ _), ?_, ?_, ?_⟩
      · exact ((((((((Lies.set HE.out.2.2.2.1 (by omega)).set (by omega)).set (by omega)).set (by omega)).set (by omega)).set (by omega)).set (by omega)).set (by omega)).mono (fun q hq => by have : w1.heap.size ≤ q := hq; omega)
      · refine Ints.weak (Ints.keep HE.out.2.2.2.2.1 (fun q hq hq2 => ?_)) (fun q hq => by have : wX.heap.size + 1 ≤ q := hq; omega)
        have : wX.heap.size + 1 ≤ q := hq
        rw [blk_setCell_other _ _ _ _ (by show q ≠ w.heap.size + 1; omega), blk_setCell_other _ _ _ _ (by show q ≠ w.heap.size + 1; omega), blk_setCell_other _ _ _ _ (by show q ≠ w.heap.size + 1; omega), blk_setCell_other _ _ _ _ (by show q ≠ w.heap.size + 1; omega),
          blk_setCell_other _ _ _ _ (by show q ≠ w.heap.size; omega), blk_setCell_other _ _ _ _ (by show q ≠ w.heap.size; omega), blk_setCell_other _ _ _ _ (by show q ≠ w.heap.size; omega), blk_setCell_other _ _ _ _ (by show q ≠ w.heap.size; omega)]
      · exact ((((((((Lies.set hlU (by omega)).set (by omega)).set (by omega)).set (by omega)).set (by omega)).set (by omega)).set (by omega)).set (by omega)).mono (fun q hq => by have : w5.heap.size ≤ q := hq; omega)
end Go.Proofs.Ythmdoplickpmaaa
