import Derived.Test.YthmdoplickpmaaaDPut
namespace Go.Proofs.Ythmdoplickpmaaa
open Go.RowKit Go.Deep Go.Lib
set_option linter.unusedVariables false
set_option maxRecDepth 100000
set_option linter.unusedSimpArgs false

/-- What DrawTreeShow draws. -/
def cShowT (cs : List UInt8) : Tr := (cAny cs (0, 17 + cs.length)).1
theorem cShowT_wt (cs : List UInt8) : (cShowT cs).wt ≤ 200000 := cAny_wt _ _

set_option maxHeartbeats 800000 in
theorem dshow_any {cs : List UInt8} {a : Option Addr} {cap b off : Nat} (w : World) (h2 : cs.length ≤ 1048576) (h3 : cs.length ≤ cap) (h4 : cap ≤ 2 ^ 63 - 1) (h6 : 0 < cs.length → a = some ⟨b, off, none⟩) (h7 : Byts w cs b off) :
    Calls Try.prog 7 #[.slice a cs.length cap] w fun e w' => ∃ ta tm tc, e = .returned ((cShowT cs).val (.slice ta tm tc)) ∧ Below w.heap.size w w' ∧ Lies w' (fun q => w.heap.size ≤ q) (cShowT cs) (.slice ta tm tc) := by
  unfold cShowT
  have hda : ∀ w1, Cur w1 cs a cap b off (w.heap.size + 1) (0, 17 + cs.length) → Calls Try.prog 19 #[.pointer (some ⟨w.heap.size + 1, 0, none⟩)] w1 fun e w' => DrewL cs a cap b off (w.heap.size + 1) (cAny cs (0, 17 + cs.length)) w1 e w' := fun w1 h => drawAny_any (0, 17 + cs.length) w1 h
  have HDA := (show Hid _ from hda); clear hda
  generalize cAny cs (0, 17 + cs.length) = U at *
  obtain ⟨U, s6⟩ := U
  dsimp only
  have hb0 := bel_alloc w (.cells #[.string ByteArray.empty, .string ByteArray.empty, .bool false, .slice none 0 0] 28)
  have h7' : Byts (w.alloc (.cells #[.string ByteArray.empty, .string ByteArray.empty, .bool false, .slice none 0 0] 28)) cs b off := fun i hi => (hb0.cell (lt_of_cell (h7 i hi))).trans (h7 i hi)
  have hcl := drawCur_any (a := a) (cap := cap) (b := b) (off := off) (cs := cs) _ h2 h3 h4 (fun h => lt_of_cell (h7' 0 h)) h6 h7'
  have R0 := Box4.new w (.string ByteArray.empty) (.string ByteArray.empty) (.bool false) (.slice none 0 0)
  have HCL := (show Hid _ from hcl); clear hcl h7 h7'
  have H0 := (show Hid _ from (⟨R0, hb0⟩ : _ ∧ _)); clear R0 hb0
  go_enter Try.func7, Try.ntmps7
  go_wp2_with fail
  refine Calls.mono HCL.out ?_
  simp only [World.size_alloc]
  rintro e w1 ⟨rfl, hb1, hq1, hc1⟩
  have HC := (show Hid _ from HDA.out w1 hc1); clear hc1
  have hk1 := H0.out.1.keep (hb1.block w.heap.size (by omega))
  have hbw1 := H0.out.2.trans (hb1.mono (by omega))
  have H1 := (show Hid _ from (⟨hk1, hbw1⟩ : _ ∧ _)); clear hk1 hbw1 hb1 H0
  go_wp2_with fail
  refine Calls.mono HC.out ?_
  rintro e w2 ⟨ua, um, uc, rfl, ho2, hc2, hl2⟩
  dsimp only at hl2 ⊢
  have hs2 := ho2.2.2.2.1
  have hh0 := H1.out.1.keep (ho2.2.2.2.2 w.heap.size (by omega) (.inl (by omega)))
  have R0 := Box4.set4 hh0 (.string U.name) (.string U.text) (.bool U.leaf) (.slice ua um uc)
  have hbw2 := H1.out.2.trans (Out.bel ho2 (by omega) (by omega) : Below w.heap.size w1 w2)
  have HE := (show Hid _ from (⟨hl2, hbw2⟩ : _ ∧ _)); clear hl2 hbw2 hc2 ho2
  have y0 := hh0.frozen 0
  have y1 := hh0.frozen 1
  have y2 := hh0.frozen 2
  have y3 := hh0.frozen 3
  obtain ⟨x0, x1, x2, x3⟩ := hh0.cells
  obtain ⟨r0, r1, r2, r3⟩ := R0.cells
  clear R0
  go_wp2_with fail
  refine bodyPost_ret (v := .agg #[.string U.name, .string U.text, .bool U.leaf, .slice ua um uc]) (by simp [results, Try.results7, go_sem, r0, r1, r2, r3]) rfl ?_
  have hlU : Lies w2 (fun q => w1.heap.size ≤ q) U (.slice ua um uc) := HE.out.1
  refine ⟨ua, um, uc, rfl, bel_set4 HE.out.2 (Nat.le_refl _), ?_⟩
  exact ((((Lies.set hlU (by omega)).set (by omega)).set (by omega)).set (by omega)).mono (fun q hq => by have : w1.heap.size ≤ q := hq; omega)
end Go.Proofs.Ythmdoplickpmaaa
