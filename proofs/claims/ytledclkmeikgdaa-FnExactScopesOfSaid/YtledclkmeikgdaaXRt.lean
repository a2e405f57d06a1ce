import Derived.Test.YtledclkmeikgdaaXSize
import Derived.Test.YtledclkmeikgdaaXSz
import Derived.Test.YtledclkmeikgdaaXEq
/-! Rows of trees; whether all are right. -/
namespace Go.Proofs.Ytledclkmeikgdaa.T
open Go.RowKit Go.Deep
set_option linter.unusedVariables false
set_option maxRecDepth 100000
set_option linter.unusedSimpArgs false

/-- Trees that lie behind a slice, all in blocks of S. -/
def Trs (w : World) (S : Nat → Prop) (k : List Tr) (v : Value) : Prop :=
  ∃ (a : Option Addr) (cap b off : Nat) (sv : Nat → Value), v = .slice a k.length cap ∧ k.length ≤ cap ∧ cap ≤ maxLen ∧ (0 < k.length → a = some ⟨b, off, none⟩ ∧ S b) ∧
    (∀ i (hi : i < k.length), w.cell? ⟨b, off + i * 4, none⟩ = some (.string k[i].name) ∧ w.cell? ⟨b, off + i * 4 + 1, none⟩ = some (.string k[i].text) ∧ w.cell? ⟨b, off + i * 4 + 2, none⟩ = some (.bool k[i].leaf) ∧ w.cell? ⟨b, off + i * 4 + 3, none⟩ = some (sv i)) ∧
    ∀ i (hi : i < k.length), Lies w S k[i] (sv i)
theorem Trs.still {w w' : World} {S : Nat → Prop} {k : List Tr} {v : Value} (h : Trs w S k v) (hb : Below w.heap.size w w') : Trs w' S k v := by
  obtain ⟨a, cap, b, off, sv, hv, hc, hm, ha, hcell, hr⟩ := h
  refine ⟨a, cap, b, off, sv, hv, hc, hm, ha, fun i hi => ?_, fun i hi => (hr i hi).still hb⟩
  obtain ⟨c0, c1, c2, c3⟩ := hcell i hi
  exact ⟨(hb.cell (lt_of_cell c0)).trans c0, (hb.cell (lt_of_cell c1)).trans c1, (hb.cell (lt_of_cell c2)).trans c2, (hb.cell (lt_of_cell c3)).trans c3⟩
theorem Trs.form {w : World} {S : Nat → Prop} {k : List Tr} {v : Value} (h : Trs w S k v) : ∃ a cap, v = .slice a k.length cap ∧ k.length ≤ maxLen := by
  obtain ⟨a, cap, b, off, sv, hv, hc, hm, _⟩ := h
  exact ⟨_, _, hv, by omega⟩
/-- They may be shared. -/
def tksB (k : List Tr) : Bool := decide (k.length ≤ 20) && k.all Tr.ok
set_option maxHeartbeats 1600000 in
theorem allOK34 {S : Nat → Prop} (k : List Tr) (v : Value) (w : World) (h : Trs w S k v) :
    Calls Try.prog 115 #[v, .func (.func 58) #[] #[]] w fun e w' => e = .returned (.bool (k.all Tr.ok)) ∧ Below w.heap.size w w' := by
  obtain ⟨a, cap, b, off, sv, rfl, hc, hm, ha, hcell, hr⟩ := h
  have HC := (show Hid _ from hcell); clear hcell
  have HA := (show Hid _ from ha); clear ha
  have HR := (show Hid _ from hr); clear hr
  unfold maxLen at hm
  generalize hRes : k.all Tr.ok = R
  have HRes := (show Hid _ from hRes); clear hRes
  go_enter Try.func115, Try.ntmps115
  go_wp2_with fail
  go_loopw [9] (fun i wr => ∃ j : Nat, i = .int .i64 j ∧ j ≤ k.length ∧ Hid (∀ i (hi : i < k.length), i < j → k[i].ok = true) ∧ Below w.heap.size w wr) (fun i _ => k.length - (intOf i).toNat)
  case atStart => exact ⟨0, rfl, Nat.zero_le _, fun i hi h0 => absurd h0 (Nat.not_lt_zero _), Below.refl _ _⟩
  case round =>
    obtain ⟨j, rfl, hj, HJ, hbel⟩ := hrel
    by_cases hjl : j < k.length
    · obtain ⟨rfl, _⟩ := HA.out (by omega)
      obtain ⟨c0, c1, c2, c3⟩ := HC.out j hjl
      rw [← hbel.cell (lt_of_cell c0)] at c0
      rw [← hbel.cell (lt_of_cell c1)] at c1
      rw [← hbel.cell (lt_of_cell c2)] at c2
      rw [← hbel.cell (lt_of_cell c3)] at c3
      have hl := HR.out j hjl
      have hcl := fun (w' : World) (hb : Below w.heap.size w w') => iOK_any k[j] (sv j) w' (hl.still hb)
      obtain ⟨a3, l3, p3, e3⟩ := hl.form
      simp only [Tr.val] at hcl
      rw [e3] at c3 hcl
      clear e3 hl
      have HCL := (show Hid _ from hcl); clear hcl
      generalize hB : k[j].ok = B at HCL
      have HB := (show Hid _ from hB); clear hB
      have HNX := (show Hid (B = true → ∀ i (hi : i < k.length), i < j + 1 → k[i].ok = true) from fun h i hi hij => by
        by_cases e : i = j
        · subst e; exact HB.out.trans h
        · exact HJ.out i hi (by omega))
      have HFX := (show Hid (B = false → R = false) from fun h => by
        rw [← HRes.out, List.all_eq_false]
        exact ⟨k[j], List.getElem_mem hjl, by rw [HB.out, h]; simp⟩)
      generalize k[j].name = nm at *
      generalize k[j].text = tx at *
      generalize k[j].leaf = lf at *
      cases B
      · have HF := (show Hid (R = false) from HFX.out rfl)
        go_wp2_with fail
        go_at_call 58
        refine Calls.mono (HCL.out _ (hbel.alloc hbel.size _)) ?_
        rintro e w1 ⟨rfl, hb1⟩
        have HE := (show Hid _ from bel_trans (hbel.alloc hbel.size _) hb1); clear hb1 c0 c1 c2 c3 hbel
        go_wp2_with fail
        go_ret
        exact ⟨by rw [HF.out]; rfl, HE.out⟩
      · have HN := (show Hid _ from HNX.out rfl)
        go_wp2_with fail
        go_at_call 58
        refine Calls.mono (HCL.out _ (hbel.alloc hbel.size _)) ?_
        rintro e w1 ⟨rfl, hb1⟩
        have HE := (show Hid _ from bel_trans (hbel.alloc hbel.size _) hb1); clear hb1 c0 c1 c2 c3 hbel
        go_wp2_with fail
        exact ⟨⟨j + 1, by go_num, by omega, HN, HE.out⟩, by simp [intOf]; omega⟩
    · have HF := (show Hid (R = true) from by
        show R = true
        rw [← HRes.out, List.all_eq_true]
        intro x hx
        obtain ⟨i, hi, rfl⟩ := List.mem_iff_getElem.1 hx
        exact HJ.out i hi (by omega))
      go_wp2_with fail
      go_ret
      exact ⟨by rw [HF.out]; rfl, hbel⟩
end Go.Proofs.Ytledclkmeikgdaa.T
