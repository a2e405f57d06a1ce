import Derived.Test.YtgjnlhidbjpdkajGreatW13
import Derived.Test.YtgjnlhidbjpdkajGreatG7
/-! The program's GrammarShow. -/
namespace Go.Proofs.YtgjnlhidbjpdkajGreat
open Go.RowKit Go.Deep Go.Lib
set_option linter.unusedVariables false
set_option maxRecDepth 100000
set_option linter.unusedSimpArgs false

theorem ba_push_all (l : List UInt8) : ∀ s : ByteArray, (l.map fun b => ((b.toNat : Nat) : Int)).foldl (fun r n => r.push (UInt8.ofNat n.toNat)) s = s ++ (⟨l.toArray⟩ : ByteArray) := by
  induction l with
  | nil => intro s; exact (ba_ext (by simp)).symm
  | cons c r ih =>
    intro s
    simp only [List.map_cons, List.foldl_cons]
    rw [ih]
    refine ba_ext ?_
    simp [ByteArray.push]
/-- 'string(bytes)' of a row that the call owns. -/
theorem conv_own {B : Nat} {w : World} {v : Value} {l : List UInt8} (h : w.ownsRow B 5 1 v l.length (bc l)) : (convert 59 9 v).run Tryz.prog w = .ok (.string ⟨l.toArray⟩) w := by
  obtain ⟨hl, h⟩ := h
  rcases h with ⟨rfl, h0⟩ | ⟨g, cap, cur, rfl, _, hg, hc, _, hsz, htk⟩
  · have hl0 : l = [] := List.length_eq_zero_iff.1 h0
    subst hl0
    rw [run_convert_bytes_string w 59 9 5 none 0 0 Tryz.underlying59 Tryz.underlying5 Tryz.underlying9]
    simp [Conv.bytesToString, Sem.run_pure]
    rfl
  · rw [run_convert_bytes_string w 59 9 5 _ _ _ Tryz.underlying59 Tryz.underlying5 Tryz.underlying9]
    have hload : (loadCells ⟨g, 0, none⟩ l.length).run Tryz.prog w = .ok ((l.map fun b => ((b.toNat : Nat) : Int)).map (Value.int .u8)).toArray w := by
      have e : ((l.map fun b => ((b.toNat : Nat) : Int)).map (Value.int .u8)) = bc l := by simp [bc, Function.comp_def]
      rw [e]
      have := run_loadCells_list (P := Tryz.prog) w ⟨g, 0, none⟩ (bc l) (fun j u hu => by
        rw [WideShapes.add_plain, Nat.zero_add, cell_of_row w g j cur 5 (0, 0) hg]
        rw [← htk] at hu
        rw [List.getElem?_take] at hu
        split at hu
        · simpa using hu
        · simp at hu)
      rw [bc_length] at this
      exact this
    rw [run_bytesToString w ⟨g, 0, none⟩ l.length cap _ hload, ba_push_all]
    simp
/-- What is answered. -/
def shR (d : DGrammar) : ByteArray × Int := if spB d = true then (if 6000 < (shw d).size then (⟨#[]⟩, 3) else (shw d, 0)) else (⟨#[]⟩, 1)
theorem Wr.new {w : World} {gc : List Value} (h5 : gc.length = 5) (cs : Array Value) (hcs : cs = (gc ++ [Value.slice none 0 0, Value.bool false]).toArray) : Wr w.heap.size gc ⟨#[]⟩ false (w.alloc (.cells cs 61)) := by
  subst hcs
  exact ⟨[], false, ⟨h5, none, 0, Box.new w 61 _, World.ownsRow_nil _ _ _ _⟩, Nat.zero_le _, .inl ⟨rfl, rfl⟩⟩

set_option maxHeartbeats 3200000 in
theorem iShow_any {S : Nat → Prop} (d : DGrammar) (hsm : d.Sm) (v1 v2 v3 v4 : Value) (w : World) (h : DGrammarL w S d v1 v2 v3 v4) :
    Calls Tryz.prog 7 #[.agg #[.string d.name, v1, v2, v3, v4]] w fun e w' => e = .returned (.tuple #[.string (shR d).1, .int .i64 (shR d).2]) ∧ Below w.heap.size w w' := by
  have hnm : d.name.size ≤ maxLen := by have := hsm.name; unfold maxLen; omega
  obtain ⟨a1, p1, rfl, _⟩ := h.tokens.form
  obtain ⟨a2, p2, rfl, _⟩ := h.levels.form
  obtain ⟨a3, p3, rfl, _⟩ := h.rules.form
  obtain ⟨a4, p4, rfl, _⟩ := h.parts.form
  have HG := (show Hid _ from iGr_any d _ _ _ _ _ (h.still (bel_alloc w (.cells #[.string d.name, .slice a1 d.tokens.length p1, .slice a2 d.levels.length p2, .slice a3 d.rules.length p3, .slice a4 d.parts.length p4] 36))) hnm)
  have HB0 := (show Hid _ from Box.new w 36 [.string d.name, .slice a1 d.tokens.length p1, .slice a2 d.levels.length p2, .slice a3 d.rules.length p3, .slice a4 d.parts.length p4])
  have HBA := (show Hid _ from bel_alloc w (.cells #[.string d.name, .slice a1 d.tokens.length p1, .slice a2 d.levels.length p2, .slice a3 d.rules.length p3, .slice a4 d.parts.length p4] 36))
  cases hsp : spB d
  · have hR : shR d = (⟨#[]⟩, 1) := by unfold shR; rw [hsp]; rfl
    rw [hR]
    rw [← spB_grB, hsp] at HG
    clear hR hsp h hsm
    go_enter Tryz.func7, Tryz.ntmps7
    go_wp2_with fail
    refine Calls.mono HG.out ?_
    rintro e w1 ⟨rfl, hb1⟩
    have HN := (show Hid _ from bel_trans HBA.out hb1); clear hb1
    go_wp2_with fail
    refine bodyPost_ret (v := .tuple #[.string ⟨#[]⟩, .int .i64 1]) (by simp [results, Tryz.results7, go_sem]) rfl ?_
    exact ⟨rfl, HN.out⟩
  · rw [← spB_grB, hsp] at HG
    have hok := spB_ok hsp
    have hR : shR d = if 6000 < (shw d).size then (⟨#[]⟩, 3) else (shw d, 0) := by unfold shR; rw [hsp]; rfl
    have HWL := (show Hid _ from fun (w1 : World) (hb : Below w.heap.size w w1) => wlang_any d hok hsm _ _ _ _ w1.heap.size w (w1.alloc (.cells #[.string d.name, .slice a1 d.tokens.length p1, .slice a2 d.levels.length p2, .slice a3 d.rules.length p3, .slice a4 d.parts.length p4, .slice none 0 0, .bool false] 61)) (bel_trans hb (bel_alloc _ _)) hb.size h (Wr.new (gc := [.string d.name, .slice a1 d.tokens.length p1, .slice a2 d.levels.length p2, .slice a3 d.rules.length p3, .slice a4 d.parts.length p4]) rfl _ rfl))
    have HR := (show Hid _ from hR)
    clear h hsm hok hsp hR
    go_enter Tryz.func7, Tryz.ntmps7
    go_wp2_with fail
    refine Calls.mono HG.out ?_
    rintro e w1 ⟨rfl, hb1⟩
    have T := fun i hi => (HB0.out.still hb1).cell i hi
    have T0 : w1.cell? ⟨w.heap.size, 0, none⟩ = some (.string d.name) := T 0 (by simp)
    have T1 : w1.cell? ⟨w.heap.size, 1, none⟩ = some (.slice a1 d.tokens.length p1) := T 1 (by simp)
    have T2 : w1.cell? ⟨w.heap.size, 2, none⟩ = some (.slice a2 d.levels.length p2) := T 2 (by simp)
    have T3 : w1.cell? ⟨w.heap.size, 3, none⟩ = some (.slice a3 d.rules.length p3) := T 3 (by simp)
    have T4 : w1.cell? ⟨w.heap.size, 4, none⟩ = some (.slice a4 d.parts.length p4) := T 4 (by simp)
    clear T
    have hb2 := bel_trans HBA.out hb1
    have HV := (show Hid _ from HWL.out w1 hb2)
    have HN := (show Hid _ from hb2); clear hb1 hb2 HG HWL
    go_wp2_with fail
    refine Calls.mono HV.out ?_
    rintro e w2 ⟨rfl, ⟨G, out, gl, ⟨h5, a, cap, hB, hO⟩, hle, hc⟩, hF⟩
    obtain ⟨C5, _⟩ := gc_c5 h5 hB
    have HE := (show Hid _ from HN.out.trans (((bel_alloc w1 _).mono HN.out.size).trans (hF.bel.mono HN.out.size))); clear hF
    have hcv := conv_own hO
    clear T0 T1 T2 T3 T4 hB hO HV HB0
    by_cases hlong : 6000 < out.length
    · have hd : decide ((6000 : Int) < out.length) = true := by simp; omega
      have hx : 6000 < (shw d).size := by omega
      have HX := (show Hid _ from HR.out.trans (if_pos hx))
      clear hx HR
      go_wp2_with fail
      refine bodyPost_ret (v := .tuple #[.string ⟨#[]⟩, .int .i64 3]) (by simp [results, Tryz.results7, go_sem]) rfl ?_
      exact ⟨by rw [HX.out], HE.out⟩
    · have hd : decide ((6000 : Int) < out.length) = false := by simp; omega
      have hT : out = (shw d).data.toList := by
        rcases hc with ⟨h, _⟩ | h
        · exact h
        · exact absurd h hlong
      have hx : ¬ 6000 < (shw d).size := by rw [hT, dt_length] at hlong; exact hlong
      have HX := (show Hid _ from HR.out.trans (if_neg hx))
      have hq : (⟨out.toArray⟩ : ByteArray) = shw d := ba_ext (by rw [hT])
      rw [hq] at hcv
      clear hx HR hq hT hc hle
      go_wp2_with fail
      refine bodyPost_ret (v := .tuple #[.string (shw d), .int .i64 0]) (by simp [results, Tryz.results7, go_sem]) rfl ?_
      exact ⟨by rw [HX.out], HE.out⟩
end Go.Proofs.YtgjnlhidbjpdkajGreat
