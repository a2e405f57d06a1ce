import Derived.Test.YtaimlmjgicmbeaaMet
namespace Go.Proofs.Ytaimlmjgicmbeaa
open Go.RowKit Go.Deep Go.Maps Go.WideMaps Go.ChangeMaps
set_option linter.unusedVariables false
set_option maxRecDepth 100000
set_option linter.unusedSimpArgs false

set_option maxHeartbeats 1600000 in
theorem firstAgain_any {S : Nat → Prop} (l : List ByteArray) (v : Value) (w : World) (h : Strs w S l v) (hl : l.length ≤ 1048576) :
    Calls Try.prog 70 #[v] w fun e w' => (∃ t, e = .returned (.tuple #[.string t, .bool (!apB l)])) ∧ Below w.heap.size w w' := by
  obtain ⟨a, cap, b, off, rfl, hc, hm, ha, hcell⟩ := h
  have HC := (show Hid _ from hcell); clear hcell
  have HA := (show Hid _ from ha); clear ha
  have hmk := fun w => run_makeMap (P := Try.prog) 112 w
  generalize hR : apB l = R
  have HR := (show Hid _ from hR); clear hR
  unfold maxLen at hm
  go_enter Try.func70, Try.ntmps70
  go_wp2_with fail
  go_loopw [10] (fun i wr => ∃ j : Nat, i = .int .i64 j ∧ j ≤ l.length ∧ Hid (Met wr w.heap.size (l.take j) ∧ (l.take j).Nodup ∧ Below w.heap.size w wr)) (fun i _ => l.length - (intOf i).toNat)
  case atStart => exact ⟨0, rfl, Nat.zero_le _, by simpa using Met.new w, by simp, bel_alloc _ _⟩
  case round =>
    obtain ⟨j, rfl, hj, HJ⟩ := hrel
    by_cases hjl : j < l.length
    · have hjl' : (j : Int) < l.length := by omega
      obtain ⟨rfl, _⟩ := HA.out (by omega)
      have c0 := (HC.out j hjl).1
      rw [← HJ.out.2.2.cell (lt_of_cell c0)] at c0
      have hts := (HC.out j hjl).2
      have hlt : (l.take j).length = j := by simp; omega
      have htk : l.take (j + 1) = l.take j ++ [l[j]] := by rw [List.take_add_one, List.getElem?_eq_getElem hjl]; rfl
      by_cases hmem : l[j] ∈ l.take j
      · obtain ⟨i0, hi0, he0⟩ := List.mem_iff_getElem.1 hmem
        have hi0' : i0 < j := by rw [hlt] at hi0; exact hi0
        have hne : ((i0 : Int) != j) = true := by simp; omega
        have hne' : ¬ ((i0 : Int) = j) := by omega
        have HF : Hid (R = false) := by
          show R = false
          rw [← HR.out]
          unfold apB
          simp only [decide_eq_false_iff_not]
          intro hnd
          have : (l.take (j + 1)).Nodup := List.Nodup.sublist (List.take_sublist _ _) hnd
          rw [htk, List.nodup_append] at this
          exact this.2.2 _ hmem _ (by simp) rfl
        have HNO := (show Hid _ from numberOf_old l[j] hts wr HJ.out.1 hi0 he0)
        clear htk hmem he0 hlt
        generalize l[j] = t at *
        go_wp2_with fail
        refine Calls.mono HNO.out ?_
        rintro e w1 ⟨rfl, rfl⟩
        go_wp2_with fail
        refine bodyPost_ret (v := .tuple #[.string t, .bool true]) (by simp [results, Try.results70, go_sem]) rfl ⟨⟨t, by rw [HF.out]; rfl⟩, HJ.out.2.2⟩
      · have hnn := numberOf_new l[j] hts wr HJ.out.1 hmem (by omega)
        rw [hlt, ← htk] at hnn
        have hnd : (l.take (j + 1)).Nodup := by
          rw [htk, List.nodup_append]
          refine ⟨HJ.out.2.1, by simp, fun x hx y hy e => ?_⟩
          simp at hy
          subst hy
          exact hmem (e ▸ hx)
        have HNO := (show Hid _ from hnn); clear hnn
        have HND := (show Hid _ from hnd); clear hnd htk hmem hlt
        have hwz : w.heap.size ≤ wr.heap.size := HJ.out.2.2.size
        generalize l[j] = t at *
        go_wp2_with fail
        refine Calls.mono HNO.out ?_
        rintro e w1 ⟨rfl, hm1, hg1⟩
        have H2 := (show Hid _ from (⟨hm1, HND.out, grown_below HJ.out.2.2 hg1 (Nat.le_refl _) hwz⟩ : Met w1 w.heap.size (l.take (j + 1)) ∧ (l.take (j + 1)).Nodup ∧ Below w.heap.size w w1)); clear hm1 hg1
        go_wp2_with fail
        exact ⟨⟨j + 1, by go_num, by omega, H2⟩, by simp [intOf]; omega⟩
    · have hje : j = l.length := by omega
      have HF : Hid (R = true) := by
        show R = true
        rw [← HR.out]
        unfold apB
        have := HJ.out.2.1
        rw [hje, List.take_length] at this
        simpa using this
      have hjl' : (l.length : Int) ≤ j := by omega
      clear hje
      go_wp2_with fail
      refine bodyPost_ret (v := .tuple #[.string ⟨#[]⟩, .bool false]) (by simp [results, Try.results70, go_sem]) rfl ⟨⟨_, by rw [HF.out]; rfl⟩, HJ.out.2.2⟩

theorem apart_any {S : Nat → Prop} (l : List ByteArray) (v : Value) (w : World) (h : Strs w S l v) (hl : l.length ≤ 1048576) :
    Calls Try.prog 61 #[v] w fun e w' => e = .returned (.bool (apB l)) ∧ Below w.heap.size w w' := by
  have HF := (show Hid _ from firstAgain_any l v w h hl)
  obtain ⟨a, cap, rfl, _⟩ := h.form
  clear h
  generalize apB l = R at *
  go_enter Try.func61, Try.ntmps61
  go_wp2_with fail
  refine Calls.mono HF.out ?_
  rintro e w1 ⟨⟨t, rfl⟩, hb⟩
  have HB := (show Hid _ from hb); clear hb
  cases R
  all_goals
    go_wp2_with fail
    go_ret
    exact ⟨rfl, HB.out⟩
end Go.Proofs.Ytaimlmjgicmbeaa
