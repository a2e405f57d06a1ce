import Derived.Test.YtpbpmhgoppbfnaaHe
import Derived.Test.YtpbpmhgoppbfnaaYx
/-! The program: the terminals of a word, and Shortest. -/
namespace Go.Proofs.Ytpbpmhgoppbfnaa
open Go.RowKit Go.Deep
set_option linter.unusedVariables false
set_option maxRecDepth 100000
set_option linter.unusedSimpArgs false

/-- A word as numbers. -/
def tin (u : List Nat) : List Int := List.map (fun (n : Nat) => Int.ofNat n) u
theorem tin_len (u : List Nat) : (tin u).length = u.length := by simp [tin]
set_option maxHeartbeats 3200000 in
theorem termsIn_any (u : List Nat) (hs : sml u) (hl : u.length ≤ 1000) (w : World) :
    Calls Try.prog 35 #[.string (bw u)] w fun e w' => ∃ v, e = .returned v ∧ Below w.heap.size w w' ∧ w'.ownsRow w.heap.size 3 1 v (tin u).length (iv (tin u)) := by
  obtain ⟨i3, hi3, hzz⟩ := Option.map_eq_some_iff.1 info3i
  simp only [Prod.mk.injEq] at hzz
  obtain ⟨hz0, hz1, hz2⟩ := hzz
  have hsz := bw_size u
  obtain ⟨T, hT⟩ : ∃ T, bw u = T := ⟨_, rfl⟩
  rw [hT] at hsz
  rw [hT]
  have HT := (show Hid _ from hT); clear hT
  have HSM := (show Hid _ from hs); clear hs
  go_enter Try.func35, Try.ntmps35
  go_wp2_with fail
  go_loopw [3, 4] (fun v i wr => ∃ (a' : Option Addr) (c' j : Nat), v = .slice a' j c' ∧ i = .int .i64 j ∧ j ≤ u.length ∧ Hid (Below w.heap.size w wr ∧ wr.ownsRow w.heap.size 3 1 (.slice a' j c') j (iv (tin (u.take j))))) (fun _ i _ => u.length - (intOf i).toNat)
  case atStart => exact ⟨none, 0, 0, rfl, rfl, Nat.zero_le _, Below.refl _ _, by rw [List.take_zero]; exact World.ownsRow_nil _ _ _ _⟩
  case round =>
    obtain ⟨a', c', j, rfl, rfl, hj, HJ⟩ := hrel
    by_cases hlt : j < u.length
    · have hlt' := hlt
      obtain ⟨x, hx⟩ : ∃ x, u[j] = x := ⟨_, rfl⟩
      have hx2 : x < 256 := by rw [← hx]; exact HSM.out _ (List.getElem_mem hlt')
      have hjT : j < T.size := by omega
      have hTj : (T[j]'hjT).toNat = x := by
        have h1 : T[j]'hjT = UInt8.ofNat u[j] := by
          have h2 := HT.out
          subst h2
          show (bw u).data[j] = _
          simp [bw]
        rw [h1, hx]
        simp
        omega
      have htk : tin (u.take (j + 1)) = tin (u.take j) ++ [(x : Int)] := by
        rw [(List.take_append_getElem hlt').symm, hx]
        simp [tin]
      have HO1 := (show Hid _ from al_still HJ.out.2 (bel_alloc wr (.cells #[.int .i64 (x : Int)] 3)))
      have HB := (show Hid _ from (⟨HJ.out.1, HJ.out.2, htk⟩ : _ ∧ _ ∧ _))
      have hsz := HJ.out.1.size
      clear HJ htk hx
      go_wp2_with (at_builtin; refine wpList_append_lies _ rfl (.tmp 11) (.tmp 16) 28 rfl w.heap.size 3 i3 _ 1 8 Try.underlying28 hi3 hz0 hz1 hz2 rfl (by decide) _ j _ rfl HO1.out ⟨wr.heap.size, 0, none⟩ 1 1 [.int .i64 (x : Int)] rfl rfl (al_box _ _ _) (by intro u hu; simp at hu; subst hu; rfl) (by decide) ?c1 ?c2 ?c3 _ rfl ?nx)
      case c1 => unfold maxLen; omega
      case c2 => omega
      case c3 => first | omega | (simp; omega)
      case nx =>
        intro g2 cap2 U hown2 hgr2 hat2 hlt2
        have hbU : Below w.heap.size w U := ((bel_trans HB.out.1 (bel_alloc wr (.cells #[.int .i64 (x : Int)] 3))).grown hgr2 (by simp; omega) (fun q hq => (World.ownsRow.lt HB.out.2.1 q hq).1))
        have hoU : U.ownsRow w.heap.size 3 1 (.slice (some ⟨g2, 0, none⟩) (j + 1) cap2) (j + 1) (iv (tin (u.take (j + 1)))) := by
          rw [HB.out.2.2]
          simpa [iv] using hown2
        have HM := (show Hid _ from (⟨hbU, hoU⟩ : _ ∧ _))
        clear hbU hoU hown2 hgr2 hat2 HO1 HB hTj hjT
        go_wp2_with fail
        exact ⟨⟨_, _, j + 1, by rfl, by go_num, by omega, HM⟩, by simp [intOf]; omega⟩
    · have hje : j = u.length := by omega
      subst hje
      have HF : Hid (Below w.heap.size w wr ∧ wr.ownsRow w.heap.size 3 1 (.slice a' u.length c') (tin u).length (iv (tin u))) := by
        have h1 := HJ.out
        rw [List.take_length] at h1
        rw [tin_len]
        exact h1
      clear HJ
      go_wp2_with fail
      go_ret
      exact ⟨_, rfl, HF.out⟩
end Go.Proofs.Ytpbpmhgoppbfnaa
