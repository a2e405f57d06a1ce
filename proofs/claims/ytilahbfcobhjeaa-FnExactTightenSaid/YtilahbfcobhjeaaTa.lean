import Derived.Test.YtilahbfcobhjeaaMk
/-! Programs that are made tighter: where a To leads. -/
namespace Go.Proofs.Ytilahbfcobhjeaa
open Go.RowKit Go.Deep
set_option linter.unusedVariables false
set_option maxRecDepth 100000
set_option linter.unusedSimpArgs false

/-- Where one comes to by so many jumps at most; none: it has no end so far. -/
def ldk (l : List DIns) : Nat → Nat → Option Nat
  | 0, _ => none
  | f + 1, k => if (insAt l k).op = 5 then ldk l f (insAt l k).to_.toNat else some k
/-- Where a To leads in the end. -/
def ldT (l : List DIns) (k : Nat) : Nat := (ldk l (l.length + 1) k).getD k
theorem ldk_on {l : List DIns} {f k : Nat} (h : (insAt l k).op = 5) : ldk l (f + 1) k = ldk l f (insAt l k).to_.toNat := by rw [ldk, if_pos h]
theorem ldk_end {l : List DIns} {f k : Nat} (h : ¬ (insAt l k).op = 5) : ldk l (f + 1) k = some k := by rw [ldk, if_neg h]
set_option maxHeartbeats 1600000 in
theorem leads101 {S : Nat → Prop} (l : List DIns) (v : Value) (k : Nat) (w : World) (h : InsR w S l v) (hin : ∀ i (hi : i < l.length), inB l.length l[i] = true) (hl : l.length ≤ 50000) (hk : k < l.length) :
    Calls Try.prog 101 #[v, .int .i64 k] w fun e w' => e = .returned (.int .i64 (ldT l k : Nat)) ∧ w' = w := by
  obtain ⟨a, cap, b, off, rfl, hc, hm, ha, hcell⟩ := h
  have HC := (show Hid _ from hcell); clear hcell
  obtain ⟨rfl, _⟩ := ha (by omega)
  clear ha
  unfold maxLen at hm
  have HIN := (show Hid _ from hin); clear hin
  have HR := (show Hid (∀ o, ldk l (l.length + 1) k = o → ldT l k = o.getD k) from fun o ho => by unfold ldT; rw [ho])
  generalize ldT l k = R at *
  generalize hO : ldk l (l.length + 1) k = O at *
  have HO := (show Hid _ from hO); clear hO
  have HRO := (show Hid (R = O.getD k) from HR.out O rfl); clear HR
  go_enter Try.func101, Try.ntmps101
  go_wp2_with fail
  go_loopw [5, 6] (fun q i wr => ∃ m j : Nat, q = .int .i64 m ∧ i = .int .i64 j ∧ m < l.length ∧ j ≤ l.length + 1 ∧ Hid (ldk l (l.length + 1 - j) m = O) ∧ w = wr) (fun _ i _ => l.length + 1 - (intOf i).toNat)
  case atStart => exact ⟨k, 0, rfl, rfl, hk, Nat.zero_le _, HO.out, rfl⟩
  case round =>
    obtain ⟨m, j, rfl, rfl, hml, hj, HJ, rfl⟩ := hrel
    by_cases hjl : j ≤ l.length
    · obtain ⟨c0, c1, c2⟩ := HC.out m hml
      have hat := insAt_at hml
      obtain ⟨_, _, f3, f4, _, _⟩ := in_facts (HIN.out m hml)
      by_cases h5 : l[m].op = 5
      · have h4 := f4 (by rw [h5]; rfl)
        have HN := (show Hid (ldk l (l.length + 1 - (j + 1)) l[m].to_.toNat = O) from by
          have h9 := HJ.out
          rw [show l.length + 1 - j = (l.length + 1 - (j + 1)) + 1 by omega, ldk_on (by rw [hat]; exact h5), hat] at h9
          exact h9)
        obtain ⟨t, ht⟩ : ∃ t : Nat, l[m].to_ = t := ⟨l[m].to_.toNat, by omega⟩
        rw [ht] at c2 HN h4
        rw [Int.toNat_natCast] at HN
        rw [h5] at c0
        have htl : t < l.length := by omega
        clear f3 f4 hat ht h5 c1 h4
        go_wp2_with fail
        exact ⟨⟨t, j + 1, rfl, by go_num, htl, by omega, HN, trivial⟩, by simp [intOf]; omega⟩
      · have HE := (show Hid (R = m) from by
          show R = m
          have h9 := HJ.out
          rw [show l.length + 1 - j = (l.length - j) + 1 by omega, ldk_end (by rw [hat]; exact h5)] at h9
          rw [HRO.out, ← h9]
          rfl)
        have q5 : (l[m].op != 5) = true := by simpa using h5
        clear f3 f4 hat h5 c1 c2
        generalize l[m].op = xo at *
        go_wp2_with fail
        go_ret
        exact ⟨by rw [HE.out]; rfl, rfl⟩
    · have HE := (show Hid (R = k) from by
        show R = k
        have h9 := HJ.out
        rw [show l.length + 1 - j = 0 by omega] at h9
        rw [HRO.out, ← h9]
        rfl)
      go_wp2_with fail
      go_ret
      exact ⟨by rw [HE.out]; rfl, rfl⟩
end Go.Proofs.Ytilahbfcobhjeaa
