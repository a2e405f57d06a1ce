import Derived.Test.YtjpjjfgdgieapaaDoorLc
/-! The program: firsts. -/
namespace Go.Proofs.YtjpjjfgdgieapaaDoor
open Go.RowKit Go.Deep
set_option linter.unusedVariables false
set_option maxRecDepth 100000
set_option linter.unusedSimpArgs false

/-- What stands in the sets of firsts, so far: symbols below s are done, of s terminals below t. -/
def FsA (Wq : List Nat) (N nt s t : Nat) (W : List Nat) : Prop := W.length = N * 3 ∧ (∀ i, W.getD i 0 < 2 ^ 64) ∧ ∀ a y, a < N → y < 192 → mem W a y = ((decide (a < s) || (decide (a = s) && decide (y < t))) && decide (y < nt) && (decide (a = y) || mem Wq a y))
theorem FsA.zero (Wq : List Nat) (N nt : Nat) : FsA Wq N nt 0 0 (List.replicate (N * 3) 0) :=
  ⟨by simp, fun i => by
    by_cases h : i < N * 3
    · simp [List.getD_eq_getElem?_getD, h]
    · simp [List.getD_eq_getElem?_getD, Nat.le_of_not_lt h], fun a y ha hy => by rw [mem_zero]; simp⟩
theorem FsA.no {Wq : List Nat} {N nt s t : Nat} {W : List Nat} (h : FsA Wq N nt s t W) (hs : s ≠ t) (hm : mem Wq s t = false) : FsA Wq N nt s (t + 1) W :=
  ⟨h.1, h.2.1, fun a y ha hy => by
    rw [h.2.2 a y ha hy]
    by_cases e : a = s
    · subst e
      by_cases e2 : y = t
      · subst e2; simp [hs, hm]
      · have : (y < t) ↔ (y < t + 1) := by omega
        simp [this]
    · simp [e]⟩
theorem FsA.yes {Wq : List Nat} {N nt s t : Nat} {W : List Nat} (h : FsA Wq N nt s t W) (hs : s < N) (ht : t < nt) (hn : nt ≤ 160) (hm : s = t ∨ mem Wq s t = true) : FsA Wq N nt s (t + 1) (add1 W s t) := by
  have hl := h.1
  refine ⟨by rw [add1_len]; exact hl, add1_lt W h.2.1 s t, fun a y ha hy => ?_⟩
  rw [mem_add1 W s t (by omega) (by omega) a y hy, h.2.2 a y ha hy]
  by_cases e : a = s
  · subst e
    by_cases e2 : y = t
    · subst e2
      rcases hm with hm | hm
      · simp [hm, ht]
      · simp [hm, ht]
    · have : (y < t) ↔ (y < t + 1) := by omega
      simp [this, e2]
  · simp [e]
theorem FsA.next {Wq : List Nat} {N nt s : Nat} {W : List Nat} (h : FsA Wq N nt s nt W) : FsA Wq N nt (s + 1) 0 W :=
  ⟨h.1, h.2.1, fun a y ha hy => by
    rw [h.2.2 a y ha hy]
    by_cases e : a = s
    · subst e; simp
    · have : (a < s) ↔ (a < s + 1) := by omega
      simp [e, this]⟩
set_option maxHeartbeats 3200000 in
theorem firsts_any (w : World) (g bs nt c0 : Nat) (ad : Option Addr) (v1 vo v3 : Value) (L : List Int) (hS : St w g bs (.slice ad nt c0) v1 vo v3 L) (bq N : Nat) (Wq : List Nat) (hW : WRow w bq Wq) (hWN : Wq.length = N * 3) (hWl : ∀ i, Wq.getD i 0 < 2 ^ 64) (hN : N ≤ 160) (hnt : nt ≤ N) :
    Calls Tryd.prog 69 #[.pointer (some ⟨g, 0, none⟩), .slice (some ⟨bq, 0, none⟩) N N] w fun e w' => ∃ b W, e = .returned (.slice (some ⟨b, 0, none⟩) N N) ∧ Below w.heap.size w w' ∧ w.heap.size ≤ b ∧ WRow w' b W ∧ FsA Wq N nt N 0 W := by
  have hmk := run_makeSets N (by omega) w
  have hb0 := bel_alloc w (.cells (madeCells #[.int .u64 0, .int .u64 0, .int .u64 0] (N * 3)) 102)
  have H0 := (show Hid (Below w.heap.size w (w.alloc (.cells (madeCells #[.int .u64 0, .int .u64 0, .int .u64 0] (N * 3)) 102)) ∧ WRow (w.alloc (.cells (madeCells #[.int .u64 0, .int .u64 0, .int .u64 0] (N * 3)) 102)) w.heap.size (List.replicate (N * 3) 0)) from ⟨hb0, zero_row w (N * 3)⟩)
  clear hb0
  have HS := (show Hid _ from hS)
  have HW := (show Hid _ from hW)
  have HL := (show Hid _ from hWl)
  clear hS hW hWl
  go_enter Tryd.func69, Tryd.ntmps69
  go_wp2_with fail
  go_loopw [13] (fun i wr => ∃ (s : Nat) (W : List Nat), i = .int .i64 s ∧ s ≤ N ∧ Hid (Below w.heap.size w wr ∧ WRow wr w.heap.size W ∧ FsA Wq N nt s 0 W)) (fun i _ => N - (intOf i).toNat)
  case atStart => exact ⟨0, _, rfl, Nat.zero_le _, H0.out.1, H0.out.2, FsA.zero Wq N nt⟩
  case round =>
    obtain ⟨s, W, rfl, hs, HJ⟩ := hrel
    by_cases hlt : s < N
    · have T0 : wr.cell? ⟨g, 0, none⟩ = some (.slice ad nt c0) := (HS.out.still HJ.out.1).box.cell 0 (by simp)
      go_wp2_with fail
      go_loopw [22] (fun i wr => ∃ (t : Nat) (W : List Nat), i = .int .i64 t ∧ t ≤ nt ∧ Hid (Below w.heap.size w wr ∧ WRow wr w.heap.size W ∧ FsA Wq N nt s t W)) (fun i _ => nt - (intOf i).toNat)
      case atStart => exact ⟨0, W, rfl, Nat.zero_le _, HJ.out⟩
      case round =>
        obtain ⟨t, V, rfl, ht, HK⟩ := hrel
        by_cases hlt2 : t < nt
        · have hq := HK.out.1
          have hrow := WRow.still HW.out hq
          have hxx : 64 * (t / 64) + t % 64 = t := Nat.div_add_mod t 64
          have hv := has_any bq (s * 3) (fun i => Wq.getD (s * 3 + i) 0) (t / 64) (t % 64) (by omega) (Nat.mod_lt _ (by omega)) wr (fun i hi => by
            have := hrow.cell (i := s * 3 + i) (by omega)
            rw [← getD_lt Wq 0 (i := s * 3 + i) (by omega)] at this
            exact this) (fun i => HL.out _)
          rw [hxx] at hv
          have HV := (show Hid (Calls Tryd.prog 71 #[.pointer (some ⟨bq, s * 3, none⟩), .int .i64 (t : Nat)] wr fun e w' => e = .returned (.bool (mem Wq s t)) ∧ w' = wr) from hv)
          have hVl := HK.out.2.2.1
          have hidx : s * 3 + t / 64 < V.length := by omega
          have hv1 := add_any w.heap.size (s * 3) V (t / 64) (t % 64) (by omega) (Nat.mod_lt _ (by omega)) wr HK.out.2.1 hidx (by rw [← getD_lt _ 0 hidx]; exact HK.out.2.2.2.1 _)
          rw [hxx] at hv1
          have ha1 : V.set (s * 3 + t / 64) (V[s * 3 + t / 64] ||| 2 ^ (t % 64)) = add1 V s t := by unfold add1; rw [getD_lt _ _ hidx]
          rw [ha1] at hv1
          have HA := (show Hid _ from hv1)
          have hwsz := hq.size
          clear hv hv1 ha1 hidx hrow hq hxx T0
          by_cases hst : s = t
          · subst hst
            have HN := (show Hid _ from HK.out.2.2.yes hlt hlt2 (by omega) (.inl rfl))
            have HB := (show Hid _ from HK.out.1)
            clear HK HV
            go_wp2_with fail
            refine Calls.mono HA.out ?_
            rintro e w3 ⟨rfl, h3, h4⟩
            have HM := (show Hid (Below w.heap.size w w3 ∧ WRow w3 w.heap.size (add1 V s s) ∧ FsA Wq N nt s (s + 1) (add1 V s s)) from ⟨HB.out.trans (h4.below (Nat.le_refl _) hwsz), h3, HN.out⟩)
            clear h3 h4 HB HN HA
            go_wp2_with fail
            exact ⟨⟨s + 1, _, by go_num, by omega, HM⟩, by simp [intOf]; omega⟩
          · have hst2 : ((s : Int) == (t : Int)) = false := by simp; omega
            by_cases hm : mem Wq s t = true
            · have HN := (show Hid _ from HK.out.2.2.yes hlt hlt2 (by omega) (.inr hm))
              have HB := (show Hid _ from HK.out.1)
              rw [hm] at HV
              clear HK
              go_wp2_with fail
              refine Calls.mono HV.out ?_
              rintro e w3 ⟨rfl, rfl⟩
              go_wp2_with fail
              refine Calls.mono HA.out ?_
              rintro e w3 ⟨rfl, h3, h4⟩
              have HM := (show Hid (Below w.heap.size w w3 ∧ WRow w3 w.heap.size (add1 V s t) ∧ FsA Wq N nt s (t + 1) (add1 V s t)) from ⟨HB.out.trans (h4.below (Nat.le_refl _) hwsz), h3, HN.out⟩)
              clear h3 h4 HB HN HA HV
              go_wp2_with fail
              exact ⟨⟨t + 1, _, by go_num, by omega, HM⟩, by simp [intOf]; omega⟩
            · have hm' : mem Wq s t = false := by simpa using hm
              have HM := (show Hid (Below w.heap.size w wr ∧ WRow wr w.heap.size V ∧ FsA Wq N nt s (t + 1) V) from ⟨HK.out.1, HK.out.2.1, HK.out.2.2.no hst hm'⟩)
              rw [hm'] at HV
              clear HK HA
              go_wp2_with fail
              refine Calls.mono HV.out ?_
              rintro e w3 ⟨rfl, rfl⟩
              clear HV
              go_wp2_with fail
              exact ⟨⟨t + 1, _, by go_num, by omega, HM⟩, by simp [intOf]; omega⟩
        · obtain rfl : t = nt := by omega
          have HM := (show Hid (Below w.heap.size w wr ∧ WRow wr w.heap.size V ∧ FsA Wq N t (s + 1) 0 V) from ⟨HK.out.1, HK.out.2.1, HK.out.2.2.next⟩)
          clear HK T0
          go_wp2_with fail
          exact ⟨⟨s + 1, _, by go_num, by omega, HM⟩, by simp [intOf]; omega⟩
    · obtain rfl : s = N := by omega
      go_wp2_with fail
      go_ret
      exact ⟨_, W, rfl, HJ.out.1, Nat.le_refl _, HJ.out.2.1, HJ.out.2.2⟩
end Go.Proofs.YtjpjjfgdgieapaaDoor
