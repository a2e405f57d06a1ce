import Derived.Test.YtpbpmhgoppbfnaaTl
import Derived.Test.YtpbpmhgoppbfnaaCg
/-! The specification: the ways of a Right from a place on. -/
namespace Go.Proofs.Ytpbpmhgoppbfnaa
open Go.RowKit Go.Deep
set_option linter.unusedVariables false
set_option maxRecDepth 100000
set_option linter.unusedSimpArgs false

theorem LF_term {d : Bn} {W : List Int} {V : Nat → Nat → Nat → Nat} (hV : Cn d W V) {y : Nat} (hy : y < d.terms.length) (r : List Nat) {i j : Nat} (hij : i ≤ j) :
    LF V (y :: r) i j = if i < j ∧ W[i]? = some (y : Int) then LF V r (i + 1) j else 0 := by
  show sm (fun t => V y i (i + t) * LF V r (i + t) j) (j + 1 - i) = _
  have hf : ∀ t, V y i (i + t) = if t = 1 ∧ W[i]? = some (y : Int) then 1 else 0 := fun t => by
    rw [hV.tm _ _ _ hy]
    unfold tmc
    by_cases e : t = 1
    · subst e; simp
    · rw [if_neg (fun h => e (by omega)), if_neg (fun h => e h.1)]
  by_cases h : i < j ∧ W[i]? = some (y : Int)
  · rw [if_pos h, sm_mid (b := 2) (by omega) (fun t h1 h2 => by rw [hf, if_neg (fun h => by omega), Nat.zero_mul])]
    show 0 + V y i (i + 0) * LF V r (i + 0) j + V y i (i + 1) * LF V r (i + 1) j = _
    rw [hf, hf, if_neg (fun h => by omega), if_pos ⟨rfl, h.2⟩]
    omega
  · rw [if_neg h]
    refine sm_zero fun t ht => ?_
    rw [hf, if_neg (fun h2 => h ⟨by omega, h2.2⟩), Nat.zero_mul]
/-- What a part adds. -/
def fW (s : Sx) (y : Nat) (r : List Nat) (i j t : Nat) : Nat := s.V y i (i + t) * LF s.V r (i + t) j
theorem fW_first {S : Nat → Prop} {s : Sx} (hs : SxOK S s) {y : Nat} (r : List Nat) (i j : Nat) (h : Nf s.d.terms.length s.nl y = false) : fW s y r i j 0 = 0 := by
  unfold fW
  have : s.V y i (i + 0) = 0 := Decidable.byContradiction fun e => by
    have h1 := (hs.cn.made _ _ _ e).2 (by omega)
    rw [Nat.add_zero, Nat.sub_self] at h1
    rw [(hs.nsd.zero hs.qu y).2 h1] at h
    cases h
  rw [this, Nat.zero_mul]
theorem fW_last {S : Nat → Prop} {s : Sx} (hs : SxOK S s) (y : Nat) {r : List Nat} {i j t : Nat} (ht : i + t = j) (h : nall (Nf s.d.terms.length s.nl) r = false) : fW s y r i j t = 0 := by
  unfold fW
  have : LF s.V r (i + t) j = 0 := Decidable.byContradiction fun e => by
    have h1 := (LF_ne hs.cn.made _ _ _ e).2 (by omega)
    rw [ht, Nat.sub_self] at h1
    rw [Nsd.all hs.qu _ _ h1 rfl] at h
    cases h
  rw [this, Nat.mul_zero]
theorem fW_none {s : Sx} {y : Nat} {r : List Nat} {i j t : Nat} (h : cp (LF s.V r (i + t) j) = 0) : fW s y r i j t = 0 := by
  unfold fW
  rw [cp_zero.1 h, Nat.mul_zero]
set_option maxHeartbeats 3200000 in
theorem ways95 {S : Nat → Prop} (s : Sx) (hs : SxOK S s) (p a i j : Nat) (hp : p < s.d.prods.length) (ha : a < (s.rt p).length) (hij : i ≤ j) (hj : j < s.n1)
    (hL1 : i < j → PL s p (a + 1) (i + 1) j)
    (hL2 : ∀ m, i ≤ m → m ≤ j → (m = i → Nf s.d.terms.length s.nl (s.rt p)[a].toNat = true) → (m = j → nall (Nf s.d.terms.length s.nl) ((nats (s.rt p)).drop (a + 1)) = true) → PL s p (a + 1) m j)
    (hN : ∀ (k m : Nat), (s.rt p)[a] = (s.d.terms.length : Int) + (k : Int) → i ≤ m → m ≤ j → (m = i → Nf s.d.terms.length s.nl (s.rt p)[a].toNat = true) → (m = j → nall (Nf s.d.terms.length s.nl) ((nats (s.rt p)).drop (a + 1)) = true) → PN s k i m) : PY s p a i j := by
  intro ow mm w hw
  have hnp := hs.hok.np
  have hnt := hs.hok.nt
  have hnn := hs.hok.nn
  have hnl := hs.nlen
  have hwl := hs.wlen
  have hn1 : s.n1 = s.W.length + 1 := rfl
  have hrl : (s.rt p).length ≤ 12 := by rw [rt_eq s hp]; exact hs.hok.len p hp
  have hrin : ∀ q (hq : q < (s.rt p).length), 0 ≤ (s.rt p)[q] ∧ (s.rt p)[q] < ((s.d.terms.length + s.d.nons.length : Nat) : Int) := by
    rw [rt_eq s hp]
    intro q hq
    have := hs.hok.right p hp q hq
    omega
  obtain ⟨a4, cap, b, off, sv, hv3, hcc, hm3, ha3, hcell, hr⟩ := hs.prods
  simp only [Value.slice.injEq] at hv3
  obtain ⟨ea, _, ec⟩ := hv3
  subst ea ec
  obtain ⟨ha3, _⟩ := ha3 (by omega)
  obtain ⟨_, r1, _⟩ := hcell p hp
  have hri := hr p hp
  rw [← rt_eq s hp] at hri
  obtain ⟨ai, ci, ei, _⟩ := hri.form
  rw [ei] at hri r1
  have HRI := (show Hid _ from hri)
  obtain ⟨a5, c5, bi, oi, hv5, hc5, hm5, ha5, hcell5⟩ := hri
  simp only [Value.slice.injEq] at hv5
  obtain ⟨ea, _, ec⟩ := hv5
  subst ea ec
  obtain ⟨ha5, _⟩ := ha5 (by omega)
  subst ha5
  have hsy := hcell5 a ha
  obtain ⟨av, cv, bw, ow9, ew, hcw, hmw, haw, hcellw⟩ := hs.word
  unfold maxLen at hm3 hm5 hmw
  have hsym := hrin a ha
  have HLF := (show Hid _ from congrArg (fun z => LF s.V z i j) (nats_drop (s.rt p) a ha))
  have HC := (show Hid (∀ ow mm w, TB s ow mm w → w.cell? ⟨s.g, 0, none⟩ = some (.slice s.a0 s.d.terms.length s.c0) ∧ w.cell? ⟨s.g, 1, none⟩ = some (.slice s.a1 s.d.nons.length s.c1) ∧ w.cell? ⟨s.g, 2, none⟩ = some (.int .i64 s.d.own) ∧ w.cell? ⟨s.g, 3, none⟩ = some (.slice (some ⟨b, off, none⟩) s.d.prods.length s.c3) ∧ w.cell? ⟨s.g, 4, none⟩ = some (.slice (some ⟨s.bnl, 0, none⟩) s.nl.length s.nl.length) ∧ w.cell? ⟨s.g, 5, none⟩ = some (.slice av s.W.length cv) ∧ w.cell? ⟨b, off + p * 5 + 1, none⟩ = some (.slice (some ⟨bi, oi, none⟩) (s.rt p).length ci) ∧ w.cell? ⟨bi, oi + a, none⟩ = some (.int .i64 (s.rt p)[a])) from fun ow mm w h => by
    refine ⟨h.box.cell 0 (by simp), h.box.cell 1 (by simp), h.box.cell 2 (by simp), ?_, h.box.cell 4 (by simp), ?_, (h.bel.cell (lt_of_cell r1)).trans r1, (h.bel.cell (lt_of_cell hsy)).trans hsy⟩
    · rw [← ha3]; exact h.box.cell 3 (by simp)
    · rw [← ew]; exact h.box.cell 5 (by simp))
  have HCW := (show Hid (∀ ow mm w, TB s ow mm w → i < s.W.length → ∃ bw ow9, av = some ⟨bw, ow9, none⟩ ∧ w.cell? ⟨bw, ow9 + i, none⟩ = some (.int .i64 (s.W.getD i 0)) ∧ s.W[i]? = some (s.W.getD i 0)) from fun ow mm w h hi => by
    obtain ⟨e1, _⟩ := haw (by omega)
    refine ⟨bw, ow9, e1, ?_, ?_⟩
    · have := hcellw i hi
      rw [h.bel.cell (lt_of_cell this), this]
      simp [List.getD_eq_getElem?_getD, hi]
    · simp [List.getD_eq_getElem?_getD, hi])
  have HW := (show Hid _ from hw)
  have HOK := (show Hid _ from hs)
  have HL1 := (show Hid _ from hL1)
  have HL2 := (show Hid _ from hL2)
  have HN := (show Hid _ from hN)
  have HRIN := (show Hid _ from hrin)
  have HNN := (show Hid _ from fun (wq : World) => non_any s.d s.a0 s.c0 (.slice s.a1 s.d.nons.length s.c1) (.slice (some ⟨b, off, none⟩) s.d.prods.length s.c3) (s.rt p)[a] wq (by omega) hnt)
  have hcr : (s.rt p).length ≤ ci := hc5
  clear hcell hr ei ew ha3 hL1 hL2 hN hrin hcell5 hcellw haw r1 hsy hcw hmw
  obtain ⟨g0, g1, g2, g3, g4, g5, r2, y2⟩ := HC.out _ _ _ HW.out
  generalize hsg : (s.rt p)[a] = sy at *
  have HSG := (show Hid _ from hsg); clear hsg
  have z1 : (0 : Int) ≤ (a : Int) := by omega
  have z2 : (a : Int) < ((s.rt p).length : Int) := by omega
  go_enter Try.func95, Try.ntmps95
  go_wp2_with fail
  go_cut [12] from 25 to 33 (fun v wx => v = .int .i64 (sy - (s.d.terms.length : Int)) ∧ Hid (Below w.heap.size w wx))
  case first =>
    have hbd := (Below.refl w.heap.size w).drew
    have hS0 := (⟨(hbd.cell (lt_of_cell g0)).trans g0, (hbd.cell (lt_of_cell g1)).trans g1, (hbd.cell (lt_of_cell g2)).trans g2, (hbd.cell (lt_of_cell g3)).trans g3, (hbd.cell (lt_of_cell y2)).trans y2⟩ : _ ∧ _ ∧ _ ∧ _ ∧ _)
    have HC5 := (show Hid (∀ wq, Below w.heap.size w wq → wq.cell? ⟨s.g, 0, none⟩ = some (.slice s.a0 s.d.terms.length s.c0) ∧ wq.cell? ⟨s.g, 1, none⟩ = some (.slice s.a1 s.d.nons.length s.c1) ∧ wq.cell? ⟨s.g, 2, none⟩ = some (.int .i64 s.d.own) ∧ wq.cell? ⟨s.g, 3, none⟩ = some (.slice (some ⟨b, off, none⟩) s.d.prods.length s.c3) ∧ wq.cell? ⟨bi, oi + a, none⟩ = some (.int .i64 sy)) from fun wq hb => ⟨(hb.cell (lt_of_cell g0)).trans g0, (hb.cell (lt_of_cell g1)).trans g1, (hb.cell (lt_of_cell g2)).trans g2, (hb.cell (lt_of_cell g3)).trans g3, (hb.cell (lt_of_cell y2)).trans y2⟩)
    clear g0 g1 g2 g3 g4 g5 r2 y2
    go_region_held3 (fun wq => wq.cell? ⟨s.g, 0, none⟩ = some (.slice s.a0 s.d.terms.length s.c0) ∧ wq.cell? ⟨s.g, 1, none⟩ = some (.slice s.a1 s.d.nons.length s.c1) ∧ wq.cell? ⟨s.g, 2, none⟩ = some (.int .i64 s.d.own) ∧ wq.cell? ⟨s.g, 3, none⟩ = some (.slice (some ⟨b, off, none⟩) s.d.prods.length s.c3) ∧ wq.cell? ⟨bi, oi + a, none⟩ = some (.int .i64 sy)) (first | exact hS0 | exact hS1) ((go_at_call 26; refine Calls.mono (HNN.out _) ?_; rintro e w2 ⟨rfl, hb2⟩; have hB2 := bel_trans hbd hb2; have hS1 := HC5.out _ hB2))
    all_goals go_wp2_with fail
    all_goals go_meet
    all_goals exact ⟨rfl, hB2⟩
  case rest =>
    obtain ⟨rfl, HX⟩ := hcut
    have HWX := (show Hid _ from HW.out.still HX.out)
    clear g0 g1 g2 g3 g4 g5 r2 y2 HX HNN
    obtain ⟨g0, g1, g2, g3, g4, g5, r2, y2⟩ := HC.out _ _ _ HWX.out
    by_cases hterm : sy < (s.d.terms.length : Int)
    · have hx : sy - (s.d.terms.length : Int) < 0 := by omega
      obtain ⟨y, rfl⟩ : ∃ y : Nat, sy = y := ⟨sy.toNat, by omega⟩
      have HV := (show Hid (LF s.V ((nats (s.rt p)).drop a) i j = if i < j ∧ s.W[i]? = some (y : Int) then LF s.V ((nats (s.rt p)).drop (a + 1)) (i + 1) j else 0) from (by
        have h1 := HLF.out
        show LF s.V ((nats (s.rt p)).drop a) i j = _
        rw [h1]
        exact LF_term HOK.out.cn (by simp; omega) _ hij))
      by_cases hlt : i < j
      · have hd0 : decide ((i : Int) < (j : Int)) = true := by simp; omega
        obtain ⟨bw, ow9, rfl, cw, hwi⟩ := HCW.out _ _ _ HWX.out (by omega)
        generalize s.W.getD i 0 = u at *
        have q1 : (0 : Int) ≤ (i : Int) := by omega
        have q2 : (i : Int) < (s.W.length : Int) := by omega
        by_cases he : u = (y : Int)
        · have hb1 : (u == (y : Int)) = true := by simp [he]
          have HV2 := (show Hid (LF s.V ((nats (s.rt p)).drop a) i j = LF s.V ((nats (s.rt p)).drop (a + 1)) (i + 1) j) from (by
            show LF s.V ((nats (s.rt p)).drop a) i j = _
            rw [HV.out, if_pos ⟨hlt, by rw [hwi, he]⟩]))
          have HCL := (show Hid _ from fun wq (hb : Below wc.heap.size wc wq) => HL1.out hlt _ _ _ (HWX.out.still hb))
          rw [Int.natCast_add, Int.natCast_add] at HCL
          clear he hwi HV
          go_wp2_with fail
          go_quiet (fail)
          go_wp2_with fail
          refine Calls.mono (HCL.out _ ⟨rfl, rfl, rfl, Nat.le_refl _, fun _ _ => rfl⟩) ?_
          rintro e w2 ⟨rfl, ow2, mm2, hw2, hle2⟩
          have HW2 := (show Hid _ from (⟨ow2, mm2, hw2, hle2⟩ : ∃ ow' mm', TB s ow' mm' w2 ∧ ∀ p a q, mm p a = some q → mm' p a = some q))
          clear hw2 hle2
          go_wp2_with fail
          go_ret
          exact ⟨by rw [HV2.out]; rfl, HW2.out⟩
        · have hb1 : (u == (y : Int)) = false := by simp [he]
          have HV2 := (show Hid (LF s.V ((nats (s.rt p)).drop a) i j = 0) from (by
            show LF s.V ((nats (s.rt p)).drop a) i j = _
            rw [HV.out, if_neg (fun h => he (by have := h.2; rw [hwi] at this; simpa using this))]))
          clear he hwi HV
          go_wp2_with fail
          go_quiet (fail)
          go_wp2_with fail
          go_ret
          exact ⟨by rw [HV2.out]; rfl, ow, mm, HWX.out.still ⟨rfl, rfl, rfl, Nat.le_refl _, fun _ _ => rfl⟩, fun _ _ _ h => h⟩
      · have hd0 : decide ((i : Int) < (j : Int)) = false := by simp; omega
        have HV2 := (show Hid (LF s.V ((nats (s.rt p)).drop a) i j = 0) from (by
          show LF s.V ((nats (s.rt p)).drop a) i j = _
          rw [HV.out, if_neg (fun h => hlt h.1)]))
        clear HV
        go_wp2_with fail
        go_quiet (fail)
        go_wp2_with fail
        go_ret
        exact ⟨by rw [HV2.out]; rfl, ow, mm, HWX.out.still ⟨rfl, rfl, rfl, Nat.le_refl _, fun _ _ => rfl⟩, fun _ _ _ h => h⟩
    · obtain ⟨k, rfl⟩ : ∃ k : Nat, sy = (s.d.terms.length : Int) + (k : Int) := ⟨(sy - (s.d.terms.length : Int)).toNat, by omega⟩
      have hk : k < s.nl.length := by omega
      have hxk : (s.d.terms.length : Int) + (k : Int) - (s.d.terms.length : Int) = (k : Int) := by omega
      have hyn : ((s.d.terms.length : Int) + (k : Int)).toNat = s.d.terms.length + k := by omega
      rw [hxk]
      have HNF := (show Hid (Nf s.d.terms.length s.nl (s.d.terms.length + k) = s.nl[k]) from (by
        show Nf s.d.terms.length s.nl (s.d.terms.length + k) = s.nl[k]
        unfold Nf
        rw [show s.d.terms.length + k - s.d.terms.length = k by omega]
        simp [List.getD_eq_getElem?_getD, hk]))
      have HV := (show Hid (LF s.V ((nats (s.rt p)).drop a) i j = sm (fW s (s.d.terms.length + k) ((nats (s.rt p)).drop (a + 1)) i j) (j + 1 - i)) from (by
        have h1 := HLF.out
        show LF s.V ((nats (s.rt p)).drop a) i j = _
        rw [h1, hyn]
        rfl))
      have HNL := (show Hid (∀ ow mm w, TB s ow mm w → w.cell? ⟨s.bnl, k, none⟩ = some (.bool s.nl[k])) from fun ow mm w h => BRow.cell h.nul hk)
      rw [hyn] at HL2 HN
      have HLR := (show Hid (nats ((s.rt p).drop (a + 1)) = (nats (s.rt p)).drop (a + 1)) from (by show nats ((s.rt p).drop (a + 1)) = _; unfold nats; rw [List.map_drop]))
      have HAN := (show Hid (∀ ow mm wq v, TB s ow mm wq → Ints wq S ((s.rt p).drop (a + 1)) v → Calls Try.prog 91 #[.agg #[.slice s.a0 s.d.terms.length s.c0, .slice s.a1 s.d.nons.length s.c1, .int .i64 s.d.own, .slice (some ⟨b, off, none⟩) s.d.prods.length s.c3], .slice (some ⟨s.bnl, 0, none⟩) s.nl.length s.nl.length, v] wq fun e w' => e = .returned (.bool (nall (Nf s.d.terms.length s.nl) ((nats (s.rt p)).drop (a + 1)))) ∧ Below wq.heap.size wq w') from fun ow mm wq v hT hI => by
        have := allNull_any s.d s.a0 s.a1 (some ⟨b, off, none⟩) s.c0 s.c1 s.c3 s.d.nons.length s.d.prods.length s.bnl s.nl ((s.rt p).drop (a + 1)) v wq hnt (by omega) hT.nul hI (fun q hq => by
          rw [List.length_drop] at hq
          rw [List.getElem_drop]
          have := HRIN.out (a + 1 + q) (by omega)
          rw [hnl]
          exact this) (by rw [List.length_drop]; omega)
        rw [HLR.out] at this
        exact this)
      have HDR := (show Hid (∀ wq a' n9 c9, Below s.W0.heap.size s.W0 wq → n9 = (s.rt p).length - (a + 1) → c9 = ci - (a + 1) → (∀ b off, (some ⟨bi, oi, none⟩ : Option Addr) = some ⟨b, off, none⟩ → a + 1 < (s.rt p).length → a' = some ⟨b, off + (a + 1), none⟩) → Ints wq S ((s.rt p).drop (a + 1)) (.slice a' n9 c9)) from fun wq a' n9 c9 hb e1 e2 h => by subst e1 e2; exact Ints.dropAt (Ints.still HRI.out hb) (a + 1) (by omega) a' h)
      clear hyn hxk g0 g1 g2 g3 g4 g5 r2 y2 HLF HCW HRIN HLR HRI HL1 hnl
      generalize hnk : s.nl[k] = nk at *
      generalize hal : nall (Nf s.d.terms.length s.nl) ((nats (s.rt p)).drop (a + 1)) = al at *
      have HNK := (show Hid _ from hnk); clear hnk
      have HAL := (show Hid _ from hal); clear hal
      generalize hF : fW s (s.d.terms.length + k) ((nats (s.rt p)).drop (a + 1)) i j = F at *
      have HF := (show Hid _ from hF); clear hF
      have y1 : (0 : Int) ≤ (k : Int) := by omega
      have y2 : (k : Int) < (s.nl.length : Int) := by omega
      have y3 : (0 : Int) ≤ (a : Int) + 1 := by omega
      have y4 : (a : Int) + 1 ≤ ((s.rt p).length : Int) := by omega
      have kw1 : IntKind.i64.wrap ((a : Int) + 1) = (a : Int) + 1 := by simp [IntKind.wrap, IntKind.bits, IntKind.signed]; omega
      go_wp2_with fail
      go_loopw [13, 14] (fun u q wr => ∃ m : Nat, q = .int .i64 m ∧ i ≤ m ∧ m ≤ j + 1 ∧ u = .int .i64 (cp (sm F (m - i)) : Nat) ∧ Hid (∃ ow' mm', TB s ow' mm' wr ∧ ∀ p a q, mm p a = some q → mm' p a = some q)) (fun _ q _ => j + 1 - (intOf q).toNat)
      case atStart => exact ⟨i, rfl, Nat.le_refl _, by omega, by rw [Nat.sub_self]; rfl, ow, mm, HWX.out, fun _ _ _ h => h⟩
      case round =>
        obtain ⟨m, rfl, him, hmj, rfl, HQ⟩ := hrel
        obtain ⟨ow1, mm1, hw1, hle1⟩ := HQ.out
        have HW1 := (show Hid _ from hw1)
        have HLE1 := (show Hid _ from hle1)
        clear hw1 hle1 HQ
        have hs0 := cp_le (sm F (m - i))
        by_cases hlt : m ≤ j
        · have HS := (show Hid (sm F (m + 1 - i) = sm F (m - i) + F (m - i)) from (by show sm F (m + 1 - i) = _; rw [show m + 1 - i = m - i + 1 by omega]; rfl))
          have HFV := (show Hid (F (m - i) = s.V (s.d.terms.length + k) i m * LF s.V ((nats (s.rt p)).drop (a + 1)) m j) from (by show F (m - i) = _; rw [← HF.out]; unfold fW; rw [show i + (m - i) = m by omega]))
          obtain ⟨B, hB⟩ : ∃ B : Bool, B = ((decide (m = i) && !nk) || (decide (m = j) && !al)) := ⟨_, rfl⟩
          have HB := (show Hid _ from hB); clear hB
          have HCC := (show Hid (∀ wq, Below wr.heap.size wr wq → (wq.cell? ⟨s.g, 0, none⟩ = some (.slice s.a0 s.d.terms.length s.c0) ∧ wq.cell? ⟨s.g, 1, none⟩ = some (.slice s.a1 s.d.nons.length s.c1) ∧ wq.cell? ⟨s.g, 2, none⟩ = some (.int .i64 s.d.own) ∧ wq.cell? ⟨s.g, 3, none⟩ = some (.slice (some ⟨b, off, none⟩) s.d.prods.length s.c3) ∧ wq.cell? ⟨s.g, 4, none⟩ = some (.slice (some ⟨s.bnl, 0, none⟩) s.nl.length s.nl.length) ∧ wq.cell? ⟨s.bnl, k, none⟩ = some (.bool nk))) from fun wq hb => by
            have h1 := HW1.out.still hb
            obtain ⟨x0, x1, x2, x3, x4, _⟩ := HC.out _ _ _ h1
            exact ⟨x0, x1, x2, x3, x4, HNL.out _ _ _ h1⟩)
          go_wp2_with fail
          go_cut [100] from 67 to 99 (fun v wx => v = .bool B ∧ Hid (Below wr.heap.size wr wx))
          case first =>
            obtain ⟨x0, x1, x2, x3, x4, x5⟩ := HCC.out _ (Below.refl _ wr)
            by_cases hmj2 : m = j
            · have hd2 : ((m : Int) == (j : Int)) = true := by simp [hmj2]
              by_cases hmi : m = i
              · have hd1 : ((m : Int) == (i : Int)) = true := by simp [hmi]
                cases nk with
                | false =>
                  have hBv : B = true := by rw [HB.out]; simp [hmi]
                  have HBV := (show Hid _ from hBv); clear hBv hmi hmj2
                  go_quiet (fail)
                  go_wp2_with fail
                  go_meet
                  exact ⟨by rw [HBV.out], ⟨rfl, rfl, rfl, Nat.le_refl _, fun _ _ => rfl⟩⟩
                | true =>
                  have hBv : B = !al := by rw [HB.out]; simp [hmj2]
                  have HBV := (show Hid _ from hBv); clear hBv
                  have hbd := (Below.refl wr.heap.size wr).drew
                  have hS0 := HCC.out _ hbd
                  clear x0 x1 x2 x3 x4 x5 hmi hmj2
                  by_cases hci : ci = a + 1
                  · subst hci
                    go_region_held3 (fun wq => wq.cell? ⟨s.g, 0, none⟩ = some (.slice s.a0 s.d.terms.length s.c0) ∧ wq.cell? ⟨s.g, 1, none⟩ = some (.slice s.a1 s.d.nons.length s.c1) ∧ wq.cell? ⟨s.g, 2, none⟩ = some (.int .i64 s.d.own) ∧ wq.cell? ⟨s.g, 3, none⟩ = some (.slice (some ⟨b, off, none⟩) s.d.prods.length s.c3) ∧ wq.cell? ⟨s.g, 4, none⟩ = some (.slice (some ⟨s.bnl, 0, none⟩) s.nl.length s.nl.length) ∧ wq.cell? ⟨s.bnl, k, none⟩ = some (.bool true)) (first | exact hS0 | exact hS1) ((go_at_call 91; refine Calls.mono (HAN.out _ _ _ _ (HW1.out.still hbd) (HDR.out _ _ _ _ (HW1.out.still hbd).bel (by omega) (by omega) (fun b9 o9 e9 h9 => by first | (exfalso; omega) | (cases e9; simp [Addr.add] <;> omega)))) ?_; rintro e w2 ⟨rfl, hb2⟩; have hB2 := bel_trans hbd hb2; have hS1 := HCC.out _ hB2))
                    all_goals go_wp2_with fail
                    all_goals go_meet
                    all_goals exact ⟨by rw [HBV.out] <;> rfl, hB2⟩
                  · go_region_held3 (fun wq => wq.cell? ⟨s.g, 0, none⟩ = some (.slice s.a0 s.d.terms.length s.c0) ∧ wq.cell? ⟨s.g, 1, none⟩ = some (.slice s.a1 s.d.nons.length s.c1) ∧ wq.cell? ⟨s.g, 2, none⟩ = some (.int .i64 s.d.own) ∧ wq.cell? ⟨s.g, 3, none⟩ = some (.slice (some ⟨b, off, none⟩) s.d.prods.length s.c3) ∧ wq.cell? ⟨s.g, 4, none⟩ = some (.slice (some ⟨s.bnl, 0, none⟩) s.nl.length s.nl.length) ∧ wq.cell? ⟨s.bnl, k, none⟩ = some (.bool true)) (first | exact hS0 | exact hS1) ((go_at_call 91; refine Calls.mono (HAN.out _ _ _ _ (HW1.out.still hbd) (HDR.out _ _ _ _ (HW1.out.still hbd).bel (by omega) (by omega) (fun b9 o9 e9 h9 => by first | (exfalso; omega) | (cases e9; simp [Addr.add] <;> omega)))) ?_; rintro e w2 ⟨rfl, hb2⟩; have hB2 := bel_trans hbd hb2; have hS1 := HCC.out _ hB2))
                    all_goals go_wp2_with fail
                    all_goals go_meet
                    all_goals exact ⟨by rw [HBV.out] <;> rfl, hB2⟩
              · have hd1 : ((m : Int) == (i : Int)) = false := by simp; omega
                have hBv : B = !al := by rw [HB.out]; simp [hmj2, show ¬ j = i by omega]
                have HBV := (show Hid _ from hBv); clear hBv
                have hbd := (Below.refl wr.heap.size wr).drew
                have hS0 := HCC.out _ hbd
                clear x0 x1 x2 x3 x4 x5 hmi hmj2
                by_cases hci : ci = a + 1
                · subst hci
                  refine wp_region_held_drew (S := (fun wq => wq.cell? ⟨s.g, 0, none⟩ = some (.slice s.a0 s.d.terms.length s.c0) ∧ wq.cell? ⟨s.g, 1, none⟩ = some (.slice s.a1 s.d.nons.length s.c1) ∧ wq.cell? ⟨s.g, 2, none⟩ = some (.int .i64 s.d.own) ∧ wq.cell? ⟨s.g, 3, none⟩ = some (.slice (some ⟨b, off, none⟩) s.d.prods.length s.c3) ∧ wq.cell? ⟨s.g, 4, none⟩ = some (.slice (some ⟨s.bnl, 0, none⟩) s.nl.length s.nl.length) ∧ wq.cell? ⟨s.bnl, k, none⟩ = some (.bool nk))) (by kernel_rfl) hS0 (fun hHeld => ?_)
                  refine wpAnyH_take (i := 0) (oi := { dst := some 67, op := Go.Op.move (Go.Operand.tmp 14), type := 3, pos := "l04_facts.go:409", after := #[], guard := none }) (v := ?v1) rfl (by kernel_rfl) (by kernel_rfl) (by kernel_rfl) (fun _ _ _ h => h) (Or.inl ⟨by rfl, ?h1⟩) hHeld ?r1
                  case h1 => (intro w hSw; (try dsimp only at hSw); go_simp; try with_reducible rfl)
                  try simp only [Act.put, List.setIfInBounds_toArray, List.set_cons_zero, List.set_cons_succ]
                  refine wpAnyH_take (i := 1) (oi := { dst := some 68, op := Go.Op.move (Go.Operand.tmp 3), type := 3, pos := "l04_facts.go:409", after := #[], guard := none }) (v := ?v2) rfl (by kernel_rfl) (by kernel_rfl) (by kernel_rfl) (fun _ _ _ h => h) (Or.inl ⟨by rfl, ?h2⟩) hHeld ?r2
                  case h2 => (intro w hSw; (try dsimp only at hSw); go_simp; try with_reducible rfl)
                  try simp only [Act.put, List.setIfInBounds_toArray, List.set_cons_zero, List.set_cons_succ]
                  refine wpAnyH_take (i := 2) (oi := { dst := some 69, op := Go.Op.binOp Go.BinOp.eql 3 (Go.Operand.tmp 67) (Go.Operand.tmp 68) 3, type := 4, pos := "l04_facts.go:409", after := #[{ on := 0, ground := Go.Ground.data }, { on := 1, ground := Go.Ground.data }], guard := none }) (v := ?v3) rfl (by kernel_rfl) (by kernel_rfl) (by kernel_rfl) (fun _ _ _ h => h) (Or.inl ⟨by rfl, ?h3⟩) hHeld ?r3
                  case h3 => (intro w hSw; (try dsimp only at hSw); go_simp; try with_reducible rfl)
                  try simp only [Act.put, List.setIfInBounds_toArray, List.set_cons_zero, List.set_cons_succ]
                  refine wpAnyH_take (i := 3) (oi := { dst := some 70, op := Go.Op.move (Go.Operand.tmp 69), type := 4, pos := "l04_facts.go:409", after := #[{ on := 2, ground := Go.Ground.data }], guard := none }) (v := ?v4) rfl (by kernel_rfl) (by kernel_rfl) (by kernel_rfl) (fun _ _ _ h => h) (Or.inl ⟨by rfl, ?h4⟩) hHeld ?r4
                  case h4 => (intro w hSw; (try dsimp only at hSw); go_simp; try with_reducible rfl)
                  try simp only [Act.put, List.setIfInBounds_toArray, List.set_cons_zero, List.set_cons_succ]
                  refine wpAnyH_take (i := 4) (oi := { dst := some 71, op := Go.Op.move (Go.Operand.tmp 0), type := 78, pos := "l04_facts.go:409", after := #[{ on := 3, ground := Go.Ground.guard }], guard := some (3, true) }) (v := undef) rfl (by kernel_rfl) (by kernel_rfl) (by kernel_rfl) (fun _ _ _ h => h) (Or.inr ⟨by rfl, rfl⟩) hHeld ?_
                  try simp only [Act.put, List.setIfInBounds_toArray, List.set_cons_zero, List.set_cons_succ]
                  refine wpAnyH_take (i := 5) (oi := { dst := some 72, op := Go.Op.nilCheck (Go.Operand.tmp 71), type := 0, pos := "l04_facts.go:409", after := #[{ on := 4, ground := Go.Ground.data }, { on := 3, ground := Go.Ground.guard }], guard := some (3, true) }) (v := undef) rfl (by kernel_rfl) (by kernel_rfl) (by kernel_rfl) (fun _ _ _ h => h) (Or.inr ⟨by rfl, rfl⟩) hHeld ?_
                  try simp only [Act.put, List.setIfInBounds_toArray, List.set_cons_zero, List.set_cons_succ]
                  refine wpAnyH_take (i := 6) (oi := { dst := some 73, op := Go.Op.fieldAddr 116 (Go.Operand.tmp 72) 1, type := 0, pos := "l04_facts.go:409", after := #[{ on := 5, ground := Go.Ground.data }, { on := 3, ground := Go.Ground.guard }], guard := some (3, true) }) (v := undef) rfl (by kernel_rfl) (by kernel_rfl) (by kernel_rfl) (fun _ _ _ h => h) (Or.inr ⟨by rfl, rfl⟩) hHeld ?_
                  try simp only [Act.put, List.setIfInBounds_toArray, List.set_cons_zero, List.set_cons_succ]
                  refine wpAnyH_take (i := 7) (oi := { dst := some 74, op := Go.Op.load 55 (Go.Operand.tmp 73), type := 55, pos := "l04_facts.go:409", after := #[{ on := 6, ground := Go.Ground.data }, { on := 3, ground := Go.Ground.guard }], guard := some (3, true) }) (v := undef) rfl (by kernel_rfl) (by kernel_rfl) (by kernel_rfl) (fun _ _ _ h => h) (Or.inr ⟨by rfl, rfl⟩) hHeld ?_
                  try simp only [Act.put, List.setIfInBounds_toArray, List.set_cons_zero, List.set_cons_succ]
                  refine wpAnyH_take (i := 8) (oi := { dst := some 75, op := Go.Op.move (Go.Operand.tmp 12), type := 3, pos := "l04_facts.go:409", after := #[{ on := 3, ground := Go.Ground.guard }], guard := some (3, true) }) (v := undef) rfl (by kernel_rfl) (by kernel_rfl) (by kernel_rfl) (fun _ _ _ h => h) (Or.inr ⟨by rfl, rfl⟩) hHeld ?_
                  try simp only [Act.put, List.setIfInBounds_toArray, List.set_cons_zero, List.set_cons_succ]
                  refine wpAnyH_take (i := 9) (oi := { dst := some 76, op := Go.Op.indexAddr 55 (Go.Operand.tmp 74) (Go.Operand.tmp 75), type := 0, pos := "l04_facts.go:409", after := #[{ on := 7, ground := Go.Ground.data }, { on := 8, ground := Go.Ground.data }, { on := 3, ground := Go.Ground.guard }], guard := some (3, true) }) (v := undef) rfl (by kernel_rfl) (by kernel_rfl) (by kernel_rfl) (fun _ _ _ h => h) (Or.inr ⟨by rfl, rfl⟩) hHeld ?_
                  try simp only [Act.put, List.setIfInBounds_toArray, List.set_cons_zero, List.set_cons_succ]
                  refine wpAnyH_take (i := 10) (oi := { dst := some 77, op := Go.Op.load 4 (Go.Operand.tmp 76), type := 4, pos := "l04_facts.go:409", after := #[{ on := 9, ground := Go.Ground.data }, { on := 3, ground := Go.Ground.guard }], guard := some (3, true) }) (v := undef) rfl (by kernel_rfl) (by kernel_rfl) (by kernel_rfl) (fun _ _ _ h => h) (Or.inr ⟨by rfl, rfl⟩) hHeld ?_
                  try simp only [Act.put, List.setIfInBounds_toArray, List.set_cons_zero, List.set_cons_succ]
                  refine wpAnyH_take (i := 11) (oi := { dst := some 78, op := Go.Op.unOp Go.UnOp.not 4 (Go.Operand.tmp 77), type := 4, pos := "l04_facts.go:409", after := #[{ on := 10, ground := Go.Ground.data }, { on := 3, ground := Go.Ground.guard }], guard := some (3, true) }) (v := undef) rfl (by kernel_rfl) (by kernel_rfl) (by kernel_rfl) (fun _ _ _ h => h) (Or.inr ⟨by rfl, rfl⟩) hHeld ?_
                  try simp only [Act.put, List.setIfInBounds_toArray, List.set_cons_zero, List.set_cons_succ]
                  refine wpAnyH_take (i := 12) (oi := { dst := some 79, op := Go.Op.pick (Go.Operand.tmp 70) (Go.Operand.tmp 78) (Go.Operand.const (Go.Value.bool false)), type := 4, pos := "l04_facts.go:409", after := #[{ on := 3, ground := Go.Ground.data }, { on := 11, ground := Go.Ground.data }], guard := none }) (v := ?v5) rfl (by kernel_rfl) (by kernel_rfl) (by kernel_rfl) (fun _ _ _ h => h) (Or.inl ⟨by rfl, ?h5⟩) hHeld ?r5
                  case h5 => (intro w hSw; (try dsimp only at hSw); go_simp; try with_reducible rfl)
                  try simp only [Act.put, List.setIfInBounds_toArray, List.set_cons_zero, List.set_cons_succ]
                  refine wpAnyH_take (i := 13) (oi := { dst := some 80, op := Go.Op.move (Go.Operand.tmp 79), type := 4, pos := "l04_facts.go:409", after := #[{ on := 12, ground := Go.Ground.data }, { on := 3, ground := Go.Ground.chain }], guard := none }) (v := ?v6) rfl (by kernel_rfl) (by kernel_rfl) (by kernel_rfl) (fun _ _ _ h => h) (Or.inl ⟨by rfl, ?h6⟩) hHeld ?r6
                  case h6 => (intro w hSw; (try dsimp only at hSw); go_simp; try with_reducible rfl)
                  try simp only [Act.put, List.setIfInBounds_toArray, List.set_cons_zero, List.set_cons_succ]
                  refine wpAnyH_take (i := 14) (oi := { dst := some 81, op := Go.Op.move (Go.Operand.tmp 14), type := 3, pos := "l04_facts.go:409", after := #[{ on := 13, ground := Go.Ground.guard }], guard := some (13, false) }) (v := ?v7) rfl (by kernel_rfl) (by kernel_rfl) (by kernel_rfl) (fun _ _ _ h => h) (Or.inl ⟨by rfl, ?h7⟩) hHeld ?r7
                  case h7 => (intro w hSw; (try dsimp only at hSw); go_simp; try with_reducible rfl)
                  try simp only [Act.put, List.setIfInBounds_toArray, List.set_cons_zero, List.set_cons_succ]
                  refine wpAnyH_take (i := 15) (oi := { dst := some 82, op := Go.Op.move (Go.Operand.tmp 4), type := 3, pos := "l04_facts.go:409", after := #[{ on := 13, ground := Go.Ground.guard }], guard := some (13, false) }) (v := ?v8) rfl (by kernel_rfl) (by kernel_rfl) (by kernel_rfl) (fun _ _ _ h => h) (Or.inl ⟨by rfl, ?h8⟩) hHeld ?r8
                  case h8 => (intro w hSw; (try dsimp only at hSw); go_simp; try with_reducible rfl)
                  try simp only [Act.put, List.setIfInBounds_toArray, List.set_cons_zero, List.set_cons_succ]
                  refine wpAnyH_take (i := 16) (oi := { dst := some 83, op := Go.Op.binOp Go.BinOp.eql 3 (Go.Operand.tmp 81) (Go.Operand.tmp 82) 3, type := 4, pos := "l04_facts.go:409", after := #[{ on := 14, ground := Go.Ground.data }, { on := 15, ground := Go.Ground.data }, { on := 13, ground := Go.Ground.guard }], guard := some (13, false) }) (v := ?v9) rfl (by kernel_rfl) (by kernel_rfl) (by kernel_rfl) (fun _ _ _ h => h) (Or.inl ⟨by rfl, ?h9⟩) hHeld ?r9
                  case h9 => (intro w hSw; (try dsimp only at hSw); go_simp; try with_reducible rfl)
                  try simp only [Act.put, List.setIfInBounds_toArray, List.set_cons_zero, List.set_cons_succ]
                  refine wpAnyH_take (i := 17) (oi := { dst := some 84, op := Go.Op.move (Go.Operand.tmp 83), type := 4, pos := "l04_facts.go:409", after := #[{ on := 16, ground := Go.Ground.data }, { on := 13, ground := Go.Ground.chain }, { on := 13, ground := Go.Ground.guard }], guard := some (13, false) }) (v := ?v10) rfl (by kernel_rfl) (by kernel_rfl) (by kernel_rfl) (fun _ _ _ h => h) (Or.inl ⟨by rfl, ?h10⟩) hHeld ?r10
                  case h10 => (intro w hSw; (try dsimp only at hSw); go_simp; try with_reducible rfl)
                  try simp only [Act.put, List.setIfInBounds_toArray, List.set_cons_zero, List.set_cons_succ]
                  refine wpAnyH_take (i := 18) (oi := { dst := some 85, op := Go.Op.move (Go.Operand.tmp 0), type := 78, pos := "l04_facts.go:409", after := #[{ on := 17, ground := Go.Ground.guard }], guard := some (17, true) }) (v := ?v11) rfl (by kernel_rfl) (by kernel_rfl) (by kernel_rfl) (fun _ _ _ h => h) (Or.inl ⟨by rfl, ?h11⟩) hHeld ?r11
                  case h11 => (intro w hSw; (try dsimp only at hSw); go_simp; try with_reducible rfl)
                  try simp only [Act.put, List.setIfInBounds_toArray, List.set_cons_zero, List.set_cons_succ]
                  refine wpAnyH_take (i := 19) (oi := { dst := some 86, op := Go.Op.nilCheck (Go.Operand.tmp 85), type := 0, pos := "l04_facts.go:409", after := #[{ on := 18, ground := Go.Ground.data }, { on := 17, ground := Go.Ground.guard }], guard := some (17, true) }) (v := ?v12) rfl (by kernel_rfl) (by kernel_rfl) (by kernel_rfl) (fun _ _ _ h => h) (Or.inl ⟨by rfl, ?h12⟩) hHeld ?r12
                  case h12 => (intro w hSw; (try dsimp only at hSw); go_simp; try with_reducible rfl)
                  try simp only [Act.put, List.setIfInBounds_toArray, List.set_cons_zero, List.set_cons_succ]
                  refine wpAnyH_take (i := 20) (oi := { dst := some 87, op := Go.Op.fieldAddr 116 (Go.Operand.tmp 86) 0, type := 0, pos := "l04_facts.go:409", after := #[{ on := 19, ground := Go.Ground.data }, { on := 17, ground := Go.Ground.guard }], guard := some (17, true) }) (v := ?v13) rfl (by kernel_rfl) (by kernel_rfl) (by kernel_rfl) (fun _ _ _ h => h) (Or.inl ⟨by rfl, ?h13⟩) hHeld ?r13
                  case h13 => (intro w hSw; (try dsimp only at hSw); go_simp; try with_reducible rfl)
                  try simp only [Act.put, List.setIfInBounds_toArray, List.set_cons_zero, List.set_cons_succ]
                  refine wpAnyH_take (i := 21) (oi := { dst := some 88, op := Go.Op.load 34 (Go.Operand.tmp 87), type := 34, pos := "l04_facts.go:409", after := #[{ on := 20, ground := Go.Ground.data }, { on := 17, ground := Go.Ground.guard }], guard := some (17, true) }) (v := ?v14) rfl (by kernel_rfl) (by kernel_rfl) (by kernel_rfl) (fun _ _ _ h => h) (Or.inl ⟨by rfl, ?h14⟩) hHeld ?r14
                  case h14 => (intro w hSw; (try dsimp only at hSw); go_simp; try with_reducible rfl)
                  try simp only [Act.put, List.setIfInBounds_toArray, List.set_cons_zero, List.set_cons_succ]
                  refine wpAnyH_take (i := 22) (oi := { dst := some 89, op := Go.Op.move (Go.Operand.tmp 0), type := 78, pos := "l04_facts.go:409", after := #[{ on := 17, ground := Go.Ground.guard }], guard := some (17, true) }) (v := ?v15) rfl (by kernel_rfl) (by kernel_rfl) (by kernel_rfl) (fun _ _ _ h => h) (Or.inl ⟨by rfl, ?h15⟩) hHeld ?r15
                  case h15 => (intro w hSw; (try dsimp only at hSw); go_simp; try with_reducible rfl)
                  try simp only [Act.put, List.setIfInBounds_toArray, List.set_cons_zero, List.set_cons_succ]
                  refine wpAnyH_take (i := 23) (oi := { dst := some 90, op := Go.Op.nilCheck (Go.Operand.tmp 89), type := 0, pos := "l04_facts.go:409", after := #[{ on := 22, ground := Go.Ground.data }, { on := 17, ground := Go.Ground.guard }], guard := some (17, true) }) (v := ?v16) rfl (by kernel_rfl) (by kernel_rfl) (by kernel_rfl) (fun _ _ _ h => h) (Or.inl ⟨by rfl, ?h16⟩) hHeld ?r16
                  case h16 => (intro w hSw; (try dsimp only at hSw); go_simp; try with_reducible rfl)
                  try simp only [Act.put, List.setIfInBounds_toArray, List.set_cons_zero, List.set_cons_succ]
                  refine wpAnyH_take (i := 24) (oi := { dst := some 91, op := Go.Op.fieldAddr 116 (Go.Operand.tmp 90) 1, type := 0, pos := "l04_facts.go:409", after := #[{ on := 23, ground := Go.Ground.data }, { on := 17, ground := Go.Ground.guard }], guard := some (17, true) }) (v := ?v17) rfl (by kernel_rfl) (by kernel_rfl) (by kernel_rfl) (fun _ _ _ h => h) (Or.inl ⟨by rfl, ?h17⟩) hHeld ?r17
                  case h17 => (intro w hSw; (try dsimp only at hSw); go_simp; try with_reducible rfl)
                  try simp only [Act.put, List.setIfInBounds_toArray, List.set_cons_zero, List.set_cons_succ]
                  refine wpAnyH_take (i := 25) (oi := { dst := some 92, op := Go.Op.load 55 (Go.Operand.tmp 91), type := 55, pos := "l04_facts.go:409", after := #[{ on := 24, ground := Go.Ground.data }, { on := 17, ground := Go.Ground.guard }], guard := some (17, true) }) (v := ?v18) rfl (by kernel_rfl) (by kernel_rfl) (by kernel_rfl) (fun _ _ _ h => h) (Or.inl ⟨by rfl, ?h18⟩) hHeld ?r18
                  case h18 => (intro w hSw; (try dsimp only at hSw); go_simp; try with_reducible rfl)
                  try simp only [Act.put, List.setIfInBounds_toArray, List.set_cons_zero, List.set_cons_succ]
                  refine wpAnyH_take (i := 26) (oi := { dst := some 93, op := Go.Op.move (Go.Operand.tmp 11), type := 28, pos := "l04_facts.go:409", after := #[{ on := 17, ground := Go.Ground.guard }], guard := some (17, true) }) (v := ?v19) rfl (by kernel_rfl) (by kernel_rfl) (by kernel_rfl) (fun _ _ _ h => h) (Or.inl ⟨by rfl, ?h19⟩) hHeld ?r19
                  case h19 => (intro w hSw; (try dsimp only at hSw); go_simp; try with_reducible rfl)
                  try simp only [Act.put, List.setIfInBounds_toArray, List.set_cons_zero, List.set_cons_succ]
                  refine wpAnyH_take (i := 27) (oi := { dst := some 94, op := Go.Op.move (Go.Operand.tmp 2), type := 3, pos := "l04_facts.go:409", after := #[{ on := 17, ground := Go.Ground.guard }], guard := some (17, true) }) (v := ?v20) rfl (by kernel_rfl) (by kernel_rfl) (by kernel_rfl) (fun _ _ _ h => h) (Or.inl ⟨by rfl, ?h20⟩) hHeld ?r20
                  case h20 => (intro w hSw; (try dsimp only at hSw); go_simp; try with_reducible rfl)
                  try simp only [Act.put, List.setIfInBounds_toArray, List.set_cons_zero, List.set_cons_succ]
                  refine wpAnyH_take (i := 28) (oi := { dst := some 95, op := Go.Op.binOp Go.BinOp.add 3 (Go.Operand.tmp 94) (Go.Operand.const (Go.Value.int Go.IntKind.i64 1)) 3, type := 3, pos := "l04_facts.go:409", after := #[{ on := 27, ground := Go.Ground.data }, { on := 17, ground := Go.Ground.guard }], guard := some (17, true) }) (v := ?v21) rfl (by kernel_rfl) (by kernel_rfl) (by kernel_rfl) (fun _ _ _ h => h) (Or.inl ⟨by rfl, ?h21⟩) hHeld ?r21
                  case h21 => (intro w hSw; (try dsimp only at hSw); go_simp; try with_reducible rfl)
                  try simp only [Act.put, List.setIfInBounds_toArray, List.set_cons_zero, List.set_cons_succ]
                  refine wpAnyH_take (i := 29) (oi := { dst := some 96, op := Go.Op.slice 28 (Go.Operand.tmp 93) (some (Go.Operand.tmp 95)) none none, type := 28, pos := "l04_facts.go:409", after := #[{ on := 26, ground := Go.Ground.data }, { on := 28, ground := Go.Ground.data }, { on := 17, ground := Go.Ground.guard }], guard := some (17, true) }) (v := ?v22) rfl (by kernel_rfl) (by kernel_rfl) (by kernel_rfl) (fun _ _ _ h => h) (Or.inl ⟨by rfl, ?h22⟩) hHeld ?r22
                  case h22 => (intro w hSw; (try dsimp only at hSw); go_simp; try with_reducible rfl)
                  try simp only [Act.put, List.setIfInBounds_toArray, List.set_cons_zero, List.set_cons_succ]
                  refine wpAnyH_ready (rs := [30]) (by kernel_rfl) (by simp) ?_
                  refine AllReadyH.cons (o := { dst := some 97, op := Go.Op.call { callee := Go.Callee.value (Go.Operand.func 91), args := #[Go.Operand.tmp 88, Go.Operand.tmp 92, Go.Operand.tmp 96], argTypes := #[34, 55, 28] }, type := 4, pos := "l04_facts.go:409", after := #[{ on := 21, ground := Go.Ground.data }, { on := 25, ground := Go.Ground.data }, { on := 29, ground := Go.Ground.data }, { on := 17, ground := Go.Ground.chain }, { on := 17, ground := Go.Ground.guard }], guard := some (17, true) }) rfl (fun K hK => ?_) AllReadyH.nil
                  go_simp
                  refine Calls.mono (HAN.out _ _ _ _ (HW1.out.still hbd) (HDR.out _ _ _ _ (HW1.out.still hbd).bel (by omega) (by omega) (fun b9 o9 e9 h9 => by first | (exfalso; omega) | (cases e9; simp [Addr.add] <;> omega)))) ?_
                  rintro e w2 ⟨rfl, hb2⟩
                  have hB2 := bel_trans hbd hb2
                  have hS1 := HCC.out _ hB2
                  clear hHeld hb2
                  refine hK.out _ _ hS1 (fun hHeld => ?_)
                  clear hK K
                  try simp only [Act.put, List.setIfInBounds_toArray, List.set_cons_zero, List.set_cons_succ]
                  refine wpAnyH_take (i := 31) (oi := { dst := some 98, op := Go.Op.unOp Go.UnOp.not 4 (Go.Operand.tmp 97), type := 4, pos := "l04_facts.go:409", after := #[{ on := 30, ground := Go.Ground.data }, { on := 17, ground := Go.Ground.guard }], guard := some (17, true) }) (v := ?v23) rfl (by kernel_rfl) (by kernel_rfl) (by kernel_rfl) (fun _ _ _ h => h) (Or.inl ⟨by rfl, ?h23⟩) hHeld ?r23
                  case h23 => (intro w hSw; (try dsimp only at hSw); go_simp; try with_reducible rfl)
                  try simp only [Act.put, List.setIfInBounds_toArray, List.set_cons_zero, List.set_cons_succ]
                  refine wpAnyH_take (i := 32) (oi := { dst := some 99, op := Go.Op.pick (Go.Operand.tmp 84) (Go.Operand.tmp 98) (Go.Operand.const (Go.Value.bool false)), type := 4, pos := "l04_facts.go:409", after := #[{ on := 17, ground := Go.Ground.data }, { on := 31, ground := Go.Ground.data }, { on := 13, ground := Go.Ground.guard }], guard := some (13, false) }) (v := ?v24) rfl (by kernel_rfl) (by kernel_rfl) (by kernel_rfl) (fun _ _ _ h => h) (Or.inl ⟨by rfl, ?h24⟩) hHeld ?r24
                  case h24 => (intro w hSw; (try dsimp only at hSw); go_simp; try with_reducible rfl)
                  try simp only [Act.put, List.setIfInBounds_toArray, List.set_cons_zero, List.set_cons_succ]
                  refine wpAnyH_take (i := 33) (oi := { dst := some 100, op := Go.Op.pick (Go.Operand.tmp 80) (Go.Operand.const (Go.Value.bool true)) (Go.Operand.tmp 99), type := 4, pos := "l04_facts.go:409", after := #[{ on := 13, ground := Go.Ground.data }, { on := 32, ground := Go.Ground.data }], guard := none }) (v := ?v25) rfl (by kernel_rfl) (by kernel_rfl) (by kernel_rfl) (fun _ _ _ h => h) (Or.inl ⟨by rfl, ?h25⟩) hHeld ?r25
                  case h25 => (intro w hSw; (try dsimp only at hSw); go_simp; try with_reducible rfl)
                  try simp only [Act.put, List.setIfInBounds_toArray, List.set_cons_zero, List.set_cons_succ]
                  refine wpAnyH_done (by kernel_rfl) ?_ _
                  go_wp2_with fail
                  go_meet
                  exact ⟨by rw [HBV.out] <;> rfl, hB2⟩
                · refine wp_region_held_drew (S := (fun wq => wq.cell? ⟨s.g, 0, none⟩ = some (.slice s.a0 s.d.terms.length s.c0) ∧ wq.cell? ⟨s.g, 1, none⟩ = some (.slice s.a1 s.d.nons.length s.c1) ∧ wq.cell? ⟨s.g, 2, none⟩ = some (.int .i64 s.d.own) ∧ wq.cell? ⟨s.g, 3, none⟩ = some (.slice (some ⟨b, off, none⟩) s.d.prods.length s.c3) ∧ wq.cell? ⟨s.g, 4, none⟩ = some (.slice (some ⟨s.bnl, 0, none⟩) s.nl.length s.nl.length) ∧ wq.cell? ⟨s.bnl, k, none⟩ = some (.bool nk))) (by kernel_rfl) hS0 (fun hHeld => ?_)
                  refine wpAnyH_take (i := 0) (oi := { dst := some 67, op := Go.Op.move (Go.Operand.tmp 14), type := 3, pos := "l04_facts.go:409", after := #[], guard := none }) (v := ?v26) rfl (by kernel_rfl) (by kernel_rfl) (by kernel_rfl) (fun _ _ _ h => h) (Or.inl ⟨by rfl, ?h26⟩) hHeld ?r26
                  case h26 => (intro w hSw; (try dsimp only at hSw); go_simp; try with_reducible rfl)
                  try simp only [Act.put, List.setIfInBounds_toArray, List.set_cons_zero, List.set_cons_succ]
                  refine wpAnyH_take (i := 1) (oi := { dst := some 68, op := Go.Op.move (Go.Operand.tmp 3), type := 3, pos := "l04_facts.go:409", after := #[], guard := none }) (v := ?v27) rfl (by kernel_rfl) (by kernel_rfl) (by kernel_rfl) (fun _ _ _ h => h) (Or.inl ⟨by rfl, ?h27⟩) hHeld ?r27
                  case h27 => (intro w hSw; (try dsimp only at hSw); go_simp; try with_reducible rfl)
                  try simp only [Act.put, List.setIfInBounds_toArray, List.set_cons_zero, List.set_cons_succ]
                  refine wpAnyH_take (i := 2) (oi := { dst := some 69, op := Go.Op.binOp Go.BinOp.eql 3 (Go.Operand.tmp 67) (Go.Operand.tmp 68) 3, type := 4, pos := "l04_facts.go:409", after := #[{ on := 0, ground := Go.Ground.data }, { on := 1, ground := Go.Ground.data }], guard := none }) (v := ?v28) rfl (by kernel_rfl) (by kernel_rfl) (by kernel_rfl) (fun _ _ _ h => h) (Or.inl ⟨by rfl, ?h28⟩) hHeld ?r28
                  case h28 => (intro w hSw; (try dsimp only at hSw); go_simp; try with_reducible rfl)
                  try simp only [Act.put, List.setIfInBounds_toArray, List.set_cons_zero, List.set_cons_succ]
                  refine wpAnyH_take (i := 3) (oi := { dst := some 70, op := Go.Op.move (Go.Operand.tmp 69), type := 4, pos := "l04_facts.go:409", after := #[{ on := 2, ground := Go.Ground.data }], guard := none }) (v := ?v29) rfl (by kernel_rfl) (by kernel_rfl) (by kernel_rfl) (fun _ _ _ h => h) (Or.inl ⟨by rfl, ?h29⟩) hHeld ?r29
                  case h29 => (intro w hSw; (try dsimp only at hSw); go_simp; try with_reducible rfl)
                  try simp only [Act.put, List.setIfInBounds_toArray, List.set_cons_zero, List.set_cons_succ]
                  refine wpAnyH_take (i := 4) (oi := { dst := some 71, op := Go.Op.move (Go.Operand.tmp 0), type := 78, pos := "l04_facts.go:409", after := #[{ on := 3, ground := Go.Ground.guard }], guard := some (3, true) }) (v := undef) rfl (by kernel_rfl) (by kernel_rfl) (by kernel_rfl) (fun _ _ _ h => h) (Or.inr ⟨by rfl, rfl⟩) hHeld ?_
                  try simp only [Act.put, List.setIfInBounds_toArray, List.set_cons_zero, List.set_cons_succ]
                  refine wpAnyH_take (i := 5) (oi := { dst := some 72, op := Go.Op.nilCheck (Go.Operand.tmp 71), type := 0, pos := "l04_facts.go:409", after := #[{ on := 4, ground := Go.Ground.data }, { on := 3, ground := Go.Ground.guard }], guard := some (3, true) }) (v := undef) rfl (by kernel_rfl) (by kernel_rfl) (by kernel_rfl) (fun _ _ _ h => h) (Or.inr ⟨by rfl, rfl⟩) hHeld ?_
                  try simp only [Act.put, List.setIfInBounds_toArray, List.set_cons_zero, List.set_cons_succ]
                  refine wpAnyH_take (i := 6) (oi := { dst := some 73, op := Go.Op.fieldAddr 116 (Go.Operand.tmp 72) 1, type := 0, pos := "l04_facts.go:409", after := #[{ on := 5, ground := Go.Ground.data }, { on := 3, ground := Go.Ground.guard }], guard := some (3, true) }) (v := undef) rfl (by kernel_rfl) (by kernel_rfl) (by kernel_rfl) (fun _ _ _ h => h) (Or.inr ⟨by rfl, rfl⟩) hHeld ?_
                  try simp only [Act.put, List.setIfInBounds_toArray, List.set_cons_zero, List.set_cons_succ]
                  refine wpAnyH_take (i := 7) (oi := { dst := some 74, op := Go.Op.load 55 (Go.Operand.tmp 73), type := 55, pos := "l04_facts.go:409", after := #[{ on := 6, ground := Go.Ground.data }, { on := 3, ground := Go.Ground.guard }], guard := some (3, true) }) (v := undef) rfl (by kernel_rfl) (by kernel_rfl) (by kernel_rfl) (fun _ _ _ h => h) (Or.inr ⟨by rfl, rfl⟩) hHeld ?_
                  try simp only [Act.put, List.setIfInBounds_toArray, List.set_cons_zero, List.set_cons_succ]
                  refine wpAnyH_take (i := 8) (oi := { dst := some 75, op := Go.Op.move (Go.Operand.tmp 12), type := 3, pos := "l04_facts.go:409", after := #[{ on := 3, ground := Go.Ground.guard }], guard := some (3, true) }) (v := undef) rfl (by kernel_rfl) (by kernel_rfl) (by kernel_rfl) (fun _ _ _ h => h) (Or.inr ⟨by rfl, rfl⟩) hHeld ?_
                  try simp only [Act.put, List.setIfInBounds_toArray, List.set_cons_zero, List.set_cons_succ]
                  refine wpAnyH_take (i := 9) (oi := { dst := some 76, op := Go.Op.indexAddr 55 (Go.Operand.tmp 74) (Go.Operand.tmp 75), type := 0, pos := "l04_facts.go:409", after := #[{ on := 7, ground := Go.Ground.data }, { on := 8, ground := Go.Ground.data }, { on := 3, ground := Go.Ground.guard }], guard := some (3, true) }) (v := undef) rfl (by kernel_rfl) (by kernel_rfl) (by kernel_rfl) (fun _ _ _ h => h) (Or.inr ⟨by rfl, rfl⟩) hHeld ?_
                  try simp only [Act.put, List.setIfInBounds_toArray, List.set_cons_zero, List.set_cons_succ]
                  refine wpAnyH_take (i := 10) (oi := { dst := some 77, op := Go.Op.load 4 (Go.Operand.tmp 76), type := 4, pos := "l04_facts.go:409", after := #[{ on := 9, ground := Go.Ground.data }, { on := 3, ground := Go.Ground.guard }], guard := some (3, true) }) (v := undef) rfl (by kernel_rfl) (by kernel_rfl) (by kernel_rfl) (fun _ _ _ h => h) (Or.inr ⟨by rfl, rfl⟩) hHeld ?_
                  try simp only [Act.put, List.setIfInBounds_toArray, List.set_cons_zero, List.set_cons_succ]
                  refine wpAnyH_take (i := 11) (oi := { dst := some 78, op := Go.Op.unOp Go.UnOp.not 4 (Go.Operand.tmp 77), type := 4, pos := "l04_facts.go:409", after := #[{ on := 10, ground := Go.Ground.data }, { on := 3, ground := Go.Ground.guard }], guard := some (3, true) }) (v := undef) rfl (by kernel_rfl) (by kernel_rfl) (by kernel_rfl) (fun _ _ _ h => h) (Or.inr ⟨by rfl, rfl⟩) hHeld ?_
                  try simp only [Act.put, List.setIfInBounds_toArray, List.set_cons_zero, List.set_cons_succ]
                  refine wpAnyH_take (i := 12) (oi := { dst := some 79, op := Go.Op.pick (Go.Operand.tmp 70) (Go.Operand.tmp 78) (Go.Operand.const (Go.Value.bool false)), type := 4, pos := "l04_facts.go:409", after := #[{ on := 3, ground := Go.Ground.data }, { on := 11, ground := Go.Ground.data }], guard := none }) (v := ?v30) rfl (by kernel_rfl) (by kernel_rfl) (by kernel_rfl) (fun _ _ _ h => h) (Or.inl ⟨by rfl, ?h30⟩) hHeld ?r30
                  case h30 => (intro w hSw; (try dsimp only at hSw); go_simp; try with_reducible rfl)
                  try simp only [Act.put, List.setIfInBounds_toArray, List.set_cons_zero, List.set_cons_succ]
                  refine wpAnyH_take (i := 13) (oi := { dst := some 80, op := Go.Op.move (Go.Operand.tmp 79), type := 4, pos := "l04_facts.go:409", after := #[{ on := 12, ground := Go.Ground.data }, { on := 3, ground := Go.Ground.chain }], guard := none }) (v := ?v31) rfl (by kernel_rfl) (by kernel_rfl) (by kernel_rfl) (fun _ _ _ h => h) (Or.inl ⟨by rfl, ?h31⟩) hHeld ?r31
                  case h31 => (intro w hSw; (try dsimp only at hSw); go_simp; try with_reducible rfl)
                  try simp only [Act.put, List.setIfInBounds_toArray, List.set_cons_zero, List.set_cons_succ]
                  refine wpAnyH_take (i := 14) (oi := { dst := some 81, op := Go.Op.move (Go.Operand.tmp 14), type := 3, pos := "l04_facts.go:409", after := #[{ on := 13, ground := Go.Ground.guard }], guard := some (13, false) }) (v := ?v32) rfl (by kernel_rfl) (by kernel_rfl) (by kernel_rfl) (fun _ _ _ h => h) (Or.inl ⟨by rfl, ?h32⟩) hHeld ?r32
                  case h32 => (intro w hSw; (try dsimp only at hSw); go_simp; try with_reducible rfl)
                  try simp only [Act.put, List.setIfInBounds_toArray, List.set_cons_zero, List.set_cons_succ]
                  refine wpAnyH_take (i := 15) (oi := { dst := some 82, op := Go.Op.move (Go.Operand.tmp 4), type := 3, pos := "l04_facts.go:409", after := #[{ on := 13, ground := Go.Ground.guard }], guard := some (13, false) }) (v := ?v33) rfl (by kernel_rfl) (by kernel_rfl) (by kernel_rfl) (fun _ _ _ h => h) (Or.inl ⟨by rfl, ?h33⟩) hHeld ?r33
                  case h33 => (intro w hSw; (try dsimp only at hSw); go_simp; try with_reducible rfl)
                  try simp only [Act.put, List.setIfInBounds_toArray, List.set_cons_zero, List.set_cons_succ]
                  refine wpAnyH_take (i := 16) (oi := { dst := some 83, op := Go.Op.binOp Go.BinOp.eql 3 (Go.Operand.tmp 81) (Go.Operand.tmp 82) 3, type := 4, pos := "l04_facts.go:409", after := #[{ on := 14, ground := Go.Ground.data }, { on := 15, ground := Go.Ground.data }, { on := 13, ground := Go.Ground.guard }], guard := some (13, false) }) (v := ?v34) rfl (by kernel_rfl) (by kernel_rfl) (by kernel_rfl) (fun _ _ _ h => h) (Or.inl ⟨by rfl, ?h34⟩) hHeld ?r34
                  case h34 => (intro w hSw; (try dsimp only at hSw); go_simp; try with_reducible rfl)
                  try simp only [Act.put, List.setIfInBounds_toArray, List.set_cons_zero, List.set_cons_succ]
                  refine wpAnyH_take (i := 17) (oi := { dst := some 84, op := Go.Op.move (Go.Operand.tmp 83), type := 4, pos := "l04_facts.go:409", after := #[{ on := 16, ground := Go.Ground.data }, { on := 13, ground := Go.Ground.chain }, { on := 13, ground := Go.Ground.guard }], guard := some (13, false) }) (v := ?v35) rfl (by kernel_rfl) (by kernel_rfl) (by kernel_rfl) (fun _ _ _ h => h) (Or.inl ⟨by rfl, ?h35⟩) hHeld ?r35
                  case h35 => (intro w hSw; (try dsimp only at hSw); go_simp; try with_reducible rfl)
                  try simp only [Act.put, List.setIfInBounds_toArray, List.set_cons_zero, List.set_cons_succ]
                  refine wpAnyH_take (i := 18) (oi := { dst := some 85, op := Go.Op.move (Go.Operand.tmp 0), type := 78, pos := "l04_facts.go:409", after := #[{ on := 17, ground := Go.Ground.guard }], guard := some (17, true) }) (v := ?v36) rfl (by kernel_rfl) (by kernel_rfl) (by kernel_rfl) (fun _ _ _ h => h) (Or.inl ⟨by rfl, ?h36⟩) hHeld ?r36
                  case h36 => (intro w hSw; (try dsimp only at hSw); go_simp; try with_reducible rfl)
                  try simp only [Act.put, List.setIfInBounds_toArray, List.set_cons_zero, List.set_cons_succ]
                  refine wpAnyH_take (i := 19) (oi := { dst := some 86, op := Go.Op.nilCheck (Go.Operand.tmp 85), type := 0, pos := "l04_facts.go:409", after := #[{ on := 18, ground := Go.Ground.data }, { on := 17, ground := Go.Ground.guard }], guard := some (17, true) }) (v := ?v37) rfl (by kernel_rfl) (by kernel_rfl) (by kernel_rfl) (fun _ _ _ h => h) (Or.inl ⟨by rfl, ?h37⟩) hHeld ?r37
                  case h37 => (intro w hSw; (try dsimp only at hSw); go_simp; try with_reducible rfl)
                  try simp only [Act.put, List.setIfInBounds_toArray, List.set_cons_zero, List.set_cons_succ]
                  refine wpAnyH_take (i := 20) (oi := { dst := some 87, op := Go.Op.fieldAddr 116 (Go.Operand.tmp 86) 0, type := 0, pos := "l04_facts.go:409", after := #[{ on := 19, ground := Go.Ground.data }, { on := 17, ground := Go.Ground.guard }], guard := some (17, true) }) (v := ?v38) rfl (by kernel_rfl) (by kernel_rfl) (by kernel_rfl) (fun _ _ _ h => h) (Or.inl ⟨by rfl, ?h38⟩) hHeld ?r38
                  case h38 => (intro w hSw; (try dsimp only at hSw); go_simp; try with_reducible rfl)
                  try simp only [Act.put, List.setIfInBounds_toArray, List.set_cons_zero, List.set_cons_succ]
                  refine wpAnyH_take (i := 21) (oi := { dst := some 88, op := Go.Op.load 34 (Go.Operand.tmp 87), type := 34, pos := "l04_facts.go:409", after := #[{ on := 20, ground := Go.Ground.data }, { on := 17, ground := Go.Ground.guard }], guard := some (17, true) }) (v := ?v39) rfl (by kernel_rfl) (by kernel_rfl) (by kernel_rfl) (fun _ _ _ h => h) (Or.inl ⟨by rfl, ?h39⟩) hHeld ?r39
                  case h39 => (intro w hSw; (try dsimp only at hSw); go_simp; try with_reducible rfl)
                  try simp only [Act.put, List.setIfInBounds_toArray, List.set_cons_zero, List.set_cons_succ]
                  refine wpAnyH_take (i := 22) (oi := { dst := some 89, op := Go.Op.move (Go.Operand.tmp 0), type := 78, pos := "l04_facts.go:409", after := #[{ on := 17, ground := Go.Ground.guard }], guard := some (17, true) }) (v := ?v40) rfl (by kernel_rfl) (by kernel_rfl) (by kernel_rfl) (fun _ _ _ h => h) (Or.inl ⟨by rfl, ?h40⟩) hHeld ?r40
                  case h40 => (intro w hSw; (try dsimp only at hSw); go_simp; try with_reducible rfl)
                  try simp only [Act.put, List.setIfInBounds_toArray, List.set_cons_zero, List.set_cons_succ]
                  refine wpAnyH_take (i := 23) (oi := { dst := some 90, op := Go.Op.nilCheck (Go.Operand.tmp 89), type := 0, pos := "l04_facts.go:409", after := #[{ on := 22, ground := Go.Ground.data }, { on := 17, ground := Go.Ground.guard }], guard := some (17, true) }) (v := ?v41) rfl (by kernel_rfl) (by kernel_rfl) (by kernel_rfl) (fun _ _ _ h => h) (Or.inl ⟨by rfl, ?h41⟩) hHeld ?r41
                  case h41 => (intro w hSw; (try dsimp only at hSw); go_simp; try with_reducible rfl)
                  try simp only [Act.put, List.setIfInBounds_toArray, List.set_cons_zero, List.set_cons_succ]
                  refine wpAnyH_take (i := 24) (oi := { dst := some 91, op := Go.Op.fieldAddr 116 (Go.Operand.tmp 90) 1, type := 0, pos := "l04_facts.go:409", after := #[{ on := 23, ground := Go.Ground.data }, { on := 17, ground := Go.Ground.guard }], guard := some (17, true) }) (v := ?v42) rfl (by kernel_rfl) (by kernel_rfl) (by kernel_rfl) (fun _ _ _ h => h) (Or.inl ⟨by rfl, ?h42⟩) hHeld ?r42
                  case h42 => (intro w hSw; (try dsimp only at hSw); go_simp; try with_reducible rfl)
                  try simp only [Act.put, List.setIfInBounds_toArray, List.set_cons_zero, List.set_cons_succ]
                  refine wpAnyH_take (i := 25) (oi := { dst := some 92, op := Go.Op.load 55 (Go.Operand.tmp 91), type := 55, pos := "l04_facts.go:409", after := #[{ on := 24, ground := Go.Ground.data }, { on := 17, ground := Go.Ground.guard }], guard := some (17, true) }) (v := ?v43) rfl (by kernel_rfl) (by kernel_rfl) (by kernel_rfl) (fun _ _ _ h => h) (Or.inl ⟨by rfl, ?h43⟩) hHeld ?r43
                  case h43 => (intro w hSw; (try dsimp only at hSw); go_simp; try with_reducible rfl)
                  try simp only [Act.put, List.setIfInBounds_toArray, List.set_cons_zero, List.set_cons_succ]
                  refine wpAnyH_take (i := 26) (oi := { dst := some 93, op := Go.Op.move (Go.Operand.tmp 11), type := 28, pos := "l04_facts.go:409", after := #[{ on := 17, ground := Go.Ground.guard }], guard := some (17, true) }) (v := ?v44) rfl (by kernel_rfl) (by kernel_rfl) (by kernel_rfl) (fun _ _ _ h => h) (Or.inl ⟨by rfl, ?h44⟩) hHeld ?r44
                  case h44 => (intro w hSw; (try dsimp only at hSw); go_simp; try with_reducible rfl)
                  try simp only [Act.put, List.setIfInBounds_toArray, List.set_cons_zero, List.set_cons_succ]
                  refine wpAnyH_take (i := 27) (oi := { dst := some 94, op := Go.Op.move (Go.Operand.tmp 2), type := 3, pos := "l04_facts.go:409", after := #[{ on := 17, ground := Go.Ground.guard }], guard := some (17, true) }) (v := ?v45) rfl (by kernel_rfl) (by kernel_rfl) (by kernel_rfl) (fun _ _ _ h => h) (Or.inl ⟨by rfl, ?h45⟩) hHeld ?r45
                  case h45 => (intro w hSw; (try dsimp only at hSw); go_simp; try with_reducible rfl)
                  try simp only [Act.put, List.setIfInBounds_toArray, List.set_cons_zero, List.set_cons_succ]
                  refine wpAnyH_take (i := 28) (oi := { dst := some 95, op := Go.Op.binOp Go.BinOp.add 3 (Go.Operand.tmp 94) (Go.Operand.const (Go.Value.int Go.IntKind.i64 1)) 3, type := 3, pos := "l04_facts.go:409", after := #[{ on := 27, ground := Go.Ground.data }, { on := 17, ground := Go.Ground.guard }], guard := some (17, true) }) (v := ?v46) rfl (by kernel_rfl) (by kernel_rfl) (by kernel_rfl) (fun _ _ _ h => h) (Or.inl ⟨by rfl, ?h46⟩) hHeld ?r46
                  case h46 => (intro w hSw; (try dsimp only at hSw); go_simp; try with_reducible rfl)
                  try simp only [Act.put, List.setIfInBounds_toArray, List.set_cons_zero, List.set_cons_succ]
                  refine wpAnyH_take (i := 29) (oi := { dst := some 96, op := Go.Op.slice 28 (Go.Operand.tmp 93) (some (Go.Operand.tmp 95)) none none, type := 28, pos := "l04_facts.go:409", after := #[{ on := 26, ground := Go.Ground.data }, { on := 28, ground := Go.Ground.data }, { on := 17, ground := Go.Ground.guard }], guard := some (17, true) }) (v := ?v47) rfl (by kernel_rfl) (by kernel_rfl) (by kernel_rfl) (fun _ _ _ h => h) (Or.inl ⟨by rfl, ?h47⟩) hHeld ?r47
                  case h47 => (intro w hSw; (try dsimp only at hSw); go_simp; try with_reducible rfl)
                  try simp only [Act.put, List.setIfInBounds_toArray, List.set_cons_zero, List.set_cons_succ]
                  refine wpAnyH_ready (rs := [30]) (by kernel_rfl) (by simp) ?_
                  refine AllReadyH.cons (o := { dst := some 97, op := Go.Op.call { callee := Go.Callee.value (Go.Operand.func 91), args := #[Go.Operand.tmp 88, Go.Operand.tmp 92, Go.Operand.tmp 96], argTypes := #[34, 55, 28] }, type := 4, pos := "l04_facts.go:409", after := #[{ on := 21, ground := Go.Ground.data }, { on := 25, ground := Go.Ground.data }, { on := 29, ground := Go.Ground.data }, { on := 17, ground := Go.Ground.chain }, { on := 17, ground := Go.Ground.guard }], guard := some (17, true) }) rfl (fun K hK => ?_) AllReadyH.nil
                  go_simp
                  refine Calls.mono (HAN.out _ _ _ _ (HW1.out.still hbd) (HDR.out _ _ _ _ (HW1.out.still hbd).bel (by omega) (by omega) (fun b9 o9 e9 h9 => by first | (exfalso; omega) | (cases e9; simp [Addr.add] <;> omega)))) ?_
                  rintro e w2 ⟨rfl, hb2⟩
                  have hB2 := bel_trans hbd hb2
                  have hS1 := HCC.out _ hB2
                  clear hHeld hb2
                  refine hK.out _ _ hS1 (fun hHeld => ?_)
                  clear hK K
                  try simp only [Act.put, List.setIfInBounds_toArray, List.set_cons_zero, List.set_cons_succ]
                  refine wpAnyH_take (i := 31) (oi := { dst := some 98, op := Go.Op.unOp Go.UnOp.not 4 (Go.Operand.tmp 97), type := 4, pos := "l04_facts.go:409", after := #[{ on := 30, ground := Go.Ground.data }, { on := 17, ground := Go.Ground.guard }], guard := some (17, true) }) (v := ?v48) rfl (by kernel_rfl) (by kernel_rfl) (by kernel_rfl) (fun _ _ _ h => h) (Or.inl ⟨by rfl, ?h48⟩) hHeld ?r48
                  case h48 => (intro w hSw; (try dsimp only at hSw); go_simp; try with_reducible rfl)
                  try simp only [Act.put, List.setIfInBounds_toArray, List.set_cons_zero, List.set_cons_succ]
                  refine wpAnyH_take (i := 32) (oi := { dst := some 99, op := Go.Op.pick (Go.Operand.tmp 84) (Go.Operand.tmp 98) (Go.Operand.const (Go.Value.bool false)), type := 4, pos := "l04_facts.go:409", after := #[{ on := 17, ground := Go.Ground.data }, { on := 31, ground := Go.Ground.data }, { on := 13, ground := Go.Ground.guard }], guard := some (13, false) }) (v := ?v49) rfl (by kernel_rfl) (by kernel_rfl) (by kernel_rfl) (fun _ _ _ h => h) (Or.inl ⟨by rfl, ?h49⟩) hHeld ?r49
                  case h49 => (intro w hSw; (try dsimp only at hSw); go_simp; try with_reducible rfl)
                  try simp only [Act.put, List.setIfInBounds_toArray, List.set_cons_zero, List.set_cons_succ]
                  refine wpAnyH_take (i := 33) (oi := { dst := some 100, op := Go.Op.pick (Go.Operand.tmp 80) (Go.Operand.const (Go.Value.bool true)) (Go.Operand.tmp 99), type := 4, pos := "l04_facts.go:409", after := #[{ on := 13, ground := Go.Ground.data }, { on := 32, ground := Go.Ground.data }], guard := none }) (v := ?v50) rfl (by kernel_rfl) (by kernel_rfl) (by kernel_rfl) (fun _ _ _ h => h) (Or.inl ⟨by rfl, ?h50⟩) hHeld ?r50
                  case h50 => (intro w hSw; (try dsimp only at hSw); go_simp; try with_reducible rfl)
                  try simp only [Act.put, List.setIfInBounds_toArray, List.set_cons_zero, List.set_cons_succ]
                  refine wpAnyH_done (by kernel_rfl) ?_ _
                  go_wp2_with fail
                  go_meet
                  exact ⟨by rw [HBV.out] <;> rfl, hB2⟩
            · have hd2 : ((m : Int) == (j : Int)) = false := by simp; omega
              by_cases hmi : m = i
              · have hd1 : ((m : Int) == (i : Int)) = true := by simp [hmi]
                have hBv : B = !nk := by rw [HB.out]; simp [hmi, show ¬ i = j by omega]
                have HBV := (show Hid _ from hBv); clear hBv
                cases nk with
                | false =>
                  clear hmi hmj2
                  go_quiet (fail)
                  go_wp2_with fail
                  go_meet
                  exact ⟨by rw [HBV.out]; rfl, ⟨rfl, rfl, rfl, Nat.le_refl _, fun _ _ => rfl⟩⟩
                | true =>
                  clear hmi hmj2
                  go_quiet (fail)
                  go_wp2_with fail
                  go_meet
                  exact ⟨by rw [HBV.out]; rfl, ⟨rfl, rfl, rfl, Nat.le_refl _, fun _ _ => rfl⟩⟩
              · have hd1 : ((m : Int) == (i : Int)) = false := by simp; omega
                have hBv : B = false := by rw [HB.out]; simp [hmi, hmj2]
                have HBV := (show Hid _ from hBv); clear hBv
                clear hmi hmj2
                go_quiet (fail)
                go_wp2_with fail
                go_meet
                exact ⟨by rw [HBV.out], ⟨rfl, rfl, rfl, Nat.le_refl _, fun _ _ => rfl⟩⟩
          case rest =>
            obtain ⟨rfl, HX⟩ := hcut
            have HWZ := (show Hid _ from HW1.out.still HX.out)
            clear HX HCC
            cases B with
            | true =>
              have HZ := (show Hid (sm F (m + 1 - i) = sm F (m - i)) from (by
                show sm F (m + 1 - i) = _
                rw [HS.out]
                have h1 := HB.out
                simp only [Bool.true_eq, Bool.or_eq_true, Bool.and_eq_true, decide_eq_true_eq, Bool.not_eq_true'] at h1
                rcases h1 with ⟨h1, h2⟩ | ⟨h1, h2⟩
                · rw [← HF.out, show m - i = 0 by omega, fW_first HOK.out _ _ _ (by rw [HNF.out]; exact h2), Nat.add_zero]
                · rw [← HF.out, fW_last HOK.out _ (by omega) (by rw [HAL.out]; exact h2), Nat.add_zero]))
              go_wp2_with fail
              exact ⟨⟨m + 1, by go_num, by omega, by omega, by rw [HZ.out], ow1, mm1, HWZ.out, HLE1.out⟩, by simp [intOf]; omega⟩
            | false =>
              have hcnd : (m = i → nk = true) ∧ (m = j → al = true) := by
                have h1 := HB.out
                simp only [Bool.false_eq, Bool.or_eq_false_iff, Bool.and_eq_false_iff, decide_eq_false_iff_not, Bool.not_eq_false'] at h1
                exact ⟨fun e => h1.1.resolve_left (fun h => h e), fun e => h1.2.resolve_left (fun h => h e)⟩
              have HCL := (show Hid _ from HL2.out m him hlt (fun e => by rw [HNF.out]; exact hcnd.1 e) (fun e => hcnd.2 e) _ _ _ HWZ.out)
              have HCN := (show Hid _ from HN.out k m rfl him hlt (fun e => by rw [HNF.out]; exact hcnd.1 e) (fun e => hcnd.2 e))
              rw [Int.natCast_add] at HCL
              clear hcnd
              generalize hse : cp (sm F (m - i)) = s0 at *
              have HSE := (show Hid _ from hse); clear hse
              go_wp2_with fail
              refine Calls.mono HCL.out ?_
              rintro e w2 ⟨rfl, ow2, mm2, hw2, hle2⟩
              have HW2 := (show Hid _ from hw2)
              have HLE2 := (show Hid _ from hle2)
              clear hw2 hle2
              have hs1 := cp_le (LF s.V ((nats (s.rt p)).drop (a + 1)) m j)
              have HN0 := (show Hid (cp (LF s.V ((nats (s.rt p)).drop (a + 1)) m j) = 0 → F (m - i) = 0) from fun h => by rw [HFV.out, cp_zero.1 h, Nat.mul_zero])
              generalize hsf : cp (LF s.V ((nats (s.rt p)).drop (a + 1)) m j) = s1 at *
              have HSF := (show Hid _ from hsf); clear hsf
              by_cases hs10 : s1 = 0
              · have HZ := (show Hid (s0 = cp (sm F (m + 1 - i))) from (by show s0 = _; rw [HS.out, HN0.out hs10, ← HSE.out]; rfl))
                have hd : decide ((s1 : Int) > 0) = false := by simp; omega
                go_wp2_with fail
                exact ⟨⟨m + 1, by go_num, by omega, by omega, by rw [HZ.out], ow2, mm2, HW2.out, fun p a q h => HLE2.out p a q (HLE1.out p a q h)⟩, by simp [intOf]; omega⟩
              · have hd : decide ((s1 : Int) > 0) = true := by simp; omega
                go_wp2_with fail
                refine Calls.mono (HCN.out _ _ _ HW2.out) ?_
                rintro e w3 ⟨rfl, ow3, mm3, hw3, hle3⟩
                have HW3 := (show Hid _ from hw3)
                have HLE3 := (show Hid _ from hle3)
                clear hw3 hle3
                have hs2 := cp_le (s.V (s.d.terms.length + k) i m)
                generalize hsg : cp (s.V (s.d.terms.length + k) i m) = s2 at *
                have HSG2 := (show Hid _ from hsg); clear hsg
                have hmul : s1 * s2 ≤ 1000000 * 1000000 := Nat.mul_le_mul hs1 hs2
                obtain ⟨q9, hq9⟩ : ∃ q9, s1 * s2 = q9 := ⟨_, rfl⟩
                rw [hq9] at hmul
                have kmm : (s1 : Int) * (s2 : Int) = (q9 : Int) := by rw [← hq9, Int.natCast_mul]
                have kmw : IntKind.i64.wrap ((s1 : Int) * (s2 : Int)) = (q9 : Int) := by rw [kmm]; simp [IntKind.wrap, IntKind.bits, IntKind.signed]; omega
                have HQ9 := (show Hid _ from hq9); clear hq9
                have HC78 := (show Hid _ from cap78 (s0 + q9) (by omega) w3)
                have HN2 : Hid (cp (s0 + q9) = cp (sm F (m + 1 - i))) := by
                  show cp (s0 + q9) = _
                  rw [HS.out, HFV.out, ← HSE.out, ← HQ9.out, ← HSF.out, ← HSG2.out, cp_step, Nat.mul_comm]
                rw [Int.natCast_add] at HC78
                go_wp2_with fail
                refine Calls.mono HC78.out ?_
                rintro e w4 ⟨rfl, rfl⟩
                rw [HN2.out]
                go_wp2_with fail
                exact ⟨⟨m + 1, by go_num, by omega, by omega, rfl, ow3, mm3, HW3.out, fun p a q h => HLE3.out p a q (HLE2.out p a q (HLE1.out p a q h))⟩, by simp [intOf]; omega⟩
        · obtain rfl : m = j + 1 := by omega
          go_wp2_with fail
          go_ret
          exact ⟨by rw [HV.out]; rfl, ow1, mm1, HW1.out, HLE1.out⟩
end Go.Proofs.Ytpbpmhgoppbfnaa
