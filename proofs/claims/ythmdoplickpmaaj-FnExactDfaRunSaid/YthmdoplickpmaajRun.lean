import Derived.Test.YthmdoplickpmaajChk2
import Derived.WalkMore
import Derived.ScopeJumps
/-! What a machine reads: the specification's walk, and the program's. -/
namespace Go.Proofs.Ythmdoplickpmaaj
open Go.RowKit Go.Deep
set_option linter.unusedVariables false
set_option linter.unusedSimpArgs false

theorem get!_eq (s : ByteArray) (k : Nat) (h : k < s.size) : s.get! k = s[k] := by
  show s.data[k]! = s.data[k]
  exact getElem!_pos s.data k h
theorem Df.step_at {d : Df} (h : d.Ok) {st : Nat} (hst : st < d.nxt.length) (b : UInt8) :
    ∃ (n : Nat) (h1 : b.toNat < d.cls.length) (h2 : n < d.nxt[st].length), d.cls[b.toNat] = n ∧ d.step st b = d.nxt[st][n] ∧ -1 ≤ d.step st b ∧ d.step st b ≤ (d.nxt.length : Int) - 1 := by
  obtain ⟨p1, p2, p3, p4, p5, p6⟩ := Df.step_of h hst b
  exact ⟨_, p1, p2, (Int.toNat_of_nonneg p3).symm, p4, p5, p6⟩

/-- How far it has come. -/
structure Far (d : Df) (s : ByteArray) (frm k q : Nat) (l c : Int) : Prop where
  same : d.run s frm (s.size - k) k q l c = d.all s frm
  st : q < d.nxt.length
  le : k ≤ s.size
  low : frm ≤ k
  pos : 0 ≤ l
  few : l ≤ k
/-- One byte more: it stops; it goes on, and what it has read is read by one; it goes on. -/
theorem Far.stop {d : Df} {s : ByteArray} {frm k q : Nat} {l c : Int} (h : Far d s frm k q l c) (hk : k < s.size) (hs : d.step q s[k] < 0) : d.all s frm = (l, c, (k : Int) + 1) := by
  rw [← h.same, Df.run_stop hk (by rw [get!_eq s k hk]; exact hs)]
theorem Far.acc {d : Df} {s : ByteArray} {frm k q n : Nat} {l c x : Int} (h : Far d s frm k q l c) (hk : k < s.size) (hs : d.step q s[k] = (n : Int)) (hn : n < d.nxt.length) (ha : d.acc.getD n 0 = x) (hx : 0 ≤ x) : Far d s frm (k + 1) n ((k : Int) + 1 - frm) x := by
  have e : d.step q (s.get! k) = (n : Int) := by rw [get!_eq s k hk]; exact hs
  refine ⟨?_, hn, hk, by have := h.low; omega, by have := h.low; omega, by omega⟩
  rw [← h.same, Df.run_acc hk (by rw [e]; omega) (by rw [e, Int.toNat_natCast, ha]; exact hx), e, Int.toNat_natCast, ha]
theorem Far.go {d : Df} {s : ByteArray} {frm k q n : Nat} {l c x : Int} (h : Far d s frm k q l c) (hk : k < s.size) (hs : d.step q s[k] = (n : Int)) (hn : n < d.nxt.length) (ha : d.acc.getD n 0 = x) (hx : ¬ 0 ≤ x) : Far d s frm (k + 1) n l c := by
  have e : d.step q (s.get! k) = (n : Int) := by rw [get!_eq s k hk]; exact hs
  refine ⟨?_, hn, hk, by have := h.low; omega, h.pos, by have := h.few; omega⟩
  rw [← h.same, Df.run_go hk (by rw [e]; omega) (by rw [e, Int.toNat_natCast, ha]; exact hx), e, Int.toNat_natCast]

set_option maxHeartbeats 1600000 in
set_option maxRecDepth 100000 in
/-- impl.longest. -/
theorem longest_any {S : Nat → Prop} (d : Df) (v0 v1 v2 : Value) (s : ByteArray) (frm : Nat) (w : World) (h : DLies w S d v0 v1 v2) (hok : d.Ok) (hs : s.size ≤ 4000) (hf : frm ≤ s.size) :
    Calls Try.prog 22 #[.agg #[v0, v1, v2], .string s, .int .i64 frm] w fun e w' => e = .returned (.tuple #[.int .i64 (d.all s frm).1, .int .i64 (d.all s frm).2.1, .int .i64 (d.all s frm).2.2]) ∧ Below w.heap.size w w' := by
  have h' := h.still (bel_alloc w (.cells #[v0, v1, v2] 29))
  have TH := (show Hid _ from three_box w v0 v1 v2 29)
  obtain ⟨T0, T1, T2⟩ := three_box w v0 v1 v2 29
  have hbw := bel_alloc w (.cells #[v0, v1, v2] 29)
  obtain ⟨a1, cap1, b1, off1, sv, rfl, hc1, hm1, ha1, hcell1, hr1⟩ := h'.nxt
  obtain ⟨a2, cap2, b2, off2, rfl, hc2, hm2, ha2, hcell2⟩ := h'.acc
  obtain ⟨a0, cap0, b0, off0, rfl, hc0, hm0, ha0, hcell0⟩ := h'.cls
  have hN := hok.2.1
  have hN' := hok.2.2.1
  have hA := hok.2.2.2.1
  have hC := hok.1
  obtain ⟨rfl, _⟩ := ha1 (by omega)
  obtain ⟨rfl, _⟩ := ha2 (by omega)
  obtain ⟨rfl, _⟩ := ha0 (by omega)
  have HC1 := (show Hid _ from hcell1)
  have HC2 := (show Hid _ from hcell2)
  have HC0 := (show Hid _ from hcell0)
  have HR1 := (show Hid _ from hr1)
  have HOK := (show Hid _ from hok)
  have hpa : 0 < d.acc.length := by omega
  have z0 := hcell2 0 hpa
  rw [Nat.add_zero] at z0
  have hst0 : Far d s frm frm 0 0 d.acc[0] := ⟨by unfold Df.all; rw [getD_lt _ _ hpa], by omega, hf, Nat.le_refl _, Int.le_refl _, by omega⟩
  clear h h' hcell0 hcell1 hcell2 ha0 ha1 ha2 hr1 hok
  unfold maxLen at hm1 hm2 hm0
  generalize d.acc[0] = x0 at *
  clear hA hC
  have HF0 := (show Hid _ from hst0); clear hst0
  go_enter Try.func22, Try.ntmps22
  go_wp2_with fail
  go_step3
  go_wp2_with fail
  go_step3
  go_wp2_with fail
  go_loopw [6, 7, 8, 9, 10] (fun len wh re st at_ wr => ∃ (k q : Nat) (l c : Int), at_ = .int .i64 k ∧ st = .int .i64 q ∧ len = .int .i64 l ∧ wh = .int .i64 c ∧ re = .int .i64 (s.size + 1 : Nat) ∧ Hid (Far d s frm k q l c) ∧ Below w.heap.size w wr ∧ Below (w.alloc (.cells #[.slice (some ⟨b0, off0, none⟩) d.cls.length cap0, .slice (some ⟨b1, off1, none⟩) d.nxt.length cap1, .slice (some ⟨b2, off2, none⟩) d.acc.length cap2] 29)).heap.size (w.alloc (.cells #[.slice (some ⟨b0, off0, none⟩) d.cls.length cap0, .slice (some ⟨b1, off1, none⟩) d.nxt.length cap1, .slice (some ⟨b2, off2, none⟩) d.acc.length cap2] 29)) wr) (fun _ _ _ _ at_ _ => s.size - (intOf at_).toNat)
  case atStart => exact ⟨frm, 0, 0, x0, rfl, rfl, rfl, rfl, by go_num, HF0, hbw, Below.refl _ _⟩
  case round =>
    clear T0 T1 T2 z0
    obtain ⟨k, q, l, c, rfl, rfl, rfl, rfl, rfl, HF, hbw1, hbW⟩ := hrel
    by_cases hlt : k < s.size
    case neg =>
      have HE := (show Hid (d.all s frm = (l, c, (s.size : Int) + 1)) from HF.out.same.symm.trans (Df.run_end (by omega)))
      go_wp2_with fail
      try rw [Exit.noGoto_ret]
      refine bodyPost_ret (v := .tuple #[.int .i64 l, .int .i64 c, .int .i64 (s.size + 1 : Nat)]) (by simp [results, Try.results22, go_sem]) rfl ⟨?_, hbw1⟩
      rw [HE.out]
      rfl
    have hq := HF.out.st
    obtain ⟨T0, T1, T2⟩ := Three.still TH.out hbW
    obtain ⟨yn, p1, p2, p3, p4, p5, p6⟩ := Df.step_at HOK.out hq s[k]
    have k1 := (hbW.cell (lt_of_cell (HC1.out q hq))).trans (HC1.out q hq)
    have k0 := (hbW.cell (lt_of_cell (HC0.out _ p1))).trans (HC0.out _ p1)
    obtain ⟨a4, cap4, b4, off4, e4, hc4, hm4, ha4, hcell4⟩ := HR1.out q hq
    obtain ⟨rfl, _⟩ := ha4 (by omega)
    have k4 := (hbW.cell (lt_of_cell (hcell4 _ p2))).trans (hcell4 _ p2)
    rw [e4] at k1
    rw [p3] at k0
    rw [← p4] at k4
    unfold maxLen at hm4
    have hrl : ∃ rl, d.nxt[q].length = rl := ⟨_, rfl⟩
    obtain ⟨rl, hrl⟩ := hrl
    rw [hrl] at k1 p2 hc4
    clear hcell4 ha4 e4 p4 p3 hrl
    have hz : ∃ z, d.step q s[k] = z := ⟨_, rfl⟩
    obtain ⟨z, hz⟩ := hz
    rw [hz] at k4 p5 p6
    have HZ := (show Hid _ from hz); clear hz
    have hbb : ∀ m, Below w.heap.size w (wr.drewN m) := fun m => bel_drewN hbw1 m
    have hbb' : ∀ m, Below _ _ (wr.drewN m) := fun m => bel_drewN hbW m
    have hl0 := HF.out.low
    by_cases hneg : z < 0
    · have HE := (show Hid (d.all s frm = (l, c, (k : Int) + 1)) from HF.out.stop hlt (by rw [HZ.out]; exact hneg))
      go_wp2_with fail
      go_quiet (fail)
      go_wp2_with fail
      try rw [Exit.noGoto_ret]
      refine bodyPost_ret (v := .tuple #[.int .i64 l, .int .i64 c, .int .i64 ((k : Int) + 1)]) (by simp [results, Try.results22, go_sem]) rfl ⟨?_, hbb _⟩
      rw [HE.out]
    obtain ⟨zn, rfl⟩ : ∃ n : Nat, z = n := ⟨_, (Int.toNat_of_nonneg (by omega)).symm⟩
    have hza : zn < d.acc.length := by have := HOK.out.2.2.2.1; omega
    have k2 := (hbW.cell (lt_of_cell (HC2.out zn hza))).trans (HC2.out zn hza)
    have hx : ∃ x, d.acc[zn] = x := ⟨_, rfl⟩
    obtain ⟨x, hx⟩ := hx
    rw [hx] at k2
    have hxg : d.acc.getD zn 0 = x := by rw [getD_lt _ _ hza]; exact hx
    have HXG := (show Hid _ from hxg); clear hxg hx
    by_cases hxp : 0 ≤ x
    · have HN := (show Hid _ from HF.out.acc hlt HZ.out (by omega) HXG.out hxp)
      go_wp2_with fail
      go_quiet (fail)
      go_wp2_with fail
      go_quiet (fail)
      go_wp2_with fail
      exact ⟨⟨k + 1, zn, _, x, by go_num, rfl, by go_num, rfl, rfl, HN, hbb _, hbb' _⟩, by simp [intOf]; omega⟩
    · have HN := (show Hid _ from HF.out.go hlt HZ.out (by omega) HXG.out hxp)
      go_wp2_with fail
      go_quiet (fail)
      go_wp2_with fail
      exact ⟨⟨k + 1, zn, l, c, by go_num, rfl, rfl, rfl, rfl, HN, hbb _, hbb' _⟩, by simp [intOf]; omega⟩
/-- What DfaRun is asked is right. -/
def Right (d : Df) (s : ByteArray) (frm : Int) : Prop := d.Ok ∧ s.size ≤ 4000 ∧ 0 ≤ frm ∧ frm ≤ s.size
/-- What DfaRun answers. -/
def Ans (d : Df) (s : ByteArray) (frm : Int) (e : Ending) : Prop :=
  (Right d s frm ∧ e = .returned (.tuple #[.int .i64 (d.all s frm.toNat).1, .int .i64 (d.all s frm.toNat).2.1, .int .i64 (d.all s frm.toNat).2.2, .int .i64 0])) ∨ (¬ Right d s frm ∧ e = .returned (.tuple #[.int .i64 0, .int .i64 0, .int .i64 0, .int .i64 1]))

set_option maxHeartbeats 1600000 in
set_option maxRecDepth 100000 in
/-- impl.DfaRun. -/
theorem iRun_any {S : Nat → Prop} (d : Df) (v0 v1 v2 : Value) (s : ByteArray) (frm : Int) (w : World) (h : DLies w S d v0 v1 v2) (hsm : s.size ≤ maxLen) :
    Calls Try.prog 8 #[.agg #[v0, v1, v2], .string s, .int .i64 frm] w fun e w' => Ans d s frm e ∧ Below w.heap.size w w' := by
  have hb0 := bel_alloc w (.cells #[v0, v1, v2] 29)
  have HI := (show Hid _ from isDfa_any d v0 v1 v2 _ (h.still hb0))
  have hlo : ∀ (hr : Right d s frm) (w' : World), Below w.heap.size w w' → Calls Try.prog 22 #[.agg #[v0, v1, v2], .string s, .int .i64 frm] w' fun e w'' => e = .returned (.tuple #[.int .i64 (d.all s frm.toNat).1, .int .i64 (d.all s frm.toNat).2.1, .int .i64 (d.all s frm.toNat).2.2]) ∧ Below w'.heap.size w' w'' := fun hr w' hb => by
    have q := longest_any d v0 v1 v2 s frm.toNat w' (h.still hb) hr.1 hr.2.1 (by have := hr.2.2; omega)
    rw [Int.toNat_of_nonneg hr.2.2.1] at q
    exact q
  have HLO := (show Hid _ from hlo); clear hlo
  obtain ⟨a1, cap1, rfl, hm1⟩ := h.nxt.form
  obtain ⟨a2, cap2, rfl, hm2⟩ := h.acc.form
  obtain ⟨a0, cap0, rfl, hm0⟩ := h.cls.form
  have TH := (show Hid _ from three_box w (.slice a0 d.cls.length cap0) (.slice a1 d.nxt.length cap1) (.slice a2 d.acc.length cap2) 29)
  obtain ⟨T0, T1, T2⟩ := three_box w (.slice a0 d.cls.length cap0) (.slice a1 d.nxt.length cap1) (.slice a2 d.acc.length cap2) 29
  unfold maxLen at hm0 hm1 hm2 hsm
  clear h
  go_enter Try.func8, Try.ntmps8
  go_wp2_with fail
  refine Calls.mono HI.out ?_
  rintro e w1 ⟨hs, hb1⟩
  have hbw := bel_trans hb0 hb1
  obtain ⟨T0, T1, T2⟩ := Three.still TH.out hb1
  rcases hs.cases with ⟨rfl, HC⟩ | ⟨rfl, HC⟩
  case inr =>
    have HN := (show Hid (¬ Right d s frm) from fun hh => HC.out hh.1)
    clear hs
    go_wp2_with fail
    refine bodyPost_ret (v := .tuple #[.int .i64 0, .int .i64 0, .int .i64 0, .int .i64 1]) (by simp [results, Try.results8, go_sem]) rfl ⟨.inr ⟨HN.out, rfl⟩, hbw⟩
  clear hs
  by_cases c1 : 4000 < s.size
  · have HN := (show Hid (¬ Right d s frm) from fun hh => by have q := hh.2.1; omega)
    go_wp2_with fail
    refine bodyPost_ret (v := .tuple #[.int .i64 0, .int .i64 0, .int .i64 0, .int .i64 1]) (by simp [results, Try.results8, go_sem]) rfl ⟨.inr ⟨HN.out, rfl⟩, hbw⟩
  by_cases c2 : frm < 0
  · have HN := (show Hid (¬ Right d s frm) from fun hh => by have q := hh.2.2.1; omega)
    go_wp2_with fail
    refine bodyPost_ret (v := .tuple #[.int .i64 0, .int .i64 0, .int .i64 0, .int .i64 1]) (by simp [results, Try.results8, go_sem]) rfl ⟨.inr ⟨HN.out, rfl⟩, hbw⟩
  by_cases c3 : (s.size : Int) < frm
  · have HN := (show Hid (¬ Right d s frm) from fun hh => by have q := hh.2.2.2; omega)
    go_wp2_with fail
    refine bodyPost_ret (v := .tuple #[.int .i64 0, .int .i64 0, .int .i64 0, .int .i64 1]) (by simp [results, Try.results8, go_sem]) rfl ⟨.inr ⟨HN.out, rfl⟩, hbw⟩
  have HR := (show Hid (Right d s frm) from ⟨HC.out, by omega, by omega, by omega⟩)
  have HL1 := (show Hid _ from HLO.out HR.out w1 hbw)
  generalize hall : d.all s frm.toNat = r at *
  obtain ⟨r1, r2, r3⟩ := r
  have HAL := (show Hid _ from hall); clear hall HLO
  dsimp only at HL1
  go_wp2_with fail
  refine Calls.mono HL1.out ?_
  rintro e w2 ⟨rfl, hb2⟩
  have hbw2 := bel_trans hbw hb2
  go_wp2_with fail
  refine bodyPost_ret (v := .tuple #[.int .i64 r1, .int .i64 r2, .int .i64 r3, .int .i64 0]) (by simp [results, Try.results8, go_sem]) rfl ⟨.inl ⟨HR.out, ?_⟩, hbw2⟩
  rw [HAL.out]
end Go.Proofs.Ythmdoplickpmaaj
