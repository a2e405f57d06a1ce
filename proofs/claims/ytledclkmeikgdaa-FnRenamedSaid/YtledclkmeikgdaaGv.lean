import Derived.Test.YtledclkmeikgdaaGu
import Derived.Deep.CutRange
import Derived.Deep.RegionHeld3
import Derived.Deep.RegionWith
/-! The specification: l12Resolve. -/
namespace Go.Proofs.Ytledclkmeikgdaa
open Go.RowKit Go.Deep
set_option linter.unusedVariables false
set_option maxRecDepth 100000
set_option linter.unusedSimpArgs false

theorem rowBel {w w' : World} {b T n : Nat} {f : Nat → Value} (h : w.rowIs b T n f) (hb : Below w.heap.size w w') : w'.rowIs b T n f := World.rowIs.of_block h (hb.block b (World.rowIs.lt h))
/-- The boxes of a question: the Sg's and the reference's. -/
def E5 (p : Nat) (n : Int) (v1 v2 v3 : Value) (nm : ByteArray) (wq : World) : Prop :=
  (wq.cell? ⟨p, 0, none⟩ = some (.int .i64 n) ∧ wq.cell? ⟨p, 1, none⟩ = some v1 ∧ wq.cell? ⟨p, 2, none⟩ = some v2 ∧ wq.cell? ⟨p, 3, none⟩ = some v3) ∧ wq.cell? ⟨p + 1, 1, none⟩ = some (.string nm)
theorem E5.keep {p : Nat} {n : Int} {v1 v2 v3 : Value} {nm : ByteArray} {w w' : World} (h : E5 p n v1 v2 v3 nm w) (hb : Below (p + 2) w w') : E5 p n v1 v2 v3 nm w' := by
  obtain ⟨⟨h0, h1, h2, h3⟩, h4⟩ := h
  have q : ∀ {g o : Nat} {v : Value}, g < p + 2 → w.cell? ⟨g, o, none⟩ = some v → w'.cell? ⟨g, o, none⟩ = some v := fun hg h => (hb.cell hg).trans h
  exact ⟨⟨q (by omega) h0, q (by omega) h1, q (by omega) h2, q (by omega) h3⟩, q (by omega) h4⟩
set_option maxHeartbeats 12800000 in
theorem resolve50 {S : Nat → Prop} (N : Nat) (es : List DSEdge) (ds : List DSpot) (v1 v2 : Value) (a3 : Option Addr) (l3 p3 : Nat) (s : Nat) (nm : ByteArray) (w : World) (hes : SEdgeR w S es v1) (hds : SpotR w S ds v2)
    (he : ∀ i (hi : i < es.length), (0 ≤ es[i].from_ ∧ es[i].from_ < N) ∧ 0 ≤ es[i].to_ ∧ es[i].to_ < N) (hd : ∀ i (hi : i < ds.length), 0 ≤ ds[i].scope ∧ ds[i].scope < N) (hN : N ≤ 60) (hle : es.length ≤ 120) (hld : ds.length ≤ 120) (hs : s < N) :
    Calls Try.prog 35 #[.agg #[.int .i64 ((N : Nat) : Int), v1, v2, .slice a3 l3 p3], .agg #[.int .i64 ((s : Nat) : Int), .string nm]] w (InA (rs es ds nm (N + 1) (fun x => x == (s : Int))) w) := by
  obtain ⟨a1, p1, rfl, _⟩ := hes.form
  obtain ⟨a2, p2, rfl, _⟩ := hds.form
  have HIN := (show Hid (∀ (wq : World) (g : Nat) (A : Int → Bool), Below w.heap.size w wq → wq.rowIs g 4 N (fun i => .bool (A ((i : Nat) : Int))) → Calls Try.prog 80 #[.agg #[.int .i64 ((N : Nat) : Int), .slice a1 es.length p1, .slice a2 ds.length p2, .slice a3 l3 p3], .slice (some ⟨g, 0, none⟩) N N, .string nm] wq (InA (dcl ds nm A ds.length) wq)) from fun wq g A hb hr => in83 _ a1 _ p1 a3 l3 p3 ds _ nm A g N wq (hds.still hb) hd hr hN hld)
  have HBH := (show Hid (∀ (wq : World) (g : Nat) (A : Int → Bool) (kd : Int), Below w.heap.size w wq → wq.rowIs g 4 N (fun i => .bool (A ((i : Nat) : Int))) → Calls Try.prog 81 #[.agg #[.int .i64 ((N : Nat) : Int), .slice a1 es.length p1, .slice a2 ds.length p2, .slice a3 l3 p3], .slice (some ⟨g, 0, none⟩) N N, .int .i64 kd] wq (BhA (bhd es A kd es.length) N wq)) from fun wq g A kd hb hr => behind84 N a2 _ p2 a3 l3 p3 es _ kd A g wq (hes.still hb) he hr hN hle)
  have HBW := (show Hid (Below w.heap.size w ((w.alloc (.cells #[.int .i64 ((N : Nat) : Int), .slice a1 es.length p1, .slice a2 ds.length p2, .slice a3 l3 p3] 27)).alloc (.cells #[.int .i64 ((s : Nat) : Int), .string nm] 33))) from (bel_alloc _ _).alloc (by simp) _)
  have HE0 := (show Hid (E5 w.heap.size (N : Nat) (.slice a1 es.length p1) (.slice a2 ds.length p2) (.slice a3 l3 p3) nm ((w.alloc (.cells #[.int .i64 ((N : Nat) : Int), .slice a1 es.length p1, .slice a2 ds.length p2, .slice a3 l3 p3] 27)).alloc (.cells #[.int .i64 ((s : Nat) : Int), .string nm] 33))) from by
    refine ⟨⟨?_, ?_, ?_, ?_⟩, ?_⟩ <;> simp [go_sem])
  have hmk := run_makeBools N hN ((w.alloc (.cells #[.int .i64 ((N : Nat) : Int), .slice a1 es.length p1, .slice a2 ds.length p2, .slice a3 l3 p3] 27)).alloc (.cells #[.int .i64 ((s : Nat) : Int), .string nm] 33))
  have hr0 := madeRow N ((w.alloc (.cells #[.int .i64 ((N : Nat) : Int), .slice a1 es.length p1, .slice a2 ds.length p2, .slice a3 l3 p3] 27)).alloc (.cells #[.int .i64 ((s : Nat) : Int), .string nm] 33))
  rw [show ((w.alloc (.cells #[.int .i64 ((N : Nat) : Int), .slice a1 es.length p1, .slice a2 ds.length p2, .slice a3 l3 p3] 27)).alloc (.cells #[.int .i64 ((s : Nat) : Int), .string nm] 33)).heap.size = w.heap.size + 1 + 1 from by simp] at hr0 hmk
  have hfz : (((w.alloc (.cells #[.int .i64 ((N : Nat) : Int), .slice a1 es.length p1, .slice a2 ds.length p2, .slice a3 l3 p3] 27)).alloc (.cells #[.int .i64 ((s : Nat) : Int), .string nm] 33)).alloc (.cells (madeCells #[.bool false] N) 4)).frozen? ⟨w.heap.size + 1 + 1, s, none⟩ = false := hr0.frozen s
  have hcs : (((w.alloc (.cells #[.int .i64 ((N : Nat) : Int), .slice a1 es.length p1, .slice a2 ds.length p2, .slice a3 l3 p3] 27)).alloc (.cells #[.int .i64 ((s : Nat) : Int), .string nm] 33)).alloc (.cells (madeCells #[.bool false] N) 4)).cell? ⟨w.heap.size + 1 + 1, s, none⟩ = some (.bool false) := hr0.cell hs
  have hb3 : Below (w.heap.size + 2) ((w.alloc (.cells #[.int .i64 ((N : Nat) : Int), .slice a1 es.length p1, .slice a2 ds.length p2, .slice a3 l3 p3] 27)).alloc (.cells #[.int .i64 ((s : Nat) : Int), .string nm] 33)) (((w.alloc (.cells #[.int .i64 ((N : Nat) : Int), .slice a1 es.length p1, .slice a2 ds.length p2, .slice a3 l3 p3] 27)).alloc (.cells #[.int .i64 ((s : Nat) : Int), .string nm] 33)).alloc (.cells (madeCells #[.bool false] N) 4)) := (Below.refl _ _).alloc (by simp) _
  have HST := (show Hid (Below (w.heap.size + 2) ((w.alloc (.cells #[.int .i64 ((N : Nat) : Int), .slice a1 es.length p1, .slice a2 ds.length p2, .slice a3 l3 p3] 27)).alloc (.cells #[.int .i64 ((s : Nat) : Int), .string nm] 33)) ((((w.alloc (.cells #[.int .i64 ((N : Nat) : Int), .slice a1 es.length p1, .slice a2 ds.length p2, .slice a3 l3 p3] 27)).alloc (.cells #[.int .i64 ((s : Nat) : Int), .string nm] 33)).alloc (.cells (madeCells #[.bool false] N) 4)).setCell ⟨w.heap.size + 1 + 1, s, none⟩ (.bool true)) ∧ ((((w.alloc (.cells #[.int .i64 ((N : Nat) : Int), .slice a1 es.length p1, .slice a2 ds.length p2, .slice a3 l3 p3] 27)).alloc (.cells #[.int .i64 ((s : Nat) : Int), .string nm] 33)).alloc (.cells (madeCells #[.bool false] N) 4)).setCell ⟨w.heap.size + 1 + 1, s, none⟩ (.bool true)).rowIs (w.heap.size + 1 + 1) 4 N (fun i => .bool (((i : Nat) : Int) == (s : Int)))) from ⟨hb3.setCell (by simp) _, by
    obtain ⟨cs, h1, h2, h3⟩ := World.rowIs.set hr0 s (.bool true)
    refine ⟨cs, h1, h2, fun i hi => ?_⟩
    rw [h3 i hi]
    dsimp only
    by_cases e : i = s
    · subst e; simp
    · have e2 : ((i : Int) == (s : Int)) = false := by simp; omega
      rw [e2, if_neg e]⟩)
  rw [World.setCell_alloc_at (madeCells #[.bool false] N) 4 (w.heap.size + 1 + 1) s (.bool true) (by simp)] at HST
  have hc3 : (((w.alloc (.cells #[.int .i64 ((N : Nat) : Int), .slice a1 es.length p1, .slice a2 ds.length p2, .slice a3 l3 p3] 27)).alloc (.cells #[.int .i64 ((s : Nat) : Int), .string nm] 33)).alloc (.cells (madeCells #[.bool false] N) 4)).cell? ⟨w.heap.size + 1, 0, none⟩ = some (.int .i64 ((s : Nat) : Int)) := (hb3.cell (by simp)).trans (by simp [go_sem])
  clear hr0 hb3 hes hds he hd
  generalize hRS : rs es ds nm (N + 1) (fun x => x == (s : Int)) = RS
  have HRS := (show Hid _ from hRS); clear hRS
  go_enter Try.func35, Try.ntmps35
  go_wp2_with fail
  go_loopw [5, 6] (fun u i wr => ∃ (k g : Nat), i = .int .i64 k ∧ k ≤ N + 1 ∧ u = .slice (some ⟨g, 0, none⟩) N N ∧ wr.cell? ⟨w.heap.size, 0, none⟩ = some (.int .i64 ((N : Nat) : Int)) ∧ Hid (Below (w.heap.size + 2) ((w.alloc (.cells #[.int .i64 ((N : Nat) : Int), .slice a1 es.length p1, .slice a2 ds.length p2, .slice a3 l3 p3] 27)).alloc (.cells #[.int .i64 ((s : Nat) : Int), .string nm] 33)) wr ∧ ∃ A : Int → Bool, wr.rowIs g 4 N (fun i => .bool (A ((i : Nat) : Int))) ∧ RS = rs es ds nm (N + 1 - k) A)) (fun _ i _ => N + 1 - (intOf i).toNat)
  case atStart => exact ⟨0, _, rfl, Nat.zero_le _, rfl, (HE0.out.keep HST.out.1).1.1, HST.out.1, _, HST.out.2, HRS.out.symm⟩
  case round =>
    obtain ⟨k, g, rfl, hk, rfl, k0, HI⟩ := hrel
    clear HST hmk hfz hcs hc3
    obtain ⟨hbw, A, hrow, hrs⟩ := HI.out
    have HB := (show Hid (Below w.heap.size w wr) from HBW.out.trans (hbw.mono (by omega)))
    have HBQ := (show Hid (Below (w.heap.size + 2) ((w.alloc (.cells #[.int .i64 ((N : Nat) : Int), .slice a1 es.length p1, .slice a2 ds.length p2, .slice a3 l3 p3] 27)).alloc (.cells #[.int .i64 ((s : Nat) : Int), .string nm] 33)) wr) from hbw)
    have HRW := (show Hid _ from hrow)
    have HRE := (show Hid _ from hrs)
    clear HI hbw hrow hrs
    have HSZ := (show Hid (w.heap.size + 2 ≤ wr.heap.size) from by have := HBQ.out.size; simp at this; exact this)
    by_cases hkN : k ≤ N
    case neg =>
      have HF := (show Hid (RS = []) from by
        show RS = []
        rw [HRE.out, show N + 1 - k = 0 from by omega]; rfl)
      go_wp2_with fail
      go_ret
      rw [HF.out]
      refine ⟨_, _, rfl, HB.out.alloc HB.out.size _, ?_⟩
      have := World.ownsRow_lit (base := w.heap.size) (e := 3) (size := 1) wr #[] 0 (by have := HSZ.out; omega) (by unfold maxLen; omega) rfl
      simpa using this
    obtain ⟨⟨b0, b1, b2, b3⟩, b4⟩ := HE0.out.keep HBQ.out
    have HRF := (show Hid (∃ f, N + 1 - k = f + 1 ∧ N + 1 - (k + 1) = f) from ⟨N - k, by omega, by omega⟩)
    clear k0
    go_wp2_with fail
    refine Calls.mono (HIN.out _ g A HB.out HRW.out) ?_
    rintro e w5 ⟨ua, uc, rfl, hb5, ho5⟩
    have HB5 := (show Hid (Below (w.heap.size + 2) ((w.alloc (.cells #[.int .i64 ((N : Nat) : Int), .slice a1 es.length p1, .slice a2 ds.length p2, .slice a3 l3 p3] 27)).alloc (.cells #[.int .i64 ((s : Nat) : Int), .string nm] 33)) w5 ∧ Below w.heap.size w w5 ∧ Below wr.heap.size wr w5) from ⟨HBQ.out.trans (hb5.mono HSZ.out), bel_trans HB.out hb5, hb5⟩)
    have HO5 := (show Hid _ from ho5)
    clear hb5 ho5 b0 b1 b2 b3 b4
    by_cases hfd : dcl ds nm A ds.length = []
    case neg =>
      have hpos : 0 < (dcl ds nm A ds.length).length := List.length_pos_iff.2 hfd
      have HF := (show Hid (RS = dcl ds nm A ds.length) from by
        obtain ⟨f, hf, _⟩ := HRF.out
        show RS = _
        rw [HRE.out, hf, rs_own hfd])
      have hq : (((dcl ds nm A ds.length).length : Int) == 0) = false := by simp; omega
      clear hfd
      generalize dcl ds nm A ds.length = L at *
      go_wp2_with fail
      go_ret
      rw [HF.out]
      exact ⟨_, _, rfl, HB5.out.2.1, ownLow HO5.out (by have := HSZ.out; omega)⟩
    case pos =>
      have HFD := (show Hid _ from hfd)
      rw [hfd]
      clear HO5
      have HC := (show Hid (∀ wq, Below w5.heap.size w5 wq → E5 w.heap.size (N : Nat) (.slice a1 es.length p1) (.slice a2 ds.length p2) (.slice a3 l3 p3) nm wq) from fun wq h => HE0.out.keep (HB5.out.1.trans (h.mono (by have := HB5.out.1.size; simp at this; exact this))))
      have HRQ := (show Hid (∀ wq, Below w5.heap.size w5 wq → wq.rowIs g 4 N (fun i => .bool (A ((i : Nat) : Int)))) from fun wq h => rowBel HRW.out (HB5.out.2.2.trans (h.mono HB5.out.2.2.size)))
      have HBB := (show Hid (∀ wq, Below w5.heap.size w5 wq → Below w.heap.size w wq) from fun wq h => bel_trans HB5.out.2.1 h)
      clear hfd HRW HB
      generalize hDI : dcl ds nm (bhd es A 2 es.length) ds.length = DI
      have HDI := (show Hid _ from hDI)
      have HI2 := (show Hid (∀ (wq : World) (g : Nat), Below w.heap.size w wq → wq.rowIs g 4 N (fun i => .bool (bhd es A 2 es.length ((i : Nat) : Int))) → Calls Try.prog 80 #[.agg #[.int .i64 ((N : Nat) : Int), .slice a1 es.length p1, .slice a2 ds.length p2, .slice a3 l3 p3], .slice (some ⟨g, 0, none⟩) N N, .string nm] wq (InA DI wq)) from fun wq g hb hr => by rw [← hDI]; exact HIN.out wq g _ hb hr)
      clear hDI
      go_wp2_with fail
      go_cut [7] from 29 to 35 (fun v wx => ∃ (ua : Option Addr) (uc : Nat), v = .slice ua DI.length uc ∧ Hid (Below w5.heap.size w5 wx ∧ wx.ownsRow w5.heap.size 3 1 (.slice ua DI.length uc) DI.length (iv DI)))
      case first =>
        have hbd := (Below.refl w5.heap.size w5).drew
        have hS0 := HC.out _ hbd
        unfold E5 at hS0
        go_region_held3 (fun wq => (wq.cell? ⟨w.heap.size, 0, none⟩ = some (.int .i64 ((N : Nat) : Int)) ∧ wq.cell? ⟨w.heap.size, 1, none⟩ = some (.slice a1 es.length p1) ∧ wq.cell? ⟨w.heap.size, 2, none⟩ = some (.slice a2 ds.length p2) ∧ wq.cell? ⟨w.heap.size, 3, none⟩ = some (.slice a3 l3 p3)) ∧ wq.cell? ⟨w.heap.size + 1, 1, none⟩ = some (.string nm)) (first | with_reducible exact hS0 | with_reducible exact hS1 | with_reducible exact hS2) ((first
          | (go_at_call 80; refine Calls.mono (HI2.out _ _ (HBB.out _ hF1) hr6) ?_; rintro e w7 ⟨ua7, uc7, rfl, hb7, ho7⟩; have hF := bel_trans hF1 hb7; have hS2 := (show E5 _ _ _ _ _ _ _ from HC.out _ hF); unfold E5 at hS2)
          | (go_at_call 81; refine Calls.mono (HBH.out _ g A 2 (HBB.out _ hbd) (HRQ.out _ hbd)) ?_; rintro e w6 ⟨g6, rfl, hb6, hr6, hg6⟩; have hF1 := bel_trans hbd hb6; have hS1 := (show E5 _ _ _ _ _ _ _ from HC.out _ hF1); unfold E5 at hS1)))
        all_goals go_wp2_with fail
        all_goals go_meet
        all_goals exact ⟨_, _, rfl, hF, ownLow ho7 (Nat.le_trans hbd.size hb6.size)⟩
      case rest =>
        obtain ⟨ub, uc2, rfl, HX⟩ := hcut
        obtain ⟨wz, rfl⟩ : ∃ wz, wz = wc := ⟨_, rfl⟩
        by_cases hdi : DI = []
        case neg =>
          have hpos : 0 < DI.length := List.length_pos_iff.2 hdi
          have HF := (show Hid (RS = DI) from by
            obtain ⟨f, hf, _⟩ := HRF.out
            show RS = _
            rw [HRE.out, hf, rs_imp HFD.out (by rw [HDI.out]; exact hdi), HDI.out])
          clear hdi
          go_wp2_with fail
          go_ret
          rw [HF.out]
          exact ⟨_, _, rfl, HBB.out _ HX.out.1, ownLow HX.out.2 HB5.out.2.1.size⟩
        case pos =>
          have HF := (show Hid (RS = rs es ds nm (N + 1 - (k + 1)) (bhd es A 1 es.length)) from by
            obtain ⟨f, hf, hf2⟩ := HRF.out
            show RS = _
            rw [HRE.out, hf, hf2, rs_par HFD.out (by rw [HDI.out]; exact hdi)])
          obtain ⟨⟨b0, b1, b2, b3⟩, b4⟩ := HC.out _ HX.out.1
          subst hdi
          have hC84 := HBH.out wz g A 1 (HBB.out _ HX.out.1) (HRQ.out _ HX.out.1)
          have HC84 := (show Hid _ from hC84); clear hC84
          go_wp2_with fail
          refine Calls.mono HC84.out ?_
          rintro e w8 ⟨g8, rfl, hb8, hr8, hg8⟩
          have HBN := (show Hid (Below (w.heap.size + 2) ((w.alloc (.cells #[.int .i64 ((N : Nat) : Int), .slice a1 es.length p1, .slice a2 ds.length p2, .slice a3 l3 p3] 27)).alloc (.cells #[.int .i64 ((s : Nat) : Int), .string nm] 33)) w8) from HB5.out.1.trans ((bel_trans HX.out.1 hb8).mono (by have := HB5.out.1.size; simp at this; exact this)))
          have HR8 := (show Hid _ from hr8)
          have k0' := (HE0.out.keep HBN.out).1.1
          have K0 := (show Hid _ from k0')
          clear hb8 hr8 hg8 b0 b1 b2 b3 b4 k0'
          go_wp2_with fail
          exact ⟨⟨k + 1, g8, by go_num, by omega, rfl, K0.out, HBN.out, _, HR8.out, HF.out⟩, by simp [intOf]; omega⟩
end Go.Proofs.Ytledclkmeikgdaa
