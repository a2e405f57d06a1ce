import Derived.Test.YtledclkmeikgdaaGy
import Derived.Laws.EntriesVeiled
/-! The program: resolve. -/
namespace Go.Proofs.Ytledclkmeikgdaa
open Go.RowKit Go.Deep Go.Maps Go.WideMaps Go.ChangeMaps
set_option linter.unusedVariables false
set_option maxRecDepth 100000
set_option linter.unusedSimpArgs false

theorem MS.clearAll {w : World} {m : Nat} {seen : List Int} (h : MS w m seen) :
    ∃ w', (∀ ty, (Builtin.clear_ #[119] ty #[.map (some m)]).run Try.prog w = .ok (.tuple #[]) w') ∧ MS w' m [] ∧ w.grownBy w' (some m) := by
  obtain ⟨w', h1, h2, h3⟩ := h.clear 0
  refine ⟨w', fun ty => ?_, h2, h3⟩
  rw [← h1]
  rfl
theorem ownIntsB {w : World} {B : Nat} {v : Value} {l : List Int} (h : w.ownsRow B 3 1 v l.length (iv l)) : Ints w (fun b => B ≤ b) l v := by
  rcases h.2 with ⟨rfl, h0⟩ | ⟨g, cap, cur, rfl, hB, hg, hnc, hcm, hcs, htk⟩
  · exact ⟨none, 0, 0, 0, by rw [h0], by omega, by unfold maxLen; omega, fun h => by omega, fun i hi => by omega⟩
  · refine ⟨_, cap, g, 0, rfl, hnc, hcm, fun _ => ⟨rfl, hB⟩, fun i hi => ?_⟩
    have e := congrArg (·[i]?) htk
    simp only [Nat.mul_one, List.getElem?_take, if_pos hi, List.getElem?_map, List.getElem?_eq_getElem hi, Option.map_some] at e
    have e2 : cur[i]? = some (.int .i64 l[i]) := by simpa using e
    rw [Nat.zero_add, cell_of_row w g i cur 3 (0, 0) hg]
    exact e2
theorem ownIntsNe {w : World} {B m : Nat} {v : Value} {l : List Int} (h : w.ownsRow B 3 1 v l.length (iv l)) (hm : m < B) : Ints w (fun b => b ≠ m) l v := by
  obtain ⟨a, cap, b, off, hv, hc, hm2, ha, hcell⟩ := ownIntsB h
  exact ⟨a, cap, b, off, hv, hc, hm2, fun h0 => ⟨(ha h0).1, by have := (ha h0).2; omega⟩, hcell⟩
/-- How long a slice is. -/
def lnO : Value → Nat
  | .slice _ l _ => l
  | _ => 0
theorem led_rng {es : List DSEdge} {A : Int → Bool} {k : Int} {N : Nat} (he : ∀ e ∈ es, 0 ≤ e.to_ ∧ e.to_ < N) (x : Int) (h : x ∈ led es A k es.length) : 0 ≤ x ∧ x < N := by
  unfold led at h
  obtain ⟨e, h1, rfl⟩ := List.mem_map.1 h
  exact he e (List.mem_of_mem_take (List.mem_filter.1 h1).1)
/-- What resolve leaves. -/
def RvA (m : Nat) (l : List Int) (w : World) (e : Ending) (w' : World) : Prop := ∃ (a : Option Addr) (cp : Nat), e = .returned (.slice a l.length cp) ∧ KB m w w' ∧ (∃ seen, MS w' m seen) ∧ w'.ownsRow w.heap.size 3 1 (.slice a l.length cp) l.length (iv l)
set_option maxHeartbeats 12800000 in
theorem res52 (N : Nat) (es : List DSEdge) (ds : List DSpot) (v1 v2 : Value) (s : Nat) (nm : ByteArray) (p m : Nat) (seen0 : List Int) (w : World) (hes : SEdgeR w (fun b => b ≠ m) es v1) (hds : SpotR w (fun b => b ≠ m) ds v2)
    (k1 : w.cell? ⟨p, 1, none⟩ = some v1) (k2 : w.cell? ⟨p, 2, none⟩ = some v2) (k4 : w.cell? ⟨p, 4, none⟩ = some (.map (some m))) (hp : p ≠ m) (hM : MS w m seen0)
    (he : ∀ i (hi : i < es.length), (0 ≤ es[i].from_ ∧ es[i].from_ < N) ∧ 0 ≤ es[i].to_ ∧ es[i].to_ < N) (hN : N ≤ 60) (hle : es.length ≤ 120) (hld : ds.length ≤ 120) (hs : s < N) :
    Calls Try.prog 45 #[.pointer (some ⟨p, 0, none⟩), .agg #[.int .i64 ((s : Nat) : Int), .string nm]] w (RvA m (rs es ds nm (N + 1) (fun x => x == (s : Int))) w) := by
  have he2 : ∀ e ∈ es, 0 ≤ e.to_ ∧ e.to_ < N := fun e h => by
    obtain ⟨i, hi, rfl⟩ := List.mem_iff_getElem.1 h
    exact (he i hi).2
  have HE2 := (show Hid _ from he2)
  have HML := (show Hid (m < w.heap.size) from hM.lt)
  have hb1 : Below w.heap.size w (w.alloc (.cells #[.int .i64 ((s : Nat) : Int), .string nm] 33)) := bel_alloc _ _
  have H86 := (show Hid (∀ (wq : World) (P : List Int) (pv : Value) (kd : Int), KB m (w.alloc (.cells #[.int .i64 ((s : Nat) : Int), .string nm] 33)) wq → Ints wq (fun _ => True) P pv → Calls Try.prog 89 #[.pointer (some ⟨p, 0, none⟩), pv, .int .i64 kd] wq (InA (led es (hasI P) kd es.length) wq)) from fun wq P pv kd kb hP => led86 es v1 P pv kd p wq ((hes.still hb1).keep (fun b hb hlt => kb.block b hlt hb)) hP (kb.cell hp ((hb1.cell (lt_of_cell k1)).trans k1)) hle)
  have H87 := (show Hid (∀ (wq : World) (P : List Int) (pv : Value), KB m (w.alloc (.cells #[.int .i64 ((s : Nat) : Int), .string nm] 33)) wq → Ints wq (fun _ => True) P pv → Calls Try.prog 90 #[.pointer (some ⟨p, 0, none⟩), .string nm, pv] wq (InA (dcl ds nm (hasI P) ds.length) wq)) from fun wq P pv kb hP => decl87 ds v2 P pv nm p wq ((hds.still hb1).keep (fun b hb hlt => kb.block b hlt hb)) hP (kb.cell hp ((hb1.cell (lt_of_cell k2)).trans k2)) hld)
  have H85 := (show Hid (∀ (wq : World) (l : List Int) (v : Value) (seen : List Int), KB m (w.alloc (.cells #[.int .i64 ((s : Nat) : Int), .string nm] 33)) wq → Ints wq (fun b => b ≠ m) l v → MS wq m seen → (∀ x ∈ l, 0 ≤ x ∧ x < 60) → l.length ≤ 120 → seen.length ≤ 60 → Calls Try.prog 88 #[.pointer (some ⟨p, 0, none⟩), v] wq (NwA m seen l wq)) from fun wq l v seen kb hl hMS hr h1 h2 => news85 l v seen p m wq hl hMS hp (kb.cell hp ((hb1.cell (lt_of_cell k4)).trans k4)) hr h1 h2)
  have HNM := (show Hid (∀ wq, KB m (w.alloc (.cells #[.int .i64 ((s : Nat) : Int), .string nm] 33)) wq → wq.cell? ⟨w.heap.size, 1, none⟩ = some (.string nm)) from fun wq kb => kb.cell (by have := HML.out; omega) (by simp [go_sem]))
  obtain ⟨wk, hcl, hMc, hgc⟩ := (hM.bel hb1).clearAll
  have hKc : KB m (w.alloc (.cells #[.int .i64 ((s : Nat) : Int), .string nm] 33)) wk := (KB.refl _ _).grown hgc (fun k hk => .inr (by injection hk with h; exact h.symm))
  have k4' : (w.alloc (.cells #[.int .i64 ((s : Nat) : Int), .string nm] 33)).cell? ⟨p, 4, none⟩ = some (.map (some m)) := (hb1.cell (lt_of_cell k4)).trans k4
  have k5 : wk.cell? ⟨w.heap.size, 0, none⟩ = some (.int .i64 ((s : Nat) : Int)) := hKc.cell (by have := HML.out; omega) (by simp [go_sem])
  have hba := bel_alloc wk (.cells #[.int .i64 ((s : Nat) : Int)] 3)
  have hown0 : (wk.alloc (.cells #[.int .i64 ((s : Nat) : Int)] 3)).ownsRow wk.heap.size 3 1 (.slice (some ⟨wk.heap.size, 0, none⟩) ([(s : Int)] : List Int).length 1) ([(s : Int)] : List Int).length (iv [(s : Int)]) := by
    have := World.ownsRow_lit (base := wk.heap.size) (e := 3) (size := 1) wk #[.int .i64 ((s : Nat) : Int)] 1 (Nat.le_refl _) (by unfold maxLen; omega) rfl
    simpa using this
  have hC85 := H85.out (wk.alloc (.cells #[.int .i64 ((s : Nat) : Int)] 3)) [(s : Int)] _ [] (hKc.bel hba) (ownIntsNe hown0 (by have := HML.out; have := hKc.size; simp at this; omega)) (hMc.bel hba) (fun x hx => by simp at hx; subst hx; omega) (by simp) (by simp)
  have HC85 := (show Hid (Calls Try.prog 88 #[.pointer (some ⟨p, 0, none⟩), .slice (some ⟨wk.heap.size, 0, none⟩) 1 1] (wk.alloc (.cells #[.int .i64 ((s : Nat) : Int)] 3)) (NwA m [] [(s : Int)] (wk.alloc (.cells #[.int .i64 ((s : Nat) : Int)] 3)))) from hC85)
  have HKC := (show Hid (KB m (w.alloc (.cells #[.int .i64 ((s : Nat) : Int), .string nm] 33)) (wk.alloc (.cells #[.int .i64 ((s : Nat) : Int)] 3))) from hKc.bel hba)
  have hnw : nwF [] [(s : Int)] = [(s : Int)] := by simp [nwF]
  have HNW := (show Hid _ from hnw)
  have HRI := (show Hid (RI es ds nm N [(s : Int)] [(s : Int)] (fun x => x == (s : Int))) from RI.start (by omega) (by omega))
  generalize hRS : rs es ds nm (N + 1) (fun x => x == (s : Int)) = RS
  have HRS := (show Hid _ from hRS)
  clear hRS hnw hba hown0 hC85 hKc hMc hgc hM hes hds k1 k2 k4 he he2
  have HB1 := (show Hid _ from hb1); clear hb1
  go_enter Try.func45, Try.ntmps45
  go_wp2_with fail
  refine Calls.mono HC85.out ?_
  rintro e w2 ⟨ua0, cp0, rfl, hk2, hm2, ho2⟩
  rw [HNW.out] at hm2 ho2
  have HST := (show Hid (KB m (w.alloc (.cells #[.int .i64 ((s : Nat) : Int), .string nm] 33)) w2 ∧ MS w2 m [(s : Int)] ∧ w2.ownsRow (w.heap.size + 1) 3 1 (.slice ua0 1 cp0) 1 (iv [(s : Int)])) from ⟨HKC.out.trans hk2, by simpa using hm2, ownLow (by simpa using ho2) (by have := HKC.out.size; simp at this ⊢; exact this)⟩)
  clear hk2 hm2 ho2 HC85 HKC hcl k4' k5
  rw [HNW.out]
  go_wp2_with fail
  go_loopw [5] (fun u wr => ∃ (P : List Int) (ua : Option Addr) (cp : Nat), u = .slice ua P.length cp ∧ Hid (∃ (seen : List Int) (A : Int → Bool) (f : Nat), KB m (w.alloc (.cells #[.int .i64 ((s : Nat) : Int), .string nm] 33)) wr ∧ MS wr m seen ∧ wr.ownsRow (w.heap.size + 1) 3 1 (.slice ua P.length cp) P.length (iv P) ∧ RI es ds nm N P seen A ∧ RS = rs es ds nm f A ∧ (P ≠ [] → N < f + seen.length) ∧ P.length ≤ 60)) (fun u wr => 2 * (N - mpS m wr) + (if 0 < lnO u then 1 else 0))
  case atStart => exact ⟨[(s : Int)], ua0, cp0, rfl, [(s : Int)], _, N + 1, HST.out.1, HST.out.2.1, HST.out.2.2, HRI.out, HRS.out.symm, fun _ => by simp; omega, by simp⟩
  case round =>
    obtain ⟨P, ua, cp, rfl, HI⟩ := hrel
    clear HST HRI HNW HRS
    obtain ⟨seen, A, f, hkb, hms, hown, hri, hrs, hfu, hp60⟩ := HI.out
    have HMP := (show Hid (mpS m wr = seen.length) from hms.size)
    have HSL := (show Hid (seen.length ≤ N) from pig N seen hri.nd hri.rng)
    clear HI
    by_cases hnil : P = []
    case pos =>
      subst hnil
      have HF := (show Hid (RS = []) from by show RS = []; rw [hrs]; exact RI.empty HE2.out f A hri)
      have HKB := (show Hid _ from (⟨hkb, hms⟩ : _ ∧ _))
      clear hkb hms hown hri hrs hfu
      go_wp2_with fail
      go_ret
      rw [HF.out]
      exact ⟨_, _, rfl, (KB.of_below HB1.out).trans HKB.out.1, ⟨_, HKB.out.2⟩, ownNil _ _ _ _⟩
    case neg =>
      have hpos : 0 < P.length := List.length_pos_iff.2 hnil
      obtain ⟨f', rfl⟩ : ∃ f', f = f' + 1 := ⟨f - 1, by have := hfu hnil; have := HSL.out; omega⟩
      have HFU := (show Hid (N < f' + 1 + seen.length) from hfu hnil)
      have HKB := (show Hid (KB m (w.alloc (.cells #[.int .i64 ((s : Nat) : Int), .string nm] 33)) wr) from hkb)
      have HMS := (show Hid (MS wr m seen) from hms)
      have HOW := (show Hid _ from hown)
      have HRI := (show Hid (RI es ds nm N P seen A) from hri)
      have HRE := (show Hid _ from hrs)
      have HSZ := (show Hid (w.heap.size + 1 ≤ wr.heap.size) from by have := hkb.size; simp at this; exact this)
      have HIP := (show Hid (Ints wr (fun _ => True) P (.slice ua P.length cp)) from ownInts hown)
      have HC1 := (show Hid _ from H87.out wr P _ hkb (ownInts hown))
      have c1 := HNM.out wr hkb
      clear hkb hms hown hri hrs hfu hnil
      go_wp2_with fail
      refine Calls.mono HC1.out ?_
      rintro e w5 ⟨xa, xc, rfl, hb5, ho5⟩
      have HB5 := (show Hid (Below wr.heap.size wr w5) from hb5)
      have HK5 := (show Hid (KB m (w.alloc (.cells #[.int .i64 ((s : Nat) : Int), .string nm] 33)) w5) from HKB.out.bel hb5)
      have HO5 := (show Hid _ from ho5)
      clear hb5 ho5 c1 HC1
      by_cases hfd : dcl ds nm (hasI P) ds.length = []
      case neg =>
        have hpd : 0 < (dcl ds nm (hasI P) ds.length).length := List.length_pos_iff.2 hfd
        have HF := (show Hid (RS = dcl ds nm (hasI P) ds.length) from by
          show RS = _
          rw [HRE.out, rs_own (by rw [HRI.out.own]; exact hfd), HRI.out.own])
        clear hfd
        generalize dcl ds nm (hasI P) ds.length = L at *
        go_wp2_with fail
        go_ret
        rw [HF.out]
        exact ⟨_, _, rfl, (KB.of_below HB1.out).trans HK5.out, ⟨_, HMS.out.bel HB5.out⟩, ownLow HO5.out (by have := HSZ.out; omega)⟩
      case pos =>
        have HFD := (show Hid _ from hfd)
        rw [hfd]
        clear hfd HO5
        have HNQ := (show Hid (∀ wq, Below w5.heap.size w5 wq → wq.cell? ⟨w.heap.size, 1, none⟩ = some (.string nm)) from fun wq h => HNM.out wq (HK5.out.bel h))
        have H86q := (show Hid (∀ wq, Below w5.heap.size w5 wq → Calls Try.prog 89 #[.pointer (some ⟨p, 0, none⟩), .slice ua P.length cp, .int .i64 2] wq (InA (led es (hasI P) 2 es.length) wq)) from fun wq h => H86.out wq P _ 2 (HK5.out.bel h) (HIP.out.still (HB5.out.trans (h.mono HB5.out.size))))
        generalize hDI : dcl ds nm (hasI (led es (hasI P) 2 es.length)) ds.length = DI
        have HDI := (show Hid _ from hDI)
        have H87q := (show Hid (∀ (wq : World) (v : Value), Below w5.heap.size w5 wq → Ints wq (fun _ => True) (led es (hasI P) 2 es.length) v → Calls Try.prog 90 #[.pointer (some ⟨p, 0, none⟩), .string nm, v] wq (InA DI wq)) from fun wq v h hv => by rw [← hDI]; exact H87.out wq _ v (HK5.out.bel h) hv)
        clear hDI
        go_wp2_with fail
        go_cut [7] from 34 to 40 (fun v wx => ∃ (ya : Option Addr) (yc : Nat), v = .slice ya DI.length yc ∧ Hid (Below w5.heap.size w5 wx ∧ wx.ownsRow w5.heap.size 3 1 (.slice ya DI.length yc) DI.length (iv DI)))
        case first =>
          have hbd := (Below.refl w5.heap.size w5).drew
          have hS0 := HNQ.out _ hbd
          go_region_held3 (fun wq => wq.cell? ⟨w.heap.size, 1, none⟩ = some (.string nm)) (first | with_reducible exact hS0 | with_reducible exact hS1 | with_reducible exact hS2) ((first
            | (go_at_call 90; refine Calls.mono (H87q.out _ _ hF1 hv6) ?_; rintro e w7 ⟨za, zc, rfl, hb7, ho7⟩; have hF := bel_trans hF1 hb7; have hS2 := HNQ.out _ hF)
            | (go_at_call 89; refine Calls.mono (H86q.out _ hbd) ?_; rintro e w6 ⟨qa, qc, rfl, hb6, ho6⟩; have hF1 := bel_trans hbd hb6; have hv6 := ownInts ho6; have hS1 := HNQ.out _ hF1)))
          all_goals go_wp2_with fail
          all_goals go_meet
          all_goals exact ⟨_, _, rfl, hF, ownLow ho7 (Nat.le_trans hbd.size hb6.size)⟩
        case rest =>
          obtain ⟨ya, yc, rfl, HX⟩ := hcut
          obtain ⟨wz, rfl⟩ : ∃ wz, wz = wc := ⟨_, rfl⟩
          have HKZ := (show Hid (KB m (w.alloc (.cells #[.int .i64 ((s : Nat) : Int), .string nm] 33)) wz) from HK5.out.bel HX.out.1)
          have HBZ := (show Hid (Below wr.heap.size wr wz) from HB5.out.trans (HX.out.1.mono HB5.out.size))
          by_cases hdi : DI = []
          case neg =>
            have hpd : 0 < DI.length := List.length_pos_iff.2 hdi
            have HF := (show Hid (RS = DI) from by
              show RS = _
              rw [HRE.out, rs_imp (HRI.out.own.trans HFD.out) (by rw [HRI.out.imp, HDI.out]; exact hdi), HRI.out.imp, HDI.out])
            clear hdi
            go_wp2_with fail
            go_ret
            rw [HF.out]
            exact ⟨_, _, rfl, (KB.of_below HB1.out).trans HKZ.out, ⟨_, HMS.out.bel HBZ.out⟩, ownLow HX.out.2 (by have := HSZ.out; have := HB5.out.size; omega)⟩
          case pos =>
            have HF := (show Hid (RS = rs es ds nm f' (bhd es A 1 es.length)) from by
              show RS = _
              rw [HRE.out, rs_par (HRI.out.own.trans HFD.out) (by rw [HRI.out.imp, HDI.out]; exact hdi)])
            have HRN := (show Hid _ from HRI.out.next HE2.out HFD.out (HDI.out.trans hdi))
            subst hdi
            have HC6 := (show Hid (Calls Try.prog 89 #[.pointer (some ⟨p, 0, none⟩), .slice ua P.length cp, .int .i64 1] wz (InA (led es (hasI P) 1 es.length) wz)) from H86.out wz P _ 1 HKZ.out (HIP.out.still HBZ.out))
            have HLR := (show Hid (∀ x ∈ led es (hasI P) 1 es.length, 0 ≤ x ∧ x < 60) from fun x hx => by have := led_rng HE2.out x hx; omega)
            have HLL := (show Hid ((led es (hasI P) 1 es.length).length ≤ 120) from by show _ ≤ _; have := led_le es (hasI P) 1 es.length; omega)
            generalize led es (hasI P) 1 es.length = LD at *
            go_wp2_with fail
            refine Calls.mono HC6.out ?_
            rintro e w8 ⟨qa, qc, rfl, hb8, ho8⟩
            have HK8 := (show Hid (KB m (w.alloc (.cells #[.int .i64 ((s : Nat) : Int), .string nm] 33)) w8) from HKZ.out.bel hb8)
            have HC8 := (show Hid (Calls Try.prog 88 #[.pointer (some ⟨p, 0, none⟩), .slice qa LD.length qc] w8 (NwA m seen LD w8)) from H85.out w8 LD _ seen HK8.out (ownIntsNe ho8 (by have := HMS.out.lt; have := HBZ.out.size; omega)) (HMS.out.bel (HBZ.out.trans (hb8.mono HBZ.out.size))) HLR.out HLL.out (by have := HSL.out; omega))
            have HS8 := (show Hid (w.heap.size + 1 ≤ w8.heap.size) from by have := HK8.out.size; simp at this; exact this)
            clear hb8 ho8 HC6
            go_wp2_with fail
            refine Calls.mono HC8.out ?_
            rintro e w9 ⟨ra, rc, rfl, hk9, hm9, ho9⟩
            have HM9 := (show Hid (mpS m w9 = (seen ++ nwF seen LD).length) from hm9.size)
            have HPN := (show Hid ((seen ++ nwF seen LD).length ≤ N) from pig N _ HRN.out.nd HRN.out.rng)
            have HIN := (show Hid (∃ (seen' : List Int) (A' : Int → Bool) (f : Nat), KB m (w.alloc (.cells #[.int .i64 ((s : Nat) : Int), .string nm] 33)) w9 ∧ MS w9 m seen' ∧ w9.ownsRow (w.heap.size + 1) 3 1 (.slice ra (nwF seen LD).length rc) (nwF seen LD).length (iv (nwF seen LD)) ∧ RI es ds nm N (nwF seen LD) seen' A' ∧ RS = rs es ds nm f A' ∧ (nwF seen LD ≠ [] → N < f + seen'.length) ∧ (nwF seen LD).length ≤ 60) from ⟨seen ++ nwF seen LD, _, f', HK8.out.trans hk9, hm9, ownLow ho9 HS8.out, HRN.out, HF.out, fun h => by
              have h1 := HFU.out
              have h2 := List.length_pos_iff.2 h
              rw [List.length_append]
              omega, by have h3 := HPN.out; rw [List.length_append] at h3; omega⟩)
            clear hk9 hm9 ho9 HC8
            have HME := (show Hid (2 * (N - mpS m w9) + (if 0 < (nwF seen LD).length then 1 else 0) < 2 * (N - mpS m wr) + 1) from by
              show _ < _
              have h1 := HM9.out
              have h2 := HPN.out
              have h3 := HMP.out
              rw [List.length_append] at h1 h2
              split <;> omega)
            go_wp2_with fail
            refine ⟨⟨nwF seen LD, ra, rc, rfl, HIN⟩, ?_⟩
            have h5 : 0 < lnO (.slice ua P.length cp) := hpos
            have h6 := HME.out
            rw [if_pos h5]
            exact h6
end Go.Proofs.Ytledclkmeikgdaa
