import Derived.Test.YtckpoggljpdeoaaPv
import Derived.Test.YtckpoggljpdeoaaLs
/-! The specification: l09Count. -/
namespace Go.Proofs.Ytckpoggljpdeoaa
open Go.RowKit Go.Deep
set_option linter.unusedVariables false
set_option maxRecDepth 100000
set_option linter.unusedSimpArgs false

/-- 1 for those that were known. -/
def kf (m q : Nat) : Nat := if q < m then 1 else 0
theorem sum_le {f g : Nat → Nat} : ∀ l : List Nat, (∀ x ∈ l, f x ≤ g x) → (l.map f).sum ≤ (l.map g).sum
  | [], _ => Nat.le_refl _
  | a :: r, h => by
    have h1 := sum_le r (fun x hx => h x (by simp [hx]))
    have h2 := h a (by simp)
    simp only [List.map_cons, List.sum_cons]
    omega
theorem vv_le {f g : Nat → Nat} (hfg : ∀ q, f q ≤ g q) {ns : List Nd} (hg : gdN ns) : ∀ q, q < ns.length → vv f ns q ≤ vv g ns q := by
  intro q
  induction q using Nat.strongRecOn with
  | ind q ih =>
    intro hq
    rw [vv_eq f hg hq, vv_eq g hg hq]
    have h1 := hfg q
    have h2 := sum_le (f := vv f ns) (g := vv g ns) (nd ns q).ks (fun c hc => by
      have h3 := hg q (nd ns q) (by rw [nd_eq hq]; exact List.getElem?_eq_getElem hq) c hc
      exact ih c h3 (by omega))
    omega
theorem kf_le (m q : Nat) : kf m q ≤ 1 := by unfold kf; split <;> omega
theorem isT_lt {t : Tr} {ns : List Nd} {q : Nat} (h : isT t ns q) : q < ns.length := by
  obtain ⟨n, x, l, k⟩ := t
  rw [isT_mk] at h
  obtain ⟨qs, h1, _⟩ := h
  exact (List.getElem?_eq_some_iff.1 h1).1
theorem vv_small {t : Tr} {ns : List Nd} {q m : Nat} (hg : gdN ns) (h : isT t ns q) : vv (kf m) ns q ≤ t.cnt := by
  rw [← vv_cnt t hg h]
  exact vv_le (kf_le m) hg q (isT_lt h)
set_option maxHeartbeats 6400000 in
theorem count56 {S K : Nat → Prop} {B : Nat} (hS : ∀ q, S q → q < B) (ns : List Nd) (hnod : ns.Nodup) (hgd : gdN ns) (m : Nat) (hm : m ≤ 1000000) (hnl : ns.length ≤ 500000) (u r : Value) (hr : r.oneCell' = true) (hr2 : ∃ a b c, r = .slice a b c) : ∀ (t : Tr) (v : Value) (q : Nat) (w : World), Lies w S t v → DN B w u ns K → B ≤ w.heap.size → t.cnt ≤ 500000 → isT t ns q →
    Calls Try.prog 56 #[.agg #[u, r], .int .i64 (m : Nat), t.val v] w fun e w' => e = .returned (.int .i64 (vv (kf m) ns q : Nat)) ∧ Below w.heap.size w w' := by
  refine Tr.ind (P := fun t => ∀ (v : Value) (q : Nat) (w : World), Lies w S t v → DN B w u ns K → B ≤ w.heap.size → t.cnt ≤ 500000 → isT t ns q → Calls Try.prog 56 #[.agg #[u, r], .int .i64 (m : Nat), t.val v] w fun e w' => e = .returned (.int .i64 (vv (kf m) ns q : Nat)) ∧ Below w.heap.size w w') ?_
  intro n x l k ih v q w hl hd hB hlen hT
  obtain ⟨ra, rl, rp, rfl⟩ := hr2
  have IH := (show Hid _ from ih); clear ih
  have hst := isT_stay _ hnod hT
  have hq1 := isT_lt hT
  have hT' := hT
  rw [isT_mk] at hT'
  obtain ⟨qs, t1, t2, t3⟩ := hT'
  have hval : vv (kf m) ns q = kf m q + (qs.map (vv (kf m) ns)).sum := by
    rw [vv_eq _ hgd hq1]
    unfold nd
    rw [t1]
    rfl
  rw [Tr.cnt_mk] at hlen
  have hsb : ∀ j, j ≤ k.length → ((qs.take j).map (vv (kf m) ns)).sum ≤ Tr.cntL (k.take j) := by
    intro j
    induction j with
    | zero => intro _; simp
    | succ j ihj =>
      intro hj
      have h1 := ihj (by omega)
      have h2 := Tr.cntL_take_succ k j (by omega)
      rw [List.take_succ_eq_append_getElem (by omega), List.map_append, List.sum_append, h2]
      have h3 := vv_small (m := m) hgd (t3 j (by omega) (by omega))
      simp only [List.map_cons, List.map_nil, List.sum_cons, List.sum_nil, Nat.add_zero]
      omega
  have HSB := (show Hid _ from hsb); clear hsb
  have HST := (show Hid _ from (⟨hst, hval, t2, t3⟩ : _ ∧ _ ∧ _ ∧ _)); clear hst hval t2 t3 t1 hT
  have HPU := (show Hid (∀ wq, Below w.heap.size w wq → Calls Try.prog 57 #[u, Tr.val ⟨n, x, l, k⟩ v] wq fun e w' => e = .returned (.tuple #[u, .int .i64 (q : Nat)]) ∧ Below wq.heap.size wq w') from fun wq hb => by
    refine Calls.mono (put57 hS ⟨n, x, l, k⟩ v u ns K wq (hl.still hb) (hd.still hb) (Nat.le_trans hB hb.size) (by rw [Tr.cnt_mk]; omega)) ?_
    rintro e w' ⟨u', K', e1, e2, e3, e4, e5⟩
    rw [HST.out.1] at e1 e5
    obtain ⟨rfl, e6⟩ := e5 rfl
    exact ⟨e1, e6⟩)
  obtain ⟨a, cap, b, off, sv, rfl, hn, hx, hc, hm2, ha, hcell, hk⟩ := hl.out
  dsimp only at hn hx hc hm2 ha hcell hk
  have HA := (show Hid _ from ha); clear ha
  have HC := (show Hid _ from hcell); clear hcell
  have HK := (show Hid _ from hk); clear hk hl
  unfold maxLen at hm2
  have hkl : k.length ≤ 500000 := by have := len_le_cntL k; omega
  obtain ⟨ua, up, hu, _⟩ := hd.form
  subst hu
  have HD := (show Hid (DN B w (.slice ua ns.length up) ns K) from hd); clear hd
  have HB := (show Hid _ from hB); clear hB
  have HS := (show Hid _ from hS)
  have B1 := (Box.new w 35 [.slice ua ns.length up, .slice ra rl rp]).still (bel_alloc _ (.cells #[.string n, .string x, .bool l, .slice a k.length cap] 59))
  have B2 : Box ((w.alloc (.cells #[.slice ua ns.length up, .slice ra rl rp] 35)).alloc (.cells #[.string n, .string x, .bool l, .slice a k.length cap] 59)) (w.heap.size + 1) 59 [.string n, .string x, .bool l, .slice a k.length cap] := by
    have := Box.new (w.alloc (.cells #[.slice ua ns.length up, .slice ra rl rp] 35)) 59 [.string n, .string x, .bool l, .slice a k.length cap]
    simpa using this
  have hbb : Below w.heap.size w ((w.alloc (.cells #[.slice ua ns.length up, .slice ra rl rp] 35)).alloc (.cells #[.string n, .string x, .bool l, .slice a k.length cap] 59)) := (bel_alloc _ _).alloc (by simp) _
  have HC1 : Hid (Calls Try.prog 57 #[.slice ua ns.length up, .agg #[.string n, .string x, .bool l, .slice a k.length cap]] ((w.alloc (.cells #[.slice ua ns.length up, .slice ra rl rp] 35)).alloc (.cells #[.string n, .string x, .bool l, .slice a k.length cap] 59)) fun e w' => e = .returned (.tuple #[.slice ua ns.length up, .int .i64 (q : Nat)]) ∧ Below ((w.alloc (.cells #[.slice ua ns.length up, .slice ra rl rp] 35)).alloc (.cells #[.string n, .string x, .bool l, .slice a k.length cap] 59)).heap.size ((w.alloc (.cells #[.slice ua ns.length up, .slice ra rl rp] 35)).alloc (.cells #[.string n, .string x, .bool l, .slice a k.length cap] 59)) w') := HPU.out _ hbb
  have HX := (show Hid _ from (⟨B1, B2, hbb⟩ : _ ∧ _ ∧ _)); clear B1 B2 hbb HPU
  go_enter Try.func56, Try.ntmps56
  go_wp2_with fail
  refine Calls.mono HC1.out ?_
  rintro e w1 ⟨rfl, hb1⟩
  have HX1 := (show Hid (Box w1 w.heap.size 35 [.slice ua ns.length up, .slice ra rl rp] ∧ Box w1 (w.heap.size + 1) 59 [.string n, .string x, .bool l, .slice a k.length cap] ∧ Below w.heap.size w w1) from ⟨HX.out.1.still hb1, HX.out.2.1.still hb1, bel_trans HX.out.2.2 hb1⟩)
  clear hb1 HX HC1
  by_cases hqm : q < m
  · have hdq : decide ((q : Int) < (m : Int)) = true := by simp; omega
    have HF := (show Hid (kf m q = 1) from (by show kf m q = _; unfold kf; simp [hqm]))
    have hdn : decide (q < m) = true := by simp; omega
    go_wp2_with fail
    go_loopw [9, 10] (fun c i wr => ∃ j : Nat, i = .int .i64 j ∧ j ≤ k.length ∧ c = .int .i64 (1 + ((qs.take j).map (vv (kf m) ns)).sum : Nat) ∧ Hid (Below w1.heap.size w1 wr)) (fun _ i _ => k.length - (intOf i).toNat)
    case atStart => exact ⟨0, rfl, Nat.zero_le _, by simp, Below.refl _ _⟩
    case round =>
      obtain ⟨j, rfl, hj, rfl, HJ⟩ := hrel
      have x1 := HX1.out.1.still HJ.out
      have x2 := HX1.out.2.1.still HJ.out
      have T3 : wr.cell? ⟨w.heap.size + 1, 3, none⟩ = some (.slice a k.length cap) := x2.cell 3 (by simp)
      have hsj := HSB.out j hj
      have hst := Tr.cntL_take_le k j
      by_cases hlt : j < k.length
      · obtain ⟨rfl, hSb⟩ := HA.out (by omega)
        obtain ⟨c0, c1, c2, c3⟩ := HC.out j hlt
        have hl := HK.out j hlt
        have hjq : j < qs.length := by have := HST.out.2.2.1; omega
        have hjT := HST.out.2.2.2 j hlt hjq
        have hjv := vv_small (m := m) hgd hjT
        have hck := Tr.cntL_take_succ k j hlt
        have hck2 := Tr.cntL_take_le k (j + 1)
        have HIH : Hid (∀ wq, Below wr.heap.size wr wq → Calls Try.prog 56 #[.agg #[.slice ua ns.length up, .slice ra rl rp], .int .i64 (m : Nat), k[j].val (sv j)] wq fun e w' => e = .returned (.int .i64 (vv (kf m) ns qs[j] : Nat)) ∧ Below wq.heap.size wq w') := fun wq hb => by
          have h1 := bel_trans HX1.out.2.2 (bel_trans HJ.out hb)
          exact IH.out j hlt (sv j) qs[j] wq (hl.still h1) (DN.still HD.out h1) (Nat.le_trans HB.out h1.size) (by omega) hjT
        have HC8 := (show Hid (∀ wq, Below wr.heap.size wr wq → (wq.cell? ⟨w.heap.size, 0, none⟩ = some (.slice ua ns.length up) ∧ wq.cell? ⟨w.heap.size, 1, none⟩ = some (.slice ra rl rp) ∧ wq.cell? ⟨w.heap.size + 1, 3, none⟩ = some (.slice (some ⟨b, off, none⟩) k.length cap)) ∧ wq.cell? ⟨b, off + j * 4, none⟩ = some (.string k[j].name) ∧ wq.cell? ⟨b, off + j * 4 + 1, none⟩ = some (.string k[j].text) ∧ wq.cell? ⟨b, off + j * 4 + 2, none⟩ = some (.bool k[j].leaf) ∧ wq.cell? ⟨b, off + j * 4 + 3, none⟩ = some (sv j)) from fun wq hb => by
          have h1 := bel_trans HX1.out.2.2 (bel_trans HJ.out hb)
          have y1 := x1.still hb
          have y2 := x2.still hb
          exact ⟨⟨y1.cell 0 (by simp), y1.cell 1 (by simp), y2.cell 3 (by simp)⟩, (h1.cell (lt_of_cell c0)).trans c0, (h1.cell (lt_of_cell c1)).trans c1, (h1.cell (lt_of_cell c2)).trans c2, (h1.cell (lt_of_cell c3)).trans c3⟩)
        have HNX := (show Hid (((qs.take (j + 1)).map (vv (kf m) ns)).sum = ((qs.take j).map (vv (kf m) ns)).sum + vv (kf m) ns qs[j]) from (by
          show _ = _
          rw [List.take_succ_eq_append_getElem hjq, List.map_append, List.sum_append]
          simp))
        have hs2 : ((qs.take j).map (vv (kf m) ns)).sum ≤ 500000 := by omega
        have hv2 : vv (kf m) ns qs[j] ≤ 500000 := by omega
        obtain ⟨a3, l3, p3, e3⟩ := hl.form
        rw [e3] at HIH HC8
        simp only [Tr.val] at HIH
        clear e3 hl c0 c1 c2 c3 hjT hjv hck hck2 x1 x2
        generalize k[j].name = knm at *
        generalize k[j].text = ktx at *
        generalize k[j].leaf = klf at *
        generalize ((qs.take j).map (vv (kf m) ns)).sum = sm at *
        generalize vv (kf m) ns qs[j] = vj at *
        have q1 : (0 : Int) ≤ (j : Int) := by omega
        have q2 : (j : Int) < (k.length : Int) := by omega
        have hw : IntKind.i64.wrap (((1 + sm : Nat) : Int) + (vj : Int)) = ((1 + sm + vj : Nat) : Int) := by rw [IntKind.wrap_i64]; omega
        go_wp2_with fail
        have hbd := (Below.refl wr.heap.size wr).drew
        have hS0 := HC8.out _ hbd
        have HI2 := (show Hid (Calls Try.prog 56 #[.agg #[.slice ua ns.length up, .slice ra rl rp], .int .i64 (m : Nat), .agg #[.string knm, .string ktx, .bool klf, .slice a3 l3 p3]] wr.drew fun e w' => e = .returned (.int .i64 (vj : Nat)) ∧ Below wr.drew.heap.size wr.drew w') from HIH.out _ hbd)
        go_region_held3 (fun wq => (wq.cell? ⟨w.heap.size, 0, none⟩ = some (.slice ua ns.length up) ∧ wq.cell? ⟨w.heap.size, 1, none⟩ = some (.slice ra rl rp) ∧ wq.cell? ⟨w.heap.size + 1, 3, none⟩ = some (.slice (some ⟨b, off, none⟩) k.length cap)) ∧ wq.cell? ⟨b, off + j * 4, none⟩ = some (.string knm) ∧ wq.cell? ⟨b, off + j * 4 + 1, none⟩ = some (.string ktx) ∧ wq.cell? ⟨b, off + j * 4 + 2, none⟩ = some (.bool klf) ∧ wq.cell? ⟨b, off + j * 4 + 3, none⟩ = some (.slice a3 l3 p3)) (first | with_reducible exact hS0 | with_reducible exact hS1) ((go_at_call 56; refine Calls.mono HI2.out ?_; rintro e w3 ⟨rfl, hb3⟩; have hB3 := bel_trans hbd hb3; have hS1 := HC8.out _ hB3))
        all_goals
          have HN2 := (show Hid _ from bel_trans HJ.out hB3)
          clear hB3 hS1 hb3 hS0 HC8 HIH HI2 HJ T3
          go_wp2_with fail
          exact ⟨⟨j + 1, by go_num, by omega, by rw [HNX.out]; exact val_int (by first | omega | (rw [IntKind.wrap_i64]; omega)), HN2⟩, by simp [intOf]; omega⟩
      · obtain rfl : j = k.length := by omega
        have HE := (show Hid (vv (kf m) ns q = 1 + ((qs.take k.length).map (vv (kf m) ns)).sum ∧ Below w.heap.size w wr) from ⟨by
          rw [HST.out.2.1, HF.out, ← HST.out.2.2.1, List.take_length], bel_trans HX1.out.2.2 HJ.out⟩)
        clear x1 x2 HJ
        go_wp2_with fail
        go_ret
        exact ⟨by rw [HE.out.1]; rfl, HE.out.2⟩
  · have hdq : decide ((q : Int) < (m : Int)) = false := by simp; omega
    have HF := (show Hid (kf m q = 0) from (by show kf m q = _; unfold kf; simp [hqm]))
    have hdn : decide (q < m) = false := by simp; omega
    go_wp2_with fail
    go_loopw [9, 10] (fun c i wr => ∃ j : Nat, i = .int .i64 j ∧ j ≤ k.length ∧ c = .int .i64 (0 + ((qs.take j).map (vv (kf m) ns)).sum : Nat) ∧ Hid (Below w1.heap.size w1 wr)) (fun _ i _ => k.length - (intOf i).toNat)
    case atStart => exact ⟨0, rfl, Nat.zero_le _, by simp, Below.refl _ _⟩
    case round =>
      obtain ⟨j, rfl, hj, rfl, HJ⟩ := hrel
      have x1 := HX1.out.1.still HJ.out
      have x2 := HX1.out.2.1.still HJ.out
      have T3 : wr.cell? ⟨w.heap.size + 1, 3, none⟩ = some (.slice a k.length cap) := x2.cell 3 (by simp)
      have hsj := HSB.out j hj
      have hst := Tr.cntL_take_le k j
      by_cases hlt : j < k.length
      · obtain ⟨rfl, hSb⟩ := HA.out (by omega)
        obtain ⟨c0, c1, c2, c3⟩ := HC.out j hlt
        have hl := HK.out j hlt
        have hjq : j < qs.length := by have := HST.out.2.2.1; omega
        have hjT := HST.out.2.2.2 j hlt hjq
        have hjv := vv_small (m := m) hgd hjT
        have hck := Tr.cntL_take_succ k j hlt
        have hck2 := Tr.cntL_take_le k (j + 1)
        have HIH : Hid (∀ wq, Below wr.heap.size wr wq → Calls Try.prog 56 #[.agg #[.slice ua ns.length up, .slice ra rl rp], .int .i64 (m : Nat), k[j].val (sv j)] wq fun e w' => e = .returned (.int .i64 (vv (kf m) ns qs[j] : Nat)) ∧ Below wq.heap.size wq w') := fun wq hb => by
          have h1 := bel_trans HX1.out.2.2 (bel_trans HJ.out hb)
          exact IH.out j hlt (sv j) qs[j] wq (hl.still h1) (DN.still HD.out h1) (Nat.le_trans HB.out h1.size) (by omega) hjT
        have HC8 := (show Hid (∀ wq, Below wr.heap.size wr wq → (wq.cell? ⟨w.heap.size, 0, none⟩ = some (.slice ua ns.length up) ∧ wq.cell? ⟨w.heap.size, 1, none⟩ = some (.slice ra rl rp) ∧ wq.cell? ⟨w.heap.size + 1, 3, none⟩ = some (.slice (some ⟨b, off, none⟩) k.length cap)) ∧ wq.cell? ⟨b, off + j * 4, none⟩ = some (.string k[j].name) ∧ wq.cell? ⟨b, off + j * 4 + 1, none⟩ = some (.string k[j].text) ∧ wq.cell? ⟨b, off + j * 4 + 2, none⟩ = some (.bool k[j].leaf) ∧ wq.cell? ⟨b, off + j * 4 + 3, none⟩ = some (sv j)) from fun wq hb => by
          have h1 := bel_trans HX1.out.2.2 (bel_trans HJ.out hb)
          have y1 := x1.still hb
          have y2 := x2.still hb
          exact ⟨⟨y1.cell 0 (by simp), y1.cell 1 (by simp), y2.cell 3 (by simp)⟩, (h1.cell (lt_of_cell c0)).trans c0, (h1.cell (lt_of_cell c1)).trans c1, (h1.cell (lt_of_cell c2)).trans c2, (h1.cell (lt_of_cell c3)).trans c3⟩)
        have HNX := (show Hid (((qs.take (j + 1)).map (vv (kf m) ns)).sum = ((qs.take j).map (vv (kf m) ns)).sum + vv (kf m) ns qs[j]) from (by
          show _ = _
          rw [List.take_succ_eq_append_getElem hjq, List.map_append, List.sum_append]
          simp))
        have hs2 : ((qs.take j).map (vv (kf m) ns)).sum ≤ 500000 := by omega
        have hv2 : vv (kf m) ns qs[j] ≤ 500000 := by omega
        obtain ⟨a3, l3, p3, e3⟩ := hl.form
        rw [e3] at HIH HC8
        simp only [Tr.val] at HIH
        clear e3 hl c0 c1 c2 c3 hjT hjv hck hck2 x1 x2
        generalize k[j].name = knm at *
        generalize k[j].text = ktx at *
        generalize k[j].leaf = klf at *
        generalize ((qs.take j).map (vv (kf m) ns)).sum = sm at *
        generalize vv (kf m) ns qs[j] = vj at *
        have q1 : (0 : Int) ≤ (j : Int) := by omega
        have q2 : (j : Int) < (k.length : Int) := by omega
        have hw : IntKind.i64.wrap (((0 + sm : Nat) : Int) + (vj : Int)) = ((0 + sm + vj : Nat) : Int) := by rw [IntKind.wrap_i64]; omega
        go_wp2_with fail
        have hbd := (Below.refl wr.heap.size wr).drew
        have hS0 := HC8.out _ hbd
        have HI2 := (show Hid (Calls Try.prog 56 #[.agg #[.slice ua ns.length up, .slice ra rl rp], .int .i64 (m : Nat), .agg #[.string knm, .string ktx, .bool klf, .slice a3 l3 p3]] wr.drew fun e w' => e = .returned (.int .i64 (vj : Nat)) ∧ Below wr.drew.heap.size wr.drew w') from HIH.out _ hbd)
        go_region_held3 (fun wq => (wq.cell? ⟨w.heap.size, 0, none⟩ = some (.slice ua ns.length up) ∧ wq.cell? ⟨w.heap.size, 1, none⟩ = some (.slice ra rl rp) ∧ wq.cell? ⟨w.heap.size + 1, 3, none⟩ = some (.slice (some ⟨b, off, none⟩) k.length cap)) ∧ wq.cell? ⟨b, off + j * 4, none⟩ = some (.string knm) ∧ wq.cell? ⟨b, off + j * 4 + 1, none⟩ = some (.string ktx) ∧ wq.cell? ⟨b, off + j * 4 + 2, none⟩ = some (.bool klf) ∧ wq.cell? ⟨b, off + j * 4 + 3, none⟩ = some (.slice a3 l3 p3)) (first | with_reducible exact hS0 | with_reducible exact hS1) ((go_at_call 56; refine Calls.mono HI2.out ?_; rintro e w3 ⟨rfl, hb3⟩; have hB3 := bel_trans hbd hb3; have hS1 := HC8.out _ hB3))
        all_goals
          have HN2 := (show Hid _ from bel_trans HJ.out hB3)
          clear hB3 hS1 hb3 hS0 HC8 HIH HI2 HJ T3
          go_wp2_with fail
          exact ⟨⟨j + 1, by go_num, by omega, by rw [HNX.out]; exact val_int (by first | omega | (rw [IntKind.wrap_i64]; omega)), HN2⟩, by simp [intOf]; omega⟩
      · obtain rfl : j = k.length := by omega
        have HE := (show Hid (vv (kf m) ns q = 0 + ((qs.take k.length).map (vv (kf m) ns)).sum ∧ Below w.heap.size w wr) from ⟨by
          rw [HST.out.2.1, HF.out, ← HST.out.2.2.1, List.take_length], bel_trans HX1.out.2.2 HJ.out⟩)
        clear x1 x2 HJ
        go_wp2_with fail
        go_ret
        exact ⟨by rw [HE.out.1]; rfl, HE.out.2⟩
end Go.Proofs.Ytckpoggljpdeoaa
