import Derived.Test.YtpmlagenakcdfaaZf
import Derived.Test.YtpmlagenakcdfaaYc
/-! The specification: what a derivation gives. -/
namespace Go.Proofs.Ytpmlagenakcdfaa
open Go.RowKit Go.Deep
set_option linter.unusedVariables false
set_option maxRecDepth 100000
set_option linter.unusedSimpArgs false

theorem SGs.low {w : World} {B B' : Nat} {k : List T.Tr} {g c : Nat} {fs : Nat → Value} {K : Nat → Prop} (h : SGs w B k g c fs K) (hB : B' ≤ B) : SGs w B' k g c fs K := by
  refine ⟨⟨h.own.1, ?_⟩, h.lies, fun q hq => ⟨Nat.le_trans hB (h.kk q hq).1, (h.kk q hq).2⟩⟩
  rcases h.own.2 with e | ⟨g, cap, cur, e, hB1, rest⟩
  · exact .inl e
  · exact .inr ⟨g, cap, cur, e, Nat.le_trans hB hB1, rest⟩
/-- One node in a row of its own. -/
theorem SGs.single {w : World} {B : Nat} {k : List T.Tr} {g c : Nat} {fs : Nat → Value} {K : Nat → Prop} (h : SGs w B k g c fs K) (n : ByteArray) (hn : n.size ≤ maxLen) (hB : B ≤ w.heap.size) : SG (w.alloc (.cells #[.string n, .string ⟨#[]⟩, .bool false, .slice (some ⟨g, 0, none⟩) k.length c] 48)) B [⟨n, ByteArray.empty, false, k⟩] (.slice (some ⟨w.heap.size, 0, none⟩) 1 1) := by
  have hl := h.lt
  refine ⟨fun _ => .slice (some ⟨g, 0, none⟩) k.length c, fun q => K q ∨ q = g, w.heap.size, 1, rfl, ⟨rfl, .inr ⟨w.heap.size, 1, #[.string n, .string ⟨#[]⟩, .bool false, .slice (some ⟨g, 0, none⟩) k.length c], rfl, hB, blk_alloc_new _ _, Nat.le_refl _, by decide, rfl, rfl⟩⟩, fun i hi => ?_, fun q hq => ?_⟩
  · have e : T.nth [⟨n, ByteArray.empty, false, k⟩] i = ⟨n, ByteArray.empty, false, k⟩ := by
      have : i = 0 := by simpa using hi
      subst this
      rfl
    rw [e]
    exact (h.node n ByteArray.empty false hn (by show (0 : Nat) ≤ _; exact Nat.zero_le _)).still (bel_alloc _ _)
  · rcases hq with hq | hq
    · have := h.kk q hq
      exact ⟨this.1, by simp; omega, by omega⟩
    · subst hq
      exact ⟨hl.1, by simp; omega, by omega⟩
/-- The cells of a Prod in memory, and where those of its Right lie. -/
theorem prod_cellsZ {w : World} {S : Nat → Prop} {d : Bn} {v0 v1 v3 : Value} (h : BLies w S d v0 v1 v3) : ∃ (a3 : Option Addr) (c3 bp op : Nat), v3 = .slice a3 d.prods.length c3 ∧ d.prods.length ≤ c3 ∧ ∀ k (hk : k < d.prods.length), a3 = some ⟨bp, op, none⟩ ∧ ∃ (ai : Option Addr) (ci bi oi : Nat), w.cell? ⟨bp, op + k * 5, none⟩ = some (.int .i64 d.prods[k].left) ∧ w.cell? ⟨bp, op + k * 5 + 1, none⟩ = some (.slice ai d.prods[k].right.length ci) ∧ w.cell? ⟨bp, op + k * 5 + 2, none⟩ = some (.string d.prods[k].label) ∧ w.cell? ⟨bp, op + k * 5 + 3, none⟩ = some (.int .i64 d.prods[k].lev) ∧ w.cell? ⟨bp, op + k * 5 + 4, none⟩ = some (.int .i64 d.prods[k].asc) ∧ d.prods[k].right.length ≤ ci ∧ ∀ i (hi : i < d.prods[k].right.length), ai = some ⟨bi, oi, none⟩ ∧ S bi ∧ w.cell? ⟨bi, oi + i, none⟩ = some (.int .i64 d.prods[k].right[i]) := by
  obtain ⟨a3, c3, bp, op, sv, e3, hcp, hmp, hap, hcellp, hrp⟩ := h.prods
  refine ⟨a3, c3, bp, op, e3, hcp, fun k hk => ⟨(hap (by omega)).1, ?_⟩⟩
  obtain ⟨q0, q1, q2, q3, q4, _⟩ := hcellp k hk
  obtain ⟨ai, ci, bi, oi, ei, hci, hmi, hai, hcelli⟩ := hrp k hk
  rw [ei] at q1
  exact ⟨ai, ci, bi, oi, q0, q1, q2, q3, q4, hci, fun i hi => ⟨(hai (by omega)).1, (hai (by omega)).2, hcelli i hi⟩⟩
/-- A node of which the row of Kids is one that may grow. -/
def SN (w : World) (B : Nat) (n : ByteArray) (k : List T.Tr) (u : Value) : Prop :=
  ∃ (g c gn : Nat) (fs : Nat → Value) (K : Nat → Prop), u = .slice (some ⟨gn, 0, none⟩) 1 1 ∧ SGs w B k g c fs K ∧ Box w gn 48 [.string n, .string ⟨#[]⟩, .bool false, .slice (some ⟨g, 0, none⟩) k.length c] ∧ g < gn ∧ gn < w.heap.size
/-- What give leaves. -/
def GvA (d : Bn) (L : List Int) (S S' : Nat → Prop) (R : Nat) (v0 v1 v3 vw : Value) (W : List Wd) (f a t : Nat) (w : World) (e : Ending) (w' : World) : Prop :=
  ∃ (u' : Value) (t' : Nat), e = .returned u' ∧ Kp w.heap.size R w w' ∧ TgI d S S' R v0 v1 v3 vw W w' t' ∧ W.drop t' = (gv d L f a (W.drop t)).2 ∧ SG w' w.heap.size (gv d L f a (W.drop t)).1 u' ∧ ((pa d L a).left - d.terms.length < d.own → SN w' w.heap.size (ndN d (pa d L a)) (tp d L (f - 1) a (pa d L a).right.length (W.drop t)).1 u')
set_option maxHeartbeats 51200000 in
theorem give_s {S S' K : Nat → Prop} {R : Nat} {v0 v1 v3 vw : Value} {d : Bn} {L : List Int} {W : List Wd} (hok : bnB d = true) (hW : W.length ≤ 1000) (hK : ∀ q, K q → q < R) : ∀ (f a b : Nat) (s : Int) (v : Value) (w : World) (t : Nat), TgI d S S' R v0 v1 v3 vw W w t → SP d L w K f a v → rd d L f s a = some b → b - a ≤ 4000 → (wd d L f a).length ≤ nsk (W.drop t) →
    Calls Try.prog 49 #[.pointer (some ⟨R, 0, none⟩), .agg #[.int .i64 (numAt L a), v]] w fun e w' => GvA d L S S' R v0 v1 v3 vw W f a t w e w' := by
  intro f
  induction f with
  | zero => intro a b s v w t h hp hr; cases hr
  | succ f ih =>
    intro a b s v w t h hp hr hlen hnsk
    have IH := (show Hid _ from ih)
    clear ih
    have hRw := h.box.lt
    obtain ⟨ho, hend⟩ := rd_succ hr
    obtain ⟨k, hk, hnum, hpa, hleft, hal⟩ := okAt_prod ho
    obtain ⟨kb, kc, ka, sv, ats, rfl, hkc, hka, hkid⟩ := hp
    obtain ⟨hT, jk1, jk2, jk3, jk4, hPn⟩ := szB_of hok
    have HTG0 := (show Hid _ from h)
    obtain ⟨a0, c0, a1, c1, a3', c3', rfl, rfl, jk0⟩ := h.lies.form
    clear jk0 a3' c3'
    have hnons := h.lies.nons
    obtain ⟨a3, c3, bp, op, rfl, hcp, hpr⟩ := prod_cellsZ h.lies
    obtain ⟨rfl, ai, ci, bi, oi, q0, q1, q2, q3, q4, hci, hri⟩ := hpr k hk
    obtain ⟨hg1, hg2, hl12, hrr, hl0, hl8⟩ := pd_of hok hk
    have hpl := pd_left hok hk
    have hps := lab_size h.lies hk
    rw [← hpa] at q0 q1 q2 q3 q4 hl12 hci hg1 hg2 hpl hps
    have HRI := (show Hid (∀ i (hi : i < (pa d L a).right.length), ai = some ⟨bi, oi, none⟩ ∧ S bi ∧ w.cell? ⟨bi, oi + i, none⟩ = some (.int .i64 (pa d L a).right[i]) ∧ 0 ≤ (pa d L a).right[i] ∧ (pa d L a).right[i] ≤ 160) from fun i hi => by
      simp only [hpa] at hi ⊢
      exact ⟨(hri i hi).1, (hri i hi).2.1, (hri i hi).2.2, (hrr i hi).1, (hrr i hi).2⟩)
    have HKA := (show Hid _ from fun (i x : Nat) (hi : i < (pa d L a).right.length) (hx : atP d L f a i = some x) => kid_at hend hi hx)
    have HKD := (show Hid _ from hkid)
    have HKB := (show Hid _ from hka)
    have HA0 := (show Hid (atP d L f a 0 = some (a + 1)) from atP_zero d L f a)
    have HTS0 := (show Hid _ from fun (i x : Nat) (hi : i < (pa d L a).right.length) (hx : atP d L f a i = some x) => tp_succ (ws := W.drop t) hi hx)
    have HNS := (show Hid (∀ (i x x2 : Nat) (hi : i < (pa d L a).right.length), atP d L f a i = some x → atP d L f a (i + 1) = some x2 → x2 ≤ b ∧ a + 1 ≤ x ∧ (if (pa d L a).right[i] < (d.terms.length : Int) then 1 else (wd d L f x).length) ≤ nsk (tp d L f a i (W.drop t)).2 ∧ (tp d L f a i (W.drop t)).1.length ≤ 1000 + 4000) from fun i x x2 hi hx hx2 => by
      have h1 := wp_succ hi hx
      have h2 := wp_le hx2
      have h3 := (tp_nsk (ws := W.drop t) hx).1
      have h4 := tp_len (ws := W.drop t) hx
      have h5 := atP_le hx2 hend
      have h6 := atP_le hx hend
      have h7 : (W.drop t).length ≤ 1000 := by simp; omega
      rw [h1, List.length_append] at h2
      refine ⟨h5, h4.1, ?_, by omega⟩
      by_cases hy : (pa d L a).right[i] < (d.terms.length : Int)
      · rw [if_pos hy] at h2 ⊢
        simp only [List.length_cons, List.length_nil] at h2
        omega
      · rw [if_neg hy] at h2 ⊢
        omega)
    have HKD2 := (show Hid (gv d L (f + 1) a (W.drop t) = if (pa d L a).left - d.terms.length < d.own then ([⟨ndN d (pa d L a), ByteArray.empty, false, (tp d L f a (pa d L a).right.length (W.drop t)).1⟩], (tp d L f a (pa d L a).right.length (W.drop t)).2) else tp d L f a (pa d L a).right.length (W.drop t)) from gv_succ d L f a (W.drop t))
    have hcnl := cn_le d.terms.length (pa d L a).right
    have HCN := (show Hid _ from fun (i : Nat) (hi : i < (pa d L a).right.length) => cn_take d.terms.length (pa d L a).right i hi)
    have HCL := (show Hid _ from fun (i : Nat) (hi : i < (pa d L a).right.length) (hn : ¬ (pa d L a).right[i] < (d.terms.length : Int)) => (show cn d.terms.length ((pa d L a).right.take i) < cn d.terms.length (pa d L a).right from by
      have h1 : cn d.terms.length ((pa d L a).right.take i) < cn d.terms.length ((pa d L a).right.take (i + 1)) := cn_lt hi hn (show i < i + 1 by omega)
      have h2 := cn_take_leY d.terms.length (pa d L a).right (i + 1)
      omega))
    obtain ⟨ws, hws⟩ : ∃ ws, W.drop t = ws := ⟨_, rfl⟩
    rw [hws] at HTS0 HNS HKD2
    have HWS := (show Hid _ from hws)
    obtain ⟨P, hP⟩ : ∃ P, pa d L a = P := ⟨_, rfl⟩
    have HP := (show Hid _ from hP)
    rw [hP] at q0 q1 q2 q3 q4 hl12 hci hg1 hg2 hpl hps hcnl hkc HRI HKA HKD HKB HTS0 HCN HCL HNS HKD2
    rw [hnum, hP]
    obtain ⟨CN, hCN⟩ : ∃ CN, cn d.terms.length P.right = CN := ⟨_, rfl⟩
    rw [hCN] at hcnl hkc HKB HCL
    rw [hCN]
    have hkp : k ≤ 120 := by omega
    -- the name
    have hnl : (P.left - (d.terms.length : Int)).toNat < d.nons.length := by omega
    obtain ⟨an, cn', bn, on, hvn, hcn, hmn, han, hcelln⟩ := hnons
    injection hvn with e1 e2 e3
    obtain ⟨rfl, hSbn⟩ := han (by omega)
    subst e1
    subst e3
    have n0 := (hcelln _ hnl).1
    have hns := (hcelln _ hnl).2
    obtain ⟨m0, hm0⟩ : ∃ m : Nat, P.left - (d.terms.length : Int) = (m : Int) := ⟨(P.left - (d.terms.length : Int)).toNat, by omega⟩
    have hmt : (P.left - (d.terms.length : Int)).toNat = m0 := by omega
    have hms : m0 < d.nons.length := by omega
    have hNM : ndN d P = if P.label.size = 0 then d.nons[m0]'(by omega) else P.label := by
      unfold ndN
      rw [hmt]
      simp [List.getD_eq_getElem?_getD, show m0 < d.nons.length by omega]
    simp only [hmt] at n0 hns
    obtain ⟨NM, hNMe⟩ : ∃ NM, d.nons[m0]'(by omega) = NM := ⟨_, rfl⟩
    rw [hNMe] at n0 hNM hns
    have HNMS := (show Hid ((ndN d P).size ≤ maxLen) from by
      show _ ≤ _
      rw [hNM]
      split
      · exact hns
      · exact hps)
    have HNM := (show Hid _ from hNM)
    -- the worlds
    obtain ⟨W0, hW0⟩ : ∃ W0, w.alloc (.cells #[.int .i64 (k : Nat), .slice ka CN kc] 64) = W0 := ⟨_, rfl⟩
    have hb0 : Below w.heap.size w W0 := by rw [← hW0]; exact bel_alloc _ _
    have hz0' : W0.heap.size = w.heap.size + 1 := by rw [← hW0]; simp
    have hx0 : Box W0 w.heap.size 64 [.int .i64 (k : Nat), .slice ka CN kc] := by rw [← hW0]; exact Box.new w 64 _
    have HSS := (show Hid (∀ w', Below W0.heap.size W0 w' → (fun w' => w'.cell? ⟨R, 3, none⟩ = some (.slice (some ⟨bp, op, none⟩) d.prods.length c3) ∧ w'.cell? ⟨w.heap.size, 0, none⟩ = some (.int .i64 (k : Nat)) ∧ w'.cell? ⟨bp, op + k * 5, none⟩ = some (.int .i64 P.left) ∧ w'.cell? ⟨bp, op + k * 5 + 1, none⟩ = some (.slice ai P.right.length ci) ∧ w'.cell? ⟨bp, op + k * 5 + 2, none⟩ = some (.string P.label) ∧ w'.cell? ⟨bp, op + k * 5 + 3, none⟩ = some (.int .i64 P.lev) ∧ w'.cell? ⟨bp, op + k * 5 + 4, none⟩ = some (.int .i64 P.asc)) w') from fun w' hb => by
      have hb2 := bel_trans hb0 hb
      have hc : ∀ q o v, w.cell? ⟨q, o, none⟩ = some v → w'.cell? ⟨q, o, none⟩ = some v := fun q o v hc => (World.cell?_of_block (w := w) (hb2.block q (lt_of_cell hc))).trans hc
      exact ⟨hc _ _ _ (HTG0.out.box.cell 3 (by simp)), (hx0.still hb).cell 0 (by simp), hc _ _ _ q0, hc _ _ _ q1, hc _ _ _ q2, hc _ _ _ q3, hc _ _ _ q4⟩)
    have hS0 := HSS.out W0 (Below.refl _ _)
    have hS1 := HSS.out _ (bel_alloc W0 (.cells #[.int .i64 0, .slice none 0 0, .string ⟨#[]⟩, .int .i64 0, .int .i64 0] 114))
    have hS2 := HSS.out _ (bel_alloc W0 (.cells #[.int .i64 P.left, .slice ai P.right.length ci, .string P.label, .int .i64 P.lev, .int .i64 P.asc] 114))
    have HX := (show Hid (∀ n, Below w.heap.size w ((W0.alloc (.cells #[.int .i64 P.left, .slice ai P.right.length ci, .string P.label, .int .i64 P.lev, .int .i64 P.asc] 114)).drewN n) ∧ Box ((W0.alloc (.cells #[.int .i64 P.left, .slice ai P.right.length ci, .string P.label, .int .i64 P.lev, .int .i64 P.asc] 114)).drewN n) w.heap.size 64 [.int .i64 (k : Nat), .slice ka CN kc] ∧ Box ((W0.alloc (.cells #[.int .i64 P.left, .slice ai P.right.length ci, .string P.label, .int .i64 P.lev, .int .i64 P.asc] 114)).drewN n) (w.heap.size + 1) 114 [.int .i64 P.left, .slice ai P.right.length ci, .string P.label, .int .i64 P.lev, .int .i64 P.asc] ∧ ((W0.alloc (.cells #[.int .i64 P.left, .slice ai P.right.length ci, .string P.label, .int .i64 P.lev, .int .i64 P.asc] 114)).drewN n).heap.size = w.heap.size + 2) from fun n => by
      have h1 := Box.new W0 114 [.int .i64 P.left, .slice ai P.right.length ci, .string P.label, .int .i64 P.lev, .int .i64 P.asc]
      rw [hz0'] at h1
      have hsz2 : (W0.alloc (.cells #[.int .i64 P.left, .slice ai P.right.length ci, .string P.label, .int .i64 P.lev, .int .i64 P.asc] 114)).heap.size = w.heap.size + 2 := by simp; omega
      exact ⟨⟨hb0.os, hb0.tape, hb0.output, by have := hb0.size; show _ ≤ (W0.alloc _).heap.size; omega, fun q hq => (Below.heap_alloc _ _ _ (by omega)).trans (hb0.block q hq)⟩, (hx0.still (bel_alloc _ _)).keep rfl, h1.keep rfl, hsz2⟩)
    have HRN := (show Hid True from trivial)
    have hbnR := HTG0.out.ns bn hSbn
    have HRNK := (show Hid (∀ (w' : World), Kp w.heap.size R w w' → w'.cell? ⟨bn, on + m0, none⟩ = some (.string NM)) from fun w' hb => (World.cell?_of_block (w := w) (hb.block bn (lt_of_cell n0) (by omega))).trans n0)
    obtain ⟨i48, hi48, hzz⟩ := Option.map_eq_some_iff.1 info48y
    simp only [Prod.mk.injEq] at hzz
    obtain ⟨hz0, hz1, hz2⟩ := hzz
    have HRB := (show Hid _ from hRw)
    have HKR := (show Hid _ from hK)
    have HWL := (show Hid _ from hW)
    have hleftb : (d.terms.length : Int) ≤ P.left ∧ P.left ≤ 160 := ⟨hg1, hg2⟩
    have hab : a < b := (rd_gt d L _ _ _ _ hr).1
    clear hkid hka hend hr ho h hleft hri hrr hal hpa hnum hx0 hb0 q0 q1 q2 q3 q4 n0 hcelln han hNM hNMe hmt hns hps hnl hws hP hCN hpr hl0 hl8 jk1 jk2 jk3 jk4 hpl hg1 hg2 hnsk
    go_enter Try.func49, Try.ntmps49
    go_upto_region 1 with fail
    clear hW0
    go_cut [5] from 11 to 19 (fun v wx => v = .pointer (some ⟨w.heap.size + 1, 0, none⟩) ∧ Hid (Below w.heap.size w wx ∧ Box wx w.heap.size 64 [.int .i64 (k : Nat), .slice ka CN kc] ∧ Box wx (w.heap.size + 1) 114 [.int .i64 P.left, .slice ai P.right.length ci, .string P.label, .int .i64 P.lev, .int .i64 P.asc] ∧ wx.heap.size = w.heap.size + 2))
    case first =>
      clear IH HKA HKD HKB HA0 HTS0 HNS HKD2 HCN HCL HNMS HNM HRN HRI HTG0
      go_region_held3 (fun w' => w'.cell? ⟨R, 3, none⟩ = some (.slice (some ⟨bp, op, none⟩) d.prods.length c3) ∧ w'.cell? ⟨w.heap.size, 0, none⟩ = some (.int .i64 (k : Nat)) ∧ w'.cell? ⟨bp, op + k * 5, none⟩ = some (.int .i64 P.left) ∧ w'.cell? ⟨bp, op + k * 5 + 1, none⟩ = some (.slice ai P.right.length ci) ∧ w'.cell? ⟨bp, op + k * 5 + 2, none⟩ = some (.string P.label) ∧ w'.cell? ⟨bp, op + k * 5 + 3, none⟩ = some (.int .i64 P.lev) ∧ w'.cell? ⟨bp, op + k * 5 + 4, none⟩ = some (.int .i64 P.asc)) (first | exact hS0 | exact hS1 | exact hS2) (fail)
      all_goals
        go_wp2_with fail
        go_meet
        exact ⟨rfl, HX.out 1⟩
    case rest =>
      obtain ⟨wq, rfl⟩ : ∃ wq, wq = wc := ⟨_, rfl⟩
      obtain ⟨rfl, HCQ⟩ := hcut
      clear hS0 hS1 hS2 HX HSS hz0'
      have hzq := HCQ.out.2.2.2
      have HTGQ := (show Hid _ from HTG0.out.still HCQ.out.1)
      have HI0 := (show Hid (∀ n, Kp (w.heap.size + 2) R wq ((wq.alloc (.cells #[] 48)).drewN n) ∧ (∃ t1', TgI d S S' R (.slice a0 d.terms.length c0) (.slice (some ⟨bn, on, none⟩) d.nons.length c1) (.slice (some ⟨bp, op, none⟩) d.prods.length c3) vw W ((wq.alloc (.cells #[] 48)).drewN n) t1' ∧ W.drop t1' = (tp d L f a 0 ws).2) ∧ [] = (tp d L f a 0 ws).1 ∧ SG ((wq.alloc (.cells #[] 48)).drewN n) (w.heap.size + 2) [] (.slice (some ⟨w.heap.size + 2, 0, none⟩) 0 0)) from fun n => by
        have h1 := SGs.made wq (w.heap.size + 2) (by omega)
        rw [hzq] at h1
        exact ⟨(Kp.mono (Below.kp (bel_alloc wq _) R) (by omega)).drewN n, ⟨t, (HTGQ.out.still (bel_alloc wq _)).keep (fun _ _ => rfl), HWS.out⟩, rfl, _, _, _, _, rfl, h1.keep (Nat.le_refl _) (fun _ _ _ => rfl)⟩)
      have HBX := (show Hid (∀ w', Kp (w.heap.size + 2) R wq w' → Below w.heap.size w wq ∧ Box w' w.heap.size 64 [.int .i64 (k : Nat), .slice ka CN kc] ∧ Box w' (w.heap.size + 1) 114 [.int .i64 P.left, .slice ai P.right.length ci, .string P.label, .int .i64 P.lev, .int .i64 P.asc] ∧ (∀ q, q < w.heap.size → q ≠ R → w'.heap[q]? = w.heap[q]?)) from fun w' hk => ⟨HCQ.out.1, HCQ.out.2.1.keep (hk.block _ (by omega) (by have := HRB.out; omega)), HCQ.out.2.2.1.keep (hk.block _ (by omega) (by have := HRB.out; omega)), fun q h1 h2 => (hk.block q (by omega) h2).trans (HCQ.out.1.block q h1)⟩)
      go_wp2_with fail
      go_loopw [6, 7, 8] (fun u kv i wr => ∃ (j x : Nat) (k' : List T.Tr) (au : Option Addr) (cu : Nat), u = .slice au k'.length cu ∧ kv = .int .i64 (cn d.terms.length (P.right.take j)) ∧ i = .int .i64 j ∧ j ≤ P.right.length ∧ Hid (atP d L f a j = some x) ∧ Hid (Kp (w.heap.size + 2) R wq wr ∧ (∃ t1', TgI d S S' R (.slice a0 d.terms.length c0) (.slice (some ⟨bn, on, none⟩) d.nons.length c1) (.slice (some ⟨bp, op, none⟩) d.prods.length c3) vw W wr t1' ∧ W.drop t1' = (tp d L f a j ws).2) ∧ k' = (tp d L f a j ws).1 ∧ SG wr (w.heap.size + 2) k' (.slice au k'.length cu))) (fun _ _ i _ => P.right.length - (intOf i).toNat)
      case atStart => exact ⟨0, a + 1, [], some ⟨w.heap.size + 2, 0, none⟩, 0, by rw [← hzq]; rfl, rfl, rfl, Nat.zero_le _, HA0, HI0.out 0⟩
      case round =>
        obtain ⟨j, x, k', au, cu, rfl, rfl, rfl, hj, HXJ, HA⟩ := hrel
        obtain ⟨hkp, ⟨t1, htg, hdt⟩, hk', fs, Kf, gu, cu2, hu, hsg⟩ := HA.out
        injection hu with e1 e2 e3
        subst e1
        subst e3
        clear HA
        obtain ⟨hbq, hbx0, hbx1, hlow⟩ := HBX.out wr hkp
        have p1 : wr.cell? ⟨w.heap.size + 1, 1, none⟩ = some (.slice ai P.right.length ci) := hbx1.cell 1 (by simp)
        have HTG := (show Hid _ from htg)
        have HSG := (show Hid _ from hsg)
        have HKP := (show Hid _ from hkp)
        have HDK := (show Hid (W.drop t1 = (tp d L f a j ws).2 ∧ k' = (tp d L f a j ws).1) from ⟨hdt, hk'⟩)
        clear hdt hk' hsg hbx0 hbx1 hkp hbq
        by_cases hlt0 : j < P.right.length
        · obtain ⟨rfl, hSi, r0, r1, r2⟩ := HRI.out j hlt0
          have hbiR := HTG.out.ns bi hSi
          have r0' : wr.cell? ⟨bi, oi + j, none⟩ = some (.int .i64 P.right[j]) := (World.cell?_of_block (w := w) (hlow bi (lt_of_cell r0) (by omega))).trans r0
          have hts := HTS0.out j x hlt0 HXJ.out
          have kaj := HKA.out j x hlt0 HXJ.out
          have cnj := HCN.out j hlt0
          have kdj := HKD.out j hlt0
          have clj := HCL.out j hlt0
          have hxa : ats j = x := by have := kdj.1.symm.trans HXJ.out; simpa using this
          have kdk := kdj.2
          rw [hxa] at kdk
          have HNJ := (show Hid _ from fun x2 => HNS.out j x x2 hlt0 HXJ.out)
          clear kdj hxa
          generalize P.right[j] = y at *
          have x0 : wr.cell? ⟨R, 0, none⟩ = some (.slice a0 d.terms.length c0) := htg.box.cell 0 (by simp)
          have x1 : wr.cell? ⟨R, 1, none⟩ = some (.slice (some ⟨bn, on, none⟩) d.nons.length c1) := htg.box.cell 1 (by simp)
          have x2 : wr.cell? ⟨R, 2, none⟩ = some (.int .i64 d.own) := htg.box.cell 2 (by simp)
          have x3 : wr.cell? ⟨R, 3, none⟩ = some (.slice (some ⟨bp, op, none⟩) d.prods.length c3) := htg.box.cell 3 (by simp)
          have HV := (show Hid _ from fun w' => non_s a0 d.terms.length c0 (.slice (some ⟨bn, on, none⟩) d.nons.length c1) (.int .i64 d.own) (.slice (some ⟨bp, op, none⟩) d.prods.length c3) y w' r1 (by omega) (by omega))
          have HDR := (show Hid _ from (Below.refl wr.heap.size wr).drew)
          have HT1 := (show Hid _ from hts)
          have HT2 := (show Hid _ from kaj)
          have HT3 := (show Hid _ from cnj)
          have HT4 := (show Hid _ from kdk)
          have HT5 := (show Hid _ from clj)
          have HLOW := (show Hid _ from hlow)
          have hjm : j ≤ 12 := by omega
          clear hts kaj cnj kdk clj r0 htg hlow
          have hmc : cn d.terms.length (P.right.take j) ≤ j := by have := cn_le d.terms.length (P.right.take j); simp at this; omega
          obtain ⟨m, hm⟩ : ∃ m, cn d.terms.length (P.right.take j) = m := ⟨_, rfl⟩
          rw [hm] at HT3 HT4 HT5 hmc ⊢
          clear hm
          go_upto_region 7 with fail
          go_cut [38] from 28 to 37 (fun v wx => v = .bool (decide (y - d.terms.length < 0)) ∧ Hid (Below wr.heap.size wr wx))
          case first =>
            clear IH HKA HKD HKB HA0 HTS0 HNS HCN HCL HRI HI0 HT1 HT2 HT3 HT4 HT5 HXJ HLOW HNJ HTG HSG HKP HDK HBX HTGQ HCQ HNMS HNM HRN HKD2
            go_region_with (go_at_call 68; refine Calls.mono (HV.out _) ?_; rintro e w2 ⟨rfl, rfl⟩)
            all_goals
              go_wp2_with fail
              go_meet
              exact ⟨rfl, HDR.out.alloc (Nat.le_refl _) _⟩
          case rest =>
            obtain ⟨w6, rfl⟩ : ∃ w6, w6 = wc := ⟨_, rfl⟩
            obtain ⟨rfl, HC6⟩ := hcut
            have HKP6 := (show Hid (Kp (w.heap.size + 2) R wq w6) from HKP.out.trans ((Below.kp HC6.out R).mono (by have h1 := HKP.out.size; omega)))
            have HTG6 := (show Hid _ from HTG.out.still HC6.out)
            have HSG6 := (show Hid _ from HSG.out.keep (w' := w6) HC6.out.size (fun q _ hq => HC6.out.block q hq))
            clear x0 x1 x2 x3 HV HDR p1 r0' HKP HTG HSG HC6 HLOW
            have hz6 : w.heap.size + 2 ≤ w6.heap.size := by have h1 := HKP6.out.size; omega
            by_cases hyt : y < (d.terms.length : Int)
            · have hd : decide (y - d.terms.length < 0) = true := by simp; omega
              rw [hd]
              have hat := HT2.out.1 hyt
              have hts := HT1.out
              rw [if_pos hyt] at hts
              obtain ⟨n1, n2, n3, n4⟩ := HNJ.out x hat
              rw [if_pos hyt] at n3
              have HCNN : Hid (cn d.terms.length (P.right.take (j + 1)) = m) := by have := HT3.out; rw [if_pos hyt] at this; exact this
              have HATN := (show Hid (atP d L f a (j + 1) = some x) from hat)
              have HSK := (show Hid _ from skips_s d W t1 w6 HTG6.out HWL.out)
              have hnk : 0 < nsk (W.drop t1) := by rw [HDK.out.1]; omega
              obtain ⟨hq1, hq2, hq3⟩ := sks_nsk (W.drop t1)
              obtain ⟨Y, r, hYr⟩ : ∃ Y r, (sks (W.drop t1)).2 = Y :: r := by
                cases e : (sks (W.drop t1)).2 with
                | nil => exact absurd e (hq2 hnk)
                | cons Y r => exact ⟨Y, r, rfl⟩
              have hlv := (lvs_sks (W.drop t1)).1 Y r hYr
              have hkb : k'.length ≤ 5000 := by rw [HDK.out.2]; exact n4
              have HPY := (show Hid (k' ++ (sks (W.drop t1)).1 ++ [lf Y] = (tp d L f a (j + 1) ws).1 ∧ r = (tp d L f a (j + 1) ws).2) from by
                rw [hts, ← HDK.out.1, hlv, ← HDK.out.2]
                exact ⟨by simp, rfl⟩)
              have hsl := sks_len (W.drop t1)
              have hsl2 : (sks (W.drop t1)).1.length ≤ 1000 := by have h2 : (W.drop t1).length ≤ 1000 := (by have := HWL.out; simp; omega); omega
              have HYR := (show Hid _ from hYr)
              clear hd hat hts n1 n2 n3 n4 hnk hq1 hq2 hq3 hlv HT1 HT2 HT3 HT4 HT5 HNJ HDK hsl hYr
              go_wp2_with fail
              refine Calls.mono HSK.out ?_
              rintro e w7 ⟨u7, t2, rfl, hk7, ht7, hd7, fs7, K7, g7, c7, rfl, hs7⟩
              obtain ⟨SKL, hSKL⟩ : ∃ SKL, (sks (W.drop t1)).1 = SKL := ⟨_, rfl⟩
              rw [hSKL] at hs7 HPY hsl2
              rw [hSKL]
              clear hSKL
              have hs6 := HSG6.out.keep (w' := w7) hk7.size (fun q h1 h2 => hk7.block q h2 (by have := HRB.out; omega))
              have hgl := HSG6.out.lt
              have HS6 := (show Hid _ from hs6)
              have HS7 := (show Hid _ from hs7)
              have HT7 := (show Hid _ from ht7)
              have HK7 := (show Hid _ from hk7)
              have HD7 := (show Hid (W.drop t2 = Y :: r) from by rw [hd7]; exact HYR.out)
              have HGL := (show Hid _ from hgl)
              clear hk7 ht7 hd7 hs7 hs6 hgl HSK HYR
              go_wp2_with (at_builtin; refine wpList_append_g _ rfl (.tmp 39) (.tmp 41) 46 rfl (w.heap.size + 2) 48 i48 _ 4 64 Try.underlying46 hi48 hz0 hz1 hz2 rfl (by decide) gu cu k'.length _ rfl HS6.out.own ⟨g7, 0, none⟩ SKL.length c7 (T.kc SKL fs7 SKL.length) rfl (T.kc_len _ _ _) HS7.out.cells HS7.out.one ?c3 ?c5 ?c4 ?nx)
              case c3 => unfold maxLen; omega
              case c5 => omega
              case c4 => have := HK7.out.size; omega
              case nx =>
                intro g9 c9 w9 hown9 hgr9 hat9
                have HSG := (show Hid _ from HS6.out.join HS7.out (by omega) HGL.out.2 hown9 hgr9 hat9)
                have HTG := (show Hid _ from HT7.out.keep (w' := w9) (fun q hq => hgr9.block q (by have h1 := HK7.out.size; have h4 := HT7.out.box.lt; omega) (fun e => by injection e with e; have h5 := HGL.out; have h6 := HRB.out; omega)))
                have HKP := (show Hid (Kp (w.heap.size + 2) R wq w9) from (HKP6.out.trans (HK7.out.mono hz6)).trans ⟨hgr9.os, hgr9.tape, hgr9.output, hgr9.size, fun q h1 h2 => hgr9.block q (by have h1 := HK7.out.size; omega) (fun e => by injection e with e; have h5 := HGL.out; omega)⟩)
                have hkl : (k' ++ SKL).length ≤ 6000 := by rw [List.length_append]; omega
                have hkl0 : k'.length + SKL.length = (k' ++ SKL).length := by rw [List.length_append]
                clear hown9 hgr9 hat9 HS6 HS7 HT7 HK7 HGL HKP6 HTG6 HSG6 hkb hsl2
                rw [hkl0]
                clear hkl0
                obtain ⟨kk, hkk⟩ : ∃ kk, k' ++ SKL = kk := ⟨_, rfl⟩
                rw [hkk] at HSG HPY hkl ⊢
                clear hkk
                obtain ⟨k', rfl⟩ : ∃ k', k' = kk := ⟨_, rfl⟩
                obtain ⟨gu, rfl⟩ : ∃ gu, gu = g9 := ⟨_, rfl⟩
                obtain ⟨cu, rfl⟩ : ∃ cu, cu = c9 := ⟨_, rfl⟩
                obtain ⟨wr, rfl⟩ : ∃ wr, wr = w9 := ⟨_, rfl⟩
                obtain ⟨t1, rfl⟩ : ∃ t1, t1 = t2 := ⟨_, rfl⟩
                have hlt : t1 < W.length := by
                  rcases Nat.lt_or_ge t1 W.length with h1 | h1
                  · exact h1
                  · have h2 := HD7.out
                    rw [List.drop_eq_nil_of_le h1] at h2
                    cases h2
                have hdr := sks_drop hlt
                rw [HD7.out] at hdr
                injection hdr with hX hdr2
                have HPX := (show Hid (k' ++ [lf Y] = (tp d L f a (j + 1) ws).1 ∧ W.drop (t1 + 1) = (tp d L f a (j + 1) ws).2) from ⟨HPY.out.1, by rw [← hdr2]; exact HPY.out.2⟩)
                obtain ⟨X, rfl⟩ : ∃ X, X = Y := ⟨_, rfl⟩
                obtain ⟨aw, cw, bw, ow, rfl, hcw, hmw, haw, hcellw⟩ := HTG.out.words
                obtain ⟨rfl, hSw⟩ := haw (by omega)
                have hsz := hcellw t1 hlt
                have HLSM := (show Hid (X.name.size ≤ maxLen ∧ X.text.size ≤ maxLen) from by
                  obtain ⟨_, _, _, _, _, _, s0, s1, _⟩ := hsz
                  rw [← hX] at s0 s1
                  exact ⟨s0, s1⟩)
                have HZR := (show Hid (w.heap.size + 2 ≤ wr.heap.size) from by have h1 := HKP.out.size; show _ ≤ _; omega)
                have HTS := (show Hid (∀ w', TgI d S S' R (.slice a0 d.terms.length c0) (.slice (some ⟨bn, on, none⟩) d.nons.length c1) (.slice (some ⟨bp, op, none⟩) d.prods.length c3) (.slice (some ⟨bw, ow, none⟩) W.length cw) W w' t1 → (fun w' => w'.cell? ⟨R, 4, none⟩ = some (.slice (some ⟨bw, ow, none⟩) W.length cw) ∧ w'.cell? ⟨R, 5, none⟩ = some (.int .i64 (t1 : Int)) ∧ w'.cell? ⟨bw, ow + t1 * 6, none⟩ = some (.string X.name) ∧ w'.cell? ⟨bw, ow + t1 * 6 + 1, none⟩ = some (.string X.text)) w') from fun w' hT => by
                  obtain ⟨aw', cw', bw', ow', e, _, _, haw', hcw'⟩ := hT.words
                  injection e with e1 e2 e3
                  obtain ⟨e4, _⟩ := haw' (by omega)
                  rw [e4] at e1
                  injection e1 with e1
                  cases e1
                  obtain ⟨d0, d1, _⟩ := hcw' t1 hlt
                  rw [← hX] at d0 d1
                  exact ⟨hT.box.cell 4 (by simp), hT.box.cell 5 (by simp), d0, d1⟩)
                have HHS := (show Hid (∀ w', Below wr.heap.size wr w' → (fun w' => w'.cell? ⟨R, 4, none⟩ = some (.slice (some ⟨bw, ow, none⟩) W.length cw) ∧ w'.cell? ⟨R, 5, none⟩ = some (.int .i64 (t1 : Int)) ∧ w'.cell? ⟨bw, ow + t1 * 6, none⟩ = some (.string X.name) ∧ w'.cell? ⟨bw, ow + t1 * 6 + 1, none⟩ = some (.string X.text)) w') from fun w' hb => HTS.out w' (HTG.out.still hb))
                have hS3 : (fun w' => w'.cell? ⟨R, 4, none⟩ = some (.slice (some ⟨bw, ow, none⟩) W.length cw) ∧ w'.cell? ⟨R, 5, none⟩ = some (.int .i64 (t1 : Int)) ∧ w'.cell? ⟨bw, ow + t1 * 6, none⟩ = some (.string X.name) ∧ w'.cell? ⟨bw, ow + t1 * 6 + 1, none⟩ = some (.string X.text)) wr := HTS.out wr HTG.out
                have hi1 : (0 : Int) ≤ (t1 : Int) ∧ (t1 : Int) < (W.length : Int) := by omega
                have hWb := HWL.out
                clear hcellw haw hsz hdr2 HD7 hX HPY
                go_upto_region 9 with fail
                refine wp_region_held_drew (S := (fun w' => w'.cell? ⟨R, 4, none⟩ = some (.slice (some ⟨bw, ow, none⟩) W.length cw) ∧ w'.cell? ⟨R, 5, none⟩ = some (.int .i64 (t1 : Int)) ∧ w'.cell? ⟨bw, ow + t1 * 6, none⟩ = some (.string X.name) ∧ w'.cell? ⟨bw, ow + t1 * 6 + 1, none⟩ = some (.string X.text))) (by kernel_rfl) hS3 (fun hHeld => ?_)
                refine wpAnyH_take (i := 0) (oi := { dst := some 43, op := Go.Op.move (Go.Operand.tmp 6), type := 46, pos := "l06_parsing.go:415", after := #[], guard := none }) (v := ?v1) rfl (by kernel_rfl) (by kernel_rfl) (by kernel_rfl) (fun _ _ _ h => h) (Or.inl ⟨by rfl, ?h1⟩) hHeld ?r1
                case h1 => (intro w hSw; (try dsimp only at hSw); go_simp; try with_reducible rfl)
                try simp only [Act.put, List.setIfInBounds_toArray, List.set_cons_zero, List.set_cons_succ]
                refine wpAnyH_take (i := 1) (oi := { dst := some 44, op := Go.Op.move (Go.Operand.tmp 0), type := 87, pos := "l06_parsing.go:415", after := #[], guard := none }) (v := ?v2) rfl (by kernel_rfl) (by kernel_rfl) (by kernel_rfl) (fun _ _ _ h => h) (Or.inl ⟨by rfl, ?h2⟩) hHeld ?r2
                case h2 => (intro w hSw; (try dsimp only at hSw); go_simp; try with_reducible rfl)
                try simp only [Act.put, List.setIfInBounds_toArray, List.set_cons_zero, List.set_cons_succ]
                refine wpAnyH_take (i := 2) (oi := { dst := some 45, op := Go.Op.nilCheck (Go.Operand.tmp 44), type := 0, pos := "l06_parsing.go:415", after := #[{ on := 1, ground := Go.Ground.data }], guard := none }) (v := ?v3) rfl (by kernel_rfl) (by kernel_rfl) (by kernel_rfl) (fun _ _ _ h => h) (Or.inl ⟨by rfl, ?h3⟩) hHeld ?r3
                case h3 => (intro w hSw; (try dsimp only at hSw); go_simp; try with_reducible rfl)
                try simp only [Act.put, List.setIfInBounds_toArray, List.set_cons_zero, List.set_cons_succ]
                refine wpAnyH_take (i := 3) (oi := { dst := some 46, op := Go.Op.fieldAddr 89 (Go.Operand.tmp 45) 1, type := 0, pos := "l06_parsing.go:415", after := #[{ on := 2, ground := Go.Ground.data }], guard := none }) (v := ?v4) rfl (by kernel_rfl) (by kernel_rfl) (by kernel_rfl) (fun _ _ _ h => h) (Or.inl ⟨by rfl, ?h4⟩) hHeld ?r4
                case h4 => (intro w hSw; (try dsimp only at hSw); go_simp; try with_reducible rfl)
                try simp only [Act.put, List.setIfInBounds_toArray, List.set_cons_zero, List.set_cons_succ]
                refine wpAnyH_take (i := 4) (oi := { dst := some 47, op := Go.Op.load 51 (Go.Operand.tmp 46), type := 51, pos := "l06_parsing.go:415", after := #[{ on := 3, ground := Go.Ground.data }], guard := none }) (v := ?v5) rfl (by kernel_rfl) (by kernel_rfl) (by kernel_rfl) (fun _ _ _ h => h) (Or.inl ⟨by rfl, ?h5⟩) hHeld ?r5
                case h5 => (intro w hSw; (try dsimp only at hSw); go_simp; try with_reducible rfl)
                try simp only [Act.put, List.setIfInBounds_toArray, List.set_cons_zero, List.set_cons_succ]
                refine wpAnyH_take (i := 5) (oi := { dst := some 48, op := Go.Op.move (Go.Operand.tmp 0), type := 87, pos := "l06_parsing.go:415", after := #[], guard := none }) (v := ?v6) rfl (by kernel_rfl) (by kernel_rfl) (by kernel_rfl) (fun _ _ _ h => h) (Or.inl ⟨by rfl, ?h6⟩) hHeld ?r6
                case h6 => (intro w hSw; (try dsimp only at hSw); go_simp; try with_reducible rfl)
                try simp only [Act.put, List.setIfInBounds_toArray, List.set_cons_zero, List.set_cons_succ]
                refine wpAnyH_take (i := 6) (oi := { dst := some 49, op := Go.Op.nilCheck (Go.Operand.tmp 48), type := 0, pos := "l06_parsing.go:415", after := #[{ on := 5, ground := Go.Ground.data }], guard := none }) (v := ?v7) rfl (by kernel_rfl) (by kernel_rfl) (by kernel_rfl) (fun _ _ _ h => h) (Or.inl ⟨by rfl, ?h7⟩) hHeld ?r7
                case h7 => (intro w hSw; (try dsimp only at hSw); go_simp; try with_reducible rfl)
                try simp only [Act.put, List.setIfInBounds_toArray, List.set_cons_zero, List.set_cons_succ]
                refine wpAnyH_take (i := 7) (oi := { dst := some 50, op := Go.Op.fieldAddr 89 (Go.Operand.tmp 49) 2, type := 0, pos := "l06_parsing.go:415", after := #[{ on := 6, ground := Go.Ground.data }], guard := none }) (v := ?v8) rfl (by kernel_rfl) (by kernel_rfl) (by kernel_rfl) (fun _ _ _ h => h) (Or.inl ⟨by rfl, ?h8⟩) hHeld ?r8
                case h8 => (intro w hSw; (try dsimp only at hSw); go_simp; try with_reducible rfl)
                try simp only [Act.put, List.setIfInBounds_toArray, List.set_cons_zero, List.set_cons_succ]
                refine wpAnyH_take (i := 8) (oi := { dst := some 51, op := Go.Op.load 3 (Go.Operand.tmp 50), type := 3, pos := "l06_parsing.go:415", after := #[{ on := 7, ground := Go.Ground.data }], guard := none }) (v := ?v9) rfl (by kernel_rfl) (by kernel_rfl) (by kernel_rfl) (fun _ _ _ h => h) (Or.inl ⟨by rfl, ?h9⟩) hHeld ?r9
                case h9 => (intro w hSw; (try dsimp only at hSw); go_simp; try with_reducible rfl)
                try simp only [Act.put, List.setIfInBounds_toArray, List.set_cons_zero, List.set_cons_succ]
                refine wpAnyH_take (i := 9) (oi := { dst := some 52, op := Go.Op.indexAddr 51 (Go.Operand.tmp 47) (Go.Operand.tmp 51), type := 0, pos := "l06_parsing.go:415", after := #[{ on := 4, ground := Go.Ground.data }, { on := 8, ground := Go.Ground.data }], guard := none }) (v := ?v10) rfl (by kernel_rfl) (by kernel_rfl) (by kernel_rfl) (fun _ _ _ h => h) (Or.inl ⟨by rfl, ?h10⟩) hHeld ?r10
                case h10 => (intro w hSw; (try dsimp only at hSw); go_simp; try with_reducible rfl)
                try simp only [Act.put, List.setIfInBounds_toArray, List.set_cons_zero, List.set_cons_succ]
                refine wpAnyH_take (i := 10) (oi := { dst := some 53, op := Go.Op.fieldAddr 93 (Go.Operand.tmp 52) 0, type := 0, pos := "l06_parsing.go:415", after := #[{ on := 9, ground := Go.Ground.data }], guard := none }) (v := ?v11) rfl (by kernel_rfl) (by kernel_rfl) (by kernel_rfl) (fun _ _ _ h => h) (Or.inl ⟨by rfl, ?h11⟩) hHeld ?r11
                case h11 => (intro w hSw; (try dsimp only at hSw); go_simp; try with_reducible rfl)
                try simp only [Act.put, List.setIfInBounds_toArray, List.set_cons_zero, List.set_cons_succ]
                refine wpAnyH_take (i := 11) (oi := { dst := some 54, op := Go.Op.load 9 (Go.Operand.tmp 53), type := 9, pos := "l06_parsing.go:415", after := #[{ on := 10, ground := Go.Ground.data }], guard := none }) (v := ?v12) rfl (by kernel_rfl) (by kernel_rfl) (by kernel_rfl) (fun _ _ _ h => h) (Or.inl ⟨by rfl, ?h12⟩) hHeld ?r12
                case h12 => (intro w hSw; (try dsimp only at hSw); go_simp; try with_reducible rfl)
                try simp only [Act.put, List.setIfInBounds_toArray, List.set_cons_zero, List.set_cons_succ]
                refine wpAnyH_take (i := 12) (oi := { dst := some 55, op := Go.Op.move (Go.Operand.tmp 0), type := 87, pos := "l06_parsing.go:415", after := #[], guard := none }) (v := ?v13) rfl (by kernel_rfl) (by kernel_rfl) (by kernel_rfl) (fun _ _ _ h => h) (Or.inl ⟨by rfl, ?h13⟩) hHeld ?r13
                case h13 => (intro w hSw; (try dsimp only at hSw); go_simp; try with_reducible rfl)
                try simp only [Act.put, List.setIfInBounds_toArray, List.set_cons_zero, List.set_cons_succ]
                refine wpAnyH_take (i := 13) (oi := { dst := some 56, op := Go.Op.nilCheck (Go.Operand.tmp 55), type := 0, pos := "l06_parsing.go:415", after := #[{ on := 12, ground := Go.Ground.data }], guard := none }) (v := ?v14) rfl (by kernel_rfl) (by kernel_rfl) (by kernel_rfl) (fun _ _ _ h => h) (Or.inl ⟨by rfl, ?h14⟩) hHeld ?r14
                case h14 => (intro w hSw; (try dsimp only at hSw); go_simp; try with_reducible rfl)
                try simp only [Act.put, List.setIfInBounds_toArray, List.set_cons_zero, List.set_cons_succ]
                refine wpAnyH_take (i := 14) (oi := { dst := some 57, op := Go.Op.fieldAddr 89 (Go.Operand.tmp 56) 1, type := 0, pos := "l06_parsing.go:415", after := #[{ on := 13, ground := Go.Ground.data }], guard := none }) (v := ?v15) rfl (by kernel_rfl) (by kernel_rfl) (by kernel_rfl) (fun _ _ _ h => h) (Or.inl ⟨by rfl, ?h15⟩) hHeld ?r15
                case h15 => (intro w hSw; (try dsimp only at hSw); go_simp; try with_reducible rfl)
                try simp only [Act.put, List.setIfInBounds_toArray, List.set_cons_zero, List.set_cons_succ]
                refine wpAnyH_take (i := 15) (oi := { dst := some 58, op := Go.Op.load 51 (Go.Operand.tmp 57), type := 51, pos := "l06_parsing.go:415", after := #[{ on := 14, ground := Go.Ground.data }], guard := none }) (v := ?v16) rfl (by kernel_rfl) (by kernel_rfl) (by kernel_rfl) (fun _ _ _ h => h) (Or.inl ⟨by rfl, ?h16⟩) hHeld ?r16
                case h16 => (intro w hSw; (try dsimp only at hSw); go_simp; try with_reducible rfl)
                try simp only [Act.put, List.setIfInBounds_toArray, List.set_cons_zero, List.set_cons_succ]
                refine wpAnyH_take (i := 16) (oi := { dst := some 59, op := Go.Op.move (Go.Operand.tmp 0), type := 87, pos := "l06_parsing.go:415", after := #[], guard := none }) (v := ?v17) rfl (by kernel_rfl) (by kernel_rfl) (by kernel_rfl) (fun _ _ _ h => h) (Or.inl ⟨by rfl, ?h17⟩) hHeld ?r17
                case h17 => (intro w hSw; (try dsimp only at hSw); go_simp; try with_reducible rfl)
                try simp only [Act.put, List.setIfInBounds_toArray, List.set_cons_zero, List.set_cons_succ]
                refine wpAnyH_take (i := 17) (oi := { dst := some 60, op := Go.Op.nilCheck (Go.Operand.tmp 59), type := 0, pos := "l06_parsing.go:415", after := #[{ on := 16, ground := Go.Ground.data }], guard := none }) (v := ?v18) rfl (by kernel_rfl) (by kernel_rfl) (by kernel_rfl) (fun _ _ _ h => h) (Or.inl ⟨by rfl, ?h18⟩) hHeld ?r18
                case h18 => (intro w hSw; (try dsimp only at hSw); go_simp; try with_reducible rfl)
                try simp only [Act.put, List.setIfInBounds_toArray, List.set_cons_zero, List.set_cons_succ]
                refine wpAnyH_take (i := 18) (oi := { dst := some 61, op := Go.Op.fieldAddr 89 (Go.Operand.tmp 60) 2, type := 0, pos := "l06_parsing.go:415", after := #[{ on := 17, ground := Go.Ground.data }], guard := none }) (v := ?v19) rfl (by kernel_rfl) (by kernel_rfl) (by kernel_rfl) (fun _ _ _ h => h) (Or.inl ⟨by rfl, ?h19⟩) hHeld ?r19
                case h19 => (intro w hSw; (try dsimp only at hSw); go_simp; try with_reducible rfl)
                try simp only [Act.put, List.setIfInBounds_toArray, List.set_cons_zero, List.set_cons_succ]
                refine wpAnyH_take (i := 19) (oi := { dst := some 62, op := Go.Op.load 3 (Go.Operand.tmp 61), type := 3, pos := "l06_parsing.go:415", after := #[{ on := 18, ground := Go.Ground.data }], guard := none }) (v := ?v20) rfl (by kernel_rfl) (by kernel_rfl) (by kernel_rfl) (fun _ _ _ h => h) (Or.inl ⟨by rfl, ?h20⟩) hHeld ?r20
                case h20 => (intro w hSw; (try dsimp only at hSw); go_simp; try with_reducible rfl)
                try simp only [Act.put, List.setIfInBounds_toArray, List.set_cons_zero, List.set_cons_succ]
                refine wpAnyH_take (i := 20) (oi := { dst := some 63, op := Go.Op.indexAddr 51 (Go.Operand.tmp 58) (Go.Operand.tmp 62), type := 0, pos := "l06_parsing.go:415", after := #[{ on := 15, ground := Go.Ground.data }, { on := 19, ground := Go.Ground.data }], guard := none }) (v := ?v21) rfl (by kernel_rfl) (by kernel_rfl) (by kernel_rfl) (fun _ _ _ h => h) (Or.inl ⟨by rfl, ?h21⟩) hHeld ?r21
                case h21 => (intro w hSw; (try dsimp only at hSw); go_simp; try with_reducible rfl)
                try simp only [Act.put, List.setIfInBounds_toArray, List.set_cons_zero, List.set_cons_succ]
                refine wpAnyH_take (i := 21) (oi := { dst := some 64, op := Go.Op.fieldAddr 93 (Go.Operand.tmp 63) 1, type := 0, pos := "l06_parsing.go:415", after := #[{ on := 20, ground := Go.Ground.data }], guard := none }) (v := ?v22) rfl (by kernel_rfl) (by kernel_rfl) (by kernel_rfl) (fun _ _ _ h => h) (Or.inl ⟨by rfl, ?h22⟩) hHeld ?r22
                case h22 => (intro w hSw; (try dsimp only at hSw); go_simp; try with_reducible rfl)
                try simp only [Act.put, List.setIfInBounds_toArray, List.set_cons_zero, List.set_cons_succ]
                refine wpAnyH_take (i := 22) (oi := { dst := some 65, op := Go.Op.load 9 (Go.Operand.tmp 64), type := 9, pos := "l06_parsing.go:415", after := #[{ on := 21, ground := Go.Ground.data }], guard := none }) (v := ?v23) rfl (by kernel_rfl) (by kernel_rfl) (by kernel_rfl) (fun _ _ _ h => h) (Or.inl ⟨by rfl, ?h23⟩) hHeld ?r23
                case h23 => (intro w hSw; (try dsimp only at hSw); go_simp; try with_reducible rfl)
                try simp only [Act.put, List.setIfInBounds_toArray, List.set_cons_zero, List.set_cons_succ]
                refine wpAnyH_ready (rs := [23]) (by kernel_rfl) (by simp) ?_
                refine AllReadyH.cons (o := { dst := some 66, op := Go.Op.call { callee := Go.Callee.value (Go.Operand.func 80), args := #[Go.Operand.tmp 54, Go.Operand.tmp 65], argTypes := #[9, 9] }, type := 48, pos := "l06_parsing.go:415", after := #[{ on := 11, ground := Go.Ground.data }, { on := 22, ground := Go.Ground.data }], guard := none }) rfl (fun K hK => ?_) AllReadyH.nil
                go_simp
                refine Calls.mono (leaf_s _ _ _) ?_
                rintro e w7 ⟨rfl, hb7⟩
                dsimp only
                have hb7 : Below wr.heap.size wr w7 := ⟨hb7.os, hb7.tape, hb7.output, hb7.size, hb7.block⟩
                have hS7 := HHS.out w7 hb7
                have HB7 := (show Hid _ from hb7)
                clear hHeld hb7
                refine hK.out _ _ hS7 (fun hHeld => ?_)
                clear hK K
                try simp only [Act.put, List.setIfInBounds_toArray, List.set_cons_zero, List.set_cons_succ]
                refine wpAnyH_ready (rs := [24]) (by kernel_rfl) (by simp) ?_
                refine AllReadyH.cons (o := { dst := some 67, op := Go.Op.buildSlice 46 1 #[(0, Go.Operand.tmp 66)], type := 46, pos := "l06_parsing.go:415", after := #[{ on := 23, ground := Go.Ground.data }], guard := none }) rfl (fun K hK => ?_) AllReadyH.nil
                go_simp
                have hba := bel_trans HB7.out (bel_alloc w7 (.cells #[.string X.name, .string X.text, .bool true, .slice none 0 0] 48))
                have hS8 := HHS.out _ hba
                have HO1 := (show Hid _ from (HSG.out.keep (w' := w7.alloc (.cells #[.string X.name, .string X.text, .bool true, .slice none 0 0] 48)) hba.size (fun q _ hq => hba.block q hq)))
                have HBA := (show Hid _ from hba)
                clear hHeld hba
                refine hK.out _ _ hS8 (fun hHeld => ?_)
                clear hK K
                try simp only [Act.put, List.setIfInBounds_toArray, List.set_cons_zero, List.set_cons_succ]
                refine wpAnyH_ready (rs := [25]) (by kernel_rfl) (by simp) ?_
                refine AllReadyH.cons (o := { dst := some 68, op := Go.Op.call { callee := Go.Callee.builtin Go.Builtin.append, args := #[Go.Operand.tmp 43, Go.Operand.tmp 67], argTypes := #[46, 46] }, type := 46, pos := "l06_parsing.go:415", after := #[{ on := 0, ground := Go.Ground.data }, { on := 24, ground := Go.Ground.data }, { on := 23, ground := Go.Ground.chain }], guard := none }) rfl (fun K hK => ?_) AllReadyH.nil
                (refine step_append_g _ rfl (.tmp 43) (.tmp 67) 46 rfl (w.heap.size + 2) 48 i48 _ 4 64 Try.underlying46 hi48 hz0 hz1 hz2 rfl (by decide) gu cu k'.length _ (by simp [Act.eval, Act.put]) HO1.out.own ⟨w7.heap.size, 0, none⟩ 1 1 [.string X.name, .string X.text, .bool true, .slice none 0 0] (by simp [Act.eval, Act.put]) rfl (T.cell_four_box w7 (.string X.name) (.string X.text) (.bool true) (.slice none 0 0) 48) (by intro y hy; simp at hy; rcases hy with rfl | rfl | rfl | rfl <;> rfl) (by unfold maxLen; omega) (by omega) (by have h1 := HBA.out.size; have h2 := HZR.out; omega) ?_; intro g8 c8 w8 hown8 hgr8 hat8)
                have HJ8 := (show Hid _ from leaf_join HO1.out HLSM.out hown8 hgr8 hat8)
                have hT8 := (HTG.out.still HBA.out).keep (w' := w8) (fun q hq => hgr8.block q (by have h1 := HBA.out.size; have h4 := HTG.out.box.lt; omega) (fun e => by injection e with e; have h5 := HO1.out.lt; have h6 := HRB.out; omega))
                have hS9 : (fun w' => w'.cell? ⟨R, 4, none⟩ = some (.slice (some ⟨bw, ow, none⟩) W.length cw) ∧ w'.cell? ⟨R, 5, none⟩ = some (.int .i64 (t1 : Int)) ∧ w'.cell? ⟨bw, ow + t1 * 6, none⟩ = some (.string X.name) ∧ w'.cell? ⟨bw, ow + t1 * 6 + 1, none⟩ = some (.string X.text)) w8 := HTS.out w8 hT8
                have y5 : w8.cell? ⟨R, 5, none⟩ = some (.int .i64 (t1 : Int)) := hT8.box.cell 5 (by simp)
                have z5 : w8.frozen? ⟨R, 5, none⟩ = false := hT8.box.frozen 5
                have HK8 : Hid (Kp (w.heap.size + 2) R wq w8) := (HKP.out.trans ((Below.kp HBA.out R).mono HZR.out)).trans ⟨hgr8.os, hgr8.tape, hgr8.output, hgr8.size, fun q h1 h2 => hgr8.block q (by have h3 := HBA.out.size; have h5 := HKP.out.size; omega) (fun e => by injection e with e; have h5 := HO1.out.lt; omega)⟩
                have HT8 := (show Hid _ from hT8)
                clear hHeld hown8 hgr8 hat8 hT8
                refine hK.out _ _ hS9 (fun hHeld => ?_)
                clear hK K
                try simp only [Act.put, List.setIfInBounds_toArray, List.set_cons_zero, List.set_cons_succ]
                refine wpAnyH_take (i := 26) (oi := { dst := some 6, op := Go.Op.assign (Go.Operand.tmp 68), type := 46, pos := "l06_parsing.go:415", after := #[{ on := 25, ground := Go.Ground.data }, { on := 25, ground := Go.Ground.chain }, { on := 0, ground := Go.Ground.phase }, { on := 1, ground := Go.Ground.phase }, { on := 2, ground := Go.Ground.phase }, { on := 3, ground := Go.Ground.phase }, { on := 4, ground := Go.Ground.phase }, { on := 5, ground := Go.Ground.phase }, { on := 6, ground := Go.Ground.phase }, { on := 7, ground := Go.Ground.phase }, { on := 8, ground := Go.Ground.phase }, { on := 9, ground := Go.Ground.phase }, { on := 10, ground := Go.Ground.phase }, { on := 11, ground := Go.Ground.phase }, { on := 12, ground := Go.Ground.phase }, { on := 13, ground := Go.Ground.phase }, { on := 14, ground := Go.Ground.phase }, { on := 15, ground := Go.Ground.phase }, { on := 16, ground := Go.Ground.phase }, { on := 17, ground := Go.Ground.phase }, { on := 18, ground := Go.Ground.phase }, { on := 19, ground := Go.Ground.phase }, { on := 20, ground := Go.Ground.phase }, { on := 21, ground := Go.Ground.phase }, { on := 22, ground := Go.Ground.phase }, { on := 23, ground := Go.Ground.phase }, { on := 24, ground := Go.Ground.phase }, { on := 25, ground := Go.Ground.phase }], guard := none }) (v := ?v24) rfl (by kernel_rfl) (by kernel_rfl) (by kernel_rfl) (fun _ _ _ h => h) (Or.inl ⟨by rfl, ?h24⟩) hHeld ?r24
                case h24 => (intro w hSw; (try dsimp only at hSw); go_simp; try with_reducible rfl)
                try simp only [Act.put, List.setIfInBounds_toArray, List.set_cons_zero, List.set_cons_succ]
                refine wpAnyH_done (by kernel_rfl) ?_ _
                have kw : IntKind.i64.wrap ((t1 : Int) + 1) = (t1 : Int) + 1 := by simp [IntKind.wrap, IntKind.bits, IntKind.signed]; omega
                have HNX : Hid (Kp (w.heap.size + 2) R wq (w8.setCell ⟨R, 5, none⟩ (.int .i64 ((t1 : Int) + 1))) ∧ (∃ t1', TgI d S S' R (.slice a0 d.terms.length c0) (.slice (some ⟨bn, on, none⟩) d.nons.length c1) (.slice (some ⟨bp, op, none⟩) d.prods.length c3) (.slice (some ⟨bw, ow, none⟩) W.length cw) W (w8.setCell ⟨R, 5, none⟩ (.int .i64 ((t1 : Int) + 1))) t1' ∧ W.drop t1' = (tp d L f a (j + 1) ws).2) ∧ k' ++ [lf X] = (tp d L f a (j + 1) ws).1 ∧ SG (w8.setCell ⟨R, 5, none⟩ (.int .i64 ((t1 : Int) + 1))) (w.heap.size + 2) (k' ++ [lf X]) (.slice (some ⟨g8, 0, none⟩) (k'.length + 1) c8)) := by
                  refine ⟨HK8.out.setCell (.inl rfl) _, ⟨t1 + 1, ?_, HPX.out.2⟩, HPX.out.1, ?_⟩
                  · have h1 := HT8.out.next hlt
                    push_cast at h1
                    exact h1
                  · obtain ⟨fs8, K8, h8⟩ := HJ8.out
                    exact ⟨fs8, K8, g8, c8, by simp, h8.keep (by simp [World.setCell]) (fun q hq _ => Below.heap_setCell _ _ _ _ (by show q ≠ R; have := HRB.out; omega))⟩
                clear HK8 HT8 HJ8 HO1 HBA HB7
                go_wp2_with fail
                exact ⟨⟨j + 1, x, k' ++ [lf X], some ⟨g8, 0, none⟩, c8, by simp, by rw [HCNN.out], by go_num, by omega, HATN, by simpa using HNX⟩, by simp [intOf]; omega⟩
            · have hd : decide (y - d.terms.length < 0) = false := by simp; omega
              rw [hd]
              obtain ⟨c, hc, hat⟩ := HT2.out.2 (by omega)
              have hts := HT1.out
              rw [if_neg hyt] at hts
              obtain ⟨n1, n2, n3, n4⟩ := HNJ.out c hat
              rw [if_neg hyt] at n3
              have HCNN : Hid (cn d.terms.length (P.right.take (j + 1)) = m + 1) := by have := HT3.out; rw [if_neg hyt] at this; exact this
              have HATN := (show Hid (atP d L f a (j + 1) = some c) from hat)
              have hmCN := HT5.out (by omega)
              obtain ⟨e2, hKk⟩ := HKB.out (by omega)
              subst e2
              obtain ⟨z0, z1, hsp⟩ := HT4.out (by omega)
              obtain ⟨_, hbx0, _, hlow⟩ := HBX.out w6 HKP6.out
              have y1 : w6.cell? ⟨w.heap.size, 1, none⟩ = some (.slice (some ⟨kb, 0, none⟩) CN kc) := hbx0.cell 1 (by simp)
              have hkbR := HKR.out kb hKk
              have z0' : w6.cell? ⟨kb, m * 2, none⟩ = some (.int .i64 (numAt L x)) := (World.cell?_of_block (w := w) (hlow kb (lt_of_cell z0) (by omega))).trans z0
              have z1' : w6.cell? ⟨kb, m * 2 + 1, none⟩ = some (sv j) := (World.cell?_of_block (w := w) (hlow kb (lt_of_cell z1) (by omega))).trans z1
              have hxc := (rd_gt d L _ _ _ _ hc).1
              have HIH := (show Hid _ from IH.out x c y (sv j) w6 t1 HTG6.out (SP.keep (fun q hq hlt => hlow q hlt (by have := HKR.out q hq; omega)) _ _ _ hsp) hc (by omega) (by rw [HDK.out.1]; exact n3))
              have hgvl := gv_len d L f y x c (W.drop t1) hc
              have hW1 : (W.drop t1).length ≤ 1000 := by have := HWL.out; simp; omega
              have hgl1 : (gv d L f x (W.drop t1)).1.length ≤ 5000 := by omega
              have hkb : k'.length ≤ 5000 := by rw [HDK.out.2]; exact n4
              have HPY := (show Hid (k' ++ (gv d L f x (W.drop t1)).1 = (tp d L f a (j + 1) ws).1 ∧ (gv d L f x (W.drop t1)).2 = (tp d L f a (j + 1) ws).2) from by
                rw [hts, ← HDK.out.1, ← HDK.out.2]
                exact ⟨rfl, rfl⟩)
              clear hd hat hts n1 n2 n3 n4 HT1 HT2 HT3 HT4 HT5 HNJ HDK hc hKk z0 z1 hsp hbx0 hlow hgvl hW1 hxc
              obtain ⟨KN, hKN⟩ : ∃ KN, numAt L x = KN := ⟨_, rfl⟩
              rw [hKN] at HIH z0'
              clear hKN
              obtain ⟨SV, hSV⟩ : ∃ SV, sv j = SV := ⟨_, rfl⟩
              rw [hSV] at HIH z1'
              clear hSV
              go_wp2_with fail
              refine Calls.mono HIH.out ?_
              rintro e w7 ⟨u7, t2, rfl, hk7, ht7, hd7, ⟨fs7, K7, g7, c7, rfl, hs7⟩, -⟩
              obtain ⟨SKL, hSKL⟩ : ∃ SKL, (gv d L f x (W.drop t1)).1 = SKL := ⟨_, rfl⟩
              rw [hSKL] at hs7 HPY hgl1
              rw [hSKL]
              clear hSKL
              have hs6 := HSG6.out.keep (w' := w7) hk7.size (fun q h1 h2 => hk7.block q h2 (by have := HRB.out; omega))
              have hgl := HSG6.out.lt
              have HS6 := (show Hid _ from hs6)
              have HS7 := (show Hid _ from hs7)
              have HT7 := (show Hid _ from ht7)
              have HK7 := (show Hid _ from hk7)
              have HD7 := (show Hid (W.drop t2 = (tp d L f a (j + 1) ws).2) from by rw [hd7]; exact HPY.out.2)
              have HGL := (show Hid _ from hgl)
              clear hk7 ht7 hd7 hs7 hs6 hgl HIH y1 z0' z1'
              go_wp2_with (at_builtin; refine wpList_append_g _ rfl (.tmp 76) (.tmp 83) 46 rfl (w.heap.size + 2) 48 i48 _ 4 64 Try.underlying46 hi48 hz0 hz1 hz2 rfl (by decide) gu cu k'.length _ rfl HS6.out.own ⟨g7, 0, none⟩ SKL.length c7 (T.kc SKL fs7 SKL.length) rfl (T.kc_len _ _ _) HS7.out.cells HS7.out.one ?c3 ?c5 ?c4 ?nx)
              case c3 => unfold maxLen; omega
              case c5 => omega
              case c4 => have := HK7.out.size; omega
              case nx =>
                intro g9 c9 w9 hown9 hgr9 hat9
                have hj9 := HS6.out.join HS7.out (by omega) HGL.out.2 hown9 hgr9 hat9
                have ht9 := HT7.out.keep (w' := w9) (fun q hq => hgr9.block q (by have h1 := HK7.out.size; have h4 := HT7.out.box.lt; omega) (fun e => by injection e with e; have h5 := HGL.out; have h6 := HRB.out; omega))
                have HNX : Hid (Kp (w.heap.size + 2) R wq w9 ∧ (∃ t1', TgI d S S' R (.slice a0 d.terms.length c0) (.slice (some ⟨bn, on, none⟩) d.nons.length c1) (.slice (some ⟨bp, op, none⟩) d.prods.length c3) vw W w9 t1' ∧ W.drop t1' = (tp d L f a (j + 1) ws).2) ∧ k' ++ SKL = (tp d L f a (j + 1) ws).1 ∧ SG w9 (w.heap.size + 2) (k' ++ SKL) (.slice (some ⟨g9, 0, none⟩) (k'.length + SKL.length) c9)) := ⟨(HKP6.out.trans (HK7.out.mono hz6)).trans ⟨hgr9.os, hgr9.tape, hgr9.output, hgr9.size, fun q h1 h2 => hgr9.block q (by have h1 := HK7.out.size; omega) (fun e => by injection e with e; have h5 := HGL.out; omega)⟩, ⟨t2, ht9, HD7.out⟩, HPY.out.1, _, _, g9, c9, by simp, hj9⟩
                have kw : IntKind.i64.wrap ((m : Int) + 1) = (m : Int) + 1 := by simp [IntKind.wrap, IntKind.bits, IntKind.signed]; omega
                clear hown9 hgr9 hat9 hj9 ht9 HS6 HS7 HT7 HK7 HGL HD7 HPY HKP6 HTG6 HSG6
                go_wp2_with fail
                exact ⟨⟨j + 1, c, k' ++ SKL, some ⟨g9, 0, none⟩, c9, by simp, by rw [HCNN.out]; go_num, by go_num, by omega, HATN, by simpa using HNX⟩, by simp [intOf]; omega⟩
        · have hje : j = P.right.length := by omega
          have hdk := HDK.out
          rw [hje] at hdk
          have HDF := (show Hid _ from hdk)
          have x0 : wr.cell? ⟨R, 0, none⟩ = some (.slice a0 d.terms.length c0) := htg.box.cell 0 (by simp)
          have x1 : wr.cell? ⟨R, 1, none⟩ = some (.slice (some ⟨bn, on, none⟩) d.nons.length c1) := htg.box.cell 1 (by simp)
          have x2 : wr.cell? ⟨R, 2, none⟩ = some (.int .i64 d.own) := htg.box.cell 2 (by simp)
          have x3 : wr.cell? ⟨R, 3, none⟩ = some (.slice (some ⟨bp, op, none⟩) d.prods.length c3) := htg.box.cell 3 (by simp)
          obtain ⟨_, _, hbx1, _⟩ := HBX.out wr HKP.out
          have l0 : wr.cell? ⟨w.heap.size + 1, 0, none⟩ = some (.int .i64 P.left) := hbx1.cell 0 (by simp)
          have HV := (show Hid _ from fun w' => non_s a0 d.terms.length c0 (.slice (some ⟨bn, on, none⟩) d.nons.length c1) (.int .i64 d.own) (.slice (some ⟨bp, op, none⟩) d.prods.length c3) P.left w' (by omega) (by omega) (by omega))
          have HDR := (show Hid _ from (Below.refl wr.heap.size wr).drew)
          have HBX1 := (show Hid _ from hbx1)
          clear htg hdk hje hlow HDK hbx1
          go_upto_region 13 with fail
          go_cut [9] from 87 to 93 (fun v wx => v = .int .i64 (m0 : Nat) ∧ Hid (Below wr.heap.size wr wx))
          case first =>
            clear IH HKA HKD HKB HA0 HTS0 HNS HCN HCL HRI HI0 HXJ HTG HSG HKP HBX HTGQ HCQ HNMS HNM HRN HKD2 HDF HBX1
            go_region_with (go_at_call 68; refine Calls.mono (HV.out _) ?_; rintro e w2 ⟨rfl, rfl⟩)
            all_goals
              go_wp2_with fail
              go_meet
              exact ⟨by rw [← hm0], HDR.out.alloc (Nat.le_refl _) _⟩
          case rest =>
            obtain ⟨w6, rfl⟩ : ∃ w6, w6 = wc := ⟨_, rfl⟩
            obtain ⟨rfl, HC6⟩ := hcut
            have HKP6 := (show Hid (Kp w.heap.size R w w6) from (Below.kp HCQ.out.1 R).trans ((HKP.out.trans ((Below.kp HC6.out R).mono (by have h1 := HKP.out.size; omega))).mono (by omega)))
            have HTG6 := (show Hid _ from HTG.out.still HC6.out)
            have HSG6 := (show Hid _ from HSG.out.keep (w' := w6) HC6.out.size (fun q _ hq => HC6.out.block q hq))
            have b2 : w6.cell? ⟨R, 2, none⟩ = some (.int .i64 d.own) := HTG6.out.box.cell 2 (by simp)
            have b1 : w6.cell? ⟨R, 1, none⟩ = some (.slice (some ⟨bn, on, none⟩) d.nons.length c1) := HTG6.out.box.cell 1 (by simp)
            have l2 : w6.cell? ⟨w.heap.size + 1, 2, none⟩ = some (.string P.label) := (HBX1.out.still HC6.out).cell 2 (by simp)
            have n1 : w6.cell? ⟨bn, on + m0, none⟩ = some (.string NM) := HRNK.out w6 HKP6.out
            have hz6 : w.heap.size ≤ w6.heap.size := HKP6.out.size
            clear x0 x1 x2 x3 HV HDR l0 HKP HTG HSG HC6 HBX1
            by_cases hown : P.left - (d.terms.length : Int) < d.own
            · have hkd := HKD2.out
              rw [if_pos hown] at hkd
              have HKF := (show Hid _ from hkd)
              have i9 : ¬ d.own ≤ (m0 : Int) := by omega
              have HFIN := (show Hid (∀ w8, Below w6.heap.size w6 w8 → GvA d L S S' R (.slice a0 d.terms.length c0) (.slice (some ⟨bn, on, none⟩) d.nons.length c1) (.slice (some ⟨bp, op, none⟩) d.prods.length c3) vw W (f + 1) a t w (.returned (.slice (some ⟨w8.heap.size, 0, none⟩) 1 1)) (w8.alloc (.cells #[.string (ndN d P), .string ⟨#[]⟩, .bool false, .slice (some ⟨gu, 0, none⟩) k'.length cu] 48))) from fun w8 hb => by
                have hba := bel_trans hb (bel_alloc w8 (.cells #[.string (ndN d P), .string ⟨#[]⟩, .bool false, .slice (some ⟨gu, 0, none⟩) k'.length cu] 48))
                refine ⟨_, t1, rfl, HKP6.out.trans ((Below.kp hba R).mono hz6), HTG6.out.still hba, ?_, ?_, fun _ => ?_⟩
                · rw [HWS.out, HKF.out]
                  exact HDF.out.1
                · rw [HWS.out, HKF.out]
                  have h1 := ((HSG6.out.keep (w' := w8) hb.size (fun q _ hq => hb.block q hq)).low (B' := w.heap.size) (by omega)).single (ndN d P) HNMS.out (by have := hb.size; omega)
                  dsimp only
                  rw [← HDF.out.2]
                  exact h1
                · rw [HWS.out, HP.out]
                  have hba1 := bel_alloc w8 (.cells #[.string (ndN d P), .string ⟨#[]⟩, .bool false, .slice (some ⟨gu, 0, none⟩) k'.length cu] 48)
                  have h1 := ((HSG6.out.keep (w' := w8) hb.size (fun q _ hq => hb.block q hq)).low (B' := w.heap.size) (by omega))
                  have h2 := h1.keep hba1.size (fun q _ hq => hba1.block q hq)
                  show SN _ _ _ (tp d L f a P.right.length ws).1 _
                  rw [← HDF.out.2]
                  exact ⟨gu, cu, w8.heap.size, _, _, rfl, h2, Box.new w8 48 [.string (ndN d P), .string ⟨#[]⟩, .bool false, .slice (some ⟨gu, 0, none⟩) k'.length cu], h1.lt.2, by simp⟩)
              clear hown hkd HKF
              by_cases hl0 : P.label.size = 0
              · have i5 : P.label.toList.isEmpty = true := by rw [T.isEmpty_iff]; simp [hl0]
                have HE : Hid (ndN d P = NM) := by have := HNM.out; rw [if_pos hl0] at this; exact this
                have hmi : (0 : Int) ≤ (m0 : Int) ∧ (m0 : Int) < (d.nons.length : Int) := by omega
                clear hl0
                go_wp2_with fail
                refine Calls.mono (node_s _ _ _ _ _) ?_
                rintro e w8 ⟨rfl, hb8⟩
                have HF8 := (show Hid _ from HFIN.out w8 hb8)
                rw [HE.out] at HF8
                clear hb8
                go_wp2_with fail
                go_ret
                exact HF8.out
              · have i5 : P.label.toList.isEmpty = false := by rw [T.isEmpty_iff]; simp [hl0]
                have HE : Hid (ndN d P = P.label) := by have := HNM.out; rw [if_neg hl0] at this; exact this
                clear hl0
                go_wp2_with fail
                refine Calls.mono (node_s _ _ _ _ _) ?_
                rintro e w8 ⟨rfl, hb8⟩
                have HF8 := (show Hid _ from HFIN.out w8 hb8)
                rw [HE.out] at HF8
                clear hb8
                go_wp2_with fail
                go_ret
                exact HF8.out
            · have hkd := HKD2.out
              rw [if_neg hown] at hkd
              have i9 : d.own ≤ (m0 : Int) := by omega
              have HFIN := (show Hid (GvA d L S S' R (.slice a0 d.terms.length c0) (.slice (some ⟨bn, on, none⟩) d.nons.length c1) (.slice (some ⟨bp, op, none⟩) d.prods.length c3) vw W (f + 1) a t w (.returned (.slice (some ⟨gu, 0, none⟩) k'.length cu)) w6) from by
                refine ⟨_, t1, rfl, HKP6.out, HTG6.out, ?_, ?_, fun h => absurd (by rw [HP.out] at h; exact h) hown⟩
                · rw [HWS.out, hkd]
                  exact HDF.out.1
                · rw [HWS.out, hkd, ← HDF.out.2]
                  exact ⟨_, _, gu, cu, rfl, HSG6.out.low (by omega)⟩)
              clear hown hkd
              go_wp2_with fail
              go_ret
              exact HFIN.out
end Go.Proofs.Ytpmlagenakcdfaa
