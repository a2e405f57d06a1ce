import Derived.Test.YtledclkmeikgdaaXYa
import Derived.Test.YtledclkmeikgdaaXRight
import Derived.Test.YtledclkmeikgdaaXSize
import Derived.Test.YtledclkmeikgdaaXTs
import Derived.Test.YtledclkmeikgdaaWb
import Derived.Test.YtledclkmeikgdaaXDe
import Derived.Test.YtledclkmeikgdaaXAt3
import Derived.Test.YtledclkmeikgdaaSw
import Derived.Test.YtledclkmeikgdaaSm
import Derived.Test.YtledclkmeikgdaaGb
import Derived.Deep.RegionHeld3
/-! A right tree holds little. -/
namespace Go.Proofs.Ytledclkmeikgdaa.T
set_option linter.unusedVariables false
set_option maxRecDepth 100000
set_option linter.unusedSimpArgs false

theorem Tr.len_le_cntL : ∀ k : List Tr, k.length ≤ Tr.cntL k
  | [] => Nat.zero_le _
  | t :: r => by
    have h := Tr.len_le_cntL r
    have h1 := Tr.cnt_pos t
    have e : Tr.cntL (t :: r) = t.cnt + Tr.cntL r := by simp [Tr.cntL]
    simp only [List.length_cons]
    omega
theorem Tr.cnt_mem (k : List Tr) (i : Nat) (h : i < k.length) : k[i].cnt ≤ Tr.cntL k := by
  have h1 := Tr.cntL_take_succ k i h
  have h2 := Tr.cntL_take_le k (i + 1)
  omega
theorem Tr.wtL_right : ∀ (k : List Tr), (∀ i (hi : i < k.length), k[i].right = true → k[i].wt + 1 ≤ 225 * k[i].cnt) → Tr.rightL k = true → k.length + Tr.wtL k ≤ 225 * Tr.cntL k
  | [], _, _ => by simp [Tr.wtL]
  | t :: r, h, hr => by
    have hr2 : t.right = true ∧ Tr.rightL r = true := by
      unfold Tr.rightL at hr ⊢
      rw [List.all_cons, Bool.and_eq_true] at hr
      exact hr
    have h0 := h 0 (by simp)
    simp only [List.getElem_cons_zero] at h0
    have h0' := h0 hr2.1
    have h1 := Tr.wtL_right r (fun i hi => by have := h (i + 1) (by simp; omega); simpa using this) hr2.2
    have e : Tr.cntL (t :: r) = t.cnt + Tr.cntL r := by simp [Tr.cntL]
    have e2 : Tr.wtL (t :: r) = t.wt + Tr.wtL r := by simp [Tr.wtL]
    simp only [List.length_cons]
    omega
/-- A right tree holds little. -/
theorem Tr.wt_right (t : Tr) : t.right = true → t.wt + 1 ≤ 225 * t.cnt := by
  refine Tr.ind (P := fun t => t.right = true → t.wt + 1 ≤ 225 * t.cnt) ?_ t
  intro n x l k ih hr
  rw [Tr.right_mk, Bool.and_eq_true] at hr
  rw [Tr.wt_mk, Tr.cnt_mk]
  have h1 := Tr.wtL_right k ih hr.2
  have hn : n.size ≤ 24 := by
    have h := hr.1
    unfold Tr.alone at h
    rw [Bool.and_eq_true] at h
    obtain ⟨_, h2, _⟩ := nmB_iff.1 h.1
    exact h2
  have hx : x.size ≤ 200 := by
    rcases Tr.alone_yes hr.1 with ⟨_, _, h⟩ | ⟨_, h⟩
    · exact h
    · rw [isEmpty_iff, decide_eq_true_eq] at h
      omega
  omega
theorem ok_wt {t : Tr} (h : t.ok = true) : t.wt ≤ 1048576 := by
  have h1 := Tr.wt_right t (ok_right h)
  have h2 : t.cnt ≤ 1000 := by
    unfold Tr.ok at h
    simp only [Bool.and_eq_true, decide_eq_true_eq] at h
    exact h.1.1
  omega
end Go.Proofs.Ytledclkmeikgdaa.T

/-! The law FnTermScopes, walked. -/
namespace Go.Proofs.Ytledclkmeikgdaa
open Go.RowKit Go.Deep Go.Lib
open Go.Proofs.Ytledclkmeikgdaa.T (Tr)
set_option linter.unusedVariables false
set_option maxRecDepth 100000
set_option linter.unusedSimpArgs false

/-- What is answered, with the values as they are. -/
theorem ScA.vals {s : Sw} {cd : Int} {w w' : World} {e : Ending} (h : ScA (s, cd) w e w') : ∃ (A : Nat) (a1 a2 a3 a4 a5 : Option Addr) (p1 p2 p3 p4 p5 : Nat) (D R : Nat → Value), e = .returned (.tuple #[.agg #[.int .i64 (s.n : Nat), .slice a1 s.es.length p1, .slice a2 s.ds.length p2, .slice a3 s.rs.length p3], .slice a4 s.dp.length p4, .slice a5 s.rp.length p5, .int .i64 cd]) ∧ Below w.heap.size w w' ∧ Ow w' A s ⟨.slice a1 s.es.length p1, .slice a2 s.ds.length p2, .slice a3 s.rs.length p3, .slice a4 s.dp.length p4, .slice a5 s.rp.length p5, D, R⟩ := by
  obtain ⟨A, c, he, hA, hb, ho⟩ := h
  obtain ⟨v1, v2, v3, v4, v5, D, R⟩ := c
  obtain ⟨a1, p1, e1, _⟩ := own_ne ho.e
  obtain ⟨a2, p2, e2, _⟩ := own_ne ho.d
  obtain ⟨a3, p3, e3, _⟩ := own_ne ho.r
  obtain ⟨a4, p4, e4, _⟩ := own_ne ho.dp.out
  obtain ⟨a5, p5, e5, _⟩ := own_ne ho.rp.out
  dsimp only at e1 e2 e3 e4 e5
  subst e1 e2 e3 e4 e5
  exact ⟨A, a1, a2, a3, a4, a5, p1, p2, p3, p4, p5, D, R, he, hb, ho⟩
theorem scR_ok {t : Tr} (h : (scR t).2 = 0) : t.ok = true ∧ sgB (sgW (scR t).1) = true ∧ Good t (scR t).1 ∧ nSw (scR t).1 = idN t ∧ (scR t).1.Nm := by
  have hnm := scR_nm t
  unfold scR at h hnm ⊢
  by_cases h1 : (t.ok && T.tm t) = false
  · rw [if_pos h1] at h; cases h
  rw [if_neg h1] at h hnm ⊢
  by_cases h2 : sgB (sgW (sw t 0 [] (sw0 1))) = false
  · rw [if_pos h2] at h; cases h
  rw [if_neg h2] at h hnm ⊢
  have h3 : t.ok = true ∧ T.tm t = true := by
    have : (t.ok && T.tm t) = true := by simpa using h1
    rwa [Bool.and_eq_true] at this
  refine ⟨h3.1, by simpa using h2, sw_good t t h3.2 0 [] _ rfl (Good.start t 1), ?_, hnm⟩
  rw [sw_num t h3.2 (T.ok_right h3.1)]
  simp [nSw, sw0]
/-- What stands while the law goes on. -/
structure LT (w : World) (t : Tr) (g3 g8 : Nat) (tv : Value) (A : Nat) (s : Sw) (c : CV) (W : World) : Prop where
  bel : Below w.heap.size w W
  b3 : Box W g3 40 [.string t.name, .string t.text, .bool t.leaf, tv]
  lt : T.Lies W (fun _ => True) t tv
  b8 : Box W g8 27 [.int .i64 (s.n : Nat), c.v1, c.v2, c.v3]
  og : Ow W A s c
theorem LT.still {w W W' : World} {t : Tr} {g3 g8 : Nat} {tv : Value} {A : Nat} {s : Sw} {c : CV} (h : LT w t g3 g8 tv A s c W) (hb : Below W.heap.size W W') : LT w t g3 g8 tv A s c W' :=
  ⟨h.bel.trans (hb.mono h.bel.size), h.b3.still hb, h.lt.still hb, h.b8.still hb, h.og.still hb⟩
theorem cells4' {w : World} {b ty : Nat} {c0 c1 c2 c3 : Value} (h : Box w b ty [c0, c1, c2, c3]) : w.cell? ⟨b, 0, none⟩ = some c0 ∧ w.cell? ⟨b, 1, none⟩ = some c1 ∧ w.cell? ⟨b, 2, none⟩ = some c2 ∧ w.cell? ⟨b, 3, none⟩ = some c3 :=
  ⟨h.cell 0 (by simp), h.cell 1 (by simp), h.cell 2 (by simp), h.cell 3 (by simp)⟩
/-- A row of paths: where the i-th lies. -/
theorem RRv.at {W : World} {B : Nat} {ls : List (List Nat)} {a : Option Addr} {p : Nat} {vs : Nat → Value} (h : RRv W B ls (.slice a ls.length p) vs) (i : Nat) (hi : i < ls.length) : ∃ b, a = some ⟨b, 0, none⟩ ∧ W.cell? ⟨b, i, none⟩ = some (vs i) := by
  rcases h.out.2 with ⟨e, h0⟩ | ⟨g, cap, cur, e, _⟩
  · omega
  · cases e
    refine ⟨g, rfl, ?_⟩
    rw [World.ownsRow.cellAt h.out _ (by omega), slv_get vs hi]
theorem RRv.ints {W : World} {B : Nat} {ls : List (List Nat)} {v : Value} {vs : Nat → Value} (h : RRv W B ls v vs) (i : Nat) (hi : i < ls.length) : Ints W (fun _ => True) (natI ls[i]) (vs i) := by
  have h1 := h.row i hi
  have hl : (natI ls[i]).length = ls[i].length := by simp [natI]
  rcases h1.2 with ⟨e, h0⟩ | ⟨g, cap, cur, e, _, _, h4, h5, _⟩
  · exact ⟨none, 0, 0, 0, by rw [e, hl, h0], by omega, Nat.zero_le _, fun h => by omega, fun q hq => by omega⟩
  · refine ⟨some ⟨g, 0, none⟩, cap, g, 0, by rw [e, hl], by omega, h5, fun _ => ⟨rfl, trivial⟩, fun q hq => ?_⟩
    rw [e] at h1
    rw [Nat.zero_add, World.ownsRow.cellAt h1 _ (by omega)]
    simp only [natI, List.length_map] at hq
    simp [nums, natI, hq]
/-- A row of spots: where the i-th name lies. -/
theorem spot_at {W : World} {B : Nat} {l : List DSpot} {a : Option Addr} {p : Nat} (h : W.ownsRow B 33 2 (.slice a l.length p) l.length (spL l)) (i : Nat) (hi : i < l.length) : ∃ b, a = some ⟨b, 0, none⟩ ∧ W.cell? ⟨b, i * 2 + 1, none⟩ = some (.string l[i].name) := by
  rcases h.2 with ⟨e, h0⟩ | ⟨g, cap, cur, e, _⟩
  · omega
  · cases e
    refine ⟨g, rfl, ?_⟩
    rw [World.ownsRow.cellAt h _ (by omega), (spL_at l i hi).2]
set_option maxHeartbeats 25600000 in
theorem lawTm {cs : List UInt8} {a : Option Addr} {cap b off : Nat} (w : World) (h3 : cs.length ≤ cap) (h4 : cap ≤ 2 ^ 63 - 1) (h6 : 0 < cs.length → a = some ⟨b, off, none⟩) (h7 : T.Byts w cs b off) :
    Calls Try.prog 4 #[.slice a cs.length cap] w fun e w' => e = .returned (.bool true) ∧ Below w.heap.size w w' := by
  have HBG := (show Hid _ from big6 a cs.length cap w (by omega))
  by_cases h2 : cs.length ≤ 1048576
  case neg =>
    rw [decide_eq_true (by omega)] at HBG
    go_enter Try.func4, Try.ntmps4
    go_wp2_with fail
    refine Calls.mono HBG.out ?_
    rintro e w1 ⟨rfl, rfl⟩
    go_wp2_with fail
    go_ret
    exact ⟨rfl, Below.refl _ _⟩
  rw [decide_eq_false (by omega)] at HBG
  have HDM := (show Hid (∀ W : World, Below w.heap.size w W → Calls Try.prog 12 #[.slice a cs.length cap] W fun e w' => T.DrewS (T.dSc cs) W e w') from fun W hW => T.drawSc_any W h2 h3 h4 (fun h => by have := T.lt_of_cell (h7 0 h); have h8 := hW.size; dsimp only at this; omega) h6 (fun i hi => (hW.cell (T.lt_of_cell (h7 i hi))).trans (h7 i hi)))
  unfold T.DrewS at HDM
  generalize T.dSc cs = t at *
  have HSP := (show Hid (∀ (wq : World) (v' : Value), T.Lies wq (fun b => b < wq.heap.size) t v' → Calls Try.prog 13 #[t.val v'] wq (ScA (scR t) wq)) from fun wq v' hl => sc13 t v' wq hl)
  have HIM := (show Hid (∀ (wq : World) (v' : Value), T.Lies wq (fun b => b < wq.heap.size) t v' → Calls Try.prog 14 #[t.val v'] wq (ScA (scR t) wq)) from fun wq v' hl => iSc14 t v' wq hl)
  have HPU := (show Hid ((scR t).2 = 0 → t.ok = true ∧ sgB (sgW (scR t).1) = true ∧ Good t (scR t).1 ∧ nSw (scR t).1 = idN t ∧ (scR t).1.Nm) from scR_ok)
  generalize (scR t) = R at *
  obtain ⟨s, cd⟩ := R
  dsimp only at HPU
  simp only [T.Tr.val] at HDM HSP HIM
  clear h2 h3 h4 h6 h7
  go_enter Try.func4, Try.ntmps4
  go_wp2_with fail
  refine Calls.mono HBG.out ?_
  rintro e w0 ⟨rfl, hw0⟩
  subst w0
  go_wp2_with fail
  refine Calls.mono (HDM.out _ (Below.refl _ _)) ?_
  rintro e w1 ⟨xa, xm, xc, rfl, hb1, hl1⟩
  have hba := bel_alloc w1 (.cells #[.string t.name, .string t.text, .bool t.leaf, .slice xa xm xc] 40)
  have HB1 := (show Hid (Below w.heap.size w (w1.alloc (.cells #[.string t.name, .string t.text, .bool t.leaf, .slice xa xm xc] 40))) from bel_trans hb1 hba)
  have HX1 := (show Hid (Box (w1.alloc (.cells #[.string t.name, .string t.text, .bool t.leaf, .slice xa xm xc] 40)) w1.heap.size 40 [.string t.name, .string t.text, .bool t.leaf, .slice xa xm xc]) from Box.new w1 40 [.string t.name, .string t.text, .bool t.leaf, .slice xa xm xc])
  have HL1 := (show Hid (T.Lies (w1.alloc (.cells #[.string t.name, .string t.text, .bool t.leaf, .slice xa xm xc] 40)) (fun _ => True) t (.slice xa xm xc)) from (hl1.mono (fun _ _ => trivial)).still hba)
  clear hb1 hl1 hba HBG
  have HC2 := (show Hid _ from HDM.out _ HB1.out)
  go_wp2_with fail
  refine Calls.mono HC2.out ?_
  rintro e w2 ⟨ya, ym, yc, rfl, hb2, hl2⟩
  have HB2 := (show Hid (Below w.heap.size w w2) from bel_trans HB1.out hb2)
  have HX2 := (show Hid (Box w2 w1.heap.size 40 [.string t.name, .string t.text, .bool t.leaf, .slice xa xm xc]) from HX1.out.still hb2)
  have HL2 := (show Hid (T.Lies w2 (fun _ => True) t (.slice xa xm xc)) from T.Lies.still HL1.out hb2)
  have HC3 := (show Hid _ from HSP.out w2 (.slice ya ym yc) (hl2.lt.mono (fun q hq => hq.2)))
  clear hb2 hl2 HC2 HB1 HX1 HL1 HSP HDM
  go_wp2_with fail
  refine Calls.mono HC3.out ?_
  intro e w3 hsc
  obtain ⟨A3, a1, a2, a3, a4, a5, p1, p2, p3, p4, p5, D3, R3, rfl, hb3, ho3⟩ := ScA.vals hsc
  clear hsc ho3 HC3
  have hb3' := bel_trans hb3 (bel_alloc w3 (.cells #[.int .i64 (s.n : Nat), .slice a1 s.es.length p1, .slice a2 s.ds.length p2, .slice a3 s.rs.length p3] 27))
  have HB4 := (show Hid (Below w.heap.size w (w3.alloc (.cells #[.int .i64 (s.n : Nat), .slice a1 s.es.length p1, .slice a2 s.ds.length p2, .slice a3 s.rs.length p3] 27))) from bel_trans HB2.out hb3')
  have HX4 := (show Hid (Box (w3.alloc (.cells #[.int .i64 (s.n : Nat), .slice a1 s.es.length p1, .slice a2 s.ds.length p2, .slice a3 s.rs.length p3] 27)) w1.heap.size 40 [.string t.name, .string t.text, .bool t.leaf, .slice xa xm xc]) from HX2.out.still hb3')
  have HL4 := (show Hid (T.Lies (w3.alloc (.cells #[.int .i64 (s.n : Nat), .slice a1 s.es.length p1, .slice a2 s.ds.length p2, .slice a3 s.rs.length p3] 27)) (fun _ => True) t (.slice xa xm xc)) from T.Lies.still HL2.out hb3')
  have HY4 := (show Hid (Box (w3.alloc (.cells #[.int .i64 (s.n : Nat), .slice a1 s.es.length p1, .slice a2 s.ds.length p2, .slice a3 s.rs.length p3] 27)) w3.heap.size 27 [.int .i64 (s.n : Nat), .slice a1 s.es.length p1, .slice a2 s.ds.length p2, .slice a3 s.rs.length p3]) from Box.new w3 27 [.int .i64 (s.n : Nat), .slice a1 s.es.length p1, .slice a2 s.ds.length p2, .slice a3 s.rs.length p3])
  clear hb3 hb3' HB2 HX2 HL2
  have HC5 := (show Hid _ from HIM.out _ (.slice xa xm xc) (HL4.out.lt.mono (fun q hq => hq.2)))
  obtain ⟨k0, k1, k2, k3⟩ := cells4' HX4.out
  clear HIM
  go_wp2_with fail
  clear k0 k1 k2 k3
  refine Calls.mono HC5.out ?_
  intro e w5 hsc
  obtain ⟨A, b1, b2, b3, b4, b5, q1, q2, q3, q4, q5, D, R, rfl, hb5, ho5⟩ := ScA.vals hsc
  clear hsc HC5
  have hba := bel_alloc w5 (.cells #[.int .i64 (s.n : Nat), .slice b1 s.es.length q1, .slice b2 s.ds.length q2, .slice b3 s.rs.length q3] 27)
  have hb5' := bel_trans hb5 hba
  have HM := (show Hid (LT w t w1.heap.size w5.heap.size (.slice xa xm xc) A s ⟨.slice b1 s.es.length q1, .slice b2 s.ds.length q2, .slice b3 s.rs.length q3, .slice b4 s.dp.length q4, .slice b5 s.rp.length q5, D, R⟩ (w5.alloc (.cells #[.int .i64 (s.n : Nat), .slice b1 s.es.length q1, .slice b2 s.ds.length q2, .slice b3 s.rs.length q3] 27))) from
    ⟨bel_trans HB4.out hb5', HX4.out.still hb5', T.Lies.still HL4.out hb5', Box.new w5 27 [.int .i64 (s.n : Nat), .slice b1 s.es.length q1, .slice b2 s.ds.length q2, .slice b3 s.rs.length q3], ho5.still hba⟩)
  obtain ⟨m0, m1, m2, m3⟩ := cells4' (HY4.out.still hb5')
  have hlt8 : w3.heap.size < w5.heap.size := by have := (HY4.out.still hb5).lt; exact this
  obtain ⟨n0, n1, n2, n3⟩ := cells4' (HY4.out.still hb5)
  clear hb5 hb5' hba ho5 HB4 HX4 HL4 HY4
  obtain ⟨k0, k1, k2, k3⟩ := cells4' HM.out.b8
  have hx : True := trivial
  by_cases hcd : cd = 0
  case neg =>
    have hne : (cd != 0) = true := by simpa using hcd
    go_wp2_with fail
    go_ret
    exact ⟨rfl, HM.out.bel⟩
  subst hcd
  obtain ⟨hok, hsg, hgd, hns, hnm⟩ := HPU.out rfl
  have HG := (show Hid _ from hgd)
  have HOK := (show Hid _ from hok)
  have hwt := T.ok_wt hok
  have HC6 := (show Hid _ from iSg12 (sgW s) _ _ _ _ (HM.out.og.sg hnm))
  have hf : s.ds.length ≤ 120 ∧ s.rs.length ≤ 120 := by
    unfold sgB spsB at hsg
    simp only [Bool.and_eq_true, decide_eq_true_eq] at hsg
    exact ⟨hsg.2.2.1.1, hsg.2.2.2.1.1⟩
  obtain ⟨hf2, hf3⟩ := hf
  rw [hsg] at HC6
  have HNS := (show Hid (s.ds.length + s.rs.length = idN t) from hns)
  have hcnt : idN t ≤ 1048576 := by have := HNS.out; omega
  have HC7 := (show Hid (∀ W', T.Lies W' (fun _ => True) t (.slice xa xm xc) → Calls Try.prog 16 #[t.val (.slice xa xm xc)] W' fun e w' => e = .returned (.int .i64 (idN t : Nat)) ∧ Below W'.heap.size W' w') from fun W' hl => ids16 t _ W' hl hcnt)
  simp only [T.Tr.val, sgW] at HC6 HC7
  have hf4 : s.dp.length ≤ 120 := by have := HG.out.d; omega
  have hf5 : s.rp.length ≤ 120 := by have := HG.out.r; omega
  have f1 : ((s.dp.length : Int) != (s.ds.length : Int)) = false := by have := HG.out.d; simp; omega
  have f2 : ((s.rp.length : Int) != (s.rs.length : Int)) = false := by have := HG.out.r; simp; omega
  have f3 : ((idN t : Int) != (s.dp.length : Int) + (s.rp.length : Int)) = false := by have h1 := HG.out.d; have h2 := HG.out.r; have h3 := HNS.out; simp; omega
  have f1' : (s.dp.length : Int) = (s.ds.length : Int) := by have := HG.out.d; omega
  have F1 := (show Hid _ from f1')
  clear HPU hgd hns hok hsg hnm f1'
  have HAT := (show Hid (∀ (W' : World) (l : List Int) (pv : Value), T.Lies W' (fun _ => True) t (.slice xa xm xc) → Ints W' (fun _ => True) l pv → Calls Try.prog 17 #[t.val (.slice xa xm xc), pv] W' fun e w' => T.Ans (T.atR t l) W' e w') from fun W' l pv h1 h2 => T.iAt_any t l _ pv W' h1 h2 hwt)
  simp only [T.Tr.val] at HAT
  go_wp2_with fail
  refine Calls.mono HC6.out ?_
  rintro e w6 ⟨rfl, hb6⟩
  have HM6 := (show Hid _ from LT.still HM.out hb6)
  clear HM HC6 hb6 k0 k1 k2 k3 m0 m1 m2 m3 n0 n1 n2 n3 hlt8
  obtain ⟨k0, k1, k2, k3⟩ := cells4' HM6.out.b8
  obtain ⟨j0, j1, j2, j3⟩ := cells4' HM6.out.b3
  have HC8 := (show Hid _ from HC7.out w6 HM6.out.lt)
  clear HC7
  go_wp2_with fail
  refine Calls.mono HC8.out ?_
  rintro e w7 ⟨rfl, hb7⟩
  have HM7 := (show Hid _ from LT.still HM6.out hb7)
  clear HM6 HC8 hb7 k0 k1 k2 k3 j0 j1 j2 j3
  go_wp2_with fail
  go_loopw [12] (fun i wr => ∃ (j : Nat), i = .int .i64 (j : Nat) ∧ j ≤ s.dp.length + s.rp.length ∧ Hid (LT w t w1.heap.size w5.heap.size (.slice xa xm xc) A s ⟨.slice b1 s.es.length q1, .slice b2 s.ds.length q2, .slice b3 s.rs.length q3, .slice b4 s.dp.length q4, .slice b5 s.rp.length q5, D, R⟩ wr)) (fun i _ => s.dp.length + s.rp.length - (intOf i).toNat)
  case atStart => exact ⟨0, rfl, Nat.zero_le _, HM7.out⟩
  case round =>
    obtain ⟨j, rfl, hj, HM8⟩ := hrel
    clear HM7
    obtain ⟨k0, k1, k2, k3⟩ := cells4' HM8.out.b8
    by_cases hlt : j < s.dp.length + s.rp.length
    case neg =>
      have hge : (s.dp.length : Int) + (s.rp.length : Int) ≤ (j : Int) := by omega
      go_wp2_with fail
      go_ret
      exact ⟨rfl, HM8.out.bel⟩
    have hlt' : (j : Int) < (s.dp.length : Int) + (s.rp.length : Int) := by omega
    by_cases hd : j < s.dp.length
    case pos =>
      have hd' : (j : Int) < (s.dp.length : Int) := by omega
      have hds : j < s.ds.length := by have := HG.out.d; omega
      have hds' : (j : Int) < (s.ds.length : Int) := by omega
      have hba := bel_alloc wr (.cells #[] 3)
      have HM9 := (show Hid _ from LT.still HM8.out hba)
      obtain ⟨g4, e4, x4⟩ := RRv.at HM8.out.og.dp j hd
      try dsimp only at e4 x4
      obtain ⟨g2, e2, x2⟩ := spot_at HM8.out.og.d j hds
      try dsimp only at e2 x2
      have y4 := (hba.cell (lt_of_cell x4)).trans x4
      have y2 := (hba.cell (lt_of_cell x2)).trans x2
      have l4 := lt_of_cell x4
      have l2 := lt_of_cell x2
      dsimp only at l4 l2
      subst e4 e2
      obtain ⟨u, hw, hn, hx⟩ := HG.out.dd j hds hd
      have hat := T.atR_yes HOK.out hw
      have HC9 := (show Hid _ from HAT.out (wr.alloc (.cells #[] 3)) (natI s.dp[j]) (D j) HM9.out.lt (RRv.ints HM9.out.og.dp j hd))
      rw [hat] at HC9
      unfold T.Ans at HC9
      simp only [T.Tr.val] at HC9
      have hx' : (u.text.toList == s.ds[j].name.toList) = true := by rw [hx]; exact beq_self_eq_true _
      have hn' : (u.name.toList == [73, 100]) = true := hn
      obtain ⟨ra, rc, hrv⟩ := own_ne (HM8.out.og.dp.row j hd)
      have hrv : D j = Value.slice ra (s.dp[j]).length rc := hrv.1
      rw [hrv] at x4 y4 HC9
      obtain ⟨j0, j1, j2, j3⟩ := cells4' HM8.out.b3
      obtain ⟨i0, i1, i2, i3⟩ := cells4' HM9.out.b3
      obtain ⟨h0, h1, h2, h3⟩ := cells4' HM9.out.b8
      have l8 : w5.heap.size < wr.heap.size := HM8.out.b8.lt
      have l3 : w1.heap.size < wr.heap.size := HM8.out.b3.lt
      clear hba hw hx hat
      generalize s.ds[j].name = nm at *
      go_wp2_with fail
      refine Calls.mono HC9.out ?_
      rintro e w9 ⟨za, zm, zc, rfl, hb9, hl9⟩
      have HMa := (show Hid _ from LT.still HM9.out (bel_trans hb9 (bel_alloc w9 (.cells #[.string u.name, .string u.text, .bool u.leaf, .slice za zm zc] 40))))
      clear k0 k1 k2 k3 x4 x2 y4 y2 l4 l2 j0 j1 j2 j3 i0 i1 i2 i3 h0 h1 h2 h3 l8 l3 HM9 HM8 HC9
      go_wp2_with fail
      exact ⟨⟨j + 1, by go_num, by omega, HMa.out⟩, by simp [intOf]; omega⟩
    case neg =>
      obtain ⟨q, rfl⟩ : ∃ q, j = s.dp.length + q := ⟨j - s.dp.length, by omega⟩
      have hq : q < s.rp.length := by omega
      have hsub : ((s.dp.length + q : Nat) : Int) - (s.dp.length : Int) = (q : Int) := by omega
      have hd' : (s.dp.length : Int) ≤ ((s.dp.length + q : Nat) : Int) := by omega
      have hq' : (q : Int) < (s.rp.length : Int) := by omega
      have hds : q < s.rs.length := by have := HG.out.r; omega
      have hds' : (q : Int) < (s.rs.length : Int) := by omega
      have hba := bel_alloc wr (.cells #[] 3)
      have HM9 := (show Hid _ from LT.still HM8.out hba)
      obtain ⟨g4, e4, x4⟩ := RRv.at HM8.out.og.rp q hq
      try dsimp only at e4 x4
      obtain ⟨g2, e2, x2⟩ := spot_at HM8.out.og.r q hds
      try dsimp only at e2 x2
      have y4 := (hba.cell (lt_of_cell x4)).trans x4
      have y2 := (hba.cell (lt_of_cell x2)).trans x2
      have l4 := lt_of_cell x4
      have l2 := lt_of_cell x2
      dsimp only at l4 l2
      subst e4 e2
      obtain ⟨u, hw, hn, hx⟩ := HG.out.rr q hds hq
      have hat := T.atR_yes HOK.out hw
      have HC9 := (show Hid _ from HAT.out (wr.alloc (.cells #[] 3)) (natI s.rp[q]) (R q) HM9.out.lt (RRv.ints HM9.out.og.rp q hq))
      rw [hat] at HC9
      unfold T.Ans at HC9
      simp only [T.Tr.val] at HC9
      have hx' : (u.text.toList == s.rs[q].name.toList) = true := by rw [hx]; exact beq_self_eq_true _
      have hn' : (u.name.toList == [73, 100]) = true := hn
      obtain ⟨ra, rc, hrv⟩ := own_ne (HM8.out.og.rp.row q hq)
      have hrv : R q = Value.slice ra (s.rp[q]).length rc := hrv.1
      rw [hrv] at x4 y4 HC9
      obtain ⟨j0, j1, j2, j3⟩ := cells4' HM8.out.b3
      obtain ⟨i0, i1, i2, i3⟩ := cells4' HM9.out.b3
      obtain ⟨h0, h1, h2, h3⟩ := cells4' HM9.out.b8
      have l8 : w5.heap.size < wr.heap.size := HM8.out.b8.lt
      have l3 : w1.heap.size < wr.heap.size := HM8.out.b3.lt
      clear hba hw hx hat
      generalize s.rs[q].name = nm at *
      go_wp2_with fail
      refine Calls.mono HC9.out ?_
      rintro e w9 ⟨za, zm, zc, rfl, hb9, hl9⟩
      have HMa := (show Hid _ from LT.still HM9.out (bel_trans hb9 (bel_alloc w9 (.cells #[.string u.name, .string u.text, .bool u.leaf, .slice za zm zc] 40))))
      clear k0 k1 k2 k3 x4 x2 y4 y2 l4 l2 j0 j1 j2 j3 i0 i1 i2 i3 h0 h1 h2 h3 l8 l3 HM9 HM8 HC9
      go_wp2_with fail
      exact ⟨⟨s.dp.length + q + 1, by go_num, by omega, HMa.out⟩, by simp [intOf]; omega⟩
end Go.Proofs.Ytledclkmeikgdaa
