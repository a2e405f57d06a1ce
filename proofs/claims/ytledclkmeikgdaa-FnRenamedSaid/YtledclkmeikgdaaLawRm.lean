import Derived.Test.YtledclkmeikgdaaKg
import Derived.Test.YtledclkmeikgdaaKh
import Derived.Test.YtledclkmeikgdaaHp
import Derived.Test.YtledclkmeikgdaaHq
import Derived.Test.YtledclkmeikgdaaHa
import Derived.Deep.RegionHeld3
/-! The law FnRenamed, walked. -/
namespace Go.Proofs.Ytledclkmeikgdaa
open Go.RowKit Go.Deep
set_option linter.unusedVariables false
set_option maxRecDepth 100000
set_option linter.unusedSimpArgs false

theorem rnR_zero {t : DSg} {d : Int} {nm : ByteArray} (h : (rnR t d nm).2 = 0) : ∃ q : Nat, d = (q : Int) ∧ q < t.decls.length ∧ sgB t = true ∧ sgB (rnT t q nm) = true ∧ (rnR t d nm).1 = rnT t q nm ∧ (rnT t q nm).refs.map (rsv (rnT t q nm)) = t.refs.map (rsv t) := by
  by_cases h1 : sgB t = true ∧ nmB nm = true
  · by_cases h2 : 0 ≤ d ∧ d < t.decls.length
    · obtain ⟨q, rfl⟩ : ∃ q : Nat, d = (q : Int) := ⟨d.toNat, by omega⟩
      have hq : q < t.decls.length := by omega
      cases h3 : twB t (q : Int)
      · by_cases h4 : (rnT t q nm).refs.map (rsv (rnT t q nm)) = t.refs.map (rsv t)
        · exact ⟨q, rfl, hq, h1.1, rnT_ok h1.1 h1.2, by rw [rnR_ok h1 hq h3 h4], h4⟩
        · rw [rnR_catch h1 hq h3 h4] at h; cases h
      · rw [rnR_twice h1 hq h3] at h; cases h
    · rw [rnR_place h1 h2] at h; cases h
  · rw [rnR_bad h1] at h; cases h
theorem reR_same {t u : DSg} (h1 : sgB t = true) (h2 : sgB u = true) (h : u.refs.map (rsv u) = t.refs.map (rsv t)) {i : Nat} (hi : i < t.refs.length) : reR u (i : Int) = reR t (i : Int) := by
  have hl : u.refs.length = t.refs.length := by have := congrArg List.length h; simpa using this
  have hi2 : i < u.refs.length := by omega
  have he : rsv u u.refs[i] = rsv t t.refs[i] := by
    have := congrArg (·[i]?) h
    simp only [List.getElem?_map, List.getElem?_eq_getElem hi, List.getElem?_eq_getElem hi2, Option.map_some] at this
    injection this
  by_cases h3 : rsv t t.refs[i] = []
  · rw [reR_none h1 hi h3, reR_none h2 hi2 (he.trans h3)]
  · rw [reR_some h1 hi h3, reR_some h2 hi2 (fun e => h3 (he.symm.trans e)), he]
theorem RnB.vals {R : DSg × Int} {w w' : World} {e : Ending} (h : RnB R w e w') : ∃ (a1 a2 a3 : Option Addr) (p1 p2 p3 : Nat), e = .returned (.tuple #[.agg #[.int .i64 R.1.scopes, .slice a1 R.1.edges.length p1, .slice a2 R.1.decls.length p2, .slice a3 R.1.refs.length p3], .int .i64 R.2]) ∧ Below w.heap.size w w' ∧ DSgL w' (fun _ => True) R.1 (.slice a1 R.1.edges.length p1) (.slice a2 R.1.decls.length p2) (.slice a3 R.1.refs.length p3) := by
  obtain ⟨u1, u2, u3, he, hb, hl⟩ := h
  obtain ⟨a1, p1, e1, _⟩ := hl.edges.form
  obtain ⟨a2, p2, e2, _⟩ := hl.decls.form
  obtain ⟨a3, p3, e3, _⟩ := hl.refs.form
  subst e1 e2 e3
  exact ⟨a1, a2, a3, p1, p2, p3, he, hb, hl⟩
theorem spotR_at {w : World} {l : List DSpot} {a : Option Addr} {p : Nat} (h : SpotR w (fun _ => True) l (.slice a l.length p)) {i : Nat} (hi : i < l.length) : ∃ b off, a = some ⟨b, off, none⟩ ∧ w.cell? ⟨b, off + i * 2, none⟩ = some (.int .i64 l[i].scope) ∧ w.cell? ⟨b, off + i * 2 + 1, none⟩ = some (.string l[i].name) ∧ off + l.length * 2 ≤ off + p * 2 := by
  obtain ⟨a', cap, b, off, hv, hc, hm, ha, hcell⟩ := h
  cases hv
  exact ⟨b, off, (ha (by omega)).1, (hcell i hi).1, (hcell i hi).2.1, by omega⟩
/-- What stands while the law goes on. -/
structure LRn (w : World) (G T : DSg) (g3 g8 : Nat) (v1 v2 v3 u1 u2 u3 : Value) (W : World) : Prop where
  bel : Below w.heap.size w W
  b3 : Box W g3 27 [.int .i64 G.scopes, v1, v2, v3]
  b8 : Box W g8 27 [.int .i64 T.scopes, u1, u2, u3]
  lg : DSgL W (fun _ => True) G v1 v2 v3
  lt : DSgL W (fun _ => True) T u1 u2 u3
theorem LRn.still {w W W' : World} {G T : DSg} {g3 g8 : Nat} {v1 v2 v3 u1 u2 u3 : Value} (h : LRn w G T g3 g8 v1 v2 v3 u1 u2 u3 W) (hb : Below W.heap.size W W') : LRn w G T g3 g8 v1 v2 v3 u1 u2 u3 W' :=
  ⟨h.bel.trans (hb.mono h.bel.size), h.b3.still hb, h.b8.still hb, h.lg.still hb, h.lt.still hb⟩
set_option maxHeartbeats 25600000 in
theorem lawRm {cs : List UInt8} {a : Option Addr} {cap b off : Nat} (w : World) (h3 : cs.length ≤ cap) (h4 : cap ≤ 2 ^ 63 - 1) (h6 : 0 < cs.length → a = some ⟨b, off, none⟩) (h7 : T.Byts w cs b off) :
    Calls Try.prog 3 #[.slice a cs.length cap] w fun e w' => e = .returned (.bool true) ∧ Below w.heap.size w w' := by
  have HBG := (show Hid _ from big6r a cs.length cap w (by omega))
  by_cases h2 : cs.length ≤ 1048576
  case neg =>
    rw [decide_eq_true (by omega)] at HBG
    go_enter Try.func3, Try.ntmps3
    go_wp2_with fail
    refine Calls.mono HBG.out ?_
    rintro e w1 ⟨rfl, rfl⟩
    go_wp2_with fail
    go_ret
    exact ⟨rfl, Below.refl _ _⟩
  rw [decide_eq_false (by omega)] at HBG
  have HDM := (show Hid _ from drawRename w h2 h3 h4 (fun h => by have := lt_of_cell (h7 0 h); dsimp only at this; exact this) h6 h7)
  clear h2 h3 h4 h6 h7
  go_enter Try.func3, Try.ntmps3
  go_wp2_with fail
  refine Calls.mono HBG.out ?_
  rintro e w0 ⟨rfl, hw0⟩
  subst w0
  go_wp2_with fail
  refine Calls.mono HDM.out ?_
  rintro e w1 ⟨G, v1, v2, v3, d, nm, rfl, hb1, hrd, hnm⟩
  obtain ⟨a1, p1, e1⟩ := hrd.e.form
  obtain ⟨a2, p2, e2⟩ := hrd.d.form
  obtain ⟨a3, p3, e3⟩ := hrd.r.form
  subst e1 e2 e3
  have hba := bel_alloc w1 (.cells #[.int .i64 G.scopes, .slice a1 G.edges.length p1, .slice a2 G.decls.length p2, .slice a3 G.refs.length p3] 27)
  have HB1 := (show Hid (Below w.heap.size w (w1.alloc (.cells #[.int .i64 G.scopes, .slice a1 G.edges.length p1, .slice a2 G.decls.length p2, .slice a3 G.refs.length p3] 27))) from bel_trans hb1 hba)
  have HX1 := (show Hid (Box (w1.alloc (.cells #[.int .i64 G.scopes, .slice a1 G.edges.length p1, .slice a2 G.decls.length p2, .slice a3 G.refs.length p3] 27)) w1.heap.size 27 [.int .i64 G.scopes, .slice a1 G.edges.length p1, .slice a2 G.decls.length p2, .slice a3 G.refs.length p3]) from Box.new w1 27 _)
  have HR1 := (show Hid (RdG (w1.alloc (.cells #[.int .i64 G.scopes, .slice a1 G.edges.length p1, .slice a2 G.decls.length p2, .slice a3 G.refs.length p3] 27)) G (.slice a1 G.edges.length p1) (.slice a2 G.decls.length p2) (.slice a3 G.refs.length p3)) from hrd.still hba)
  have HRZ := (show Hid ((rnR G d nm).2 = 0 → ∃ q : Nat, d = (q : Int) ∧ q < G.decls.length ∧ sgB G = true ∧ sgB (rnT G q nm) = true ∧ (rnR G d nm).1 = rnT G q nm ∧ (rnT G q nm).refs.map (rsv (rnT G q nm)) = G.refs.map (rsv G)) from rnR_zero)
  have HC2 := (show Hid _ from (sRn22 (S := fun _ => True) G _ _ _ d nm _ HR1.out (by unfold maxLen; omega)).mono (fun e w' h => RnB.vals (RnA.b h)))
  have HIR := (show Hid (∀ W, RdG W G (.slice a1 G.edges.length p1) (.slice a2 G.decls.length p2) (.slice a3 G.refs.length p3) → Calls Try.prog 9 #[.agg #[.int .i64 G.scopes, .slice a1 G.edges.length p1, .slice a2 G.decls.length p2, .slice a3 G.refs.length p3], .int .i64 d, .string nm] W _) from fun W hW => (iRn23 (S := fun _ => True) G _ _ _ d nm W hW (by unfold maxLen; omega)).mono (fun e w' h => RnB.vals h))
  clear hb1 hrd hnm hba HBG HDM
  generalize rnR G d nm = RR at *
  obtain ⟨T, cd⟩ := RR
  dsimp only at HC2 HIR HRZ
  obtain ⟨k0, k1, k2, k3⟩ := cellsX HX1.out
  go_wp2_with fail
  clear k0 k1 k2 k3
  refine Calls.mono HC2.out ?_
  rintro e w2 ⟨s1, s2, s3, sp1, sp2, sp3, rfl, hb2, hl2⟩
  have hba := bel_alloc w2 (.cells #[.int .i64 T.scopes, .slice s1 T.edges.length sp1, .slice s2 T.decls.length sp2, .slice s3 T.refs.length sp3] 27)
  have hb2' := bel_trans hb2 hba
  have HB2 := (show Hid (Below w.heap.size w (w2.alloc (.cells #[.int .i64 T.scopes, .slice s1 T.edges.length sp1, .slice s2 T.decls.length sp2, .slice s3 T.refs.length sp3] 27))) from bel_trans HB1.out hb2')
  have HX2 := (show Hid (Box (w2.alloc (.cells #[.int .i64 T.scopes, .slice s1 T.edges.length sp1, .slice s2 T.decls.length sp2, .slice s3 T.refs.length sp3] 27)) w1.heap.size 27 [.int .i64 G.scopes, .slice a1 G.edges.length p1, .slice a2 G.decls.length p2, .slice a3 G.refs.length p3]) from HX1.out.still hb2')
  have HR2 := (show Hid (RdG (w2.alloc (.cells #[.int .i64 T.scopes, .slice s1 T.edges.length sp1, .slice s2 T.decls.length sp2, .slice s3 T.refs.length sp3] 27)) G (.slice a1 G.edges.length p1) (.slice a2 G.decls.length p2) (.slice a3 G.refs.length p3)) from HR1.out.still hb2')
  have HY2 := (show Hid (Box (w2.alloc (.cells #[.int .i64 T.scopes, .slice s1 T.edges.length sp1, .slice s2 T.decls.length sp2, .slice s3 T.refs.length sp3] 27)) w2.heap.size 27 [.int .i64 T.scopes, .slice s1 T.edges.length sp1, .slice s2 T.decls.length sp2, .slice s3 T.refs.length sp3]) from Box.new w2 27 _)
  have hle2 : G.edges.length ≤ maxLen ∧ G.decls.length ≤ maxLen := ⟨(HR1.out.lies.edges.form).choose_spec.choose_spec.2, (HR1.out.lies.decls.form).choose_spec.choose_spec.2⟩
  clear hb2 hl2 hba hb2' HB1 HX1 HR1 HC2 hle2
  have HC3 := (show Hid _ from HIR.out _ HR2.out)
  obtain ⟨k0, k1, k2, k3⟩ := cellsX HX2.out
  go_wp2_with fail
  clear k0 k1 k2 k3
  refine Calls.mono HC3.out ?_
  rintro e w3 ⟨t1, t2, t3, tp1, tp2, tp3, rfl, hb3, hl3⟩
  have hba := bel_alloc w3 (.cells #[.int .i64 T.scopes, .slice t1 T.edges.length tp1, .slice t2 T.decls.length tp2, .slice t3 T.refs.length tp3] 27)
  have hb3' := bel_trans hb3 hba
  have HM := (show Hid (LRn w G T w1.heap.size w3.heap.size (.slice a1 G.edges.length p1) (.slice a2 G.decls.length p2) (.slice a3 G.refs.length p3) (.slice t1 T.edges.length tp1) (.slice t2 T.decls.length tp2) (.slice t3 T.refs.length tp3) (w3.alloc (.cells #[.int .i64 T.scopes, .slice t1 T.edges.length tp1, .slice t2 T.decls.length tp2, .slice t3 T.refs.length tp3] 27))) from
    ⟨bel_trans HB2.out hb3', HX2.out.still hb3', Box.new w3 27 _, (HR2.out.still hb3').lies, hl3.still hba⟩)
  obtain ⟨m0, m1, m2, m3⟩ := cellsX (HY2.out.still hb3')
  obtain ⟨n0, n1, n2, n3⟩ := cellsX (HY2.out.still hb3)
  obtain ⟨i0, i1, i2, i3⟩ := cellsX (HX2.out.still hb3)
  have hlt6 : w2.heap.size < w3.heap.size := (HY2.out.still hb3).lt
  have hlt3 : w1.heap.size < w3.heap.size := (HX2.out.still hb3).lt
  clear hb3 hb3' hba hl3 HB2 HX2 HR2 HY2 HC3 HIR
  obtain ⟨k0, k1, k2, k3⟩ := cellsX HM.out.b8
  obtain ⟨j0, j1, j2, j3⟩ := cellsX HM.out.b3
  by_cases hcd : cd = 0
  case neg =>
    have hne : (cd != 0) = true := by simpa using hcd
    go_wp2_with fail
    go_ret
    exact ⟨rfl, HM.out.bel⟩
  subst hcd
  obtain ⟨q, rfl, hq, hsg, hsT, hT, hmap⟩ := HRZ.out rfl
  subst hT
  have hqd : q < (rnT G q nm).decls.length := by show q < (rnD G q nm).length; rw [rnD_len]; exact hq
  have hnq : (rnT G q nm).decls[q].name = nm := by
    show ((rnD G q nm)[q]'(by rw [rnD_len]; exact hq)).name = nm
    have h1 : (rnD G q nm)[q]? = some ⟨G.decls[q].scope, nm⟩ := by rw [← rnD_set hq]; simp [hq]
    obtain ⟨h2, h3⟩ := List.getElem?_eq_some_iff.1 h1
    rw [h3]
  have hsc : (rnT G q nm).scopes = G.scopes := rfl
  have hel : (rnT G q nm).edges.length = G.edges.length := rfl
  have hrl : (rnT G q nm).refs.length = G.refs.length := rnF_len _ _ _ _
  have HSC := (show Hid (∀ i (hi : i < (rnT G q nm).refs.length) (hi2 : i < G.refs.length), (rnT G q nm).refs[i].scope = G.refs[i].scope) from fun i hi hi2 => rnF_scope hi)
  have HRE := (show Hid (∀ i, i < G.refs.length → reR (rnT G q nm) (i : Int) = reR G (i : Int)) from fun i hi => reR_same hsg hsT hmap hi)
  have HIG := (show Hid (∀ W (i : Nat), DSgL W (fun _ => True) G (.slice a1 G.edges.length p1) (.slice a2 G.decls.length p2) (.slice a3 G.refs.length p3) → Calls Try.prog 10 #[.agg #[.int .i64 G.scopes, .slice a1 G.edges.length p1, .slice a2 G.decls.length p2, .slice a3 G.refs.length p3], .int .i64 (i : Nat)] W (ReA (reR G (i : Int)) W)) from fun W i hW => iRes15 G _ _ _ (i : Int) W hW)
  have HIT := (show Hid (∀ W (i : Nat), DSgL W (fun _ => True) (rnT G q nm) (.slice t1 (rnT G q nm).edges.length tp1) (.slice t2 (rnT G q nm).decls.length tp2) (.slice t3 (rnT G q nm).refs.length tp3) → Calls Try.prog 10 #[.agg #[.int .i64 (rnT G q nm).scopes, .slice t1 (rnT G q nm).edges.length tp1, .slice t2 (rnT G q nm).decls.length tp2, .slice t3 (rnT G q nm).refs.length tp3], .int .i64 (i : Nat)] W (ReA (reR (rnT G q nm) (i : Int)) W)) from fun W i hW => iRes15 (rnT G q nm) _ _ _ (i : Int) W hW)
  clear HRZ hsg hsT hmap hq
  generalize rnT G q nm = T at *
  have hgl : G.refs.length ≤ 2 ^ 63 - 1 := by obtain ⟨_, _, _, h⟩ := HM.out.lg.refs.form; unfold maxLen at h; exact h
  have hgi : (G.refs.length : Int) ≤ 9223372036854775807 := by omega
  obtain ⟨gd, od, ed, xs0, xd, xs1⟩ := spotR_at HM.out.lt.decls hqd
  clear xs0 xs1
  have hqi : (q : Int) < (T.decls.length : Int) := by omega
  have lgd := lt_of_cell xd
  rw [hnq] at xd
  have hnn : (nm.toList == nm.toList) = true := beq_self_eq_true _
  have HEL := (show Hid (T.edges.length = G.edges.length) from hel)
  have HRL := (show Hid (T.refs.length = G.refs.length) from hrl)
  have f1 : (T.scopes != G.scopes) = false := by rw [hsc]; simp
  have f2 : ((T.edges.length : Int) != (G.edges.length : Int)) = false := by rw [hel]; simp
  subst ed
  clear hnq hsc hel hrl hqd
  go_wp2_with fail
  go_loopw [10] (fun i wr => ∃ (j : Nat), i = .int .i64 (j : Nat) ∧ j ≤ G.refs.length ∧ Hid (LRn w G T w1.heap.size w3.heap.size (.slice a1 G.edges.length p1) (.slice a2 G.decls.length p2) (.slice a3 G.refs.length p3) (.slice t1 T.edges.length tp1) (.slice (some ⟨gd, od, none⟩) T.decls.length tp2) (.slice t3 T.refs.length tp3) wr)) (fun i _ => G.refs.length - (intOf i).toNat)
  case atStart => exact ⟨0, rfl, Nat.zero_le _, HM⟩
  case round =>
    obtain ⟨j, rfl, hj, HM2⟩ := hrel
    clear HM k0 k1 k2 k3 j0 j1 j2 j3 m0 m1 m2 m3 n0 n1 n2 n3 i0 i1 i2 i3 xd lgd
    obtain ⟨j0, j1, j2, j3⟩ := cellsX HM2.out.b3
    by_cases hjl : j < G.refs.length
    case neg =>
      have hge : (G.refs.length : Int) ≤ (j : Int) := by omega
      go_wp2_with fail
      go_ret
      exact ⟨rfl, HM2.out.bel⟩
    have hjl' : (j : Int) < (G.refs.length : Int) := by omega
    have hre := HRE.out j hjl
    have HC4 := (show Hid _ from HIG.out wr j HM2.out.lg)
    have HT4 := (show Hid (∀ W, DSgL W (fun _ => True) T (.slice t1 T.edges.length tp1) (.slice (some ⟨gd, od, none⟩) T.decls.length tp2) (.slice t3 T.refs.length tp3) → Calls Try.prog 10 #[.agg #[.int .i64 T.scopes, .slice t1 T.edges.length tp1, .slice (some ⟨gd, od, none⟩) T.decls.length tp2, .slice t3 T.refs.length tp3], .int .i64 (j : Nat)] W (ReA (reR G (j : Int)) W)) from fun W hW => by rw [← hre]; exact HIT.out W j hW)
    clear hre
    generalize reR G (j : Int) = RE at *
    obtain ⟨L, ce⟩ := RE
    unfold ReA at HC4 HT4
    dsimp only at HC4 HT4
    go_wp2_with fail
    refine Calls.mono HC4.out ?_
    rintro e w4 ⟨la, lp, rfl, hb4, ho4⟩
    have HM4 := (show Hid _ from LRn.still HM2.out hb4)
    have HL4 := (show Hid (Ints w4 (fun _ => True) L (.slice la L.length lp)) from ownInts ho4)
    clear hb4 ho4 HM2 HC4 j0 j1 j2 j3
    obtain ⟨k0, k1, k2, k3⟩ := cellsX HM4.out.b8
    have HC5 := (show Hid _ from HT4.out w4 HM4.out.lt)
    go_wp2_with fail
    refine Calls.mono HC5.out ?_
    rintro e w5 ⟨lb, lq, rfl, hb5, ho5⟩
    have HM5 := (show Hid _ from LRn.still HM4.out hb5)
    have HL5 := (show Hid (Ints w5 (fun _ => True) L (.slice la L.length lp)) from HL4.out.still hb5)
    have HK5 := (show Hid (Ints w5 (fun _ => True) L (.slice lb L.length lq)) from ownInts ho5)
    clear hb5 ho5 HM4 HL4 HC5 HT4 k0 k1 k2 k3
    obtain ⟨b3, o3, e3, x3, xs0, xs1⟩ := spotR_at HM5.out.lg.refs hjl
    clear xs0 xs1
    have hjT : j < T.refs.length := by have := HRL.out; omega
    have hjTi : (j : Int) < (T.refs.length : Int) := by omega
    obtain ⟨b8, o8, e8, x8, xs0, xs1⟩ := spotR_at HM5.out.lt.refs hjT
    clear xs0 xs1
    rw [HSC.out j hjT hjl] at x8
    have hZ3 := HM5.out.b3
    subst e3 e8
    go_wp2_with fail
    have hbd : Below w5.heap.size w5 w5.drew := (Below.refl _ _).drew
    have HM6 := (show Hid _ from LRn.still HM5.out hbd)
    have y3 := (hbd.cell (lt_of_cell x3)).trans x3
    have y8 := (hbd.cell (lt_of_cell x8)).trans x8
    have HS6 := (show Hid _ from (same11 L L _ _ w5.drew (HL5.out.still hbd) (HK5.out.still hbd)))
    rw [decide_eq_true rfl] at HS6
    generalize G.refs[j].scope = sj at *
    have hsj : (sj != sj) = false := by simp
    have hce : (ce != ce) = false := by simp
    clear HM5 HL5 HK5 x3 x8 hZ3 hbd
    have hS := (show _ from (⟨(cellsX HM6.out.b3).2.2.2, (cellsX HM6.out.b8).2.2.2, y3, y8⟩ : _ ∧ _ ∧ _ ∧ _))
    refine wp_region_held_drew (S := (fun wq => wq.cell? ⟨w1.heap.size, 3, none⟩ = some (.slice (some ⟨b3, o3, none⟩) G.refs.length p3) ∧ wq.cell? ⟨w3.heap.size, 3, none⟩ = some (.slice (some ⟨b8, o8, none⟩) T.refs.length tp3) ∧ wq.cell? ⟨b3, o3 + j * 2, none⟩ = some (.int .i64 sj) ∧ wq.cell? ⟨b8, o8 + j * 2, none⟩ = some (.int .i64 sj))) (by kernel_rfl) hS (fun hHeld => ?_)
    clear hS
    generalize w5.drew = W6 at *
    refine wpAnyH_take (i := 0) (oi := { dst := some 103, op := Go.Op.move (Go.Operand.tmp 12), type := 3, pos := "laws.go:1241", after := #[], guard := none }) (v := ?v1) rfl (by kernel_rfl) (by kernel_rfl) (by kernel_rfl) (fun _ _ _ h => h) (Or.inl ⟨by rfl, ?h1⟩) hHeld ?r1
    case h1 => (intro w hSw; (try dsimp only at hSw); go_simp; try with_reducible rfl)
    try simp only [Act.put, List.setIfInBounds_toArray, List.set_cons_zero, List.set_cons_succ]
    refine wpAnyH_take (i := 1) (oi := { dst := some 104, op := Go.Op.move (Go.Operand.tmp 14), type := 3, pos := "laws.go:1241", after := #[], guard := none }) (v := ?v2) rfl (by kernel_rfl) (by kernel_rfl) (by kernel_rfl) (fun _ _ _ h => h) (Or.inl ⟨by rfl, ?h2⟩) hHeld ?r2
    case h2 => (intro w hSw; (try dsimp only at hSw); go_simp; try with_reducible rfl)
    try simp only [Act.put, List.setIfInBounds_toArray, List.set_cons_zero, List.set_cons_succ]
    refine wpAnyH_take (i := 2) (oi := { dst := some 105, op := Go.Op.binOp Go.BinOp.neq 3 (Go.Operand.tmp 103) (Go.Operand.tmp 104) 3, type := 4, pos := "laws.go:1241", after := #[{ on := 0, ground := Go.Ground.data }, { on := 1, ground := Go.Ground.data }], guard := none }) (v := ?v3) rfl (by kernel_rfl) (by kernel_rfl) (by kernel_rfl) (fun _ _ _ h => h) (Or.inl ⟨by rfl, ?h3⟩) hHeld ?r3
    case h3 => (intro w hSw; (try dsimp only at hSw); go_simp; try with_reducible rfl)
    try simp only [Act.put, List.setIfInBounds_toArray, List.set_cons_zero, List.set_cons_succ]
    refine wpAnyH_take (i := 3) (oi := { dst := some 106, op := Go.Op.move (Go.Operand.tmp 105), type := 4, pos := "laws.go:1241", after := #[{ on := 2, ground := Go.Ground.data }], guard := none }) (v := ?v4) rfl (by kernel_rfl) (by kernel_rfl) (by kernel_rfl) (fun _ _ _ h => h) (Or.inl ⟨by rfl, ?h4⟩) hHeld ?r4
    case h4 => (intro w hSw; (try dsimp only at hSw); go_simp; try with_reducible rfl)
    try simp only [Act.put, List.setIfInBounds_toArray, List.set_cons_zero, List.set_cons_succ]
    refine wpAnyH_take (i := 4) (oi := { dst := some 107, op := Go.Op.move (Go.Operand.tmp 11), type := 34, pos := "laws.go:1241", after := #[{ on := 3, ground := Go.Ground.guard }], guard := some (3, false) }) (v := ?v5) rfl (by kernel_rfl) (by kernel_rfl) (by kernel_rfl) (fun _ _ _ h => h) (Or.inl ⟨by rfl, ?h5⟩) hHeld ?r5
    case h5 => (intro w hSw; (try dsimp only at hSw); go_simp; try with_reducible rfl)
    try simp only [Act.put, List.setIfInBounds_toArray, List.set_cons_zero, List.set_cons_succ]
    refine wpAnyH_take (i := 5) (oi := { dst := some 108, op := Go.Op.move (Go.Operand.tmp 13), type := 34, pos := "laws.go:1241", after := #[{ on := 3, ground := Go.Ground.guard }], guard := some (3, false) }) (v := ?v6) rfl (by kernel_rfl) (by kernel_rfl) (by kernel_rfl) (fun _ _ _ h => h) (Or.inl ⟨by rfl, ?h6⟩) hHeld ?r6
    case h6 => (intro w hSw; (try dsimp only at hSw); go_simp; try with_reducible rfl)
    try simp only [Act.put, List.setIfInBounds_toArray, List.set_cons_zero, List.set_cons_succ]
    refine wpAnyH_ready (rs := [6]) (by kernel_rfl) (by simp) ?_
    refine (AllReadyH.cons (o := { dst := some 109, op := Go.Op.call { callee := Go.Callee.value (Go.Operand.func 11), args := #[Go.Operand.tmp 107, Go.Operand.tmp 108], argTypes := #[34, 34] }, type := 4, pos := "laws.go:1241", after := #[{ on := 4, ground := Go.Ground.data }, { on := 5, ground := Go.Ground.data }, { on := 3, ground := Go.Ground.chain }, { on := 3, ground := Go.Ground.guard }], guard := some (3, false) }) rfl (fun K hK => ?_) AllReadyH.nil)
    go_simp
    go_at_call 11
    refine Calls.mono HS6.out ?_
    rintro e w7 ⟨rfl, hb7⟩
    have HM7 := (show Hid _ from LRn.still HM6.out hb7)
    have z3 := (hb7.cell (lt_of_cell y3)).trans y3
    have z8 := (hb7.cell (lt_of_cell y8)).trans y8
    clear hb7 HM6 y3 y8 HS6
    have hS := (show _ from (⟨(cellsX HM7.out.b3).2.2.2, (cellsX HM7.out.b8).2.2.2, z3, z8⟩ : _ ∧ _ ∧ _ ∧ _))
    clear hHeld
    refine hK.out _ _ hS (fun hHeld => ?_)
    clear hK K
    try simp only [Act.put, List.setIfInBounds_toArray, List.set_cons_zero, List.set_cons_succ]
    refine wpAnyH_take (i := 7) (oi := { dst := some 110, op := Go.Op.unOp Go.UnOp.not 4 (Go.Operand.tmp 109), type := 4, pos := "laws.go:1241", after := #[{ on := 6, ground := Go.Ground.data }, { on := 3, ground := Go.Ground.guard }], guard := some (3, false) }) (v := ?v7) rfl (by kernel_rfl) (by kernel_rfl) (by kernel_rfl) (fun _ _ _ h => h) (Or.inl ⟨by rfl, ?h7⟩) hHeld ?r7
    case h7 => (intro w hSw; (try dsimp only at hSw); go_simp; try with_reducible rfl)
    try simp only [Act.put, List.setIfInBounds_toArray, List.set_cons_zero, List.set_cons_succ]
    refine wpAnyH_take (i := 8) (oi := { dst := some 111, op := Go.Op.pick (Go.Operand.tmp 106) (Go.Operand.const (Go.Value.bool true)) (Go.Operand.tmp 110), type := 4, pos := "laws.go:1241", after := #[{ on := 3, ground := Go.Ground.data }, { on := 7, ground := Go.Ground.data }], guard := none }) (v := ?v8) rfl (by kernel_rfl) (by kernel_rfl) (by kernel_rfl) (fun _ _ _ h => h) (Or.inl ⟨by rfl, ?h8⟩) hHeld ?r8
    case h8 => (intro w hSw; (try dsimp only at hSw); go_simp; try with_reducible rfl)
    try simp only [Act.put, List.setIfInBounds_toArray, List.set_cons_zero, List.set_cons_succ]
    refine wpAnyH_take (i := 9) (oi := { dst := some 112, op := Go.Op.move (Go.Operand.tmp 111), type := 4, pos := "laws.go:1241", after := #[{ on := 8, ground := Go.Ground.data }, { on := 6, ground := Go.Ground.chain }], guard := none }) (v := ?v9) rfl (by kernel_rfl) (by kernel_rfl) (by kernel_rfl) (fun _ _ _ h => h) (Or.inl ⟨by rfl, ?h9⟩) hHeld ?r9
    case h9 => (intro w hSw; (try dsimp only at hSw); go_simp; try with_reducible rfl)
    try simp only [Act.put, List.setIfInBounds_toArray, List.set_cons_zero, List.set_cons_succ]
    refine wpAnyH_take (i := 10) (oi := { dst := some 113, op := Go.Op.fieldAddr 27 (Go.Operand.tmp 8) 3, type := 0, pos := "laws.go:1241", after := #[{ on := 9, ground := Go.Ground.guard }], guard := some (9, false) }) (v := ?v10) rfl (by kernel_rfl) (by kernel_rfl) (by kernel_rfl) (fun _ _ _ h => h) (Or.inl ⟨by rfl, ?h10⟩) hHeld ?r10
    case h10 => (intro w hSw; (try dsimp only at hSw); go_simp; try with_reducible rfl)
    try simp only [Act.put, List.setIfInBounds_toArray, List.set_cons_zero, List.set_cons_succ]
    refine wpAnyH_take (i := 11) (oi := { dst := some 114, op := Go.Op.load 25 (Go.Operand.tmp 113), type := 25, pos := "laws.go:1241", after := #[{ on := 10, ground := Go.Ground.data }, { on := 9, ground := Go.Ground.guard }], guard := some (9, false) }) (v := ?v11) rfl (by kernel_rfl) (by kernel_rfl) (by kernel_rfl) (fun _ _ _ h => h) (Or.inl ⟨by rfl, ?h11⟩) hHeld ?r11
    case h11 => (intro w hSw; (try dsimp only at hSw); go_simp; try with_reducible rfl)
    try simp only [Act.put, List.setIfInBounds_toArray, List.set_cons_zero, List.set_cons_succ]
    refine wpAnyH_take (i := 12) (oi := { dst := some 115, op := Go.Op.move (Go.Operand.tmp 10), type := 3, pos := "laws.go:1241", after := #[{ on := 9, ground := Go.Ground.guard }], guard := some (9, false) }) (v := ?v12) rfl (by kernel_rfl) (by kernel_rfl) (by kernel_rfl) (fun _ _ _ h => h) (Or.inl ⟨by rfl, ?h12⟩) hHeld ?r12
    case h12 => (intro w hSw; (try dsimp only at hSw); go_simp; try with_reducible rfl)
    try simp only [Act.put, List.setIfInBounds_toArray, List.set_cons_zero, List.set_cons_succ]
    refine wpAnyH_take (i := 13) (oi := { dst := some 116, op := Go.Op.indexAddr 25 (Go.Operand.tmp 114) (Go.Operand.tmp 115), type := 0, pos := "laws.go:1241", after := #[{ on := 11, ground := Go.Ground.data }, { on := 12, ground := Go.Ground.data }, { on := 9, ground := Go.Ground.guard }], guard := some (9, false) }) (v := ?v13) rfl (by kernel_rfl) (by kernel_rfl) (by kernel_rfl) (fun _ _ _ h => h) (Or.inl ⟨by rfl, ?h13⟩) hHeld ?r13
    case h13 => (intro w hSw; (try dsimp only at hSw); go_simp; try with_reducible rfl)
    try simp only [Act.put, List.setIfInBounds_toArray, List.set_cons_zero, List.set_cons_succ]
    refine wpAnyH_take (i := 14) (oi := { dst := some 117, op := Go.Op.fieldAddr 33 (Go.Operand.tmp 116) 0, type := 0, pos := "laws.go:1241", after := #[{ on := 13, ground := Go.Ground.data }, { on := 9, ground := Go.Ground.guard }], guard := some (9, false) }) (v := ?v14) rfl (by kernel_rfl) (by kernel_rfl) (by kernel_rfl) (fun _ _ _ h => h) (Or.inl ⟨by rfl, ?h14⟩) hHeld ?r14
    case h14 => (intro w hSw; (try dsimp only at hSw); go_simp; try with_reducible rfl)
    try simp only [Act.put, List.setIfInBounds_toArray, List.set_cons_zero, List.set_cons_succ]
    refine wpAnyH_take (i := 15) (oi := { dst := some 118, op := Go.Op.load 3 (Go.Operand.tmp 117), type := 3, pos := "laws.go:1241", after := #[{ on := 14, ground := Go.Ground.data }, { on := 9, ground := Go.Ground.guard }], guard := some (9, false) }) (v := ?v15) rfl (by kernel_rfl) (by kernel_rfl) (by kernel_rfl) (fun _ _ _ h => h) (Or.inl ⟨by rfl, ?h15⟩) hHeld ?r15
    case h15 => (intro w hSw; (try dsimp only at hSw); go_simp; try with_reducible rfl)
    try simp only [Act.put, List.setIfInBounds_toArray, List.set_cons_zero, List.set_cons_succ]
    refine wpAnyH_take (i := 16) (oi := { dst := some 119, op := Go.Op.fieldAddr 27 (Go.Operand.tmp 3) 3, type := 0, pos := "laws.go:1241", after := #[{ on := 9, ground := Go.Ground.guard }], guard := some (9, false) }) (v := ?v16) rfl (by kernel_rfl) (by kernel_rfl) (by kernel_rfl) (fun _ _ _ h => h) (Or.inl ⟨by rfl, ?h16⟩) hHeld ?r16
    case h16 => (intro w hSw; (try dsimp only at hSw); go_simp; try with_reducible rfl)
    try simp only [Act.put, List.setIfInBounds_toArray, List.set_cons_zero, List.set_cons_succ]
    refine wpAnyH_take (i := 17) (oi := { dst := some 120, op := Go.Op.load 25 (Go.Operand.tmp 119), type := 25, pos := "laws.go:1241", after := #[{ on := 16, ground := Go.Ground.data }, { on := 9, ground := Go.Ground.guard }], guard := some (9, false) }) (v := ?v17) rfl (by kernel_rfl) (by kernel_rfl) (by kernel_rfl) (fun _ _ _ h => h) (Or.inl ⟨by rfl, ?h17⟩) hHeld ?r17
    case h17 => (intro w hSw; (try dsimp only at hSw); go_simp; try with_reducible rfl)
    try simp only [Act.put, List.setIfInBounds_toArray, List.set_cons_zero, List.set_cons_succ]
    refine wpAnyH_take (i := 18) (oi := { dst := some 121, op := Go.Op.move (Go.Operand.tmp 10), type := 3, pos := "laws.go:1241", after := #[{ on := 9, ground := Go.Ground.guard }], guard := some (9, false) }) (v := ?v18) rfl (by kernel_rfl) (by kernel_rfl) (by kernel_rfl) (fun _ _ _ h => h) (Or.inl ⟨by rfl, ?h18⟩) hHeld ?r18
    case h18 => (intro w hSw; (try dsimp only at hSw); go_simp; try with_reducible rfl)
    try simp only [Act.put, List.setIfInBounds_toArray, List.set_cons_zero, List.set_cons_succ]
    refine wpAnyH_take (i := 19) (oi := { dst := some 122, op := Go.Op.indexAddr 25 (Go.Operand.tmp 120) (Go.Operand.tmp 121), type := 0, pos := "laws.go:1241", after := #[{ on := 17, ground := Go.Ground.data }, { on := 18, ground := Go.Ground.data }, { on := 9, ground := Go.Ground.guard }], guard := some (9, false) }) (v := ?v19) rfl (by kernel_rfl) (by kernel_rfl) (by kernel_rfl) (fun _ _ _ h => h) (Or.inl ⟨by rfl, ?h19⟩) hHeld ?r19
    case h19 => (intro w hSw; (try dsimp only at hSw); go_simp; try with_reducible rfl)
    try simp only [Act.put, List.setIfInBounds_toArray, List.set_cons_zero, List.set_cons_succ]
    refine wpAnyH_take (i := 20) (oi := { dst := some 123, op := Go.Op.fieldAddr 33 (Go.Operand.tmp 122) 0, type := 0, pos := "laws.go:1241", after := #[{ on := 19, ground := Go.Ground.data }, { on := 9, ground := Go.Ground.guard }], guard := some (9, false) }) (v := ?v20) rfl (by kernel_rfl) (by kernel_rfl) (by kernel_rfl) (fun _ _ _ h => h) (Or.inl ⟨by rfl, ?h20⟩) hHeld ?r20
    case h20 => (intro w hSw; (try dsimp only at hSw); go_simp; try with_reducible rfl)
    try simp only [Act.put, List.setIfInBounds_toArray, List.set_cons_zero, List.set_cons_succ]
    refine wpAnyH_take (i := 21) (oi := { dst := some 124, op := Go.Op.load 3 (Go.Operand.tmp 123), type := 3, pos := "laws.go:1241", after := #[{ on := 20, ground := Go.Ground.data }, { on := 9, ground := Go.Ground.guard }], guard := some (9, false) }) (v := ?v21) rfl (by kernel_rfl) (by kernel_rfl) (by kernel_rfl) (fun _ _ _ h => h) (Or.inl ⟨by rfl, ?h21⟩) hHeld ?r21
    case h21 => (intro w hSw; (try dsimp only at hSw); go_simp; try with_reducible rfl)
    try simp only [Act.put, List.setIfInBounds_toArray, List.set_cons_zero, List.set_cons_succ]
    refine wpAnyH_take (i := 22) (oi := { dst := some 125, op := Go.Op.binOp Go.BinOp.neq 3 (Go.Operand.tmp 118) (Go.Operand.tmp 124) 3, type := 4, pos := "laws.go:1241", after := #[{ on := 15, ground := Go.Ground.data }, { on := 21, ground := Go.Ground.data }, { on := 9, ground := Go.Ground.guard }], guard := some (9, false) }) (v := ?v22) rfl (by kernel_rfl) (by kernel_rfl) (by kernel_rfl) (fun _ _ _ h => h) (Or.inl ⟨by rfl, ?h22⟩) hHeld ?r22
    case h22 => (intro w hSw; (try dsimp only at hSw); go_simp; try with_reducible rfl)
    try simp only [Act.put, List.setIfInBounds_toArray, List.set_cons_zero, List.set_cons_succ]
    refine wpAnyH_take (i := 23) (oi := { dst := some 126, op := Go.Op.pick (Go.Operand.tmp 112) (Go.Operand.const (Go.Value.bool true)) (Go.Operand.tmp 125), type := 4, pos := "laws.go:1241", after := #[{ on := 9, ground := Go.Ground.data }, { on := 22, ground := Go.Ground.data }], guard := none }) (v := ?v23) rfl (by kernel_rfl) (by kernel_rfl) (by kernel_rfl) (fun _ _ _ h => h) (Or.inl ⟨by rfl, ?h23⟩) hHeld ?r23
    case h23 => (intro w hSw; (try dsimp only at hSw); go_simp; try with_reducible rfl)
    try simp only [Act.put, List.setIfInBounds_toArray, List.set_cons_zero, List.set_cons_succ]
    refine wpAnyH_done (by kernel_rfl) ?_ _
    clear hHeld hS z3 z8
    go_wp2_with fail
    exact ⟨⟨j + 1, by go_num, by omega, HM7⟩, by simp [intOf]; omega⟩
end Go.Proofs.Ytledclkmeikgdaa
