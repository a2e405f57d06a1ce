import Derived.Test.YtpbpmhgoppbfnaaCa
import Derived.Test.YtpbpmhgoppbfnaaCb
import Derived.BigQuiet
import Derived.Lib.MinMax
/-! The program's counter of ways: what lies there; the ways of a Non, by its Prods. -/
namespace Go.Proofs.Ytpbpmhgoppbfnaa
open Go.RowKit Go.Deep
set_option linter.unusedVariables false
set_option maxRecDepth 100000
set_option linter.unusedSimpArgs false

/-- All that stays as it is while ways are counted. -/
structure Cx where
  W0 : World
  d : Bn
  W : List Int
  L : List Int
  V : Nat → Nat → Nat → Nat
  h : Nat → Nat
  gc : Nat
  gs : Nat
  bs : Nat
  bn : Nat
  br : Nat
  a0 : Option Addr
  c0 : Nat
  v1 : Value
  vo : Value
  v3 : Value
  vw : Value
/-- What is known of it. -/
structure CxOK (S : Nat → Prop) (c : Cx) : Prop where
  hok : Bok c.d
  cn : Cn c.d c.W c.V
  snd : Snd c.d.terms.length (bps c.d) (Lf c.L)
  quiet : ∀ p ∈ bps c.d, lnew (Lf c.L) p = false
  len : c.L.length = c.d.terms.length + c.d.nons.length
  prods : Pds c.W0 S c.d.prods c.v3
  word : Ints c.W0 S c.W c.vw
  wlen : c.W.length ≤ 40
  hh : ∀ x, c.h x ≤ c.d.terms.length + c.d.nons.length
  hl : ∀ x y, y < c.d.terms.length + c.d.nons.length → Es c.d x y → c.h y < c.h x
  s1 : c.W0.heap.size ≤ c.bn
  s2 : c.W0.heap.size ≤ c.br
  n0 : c.gc ≠ c.bn
  n1 : c.gc ≠ c.br
  n2 : c.gs ≠ c.bn
  n3 : c.gs ≠ c.br
  n4 : c.bs ≠ c.bn
  n5 : c.bs ≠ c.br
  n6 : c.bn ≠ c.br
/-- The number in a cell of a key. -/
def kc (v : Value) (q : Nat) : Nat := match v with
  | .agg cs => match cs[q]? with
    | some (.int _ x) => x.toNat
    | _ => 0
  | _ => 0
def Gn (c : Cx) (v : Value) : Int := (cp (c.V (kc v 0) (kc v 1) (kc v 2)) : Nat)
def Gr (c : Cx) (v : Value) : Int := (cp (LF c.V ((pAt (bps c.d) (kc v 0)).2.drop (kc v 1)) (kc v 2) (kc v 3)) : Nat)
theorem Gn_eq (c : Cx) (x i j : Nat) : Gn c (kv3 x i j) = (cp (c.V x i j) : Nat) := by simp [Gn, kv3, kc]
theorem Gr_eq (c : Cx) (k p i j : Nat) : Gr c (kv4 k p i j) = (cp (LF c.V ((pAt (bps c.d) k).2.drop p) i j) : Nat) := by simp [Gr, kv4, kc]
/-- What lies there. -/
structure WC (c : Cx) (w : World) : Prop where
  bel : Below c.W0.heap.size c.W0 w
  st : St w c.gs c.bs (.slice c.a0 c.d.terms.length c.c0) c.v1 c.vo c.v3 c.L
  box : Box w c.gc 123 [.pointer (some ⟨c.gs, 0, none⟩), c.vw, .map (some c.bn), .map (some c.br)]
  nons : Mp w c.bn 127 Ky3 (Gn c)
  rests : Mp w c.br 140 Ky4 (Gr c)
theorem WC.still {c : Cx} {w w' : World} (h : WC c w) (hb : Below w.heap.size w w') : WC c w' :=
  ⟨h.bel.trans (hb.mono h.bel.size), h.st.still hb, h.box.still hb, h.nons.keep (hb.block _ h.nons.lt), h.rests.keep (hb.block _ h.rests.lt)⟩
theorem St.keep {w w' : World} {g b : Nat} {v0 v1 vo v3 : Value} {L : List Int} (h : St w g b v0 v1 vo v3 L) (h1 : w'.heap[g]? = w.heap[g]?) (h2 : w'.heap[b]? = w.heap[b]?) : St w' g b v0 v1 vo v3 L :=
  ⟨h.box.keep h1, World.rowIs.of_block h.row h2, h.ne⟩
/-- Behind a turn of one of the maps. -/
theorem WC.turn1 {S : Nat → Prop} {c : Cx} (hc : CxOK S c) {w w' : World} (h : WC c w) (ht : w.mapTurned w' c.bn) (hm : Mp w' c.bn 127 Ky3 (Gn c)) : WC c w' := by
  have hk : Kq c.bn c.br w w' := Kq.turned1 ht
  have hr : w'.heap[c.br]? = w.heap[c.br]? := ht.grown.block _ h.rests.lt (fun e => hc.n6 (by injection e with e; exact e.symm))
  exact ⟨h.bel.trans ((hk.below hc.s1 hc.s2 h.bel.size)), h.st.keep (hk.block _ h.st.box.lt hc.n2 hc.n3) (hk.block _ (World.rowIs.lt h.st.row) hc.n4 hc.n5), h.box.keep (hk.block _ h.box.lt hc.n0 hc.n1), hm, h.rests.keep hr⟩
theorem WC.turn2 {S : Nat → Prop} {c : Cx} (hc : CxOK S c) {w w' : World} (h : WC c w) (ht : w.mapTurned w' c.br) (hm : Mp w' c.br 140 Ky4 (Gr c)) : WC c w' := by
  have hk : Kq c.bn c.br w w' := Kq.turned2 ht
  have hr : w'.heap[c.bn]? = w.heap[c.bn]? := ht.grown.block _ h.nons.lt (fun e => hc.n6 (by injection e with e))
  exact ⟨h.bel.trans ((hk.below hc.s1 hc.s2 h.bel.size)), h.st.keep (hk.block _ h.st.box.lt hc.n2 hc.n3) (hk.block _ (World.rowIs.lt h.st.row) hc.n4 hc.n5), h.box.keep (hk.block _ h.box.lt hc.n0 hc.n1), h.nons.keep hr, hm⟩
/-- What a question leaves. -/
def Rt (c : Cx) (n : Nat) (w : World) (e : Ending) (w' : World) : Prop := e = .returned (.int .i64 (cp n : Nat)) ∧ WC c w' ∧ Kq c.bn c.br w w'
/-- A question of a symbol is answered. -/
def PS (c : Cx) (x i j : Nat) : Prop := ∀ w, WC c w → Calls Try.prog 50 #[.pointer (some ⟨c.gc, 0, none⟩), .int .i64 x, .int .i64 i, .int .i64 j] w (Rt c (c.V x i j) w)
/-- .. of the rest of a Right. -/
def PR (c : Cx) (k p i j : Nat) : Prop := ∀ w, WC c w → Calls Try.prog 84 #[.pointer (some ⟨c.gc, 0, none⟩), .int .i64 k, .int .i64 p, .int .i64 i, .int .i64 j] w (Rt c (LF c.V ((pAt (bps c.d) k).2.drop p) i j) w)
/-- What a Prod adds. -/
def fP (c : Cx) (x i j k : Nat) : Nat := if (pAt (bps c.d) k).1 = x then LF c.V (pAt (bps c.d) k).2 i j else 0
theorem oneIf_any (b : Bool) (w : World) : Calls Try.prog 81 #[.bool b] w fun e w' => e = .returned (.int .i64 (if b then 1 else 0)) ∧ w' = w := by
  cases b
  · go_enter Try.func81, Try.ntmps81
    go_wp2_with fail
    go_ret
    exact ⟨rfl, rfl⟩
  · go_enter Try.func81, Try.ntmps81
    go_wp2_with fail
    go_ret
    exact ⟨rfl, rfl⟩
set_option maxHeartbeats 3200000 in
theorem clo83 {S : Nat → Prop} (c : Cx) (hc : CxOK S c) (x i j : Nat) (hx : c.d.terms.length ≤ x) (hj : j ≤ c.W.length) (hPR : ∀ k, k < c.d.prods.length → (pAt (bps c.d) k).1 = x → PR c k 0 i j)
    (b4 b5 b6 b7 : Nat) (w : World) (hw : WC c w) (m4 : b4 ≠ c.bn ∧ b4 ≠ c.br) (m5 : b5 ≠ c.bn ∧ b5 ≠ c.br) (m6 : b6 ≠ c.bn ∧ b6 ≠ c.br) (m7 : b7 ≠ c.bn ∧ b7 ≠ c.br)
    (e4 : w.cell? ⟨b4, 0, none⟩ = some (.pointer (some ⟨c.gc, 0, none⟩))) (e5 : w.cell? ⟨b5, 0, none⟩ = some (.int .i64 x)) (e6 : w.cell? ⟨b6, 0, none⟩ = some (.int .i64 i)) (e7 : w.cell? ⟨b7, 0, none⟩ = some (.int .i64 j)) :
    Calls Try.prog 83 #[.pointer (some ⟨b4, 0, none⟩), .pointer (some ⟨b5, 0, none⟩), .pointer (some ⟨b6, 0, none⟩), .pointer (some ⟨b7, 0, none⟩)] w (Rt c (c.V x i j) w) := by
  have HV := (show Hid (c.V x i j = sm (fP c x i j) c.d.prods.length) from hc.cn.nn x i j hx hj)
  have HWC := (show Hid _ from hw)
  have HCE := (show Hid (∀ wr, Kq c.bn c.br w wr → wr.cell? ⟨b4, 0, none⟩ = some (.pointer (some ⟨c.gc, 0, none⟩)) ∧ wr.cell? ⟨b5, 0, none⟩ = some (.int .i64 x) ∧ wr.cell? ⟨b6, 0, none⟩ = some (.int .i64 i) ∧ wr.cell? ⟨b7, 0, none⟩ = some (.int .i64 j)) from fun wr hk => ⟨hk.cell e4 m4.1 m4.2, hk.cell e5 m5.1 m5.2, hk.cell e6 m6.1 m6.2, hk.cell e7 m7.1 m7.2⟩)
  have HPR := (show Hid _ from hPR)
  have HOK := (show Hid _ from hc.hok)
  have hp120 := hc.hok.np
  obtain ⟨a, cap, b, off, sv, hv3, hcc, hm, ha, hcell, hr⟩ := hc.prods
  have HC := (show Hid _ from hcell); clear hcell
  have HA := (show Hid _ from ha); clear ha
  have HR := (show Hid _ from hr); clear hr
  have g0 : w.cell? ⟨c.gc, 0, none⟩ = some (.pointer (some ⟨c.gs, 0, none⟩)) := hw.box.cell 0 (by simp)
  have s3 : w.cell? ⟨c.gs, 3, none⟩ = some (.slice a c.d.prods.length cap) := by rw [← hv3]; exact hw.st.box.cell 3 (by simp)
  unfold maxLen at hm
  clear e4 e5 e6 e7 m4 m5 m6 m7 hPR hw
  obtain ⟨e4, e5, e6, e7⟩ := HCE.out w (Kq.refl _ _ _)
  go_enter Try.func83, Try.ntmps83
  go_wp2_with fail
  clear e4 e5 e6 e7 g0 s3
  go_loopw [5, 17] (fun u q wr => ∃ k : Nat, q = .int .i64 k ∧ k ≤ c.d.prods.length ∧ u = .int .i64 (cp (sm (fP c x i j) k) : Nat) ∧ Hid (WC c wr ∧ Kq c.bn c.br w wr)) (fun _ q _ => c.d.prods.length - (intOf q).toNat)
  case atStart => exact ⟨0, rfl, Nat.zero_le _, rfl, HWC.out, Kq.refl _ _ _⟩
  case round =>
    obtain ⟨k, rfl, hk, rfl, HK⟩ := hrel
    by_cases hlt : k < c.d.prods.length
    · obtain ⟨rfl, hjk⟩ := HA.out (by omega)
      clear hjk
      have hbw := HK.out.1.bel
      obtain ⟨c0, c1, c2, c3, c4, c5⟩ := HC.out k hlt
      clear c5
      have hri := HR.out k hlt
      obtain ⟨ai, ci, ei, _⟩ := hri.form
      rw [ei] at c1
      rw [← hbw.cell (lt_of_cell c0)] at c0
      rw [← hbw.cell (lt_of_cell c1)] at c1
      rw [← hbw.cell (lt_of_cell c2)] at c2
      rw [← hbw.cell (lt_of_cell c3)] at c3
      rw [← hbw.cell (lt_of_cell c4)] at c4
      have hba := bel_alloc wr (.cells #[.int .i64 c.d.prods[k].left, .slice ai c.d.prods[k].right.length ci, .string c.d.prods[k].label, .int .i64 c.d.prods[k].lev, .int .i64 c.d.prods[k].asc] 57)
      have HW2 := (show Hid _ from (⟨HK.out.1.still hba, HK.out.2.trans (Kq.of_below hba)⟩ : WC c _ ∧ Kq c.bn c.br w _))
      obtain ⟨e4, e5, e6, e7⟩ := HCE.out _ HW2.out.2
      have hleft := HOK.out.left k hlt
      have hpa : (pAt (bps c.d) k).1 = c.d.prods[k].left.toNat := by rw [pAt_bps c.d hlt]; rfl
      have HS := (show Hid (sm (fP c x i j) (k + 1) = sm (fP c x i j) k + fP c x i j k) from rfl)
      by_cases hlx : c.d.prods[k].left = (x : Int)
      · have hpx : (pAt (bps c.d) k).1 = x := by rw [hpa, hlx]; simp
        have hF : fP c x i j k = LF c.V ((pAt (bps c.d) k).2.drop 0) i j := by unfold fP; rw [if_pos hpx, List.drop_zero]
        have HF := (show Hid _ from hF); clear hF
        have hcl := HPR.out k hlt hpx _ HW2.out.1
        have HCL := (show Hid _ from hcl); clear hcl
        have hlb : (c.d.prods[k].left == (x : Int)) = true := by simp [hlx]
        clear hpa hpx hri ei hbw hba hlx
        generalize c.d.prods[k] = Pd at *
        have hcp := cp_le (sm (fP c x i j) k)
        generalize hcs : cp (sm (fP c x i j) k) = s0 at *
        have HCS := (show Hid _ from hcs); clear hcs
        have hcq := cp_le (fP c x i j k)
        go_wp2_with fail
        refine Calls.mono HCL.out ?_
        rintro e w2 ⟨rfl, hw2, hk2⟩
        have HW3 := (show Hid _ from (⟨hw2, HW2.out.2.trans hk2⟩ : WC c _ ∧ Kq c.bn c.br w _)); clear hw2 hk2
        rw [← HF.out]
        generalize hcs : cp (fP c x i j k) = s1 at *
        have HCT := (show Hid _ from hcs); clear hcs
        clear c0 c1 c2 c3 c4 e4 e5 e6 e7 HCL
        have HN : Hid (((min (s0 + s1) 1000000 : Nat) : Int) = (cp (sm (fP c x i j) (k + 1)) : Nat)) := by
          rw [HS.out, ← cp_add', HCS.out, HCT.out]
          rfl
        go_wp2_with fail
        exact ⟨⟨k + 1, by go_num, by omega, (by rw [← HN.out]; go_num), HW3.out⟩, by simp [intOf]; omega⟩
      · have hne : (c.d.prods[k].left == (x : Int)) = false := by simp [hlx]
        have hF : fP c x i j k = 0 := by unfold fP; rw [if_neg (by omega)]
        have HF := (show Hid _ from hF); clear hF
        clear hpa hri ei hbw hba
        generalize c.d.prods[k] = Pd at *
        go_wp2_with fail
        exact ⟨⟨k + 1, by go_num, by omega, by rw [HS.out, HF.out]; rfl, HW2.out⟩, by simp [intOf]; omega⟩
    · obtain rfl : k = c.d.prods.length := by omega
      go_wp2_with fail
      go_ret
      exact ⟨by rw [HV.out]; rfl, HK.out.1, HK.out.2⟩
end Go.Proofs.Ytpbpmhgoppbfnaa
