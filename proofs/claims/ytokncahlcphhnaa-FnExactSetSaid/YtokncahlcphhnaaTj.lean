import Derived.Test.YtokncahlcphhnaaTi
import Derived.Test.YtokncahlcphhnaaTe
/-! A layout as text: the program's Set. -/
namespace Go.Proofs.Ytokncahlcphhnaa
open Go.RowKit Go.Deep Go.Lib
set_option linter.unusedVariables false
set_option maxRecDepth 100000
set_option linter.unusedSimpArgs false

/-- A row of numbers that is owned, read. -/
theorem own_ints {w : World} {B : Nat} {v : Value} {l : List Int} (h : w.ownsRow B 3 1 v l.length (iv l)) : Ints w (fun c => B ≤ c) l v := by
  obtain ⟨hl, h⟩ := h
  rcases h with ⟨rfl, e⟩ | ⟨g, cap, cur, rfl, hB, hg, hn, hm, hsz, htk⟩
  · have : l = [] := List.length_eq_zero_iff.1 e
    subst this
    exact ⟨none, 0, 0, 0, rfl, Nat.le_refl _, Nat.zero_le _, fun h => absurd h (Nat.not_lt_zero _), fun i hi => absurd hi (Nat.not_lt_zero _)⟩
  · refine ⟨_, cap, g, 0, rfl, hn, hm, fun _ => ⟨rfl, hB⟩, fun i hi => ?_⟩
    rw [Nat.zero_add, cell_of_row w g i cur _ (0, 0) hg]
    have : (iv l)[i]? = some (.int .i64 l[i]) := by simp [iv, hi]
    rw [← htk, List.getElem?_take] at this
    split at this
    · simpa using this
    · simp at this
set_option maxHeartbeats 3200000 in
theorem set39 {S S' S2 : Nat → Prop} (l : List DLNode) (br : List Bool) (b off cap p : Nat) (gv bv : Value) (w0 w : World) (hl : LoP l) (hd : LNodeR w0 S l (.slice (some ⟨b, off, none⟩) l.length cap)) (hbr : Bls w0 S' br bv) (hgr : Ints w0 S2 (gpl l l.length) gv) (hbl : br.length = (gpl l l.length).length) (hp0 : w0.heap.size ≤ p) (hb : Below w0.heap.size w0 w) (hst : St w p 74 [] [] none none 0) :
    Calls Try.prog 39 #[.agg #[.slice (some ⟨b, off, none⟩) l.length cap, gv], bv, .iface 76 (.pointer (some ⟨p, 0, none⟩))] w fun e w' => e = .returned (.tuple #[]) ∧ ∃ g a c, St w' p 74 [] (tx l br l.length (l.length - 1) 0 false) g a c ∧ Below w0.heap.size w0 w' := by
  have hn1 := hl.n1
  have hn2 := hl.n2
  have hpw := hst.lt.1
  have hN := set51 l br b off cap p (w.heap.size + 1) gv bv w0 hl hd hbr hgr hbl hp0 (by omega) l.length
  obtain ⟨ab, cb, rfl, _⟩ := hbr.form
  obtain ⟨ag, cg, rfl, _⟩ := hgr.form
  have hcl1 : l.length ≤ cap := by obtain ⟨a, cap', b', off', s3, hv, hc, hm, _⟩ := hd; injection hv with _ _ e; omega
  generalize (gpl l l.length).length = G at *
  have hsh := tx_short hl br l.length (Nat.le_refl _)
  have hb2 : Below w.heap.size w ((w.alloc (.cells #[.slice (some ⟨b, off, none⟩) l.length cap, .slice ag G cg] 54)).alloc (.cells #[.slice (some ⟨b, off, none⟩) l.length cap, .slice ag G cg, .slice ab br.length cb, .iface 76 (.pointer (some ⟨p, 0, none⟩))] 99)) := bel2 _ _ _
  have hSB : SBx ((w.alloc (.cells #[.slice (some ⟨b, off, none⟩) l.length cap, .slice ag G cg] 54)).alloc (.cells #[.slice (some ⟨b, off, none⟩) l.length cap, .slice ag G cg, .slice ab br.length cb, .iface 76 (.pointer (some ⟨p, 0, none⟩))] 99)) (w.heap.size + 1) p (.slice (some ⟨b, off, none⟩) l.length cap) (.slice ag G cg) (.slice ab br.length cb) := by
    have := Box.new (w.alloc (.cells #[.slice (some ⟨b, off, none⟩) l.length cap, .slice ag G cg] 54)) 99 [.slice (some ⟨b, off, none⟩) l.length cap, .slice ag G cg, .slice ab br.length cb, .iface 76 (.pointer (some ⟨p, 0, none⟩))]
    rw [World.size_alloc] at this
    exact this
  have hbW := hb.trans (hb2.mono hb.size)
  have HBW := (show Hid _ from hbW)
  have HCL : Hid (Calls Try.prog 51 #[.pointer (some ⟨w.heap.size + 1, 0, none⟩), .int .i64 ((l.length : Int) - 1), .int .i64 0, .bool false] ((w.alloc (.cells #[.slice (some ⟨b, off, none⟩) l.length cap, .slice ag G cg] 54)).alloc (.cells #[.slice (some ⟨b, off, none⟩) l.length cap, .slice ag G cg, .slice ab br.length cb, .iface 76 (.pointer (some ⟨p, 0, none⟩))] 99)) (Wr p 74 [] [] (tx l br l.length (l.length - 1) 0 false) none ((w.alloc (.cells #[.slice (some ⟨b, off, none⟩) l.length cap, .slice ag G cg] 54)).alloc (.cells #[.slice (some ⟨b, off, none⟩) l.length cap, .slice ag G cg, .slice ab br.length cb, .iface 76 (.pointer (some ⟨p, 0, none⟩))] 99)))) := by
    have := hN (l.length - 1) 0 false [] none none 0 _ (by omega) (by omega) (by omega) (by simp; omega) hbW (hst.still hb2) hSB (by simp)
    rw [show (((l.length - 1 : Nat)) : Int) = (l.length : Int) - 1 from by omega] at this
    exact this
  have HST := (show Hid _ from hb)
  clear hd hbr hgr hbl hl hN hSB hb2 hbW hst hsh hb
  go_enter Try.func39, Try.ntmps39
  go_wp2_with fail
  refine Calls.mono HCL.out ?_
  rintro e w' ⟨rfl, g1, a1, c1, hs1, hmv⟩
  rw [List.nil_append] at hs1
  have HR := (show Hid (∃ g a c, St w' p 74 [] (tx l br l.length (l.length - 1) 0 false) g a c ∧ Below w0.heap.size w0 w') from ⟨_, _, _, hs1, HBW.out.trans (hmv.below hp0 (fun k e => by cases e) HBW.out.size)⟩)
  clear hs1 hmv HCL HBW
  go_wp2_with fail
  refine bodyPost_end (v := .tuple #[]) (by simp [results, Try.results39]) rfl ?_
  exact ⟨rfl, HR.out⟩
set_option maxHeartbeats 3200000 in
theorem text28 {S S' S2 : Nat → Prop} (l : List DLNode) (br : List Bool) (dv gv bv : Value) (w : World) (hl : LoP l) (hd : LNodeR w S l dv) (hbr : Bls w S' br bv) (hgr : Ints w S2 (gpl l l.length) gv) (hbl : br.length = (gpl l l.length).length) :
    Calls Try.prog 28 #[.agg #[dv, gv], bv] w fun e w' => e = .returned (.string (txW l br)) ∧ Below w.heap.size w w' := by
  have hn1 := hl.n1
  have hn2 := hl.n2
  obtain ⟨b, off, cap, rfl⟩ : ∃ b off cap, dv = .slice (some ⟨b, off, none⟩) l.length cap := by
    obtain ⟨a, cap, b, off, s3, hv, hc, hm, ha, _⟩ := hd
    obtain ⟨rfl, _⟩ := ha (by omega)
    exact ⟨b, off, cap, hv⟩
  have HS := (show Hid _ from fun wq h1 h2 => set39 l br b off cap (w.heap.size + 1) gv bv w wq hl hd hbr hgr hbl (by omega) h1 h2)
  obtain ⟨ab, cb, rfl, _⟩ := hbr.form
  obtain ⟨ag, cg, rfl, _⟩ := hgr.form
  generalize (gpl l l.length).length = G at *
  have hcl1 : l.length ≤ cap := by obtain ⟨a, cap', b', off', s3, hv, hc, hm, _⟩ := hd; injection hv with _ _ e; omega
  have HCL := (show Hid _ from HS.out ((w.alloc (.cells #[.slice (some ⟨b, off, none⟩) l.length cap, .slice ag G cg] 54)).alloc (.cells #[.slice none 0 0] 74)) (bel2 _ _ _) (by have := St.new (w.alloc (.cells #[.slice (some ⟨b, off, none⟩) l.length cap, .slice ag G cg] 54)) 74 []; rw [World.size_alloc] at this; exact this))
  have HTW := (show Hid (txW l br = ⟨(tx l br l.length (l.length - 1) 0 false).toArray⟩) from rfl)
  generalize txW l br = X at *
  generalize tx l br l.length (l.length - 1) 0 false = xs at *
  clear hd hbr hgr hbl hl HS
  go_enter Try.func28, Try.ntmps28
  go_wp2_with fail
  refine Calls.mono HCL.out ?_
  rintro e w' ⟨rfl, g1, a1, c1, hst, hbl⟩
  have HB := (show Hid (Below w.heap.size w w') from hbl)
  have q2 : w'.cell? ⟨w.heap.size + 1, 0, none⟩ = some (.slice a1 xs.length c1) := hst.cell.1
  have hcv := conv_text hst.own
  rw [← HTW.out] at hcv
  clear hst hbl HCL
  go_wp2_with fail
  go_ret
  exact ⟨rfl, HB.out⟩
set_option maxHeartbeats 3200000 in
theorem iSet13 {S S' : Nat → Prop} (l : List DLNode) (br : List Bool) (dv bv : Value) (w : World) (hd : LNodeR w S l dv) (hbr : Bls w S' br bv) :
    Calls Try.prog 13 #[dv, bv] w fun e w' => e = .returned (.tuple #[.string (seR l br).1, .int .i64 (seR l br).2]) ∧ Below w.heap.size w w' := by
  have HLO := (show Hid _ from iLo9 l dv w hd)
  have HGR := (show Hid (LoP l → ∀ wq, Below w.heap.size w wq → Calls Try.prog 22 #[dv] wq fun e w' => ∃ a c, e = .returned (.slice a (gpl l l.length).length c) ∧ Below wq.heap.size wq w' ∧ Ints w' (fun c => wq.heap.size ≤ c) (gpl l l.length) (.slice a (gpl l l.length).length c)) from fun hp wq hb => (groups22 l dv wq (hd.still hb) (by have := hp.n2; omega)).mono fun e w' ⟨a, c, h1, h2, h3⟩ => ⟨a, c, h1, h2, own_ints h3⟩)
  have HTX := (show Hid (LoP l → br.length = (gpl l l.length).length → ∀ (wq : World) (S2 : Nat → Prop) gv, Below w.heap.size w wq → Ints wq S2 (gpl l l.length) gv → Calls Try.prog 28 #[.agg #[dv, gv], bv] wq fun e w' => e = .returned (.string (txW l br)) ∧ Below wq.heap.size wq w') from fun h1 h2 wq S2 gv hb hg => text28 l br dv gv bv wq h1 (hd.still hb) (hbr.still hb) hg h2)
  obtain ⟨a1, c1, rfl, _⟩ := hd.form
  obtain ⟨a2, c2, rfl, hbm⟩ := hbr.form
  unfold maxLen at hbm
  have HP := (show Hid (loB l = true → LoP l) from (lo_iff l).1)
  have HSE := (show Hid (seR l br = if loB l = true then (if br.length = (gpl l l.length).length then (txW l br, 0) else (⟨#[]⟩, 4)) else (⟨#[]⟩, 1)) from rfl)
  have hG300 : loB l = true → (gpl l l.length).length ≤ 12 := fun h => (HP.out h).g
  clear hd hbr
  generalize seR l br = R at *
  cases hlo : loB l
  · rw [hlo] at HLO HSE
    have HR := (show Hid (R = (⟨#[]⟩, 1)) from HSE.out)
    clear HSE HP hG300 hlo
    go_enter Try.func13, Try.ntmps13
    go_wp2_with fail
    refine Calls.mono HLO.out ?_
    rintro e w1 ⟨rfl, hb1⟩
    have HB := (show Hid _ from hb1); clear hb1
    go_wp2_with fail
    refine bodyPost_ret (v := .tuple #[.string { data := #[] }, .int .i64 1]) (by simp [results, Try.results13, go_sem]) rfl ?_
    exact ⟨by rw [HR.out], HB.out⟩
  have hp := HP.out hlo
  have hG := hG300 hlo
  rw [hlo] at HLO HSE
  have HTX1 := (show Hid _ from HTX.out hp)
  have HGR1 := (show Hid _ from HGR.out hp)
  clear hlo HP hG300 hp HTX HGR
  generalize hGG : gpl l l.length = GL at *
  obtain ⟨G, hGn⟩ : ∃ G, GL.length = G := ⟨_, rfl⟩
  rw [hGn] at HTX1 HGR1 HSE hG
  clear hGG
  go_enter Try.func13, Try.ntmps13
  go_wp2_with fail
  refine Calls.mono HLO.out ?_
  rintro e w1 ⟨rfl, hb1⟩
  have HB := (show Hid _ from hb1); clear hb1 HLO
  go_wp2_with fail
  refine Calls.mono (HGR1.out _ HB.out) ?_
  rintro e w2 ⟨ag, cg, rfl, hb2, hgi⟩
  have hbw2 := bel_trans HB.out hb2
  have HB2 := (show Hid (Below w.heap.size w (w2.alloc (.cells #[.slice a1 l.length c1, .slice ag G cg] 54))) from bel_trans hbw2 (bel_alloc _ _))
  have HGI := (show Hid (Ints (w2.alloc (.cells #[.slice a1 l.length c1, .slice ag G cg] 54)) (fun c => w1.heap.size ≤ c) GL (.slice ag G cg)) from hgi.still (bel_alloc _ _))
  clear hb2 hbw2 hgi HGR1 HB
  by_cases hbl : br.length = G
  · have HR := (show Hid (R = (txW l br, 0)) from by
      show R = _
      rw [HSE.out, if_pos trivial, if_pos hbl])
    have HTX2 := (show Hid _ from HTX1.out hbl _ _ _ HB2.out HGI.out)
    have hne : ((br.length : Int) != (G : Int)) = false := by rw [hbl]; simp
    clear hbl HSE HTX1 HGI hGn
    generalize txW l br = X at *
    go_wp2_with fail
    refine Calls.mono HTX2.out ?_
    rintro e w3 ⟨rfl, hb3⟩
    have HB3 := (show Hid _ from bel_trans HB2.out hb3); clear hb3
    go_wp2_with fail
    refine bodyPost_ret (v := .tuple #[.string X, .int .i64 0]) (by simp [results, Try.results13, go_sem]) rfl ?_
    exact ⟨by rw [HR.out], HB3.out⟩
  · have HR := (show Hid (R = (⟨#[]⟩, 4)) from by
      show R = _
      rw [HSE.out, if_pos trivial, if_neg hbl])
    have hne : ((br.length : Int) != (G : Int)) = true := by simp; omega
    clear hbl HSE HTX1 HGI hGn
    go_wp2_with fail
    refine bodyPost_ret (v := .tuple #[.string { data := #[] }, .int .i64 4]) (by simp [results, Try.results13, go_sem]) rfl ?_
    exact ⟨by rw [HR.out], HB2.out⟩
end Go.Proofs.Ytokncahlcphhnaa
