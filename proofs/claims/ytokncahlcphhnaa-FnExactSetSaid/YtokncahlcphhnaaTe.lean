import Derived.Test.YtokncahlcphhnaaTd
import Derived.Test.YtokncahlcphhnaaLg
/-! A layout as text: the specification's Set. -/
namespace Go.Proofs.Ytokncahlcphhnaa
open Go.RowKit Go.Deep Go.Lib
set_option linter.unusedVariables false
set_option maxRecDepth 100000
set_option linter.unusedSimpArgs false

/-- The text of a layout. -/
def txW (l : List DLNode) (br : List Bool) : ByteArray := ⟨(tx l br l.length (l.length - 1) 0 false).toArray⟩
/-- What Set answers. -/
def seR (l : List DLNode) (br : List Bool) : ByteArray × Int := if loB l = true then (if br.length = (gpl l l.length).length then (txW l br, 0) else (⟨#[]⟩, 4)) else (⟨#[]⟩, 1)
theorem St.new (w : World) (T : Nat) (pre : List Value) : St (w.alloc (.cells (pre ++ [Value.slice none 0 0]).toArray T)) w.heap.size T pre [] none none 0 :=
  ⟨Box.new w T (pre ++ [.slice none 0 0]), World.ownsRow_nil _ _ _ _, rfl⟩
set_option maxHeartbeats 3200000 in
theorem text27 {S S' : Nat → Prop} (l : List DLNode) (br : List Bool) (dv bv : Value) (w : World) (hl : LoP l) (hd : LNodeR w S l dv) (hbr : Bls w S' br bv) (hbl : br.length = (gpl l l.length).length) :
    Calls Try.prog 27 #[dv, bv] w fun e w' => e = .returned (.string (txW l br)) ∧ Below w.heap.size w w' := by
  have hn1 := hl.n1
  have hn2 := hl.n2
  obtain ⟨b, off, cap, rfl⟩ : ∃ b off cap, dv = .slice (some ⟨b, off, none⟩) l.length cap := by
    obtain ⟨a, cap, b, off, s3, hv, hc, hm, ha, _⟩ := hd
    obtain ⟨rfl, _⟩ := ha (by omega)
    exact ⟨b, off, cap, hv⟩
  have hN := node38 l br b off cap bv w hl hd hbr hbl l.length
  obtain ⟨ab, cb, rfl, _⟩ := hbr.form
  have hba := bel_alloc w (.cells #[.slice (some ⟨b, off, none⟩) l.length cap, .slice ab br.length cb, .slice none 0 0] 71)
  have hst := St.new w 71 [.slice (some ⟨b, off, none⟩) l.length cap, .slice ab br.length cb]
  have hsh := tx_short hl br l.length (Nat.le_refl _)
  have HCL : Hid (Calls Try.prog 38 #[.pointer (some ⟨w.heap.size, 0, none⟩), .int .i64 ((l.length : Int) - 1), .int .i64 0, .bool false] (w.alloc (.cells #[.slice (some ⟨b, off, none⟩) l.length cap, .slice ab br.length cb, .slice none 0 0] 71)) (Wr w.heap.size 71 [.slice (some ⟨b, off, none⟩) l.length cap, .slice ab br.length cb] [] (tx l br l.length (l.length - 1) 0 false) none (w.alloc (.cells #[.slice (some ⟨b, off, none⟩) l.length cap, .slice ab br.length cb, .slice none 0 0] 71)))) := by
    have := hN (l.length - 1) 0 false [] none none 0 _ (by omega) (by omega) (by omega) (by simp; omega) hba hst
    rw [show (((l.length - 1 : Nat)) : Int) = (l.length : Int) - 1 from by omega] at this
    exact this
  have HBA := (show Hid _ from hba)
  have HTW := (show Hid (txW l br = ⟨(tx l br l.length (l.length - 1) 0 false).toArray⟩) from rfl)
  generalize txW l br = X at *
  generalize tx l br l.length (l.length - 1) 0 false = xs at *
  have hcl1 : l.length ≤ cap := by obtain ⟨a, cap', b', off', s3, hv, hc, hm, _⟩ := hd; injection hv with _ _ e; omega
  clear hN hst hba hd hbr hbl hl hsh
  go_enter Try.func27, Try.ntmps27
  go_wp2_with fail
  refine Calls.mono HCL.out ?_
  rintro e w' ⟨rfl, g1, a1, c1, hst, hmv⟩
  rw [List.nil_append] at hst
  have hbl := hmv.below (B := w.heap.size) (Nat.le_refl _) (fun k e => by cases e) (by simp)
  have HB := (show Hid (Below w.heap.size w w') from HBA.out.trans hbl)
  have q2 : w'.cell? ⟨w.heap.size, 2, none⟩ = some (.slice a1 xs.length c1) := hst.cell.1
  have hcv := conv_text hst.own
  rw [← HTW.out] at hcv
  clear hst hmv hbl HCL HBA
  go_wp2_with fail
  go_ret
  exact ⟨rfl, HB.out⟩
set_option maxHeartbeats 3200000 in
theorem sSet11 {S S' : Nat → Prop} (l : List DLNode) (br : List Bool) (dv bv : Value) (w : World) (hd : LNodeR w S l dv) (hsm : LNodeR.Sm l) (hbr : Bls w S' br bv) :
    Calls Try.prog 11 #[dv, bv] w fun e w' => e = .returned (.tuple #[.string (seR l br).1, .int .i64 (seR l br).2]) ∧ Below w.heap.size w w' := by
  have HLO := (show Hid _ from sLo7 l dv w hd hsm)
  have HGR := (show Hid (∀ wq, Below w.heap.size w wq → Calls Try.prog 19 #[dv] wq fun e w' => e = .returned (.int .i64 (gpl l l.length).length) ∧ w' = wq) from fun wq hb => groups19 l dv wq (hd.still hb))
  have HTX := (show Hid (LoP l → br.length = (gpl l l.length).length → ∀ wq, Below w.heap.size w wq → Calls Try.prog 27 #[dv, bv] wq fun e w' => e = .returned (.string (txW l br)) ∧ Below wq.heap.size wq w') from fun h1 h2 wq hb => text27 l br dv bv wq h1 (hd.still hb) (hbr.still hb) h2)
  obtain ⟨a1, c1, rfl, _⟩ := hd.form
  obtain ⟨a2, c2, rfl, hbm⟩ := hbr.form
  unfold maxLen at hbm
  have HP := (show Hid (loB l = true → LoP l) from (lo_iff l).1)
  have HSE := (show Hid (seR l br = if loB l = true then (if br.length = (gpl l l.length).length then (txW l br, 0) else (⟨#[]⟩, 4)) else (⟨#[]⟩, 1)) from rfl)
  have hG300 : loB l = true → (gpl l l.length).length ≤ 12 := fun h => (HP.out h).g
  clear hd hbr hsm
  generalize seR l br = R at *
  cases hlo : loB l
  · rw [hlo] at HLO HSE
    have HR := (show Hid (R = (⟨#[]⟩, 1)) from HSE.out)
    clear HSE HP hG300 hlo
    go_enter Try.func11, Try.ntmps11
    go_wp2_with fail
    refine Calls.mono HLO.out ?_
    rintro e w1 ⟨rfl, hb1⟩
    have HB := (show Hid _ from hb1); clear hb1
    go_wp2_with fail
    refine bodyPost_ret (v := .tuple #[.string { data := #[] }, .int .i64 1]) (by simp [results, Try.results11, go_sem]) rfl ?_
    exact ⟨by rw [HR.out], HB.out⟩
  have hp := HP.out hlo
  have hG := hG300 hlo
  rw [hlo] at HLO HSE
  have HTX1 := (show Hid _ from HTX.out hp)
  clear hlo HP hG300 hp HTX
  generalize (gpl l l.length).length = G at *
  by_cases hbl : br.length = G
  · have HR := (show Hid (R = (txW l br, 0)) from by
      show R = _
      rw [HSE.out, if_pos rfl, if_pos hbl])
    have HTX2 := (show Hid _ from HTX1.out hbl)
    have hne : ((br.length : Int) != (G : Int)) = false := by rw [hbl]; simp
    clear hbl HSE HTX1
    generalize txW l br = X at *
    go_enter Try.func11, Try.ntmps11
    go_wp2_with fail
    refine Calls.mono HLO.out ?_
    rintro e w1 ⟨rfl, hb1⟩
    have HB := (show Hid _ from hb1); clear hb1
    go_wp2_with fail
    refine Calls.mono (HGR.out _ HB.out) ?_
    rintro e w2 ⟨rfl, hw2⟩
    obtain rfl := hw2.symm
    go_wp2_with fail
    refine Calls.mono (HTX2.out _ HB.out) ?_
    rintro e w3 ⟨rfl, hb3⟩
    have HB3 := (show Hid _ from bel_trans HB.out hb3); clear hb3
    go_wp2_with fail
    refine bodyPost_ret (v := .tuple #[.string X, .int .i64 0]) (by simp [results, Try.results11, go_sem]) rfl ?_
    exact ⟨by rw [HR.out], HB3.out⟩
  · have HR := (show Hid (R = (⟨#[]⟩, 4)) from by
      show R = _
      rw [HSE.out, if_pos rfl, if_neg hbl])
    have hne : ((br.length : Int) != (G : Int)) = true := by simp; omega
    clear hbl HSE HTX1
    go_enter Try.func11, Try.ntmps11
    go_wp2_with fail
    refine Calls.mono HLO.out ?_
    rintro e w1 ⟨rfl, hb1⟩
    have HB := (show Hid _ from hb1); clear hb1
    go_wp2_with fail
    refine Calls.mono (HGR.out _ HB.out) ?_
    rintro e w2 ⟨rfl, hw2⟩
    obtain rfl := hw2.symm
    go_wp2_with fail
    refine bodyPost_ret (v := .tuple #[.string { data := #[] }, .int .i64 4]) (by simp [results, Try.results11, go_sem]) rfl ?_
    exact ⟨by rw [HR.out], HB.out⟩
end Go.Proofs.Ytokncahlcphhnaa
