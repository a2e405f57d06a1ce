import Derived.Test.YtokncahlcphhnaaTh
import Derived.Test.YtokncahlcphhnaaTd
import Derived.Deep.RegionHeld3
/-! A layout as text: the program's setter. -/
namespace Go.Proofs.Ytokncahlcphhnaa
open Go.RowKit Go.Deep
set_option linter.unusedVariables false
set_option maxRecDepth 100000
set_option linter.unusedSimpArgs false

abbrev oD0 : Oper := { dst := some 49, op := Go.Op.move (Go.Operand.tmp 3), type := 4, pos := "l14_layouts.go:267", after := #[], guard := none }
abbrev oD1 : Oper := { dst := some 50, op := Go.Op.move (Go.Operand.tmp 49), type := 4, pos := "l14_layouts.go:267", after := #[{ on := 0, ground := Go.Ground.data }], guard := none }
abbrev oD2 : Oper := { dst := some 51, op := Go.Op.move (Go.Operand.tmp 0), type := 120, pos := "l14_layouts.go:267", after := #[{ on := 1, ground := Go.Ground.guard }], guard := some (1, false) }
abbrev oD3 : Oper := { dst := some 52, op := Go.Op.nilCheck (Go.Operand.tmp 51), type := 0, pos := "l14_layouts.go:267", after := #[{ on := 2, ground := Go.Ground.data }, { on := 1, ground := Go.Ground.guard }], guard := some (1, false) }
abbrev oD4 : Oper := { dst := some 53, op := Go.Op.fieldAddr 99 (Go.Operand.tmp 52) 1, type := 0, pos := "l14_layouts.go:267", after := #[{ on := 3, ground := Go.Ground.data }, { on := 1, ground := Go.Ground.guard }], guard := some (1, false) }
abbrev oD5 : Oper := { dst := some 54, op := Go.Op.load 29 (Go.Operand.tmp 53), type := 29, pos := "l14_layouts.go:267", after := #[{ on := 4, ground := Go.Ground.data }, { on := 1, ground := Go.Ground.guard }], guard := some (1, false) }
abbrev oD6 : Oper := { dst := some 55, op := Go.Op.move (Go.Operand.tmp 0), type := 120, pos := "l14_layouts.go:267", after := #[{ on := 1, ground := Go.Ground.guard }], guard := some (1, false) }
abbrev oD7 : Oper := { dst := some 56, op := Go.Op.nilCheck (Go.Operand.tmp 55), type := 0, pos := "l14_layouts.go:267", after := #[{ on := 6, ground := Go.Ground.data }, { on := 1, ground := Go.Ground.guard }], guard := some (1, false) }
abbrev oD8 : Oper := { dst := some 57, op := Go.Op.fieldAddr 99 (Go.Operand.tmp 56) 0, type := 0, pos := "l14_layouts.go:267", after := #[{ on := 7, ground := Go.Ground.data }, { on := 1, ground := Go.Ground.guard }], guard := some (1, false) }
abbrev oD9 : Oper := { dst := some 58, op := Go.Op.fieldAddr 54 (Go.Operand.tmp 57) 1, type := 0, pos := "l14_layouts.go:267", after := #[{ on := 8, ground := Go.Ground.data }, { on := 1, ground := Go.Ground.guard }], guard := some (1, false) }
abbrev oD10 : Oper := { dst := some 59, op := Go.Op.load 39 (Go.Operand.tmp 58), type := 39, pos := "l14_layouts.go:267", after := #[{ on := 9, ground := Go.Ground.data }, { on := 1, ground := Go.Ground.guard }], guard := some (1, false) }
abbrev oD11 : Oper := { dst := some 60, op := Go.Op.move (Go.Operand.tmp 1), type := 3, pos := "l14_layouts.go:267", after := #[{ on := 1, ground := Go.Ground.guard }], guard := some (1, false) }
abbrev oD12 : Oper := { dst := some 61, op := Go.Op.call { callee := Go.Callee.value (Go.Operand.func 75), args := #[Go.Operand.tmp 59, Go.Operand.tmp 60], argTypes := #[39, 3] }, type := 3, pos := "l14_layouts.go:267", after := #[{ on := 10, ground := Go.Ground.data }, { on := 11, ground := Go.Ground.data }, { on := 1, ground := Go.Ground.chain }, { on := 1, ground := Go.Ground.guard }], guard := some (1, false) }
abbrev oD13 : Oper := { dst := some 62, op := Go.Op.indexAddr 29 (Go.Operand.tmp 54) (Go.Operand.tmp 61), type := 0, pos := "l14_layouts.go:267", after := #[{ on := 5, ground := Go.Ground.data }, { on := 12, ground := Go.Ground.data }, { on := 1, ground := Go.Ground.guard }], guard := some (1, false) }
abbrev oD14 : Oper := { dst := some 63, op := Go.Op.load 4 (Go.Operand.tmp 62), type := 4, pos := "l14_layouts.go:267", after := #[{ on := 13, ground := Go.Ground.data }, { on := 1, ground := Go.Ground.guard }], guard := some (1, false) }
abbrev oD15 : Oper := { dst := some 64, op := Go.Op.unOp Go.UnOp.not 4 (Go.Operand.tmp 63), type := 4, pos := "l14_layouts.go:267", after := #[{ on := 14, ground := Go.Ground.data }, { on := 1, ground := Go.Ground.guard }], guard := some (1, false) }
abbrev oD16 : Oper := { dst := some 65, op := Go.Op.pick (Go.Operand.tmp 50) (Go.Operand.const (Go.Value.bool true)) (Go.Operand.tmp 64), type := 4, pos := "l14_layouts.go:267", after := #[{ on := 1, ground := Go.Ground.data }, { on := 15, ground := Go.Ground.data }], guard := none }
abbrev oD17 : Oper := { dst := some 3, op := Go.Op.assign (Go.Operand.tmp 65), type := 4, pos := "l14_layouts.go:267", after := #[{ on := 16, ground := Go.Ground.data }, { on := 12, ground := Go.Ground.chain }, { on := 0, ground := Go.Ground.phase }, { on := 1, ground := Go.Ground.phase }, { on := 2, ground := Go.Ground.phase }, { on := 3, ground := Go.Ground.phase }, { on := 4, ground := Go.Ground.phase }, { on := 5, ground := Go.Ground.phase }, { on := 6, ground := Go.Ground.phase }, { on := 7, ground := Go.Ground.phase }, { on := 8, ground := Go.Ground.phase }, { on := 9, ground := Go.Ground.phase }, { on := 10, ground := Go.Ground.phase }, { on := 11, ground := Go.Ground.phase }, { on := 12, ground := Go.Ground.phase }, { on := 13, ground := Go.Ground.phase }, { on := 14, ground := Go.Ground.phase }, { on := 15, ground := Go.Ground.phase }, { on := 16, ground := Go.Ground.phase }], guard := none }
theorem sbx_step {w1 w2 : World} {p q : Nat} {nv gv bv : Value} {g1 g2 : Option Nat} (hs : SBx w1 q p nv gv bv) (n2 : g1 ≠ some q) (hq : q ≠ p) (hmv : Mv p g1 w1 g2 w2) : SBx w2 q p nv gv bv ∧ g2 ≠ some q :=
  ⟨Box.keep hs (hmv.fr.2.2.2.2 q (Box.lt hs) hq n2), fun e => by
    rcases hmv.gto with h1 | ⟨x, h1, h2⟩
    · rw [h1] at e; exact n2 e
    · rw [h1] at e; injection e with e; have := Box.lt hs; omega⟩
theorem im_step {w1 : World} {p q r : Nat} {nv gv bv : Value} {g1 : Option Nat} {L : List Value} (hb : Box w1 r 44 L) (hs : SBx w1 q p nv gv bv) (n1 : g1 ≠ some r) (n2 : g1 ≠ some q) (hr : r ≠ p) (hq : q ≠ p) : ∀ (g2 : Option Nat) (w2 : World), Mv p g1 w1 g2 w2 → Box w2 r 44 L ∧ SBx w2 q p nv gv bv ∧ g2 ≠ some r ∧ g2 ≠ some q := fun g2 w2 hmv => by
  obtain ⟨h1, h2⟩ := sbx_step hs n2 hq hmv
  refine ⟨hb.keep (hmv.fr.2.2.2.2 r hb.lt hr n1), h1, fun e => ?_, h2⟩
  rcases hmv.gto with h3 | ⟨x, h3, h4⟩
  · rw [h3] at e; exact n1 e
  · rw [h3] at e; injection e with e; have := hb.lt; omega
/-- What the program's setter does. -/
def NiC (l : List DLNode) (br : List Bool) (w0 : World) (p q : Nat) (nv gv bv : Value) (f : Nat) : Prop := ∀ (i ind : Nat) (flat : Bool) (xs : List UInt8) (g : Option Nat) (a : Option Addr) (c : Nat) (w : World), i < l.length → i < f → ind + 20 * i ≤ 6000 → xs.length + (tx l br f i ind flat).length ≤ 800000000 → Below w0.heap.size w0 w → St w p 74 [] xs g a c → SBx w q p nv gv bv → g ≠ some q →
    Calls Try.prog 51 #[.pointer (some ⟨q, 0, none⟩), .int .i64 i, .int .i64 ind, .bool flat] w (Wr p 74 [] xs (tx l br f i ind flat) g w)
set_option maxHeartbeats 25600000 in
theorem set51 {S S' S2 : Nat → Prop} (l : List DLNode) (br : List Bool) (b off cap p q : Nat) (gv bv : Value) (w0 : World) (hl : LoP l) (hd : LNodeR w0 S l (.slice (some ⟨b, off, none⟩) l.length cap)) (hbr : Bls w0 S' br bv) (hgr : Ints w0 S2 (gpl l l.length) gv) (hbl : br.length = (gpl l l.length).length) (hp0 : w0.heap.size ≤ p) (hpq : q ≠ p) :
    ∀ f, NiC l br w0 p q (.slice (some ⟨b, off, none⟩) l.length cap) gv bv f := by
  have hcap : l.length ≤ cap ∧ cap ≤ maxLen := by obtain ⟨a, cap', b', off', s3, hv, hc, hm, _⟩ := hd; injection hv with _ _ e; omega
  obtain ⟨s3, hcell, r3⟩ : ∃ s3 : Nat → Value, (∀ i (hi : i < l.length), w0.cell? ⟨b, off + i * 4, none⟩ = some (.int .i64 l[i].kind) ∧ w0.cell? ⟨b, off + i * 4 + 1, none⟩ = some (.string l[i].s) ∧ w0.cell? ⟨b, off + i * 4 + 2, none⟩ = some (.int .i64 l[i].n) ∧ w0.cell? ⟨b, off + i * 4 + 3, none⟩ = some (s3 i) ∧ l[i].s.size ≤ maxLen) ∧ (∀ i (hi : i < l.length), Ints w0 S l[i].kids (s3 i)) := by
    obtain ⟨a, cap', b', off', s3, hv, hc, hm, ha, h1, h2⟩ := hd
    have e1 : a = some ⟨b, off, none⟩ := by injection hv with e _ _; exact e.symm
    obtain ⟨e2, _⟩ := ha hl.n1
    rw [e1] at e2
    injection e2 with e2
    injection e2 with e3 e4
    subst e3 e4
    exact ⟨s3, h1, h2⟩
  obtain ⟨ab, cb, bb, ob, rfl, hbc, hbm, hba, hbcell⟩ := hbr
  have HC := (show Hid _ from hcell); clear hcell
  have HR3 := (show Hid _ from r3); clear r3
  have HBA := (show Hid _ from hba); clear hba
  have HBC := (show Hid _ from hbcell); clear hbcell hd
  obtain ⟨hcap1, hcap2⟩ := hcap
  unfold maxLen at hcap2 hbm
  have hn2 := hl.n2
  obtain ⟨ag, cg, rfl, hgm⟩ := hgr.form
  have HIDX := (show Hid (∀ (i : Nat) (hi : i < l.length) (wq : World), Below w0.heap.size w0 wq → l[i].kind = 6 → Calls Try.prog 75 #[.slice ag (gpl l l.length).length cg, .int .i64 i] wq fun e w' => e = .returned (.int .i64 (gpl l i).length) ∧ w' = wq) from fun i hi wq hb hk => by
    obtain ⟨h1, h2, h3⟩ := gpl_at hi hk
    exact index75 (gpl l l.length) _ i (gpl l i).length wq (hgr.still hb) h1 h2 h3)
  clear hgr
  unfold maxLen at hgm
  have HBL := (show Hid _ from hbl); clear hbl
  intro f
  induction f with
  | zero => intro i ind flat xs g a c w hi hif; omega
  | succ f ih =>
    have HIH := (show Hid (NiC l br w0 p q (.slice (some ⟨b, off, none⟩) l.length cap) (.slice ag (gpl l l.length).length cg) (.slice ab br.length cb) f) from ih); clear ih
    intro i ind flat xs g a c w hi hif hind hlen hB hS hSB hgq
    have HSB0 := (show Hid (SBx w q p (.slice (some ⟨b, off, none⟩) l.length cap) (.slice ag (gpl l l.length).length cg) (.slice ab br.length cb)) from hSB); clear hSB
    have HNQ := (show Hid (g ≠ some q) from hgq); clear hgq
    obtain ⟨c0, c1, c2, c3, z1⟩ := HC.out i hi
    rw [← hB.cell (lt_of_cell c0)] at c0
    rw [← hB.cell (lt_of_cell c1)] at c1
    rw [← hB.cell (lt_of_cell c2)] at c2
    rw [← hB.cell (lt_of_cell c3)] at c3
    obtain ⟨ak, ck, bk, ok, ek, hck, hmk, hak, hkc⟩ := HR3.out i hi
    rw [ek] at c3
    clear ek
    have HAK := (show Hid _ from hak); clear hak
    have HKC := (show Hid _ from hkc); clear hkc
    unfold maxLen at hmk z1
    have hnd := hl.nd i hi
    have HKD := (show Hid (∀ k ∈ l[i].kids, 0 ≤ k ∧ k < (i : Int)) from hl.kd i hi)
    have HIT := (show Hid _ from inT_le hl (ind := ind) hi)
    have HLN := (show Hid _ from hlen); clear hlen
    have HBW := (show Hid (Below w0.heap.size w0 w) from hB); clear hB
    have HSt0 := (show Hid (St w p 74 [] xs g a c) from hS); clear hS
    have HGP := (show Hid (l[i].kind = 6 → (gpl l i).length < br.length) from fun h => by rw [HBL.out]; exact gpl_lt hi h)
    have HFL := (show Hid (flT l br i flat = if l[i].kind = 6 then flat || !(br.getD (gpl l i).length false) else flat) from by show _ = _; unfold flT; rw [getZ hi])
    have HIN := (show Hid (inT l[i] ind = if l[i].kind = 5 then ind + l[i].n.toNat else ind) from rfl)
    have HOW := (show Hid (ownT l[i] ind flat = if l[i].kind = 1 then l[i].s.data.toList else if l[i].kind = 2 ∨ l[i].kind = 3 then lnT l[i].kind ind flat else if l[i].kind = 4 then fdT ind else []) from rfl)
    have HTL := (show Hid (l[i].kids.length = 0 → tx l br (f + 1) i ind flat = ownT l[i] ind flat) from fun h => tx_leaf hi h)
    have HTS := (show Hid (tx l br (f + 1) i ind flat = ownT l[i] ind flat ++ txK l br f i ind flat l[i].kids.length) from tx_succ hi)
    have hpw := HSt0.out.lt.1
    have qd : w.cell? ⟨q, 0, none⟩ = some (.slice (some ⟨b, off, none⟩) l.length cap) := HSB0.out.cell 0 (by simp)
    have hqw : q < w.heap.size := Box.lt HSB0.out
    have HNR := (show Hid (g ≠ some w.heap.size) from fun e => by have := HSt0.out.lt.2 _ e; omega)
    have HG := (show Hid (∀ k, g = some k → w0.heap.size ≤ k) from fun k e => by have := HSt0.out.lt.2 k e; omega)
    have HIDX := (show Hid (∀ (wq : World), Below w0.heap.size w0 wq → l[i].kind = 6 → Calls Try.prog 75 #[.slice ag (gpl l l.length).length cg, .int .i64 i] wq fun e w' => e = .returned (.int .i64 (gpl l i).length) ∧ w' = wq) from fun wq hb hk => HIDX.out i hi wq hb hk)
    have hkk : l[i].kind = 1 ∨ l[i].kind = 2 ∨ l[i].kind = 3 ∨ l[i].kind = 4 ∨ l[i].kind = 5 ∨ l[i].kind = 6 ∨ l[i].kind = 7 := by
      refine Classical.byContradiction fun hn => ?_
      unfold ndB at hnd
      rw [if_neg (by omega), if_neg (by omega), if_neg (by omega), if_neg (by omega), if_neg (by omega)] at hnd
      cases hnd
    have hK0 : l[i].kind ≤ 4 → l[i].kids.length = 0 ∧ (l[i].kind = 1 → l[i].s.size ≤ 200) := fun h => by
      unfold ndB at hnd
      by_cases h1 : l[i].kind = 1
      · rw [if_pos h1] at hnd
        simp only [Bool.and_eq_true, decide_eq_true_eq] at hnd
        exact ⟨hnd.2.2.2, fun _ => hnd.1⟩
      · rw [if_neg h1, if_pos (by omega)] at hnd
        simp only [Bool.and_eq_true, decide_eq_true_eq] at hnd
        exact ⟨hnd.2.2, fun h2 => absurd h2 h1⟩
    have hK1 : l[i].kind = 5 ∨ l[i].kind = 6 → l[i].kids.length = 1 ∧ (l[i].kind = 5 → 0 ≤ l[i].n ∧ l[i].n ≤ 20) := fun h => by
      unfold ndB at hnd
      rcases h with h | h
      · rw [if_neg (by omega), if_neg (by omega), if_pos h] at hnd
        simp only [Bool.and_eq_true, decide_eq_true_eq] at hnd
        exact ⟨hnd.2.2.2, fun _ => ⟨hnd.2.1, hnd.2.2.1⟩⟩
      · rw [if_neg (by omega), if_neg (by omega), if_neg (by omega), if_pos h] at hnd
        simp only [Bool.and_eq_true, decide_eq_true_eq] at hnd
        exact ⟨hnd.2.2, fun h2 => by omega⟩
    clear hnd
    obtain ⟨kd, hkd⟩ : ∃ kd, l[i].kind = kd := ⟨_, rfl⟩
    obtain ⟨y1, hy1⟩ : ∃ y1, l[i].s = y1 := ⟨_, rfl⟩
    obtain ⟨y2, hy2⟩ : ∃ y2, l[i].n = y2 := ⟨_, rfl⟩
    rw [hkd] at hkk hK0 hK1 c0 HGP HFL HIN HOW HIDX
    rw [hy1] at hK0 c1 z1 HOW
    rw [hy2] at hK1 c2 HIN
    clear hkd hy1 hy2
    rcases hkk with rfl | rfl | rfl | rfl | rfl | rfl | rfl
    · skip
      obtain ⟨hk0, hs0⟩ := hK0 (by omega)
      have HK0 := (show Hid _ from hk0); clear hk0
      have HTZ := (show Hid (tx l br (f + 1) i ind flat = y1.data.toList ++ txK l br f i ind flat l[i].kids.length) from by show _ = _; rw [HTS.out, HOW.out]; rfl)
      clear hK0 hK1 HTL HTS HFL HIN HOW HGP HIT
      have hbW := bel_alloc w (.cells #[.int .i64 1, .string y1, .int .i64 y2, .slice ak l[i].kids.length ck] 44)
      have HSt := (show Hid (St (w.alloc (.cells #[.int .i64 1, .string y1, .int .i64 y2, .slice ak l[i].kids.length ck] 44)) p 74 [] xs g a c) from HSt0.out.still hbW)
      have HSB := (show Hid (SBx (w.alloc (.cells #[.int .i64 1, .string y1, .int .i64 y2, .slice ak l[i].kids.length ck] 44)) q p (.slice (some ⟨b, off, none⟩) l.length cap) (.slice ag (gpl l l.length).length cg) (.slice ab br.length cb)) from Box.still HSB0.out hbW)
      have HBx := (show Hid (Box (w.alloc (.cells #[.int .i64 1, .string y1, .int .i64 y2, .slice ak l[i].kids.length ck] 44)) w.heap.size 44 [.int .i64 1, .string y1, .int .i64 y2, .slice ak l[i].kids.length ck]) from Box.new w 44 [.int .i64 1, .string y1, .int .i64 y2, .slice ak l[i].kids.length ck])
      have HMW := (show Hid (Mv p g w g (w.alloc (.cells #[.int .i64 1, .string y1, .int .i64 y2, .slice ak l[i].kids.length ck] 44))) from Mv.bel hbW)
      clear hbW
      have hln := HLN.out
      have hs200 := hs0 rfl
      have hq3 : (w.alloc (.cells #[.int .i64 1, .string y1, .int .i64 y2, .slice ak l[i].kids.length ck] 44)).drew.cell? ⟨q, 3, none⟩ = some (.iface 76 (.pointer (some ⟨p, 0, none⟩))) := HSB.out.cell 3 (by simp)
      have hx1 : (w.alloc (.cells #[.int .i64 1, .string y1, .int .i64 y2, .slice ak l[i].kids.length ck] 44)).drew.cell? ⟨w.heap.size, 1, none⟩ = some (.string y1) := HBx.out.cell 1 (by simp)
      have HPU := (show Hid _ from put104 p y1 xs g a c (w.alloc (.cells #[.int .i64 1, .string y1, .int .i64 y2, .slice ak l[i].kids.length ck] 44)).drew (HSt.out.keep rfl (fun _ _ => rfl)) (by omega))
      have HNE := (show Hid _ from im_step (w1 := (w.alloc (.cells #[.int .i64 1, .string y1, .int .i64 y2, .slice ak l[i].kids.length ck] 44)).drew) (HBx.out.keep rfl) (Box.keep HSB.out rfl) HNR.out HNQ.out (by omega) hpq)
      have HMD := (show Hid (Mv p g w g (w.alloc (.cells #[.int .i64 1, .string y1, .int .i64 y2, .slice ak l[i].kids.length ck] 44)).drew) from ⟨HMW.out.fr, HMW.out.gto⟩)
      have hS0 := (⟨hq3, hx1⟩ : _ ∧ _)
      have hmp := meth_put
      clear hln
      go_enter Try.func51, Try.ntmps51
      go_wp2_with fail
      go_region_held3 (fun wq => wq.cell? ⟨q, 3, none⟩ = some (.iface 76 (.pointer (some ⟨p, 0, none⟩))) ∧ wq.cell? ⟨w.heap.size, 1, none⟩ = some (.string y1)) (first | with_reducible exact hS0 | with_reducible exact hS1) ((go_at_call 104; refine Calls.mono HPU.out ?_; rintro e w1 ⟨rfl, g1, a1, c1, hst, hmv⟩; have hNE := HNE.out _ _ hmv; have hS1 := (⟨hNE.2.1.cell 3 (by simp), hNE.1.cell 1 (by simp)⟩ : w1.cell? ⟨q, 3, none⟩ = some (.iface 76 (.pointer (some ⟨p, 0, none⟩))) ∧ w1.cell? ⟨w.heap.size, 1, none⟩ = some (.string y1))))
      obtain ⟨hbx, hsb, hnr, hnq⟩ := hNE
      have x3 := hbx.cell 3 (by simp)
      simp only [List.getD_cons_succ, List.getD_cons_zero] at x3
      have H1 := (show Hid (St w1 p 74 [] (xs ++ y1.data.toList ++ txK l br f i ind flat 0) g1 a1 c1 ∧ Mv p g w g1 w1 ∧ SBx w1 q p (.slice (some ⟨b, off, none⟩) l.length cap) (.slice ag (gpl l l.length).length cg) (.slice ab br.length cb) ∧ g1 ≠ some q) from
        ⟨by simpa [txK] using hst, HMD.out.trans hmv, hsb, hnq⟩)
      clear hst hmv hbx hsb hnr hnq HPU HNE HSt HSB HBx hS1 hS0
      go_wp2_with fail
      go_loopw [69] (fun i' wx => ∃ j : Nat, i' = .int .i64 j ∧ j ≤ l[i].kids.length ∧ ∃ g2 a2 c2, Hid (St wx p 74 [] (xs ++ y1.data.toList ++ txK l br f i ind flat j) g2 a2 c2 ∧ Mv p g w g2 wx ∧ SBx wx q p (.slice (some ⟨b, off, none⟩) l.length cap) (.slice ag (gpl l l.length).length cg) (.slice ab br.length cb) ∧ g2 ≠ some q)) (fun i' _ => l[i].kids.length - (intOf i').toNat)
      case atStart => exact ⟨0, rfl, Nat.zero_le _, _, _, _, H1⟩
      case round =>
        clear H1
        (try clear c0 c1 c2 c3)
        obtain ⟨j, rfl, hj, g2, a2, c2, HV⟩ := hrel
        by_cases hjl : j < l[i].kids.length
        · exact absurd hjl (by rw [HK0.out]; omega)
        · obtain rfl : j = l[i].kids.length := by omega
          go_wp2_with fail
          refine bodyPost_end (v := .tuple #[]) (by simp [results, Try.results51]) rfl ?_
          exact ⟨rfl, _, _, _, by rw [HTZ.out, ← List.append_assoc]; exact HV.out.1, HV.out.2.1⟩
    · cases flat
      · skip
        obtain ⟨hk0, hs0⟩ := hK0 (by omega)
        have HK0 := (show Hid _ from hk0); clear hk0
        have HTZ := (show Hid (tx l br (f + 1) i ind false = fdT ind ++ txK l br f i ind false l[i].kids.length) from by show _ = _; rw [HTS.out, HOW.out]; rfl)
        clear hK0 hK1 HTL HTS HFL HIN HOW HGP HIT
        have hbW := bel_alloc w (.cells #[.int .i64 2, .string y1, .int .i64 y2, .slice ak l[i].kids.length ck] 44)
        have HSt := (show Hid (St (w.alloc (.cells #[.int .i64 2, .string y1, .int .i64 y2, .slice ak l[i].kids.length ck] 44)) p 74 [] xs g a c) from HSt0.out.still hbW)
        have HSB := (show Hid (SBx (w.alloc (.cells #[.int .i64 2, .string y1, .int .i64 y2, .slice ak l[i].kids.length ck] 44)) q p (.slice (some ⟨b, off, none⟩) l.length cap) (.slice ag (gpl l l.length).length cg) (.slice ab br.length cb)) from Box.still HSB0.out hbW)
        have HBx := (show Hid (Box (w.alloc (.cells #[.int .i64 2, .string y1, .int .i64 y2, .slice ak l[i].kids.length ck] 44)) w.heap.size 44 [.int .i64 2, .string y1, .int .i64 y2, .slice ak l[i].kids.length ck]) from Box.new w 44 [.int .i64 2, .string y1, .int .i64 y2, .slice ak l[i].kids.length ck])
        have HMW := (show Hid (Mv p g w g (w.alloc (.cells #[.int .i64 2, .string y1, .int .i64 y2, .slice ak l[i].kids.length ck] 44))) from Mv.bel hbW)
        clear hbW
        have hln := HLN.out
        have HLI := (show Hid _ from line74 q p ind 2 false (.slice (some ⟨b, off, none⟩) l.length cap) (.slice ag (gpl l l.length).length cg) (.slice ab br.length cb) xs g a c _ HSt.out HSB.out (by omega) (by omega))
        have HNE := (show Hid _ from im_step HBx.out HSB.out HNR.out HNQ.out (by omega) hpq)
        clear hln
        go_enter Try.func51, Try.ntmps51
        go_wp2_with fail
        refine Calls.mono HLI.out ?_
        rintro e w1 ⟨rfl, g1, a1, c1, hst, hmv⟩
        obtain ⟨hbx, hsb, hnr, hnq⟩ := HNE.out _ _ hmv
        have x3 := hbx.cell 3 (by simp)
        simp only [List.getD_cons_succ, List.getD_cons_zero] at x3
        have H1 := (show Hid (St w1 p 74 [] (xs ++ fdT ind ++ txK l br f i ind false 0) g1 a1 c1 ∧ Mv p g w g1 w1 ∧ SBx w1 q p (.slice (some ⟨b, off, none⟩) l.length cap) (.slice ag (gpl l l.length).length cg) (.slice ab br.length cb) ∧ g1 ≠ some q) from
          ⟨by simpa [txK, lnT] using hst, HMW.out.trans hmv, hsb, hnq⟩)
        clear hst hmv hbx hsb hnr hnq HLI HNE HSt HSB HBx
        go_wp2_with fail
        go_loopw [69] (fun i' wx => ∃ j : Nat, i' = .int .i64 j ∧ j ≤ l[i].kids.length ∧ ∃ g2 a2 c2, Hid (St wx p 74 [] (xs ++ fdT ind ++ txK l br f i ind false j) g2 a2 c2 ∧ Mv p g w g2 wx ∧ SBx wx q p (.slice (some ⟨b, off, none⟩) l.length cap) (.slice ag (gpl l l.length).length cg) (.slice ab br.length cb) ∧ g2 ≠ some q)) (fun i' _ => l[i].kids.length - (intOf i').toNat)
        case atStart => exact ⟨0, rfl, Nat.zero_le _, _, _, _, H1⟩
        case round =>
          clear H1
          (try clear c0 c1 c2 c3)
          obtain ⟨j, rfl, hj, g2, a2, c2, HV⟩ := hrel
          by_cases hjl : j < l[i].kids.length
          · exact absurd hjl (by rw [HK0.out]; omega)
          · obtain rfl : j = l[i].kids.length := by omega
            go_wp2_with fail
            refine bodyPost_end (v := .tuple #[]) (by simp [results, Try.results51]) rfl ?_
            exact ⟨rfl, _, _, _, by rw [HTZ.out, ← List.append_assoc]; exact HV.out.1, HV.out.2.1⟩
      · skip
        obtain ⟨hk0, hs0⟩ := hK0 (by omega)
        have HK0 := (show Hid _ from hk0); clear hk0
        have HTZ := (show Hid (tx l br (f + 1) i ind true = [32] ++ txK l br f i ind true l[i].kids.length) from by show _ = _; rw [HTS.out, HOW.out]; rfl)
        clear hK0 hK1 HTL HTS HFL HIN HOW HGP HIT
        have hbW := bel_alloc w (.cells #[.int .i64 2, .string y1, .int .i64 y2, .slice ak l[i].kids.length ck] 44)
        have HSt := (show Hid (St (w.alloc (.cells #[.int .i64 2, .string y1, .int .i64 y2, .slice ak l[i].kids.length ck] 44)) p 74 [] xs g a c) from HSt0.out.still hbW)
        have HSB := (show Hid (SBx (w.alloc (.cells #[.int .i64 2, .string y1, .int .i64 y2, .slice ak l[i].kids.length ck] 44)) q p (.slice (some ⟨b, off, none⟩) l.length cap) (.slice ag (gpl l l.length).length cg) (.slice ab br.length cb)) from Box.still HSB0.out hbW)
        have HBx := (show Hid (Box (w.alloc (.cells #[.int .i64 2, .string y1, .int .i64 y2, .slice ak l[i].kids.length ck] 44)) w.heap.size 44 [.int .i64 2, .string y1, .int .i64 y2, .slice ak l[i].kids.length ck]) from Box.new w 44 [.int .i64 2, .string y1, .int .i64 y2, .slice ak l[i].kids.length ck])
        have HMW := (show Hid (Mv p g w g (w.alloc (.cells #[.int .i64 2, .string y1, .int .i64 y2, .slice ak l[i].kids.length ck] 44))) from Mv.bel hbW)
        clear hbW
        have hln := HLN.out
        have HLI := (show Hid _ from line74 q p ind 2 true (.slice (some ⟨b, off, none⟩) l.length cap) (.slice ag (gpl l l.length).length cg) (.slice ab br.length cb) xs g a c _ HSt.out HSB.out (by omega) (by omega))
        have HNE := (show Hid _ from im_step HBx.out HSB.out HNR.out HNQ.out (by omega) hpq)
        clear hln
        go_enter Try.func51, Try.ntmps51
        go_wp2_with fail
        refine Calls.mono HLI.out ?_
        rintro e w1 ⟨rfl, g1, a1, c1, hst, hmv⟩
        obtain ⟨hbx, hsb, hnr, hnq⟩ := HNE.out _ _ hmv
        have x3 := hbx.cell 3 (by simp)
        simp only [List.getD_cons_succ, List.getD_cons_zero] at x3
        have H1 := (show Hid (St w1 p 74 [] (xs ++ [32] ++ txK l br f i ind true 0) g1 a1 c1 ∧ Mv p g w g1 w1 ∧ SBx w1 q p (.slice (some ⟨b, off, none⟩) l.length cap) (.slice ag (gpl l l.length).length cg) (.slice ab br.length cb) ∧ g1 ≠ some q) from
          ⟨by simpa [txK, lnT] using hst, HMW.out.trans hmv, hsb, hnq⟩)
        clear hst hmv hbx hsb hnr hnq HLI HNE HSt HSB HBx
        go_wp2_with fail
        go_loopw [69] (fun i' wx => ∃ j : Nat, i' = .int .i64 j ∧ j ≤ l[i].kids.length ∧ ∃ g2 a2 c2, Hid (St wx p 74 [] (xs ++ [32] ++ txK l br f i ind true j) g2 a2 c2 ∧ Mv p g w g2 wx ∧ SBx wx q p (.slice (some ⟨b, off, none⟩) l.length cap) (.slice ag (gpl l l.length).length cg) (.slice ab br.length cb) ∧ g2 ≠ some q)) (fun i' _ => l[i].kids.length - (intOf i').toNat)
        case atStart => exact ⟨0, rfl, Nat.zero_le _, _, _, _, H1⟩
        case round =>
          clear H1
          (try clear c0 c1 c2 c3)
          obtain ⟨j, rfl, hj, g2, a2, c2, HV⟩ := hrel
          by_cases hjl : j < l[i].kids.length
          · exact absurd hjl (by rw [HK0.out]; omega)
          · obtain rfl : j = l[i].kids.length := by omega
            go_wp2_with fail
            refine bodyPost_end (v := .tuple #[]) (by simp [results, Try.results51]) rfl ?_
            exact ⟨rfl, _, _, _, by rw [HTZ.out, ← List.append_assoc]; exact HV.out.1, HV.out.2.1⟩
    · cases flat
      · skip
        obtain ⟨hk0, hs0⟩ := hK0 (by omega)
        have HK0 := (show Hid _ from hk0); clear hk0
        have HTZ := (show Hid (tx l br (f + 1) i ind false = fdT ind ++ txK l br f i ind false l[i].kids.length) from by show _ = _; rw [HTS.out, HOW.out]; rfl)
        clear hK0 hK1 HTL HTS HFL HIN HOW HGP HIT
        have hbW := bel_alloc w (.cells #[.int .i64 3, .string y1, .int .i64 y2, .slice ak l[i].kids.length ck] 44)
        have HSt := (show Hid (St (w.alloc (.cells #[.int .i64 3, .string y1, .int .i64 y2, .slice ak l[i].kids.length ck] 44)) p 74 [] xs g a c) from HSt0.out.still hbW)
        have HSB := (show Hid (SBx (w.alloc (.cells #[.int .i64 3, .string y1, .int .i64 y2, .slice ak l[i].kids.length ck] 44)) q p (.slice (some ⟨b, off, none⟩) l.length cap) (.slice ag (gpl l l.length).length cg) (.slice ab br.length cb)) from Box.still HSB0.out hbW)
        have HBx := (show Hid (Box (w.alloc (.cells #[.int .i64 3, .string y1, .int .i64 y2, .slice ak l[i].kids.length ck] 44)) w.heap.size 44 [.int .i64 3, .string y1, .int .i64 y2, .slice ak l[i].kids.length ck]) from Box.new w 44 [.int .i64 3, .string y1, .int .i64 y2, .slice ak l[i].kids.length ck])
        have HMW := (show Hid (Mv p g w g (w.alloc (.cells #[.int .i64 3, .string y1, .int .i64 y2, .slice ak l[i].kids.length ck] 44))) from Mv.bel hbW)
        clear hbW
        have hln := HLN.out
        have HLI := (show Hid _ from line74 q p ind 3 false (.slice (some ⟨b, off, none⟩) l.length cap) (.slice ag (gpl l l.length).length cg) (.slice ab br.length cb) xs g a c _ HSt.out HSB.out (by omega) (by omega))
        have HNE := (show Hid _ from im_step HBx.out HSB.out HNR.out HNQ.out (by omega) hpq)
        clear hln
        go_enter Try.func51, Try.ntmps51
        go_wp2_with fail
        refine Calls.mono HLI.out ?_
        rintro e w1 ⟨rfl, g1, a1, c1, hst, hmv⟩
        obtain ⟨hbx, hsb, hnr, hnq⟩ := HNE.out _ _ hmv
        have x3 := hbx.cell 3 (by simp)
        simp only [List.getD_cons_succ, List.getD_cons_zero] at x3
        have H1 := (show Hid (St w1 p 74 [] (xs ++ fdT ind ++ txK l br f i ind false 0) g1 a1 c1 ∧ Mv p g w g1 w1 ∧ SBx w1 q p (.slice (some ⟨b, off, none⟩) l.length cap) (.slice ag (gpl l l.length).length cg) (.slice ab br.length cb) ∧ g1 ≠ some q) from
          ⟨by simpa [txK, lnT] using hst, HMW.out.trans hmv, hsb, hnq⟩)
        clear hst hmv hbx hsb hnr hnq HLI HNE HSt HSB HBx
        go_wp2_with fail
        go_loopw [69] (fun i' wx => ∃ j : Nat, i' = .int .i64 j ∧ j ≤ l[i].kids.length ∧ ∃ g2 a2 c2, Hid (St wx p 74 [] (xs ++ fdT ind ++ txK l br f i ind false j) g2 a2 c2 ∧ Mv p g w g2 wx ∧ SBx wx q p (.slice (some ⟨b, off, none⟩) l.length cap) (.slice ag (gpl l l.length).length cg) (.slice ab br.length cb) ∧ g2 ≠ some q)) (fun i' _ => l[i].kids.length - (intOf i').toNat)
        case atStart => exact ⟨0, rfl, Nat.zero_le _, _, _, _, H1⟩
        case round =>
          clear H1
          (try clear c0 c1 c2 c3)
          obtain ⟨j, rfl, hj, g2, a2, c2, HV⟩ := hrel
          by_cases hjl : j < l[i].kids.length
          · exact absurd hjl (by rw [HK0.out]; omega)
          · obtain rfl : j = l[i].kids.length := by omega
            go_wp2_with fail
            refine bodyPost_end (v := .tuple #[]) (by simp [results, Try.results51]) rfl ?_
            exact ⟨rfl, _, _, _, by rw [HTZ.out, ← List.append_assoc]; exact HV.out.1, HV.out.2.1⟩
      · skip
        obtain ⟨hk0, hs0⟩ := hK0 (by omega)
        have HK0 := (show Hid _ from hk0); clear hk0
        have HTZ := (show Hid (tx l br (f + 1) i ind true = ([] : List UInt8) ++ txK l br f i ind true l[i].kids.length) from by show _ = _; rw [HTS.out, HOW.out]; rfl)
        clear hK0 hK1 HTL HTS HFL HIN HOW HGP HIT
        have hbW := bel_alloc w (.cells #[.int .i64 3, .string y1, .int .i64 y2, .slice ak l[i].kids.length ck] 44)
        have HSt := (show Hid (St (w.alloc (.cells #[.int .i64 3, .string y1, .int .i64 y2, .slice ak l[i].kids.length ck] 44)) p 74 [] xs g a c) from HSt0.out.still hbW)
        have HSB := (show Hid (SBx (w.alloc (.cells #[.int .i64 3, .string y1, .int .i64 y2, .slice ak l[i].kids.length ck] 44)) q p (.slice (some ⟨b, off, none⟩) l.length cap) (.slice ag (gpl l l.length).length cg) (.slice ab br.length cb)) from Box.still HSB0.out hbW)
        have HBx := (show Hid (Box (w.alloc (.cells #[.int .i64 3, .string y1, .int .i64 y2, .slice ak l[i].kids.length ck] 44)) w.heap.size 44 [.int .i64 3, .string y1, .int .i64 y2, .slice ak l[i].kids.length ck]) from Box.new w 44 [.int .i64 3, .string y1, .int .i64 y2, .slice ak l[i].kids.length ck])
        have HMW := (show Hid (Mv p g w g (w.alloc (.cells #[.int .i64 3, .string y1, .int .i64 y2, .slice ak l[i].kids.length ck] 44))) from Mv.bel hbW)
        clear hbW
        have hln := HLN.out
        have HLI := (show Hid _ from line74 q p ind 3 true (.slice (some ⟨b, off, none⟩) l.length cap) (.slice ag (gpl l l.length).length cg) (.slice ab br.length cb) xs g a c _ HSt.out HSB.out (by omega) (by omega))
        have HNE := (show Hid _ from im_step HBx.out HSB.out HNR.out HNQ.out (by omega) hpq)
        clear hln
        go_enter Try.func51, Try.ntmps51
        go_wp2_with fail
        refine Calls.mono HLI.out ?_
        rintro e w1 ⟨rfl, g1, a1, c1, hst, hmv⟩
        obtain ⟨hbx, hsb, hnr, hnq⟩ := HNE.out _ _ hmv
        have x3 := hbx.cell 3 (by simp)
        simp only [List.getD_cons_succ, List.getD_cons_zero] at x3
        have H1 := (show Hid (St w1 p 74 [] (xs ++ ([] : List UInt8) ++ txK l br f i ind true 0) g1 a1 c1 ∧ Mv p g w g1 w1 ∧ SBx w1 q p (.slice (some ⟨b, off, none⟩) l.length cap) (.slice ag (gpl l l.length).length cg) (.slice ab br.length cb) ∧ g1 ≠ some q) from
          ⟨by simpa [txK, lnT] using hst, HMW.out.trans hmv, hsb, hnq⟩)
        clear hst hmv hbx hsb hnr hnq HLI HNE HSt HSB HBx
        go_wp2_with fail
        go_loopw [69] (fun i' wx => ∃ j : Nat, i' = .int .i64 j ∧ j ≤ l[i].kids.length ∧ ∃ g2 a2 c2, Hid (St wx p 74 [] (xs ++ ([] : List UInt8) ++ txK l br f i ind true j) g2 a2 c2 ∧ Mv p g w g2 wx ∧ SBx wx q p (.slice (some ⟨b, off, none⟩) l.length cap) (.slice ag (gpl l l.length).length cg) (.slice ab br.length cb) ∧ g2 ≠ some q)) (fun i' _ => l[i].kids.length - (intOf i').toNat)
        case atStart => exact ⟨0, rfl, Nat.zero_le _, _, _, _, H1⟩
        case round =>
          clear H1
          (try clear c0 c1 c2 c3)
          obtain ⟨j, rfl, hj, g2, a2, c2, HV⟩ := hrel
          by_cases hjl : j < l[i].kids.length
          · exact absurd hjl (by rw [HK0.out]; omega)
          · obtain rfl : j = l[i].kids.length := by omega
            go_wp2_with fail
            refine bodyPost_end (v := .tuple #[]) (by simp [results, Try.results51]) rfl ?_
            exact ⟨rfl, _, _, _, by rw [HTZ.out, ← List.append_assoc]; exact HV.out.1, HV.out.2.1⟩
    · skip
      obtain ⟨hk0, hs0⟩ := hK0 (by omega)
      have HK0 := (show Hid _ from hk0); clear hk0
      have HTZ := (show Hid (tx l br (f + 1) i ind flat = fdT ind ++ txK l br f i ind flat l[i].kids.length) from by show _ = _; rw [HTS.out, HOW.out]; rfl)
      clear hK0 hK1 HTL HTS HFL HIN HOW HGP HIT
      have hbW := bel_alloc w (.cells #[.int .i64 4, .string y1, .int .i64 y2, .slice ak l[i].kids.length ck] 44)
      have HSt := (show Hid (St (w.alloc (.cells #[.int .i64 4, .string y1, .int .i64 y2, .slice ak l[i].kids.length ck] 44)) p 74 [] xs g a c) from HSt0.out.still hbW)
      have HSB := (show Hid (SBx (w.alloc (.cells #[.int .i64 4, .string y1, .int .i64 y2, .slice ak l[i].kids.length ck] 44)) q p (.slice (some ⟨b, off, none⟩) l.length cap) (.slice ag (gpl l l.length).length cg) (.slice ab br.length cb)) from Box.still HSB0.out hbW)
      have HBx := (show Hid (Box (w.alloc (.cells #[.int .i64 4, .string y1, .int .i64 y2, .slice ak l[i].kids.length ck] 44)) w.heap.size 44 [.int .i64 4, .string y1, .int .i64 y2, .slice ak l[i].kids.length ck]) from Box.new w 44 [.int .i64 4, .string y1, .int .i64 y2, .slice ak l[i].kids.length ck])
      have HMW := (show Hid (Mv p g w g (w.alloc (.cells #[.int .i64 4, .string y1, .int .i64 y2, .slice ak l[i].kids.length ck] 44))) from Mv.bel hbW)
      clear hbW
      have hln := HLN.out
      have HLI := (show Hid _ from line74 q p ind 4 false (.slice (some ⟨b, off, none⟩) l.length cap) (.slice ag (gpl l l.length).length cg) (.slice ab br.length cb) xs g a c _ HSt.out HSB.out (by omega) (by omega))
      have HNE := (show Hid _ from im_step HBx.out HSB.out HNR.out HNQ.out (by omega) hpq)
      clear hln
      go_enter Try.func51, Try.ntmps51
      go_wp2_with fail
      refine Calls.mono HLI.out ?_
      rintro e w1 ⟨rfl, g1, a1, c1, hst, hmv⟩
      obtain ⟨hbx, hsb, hnr, hnq⟩ := HNE.out _ _ hmv
      have x3 := hbx.cell 3 (by simp)
      simp only [List.getD_cons_succ, List.getD_cons_zero] at x3
      have H1 := (show Hid (St w1 p 74 [] (xs ++ fdT ind ++ txK l br f i ind flat 0) g1 a1 c1 ∧ Mv p g w g1 w1 ∧ SBx w1 q p (.slice (some ⟨b, off, none⟩) l.length cap) (.slice ag (gpl l l.length).length cg) (.slice ab br.length cb) ∧ g1 ≠ some q) from
        ⟨by simpa [txK, lnT] using hst, HMW.out.trans hmv, hsb, hnq⟩)
      clear hst hmv hbx hsb hnr hnq HLI HNE HSt HSB HBx
      go_wp2_with fail
      go_loopw [69] (fun i' wx => ∃ j : Nat, i' = .int .i64 j ∧ j ≤ l[i].kids.length ∧ ∃ g2 a2 c2, Hid (St wx p 74 [] (xs ++ fdT ind ++ txK l br f i ind flat j) g2 a2 c2 ∧ Mv p g w g2 wx ∧ SBx wx q p (.slice (some ⟨b, off, none⟩) l.length cap) (.slice ag (gpl l l.length).length cg) (.slice ab br.length cb) ∧ g2 ≠ some q)) (fun i' _ => l[i].kids.length - (intOf i').toNat)
      case atStart => exact ⟨0, rfl, Nat.zero_le _, _, _, _, H1⟩
      case round =>
        clear H1
        (try clear c0 c1 c2 c3)
        obtain ⟨j, rfl, hj, g2, a2, c2, HV⟩ := hrel
        by_cases hjl : j < l[i].kids.length
        · exact absurd hjl (by rw [HK0.out]; omega)
        · obtain rfl : j = l[i].kids.length := by omega
          go_wp2_with fail
          refine bodyPost_end (v := .tuple #[]) (by simp [results, Try.results51]) rfl ?_
          exact ⟨rfl, _, _, _, by rw [HTZ.out, ← List.append_assoc]; exact HV.out.1, HV.out.2.1⟩
    · obtain ⟨hk1, hnn⟩ := hK1 (by omega)
      obtain ⟨hn0, hn20⟩ := hnn rfl
      obtain ⟨m, rfl⟩ : ∃ m : Nat, y2 = (m : Int) := ⟨y2.toNat, by omega⟩
      clear hnn hk1
      have hwr : IntKind.i64.wrap ((ind : Int) + (m : Int)) = (ind : Int) + (m : Int) := by rw [IntKind.wrap_i64]; omega
      have HTZ := (show Hid (tx l br (f + 1) i ind flat = ([] : List UInt8) ++ txK l br f i ind flat l[i].kids.length) from by show _ = _; rw [HTS.out, HOW.out]; rfl)
      have HKN := (show Hid (∀ j (hj : j < l[i].kids.length), txK l br f i ind flat (j + 1) = txK l br f i ind flat j ++ tx l br f l[i].kids[j].toNat (ind + m) flat) from fun j hj => by rw [txK_next hi hj, HIN.out, HFL.out]; rfl)
      have HKL := (show Hid (∀ j, j ≤ l[i].kids.length → xs.length + (([] : List UInt8) : List UInt8).length + (txK l br f i ind flat j).length ≤ 800000000) from fun j hj => by
        have h1 := HLN.out
        rw [HTZ.out, List.length_append] at h1
        have h2 := txK_le (l := l) (br := br) (f := f) (ind := ind) (q := j) (flat := flat) hi
        omega)
      clear hK0 hK1 HTL HTS HFL HIN HOW HGP HIT
      have hbW := bel_alloc w (.cells #[.int .i64 5, .string y1, .int .i64 (m : Int), .slice ak l[i].kids.length ck] 44)
      have HSt := (show Hid (St (w.alloc (.cells #[.int .i64 5, .string y1, .int .i64 (m : Int), .slice ak l[i].kids.length ck] 44)) p 74 [] xs g a c) from HSt0.out.still hbW)
      have HSB := (show Hid (SBx (w.alloc (.cells #[.int .i64 5, .string y1, .int .i64 (m : Int), .slice ak l[i].kids.length ck] 44)) q p (.slice (some ⟨b, off, none⟩) l.length cap) (.slice ag (gpl l l.length).length cg) (.slice ab br.length cb)) from Box.still HSB0.out hbW)
      have HBx := (show Hid (Box (w.alloc (.cells #[.int .i64 5, .string y1, .int .i64 (m : Int), .slice ak l[i].kids.length ck] 44)) w.heap.size 44 [.int .i64 5, .string y1, .int .i64 (m : Int), .slice ak l[i].kids.length ck]) from Box.new w 44 [.int .i64 5, .string y1, .int .i64 (m : Int), .slice ak l[i].kids.length ck])
      have HMW := (show Hid (Mv p g w g (w.alloc (.cells #[.int .i64 5, .string y1, .int .i64 (m : Int), .slice ak l[i].kids.length ck] 44))) from Mv.bel hbW)
      clear hbW
      have H1 := (show Hid (St (w.alloc (.cells #[.int .i64 5, .string y1, .int .i64 (m : Int), .slice ak l[i].kids.length ck] 44)) p 74 [] (xs ++ ([] : List UInt8) ++ txK l br f i ind flat 0) g a c ∧ Mv p g w g (w.alloc (.cells #[.int .i64 5, .string y1, .int .i64 (m : Int), .slice ak l[i].kids.length ck] 44)) ∧ SBx (w.alloc (.cells #[.int .i64 5, .string y1, .int .i64 (m : Int), .slice ak l[i].kids.length ck] 44)) q p (.slice (some ⟨b, off, none⟩) l.length cap) (.slice ag (gpl l l.length).length cg) (.slice ab br.length cb) ∧ g ≠ some q) from
        ⟨by simpa [txK] using HSt.out, HMW.out, HSB.out, HNQ.out⟩)
      go_enter Try.func51, Try.ntmps51
      go_wp2_with fail
      go_loopw [69] (fun i' wx => ∃ j : Nat, i' = .int .i64 j ∧ j ≤ l[i].kids.length ∧ ∃ g2 a2 c2, Hid (St wx p 74 [] (xs ++ ([] : List UInt8) ++ txK l br f i ind flat j) g2 a2 c2 ∧ Mv p g w g2 wx ∧ SBx wx q p (.slice (some ⟨b, off, none⟩) l.length cap) (.slice ag (gpl l l.length).length cg) (.slice ab br.length cb) ∧ g2 ≠ some q)) (fun i' _ => l[i].kids.length - (intOf i').toNat)
      case atStart => exact ⟨0, rfl, Nat.zero_le _, _, _, _, H1⟩
      case round =>
        clear H1
        (try clear c0 c1 c2 c3)
        obtain ⟨j, rfl, hj, g2, a2, c2, HV⟩ := hrel
        by_cases hjl : j < l[i].kids.length
        · obtain ⟨hak, _⟩ := HAK.out (by omega)
          obtain ⟨hkd0, hkd1⟩ := HKD.out l[i].kids[j] (List.getElem_mem hjl)
          have k0 := HKC.out j hjl
          have hkn := HKN.out j hjl
          have hkl := HKL.out (j + 1) hjl
          rw [hkn, List.length_append] at hkl
          obtain ⟨k, hk⟩ : ∃ k, l[i].kids[j] = k := ⟨_, rfl⟩
          rw [hk] at hkd0 hkd1 k0 hkn hkl
          clear hk
          obtain ⟨kn, rfl⟩ : ∃ kn : Nat, k = (kn : Int) := ⟨k.toNat, by omega⟩
          rw [Int.toNat_natCast] at hkn hkl
          have hbd : Below w0.heap.size w0 wr := HBW.out.trans (HV.out.2.1.below (by omega) HG.out HBW.out.size)
          rw [← hbd.cell (lt_of_cell k0)] at k0
          have HCL : Hid (Calls Try.prog 51 #[.pointer (some ⟨q, 0, none⟩), .int .i64 kn, .int .i64 ((ind : Int) + (m : Int)), .bool flat] wr (Wr p 74 [] (xs ++ ([] : List UInt8) ++ txK l br f i ind flat j) (tx l br f kn (ind + m) flat) g2 wr)) := by
            have := HIH.out kn (ind + m) flat (xs ++ ([] : List UInt8) ++ txK l br f i ind flat j) g2 a2 c2 wr (by omega) (by omega) (by omega) (by rw [List.length_append, List.length_append]; omega) hbd HV.out.1 HV.out.2.2.1 HV.out.2.2.2
            rw [show (((ind + m : Nat)) : Int) = (ind : Int) + (m : Int) from by omega] at this
            exact this
          have HKN2 := (show Hid _ from hkn)
          clear hkl hkn hbd
          subst hak
          go_wp2_with fail
          refine Calls.mono HCL.out ?_
          rintro e w' ⟨rfl, g3, a3, c3, hst, hmv⟩
          have HN := (show Hid (St w' p 74 [] (xs ++ ([] : List UInt8) ++ txK l br f i ind flat (j + 1)) g3 a3 c3 ∧ Mv p g w g3 w' ∧ SBx w' q p (.slice (some ⟨b, off, none⟩) l.length cap) (.slice ag (gpl l l.length).length cg) (.slice ab br.length cb) ∧ g3 ≠ some q) from
            ⟨by rw [HKN2.out, ← List.append_assoc]; exact hst, HV.out.2.1.trans hmv, sbx_step HV.out.2.2.1 HV.out.2.2.2 hpq hmv⟩)
          clear hst hmv HV HCL HKN2 k0
          go_wp2_with fail
          exact ⟨⟨j + 1, by go_num, by omega, _, _, _, HN⟩, by simp [intOf]; omega⟩
        · obtain rfl : j = l[i].kids.length := by omega
          go_wp2_with fail
          refine bodyPost_end (v := .tuple #[]) (by simp [results, Try.results51]) rfl ?_
          exact ⟨rfl, _, _, _, by rw [HTZ.out, ← List.append_assoc]; exact HV.out.1, HV.out.2.1⟩
    · cases flat
      · have hG := HGP.out rfl
        obtain ⟨hab, _⟩ := HBA.out (by omega)
        have hbG := HBC.out (gpl l i).length hG
        have hGD : br.getD (gpl l i).length false = br[(gpl l i).length] := getD_lt _ _ hG
        have HIX0 := (show Hid (∀ wq, Below w0.heap.size w0 wq → Calls Try.prog 75 #[.slice ag (gpl l l.length).length cg, .int .i64 i] wq fun e w' => e = .returned (.int .i64 (gpl l i).length) ∧ w' = wq) from fun wq hb => HIDX.out wq hb rfl)
        rw [hGD] at HFL
        clear hGD
        generalize br[(gpl l i).length] = BB at *
        generalize (gpl l i).length = GG at *
        subst hab
        cases BB
        · skip
          have HTZ := (show Hid (tx l br (f + 1) i ind false = ([] : List UInt8) ++ txK l br f i ind false l[i].kids.length) from by show _ = _; rw [HTS.out, HOW.out]; rfl)
          have HKN := (show Hid (∀ j (hj : j < l[i].kids.length), txK l br f i ind false (j + 1) = txK l br f i ind false j ++ tx l br f l[i].kids[j].toNat ind true) from fun j hj => by rw [txK_next hi hj, HIN.out, HFL.out]; rfl)
          have HKL := (show Hid (∀ j, j ≤ l[i].kids.length → xs.length + (([] : List UInt8) : List UInt8).length + (txK l br f i ind false j).length ≤ 800000000) from fun j hj => by
            have h1 := HLN.out
            rw [HTZ.out, List.length_append] at h1
            have h2 := txK_le (l := l) (br := br) (f := f) (ind := ind) (q := j) (flat := false) hi
            omega)
          clear hK0 hK1 HTL HTS HFL HIN HOW HGP HIT
          have hbW := bel_alloc w (.cells #[.int .i64 6, .string y1, .int .i64 y2, .slice ak l[i].kids.length ck] 44)
          have HSt := (show Hid (St (w.alloc (.cells #[.int .i64 6, .string y1, .int .i64 y2, .slice ak l[i].kids.length ck] 44)) p 74 [] xs g a c) from HSt0.out.still hbW)
          have HSB := (show Hid (SBx (w.alloc (.cells #[.int .i64 6, .string y1, .int .i64 y2, .slice ak l[i].kids.length ck] 44)) q p (.slice (some ⟨b, off, none⟩) l.length cap) (.slice ag (gpl l l.length).length cg) (.slice (some ⟨bb, ob, none⟩) br.length cb)) from Box.still HSB0.out hbW)
          have HBx := (show Hid (Box (w.alloc (.cells #[.int .i64 6, .string y1, .int .i64 y2, .slice ak l[i].kids.length ck] 44)) w.heap.size 44 [.int .i64 6, .string y1, .int .i64 y2, .slice ak l[i].kids.length ck]) from Box.new w 44 [.int .i64 6, .string y1, .int .i64 y2, .slice ak l[i].kids.length ck])
          have HMW := (show Hid (Mv p g w g (w.alloc (.cells #[.int .i64 6, .string y1, .int .i64 y2, .slice ak l[i].kids.length ck] 44))) from Mv.bel hbW)
          clear hbW
          have H1 := (show Hid (St (w.alloc (.cells #[.int .i64 6, .string y1, .int .i64 y2, .slice ak l[i].kids.length ck] 44)).drew p 74 [] (xs ++ ([] : List UInt8) ++ txK l br f i ind false 0) g a c ∧ Mv p g w g (w.alloc (.cells #[.int .i64 6, .string y1, .int .i64 y2, .slice ak l[i].kids.length ck] 44)).drew ∧ SBx (w.alloc (.cells #[.int .i64 6, .string y1, .int .i64 y2, .slice ak l[i].kids.length ck] 44)).drew q p (.slice (some ⟨b, off, none⟩) l.length cap) (.slice ag (gpl l l.length).length cg) (.slice (some ⟨bb, ob, none⟩) br.length cb) ∧ g ≠ some q) from
            ⟨by simpa [txK] using (HSt.out.keep rfl (fun _ _ => rfl) : St (w.alloc (.cells #[.int .i64 6, .string y1, .int .i64 y2, .slice ak l[i].kids.length ck] 44)).drew p 74 [] xs g a c), ⟨HMW.out.fr, HMW.out.gto⟩, Box.keep HSB.out rfl, HNQ.out⟩)
          have x3 : (w.alloc (.cells #[.int .i64 6, .string y1, .int .i64 y2, .slice ak l[i].kids.length ck] 44)).drew.cell? ⟨w.heap.size, 3, none⟩ = some (.slice ak l[i].kids.length ck) := HBx.out.cell 3 (by simp)
          have hbd : Below w0.heap.size w0 (w.alloc (.cells #[.int .i64 6, .string y1, .int .i64 y2, .slice ak l[i].kids.length ck] 44)).drew := (HBW.out.trans ((bel_alloc w (.cells #[.int .i64 6, .string y1, .int .i64 y2, .slice ak l[i].kids.length ck] 44)).mono HBW.out.size)).drew
          have hbG' := (hbd.cell (lt_of_cell hbG)).trans hbG
          have HIX := (show Hid _ from HIX0.out _ hbd)
          have HQ0 := (show Hid ((w.alloc (.cells #[.int .i64 6, .string y1, .int .i64 y2, .slice ak l[i].kids.length ck] 44)).drew.cell? ⟨q, 2, none⟩ = some (.slice (some ⟨bb, ob, none⟩) br.length cb) ∧ (w.alloc (.cells #[.int .i64 6, .string y1, .int .i64 y2, .slice ak l[i].kids.length ck] 44)).drew.cell? ⟨q, 1, none⟩ = some (.slice ag (gpl l l.length).length cg) ∧ (w.alloc (.cells #[.int .i64 6, .string y1, .int .i64 y2, .slice ak l[i].kids.length ck] 44)).drew.cell? ⟨bb, ob + GG, none⟩ = some (.bool false)) from ⟨HSB.out.cell 2 (by simp), HSB.out.cell 1 (by simp), hbG'⟩)
          have hGi : (GG : Int) < (br.length : Int) := by omega
          clear hbd hbG hbG' HIX0
          go_enter Try.func51, Try.ntmps51
          go_wp2_with fail
          refine wp_region_held_drew (S := fun wq => wq.cell? ⟨q, 2, none⟩ = some (.slice (some ⟨bb, ob, none⟩) br.length cb) ∧ wq.cell? ⟨q, 1, none⟩ = some (.slice ag (gpl l l.length).length cg) ∧ wq.cell? ⟨bb, ob + GG, none⟩ = some (.bool false)) (by kernel_rfl) HQ0.out (fun hHeld => ?_)
          refine wpAnyH_take (i := 0) (oi := oD0) (v := ?v4) rfl (by kernel_rfl) (by kernel_rfl) (by kernel_rfl) (fun _ _ _ h => h) (Or.inl ⟨by rfl, ?h4⟩) hHeld ?r4
          case h4 => (intro w hSw; (try dsimp only at hSw); go_simp; try with_reducible rfl)
          try simp only [Act.put, List.setIfInBounds_toArray, List.set_cons_zero, List.set_cons_succ]
          refine wpAnyH_take (i := 1) (oi := oD1) (v := ?v5) rfl (by kernel_rfl) (by kernel_rfl) (by kernel_rfl) (fun _ _ _ h => h) (Or.inl ⟨by rfl, ?h5⟩) hHeld ?r5
          case h5 => (intro w hSw; (try dsimp only at hSw); go_simp; try with_reducible rfl)
          try simp only [Act.put, List.setIfInBounds_toArray, List.set_cons_zero, List.set_cons_succ]
          refine wpAnyH_take (i := 2) (oi := oD2) (v := ?v6) rfl (by kernel_rfl) (by kernel_rfl) (by kernel_rfl) (fun _ _ _ h => h) (Or.inl ⟨by rfl, ?h6⟩) hHeld ?r6
          case h6 => (intro w hSw; (try dsimp only at hSw); go_simp; try with_reducible rfl)
          try simp only [Act.put, List.setIfInBounds_toArray, List.set_cons_zero, List.set_cons_succ]
          refine wpAnyH_take (i := 3) (oi := oD3) (v := ?v7) rfl (by kernel_rfl) (by kernel_rfl) (by kernel_rfl) (fun _ _ _ h => h) (Or.inl ⟨by rfl, ?h7⟩) hHeld ?r7
          case h7 => (intro w hSw; (try dsimp only at hSw); go_simp; try with_reducible rfl)
          try simp only [Act.put, List.setIfInBounds_toArray, List.set_cons_zero, List.set_cons_succ]
          refine wpAnyH_take (i := 4) (oi := oD4) (v := ?v8) rfl (by kernel_rfl) (by kernel_rfl) (by kernel_rfl) (fun _ _ _ h => h) (Or.inl ⟨by rfl, ?h8⟩) hHeld ?r8
          case h8 => (intro w hSw; (try dsimp only at hSw); go_simp; try with_reducible rfl)
          try simp only [Act.put, List.setIfInBounds_toArray, List.set_cons_zero, List.set_cons_succ]
          refine wpAnyH_take (i := 5) (oi := oD5) (v := ?v9) rfl (by kernel_rfl) (by kernel_rfl) (by kernel_rfl) (fun _ _ _ h => h) (Or.inl ⟨by rfl, ?h9⟩) hHeld ?r9
          case h9 => (intro w hSw; (try dsimp only at hSw); go_simp; try with_reducible rfl)
          try simp only [Act.put, List.setIfInBounds_toArray, List.set_cons_zero, List.set_cons_succ]
          refine wpAnyH_take (i := 6) (oi := oD6) (v := ?v10) rfl (by kernel_rfl) (by kernel_rfl) (by kernel_rfl) (fun _ _ _ h => h) (Or.inl ⟨by rfl, ?h10⟩) hHeld ?r10
          case h10 => (intro w hSw; (try dsimp only at hSw); go_simp; try with_reducible rfl)
          try simp only [Act.put, List.setIfInBounds_toArray, List.set_cons_zero, List.set_cons_succ]
          refine wpAnyH_take (i := 7) (oi := oD7) (v := ?v11) rfl (by kernel_rfl) (by kernel_rfl) (by kernel_rfl) (fun _ _ _ h => h) (Or.inl ⟨by rfl, ?h11⟩) hHeld ?r11
          case h11 => (intro w hSw; (try dsimp only at hSw); go_simp; try with_reducible rfl)
          try simp only [Act.put, List.setIfInBounds_toArray, List.set_cons_zero, List.set_cons_succ]
          refine wpAnyH_take (i := 8) (oi := oD8) (v := ?v12) rfl (by kernel_rfl) (by kernel_rfl) (by kernel_rfl) (fun _ _ _ h => h) (Or.inl ⟨by rfl, ?h12⟩) hHeld ?r12
          case h12 => (intro w hSw; (try dsimp only at hSw); go_simp; try with_reducible rfl)
          try simp only [Act.put, List.setIfInBounds_toArray, List.set_cons_zero, List.set_cons_succ]
          refine wpAnyH_take (i := 9) (oi := oD9) (v := ?v13) rfl (by kernel_rfl) (by kernel_rfl) (by kernel_rfl) (fun _ _ _ h => h) (Or.inl ⟨by rfl, ?h13⟩) hHeld ?r13
          case h13 => (intro w hSw; (try dsimp only at hSw); go_simp; try with_reducible rfl)
          try simp only [Act.put, List.setIfInBounds_toArray, List.set_cons_zero, List.set_cons_succ]
          refine wpAnyH_take (i := 10) (oi := oD10) (v := ?v14) rfl (by kernel_rfl) (by kernel_rfl) (by kernel_rfl) (fun _ _ _ h => h) (Or.inl ⟨by rfl, ?h14⟩) hHeld ?r14
          case h14 => (intro w hSw; (try dsimp only at hSw); go_simp; try with_reducible rfl)
          try simp only [Act.put, List.setIfInBounds_toArray, List.set_cons_zero, List.set_cons_succ]
          refine wpAnyH_take (i := 11) (oi := oD11) (v := ?v15) rfl (by kernel_rfl) (by kernel_rfl) (by kernel_rfl) (fun _ _ _ h => h) (Or.inl ⟨by rfl, ?h15⟩) hHeld ?r15
          case h15 => (intro w hSw; (try dsimp only at hSw); go_simp; try with_reducible rfl)
          try simp only [Act.put, List.setIfInBounds_toArray, List.set_cons_zero, List.set_cons_succ]
          refine wpAnyH_ready (rs := [12]) (by kernel_rfl) (by simp) ?_
          refine (AllReadyH.cons (o := oD12) rfl (fun K hK => ?_) AllReadyH.nil)
          go_simp
          refine Calls.mono HIX.out ?_
          rintro e wg ⟨rfl, rfl⟩
          dsimp only
          clear hHeld
          refine hK.out _ _ (HQ0.out) (fun hHeld => ?_)
          clear hK K
          try simp only [Act.put, List.setIfInBounds_toArray, List.set_cons_zero, List.set_cons_succ]
          refine wpAnyH_take (i := 13) (oi := oD13) (v := ?v16) rfl (by kernel_rfl) (by kernel_rfl) (by kernel_rfl) (fun _ _ _ h => h) (Or.inl ⟨by rfl, ?h16⟩) hHeld ?r16
          case h16 => (intro w hSw; (try dsimp only at hSw); go_simp; try with_reducible rfl)
          try simp only [Act.put, List.setIfInBounds_toArray, List.set_cons_zero, List.set_cons_succ]
          refine wpAnyH_take (i := 14) (oi := oD14) (v := ?v17) rfl (by kernel_rfl) (by kernel_rfl) (by kernel_rfl) (fun _ _ _ h => h) (Or.inl ⟨by rfl, ?h17⟩) hHeld ?r17
          case h17 => (intro w hSw; (try dsimp only at hSw); go_simp; try with_reducible rfl)
          try simp only [Act.put, List.setIfInBounds_toArray, List.set_cons_zero, List.set_cons_succ]
          refine wpAnyH_take (i := 15) (oi := oD15) (v := ?v18) rfl (by kernel_rfl) (by kernel_rfl) (by kernel_rfl) (fun _ _ _ h => h) (Or.inl ⟨by rfl, ?h18⟩) hHeld ?r18
          case h18 => (intro w hSw; (try dsimp only at hSw); go_simp; try with_reducible rfl)
          try simp only [Act.put, List.setIfInBounds_toArray, List.set_cons_zero, List.set_cons_succ]
          refine wpAnyH_take (i := 16) (oi := oD16) (v := ?v19) rfl (by kernel_rfl) (by kernel_rfl) (by kernel_rfl) (fun _ _ _ h => h) (Or.inl ⟨by rfl, ?h19⟩) hHeld ?r19
          case h19 => (intro w hSw; (try dsimp only at hSw); go_simp; try with_reducible rfl)
          try simp only [Act.put, List.setIfInBounds_toArray, List.set_cons_zero, List.set_cons_succ]
          refine wpAnyH_ready (rs := [17]) (by kernel_rfl) (by simp) ?_
          refine (AllReadyH.cons (o := oD17) rfl (fun K hK => ?_) AllReadyH.nil)
          go_simp
          clear hHeld
          refine hK.out _ _ (HQ0.out) (fun hHeld => ?_)
          clear hK K
          try simp only [Act.put, List.setIfInBounds_toArray, List.set_cons_zero, List.set_cons_succ]
          refine wpAnyH_done (by kernel_rfl) ?_ _
          (try refine NoPanic.normal ?_)
          go_wp2_with fail
          go_loopw [69] (fun i' wx => ∃ j : Nat, i' = .int .i64 j ∧ j ≤ l[i].kids.length ∧ ∃ g2 a2 c2, Hid (St wx p 74 [] (xs ++ ([] : List UInt8) ++ txK l br f i ind false j) g2 a2 c2 ∧ Mv p g w g2 wx ∧ SBx wx q p (.slice (some ⟨b, off, none⟩) l.length cap) (.slice ag (gpl l l.length).length cg) (.slice (some ⟨bb, ob, none⟩) br.length cb) ∧ g2 ≠ some q)) (fun i' _ => l[i].kids.length - (intOf i').toNat)
          case atStart => exact ⟨0, rfl, Nat.zero_le _, _, _, _, H1⟩
          case round =>
            clear H1
            (try clear c0 c1 c2 c3)
            obtain ⟨j, rfl, hj, g2, a2, c2, HV⟩ := hrel
            by_cases hjl : j < l[i].kids.length
            · obtain ⟨hak, _⟩ := HAK.out (by omega)
              obtain ⟨hkd0, hkd1⟩ := HKD.out l[i].kids[j] (List.getElem_mem hjl)
              have k0 := HKC.out j hjl
              have hkn := HKN.out j hjl
              have hkl := HKL.out (j + 1) hjl
              rw [hkn, List.length_append] at hkl
              obtain ⟨k, hk⟩ : ∃ k, l[i].kids[j] = k := ⟨_, rfl⟩
              rw [hk] at hkd0 hkd1 k0 hkn hkl
              clear hk
              obtain ⟨kn, rfl⟩ : ∃ kn : Nat, k = (kn : Int) := ⟨k.toNat, by omega⟩
              rw [Int.toNat_natCast] at hkn hkl
              have hbd : Below w0.heap.size w0 wr := HBW.out.trans (HV.out.2.1.below (by omega) HG.out HBW.out.size)
              rw [← hbd.cell (lt_of_cell k0)] at k0
              have HCL : Hid (Calls Try.prog 51 #[.pointer (some ⟨q, 0, none⟩), .int .i64 kn, .int .i64 (ind : Int), .bool true] wr (Wr p 74 [] (xs ++ ([] : List UInt8) ++ txK l br f i ind false j) (tx l br f kn ind true) g2 wr)) := by
                have := HIH.out kn ind true (xs ++ ([] : List UInt8) ++ txK l br f i ind false j) g2 a2 c2 wr (by omega) (by omega) (by omega) (by rw [List.length_append, List.length_append]; omega) hbd HV.out.1 HV.out.2.2.1 HV.out.2.2.2
                skip
                exact this
              have HKN2 := (show Hid _ from hkn)
              clear hkl hkn hbd
              subst hak
              go_wp2_with fail
              refine Calls.mono HCL.out ?_
              rintro e w' ⟨rfl, g3, a3, c3, hst, hmv⟩
              have HN := (show Hid (St w' p 74 [] (xs ++ ([] : List UInt8) ++ txK l br f i ind false (j + 1)) g3 a3 c3 ∧ Mv p g w g3 w' ∧ SBx w' q p (.slice (some ⟨b, off, none⟩) l.length cap) (.slice ag (gpl l l.length).length cg) (.slice (some ⟨bb, ob, none⟩) br.length cb) ∧ g3 ≠ some q) from
                ⟨by rw [HKN2.out, ← List.append_assoc]; exact hst, HV.out.2.1.trans hmv, sbx_step HV.out.2.2.1 HV.out.2.2.2 hpq hmv⟩)
              clear hst hmv HV HCL HKN2 k0
              go_wp2_with fail
              exact ⟨⟨j + 1, by go_num, by omega, _, _, _, HN⟩, by simp [intOf]; omega⟩
            · obtain rfl : j = l[i].kids.length := by omega
              go_wp2_with fail
              refine bodyPost_end (v := .tuple #[]) (by simp [results, Try.results51]) rfl ?_
              exact ⟨rfl, _, _, _, by rw [HTZ.out, ← List.append_assoc]; exact HV.out.1, HV.out.2.1⟩
        · skip
          have HTZ := (show Hid (tx l br (f + 1) i ind false = ([] : List UInt8) ++ txK l br f i ind false l[i].kids.length) from by show _ = _; rw [HTS.out, HOW.out]; rfl)
          have HKN := (show Hid (∀ j (hj : j < l[i].kids.length), txK l br f i ind false (j + 1) = txK l br f i ind false j ++ tx l br f l[i].kids[j].toNat ind false) from fun j hj => by rw [txK_next hi hj, HIN.out, HFL.out]; rfl)
          have HKL := (show Hid (∀ j, j ≤ l[i].kids.length → xs.length + (([] : List UInt8) : List UInt8).length + (txK l br f i ind false j).length ≤ 800000000) from fun j hj => by
            have h1 := HLN.out
            rw [HTZ.out, List.length_append] at h1
            have h2 := txK_le (l := l) (br := br) (f := f) (ind := ind) (q := j) (flat := false) hi
            omega)
          clear hK0 hK1 HTL HTS HFL HIN HOW HGP HIT
          have hbW := bel_alloc w (.cells #[.int .i64 6, .string y1, .int .i64 y2, .slice ak l[i].kids.length ck] 44)
          have HSt := (show Hid (St (w.alloc (.cells #[.int .i64 6, .string y1, .int .i64 y2, .slice ak l[i].kids.length ck] 44)) p 74 [] xs g a c) from HSt0.out.still hbW)
          have HSB := (show Hid (SBx (w.alloc (.cells #[.int .i64 6, .string y1, .int .i64 y2, .slice ak l[i].kids.length ck] 44)) q p (.slice (some ⟨b, off, none⟩) l.length cap) (.slice ag (gpl l l.length).length cg) (.slice (some ⟨bb, ob, none⟩) br.length cb)) from Box.still HSB0.out hbW)
          have HBx := (show Hid (Box (w.alloc (.cells #[.int .i64 6, .string y1, .int .i64 y2, .slice ak l[i].kids.length ck] 44)) w.heap.size 44 [.int .i64 6, .string y1, .int .i64 y2, .slice ak l[i].kids.length ck]) from Box.new w 44 [.int .i64 6, .string y1, .int .i64 y2, .slice ak l[i].kids.length ck])
          have HMW := (show Hid (Mv p g w g (w.alloc (.cells #[.int .i64 6, .string y1, .int .i64 y2, .slice ak l[i].kids.length ck] 44))) from Mv.bel hbW)
          clear hbW
          have H1 := (show Hid (St (w.alloc (.cells #[.int .i64 6, .string y1, .int .i64 y2, .slice ak l[i].kids.length ck] 44)).drew p 74 [] (xs ++ ([] : List UInt8) ++ txK l br f i ind false 0) g a c ∧ Mv p g w g (w.alloc (.cells #[.int .i64 6, .string y1, .int .i64 y2, .slice ak l[i].kids.length ck] 44)).drew ∧ SBx (w.alloc (.cells #[.int .i64 6, .string y1, .int .i64 y2, .slice ak l[i].kids.length ck] 44)).drew q p (.slice (some ⟨b, off, none⟩) l.length cap) (.slice ag (gpl l l.length).length cg) (.slice (some ⟨bb, ob, none⟩) br.length cb) ∧ g ≠ some q) from
            ⟨by simpa [txK] using (HSt.out.keep rfl (fun _ _ => rfl) : St (w.alloc (.cells #[.int .i64 6, .string y1, .int .i64 y2, .slice ak l[i].kids.length ck] 44)).drew p 74 [] xs g a c), ⟨HMW.out.fr, HMW.out.gto⟩, Box.keep HSB.out rfl, HNQ.out⟩)
          have x3 : (w.alloc (.cells #[.int .i64 6, .string y1, .int .i64 y2, .slice ak l[i].kids.length ck] 44)).drew.cell? ⟨w.heap.size, 3, none⟩ = some (.slice ak l[i].kids.length ck) := HBx.out.cell 3 (by simp)
          have hbd : Below w0.heap.size w0 (w.alloc (.cells #[.int .i64 6, .string y1, .int .i64 y2, .slice ak l[i].kids.length ck] 44)).drew := (HBW.out.trans ((bel_alloc w (.cells #[.int .i64 6, .string y1, .int .i64 y2, .slice ak l[i].kids.length ck] 44)).mono HBW.out.size)).drew
          have hbG' := (hbd.cell (lt_of_cell hbG)).trans hbG
          have HIX := (show Hid _ from HIX0.out _ hbd)
          have HQ0 := (show Hid ((w.alloc (.cells #[.int .i64 6, .string y1, .int .i64 y2, .slice ak l[i].kids.length ck] 44)).drew.cell? ⟨q, 2, none⟩ = some (.slice (some ⟨bb, ob, none⟩) br.length cb) ∧ (w.alloc (.cells #[.int .i64 6, .string y1, .int .i64 y2, .slice ak l[i].kids.length ck] 44)).drew.cell? ⟨q, 1, none⟩ = some (.slice ag (gpl l l.length).length cg) ∧ (w.alloc (.cells #[.int .i64 6, .string y1, .int .i64 y2, .slice ak l[i].kids.length ck] 44)).drew.cell? ⟨bb, ob + GG, none⟩ = some (.bool true)) from ⟨HSB.out.cell 2 (by simp), HSB.out.cell 1 (by simp), hbG'⟩)
          have hGi : (GG : Int) < (br.length : Int) := by omega
          clear hbd hbG hbG' HIX0
          go_enter Try.func51, Try.ntmps51
          go_wp2_with fail
          refine wp_region_held_drew (S := fun wq => wq.cell? ⟨q, 2, none⟩ = some (.slice (some ⟨bb, ob, none⟩) br.length cb) ∧ wq.cell? ⟨q, 1, none⟩ = some (.slice ag (gpl l l.length).length cg) ∧ wq.cell? ⟨bb, ob + GG, none⟩ = some (.bool true)) (by kernel_rfl) HQ0.out (fun hHeld => ?_)
          refine wpAnyH_take (i := 0) (oi := oD0) (v := ?v20) rfl (by kernel_rfl) (by kernel_rfl) (by kernel_rfl) (fun _ _ _ h => h) (Or.inl ⟨by rfl, ?h20⟩) hHeld ?r20
          case h20 => (intro w hSw; (try dsimp only at hSw); go_simp; try with_reducible rfl)
          try simp only [Act.put, List.setIfInBounds_toArray, List.set_cons_zero, List.set_cons_succ]
          refine wpAnyH_take (i := 1) (oi := oD1) (v := ?v21) rfl (by kernel_rfl) (by kernel_rfl) (by kernel_rfl) (fun _ _ _ h => h) (Or.inl ⟨by rfl, ?h21⟩) hHeld ?r21
          case h21 => (intro w hSw; (try dsimp only at hSw); go_simp; try with_reducible rfl)
          try simp only [Act.put, List.setIfInBounds_toArray, List.set_cons_zero, List.set_cons_succ]
          refine wpAnyH_take (i := 2) (oi := oD2) (v := ?v22) rfl (by kernel_rfl) (by kernel_rfl) (by kernel_rfl) (fun _ _ _ h => h) (Or.inl ⟨by rfl, ?h22⟩) hHeld ?r22
          case h22 => (intro w hSw; (try dsimp only at hSw); go_simp; try with_reducible rfl)
          try simp only [Act.put, List.setIfInBounds_toArray, List.set_cons_zero, List.set_cons_succ]
          refine wpAnyH_take (i := 3) (oi := oD3) (v := ?v23) rfl (by kernel_rfl) (by kernel_rfl) (by kernel_rfl) (fun _ _ _ h => h) (Or.inl ⟨by rfl, ?h23⟩) hHeld ?r23
          case h23 => (intro w hSw; (try dsimp only at hSw); go_simp; try with_reducible rfl)
          try simp only [Act.put, List.setIfInBounds_toArray, List.set_cons_zero, List.set_cons_succ]
          refine wpAnyH_take (i := 4) (oi := oD4) (v := ?v24) rfl (by kernel_rfl) (by kernel_rfl) (by kernel_rfl) (fun _ _ _ h => h) (Or.inl ⟨by rfl, ?h24⟩) hHeld ?r24
          case h24 => (intro w hSw; (try dsimp only at hSw); go_simp; try with_reducible rfl)
          try simp only [Act.put, List.setIfInBounds_toArray, List.set_cons_zero, List.set_cons_succ]
          refine wpAnyH_take (i := 5) (oi := oD5) (v := ?v25) rfl (by kernel_rfl) (by kernel_rfl) (by kernel_rfl) (fun _ _ _ h => h) (Or.inl ⟨by rfl, ?h25⟩) hHeld ?r25
          case h25 => (intro w hSw; (try dsimp only at hSw); go_simp; try with_reducible rfl)
          try simp only [Act.put, List.setIfInBounds_toArray, List.set_cons_zero, List.set_cons_succ]
          refine wpAnyH_take (i := 6) (oi := oD6) (v := ?v26) rfl (by kernel_rfl) (by kernel_rfl) (by kernel_rfl) (fun _ _ _ h => h) (Or.inl ⟨by rfl, ?h26⟩) hHeld ?r26
          case h26 => (intro w hSw; (try dsimp only at hSw); go_simp; try with_reducible rfl)
          try simp only [Act.put, List.setIfInBounds_toArray, List.set_cons_zero, List.set_cons_succ]
          refine wpAnyH_take (i := 7) (oi := oD7) (v := ?v27) rfl (by kernel_rfl) (by kernel_rfl) (by kernel_rfl) (fun _ _ _ h => h) (Or.inl ⟨by rfl, ?h27⟩) hHeld ?r27
          case h27 => (intro w hSw; (try dsimp only at hSw); go_simp; try with_reducible rfl)
          try simp only [Act.put, List.setIfInBounds_toArray, List.set_cons_zero, List.set_cons_succ]
          refine wpAnyH_take (i := 8) (oi := oD8) (v := ?v28) rfl (by kernel_rfl) (by kernel_rfl) (by kernel_rfl) (fun _ _ _ h => h) (Or.inl ⟨by rfl, ?h28⟩) hHeld ?r28
          case h28 => (intro w hSw; (try dsimp only at hSw); go_simp; try with_reducible rfl)
          try simp only [Act.put, List.setIfInBounds_toArray, List.set_cons_zero, List.set_cons_succ]
          refine wpAnyH_take (i := 9) (oi := oD9) (v := ?v29) rfl (by kernel_rfl) (by kernel_rfl) (by kernel_rfl) (fun _ _ _ h => h) (Or.inl ⟨by rfl, ?h29⟩) hHeld ?r29
          case h29 => (intro w hSw; (try dsimp only at hSw); go_simp; try with_reducible rfl)
          try simp only [Act.put, List.setIfInBounds_toArray, List.set_cons_zero, List.set_cons_succ]
          refine wpAnyH_take (i := 10) (oi := oD10) (v := ?v30) rfl (by kernel_rfl) (by kernel_rfl) (by kernel_rfl) (fun _ _ _ h => h) (Or.inl ⟨by rfl, ?h30⟩) hHeld ?r30
          case h30 => (intro w hSw; (try dsimp only at hSw); go_simp; try with_reducible rfl)
          try simp only [Act.put, List.setIfInBounds_toArray, List.set_cons_zero, List.set_cons_succ]
          refine wpAnyH_take (i := 11) (oi := oD11) (v := ?v31) rfl (by kernel_rfl) (by kernel_rfl) (by kernel_rfl) (fun _ _ _ h => h) (Or.inl ⟨by rfl, ?h31⟩) hHeld ?r31
          case h31 => (intro w hSw; (try dsimp only at hSw); go_simp; try with_reducible rfl)
          try simp only [Act.put, List.setIfInBounds_toArray, List.set_cons_zero, List.set_cons_succ]
          refine wpAnyH_ready (rs := [12]) (by kernel_rfl) (by simp) ?_
          refine (AllReadyH.cons (o := oD12) rfl (fun K hK => ?_) AllReadyH.nil)
          go_simp
          refine Calls.mono HIX.out ?_
          rintro e wg ⟨rfl, rfl⟩
          dsimp only
          clear hHeld
          refine hK.out _ _ (HQ0.out) (fun hHeld => ?_)
          clear hK K
          try simp only [Act.put, List.setIfInBounds_toArray, List.set_cons_zero, List.set_cons_succ]
          refine wpAnyH_take (i := 13) (oi := oD13) (v := ?v32) rfl (by kernel_rfl) (by kernel_rfl) (by kernel_rfl) (fun _ _ _ h => h) (Or.inl ⟨by rfl, ?h32⟩) hHeld ?r32
          case h32 => (intro w hSw; (try dsimp only at hSw); go_simp; try with_reducible rfl)
          try simp only [Act.put, List.setIfInBounds_toArray, List.set_cons_zero, List.set_cons_succ]
          refine wpAnyH_take (i := 14) (oi := oD14) (v := ?v33) rfl (by kernel_rfl) (by kernel_rfl) (by kernel_rfl) (fun _ _ _ h => h) (Or.inl ⟨by rfl, ?h33⟩) hHeld ?r33
          case h33 => (intro w hSw; (try dsimp only at hSw); go_simp; try with_reducible rfl)
          try simp only [Act.put, List.setIfInBounds_toArray, List.set_cons_zero, List.set_cons_succ]
          refine wpAnyH_take (i := 15) (oi := oD15) (v := ?v34) rfl (by kernel_rfl) (by kernel_rfl) (by kernel_rfl) (fun _ _ _ h => h) (Or.inl ⟨by rfl, ?h34⟩) hHeld ?r34
          case h34 => (intro w hSw; (try dsimp only at hSw); go_simp; try with_reducible rfl)
          try simp only [Act.put, List.setIfInBounds_toArray, List.set_cons_zero, List.set_cons_succ]
          refine wpAnyH_take (i := 16) (oi := oD16) (v := ?v35) rfl (by kernel_rfl) (by kernel_rfl) (by kernel_rfl) (fun _ _ _ h => h) (Or.inl ⟨by rfl, ?h35⟩) hHeld ?r35
          case h35 => (intro w hSw; (try dsimp only at hSw); go_simp; try with_reducible rfl)
          try simp only [Act.put, List.setIfInBounds_toArray, List.set_cons_zero, List.set_cons_succ]
          refine wpAnyH_ready (rs := [17]) (by kernel_rfl) (by simp) ?_
          refine (AllReadyH.cons (o := oD17) rfl (fun K hK => ?_) AllReadyH.nil)
          go_simp
          clear hHeld
          refine hK.out _ _ (HQ0.out) (fun hHeld => ?_)
          clear hK K
          try simp only [Act.put, List.setIfInBounds_toArray, List.set_cons_zero, List.set_cons_succ]
          refine wpAnyH_done (by kernel_rfl) ?_ _
          (try refine NoPanic.normal ?_)
          go_wp2_with fail
          go_loopw [69] (fun i' wx => ∃ j : Nat, i' = .int .i64 j ∧ j ≤ l[i].kids.length ∧ ∃ g2 a2 c2, Hid (St wx p 74 [] (xs ++ ([] : List UInt8) ++ txK l br f i ind false j) g2 a2 c2 ∧ Mv p g w g2 wx ∧ SBx wx q p (.slice (some ⟨b, off, none⟩) l.length cap) (.slice ag (gpl l l.length).length cg) (.slice (some ⟨bb, ob, none⟩) br.length cb) ∧ g2 ≠ some q)) (fun i' _ => l[i].kids.length - (intOf i').toNat)
          case atStart => exact ⟨0, rfl, Nat.zero_le _, _, _, _, H1⟩
          case round =>
            clear H1
            (try clear c0 c1 c2 c3)
            obtain ⟨j, rfl, hj, g2, a2, c2, HV⟩ := hrel
            by_cases hjl : j < l[i].kids.length
            · obtain ⟨hak, _⟩ := HAK.out (by omega)
              obtain ⟨hkd0, hkd1⟩ := HKD.out l[i].kids[j] (List.getElem_mem hjl)
              have k0 := HKC.out j hjl
              have hkn := HKN.out j hjl
              have hkl := HKL.out (j + 1) hjl
              rw [hkn, List.length_append] at hkl
              obtain ⟨k, hk⟩ : ∃ k, l[i].kids[j] = k := ⟨_, rfl⟩
              rw [hk] at hkd0 hkd1 k0 hkn hkl
              clear hk
              obtain ⟨kn, rfl⟩ : ∃ kn : Nat, k = (kn : Int) := ⟨k.toNat, by omega⟩
              rw [Int.toNat_natCast] at hkn hkl
              have hbd : Below w0.heap.size w0 wr := HBW.out.trans (HV.out.2.1.below (by omega) HG.out HBW.out.size)
              rw [← hbd.cell (lt_of_cell k0)] at k0
              have HCL : Hid (Calls Try.prog 51 #[.pointer (some ⟨q, 0, none⟩), .int .i64 kn, .int .i64 (ind : Int), .bool false] wr (Wr p 74 [] (xs ++ ([] : List UInt8) ++ txK l br f i ind false j) (tx l br f kn ind false) g2 wr)) := by
                have := HIH.out kn ind false (xs ++ ([] : List UInt8) ++ txK l br f i ind false j) g2 a2 c2 wr (by omega) (by omega) (by omega) (by rw [List.length_append, List.length_append]; omega) hbd HV.out.1 HV.out.2.2.1 HV.out.2.2.2
                skip
                exact this
              have HKN2 := (show Hid _ from hkn)
              clear hkl hkn hbd
              subst hak
              go_wp2_with fail
              refine Calls.mono HCL.out ?_
              rintro e w' ⟨rfl, g3, a3, c3, hst, hmv⟩
              have HN := (show Hid (St w' p 74 [] (xs ++ ([] : List UInt8) ++ txK l br f i ind false (j + 1)) g3 a3 c3 ∧ Mv p g w g3 w' ∧ SBx w' q p (.slice (some ⟨b, off, none⟩) l.length cap) (.slice ag (gpl l l.length).length cg) (.slice (some ⟨bb, ob, none⟩) br.length cb) ∧ g3 ≠ some q) from
                ⟨by rw [HKN2.out, ← List.append_assoc]; exact hst, HV.out.2.1.trans hmv, sbx_step HV.out.2.2.1 HV.out.2.2.2 hpq hmv⟩)
              clear hst hmv HV HCL HKN2 k0
              go_wp2_with fail
              exact ⟨⟨j + 1, by go_num, by omega, _, _, _, HN⟩, by simp [intOf]; omega⟩
            · obtain rfl : j = l[i].kids.length := by omega
              go_wp2_with fail
              refine bodyPost_end (v := .tuple #[]) (by simp [results, Try.results51]) rfl ?_
              exact ⟨rfl, _, _, _, by rw [HTZ.out, ← List.append_assoc]; exact HV.out.1, HV.out.2.1⟩
      · skip
        have HTZ := (show Hid (tx l br (f + 1) i ind true = ([] : List UInt8) ++ txK l br f i ind true l[i].kids.length) from by show _ = _; rw [HTS.out, HOW.out]; rfl)
        have HKN := (show Hid (∀ j (hj : j < l[i].kids.length), txK l br f i ind true (j + 1) = txK l br f i ind true j ++ tx l br f l[i].kids[j].toNat ind true) from fun j hj => by rw [txK_next hi hj, HIN.out, HFL.out]; rfl)
        have HKL := (show Hid (∀ j, j ≤ l[i].kids.length → xs.length + (([] : List UInt8) : List UInt8).length + (txK l br f i ind true j).length ≤ 800000000) from fun j hj => by
          have h1 := HLN.out
          rw [HTZ.out, List.length_append] at h1
          have h2 := txK_le (l := l) (br := br) (f := f) (ind := ind) (q := j) (flat := true) hi
          omega)
        clear hK0 hK1 HTL HTS HFL HIN HOW HGP HIT
        have hbW := bel_alloc w (.cells #[.int .i64 6, .string y1, .int .i64 y2, .slice ak l[i].kids.length ck] 44)
        have HSt := (show Hid (St (w.alloc (.cells #[.int .i64 6, .string y1, .int .i64 y2, .slice ak l[i].kids.length ck] 44)) p 74 [] xs g a c) from HSt0.out.still hbW)
        have HSB := (show Hid (SBx (w.alloc (.cells #[.int .i64 6, .string y1, .int .i64 y2, .slice ak l[i].kids.length ck] 44)) q p (.slice (some ⟨b, off, none⟩) l.length cap) (.slice ag (gpl l l.length).length cg) (.slice ab br.length cb)) from Box.still HSB0.out hbW)
        have HBx := (show Hid (Box (w.alloc (.cells #[.int .i64 6, .string y1, .int .i64 y2, .slice ak l[i].kids.length ck] 44)) w.heap.size 44 [.int .i64 6, .string y1, .int .i64 y2, .slice ak l[i].kids.length ck]) from Box.new w 44 [.int .i64 6, .string y1, .int .i64 y2, .slice ak l[i].kids.length ck])
        have HMW := (show Hid (Mv p g w g (w.alloc (.cells #[.int .i64 6, .string y1, .int .i64 y2, .slice ak l[i].kids.length ck] 44))) from Mv.bel hbW)
        clear hbW
        have H1 := (show Hid (St (w.alloc (.cells #[.int .i64 6, .string y1, .int .i64 y2, .slice ak l[i].kids.length ck] 44)).drew p 74 [] (xs ++ ([] : List UInt8) ++ txK l br f i ind true 0) g a c ∧ Mv p g w g (w.alloc (.cells #[.int .i64 6, .string y1, .int .i64 y2, .slice ak l[i].kids.length ck] 44)).drew ∧ SBx (w.alloc (.cells #[.int .i64 6, .string y1, .int .i64 y2, .slice ak l[i].kids.length ck] 44)).drew q p (.slice (some ⟨b, off, none⟩) l.length cap) (.slice ag (gpl l l.length).length cg) (.slice ab br.length cb) ∧ g ≠ some q) from
          ⟨by simpa [txK] using (HSt.out.keep rfl (fun _ _ => rfl) : St (w.alloc (.cells #[.int .i64 6, .string y1, .int .i64 y2, .slice ak l[i].kids.length ck] 44)).drew p 74 [] xs g a c), ⟨HMW.out.fr, HMW.out.gto⟩, Box.keep HSB.out rfl, HNQ.out⟩)
        have x3 : (w.alloc (.cells #[.int .i64 6, .string y1, .int .i64 y2, .slice ak l[i].kids.length ck] 44)).drew.cell? ⟨w.heap.size, 3, none⟩ = some (.slice ak l[i].kids.length ck) := HBx.out.cell 3 (by simp)
        have HQ0 := (show Hid True from trivial)
        go_enter Try.func51, Try.ntmps51
        go_wp2_with fail
        refine wp_region_held_drew (S := fun wq => True) (by kernel_rfl) HQ0.out (fun hHeld => ?_)
        refine wpAnyH_take (i := 0) (oi := oD0) (v := ?v1) rfl (by kernel_rfl) (by kernel_rfl) (by kernel_rfl) (fun _ _ _ h => h) (Or.inl ⟨by rfl, ?h1⟩) hHeld ?r1
        case h1 => (intro w hSw; (try dsimp only at hSw); go_simp; try with_reducible rfl)
        try simp only [Act.put, List.setIfInBounds_toArray, List.set_cons_zero, List.set_cons_succ]
        refine wpAnyH_take (i := 1) (oi := oD1) (v := ?v2) rfl (by kernel_rfl) (by kernel_rfl) (by kernel_rfl) (fun _ _ _ h => h) (Or.inl ⟨by rfl, ?h2⟩) hHeld ?r2
        case h2 => (intro w hSw; (try dsimp only at hSw); go_simp; try with_reducible rfl)
        try simp only [Act.put, List.setIfInBounds_toArray, List.set_cons_zero, List.set_cons_succ]
        refine wpAnyH_take (i := 2) (oi := oD2) (v := undef) rfl (by kernel_rfl) (by kernel_rfl) (by kernel_rfl) (fun _ _ _ h => h) (Or.inr ⟨by rfl, rfl⟩) hHeld ?_
        try simp only [Act.put, List.setIfInBounds_toArray, List.set_cons_zero, List.set_cons_succ]
        refine wpAnyH_take (i := 3) (oi := oD3) (v := undef) rfl (by kernel_rfl) (by kernel_rfl) (by kernel_rfl) (fun _ _ _ h => h) (Or.inr ⟨by rfl, rfl⟩) hHeld ?_
        try simp only [Act.put, List.setIfInBounds_toArray, List.set_cons_zero, List.set_cons_succ]
        refine wpAnyH_take (i := 4) (oi := oD4) (v := undef) rfl (by kernel_rfl) (by kernel_rfl) (by kernel_rfl) (fun _ _ _ h => h) (Or.inr ⟨by rfl, rfl⟩) hHeld ?_
        try simp only [Act.put, List.setIfInBounds_toArray, List.set_cons_zero, List.set_cons_succ]
        refine wpAnyH_take (i := 5) (oi := oD5) (v := undef) rfl (by kernel_rfl) (by kernel_rfl) (by kernel_rfl) (fun _ _ _ h => h) (Or.inr ⟨by rfl, rfl⟩) hHeld ?_
        try simp only [Act.put, List.setIfInBounds_toArray, List.set_cons_zero, List.set_cons_succ]
        refine wpAnyH_take (i := 6) (oi := oD6) (v := undef) rfl (by kernel_rfl) (by kernel_rfl) (by kernel_rfl) (fun _ _ _ h => h) (Or.inr ⟨by rfl, rfl⟩) hHeld ?_
        try simp only [Act.put, List.setIfInBounds_toArray, List.set_cons_zero, List.set_cons_succ]
        refine wpAnyH_take (i := 7) (oi := oD7) (v := undef) rfl (by kernel_rfl) (by kernel_rfl) (by kernel_rfl) (fun _ _ _ h => h) (Or.inr ⟨by rfl, rfl⟩) hHeld ?_
        try simp only [Act.put, List.setIfInBounds_toArray, List.set_cons_zero, List.set_cons_succ]
        refine wpAnyH_take (i := 8) (oi := oD8) (v := undef) rfl (by kernel_rfl) (by kernel_rfl) (by kernel_rfl) (fun _ _ _ h => h) (Or.inr ⟨by rfl, rfl⟩) hHeld ?_
        try simp only [Act.put, List.setIfInBounds_toArray, List.set_cons_zero, List.set_cons_succ]
        refine wpAnyH_take (i := 9) (oi := oD9) (v := undef) rfl (by kernel_rfl) (by kernel_rfl) (by kernel_rfl) (fun _ _ _ h => h) (Or.inr ⟨by rfl, rfl⟩) hHeld ?_
        try simp only [Act.put, List.setIfInBounds_toArray, List.set_cons_zero, List.set_cons_succ]
        refine wpAnyH_take (i := 10) (oi := oD10) (v := undef) rfl (by kernel_rfl) (by kernel_rfl) (by kernel_rfl) (fun _ _ _ h => h) (Or.inr ⟨by rfl, rfl⟩) hHeld ?_
        try simp only [Act.put, List.setIfInBounds_toArray, List.set_cons_zero, List.set_cons_succ]
        refine wpAnyH_take (i := 11) (oi := oD11) (v := undef) rfl (by kernel_rfl) (by kernel_rfl) (by kernel_rfl) (fun _ _ _ h => h) (Or.inr ⟨by rfl, rfl⟩) hHeld ?_
        try simp only [Act.put, List.setIfInBounds_toArray, List.set_cons_zero, List.set_cons_succ]
        refine wpAnyH_take (i := 12) (oi := oD12) (v := undef) rfl (by kernel_rfl) (by kernel_rfl) (by kernel_rfl) (fun _ _ _ h => h) (Or.inr ⟨by rfl, rfl⟩) hHeld ?_
        try simp only [Act.put, List.setIfInBounds_toArray, List.set_cons_zero, List.set_cons_succ]
        refine wpAnyH_take (i := 13) (oi := oD13) (v := undef) rfl (by kernel_rfl) (by kernel_rfl) (by kernel_rfl) (fun _ _ _ h => h) (Or.inr ⟨by rfl, rfl⟩) hHeld ?_
        try simp only [Act.put, List.setIfInBounds_toArray, List.set_cons_zero, List.set_cons_succ]
        refine wpAnyH_take (i := 14) (oi := oD14) (v := undef) rfl (by kernel_rfl) (by kernel_rfl) (by kernel_rfl) (fun _ _ _ h => h) (Or.inr ⟨by rfl, rfl⟩) hHeld ?_
        try simp only [Act.put, List.setIfInBounds_toArray, List.set_cons_zero, List.set_cons_succ]
        refine wpAnyH_take (i := 15) (oi := oD15) (v := undef) rfl (by kernel_rfl) (by kernel_rfl) (by kernel_rfl) (fun _ _ _ h => h) (Or.inr ⟨by rfl, rfl⟩) hHeld ?_
        try simp only [Act.put, List.setIfInBounds_toArray, List.set_cons_zero, List.set_cons_succ]
        refine wpAnyH_take (i := 16) (oi := oD16) (v := ?v3) rfl (by kernel_rfl) (by kernel_rfl) (by kernel_rfl) (fun _ _ _ h => h) (Or.inl ⟨by rfl, ?h3⟩) hHeld ?r3
        case h3 => (intro w hSw; (try dsimp only at hSw); go_simp; try with_reducible rfl)
        try simp only [Act.put, List.setIfInBounds_toArray, List.set_cons_zero, List.set_cons_succ]
        refine wpAnyH_ready (rs := [17]) (by kernel_rfl) (by simp) ?_
        refine (AllReadyH.cons (o := oD17) rfl (fun K hK => ?_) AllReadyH.nil)
        go_simp
        clear hHeld
        refine hK.out _ _ (HQ0.out) (fun hHeld => ?_)
        clear hK K
        try simp only [Act.put, List.setIfInBounds_toArray, List.set_cons_zero, List.set_cons_succ]
        refine wpAnyH_done (by kernel_rfl) ?_ _
        (try refine NoPanic.normal ?_)
        go_wp2_with fail
        go_loopw [69] (fun i' wx => ∃ j : Nat, i' = .int .i64 j ∧ j ≤ l[i].kids.length ∧ ∃ g2 a2 c2, Hid (St wx p 74 [] (xs ++ ([] : List UInt8) ++ txK l br f i ind true j) g2 a2 c2 ∧ Mv p g w g2 wx ∧ SBx wx q p (.slice (some ⟨b, off, none⟩) l.length cap) (.slice ag (gpl l l.length).length cg) (.slice ab br.length cb) ∧ g2 ≠ some q)) (fun i' _ => l[i].kids.length - (intOf i').toNat)
        case atStart => exact ⟨0, rfl, Nat.zero_le _, _, _, _, H1⟩
        case round =>
          clear H1
          (try clear c0 c1 c2 c3)
          obtain ⟨j, rfl, hj, g2, a2, c2, HV⟩ := hrel
          by_cases hjl : j < l[i].kids.length
          · obtain ⟨hak, _⟩ := HAK.out (by omega)
            obtain ⟨hkd0, hkd1⟩ := HKD.out l[i].kids[j] (List.getElem_mem hjl)
            have k0 := HKC.out j hjl
            have hkn := HKN.out j hjl
            have hkl := HKL.out (j + 1) hjl
            rw [hkn, List.length_append] at hkl
            obtain ⟨k, hk⟩ : ∃ k, l[i].kids[j] = k := ⟨_, rfl⟩
            rw [hk] at hkd0 hkd1 k0 hkn hkl
            clear hk
            obtain ⟨kn, rfl⟩ : ∃ kn : Nat, k = (kn : Int) := ⟨k.toNat, by omega⟩
            rw [Int.toNat_natCast] at hkn hkl
            have hbd : Below w0.heap.size w0 wr := HBW.out.trans (HV.out.2.1.below (by omega) HG.out HBW.out.size)
            rw [← hbd.cell (lt_of_cell k0)] at k0
            have HCL : Hid (Calls Try.prog 51 #[.pointer (some ⟨q, 0, none⟩), .int .i64 kn, .int .i64 (ind : Int), .bool true] wr (Wr p 74 [] (xs ++ ([] : List UInt8) ++ txK l br f i ind true j) (tx l br f kn ind true) g2 wr)) := by
              have := HIH.out kn ind true (xs ++ ([] : List UInt8) ++ txK l br f i ind true j) g2 a2 c2 wr (by omega) (by omega) (by omega) (by rw [List.length_append, List.length_append]; omega) hbd HV.out.1 HV.out.2.2.1 HV.out.2.2.2
              skip
              exact this
            have HKN2 := (show Hid _ from hkn)
            clear hkl hkn hbd
            subst hak
            go_wp2_with fail
            refine Calls.mono HCL.out ?_
            rintro e w' ⟨rfl, g3, a3, c3, hst, hmv⟩
            have HN := (show Hid (St w' p 74 [] (xs ++ ([] : List UInt8) ++ txK l br f i ind true (j + 1)) g3 a3 c3 ∧ Mv p g w g3 w' ∧ SBx w' q p (.slice (some ⟨b, off, none⟩) l.length cap) (.slice ag (gpl l l.length).length cg) (.slice ab br.length cb) ∧ g3 ≠ some q) from
              ⟨by rw [HKN2.out, ← List.append_assoc]; exact hst, HV.out.2.1.trans hmv, sbx_step HV.out.2.2.1 HV.out.2.2.2 hpq hmv⟩)
            clear hst hmv HV HCL HKN2 k0
            go_wp2_with fail
            exact ⟨⟨j + 1, by go_num, by omega, _, _, _, HN⟩, by simp [intOf]; omega⟩
          · obtain rfl : j = l[i].kids.length := by omega
            go_wp2_with fail
            refine bodyPost_end (v := .tuple #[]) (by simp [results, Try.results51]) rfl ?_
            exact ⟨rfl, _, _, _, by rw [HTZ.out, ← List.append_assoc]; exact HV.out.1, HV.out.2.1⟩
    · skip
      have HTZ := (show Hid (tx l br (f + 1) i ind flat = ([] : List UInt8) ++ txK l br f i ind flat l[i].kids.length) from by show _ = _; rw [HTS.out, HOW.out]; rfl)
      have HKN := (show Hid (∀ j (hj : j < l[i].kids.length), txK l br f i ind flat (j + 1) = txK l br f i ind flat j ++ tx l br f l[i].kids[j].toNat ind flat) from fun j hj => by rw [txK_next hi hj, HIN.out, HFL.out]; rfl)
      have HKL := (show Hid (∀ j, j ≤ l[i].kids.length → xs.length + (([] : List UInt8) : List UInt8).length + (txK l br f i ind flat j).length ≤ 800000000) from fun j hj => by
        have h1 := HLN.out
        rw [HTZ.out, List.length_append] at h1
        have h2 := txK_le (l := l) (br := br) (f := f) (ind := ind) (q := j) (flat := flat) hi
        omega)
      clear hK0 hK1 HTL HTS HFL HIN HOW HGP HIT
      have hbW := bel_alloc w (.cells #[.int .i64 7, .string y1, .int .i64 y2, .slice ak l[i].kids.length ck] 44)
      have HSt := (show Hid (St (w.alloc (.cells #[.int .i64 7, .string y1, .int .i64 y2, .slice ak l[i].kids.length ck] 44)) p 74 [] xs g a c) from HSt0.out.still hbW)
      have HSB := (show Hid (SBx (w.alloc (.cells #[.int .i64 7, .string y1, .int .i64 y2, .slice ak l[i].kids.length ck] 44)) q p (.slice (some ⟨b, off, none⟩) l.length cap) (.slice ag (gpl l l.length).length cg) (.slice ab br.length cb)) from Box.still HSB0.out hbW)
      have HBx := (show Hid (Box (w.alloc (.cells #[.int .i64 7, .string y1, .int .i64 y2, .slice ak l[i].kids.length ck] 44)) w.heap.size 44 [.int .i64 7, .string y1, .int .i64 y2, .slice ak l[i].kids.length ck]) from Box.new w 44 [.int .i64 7, .string y1, .int .i64 y2, .slice ak l[i].kids.length ck])
      have HMW := (show Hid (Mv p g w g (w.alloc (.cells #[.int .i64 7, .string y1, .int .i64 y2, .slice ak l[i].kids.length ck] 44))) from Mv.bel hbW)
      clear hbW
      have H1 := (show Hid (St (w.alloc (.cells #[.int .i64 7, .string y1, .int .i64 y2, .slice ak l[i].kids.length ck] 44)) p 74 [] (xs ++ ([] : List UInt8) ++ txK l br f i ind flat 0) g a c ∧ Mv p g w g (w.alloc (.cells #[.int .i64 7, .string y1, .int .i64 y2, .slice ak l[i].kids.length ck] 44)) ∧ SBx (w.alloc (.cells #[.int .i64 7, .string y1, .int .i64 y2, .slice ak l[i].kids.length ck] 44)) q p (.slice (some ⟨b, off, none⟩) l.length cap) (.slice ag (gpl l l.length).length cg) (.slice ab br.length cb) ∧ g ≠ some q) from
        ⟨by simpa [txK] using HSt.out, HMW.out, HSB.out, HNQ.out⟩)
      go_enter Try.func51, Try.ntmps51
      go_wp2_with fail
      go_loopw [69] (fun i' wx => ∃ j : Nat, i' = .int .i64 j ∧ j ≤ l[i].kids.length ∧ ∃ g2 a2 c2, Hid (St wx p 74 [] (xs ++ ([] : List UInt8) ++ txK l br f i ind flat j) g2 a2 c2 ∧ Mv p g w g2 wx ∧ SBx wx q p (.slice (some ⟨b, off, none⟩) l.length cap) (.slice ag (gpl l l.length).length cg) (.slice ab br.length cb) ∧ g2 ≠ some q)) (fun i' _ => l[i].kids.length - (intOf i').toNat)
      case atStart => exact ⟨0, rfl, Nat.zero_le _, _, _, _, H1⟩
      case round =>
        clear H1
        (try clear c0 c1 c2 c3)
        obtain ⟨j, rfl, hj, g2, a2, c2, HV⟩ := hrel
        by_cases hjl : j < l[i].kids.length
        · obtain ⟨hak, _⟩ := HAK.out (by omega)
          obtain ⟨hkd0, hkd1⟩ := HKD.out l[i].kids[j] (List.getElem_mem hjl)
          have k0 := HKC.out j hjl
          have hkn := HKN.out j hjl
          have hkl := HKL.out (j + 1) hjl
          rw [hkn, List.length_append] at hkl
          obtain ⟨k, hk⟩ : ∃ k, l[i].kids[j] = k := ⟨_, rfl⟩
          rw [hk] at hkd0 hkd1 k0 hkn hkl
          clear hk
          obtain ⟨kn, rfl⟩ : ∃ kn : Nat, k = (kn : Int) := ⟨k.toNat, by omega⟩
          rw [Int.toNat_natCast] at hkn hkl
          have hbd : Below w0.heap.size w0 wr := HBW.out.trans (HV.out.2.1.below (by omega) HG.out HBW.out.size)
          rw [← hbd.cell (lt_of_cell k0)] at k0
          have HCL : Hid (Calls Try.prog 51 #[.pointer (some ⟨q, 0, none⟩), .int .i64 kn, .int .i64 (ind : Int), .bool flat] wr (Wr p 74 [] (xs ++ ([] : List UInt8) ++ txK l br f i ind flat j) (tx l br f kn ind flat) g2 wr)) := by
            have := HIH.out kn ind flat (xs ++ ([] : List UInt8) ++ txK l br f i ind flat j) g2 a2 c2 wr (by omega) (by omega) (by omega) (by rw [List.length_append, List.length_append]; omega) hbd HV.out.1 HV.out.2.2.1 HV.out.2.2.2
            skip
            exact this
          have HKN2 := (show Hid _ from hkn)
          clear hkl hkn hbd
          subst hak
          go_wp2_with fail
          refine Calls.mono HCL.out ?_
          rintro e w' ⟨rfl, g3, a3, c3, hst, hmv⟩
          have HN := (show Hid (St w' p 74 [] (xs ++ ([] : List UInt8) ++ txK l br f i ind flat (j + 1)) g3 a3 c3 ∧ Mv p g w g3 w' ∧ SBx w' q p (.slice (some ⟨b, off, none⟩) l.length cap) (.slice ag (gpl l l.length).length cg) (.slice ab br.length cb) ∧ g3 ≠ some q) from
            ⟨by rw [HKN2.out, ← List.append_assoc]; exact hst, HV.out.2.1.trans hmv, sbx_step HV.out.2.2.1 HV.out.2.2.2 hpq hmv⟩)
          clear hst hmv HV HCL HKN2 k0
          go_wp2_with fail
          exact ⟨⟨j + 1, by go_num, by omega, _, _, _, HN⟩, by simp [intOf]; omega⟩
        · obtain rfl : j = l[i].kids.length := by omega
          go_wp2_with fail
          refine bodyPost_end (v := .tuple #[]) (by simp [results, Try.results51]) rfl ?_
          exact ⟨rfl, _, _, _, by rw [HTZ.out, ← List.append_assoc]; exact HV.out.1, HV.out.2.1⟩
end Go.Proofs.Ytokncahlcphhnaa
