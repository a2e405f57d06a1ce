import Derived.Test.YtledclkmeikgdaaGp
import Derived.Deep.AppendLies
import Derived.Deep.OwnRows
/-! Rows of places and of marks: the specification's l12In and l12Behind. -/
namespace Go.Proofs.Ytledclkmeikgdaa
open Go.RowKit Go.Deep
set_option linter.unusedVariables false
set_option maxRecDepth 100000
set_option linter.unusedSimpArgs false

/-- Numbers as values. -/
abbrev iv (l : List Int) : List Value := l.map (Value.int .i64)
theorem ownKeep {w w' : World} {B e z : Nat} {v : Value} {n : Nat} {xs : List Value} (h : w.ownsRow B e z v n xs) (hb : ∀ k, v.ownBlock = some k → w'.heap[k]? = w.heap[k]?) : w'.ownsRow B e z v n xs := by
  rcases h with ⟨hl, h | ⟨g, cap, cur, rfl, h1, hg, h2⟩⟩
  · exact ⟨hl, .inl h⟩
  · exact ⟨hl, .inr ⟨g, cap, cur, rfl, h1, (hb g rfl).trans hg, h2⟩⟩
theorem ownBel {w w' : World} {B C e z : Nat} {v : Value} {n : Nat} {xs : List Value} (h : w.ownsRow B e z v n xs) (hb : Below w.heap.size w w') : w'.ownsRow B e z v n xs :=
  ownKeep h (fun k hk => hb.block k (World.ownsRow.lt h k hk).2)
theorem ownLow {w : World} {B B' e z : Nat} {v : Value} {n : Nat} {xs : List Value} (h : w.ownsRow B e z v n xs) (hb : B' ≤ B) : w.ownsRow B' e z v n xs := by
  rcases h with ⟨hl, h | ⟨g, cap, cur, rfl, h1, h2⟩⟩
  · exact ⟨hl, .inl h⟩
  · exact ⟨hl, .inr ⟨g, cap, cur, rfl, Nat.le_trans hb h1, h2⟩⟩
theorem info3g : (Try.prog.info? 3).map (fun i => (i.zero, i.size, i.bytes)) = some (some (.int .i64 0), 1, 8) := by kernel_rfl
theorem info4g : (Try.prog.info? 4).map (fun i => (i.zero, i.size, i.bytes)) = some (some (.bool false), 1, 1) := by kernel_rfl
theorem neBytes {a b : ByteArray} (h : ¬ a = b) : (a.toList == b.toList) = false := by
  rw [beq_eq_false_iff_ne]
  intro e
  rw [ByteArray.toList_eq, ByteArray.toList_eq] at e
  exact h (ByteArray.ext (Array.toList_inj.mp e))
theorem eqS_no {a b : ByteArray} (h : ¬ a = b) : eqS a b = false := by unfold eqS; exact decide_eq_false (fun e => h (ByteArray.ext e))
theorem eqS_yes {a b : ByteArray} (h : a = b) : eqS a b = true := by unfold eqS; exact decide_eq_true (by rw [h])
/-- What is answered where places are told. -/
def InA (l : List Int) (w : World) (e : Ending) (w' : World) : Prop := ∃ (a : Option Addr) (cp : Nat), e = .returned (.slice a l.length cp) ∧ Below w.heap.size w w' ∧ w'.ownsRow w.heap.size 3 1 (.slice a l.length cp) l.length (iv l)
set_option maxHeartbeats 3200000 in
theorem in83 {S : Nat → Prop} (sc : Int) (a1 : Option Addr) (l1 p1 : Nat) (a3 : Option Addr) (l3 p3 : Nat) (ds : List DSpot) (v2 : Value) (nm : ByteArray) (A : Int → Bool) (b N : Nat) (w : World) (hds : SpotR w S ds v2)
    (hd : ∀ i (hi : i < ds.length), 0 ≤ ds[i].scope ∧ ds[i].scope < N) (hA : w.rowIs b 4 N (fun i => .bool (A ((i : Nat) : Int)))) (hN : N ≤ 60) (hl : ds.length ≤ 120) :
    Calls Try.prog 80 #[.agg #[.int .i64 sc, .slice a1 l1 p1, v2, .slice a3 l3 p3], .slice (some ⟨b, 0, none⟩) N N, .string nm] w (InA (dcl ds nm A ds.length) w) := by
  obtain ⟨a2, p2, c, off, rfl, hc, hm, ha, hcell⟩ := hds
  have HC := (show Hid _ from hcell); clear hcell
  have HA := (show Hid _ from ha); clear ha
  have HD := (show Hid (∀ i (hi : i < ds.length), ∃ s : Nat, ds[i].scope = (s : Int) ∧ s < N) from fun i hi => ⟨ds[i].scope.toNat, by have := hd i hi; omega, by have := hd i hi; omega⟩); clear hd
  have HAC := (show Hid (∀ s : Nat, s < N → w.cell? ⟨b, s, none⟩ = some (.bool (A (s : Int)))) from fun s hs => hA.cell hs); clear hA
  unfold maxLen at hm
  have HBW := (show Hid (Below w.heap.size w (w.alloc (.cells #[.int .i64 sc, .slice a1 l1 p1, .slice a2 ds.length p2, .slice a3 l3 p3] 27))) from bel_alloc _ _)
  have hk2 : (w.alloc (.cells #[.int .i64 sc, .slice a1 l1 p1, .slice a2 ds.length p2, .slice a3 l3 p3] 27)).cell? ⟨w.heap.size, 2, none⟩ = some (.slice a2 ds.length p2) := by simp [go_sem]
  have HK2 := (show Hid _ from hk2); clear hk2
  obtain ⟨i3, hi3, hzz⟩ := Option.map_eq_some_iff.1 info3g
  simp only [Prod.mk.injEq] at hzz
  obtain ⟨hz0, hz1, hz2⟩ := hzz
  have HST := (show Hid (Below (w.heap.size + 1) (w.alloc (.cells #[.int .i64 sc, .slice a1 l1 p1, .slice a2 ds.length p2, .slice a3 l3 p3] 27)) ((w.alloc (.cells #[.int .i64 sc, .slice a1 l1 p1, .slice a2 ds.length p2, .slice a3 l3 p3] 27)).alloc (.cells #[] 3)) ∧ ((w.alloc (.cells #[.int .i64 sc, .slice a1 l1 p1, .slice a2 ds.length p2, .slice a3 l3 p3] 27)).alloc (.cells #[] 3)).ownsRow (w.heap.size + 1) 3 1 (.slice (some ⟨w.heap.size + 1, 0, none⟩) (dcl ds nm A 0).length 0) (dcl ds nm A 0).length (iv (dcl ds nm A 0))) from ⟨(Below.refl _ _).alloc (by simp) _, by
    have := World.ownsRow_lit (base := w.heap.size + 1) (e := 3) (size := 1) (w.alloc (.cells #[.int .i64 sc, .slice a1 l1 p1, .slice a2 ds.length p2, .slice a3 l3 p3] 27)) #[] 0 (by simp) (by unfold maxLen; omega) rfl
    simpa [dcl_zero] using this⟩)
  have HDL := (show Hid (∀ j, (dcl ds nm A j).length ≤ j) from dcl_le ds nm A)
  go_enter Try.func80, Try.ntmps80
  go_wp2_with fail
  go_loopw [7, 8] (fun u i wr => ∃ (j : Nat) (a : Option Addr) (cp : Nat), i = .int .i64 j ∧ j ≤ ds.length ∧ u = .slice a (dcl ds nm A j).length cp ∧ wr.cell? ⟨w.heap.size, 2, none⟩ = some (.slice a2 ds.length p2) ∧ Hid (Below (w.heap.size + 1) (w.alloc (.cells #[.int .i64 sc, .slice a1 l1 p1, .slice a2 ds.length p2, .slice a3 l3 p3] 27)) wr ∧ wr.ownsRow (w.heap.size + 1) 3 1 (.slice a (dcl ds nm A j).length cp) (dcl ds nm A j).length (iv (dcl ds nm A j)))) (fun _ i _ => ds.length - (intOf i).toNat)
  case atStart => exact ⟨0, _, _, rfl, Nat.zero_le _, rfl, (HST.out.1.cell (by simp)).trans HK2.out, HST⟩
  case round =>
    obtain ⟨j, ua, cp, rfl, hj, rfl, k2, HI⟩ := hrel
    clear HST
    have HB := (show Hid (Below w.heap.size w wr) from HBW.out.trans (HI.out.1.mono (by simp)))
    by_cases hjl : j < ds.length
    · obtain ⟨ea, _⟩ := HA.out (by omega)
      have K2 := (show Hid _ from k2)
      rw [ea] at k2
      clear ea
      obtain ⟨c0, c1, _⟩ := HC.out j hjl
      obtain ⟨s, hs, hsN⟩ := HD.out j hjl
      have cA := HAC.out s hsN
      rw [hs] at c0
      rw [← HB.out.cell (lt_of_cell c0)] at c0
      rw [← HB.out.cell (lt_of_cell c1)] at c1
      rw [← HB.out.cell (lt_of_cell cA)] at cA
      have HDB := (show Hid (dcB ds nm A j = (A (s : Int) && decide (ds[j].name.data = nm.data))) from by rw [← hs]; exact dcB_at hjl)
      clear hs
      generalize ds[j].name = kn at *
      generalize A (s : Int) = AB at *
      cases AB
      case false =>
        have HF := (show Hid _ from dcl_no (show dcB ds nm A j = false from HDB.out))
        go_wp2_with fail
        rw [← HF.out]
        exact ⟨⟨j + 1, ua, cp, by go_num, by omega, rfl, K2.out, by rw [HF.out]; exact HI⟩, by simp [intOf]; omega⟩
      case true =>
        by_cases hE : kn = nm
        case neg =>
          have HF := (show Hid _ from dcl_no (show dcB ds nm A j = false from HDB.out.trans (eqS_no hE)))
          have hd := neBytes hE
          clear hE
          go_wp2_with fail
          rw [← HF.out]
          exact ⟨⟨j + 1, ua, cp, by go_num, by omega, rfl, K2.out, by rw [HF.out]; exact HI⟩, by simp [intOf]; omega⟩
        case pos =>
          have HF := (show Hid _ from dcl_yes (show dcB ds nm A j = true from HDB.out.trans (eqS_yes hE)))
          rw [hE] at c1
          clear hE
          have hba := bel_alloc wr (.cells #[.int .i64 (j : Int)] 3)
          have HO1 := (show Hid _ from ownBel (C := 0) HI.out.2 hba)
          have HB1 := (show Hid (Below (w.heap.size + 1) (w.alloc (.cells #[.int .i64 sc, .slice a1 l1 p1, .slice a2 ds.length p2, .slice a3 l3 p3] 27)) (wr.alloc (.cells #[.int .i64 (j : Int)] 3))) from HI.out.1.alloc (by have := HI.out.1.size; simp at this; exact this) _)
          have HSZ := (show Hid (w.heap.size + 1 ≤ wr.heap.size) from by have := HI.out.1.size; simp at this; exact this)
          have hNN := HDL.out j
          have HOB := (show Hid (∀ k, (Value.slice ua (dcl ds nm A j).length cp).ownBlock = some k → w.heap.size + 1 ≤ k) from fun k hk => (World.ownsRow.lt HI.out.2 k hk).1)
          generalize hNl : (dcl ds nm A j).length = NN at *
          have HNl := (show Hid _ from hNl); clear hNl hba
          go_wp2_with (at_builtin; refine wpList_append_lies _ rfl (.tmp 36) (.tmp 38) 34 rfl (w.heap.size + 1) 3 i3 _ 1 8 Try.underlying34 hi3 hz0 hz1 hz2 rfl (by decide) _ NN _ rfl HO1.out ⟨wr.heap.size, 0, none⟩ 1 1 [.int .i64 (j : Int)] rfl rfl ?c1 ?c2 (by decide) ?c3 ?c5 ?c4 _ rfl ?nx)
          case c1 =>
            intro q u hu
            cases q with
            | zero => simp at hu; subst hu; simp [Addr.add, go_sem]
            | succ q => simp at hu
          case c2 => intro u hu; simp at hu; subst hu; rfl
          case c3 => unfold maxLen; omega
          case c5 => omega
          case c4 => have := HSZ.out; simp; omega
          case nx =>
            intro g7 cap7 w7 hown7 hgr7 hat7 hlt7
            have HX := (show Hid (Below (w.heap.size + 1) (w.alloc (.cells #[.int .i64 sc, .slice a1 l1 p1, .slice a2 ds.length p2, .slice a3 l3 p3] 27)) w7 ∧ w7.ownsRow (w.heap.size + 1) 3 1 (.slice (some ⟨g7, 0, none⟩) (NN + 1) cap7) (dcl ds nm A (j + 1)).length (iv (dcl ds nm A (j + 1)))) from by
              refine ⟨HB1.out.grown hgr7 (by have := HSZ.out; simp; omega) HOB.out, ?_⟩
              rw [HF.out, List.length_append, HNl.out]
              simpa [iv] using hown7)
            have HLN := (show Hid ((dcl ds nm A (j + 1)).length = NN + 1) from by show _ = _; rw [HF.out, List.length_append, HNl.out]; rfl)
            have k2' : w7.cell? ⟨w.heap.size, 2, none⟩ = some (.slice a2 ds.length p2) := (HX.out.1.cell (by simp)).trans HK2.out
            clear hown7 hgr7 hat7 hlt7 HB1 HO1
            go_wp2_with fail
            exact ⟨⟨j + 1, _, _, by go_num, by omega, by rw [HLN.out], k2', by rw [HLN.out]; have := HX; rw [HLN.out] at this; exact this⟩, by simp [intOf]; omega⟩
    · obtain rfl : j = ds.length := by omega
      go_wp2_with fail
      go_ret
      exact ⟨_, _, rfl, HB.out, ownLow HI.out.2 (by omega)⟩
/-- .. where scopes are marked. -/
def BhA (A : Int → Bool) (N : Nat) (w : World) (e : Ending) (w' : World) : Prop := ∃ g, e = .returned (.slice (some ⟨g, 0, none⟩) N N) ∧ Below w.heap.size w w' ∧ w'.rowIs g 4 N (fun i => .bool (A ((i : Nat) : Int))) ∧ w.heap.size ≤ g
theorem run_makeBools (n : Nat) (hn : n ≤ 60) (w : World) :
    (Instr.makeSlice 115 (.int .i64 (n : Int)) (.int .i64 (n : Int))).run Try.prog w = .ok (.slice (some ⟨w.heap.size, 0, none⟩) n n) (w.alloc (.cells (madeCells #[.bool false] n) 4)) := by
  obtain ⟨i, hi, hz, hs, hb⟩ := info_parts info4g
  have hr := run_make (P := Try.prog) w 115 4 i _ Try.underlying115 hi hz .i64 .i64 n n (by omega) (Int.le_refl _) (by rw [hb]; omega) (by omega)
  simp only [Int.toNat_natCast, hs, Nat.mul_one] at hr
  exact hr
theorem madeRow (n : Nat) (w : World) : (w.alloc (.cells (madeCells #[.bool false] n) 4)).rowIs w.heap.size 4 n (fun _ => .bool false) :=
  ⟨madeCells #[.bool false] n, blk_alloc_new _ _, by simp [madeCells], fun i hi => by simp [madeCells, hi, Nat.mod_one]⟩
end Go.Proofs.Ytledclkmeikgdaa
