import Derived.Test.YtokncahlcphhnaaTa
import Derived.Test.YtokncahlcphhnaaLe
/-! A layout as text: bytes that grow behind a box. -/
namespace Go.Proofs.Ytokncahlcphhnaa
open Go.RowKit Go.Deep
set_option linter.unusedVariables false
set_option maxRecDepth 100000
set_option linter.unusedSimpArgs false

def u8 (l : List UInt8) : List Value := l.map fun b => .int .u8 (b.toNat : Int)
theorem u8_app (a b : List UInt8) : u8 (a ++ b) = u8 a ++ u8 b := by simp [u8]
theorem u8_len (a : List UInt8) : (u8 a).length = a.length := by simp [u8]
theorem u8_one (a : List UInt8) : ∀ v ∈ u8 a, v.oneCell' = true := by
  intro v hv
  obtain ⟨b, _, rfl⟩ := List.mem_map.1 hv
  rfl
/-- What a step leaves as it was: all but the box and the row. -/
structure Mv (p : Nat) (g : Option Nat) (w : World) (g' : Option Nat) (w' : World) : Prop where
  fr : w'.os = w.os ∧ w'.tape = w.tape ∧ w'.output = w.output ∧ w.heap.size ≤ w'.heap.size ∧ ∀ k, k < w.heap.size → k ≠ p → g ≠ some k → w'.heap[k]? = w.heap[k]?
  gto : g' = g ∨ ∃ x, g' = some x ∧ w.heap.size ≤ x
theorem Mv.refl (p : Nat) (g : Option Nat) (w : World) : Mv p g w g w := ⟨⟨rfl, rfl, rfl, Nat.le_refl _, fun _ _ _ _ => rfl⟩, .inl rfl⟩
theorem Mv.trans {p : Nat} {g g' g'' : Option Nat} {w w' w'' : World} (h : Mv p g w g' w') (k : Mv p g' w' g'' w'') : Mv p g w g'' w'' := by
  obtain ⟨⟨a1, a2, a3, a4, a5⟩, a6⟩ := h
  obtain ⟨⟨b1, b2, b3, b4, b5⟩, b6⟩ := k
  refine ⟨⟨b1.trans a1, b2.trans a2, b3.trans a3, Nat.le_trans a4 b4, fun k hk h1 h2 => (b5 k (by omega) h1 ?_).trans (a5 k hk h1 h2)⟩, ?_⟩
  · rcases a6 with rfl | ⟨x, rfl, hx⟩
    · exact h2
    · intro e; cases e; omega
  · rcases b6 with rfl | ⟨x, rfl, hx⟩
    · exact a6
    · exact .inr ⟨x, rfl, by omega⟩
theorem Mv.bel {p : Nat} {g : Option Nat} {w w' : World} (h : Below w.heap.size w w') : Mv p g w g w' := ⟨⟨h.os, h.tape, h.output, h.size, fun k hk _ _ => h.block k hk⟩, .inl rfl⟩
theorem Mv.size {p : Nat} {g g' : Option Nat} {w w' : World} (h : Mv p g w g' w') : w.heap.size ≤ w'.heap.size := h.fr.2.2.2.1
theorem Mv.below {p B : Nat} {g g' : Option Nat} {w w' : World} (h : Mv p g w g' w') (hp : B ≤ p) (hg : ∀ k, g = some k → B ≤ k) (hB : B ≤ w.heap.size) : Below B w w' :=
  ⟨h.fr.1, h.fr.2.1, h.fr.2.2.1, h.size, fun k hk => h.fr.2.2.2.2 k (by omega) (by omega) (fun e => by have := hg k e; omega)⟩
/-- A box whose last cell is the slice of bytes that grow. -/
structure St (w : World) (p T : Nat) (pre : List Value) (xs : List UInt8) (g : Option Nat) (a : Option Addr) (c : Nat) : Prop where
  box : Box w p T (pre ++ [.slice a xs.length c])
  own : w.ownsRow (p + 1) 5 1 (.slice a xs.length c) xs.length (u8 xs)
  blk : (Value.slice a xs.length c).ownBlock = g
theorem own_of {w w' : World} {B e s n : Nat} {v : Value} {xs : List Value} (h : w.ownsRow B e s v n xs) (hk : ∀ k, v.ownBlock = some k → w'.heap[k]? = w.heap[k]?) : w'.ownsRow B e s v n xs := by
  obtain ⟨h1, h2⟩ := h
  refine ⟨h1, ?_⟩
  rcases h2 with h2 | ⟨g', cap', cur, rfl, hb, hc, hr⟩
  · exact .inl h2
  · exact .inr ⟨g', cap', cur, rfl, hb, (hk g' rfl).trans hc, hr⟩
theorem St.lt {w : World} {p T : Nat} {pre : List Value} {xs : List UInt8} {g : Option Nat} {a : Option Addr} {c : Nat} (h : St w p T pre xs g a c) : p < w.heap.size ∧ ∀ k, g = some k → p + 1 ≤ k ∧ k < w.heap.size :=
  ⟨h.box.lt, fun k hk => World.ownsRow.lt h.own k (by rw [h.blk]; exact hk)⟩
theorem St.keep {w w' : World} {p T : Nat} {pre : List Value} {xs : List UInt8} {g : Option Nat} {a : Option Addr} {c : Nat} (h : St w p T pre xs g a c) (hp : w'.heap[p]? = w.heap[p]?) (hg : ∀ k, g = some k → w'.heap[k]? = w.heap[k]?) : St w' p T pre xs g a c :=
  ⟨h.box.keep hp, own_of h.own (fun k hk => hg k (by rw [← h.blk]; exact hk)), h.blk⟩
theorem St.still {w w' : World} {p T : Nat} {pre : List Value} {xs : List UInt8} {g : Option Nat} {a : Option Addr} {c : Nat} (h : St w p T pre xs g a c) (hb : Below w.heap.size w w') : St w' p T pre xs g a c :=
  h.keep (hb.block p h.lt.1) (fun k hk => hb.block k (h.lt.2 k hk).2)
/-- What the box holds. -/
theorem St.cell {w : World} {p T : Nat} {pre : List Value} {xs : List UInt8} {g : Option Nat} {a : Option Addr} {c : Nat} (h : St w p T pre xs g a c) : w.cell? ⟨p, pre.length, none⟩ = some (.slice a xs.length c) ∧ w.frozen? ⟨p, pre.length, none⟩ = false := by
  have h1 := h.box.cell pre.length (by simp)
  have e : (pre ++ [Value.slice a xs.length c]).getD pre.length .nilFunc = .slice a xs.length c := by simp [List.getD_eq_getElem?_getD]
  rw [e] at h1
  exact ⟨h1, h.box.frozen _⟩
theorem St.put {w W U : World} {p T m c2 : Nat} {pre : List Value} {xs ys : List UInt8} {g : Option Nat} {a a2 : Option Addr} {c : Nat} (h : St w p T pre xs g a c) (hW : Below w.heap.size w W) (hgr : W.grownBy U g) (hm : ys.length = m)
    (hown : U.ownsRow (p + 1) 5 1 (.slice a2 m c2) m (u8 ys)) (hat : (Value.slice a2 m c2).ownBlock = g ∨ ∃ x, (Value.slice a2 m c2).ownBlock = some x ∧ w.heap.size ≤ x) :
    ∃ g', St (U.setCell ⟨p, pre.length, none⟩ (.slice a2 m c2)) p T pre ys g' a2 c2 ∧ Mv p g w g' (U.setCell ⟨p, pre.length, none⟩ (.slice a2 m c2)) := by
  subst hm
  have hlt := h.lt
  have hbU : Box U p T (pre ++ [.slice a xs.length c]) := (h.box.still hW).keep (hgr.block p (h.box.still hW).lt (fun e => by have := (hlt.2 p e.symm).1; omega))
  have hbs := hbU.set pre.length (.slice a2 ys.length c2)
  have e1 : (pre ++ [Value.slice a xs.length c]).set pre.length (.slice a2 ys.length c2) = pre ++ [.slice a2 ys.length c2] := by simp
  rw [e1] at hbs
  refine ⟨_, ⟨hbs, own_of hown (fun k hk => blk_setCell_other _ _ _ _ (by
    have := World.ownsRow.lt hown k hk
    show k ≠ p
    omega)), rfl⟩, ⟨⟨?_, ?_, ?_, ?_, fun k hk h1 h2 => ?_⟩, hat⟩⟩
  · exact hgr.os.trans hW.os
  · exact hgr.tape.trans hW.tape
  · exact hgr.output.trans hW.output
  · have := hgr.size; have := hW.size; simp; omega
  · rw [blk_setCell_other _ _ _ _ (by exact h1), hgr.block k (by have := hW.size; omega) (fun e => h2 e.symm)]
    exact hW.block k hk
theorem St.app {w W U : World} {p T m n c2 : Nat} {pre : List Value} {xs ys : List UInt8} {g : Option Nat} {a a2 : Option Addr} {c : Nat} (h : St w p T pre xs g a c) (hn : xs.length = n) (hW : Below w.heap.size w W) (hgr : W.grownBy U (Value.slice a n c).ownBlock) (hm : n + ys.length = m)
    (hown : U.ownsRow (p + 1) 5 1 (.slice a2 m c2) m (u8 xs ++ u8 ys)) (hat : (Value.slice a2 m c2).ownBlock = (Value.slice a n c).ownBlock ∨ ∃ x, (Value.slice a2 m c2).ownBlock = some x ∧ w.heap.size ≤ x) :
    (U.cell? ⟨p, pre.length, none⟩ = some (.slice a n c) ∧ U.frozen? ⟨p, pre.length, none⟩ = false) ∧ ∃ g', St (U.setCell ⟨p, pre.length, none⟩ (.slice a2 m c2)) p T pre (xs ++ ys) g' a2 c2 ∧ Mv p g w g' (U.setCell ⟨p, pre.length, none⟩ (.slice a2 m c2)) := by
  subst hn
  rw [h.blk] at hgr hat
  have hlt := h.lt
  have hbU : Box U p T (pre ++ [.slice a xs.length c]) := (h.box.still hW).keep (hgr.block p (h.box.still hW).lt (fun e => by have := (hlt.2 p e.symm).1; omega))
  refine ⟨⟨?_, hbU.frozen _⟩, h.put hW hgr (by rw [List.length_append]; exact hm) (by rw [u8_app]; exact hown) hat⟩
  have h1 := hbU.cell pre.length (by simp)
  have e : (pre ++ [Value.slice a xs.length c]).getD pre.length .nilFunc = .slice a xs.length c := by simp [List.getD_eq_getElem?_getD]
  rw [e] at h1
  exact h1
theorem fdT_next (j : Nat) : fdT (j + 1) = fdT j ++ [32] := by
  unfold fdT; rw [List.replicate_succ', List.cons_append]
theorem info5 : (Try.prog.info? 5).map (fun i => (i.zero, i.size, i.bytes)) = some (some (.int .u8 0), 1, 1) := by kernel_rfl
/-- What a writer leaves. -/
def Wr (p T : Nat) (pre : List Value) (xs ys : List UInt8) (g : Option Nat) (w : World) (e : Ending) (w' : World) : Prop := e = .returned (.tuple #[]) ∧ ∃ g' a' c', St w' p T pre (xs ++ ys) g' a' c' ∧ Mv p g w g' w'
set_option maxHeartbeats 3200000 in
theorem feed49 (ind p : Nat) (dv bv : Value) (xs : List UInt8) (g : Option Nat) (a : Option Addr) (c : Nat) (w : World) (h : St w p 71 [dv, bv] xs g a c) (hind : ind ≤ 100000) (hl : xs.length + ind ≤ 1000000000) :
    Calls Try.prog 49 #[.pointer (some ⟨p, 0, none⟩), .int .i64 ind] w (Wr p 71 [dv, bv] xs (fdT ind) g w) := by
  obtain ⟨i5, hi5, hzz⟩ := Option.map_eq_some_iff.1 info5
  simp only [Prod.mk.injEq] at hzz
  obtain ⟨hz0, hz1, hz2⟩ := hzz
  have hb1 := bel_alloc w (.cells #[.int .u8 10] 5)
  have HS := (show Hid (St w p 71 [dv, bv] xs g a c) from h)
  have HO := (show Hid _ from al_still h.own hb1)
  have HB := (show Hid _ from hb1)
  have hpl := h.lt.1
  have q2 : w.cell? ⟨p, 2, none⟩ = some (.slice a xs.length c) := h.cell.1
  generalize hn : xs.length = n at *
  have HN := (show Hid _ from hn); clear hn hb1 h
  go_enter Try.func49, Try.ntmps49
  go_wp2_with (at_builtin; refine wpList_append_lies _ rfl (.tmp 9) (.tmp 10) 69 rfl (p + 1) 5 i5 _ 1 1 Try.underlying69 hi5 hz0 hz1 hz2 rfl (by decide) _ n _ rfl HO.out ⟨w.heap.size, 0, none⟩ 1 1 [.int .u8 10] rfl rfl (al_box _ _ _) (by intro u hu; simp at hu; subst hu; rfl) (by decide) ?c1 ?c2 ?c3 _ rfl ?nx)
  case c1 => unfold maxLen; omega
  case c2 => omega
  case c3 => first | omega | (simp; omega)
  case nx =>
    intro g2 cap2 U hown2 hgr2 hat2 hlt2
    obtain ⟨⟨z2, z3⟩, g', hst, hmv⟩ := HS.out.app (ys := [10]) HN.out HB.out hgr2 rfl hown2 (hat2.elim (fun e => .inl e.symm) (fun e => .inr ⟨g2, rfl, by rw [e]; simp⟩))
    have HST := (show Hid (St _ p 71 [dv, bv] (xs ++ fdT 0) g' _ cap2 ∧ Mv p g w g' _) from ⟨hst, hmv⟩)
    clear hst hmv hown2 hgr2 hat2 hlt2 HO HB q2
    have z2' : U.cell? ⟨p, 2, none⟩ = some (.slice a n c) := z2
    have z3' : U.frozen? ⟨p, 2, none⟩ = false := z3
    clear z2 z3
    go_wp2_with fail
    go_loopw [4] (fun i wr => ∃ j : Nat, i = .int .i64 j ∧ j ≤ ind ∧ ∃ g1 a1 c1, Hid (St wr p 71 [dv, bv] (xs ++ fdT j) g1 a1 c1 ∧ Mv p g w g1 wr)) (fun i _ => ind - (intOf i).toNat)
    case atStart => exact ⟨0, rfl, Nat.zero_le _, _, _, _, HST⟩
    case round =>
      obtain ⟨j, rfl, hj, g1, a1, c1, HW⟩ := hrel
      clear HST z2' z3'
      by_cases hjl : j < ind
      · have hlen : (xs ++ fdT j).length = n + j + 1 := by rw [List.length_append, HN.out]; unfold fdT; simp; omega
        have q2 : wr.cell? ⟨p, 2, none⟩ = some (.slice a1 (n + j + 1) c1) := by rw [← hlen]; exact HW.out.1.cell.1
        have hpl2 := HW.out.1.lt.1
        have hb1 := bel_alloc wr (.cells #[.int .u8 32] 5)
        have HB := (show Hid _ from hb1)
        have ho := al_still HW.out.1.own hb1
        rw [hlen] at ho
        have HO := (show Hid _ from ho); clear ho hb1
        have HL := (show Hid _ from hlen); clear hlen
        have HF := (show Hid _ from fdT_next j)
        go_wp2_with (at_builtin; refine wpList_append_lies _ rfl (.tmp 23) (.tmp 24) 69 rfl (p + 1) 5 i5 _ 1 1 Try.underlying69 hi5 hz0 hz1 hz2 rfl (by decide) _ (n + j + 1) _ rfl HO.out ⟨wr.heap.size, 0, none⟩ 1 1 [.int .u8 32] rfl rfl (al_box _ _ _) (by intro u hu; simp at hu; subst hu; rfl) (by decide) ?c1 ?c2 ?c3 _ rfl ?nx)
        case c1 => unfold maxLen; omega
        case c2 => omega
        case c3 => first | omega | (simp; omega)
        case nx =>
          intro g2 cap2 U hown2 hgr2 hat2 hlt2
          obtain ⟨⟨z2, z3⟩, g', hst, hmv⟩ := HW.out.1.app (ys := [32]) HL.out HB.out hgr2 rfl hown2 (hat2.elim (fun e => .inl e.symm) (fun e => .inr ⟨g2, rfl, by rw [e]; simp⟩))
          have HST := (show Hid (St _ p 71 [dv, bv] (xs ++ fdT (j + 1)) g' _ cap2 ∧ Mv p g w g' _) from ⟨by rw [HF.out, ← List.append_assoc]; exact hst, HW.out.2.trans hmv⟩)
          clear hst hmv hown2 hgr2 hat2 hlt2 HO HB q2 HW HL HF
          have z2' : U.cell? ⟨p, 2, none⟩ = some (.slice a1 (n + j + 1) c1) := z2
          have z3' : U.frozen? ⟨p, 2, none⟩ = false := z3
          clear z2 z3
          go_wp2_with fail
          exact ⟨⟨j + 1, by go_num, by omega, _, _, _, HST⟩, by simp [intOf]; omega⟩
      · obtain rfl : j = ind := by omega
        go_wp2_with fail
        refine bodyPost_end (v := .tuple #[]) (by simp [results, Try.results49]) rfl ?_
        exact ⟨rfl, _, _, _, HW.out⟩
end Go.Proofs.Ytokncahlcphhnaa
