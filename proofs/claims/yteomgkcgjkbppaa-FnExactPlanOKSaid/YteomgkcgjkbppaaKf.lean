import Derived.Test.YteomgkcgjkbppaaFt
import Derived.Test.YteomgkcgjkbppaaFd
/-! The program: matched, with the map that it leaves. -/
namespace Go.Proofs.Yteomgkcgjkbppaa
open Go.RowKit Go.Deep Go.Maps Go.WideMaps Go.ChangeMaps Go.Lib
set_option linter.unusedVariables false
set_option maxRecDepth 100000
set_option linter.unusedSimpArgs false

/-- What matched leaves, the map too. -/
def MdB (R : List (ByteArray × Tr) × Bool) (w : World) (e : Ending) (w' : World) : Prop :=
  ∃ (mb : Nat) (ba : Option Addr) (cap B : Nat) (sv : Nat → Value), e = .returned (.tuple #[.agg #[.map (some mb), .slice ba R.1.length cap], .bool R.2]) ∧ Below w.heap.size w w' ∧ w'.ownsRow B 62 5 (.slice ba R.1.length cap) R.1.length (bcs R.1 sv R.1.length) ∧ (∀ i (hi : i < R.1.length), Lies w' (fun q => q < w.heap.size) R.1[i].2 (sv i)) ∧ Mn w' mb 9 (bks R.1)
set_option maxHeartbeats 3200000 in
theorem matchedM39 {S S' : Nat → Prop} (p t : Tr) (pv tv : Value) (w : World) (hp : Lies w S p pv) (ht : Lies w S' t tv) (hn : p.cnt ≤ 1000000) :
    Calls Try.prog 39 #[p.val pv, t.val tv] w (MdB (mtT p t []) w) := by
  have hp0 : Lies w (fun q => q < w.heap.size) p pv := (hp.lt).mono (fun q hq => hq.2)
  have ht0 : Lies w (fun q => q < w.heap.size) t tv := (ht.lt).mono (fun q hq => hq.2)
  obtain ⟨a1, m1, c1, rfl⟩ := hp.form
  obtain ⟨a2, m2, c2, rfl⟩ := ht.form
  clear hp ht
  have HF := (show Hid (∀ (B gb mb : Nat), w.heap.size ≤ gb → w.heap.size ≤ mb → w.heap.size ≤ B → ∀ wq : World, Below w.heap.size w wq → BS (fun q => q < w.heap.size) B gb mb [] wq → Calls Try.prog 75 #[.pointer (some ⟨gb, 0, none⟩), p.val (.slice a1 m1 c1), t.val (.slice a2 m2 c2)] wq (FtA (fun q => q < w.heap.size) B gb mb (mtT p t []) wq)) from fun B gb mb h1 h2 h3 wq hb hbs => fit75 (fun q hq => ⟨by omega, by omega, by omega⟩) p t _ _ [] wq hbs (hp0.still hb) (ht0.still hb) (by simp; omega))
  clear hp0 ht0
  generalize mtT p t [] = R at *
  obtain ⟨n, x, lf, k⟩ := p
  obtain ⟨n', x', l', k'⟩ := t
  simp only [Tr.val] at HF ⊢
  clear hn
  have s1 : (w.alloc (.cells #[.string n, .string x, .bool lf, .slice a1 m1 c1] 31)).heap.size = w.heap.size + 1 := by simp
  have s2 : ((w.alloc (.cells #[.string n, .string x, .bool lf, .slice a1 m1 c1] 31)).alloc (.cells #[.string n', .string x', .bool l', .slice a2 m2 c2] 31)).heap.size = w.heap.size + 1 + 1 := by simp
  have s3 : (((w.alloc (.cells #[.string n, .string x, .bool lf, .slice a1 m1 c1] 31)).alloc (.cells #[.string n', .string x', .bool l', .slice a2 m2 c2] 31)).alloc (.cells #[.map none, .slice none 0 0] 67)).heap.size = w.heap.size + 1 + 1 + 1 := by simp
  have s4 : ((((w.alloc (.cells #[.string n, .string x, .bool lf, .slice a1 m1 c1] 31)).alloc (.cells #[.string n', .string x', .bool l', .slice a2 m2 c2] 31)).alloc (.cells #[.map none, .slice none 0 0] 67)).alloc (.map #[] 0)).heap.size = w.heap.size + 1 + 1 + 1 + 1 := by simp
  have s5 : (((((w.alloc (.cells #[.string n, .string x, .bool lf, .slice a1 m1 c1] 31)).alloc (.cells #[.string n', .string x', .bool l', .slice a2 m2 c2] 31)).alloc (.cells #[.map none, .slice none 0 0] 67)).alloc (.map #[] 0)).alloc (.cells #[.map (some (w.heap.size + 1 + 1 + 1)), .slice none 0 0] 67)).heap.size = w.heap.size + 5 := by simp
  have d5 : Below w.heap.size w (((((w.alloc (.cells #[.string n, .string x, .bool lf, .slice a1 m1 c1] 31)).alloc (.cells #[.string n', .string x', .bool l', .slice a2 m2 c2] 31)).alloc (.cells #[.map none, .slice none 0 0] 67)).alloc (.map #[] 0)).alloc (.cells #[.map (some (w.heap.size + 1 + 1 + 1)), .slice none 0 0] 67)) := bel_trans (bel_trans (bel_trans (bel_trans (bel_alloc _ _) (bel_alloc _ _)) (bel_alloc _ _)) (bel_alloc _ _)) (bel_alloc _ _)
  have bz : Box (((((w.alloc (.cells #[.string n, .string x, .bool lf, .slice a1 m1 c1] 31)).alloc (.cells #[.string n', .string x', .bool l', .slice a2 m2 c2] 31)).alloc (.cells #[.map none, .slice none 0 0] 67)).alloc (.map #[] 0)).alloc (.cells #[.map (some (w.heap.size + 1 + 1 + 1)), .slice none 0 0] 67)) (w.heap.size + 1 + 1) 67 [.map none, .slice none 0 0] := by
    have h := ((Box.new ((w.alloc (.cells #[.string n, .string x, .bool lf, .slice a1 m1 c1] 31)).alloc (.cells #[.string n', .string x', .bool l', .slice a2 m2 c2] 31)) 67 [.map none, .slice none 0 0]).still (bel_alloc _ (.map #[] 0))).still (bel_alloc ((((w.alloc (.cells #[.string n, .string x, .bool lf, .slice a1 m1 c1] 31)).alloc (.cells #[.string n', .string x', .bool l', .slice a2 m2 c2] 31)).alloc (.cells #[.map none, .slice none 0 0] 67)).alloc (.map #[] 0)) (.cells #[.map (some (w.heap.size + 1 + 1 + 1)), .slice none 0 0] 67))
    rw [s2] at h
    exact h
  have bg : Box (((((w.alloc (.cells #[.string n, .string x, .bool lf, .slice a1 m1 c1] 31)).alloc (.cells #[.string n', .string x', .bool l', .slice a2 m2 c2] 31)).alloc (.cells #[.map none, .slice none 0 0] 67)).alloc (.map #[] 0)).alloc (.cells #[.map (some (w.heap.size + 1 + 1 + 1)), .slice none 0 0] 67)) (w.heap.size + 1 + 1 + 1 + 1) 67 [.map (some (w.heap.size + 1 + 1 + 1)), .slice none 0 0] := by
    have h := Box.new ((((w.alloc (.cells #[.string n, .string x, .bool lf, .slice a1 m1 c1] 31)).alloc (.cells #[.string n', .string x', .bool l', .slice a2 m2 c2] 31)).alloc (.cells #[.map none, .slice none 0 0] 67)).alloc (.map #[] 0)) 67 [.map (some (w.heap.size + 1 + 1 + 1)), .slice none 0 0]
    rw [s4] at h
    exact h
  have mn : Mn (((((w.alloc (.cells #[.string n, .string x, .bool lf, .slice a1 m1 c1] 31)).alloc (.cells #[.string n', .string x', .bool l', .slice a2 m2 c2] 31)).alloc (.cells #[.map none, .slice none 0 0] 67)).alloc (.map #[] 0)).alloc (.cells #[.map (some (w.heap.size + 1 + 1 + 1)), .slice none 0 0] 67)) (w.heap.size + 1 + 1 + 1) 9 [] := by
    have h := (Mn.new (((w.alloc (.cells #[.string n, .string x, .bool lf, .slice a1 m1 c1] 31)).alloc (.cells #[.string n', .string x', .bool l', .slice a2 m2 c2] 31)).alloc (.cells #[.map none, .slice none 0 0] 67)) 9).keep ((bel_alloc ((((w.alloc (.cells #[.string n, .string x, .bool lf, .slice a1 m1 c1] 31)).alloc (.cells #[.string n', .string x', .bool l', .slice a2 m2 c2] 31)).alloc (.cells #[.map none, .slice none 0 0] 67)).alloc (.map #[] 0)) (.cells #[.map (some (w.heap.size + 1 + 1 + 1)), .slice none 0 0] 67)).block (((w.alloc (.cells #[.string n, .string x, .bool lf, .slice a1 m1 c1] 31)).alloc (.cells #[.string n', .string x', .bool l', .slice a2 m2 c2] 31)).alloc (.cells #[.map none, .slice none 0 0] 67)).heap.size (by rw [s4, s3]; omega))
    rw [s3] at h
    exact h
  have HBS := (show Hid (BS (fun q => q < w.heap.size) (w.heap.size + 5) (w.heap.size + 1 + 1 + 1 + 1) (w.heap.size + 1 + 1 + 1) [] (((((w.alloc (.cells #[.string n, .string x, .bool lf, .slice a1 m1 c1] 31)).alloc (.cells #[.string n', .string x', .bool l', .slice a2 m2 c2] 31)).alloc (.cells #[.map none, .slice none 0 0] 67)).alloc (.map #[] 0)).alloc (.cells #[.map (some (w.heap.size + 1 + 1 + 1)), .slice none 0 0] 67))) from ⟨by rw [s5]; exact Nat.le_refl _, ⟨by omega, by omega, by omega⟩, ⟨none, 0, fun _ => .bool false, bg, own_nil _ _ _ _, fun i hi => absurd hi (Nat.not_lt_zero _)⟩, mn⟩)
  have HCL := (show Hid _ from HF.out (w.heap.size + 5) (w.heap.size + 1 + 1 + 1 + 1) (w.heap.size + 1 + 1 + 1) (by omega) (by omega) (by omega) _ d5 HBS.out)
  have HBZ := (show Hid (Box (((((w.alloc (.cells #[.string n, .string x, .bool lf, .slice a1 m1 c1] 31)).alloc (.cells #[.string n', .string x', .bool l', .slice a2 m2 c2] 31)).alloc (.cells #[.map none, .slice none 0 0] 67)).alloc (.map #[] 0)).alloc (.cells #[.map (some (w.heap.size + 1 + 1 + 1)), .slice none 0 0] 67)) (w.heap.size + 1 + 1) 67 [.map none, .slice none 0 0]) from bz)
  have HD5 := (show Hid (Below w.heap.size w (((((w.alloc (.cells #[.string n, .string x, .bool lf, .slice a1 m1 c1] 31)).alloc (.cells #[.string n', .string x', .bool l', .slice a2 m2 c2] 31)).alloc (.cells #[.map none, .slice none 0 0] 67)).alloc (.map #[] 0)).alloc (.cells #[.map (some (w.heap.size + 1 + 1 + 1)), .slice none 0 0] 67))) from d5)
  have HX1 : (((((w.alloc (.cells #[.string n, .string x, .bool lf, .slice a1 m1 c1] 31)).alloc (.cells #[.string n', .string x', .bool l', .slice a2 m2 c2] 31)).alloc (.cells #[.map none, .slice none 0 0] 67)).alloc (.map #[] 0)).alloc (.cells #[.map (some (w.heap.size + 1 + 1 + 1)), .slice none 0 0] 67)).cell? ⟨w.heap.size, 0, none⟩ = some (.string n) ∧ (((((w.alloc (.cells #[.string n, .string x, .bool lf, .slice a1 m1 c1] 31)).alloc (.cells #[.string n', .string x', .bool l', .slice a2 m2 c2] 31)).alloc (.cells #[.map none, .slice none 0 0] 67)).alloc (.map #[] 0)).alloc (.cells #[.map (some (w.heap.size + 1 + 1 + 1)), .slice none 0 0] 67)).cell? ⟨w.heap.size, 1, none⟩ = some (.string x) := by
    constructor <;> simp [go_sem]
  clear HX1 s1 s2 s3 s4 s5 d5 bz bg mn HF
  unfold FtA at HCL
  have hmk := fun w => run_makeMap (P := Try.prog) 65 w
  go_enter Try.func39, Try.ntmps39
  go_wp2_with fail
  refine Calls.mono HCL.out ?_
  rintro e w6 ⟨rfl, hbs6, hk6⟩
  obtain ⟨ba, cap, sv, g1, g2, g3⟩ := hbs6.ex
  have G0 : w6.cell? ⟨w.heap.size + 1 + 1 + 1 + 1, 0, none⟩ = some (.map (some (w.heap.size + 1 + 1 + 1))) := g1.cell 0 (by simp)
  have G1 : w6.cell? ⟨w.heap.size + 1 + 1 + 1 + 1, 1, none⟩ = some (.slice ba R.1.length cap) := g1.cell 1 (by simp)
  have bz6 := HBZ.out.keep (hk6.block (w.heap.size + 1 + 1) (by omega) (by omega) (by omega))
  have Z0 : w6.cell? ⟨w.heap.size + 1 + 1, 0, none⟩ = some (.map none) := bz6.cell 0 (by simp)
  have Z1 : w6.cell? ⟨w.heap.size + 1 + 1, 1, none⟩ = some (.slice none 0 0) := bz6.cell 1 (by simp)
  have y0 : w6.frozen? ⟨w.heap.size + 1 + 1, 0, none⟩ = false := bz6.frozen 0
  have y1 : w6.frozen? ⟨w.heap.size + 1 + 1, 1, none⟩ = false := bz6.frozen 1
  have HMN := (show Hid (Mn w6 (w.heap.size + 1 + 1 + 1) 9 (bks R.1)) from hbs6.mn)
  have HFIN := (show Hid (Below w.heap.size w w6 ∧ w6.ownsRow (w.heap.size + 5) 62 5 (.slice ba R.1.length cap) R.1.length (bcs R.1 sv R.1.length) ∧ ∀ i (hi : i < R.1.length), Lies w6 (fun q => q < w.heap.size) R.1[i].2 (sv i)) from ⟨⟨hk6.os.trans HD5.out.os, hk6.tape.trans HD5.out.tape, hk6.output.trans HD5.out.output, Nat.le_trans HD5.out.size hk6.size, fun q hq => (hk6.block q (by omega) (by omega) (by omega)).trans (HD5.out.block q hq)⟩, g2, g3⟩)
  clear hbs6 hk6 g1 g2 g3 bz6 HBZ HD5 HBS HCL
  go_wp2_with fail
  refine bodyPost_ret (v := .tuple #[.agg #[.map (some (w.heap.size + 1 + 1 + 1)), .slice ba R.1.length cap], .bool R.2]) (by simp [results, Try.results39, go_sem, Z0, Z1]) rfl ⟨w.heap.size + 1 + 1 + 1, ba, cap, w.heap.size + 5, sv, rfl, ?_, ?_, fun i hi => ?_, ?_⟩
  · exact (HFIN.out.1.setCell (by simp; omega) _).setCell (by simp; omega) _
  · exact own_keep1 HFIN.out.2.1 (fun q hq => (blk_setCell_other _ _ _ _ (by have := (World.ownsRow.lt HFIN.out.2.1 q hq).1; show q ≠ w.heap.size + 1 + 1; omega)).trans (blk_setCell_other _ _ _ _ (by have := (World.ownsRow.lt HFIN.out.2.1 q hq).1; show q ≠ w.heap.size + 1 + 1; omega)))
  · exact (HFIN.out.2.2 i hi).keep (fun q hq => (blk_setCell_other _ _ _ _ (by show q ≠ w.heap.size + 1 + 1; omega)).trans (blk_setCell_other _ _ _ _ (by show q ≠ w.heap.size + 1 + 1; omega)))
  · exact HMN.out.keep ((blk_setCell_other _ _ _ _ (by show w.heap.size + 1 + 1 + 1 ≠ w.heap.size + 1 + 1; omega)).trans (blk_setCell_other _ _ _ _ (by show w.heap.size + 1 + 1 + 1 ≠ w.heap.size + 1 + 1; omega)))
end Go.Proofs.Yteomgkcgjkbppaa
