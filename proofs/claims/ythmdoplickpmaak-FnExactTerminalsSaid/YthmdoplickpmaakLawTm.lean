import Derived.Test.YthmdoplickpmaakTim
/-! The law FnExactTerminals, walked. -/
namespace Go.Proofs.Ythmdoplickpmaak
open Go.RowKit Go.Deep
set_option linter.unusedVariables false
set_option maxRecDepth 100000
set_option linter.unusedSimpArgs false

theorem OwnI.any {w : World} {b : Nat} {l : List Int} {v : Value} (h : OwnI w b l v) (h0 : ¬ 0 < l.length) (c : Nat) : OwnI w c l v := by
  obtain ⟨a, cap, f, hv, hc, hm, ha, hf⟩ := h
  exact ⟨a, cap, f, hv, hc, hm, fun h => absurd h h0, hf⟩
theorem OwnI.lt {w : World} {b : Nat} {l : List Int} {v : Value} (h : OwnI w b l v) (h0 : 0 < l.length) : b < w.heap.size := by
  obtain ⟨a, cap, f, hv, hc, hm, ha, hf⟩ := h
  exact World.rowIs.lt (ha h0).2
/-- .. the rows in blocks from the call on. -/
theorem TmAns.high {R : List Int × List Int × Int} {w w' : World} {e : Ending} (h : TmAns R w e w') :
    ∃ v0 v1 b0 b1, e = .returned (.tuple #[v0, v1, .int .i64 R.2.2]) ∧ Below w.heap.size w w' ∧ OwnI w' b0 R.1 v0 ∧ OwnI w' b1 R.2.1 v1 ∧ w.heap.size ≤ b0 ∧ w.heap.size ≤ b1 ∧ b0 ≠ b1 := by
  obtain ⟨v0, v1, b0, b1, he, hb, h0, h1, k0, k1, kn⟩ := h
  by_cases c0 : 0 < R.1.length
  · by_cases c1 : 0 < R.2.1.length
    · exact ⟨v0, v1, b0, b1, he, hb, h0, h1, k0 c0, k1 c1, kn c0 c1⟩
    · exact ⟨v0, v1, b0, b0 + 1, he, hb, h0, h1.any c1 _, k0 c0, by have := k0 c0; omega, by omega⟩
  · by_cases c1 : 0 < R.2.1.length
    · exact ⟨v0, v1, b1 + 1, b1, he, hb, h0.any c0 _, h1, by have := k1 c1; omega, k1 c1, by omega⟩
    · exact ⟨v0, v1, w.heap.size, w.heap.size + 1, he, hb, h0.any c0 _, h1.any c1 _, by omega, by omega, by omega⟩
/-- .. in blocks that are there. -/
theorem TmAns.low {R : List Int × List Int × Int} {w w' : World} {e : Ending} (h : TmAns R w e w') (c : Nat) (hc : c < w'.heap.size) :
    ∃ v0 v1 b0 b1, e = .returned (.tuple #[v0, v1, .int .i64 R.2.2]) ∧ Below w.heap.size w w' ∧ OwnI w' b0 R.1 v0 ∧ OwnI w' b1 R.2.1 v1 ∧ b0 < w'.heap.size ∧ b1 < w'.heap.size := by
  obtain ⟨v0, v1, b0, b1, he, hb, h0, h1, k0, k1, kn⟩ := h
  by_cases c0 : 0 < R.1.length
  · by_cases c1 : 0 < R.2.1.length
    · exact ⟨v0, v1, b0, b1, he, hb, h0, h1, h0.lt c0, h1.lt c1⟩
    · exact ⟨v0, v1, b0, c, he, hb, h0, h1.any c1 _, h0.lt c0, hc⟩
  · by_cases c1 : 0 < R.2.1.length
    · exact ⟨v0, v1, c, b1, he, hb, h0.any c0 _, h1, hc, h1.lt c1⟩
    · exact ⟨v0, v1, c, c, he, hb, h0.any c0 _, h1.any c1 _, hc, hc⟩
/-- The rows of what is answered are short. -/
theorem tmGo_len {nm : List ByteArray} : ∀ (l : List Wd) (p : Nat) (ts ps : List Int), (tmGo nm l p ts ps).1.length ≤ ts.length + l.length ∧ (tmGo nm l p ts ps).2.1.length ≤ ps.length + l.length := by
  intro l
  induction l with
  | nil => intro p ts ps; simp [tmGo]
  | cons x r ih =>
    intro p ts ps
    unfold tmGo
    split
    · have := ih (p + 1) ts ps
      simp only [List.length_cons]
      omega
    · split
      · simp
      · next i _ =>
        have := ih (p + 1) (ts ++ [(i : Int)]) (ps ++ [(p : Int)])
        simp only [List.length_cons, List.length_append, List.length_nil] at this ⊢
        omega
theorem tmR_len (d : Bn) (l : List Wd) : (tmR d l).1.length ≤ 1000 ∧ (tmR d l).2.1.length ≤ 1000 := by
  unfold tmR
  split
  · next h =>
    have := tmGo_len (nm := nms d) l 0 [] []
    simp only [List.length_nil] at this
    omega
  · simp
/-- What lies there ahead of the marks. -/
structure LSt (w : World) (d : Bn) (l : List Wd) (R1 R2 : List Int) (A X lo hi bx b0 b1 c0 c1 : Nat) (va0 va1 va3 vx0 vx1 vx3 p0 p1 g0 g1 : Value) (Z : World) : Prop where
  fa : Four Z A va0 va1 (.int .i64 d.own) va3
  fx : Four Z X vx0 vx1 (.int .i64 d.own) vx3
  x0 : BOwn Z (fun b => lo ≤ b ∧ b < hi) d vx0 vx1 vx3
  x1 : WdsR Z bx l
  p0 : OwnI Z b0 R1 p0
  p1 : OwnI Z b1 R2 p1
  g0 : OwnI Z c0 R1 g0
  g1 : OwnI Z c1 R2 g1
  bel : Below w.heap.size w Z
theorem LSt.still {w : World} {d : Bn} {l : List Wd} {R1 R2 : List Int} {A X lo hi bx b0 b1 c0 c1 : Nat} {va0 va1 va3 vx0 vx1 vx3 p0 p1 g0 g1 : Value} {Z Z' : World} (h : LSt w d l R1 R2 A X lo hi bx b0 b1 c0 c1 va0 va1 va3 vx0 vx1 vx3 p0 p1 g0 g1 Z) (hb : Below Z.heap.size Z Z') : LSt w d l R1 R2 A X lo hi bx b0 b1 c0 c1 va0 va1 va3 vx0 vx1 vx3 p0 p1 g0 g1 Z' :=
  ⟨h.fa.still hb, h.fx.still hb, h.x0.still hb, h.x1.still hb, h.p0.still hb, h.p1.still hb, h.g0.still hb, h.g1.still hb, bel_trans h.bel hb⟩
theorem out_below {w Z Z' : World} {lo hi B : Nat} (h : Below B w Z) (ho : Out lo hi Z Z') (hB : B ≤ lo) (hz : B ≤ Z.heap.size) : Below B w Z' :=
  ⟨ho.1.trans h.os, ho.2.1.trans h.tape, ho.2.2.1.trans h.output, Nat.le_trans h.size ho.2.2.2.1, fun k hk => (ho.2.2.2.2 k (by omega) (by omega)).trans (h.block k hk)⟩
end Go.Proofs.Ythmdoplickpmaak
