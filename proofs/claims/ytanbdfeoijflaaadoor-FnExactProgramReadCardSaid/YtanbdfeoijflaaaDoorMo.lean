import Derived.Test.YtanbdfeoijflaaaDoorMm
/-! Reading a program: instructions that are gathered. -/
namespace Go.Proofs.YtanbdfeoijflaaaDoor
open Go.RowKit Go.Deep
set_option linter.unusedVariables false
set_option maxRecDepth 100000
set_option linter.unusedSimpArgs false

theorem info38x : (Tryd.prog.info? 38).map (fun i => (i.zero, i.size, i.bytes)) = some (some (.agg #[.int .i64 0, .int .i64 0, .int .i64 0]), 3, 24) := by kernel_rfl
/-- Instructions, as they lie. -/
def xv (l : List DIns) : List Value := l.flatMap fun x => [.int .i64 x.op, .int .i64 x.n, .int .i64 x.to_]
theorem xv_len (l : List DIns) : (xv l).length = l.length * 3 := by
  unfold xv
  induction l with
  | nil => rfl
  | cons x l ih => simp only [List.flatMap_cons, List.length_append, List.length_cons, List.length_nil, ih]; omega
theorem xv_append (a b : List DIns) : xv (a ++ b) = xv a ++ xv b := by simp [xv]
theorem xv_get {l : List DIns} {i : Nat} (hi : i < l.length) (k : Nat) (hk : k < 3) : (xv l)[i * 3 + k]? = [Value.int .i64 l[i].op, .int .i64 l[i].n, .int .i64 l[i].to_][k]? := by
  have hl : (l.take i).length = i := by simp; omega
  have e : xv l = xv (l.take i) ++ ([Value.int .i64 l[i].op, .int .i64 l[i].n, .int .i64 l[i].to_] ++ xv (l.drop (i + 1))) := by
    have e1 : l.take i ++ (l[i] :: l.drop (i + 1)) = l := by rw [← List.drop_eq_getElem_cons hi, List.take_append_drop]
    have e2 : xv (l[i] :: l.drop (i + 1)) = [Value.int .i64 l[i].op, .int .i64 l[i].n, .int .i64 l[i].to_] ++ xv (l.drop (i + 1)) := rfl
    rw [← e2, ← xv_append, e1]
  rw [e, List.getElem?_append_right (by rw [xv_len, hl]; omega), xv_len, hl, Nat.add_sub_cancel_left, List.getElem?_append_left (by simpa using hk)]
structure XA (B : Nat) (w0 W : World) (v : Value) (l : List DIns) : Prop where
  own : W.ownsRow B 38 3 v l.length (xv l)
  bel : Below B w0 W
  bz : B ≤ W.heap.size
theorem XA.still {B : Nat} {w0 W W1 : World} {v : Value} {l : List DIns} (h : XA B w0 W v l) (hb : Below W.heap.size W W1) : XA B w0 W1 v l :=
  ⟨own_keep1 h.own (fun k e => hb.block k (World.ownsRow.lt h.own k e).2), h.bel.trans (hb.mono h.bz), by have := hb.size; have := h.bz; omega⟩
theorem own_insR {W : World} {B : Nat} {v : Value} {l : List DIns} (h : W.ownsRow B 38 3 v l.length (xv l)) : InsR W (fun b => B ≤ b) l v := by
  rcases h.2 with ⟨rfl, h0⟩ | ⟨g, cap, cur, rfl, hB, hg, hc, hcm, hs, ht⟩
  · exact ⟨none, 0, 0, 0, by rw [h0], by omega, by unfold maxLen; omega, fun h => by omega, fun i hi => by omega⟩
  · refine ⟨_, cap, g, 0, rfl, hc, hcm, fun _ => ⟨rfl, hB⟩, fun i hi => ?_⟩
    have hx := xv_get hi
    rw [← ht] at hx
    have hcl : ∀ k, k < 3 → W.cell? ⟨g, 0 + i * 3 + k, none⟩ = [Value.int .i64 l[i].op, .int .i64 l[i].n, .int .i64 l[i].to_][k]? := fun k hk => by
      rw [cell_of_row W g _ cur 38 (0, 0) hg, ← hx k hk, List.getElem?_take_of_lt (by omega)]
      simp
    exact ⟨hcl 0 (by omega), hcl 1 (by omega), hcl 2 (by omega)⟩
theorem XA.add0 {B : Nat} {w0 W : World} {v : Value} {l : List DIns} (h : XA B w0 W v l) (x : DIns) (hl : l.length ≤ 1000000) :
    ∃ a c w', (Builtin.append_ #[26, 26] 26 #[v, .slice (some ⟨W.heap.size, 0, none⟩) 1 1]).run Tryd.prog (W.alloc (.cells #[.int .i64 x.op, .int .i64 x.n, .int .i64 x.to_] 38)) = .ok (.slice a (l.length + 1) c) w' ∧ XA B w0 w' (.slice a (l.length + 1) c) (l ++ [x]) := by
  obtain ⟨i5, hi5, hzz⟩ := Option.map_eq_some_iff.1 info38x
  simp only [Prod.mk.injEq] at hzz
  obtain ⟨hz0, hz1, hz2⟩ := hzz
  have hba := bel_alloc W (.cells #[.int .i64 x.op, .int .i64 x.n, .int .i64 x.to_] 38)
  have hown := own_keep1 h.own (fun k e => hba.block k (World.ownsRow.lt h.own k e).2)
  have hl0 := World.ownsRow.lt h.own
  have hnews : ∀ j y, [Value.int .i64 x.op, .int .i64 x.n, .int .i64 x.to_][j]? = some y → (W.alloc (.cells #[.int .i64 x.op, .int .i64 x.n, .int .i64 x.to_] 38)).cell? ((⟨W.heap.size, 0, none⟩ : Addr).add j) = some y := fun j y hj => by
    match j, hj with
    | 0, hj => simp at hj; subst hj; simp [go_sem, Addr.add]
    | 1, hj => simp at hj; subst hj; simp [go_sem, Addr.add]
    | 2, hj => simp at hj; subst hj; simp [go_sem, Addr.add]
    | j + 3, hj => simp at hj
  obtain ⟨v', w', hr, h2, h3, h4, h5⟩ := run_append_own_at (P := Tryd.prog) (W.alloc (.cells #[.int .i64 x.op, .int .i64 x.n, .int .i64 x.to_] 38)) B 26 26 38 i5 (.agg #[.int .i64 0, .int .i64 0, .int .i64 0]) 3 24 Tryd.underlying26 hi5 hz0 hz1 hz2 (by kernel_rfl) (by decide) v l.length (xv l) hown ⟨W.heap.size, 0, none⟩ 1 1 [.int .i64 x.op, .int .i64 x.n, .int .i64 x.to_] rfl hnews (fun y hy => by simp at hy; rcases hy with rfl | rfl | rfl <;> rfl) (by unfold maxLen; omega) (by omega) (by have := h.bz; simp; omega)
  obtain ⟨a, c, rfl⟩ := own_ne h2
  have hb1 : Below B w0 (W.alloc (.cells #[.int .i64 x.op, .int .i64 x.n, .int .i64 x.to_] 38)) := h.bel.trans (hba.mono h.bz)
  refine ⟨a, c, w', hr, ?_, hb1.grown h3 (by have := h.bz; simp; omega) (fun k hk => (hl0 k hk).1), by have h6 := h3.size; have := h.bz; simp at h6; omega⟩
  have e1 : (l ++ [x]).length = l.length + 1 := by simp
  have e2 : xv (l ++ [x]) = xv l ++ [.int .i64 x.op, .int .i64 x.n, .int .i64 x.to_] := by rw [xv_append]; rfl
  rw [e1, e2]
  exact h2
theorem XA.add {B : Nat} {w0 W : World} {v : Value} {l : List DIns} (h : XA B w0 W v l) (x : DIns) (N M : Nat) (hl : l.length ≤ 1000000) (hN : W.heap.size = N) (hM : l.length + 1 = M) :
    ∃ a c w', (Builtin.append_ #[26, 26] 26 #[v, .slice (some ⟨N, 0, none⟩) 1 1]).run Tryd.prog (W.alloc (.cells #[.int .i64 x.op, .int .i64 x.n, .int .i64 x.to_] 38)) = .ok (.slice a M c) w' ∧ XA B w0 w' (.slice a M c) (l ++ [x]) := by
  subst hN hM
  exact h.add0 x hl
/-- What ProgramRead leaves. -/
def PrA (R : List DIns × Int × Nat) (w : World) (e : Ending) (w' : World) : Prop :=
  ∃ v, e = .returned (.tuple #[v, .int .i64 R.2.1, .int .i64 (R.2.2 : Nat)]) ∧ Below w.heap.size w w' ∧ w'.ownsRow w.heap.size 38 3 v R.1.length (xv R.1)
/-- How long a text is. -/
def szS : Value → Nat
  | .string b => b.size
  | _ => 0
end Go.Proofs.YtanbdfeoijflaaaDoor
