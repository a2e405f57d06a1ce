import Derived.Test.YtaimlmjgicmbeaaDf
import Derived.Test.YtaimlmjgicmbeaaMk4
/-! The word of a derivation: plain mathematics; rows of numbers that are answered. -/
namespace Go.Proofs.Ytaimlmjgicmbeaa
open Go.RowKit Go.Deep
set_option linter.unusedVariables false
set_option maxRecDepth 100000
set_option linter.unusedSimpArgs false

/-- The word of symbols, from a place on. -/
def wdk (T : Nat) (r : Int → Nat → Option Nat) (g : Nat → List Int) : List Int → Nat → List Int
  | [], _ => []
  | s :: ss, a => if s < (T : Int) then s :: wdk T r g ss a else g a ++ wdk T r g ss ((r s a).getD 0)
/-- The word of the derivation at a place. -/
def wd (d : Bn) (L : List Int) : Nat → Nat → List Int
  | 0, _ => []
  | f + 1, a => wdk d.terms.length (rd d L f) (wd d L f) (pa d L a).right (a + 1)
/-- .. of the first i symbols. -/
def wp (d : Bn) (L : List Int) (f a i : Nat) : List Int := wdk d.terms.length (rd d L f) (wd d L f) ((pa d L a).right.take i) (a + 1)
theorem wdk_append (T : Nat) (r : Int → Nat → Option Nat) (g : Nat → List Int) (xs ys : List Int) : ∀ (a b : Nat), rdk T r xs a = some b → wdk T r g (xs ++ ys) a = wdk T r g xs a ++ wdk T r g ys b := by
  induction xs with
  | nil =>
    intro a b h
    simp only [rdk, Option.some.injEq] at h
    subst h
    rfl
  | cons s xs ih =>
    intro a b h
    simp only [rdk] at h
    simp only [List.cons_append, wdk]
    split at h
    · rename_i hs
      rw [if_pos hs, if_pos hs, ih a b h, List.cons_append]
    · rename_i hs
      rw [if_neg hs, if_neg hs]
      cases e : r s a with
      | none => rw [e] at h; cases h
      | some c =>
        rw [e] at h
        simp only [Option.getD_some]
        rw [ih c b h, List.append_assoc]
theorem wp_zero (d : Bn) (L : List Int) (f a : Nat) : wp d L f a 0 = [] := rfl
theorem wp_succ {d : Bn} {L : List Int} {f a i x : Nat} (hi : i < (pa d L a).right.length) (hx : atP d L f a i = some x) : wp d L f a (i + 1) = wp d L f a i ++ (if (pa d L a).right[i] < (d.terms.length : Int) then [(pa d L a).right[i]] else wd d L f x) := by
  unfold wp
  rw [List.take_succ_eq_append_getElem hi, wdk_append _ _ _ _ _ _ x hx]
  congr 1
  simp only [wdk]
  split <;> simp
theorem wp_all (d : Bn) (L : List Int) (f a : Nat) : wp d L f a (pa d L a).right.length = wd d L (f + 1) a := by
  unfold wp
  rw [List.take_length]
  rfl
theorem wp_le {d : Bn} {L : List Int} {f a i x : Nat} (hx : atP d L f a i = some x) : (wp d L f a i).length ≤ (wd d L (f + 1) a).length := by
  have h := wdk_append d.terms.length (rd d L f) (wd d L f) ((pa d L a).right.take i) ((pa d L a).right.drop i) (a + 1) x hx
  rw [List.take_append_drop] at h
  show _ ≤ (wdk d.terms.length (rd d L f) (wd d L f) (pa d L a).right (a + 1)).length
  rw [h, List.length_append]
  unfold wp
  omega
theorem wdk_len {T : Nat} {r : Int → Nat → Option Nat} {g : Nat → List Int} (hr : ∀ s a b, r s a = some b → a < b ∧ (g a).length ≤ 12 * (b - a)) (ss : List Int) : ∀ (a b : Nat), rdk T r ss a = some b → a ≤ b ∧ (wdk T r g ss a).length ≤ ss.length + 12 * (b - a) := by
  induction ss with
  | nil =>
    intro a b h
    simp only [rdk, Option.some.injEq] at h
    subst h
    exact ⟨Nat.le_refl _, by simp [wdk]⟩
  | cons s ss ih =>
    intro a b h
    simp only [rdk] at h
    simp only [wdk]
    split at h
    · rename_i hs
      rw [if_pos hs]
      have h1 := ih a b h
      simp only [List.length_cons]
      omega
    · rename_i hs
      rw [if_neg hs]
      cases e : r s a with
      | none => rw [e] at h; cases h
      | some c =>
        rw [e] at h
        have h1 := ih c b h
        have h2 := hr s a c e
        simp only [Option.getD_some, List.length_append, List.length_cons]
        omega
theorem wd_len {d : Bn} {L : List Int} (hok : bnB d = true) : ∀ (f : Nat) (s : Int) (a b : Nat), rd d L f s a = some b → (wd d L f a).length ≤ 12 * (b - a) := by
  intro f
  induction f with
  | zero => intro s a b h; cases h
  | succ f ih =>
    intro s a b h
    have hgt := rd_gt d L _ _ _ _ h
    obtain ⟨ho, hend⟩ := rd_succ h
    obtain ⟨k, hk, _, hpa, _, _⟩ := okAt_prod ho
    obtain ⟨_, _, h12, _⟩ := pd_of hok hk
    rw [← hpa] at h12
    unfold atP at hend
    rw [List.take_length] at hend
    have h1 := wdk_len (T := d.terms.length) (g := wd d L f) (fun s a b e => ⟨(rd_gt d L f s a b e).1, ih s a b e⟩) (pa d L a).right (a + 1) b hend
    show (wdk d.terms.length (rd d L f) (wd d L f) (pa d L a).right (a + 1)).length ≤ _
    omega
/-- What Yield answers. -/
def yldR (d : Bn) (non : Int) (L : List Int) : List Int × Int :=
  if cdR d non L.length ≠ 0 then ([], cdR d non L.length)
  else if rd d L (L.length + 1) (d.terms.length + non) 0 = some L.length then (if 200 < (wd d L (L.length + 1) 0).length then ([], 3) else (wd d L (L.length + 1) 0, 0))
  else ([], 2)
theorem yldR_len (d : Bn) (non : Int) (L : List Int) : (yldR d non L).1.length ≤ 200 := by
  unfold yldR
  split
  · simp
  · split
    · split
      · simp
      · dsimp only; omega
    · simp
/-- Numbers as values. -/
abbrev iv (l : List Int) : List Value := l.map (Value.int .i64)
theorem OwnI.nil (w : World) (b : Nat) (a : Option Addr) (cap : Nat) (hc : cap ≤ maxLen) : OwnI w b [] (.slice a 0 cap) :=
  ⟨a, cap, fun _ => .bool false, rfl, Nat.zero_le _, hc, fun h => absurd h (Nat.not_lt_zero _), fun i hi => absurd hi (Nat.not_lt_zero _)⟩
theorem own_ints {w : World} {L : Nat} {v : Value} {l : List Int} (h : w.ownsRow L 3 1 v l.length (iv l)) : ∃ b, OwnI w b l v ∧ (0 < l.length → L ≤ b ∧ v.ownBlock = some b) := by
  rcases h.2 with ⟨rfl, h0⟩ | ⟨g, cap, cur, rfl, hB, hg, hnc, hcm, hcs, htk⟩
  · obtain rfl : l = [] := List.eq_nil_of_length_eq_zero h0
    exact ⟨0, OwnI.nil _ _ _ _ (Nat.zero_le _), fun h => absurd h (Nat.not_lt_zero _)⟩
  · refine ⟨g, ⟨_, cap, fun i => (cur[i]?).getD .nilFunc, rfl, hnc, hcm, fun _ => ⟨rfl, cur, hg, by omega, fun i hi => ?_⟩, fun i hi => ?_⟩, fun _ => ⟨hB, rfl⟩⟩
    · have e : cur[i]? = some cur[i] := Array.getElem?_eq_getElem (by omega)
      simp only [e, Option.getD_some]
    · have e := congrArg (·[i]?) htk
      simp only [Nat.mul_one, List.getElem?_take, if_pos hi, List.getElem?_map, List.getElem?_eq_getElem hi, Option.map_some] at e
      have e2 : cur[i]? = some (.int .i64 l[i]) := by simpa using e
      simp only [e2, Option.getD_some]
theorem OwnI.any {w : World} {b : Nat} {l : List Int} {v : Value} (h : OwnI w b l v) (h0 : ¬ 0 < l.length) (c : Nat) : OwnI w c l v := by
  obtain ⟨a, cap, f, hv, hc, hm, ha, hf⟩ := h
  exact ⟨a, cap, f, hv, hc, hm, fun h => absurd h h0, hf⟩
theorem OwnI.lt {w : World} {b : Nat} {l : List Int} {v : Value} (h : OwnI w b l v) (h0 : 0 < l.length) : b < w.heap.size := by
  obtain ⟨a, cap, f, hv, hc, hm, ha, hf⟩ := h
  exact World.rowIs.lt (ha h0).2
/-- What a call leaves that answers numbers and a code. -/
def YAns (R : List Int × Int) (w : World) (e : Ending) (w' : World) : Prop :=
  ∃ v0 b0, e = .returned (.tuple #[v0, .int .i64 R.2]) ∧ Below w.heap.size w w' ∧ OwnI w' b0 R.1 v0 ∧ (0 < R.1.length → w.heap.size ≤ b0)
theorem YAns.nil {w0 w : World} {a : Option Addr} {C : Int} (hb : Below w0.heap.size w0 w) : YAns ([], C) w0 (.returned (.tuple #[.slice a 0 0, .int .i64 C])) w :=
  ⟨_, 0, rfl, hb, OwnI.nil _ _ _ _ (Nat.zero_le _), fun h => absurd h (Nat.not_lt_zero _)⟩
theorem YAns.of {w0 w : World} {B : Nat} {l : List Int} {u : Value} {C : Int} (h : w.ownsRow B 3 1 u l.length (iv l)) (hB : w0.heap.size ≤ B) (hb : Below w0.heap.size w0 w) : YAns (l, C) w0 (.returned (.tuple #[u, .int .i64 C])) w := by
  obtain ⟨b0, h0, k0⟩ := own_ints h
  exact ⟨u, b0, rfl, hb, h0, fun h2 => Nat.le_trans hB (k0 h2).1⟩
theorem YAns.high {R : List Int × Int} {w w' : World} {e : Ending} (h : YAns R w e w') :
    ∃ v0 b0, e = .returned (.tuple #[v0, .int .i64 R.2]) ∧ Below w.heap.size w w' ∧ OwnI w' b0 R.1 v0 ∧ w.heap.size ≤ b0 := by
  obtain ⟨v0, b0, he, hb, h0, k0⟩ := h
  by_cases c0 : 0 < R.1.length
  · exact ⟨v0, b0, he, hb, h0, k0 c0⟩
  · exact ⟨v0, w.heap.size, he, hb, h0.any c0 _, Nat.le_refl _⟩
theorem YAns.low {R : List Int × Int} {w w' : World} {e : Ending} (h : YAns R w e w') (c : Nat) (hc : c < w'.heap.size) :
    ∃ v0 b0, e = .returned (.tuple #[v0, .int .i64 R.2]) ∧ Below w.heap.size w w' ∧ OwnI w' b0 R.1 v0 ∧ b0 < w'.heap.size := by
  obtain ⟨v0, b0, he, hb, h0, k0⟩ := h
  by_cases c0 : 0 < R.1.length
  · exact ⟨v0, b0, he, hb, h0, h0.lt c0⟩
  · exact ⟨v0, c, he, hb, h0.any c0 _, hc⟩
/-- A row that is not nil grows at a step of a region that draws its order. -/
theorem step_append_g {P : Program} (w : World) {ops : Array Oper} {o : Oper} {a : Act} {K : Act → World → Prop} {Q : Exit → Act → World → Prop} {E : Prop} (hgd : o.guard = none) (s x : Operand) (t : TypeId)
    (ho : o.op = .call { callee := .builtin .append, args := #[s, x], argTypes := #[t, t] })
    (base : Nat) (e : TypeId) (i : TypeInfo) (z : Value) (size bytes : Nat) (ht : P.underlying t = some (.slice e)) (hi : P.info? e = some i) (hz : i.zero = some z)
    (hsize : i.size = size) (hby : i.bytes = bytes) (hzs : z.cells.size = size) (hsz : 0 < size)
    (g0 c0 : Nat) (n : Nat) (xs : List Value) (hs : a.eval s = .slice (some ⟨g0, 0, none⟩) n c0) (hown : w.ownsRow base e size (.slice (some ⟨g0, 0, none⟩) n c0) n xs)
    (ad : Addr) (m c : Nat) (news : List Value) (hx : a.eval x = .slice (some ad) m c) (hl : news.length = m * size) (hnews : ∀ j u, news[j]? = some u → w.cell? (ad.add j) = some u) (h1 : ∀ u ∈ news, u.oneCell' = true)
    (h63 : n + m ≤ maxLen) (hbytes : (n + m) * bytes ≤ 140737488355328) (hbase : base ≤ w.heap.size)
    (h : ∀ g cap' w', w'.ownsRow base e size (.slice (some ⟨g, 0, none⟩) (n + m) cap') (n + m) (xs ++ news) → w.grownBy w' (some g0) → (some g0 = some g ∨ g = w.heap.size) → K (a.put o.dst (.slice (some ⟨g, 0, none⟩) (n + m) cap')) w') :
    if Region.wanted o (yielded ops a.tmps) = true then Oper.wp P o a w K Q else E := by
  have hw : Region.wanted o (yielded ops a.tmps) = true := by simp [Region.wanted, hgd]
  rw [if_pos hw]
  obtain ⟨v', w', hr, h2, h3, h4, h5⟩ := run_append_own_at (P := P) w base t o.type e i z size bytes ht hi hz hsize hby hzs hsz _ n xs hown ad m c news hl hnews h1 h63 hbytes hbase
  have hob : (Value.slice (some ⟨g0, 0, none⟩) n c0).ownBlock = some g0 := rfl
  rw [hob] at h5 h3
  obtain ⟨g, cap', rfl⟩ : ∃ g cap', v' = .slice (some ⟨g, 0, none⟩) (n + m) cap' := by
    rcases h2.2 with ⟨rfl, _⟩ | ⟨g, cp, cur, r1, _⟩
    · rcases h5 with h5 | h5 <;> cases h5
    · exact ⟨g, cp, r1⟩
  unfold Oper.wp execOp
  simp only [ho, resolve, invoke, builtin, Sem.run_bind, Sem.run_pure, Result.andThen_ok, List.map_toArray, List.map_cons, List.map_nil, hs, hx, hr]
  refine h g cap' w' h2 h3 ?_
  rcases h5 with h5 | h5
  · exact .inl h5.symm
  · exact .inr (by simpa [Value.ownBlock] using h5)
end Go.Proofs.Ytaimlmjgicmbeaa
