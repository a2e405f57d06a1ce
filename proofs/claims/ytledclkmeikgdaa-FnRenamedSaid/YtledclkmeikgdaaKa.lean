import Derived.Test.YtledclkmeikgdaaHk
import Derived.Deep.Upon
/-! Rows that are handed in: none, or in a block of their own; appended, and cloned. -/
namespace Go.Proofs.Ytledclkmeikgdaa
open Go.RowKit Go.Deep
set_option linter.unusedVariables false
set_option maxRecDepth 100000
set_option linter.unusedSimpArgs false

def SrcR (w : World) (e z : Nat) (v : Value) (n : Nat) (xs : List Value) : Prop := (v = .slice none 0 0 ∧ n = 0 ∧ xs = []) ∨ ∃ b c, v = .slice (some ⟨b, 0, none⟩) n c ∧ Rw w e z b n c xs
theorem SrcR.still {w w' : World} {e z n : Nat} {v : Value} {xs : List Value} (h : SrcR w e z v n xs) (hb : Below w.heap.size w w') : SrcR w' e z v n xs := by
  rcases h with h | ⟨b, c, h1, h2⟩
  · exact .inl h
  · exact .inr ⟨b, c, h1, h2.keep (hb.block _ h2.lt)⟩
theorem SrcR.of_own {w : World} {B e z n : Nat} {v : Value} {xs : List Value} (h : w.ownsRow B e z v n xs) : SrcR w e z v n xs := by
  by_cases hv : v = .slice none 0 0
  · refine .inl ⟨hv, ?_⟩
    subst hv
    rcases h.2 with ⟨_, h0⟩ | ⟨g, cap, cur, e, _⟩
    · subst h0
      have := h.1
      simp at this
      exact ⟨rfl, this⟩
    · cases e
  · obtain ⟨g, cap, e, _, hr⟩ := Rw.of h hv
    exact .inr ⟨g, cap, e, hr⟩
theorem SrcR.form {w : World} {e z n : Nat} {v : Value} {xs : List Value} (h : SrcR w e z v n xs) : ∃ a c, v = .slice a n c := by
  rcases h with ⟨h, rfl, _⟩ | ⟨b, c, h1, h2⟩
  · exact ⟨_, _, h⟩
  · exact ⟨_, _, h1⟩
theorem SrcR.at {w : World} {e z n c : Nat} {a : Option Addr} {xs : List Value} (h : SrcR w e z (.slice a n c) n xs) (hn : 0 < n) : ∃ b, a = some ⟨b, 0, none⟩ ∧ Rw w e z b n c xs := by
  rcases h with ⟨_, h0, _⟩ | ⟨b, c', h1, h2⟩
  · omega
  · cases h1; exact ⟨b, rfl, h2⟩
/-- .. appended. -/
theorem step_appG {P : Program} (w : World) {ops : Array Oper} {o : Oper} {a : Act} {K : Act → World → Prop} {Q : Exit → Act → World → Prop} {E : Prop} (hgd : o.guard = none) (s x : Operand) (t : TypeId)
    (ho : o.op = .call { callee := .builtin .append, args := #[s, x], argTypes := #[t, t] })
    (base : Nat) (e : TypeId) (i : TypeInfo) (z : Value) (size bytes : Nat) (ht : P.underlying t = some (.slice e)) (hi : P.info? e = some i) (hz : i.zero = some z)
    (hsize : i.size = size) (hby : i.bytes = bytes) (hzs : z.cells.size = size) (hsz : 0 < size)
    (v : Value) (n : Nat) (xs : List Value) (hs : a.eval s = v) (hown : w.ownsRow base e size v n xs)
    (vx : Value) (m : Nat) (news : List Value) (hx : a.eval x = vx) (hsrc : SrcR w e size vx m news) (h1 : ∀ u ∈ news, u.oneCell' = true)
    (h63 : n + m ≤ maxLen) (hbytes : (n + m) * bytes ≤ 140737488355328) (hbase : base ≤ w.heap.size)
    (h : ∀ v' w', w'.ownsRow base e size v' (n + m) (xs ++ news) → w.grownBy w' v.ownBlock → (v' = .slice none 0 0 ↔ v = .slice none 0 0 ∧ m = 0) → (v'.ownBlock = v.ownBlock ∨ v'.ownBlock = some w.heap.size) → K (a.put o.dst v') w') :
    if Region.wanted o (yielded ops a.tmps) = true then Oper.wp P o a w K Q else E := by
  have hw : Region.wanted o (yielded ops a.tmps) = true := by simp [Region.wanted, hgd]
  rw [if_pos hw]
  rcases hsrc with ⟨rfl, rfl, rfl⟩ | ⟨b, c, rfl, hr0⟩
  · obtain ⟨va, vc, ev, hvc⟩ : ∃ va vc, v = .slice va n vc ∧ n ≤ vc := by
      rcases hown.2 with ⟨rfl, h0⟩ | ⟨g, cap, cur, rfl, _, _, h4, _⟩
      · exact ⟨none, 0, by rw [h0], by omega⟩
      · exact ⟨_, _, rfl, h4⟩
    have hsr : Src P i.size t (.slice none 0 0) 0 [] w := ⟨.inl ⟨e, ht⟩, fun w' => by simp [Builtin.lenOf], by simp [Builtin.firstCells], by simp [Builtin.firstCells], by simp, fun u hu => by cases hu⟩
    have hr := run_append_nothing (P := P) w t t o.type e i ht hi va n vc hvc (.slice none 0 0) hsr
    rw [← ev] at hr
    unfold Oper.wp execOp
    simp only [ho, resolve, invoke, builtin, Sem.run_bind, Sem.run_pure, Result.andThen_ok, List.map_toArray, List.map_cons, List.map_nil, hs, hx, hr]
    exact h v w (by rw [Nat.add_zero, List.append_nil]; exact hown) ⟨rfl, rfl, rfl, Nat.le_refl _, fun _ _ _ => rfl⟩ ⟨fun h => ⟨h, rfl⟩, fun h => h.1⟩ (.inl rfl)
  · obtain ⟨v', w', hr, h2, h3, h4, h5⟩ := run_append_own_at (P := P) w base t o.type e i z size bytes ht hi hz hsize hby hzs hsz v n xs hown ⟨b, 0, none⟩ m c news hr0.len hr0.news h1 h63 hbytes hbase
    unfold Oper.wp execOp
    simp only [ho, resolve, invoke, builtin, Sem.run_bind, Sem.run_pure, Result.andThen_ok, List.map_toArray, List.map_cons, List.map_nil, hs, hx, hr]
    exact h v' w' h2 h3 h4 h5
theorem eqNN24 (w : World) : (binOp .eql 24 (.slice none 0 0) (.slice none 0 0)).run Try.prog w = .ok (.bool true) w := by
  have h : ∀ d : Nat, (Op.equalIn (d + 1) 24 (.slice none 0 0) (.slice none 0 0)).run Try.prog w = .ok true w := fun d => by
    simp [Op.equalIn, run_underlying Try.underlying24]
  simp only [binOp]
  simp [Op.equal, Op.maxDepth, h 9999]
theorem eqNN25 (w : World) : (binOp .eql 25 (.slice none 0 0) (.slice none 0 0)).run Try.prog w = .ok (.bool true) w := by
  have h : ∀ d : Nat, (Op.equalIn (d + 1) 25 (.slice none 0 0) (.slice none 0 0)).run Try.prog w = .ok true w := fun d => by
    simp [Op.equalIn, run_underlying Try.underlying25]
  simp only [binOp]
  simp [Op.equal, Op.maxDepth, h 9999]
theorem clone40n (w : World) : Calls Try.prog 40 #[.slice none 0 0] w fun e w' => e = .returned (.slice none 0 0) ∧ w' = w := by
  have hq := eqNN24 w
  go_enter Try.func40, Try.ntmps40
  go_wp2_with fail
  go_ret
  exact ⟨rfl, rfl⟩
theorem clone41n (w : World) : Calls Try.prog 41 #[.slice none 0 0] w fun e w' => e = .returned (.slice none 0 0) ∧ w' = w := by
  have hq := eqNN25 w
  go_enter Try.func41, Try.ntmps41
  go_wp2_with fail
  go_ret
  exact ⟨rfl, rfl⟩
theorem clone40 (n : Nat) (v : Value) (xs : List Value) (w : World) (h : SrcR w 74 3 v n xs) (hn : n ≤ 120) (h1 : ∀ u ∈ xs, u.oneCell' = true) :
    Calls Try.prog 40 #[v] w fun e w' => ∃ a c, e = .returned (.slice a n c) ∧ Below w.heap.size w w' ∧ w'.ownsRow w.heap.size 74 3 (.slice a n c) n xs := by
  rcases h with ⟨rfl, rfl, rfl⟩ | ⟨b, c, rfl, hr⟩
  · refine (clone40n w).mono ?_
    rintro e w' ⟨rfl, rfl⟩
    exact ⟨none, 0, rfl, Below.refl _ _, by simp, .inl ⟨rfl, rfl⟩⟩
  · refine (clone61 n b c xs w hr hn h1).mono ?_
    rintro e w' ⟨g, cap, rfl, hb, hg, hr'⟩
    exact ⟨_, _, rfl, hb, hr'.own hg⟩
theorem clone41 (n : Nat) (v : Value) (xs : List Value) (w : World) (h : SrcR w 33 2 v n xs) (hn : n ≤ 120) (h1 : ∀ u ∈ xs, u.oneCell' = true) :
    Calls Try.prog 41 #[v] w fun e w' => ∃ a c, e = .returned (.slice a n c) ∧ Below w.heap.size w w' ∧ w'.ownsRow w.heap.size 33 2 (.slice a n c) n xs := by
  rcases h with ⟨rfl, rfl, rfl⟩ | ⟨b, c, rfl, hr⟩
  · refine (clone41n w).mono ?_
    rintro e w' ⟨rfl, rfl⟩
    exact ⟨none, 0, rfl, Below.refl _ _, by simp, .inl ⟨rfl, rfl⟩⟩
  · refine (clone62 n b c xs w hr hn h1).mono ?_
    rintro e w' ⟨g, cap, rfl, hb, hg, hr'⟩
    exact ⟨_, _, rfl, hb, hr'.own hg⟩
end Go.Proofs.Ytledclkmeikgdaa
