import Derived.Test.YtboffildchoelaaBxs
import Derived.Deep.AppendLies
import Derived.Maps.AppendAt
/-! A row of numbers, and one more behind it. -/
namespace Go.Proofs.Ytboffildchoelaa
open Go.RowKit Go.Deep Go.Lib
set_option linter.unusedVariables false
set_option maxRecDepth 100000
set_option linter.unusedSimpArgs false

theorem own_some {w : World} {B t k n : Nat} {v : Value} {cs : List Value} (h : w.ownsRow B t k v n cs) (hn : v ≠ .slice none 0 0) : ∃ g cap, v = .slice (some ⟨g, 0, none⟩) n cap := by
  rcases h.2 with ⟨rfl, h0⟩ | ⟨g, cap, cur, rfl, _⟩
  · exact absurd rfl hn
  · exact ⟨g, cap, rfl⟩
/-- What one more behind a row leaves: it lies where the row lay, and who owns it owns the row; or it is new, and all that was is as it was. -/
def OneMore (B : Nat) (v v' : Value) (n : Nat) (xs : List Value) (u : Value) (w w' : World) : Prop :=
  w'.ownsRow B 3 1 v' (n + 1) (xs ++ [u]) ∧ (∃ g c, v' = .slice (some ⟨g, 0, none⟩) (n + 1) c) ∧ w.grownBy w' v.ownBlock ∧
    ((v'.ownBlock = v.ownBlock ∧ ∀ w'' : World, w''.ownsRow B 3 1 v' (n + 1) (xs ++ [u]) → w''.ownsRow B 3 1 v n xs) ∨ (v'.ownBlock = some w.heap.size ∧ w.grownBy w' none))
theorem own_shorter {w : World} {B g n cap : Nat} {xs : List Value} {u : Value} (hx : xs.length = n) (h : w.ownsRow B 3 1 (.slice (some ⟨g, 0, none⟩) (n + 1) cap) (n + 1) (xs ++ [u])) : w.ownsRow B 3 1 (.slice (some ⟨g, 0, none⟩) n cap) n xs := by
  refine ⟨by omega, ?_⟩
  rcases h.2 with ⟨e, _⟩ | ⟨g', cap', cur, e, r2, r3, r4, r5, r6, r7⟩
  · cases e
  · injection e with e1 _ e3
    injection e1 with e1
    injection e1 with e1
    subst e1 e3
    refine .inr ⟨g, cap, cur, rfl, r2, r3, by omega, r5, r6, ?_⟩
    have := congrArg (List.take (n * 1)) r7
    rw [List.take_take, Nat.min_eq_left (by omega)] at this
    rw [this]
    simp [← hx]
theorem append_one {P : Program} (w : World) (B : Nat) (t ty : TypeId) (i : TypeInfo) (z : Value) (bytes : Nat) (ht : P.underlying t = some (.slice 3)) (hi : P.info? 3 = some i) (hz : i.zero = some z) (hsize : i.size = 1) (hby : i.bytes = bytes) (hzs : z.cells.size = 1)
    (v : Value) (n : Nat) (xs : List Value) (hown : w.ownsRow B 3 1 v n xs) (ad : Addr) (c : Nat) (u : Value) (hu : w.cell? ad = some u) (h1 : u.oneCell' = true) (h63 : n + 1 ≤ maxLen) (hbytes : (n + 1) * bytes ≤ 140737488355328) (hbase : B ≤ w.heap.size) :
    ∃ v' w', (Builtin.append_ #[t, t] ty #[v, .slice (some ad) 1 c]).run P w = .ok v' w' ∧ OneMore B v v' n xs u w w' := by
  have hnews : ∀ j y, [u][j]? = some y → w.cell? (ad.add j) = some y := fun j y hj => by
    cases j with
    | zero =>
      simp at hj
      subst hj
      have : ad.add 0 = ad := by unfold Addr.add; split <;> simp_all
      rw [this]
      exact hu
    | succ j => simp at hj
  have hone : ∀ y ∈ [u], y.oneCell' = true := fun y hy => by simp at hy; subst hy; exact h1
  obtain ⟨v', w', hr, h2, h3, h4, h5⟩ := run_append_own_at (P := P) w B t ty 3 i z 1 bytes ht hi hz hsize hby hzs (by decide) v n xs hown ad 1 c [u] rfl hnews hone h63 hbytes hbase
  obtain ⟨g', c', rfl⟩ := own_some h2 (fun e => by have := (h4.1 e).2; cases this)
  rcases hown.2 with ⟨rfl, rfl⟩ | ⟨g, cap, cur, rfl, hbg, hg, hnc, hcm, hcs, htake⟩
  · refine ⟨_, _, hr, h2, ⟨_, _, rfl⟩, h3, .inr ⟨?_, h3⟩⟩
    rcases h5 with e | e
    · cases e
    · exact e
  · by_cases hroom : n + 1 ≤ cap
    · obtain ⟨w2, hr2, h6, h7⟩ := run_append_fits (P := P) w B t ty 3 i 1 ht hi hsize g n cap xs hown ad 1 c [u] rfl hnews hone hroom
      refine ⟨_, _, hr2, h6, ⟨_, _, rfl⟩, h7, .inl ⟨rfl, fun w'' hw => own_shorter (by have := hown.1; omega) hw⟩⟩
    · have holds : ∀ j y, xs[j]? = some y → w.cell? ((⟨g, 0, none⟩ : Addr).add j) = some y := hown.cells (g := g) rfl
      have hr3 := run_append_grow (P := P) w t ty 3 i z ht hi hz ⟨g, 0, none⟩ n cap xs (by rw [hsize]; exact hown.1) holds ad 1 c [u] (by rw [hsize]; rfl) hnews (by omega) (by unfold maxLen at h63; omega) (growslice_fits (by omega) (by rw [hby]; exact hbytes))
      rw [hr3] at hr
      injection hr with e1 e2
      have hgn : w.grownBy w' none := by
        rw [← e2]
        exact ⟨rfl, rfl, rfl, by simp, fun k hk _ => (bel_alloc w.drew _).block k hk⟩
      refine ⟨_, _, hr3.trans (by rw [e1, e2]), h2, ⟨_, _, rfl⟩, h3, .inr ⟨?_, hgn⟩⟩
      rw [← e1]
      rfl
theorem step_append_one {P : Program} (w : World) {ops : Array Oper} {o : Oper} {a : Act} {K : Act → World → Prop} {Q : Exit → Act → World → Prop} {E : Prop} (hgd : o.guard = none) (s x : Operand) (t : TypeId)
    (ho : o.op = .call { callee := .builtin .append, args := #[s, x], argTypes := #[t, t] })
    (B : Nat) (i : TypeInfo) (z : Value) (bytes : Nat) (ht : P.underlying t = some (.slice 3)) (hi : P.info? 3 = some i) (hz : i.zero = some z) (hsize : i.size = 1) (hby : i.bytes = bytes) (hzs : z.cells.size = 1)
    (v : Value) (n : Nat) (xs : List Value) (hs : a.eval s = v) (hown : w.ownsRow B 3 1 v n xs) (ad : Addr) (c : Nat) (u : Value) (hx : a.eval x = .slice (some ad) 1 c) (hu : w.cell? ad = some u) (h1 : u.oneCell' = true) (h63 : n + 1 ≤ maxLen) (hbytes : (n + 1) * bytes ≤ 140737488355328) (hbase : B ≤ w.heap.size)
    (h : ∀ v' w', OneMore B v v' n xs u w w' → K (a.put o.dst v') w') :
    if Region.wanted o (yielded ops a.tmps) = true then Oper.wp P o a w K Q else E := by
  have hw : Region.wanted o (yielded ops a.tmps) = true := by simp [Region.wanted, hgd]
  rw [if_pos hw]
  obtain ⟨v', w', hr, h2⟩ := append_one (P := P) w B t o.type i z bytes ht hi hz hsize hby hzs v n xs hown ad c u hu h1 h63 hbytes hbase
  unfold Oper.wp execOp
  simp only [ho, resolve, invoke, builtin, Sem.run_bind, Sem.run_pure, Result.andThen_ok, List.map_toArray, List.map_cons, List.map_nil, hs, hx, hr]
  exact h v' w' h2
end Go.Proofs.Ytboffildchoelaa
