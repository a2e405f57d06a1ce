import Derived.Test.YtpbpmhgoppbfnaaCg
import Derived.Test.YtpbpmhgoppbfnaaTw
/-! The program: every question is answered. -/
namespace Go.Proofs.Ytpbpmhgoppbfnaa
open Go.RowKit Go.Deep
set_option linter.unusedVariables false
set_option maxRecDepth 100000
set_option linter.unusedSimpArgs false

theorem drop_take {l : List Nat} {p y : Nat} {r : List Nat} (h : l.drop p = y :: r) : l = l.take p ++ y :: r ∧ l.take (p + 1) = l.take p ++ [y] ∧ p < l.length := by
  have hp : p < l.length := by
    apply Decidable.byContradiction
    intro hn
    rw [List.drop_eq_nil_of_le (by omega)] at h
    cases h
  have e1 := List.take_append_drop p l
  rw [h] at e1
  refine ⟨e1.symm, ?_, hp⟩
  have hg : l[p] = y := by
    have := List.drop_eq_getElem_cons hp
    rw [h] at this
    injection this with h1 h2
    exact h1.symm
  rw [List.take_succ_eq_append_getElem hp, hg]
theorem lof_zero {nt : Nat} {ps : List (Nat × List Nat)} {L : Nat → Int} (h : Snd nt ps L) {r : List Nat} (h1 : lof L r ≠ -1) (h2 : (lof L r).toNat = 0) : Lens nt ps r 0 := by
  unfold lof at h1 h2
  cases hs : lsum L r with
  | none => rw [hs] at h1; exact absurd rfl h1
  | some s =>
    rw [hs] at h2
    obtain ⟨h3, h4⟩ := lsum_sound h r s hs
    dsimp only at h2
    have : s.toNat = 0 := by omega
    rw [this] at h4
    exact h4
theorem ways_all {S : Nat → Prop} (c : Cx) (hc : CxOK S c) : ∀ (r x i j : Nat), x < c.d.terms.length + c.d.nons.length → i ≤ j → j ≤ c.W.length → rnk (c.d.terms.length + c.d.nons.length) c.h x i j < r → PS c x i j := by
  intro r
  induction r with
  | zero => intro x i j _ _ _ h; exact absurd h (Nat.not_lt_zero _)
  | succ r ih =>
    intro x i j hx hij hj hr
    refine sym50 c hc x i j hx hij hj (fun hxn k hk hkx => ?_)
    have hpa : (pAt (bps c.d) k).2 = nats c.d.prods[k].right := by rw [pAt_bps c.d hk]; rfl
    have hle : c.d.prods[k].left.toNat = x := by rw [pAt_bps c.d hk] at hkx; exact hkx
    have hlen : (nats c.d.prods[k].right).length = c.d.prods[k].right.length := by simp [nats]
    have key : ∀ (q p m : Nat), c.d.prods[k].right.length - p ≤ q → p ≤ c.d.prods[k].right.length → i ≤ m → m ≤ j → (m = i → Lens c.d.terms.length (bps c.d) ((pAt (bps c.d) k).2.take p) 0) → PR c k p m j := by
      intro q
      induction q with
      | zero =>
        intro p m hq hp him hmj hL
        have hnil : (pAt (bps c.d) k).2.drop p = [] := by rw [hpa]; exact List.drop_eq_nil_of_le (by omega)
        exact rest84 c hc k p m j hk hp hmj hj (fun y h => by rw [hnil] at h; cases h) (fun y r h => by rw [hnil] at h; cases h) (fun y r h => by rw [hnil] at h; cases h)
      | succ q ihq =>
        intro p m hq hp him hmj hL
        have hlt : ∀ y ∈ (pAt (bps c.d) k).2, y < c.d.terms.length + c.d.nons.length := by rw [hpa]; exact nats_lt hc.hok hk
        have hlow : ∀ y r' m', (pAt (bps c.d) k).2.drop p = y :: r' → m ≤ m' → m' ≤ j → (m' = j → Lens c.d.terms.length (bps c.d) r' 0) → PS c y m m' := by
          intro y r' m' hd h1 h2 h3
          obtain ⟨d1, d2, d3⟩ := drop_take hd
          have hy : y < c.d.terms.length + c.d.nons.length := hlt y (by rw [d1]; simp)
          have hlw := Spot.low (d := c.d) (M := c.d.terms.length + c.d.nons.length) hc.hh hc.hl (x := x) (y := y) (pre := (pAt (bps c.d) k).2.take p) (r := r') ⟨k, hk, hle, by rw [← hpa]; exact d1⟩ hy him h1 h2 hL h3
          exact ih y m m' hy h1 (by omega) (by omega)
        refine rest84 c hc k p m j hk hp hmj hj (fun y h => hlow y [] j h hmj (Nat.le_refl _) (fun _ => Lens.nil)) (fun y r' h s hs => ?_) (fun y r' h s hs hv => ?_)
        · obtain ⟨q1, q2, q3, q4⟩ := hs
          exact hlow y r' (m + s) h (by omega) (by omega) (fun e => lof_zero hc.snd q2 (by omega))
        · obtain ⟨q1, q2, q3, q4⟩ := hs
          obtain ⟨d1, d2, d3⟩ := drop_take h
          rw [hpa, hlen] at d3
          refine ihq (p + 1) (m + s) (by omega) (by omega) (by omega) (by omega) (fun e => ?_)
          rw [d2]
          have hs0 : s = 0 := by omega
          subst hs0
          refine Lens.cat0 (hL (by omega)) ?_
          have := (hc.cn.made _ _ _ hv).2 (by omega)
          rw [Nat.add_zero, Nat.sub_self] at this
          exact this
    exact key _ 0 i (Nat.le_refl _) (Nat.zero_le _) (Nat.le_refl _) hij (fun _ => by rw [List.take_zero]; exact Lens.nil)
end Go.Proofs.Ytpbpmhgoppbfnaa

/-! The specification: every question is answered. -/
namespace Go.Proofs.Ytpbpmhgoppbfnaa
open Go.RowKit Go.Deep
set_option linter.unusedVariables false
set_option maxRecDepth 100000
set_option linter.unusedSimpArgs false

theorem non_all {S : Nat → Prop} (s : Sx) (hs : SxOK S s) : ∀ (r k i j : Nat), k < s.d.nons.length → i ≤ j → j < s.n1 → rnk (s.d.terms.length + s.d.nons.length) s.h (s.d.terms.length + k) i j < r → PN s k i j := by
  intro r
  induction r with
  | zero => intro k i j _ _ _ h; exact absurd h (Nat.not_lt_zero _)
  | succ r ih =>
    intro k i j hk hij hj hr
    refine non47 s hs k i j hk (by omega) hj (fun p hp hpk => ?_)
    have hle : s.d.prods[p].left.toNat = s.d.terms.length + k := by rw [pAt_bps s.d hp] at hpk; exact hpk
    have hlt : ∀ y ∈ nats (s.rt p), y < s.d.terms.length + s.d.nons.length := by rw [rt_eq s hp]; exact nats_lt hs.hok hp
    have key : ∀ (q a m : Nat), (s.rt p).length - a ≤ q → a ≤ (s.rt p).length → i ≤ m → m ≤ j → (m = i → Lens s.d.terms.length (bps s.d) ((nats (s.rt p)).take a) 0) → PL s p a m j := by
      intro q
      induction q with
      | zero => intro a m hq ha him hmj hL; exact list79 s hs p a m j hp ha (by omega) hj (fun h => absurd h (by omega))
      | succ q ihq =>
        intro a m hq ha him hmj hL
        refine list79 s hs p a m j hp ha (by omega) hj (fun hal => ?_)
        have hd := nats_drop (s.rt p) a hal
        obtain ⟨d1, d2, d3⟩ := drop_take hd
        refine ways95 s hs p a m j hp hal hmj hj (fun hmj2 => ihq (a + 1) (m + 1) (by omega) (by omega) (by omega) (by omega) (fun e => absurd e (by omega))) (fun m' h1 h2 h3 h4 => ?_) (fun k' m' hk' h1 h2 h3 h4 => ?_)
        · refine ihq (a + 1) m' (by omega) (by omega) (by omega) h2 (fun e => ?_)
          rw [d2]
          exact Lens.cat0 (hL (by omega)) ((hs.nsd.zero hs.qu _).1 (h3 (by omega)))
        · have hy : (s.rt p)[a].toNat = s.d.terms.length + k' := by omega
          have hy2 : s.d.terms.length + k' < s.d.terms.length + s.d.nons.length := by rw [← hy]; exact hlt _ (by rw [d1]; simp)
          rw [hy] at d1
          have hlw := Spot.low (d := s.d) (M := s.d.terms.length + s.d.nons.length) hs.hh hs.hl (x := s.d.terms.length + k) (y := s.d.terms.length + k') (pre := (nats (s.rt p)).take a) (r := (nats (s.rt p)).drop (a + 1)) ⟨p, hp, hle, by rw [← rt_eq s hp]; exact d1⟩ hy2 him h1 h2 hL (fun e => nall_lens hs.nsd _ (h4 e))
          exact ih k' m m' (by omega) h1 (by omega) (by omega)
    exact key _ 0 i (Nat.le_refl _) (Nat.zero_le _) (Nat.le_refl _) hij (fun _ => by rw [List.take_zero]; exact Lens.nil)
end Go.Proofs.Ytpbpmhgoppbfnaa
