import Derived.WalkKit
import Derived.Test.YtaimlmjgicmbeaaWp
/-! Derivations from above and from below: plain mathematics of pairs of lists. -/
namespace Go.Proofs.Ytaimlmjgicmbeaa
set_option linter.unusedVariables false

/-- Each with its own. -/
def All2 {α β : Type} (R : α → β → Prop) : List α → List β → Prop
  | [], [] => True
  | a :: xa, b :: bs => R a b ∧ All2 R xa bs
  | _, _ => False
theorem All2.len {α β : Type} {R : α → β → Prop} : ∀ {xa : List α} {bs : List β}, All2 R xa bs → xa.length = bs.length
  | [], [], _ => rfl
  | a :: xa, b :: bs, h => by simp [All2.len h.2]
  | [], _ :: _, h => h.elim
  | _ :: _, [], h => h.elim
theorem All2.map {α β γ : Type} {R : α → β → Prop} {Q : α → γ → Prop} {g : β → γ} (hg : ∀ a b, R a b → Q a (g b)) : ∀ {xa : List α} {bs : List β}, All2 R xa bs → All2 Q xa (bs.map g)
  | [], [], _ => trivial
  | a :: xa, b :: bs, h => ⟨hg _ _ h.1, All2.map hg h.2⟩
  | [], _ :: _, h => h.elim
  | _ :: _, [], h => h.elim
theorem All2.app {α β : Type} {R : α → β → Prop} {cs : List α} {ds : List β} (h2 : All2 R cs ds) : ∀ {xa : List α} {bs : List β}, All2 R xa bs → All2 R (xa ++ cs) (bs ++ ds)
  | [], [], _ => h2
  | a :: xa, b :: bs, h => ⟨h.1, All2.app h2 h.2⟩
  | [], _ :: _, h => h.elim
  | _ :: _, [], h => h.elim
theorem All2.rev {α β : Type} {R : α → β → Prop} : ∀ {xa : List α} {bs : List β}, All2 R xa bs → All2 R xa.reverse bs.reverse
  | [], [], _ => trivial
  | a :: xa, b :: bs, h => by rw [List.reverse_cons, List.reverse_cons]; exact All2.app (show All2 R [a] [b] from ⟨h.1, trivial⟩) (All2.rev h.2)
  | [], _ :: _, h => h.elim
  | _ :: _, [], h => h.elim
/-- One derivation, from above and from below: G tells a rule's Left and the Nons of its Right. -/
def Tw (G : Int → Option (Int × List Int)) : Nat → Int → List Int × List Int → Prop
  | 0, _, _ => False
  | f + 1, s, x => ∃ (p : Int) (ns : List Int) (ks : List (List Int × List Int)), G p = some (s, ns) ∧ All2 (Tw G f) ns ks ∧ x = (p :: (ks.map Prod.fst).flatten, (ks.map Prod.snd).flatten ++ [p])
/-- The rules turned round. -/
def mir (G : Int → Option (Int × List Int)) (p : Int) : Option (Int × List Int) := (G p).map fun x => (x.1, x.2.reverse)
theorem mir_mir (G : Int → Option (Int × List Int)) : mir (mir G) = G := by
  funext p
  unfold mir
  cases G p <;> simp
def swp (x : List Int × List Int) : List Int × List Int := (x.2.reverse, x.1.reverse)
theorem swp_swp (x : List Int × List Int) : swp (swp x) = x := by simp [swp]
/-- Turned round, the one is the other from its end. -/
theorem Tw.mir {G : Int → Option (Int × List Int)} : ∀ {f : Nat} {s : Int} {x : List Int × List Int}, Tw G f s x → Tw (mir G) f s (swp x)
  | 0, _, _, h => h.elim
  | f + 1, s, x, h => by
    obtain ⟨p, ns, ks, hp, hk, rfl⟩ := h
    refine ⟨p, ns.reverse, (ks.map swp).reverse, by simp [Ytaimlmjgicmbeaa.mir, hp], (hk.map (fun a b h => Tw.mir h)).rev, ?_⟩
    simp [swp, List.map_reverse, Function.comp_def, List.reverse_flatten]
/-- Read from above there is one alone, and one end. -/
theorem Tw.uniq {G : Int → Option (Int × List Int)} : ∀ {f f' : Nat} {s s' : Int} {x y : List Int × List Int} {r r' : List Int}, Tw G f s x → Tw G f' s' y → x.1 ++ r = y.1 ++ r' → x = y ∧ r = r'
  | 0, _, _, _, _, _, _, _, h, _, _ => h.elim
  | _ + 1, 0, _, _, _, _, _, _, _, h, _ => h.elim
  | f + 1, f' + 1, s, s', x, y, r, r', h, h', e => by
    obtain ⟨p, ns, ks, hp, hk, rfl⟩ := h
    obtain ⟨p', ns', ks', hp', hk', rfl⟩ := h'
    simp only [List.cons_append, List.cons.injEq] at e
    obtain ⟨rfl, e⟩ := e
    rw [hp] at hp'
    cases hp'
    have key : ∀ (ns : List Int) (ks ks' : List (List Int × List Int)), All2 (Tw G f) ns ks → All2 (Tw G f') ns ks' → (ks.map Prod.fst).flatten ++ r = (ks'.map Prod.fst).flatten ++ r' → ks = ks' ∧ r = r' := by
      intro ns
      induction ns with
      | nil =>
        intro ks ks' h h' e
        cases ks with
        | nil => cases ks' with
          | nil => exact ⟨rfl, by simpa using e⟩
          | cons => exact h'.elim
        | cons => exact h.elim
      | cons n ns ih =>
        intro ks ks' h h' e
        cases ks with
        | nil => exact h.elim
        | cons k ks => cases ks' with
          | nil => exact h'.elim
          | cons k' ks' =>
            simp only [List.map_cons, List.flatten_cons, List.append_assoc] at e
            obtain ⟨rfl, e2⟩ := Tw.uniq h.1 h'.1 e
            obtain ⟨rfl, e3⟩ := ih ks ks' h.2 h'.2 e2
            exact ⟨rfl, e3⟩
    obtain ⟨rfl, e2⟩ := key ns ks ks' hk hk' e
    exact ⟨rfl, e2⟩
/-- One told from below, of the parts so far (the last first). -/
def pst (G : Int → Option (Int × List Int)) (P : List (List Int)) (p : Int) : Option (List (List Int)) :=
  (G p).bind fun x => if x.2.length ≤ P.length then some ((p :: (P.take x.2.length).reverse.flatten) :: P.drop x.2.length) else none
def prn (G : Int → Option (Int × List Int)) : List Int → List (List Int) → Option (List (List Int))
  | [], P => some P
  | p :: u, P => (pst G P p).bind (prn G u)
/-- A whole derivation told from below is one part more. -/
theorem Tw.pile {G : Int → Option (Int × List Int)} : ∀ {f : Nat} {s : Int} {x : List Int × List Int} (r : List Int) (P : List (List Int)), Tw G f s x → prn G (x.2 ++ r) P = prn G r (x.1 :: P)
  | 0, _, _, _, _, h => h.elim
  | f + 1, s, x, r, P, h => by
    obtain ⟨p, ns, ks, hp, hk, rfl⟩ := h
    have key : ∀ (ns : List Int) (ks : List (List Int × List Int)) (r : List Int) (P : List (List Int)), All2 (Tw G f) ns ks → prn G ((ks.map Prod.snd).flatten ++ r) P = prn G r ((ks.map Prod.fst).reverse ++ P) := by
      intro ns
      induction ns with
      | nil =>
        intro ks r P h
        cases ks with
        | nil => rfl
        | cons => exact h.elim
      | cons n ns ih =>
        intro ks r P h
        cases ks with
        | nil => exact h.elim
        | cons k ks =>
          simp only [List.map_cons, List.flatten_cons, List.append_assoc, List.reverse_cons, List.singleton_append]
          rw [Tw.pile _ P h.1, ih ks r _ h.2]
    rw [List.append_assoc, key ns ks _ P hk]
    have hl : ns.length = ((ks.map Prod.fst).reverse).length := by simp [hk.len]
    simp only [List.singleton_append, prn, pst, hp, Option.bind_some]
    rw [if_pos (by rw [List.length_append]; omega), hl, List.take_left, List.drop_left, List.reverse_reverse]
    rfl
end Go.Proofs.Ytaimlmjgicmbeaa

/-! What is read, and what is told from below, as derivations. -/
namespace Go.Proofs.Ytaimlmjgicmbeaa
set_option linter.unusedVariables false

/-- What a rule's number tells of it. -/
def Gd (d : Bn) (p : Int) : Option (Int × List Int) :=
  if wiB p 0 ((d.prods.length : Int) - 1) = true then some ((pdAt d p).left, (pdAt d p).right.filter (fun s => decide (¬ s < (d.terms.length : Int)))) else none
/-- A piece. -/
def sl (L : List Int) (a b : Nat) : List Int := (L.drop a).take (b - a)
theorem sl_app (L : List Int) {a c b : Nat} (h1 : a ≤ c) (h2 : c ≤ b) : sl L a c ++ sl L c b = sl L a b := by
  unfold sl
  rw [show b - a = (c - a) + (b - c) by omega, List.take_add, List.drop_drop, show a + (c - a) = c by omega]
theorem sl_cons (L : List Int) {a b : Nat} (h1 : a < L.length) (h2 : a + 1 ≤ b) : numAt L a :: sl L (a + 1) b = sl L a b := by
  unfold sl numAt
  rw [List.drop_eq_getElem_cons h1, show b - a = (b - (a + 1)) + 1 by omega, List.take_succ_cons]
  simp [List.getD_eq_getElem?_getD, h1]
/-- What is read is a derivation: of the piece, from above; of what is told from below. -/
theorem rd_tw (d : Bn) (L : List Int) : ∀ (f : Nat) (s : Int) (a b : Nat), rd d L f s a = some b → a ≤ b ∧ b ≤ L.length ∧ Tw (Gd d) f s (sl L a b, up d L f a)
  | 0, _, _, _, h => by simp [rd] at h
  | f + 1, s, a, b, h => by
    have key : ∀ (ss : List Int) (a b : Nat), rdk d.terms.length (rd d L f) ss a = some b → a ≤ L.length → a ≤ b ∧ b ≤ L.length ∧ ∃ ks : List (List Int × List Int), All2 (Tw (Gd d) f) (ss.filter (fun s => decide (¬ s < (d.terms.length : Int)))) ks ∧ (ks.map Prod.fst).flatten = sl L a b ∧ (ks.map Prod.snd).flatten = (kpk d.terms.length (rd d L f) ss a).flatMap (up d L f) := by
      intro ss
      induction ss with
      | nil =>
        intro a b h ha
        simp only [rdk, Option.some.injEq] at h
        subst h
        exact ⟨Nat.le_refl _, ha, [], trivial, by simp [sl], rfl⟩
      | cons s ss ih =>
        intro a b h ha
        simp only [rdk] at h
        by_cases hs : s < (d.terms.length : Int)
        · rw [if_pos hs] at h
          obtain ⟨h1, h2, ks, h3, h4, h5⟩ := ih a b h ha
          refine ⟨h1, h2, ks, ?_, h4, ?_⟩
          · rw [List.filter_cons_of_neg (by simpa using hs)]; exact h3
          · simp only [kpk]; rw [if_pos hs]; exact h5
        · rw [if_neg hs] at h
          cases e : rd d L f s a with
          | none => rw [e] at h; cases h
          | some c =>
            rw [e] at h
            obtain ⟨g1, g2, g3⟩ := rd_tw d L f s a c e
            obtain ⟨h1, h2, ks, h3, h4, h5⟩ := ih c b h g2
            refine ⟨by omega, h2, (sl L a c, up d L f a) :: ks, ?_, ?_, ?_⟩
            · rw [List.filter_cons_of_pos (by simpa using hs)]; exact ⟨g3, h3⟩
            · rw [List.map_cons, List.flatten_cons, h4]; exact sl_app L g1 h1
            · simp only [kpk]; rw [if_neg hs, e, List.map_cons, List.flatten_cons, List.flatMap_cons, h5]; rfl
    simp only [rd] at h
    by_cases hk : okAt d L s a = true
    · rw [if_pos hk] at h
      unfold okAt at hk
      simp only [Bool.and_eq_true, decide_eq_true_eq] at hk
      obtain ⟨k1, k2, k3⟩ := hk
      obtain ⟨h1, h2, ks, h3, h4, h5⟩ := key _ _ _ h (by omega)
      refine ⟨by omega, h2, numAt L a, _, ks, ?_, h3, ?_⟩
      · unfold Gd
        rw [if_pos k2]
        unfold pa at k3
        rw [k3]
        rfl
      · rw [h4, h5, sl_cons L k1 h1]; rfl
    · rw [if_neg hk] at h; cases h
/-- .. and a derivation is read. -/
theorem tw_rd (d : Bn) (L : List Int) : ∀ (f : Nat) (s : Int) (x : List Int × List Int) (a : Nat) (r : List Int), Tw (Gd d) f s x → L.drop a = x.1 ++ r → rd d L f s a = some (a + x.1.length)
  | 0, _, _, _, _, h, _ => h.elim
  | f + 1, s, x, a, r, h, e => by
    obtain ⟨p, ns, ks, hp, hk, rfl⟩ := h
    have key : ∀ (ss : List Int) (ks : List (List Int × List Int)) (a : Nat) (r : List Int), All2 (Tw (Gd d) f) (ss.filter (fun s => decide (¬ s < (d.terms.length : Int)))) ks → L.drop a = (ks.map Prod.fst).flatten ++ r → rdk d.terms.length (rd d L f) ss a = some (a + (ks.map Prod.fst).flatten.length) := by
      intro ss
      induction ss with
      | nil =>
        intro ks a r h e
        cases ks with
        | nil => rfl
        | cons => exact h.elim
      | cons s ss ih =>
        intro ks a r h e
        simp only [rdk]
        by_cases hs : s < (d.terms.length : Int)
        · rw [List.filter_cons_of_neg (by simpa using hs)] at h
          rw [if_pos hs]
          exact ih ks a r h e
        · rw [List.filter_cons_of_pos (by simpa using hs)] at h
          rw [if_neg hs]
          cases ks with
          | nil => exact h.elim
          | cons k ks =>
            rw [List.map_cons, List.flatten_cons, List.append_assoc] at e
            rw [tw_rd d L f s k a _ h.1 e, Option.bind_some]
            have e2 : L.drop (a + k.1.length) = (ks.map Prod.fst).flatten ++ r := by
              rw [← List.drop_drop, e, List.drop_left]
            rw [ih ks _ r h.2 e2, List.map_cons, List.flatten_cons, List.length_append, Nat.add_assoc]
    simp only [List.cons_append] at e
    have hal : a < L.length := by
      apply Decidable.byContradiction
      intro hn
      rw [List.drop_eq_nil_of_le (by omega)] at e
      cases e
    rw [List.drop_eq_getElem_cons hal, List.cons.injEq] at e
    have hn : numAt L a = p := by rw [← e.1]; simp [numAt, List.getD_eq_getElem?_getD, hal]
    unfold Gd at hp
    by_cases hw : wiB p 0 ((d.prods.length : Int) - 1) = true
    · rw [if_pos hw] at hp
      simp only [Option.some.injEq, Prod.mk.injEq] at hp
      obtain ⟨q1, q2⟩ := hp
      subst q2
      simp only [rd]
      rw [if_pos (by unfold okAt pa; rw [hn]; simp [hal, hw, q1])]
      have h2 := key (pa d L a).right ks (a + 1) r (by unfold pa; rw [hn]; exact hk) e.2
      rw [h2, List.length_cons]
      congr 1
      omega
    · rw [if_neg hw] at hp; cases hp
/-- As many steps as it is long suffice. -/
theorem Tw.fuel {G : Int → Option (Int × List Int)} : ∀ {f : Nat} {s : Int} {x : List Int × List Int} (m : Nat), Tw G f s x → x.1.length ≤ m → Tw G m s x
  | 0, _, _, _, h, _ => h.elim
  | f + 1, s, x, m, h, hm => by
    obtain ⟨p, ns, ks, hp, hk, rfl⟩ := h
    simp only [List.length_cons] at hm
    obtain ⟨m, rfl⟩ : ∃ m', m = m' + 1 := ⟨m - 1, by omega⟩
    have key : ∀ (ns : List Int) (ks : List (List Int × List Int)), All2 (Tw G f) ns ks → (ks.map Prod.fst).flatten.length ≤ m → All2 (Tw G m) ns ks := by
      intro ns
      induction ns with
      | nil => intro ks h _; cases ks with
        | nil => trivial
        | cons => exact h.elim
      | cons n ns ih => intro ks h hl; cases ks with
        | nil => exact h.elim
        | cons k ks =>
          rw [List.map_cons, List.flatten_cons, List.length_append] at hl
          exact ⟨Tw.fuel m h.1 (by omega), ih ks h.2 (by omega)⟩
    exact ⟨p, ns, ks, hp, key ns ks hk (by omega), rfl⟩
/-- The whole: read it is where it is a derivation, and what is told from below is the one there is. -/
theorem whole_tw (d : Bn) (L : List Int) (s : Int) : rd d L (L.length + 1) s 0 = some L.length ↔ ∃ f u, Tw (Gd d) f s (L, u) := by
  constructor
  · intro h
    obtain ⟨_, _, h3⟩ := rd_tw d L _ s 0 _ h
    exact ⟨_, _, by simpa [sl] using h3⟩
  · rintro ⟨f, u, h⟩
    have := tw_rd d L (L.length + 1) s _ 0 [] (h.fuel (L.length + 1) (by simp)) (by simp)
    simpa using this
theorem whole_up {d : Bn} {L u : List Int} {s : Int} {f : Nat} (h : Tw (Gd d) f s (L, u)) : up d L (L.length + 1) 0 = u := by
  obtain ⟨_, _, h3⟩ := rd_tw d L _ s 0 _ ((whole_tw d L s).2 ⟨f, u, h⟩)
  have := (Tw.uniq (r := []) (r' := []) h3 h (by simp [sl])).1
  exact (Prod.mk.inj this).2
/-- From below, too, there is one alone. -/
theorem Tw.uniq2 {G : Int → Option (Int × List Int)} {f f' : Nat} {s s' : Int} {l l' u : List Int} (h : Tw G f s (l, u)) (h' : Tw G f' s' (l', u)) : l = l' := by
  have := (Tw.uniq (r := []) (r' := []) h.mir h'.mir (by simp [swp])).1
  simpa [swp] using this
end Go.Proofs.Ytaimlmjgicmbeaa

/-! What Downwards answers, on both sides. -/
namespace Go.Proofs.Ytaimlmjgicmbeaa
set_option linter.unusedVariables false

/-- From above and from below it is as long. -/
theorem Tw.len {G : Int → Option (Int × List Int)} : ∀ {f : Nat} {s : Int} {x : List Int × List Int}, Tw G f s x → x.1.length = x.2.length
  | 0, _, _, h => h.elim
  | f + 1, s, x, h => by
    obtain ⟨p, ns, ks, hp, hk, rfl⟩ := h
    have key : ∀ (ns : List Int) (ks : List (List Int × List Int)), All2 (Tw G f) ns ks → (ks.map Prod.fst).flatten.length = (ks.map Prod.snd).flatten.length := by
      intro ns
      induction ns with
      | nil => intro ks h; cases ks with
        | nil => rfl
        | cons => exact h.elim
      | cons n ns ih => intro ks h; cases ks with
        | nil => exact h.elim
        | cons k ks =>
          simp only [List.map_cons, List.flatten_cons, List.length_append]
          rw [ih ks h.2, Tw.len h.1]
    simp only [List.length_cons, List.length_append, List.length_nil]
    rw [key ns ks hk]
/-- The rules turned round. -/
def mirP (p : Pd) : Pd := { p with right := p.right.reverse }
def mirB (d : Bn) : Bn := { d with prods := d.prods.map mirP }
theorem pdAt_mir (d : Bn) (x : Int) : pdAt (mirB d) x = mirP (pdAt d x) := by
  unfold pdAt mirB
  simp only [List.getD_eq_getElem?_getD, List.getElem?_map]
  cases d.prods[x.toNat]? <;> rfl
theorem Gd_mir (d : Bn) : Gd (mirB d) = mir (Gd d) := by
  funext p
  unfold Gd mir
  rw [pdAt_mir, show (mirB d).prods.length = d.prods.length by simp [mirB], show (mirB d).terms = d.terms from rfl]
  by_cases h : wiB p 0 ((d.prods.length : Int) - 1) = true
  · simp [mirP, List.filter_reverse, h]
  · simp [h]
/-- What the specification's Downwards answers, as it goes. -/
def dwS (d : Bn) (non : Int) (U : List Int) : List Int × Int :=
  if cdR d non U.length ≠ 0 then ([], cdR d non U.length)
  else match prn (Gd d) U [] with
    | some [l] => if upR d non l = (U, 0) then (l, 0) else ([], 2)
    | _ => ([], 2)
/-- What the program's Downwards answers, as it goes. -/
def dwI (d : Bn) (non : Int) (U : List Int) : List Int × Int := ((upR (mirB d) non U.reverse).1.reverse, (upR (mirB d) non U.reverse).2)
theorem upR_tw {d : Bn} {non : Int} {L u : List Int} (h : upR d non L = (u, 0)) : ∃ f, Tw (Gd d) f (d.terms.length + non) (L, u) := by
  unfold upR at h
  split at h
  · rename_i hc
    simp only [Prod.mk.injEq] at h
    exact absurd h.2 hc
  · split at h
    · rename_i hr
      obtain ⟨f, u', hf⟩ := (whole_tw d L _).1 hr
      simp only [Prod.mk.injEq] at h
      rw [whole_up hf] at h
      rw [h.1] at hf
      exact ⟨f, hf⟩
    · simp at h
theorem tw_upR {d : Bn} {non : Int} {L u : List Int} {f : Nat} (hc : cdR d non L.length = 0) (h : Tw (Gd d) f (d.terms.length + non) (L, u)) : upR d non L = (u, 0) := by
  unfold upR
  rw [if_neg (by simpa using hc), if_pos ((whole_tw d L _).2 ⟨f, u, h⟩), whole_up h]
theorem not_upR {d : Bn} {non : Int} {L : List Int} (hc : cdR d non L.length = 0) (h : ¬ ∃ f u, Tw (Gd d) f (d.terms.length + non) (L, u)) : upR d non L = ([], 2) := by
  unfold upR
  rw [if_neg (by simpa using hc), if_neg (fun e => h ((whole_tw d L _).1 e))]
/-- Both answer the same. -/
theorem dw_same {d : Bn} {non : Int} (hcd : ∀ n, cdR (mirB d) non n = cdR d non n) (U : List Int) : dwS d non U = dwI d non U := by
  by_cases hc : cdR d non U.length = 0
  · have hc2 : cdR (mirB d) non U.reverse.length = 0 := by rw [hcd, List.length_reverse]; exact hc
    unfold dwS dwI
    rw [if_neg (by simpa using hc)]
    by_cases hx : ∃ f l, Tw (Gd d) f (d.terms.length + non) (l, U)
    · obtain ⟨f, l, h⟩ := hx
      have hp := h.pile [] []
      simp only [List.append_nil, prn] at hp
      rw [hp]
      have hl : l.length = U.length := h.len
      have hm := h.mir
      rw [← Gd_mir] at hm
      rw [tw_upR (d := mirB d) (u := l.reverse) hc2 hm]
      simp only [tw_upR (by rw [hl]; exact hc) h, if_true, List.reverse_reverse]
    · have h1 : upR (mirB d) non U.reverse = ([], 2) := not_upR hc2 (fun ⟨f, u, h⟩ => hx ⟨f, u.reverse, by
        have hm := h.mir
        rw [Gd_mir, mir_mir, show (mirB d).terms = d.terms from rfl] at hm
        simpa [swp] using hm⟩)
      rw [h1]
      split
      · rename_i l _
        rw [if_neg (fun e => by obtain ⟨f, hf⟩ := upR_tw e; exact hx ⟨f, l, hf⟩)]
        rfl
      · rfl
  · unfold dwS dwI upR
    rw [if_pos hc, if_pos (by rw [hcd, List.length_reverse]; exact hc), hcd, List.length_reverse]
    rfl
end Go.Proofs.Ytaimlmjgicmbeaa
