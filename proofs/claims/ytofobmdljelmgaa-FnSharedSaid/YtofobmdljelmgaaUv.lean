import Derived.Test.YtofobmdljelmgaaTx
import Derived.Test.YtofobmdljelmgaaDz
/-! The specification's Unshare: what stands while the trees are made, and why it is refused. -/
namespace Go.Proofs.Ytofobmdljelmgaa
open Go.RowKit Go.Deep Go.Lib
set_option linter.unusedVariables false
set_option maxRecDepth 100000
set_option linter.unusedSimpArgs false

/-- What is left when a Dag is unshared. -/
def UnA (ns : List Rd) (rs : List Int) (w : World) (e : Ending) (w' : World) : Prop :=
  ∃ (T : List Tr) (c : Int) (a : Option Addr) (m p : Nat), UnR ns rs (T, c) ∧ e = .returned (.tuple #[.slice a m p, .int .i64 c]) ∧ Below w.heap.size w w' ∧ Own w' w.heap.size w'.heap.size (dm T) (.slice a m p)
theorem own_none (w : World) (lo g : Nat) : Own w lo w.heap.size (dm []) (.slice (some ⟨g, 0, none⟩) 0 0) :=
  Own.shut ⟨_, 0, g, fun _ => .bool false, fun _ => 0, fun _ => 0, rfl, by show (0 : Nat) ≤ _; exact Nat.zero_le _, by show (0 : Nat) ≤ _; exact Nat.zero_le _, Nat.zero_le _, Nat.zero_le _, fun h => absurd h (Nat.not_lt_zero _), fun i hi => absurd hi (Nat.not_lt_zero _), fun i hi => absurd hi (Nat.not_lt_zero _), fun i hi => absurd hi (Nat.not_lt_zero _), fun i j hi hj => absurd hj (Nat.not_lt_zero _)⟩
theorem UnA.no {ns : List Rd} {rs : List Int} {w w' : World} {g : Nat} (h : ∀ T, ¬ UnOK ns rs T) (hb : Below w.heap.size w w') : UnA ns rs w (.returned (.tuple #[.slice (some ⟨g, 0, none⟩) 0 0, .int .i64 10])) w' :=
  ⟨[], 10, _, _, _, .inr ⟨h, rfl⟩, rfl, hb, own_none _ _ _⟩
theorem ok_cntU {t : Tr} (h : t.ok = true) : t.cnt ≤ 1000 := by
  unfold Tr.ok at h
  simp only [Bool.and_eq_true, decide_eq_true_eq] at h
  omega
/-- Trees that the first j roots stand for. -/
def TsR (ns : List Rd) (rs : List Int) (k' : List Tr) : Prop := k'.length ≤ rs.length ∧ k'.length ≤ 20 ∧ ∀ i (h1 : i < k'.length) (h2 : i < rs.length), isR k'[i] ns rs[i]
theorem TsR.add {ns : List Rd} {rs : List Int} {k' : List Tr} {t : Tr} (h : TsR ns rs k') (hl : k'.length < rs.length) (h20 : k'.length < 20) (ht : isR t ns rs[k'.length]) : TsR ns rs (k' ++ [t]) := by
  obtain ⟨h1, h2, h3⟩ := h
  refine ⟨by simp; omega, by simp; omega, fun i g1 g2 => ?_⟩
  by_cases e : i < k'.length
  · rw [List.getElem_append_left e]; exact h3 i e g2
  · obtain rfl : i = k'.length := by simp at g1; omega
    simpa using ht
theorem TsR.full {ns : List Rd} {rs : List Int} {k' T : List Tr} (h : TsR ns rs k') (hl : k'.length = rs.length) (hT : UnOK ns rs T) : T = k' := by
  obtain ⟨a1, a2, a3⟩ := hT.root
  exact List.ext_getElem (by omega) (fun i g1 g2 => isR_uniq _ (a3 i (by omega) g1).1 (h.2.2 i g2 (by omega)))
theorem no_root {ns : List Rd} {rs : List Int} {j : Nat} (hj : j < rs.length) (h : ¬ (0 ≤ rs[j] ∧ rs[j] ≤ (ns.length : Int) - 1)) : ∀ T, ¬ UnOK ns rs T := fun T hT => by
  obtain ⟨a1, a2, a3⟩ := hT.root
  have := a3 j hj (by omega)
  omega
theorem no_many {ns : List Rd} {rs : List Int} {j : Nat} (hj : j < rs.length) (h : 20 ≤ j) : ∀ T, ¬ UnOK ns rs T := fun T hT => by
  obtain ⟨a1, a2, a3⟩ := hT.root
  omega
theorem no_great {ns : List Rd} {rs : List Int} {j : Nat} {t : Tr} (hj : j < rs.length) (ht : isR t ns rs[j]) (h : 1000 < t.cnt) : ∀ T, ¬ UnOK ns rs T := fun T hT => by
  obtain ⟨a1, a2, a3⟩ := hT.root
  have h3 := a3 j hj (by omega)
  have := isR_uniq _ h3.1 ht
  have h4 := ok_cntU h3.2.1
  rw [this] at h4
  omega
theorem no_kid {ns : List Rd} {rs : List Int} {q i : Nat} (hq : q < ns.length) (hi : i < ns[q].ks.length) (h : ¬ (0 ≤ ns[q].ks[i] ∧ ns[q].ks[i] ≤ (q : Int) - 1)) : ∀ T, ¬ UnOK ns rs T := fun T hT => by
  have := hT.rgd q _ (List.getElem?_eq_getElem hq) _ (List.getElem_mem hi)
  omega
theorem rgd_of {ns : List Rd} (h : ∀ q (hq : q < ns.length) i (hi : i < ns[q].ks.length), 0 ≤ ns[q].ks[i] ∧ ns[q].ks[i] ≤ (q : Int) - 1) : rgd ns := by
  intro q n hn c hc
  obtain ⟨hq, rfl⟩ := List.getElem?_eq_some_iff.1 hn
  obtain ⟨i, hi, rfl⟩ := List.mem_iff_getElem.1 hc
  have := h q hq i hi
  omega
/-- The nodes, their Kids as numbers. -/
def dr (n : Rd) : Nd := ⟨n.nm, n.tx, n.lf, n.ks.map Int.toNat⟩
theorem rd_dr {ns : List Rd} (h : rgd ns) (q : Nat) (hq : q < ns.length) : ins (dr ns[q]).ks = ns[q].ks := by
  unfold ins dr
  rw [List.map_map]
  conv => rhs; rw [← List.map_id ns[q].ks]
  apply List.map_congr_left
  intro c hc
  have := h q _ (List.getElem?_eq_getElem hq) c hc
  simp; omega
theorem rd_eq {ns : List Rd} (h : rgd ns) (q : Nat) (hq : q < ns.length) : rd (dr ns[q]) = ns[q] := by
  have := rd_dr h q hq
  unfold rd
  rw [this]
  rfl
/-- What stands while the trees are made. -/
structure UsI (w wr : World) (u r v : Value) (k' : List Tr) : Prop where
  b0 : Box wr w.heap.size 27 [u, r]
  bel : Below w.heap.size w wr
  grw : Grw k' (w.heap.size + 1) k'.length v wr
theorem UsI.next {w wr w2 w3 : World} {u r v q : Value} {k' : List Tr} {t : Tr} {a c g cap : Nat} {fs : Nat → Value} {lo hi : Nat → Nat} (h : UsI w wr u r v k')
    (hown : wr.ownsRow (w.heap.size + 1) 39 4 v k'.length (kc k' fs k'.length)) (hls : ∀ i, i < k'.length → Own wr (lo i) (hi i) (nth k' i) (fs i))
    (hr : ∀ i, i < k'.length → w.heap.size + 1 ≤ lo i ∧ hi i ≤ wr.heap.size ∧ ∀ g, v.ownBlock = some g → g < lo i ∨ hi i ≤ g) (hd : ∀ i i', i < i' → i' < k'.length → hi i ≤ lo i')
    (hb : Below wr.heap.size wr w2) (hu : Own w2 a c t q) (ha : wr.heap.size ≤ a) (hc : c ≤ w2.heap.size)
    (hown3 : w3.ownsRow (w.heap.size + 1) 39 4 (.slice (some ⟨g, 0, none⟩) (k'.length + 1) cap) (k'.length + 1) (kc k' fs k'.length ++ [.string t.name, .string t.text, .bool t.leaf, q]))
    (hgr : w2.grownBy w3 v.ownBlock) (hat : v.ownBlock = some g ∨ g = w2.heap.size) : UsI w w3 u r (.slice (some ⟨g, 0, none⟩) (k'.length + 1) cap) (k' ++ [t]) := by
  have hz := h.b0.lt
  have hs := hb.size
  have hG : Grw (k' ++ [t]) (w.heap.size + 1) (k'.length + 1) (.slice (some ⟨g, 0, none⟩) (k'.length + 1) cap) w3 := by
    refine Grw.step (k := k' ++ [t]) (fs := fs) (l := lo) (h := hi) (u := q) (wr := wr) (w2 := w2) (a := a) (c := c) (v := v) ?_ (fun i hi => by rw [nth_app hi]; exact hls i hi) hr hd (by omega) hb (by rw [nth_last]; exact hu) ha hc ?_ hgr hat
    · rw [kc_app _ _ _ _ (Nat.le_refl _)]; exact hown
    · rw [kc_app _ _ _ _ (Nat.le_refl _), nth_last]; exact hown3
  have hblk : ∀ p, p < w.heap.size + 1 → w3.heap[p]? = wr.heap[p]? := fun p hp => (hgr.block p (by omega) (fun e => by have := World.ownsRow.lt hown p e.symm; omega)).trans (hb.block p (by omega))
  refine ⟨h.b0.keep (hblk _ (by omega)), (h.bel.trans (hb.mono h.bel.size)).grown hgr (by omega) (fun p hp => by have := World.ownsRow.lt hown p hp; omega), ?_⟩
  rw [List.length_append]
  exact hG
end Go.Proofs.Ytofobmdljelmgaa

/-! The program's tree: when it answers and when it panics. Plain mathematics. -/
namespace Go.Proofs.Ytofobmdljelmgaa
set_option linter.unusedVariables false
set_option maxRecDepth 100000
set_option linter.unusedSimpArgs false

/-- The tree of number z, with g grown ahead of it and at depth d, is within the limits. -/
def Fit (ns : List Rd) (z g d : Int) (t : Tr) : Prop := isR t ns z ∧ g + t.cnt ≤ 1000 ∧ d + t.deep ≤ 61
theorem isR_at {t : Tr} {ns : List Rd} {z : Int} (h : isR t ns z) : 0 ≤ z ∧ z < (ns.length : Int) := by
  obtain ⟨n, x, l, k⟩ := t
  rw [isR_mk] at h
  obtain ⟨qs, h0, h1, _⟩ := h
  have := (List.getElem?_eq_some_iff.1 h1).1
  omega
theorem Fit.uniq {ns : List Rd} {z g d : Int} {t t' : Tr} (h : Fit ns z g d t) (h' : Fit ns z g d t') : t = t' := isR_uniq _ h.1 h'.1
theorem Fit.head {ns : List Rd} {z g d : Int} {t : Tr} (h : Fit ns z g d t) : 0 ≤ z ∧ z < (ns.length : Int) ∧ g + 1 ≤ 1000 ∧ d ≤ 60 := by
  have h1 := isR_at h.1
  have h2 := Tr.cnt_pos t
  have h3 := Tr.deep_pos t
  have h4 := h.2.1
  have h5 := h.2.2
  omega
/-- Trees that the first Kids stand for. -/
def KsR (ns : List Rd) (qs : List Int) (k' : List Tr) : Prop := k'.length ≤ qs.length ∧ ∀ i (h1 : i < k'.length) (h2 : i < qs.length), isR k'[i] ns qs[i]
theorem KsR.nil (ns : List Rd) (qs : List Int) : KsR ns qs [] := ⟨Nat.zero_le _, fun i h => absurd h (Nat.not_lt_zero _)⟩
theorem KsR.add {ns : List Rd} {qs : List Int} {k' : List Tr} {t : Tr} (h : KsR ns qs k') (hl : k'.length < qs.length) (ht : isR t ns qs[k'.length]) : KsR ns qs (k' ++ [t]) := by
  obtain ⟨h1, h3⟩ := h
  refine ⟨by simp; omega, fun i g1 g2 => ?_⟩
  by_cases e : i < k'.length
  · rw [List.getElem_append_left e]; exact h3 i e g2
  · obtain rfl : i = k'.length := by simp at g1; omega
    simpa using ht
theorem Fit.kid {ns : List Rd} {z g d : Int} {t : Tr} {n x : ByteArray} {l : Bool} {qs : List Int} {k' : List Tr} (h : Fit ns z g d t) (hn : ns[z.toNat]? = some ⟨n, x, l, qs⟩) (hk : KsR ns qs k') (hl : k'.length < qs.length) :
    ∃ t', Fit ns qs[k'.length] (g + 1 + (Tr.cntL k' : Nat)) (d + 1) t' := by
  obtain ⟨n', x', l', k⟩ := t
  obtain ⟨h1, h2, h3⟩ := h
  rw [isR_mk] at h1
  obtain ⟨qs', h0, e1, e2, e3⟩ := h1
  rw [hn] at e1
  simp only [Option.some.injEq, Rd.mk.injEq] at e1
  obtain ⟨rfl, rfl, rfl, rfl⟩ := e1
  have hkl : k'.length < k.length := by omega
  have hpre : k' = k.take k'.length := List.ext_getElem (by rw [List.length_take]; omega) (fun i g1 g2 => by
    rw [List.getElem_take]
    exact isR_uniq _ (hk.2 i g1 (by omega)) (e3 i (by omega) (by omega)))
  refine ⟨k[k'.length], e3 _ hkl hl, ?_, ?_⟩
  · have h4 := Tr.cntL_take_succ k k'.length hkl
    have h5 := Tr.cntL_take_le k (k'.length + 1)
    rw [← hpre] at h4
    rw [Tr.cnt_mk] at h2
    omega
  · have h4 := Tr.deepL_take_succ k k'.length hkl
    have h5 := Tr.deepL_take_le k (k'.length + 1)
    rw [Tr.deep_mk] at h3
    omega
theorem Fit.done {ns : List Rd} {z g d : Int} {n x : ByteArray} {l : Bool} {qs : List Int} {k' : List Tr} (hz : 0 ≤ z) (hn : ns[z.toNat]? = some ⟨n, x, l, qs⟩) (hk : KsR ns qs k') (hl : k'.length = qs.length) (hc : g + 1 + (Tr.cntL k' : Nat) ≤ 1000) (hd : d + 1 + (Tr.deepL k' : Nat) ≤ 61) : Fit ns z g d ⟨n, x, l, k'⟩ := by
  refine ⟨?_, ?_, ?_⟩
  · rw [isR_mk]
    exact ⟨qs, hz, hn, hl.symm, fun i g1 g2 => hk.2 i g1 g2⟩
  · rw [Tr.cnt_mk]; omega
  · rw [Tr.deep_mk]; omega
/-- Each root of what is right has a tree within the limits. -/
theorem UnOK.fit {ns : List Rd} {rs : List Int} {T : List Tr} (h : UnOK ns rs T) (i : Nat) (h1 : i < rs.length) (h2 : i < T.length) : Fit ns rs[i] 0 1 T[i] := by
  obtain ⟨_, _, a3⟩ := h.root
  have h3 := a3 i h1 h2
  refine ⟨h3.1, ?_, ?_⟩
  · have := ok_cntU h3.2.1; omega
  · have h4 := h3.2.1
    unfold Tr.ok at h4
    simp only [Bool.and_eq_true, decide_eq_true_eq] at h4
    omega
end Go.Proofs.Ytofobmdljelmgaa
