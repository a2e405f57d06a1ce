import Derived.Test.YtofobmdljelmgaaMn
import Derived.Test.YtofobmdljelmgaaLs
/-! How the program numbers trees: lists of numbers have numbers too. -/
namespace Go.Proofs.Ytofobmdljelmgaa
open Go.RowKit Go.Deep
set_option linter.unusedVariables false
set_option maxRecDepth 100000
set_option linter.unusedSimpArgs false

theorem nodup_at {α : Type} : ∀ {l : List α} {i j : Nat} {x : α}, l.Nodup → l[i]? = some x → l[j]? = some x → i = j := by
  intro l i j x h hi hj
  obtain ⟨h1, e1⟩ := List.getElem?_eq_some_iff.1 hi
  obtain ⟨h2, e2⟩ := List.getElem?_eq_some_iff.1 hj
  have h3 := List.pairwise_iff_getElem.1 h
  rcases Nat.lt_trichotomy i j with e | e | e
  · exact absurd (e1.trans e2.symm) (h3 i j h1 h2 e)
  · exact e
  · exact absurd (e2.trans e1.symm) (h3 j i h2 h1 e)
theorem pre_at {α : Type} {l l' : List α} {i : Nat} {x : α} (h : l <+: l') (hi : l[i]? = some x) : l'[i]? = some x := by
  obtain ⟨t, rfl⟩ := h
  rw [List.getElem?_append_left (List.getElem?_eq_some_iff.1 hi).1]
  exact hi
/-- The lists that are numbered, and the keys by which they are found. -/
structure LOK (DL : List (List Nat)) (LL : List (Nat × Nat)) : Prop where
  nd : DL.Nodup
  len : DL.length = LL.length + 1
  zero : DL[0]? = some []
  step : ∀ (i : Nat) p, LL[i]? = some p → p.1 ≤ i ∧ ∃ l, DL[p.1]? = some l ∧ DL[i + 1]? = some (l ++ [p.2])
theorem LOK.nil : LOK [[]] [] := ⟨by simp, rfl, rfl, fun i p h => by simp at h⟩
theorem LOK.hit {DL : List (List Nat)} {LL : List (Nat × Nat)} (h : LOK DL LL) {i a m : Nat} {l : List Nat} (hi : LL[i]? = some (a, m)) (ha : DL[a]? = some l) : DL[i + 1]? = some (l ++ [m]) := by
  obtain ⟨h1, l', h2, h3⟩ := h.step i _ hi
  rw [ha] at h2
  injection h2 with h2
  rw [h2]
  exact h3
theorem LOK.add {DL : List (List Nat)} {LL : List (Nat × Nat)} (h : LOK DL LL) {a m : Nat} {l : List Nat} (ha : DL[a]? = some l) (hn : (a, m) ∉ LL) : LOK (DL ++ [l ++ [m]]) (LL ++ [(a, m)]) := by
  have hal := (List.getElem?_eq_some_iff.1 ha).1
  refine ⟨?_, by simp [h.len], pre_at (List.prefix_append _ _) h.zero, fun i p hp => ?_⟩
  · rw [List.nodup_append]
    refine ⟨h.nd, by simp, fun x hx y hy e => ?_⟩
    have e2 : y = l ++ [m] := by simpa using hy
    subst e2 e
    obtain ⟨j, hj, hje⟩ := List.mem_iff_getElem.1 hx
    cases j with
    | zero =>
      have h0 := h.zero
      rw [List.getElem?_eq_getElem hj, hje] at h0
      simp at h0
    | succ i =>
      have hi : i < LL.length := by have := h.len; omega
      obtain ⟨h1, l', h2, h3⟩ := h.step i LL[i] (List.getElem?_eq_getElem hi)
      rw [List.getElem?_eq_getElem hj, hje] at h3
      injection h3 with h3
      obtain ⟨h4, h5⟩ := List.append_inj' h3 rfl
      have e5 : m = LL[i].2 := by simpa using h5
      rw [← h4] at h2
      have e6 := nodup_at h.nd h2 ha
      exact hn (List.mem_iff_getElem.2 ⟨i, hi, by rw [← e6, e5]⟩)
  · by_cases e : i < LL.length
    · rw [List.getElem?_append_left e] at hp
      obtain ⟨h1, l', h2, h3⟩ := h.step i p hp
      exact ⟨h1, l', pre_at (List.prefix_append _ _) h2, pre_at (List.prefix_append _ _) h3⟩
    · have hi : i = LL.length := by
        have := (List.getElem?_eq_some_iff.1 hp).1
        simp at this
        omega
      subst hi
      have ep : p = (a, m) := by simpa using hp.symm
      subst ep
      refine ⟨by have := h.len; omega, l, pre_at (List.prefix_append _ _) ha, ?_⟩
      rw [List.getElem?_append_right (by have := h.len; omega)]
      simp [h.len]
/-- The keys of the nodes. -/
structure MOK (DL : List (List Nat)) (MM : List (ByteArray × ByteArray × Bool × Nat)) (ns : List Nd) : Prop where
  len : MM.length = ns.length
  at' : ∀ (i : Nat) p, MM[i]? = some p → ∃ l, DL[p.2.2.2]? = some l ∧ ns[i]? = some ⟨p.1, p.2.1, p.2.2.1, l⟩
theorem MOK.grow {DL DL' : List (List Nat)} {MM : List (ByteArray × ByteArray × Bool × Nat)} {ns : List Nd} (h : MOK DL MM ns) (hp : DL <+: DL') : MOK DL' MM ns :=
  ⟨h.len, fun i p hi => by
    obtain ⟨l, h1, h2⟩ := h.at' i p hi
    exact ⟨l, pre_at hp h1, h2⟩⟩
theorem MOK.hit {DL : List (List Nat)} {MM : List (ByteArray × ByteArray × Bool × Nat)} {ns : List Nd} (h : MOK DL MM ns) (hd : ns.Nodup) {n a : Nat} {x t : ByteArray} {f : Bool} {l : List Nat} (hi : MM[n]? = some (x, t, f, a)) (ha : DL[a]? = some l) : put1 ns ⟨x, t, f, l⟩ = (ns, n) ∧ n < ns.length := by
  obtain ⟨l', h1, h2⟩ := h.at' n _ hi
  rw [ha] at h1
  injection h1 with h1
  subst h1
  have h3 := fnd_at hd h2
  have h4 := (List.getElem?_eq_some_iff.1 h2).1
  unfold put1
  rw [h3, if_pos h4]
  exact ⟨rfl, h4⟩
theorem fnd_not {n : Nd} {l : List Nd} (h : n ∉ l) : fnd l n = l.length := by
  rcases Nat.lt_or_ge (fnd l n) l.length with h1 | h1
  · exact absurd (List.mem_of_getElem? (fnd_get h1)) h
  · have := fnd_le n l; omega
theorem MOK.miss {DL : List (List Nat)} {LL : List (Nat × Nat)} {MM : List (ByteArray × ByteArray × Bool × Nat)} {ns : List Nd} (h : MOK DL MM ns) (hl : LOK DL LL) {a : Nat} {x t : ByteArray} {f : Bool} {l : List Nat} (hn : (x, t, f, a) ∉ MM) (ha : DL[a]? = some l) : put1 ns ⟨x, t, f, l⟩ = (ns ++ [⟨x, t, f, l⟩], ns.length) ∧ MOK DL (MM ++ [(x, t, f, a)]) (ns ++ [⟨x, t, f, l⟩]) := by
  have hnot : (⟨x, t, f, l⟩ : Nd) ∉ ns := fun hm => by
    obtain ⟨i, hi, hie⟩ := List.mem_iff_getElem.1 hm
    have hi2 : i < MM.length := by have := h.len; omega
    obtain ⟨l', h1, h2⟩ := h.at' i MM[i] (List.getElem?_eq_getElem hi2)
    rw [List.getElem?_eq_getElem hi, hie] at h2
    simp only [Option.some.injEq, Nd.mk.injEq] at h2
    obtain ⟨e1, e2, e3, e4⟩ := h2
    subst e4
    have e5 := nodup_at hl.nd h1 ha
    exact hn (List.mem_iff_getElem.2 ⟨i, hi2, by rw [e1, e2, e3, ← e5]⟩)
  refine ⟨?_, by simp [h.len], fun i p hp => ?_⟩
  · unfold put1
    rw [fnd_not hnot, if_neg (Nat.lt_irrefl _)]
  · by_cases e : i < MM.length
    · rw [List.getElem?_append_left e] at hp
      obtain ⟨l', h1, h2⟩ := h.at' i p hp
      exact ⟨l', h1, by rw [List.getElem?_append_left (by have := h.len; omega)]; exact h2⟩
    · have hi : i = MM.length := by
        have := (List.getElem?_eq_some_iff.1 hp).1
        simp at this
        omega
      subst hi
      have ep : p = (x, t, f, a) := by simpa using hp.symm
      subst ep
      exact ⟨l, ha, by rw [h.len]; simp⟩
theorem putT_nodup (t : Tr) {ns : List Nd} (h : ns.Nodup) : (putT t ns).1.Nodup := (putT_keep t ns h).2.1
theorem pk_nodup (k : List Tr) (j : Nat) {ns : List Nd} (h : ns.Nodup) : (pk k j ns).1.Nodup := (putTs_keep (k.take j) h).2.1
theorem pk_lt (k : List Tr) (j : Nat) {ns : List Nd} (h : ns.Nodup) : ∀ q ∈ (pk k j ns).2, q < (pk k j ns).1.length := (putTs_keep (k.take j) h).2.2.1
theorem putT_lt (t : Tr) {ns : List Nd} (h : ns.Nodup) : (putT t ns).2 < (putT t ns).1.length := (putT_keep t ns h).2.2

/-- The program's sharer, as it lies. -/
structure NS (B gs b1 b2 : Nat) (r : Value) (w : World) (u : Value) (ns : List Nd) (K : Nat → Prop) (DL : List (List Nat)) (LL : List (Nat × Nat)) (MM : List (ByteArray × ByteArray × Bool × Nat)) : Prop where
  box : Box w gs 73 [.map (some b1), .map (some b2), u, r]
  m1 : Mn w b1 122 (LL.map encL)
  m2 : Mn w b2 125 (MM.map encM)
  lok : LOK DL LL
  mok : MOK DL MM ns
  dn : DN B w u ns K
  nod : ns.Nodup
  fr : ∀ q, (q = gs ∨ q = b1 ∨ q = b2) → B ≤ q ∧ ¬ K q ∧ u.ownBlock ≠ some q
  d12 : b1 ≠ b2 ∧ gs ≠ b1 ∧ gs ≠ b2
/-- All is as it was but for what the sharer owns. -/
structure FN (gs b1 b2 : Nat) (w w' : World) (u u' : Value) : Prop where
  os : w'.os = w.os
  tape : w'.tape = w.tape
  output : w'.output = w.output
  size : w.heap.size ≤ w'.heap.size
  block : ∀ k, k < w.heap.size → k ≠ gs → k ≠ b1 → k ≠ b2 → u.ownBlock ≠ some k → w'.heap[k]? = w.heap[k]?
  at' : u'.ownBlock = u.ownBlock ∨ ∃ q, u'.ownBlock = some q ∧ w.heap.size ≤ q
section
variable {B gs b1 b2 : Nat} {r u u' u1 : Value} {w w' w1 : World} {ns : List Nd} {K K' : Nat → Prop} {DL DL' : List (List Nat)} {LL LL' : List (Nat × Nat)} {MM MM' : List (ByteArray × ByteArray × Bool × Nat)}
theorem FN.of_below (h : Below w.heap.size w w') : FN gs b1 b2 w w' u u := ⟨h.os, h.tape, h.output, h.size, fun k hk _ _ _ _ => h.block k hk, .inl rfl⟩
theorem FN.trans (h : FN gs b1 b2 w w1 u u1) (k : FN gs b1 b2 w1 w' u1 u') : FN gs b1 b2 w w' u u' := by
  have s1 := h.size
  refine ⟨k.os.trans h.os, k.tape.trans h.tape, k.output.trans h.output, Nat.le_trans h.size k.size, fun q hq e1 e2 e3 hne => ?_, ?_⟩
  · refine (k.block q (by omega) e1 e2 e3 (fun e => ?_)).trans (h.block q hq e1 e2 e3 hne)
    rcases h.at' with e4 | ⟨p, e4, hp⟩
    · exact hne (e4 ▸ e)
    · rw [e4] at e
      injection e with e
      omega
  · rcases k.at' with e1 | ⟨p, e1, hp⟩
    · rcases h.at' with e2 | ⟨p, e2, hp⟩
      · exact .inl (e1.trans e2)
      · exact .inr ⟨p, e1.trans e2, hp⟩
    · exact .inr ⟨p, e1, by omega⟩
theorem FN.over (h : FN gs b1 b2 w w1 u u1) (hb : Below w.heap.size w1 w') : FN gs b1 b2 w w' u u1 :=
  ⟨hb.os.trans h.os, hb.tape.trans h.tape, hb.output.trans h.output, Nat.le_trans h.size hb.size, fun q hq e1 e2 e3 hne => (hb.block q hq).trans (h.block q hq e1 e2 e3 hne), h.at'⟩
theorem FN.map1 (h : K1 b1 w w') : FN gs b1 b2 w w' u u := ⟨h.os, h.tape, h.output, h.size, fun k hk _ e _ _ => h.block k hk e, .inl rfl⟩
theorem FN.map2 (h : K1 b2 w w') : FN gs b1 b2 w w' u u := ⟨h.os, h.tape, h.output, h.size, fun k hk _ _ e _ => h.block k hk e, .inl rfl⟩
theorem FN.below {B' : Nat} (h : FN gs b1 b2 w w' u u') (hB : B' ≤ w.heap.size) (h1 : B' ≤ gs) (h2 : B' ≤ b1) (h3 : B' ≤ b2) (hu : ∀ g, u.ownBlock = some g → B' ≤ g) : Below B' w w' :=
  ⟨h.os, h.tape, h.output, h.size, fun k hk => h.block k (by omega) (by omega) (by omega) (by omega) (fun e => by have := hu k e; omega)⟩
theorem NS.keep (h : NS B gs b1 b2 r w u ns K DL LL MM) (hs : w.heap.size ≤ w'.heap.size) (hb : ∀ q, (q = gs ∨ q = b1 ∨ q = b2 ∨ K q ∨ u.ownBlock = some q) → q < w.heap.size → w'.heap[q]? = w.heap[q]?) : NS B gs b1 b2 r w' u ns K DL LL MM :=
  ⟨h.box.keep (hb _ (.inl rfl) h.box.lt), h.m1.keep (hb _ (.inr (.inl rfl)) h.m1.lt), h.m2.keep (hb _ (.inr (.inr (.inl rfl))) h.m2.lt), h.lok, h.mok, h.dn.keep hs (fun q hq hlt => hb q (.inr (.inr (.inr hq))) hlt), h.nod, h.fr, h.d12⟩
theorem NS.still (h : NS B gs b1 b2 r w u ns K DL LL MM) (hb : Below w.heap.size w w') : NS B gs b1 b2 r w' u ns K DL LL MM := h.keep hb.size (fun q _ hlt => hb.block q hlt)
theorem NS.lt (h : NS B gs b1 b2 r w u ns K DL LL MM) : ∀ q, (q = gs ∨ q = b1 ∨ q = b2 ∨ K q ∨ u.ownBlock = some q) → B ≤ q ∧ q < w.heap.size := fun q hq => by
  rcases hq with rfl | rfl | rfl | hq
  · exact ⟨(h.fr _ (.inl rfl)).1, h.box.lt⟩
  · exact ⟨(h.fr _ (.inr (.inl rfl))).1, h.m1.lt⟩
  · exact ⟨(h.fr _ (.inr (.inr rfl))).1, h.m2.lt⟩
  · exact h.dn.lt q hq
theorem NS.below (h : NS B gs b1 b2 r w u ns K DL LL MM) (hf : FN gs b1 b2 w w' u u') (hB : B ≤ w.heap.size) : Below B w w' :=
  hf.below hB (h.fr _ (.inl rfl)).1 (h.fr _ (.inr (.inl rfl))).1 (h.fr _ (.inr (.inr rfl))).1 (fun g hg => (h.dn.lt g (.inr hg)).1)
theorem map_not {α : Type} {f : α → Value} (hf : ∀ a b, f a = f b → a = b) {l : List α} {x : α} : f x ∉ l.map f → x ∉ l := fun h hx => h (List.mem_map.2 ⟨x, hx, rfl⟩)
theorem map_at {α : Type} {f : α → Value} (hf : ∀ a b, f a = f b → a = b) {l : List α} {x : α} {i : Nat} (h : (l.map f)[i]? = some (f x)) : l[i]? = some x := by
  rw [List.getElem?_map] at h
  obtain ⟨y, h1, h2⟩ := Option.map_eq_some_iff.1 h
  rw [h1, hf _ _ h2]
/-- A list with one number more has its number. -/
theorem NS.list {a m n : Nat} {l : List Nat} (h : NS B gs b1 b2 r w u ns K DL LL MM) (hk : K1 b1 w w') (ha : DL[a]? = some l)
    (hn : ((LL.map encL)[n]? = some (encL (a, m)) ∧ Mn w' b1 122 (LL.map encL)) ∨ (encL (a, m) ∉ LL.map encL ∧ n = (LL.map encL).length ∧ Mn w' b1 122 (LL.map encL ++ [encL (a, m)]))) :
    ∃ DL' LL', NS B gs b1 b2 r w' u ns K DL' LL' MM ∧ DL <+: DL' ∧ DL'[n + 1]? = some (l ++ [m]) ∧ LL'.length ≤ LL.length + 1 := by
  have hb : ∀ q, q < w.heap.size → q ≠ b1 → w'.heap[q]? = w.heap[q]? := hk.block
  have hbx := h.box.keep (hb _ h.box.lt h.d12.2.1)
  have hm2 := h.m2.keep (hb _ h.m2.lt (fun e => h.d12.1 e.symm))
  have hdn := h.dn.keep hk.size (fun q hq hlt => hb q hlt (fun e => by
    subst e
    have := h.fr q (.inr (.inl rfl))
    rcases hq with hq | hq
    · exact this.2.1 hq
    · exact this.2.2 hq))
  rcases hn with ⟨e1, e2⟩ | ⟨e1, rfl, e2⟩
  · exact ⟨DL, LL, ⟨hbx, e2, hm2, h.lok, h.mok, hdn, h.nod, h.fr, h.d12⟩, List.prefix_refl _, h.lok.hit (map_at (fun _ _ => encL_inj) e1) ha, by omega⟩
  · have hne := map_not (fun _ _ => encL_inj) e1
    refine ⟨DL ++ [l ++ [m]], LL ++ [(a, m)], ⟨hbx, by simpa using e2, hm2, h.lok.add ha hne, h.mok.grow (List.prefix_append _ _), hdn, h.nod, h.fr, h.d12⟩, List.prefix_append _ _, ?_, by simp⟩
    have := h.lok.len
    rw [List.getElem?_append_right (by simp; omega)]
    simp [this]
end
end Go.Proofs.Ytofobmdljelmgaa

/-! The program's number: its loop's state. -/
namespace Go.Proofs.Ytofobmdljelmgaa
open Go.RowKit Go.Deep
set_option linter.unusedVariables false
set_option maxRecDepth 100000
set_option linter.unusedSimpArgs false

/-- While the Kids get their numbers. -/
structure NuI (B gs b1 b2 g : Nat) (r : Value) (W0 wr : World) (n x : ByteArray) (l : Bool) (v : Value) (k : List Tr) (ns : List Nd) (K Kj : Nat → Prop) (u uj vk : Value) (DL DLj : List (List Nat)) (LL LLj : List (Nat × Nat)) (MMj : List (ByteArray × ByteArray × Bool × Nat)) (j a : Nat) : Prop where
  bt : Box wr g 39 [.string n, .string x, .bool l, v]
  s : NS B gs b1 b2 r wr uj (pk k j ns).1 Kj DLj LLj MMj
  ow : wr.ownsRow (g + 1) 3 1 vk j (iv (ins (pk k j ns).2))
  fn : FN gs b1 b2 W0 wr u uj
  kn : ∀ b, Kj b → K b ∨ W0.heap.size ≤ b
  fr : ∀ q, (q = g ∨ vk.ownBlock = some q) → ¬ Kj q ∧ uj.ownBlock ≠ some q
  pre : DL <+: DLj
  la : DLj[a]? = some (pk k j ns).2
  ll : LLj.length ≤ LL.length + Tr.cntL (k.take j)
/-- .. and behind the call and the append, ahead of the list's number. -/
structure NuJ (B gs b1 b2 g : Nat) (r : Value) (W0 wr : World) (n x : ByteArray) (l : Bool) (v : Value) (k : List Tr) (ns : List Nd) (K Kj : Nat → Prop) (u uj vk : Value) (DL DLj : List (List Nat)) (LL LLj : List (Nat × Nat)) (MMj : List (ByteArray × ByteArray × Bool × Nat)) (j a : Nat) : Prop where
  bt : Box wr g 39 [.string n, .string x, .bool l, v]
  s : NS B gs b1 b2 r wr uj (pk k (j + 1) ns).1 Kj DLj LLj MMj
  ow : wr.ownsRow (g + 1) 3 1 vk (j + 1) (iv (ins (pk k (j + 1) ns).2))
  fn : FN gs b1 b2 W0 wr u uj
  kn : ∀ b, Kj b → K b ∨ W0.heap.size ≤ b
  fr : ∀ q, (q = g ∨ vk.ownBlock = some q) → ¬ Kj q ∧ uj.ownBlock ≠ some q
  pre : DL <+: DLj
  la : DLj[a]? = some (pk k j ns).2
  ll : LLj.length + 1 ≤ LL.length + Tr.cntL (k.take (j + 1))
section
variable {B gs b1 b2 g : Nat} {r : Value} {W0 wr w1 w2 w3 : World} {n x : ByteArray} {l : Bool} {v : Value} {k : List Tr} {ns : List Nd} {K Kj K' : Nat → Prop} {u uj u' vk : Value} {DL DLj DL' : List (List Nat)} {LL LLj LL' : List (Nat × Nat)} {MMj MM' : List (ByteArray × ByteArray × Bool × Nat)} {j a : Nat}
theorem NuI.lt (h : NuI B gs b1 b2 g r W0 wr n x l v k ns K Kj u uj vk DL DLj LL LLj MMj j a) : ∀ q, (q = g ∨ vk.ownBlock = some q) → g ≤ q ∧ q < wr.heap.size := fun q hq => by
  rcases hq with rfl | hq
  · exact ⟨Nat.le_refl _, h.bt.lt⟩
  · have := World.ownsRow.lt h.ow q hq
    omega
theorem NuI.called (h : NuI B gs b1 b2 g r W0 wr n x l v k ns K Kj u uj vk DL DLj LL LLj MMj j a) (hlt : gs < g ∧ b1 < g ∧ b2 < g) (hf : FN gs b1 b2 wr w1 uj u') (hk : ∀ b, K' b → Kj b ∨ wr.heap.size ≤ b) :
    Box w1 g 39 [.string n, .string x, .bool l, v] ∧ w1.ownsRow (g + 1) 3 1 vk j (iv (ins (pk k j ns).2)) ∧ ∀ q, (q = g ∨ vk.ownBlock = some q) → ¬ K' q ∧ u'.ownBlock ≠ some q := by
  have hb : ∀ q, (q = g ∨ vk.ownBlock = some q) → w1.heap[q]? = wr.heap[q]? := fun q hq => by
    have h1 := h.lt q hq
    exact hf.block q h1.2 (by omega) (by omega) (by omega) (h.fr q hq).2
  refine ⟨h.bt.keep (hb g (.inl rfl)), own_keep1 h.ow (fun q hq => hb q (.inr hq)), fun q hq => ⟨fun e => ?_, fun e => ?_⟩⟩
  · rcases hk q e with e | e
    · exact (h.fr q hq).1 e
    · have := h.lt q hq; omega
  · rcases hf.at' with e1 | ⟨p, e1, hp⟩
    · exact (h.fr q hq).2 (e1 ▸ e)
    · rw [e1] at e
      injection e with e
      have := h.lt q hq
      omega
theorem NuI.appended {q cap : Nat} (h : NuI B gs b1 b2 g r W0 wr n x l v k ns K Kj u uj vk DL DLj LL LLj MMj j a) (hj : j < k.length) (hgz : g = W0.heap.size) (hlt : gs < g ∧ b1 < g ∧ b2 < g)
    (hs : NS B gs b1 b2 r w1 u' (putT k[j] (pk k j ns).1).1 K' DL' LL' MM') (hf : FN gs b1 b2 wr w1 uj u') (hk : ∀ b, K' b → Kj b ∨ wr.heap.size ≤ b) (hp : DLj <+: DL') (hll : LL'.length + 1 ≤ LLj.length + Tr.cnt k[j])
    (o : Obj) (hown : w2.ownsRow (g + 1) 3 1 (.slice (some ⟨q, 0, none⟩) (j + 1) cap) (j + 1) (iv (ins (pk k j ns).2) ++ [.int .i64 ((putT k[j] (pk k j ns).1).2 : Nat)])) (hgr : (w1.alloc o).grownBy w2 vk.ownBlock) (hat : vk.ownBlock = some q ∨ q = w1.heap.size + 1) :
    NuJ B gs b1 b2 g r W0 w2 n x l v k ns K K' u u' (.slice (some ⟨q, 0, none⟩) (j + 1) cap) DL DL' LL LL' MM' j a := by
  obtain ⟨c1, c3, c4⟩ := h.called hlt hf hk
  have hs1 := hf.size
  have hs0 := h.fn.size
  have hsa : (w1.alloc o).heap.size = w1.heap.size + 1 := by simp
  have hs2 := hgr.size
  have hqv : ∀ p, vk.ownBlock = some p → g + 1 ≤ p ∧ p < w1.heap.size := fun p hp => World.ownsRow.lt c3 p hp
  have hblk : ∀ p, p < w1.heap.size → vk.ownBlock ≠ some p → w2.heap[p]? = w1.heap[p]? := fun p hp hne => (hgr.block p (by omega) (fun e => hne e.symm)).trans (blk_alloc_lt _ _ _ hp)
  have hvg : ∀ p, p < g + 1 → vk.ownBlock ≠ some p := fun p hp e => by have := hqv p e; omega
  have e3 := pk_succ hj ns
  have hq2 : g + 1 ≤ q ∧ (vk.ownBlock = some q ∨ w1.heap.size < q + 1) := by
    rcases hat with e | e
    · exact ⟨(hqv q e).1, .inl e⟩
    · have := c1.lt; exact ⟨by omega, .inr (by omega)⟩
  refine ⟨c1.keep (hblk g c1.lt (hvg g (by omega))), ?_, ?_, ?_, ?_, ?_, h.pre.trans hp, pre_at hp h.la, ?_⟩
  · rw [e3]
    refine hs.keep (by omega) (fun p hp hlt' => hblk p hlt' (fun e => ?_))
    have h1 := hqv p e
    rcases hp with rfl | rfl | rfl | hp | hp
    · omega
    · omega
    · omega
    · exact (c4 p (.inr e)).1 hp
    · exact (c4 p (.inr e)).2 hp
  · rw [e3]
    have e4 : iv (ins ((pk k j ns).2 ++ [(putT k[j] (pk k j ns).1).2])) = iv (ins (pk k j ns).2) ++ [.int .i64 ((putT k[j] (pk k j ns).1).2 : Nat)] := by simp [iv, ins]
    rw [e4]
    exact hown
  · refine (h.fn.trans hf).over ⟨hgr.os, hgr.tape, hgr.output, by omega, fun p hp => ?_⟩
    exact hblk p (by omega) (hvg p (by omega))
  · intro b hb
    rcases hk b hb with e | e
    · exact h.kn b e
    · exact .inr (by omega)
  · intro p hp
    have key : (p = g ∨ vk.ownBlock = some p) ∨ w1.heap.size ≤ p := by
      rcases hp with e | e
      · exact .inl (.inl e)
      · simp [Value.ownBlock] at e
        subst e
        rcases hq2.2 with e | e
        · exact .inl (.inr e)
        · exact .inr (by omega)
    rcases key with e | e
    · exact c4 p e
    · exact ⟨fun hb => by have := hs.dn.lt p (.inl hb); omega, fun hb => by have := hs.dn.lt p (.inr hb); omega⟩
  · have h1 := Tr.cntL_take_succ k j hj
    have h2 := h.ll
    omega
theorem NuJ.next {m nn : Nat} (h : NuJ B gs b1 b2 g r W0 wr n x l v k ns K Kj u uj vk DL DLj LL LLj MMj j a) (hj : j < k.length) (hlt : gs < g ∧ b1 < g ∧ b2 < g) (hm : m = (putT k[j] (pk k j ns).1).2) (hk1 : K1 b1 wr w3)
    (hn : ((LLj.map encL)[nn]? = some (encL (a, m)) ∧ Mn w3 b1 122 (LLj.map encL)) ∨ (encL (a, m) ∉ LLj.map encL ∧ nn = (LLj.map encL).length ∧ Mn w3 b1 122 (LLj.map encL ++ [encL (a, m)]))) :
    ∃ DL' LL', NuI B gs b1 b2 g r W0 w3 n x l v k ns K Kj u uj vk DL DL' LL LL' MMj (j + 1) (nn + 1) := by
  obtain ⟨DL', LL', e1, e2, e3, e4⟩ := h.s.list hk1 h.la hn
  have hbq : ∀ q, q < wr.heap.size → g ≤ q → w3.heap[q]? = wr.heap[q]? := fun q hq hg => hk1.block q hq (by omega)
  refine ⟨DL', LL', h.bt.keep (hbq _ h.bt.lt (Nat.le_refl _)), e1, own_keep1 h.ow (fun q hq => ?_), h.fn.trans (FN.map1 hk1), h.kn, h.fr, h.pre.trans e2, ?_, ?_⟩
  · have := World.ownsRow.lt h.ow q hq
    exact hbq q this.2 (by omega)
  · rw [e3, hm, pk_succ hj ns]
  · have := h.ll
    omega
end
/-- What number leaves. -/
def NuR (B gs b1 b2 : Nat) (r : Value) (t : Tr) (ns : List Nd) (K : Nat → Prop) (DL : List (List Nat)) (LL : List (Nat × Nat)) (u : Value) (w : World) (e : Ending) (w' : World) : Prop :=
  ∃ u' K' DL' LL' MM', e = .returned (.int .i64 ((putT t ns).2 : Nat)) ∧ NS B gs b1 b2 r w' u' (putT t ns).1 K' DL' LL' MM' ∧ FN gs b1 b2 w w' u u' ∧ (∀ b, K' b → K b ∨ w.heap.size ≤ b) ∧ DL <+: DL' ∧ LL'.length + 1 ≤ LL.length + t.cnt
end Go.Proofs.Ytofobmdljelmgaa
