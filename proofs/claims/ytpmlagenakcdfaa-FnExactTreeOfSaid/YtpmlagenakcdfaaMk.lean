import Derived.Test.YtpmlagenakcdfaaDd
import Derived.Test.YtpmlagenakcdfaaEq
import Derived.Lib.Strings
/-! Derivations: how the Kids of the specification's tree, and of the program's, come together. -/
namespace Go.Proofs.Ytpmlagenakcdfaa
open Go.RowKit Go.Deep
set_option linter.unusedVariables false
set_option maxRecDepth 100000
set_option linter.unusedSimpArgs false

theorem atP_prefix {d : Bn} {L : List Int} {f a i x : Nat} (h : atP d L f a i = some x) : ∀ i', i' ≤ i → ∃ y, atP d L f a i' = some y := fun i' hi => by
  cases e : atP d L f a i' with
  | some y => exact ⟨y, rfl⟩
  | none =>
    exfalso
    unfold atP at h e
    have : (pa d L a).right.take i = (pa d L a).right.take i' ++ ((pa d L a).right.take i).drop i' := by
      have h2 := (List.take_append_drop i' ((pa d L a).right.take i)).symm
      rw [List.take_take, Nat.min_eq_left hi] at h2
      exact h2
    rw [this, rdk_append, e] at h
    cases h
theorem cn_mono (T : Nat) (ss : List Int) {i j : Nat} (h : i ≤ j) : cn T (ss.take i) ≤ cn T (ss.take j) := by
  have : ss.take i = (ss.take j).take i := by rw [List.take_take, Nat.min_eq_left h]
  rw [this]
  exact (List.take_sublist _ _).countP_le
theorem cn_lt {T : Nat} {ss : List Int} {i j : Nat} (hi : i < ss.length) (hn : ¬ ss[i] < (T : Int)) (h : i < j) : cn T (ss.take i) < cn T (ss.take j) := by
  have h1 := cn_take T ss i hi
  rw [if_neg hn] at h1
  have h2 := cn_mono T ss (show i + 1 ≤ j from h)
  omega
theorem add0 (g j : Nat) : (⟨g, 0, none⟩ : Addr).add j = ⟨g, j, none⟩ := by
  unfold Addr.add
  split <;> simp_all
/-- The cells of Kids, one behind the other. -/
def kf (L : List Int) (ks : List (Nat × Value)) : List Value := ks.flatMap (fun p => [.int .i64 (numAt L p.1), p.2])
theorem kf_len (L : List Int) (ks : List (Nat × Value)) : (kf L ks).length = ks.length * 2 := by
  induction ks with
  | nil => rfl
  | cons p ks ih => simp only [kf, List.flatMap_cons, List.length_append, List.length_cons, List.length_nil] at ih ⊢; omega
theorem kf_append (L : List Int) (ks ls : List (Nat × Value)) : kf L (ks ++ ls) = kf L ks ++ kf L ls := by simp [kf]
theorem kf_get (L : List Int) : ∀ (ks : List (Nat × Value)) (i : Nat) (p : Nat × Value), ks[i]? = some p → (kf L ks)[i * 2]? = some (.int .i64 (numAt L p.1)) ∧ (kf L ks)[i * 2 + 1]? = some p.2
  | [], i, p, h => by simp at h
  | q :: ks, 0, p, h => by
    simp only [List.getElem?_cons_zero, Option.some.injEq] at h
    subst h
    exact ⟨rfl, rfl⟩
  | q :: ks, i + 1, p, h => by
    have h' : ks[i]? = some p := by simpa using h
    obtain ⟨h1, h2⟩ := kf_get L ks i p h'
    have e : kf L (q :: ks) = .int .i64 (numAt L q.1) :: q.2 :: kf L ks := rfl
    rw [e]
    have e1 : (i + 1) * 2 = i * 2 + 1 + 1 := by omega
    rw [e1]
    exact ⟨by simpa using h1, by simpa using h2⟩
/-- The Kids of the first i symbols. -/
structure KS (d : Bn) (L : List Int) (w : World) (K : Nat → Prop) (f a i : Nat) (ks : List (Nat × Value)) : Prop where
  len : ks.length = cn d.terms.length ((pa d L a).right.take i)
  all : ∀ i' (hi : i' < (pa d L a).right.length), i' < i → ¬ (pa d L a).right[i'] < (d.terms.length : Int) → ∃ y v, ks[cn d.terms.length ((pa d L a).right.take i')]? = some (y, v) ∧ atP d L f a i' = some y ∧ SP d L w K f y v
theorem KS.nil (d : Bn) (L : List Int) (w : World) (K : Nat → Prop) (f a : Nat) : KS d L w K f a 0 [] := ⟨by simp [cn], fun i' _ h => absurd h (Nat.not_lt_zero _)⟩
theorem KS.keep {d : Bn} {L : List Int} {w w' : World} {K : Nat → Prop} {f a i : Nat} {ks : List (Nat × Value)} (h : KS d L w K f a i ks) (hb : ∀ b, K b → b < w.heap.size → w'.heap[b]? = w.heap[b]?) : KS d L w' K f a i ks :=
  ⟨h.len, fun i' hi h1 h2 => by obtain ⟨y, v, e1, e2, e3⟩ := h.all i' hi h1 h2; exact ⟨y, v, e1, e2, SP.keep hb _ _ _ e3⟩⟩
theorem KS.mono {d : Bn} {L : List Int} {w : World} {K K' : Nat → Prop} {f a i : Nat} {ks : List (Nat × Value)} (h : KS d L w K f a i ks) (hK : ∀ b, K b → K' b) : KS d L w K' f a i ks :=
  ⟨h.len, fun i' hi h1 h2 => by obtain ⟨y, v, e1, e2, e3⟩ := h.all i' hi h1 h2; exact ⟨y, v, e1, e2, SP.mono hK _ _ _ e3⟩⟩
theorem KS.term {d : Bn} {L : List Int} {w : World} {K : Nat → Prop} {f a i : Nat} {ks : List (Nat × Value)} (h : KS d L w K f a i ks) (hi : i < (pa d L a).right.length) (ht : (pa d L a).right[i] < (d.terms.length : Int)) : KS d L w K f a (i + 1) ks :=
  ⟨by have := cn_take d.terms.length (pa d L a).right i hi; rw [if_pos ht] at this; rw [this]; exact h.len, fun i' hi' h1 h2 => by
    by_cases e : i' = i
    · subst e; exact absurd ht h2
    · exact h.all i' hi' (by omega) h2⟩
theorem KS.non {d : Bn} {L : List Int} {w : World} {K : Nat → Prop} {f a i x : Nat} {v : Value} {ks : List (Nat × Value)} (h : KS d L w K f a i ks) (hi : i < (pa d L a).right.length) (ht : ¬ (pa d L a).right[i] < (d.terms.length : Int)) (hx : atP d L f a i = some x) (hv : SP d L w K f x v) : KS d L w K f a (i + 1) (ks ++ [(x, v)]) :=
  ⟨by have := cn_take d.terms.length (pa d L a).right i hi; rw [if_neg ht] at this; rw [this, List.length_append, h.len]; rfl, fun i' hi' h1 h2 => by
    by_cases e : i' = i
    · subst e
      exact ⟨x, v, by rw [← h.len]; simp, hx, hv⟩
    · obtain ⟨y, u, e1, e2, e3⟩ := h.all i' hi' (by omega) h2
      have hlt := cn_lt hi' h2 (show i' < i by omega)
      exact ⟨y, u, by rw [List.getElem?_append_left (by rw [h.len]; exact hlt)]; exact e1, e2, e3⟩⟩
/-- All of them: the tree. -/
theorem KS.tree {d : Bn} {L : List Int} {w : World} {K : Nat → Prop} {f a B x : Nat} {u : Value} {ks : List (Nat × Value)} (h : KS d L w K f a (pa d L a).right.length ks) (hx : atP d L f a (pa d L a).right.length = some x) (ho : w.ownsRow B 64 2 u ks.length (kf L ks)) (hK : ∀ k, u.ownBlock = some k → K k) : SP d L w K (f + 1) a u := by
  have hl := h.len
  rw [List.take_length] at hl
  obtain ⟨ka, kc, kb, hle, rfl, hblk⟩ : ∃ (ka : Option Addr) (kc kb : Nat), ks.length ≤ kc ∧ u = .slice ka ks.length kc ∧ (0 < ks.length → ka = some ⟨kb, 0, none⟩) := by
    rcases ho.2 with ⟨h0, h1⟩ | ⟨g, cp, cur, r1, r2, r3, r4, r5, r6⟩
    · exact ⟨none, 0, 0, by omega, by rw [h0, h1], fun h => by omega⟩
    · exact ⟨_, cp, g, by omega, r1, fun _ => rfl⟩
  refine ⟨kb, kc, ka, fun i => ((ks[cn d.terms.length ((pa d L a).right.take i)]?).getD (0, .nilFunc)).2, fun i => (atP d L f a i).getD 0, by rw [hl], by rw [← hl]; exact hle, fun h0 => ?_, fun i hi => ?_⟩
  · have e := hblk (by omega)
    exact ⟨e, hK kb (by rw [e]; rfl)⟩
  · obtain ⟨y, hy⟩ := atP_prefix hx i (by omega)
    dsimp only
    refine ⟨by rw [hy]; rfl, fun hn => ?_⟩
    obtain ⟨y', v, e1, e2, e3⟩ := h.all i hi hi hn
    have hyy : y = y' := by rw [hy] at e2; simpa using e2
    subst hyy
    rw [hy, e1]
    have hp : 0 < ks.length := by rw [hl]; exact cn_pos hi hn
    have e := hblk hp
    obtain ⟨g1, g2⟩ := kf_get L ks _ _ e1
    have c1 := World.ownsRow.cells ho (g := kb) (by rw [e]; rfl) _ _ g1
    have c2 := World.ownsRow.cells ho (g := kb) (by rw [e]; rfl) _ _ g2
    rw [add0] at c1 c2
    exact ⟨c1, c2, e3⟩
/-- The program's Kids of the first i symbols. -/
structure DS (d : Bn) (L : List Int) (w : World) (K : Nat → Prop) (f a i : Nat) (vs : List Value) : Prop where
  len : vs.length = i
  all : ∀ i' (hi : i' < (pa d L a).right.length) (h2 : i' < vs.length), ((pa d L a).right[i'] < (d.terms.length : Int) → vs[i'] = .pointer none) ∧ (¬ (pa d L a).right[i'] < (d.terms.length : Int) → ∃ y, atP d L f a i' = some y ∧ DP d L w K f y vs[i'])
theorem DS.nil (d : Bn) (L : List Int) (w : World) (K : Nat → Prop) (f a : Nat) : DS d L w K f a 0 [] := ⟨rfl, fun i' _ h => absurd h (Nat.not_lt_zero _)⟩
theorem DS.keep {d : Bn} {L : List Int} {w w' : World} {K : Nat → Prop} {f a i : Nat} {vs : List Value} (h : DS d L w K f a i vs) (hb : ∀ b, K b → b < w.heap.size → w'.heap[b]? = w.heap[b]?) : DS d L w' K f a i vs :=
  ⟨h.len, fun i' hi h2 => ⟨(h.all i' hi h2).1, fun hn => by obtain ⟨y, e1, e2⟩ := (h.all i' hi h2).2 hn; exact ⟨y, e1, DP.keep hb _ _ _ e2⟩⟩⟩
theorem DS.mono {d : Bn} {L : List Int} {w : World} {K K' : Nat → Prop} {f a i : Nat} {vs : List Value} (h : DS d L w K f a i vs) (hK : ∀ b, K b → K' b) : DS d L w K' f a i vs :=
  ⟨h.len, fun i' hi h2 => ⟨(h.all i' hi h2).1, fun hn => by obtain ⟨y, e1, e2⟩ := (h.all i' hi h2).2 hn; exact ⟨y, e1, DP.mono hK _ _ _ e2⟩⟩⟩
theorem DS.next {d : Bn} {L : List Int} {w : World} {K : Nat → Prop} {f a i x : Nat} {v : Value} {vs : List Value} (h : DS d L w K f a i vs) (hi : i < (pa d L a).right.length) (hx : atP d L f a i = some x) (h1 : (pa d L a).right[i] < (d.terms.length : Int) → v = .pointer none) (h2 : ¬ (pa d L a).right[i] < (d.terms.length : Int) → DP d L w K f x v) : DS d L w K f a (i + 1) (vs ++ [v]) :=
  ⟨by simp [h.len], fun i' hi' hl => by
    by_cases e : i' < vs.length
    · rw [List.getElem_append_left e]
      exact h.all i' hi' e
    · have e2 : i' = i := by have := h.len; simp at hl; omega
      subst e2
      have e3 : (vs ++ [v])[i']'hl = v := by rw [List.getElem_append_right (by omega)]; simp [h.len]
      rw [e3]
      exact ⟨h1, fun hn => ⟨x, hx, h2 hn⟩⟩⟩
theorem DS.tree {d : Bn} {L : List Int} {w : World} {K : Nat → Prop} {f a B x g : Nat} {u : Value} {vs : List Value} (h : DS d L w K f a (pa d L a).right.length vs) (hx : atP d L f a (pa d L a).right.length = some x) (ho : w.ownsRow B 71 1 u vs.length vs) (hK : ∀ k, u.ownBlock = some k → K k) (hg : K g) (h0 : w.cell? ⟨g, 0, none⟩ = some (.int .i64 (numAt L a))) (h1 : w.cell? ⟨g, 1, none⟩ = some u) (hn2 : ∃ n : Int, w.cell? ⟨g, 2, none⟩ = some (.int .i64 n) ∧ 0 ≤ n ∧ n ≤ 1073741825) : DP d L w K (f + 1) a (.pointer (some ⟨g, 0, none⟩)) := by
  have hl := h.len
  obtain ⟨ka, kc, kb, hle, rfl, hblk⟩ : ∃ (ka : Option Addr) (kc kb : Nat), vs.length ≤ kc ∧ u = .slice ka vs.length kc ∧ (0 < vs.length → ka = some ⟨kb, 0, none⟩) := by
    rcases ho.2 with ⟨h0, h1⟩ | ⟨g, cp, cur, r1, r2, r3, r4, r5, r6⟩
    · exact ⟨none, 0, 0, by omega, by rw [h0, h1], fun h => by omega⟩
    · exact ⟨_, cp, g, by omega, r1, fun _ => rfl⟩
  rw [hl] at h1 hle hblk
  refine ⟨g, kb, kc, ka, fun i => vs.getD i .nilFunc, fun i => (atP d L f a i).getD 0, rfl, hg, h0, h1, hle, fun hp => ⟨hblk hp, hK kb (by rw [hblk hp]; rfl)⟩, fun i hi => ?_, hn2⟩
  obtain ⟨y, hy⟩ := atP_prefix hx i (by omega)
  have hi2 : i < vs.length := by omega
  have e := hblk (by omega)
  have c1 := World.ownsRow.cells ho (g := kb) (by rw [e]; rfl) i vs[i] (by simp [hi2])
  rw [add0] at c1
  have eg : vs.getD i .nilFunc = vs[i] := by simp [List.getD_eq_getElem?_getD, hi2]
  dsimp only
  refine ⟨by rw [hy]; rfl, by rw [eg]; exact c1, fun ht => by rw [eg]; exact (h.all i hi hi2).1 ht, fun hn => ?_⟩
  obtain ⟨y', e1, e2⟩ := (h.all i hi hi2).2 hn
  rw [e1, eg]
  exact e2
end Go.Proofs.Ytpmlagenakcdfaa

/-! What is marked: all but a range is as it was; a mark's text. -/
namespace Go.Proofs.Ytpmlagenakcdfaa
open Go.RowKit Go.Deep Go.Lib
set_option linter.unusedVariables false
set_option maxRecDepth 100000
set_option linter.unusedSimpArgs false

/-- All blocks that were there, but those of the range, are as they were. -/
def Out (lo hi : Nat) (w w' : World) : Prop := w'.os = w.os ∧ w'.tape = w.tape ∧ w'.output = w.output ∧ w.heap.size ≤ w'.heap.size ∧ ∀ k, k < w.heap.size → (k < lo ∨ hi ≤ k) → w'.heap[k]? = w.heap[k]?
theorem Out.refl (lo hi : Nat) (w : World) : Out lo hi w w := ⟨rfl, rfl, rfl, Nat.le_refl _, fun _ _ _ => rfl⟩
theorem Out.trans {lo hi : Nat} {a b c : World} (h : Out lo hi a b) (g : Out lo hi b c) : Out lo hi a c :=
  ⟨g.1.trans h.1, g.2.1.trans h.2.1, g.2.2.1.trans h.2.2.1, Nat.le_trans h.2.2.2.1 g.2.2.2.1, fun k hk hr => (g.2.2.2.2 k (Nat.lt_of_lt_of_le hk h.2.2.2.1) hr).trans (h.2.2.2.2 k hk hr)⟩
theorem Out.of_below {lo hi : Nat} {a b : World} (h : Below a.heap.size a b) : Out lo hi a b := ⟨h.os, h.tape, h.output, h.size, fun k hk _ => h.block k hk⟩
theorem Out.set {lo hi p o : Nat} (w : World) (u : Value) (h1 : lo ≤ p) (h2 : p < hi) : Out lo hi w (w.setCell ⟨p, o, none⟩ u) :=
  ⟨rfl, rfl, rfl, by simp [World.setCell], fun k _ hr => blk_setCell_other _ _ _ _ (by show k ≠ p; omega)⟩
theorem Out.mono {lo hi lo' hi' : Nat} {w w' : World} (h : Out lo hi w w') (h1 : lo' ≤ lo) (h2 : hi ≤ hi') : Out lo' hi' w w' :=
  ⟨h.1, h.2.1, h.2.2.1, h.2.2.2.1, fun k hk hr => h.2.2.2.2 k hk (by omega)⟩

/-- Bytes as values. -/
def bs (l : List UInt8) : ByteArray := ⟨l.toArray⟩
def bc (l : List UInt8) : List Value := l.map fun b => Value.int .u8 b.toNat
theorem bc_length (l : List UInt8) : (bc l).length = l.length := by simp [bc]
theorem bs_append (x y : List UInt8) : bs x ++ bs y = bs (x ++ y) := ByteArray.mk_append_mk x y
theorem bs_size (l : List UInt8) : (bs l).size = l.length := by show l.toArray.size = _; simp
theorem push_all (l : List UInt8) : ∀ s : ByteArray, (l.map fun b => ((b.toNat : Nat) : Int)).foldl (fun r n => r.push (UInt8.ofNat n.toNat)) s = s ++ bs l := by
  induction l with
  | nil => intro s; apply ByteArray.ext; simp [bs]
  | cons c r ih =>
    intro s
    simp only [List.map_cons, List.foldl_cons]
    rw [ih]
    have e : s.push (UInt8.ofNat ((c.toNat : Int)).toNat) = s ++ bs [c] := by
      simp only [Int.toNat_natCast, UInt8.ofNat_toNat]
      apply ByteArray.ext
      simp [bs]
    rw [e, ByteArray.append_assoc, bs_append]
    rfl

theorem conv_own {B : Nat} {w : World} {v : Value} {l : List UInt8} (h : w.ownsRow B 5 1 v l.length (bc l)) : (convert 153 9 v).run Try.prog w = .ok (.string (bs l)) w := by
  obtain ⟨hl, h⟩ := h
  rcases h with ⟨rfl, h0⟩ | ⟨g, cap, cur, rfl, _, hg, hc, _, hsz, htk⟩
  · have hl0 : l = [] := List.length_eq_zero_iff.1 h0
    subst hl0
    rw [run_convert_bytes_string w 153 9 5 none 0 0 Try.underlying153 Try.underlying5 Try.underlying9]
    simp [Conv.bytesToString, bs, Sem.run_pure]
    rfl
  · rw [run_convert_bytes_string w 153 9 5 _ _ _ Try.underlying153 Try.underlying5 Try.underlying9]
    have hload : (loadCells ⟨g, 0, none⟩ l.length).run Try.prog w = .ok ((l.map fun b => ((b.toNat : Nat) : Int)).map (Value.int .u8)).toArray w := by
      have e : ((l.map fun b => ((b.toNat : Nat) : Int)).map (Value.int .u8)) = bc l := by simp [bc, Function.comp_def]
      rw [e]
      have := run_loadCells_list (P := Try.prog) w ⟨g, 0, none⟩ (bc l) (fun j u hu => by
        rw [WideShapes.add_plain, Nat.zero_add, cell_of_row w g j cur 5 (0, 0) hg]
        rw [← htk] at hu
        rw [List.getElem?_take] at hu
        split at hu
        · simpa using hu
        · simp at hu)
      rw [bc_length] at this
      exact this
    rw [run_bytesToString w ⟨g, 0, none⟩ l.length cap _ hload, push_all]
    simp [bs]

/-- A digit, as a byte. -/
def dg (q : Nat) : UInt8 := UInt8.ofNat (48 + q % 10)
theorem dg_nat (q : Nat) : (dg q).toNat = 48 + q % 10 := by
  unfold dg
  rw [UInt8.toNat_ofNat']
  omega
/-- The digits of a number ahead of a text, with fuel. -/
def dgF : Nat → Nat → List UInt8 → List UInt8
  | 0, _, l => l
  | f + 1, q, l => if q = 0 then l else dgF f (q / 10) (dg q :: l)
theorem dgF_step {f q : Nat} {l : List UInt8} (hq : 0 < q) : dgF (f + 1) q l = dgF f (q / 10) (dg q :: l) := by
  show (if q = 0 then l else _) = _
  rw [if_neg (by omega)]
theorem dgF_zero (f : Nat) (l : List UInt8) : dgF f 0 l = l := by
  cases f <;> rfl
theorem dgF_fuel : ∀ (f g q : Nat) (l : List UInt8), q ≤ f → q ≤ g → dgF f q l = dgF g q l := by
  intro f
  induction f with
  | zero =>
    intro g q l hf hg
    obtain rfl : q = 0 := by omega
    rw [dgF_zero, dgF_zero]
  | succ f ih =>
    intro g q l hf hg
    by_cases hq : q = 0
    · subst hq; rw [dgF_zero, dgF_zero]
    · cases g with
      | zero => omega
      | succ g => rw [dgF_step (by omega), dgF_step (by omega)]; exact ih g _ _ (by omega) (by omega)
/-- What a thing is marked with. -/
def mt (k : Nat) : ByteArray := bs (109 :: dgF k k [])

theorem conv_one (q : Nat) (w : World) : (convert 153 9 (.slice (some ⟨w.heap.size, 0, none⟩) 1 1)).run Try.prog (w.alloc (.cells #[.int .u8 (48 + (q : Int) % 10)] 5)) = .ok (.string (bs [dg q])) (w.alloc (.cells #[.int .u8 (48 + (q : Int) % 10)] 5)) := by
  have h := World.ownsRow_lit (base := w.heap.size) (e := 5) (size := 1) w #[.int .u8 (48 + (q : Int) % 10)] 1 (Nat.le_refl _) (by unfold maxLen; omega) rfl
  refine conv_own (B := w.heap.size) (l := [dg q]) ?_
  have e : bc [dg q] = [.int .u8 (48 + (q : Int) % 10)] := by
    simp only [bc, List.map_cons, List.map_nil, dg_nat]
    congr 2
    all_goals omega
  rw [e]
  exact h

theorem val_int {a b : Int} (h : a = b) : Value.int .i64 a = .int .i64 b := by rw [h]
theorem dgF_len : ∀ (f q : Nat) (l : List UInt8), q ≤ 1125899906842624 → ∀ m, q < 10 ^ m → (dgF f q l).length ≤ l.length + m := by
  intro f
  induction f with
  | zero => intro q l _ m _; show l.length ≤ _; omega
  | succ f ih =>
    intro q l hq m hm
    by_cases h : q = 0
    · subst h; rw [dgF_zero]; omega
    · rw [dgF_step (by omega)]
      cases m with
      | zero => simp at hm; omega
      | succ m =>
        have h1 := ih (q / 10) (dg q :: l) (by omega) m (by rw [Nat.pow_succ] at hm; omega)
        simp only [List.length_cons] at h1
        omega
theorem mt_size {k : Nat} (hk : k ≤ 1125899906842624) : (mt k).size ≤ 20 := by
  unfold mt
  rw [bs_size]
  have := dgF_len k k [] hk 16 (by omega)
  simp only [List.length_cons, List.length_nil] at this ⊢
  omega
theorem pow_step {p q k : Nat} (h : p * q ≤ k) : p * 2 * (q / 10) ≤ k := by
  have h1 : 2 * (q / 10) ≤ q := by omega
  have h2 : p * (2 * (q / 10)) ≤ p * q := Nat.mul_le_mul_left p h1
  rw [Nat.mul_assoc]
  omega
theorem pow_len {n q k : Nat} (h : 2 ^ n * q ≤ k) (hq : 0 < q) (hk : k ≤ 1125899906842624) : n ≤ 50 := by
  have h1 : 2 ^ n * 1 ≤ 2 ^ n * q := Nat.mul_le_mul_left _ hq
  have h2 : 2 ^ n ≤ 2 ^ 50 := by
    have : (2 : Nat) ^ 50 = 1125899906842624 := by decide
    omega
  exact (Nat.pow_le_pow_iff_right (by omega)).1 h2
set_option maxHeartbeats 800000 in
theorem markText_nat (k : Nat) (h0 : 0 < k) (hk : k ≤ 1125899906842624) (w : World) :
    Calls Try.prog 60 #[.int .i64 k] w fun e w' => e = .returned (.string (mt k)) ∧ Below w.heap.size w w' := by
  go_enter Try.func60, Try.ntmps60
  go_wp2_with fail
  go_loopw [0, 3] (fun u o wr => ∃ (q : Nat) (l : List UInt8), u = .int .i64 q ∧ o = .string (bs l) ∧ l.length ≤ 51 ∧ q ≤ k ∧ Hid (2 ^ l.length * q ≤ k ∧ dgF q q l = dgF k k []) ∧ Below w.heap.size w wr) (fun u _ _ => (intOf u).toNat)
  case atStart => exact ⟨k, [], rfl, rfl, by simp, Nat.le_refl _, ⟨by simp, rfl⟩, Below.refl _ _⟩
  case round =>
    obtain ⟨q, l, rfl, rfl, hl, hqk, HD, hbw⟩ := hrel
    by_cases hq : 0 < q
    · have hcv := conv_one q wr
      have hl50 : l.length ≤ 50 := pow_len HD.out.1 hq hk
      have hs1 : (bs [dg q]).size = 1 := bs_size _
      have hs2 : (bs l).size ≤ 51 := by rw [bs_size]; omega
      have eA : bs [dg q] ++ bs l = bs (dg q :: l) := by rw [bs_append]; rfl
      have hb2 : Below w.heap.size w (wr.alloc (.cells #[.int .u8 (48 + (q : Int) % 10)] 5)) := bel_trans hbw (bel_alloc _ _)
      have hd : dgF (q / 10) (q / 10) (dg q :: l) = dgF q q l := by
        obtain ⟨p, rfl⟩ : ∃ p, q = p + 1 := ⟨q - 1, by omega⟩
        rw [dgF_step (by omega)]
        exact dgF_fuel _ _ _ _ (by omega) (by omega)
      have hp : 2 ^ (dg q :: l).length * (q / 10) ≤ k := by
        rw [List.length_cons, Nat.pow_succ]
        exact pow_step HD.out.1
      have HE := (show Hid _ from (⟨eA, hd, hp⟩ : _ ∧ _ ∧ _)); clear eA hd hp
      have hdv : (q : Int) / 10 = ((q / 10 : Nat) : Int) := by omega
      have HV := (show Hid _ from hdv); clear hdv
      generalize hS : bs l = sL at *
      generalize hT : bs [dg q] = sD at *
      have HST := (show Hid _ from (⟨hS, hT⟩ : _ ∧ _)); clear hS hT
      have hs1' : sD.size ≤ 1 := by omega
      clear hs1
      go_wp2_with fail
      refine ⟨⟨q / 10, dg q :: l, val_int HV.out, ?_, by simp; omega, by omega, ⟨HE.out.2.2, ?_⟩, hb2⟩, ?_⟩
      · rw [← HE.out.1]
      · exact HE.out.2.1.trans HD.out.2
      · rw [HV.out]; simp [intOf]; omega
    · have hs2 : (bs l).size ≤ 51 := by rw [bs_size]; omega
      have e1 : mt k = bs [109] ++ bs l := by
        unfold mt
        rw [← HD.out.2, show q = 0 by omega, dgF_zero, bs_append]
        rfl
      have HE := (show Hid _ from e1); clear e1
      go_wp2_with fail
      go_ret
      exact ⟨by rw [HE.out]; rfl, hbw⟩
/-- The same, of a number as it stands in the walk. -/
theorem markText_any (k : Int) (w : World) (h0 : 0 < k) (hk : k ≤ 1125899906842624) :
    Calls Try.prog 60 #[.int .i64 k] w fun e w' => ∃ s, e = .returned (.string s) ∧ s = mt k.toNat ∧ Below w.heap.size w w' := by
  obtain ⟨n, rfl⟩ := Int.eq_ofNat_of_zero_le (Int.le_of_lt h0)
  refine (markText_nat n (by omega) (by omega) w).mono ?_
  rintro e w' ⟨rfl, hb⟩
  exact ⟨_, rfl, by simp, hb⟩
end Go.Proofs.Ytpmlagenakcdfaa
