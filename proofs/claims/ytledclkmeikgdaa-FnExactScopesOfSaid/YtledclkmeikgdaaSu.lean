import Derived.Test.YtledclkmeikgdaaSr
import Derived.Test.YtledclkmeikgdaaSq
import Derived.Test.YtledclkmeikgdaaSk
/-! The program: a path with one more behind it; what a term comes to, part by part. -/
namespace Go.Proofs.Ytledclkmeikgdaa
open Go.RowKit Go.Deep
open Go.Proofs.Ytledclkmeikgdaa.T (Tr)
set_option linter.unusedVariables false
set_option maxRecDepth 100000
set_option linter.unusedSimpArgs false

theorem St.mono {A q ty : Nat} {w w' : World} {s s' : Sw} {c c' : CV} {T N T' N' : Nat → Prop} (h : St A q ty w s c w' s' c' T N) (hT : ∀ b, T b → T' b) (hN : ∀ b, N b → N' b) : St A q ty w s c w' s' c' T' N' :=
  ⟨h.co, ⟨h.fm.os, h.fm.tape, h.fm.output, h.fm.size, fun b hb hn => h.fm.block b hb (fun e => hn (e.imp id (hT b)))⟩, fun b hb => (h.nb b hb).imp id (Or.imp (hN b) id)⟩
/-- A path with one more behind it. -/
theorem path_push {A q : Nat} {wr w1 w8 : World} {s : Sw} {c : CV} {pv pv' : Value} {p : List Nat} {j : Nat} (hco : Co wr A q 88 s c) (hp : wr.ownsRow A 3 1 pv p.length (nums p)) (hn : ∀ b, pv.ownBlock = some b → ¬ c.B q s b) (hb : Below wr.heap.size wr w1) (h : OneMore A pv pv' p.length (nums p) (.int .i64 (j : Nat)) w1 w8) :
    Co w8 A q 88 s c ∧ w8.ownsRow A 3 1 pv' (p ++ [j]).length (nums (p ++ [j])) ∧ (∀ b, pv'.ownBlock = some b → ¬ c.B q s b) ∧ (∀ b, b < wr.heap.size → pv.ownBlock ≠ some b → w8.heap[b]? = wr.heap[b]?) ∧ wr.heap.size ≤ w8.heap.size ∧
    ∀ w9 s' c', St A q 88 w8 s c w9 s' c' (fun b => pv'.ownBlock = some b) (fun _ => False) → w9.ownsRow A 3 1 pv' (p ++ [j]).length (nums (p ++ [j])) → St A q 88 wr s c w9 s' c' (fun b => pv.ownBlock = some b) (fun _ => False) ∧ w9.ownsRow A 3 1 pv p.length (nums p) := by
  obtain ⟨h1, _, h3, h4⟩ := h
  have hs1 := hb.size
  have hs3 := h3.size
  have hlen : (p ++ [j]).length = p.length + 1 := by simp
  have hblk : ∀ b, b < wr.heap.size → pv.ownBlock ≠ some b → w8.heap[b]? = wr.heap[b]? := fun b h e => (h3.block b (by omega) (fun e2 => e e2.symm)).trans (hb.block b h)
  have hco8 : Co w8 A q 88 s c := hco.keep (fun b hb2 => hblk b (hco.lt b hb2).2 (fun e => hn b e hb2))
  have hpl := World.ownsRow.lt hp
  rw [hlen, nums_app]
  refine ⟨hco8, h1, fun b e e2 => ?_, hblk, by omega, fun w9 s' c' hst hrow => ?_⟩
  · rcases h4 with ⟨h5, _⟩ | ⟨h5, _⟩
    · exact hn b (h5 ▸ e) e2
    · rw [h5] at e
      injection e with e
      have := (hco.lt b e2).2
      omega
  · refine ⟨⟨hst.co, ⟨hst.fm.os.trans (h3.os.trans hb.os), hst.fm.tape.trans (h3.tape.trans hb.tape), hst.fm.output.trans (h3.output.trans hb.output), by have := hst.fm.size; omega, fun b h2 h5 => ?_⟩, fun b hb2 => ?_⟩, ?_⟩
    · refine (hst.fm.block b (by omega) (fun e => ?_)).trans (hblk b h2 (fun e => h5 (.inr e)))
      rcases e with e | e
      · exact h5 (.inl e)
      · rcases h4 with ⟨h6, _⟩ | ⟨h6, _⟩
        · exact h5 (.inr (h6 ▸ e))
        · rw [h6] at e
          injection e with e
          omega
    · rcases hst.nb b hb2 with e | e | e
      · exact .inl e
      · exact e.elim
      · exact .inr (.inr (by omega))
    · rcases h4 with ⟨_, h6⟩ | ⟨h6, h7⟩
      · exact h6 w9 hrow
      · refine own_keep1 hp (fun b e => ?_)
        have hl := (hpl b e).2
        refine (hst.fm.block b (by omega) (fun e2 => ?_)).trans ((h7.block b (by omega) (fun e => by cases e)).trans (hb.block b hl))
        rcases e2 with e2 | e2
        · exact hn b e e2
        · rw [h6] at e2
          injection e2 with e2
          omega
/-- What a term comes to, part by part: itself, what it declares, its Kids. -/
def wS1 (n x : ByteArray) (l : Bool) (sc : Nat) (p : List Nat) (s : Sw) : Sw := if (l && n.toList == T.cId) = true then s.ref sc x p else s
def wS2 (n : ByteArray) (k : List Tr) (sc : Nat) (p : List Nat) (s : Sw) : Sw := if T.dclB n = true then s.dcl (nm0 k) sc p else s
def wN (n : ByteArray) (sc : Nat) (s : Sw) : Nat := if T.dclB n = true then s.n else sc
def wIn (n : ByteArray) (s : Sw) : Nat := if T.dclB n = true then s.n else 0
theorem leaf_dcl {n x : ByteArray} (h : T.tmL n x = true) : T.dclB n = false := by
  unfold T.tmL at h
  unfold T.dclB
  by_cases h1 : n.toList == T.cId
  · rw [T.is_eq h1]; rfl
  by_cases h2 : n.toList == T.cNum
  · rw [T.is_eq h2]; rfl
  by_cases h3 : n.toList == T.cYes
  · rw [T.is_eq h3]; rfl
  by_cases h4 : n.toList == T.cNo
  · rw [T.is_eq h4]; rfl
  rw [if_neg h1, if_neg h2, if_neg h3, if_neg h4] at h
  cases h
theorem leaf_nil {n x : ByteArray} {k : List Tr} (h : Tr.right ⟨n, x, true, k⟩ = true) : k = [] := by
  rw [Tr.right_mk] at h
  simp only [Bool.and_eq_true, Tr.alone, if_true, decide_eq_true_eq] at h
  exact List.eq_nil_of_length_eq_zero h.1.2.1
theorem right_kid {n x : ByteArray} {l : Bool} {k : List Tr} (h : Tr.right ⟨n, x, l, k⟩ = true) (i : Nat) (hi : i < k.length) : k[i].right = true := by
  rw [Tr.right_mk] at h
  simp only [Bool.and_eq_true, Tr.rightL, List.all_eq_true] at h
  exact h.2 _ (List.getElem_mem hi)
theorem swJ_false (sc inn : Nat) (p : List Nat) (k : List Tr) (j : Nat) (s : Sw) : swJ false sc inn p k j s = swJ false sc 0 p k j s := by
  have h : ∀ (gs : List (Nat → List Nat → Sw → Sw)) (i : Nat) (s : Sw), kidS false k.length sc inn p gs i s = kidS false k.length sc 0 p gs i s := by
    intro gs
    induction gs with
    | nil => intro i s; rfl
    | cons g gs ih => intro i s; simp only [kidS, Bool.false_eq_true, false_and, if_false]; exact ih _ _
  exact h _ _ _
theorem sw_parts {n x : ByteArray} {l : Bool} {k : List Tr} (ht : T.tm ⟨n, x, l, k⟩ = true) (hr : Tr.right ⟨n, x, l, k⟩ = true) (sc : Nat) (p : List Nat) (s : Sw) :
    sw ⟨n, x, l, k⟩ sc p s = swJ (T.dclB n) sc (wIn n s) p k k.length (wS2 n k sc p (wS1 n x l sc p s)) := by
  rw [sw_mk]
  cases l
  · rw [if_neg (by simp)]
    have h1 : wS1 n x false sc p s = s := by unfold wS1; simp
    rw [h1]
    unfold wS2 wIn
    cases T.dclB n
    · rw [if_neg (by simp), if_neg (by simp), swJ_all]
      simp
    · rw [if_pos rfl, if_pos rfl, swJ_all]
      simp
  · obtain rfl := leaf_nil hr
    rw [T.tm_mk, if_pos rfl] at ht
    rw [if_pos rfl]
    unfold wS2 wIn wS1
    rw [leaf_dcl ht]
    simp only [Bool.true_and, Bool.false_eq_true, if_false]
    rfl
/-- How many Kids there are. -/
theorem dcl_kids {n x : ByteArray} {l : Bool} {k : List Tr} (ht : T.tm ⟨n, x, l, k⟩ = true) (hd : T.dclB n = true) : l = false ∧ 2 ≤ k.length ∧ k.length ≤ 3 := by
  cases l
  · have hn : T.kdN n ≠ none := fun e => by
      rw [T.tm_mk, e] at ht
      simp at ht
    obtain ⟨⟨m, d⟩, hmd⟩ := Option.ne_none_iff_exists'.1 hn
    obtain ⟨h1, _, _⟩ := tm_node hmd ht
    obtain ⟨_, h2, h3⟩ := T.kd_dcl hmd
    exact ⟨rfl, by omega, by omega⟩
  · rw [T.tm_mk, if_pos rfl] at ht
    rw [leaf_dcl ht] at hd
    cases hd
theorem few_kids {n x : ByteArray} {l : Bool} {k : List Tr} (ht : T.tm ⟨n, x, l, k⟩ = true) (hr : Tr.right ⟨n, x, l, k⟩ = true) : k.length ≤ 3 ∧ ∀ i (hi : i < k.length), T.tm k[i] = true := by
  cases l
  · have hn : T.kdN n ≠ none := fun e => by
      rw [T.tm_mk, e] at ht
      simp at ht
    obtain ⟨⟨m, d⟩, hmd⟩ := Option.ne_none_iff_exists'.1 hn
    obtain ⟨h1, h2, _⟩ := tm_node hmd ht
    obtain ⟨_, h4, h3⟩ := T.kd_dcl hmd
    exact ⟨by omega, h2⟩
  · obtain rfl := leaf_nil hr
    exact ⟨by simp, fun i hi => absurd hi (by simp)⟩
theorem lo_le {n x : ByteArray} {l : Bool} {k : List Tr} (ht : T.tm ⟨n, x, l, k⟩ = true) : loF n ≤ k.length := by
  unfold loF
  split
  · rename_i h
    have := (dcl_kids ht h).2.1
    omega
  · omega
theorem s2_sz {n x : ByteArray} {l : Bool} {k : List Tr} (ht : T.tm ⟨n, x, l, k⟩ = true) (sc : Nat) (p : List Nat) (s : Sw) : (wS2 n k sc p (wS1 n x l sc p s)).sz ≤ s.sz + 4 := by
  unfold wS2
  split
  · rename_i hd
    obtain ⟨rfl, _⟩ := dcl_kids ht hd
    rw [dcl_sz]
    unfold wS1
    simp
  · unfold wS1
    split
    · rw [ref_sz]; omega
    · omega
/-- Behind so many rounds. -/
def fS (n : ByteArray) (k : List Tr) (sc inn : Nat) (p : List Nat) (s2 : Sw) (j : Nat) : Sw := swJ (T.dclB n) sc inn p k (loF n + j) s2
theorem fS_zero (n : ByteArray) (k : List Tr) (sc inn : Nat) (p : List Nat) (s2 : Sw) : fS n k sc inn p s2 0 = s2 := by
  unfold fS loF
  cases T.dclB n
  · rfl
  · simp only [if_true]
    exact swJ_one _ _ _ _ _
theorem fS_succ {n : ByteArray} {k : List Tr} {sc inn j x : Nat} {p : List Nat} {s2 : Sw} (hx : x = loF n + j) (hk : x < k.length) : fS n k sc inn p s2 (j + 1) = sw k[x] (if inS n k.length x = true then inn else sc) (p ++ [x]) (fS n k sc inn p s2 j) := by
  unfold fS
  have e : loF n + (j + 1) = x + 1 := by omega
  rw [e, swJ_succ hk (by
    rintro ⟨hd, h0⟩
    unfold loF at hx
    rw [if_pos hd] at hx
    omega), ← hx]
  congr 1
  unfold inS
  simp only [Bool.and_eq_true, decide_eq_true_eq]
theorem fS_all {n : ByteArray} {k : List Tr} {sc inn : Nat} {p : List Nat} {s2 : Sw} (h : loF n ≤ k.length) : fS n k sc inn p s2 (k.length - loF n) = swJ (T.dclB n) sc inn p k k.length s2 := by
  unfold fS
  rw [show loF n + (k.length - loF n) = k.length by omega]
theorem fS_sz {n : ByteArray} {k : List Tr} {sc inn j x : Nat} {p : List Nat} {s2 : Sw} (hx : x = loF n + j) (hk : x < k.length) : (fS n k sc inn p s2 j).sz + 4 * (k[x]).cnt ≤ s2.sz + 4 * Tr.cntL k := by
  unfold fS
  have h1 := swJ_sz (T.dclB n) sc inn p k s2 x (by omega)
  have h2 := Tr.cntL_take_succ k x hk
  have h3 := Tr.cntL_take_le k (x + 1)
  rw [← hx]
  omega
theorem deepL_at (k : List Tr) (i : Nat) (hi : i < k.length) : (k[i]).deep ≤ Tr.deepL k := by
  have h1 := Tr.deepL_take_succ k i hi
  have h2 := Tr.deepL_take_le k (i + 1)
  omega
end Go.Proofs.Ytledclkmeikgdaa
