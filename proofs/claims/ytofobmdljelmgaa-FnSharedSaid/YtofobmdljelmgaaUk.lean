import Derived.Test.YtofobmdljelmgaaUi
import Derived.Test.YtofobmdljelmgaaUg
import Derived.Test.YtofobmdljelmgaaIs
import Derived.Defers
import Derived.Recover
import Derived.KernelRfl
import Derived.Laws.OwnMore
/-! The program's Unshare: what it is caught by, and what Share gives as it is read. -/
namespace Go.Proofs.Ytofobmdljelmgaa
open Go.RowKit Go.Deep Go.Lib
set_option linter.unusedVariables false
set_option maxRecDepth 100000
set_option linter.unusedSimpArgs false

/-- Names and texts of nodes are not too long. -/
def szN (ns : List Nd) : Prop := ∀ n ∈ ns, n.nm.size ≤ maxLen ∧ n.tx.size ≤ maxLen
theorem put1_sz {ns : List Nd} {n : Nd} (h : szN ns) (hn : n.nm.size ≤ maxLen ∧ n.tx.size ≤ maxLen) : szN (put1 ns n).1 := by
  unfold put1
  split
  · exact h
  · intro m hm
    rcases List.mem_append.1 hm with e | e
    · exact h m e
    · rw [List.mem_singleton.1 e]; exact hn
theorem putK_sz : ∀ (k : List Tr) (ns : List Nd), (∀ i (hi : i < k.length) ns, k[i].right = true → szN ns → szN (putT k[i] ns).1) → (∀ t ∈ k, t.right = true) → szN ns → szN (putK (k.map putT) ns).1
  | [], ns, _, _, h => h
  | t :: r, ns, ih, hr, h => putK_sz r (putT t ns).1 (fun i hi ms => ih (i + 1) (by simp; omega) ms) (fun x hx => hr x (by simp [hx])) (ih 0 (by simp) ns (hr t (by simp)) h)
theorem putT_sz (t : Tr) : ∀ ns, t.right = true → szN ns → szN (putT t ns).1 := by
  refine Tr.ind (P := fun t => ∀ ns, t.right = true → szN ns → szN (putT t ns).1) ?_ t
  intro n x l k ih ns hr h
  rw [putT_mk]
  rw [Tr.right_mk, Bool.and_eq_true] at hr
  refine put1_sz (putK_sz k ns ih (fun t ht => ?_) h) ?_
  · have := hr.2
    unfold Tr.rightL at this
    exact List.all_eq_true.1 this t ht
  · have h1 := hr.1
    unfold Tr.alone at h1
    rw [Bool.and_eq_true] at h1
    obtain ⟨_, h2, _⟩ := nmB_iff.1 h1.1
    refine ⟨by unfold maxLen; dsimp only; omega, ?_⟩
    unfold maxLen
    dsimp only
    rcases Tr.alone_yes hr.1 with ⟨_, _, h4⟩ | ⟨_, h4⟩
    · omega
    · rw [isEmpty_iff, decide_eq_true_eq] at h4
      omega
theorem putTs_sz {T : List Tr} (h : tksB T = true) : szN (putTs T []).1 := by
  unfold tksB at h
  rw [Bool.and_eq_true, List.all_eq_true] at h
  refine putK_sz T [] (fun i hi ns => putT_sz _ ns) (fun t ht => ?_) (fun n hn => by simp at hn)
  have := h.2 t ht
  unfold Tr.ok at this
  simp only [Bool.and_eq_true] at this
  exact this.2
theorem DN.rds {B : Nat} {w : World} {u : Value} {ns : List Nd} {K : Nat → Prop} (h : DN B w u ns K) (hz : szN ns) : Rds w (fun _ => True) (ns.map rd) u := by
  obtain ⟨a, cap, hu, hc, hm⟩ := h.form
  obtain ⟨kv, kb, h⟩ := h
  have hl : (ns.map rd).length = ns.length := by simp
  have hzz : ∀ i (hi : i < (ns.map rd).length), (ns.map rd)[i].nm.size ≤ maxLen ∧ (ns.map rd)[i].tx.size ≤ maxLen := fun i hi => by
    rw [List.getElem_map]
    exact hz _ (List.getElem_mem _)
  rcases h.row.2 with ⟨e, e0⟩ | ⟨g, cp, cur, r1, r2⟩
  · exact ⟨a, cap, 0, 0, kv, by rw [hl]; exact hu, by omega, hm, fun h0 => by omega, fun i hi => by omega, hzz, fun i hi => by omega⟩
  · have hr := h.row
    rw [r1] at hr hu
    simp only [Value.slice.injEq] at hu
    refine ⟨some ⟨g, 0, none⟩, cp, g, 0, kv, by rw [hl]; exact r1, by omega, by omega, fun _ => ⟨rfl, trivial⟩, fun i hi => ?_, hzz, fun i hi => ?_⟩
    · have hi2 : i < ns.length := by omega
      obtain ⟨q0, q1, q2, q3⟩ := nc_get ns kv ns.length i hi2
      rw [nd_eq hi2] at q0 q1 q2
      rw [List.getElem_map]
      refine ⟨?_, ?_, ?_, ?_⟩
      · rw [Nat.zero_add, World.ownsRow.cellAt hr _ (by omega)]; exact q0
      · rw [Nat.zero_add, World.ownsRow.cellAt hr _ (by omega)]; exact q1
      · rw [Nat.zero_add, World.ownsRow.cellAt hr _ (by omega)]; exact q2
      · rw [Nat.zero_add, World.ownsRow.cellAt hr _ (by omega)]; exact q3
    · have hi2 : i < ns.length := by omega
      have hk := h.kid i hi2
      rw [nd_eq hi2] at hk
      rw [List.getElem_map]
      obtain ⟨a, c, b, o, e1, e2, e3, e4, e5⟩ := hk.ints
      exact ⟨a, c, b, o, e1, e2, e3, fun hp => ⟨(e4 hp).1, trivial⟩, e5⟩
theorem own_row_ints {w : World} {B : Nat} {v : Value} {l : List Int} (h : w.ownsRow B 3 1 v l.length (iv l)) : Ints w (fun _ => True) l v := by
  obtain ⟨a, c, b, o, e1, e2, e3, e4, e5⟩ := (own_ints h).ints
  exact ⟨a, c, b, o, e1, e2, e3, fun hp => ⟨(e4 hp).1, trivial⟩, e5⟩
theorem own_nothing (w : World) (B : Nat) : Own w B w.heap.size (dm []) (.slice none 0 0) :=
  Grw.done (k := []) ⟨fun _ => .bool false, fun _ => 0, fun _ => 0, own_nil _ _ _ _, fun i hi => absurd hi (Nat.not_lt_zero _), fun i hi => absurd hi (Nat.not_lt_zero _), fun i i' _ hi => absurd hi (Nat.not_lt_zero _)⟩ (by show (0 : Nat) ≤ _; exact Nat.zero_le _) (by show (0 : Nat) ≤ _; exact Nat.zero_le _)
theorem UnA.none {ns : List Rd} {rs : List Int} {w w' : World} (h : ∀ T, ¬ UnOK ns rs T) (hb : Below w.heap.size w w') : UnA ns rs w (.returned (.tuple #[.slice none 0 0, .int .i64 10])) w' :=
  ⟨[], 10, _, _, _, .inr ⟨h, rfl⟩, rfl, hb, own_nothing _ _⟩

theorem assert_fault52 (c a : Int) (w : World) : (Instr.typeAssert (.iface 76 (.agg #[.int .i64 c, .int .i64 a])) 20 76 true).run Try.prog w = .ok (.tuple #[.agg #[.int .i64 c, .int .i64 a], .bool true]) w := by kernel_rfl
theorem field_fault52 (c a : Int) (w : World) : (Instr.field 76 (.agg #[.int .i64 c, .int .i64 a]) 0).run Try.prog w = .ok (.int .i64 c) w := by kernel_rfl
theorem make_func (fn : Fn) (first cap : Array Value) (w : World) : (Instr.makeFunc fn first cap).run Try.prog w = .ok (.func fn first cap) w := rfl
set_option maxHeartbeats 400000 in
theorem faultIn52 (c a : Int) (w : World) :
    Calls Try.prog 35 #[.iface 76 (.agg #[.int .i64 c, .int .i64 a])] w fun e w' => e = .returned (.agg #[.int .i64 c, .int .i64 a]) ∧ Below w.heap.size w w' := by
  have hta := assert_fault52 c a
  go_enter Try.func35, Try.ntmps35
  go_wp2_with fail
  exact bodyPost_ret (v := .agg #[.int .i64 c, .int .i64 a]) (by simp [results, Try.results35, go_sem]) rfl ⟨rfl, (bel_alloc _ _).alloc (by simp) _⟩
set_option maxHeartbeats 400000 in
theorem catch51_panicking (p0 p1 : Nat) (c a : Int) (older : List PanicEntry) (w : World) (u0 u1 : Value)
    (h0 : w.cell? ⟨p0, 0, none⟩ = some u0) (h1 : w.cell? ⟨p1, 0, none⟩ = some u1)
    (z0 : w.frozen? ⟨p0, 0, none⟩ = false) (z1 : w.frozen? ⟨p1, 0, none⟩ = false) (n01 : p0 ≠ p1) :
    CallsD Try.prog 34 #[.pointer (some ⟨p0, 0, none⟩), .pointer (some ⟨p1, 0, none⟩)] (.panicking ({ v := .iface 76 (.agg #[.int .i64 c, .int .i64 a]), recovered := false } :: older)) w fun e u' w' =>
      e = .returned (.tuple #[]) ∧ u' = .panicking ({ v := .iface 76 (.agg #[.int .i64 c, .int .i64 a]), recovered := true } :: older) ∧
        ∃ w1, Below w.heap.size w w1 ∧ w' = (w1.setCell ⟨p0, 0, none⟩ (.slice none 0 0)).setCell ⟨p1, 0, none⟩ (.int .i64 c) := by
  have q0 := lt_of_cell h0
  have q1 := lt_of_cell h1
  refine callsD_of_wpS Try.func34 rfl fun c₀ cs hu => ?_
  apply wpS_seq
  apply wpS_region
  simp [wpOpsS, go_sem, recoverD, hu, Try.ntmps34, Exit.thenS]
  refine wpS_of_wp ?_
  go_wp2_with fail
  refine Calls.mono (faultIn52 c a w) ?_
  rintro e w1 ⟨rfl, hb1⟩
  rw [← hb1.cell (lt_of_cell h0)] at h0
  rw [← hb1.cell (lt_of_cell h1)] at h1
  rw [← hb1.frozen (by assumption)] at z0
  rw [← hb1.frozen (by assumption)] at z1
  have hfd := field_fault52 c a
  go_wp2_with fail
  exact ⟨rfl, _, rfl, _, by simp [results, Try.results34], rfl, rfl, w1, hb1, rfl⟩
set_option maxHeartbeats 400000 in
theorem catch51_idle (p0 p1 : Nat) (w : World) :
    CallsD Try.prog 34 #[.pointer (some ⟨p0, 0, none⟩), .pointer (some ⟨p1, 0, none⟩)] .returning w fun e u' w' =>
      e = .returned (.tuple #[]) ∧ u' = .returning ∧ w' = w := by
  refine callsD_of_wpS Try.func34 rfl fun c₀ cs hu => ?_
  apply wpS_seq
  apply wpS_region
  simp [wpOpsS, go_sem, recoverD, hu, Try.ntmps34, Exit.thenS]
  refine wpS_of_wp ?_
  go_wp2_with fail
  cases c₀
  simp_all [bodyPostS, results, Try.results34]
end Go.Proofs.Ytofobmdljelmgaa

/-! The program's Unshare: what stands while the trees are made. -/
namespace Go.Proofs.Ytofobmdljelmgaa
open Go.RowKit Go.Deep Go.Lib
set_option linter.unusedVariables false
set_option maxRecDepth 100000
set_option linter.unusedSimpArgs false

theorem setCell_comm (w : World) {p q : Nat} (o o' : Nat) (a b : Value) (h : p ≠ q) : (w.setCell ⟨p, o, none⟩ a).setCell ⟨q, o', none⟩ b = (w.setCell ⟨q, o', none⟩ b).setCell ⟨p, o, none⟩ a := by
  unfold World.setCell
  dsimp only
  congr 1
  apply Array.ext_getElem?
  intro i
  simp only [Array.getElem?_modify]
  by_cases e1 : p = i <;> by_cases e2 : q = i
  · exact absurd (e1.trans e2.symm) h
  · simp [e1, e2]
  · simp [e1, e2]
  · simp [e1, e2]
abbrev set4 (w : World) (g o : Nat) (a b c d : Value) : World := (((w.setCell ⟨g, o, none⟩ a).setCell ⟨g, o + 1, none⟩ b).setCell ⟨g, o + 2, none⟩ c).setCell ⟨g, o + 3, none⟩ d
theorem set4_comm (w : World) {g p : Nat} (o o' : Nat) (a b c d v : Value) (h : p ≠ g) : set4 (w.setCell ⟨p, o', none⟩ v) g o a b c d = (set4 w g o a b c d).setCell ⟨p, o', none⟩ v := by
  unfold set4
  rw [setCell_comm w o' o v a h, setCell_comm _ o' (o + 1) v b h, setCell_comm _ o' (o + 2) v c h, setCell_comm _ o' (o + 3) v d h]
theorem grown_trans {w2 w3 w4 : World} {o : Option Nat} {g : Nat} (h : w2.grownBy w3 o) (hat : o = some g ∨ w2.heap.size ≤ g) (k : w3.grownBy w4 (some g)) : w2.grownBy w4 o := by
  have hs := h.size
  refine ⟨k.os.trans h.os, k.tape.trans h.tape, k.output.trans h.output, Nat.le_trans hs k.size, fun q hq hne => (k.block q (by omega) (fun e => ?_)).trans (h.block q hq hne)⟩
  injection e with e
  subst e
  rcases hat with e | e
  · exact hne e.symm
  · omega
theorem stored4 {w : World} {B g n cap o : Nat} {xs : List Value} {z0 z1 z2 z3 : Value} (a b c d : Value) (ho : xs.length = o) (h : w.ownsRow B 39 4 (.slice (some ⟨g, 0, none⟩) n cap) n (xs ++ [z0, z1, z2, z3])) :
    (set4 w g o a b c d).ownsRow B 39 4 (.slice (some ⟨g, 0, none⟩) n cap) n (xs ++ [a, b, c, d]) ∧ w.grownBy (set4 w g o a b c d) (some g) := by
  obtain ⟨h1, g1⟩ := World.ownsRow.stored h o a
  obtain ⟨h2, g2⟩ := World.ownsRow.stored h1 (o + 1) b
  obtain ⟨h3, g3⟩ := World.ownsRow.stored h2 (o + 2) c
  obtain ⟨h4, g4⟩ := World.ownsRow.stored h3 (o + 3) d
  refine ⟨?_, grown_trans (grown_trans (grown_trans g1 (.inl rfl) g2) (.inl rfl) g3) (.inl rfl) g4⟩
  have e : ((((xs ++ [z0, z1, z2, z3]).set o a).set (o + 1) b).set (o + 2) c).set (o + 3) d = xs ++ [a, b, c, d] := by
    subst ho
    simp [List.set_append]
  rw [e] at h4
  exact h4
structure UuI (w wr : World) (u r v : Value) (k' : List Tr) : Prop where
  b0 : Box wr w.heap.size 27 [u, r]
  b1 : Box wr (w.heap.size + 1) 30 [v]
  b2 : Box wr (w.heap.size + 1 + 1) 3 [.int .i64 0]
  bel : Below w.heap.size w wr
  grw : Grw k' (w.heap.size + 3) k'.length v wr
theorem UuI.next {w wr w2 w3 : World} {u r v q : Value} {k' : List Tr} {t : Tr} {a c g cap : Nat} {fs : Nat → Value} {lo hi : Nat → Nat} (h : UuI w wr u r v k')
    (hown : wr.ownsRow (w.heap.size + 3) 39 4 v k'.length (kc k' fs k'.length)) (hls : ∀ i, i < k'.length → Own wr (lo i) (hi i) (nth k' i) (fs i))
    (hr : ∀ i, i < k'.length → w.heap.size + 3 ≤ lo i ∧ hi i ≤ wr.heap.size ∧ ∀ g, v.ownBlock = some g → g < lo i ∨ hi i ≤ g) (hd : ∀ i i', i < i' → i' < k'.length → hi i ≤ lo i')
    (hb : Below wr.heap.size wr w2) (hu : Own w2 a c t q) (ha : wr.heap.size ≤ a) (hc : c ≤ w2.heap.size)
    (hown3 : w3.ownsRow (w.heap.size + 3) 39 4 (.slice (some ⟨g, 0, none⟩) (k'.length + 1) cap) (k'.length + 1) (kc k' fs k'.length ++ [.string t.name, .string t.text, .bool t.leaf, q]))
    (hgr : w2.grownBy w3 v.ownBlock) (hat : v.ownBlock = some g ∨ g = w2.heap.size) : UuI w (w3.setCell ⟨w.heap.size + 1, 0, none⟩ (.slice (some ⟨g, 0, none⟩) (k'.length + 1) cap)) u r (.slice (some ⟨g, 0, none⟩) (k'.length + 1) cap) (k' ++ [t]) := by
  have hz := h.b2.lt
  have hs := hb.size
  have hG : Grw (k' ++ [t]) (w.heap.size + 3) (k'.length + 1) (.slice (some ⟨g, 0, none⟩) (k'.length + 1) cap) w3 := by
    refine Grw.step (k := k' ++ [t]) (fs := fs) (l := lo) (h := hi) (u := q) (wr := wr) (w2 := w2) (a := a) (c := c) (v := v) ?_ (fun i hi => by rw [nth_app hi]; exact hls i hi) hr hd (by omega) hb (by rw [nth_last]; exact hu) ha hc ?_ hgr hat
    · rw [kc_app _ _ _ _ (Nat.le_refl _)]; exact hown
    · rw [kc_app _ _ _ _ (Nat.le_refl _), nth_last]; exact hown3
  have hblk : ∀ p, p < w.heap.size + 3 → w3.heap[p]? = wr.heap[p]? := fun p hp => (hgr.block p (by omega) (fun e => by have := World.ownsRow.lt hown p e.symm; omega)).trans (hb.block p (by omega))
  refine ⟨(h.b0.keep (hblk _ (by omega))).past (by omega), (h.b1.keep (hblk _ (by omega))).set 0 _, (h.b2.keep (hblk _ (by omega))).past (by omega), ?_, ?_⟩
  · refine Below.setCell (p := ⟨w.heap.size + 1, 0, none⟩) ?_ (by simp) _
    exact (h.bel.trans (hb.mono h.bel.size)).grown hgr (by omega) (fun p hp => by have := World.ownsRow.lt hown p hp; omega)
  · rw [List.length_append]
    exact hG.past (by omega)
/-- Trees within the limits that the first roots stand for. -/
def FsR (ns : List Rd) (rs : List Int) (k' : List Tr) : Prop := k'.length ≤ rs.length ∧ ∀ i (h1 : i < k'.length) (h2 : i < rs.length), Fit ns rs[i] 0 1 k'[i]
theorem FsR.nil (ns : List Rd) (rs : List Int) : FsR ns rs [] := ⟨Nat.zero_le _, fun i h => absurd h (Nat.not_lt_zero _)⟩
theorem FsR.add {ns : List Rd} {rs : List Int} {k' : List Tr} {t : Tr} (h : FsR ns rs k') (hl : k'.length < rs.length) (ht : Fit ns rs[k'.length] 0 1 t) : FsR ns rs (k' ++ [t]) := by
  obtain ⟨h1, h3⟩ := h
  refine ⟨by simp; omega, fun i g1 g2 => ?_⟩
  by_cases e : i < k'.length
  · rw [List.getElem_append_left e]; exact h3 i e g2
  · obtain rfl : i = k'.length := by simp at g1; omega
    simpa using ht
theorem FsR.full {ns : List Rd} {rs : List Int} {k' T : List Tr} (h : FsR ns rs k') (hl : k'.length = rs.length) (hT : UnOK ns rs T) : T = k' := by
  obtain ⟨a1, a2, a3⟩ := hT.root
  exact List.ext_getElem (by omega) (fun i g1 g2 => isR_uniq _ (a3 i (by omega) g1).1 (h.2 i g2 (by omega)).1)
theorem no_fit {ns : List Rd} {rs : List Int} {j : Nat} (hj : j < rs.length) (h : ¬ ∃ t, Fit ns rs[j] 0 1 t) : ∀ T, ¬ UnOK ns rs T := fun T hT => by
  obtain ⟨a1, a2, a3⟩ := hT.root
  exact h ⟨_, hT.fit j hj (by omega)⟩
/-- What is known behind the call, ahead of the append. -/
structure UpA (w wr w2 : World) (u r v q : Value) (k' : List Tr) (t : Tr) (fs : Nat → Value) (g : Nat) (cap : Nat) (w3 : World) : Prop where
  t2 : w3.cell? ⟨w.heap.size + 1, 0, none⟩ = some v
  f2 : w3.frozen? ⟨w.heap.size + 1, 0, none⟩ = false
  z0 : w3.cell? ⟨g, k'.length * 4, none⟩ = some (.string ⟨#[]⟩)
  z1 : w3.cell? ⟨g, k'.length * 4 + 1, none⟩ = some (.string ⟨#[]⟩)
  z2 : w3.cell? ⟨g, k'.length * 4 + 2, none⟩ = some (.bool false)
  z3 : w3.cell? ⟨g, k'.length * 4 + 3, none⟩ = some (.slice none 0 0)
  y0 : w3.frozen? ⟨g, k'.length * 4, none⟩ = false
  y1 : w3.frozen? ⟨g, k'.length * 4 + 1, none⟩ = false
  y2 : w3.frozen? ⟨g, k'.length * 4 + 2, none⟩ = false
  y3 : w3.frozen? ⟨g, k'.length * 4 + 3, none⟩ = false
  ne : g ≠ w.heap.size + 1
  nx : UuI w ((set4 w3 g (k'.length * 4) (.string t.name) (.string t.text) (.bool t.leaf) q).setCell ⟨w.heap.size + 1, 0, none⟩ (.slice (some ⟨g, 0, none⟩) (k'.length + 1) cap)) u r (.slice (some ⟨g, 0, none⟩) (k'.length + 1) cap) (k' ++ [t])
theorem UpA.of {w wr w2 w3 : World} {u r v q : Value} {k' : List Tr} {t : Tr} {a c g cap : Nat} {fs : Nat → Value} {lo hi : Nat → Nat} (h : UuI w wr u r v k')
    (hown : wr.ownsRow (w.heap.size + 3) 39 4 v k'.length (kc k' fs k'.length)) (hls : ∀ i, i < k'.length → Own wr (lo i) (hi i) (nth k' i) (fs i))
    (hr : ∀ i, i < k'.length → w.heap.size + 3 ≤ lo i ∧ hi i ≤ wr.heap.size ∧ ∀ g, v.ownBlock = some g → g < lo i ∨ hi i ≤ g) (hd : ∀ i i', i < i' → i' < k'.length → hi i ≤ lo i')
    (hb : Below wr.heap.size wr w2) (hu : Own w2 a c t q) (ha : wr.heap.size ≤ a) (hc : c ≤ w2.heap.size)
    (hown3 : w3.ownsRow (w.heap.size + 3) 39 4 (.slice (some ⟨g, 0, none⟩) (k'.length + 1) cap) (k'.length + 1) (kc k' fs k'.length ++ [.string ⟨#[]⟩, .string ⟨#[]⟩, .bool false, .slice none 0 0]))
    (hgr : w2.grownBy w3 v.ownBlock) (hat : v.ownBlock = some g ∨ g = w2.heap.size) : UpA w wr w2 u r v q k' t fs g cap w3 := by
  have hz := h.b2.lt
  have hs := hb.size
  have hl := kc_len k' fs k'.length
  have hge : w.heap.size + 3 ≤ g := by
    rcases hat with e | e
    · exact (World.ownsRow.lt hown g e).1
    · omega
  have hblk : ∀ p, p < w.heap.size + 3 → w3.heap[p]? = wr.heap[p]? := fun p hp => (hgr.block p (by omega) (fun e => by have := World.ownsRow.lt hown p e.symm; omega)).trans (hb.block p (by omega))
  have B1 := h.b1.keep (hblk _ (by omega))
  obtain ⟨s1, s2⟩ := stored4 (.string t.name) (.string t.text) (.bool t.leaf) q hl hown3
  refine ⟨B1.cell 0 (by simp), B1.frozen 0, ?_, ?_, ?_, ?_, hown3.frozenAt _, hown3.frozenAt _, hown3.frozenAt _, hown3.frozenAt _, by omega, ?_⟩
  · rw [hown3.cellAt _ (by omega), List.getElem?_append_right (by omega), hl]; simp
  · rw [hown3.cellAt _ (by omega), List.getElem?_append_right (by omega), hl]; simp
  · rw [hown3.cellAt _ (by omega), List.getElem?_append_right (by omega), hl]; simp
  · rw [hown3.cellAt _ (by omega), List.getElem?_append_right (by omega), hl]; simp
  · exact h.next hown hls hr hd hb hu ha hc s1 (grown_trans hgr (by rcases hat with e | e; exact .inl e; exact .inr (by omega)) s2) hat
end Go.Proofs.Ytofobmdljelmgaa
