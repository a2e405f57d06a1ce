import Derived.Test.YtpmlagenakcdfaaZd
/-! The specification: rows of trees that grow, and its grower. -/
namespace Go.Proofs.Ytpmlagenakcdfaa
open Go.RowKit Go.Deep
set_option linter.unusedVariables false
set_option maxRecDepth 100000
set_option linter.unusedSimpArgs false

/-- A row that is not nil grows. -/
theorem wp_append_g {P : Program} (w : World) {o : Oper} {a : Act} {K : Act → World → Prop} {Q : Exit → Act → World → Prop} (s x : Operand) (t : TypeId)
    (ho : o.op = .call { callee := .builtin .append, args := #[s, x], argTypes := #[t, t] })
    (base : Nat) (e : TypeId) (i : TypeInfo) (z : Value) (size bytes : Nat) (ht : P.underlying t = some (.slice e)) (hi : P.info? e = some i) (hz : i.zero = some z)
    (hsize : i.size = size) (hby : i.bytes = bytes) (hzs : z.cells.size = size) (hsz : 0 < size)
    (g0 c0 : Nat) (n : Nat) (xs : List Value) (hs : a.eval s = .slice (some ⟨g0, 0, none⟩) n c0) (hown : w.ownsRow base e size (.slice (some ⟨g0, 0, none⟩) n c0) n xs)
    (ad : Addr) (m c : Nat) (news : List Value) (hx : a.eval x = .slice (some ad) m c) (hl : news.length = m * size) (hnews : ∀ j u, news[j]? = some u → w.cell? (ad.add j) = some u) (h1 : ∀ u ∈ news, u.oneCell' = true)
    (h63 : n + m ≤ maxLen) (hbytes : (n + m) * bytes ≤ 140737488355328) (hbase : base ≤ w.heap.size)
    (h : ∀ g cap' w', w'.ownsRow base e size (.slice (some ⟨g, 0, none⟩) (n + m) cap') (n + m) (xs ++ news) → w.grownBy w' (some g0) → (g0 = g ∨ g = w.heap.size) → K (a.put o.dst (.slice (some ⟨g, 0, none⟩) (n + m) cap')) w') : o.wp P a w K Q := by
  obtain ⟨v', w', hr, h2, h3, h4, h5⟩ := run_append_own_at (P := P) w base t o.type e i z size bytes ht hi hz hsize hby hzs hsz _ n xs hown ad m c news hl hnews h1 h63 hbytes hbase
  have hob : (Value.slice (some ⟨g0, 0, none⟩) n c0).ownBlock = some g0 := rfl
  rw [hob] at h5 h3
  obtain ⟨g, cap', rfl⟩ : ∃ g cap', v' = .slice (some ⟨g, 0, none⟩) (n + m) cap' := by
    rcases h2.2 with ⟨rfl, _⟩ | ⟨g, cp, cur, r1, _⟩
    · rcases h5 with h5 | h5 <;> cases h5
    · exact ⟨g, cp, r1⟩
  unfold Oper.wp execOp
  simp only [ho, resolve, invoke, builtin, Sem.run_bind, Sem.run_pure, Result.andThen_ok, List.map_toArray, List.map_cons, List.map_nil, hs, hx, hr]
  refine h g cap' w' h2 h3 ?_
  rcases h5 with h5 | h5
  · left; simpa [Value.ownBlock] using h5.symm
  · right; simpa [Value.ownBlock] using h5
theorem wpList_append_g {P : Program} (w : World) {ops : Array Oper} {rest : List Oper} {o : Oper} {a : Act} {Q : Exit → Act → World → Prop} (hgd : o.guard = none) (s x : Operand) (t : TypeId)
    (ho : o.op = .call { callee := .builtin .append, args := #[s, x], argTypes := #[t, t] })
    (base : Nat) (e : TypeId) (i : TypeInfo) (z : Value) (size bytes : Nat) (ht : P.underlying t = some (.slice e)) (hi : P.info? e = some i) (hz : i.zero = some z)
    (hsize : i.size = size) (hby : i.bytes = bytes) (hzs : z.cells.size = size) (hsz : 0 < size)
    (g0 c0 : Nat) (n : Nat) (xs : List Value) (hs : a.eval s = .slice (some ⟨g0, 0, none⟩) n c0) (hown : w.ownsRow base e size (.slice (some ⟨g0, 0, none⟩) n c0) n xs)
    (ad : Addr) (m c : Nat) (news : List Value) (hx : a.eval x = .slice (some ad) m c) (hl : news.length = m * size) (hnews : ∀ j u, news[j]? = some u → w.cell? (ad.add j) = some u) (h1 : ∀ u ∈ news, u.oneCell' = true)
    (h63 : n + m ≤ maxLen) (hbytes : (n + m) * bytes ≤ 140737488355328) (hbase : base ≤ w.heap.size)
    (h : ∀ g cap' w', w'.ownsRow base e size (.slice (some ⟨g, 0, none⟩) (n + m) cap') (n + m) (xs ++ news) → w.grownBy w' (some g0) → (g0 = g ∨ g = w.heap.size) → wpList P ops Q rest (a.put o.dst (.slice (some ⟨g, 0, none⟩) (n + m) cap')) w') : wpList P ops Q (o :: rest) a w :=
  wpList_plain hgd fun _ hK => wp_append_g w s x t ho base e i z size bytes ht hi hz hsize hby hzs hsz g0 c0 n xs hs hown ad m c news hx hl hnews h1 h63 hbytes hbase fun g cap w' h2 h3 h4 => hK _ _ (h g cap w' h2 h3 h4)
theorem kc_join (k k2 : List T.Tr) (fs fs2 : Nat → Value) : ∀ m, m ≤ k2.length → T.kc (k ++ k2) (fun i => if i < k.length then fs i else fs2 (i - k.length)) (k.length + m) = T.kc k fs k.length ++ T.kc k2 fs2 m := by
  intro m
  induction m with
  | zero =>
    intro _
    rw [Nat.add_zero, T.kc_ext k k2 _ _ (Nat.le_refl _)]
    simp only [T.kc, List.append_nil]
    exact T.kc_congr k _ (fun i hi => if_pos hi)
  | succ m ih =>
    intro hm
    have e1 : T.nth (k ++ k2) (k.length + m) = T.nth k2 m := by unfold T.nth; rw [List.getElem?_append_right (by omega), show k.length + m - k.length = m by omega]
    rw [← Nat.add_assoc]
    simp only [T.kc]
    rw [ih (by omega), e1, if_neg (by omega), show k.length + m - k.length = m by omega, List.append_assoc]
theorem kc_one (k : List T.Tr) (fs : Nat → Value) : ∀ n, (∀ i, i < n → (fs i).oneCell' = true) → ∀ u ∈ T.kc k fs n, u.oneCell' = true := by
  intro n
  induction n with
  | zero => intro _ u hu; simp [T.kc] at hu
  | succ n ih =>
    intro h u hu
    simp only [T.kc, List.mem_append] at hu
    rcases hu with hu | hu
    · exact ih (fun i hi => h i (by omega)) u hu
    · simp only [List.mem_cons, List.not_mem_nil, or_false] at hu
      rcases hu with rfl | rfl | rfl | rfl
      · rfl
      · rfl
      · rfl
      · exact h n (by omega)
/-- Trees in a row of the specification's own. -/
structure SGs (w : World) (B : Nat) (k : List T.Tr) (g c : Nat) (fs : Nat → Value) (K : Nat → Prop) : Prop where
  own : w.ownsRow B 48 4 (.slice (some ⟨g, 0, none⟩) k.length c) k.length (T.kc k fs k.length)
  lies : ∀ i, i < k.length → T.Lies w K (T.nth k i) (fs i)
  kk : ∀ q, K q → B ≤ q ∧ q < w.heap.size ∧ q ≠ g
def SG (w : World) (B : Nat) (k : List T.Tr) (u : Value) : Prop := ∃ (fs : Nat → Value) (K : Nat → Prop) (g c : Nat), u = .slice (some ⟨g, 0, none⟩) k.length c ∧ SGs w B k g c fs K
theorem SGs.one {w : World} {B : Nat} {k : List T.Tr} {g c : Nat} {fs : Nat → Value} {K : Nat → Prop} (h : SGs w B k g c fs K) : ∀ u ∈ T.kc k fs k.length, u.oneCell' = true := kc_one k fs _ (fun i hi => by
  obtain ⟨a, l, cp, e⟩ := (h.lies i hi).form
  rw [e]
  rfl)
theorem SGs.keep {w w' : World} {B : Nat} {k : List T.Tr} {g c : Nat} {fs : Nat → Value} {K : Nat → Prop} (h : SGs w B k g c fs K) (hs : w.heap.size ≤ w'.heap.size) (hk : ∀ q, B ≤ q → q < w.heap.size → w'.heap[q]? = w.heap[q]?) : SGs w' B k g c fs K :=
  ⟨own_keep1 h.own (fun q hq => hk q (World.ownsRow.lt h.own q hq).1 (World.ownsRow.lt h.own q hq).2), fun i hi => (h.lies i hi).keep (fun q hq => hk q (h.kk q hq).1 (h.kk q hq).2.1), fun q hq => ⟨(h.kk q hq).1, by have := (h.kk q hq).2.1; omega, (h.kk q hq).2.2⟩⟩
theorem SGs.made (w : World) (B : Nat) (hB : B ≤ w.heap.size) : SGs (w.alloc (.cells #[] 48)) B [] w.heap.size 0 (fun _ => .nilFunc) (fun _ => False) :=
  ⟨World.ownsRow_made (size := 4) w #[] 0 hB (Nat.zero_le _) rfl, fun i hi => absurd hi (Nat.not_lt_zero _), fun q h => h.elim⟩
theorem SGs.lt {w : World} {B : Nat} {k : List T.Tr} {g c : Nat} {fs : Nat → Value} {K : Nat → Prop} (h : SGs w B k g c fs K) : B ≤ g ∧ g < w.heap.size := World.ownsRow.lt h.own g rfl
/-- Two rows become one. -/
theorem SGs.join {w1 w3 : World} {B B2 : Nat} {k k2 : List T.Tr} {g c g2 c2 g' c' : Nat} {fs fs2 : Nat → Value} {K K2 : Nat → Prop} (h : SGs w1 B k g c fs K) (h2 : SGs w1 B2 k2 g2 c2 fs2 K2) (hB : B ≤ B2) (hg2 : g < B2)
    (hown : w3.ownsRow B 48 4 (.slice (some ⟨g', 0, none⟩) (k.length + k2.length) c') (k.length + k2.length) (T.kc k fs k.length ++ T.kc k2 fs2 k2.length)) (hgr : w1.grownBy w3 (some g)) (hat : g = g' ∨ g' = w1.heap.size) :
    SGs w3 B (k ++ k2) g' c' (fun i => if i < k.length then fs i else fs2 (i - k.length)) (fun q => K q ∨ K2 q) := by
  have hs := hgr.size
  have hkeep : ∀ q, q < w1.heap.size → q ≠ g → w3.heap[q]? = w1.heap[q]? := fun q h1 h2 => hgr.block q h1 (fun e => by injection e with e; exact h2 e)
  have hK : ∀ q, K q → w3.heap[q]? = w1.heap[q]? := fun q hq => hkeep q (h.kk q hq).2.1 (h.kk q hq).2.2
  have hK2 : ∀ q, K2 q → w3.heap[q]? = w1.heap[q]? := fun q hq => hkeep q (h2.kk q hq).2.1 (by have := (h2.kk q hq).1; omega)
  refine ⟨?_, fun i hi => ?_, fun q hq => ?_⟩
  · have e := kc_join k k2 fs fs2 k2.length (Nat.le_refl _)
    rw [List.length_append, e]
    exact hown
  · by_cases hlt : i < k.length
    · rw [if_pos hlt, T.nth_ext k k2 hlt]
      exact ((h.lies i hlt).keep hK).mono (fun q hq => .inl hq)
    · rw [if_neg hlt]
      have e1 : T.nth (k ++ k2) i = T.nth k2 (i - k.length) := by unfold T.nth; rw [List.getElem?_append_right (by omega)]
      rw [e1]
      rw [List.length_append] at hi
      exact ((h2.lies (i - k.length) (by omega)).keep hK2).mono (fun q hq => .inr hq)
  · rcases hq with hq | hq
    · obtain ⟨a1, a2, a3⟩ := h.kk q hq
      refine ⟨a1, by omega, fun e => ?_⟩
      rcases hat with e2 | e2 <;> omega
    · obtain ⟨a1, a2, a3⟩ := h2.kk q hq
      refine ⟨by omega, by omega, fun e => ?_⟩
      rcases hat with e2 | e2 <;> omega
theorem SGs.cells {w : World} {B : Nat} {k : List T.Tr} {g c : Nat} {fs : Nat → Value} {K : Nat → Prop} (h : SGs w B k g c fs K) : ∀ j u, (T.kc k fs k.length)[j]? = some u → w.cell? ((⟨g, 0, none⟩ : Addr).add j) = some u := fun j u hu => World.ownsRow.cells h.own (g := g) rfl j u hu
/-- One tree of a row. -/
theorem SGs.node {w : World} {B : Nat} {k : List T.Tr} {g c : Nat} {fs : Nat → Value} {K : Nat → Prop} (h : SGs w B k g c fs K) (n x : ByteArray) (le : Bool) (hn : n.size ≤ maxLen) (hx : x.size ≤ maxLen) : T.Lies w (fun q => K q ∨ q = g) ⟨n, x, le, k⟩ (.slice (some ⟨g, 0, none⟩) k.length c) := by
  obtain ⟨hcap, hmax⟩ : k.length ≤ c ∧ c ≤ maxLen := by
    rcases h.own.2 with ⟨e, _⟩ | ⟨g1, cp, cur, e, _, _, h1, h2, _⟩
    · cases e
    · injection e with e1 e2 e3
      subst e3
      exact ⟨h1, h2⟩
  refine T.Lies.shut ⟨some ⟨g, 0, none⟩, c, g, 0, fs, rfl, hn, hx, hcap, hmax, fun _ => ⟨rfl, .inr rfl⟩, fun i hi => ?_, fun i hi => ?_⟩
  · obtain ⟨c0, c1, c2, c3⟩ := T.kc_get k fs k.length i hi
    have e0 := h.cells _ _ c0
    have e1 := h.cells _ _ c1
    have e2 := h.cells _ _ c2
    have e3 := h.cells _ _ c3
    rw [add0] at e0 e1 e2 e3
    rw [T.nth_eq hi] at e0 e1 e2
    simp only [Nat.zero_add]
    first
      | exact ⟨e0, e1, e2, e3⟩
      | exact ⟨e0, e1, e2⟩
  · have := h.lies i hi
    rw [T.nth_eq hi] at this
    exact this.mono (fun q hq => .inl hq)
/-- The specification's grower: at is the next word. -/
structure TgI (d : Bn) (S S' : Nat → Prop) (R : Nat) (v0 v1 v3 vw : Value) (W : List Wd) (w : World) (t : Nat) : Prop where
  box : Box w R 89 [v0, v1, .int .i64 d.own, v3, vw, .int .i64 (t : Int)]
  words : Wds w S' W vw
  lies : BLies w S d v0 v1 v3
  ns : ∀ b, S b → b < R
  ns' : ∀ b, S' b → b < R
  le : t ≤ W.length
theorem TgI.keep {d : Bn} {S S' : Nat → Prop} {R : Nat} {v0 v1 v3 vw : Value} {W : List Wd} {w w' : World} {t : Nat} (h : TgI d S S' R v0 v1 v3 vw W w t) (hb : ∀ b, b ≤ R → w'.heap[b]? = w.heap[b]?) : TgI d S S' R v0 v1 v3 vw W w' t :=
  ⟨h.box.keep (hb R (Nat.le_refl _)), h.words.keep (fun b hs _ => hb b (Nat.le_of_lt (h.ns' b hs))), h.lies.keep' (fun b hs _ => hb b (Nat.le_of_lt (h.ns b hs))), h.ns, h.ns', h.le⟩
theorem TgI.still {d : Bn} {S S' : Nat → Prop} {R : Nat} {v0 v1 v3 vw : Value} {W : List Wd} {w w' : World} {t : Nat} (h : TgI d S S' R v0 v1 v3 vw W w t) (hb : Below w.heap.size w w') : TgI d S S' R v0 v1 v3 vw W w' t := h.keep (fun b hb2 => hb.block b (by have := h.box.lt; omega))
theorem TgI.next {d : Bn} {S S' : Nat → Prop} {R : Nat} {v0 v1 v3 vw : Value} {W : List Wd} {w : World} {t : Nat} (h : TgI d S S' R v0 v1 v3 vw W w t) (hlt : t < W.length) : TgI d S S' R v0 v1 v3 vw W (w.setCell ⟨R, 5, none⟩ (.int .i64 ((t + 1 : Nat) : Int))) (t + 1) := by
  have hq : ∀ q, q < R → (w.setCell ⟨R, 5, none⟩ (.int .i64 ((t + 1 : Nat) : Int))).heap[q]? = w.heap[q]? := fun q hq => Below.heap_setCell _ _ _ _ (by show q ≠ R; omega)
  exact ⟨h.box.set 5 _, h.words.keep (fun q hs _ => hq q (h.ns' q hs)), h.lies.keep' (fun q hs _ => hq q (h.ns q hs)), h.ns, h.ns', hlt⟩
/-- A leaf. -/
theorem leaf_s (n x : ByteArray) (w : World) : Calls Try.prog 80 #[.string n, .string x] w fun e w' => e = .returned (.agg #[.string n, .string x, .bool true, .slice none 0 0]) ∧ Below w.heap.size w w' := by
  have hb := bel_alloc w (.cells #[.string n, .string x, .bool true, .slice none 0 0] 48)
  have hx := Box.new w 48 [.string ⟨#[]⟩, .string ⟨#[]⟩, .bool false, .slice none 0 0]
  have f0 := hx.frozen 0
  have f1 := hx.frozen 1
  have f2 := hx.frozen 2
  have f3 := hx.frozen 3
  go_enter Try.func80, Try.ntmps80
  go_wp2_with fail
  refine bodyPost_ret (v := .agg #[.string n, .string x, .bool true, .slice none 0 0]) (by simp [results, Try.results80, go_sem, f0, f1, f2, f3]) rfl ?_
  exact ⟨rfl, bel_alloc _ _⟩
/-- A node. -/
theorem node_s (n : ByteArray) (a : Option Addr) (m c : Nat) (w : World) : Calls Try.prog 81 #[.string n, .slice a m c] w fun e w' => e = .returned (.agg #[.string n, .string ⟨#[]⟩, .bool false, .slice a m c]) ∧ Below w.heap.size w w' := by
  have hx := Box.new w 48 [.string ⟨#[]⟩, .string ⟨#[]⟩, .bool false, .slice none 0 0]
  have f0 := hx.frozen 0
  have f1 := hx.frozen 1
  have f2 := hx.frozen 2
  have f3 := hx.frozen 3
  go_enter Try.func81, Try.ntmps81
  go_wp2_with fail
  refine bodyPost_ret (v := .agg #[.string n, .string ⟨#[]⟩, .bool false, .slice a m c]) (by simp [results, Try.results81, go_sem, f0, f1, f2, f3]) rfl ?_
  exact ⟨rfl, bel_alloc _ _⟩
end Go.Proofs.Ytpmlagenakcdfaa
