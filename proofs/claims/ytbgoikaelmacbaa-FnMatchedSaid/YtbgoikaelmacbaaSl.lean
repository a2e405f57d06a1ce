import Derived.Test.YtbgoikaelmacbaaRy
import Derived.Test.YtbgoikaelmacbaaPr
import Derived.Test.YtbgoikaelmacbaaFa
import Derived.Deep.CutRange
import Derived.Deep.RegionHeld3
/-! The specification: l11Places. -/
namespace Go.Proofs.Ytbgoikaelmacbaa
open Go.RowKit Go.Deep Go.Lib
set_option linter.unusedVariables false
set_option maxRecDepth 100000
set_option linter.unusedSimpArgs false

abbrev oQ0 : Oper := { dst := some 31, op := Go.Op.move (Go.Operand.tmp 7), type := 35, pos := "l11_rewriting.go:115", after := #[], guard := none }
abbrev oQ1 : Oper := { dst := some 32, op := Go.Op.load 26 (Go.Operand.tmp 3), type := 26, pos := "l11_rewriting.go:115", after := #[], guard := none }
abbrev oQ2 : Oper := { dst := some 33, op := Go.Op.fieldAddr 26 (Go.Operand.tmp 4) 3, type := 0, pos := "l11_rewriting.go:115", after := #[], guard := none }
abbrev oQ3 : Oper := { dst := some 34, op := Go.Op.load 24 (Go.Operand.tmp 33), type := 24, pos := "l11_rewriting.go:115", after := #[{ on := 2, ground := Go.Ground.data }], guard := none }
abbrev oQ4 : Oper := { dst := some 35, op := Go.Op.move (Go.Operand.tmp 10), type := 3, pos := "l11_rewriting.go:115", after := #[], guard := none }
abbrev oQ5 : Oper := { dst := some 36, op := Go.Op.indexAddr 24 (Go.Operand.tmp 34) (Go.Operand.tmp 35), type := 0, pos := "l11_rewriting.go:115", after := #[{ on := 3, ground := Go.Ground.data }, { on := 4, ground := Go.Ground.data }], guard := none }
abbrev oQ6 : Oper := { dst := some 37, op := Go.Op.load 26 (Go.Operand.tmp 36), type := 26, pos := "l11_rewriting.go:115", after := #[{ on := 5, ground := Go.Ground.data }], guard := none }
abbrev oQ7 : Oper := { dst := some 39, op := Go.Op.move (Go.Operand.tmp 2), type := 40, pos := "l11_rewriting.go:115", after := #[], guard := none }
abbrev oQ8 : Oper := { dst := some 41, op := Go.Op.move (Go.Operand.tmp 10), type := 3, pos := "l11_rewriting.go:115", after := #[], guard := none }
abbrev oQ9 : Oper := { dst := some 38, op := Go.Op.buildSlice 40 0 #[], type := 40, pos := "l11_rewriting.go:115", after := #[], guard := none }
abbrev oQ10 : Oper := { dst := some 42, op := Go.Op.buildSlice 40 1 #[(0, Go.Operand.tmp 41)], type := 40, pos := "l11_rewriting.go:115", after := #[{ on := 10, ground := Go.Ground.data }], guard := none }
abbrev oQ11 : Oper := { dst := some 40, op := Go.Op.call { callee := Go.Callee.builtin Go.Builtin.append, args := #[Go.Operand.tmp 38, Go.Operand.tmp 39], argTypes := #[40, 40] }, type := 40, pos := "l11_rewriting.go:115", after := #[{ on := 7, ground := Go.Ground.data }, { on := 8, ground := Go.Ground.data }], guard := none }
abbrev oQ12 : Oper := { dst := some 43, op := Go.Op.call { callee := Go.Callee.builtin Go.Builtin.append, args := #[Go.Operand.tmp 40, Go.Operand.tmp 42], argTypes := #[40, 40] }, type := 40, pos := "l11_rewriting.go:115", after := #[{ on := 9, ground := Go.Ground.data }, { on := 11, ground := Go.Ground.data }, { on := 9, ground := Go.Ground.chain }], guard := none }
abbrev oQ13 : Oper := { dst := some 44, op := Go.Op.call { callee := Go.Callee.value (Go.Operand.func 31), args := #[Go.Operand.tmp 32, Go.Operand.tmp 37, Go.Operand.tmp 43], argTypes := #[26, 26, 40] }, type := 35, pos := "l11_rewriting.go:115", after := #[{ on := 1, ground := Go.Ground.data }, { on := 6, ground := Go.Ground.data }, { on := 12, ground := Go.Ground.data }, { on := 12, ground := Go.Ground.chain }], guard := none }
abbrev oQ14 : Oper := { dst := some 45, op := Go.Op.call { callee := Go.Callee.builtin Go.Builtin.append, args := #[Go.Operand.tmp 31, Go.Operand.tmp 44], argTypes := #[35, 35] }, type := 35, pos := "l11_rewriting.go:115", after := #[{ on := 0, ground := Go.Ground.data }, { on := 13, ground := Go.Ground.data }, { on := 13, ground := Go.Ground.chain }], guard := none }
abbrev oQ15 : Oper := { dst := some 7, op := Go.Op.assign (Go.Operand.tmp 45), type := 35, pos := "l11_rewriting.go:115", after := #[{ on := 14, ground := Go.Ground.data }, { on := 14, ground := Go.Ground.chain }, { on := 0, ground := Go.Ground.phase }, { on := 1, ground := Go.Ground.phase }, { on := 2, ground := Go.Ground.phase }, { on := 3, ground := Go.Ground.phase }, { on := 4, ground := Go.Ground.phase }, { on := 5, ground := Go.Ground.phase }, { on := 6, ground := Go.Ground.phase }, { on := 7, ground := Go.Ground.phase }, { on := 8, ground := Go.Ground.phase }, { on := 9, ground := Go.Ground.phase }, { on := 10, ground := Go.Ground.phase }, { on := 11, ground := Go.Ground.phase }, { on := 12, ground := Go.Ground.phase }, { on := 13, ground := Go.Ground.phase }, { on := 14, ground := Go.Ground.phase }], guard := none }

/-- Rows of different types lie in different blocks. -/
theorem own_apart {W : World} {B B' n m k k' : Nat} {e e' : TypeId} {v u : Value} {xs ys : List Value} (h : W.ownsRow B e k v n xs) (h' : W.ownsRow B' e' k' u m ys) (hne : e ≠ e') {q : Nat} (hq : u.ownBlock = some q) : v.ownBlock ≠ some q := by
  intro hv
  rcases h.2 with ⟨rfl, _⟩ | ⟨g, cap, cur, rfl, _, h3, _⟩
  · cases hv
  · rcases h'.2 with ⟨rfl, _⟩ | ⟨g', cap', cur', rfl, _, h3', _⟩
    · cases hq
    · simp [Value.ownBlock] at hv hq
      subst hv
      subst hq
      rw [h3] at h3'
      injection h3' with h3'
      injection h3' with _ e1
      exact hne e1
/-- A row of rows of numbers that may be read; the outer one is owned. -/
structure RS (W : World) (B : Nat) (ls : List (List Nat)) (v : Value) (vs : Nat → Value) : Prop where
  out : W.ownsRow B 40 1 v ls.length (slv vs ls.length)
  row : ∀ i (hi : i < ls.length), W.ownsRow 0 3 1 (vs i) ls[i].length (nums ls[i])
theorem RS.still {W W' : World} {B : Nat} {ls : List (List Nat)} {v : Value} {vs : Nat → Value} (h : RS W B ls v vs) (hb : Below W.heap.size W W') : RS W' B ls v vs :=
  ⟨own_still h.out hb, fun i hi => own_still (h.row i hi) hb⟩
theorem own_base {W : World} {B B' e k n : Nat} {v : Value} {xs : List Value} (h : W.ownsRow B e k v n xs) (hB : B' ≤ B) : W.ownsRow B' e k v n xs :=
  ⟨h.1, by
    rcases h.2 with e | ⟨g', cap', cur, e1, e2, e3⟩
    · exact .inl e
    · exact .inr ⟨g', cap', cur, e1, by omega, e3⟩⟩
theorem slv_app (vs vs' : Nat → Value) (n m : Nat) : slv (fun i => if i < n then vs i else vs' (i - n)) (n + m) = slv vs n ++ slv vs' m := by
  unfold slv
  rw [List.range_add, List.map_append]
  congr 1
  · apply List.map_congr_left
    intro i hi
    rw [if_pos (List.mem_range.1 hi)]
  · rw [List.map_map]
    apply List.map_congr_left
    intro i hi
    show (if n + i < n then vs (n + i) else vs' (n + i - n)) = vs' i
    rw [if_neg (by omega), Nat.add_sub_cancel_left]
theorem slv_one {W : World} {B : Nat} {ls : List (List Nat)} {v : Value} {vs : Nat → Value} (h : RS W B ls v vs) : ∀ u ∈ slv vs ls.length, u.oneCell' = true := by
  intro u hu
  unfold slv at hu
  obtain ⟨i, hi, rfl⟩ := List.mem_map.1 hu
  obtain ⟨a, c, e, _⟩ := own_ne (h.row i (List.mem_range.1 hi))
  rw [e]
  rfl
/-- Two rows of rows, one behind the other. -/
theorem RS.join {W W3 : World} {B B' : Nat} {ls ls' : List (List Nat)} {v v' v3 : Value} {vs vs' : Nat → Value} (h : RS W B ls v vs) (h' : RS W B' ls' v' vs')
    (hown : W3.ownsRow B 40 1 v3 (ls.length + ls'.length) (slv vs ls.length ++ slv vs' ls'.length)) (hgr : W.grownBy W3 v.ownBlock) : RS W3 B (ls ++ ls') v3 (fun i => if i < ls.length then vs i else vs' (i - ls.length)) := by
  have keep : ∀ {u : Value} {m : Nat} {ys : List Value}, W.ownsRow 0 3 1 u m ys → W3.ownsRow 0 3 1 u m ys := fun {u m ys} hu => own_keep1 hu (fun q hq => hgr.block q (World.ownsRow.lt hu q hq).2 (fun e => own_apart h.out hu (by decide) hq e.symm))
  refine ⟨?_, fun i hi => ?_⟩
  · rw [List.length_append, slv_app]
    exact hown
  · rw [List.length_append] at hi
    by_cases e : i < ls.length
    · simp only [if_pos e]
      rw [List.getElem_append_left e]
      exact keep (h.row i e)
    · simp only [if_neg e]
      rw [List.getElem_append_right (by omega)]
      exact keep (h'.row (i - ls.length) (by omega))
theorem step_append_at {P : Program} (w : World) {ops : Array Oper} {o : Oper} {a : Act} {K : Act → World → Prop} {Q : Exit → Act → World → Prop} {E : Prop} (hgd : o.guard = none) (s x : Operand) (t : TypeId)
    (ho : o.op = .call { callee := .builtin .append, args := #[s, x], argTypes := #[t, t] })
    (base : Nat) (e : TypeId) (i : TypeInfo) (z : Value) (size bytes : Nat) (ht : P.underlying t = some (.slice e)) (hi : P.info? e = some i) (hz : i.zero = some z)
    (hsize : i.size = size) (hby : i.bytes = bytes) (hzs : z.cells.size = size) (hsz : 0 < size)
    (v : Value) (n : Nat) (xs : List Value) (hs : a.eval s = v) (hown : w.ownsRow base e size v n xs)
    (ad : Addr) (m c : Nat) (news : List Value) (hx : a.eval x = .slice (some ad) m c) (hl : news.length = m * size) (hnews : ∀ j u, news[j]? = some u → w.cell? (ad.add j) = some u) (h1 : ∀ u ∈ news, u.oneCell' = true)
    (h63 : n + m ≤ maxLen) (hbytes : (n + m) * bytes ≤ 140737488355328) (hbase : base ≤ w.heap.size) (hnn : v ≠ .slice none 0 0)
    (h : ∀ g' cap' w', w'.ownsRow base e size (.slice (some ⟨g', 0, none⟩) (n + m) cap') (n + m) (xs ++ news) → w.grownBy w' v.ownBlock → (v.ownBlock = some g' ∨ g' = w.heap.size) → K (a.put o.dst (.slice (some ⟨g', 0, none⟩) (n + m) cap')) w') :
    if Region.wanted o (yielded ops a.tmps) = true then Oper.wp P o a w K Q else E := by
  have hw : Region.wanted o (yielded ops a.tmps) = true := by simp [Region.wanted, hgd]
  rw [if_pos hw]
  obtain ⟨v', w', hr, h2, h3, h4, h5⟩ := run_append_own_at (P := P) w base t o.type e i z size bytes ht hi hz hsize hby hzs hsz v n xs hown ad m c news hl hnews h1 h63 hbytes hbase
  obtain ⟨g', cap', e'⟩ := own_some h2 (fun q => hnn (h4.1 q).1)
  subst e'
  unfold Oper.wp execOp
  simp only [ho, resolve, invoke, builtin, Sem.run_bind, Sem.run_pure, Result.andThen_ok, List.map_toArray, List.map_cons, List.map_nil, hs, hx, hr]
  refine h g' cap' w' h2 h3 ?_
  rcases h5 with e | e
  · exact .inl e.symm
  · simp [Value.ownBlock] at e
    exact .inr e
/-- What l11Places has when it comes to the Kid j. -/
def plJ (p : Tr) (t : Tr) (xs : List Nat) (j : Nat) : List (List Nat) := (if mtB p t = true then [xs] else []) ++ spK ((t.kids.take j).map (plT p)) 0 xs
theorem plJ_succ (p t : Tr) (xs : List Nat) {j : Nat} (h : j < t.kids.length) : plJ p t xs (j + 1) = plJ p t xs j ++ plT p t.kids[j] (xs ++ [j]) := by
  unfold plJ
  rw [List.take_succ_eq_append_getElem h, List.map_append, spK_append, List.append_assoc]
  have : (List.map (plT p) (t.kids.take j)).length = j := by simp; omega
  rw [this]
  simp [spK]
theorem plJ_all (p t : Tr) (xs : List Nat) : plJ p t xs t.kids.length = plT p t xs := by
  unfold plJ
  rw [List.take_length]
  obtain ⟨n, x, lf, k⟩ := t
  rw [plT_mk]
theorem plJ_len (p t : Tr) (xs : List Nat) {j : Nat} (h : j ≤ t.kids.length) : (plJ p t xs j).length ≤ t.cnt := by
  have h1 := plT_len p t xs
  rw [← plJ_all] at h1
  have key : ∀ d, j + d ≤ t.kids.length → (plJ p t xs j).length ≤ (plJ p t xs (j + d)).length := by
    intro d
    induction d with
    | zero => intro _; exact Nat.le_refl _
    | succ d ih =>
      intro hd
      have h2 := plJ_succ p t xs (j := j + d) (by omega)
      rw [show j + (d + 1) = j + d + 1 from rfl, h2, List.length_append]
      have := ih (by omega)
      omega
  have := key (t.kids.length - j) (by omega)
  rw [show j + (t.kids.length - j) = t.kids.length from by omega] at this
  omega
/-- What l11Places leaves. -/
def PlA (L : List (List Nat)) (w : World) (e : Ending) (w' : World) : Prop :=
  ∃ (g c : Nat) (vs : Nat → Value), e = .returned (.slice (some ⟨g, 0, none⟩) L.length c) ∧ Below w.heap.size w w' ∧ RS w' w.heap.size L (.slice (some ⟨g, 0, none⟩) L.length c) vs
theorem info86t : (Try.prog.info? 40).map (fun i => (i.zero, i.size, i.bytes)) = some (some (.slice none 0 0), 1, 24) := by kernel_rfl
set_option maxHeartbeats 6400000 in
theorem places55 (W0 : World) (p : Tr) (pv : Value) (hp : Lies W0 (fun _ => True) p pv) (hpc : p.cnt ≤ 1000) (t : Tr) : ∀ (tv : Value) (xs : List Nat) (gp cp : Nat) (w : World), Lies W0 (fun _ => True) t tv → Below W0.heap.size W0 w → w.ownsRow 0 3 1 (.slice (some ⟨gp, 0, none⟩) xs.length cp) xs.length (nums xs) → xs.length + t.cnt ≤ 1000000 → t.cnt ≤ 1000 →
    Calls Try.prog 31 #[p.val pv, t.val tv, .slice (some ⟨gp, 0, none⟩) xs.length cp] w (PlA (plT p t xs) w) := by
  refine Tr.ind (P := fun t => ∀ (tv : Value) (xs : List Nat) (gp cp : Nat) (w : World), Lies W0 (fun _ => True) t tv → Below W0.heap.size W0 w → w.ownsRow 0 3 1 (.slice (some ⟨gp, 0, none⟩) xs.length cp) xs.length (nums xs) → xs.length + t.cnt ≤ 1000000 → t.cnt ≤ 1000 → Calls Try.prog 31 #[p.val pv, t.val tv, .slice (some ⟨gp, 0, none⟩) xs.length cp] w (PlA (plT p t xs) w)) ?_ t
  intro n x lf kids ih tv xs gp cp w hl hbel ho hxk htc
  have HMT := (show Hid (∀ w1 : World, Below W0.heap.size W0 w1 → Calls Try.prog 22 #[p.val pv, (Tr.mk n x lf kids).val tv, .slice (some ⟨w1.heap.size, 0, none⟩) 0 0] (w1.alloc (.cells #[] 47)) fun e w' => ∃ (b m cap : Nat), e = .returned (.tuple #[.slice (some ⟨b, 0, none⟩) m cap, .bool (mtB p ⟨n, x, lf, kids⟩)]) ∧ Below w1.heap.size w1 w') from fun w1 hb => by
    have hb2 := bel_trans hb (bel_alloc w1 (.cells #[] 47))
    refine Calls.mono (match34 p ⟨n, x, lf, kids⟩ pv tv _ [] _ (hp.still hb2) (hl.still hb2) (BLi.made w1) (by simp; omega)) ?_
    rintro e w' ⟨b, cap, e1, e2, _⟩
    exact ⟨b, _, cap, e1, (bel_alloc w1 (.cells #[] 47)).trans (e2.mono (by simp))⟩)
  have HLJ := (show Hid (∀ j (h : j < kids.length), plJ p ⟨n, x, lf, kids⟩ xs (j + 1) = plJ p ⟨n, x, lf, kids⟩ xs j ++ plT p kids[j] (xs ++ [j])) from fun j h => plJ_succ p ⟨n, x, lf, kids⟩ xs h)
  have HLL := (show Hid (∀ j, j ≤ kids.length → (plJ p ⟨n, x, lf, kids⟩ xs j).length ≤ 1000) from fun j h => by have := plJ_len p ⟨n, x, lf, kids⟩ xs (j := j) h; omega)
  have HLA := (show Hid (plJ p ⟨n, x, lf, kids⟩ xs kids.length = plT p ⟨n, x, lf, kids⟩ xs) from plJ_all p ⟨n, x, lf, kids⟩ xs)
  have HL0 := (show Hid (plJ p ⟨n, x, lf, kids⟩ xs 0 = if mtB p ⟨n, x, lf, kids⟩ = true then [xs] else []) from (by show _ = _; unfold plJ; simp [spK]))
  rw [Tr.cnt_mk] at hxk htc
  obtain ⟨a, cap, b, off, sv, rfl, hnz, hxz, hc, hm, ha, hcell, hkk⟩ := hl.out
  dsimp only at hnz hxz hc hm ha hcell hkk
  obtain ⟨pa, pl, pc, rfl⟩ := hp.form
  have HI := (show Hid (∀ i (hi : i < kids.length) (xs' : List Nat) (gp cp : Nat) (w : World), Below W0.heap.size W0 w → w.ownsRow 0 3 1 (.slice (some ⟨gp, 0, none⟩) xs'.length cp) xs'.length (nums xs') → xs'.length + kids[i].cnt ≤ 1000000 → Calls Try.prog 31 #[p.val (.slice pa pl pc), kids[i].val (sv i), .slice (some ⟨gp, 0, none⟩) xs'.length cp] w (PlA (plT p kids[i] xs') w)) from fun i hi xs' gp cp w h1 h2 h3 => ih i hi (sv i) xs' gp cp w (hkk i hi) h1 h2 h3 (by have := Tr.cnt_mem kids i hi; omega))
  have HF := (show Hid (∀ i (hi : i < kids.length), ∃ s1 s2 s3, sv i = .slice s1 s2 s3) from fun i hi => (hkk i hi).form)
  have HC := (show Hid _ from hcell)
  have HA := (show Hid (0 < kids.length → a = some ⟨b, off, none⟩) from fun h => (ha h).1)
  have HBL := (show Hid (Below W0.heap.size W0 w) from hbel)
  have HO := (show Hid (w.ownsRow 0 3 1 (.slice (some ⟨gp, 0, none⟩) xs.length cp) xs.length (nums xs)) from ho)
  have HKC := (show Hid (∀ i (hi : i < kids.length), xs.length + 1 + kids[i].cnt ≤ 1000000) from fun i hi => by have := Tr.cnt_mem kids i hi; omega)
  have hkl : kids.length ≤ 1000 := by have := Tr.len_le_cntL kids; omega
  have hCw := hbel.size
  have hxl : xs.length ≤ 1000000 := by omega
  unfold maxLen at hm
  clear hp hl ih hcell hkk ha ho hbel hpc htc hxk
  simp only [Tr.val] at HMT HI ⊢
  generalize p.name = p0 at *
  generalize p.text = p1 at *
  generalize p.leaf = p2 at *
  have HAN := (show Hid (∀ wq : World, Below (w.heap.size + 2) ((w.alloc (.cells #[.string p0, .string p1, .bool p2, .slice pa pl pc] 26)).alloc (.cells #[.string n, .string x, .bool lf, .slice a kids.length cap] 26)) wq → Below w.heap.size w wq ∧ Below W0.heap.size W0 wq ∧ Box wq w.heap.size 26 [.string p0, .string p1, .bool p2, .slice pa pl pc] ∧ Box wq (w.heap.size + 1) 26 [.string n, .string x, .bool lf, .slice a kids.length cap] ∧ w.heap.size + 2 ≤ wq.heap.size) from fun wq h => by
    have h1 : Below w.heap.size w ((w.alloc (.cells #[.string p0, .string p1, .bool p2, .slice pa pl pc] 26)).alloc (.cells #[.string n, .string x, .bool lf, .slice a kids.length cap] 26)) := (bel_alloc _ _).alloc (by simp) _
    have h3 := h1.trans (h.mono (by omega))
    refine ⟨h3, HBL.out.trans (h3.mono hCw), ?_, ?_, by have := h.size; simpa using this⟩
    · exact ((Box.new w 26 _).still (bel_alloc _ _)).keep (h.block _ (by omega))
    · have h2 := Box.new (w.alloc (.cells #[.string p0, .string p1, .bool p2, .slice pa pl pc] 26)) 26 [.string n, .string x, .bool lf, .slice a kids.length cap]
      rw [show (w.alloc (.cells #[.string p0, .string p1, .bool p2, .slice pa pl pc] 26)).heap.size = w.heap.size + 1 from by simp] at h2
      exact h2.keep (h.block _ (by omega)))
  have hz3 : ((w.alloc (.cells #[.string p0, .string p1, .bool p2, .slice pa pl pc] 26)).alloc (.cells #[.string n, .string x, .bool lf, .slice a kids.length cap] 26)).heap.size = w.heap.size + 1 + 1 := by simp
  have H3 := (show Hid (Below (w.heap.size + 2) ((w.alloc (.cells #[.string p0, .string p1, .bool p2, .slice pa pl pc] 26)).alloc (.cells #[.string n, .string x, .bool lf, .slice a kids.length cap] 26)) (((w.alloc (.cells #[.string p0, .string p1, .bool p2, .slice pa pl pc] 26)).alloc (.cells #[.string n, .string x, .bool lf, .slice a kids.length cap] 26)).alloc (.cells #[] 40))) from (Below.refl _ _).alloc (by simp) _)
  have HR3 := (show Hid ((((w.alloc (.cells #[.string p0, .string p1, .bool p2, .slice pa pl pc] 26)).alloc (.cells #[.string n, .string x, .bool lf, .slice a kids.length cap] 26)).alloc (.cells #[] 40)).ownsRow (w.heap.size + 2) 40 1 (.slice (some ⟨w.heap.size + 1 + 1, 0, none⟩) 0 0) 0 []) from (by
    have h := World.ownsRow_made (base := w.heap.size + 2) (e := 40) (size := 1) ((w.alloc (.cells #[.string p0, .string p1, .bool p2, .slice pa pl pc] 26)).alloc (.cells #[.string n, .string x, .bool lf, .slice a kids.length cap] 26)) #[] 0 (by omega) (Nat.zero_le _) rfl
    rw [hz3] at h
    exact h))
  have C1 := (show Hid _ from HMT.out _ (HAN.out _ H3.out).2.1)
  obtain ⟨_, _, bxp, bxt, _⟩ := HAN.out _ H3.out
  have A0 : (((w.alloc (.cells #[.string p0, .string p1, .bool p2, .slice pa pl pc] 26)).alloc (.cells #[.string n, .string x, .bool lf, .slice a kids.length cap] 26)).alloc (.cells #[] 40)).cell? ⟨w.heap.size, 0, none⟩ = some (.string p0) := bxp.cell 0 (by simp)
  have A1 : (((w.alloc (.cells #[.string p0, .string p1, .bool p2, .slice pa pl pc] 26)).alloc (.cells #[.string n, .string x, .bool lf, .slice a kids.length cap] 26)).alloc (.cells #[] 40)).cell? ⟨w.heap.size, 1, none⟩ = some (.string p1) := bxp.cell 1 (by simp)
  have A2 : (((w.alloc (.cells #[.string p0, .string p1, .bool p2, .slice pa pl pc] 26)).alloc (.cells #[.string n, .string x, .bool lf, .slice a kids.length cap] 26)).alloc (.cells #[] 40)).cell? ⟨w.heap.size, 2, none⟩ = some (.bool p2) := bxp.cell 2 (by simp)
  have A3 : (((w.alloc (.cells #[.string p0, .string p1, .bool p2, .slice pa pl pc] 26)).alloc (.cells #[.string n, .string x, .bool lf, .slice a kids.length cap] 26)).alloc (.cells #[] 40)).cell? ⟨w.heap.size, 3, none⟩ = some (.slice pa pl pc) := bxp.cell 3 (by simp)
  have hzz : (((w.alloc (.cells #[.string p0, .string p1, .bool p2, .slice pa pl pc] 26)).alloc (.cells #[.string n, .string x, .bool lf, .slice a kids.length cap] 26)).alloc (.cells #[] 40)).heap.size = w.heap.size + 1 + 1 + 1 := by simp
  have HZZ := (show Hid _ from hzz)
  rw [hzz] at C1
  clear bxp bxt HMT hz3 hzz
  obtain ⟨i3, hi3, hz0, hz1, hz2⟩ := info_parts info3i
  obtain ⟨i86, hi86, y0, y1, y2⟩ := info_parts info86t
  have HNL := (show Hid ((nums xs).length = xs.length * 1) from (by show _ = _; simp [nums]))
  generalize hmb : mtB p ⟨n, x, lf, kids⟩ = mb at *
  clear hmb
  rw [← HLA.out]
  generalize hLJ : plJ p ⟨n, x, lf, kids⟩ xs = LJf at *
  clear hLJ HLA
  go_enter Try.func31, Try.ntmps31
  go_wp2_with fail
  refine Calls.mono C1.out ?_
  rintro e w1 ⟨bb, bm, bc, rfl, hb1⟩
  have HB1 := (show Hid (Below (w.heap.size + 2) ((w.alloc (.cells #[.string p0, .string p1, .bool p2, .slice pa pl pc] 26)).alloc (.cells #[.string n, .string x, .bool lf, .slice a kids.length cap] 26)) w1 ∧ w1.ownsRow (w.heap.size + 2) 40 1 (.slice (some ⟨w.heap.size + 1 + 1, 0, none⟩) 0 0) 0 []) from (by
    have h := hb1
    rw [← HZZ.out] at h
    exact ⟨H3.out.trans (h.mono (by rw [HZZ.out]; omega)), own_still HR3.out h⟩))
  clear hb1 C1 A0 A1 A2 A3 H3 HR3 HZZ
  have HP1 := (show Hid (∀ wq : World, Below w.heap.size w wq → wq.ownsRow 0 3 1 (.slice (some ⟨gp, 0, none⟩) xs.length cp) xs.length (nums xs)) from fun wq h => own_still HO.out h)
  cases mb
  · have HE0 := (show Hid (LJf 0 = []) from (by show _ = _; rw [HL0.out]; rfl))
    have HSTART := (show Hid (Below (w.heap.size + 2) ((w.alloc (.cells #[.string p0, .string p1, .bool p2, .slice pa pl pc] 26)).alloc (.cells #[.string n, .string x, .bool lf, .slice a kids.length cap] 26)) w1 ∧ ∃ vs, RS w1 (w.heap.size + 2) (LJf 0) (.slice (some ⟨w.heap.size + 1 + 1, 0, none⟩) (LJf 0).length 0) vs) from ⟨HB1.out.1, by
      rw [HE0.out]
      exact ⟨fun _ => .slice none 0 0, HB1.out.2, fun i hi => absurd hi (Nat.not_lt_zero _)⟩⟩)
    clear HB1 HL0
    go_wp2_with fail
    go_loopw [7, 10] (fun u i wr => ∃ (j g c : Nat), u = .slice (some ⟨g, 0, none⟩) (LJf j).length c ∧ i = .int .i64 j ∧ j ≤ kids.length ∧ Hid (Below (w.heap.size + 2) ((w.alloc (.cells #[.string p0, .string p1, .bool p2, .slice pa pl pc] 26)).alloc (.cells #[.string n, .string x, .bool lf, .slice a kids.length cap] 26)) wr) ∧ Hid (∃ vs, RS wr (w.heap.size + 2) (LJf j) (.slice (some ⟨g, 0, none⟩) (LJf j).length c) vs)) (fun _ i _ => kids.length - (intOf i).toNat)
    case atStart => exact ⟨0, w.heap.size + 1 + 1, 0, by rw [HE0.out]; rfl, rfl, Nat.zero_le _, HSTART.out.1, HSTART.out.2⟩
    case round =>
      obtain ⟨j, g, c, rfl, rfl, hj, HB, HRS⟩ := hrel
      clear HSTART HE0
      obtain ⟨hbw, hbW0, bxp, bxt, hzr⟩ := HAN.out wr HB.out
      by_cases hlt : j < kids.length
      · have q1 : (j : Int) < (kids.length : Int) := by omega
        have i1 : (0 : Int) ≤ (j : Int) := by omega
        obtain rfl := HA.out (by omega)
        obtain ⟨s1, s2, s3, hsv⟩ := HF.out j hlt
        obtain ⟨d0, d1, d2, d3⟩ := HC.out j hlt
        obtain ⟨vs, hrs⟩ := HRS.out
        have hll := HLL.out (j + 1) (by omega)
        have HLN := (show Hid ((LJf (j + 1)).length = (LJf j).length + (plT p kids[j] (xs ++ [j])).length) from (by show _ = _; rw [HLJ.out j hlt, List.length_append]))
        have HLE := (show Hid (LJf (j + 1) = LJf j ++ plT p kids[j] (xs ++ [j])) from HLJ.out j hlt)
        rw [HLN.out] at hll
        have hkc := HKC.out j hlt
        have HCK := (show Hid (∀ (gp cp : Nat) (w : World), Below W0.heap.size W0 w → w.ownsRow 0 3 1 (.slice (some ⟨gp, 0, none⟩) (xs.length + 1) cp) (xs.length + 1) (nums xs ++ [.int .i64 (j : Nat)]) → Calls Try.prog 31 #[.agg #[.string p0, .string p1, .bool p2, .slice pa pl pc], .agg #[.string kids[j].name, .string kids[j].text, .bool kids[j].leaf, .slice s1 s2 s3], .slice (some ⟨gp, 0, none⟩) (xs.length + 1) cp] w (PlA (plT p kids[j] (xs ++ [j])) w)) from fun gp cp w h1 h2 => by
          have hlen : (xs ++ [j]).length = xs.length + 1 := by simp
          have h := HI.out j hlt (xs ++ [j]) gp cp w h1 (by rw [hlen, nums_app]; exact h2) (by rw [hlen]; omega)
          rw [hlen, hsv] at h
          exact h)
        rw [hsv] at d3
        generalize plT p kids[j] (xs ++ [j]) = M at *
        generalize hLJ : LJf j = LJ at *
        clear hLJ
        generalize kids[j].name = k0 at *
        generalize kids[j].text = k1 at *
        generalize kids[j].leaf = k2 at *
        have HSP := (show Hid (∀ wq : World, Below (w.heap.size + 2) ((w.alloc (.cells #[.string p0, .string p1, .bool p2, .slice pa pl pc] 26)).alloc (.cells #[.string n, .string x, .bool lf, .slice (some ⟨b, off, none⟩) kids.length cap] 26)) wq → (wq.cell? ⟨w.heap.size, 0, none⟩ = some (.string p0) ∧ wq.cell? ⟨w.heap.size, 1, none⟩ = some (.string p1) ∧ wq.cell? ⟨w.heap.size, 2, none⟩ = some (.bool p2) ∧ wq.cell? ⟨w.heap.size, 3, none⟩ = some (.slice pa pl pc) ∧ wq.cell? ⟨w.heap.size + 1, 3, none⟩ = some (.slice (some ⟨b, off, none⟩) kids.length cap) ∧ wq.cell? ⟨b, off + j * 4, none⟩ = some (.string k0) ∧ wq.cell? ⟨b, off + j * 4 + 1, none⟩ = some (.string k1) ∧ wq.cell? ⟨b, off + j * 4 + 2, none⟩ = some (.bool k2) ∧ wq.cell? ⟨b, off + j * 4 + 3, none⟩ = some (.slice s1 s2 s3))) from fun wq h => by
          obtain ⟨_, g2, g3, g4, _⟩ := HAN.out wq h
          have mv : ∀ {b o : Nat} {v : Value}, W0.cell? ⟨b, o, none⟩ = some v → wq.cell? ⟨b, o, none⟩ = some v := fun h => (g2.cell (lt_of_cell h)).trans h
          exact ⟨g3.cell 0 (by simp), g3.cell 1 (by simp), g3.cell 2 (by simp), g3.cell 3 (by simp), g4.cell 3 (by simp), mv d0, mv d1, mv d2, mv d3⟩)
        have HBR := (show Hid (∀ wq : World, Below wr.heap.size wr wq → Below (w.heap.size + 2) ((w.alloc (.cells #[.string p0, .string p1, .bool p2, .slice pa pl pc] 26)).alloc (.cells #[.string n, .string x, .bool lf, .slice (some ⟨b, off, none⟩) kids.length cap] 26)) wq) from fun wq h => HB.out.trans (h.mono hzr))
        have T3 : wr.cell? ⟨w.heap.size + 1, 3, none⟩ = some (.slice (some ⟨b, off, none⟩) kids.length cap) := bxt.cell 3 (by simp)
        have HPR := (show Hid (∀ wq : World, Below wr.heap.size wr wq → wq.ownsRow 0 3 1 (.slice (some ⟨gp, 0, none⟩) xs.length cp) xs.length (nums xs)) from fun wq h => HP1.out wq (HAN.out wq (HBR.out wq h)).1)
        have HRR := (show Hid (RS wr (w.heap.size + 2) LJ (.slice (some ⟨g, 0, none⟩) LJ.length c) vs) from hrs)
        have HT := (show Hid (∀ (V : World) (g9 c9 bi : Nat), Below wr.heap.size wr V → V.ownsRow wr.heap.size 3 1 (.slice (some ⟨g9, 0, none⟩) xs.length c9) xs.length (nums xs) → V.cell? ⟨bi, 0, none⟩ = some (.int .i64 (j : Nat)) → V.ownsRow wr.heap.size 3 1 (.slice (some ⟨g9, 0, none⟩) xs.length c9) xs.length (nums xs) ∧ (∀ q z, [Value.int .i64 (j : Nat)][q]? = some z → V.cell? ((⟨bi, 0, none⟩ : Addr).add q) = some z) ∧ wr.heap.size ≤ V.heap.size ∧ ∀ (g12 c12 : Nat) (w12 : World), w12.ownsRow wr.heap.size 3 1 (.slice (some ⟨g12, 0, none⟩) (xs.length + 1) c12) (xs.length + 1) (nums xs ++ [.int .i64 (j : Nat)]) → V.grownBy w12 (Value.slice (some ⟨g9, 0, none⟩) xs.length c9).ownBlock → ((Value.slice (some ⟨g9, 0, none⟩) xs.length c9).ownBlock = some g12 ∨ g12 = V.heap.size) → (w12.cell? ⟨w.heap.size, 0, none⟩ = some (.string p0) ∧ w12.cell? ⟨w.heap.size, 1, none⟩ = some (.string p1) ∧ w12.cell? ⟨w.heap.size, 2, none⟩ = some (.bool p2) ∧ w12.cell? ⟨w.heap.size, 3, none⟩ = some (.slice pa pl pc) ∧ w12.cell? ⟨w.heap.size + 1, 3, none⟩ = some (.slice (some ⟨b, off, none⟩) kids.length cap) ∧ w12.cell? ⟨b, off + j * 4, none⟩ = some (.string k0) ∧ w12.cell? ⟨b, off + j * 4 + 1, none⟩ = some (.string k1) ∧ w12.cell? ⟨b, off + j * 4 + 2, none⟩ = some (.bool k2) ∧ w12.cell? ⟨b, off + j * 4 + 3, none⟩ = some (.slice s1 s2 s3)) ∧ Hid (Calls Try.prog 31 #[.agg #[.string p0, .string p1, .bool p2, .slice pa pl pc], .agg #[.string k0, .string k1, .bool k2, .slice s1 s2 s3], .slice (some ⟨g12, 0, none⟩) (xs.length + 1) c12] w12 (fun e w13 => ∃ (g13 c13 : Nat), e = .returned (.slice (some ⟨g13, 0, none⟩) M.length c13) ∧ ∃ vs13 : Nat → Value, (w13.cell? ⟨w.heap.size, 0, none⟩ = some (.string p0) ∧ w13.cell? ⟨w.heap.size, 1, none⟩ = some (.string p1) ∧ w13.cell? ⟨w.heap.size, 2, none⟩ = some (.bool p2) ∧ w13.cell? ⟨w.heap.size, 3, none⟩ = some (.slice pa pl pc) ∧ w13.cell? ⟨w.heap.size + 1, 3, none⟩ = some (.slice (some ⟨b, off, none⟩) kids.length cap) ∧ w13.cell? ⟨b, off + j * 4, none⟩ = some (.string k0) ∧ w13.cell? ⟨b, off + j * 4 + 1, none⟩ = some (.string k1) ∧ w13.cell? ⟨b, off + j * 4 + 2, none⟩ = some (.bool k2) ∧ w13.cell? ⟨b, off + j * 4 + 3, none⟩ = some (.slice s1 s2 s3)) ∧ Hid (w13.ownsRow (w.heap.size + 2) 40 1 (.slice (some ⟨g, 0, none⟩) LJ.length c) LJ.length (slv vs LJ.length)) ∧ Hid (∀ q z, (slv vs13 M.length)[q]? = some z → w13.cell? ((⟨g13, 0, none⟩ : Addr).add q) = some z) ∧ Hid ((slv vs13 M.length).length = M.length * 1) ∧ Hid (∀ u ∈ slv vs13 M.length, u.oneCell' = true) ∧ Hid (w.heap.size + 2 ≤ w13.heap.size) ∧ Hid (∀ (g14 c14 : Nat) (w14 : World), w14.ownsRow (w.heap.size + 2) 40 1 (.slice (some ⟨g14, 0, none⟩) (LJ.length + M.length) c14) (LJ.length + M.length) (slv vs LJ.length ++ slv vs13 M.length) → w13.grownBy w14 (Value.slice (some ⟨g, 0, none⟩) LJ.length c).ownBlock → ((Value.slice (some ⟨g, 0, none⟩) LJ.length c).ownBlock = some g14 ∨ g14 = w13.heap.size) → (w14.cell? ⟨w.heap.size, 0, none⟩ = some (.string p0) ∧ w14.cell? ⟨w.heap.size, 1, none⟩ = some (.string p1) ∧ w14.cell? ⟨w.heap.size, 2, none⟩ = some (.bool p2) ∧ w14.cell? ⟨w.heap.size, 3, none⟩ = some (.slice pa pl pc) ∧ w14.cell? ⟨w.heap.size + 1, 3, none⟩ = some (.slice (some ⟨b, off, none⟩) kids.length cap) ∧ w14.cell? ⟨b, off + j * 4, none⟩ = some (.string k0) ∧ w14.cell? ⟨b, off + j * 4 + 1, none⟩ = some (.string k1) ∧ w14.cell? ⟨b, off + j * 4 + 2, none⟩ = some (.bool k2) ∧ w14.cell? ⟨b, off + j * 4 + 3, none⟩ = some (.slice s1 s2 s3)) ∧ Hid (Below (w.heap.size + 2) ((w.alloc (.cells #[.string p0, .string p1, .bool p2, .slice pa pl pc] 26)).alloc (.cells #[.string n, .string x, .bool lf, .slice (some ⟨b, off, none⟩) kids.length cap] 26)) w14 ∧ ∃ vs, RS w14 (w.heap.size + 2) (LJf (j + 1)) (.slice (some ⟨g14, 0, none⟩) (LJf (j + 1)).length c14) vs))))) from fun V g9 c9 bi hbV ho9 hci => by
          refine ⟨ho9, fun q z hq => ?_, hbV.size, fun g12 c12 w12 hown hgr hat => ?_⟩
          · cases q with
            | zero =>
              simp at hq
              subst hq
              exact hci
            | succ q => simp at hq
          · have hb12 : Below wr.heap.size wr w12 := hbV.grown hgr hbV.size (fun q hq => (World.ownsRow.lt ho9 q hq).1)
            refine ⟨HSP.out w12 (HBR.out w12 hb12), Calls.mono (HCK.out g12 c12 w12 (HAN.out w12 (HBR.out w12 hb12)).2.1 (own_base hown (Nat.zero_le _))) ?_⟩
            rintro e w13 ⟨g13, c13, vs13, rfl, hb13, hrs13⟩
            have hbR := bel_trans hb12 hb13
            have hrs1 := HRR.out.still hbR
            refine ⟨g13, c13, rfl, vs13, HSP.out w13 (HBR.out w13 hbR), hrs1.out, hrs13.out.cells (g := g13) rfl, (by show _ = _; simp [slv_len]), slv_one hrs13, (by show _ ≤ _; have := hbR.size; omega), fun g14 c14 w14 hown14 hgr14 hat14 => ?_⟩
            have hb14 : Below (w.heap.size + 2) ((w.alloc (.cells #[.string p0, .string p1, .bool p2, .slice pa pl pc] 26)).alloc (.cells #[.string n, .string x, .bool lf, .slice (some ⟨b, off, none⟩) kids.length cap] 26)) w14 := (HBR.out w13 hbR).grown hgr14 (by have := hbR.size; omega) (fun q hq => (World.ownsRow.lt hrs1.out q hq).1)
            refine ⟨HSP.out w14 hb14, hb14, (fun i => if i < LJ.length then vs i else vs13 (i - LJ.length)), ?_⟩
            rw [HLE.out, List.length_append]
            exact hrs1.join hrs13 hown14 hgr14)
        have hdr : Below wr.heap.size wr wr.drew := (Below.refl _ _).drew
        have hbA : Below wr.heap.size wr (wr.drew.alloc (.cells #[] 3)) := hdr.alloc hdr.size _
        have hbI : Below wr.heap.size wr (wr.drew.alloc (.cells #[.int .i64 j] 3)) := hdr.alloc hdr.size _
        have hbB : Below wr.heap.size wr ((wr.drew.alloc (.cells #[] 3)).alloc (.cells #[.int .i64 j] 3)) := hbA.alloc hbA.size _
        have hbC : Below wr.heap.size wr ((wr.drew.alloc (.cells #[.int .i64 j] 3)).alloc (.cells #[] 3)) := hbI.alloc hbI.size _
        have hS0 : (wr.drew.cell? ⟨w.heap.size, 0, none⟩ = some (.string p0) ∧ wr.drew.cell? ⟨w.heap.size, 1, none⟩ = some (.string p1) ∧ wr.drew.cell? ⟨w.heap.size, 2, none⟩ = some (.bool p2) ∧ wr.drew.cell? ⟨w.heap.size, 3, none⟩ = some (.slice pa pl pc) ∧ wr.drew.cell? ⟨w.heap.size + 1, 3, none⟩ = some (.slice (some ⟨b, off, none⟩) kids.length cap) ∧ wr.drew.cell? ⟨b, off + j * 4, none⟩ = some (.string k0) ∧ wr.drew.cell? ⟨b, off + j * 4 + 1, none⟩ = some (.string k1) ∧ wr.drew.cell? ⟨b, off + j * 4 + 2, none⟩ = some (.bool k2) ∧ wr.drew.cell? ⟨b, off + j * 4 + 3, none⟩ = some (.slice s1 s2 s3)) := HSP.out _ (HBR.out _ hdr)
        have HSA := (show Hid (((wr.drew.alloc (.cells #[] 3)).cell? ⟨w.heap.size, 0, none⟩ = some (.string p0) ∧ (wr.drew.alloc (.cells #[] 3)).cell? ⟨w.heap.size, 1, none⟩ = some (.string p1) ∧ (wr.drew.alloc (.cells #[] 3)).cell? ⟨w.heap.size, 2, none⟩ = some (.bool p2) ∧ (wr.drew.alloc (.cells #[] 3)).cell? ⟨w.heap.size, 3, none⟩ = some (.slice pa pl pc) ∧ (wr.drew.alloc (.cells #[] 3)).cell? ⟨w.heap.size + 1, 3, none⟩ = some (.slice (some ⟨b, off, none⟩) kids.length cap) ∧ (wr.drew.alloc (.cells #[] 3)).cell? ⟨b, off + j * 4, none⟩ = some (.string k0) ∧ (wr.drew.alloc (.cells #[] 3)).cell? ⟨b, off + j * 4 + 1, none⟩ = some (.string k1) ∧ (wr.drew.alloc (.cells #[] 3)).cell? ⟨b, off + j * 4 + 2, none⟩ = some (.bool k2) ∧ (wr.drew.alloc (.cells #[] 3)).cell? ⟨b, off + j * 4 + 3, none⟩ = some (.slice s1 s2 s3)) ∧ True) from ⟨HSP.out _ (HBR.out _ hbA), trivial⟩)
        have HSB := (show Hid ((((wr.drew.alloc (.cells #[] 3)).alloc (.cells #[.int .i64 j] 3)).cell? ⟨w.heap.size, 0, none⟩ = some (.string p0) ∧ ((wr.drew.alloc (.cells #[] 3)).alloc (.cells #[.int .i64 j] 3)).cell? ⟨w.heap.size, 1, none⟩ = some (.string p1) ∧ ((wr.drew.alloc (.cells #[] 3)).alloc (.cells #[.int .i64 j] 3)).cell? ⟨w.heap.size, 2, none⟩ = some (.bool p2) ∧ ((wr.drew.alloc (.cells #[] 3)).alloc (.cells #[.int .i64 j] 3)).cell? ⟨w.heap.size, 3, none⟩ = some (.slice pa pl pc) ∧ ((wr.drew.alloc (.cells #[] 3)).alloc (.cells #[.int .i64 j] 3)).cell? ⟨w.heap.size + 1, 3, none⟩ = some (.slice (some ⟨b, off, none⟩) kids.length cap) ∧ ((wr.drew.alloc (.cells #[] 3)).alloc (.cells #[.int .i64 j] 3)).cell? ⟨b, off + j * 4, none⟩ = some (.string k0) ∧ ((wr.drew.alloc (.cells #[] 3)).alloc (.cells #[.int .i64 j] 3)).cell? ⟨b, off + j * 4 + 1, none⟩ = some (.string k1) ∧ ((wr.drew.alloc (.cells #[] 3)).alloc (.cells #[.int .i64 j] 3)).cell? ⟨b, off + j * 4 + 2, none⟩ = some (.bool k2) ∧ ((wr.drew.alloc (.cells #[] 3)).alloc (.cells #[.int .i64 j] 3)).cell? ⟨b, off + j * 4 + 3, none⟩ = some (.slice s1 s2 s3)) ∧ True) from ⟨HSP.out _ (HBR.out _ hbB), trivial⟩)
        have HSC := (show Hid (((wr.drew.alloc (.cells #[.int .i64 j] 3)).cell? ⟨w.heap.size, 0, none⟩ = some (.string p0) ∧ (wr.drew.alloc (.cells #[.int .i64 j] 3)).cell? ⟨w.heap.size, 1, none⟩ = some (.string p1) ∧ (wr.drew.alloc (.cells #[.int .i64 j] 3)).cell? ⟨w.heap.size, 2, none⟩ = some (.bool p2) ∧ (wr.drew.alloc (.cells #[.int .i64 j] 3)).cell? ⟨w.heap.size, 3, none⟩ = some (.slice pa pl pc) ∧ (wr.drew.alloc (.cells #[.int .i64 j] 3)).cell? ⟨w.heap.size + 1, 3, none⟩ = some (.slice (some ⟨b, off, none⟩) kids.length cap) ∧ (wr.drew.alloc (.cells #[.int .i64 j] 3)).cell? ⟨b, off + j * 4, none⟩ = some (.string k0) ∧ (wr.drew.alloc (.cells #[.int .i64 j] 3)).cell? ⟨b, off + j * 4 + 1, none⟩ = some (.string k1) ∧ (wr.drew.alloc (.cells #[.int .i64 j] 3)).cell? ⟨b, off + j * 4 + 2, none⟩ = some (.bool k2) ∧ (wr.drew.alloc (.cells #[.int .i64 j] 3)).cell? ⟨b, off + j * 4 + 3, none⟩ = some (.slice s1 s2 s3)) ∧ (((wr.drew.alloc (.cells #[.int .i64 j] 3)).alloc (.cells #[] 3)).cell? ⟨w.heap.size, 0, none⟩ = some (.string p0) ∧ ((wr.drew.alloc (.cells #[.int .i64 j] 3)).alloc (.cells #[] 3)).cell? ⟨w.heap.size, 1, none⟩ = some (.string p1) ∧ ((wr.drew.alloc (.cells #[.int .i64 j] 3)).alloc (.cells #[] 3)).cell? ⟨w.heap.size, 2, none⟩ = some (.bool p2) ∧ ((wr.drew.alloc (.cells #[.int .i64 j] 3)).alloc (.cells #[] 3)).cell? ⟨w.heap.size, 3, none⟩ = some (.slice pa pl pc) ∧ ((wr.drew.alloc (.cells #[.int .i64 j] 3)).alloc (.cells #[] 3)).cell? ⟨w.heap.size + 1, 3, none⟩ = some (.slice (some ⟨b, off, none⟩) kids.length cap) ∧ ((wr.drew.alloc (.cells #[.int .i64 j] 3)).alloc (.cells #[] 3)).cell? ⟨b, off + j * 4, none⟩ = some (.string k0) ∧ ((wr.drew.alloc (.cells #[.int .i64 j] 3)).alloc (.cells #[] 3)).cell? ⟨b, off + j * 4 + 1, none⟩ = some (.string k1) ∧ ((wr.drew.alloc (.cells #[.int .i64 j] 3)).alloc (.cells #[] 3)).cell? ⟨b, off + j * 4 + 2, none⟩ = some (.bool k2) ∧ ((wr.drew.alloc (.cells #[.int .i64 j] 3)).alloc (.cells #[] 3)).cell? ⟨b, off + j * 4 + 3, none⟩ = some (.slice s1 s2 s3))) from ⟨HSP.out _ (HBR.out _ hbI), HSP.out _ (HBR.out _ hbC)⟩)
        have hoA : (wr.drew.alloc (.cells #[] 3)).ownsRow wr.heap.size 3 1 (.slice (some ⟨wr.heap.size, 0, none⟩) 0 0) 0 [] := World.ownsRow_made wr.drew #[] 0 (Nat.le_refl _) (Nat.zero_le _) rfl
        have HA9 := (show Hid ((wr.drew.alloc (.cells #[] 3)).ownsRow wr.heap.size 3 1 (.slice (some ⟨wr.heap.size, 0, none⟩) 0 0) 0 [] ∧ (∀ q z, (nums xs)[q]? = some z → (wr.drew.alloc (.cells #[] 3)).cell? ((⟨gp, 0, none⟩ : Addr).add q) = some z) ∧ wr.heap.size ≤ (wr.drew.alloc (.cells #[] 3)).heap.size ∧ ∀ (g9 c9 : Nat) (w9 : World), w9.ownsRow wr.heap.size 3 1 (.slice (some ⟨g9, 0, none⟩) xs.length c9) xs.length (nums xs) → (wr.drew.alloc (.cells #[] 3)).grownBy w9 (some (wr.heap.size)) → Below wr.heap.size wr w9 ∧ (w9.cell? ⟨w.heap.size, 0, none⟩ = some (.string p0) ∧ w9.cell? ⟨w.heap.size, 1, none⟩ = some (.string p1) ∧ w9.cell? ⟨w.heap.size, 2, none⟩ = some (.bool p2) ∧ w9.cell? ⟨w.heap.size, 3, none⟩ = some (.slice pa pl pc) ∧ w9.cell? ⟨w.heap.size + 1, 3, none⟩ = some (.slice (some ⟨b, off, none⟩) kids.length cap) ∧ w9.cell? ⟨b, off + j * 4, none⟩ = some (.string k0) ∧ w9.cell? ⟨b, off + j * 4 + 1, none⟩ = some (.string k1) ∧ w9.cell? ⟨b, off + j * 4 + 2, none⟩ = some (.bool k2) ∧ w9.cell? ⟨b, off + j * 4 + 3, none⟩ = some (.slice s1 s2 s3)) ∧ Hid (((w9.alloc (.cells #[.int .i64 j] 3)).cell? ⟨w.heap.size, 0, none⟩ = some (.string p0) ∧ (w9.alloc (.cells #[.int .i64 j] 3)).cell? ⟨w.heap.size, 1, none⟩ = some (.string p1) ∧ (w9.alloc (.cells #[.int .i64 j] 3)).cell? ⟨w.heap.size, 2, none⟩ = some (.bool p2) ∧ (w9.alloc (.cells #[.int .i64 j] 3)).cell? ⟨w.heap.size, 3, none⟩ = some (.slice pa pl pc) ∧ (w9.alloc (.cells #[.int .i64 j] 3)).cell? ⟨w.heap.size + 1, 3, none⟩ = some (.slice (some ⟨b, off, none⟩) kids.length cap) ∧ (w9.alloc (.cells #[.int .i64 j] 3)).cell? ⟨b, off + j * 4, none⟩ = some (.string k0) ∧ (w9.alloc (.cells #[.int .i64 j] 3)).cell? ⟨b, off + j * 4 + 1, none⟩ = some (.string k1) ∧ (w9.alloc (.cells #[.int .i64 j] 3)).cell? ⟨b, off + j * 4 + 2, none⟩ = some (.bool k2) ∧ (w9.alloc (.cells #[.int .i64 j] 3)).cell? ⟨b, off + j * 4 + 3, none⟩ = some (.slice s1 s2 s3)) ∧ (w9.alloc (.cells #[.int .i64 j] 3)).ownsRow wr.heap.size 3 1 (.slice (some ⟨g9, 0, none⟩) xs.length c9) xs.length (nums xs) ∧ (∀ q z, [Value.int .i64 (j : Nat)][q]? = some z → (w9.alloc (.cells #[.int .i64 j] 3)).cell? ((⟨w9.heap.size, 0, none⟩ : Addr).add q) = some z) ∧ wr.heap.size ≤ (w9.alloc (.cells #[.int .i64 j] 3)).heap.size ∧ ∀ (g12 c12 : Nat) (w12 : World), w12.ownsRow wr.heap.size 3 1 (.slice (some ⟨g12, 0, none⟩) (xs.length + 1) c12) (xs.length + 1) (nums xs ++ [.int .i64 (j : Nat)]) → (w9.alloc (.cells #[.int .i64 j] 3)).grownBy w12 (Value.slice (some ⟨g9, 0, none⟩) xs.length c9).ownBlock → ((Value.slice (some ⟨g9, 0, none⟩) xs.length c9).ownBlock = some g12 ∨ g12 = (w9.alloc (.cells #[.int .i64 j] 3)).heap.size) → (w12.cell? ⟨w.heap.size, 0, none⟩ = some (.string p0) ∧ w12.cell? ⟨w.heap.size, 1, none⟩ = some (.string p1) ∧ w12.cell? ⟨w.heap.size, 2, none⟩ = some (.bool p2) ∧ w12.cell? ⟨w.heap.size, 3, none⟩ = some (.slice pa pl pc) ∧ w12.cell? ⟨w.heap.size + 1, 3, none⟩ = some (.slice (some ⟨b, off, none⟩) kids.length cap) ∧ w12.cell? ⟨b, off + j * 4, none⟩ = some (.string k0) ∧ w12.cell? ⟨b, off + j * 4 + 1, none⟩ = some (.string k1) ∧ w12.cell? ⟨b, off + j * 4 + 2, none⟩ = some (.bool k2) ∧ w12.cell? ⟨b, off + j * 4 + 3, none⟩ = some (.slice s1 s2 s3)) ∧ Hid (Calls Try.prog 31 #[.agg #[.string p0, .string p1, .bool p2, .slice pa pl pc], .agg #[.string k0, .string k1, .bool k2, .slice s1 s2 s3], .slice (some ⟨g12, 0, none⟩) (xs.length + 1) c12] w12 (fun e w13 => ∃ (g13 c13 : Nat), e = .returned (.slice (some ⟨g13, 0, none⟩) M.length c13) ∧ ∃ vs13 : Nat → Value, (w13.cell? ⟨w.heap.size, 0, none⟩ = some (.string p0) ∧ w13.cell? ⟨w.heap.size, 1, none⟩ = some (.string p1) ∧ w13.cell? ⟨w.heap.size, 2, none⟩ = some (.bool p2) ∧ w13.cell? ⟨w.heap.size, 3, none⟩ = some (.slice pa pl pc) ∧ w13.cell? ⟨w.heap.size + 1, 3, none⟩ = some (.slice (some ⟨b, off, none⟩) kids.length cap) ∧ w13.cell? ⟨b, off + j * 4, none⟩ = some (.string k0) ∧ w13.cell? ⟨b, off + j * 4 + 1, none⟩ = some (.string k1) ∧ w13.cell? ⟨b, off + j * 4 + 2, none⟩ = some (.bool k2) ∧ w13.cell? ⟨b, off + j * 4 + 3, none⟩ = some (.slice s1 s2 s3)) ∧ Hid (w13.ownsRow (w.heap.size + 2) 40 1 (.slice (some ⟨g, 0, none⟩) LJ.length c) LJ.length (slv vs LJ.length)) ∧ Hid (∀ q z, (slv vs13 M.length)[q]? = some z → w13.cell? ((⟨g13, 0, none⟩ : Addr).add q) = some z) ∧ Hid ((slv vs13 M.length).length = M.length * 1) ∧ Hid (∀ u ∈ slv vs13 M.length, u.oneCell' = true) ∧ Hid (w.heap.size + 2 ≤ w13.heap.size) ∧ Hid (∀ (g14 c14 : Nat) (w14 : World), w14.ownsRow (w.heap.size + 2) 40 1 (.slice (some ⟨g14, 0, none⟩) (LJ.length + M.length) c14) (LJ.length + M.length) (slv vs LJ.length ++ slv vs13 M.length) → w13.grownBy w14 (Value.slice (some ⟨g, 0, none⟩) LJ.length c).ownBlock → ((Value.slice (some ⟨g, 0, none⟩) LJ.length c).ownBlock = some g14 ∨ g14 = w13.heap.size) → (w14.cell? ⟨w.heap.size, 0, none⟩ = some (.string p0) ∧ w14.cell? ⟨w.heap.size, 1, none⟩ = some (.string p1) ∧ w14.cell? ⟨w.heap.size, 2, none⟩ = some (.bool p2) ∧ w14.cell? ⟨w.heap.size, 3, none⟩ = some (.slice pa pl pc) ∧ w14.cell? ⟨w.heap.size + 1, 3, none⟩ = some (.slice (some ⟨b, off, none⟩) kids.length cap) ∧ w14.cell? ⟨b, off + j * 4, none⟩ = some (.string k0) ∧ w14.cell? ⟨b, off + j * 4 + 1, none⟩ = some (.string k1) ∧ w14.cell? ⟨b, off + j * 4 + 2, none⟩ = some (.bool k2) ∧ w14.cell? ⟨b, off + j * 4 + 3, none⟩ = some (.slice s1 s2 s3)) ∧ Hid (Below (w.heap.size + 2) ((w.alloc (.cells #[.string p0, .string p1, .bool p2, .slice pa pl pc] 26)).alloc (.cells #[.string n, .string x, .bool lf, .slice (some ⟨b, off, none⟩) kids.length cap] 26)) w14 ∧ ∃ vs, RS w14 (w.heap.size + 2) (LJf (j + 1)) (.slice (some ⟨g14, 0, none⟩) (LJf (j + 1)).length c14) vs)))))) from ⟨hoA, (HPR.out _ hbA).cells (g := gp) rfl, hbA.size, fun g9 c9 w9 h1 h2 => by
          have hb9 : Below wr.heap.size wr w9 := hbA.grown h2 hbA.size (fun q hq => by injection hq with hq; omega)
          have hb10 : Below wr.heap.size wr (w9.alloc (.cells #[.int .i64 j] 3)) := hb9.alloc hb9.size _
          exact ⟨hb9, HSP.out _ (HBR.out _ hb9), HSP.out _ (HBR.out _ hb10), HT.out (w9.alloc (.cells #[.int .i64 j] 3)) g9 c9 w9.heap.size hb10 (own_still h1 (bel_alloc _ _)) ((Box.new w9 3 [.int .i64 (j : Nat)]).cell 0 (by simp))⟩⟩)
        have hoB : ((wr.drew.alloc (.cells #[] 3)).alloc (.cells #[.int .i64 j] 3)).ownsRow wr.heap.size 3 1 (.slice (some ⟨wr.heap.size, 0, none⟩) 0 0) 0 [] := own_still hoA (bel_alloc _ _)
        have szA : (wr.drew.alloc (.cells #[] 3)).heap.size = wr.heap.size + 1 := by show (wr.alloc (.cells #[] 3)).heap.size = _; simp
        have szI : (wr.drew.alloc (.cells #[.int .i64 j] 3)).heap.size = wr.heap.size + 1 := by show (wr.alloc (.cells #[.int .i64 j] 3)).heap.size = _; simp
        have xI : Box ((wr.drew.alloc (.cells #[] 3)).alloc (.cells #[.int .i64 j] 3)) (wr.heap.size + 1) 3 [.int .i64 (j : Nat)] := by
          have h := Box.new (wr.drew.alloc (.cells #[] 3)) 3 [.int .i64 (j : Nat)]
          rw [szA] at h
          exact h
        have HB9 := (show Hid (((wr.drew.alloc (.cells #[] 3)).alloc (.cells #[.int .i64 j] 3)).ownsRow wr.heap.size 3 1 (.slice (some ⟨wr.heap.size, 0, none⟩) 0 0) 0 [] ∧ (∀ q z, (nums xs)[q]? = some z → ((wr.drew.alloc (.cells #[] 3)).alloc (.cells #[.int .i64 j] 3)).cell? ((⟨gp, 0, none⟩ : Addr).add q) = some z) ∧ wr.heap.size ≤ ((wr.drew.alloc (.cells #[] 3)).alloc (.cells #[.int .i64 j] 3)).heap.size ∧ ∀ (g9 c9 : Nat) (w9 : World), w9.ownsRow wr.heap.size 3 1 (.slice (some ⟨g9, 0, none⟩) xs.length c9) xs.length (nums xs) → ((wr.drew.alloc (.cells #[] 3)).alloc (.cells #[.int .i64 j] 3)).grownBy w9 (some (wr.heap.size)) → Below wr.heap.size wr w9 ∧ (w9.cell? ⟨w.heap.size, 0, none⟩ = some (.string p0) ∧ w9.cell? ⟨w.heap.size, 1, none⟩ = some (.string p1) ∧ w9.cell? ⟨w.heap.size, 2, none⟩ = some (.bool p2) ∧ w9.cell? ⟨w.heap.size, 3, none⟩ = some (.slice pa pl pc) ∧ w9.cell? ⟨w.heap.size + 1, 3, none⟩ = some (.slice (some ⟨b, off, none⟩) kids.length cap) ∧ w9.cell? ⟨b, off + j * 4, none⟩ = some (.string k0) ∧ w9.cell? ⟨b, off + j * 4 + 1, none⟩ = some (.string k1) ∧ w9.cell? ⟨b, off + j * 4 + 2, none⟩ = some (.bool k2) ∧ w9.cell? ⟨b, off + j * 4 + 3, none⟩ = some (.slice s1 s2 s3)) ∧ Hid (w9.ownsRow wr.heap.size 3 1 (.slice (some ⟨g9, 0, none⟩) xs.length c9) xs.length (nums xs) ∧ (∀ q z, [Value.int .i64 (j : Nat)][q]? = some z → w9.cell? ((⟨wr.heap.size + 1, 0, none⟩ : Addr).add q) = some z) ∧ wr.heap.size ≤ w9.heap.size ∧ ∀ (g12 c12 : Nat) (w12 : World), w12.ownsRow wr.heap.size 3 1 (.slice (some ⟨g12, 0, none⟩) (xs.length + 1) c12) (xs.length + 1) (nums xs ++ [.int .i64 (j : Nat)]) → w9.grownBy w12 (Value.slice (some ⟨g9, 0, none⟩) xs.length c9).ownBlock → ((Value.slice (some ⟨g9, 0, none⟩) xs.length c9).ownBlock = some g12 ∨ g12 = w9.heap.size) → (w12.cell? ⟨w.heap.size, 0, none⟩ = some (.string p0) ∧ w12.cell? ⟨w.heap.size, 1, none⟩ = some (.string p1) ∧ w12.cell? ⟨w.heap.size, 2, none⟩ = some (.bool p2) ∧ w12.cell? ⟨w.heap.size, 3, none⟩ = some (.slice pa pl pc) ∧ w12.cell? ⟨w.heap.size + 1, 3, none⟩ = some (.slice (some ⟨b, off, none⟩) kids.length cap) ∧ w12.cell? ⟨b, off + j * 4, none⟩ = some (.string k0) ∧ w12.cell? ⟨b, off + j * 4 + 1, none⟩ = some (.string k1) ∧ w12.cell? ⟨b, off + j * 4 + 2, none⟩ = some (.bool k2) ∧ w12.cell? ⟨b, off + j * 4 + 3, none⟩ = some (.slice s1 s2 s3)) ∧ Hid (Calls Try.prog 31 #[.agg #[.string p0, .string p1, .bool p2, .slice pa pl pc], .agg #[.string k0, .string k1, .bool k2, .slice s1 s2 s3], .slice (some ⟨g12, 0, none⟩) (xs.length + 1) c12] w12 (fun e w13 => ∃ (g13 c13 : Nat), e = .returned (.slice (some ⟨g13, 0, none⟩) M.length c13) ∧ ∃ vs13 : Nat → Value, (w13.cell? ⟨w.heap.size, 0, none⟩ = some (.string p0) ∧ w13.cell? ⟨w.heap.size, 1, none⟩ = some (.string p1) ∧ w13.cell? ⟨w.heap.size, 2, none⟩ = some (.bool p2) ∧ w13.cell? ⟨w.heap.size, 3, none⟩ = some (.slice pa pl pc) ∧ w13.cell? ⟨w.heap.size + 1, 3, none⟩ = some (.slice (some ⟨b, off, none⟩) kids.length cap) ∧ w13.cell? ⟨b, off + j * 4, none⟩ = some (.string k0) ∧ w13.cell? ⟨b, off + j * 4 + 1, none⟩ = some (.string k1) ∧ w13.cell? ⟨b, off + j * 4 + 2, none⟩ = some (.bool k2) ∧ w13.cell? ⟨b, off + j * 4 + 3, none⟩ = some (.slice s1 s2 s3)) ∧ Hid (w13.ownsRow (w.heap.size + 2) 40 1 (.slice (some ⟨g, 0, none⟩) LJ.length c) LJ.length (slv vs LJ.length)) ∧ Hid (∀ q z, (slv vs13 M.length)[q]? = some z → w13.cell? ((⟨g13, 0, none⟩ : Addr).add q) = some z) ∧ Hid ((slv vs13 M.length).length = M.length * 1) ∧ Hid (∀ u ∈ slv vs13 M.length, u.oneCell' = true) ∧ Hid (w.heap.size + 2 ≤ w13.heap.size) ∧ Hid (∀ (g14 c14 : Nat) (w14 : World), w14.ownsRow (w.heap.size + 2) 40 1 (.slice (some ⟨g14, 0, none⟩) (LJ.length + M.length) c14) (LJ.length + M.length) (slv vs LJ.length ++ slv vs13 M.length) → w13.grownBy w14 (Value.slice (some ⟨g, 0, none⟩) LJ.length c).ownBlock → ((Value.slice (some ⟨g, 0, none⟩) LJ.length c).ownBlock = some g14 ∨ g14 = w13.heap.size) → (w14.cell? ⟨w.heap.size, 0, none⟩ = some (.string p0) ∧ w14.cell? ⟨w.heap.size, 1, none⟩ = some (.string p1) ∧ w14.cell? ⟨w.heap.size, 2, none⟩ = some (.bool p2) ∧ w14.cell? ⟨w.heap.size, 3, none⟩ = some (.slice pa pl pc) ∧ w14.cell? ⟨w.heap.size + 1, 3, none⟩ = some (.slice (some ⟨b, off, none⟩) kids.length cap) ∧ w14.cell? ⟨b, off + j * 4, none⟩ = some (.string k0) ∧ w14.cell? ⟨b, off + j * 4 + 1, none⟩ = some (.string k1) ∧ w14.cell? ⟨b, off + j * 4 + 2, none⟩ = some (.bool k2) ∧ w14.cell? ⟨b, off + j * 4 + 3, none⟩ = some (.slice s1 s2 s3)) ∧ Hid (Below (w.heap.size + 2) ((w.alloc (.cells #[.string p0, .string p1, .bool p2, .slice pa pl pc] 26)).alloc (.cells #[.string n, .string x, .bool lf, .slice (some ⟨b, off, none⟩) kids.length cap] 26)) w14 ∧ ∃ vs, RS w14 (w.heap.size + 2) (LJf (j + 1)) (.slice (some ⟨g14, 0, none⟩) (LJf (j + 1)).length c14) vs)))))) from ⟨hoB, (HPR.out _ hbB).cells (g := gp) rfl, hbB.size, fun g9 c9 w9 h1 h2 => by
          have hb9 : Below wr.heap.size wr w9 := hbB.grown h2 hbB.size (fun q hq => by injection hq with hq; omega)
          exact ⟨hb9, HSP.out _ (HBR.out _ hb9), HT.out w9 g9 c9 (wr.heap.size + 1) hb9 h1 ((xI.keep (h2.block _ xI.lt (fun e => by injection e with e; omega))).cell 0 (by simp))⟩⟩)
        have hoC : ((wr.drew.alloc (.cells #[.int .i64 j] 3)).alloc (.cells #[] 3)).ownsRow wr.heap.size 3 1 (.slice (some ⟨wr.heap.size + 1, 0, none⟩) 0 0) 0 [] := by
          have h := World.ownsRow_made (base := wr.heap.size) (e := 3) (size := 1) (wr.drew.alloc (.cells #[.int .i64 j] 3)) #[] 0 (by omega) (Nat.zero_le _) rfl
          rw [szI] at h
          exact h
        have xC : Box ((wr.drew.alloc (.cells #[.int .i64 j] 3)).alloc (.cells #[] 3)) wr.heap.size 3 [.int .i64 (j : Nat)] := (Box.new wr.drew 3 [.int .i64 (j : Nat)]).still (bel_alloc _ _)
        have HC9 := (show Hid (((wr.drew.alloc (.cells #[.int .i64 j] 3)).alloc (.cells #[] 3)).ownsRow wr.heap.size 3 1 (.slice (some ⟨wr.heap.size + 1, 0, none⟩) 0 0) 0 [] ∧ (∀ q z, (nums xs)[q]? = some z → ((wr.drew.alloc (.cells #[.int .i64 j] 3)).alloc (.cells #[] 3)).cell? ((⟨gp, 0, none⟩ : Addr).add q) = some z) ∧ wr.heap.size ≤ ((wr.drew.alloc (.cells #[.int .i64 j] 3)).alloc (.cells #[] 3)).heap.size ∧ ∀ (g9 c9 : Nat) (w9 : World), w9.ownsRow wr.heap.size 3 1 (.slice (some ⟨g9, 0, none⟩) xs.length c9) xs.length (nums xs) → ((wr.drew.alloc (.cells #[.int .i64 j] 3)).alloc (.cells #[] 3)).grownBy w9 (some (wr.heap.size + 1)) → Below wr.heap.size wr w9 ∧ (w9.cell? ⟨w.heap.size, 0, none⟩ = some (.string p0) ∧ w9.cell? ⟨w.heap.size, 1, none⟩ = some (.string p1) ∧ w9.cell? ⟨w.heap.size, 2, none⟩ = some (.bool p2) ∧ w9.cell? ⟨w.heap.size, 3, none⟩ = some (.slice pa pl pc) ∧ w9.cell? ⟨w.heap.size + 1, 3, none⟩ = some (.slice (some ⟨b, off, none⟩) kids.length cap) ∧ w9.cell? ⟨b, off + j * 4, none⟩ = some (.string k0) ∧ w9.cell? ⟨b, off + j * 4 + 1, none⟩ = some (.string k1) ∧ w9.cell? ⟨b, off + j * 4 + 2, none⟩ = some (.bool k2) ∧ w9.cell? ⟨b, off + j * 4 + 3, none⟩ = some (.slice s1 s2 s3)) ∧ Hid (w9.ownsRow wr.heap.size 3 1 (.slice (some ⟨g9, 0, none⟩) xs.length c9) xs.length (nums xs) ∧ (∀ q z, [Value.int .i64 (j : Nat)][q]? = some z → w9.cell? ((⟨wr.heap.size, 0, none⟩ : Addr).add q) = some z) ∧ wr.heap.size ≤ w9.heap.size ∧ ∀ (g12 c12 : Nat) (w12 : World), w12.ownsRow wr.heap.size 3 1 (.slice (some ⟨g12, 0, none⟩) (xs.length + 1) c12) (xs.length + 1) (nums xs ++ [.int .i64 (j : Nat)]) → w9.grownBy w12 (Value.slice (some ⟨g9, 0, none⟩) xs.length c9).ownBlock → ((Value.slice (some ⟨g9, 0, none⟩) xs.length c9).ownBlock = some g12 ∨ g12 = w9.heap.size) → (w12.cell? ⟨w.heap.size, 0, none⟩ = some (.string p0) ∧ w12.cell? ⟨w.heap.size, 1, none⟩ = some (.string p1) ∧ w12.cell? ⟨w.heap.size, 2, none⟩ = some (.bool p2) ∧ w12.cell? ⟨w.heap.size, 3, none⟩ = some (.slice pa pl pc) ∧ w12.cell? ⟨w.heap.size + 1, 3, none⟩ = some (.slice (some ⟨b, off, none⟩) kids.length cap) ∧ w12.cell? ⟨b, off + j * 4, none⟩ = some (.string k0) ∧ w12.cell? ⟨b, off + j * 4 + 1, none⟩ = some (.string k1) ∧ w12.cell? ⟨b, off + j * 4 + 2, none⟩ = some (.bool k2) ∧ w12.cell? ⟨b, off + j * 4 + 3, none⟩ = some (.slice s1 s2 s3)) ∧ Hid (Calls Try.prog 31 #[.agg #[.string p0, .string p1, .bool p2, .slice pa pl pc], .agg #[.string k0, .string k1, .bool k2, .slice s1 s2 s3], .slice (some ⟨g12, 0, none⟩) (xs.length + 1) c12] w12 (fun e w13 => ∃ (g13 c13 : Nat), e = .returned (.slice (some ⟨g13, 0, none⟩) M.length c13) ∧ ∃ vs13 : Nat → Value, (w13.cell? ⟨w.heap.size, 0, none⟩ = some (.string p0) ∧ w13.cell? ⟨w.heap.size, 1, none⟩ = some (.string p1) ∧ w13.cell? ⟨w.heap.size, 2, none⟩ = some (.bool p2) ∧ w13.cell? ⟨w.heap.size, 3, none⟩ = some (.slice pa pl pc) ∧ w13.cell? ⟨w.heap.size + 1, 3, none⟩ = some (.slice (some ⟨b, off, none⟩) kids.length cap) ∧ w13.cell? ⟨b, off + j * 4, none⟩ = some (.string k0) ∧ w13.cell? ⟨b, off + j * 4 + 1, none⟩ = some (.string k1) ∧ w13.cell? ⟨b, off + j * 4 + 2, none⟩ = some (.bool k2) ∧ w13.cell? ⟨b, off + j * 4 + 3, none⟩ = some (.slice s1 s2 s3)) ∧ Hid (w13.ownsRow (w.heap.size + 2) 40 1 (.slice (some ⟨g, 0, none⟩) LJ.length c) LJ.length (slv vs LJ.length)) ∧ Hid (∀ q z, (slv vs13 M.length)[q]? = some z → w13.cell? ((⟨g13, 0, none⟩ : Addr).add q) = some z) ∧ Hid ((slv vs13 M.length).length = M.length * 1) ∧ Hid (∀ u ∈ slv vs13 M.length, u.oneCell' = true) ∧ Hid (w.heap.size + 2 ≤ w13.heap.size) ∧ Hid (∀ (g14 c14 : Nat) (w14 : World), w14.ownsRow (w.heap.size + 2) 40 1 (.slice (some ⟨g14, 0, none⟩) (LJ.length + M.length) c14) (LJ.length + M.length) (slv vs LJ.length ++ slv vs13 M.length) → w13.grownBy w14 (Value.slice (some ⟨g, 0, none⟩) LJ.length c).ownBlock → ((Value.slice (some ⟨g, 0, none⟩) LJ.length c).ownBlock = some g14 ∨ g14 = w13.heap.size) → (w14.cell? ⟨w.heap.size, 0, none⟩ = some (.string p0) ∧ w14.cell? ⟨w.heap.size, 1, none⟩ = some (.string p1) ∧ w14.cell? ⟨w.heap.size, 2, none⟩ = some (.bool p2) ∧ w14.cell? ⟨w.heap.size, 3, none⟩ = some (.slice pa pl pc) ∧ w14.cell? ⟨w.heap.size + 1, 3, none⟩ = some (.slice (some ⟨b, off, none⟩) kids.length cap) ∧ w14.cell? ⟨b, off + j * 4, none⟩ = some (.string k0) ∧ w14.cell? ⟨b, off + j * 4 + 1, none⟩ = some (.string k1) ∧ w14.cell? ⟨b, off + j * 4 + 2, none⟩ = some (.bool k2) ∧ w14.cell? ⟨b, off + j * 4 + 3, none⟩ = some (.slice s1 s2 s3)) ∧ Hid (Below (w.heap.size + 2) ((w.alloc (.cells #[.string p0, .string p1, .bool p2, .slice pa pl pc] 26)).alloc (.cells #[.string n, .string x, .bool lf, .slice (some ⟨b, off, none⟩) kids.length cap] 26)) w14 ∧ ∃ vs, RS w14 (w.heap.size + 2) (LJf (j + 1)) (.slice (some ⟨g14, 0, none⟩) (LJf (j + 1)).length c14) vs)))))) from ⟨hoC, (HPR.out _ hbC).cells (g := gp) rfl, hbC.size, fun g9 c9 w9 h1 h2 => by
          have hb9 : Below wr.heap.size wr w9 := hbC.grown h2 hbC.size (fun q hq => by injection hq with hq; omega)
          exact ⟨hb9, HSP.out _ (HBR.out _ hb9), HT.out w9 g9 c9 wr.heap.size hb9 h1 ((xC.keep (h2.block _ xC.lt (fun e => by injection e with e; omega))).cell 0 (by simp))⟩⟩)
        clear HT HPR HBR HSP HRR HCK HLE hdr hbA hbI hbB hbC hoA hoB hoC xI xC szA szI hrs d0 d1 d2 d3 hsv HRS HB bxp bxt hbw hbW0 hkc
        go_wp2_with fail
        refine wp_region_held_drew (S := (fun wq => wq.cell? ⟨w.heap.size, 0, none⟩ = some (.string p0) ∧ wq.cell? ⟨w.heap.size, 1, none⟩ = some (.string p1) ∧ wq.cell? ⟨w.heap.size, 2, none⟩ = some (.bool p2) ∧ wq.cell? ⟨w.heap.size, 3, none⟩ = some (.slice pa pl pc) ∧ wq.cell? ⟨w.heap.size + 1, 3, none⟩ = some (.slice (some ⟨b, off, none⟩) kids.length cap) ∧ wq.cell? ⟨b, off + j * 4, none⟩ = some (.string k0) ∧ wq.cell? ⟨b, off + j * 4 + 1, none⟩ = some (.string k1) ∧ wq.cell? ⟨b, off + j * 4 + 2, none⟩ = some (.bool k2) ∧ wq.cell? ⟨b, off + j * 4 + 3, none⟩ = some (.slice s1 s2 s3))) (by kernel_rfl) hS0 (fun hHeld => ?_)
        clear hS0
        refine wpAnyH_take (i := 0) (oi := oQ0) (v := ?v1) rfl (by kernel_rfl) (by kernel_rfl) (by kernel_rfl) (fun _ _ _ h => h) (Or.inl ⟨by rfl, ?h1⟩) hHeld ?r1
        case h1 => (intro w hSw; (try dsimp only at hSw); go_simp; try with_reducible rfl)
        try simp only [Act.put, List.setIfInBounds_toArray, List.set_cons_zero, List.set_cons_succ]
        refine wpAnyH_take (i := 1) (oi := oQ1) (v := ?v2) rfl (by kernel_rfl) (by kernel_rfl) (by kernel_rfl) (fun _ _ _ h => h) (Or.inl ⟨by rfl, ?h2⟩) hHeld ?r2
        case h2 => (intro w hSw; (try dsimp only at hSw); go_simp; try with_reducible rfl)
        try simp only [Act.put, List.setIfInBounds_toArray, List.set_cons_zero, List.set_cons_succ]
        refine wpAnyH_take (i := 2) (oi := oQ2) (v := ?v3) rfl (by kernel_rfl) (by kernel_rfl) (by kernel_rfl) (fun _ _ _ h => h) (Or.inl ⟨by rfl, ?h3⟩) hHeld ?r3
        case h3 => (intro w hSw; (try dsimp only at hSw); go_simp; try with_reducible rfl)
        try simp only [Act.put, List.setIfInBounds_toArray, List.set_cons_zero, List.set_cons_succ]
        refine wpAnyH_take (i := 3) (oi := oQ3) (v := ?v4) rfl (by kernel_rfl) (by kernel_rfl) (by kernel_rfl) (fun _ _ _ h => h) (Or.inl ⟨by rfl, ?h4⟩) hHeld ?r4
        case h4 => (intro w hSw; (try dsimp only at hSw); go_simp; try with_reducible rfl)
        try simp only [Act.put, List.setIfInBounds_toArray, List.set_cons_zero, List.set_cons_succ]
        refine wpAnyH_take (i := 4) (oi := oQ4) (v := ?v5) rfl (by kernel_rfl) (by kernel_rfl) (by kernel_rfl) (fun _ _ _ h => h) (Or.inl ⟨by rfl, ?h5⟩) hHeld ?r5
        case h5 => (intro w hSw; (try dsimp only at hSw); go_simp; try with_reducible rfl)
        try simp only [Act.put, List.setIfInBounds_toArray, List.set_cons_zero, List.set_cons_succ]
        refine wpAnyH_take (i := 5) (oi := oQ5) (v := ?v6) rfl (by kernel_rfl) (by kernel_rfl) (by kernel_rfl) (fun _ _ _ h => h) (Or.inl ⟨by rfl, ?h6⟩) hHeld ?r6
        case h6 => (intro w hSw; (try dsimp only at hSw); go_simp; try with_reducible rfl)
        try simp only [Act.put, List.setIfInBounds_toArray, List.set_cons_zero, List.set_cons_succ]
        refine wpAnyH_take (i := 6) (oi := oQ6) (v := ?v7) rfl (by kernel_rfl) (by kernel_rfl) (by kernel_rfl) (fun _ _ _ h => h) (Or.inl ⟨by rfl, ?h7⟩) hHeld ?r7
        case h7 => (intro w hSw; (try dsimp only at hSw); go_simp; try with_reducible rfl)
        try simp only [Act.put, List.setIfInBounds_toArray, List.set_cons_zero, List.set_cons_succ]
        refine wpAnyH_take (i := 8) (oi := oQ7) (v := ?v8) rfl (by kernel_rfl) (by kernel_rfl) (by kernel_rfl) (fun _ _ _ h => h) (Or.inl ⟨by rfl, ?h8⟩) hHeld ?r8
        case h8 => (intro w hSw; (try dsimp only at hSw); go_simp; try with_reducible rfl)
        try simp only [Act.put, List.setIfInBounds_toArray, List.set_cons_zero, List.set_cons_succ]
        refine wpAnyH_take (i := 10) (oi := oQ8) (v := ?v9) rfl (by kernel_rfl) (by kernel_rfl) (by kernel_rfl) (fun _ _ _ h => h) (Or.inl ⟨by rfl, ?h9⟩) hHeld ?r9
        case h9 => (intro w hSw; (try dsimp only at hSw); go_simp; try with_reducible rfl)
        try simp only [Act.put, List.setIfInBounds_toArray, List.set_cons_zero, List.set_cons_succ]
        refine wpAnyH_ready (rs := [7, 11]) (by kernel_rfl) (by simp) ?_
        refine (AllReadyH.cons (o := oQ9) rfl (fun K hK => ?_) (AllReadyH.cons (o := oQ10) rfl (fun K hK => ?_) AllReadyH.nil))
        · go_simp
          clear hHeld
          refine hK.out _ _ HSA.out.1 (fun hHeld => ?_)
          clear hK K
          try simp only [Act.put, List.setIfInBounds_toArray, List.set_cons_zero, List.set_cons_succ]
          refine wpAnyH_ready (rs := [9, 11]) (by kernel_rfl) (by simp) ?_
          refine (AllReadyH.cons (o := oQ11) rfl (fun K hK => ?_) (AllReadyH.cons (o := oQ10) rfl (fun K hK => ?_) AllReadyH.nil))
          ·
            refine step_append_made _ rfl (.tmp 38) (.tmp 39) 40 rfl wr.heap.size 3 i3 _ 1 8 Try.underlying40 hi3 hz0 hz1 hz2 rfl (by decide) wr.heap.size (by simp [Act.eval, Act.put]) HA9.out.1 ⟨gp, 0, none⟩ xs.length cp (nums xs) (by simp [Act.eval, Act.put]) HNL.out HA9.out.2.1 (nums_one xs) (by unfold maxLen; omega) (by omega) HA9.out.2.2.1 ?_
            intro g9 c9 w9 hown9 hgr9
            obtain ⟨hb9, hS9, HX9⟩ := HA9.out.2.2.2 g9 c9 w9 hown9 hgr9
            clear hown9 hgr9
            clear hHeld
            refine hK.out _ _ hS9 (fun hHeld => ?_)
            clear hK K
            try simp only [Act.put, List.setIfInBounds_toArray, List.set_cons_zero, List.set_cons_succ]
            refine wpAnyH_ready (rs := [11]) (by kernel_rfl) (by simp) ?_
            refine (AllReadyH.cons (o := oQ10) rfl (fun K hK => ?_) AllReadyH.nil)
            go_simp
            clear hHeld
            refine hK.out _ _ HX9.out.1 (fun hHeld => ?_)
            clear hK K
            try simp only [Act.put, List.setIfInBounds_toArray, List.set_cons_zero, List.set_cons_succ]
            refine wpAnyH_ready (rs := [12]) (by kernel_rfl) (by simp) ?_
            refine (AllReadyH.cons (o := oQ12) rfl (fun K hK => ?_) AllReadyH.nil)
            refine step_append_lies _ rfl (.tmp 40) (.tmp 42) 40 rfl wr.heap.size 3 i3 _ 1 8 Try.underlying40 hi3 hz0 hz1 hz2 rfl (by decide) _ xs.length (nums xs) (by simp [Act.eval, Act.put]) HX9.out.2.1 ⟨w9.heap.size, 0, none⟩ 1 1 [.int .i64 j] (by simp [Act.eval, Act.put]) rfl HX9.out.2.2.1 (by intro z hz; simp at hz; subst hz; rfl) (by decide) (by unfold maxLen; omega) (by omega) HX9.out.2.2.2.1 _ rfl ?_
            intro g12 c12 w12 hown12 hgr12 hat12 hlt12
            obtain ⟨hS12, HCL⟩ := HX9.out.2.2.2.2 g12 c12 w12 hown12 hgr12 hat12
            clear hown12 hgr12 hat12 hlt12
            clear hHeld
            refine hK.out _ _ hS12 (fun hHeld => ?_)
            clear hK K
            try simp only [Act.put, List.setIfInBounds_toArray, List.set_cons_zero, List.set_cons_succ]
            refine wpAnyH_ready (rs := [13]) (by kernel_rfl) (by simp) ?_
            refine (AllReadyH.cons (o := oQ13) rfl (fun K hK => ?_) AllReadyH.nil)
            go_simp
            refine Calls.mono HCL.out ?_
            rintro e w13 ⟨g13, c13, rfl, vs13, hS13, HO13, HN13, HL13, H113, HZ13, HUP⟩
            dsimp only
            clear hHeld
            refine hK.out _ _ hS13 (fun hHeld => ?_)
            clear hK K
            try simp only [Act.put, List.setIfInBounds_toArray, List.set_cons_zero, List.set_cons_succ]
            refine wpAnyH_ready (rs := [14]) (by kernel_rfl) (by simp) ?_
            refine (AllReadyH.cons (o := oQ14) rfl (fun K hK => ?_) AllReadyH.nil)
            refine step_append_at _ rfl (.tmp 31) (.tmp 44) 35 rfl (w.heap.size + 2) 40 i86 _ 1 24 Try.underlying35 hi86 y0 y1 y2 rfl (by decide) _ LJ.length (slv vs LJ.length) (by simp [Act.eval, Act.put]) HO13.out ⟨g13, 0, none⟩ M.length c13 (slv vs13 M.length) (by simp [Act.eval, Act.put]) HL13.out HN13.out H113.out (by unfold maxLen; omega) (by omega) HZ13.out (by simp) ?_
            intro g14 c14 w14 hown14 hgr14 hat14
            obtain ⟨hS14, HE⟩ := HUP.out g14 c14 w14 hown14 hgr14 hat14
            clear hown14 hgr14 hat14
            clear hHeld
            refine hK.out _ _ hS14 (fun hHeld => ?_)
            clear hK K
            try simp only [Act.put, List.setIfInBounds_toArray, List.set_cons_zero, List.set_cons_succ]
            refine wpAnyH_take (i := 15) (oi := oQ15) (v := ?v10) rfl (by kernel_rfl) (by kernel_rfl) (by kernel_rfl) (fun _ _ _ h => h) (Or.inl ⟨by rfl, ?h10⟩) hHeld ?r10
            case h10 => (intro w hSw; (try dsimp only at hSw); go_simp; try with_reducible rfl)
            try simp only [Act.put, List.setIfInBounds_toArray, List.set_cons_zero, List.set_cons_succ]
            refine wpAnyH_done (by kernel_rfl) ?_ _
            go_wp2_with fail
            exact ⟨⟨j + 1, g14, c14, by rw [HLN.out], by go_num, by omega, HE.out.1, HE.out.2⟩, by simp [intOf]; omega⟩
          · go_simp
            clear hHeld
            refine hK.out _ _ HSB.out.1 (fun hHeld => ?_)
            clear hK K
            try simp only [Act.put, List.setIfInBounds_toArray, List.set_cons_zero, List.set_cons_succ]
            refine wpAnyH_ready (rs := [9]) (by kernel_rfl) (by simp) ?_
            refine (AllReadyH.cons (o := oQ11) rfl (fun K hK => ?_) AllReadyH.nil)
            refine step_append_made _ rfl (.tmp 38) (.tmp 39) 40 rfl wr.heap.size 3 i3 _ 1 8 Try.underlying40 hi3 hz0 hz1 hz2 rfl (by decide) wr.heap.size (by simp [Act.eval, Act.put]) HB9.out.1 ⟨gp, 0, none⟩ xs.length cp (nums xs) (by simp [Act.eval, Act.put]) HNL.out HB9.out.2.1 (nums_one xs) (by unfold maxLen; omega) (by omega) HB9.out.2.2.1 ?_
            intro g9 c9 w9 hown9 hgr9
            obtain ⟨hb9, hS9, HX9⟩ := HB9.out.2.2.2 g9 c9 w9 hown9 hgr9
            clear hown9 hgr9
            clear hHeld
            refine hK.out _ _ hS9 (fun hHeld => ?_)
            clear hK K
            try simp only [Act.put, List.setIfInBounds_toArray, List.set_cons_zero, List.set_cons_succ]
            refine wpAnyH_ready (rs := [12]) (by kernel_rfl) (by simp) ?_
            refine (AllReadyH.cons (o := oQ12) rfl (fun K hK => ?_) AllReadyH.nil)
            refine step_append_lies _ rfl (.tmp 40) (.tmp 42) 40 rfl wr.heap.size 3 i3 _ 1 8 Try.underlying40 hi3 hz0 hz1 hz2 rfl (by decide) _ xs.length (nums xs) (by simp [Act.eval, Act.put]) HX9.out.1 ⟨wr.heap.size + 1, 0, none⟩ 1 1 [.int .i64 j] (by simp [Act.eval, Act.put]) rfl HX9.out.2.1 (by intro z hz; simp at hz; subst hz; rfl) (by decide) (by unfold maxLen; omega) (by omega) HX9.out.2.2.1 _ rfl ?_
            intro g12 c12 w12 hown12 hgr12 hat12 hlt12
            obtain ⟨hS12, HCL⟩ := HX9.out.2.2.2 g12 c12 w12 hown12 hgr12 hat12
            clear hown12 hgr12 hat12 hlt12
            clear hHeld
            refine hK.out _ _ hS12 (fun hHeld => ?_)
            clear hK K
            try simp only [Act.put, List.setIfInBounds_toArray, List.set_cons_zero, List.set_cons_succ]
            refine wpAnyH_ready (rs := [13]) (by kernel_rfl) (by simp) ?_
            refine (AllReadyH.cons (o := oQ13) rfl (fun K hK => ?_) AllReadyH.nil)
            go_simp
            refine Calls.mono HCL.out ?_
            rintro e w13 ⟨g13, c13, rfl, vs13, hS13, HO13, HN13, HL13, H113, HZ13, HUP⟩
            dsimp only
            clear hHeld
            refine hK.out _ _ hS13 (fun hHeld => ?_)
            clear hK K
            try simp only [Act.put, List.setIfInBounds_toArray, List.set_cons_zero, List.set_cons_succ]
            refine wpAnyH_ready (rs := [14]) (by kernel_rfl) (by simp) ?_
            refine (AllReadyH.cons (o := oQ14) rfl (fun K hK => ?_) AllReadyH.nil)
            refine step_append_at _ rfl (.tmp 31) (.tmp 44) 35 rfl (w.heap.size + 2) 40 i86 _ 1 24 Try.underlying35 hi86 y0 y1 y2 rfl (by decide) _ LJ.length (slv vs LJ.length) (by simp [Act.eval, Act.put]) HO13.out ⟨g13, 0, none⟩ M.length c13 (slv vs13 M.length) (by simp [Act.eval, Act.put]) HL13.out HN13.out H113.out (by unfold maxLen; omega) (by omega) HZ13.out (by simp) ?_
            intro g14 c14 w14 hown14 hgr14 hat14
            obtain ⟨hS14, HE⟩ := HUP.out g14 c14 w14 hown14 hgr14 hat14
            clear hown14 hgr14 hat14
            clear hHeld
            refine hK.out _ _ hS14 (fun hHeld => ?_)
            clear hK K
            try simp only [Act.put, List.setIfInBounds_toArray, List.set_cons_zero, List.set_cons_succ]
            refine wpAnyH_take (i := 15) (oi := oQ15) (v := ?v11) rfl (by kernel_rfl) (by kernel_rfl) (by kernel_rfl) (fun _ _ _ h => h) (Or.inl ⟨by rfl, ?h11⟩) hHeld ?r11
            case h11 => (intro w hSw; (try dsimp only at hSw); go_simp; try with_reducible rfl)
            try simp only [Act.put, List.setIfInBounds_toArray, List.set_cons_zero, List.set_cons_succ]
            refine wpAnyH_done (by kernel_rfl) ?_ _
            go_wp2_with fail
            exact ⟨⟨j + 1, g14, c14, by rw [HLN.out], by go_num, by omega, HE.out.1, HE.out.2⟩, by simp [intOf]; omega⟩
        · go_simp
          clear hHeld
          refine hK.out _ _ HSC.out.1 (fun hHeld => ?_)
          clear hK K
          try simp only [Act.put, List.setIfInBounds_toArray, List.set_cons_zero, List.set_cons_succ]
          refine wpAnyH_ready (rs := [7]) (by kernel_rfl) (by simp) ?_
          refine (AllReadyH.cons (o := oQ9) rfl (fun K hK => ?_) AllReadyH.nil)
          go_simp
          clear hHeld
          refine hK.out _ _ HSC.out.2 (fun hHeld => ?_)
          clear hK K
          try simp only [Act.put, List.setIfInBounds_toArray, List.set_cons_zero, List.set_cons_succ]
          refine wpAnyH_ready (rs := [9]) (by kernel_rfl) (by simp) ?_
          refine (AllReadyH.cons (o := oQ11) rfl (fun K hK => ?_) AllReadyH.nil)
          refine step_append_made _ rfl (.tmp 38) (.tmp 39) 40 rfl wr.heap.size 3 i3 _ 1 8 Try.underlying40 hi3 hz0 hz1 hz2 rfl (by decide) (wr.heap.size + 1) (by simp [Act.eval, Act.put]) HC9.out.1 ⟨gp, 0, none⟩ xs.length cp (nums xs) (by simp [Act.eval, Act.put]) HNL.out HC9.out.2.1 (nums_one xs) (by unfold maxLen; omega) (by omega) HC9.out.2.2.1 ?_
          intro g9 c9 w9 hown9 hgr9
          obtain ⟨hb9, hS9, HX9⟩ := HC9.out.2.2.2 g9 c9 w9 hown9 hgr9
          clear hown9 hgr9
          clear hHeld
          refine hK.out _ _ hS9 (fun hHeld => ?_)
          clear hK K
          try simp only [Act.put, List.setIfInBounds_toArray, List.set_cons_zero, List.set_cons_succ]
          refine wpAnyH_ready (rs := [12]) (by kernel_rfl) (by simp) ?_
          refine (AllReadyH.cons (o := oQ12) rfl (fun K hK => ?_) AllReadyH.nil)
          refine step_append_lies _ rfl (.tmp 40) (.tmp 42) 40 rfl wr.heap.size 3 i3 _ 1 8 Try.underlying40 hi3 hz0 hz1 hz2 rfl (by decide) _ xs.length (nums xs) (by simp [Act.eval, Act.put]) HX9.out.1 ⟨wr.heap.size, 0, none⟩ 1 1 [.int .i64 j] (by simp [Act.eval, Act.put]) rfl HX9.out.2.1 (by intro z hz; simp at hz; subst hz; rfl) (by decide) (by unfold maxLen; omega) (by omega) HX9.out.2.2.1 _ rfl ?_
          intro g12 c12 w12 hown12 hgr12 hat12 hlt12
          obtain ⟨hS12, HCL⟩ := HX9.out.2.2.2 g12 c12 w12 hown12 hgr12 hat12
          clear hown12 hgr12 hat12 hlt12
          clear hHeld
          refine hK.out _ _ hS12 (fun hHeld => ?_)
          clear hK K
          try simp only [Act.put, List.setIfInBounds_toArray, List.set_cons_zero, List.set_cons_succ]
          refine wpAnyH_ready (rs := [13]) (by kernel_rfl) (by simp) ?_
          refine (AllReadyH.cons (o := oQ13) rfl (fun K hK => ?_) AllReadyH.nil)
          go_simp
          refine Calls.mono HCL.out ?_
          rintro e w13 ⟨g13, c13, rfl, vs13, hS13, HO13, HN13, HL13, H113, HZ13, HUP⟩
          dsimp only
          clear hHeld
          refine hK.out _ _ hS13 (fun hHeld => ?_)
          clear hK K
          try simp only [Act.put, List.setIfInBounds_toArray, List.set_cons_zero, List.set_cons_succ]
          refine wpAnyH_ready (rs := [14]) (by kernel_rfl) (by simp) ?_
          refine (AllReadyH.cons (o := oQ14) rfl (fun K hK => ?_) AllReadyH.nil)
          refine step_append_at _ rfl (.tmp 31) (.tmp 44) 35 rfl (w.heap.size + 2) 40 i86 _ 1 24 Try.underlying35 hi86 y0 y1 y2 rfl (by decide) _ LJ.length (slv vs LJ.length) (by simp [Act.eval, Act.put]) HO13.out ⟨g13, 0, none⟩ M.length c13 (slv vs13 M.length) (by simp [Act.eval, Act.put]) HL13.out HN13.out H113.out (by unfold maxLen; omega) (by omega) HZ13.out (by simp) ?_
          intro g14 c14 w14 hown14 hgr14 hat14
          obtain ⟨hS14, HE⟩ := HUP.out g14 c14 w14 hown14 hgr14 hat14
          clear hown14 hgr14 hat14
          clear hHeld
          refine hK.out _ _ hS14 (fun hHeld => ?_)
          clear hK K
          try simp only [Act.put, List.setIfInBounds_toArray, List.set_cons_zero, List.set_cons_succ]
          refine wpAnyH_take (i := 15) (oi := oQ15) (v := ?v12) rfl (by kernel_rfl) (by kernel_rfl) (by kernel_rfl) (fun _ _ _ h => h) (Or.inl ⟨by rfl, ?h12⟩) hHeld ?r12
          case h12 => (intro w hSw; (try dsimp only at hSw); go_simp; try with_reducible rfl)
          try simp only [Act.put, List.setIfInBounds_toArray, List.set_cons_zero, List.set_cons_succ]
          refine wpAnyH_done (by kernel_rfl) ?_ _
          go_wp2_with fail
          exact ⟨⟨j + 1, g14, c14, by rw [HLN.out], by go_num, by omega, HE.out.1, HE.out.2⟩, by simp [intOf]; omega⟩
      · have q1 : ¬ ((j : Int) < (kids.length : Int)) := by omega
        have hje : j = kids.length := by omega
        have T3 : wr.cell? ⟨w.heap.size + 1, 3, none⟩ = some (.slice a kids.length cap) := bxt.cell 3 (by simp)
        have HE := (show Hid (PlA (LJf kids.length) w (.returned (.slice (some ⟨g, 0, none⟩) (LJf kids.length).length c)) wr) from (by
          obtain ⟨vs, h⟩ := HRS.out
          rw [hje] at h
          exact ⟨g, c, vs, rfl, hbw, own_base h.out (by omega), h.row⟩))
        clear bxp bxt hbw hbW0 HRS HB
        rw [hje]
        go_wp2_with fail
        go_ret
        exact HE.out
  · have HE0 := (show Hid (LJf 0 = [xs]) from (by show _ = _; rw [HL0.out]; rfl))
    have hz1' := (HAN.out w1 HB1.out.1).2.2.2.2
    have HO1 := (show Hid ((w1.alloc (.cells #[.slice (some ⟨gp, 0, none⟩) xs.length cp] 40)).ownsRow (w.heap.size + 2) 40 1 (.slice (some ⟨w.heap.size + 1 + 1, 0, none⟩) 0 0) 0 []) from own_still HB1.out.2 (bel_alloc _ _))
    go_wp2_with (at_builtin; refine wpList_append_lies _ rfl (.tmp 20) (.tmp 22) 35 rfl (w.heap.size + 2) 40 i86 _ 1 24 Try.underlying35 hi86 y0 y1 y2 rfl (by decide) _ 0 [] rfl HO1.out ⟨w1.heap.size, 0, none⟩ 1 1 [.slice (some ⟨gp, 0, none⟩) xs.length cp] rfl rfl ?c1 ?c2 (by decide) ?c3 (by omega) ?c5 _ rfl ?nx)
    case c1 => exact World.news_of_block (cs := #[.slice (some ⟨gp, 0, none⟩) xs.length cp]) (blk_alloc_new _ _)
    case c2 => intro u hu; simp at hu; subst hu; rfl
    case c3 => unfold maxLen; omega
    case c5 => show _ ≤ _; simp; omega
    case nx =>
      intro g4 c4 w5 hown4 hgr4 hat4 hlt4
      have hb5 : Below (w.heap.size + 2) ((w.alloc (.cells #[.string p0, .string p1, .bool p2, .slice pa pl pc] 26)).alloc (.cells #[.string n, .string x, .bool lf, .slice a kids.length cap] 26)) w5 := (HB1.out.1.alloc hz1' _).grown hgr4 (by simp; omega) (fun q hq => by have := (World.ownsRow.lt HO1.out q hq).1; omega)
      have HSTART := (show Hid (Below (w.heap.size + 2) ((w.alloc (.cells #[.string p0, .string p1, .bool p2, .slice pa pl pc] 26)).alloc (.cells #[.string n, .string x, .bool lf, .slice a kids.length cap] 26)) w5 ∧ ∃ vs, RS w5 (w.heap.size + 2) (LJf 0) (.slice (some ⟨g4, 0, none⟩) (LJf 0).length c4) vs) from ⟨hb5, by
        rw [HE0.out]
        exact ⟨fun _ => .slice (some ⟨gp, 0, none⟩) xs.length cp, by simpa [slv] using hown4, fun i hi => by
          have e : i = 0 := by simpa using hi
          subst e
          exact HP1.out w5 (HAN.out w5 hb5).1⟩⟩)
      clear hown4 hgr4 hat4 hlt4 hb5 HO1 hz1' HB1 HL0
      go_wp2_with fail
      go_loopw [7, 10] (fun u i wr => ∃ (j g c : Nat), u = .slice (some ⟨g, 0, none⟩) (LJf j).length c ∧ i = .int .i64 j ∧ j ≤ kids.length ∧ Hid (Below (w.heap.size + 2) ((w.alloc (.cells #[.string p0, .string p1, .bool p2, .slice pa pl pc] 26)).alloc (.cells #[.string n, .string x, .bool lf, .slice a kids.length cap] 26)) wr) ∧ Hid (∃ vs, RS wr (w.heap.size + 2) (LJf j) (.slice (some ⟨g, 0, none⟩) (LJf j).length c) vs)) (fun _ i _ => kids.length - (intOf i).toNat)
      case atStart => exact ⟨0, g4, c4, by rw [HE0.out]; rfl, rfl, Nat.zero_le _, HSTART.out.1, HSTART.out.2⟩
      case round =>
        obtain ⟨j, g, c, rfl, rfl, hj, HB, HRS⟩ := hrel
        clear HSTART HE0
        obtain ⟨hbw, hbW0, bxp, bxt, hzr⟩ := HAN.out wr HB.out
        by_cases hlt : j < kids.length
        · have q1 : (j : Int) < (kids.length : Int) := by omega
          have i1 : (0 : Int) ≤ (j : Int) := by omega
          obtain rfl := HA.out (by omega)
          obtain ⟨s1, s2, s3, hsv⟩ := HF.out j hlt
          obtain ⟨d0, d1, d2, d3⟩ := HC.out j hlt
          obtain ⟨vs, hrs⟩ := HRS.out
          have hll := HLL.out (j + 1) (by omega)
          have HLN := (show Hid ((LJf (j + 1)).length = (LJf j).length + (plT p kids[j] (xs ++ [j])).length) from (by show _ = _; rw [HLJ.out j hlt, List.length_append]))
          have HLE := (show Hid (LJf (j + 1) = LJf j ++ plT p kids[j] (xs ++ [j])) from HLJ.out j hlt)
          rw [HLN.out] at hll
          have hkc := HKC.out j hlt
          have HCK := (show Hid (∀ (gp cp : Nat) (w : World), Below W0.heap.size W0 w → w.ownsRow 0 3 1 (.slice (some ⟨gp, 0, none⟩) (xs.length + 1) cp) (xs.length + 1) (nums xs ++ [.int .i64 (j : Nat)]) → Calls Try.prog 31 #[.agg #[.string p0, .string p1, .bool p2, .slice pa pl pc], .agg #[.string kids[j].name, .string kids[j].text, .bool kids[j].leaf, .slice s1 s2 s3], .slice (some ⟨gp, 0, none⟩) (xs.length + 1) cp] w (PlA (plT p kids[j] (xs ++ [j])) w)) from fun gp cp w h1 h2 => by
            have hlen : (xs ++ [j]).length = xs.length + 1 := by simp
            have h := HI.out j hlt (xs ++ [j]) gp cp w h1 (by rw [hlen, nums_app]; exact h2) (by rw [hlen]; omega)
            rw [hlen, hsv] at h
            exact h)
          rw [hsv] at d3
          generalize plT p kids[j] (xs ++ [j]) = M at *
          generalize hLJ : LJf j = LJ at *
          clear hLJ
          generalize kids[j].name = k0 at *
          generalize kids[j].text = k1 at *
          generalize kids[j].leaf = k2 at *
          have HSP := (show Hid (∀ wq : World, Below (w.heap.size + 2) ((w.alloc (.cells #[.string p0, .string p1, .bool p2, .slice pa pl pc] 26)).alloc (.cells #[.string n, .string x, .bool lf, .slice (some ⟨b, off, none⟩) kids.length cap] 26)) wq → (wq.cell? ⟨w.heap.size, 0, none⟩ = some (.string p0) ∧ wq.cell? ⟨w.heap.size, 1, none⟩ = some (.string p1) ∧ wq.cell? ⟨w.heap.size, 2, none⟩ = some (.bool p2) ∧ wq.cell? ⟨w.heap.size, 3, none⟩ = some (.slice pa pl pc) ∧ wq.cell? ⟨w.heap.size + 1, 3, none⟩ = some (.slice (some ⟨b, off, none⟩) kids.length cap) ∧ wq.cell? ⟨b, off + j * 4, none⟩ = some (.string k0) ∧ wq.cell? ⟨b, off + j * 4 + 1, none⟩ = some (.string k1) ∧ wq.cell? ⟨b, off + j * 4 + 2, none⟩ = some (.bool k2) ∧ wq.cell? ⟨b, off + j * 4 + 3, none⟩ = some (.slice s1 s2 s3))) from fun wq h => by
            obtain ⟨_, g2, g3, g4, _⟩ := HAN.out wq h
            have mv : ∀ {b o : Nat} {v : Value}, W0.cell? ⟨b, o, none⟩ = some v → wq.cell? ⟨b, o, none⟩ = some v := fun h => (g2.cell (lt_of_cell h)).trans h
            exact ⟨g3.cell 0 (by simp), g3.cell 1 (by simp), g3.cell 2 (by simp), g3.cell 3 (by simp), g4.cell 3 (by simp), mv d0, mv d1, mv d2, mv d3⟩)
          have HBR := (show Hid (∀ wq : World, Below wr.heap.size wr wq → Below (w.heap.size + 2) ((w.alloc (.cells #[.string p0, .string p1, .bool p2, .slice pa pl pc] 26)).alloc (.cells #[.string n, .string x, .bool lf, .slice (some ⟨b, off, none⟩) kids.length cap] 26)) wq) from fun wq h => HB.out.trans (h.mono hzr))
          have T3 : wr.cell? ⟨w.heap.size + 1, 3, none⟩ = some (.slice (some ⟨b, off, none⟩) kids.length cap) := bxt.cell 3 (by simp)
          have HPR := (show Hid (∀ wq : World, Below wr.heap.size wr wq → wq.ownsRow 0 3 1 (.slice (some ⟨gp, 0, none⟩) xs.length cp) xs.length (nums xs)) from fun wq h => HP1.out wq (HAN.out wq (HBR.out wq h)).1)
          have HRR := (show Hid (RS wr (w.heap.size + 2) LJ (.slice (some ⟨g, 0, none⟩) LJ.length c) vs) from hrs)
          have HT := (show Hid (∀ (V : World) (g9 c9 bi : Nat), Below wr.heap.size wr V → V.ownsRow wr.heap.size 3 1 (.slice (some ⟨g9, 0, none⟩) xs.length c9) xs.length (nums xs) → V.cell? ⟨bi, 0, none⟩ = some (.int .i64 (j : Nat)) → V.ownsRow wr.heap.size 3 1 (.slice (some ⟨g9, 0, none⟩) xs.length c9) xs.length (nums xs) ∧ (∀ q z, [Value.int .i64 (j : Nat)][q]? = some z → V.cell? ((⟨bi, 0, none⟩ : Addr).add q) = some z) ∧ wr.heap.size ≤ V.heap.size ∧ ∀ (g12 c12 : Nat) (w12 : World), w12.ownsRow wr.heap.size 3 1 (.slice (some ⟨g12, 0, none⟩) (xs.length + 1) c12) (xs.length + 1) (nums xs ++ [.int .i64 (j : Nat)]) → V.grownBy w12 (Value.slice (some ⟨g9, 0, none⟩) xs.length c9).ownBlock → ((Value.slice (some ⟨g9, 0, none⟩) xs.length c9).ownBlock = some g12 ∨ g12 = V.heap.size) → (w12.cell? ⟨w.heap.size, 0, none⟩ = some (.string p0) ∧ w12.cell? ⟨w.heap.size, 1, none⟩ = some (.string p1) ∧ w12.cell? ⟨w.heap.size, 2, none⟩ = some (.bool p2) ∧ w12.cell? ⟨w.heap.size, 3, none⟩ = some (.slice pa pl pc) ∧ w12.cell? ⟨w.heap.size + 1, 3, none⟩ = some (.slice (some ⟨b, off, none⟩) kids.length cap) ∧ w12.cell? ⟨b, off + j * 4, none⟩ = some (.string k0) ∧ w12.cell? ⟨b, off + j * 4 + 1, none⟩ = some (.string k1) ∧ w12.cell? ⟨b, off + j * 4 + 2, none⟩ = some (.bool k2) ∧ w12.cell? ⟨b, off + j * 4 + 3, none⟩ = some (.slice s1 s2 s3)) ∧ Hid (Calls Try.prog 31 #[.agg #[.string p0, .string p1, .bool p2, .slice pa pl pc], .agg #[.string k0, .string k1, .bool k2, .slice s1 s2 s3], .slice (some ⟨g12, 0, none⟩) (xs.length + 1) c12] w12 (fun e w13 => ∃ (g13 c13 : Nat), e = .returned (.slice (some ⟨g13, 0, none⟩) M.length c13) ∧ ∃ vs13 : Nat → Value, (w13.cell? ⟨w.heap.size, 0, none⟩ = some (.string p0) ∧ w13.cell? ⟨w.heap.size, 1, none⟩ = some (.string p1) ∧ w13.cell? ⟨w.heap.size, 2, none⟩ = some (.bool p2) ∧ w13.cell? ⟨w.heap.size, 3, none⟩ = some (.slice pa pl pc) ∧ w13.cell? ⟨w.heap.size + 1, 3, none⟩ = some (.slice (some ⟨b, off, none⟩) kids.length cap) ∧ w13.cell? ⟨b, off + j * 4, none⟩ = some (.string k0) ∧ w13.cell? ⟨b, off + j * 4 + 1, none⟩ = some (.string k1) ∧ w13.cell? ⟨b, off + j * 4 + 2, none⟩ = some (.bool k2) ∧ w13.cell? ⟨b, off + j * 4 + 3, none⟩ = some (.slice s1 s2 s3)) ∧ Hid (w13.ownsRow (w.heap.size + 2) 40 1 (.slice (some ⟨g, 0, none⟩) LJ.length c) LJ.length (slv vs LJ.length)) ∧ Hid (∀ q z, (slv vs13 M.length)[q]? = some z → w13.cell? ((⟨g13, 0, none⟩ : Addr).add q) = some z) ∧ Hid ((slv vs13 M.length).length = M.length * 1) ∧ Hid (∀ u ∈ slv vs13 M.length, u.oneCell' = true) ∧ Hid (w.heap.size + 2 ≤ w13.heap.size) ∧ Hid (∀ (g14 c14 : Nat) (w14 : World), w14.ownsRow (w.heap.size + 2) 40 1 (.slice (some ⟨g14, 0, none⟩) (LJ.length + M.length) c14) (LJ.length + M.length) (slv vs LJ.length ++ slv vs13 M.length) → w13.grownBy w14 (Value.slice (some ⟨g, 0, none⟩) LJ.length c).ownBlock → ((Value.slice (some ⟨g, 0, none⟩) LJ.length c).ownBlock = some g14 ∨ g14 = w13.heap.size) → (w14.cell? ⟨w.heap.size, 0, none⟩ = some (.string p0) ∧ w14.cell? ⟨w.heap.size, 1, none⟩ = some (.string p1) ∧ w14.cell? ⟨w.heap.size, 2, none⟩ = some (.bool p2) ∧ w14.cell? ⟨w.heap.size, 3, none⟩ = some (.slice pa pl pc) ∧ w14.cell? ⟨w.heap.size + 1, 3, none⟩ = some (.slice (some ⟨b, off, none⟩) kids.length cap) ∧ w14.cell? ⟨b, off + j * 4, none⟩ = some (.string k0) ∧ w14.cell? ⟨b, off + j * 4 + 1, none⟩ = some (.string k1) ∧ w14.cell? ⟨b, off + j * 4 + 2, none⟩ = some (.bool k2) ∧ w14.cell? ⟨b, off + j * 4 + 3, none⟩ = some (.slice s1 s2 s3)) ∧ Hid (Below (w.heap.size + 2) ((w.alloc (.cells #[.string p0, .string p1, .bool p2, .slice pa pl pc] 26)).alloc (.cells #[.string n, .string x, .bool lf, .slice (some ⟨b, off, none⟩) kids.length cap] 26)) w14 ∧ ∃ vs, RS w14 (w.heap.size + 2) (LJf (j + 1)) (.slice (some ⟨g14, 0, none⟩) (LJf (j + 1)).length c14) vs))))) from fun V g9 c9 bi hbV ho9 hci => by
            refine ⟨ho9, fun q z hq => ?_, hbV.size, fun g12 c12 w12 hown hgr hat => ?_⟩
            · cases q with
              | zero =>
                simp at hq
                subst hq
                exact hci
              | succ q => simp at hq
            · have hb12 : Below wr.heap.size wr w12 := hbV.grown hgr hbV.size (fun q hq => (World.ownsRow.lt ho9 q hq).1)
              refine ⟨HSP.out w12 (HBR.out w12 hb12), Calls.mono (HCK.out g12 c12 w12 (HAN.out w12 (HBR.out w12 hb12)).2.1 (own_base hown (Nat.zero_le _))) ?_⟩
              rintro e w13 ⟨g13, c13, vs13, rfl, hb13, hrs13⟩
              have hbR := bel_trans hb12 hb13
              have hrs1 := HRR.out.still hbR
              refine ⟨g13, c13, rfl, vs13, HSP.out w13 (HBR.out w13 hbR), hrs1.out, hrs13.out.cells (g := g13) rfl, (by show _ = _; simp [slv_len]), slv_one hrs13, (by show _ ≤ _; have := hbR.size; omega), fun g14 c14 w14 hown14 hgr14 hat14 => ?_⟩
              have hb14 : Below (w.heap.size + 2) ((w.alloc (.cells #[.string p0, .string p1, .bool p2, .slice pa pl pc] 26)).alloc (.cells #[.string n, .string x, .bool lf, .slice (some ⟨b, off, none⟩) kids.length cap] 26)) w14 := (HBR.out w13 hbR).grown hgr14 (by have := hbR.size; omega) (fun q hq => (World.ownsRow.lt hrs1.out q hq).1)
              refine ⟨HSP.out w14 hb14, hb14, (fun i => if i < LJ.length then vs i else vs13 (i - LJ.length)), ?_⟩
              rw [HLE.out, List.length_append]
              exact hrs1.join hrs13 hown14 hgr14)
          have hdr : Below wr.heap.size wr wr.drew := (Below.refl _ _).drew
          have hbA : Below wr.heap.size wr (wr.drew.alloc (.cells #[] 3)) := hdr.alloc hdr.size _
          have hbI : Below wr.heap.size wr (wr.drew.alloc (.cells #[.int .i64 j] 3)) := hdr.alloc hdr.size _
          have hbB : Below wr.heap.size wr ((wr.drew.alloc (.cells #[] 3)).alloc (.cells #[.int .i64 j] 3)) := hbA.alloc hbA.size _
          have hbC : Below wr.heap.size wr ((wr.drew.alloc (.cells #[.int .i64 j] 3)).alloc (.cells #[] 3)) := hbI.alloc hbI.size _
          have hS0 : (wr.drew.cell? ⟨w.heap.size, 0, none⟩ = some (.string p0) ∧ wr.drew.cell? ⟨w.heap.size, 1, none⟩ = some (.string p1) ∧ wr.drew.cell? ⟨w.heap.size, 2, none⟩ = some (.bool p2) ∧ wr.drew.cell? ⟨w.heap.size, 3, none⟩ = some (.slice pa pl pc) ∧ wr.drew.cell? ⟨w.heap.size + 1, 3, none⟩ = some (.slice (some ⟨b, off, none⟩) kids.length cap) ∧ wr.drew.cell? ⟨b, off + j * 4, none⟩ = some (.string k0) ∧ wr.drew.cell? ⟨b, off + j * 4 + 1, none⟩ = some (.string k1) ∧ wr.drew.cell? ⟨b, off + j * 4 + 2, none⟩ = some (.bool k2) ∧ wr.drew.cell? ⟨b, off + j * 4 + 3, none⟩ = some (.slice s1 s2 s3)) := HSP.out _ (HBR.out _ hdr)
          have HSA := (show Hid (((wr.drew.alloc (.cells #[] 3)).cell? ⟨w.heap.size, 0, none⟩ = some (.string p0) ∧ (wr.drew.alloc (.cells #[] 3)).cell? ⟨w.heap.size, 1, none⟩ = some (.string p1) ∧ (wr.drew.alloc (.cells #[] 3)).cell? ⟨w.heap.size, 2, none⟩ = some (.bool p2) ∧ (wr.drew.alloc (.cells #[] 3)).cell? ⟨w.heap.size, 3, none⟩ = some (.slice pa pl pc) ∧ (wr.drew.alloc (.cells #[] 3)).cell? ⟨w.heap.size + 1, 3, none⟩ = some (.slice (some ⟨b, off, none⟩) kids.length cap) ∧ (wr.drew.alloc (.cells #[] 3)).cell? ⟨b, off + j * 4, none⟩ = some (.string k0) ∧ (wr.drew.alloc (.cells #[] 3)).cell? ⟨b, off + j * 4 + 1, none⟩ = some (.string k1) ∧ (wr.drew.alloc (.cells #[] 3)).cell? ⟨b, off + j * 4 + 2, none⟩ = some (.bool k2) ∧ (wr.drew.alloc (.cells #[] 3)).cell? ⟨b, off + j * 4 + 3, none⟩ = some (.slice s1 s2 s3)) ∧ True) from ⟨HSP.out _ (HBR.out _ hbA), trivial⟩)
          have HSB := (show Hid ((((wr.drew.alloc (.cells #[] 3)).alloc (.cells #[.int .i64 j] 3)).cell? ⟨w.heap.size, 0, none⟩ = some (.string p0) ∧ ((wr.drew.alloc (.cells #[] 3)).alloc (.cells #[.int .i64 j] 3)).cell? ⟨w.heap.size, 1, none⟩ = some (.string p1) ∧ ((wr.drew.alloc (.cells #[] 3)).alloc (.cells #[.int .i64 j] 3)).cell? ⟨w.heap.size, 2, none⟩ = some (.bool p2) ∧ ((wr.drew.alloc (.cells #[] 3)).alloc (.cells #[.int .i64 j] 3)).cell? ⟨w.heap.size, 3, none⟩ = some (.slice pa pl pc) ∧ ((wr.drew.alloc (.cells #[] 3)).alloc (.cells #[.int .i64 j] 3)).cell? ⟨w.heap.size + 1, 3, none⟩ = some (.slice (some ⟨b, off, none⟩) kids.length cap) ∧ ((wr.drew.alloc (.cells #[] 3)).alloc (.cells #[.int .i64 j] 3)).cell? ⟨b, off + j * 4, none⟩ = some (.string k0) ∧ ((wr.drew.alloc (.cells #[] 3)).alloc (.cells #[.int .i64 j] 3)).cell? ⟨b, off + j * 4 + 1, none⟩ = some (.string k1) ∧ ((wr.drew.alloc (.cells #[] 3)).alloc (.cells #[.int .i64 j] 3)).cell? ⟨b, off + j * 4 + 2, none⟩ = some (.bool k2) ∧ ((wr.drew.alloc (.cells #[] 3)).alloc (.cells #[.int .i64 j] 3)).cell? ⟨b, off + j * 4 + 3, none⟩ = some (.slice s1 s2 s3)) ∧ True) from ⟨HSP.out _ (HBR.out _ hbB), trivial⟩)
          have HSC := (show Hid (((wr.drew.alloc (.cells #[.int .i64 j] 3)).cell? ⟨w.heap.size, 0, none⟩ = some (.string p0) ∧ (wr.drew.alloc (.cells #[.int .i64 j] 3)).cell? ⟨w.heap.size, 1, none⟩ = some (.string p1) ∧ (wr.drew.alloc (.cells #[.int .i64 j] 3)).cell? ⟨w.heap.size, 2, none⟩ = some (.bool p2) ∧ (wr.drew.alloc (.cells #[.int .i64 j] 3)).cell? ⟨w.heap.size, 3, none⟩ = some (.slice pa pl pc) ∧ (wr.drew.alloc (.cells #[.int .i64 j] 3)).cell? ⟨w.heap.size + 1, 3, none⟩ = some (.slice (some ⟨b, off, none⟩) kids.length cap) ∧ (wr.drew.alloc (.cells #[.int .i64 j] 3)).cell? ⟨b, off + j * 4, none⟩ = some (.string k0) ∧ (wr.drew.alloc (.cells #[.int .i64 j] 3)).cell? ⟨b, off + j * 4 + 1, none⟩ = some (.string k1) ∧ (wr.drew.alloc (.cells #[.int .i64 j] 3)).cell? ⟨b, off + j * 4 + 2, none⟩ = some (.bool k2) ∧ (wr.drew.alloc (.cells #[.int .i64 j] 3)).cell? ⟨b, off + j * 4 + 3, none⟩ = some (.slice s1 s2 s3)) ∧ (((wr.drew.alloc (.cells #[.int .i64 j] 3)).alloc (.cells #[] 3)).cell? ⟨w.heap.size, 0, none⟩ = some (.string p0) ∧ ((wr.drew.alloc (.cells #[.int .i64 j] 3)).alloc (.cells #[] 3)).cell? ⟨w.heap.size, 1, none⟩ = some (.string p1) ∧ ((wr.drew.alloc (.cells #[.int .i64 j] 3)).alloc (.cells #[] 3)).cell? ⟨w.heap.size, 2, none⟩ = some (.bool p2) ∧ ((wr.drew.alloc (.cells #[.int .i64 j] 3)).alloc (.cells #[] 3)).cell? ⟨w.heap.size, 3, none⟩ = some (.slice pa pl pc) ∧ ((wr.drew.alloc (.cells #[.int .i64 j] 3)).alloc (.cells #[] 3)).cell? ⟨w.heap.size + 1, 3, none⟩ = some (.slice (some ⟨b, off, none⟩) kids.length cap) ∧ ((wr.drew.alloc (.cells #[.int .i64 j] 3)).alloc (.cells #[] 3)).cell? ⟨b, off + j * 4, none⟩ = some (.string k0) ∧ ((wr.drew.alloc (.cells #[.int .i64 j] 3)).alloc (.cells #[] 3)).cell? ⟨b, off + j * 4 + 1, none⟩ = some (.string k1) ∧ ((wr.drew.alloc (.cells #[.int .i64 j] 3)).alloc (.cells #[] 3)).cell? ⟨b, off + j * 4 + 2, none⟩ = some (.bool k2) ∧ ((wr.drew.alloc (.cells #[.int .i64 j] 3)).alloc (.cells #[] 3)).cell? ⟨b, off + j * 4 + 3, none⟩ = some (.slice s1 s2 s3))) from ⟨HSP.out _ (HBR.out _ hbI), HSP.out _ (HBR.out _ hbC)⟩)
          have hoA : (wr.drew.alloc (.cells #[] 3)).ownsRow wr.heap.size 3 1 (.slice (some ⟨wr.heap.size, 0, none⟩) 0 0) 0 [] := World.ownsRow_made wr.drew #[] 0 (Nat.le_refl _) (Nat.zero_le _) rfl
          have HA9 := (show Hid ((wr.drew.alloc (.cells #[] 3)).ownsRow wr.heap.size 3 1 (.slice (some ⟨wr.heap.size, 0, none⟩) 0 0) 0 [] ∧ (∀ q z, (nums xs)[q]? = some z → (wr.drew.alloc (.cells #[] 3)).cell? ((⟨gp, 0, none⟩ : Addr).add q) = some z) ∧ wr.heap.size ≤ (wr.drew.alloc (.cells #[] 3)).heap.size ∧ ∀ (g9 c9 : Nat) (w9 : World), w9.ownsRow wr.heap.size 3 1 (.slice (some ⟨g9, 0, none⟩) xs.length c9) xs.length (nums xs) → (wr.drew.alloc (.cells #[] 3)).grownBy w9 (some (wr.heap.size)) → Below wr.heap.size wr w9 ∧ (w9.cell? ⟨w.heap.size, 0, none⟩ = some (.string p0) ∧ w9.cell? ⟨w.heap.size, 1, none⟩ = some (.string p1) ∧ w9.cell? ⟨w.heap.size, 2, none⟩ = some (.bool p2) ∧ w9.cell? ⟨w.heap.size, 3, none⟩ = some (.slice pa pl pc) ∧ w9.cell? ⟨w.heap.size + 1, 3, none⟩ = some (.slice (some ⟨b, off, none⟩) kids.length cap) ∧ w9.cell? ⟨b, off + j * 4, none⟩ = some (.string k0) ∧ w9.cell? ⟨b, off + j * 4 + 1, none⟩ = some (.string k1) ∧ w9.cell? ⟨b, off + j * 4 + 2, none⟩ = some (.bool k2) ∧ w9.cell? ⟨b, off + j * 4 + 3, none⟩ = some (.slice s1 s2 s3)) ∧ Hid (((w9.alloc (.cells #[.int .i64 j] 3)).cell? ⟨w.heap.size, 0, none⟩ = some (.string p0) ∧ (w9.alloc (.cells #[.int .i64 j] 3)).cell? ⟨w.heap.size, 1, none⟩ = some (.string p1) ∧ (w9.alloc (.cells #[.int .i64 j] 3)).cell? ⟨w.heap.size, 2, none⟩ = some (.bool p2) ∧ (w9.alloc (.cells #[.int .i64 j] 3)).cell? ⟨w.heap.size, 3, none⟩ = some (.slice pa pl pc) ∧ (w9.alloc (.cells #[.int .i64 j] 3)).cell? ⟨w.heap.size + 1, 3, none⟩ = some (.slice (some ⟨b, off, none⟩) kids.length cap) ∧ (w9.alloc (.cells #[.int .i64 j] 3)).cell? ⟨b, off + j * 4, none⟩ = some (.string k0) ∧ (w9.alloc (.cells #[.int .i64 j] 3)).cell? ⟨b, off + j * 4 + 1, none⟩ = some (.string k1) ∧ (w9.alloc (.cells #[.int .i64 j] 3)).cell? ⟨b, off + j * 4 + 2, none⟩ = some (.bool k2) ∧ (w9.alloc (.cells #[.int .i64 j] 3)).cell? ⟨b, off + j * 4 + 3, none⟩ = some (.slice s1 s2 s3)) ∧ (w9.alloc (.cells #[.int .i64 j] 3)).ownsRow wr.heap.size 3 1 (.slice (some ⟨g9, 0, none⟩) xs.length c9) xs.length (nums xs) ∧ (∀ q z, [Value.int .i64 (j : Nat)][q]? = some z → (w9.alloc (.cells #[.int .i64 j] 3)).cell? ((⟨w9.heap.size, 0, none⟩ : Addr).add q) = some z) ∧ wr.heap.size ≤ (w9.alloc (.cells #[.int .i64 j] 3)).heap.size ∧ ∀ (g12 c12 : Nat) (w12 : World), w12.ownsRow wr.heap.size 3 1 (.slice (some ⟨g12, 0, none⟩) (xs.length + 1) c12) (xs.length + 1) (nums xs ++ [.int .i64 (j : Nat)]) → (w9.alloc (.cells #[.int .i64 j] 3)).grownBy w12 (Value.slice (some ⟨g9, 0, none⟩) xs.length c9).ownBlock → ((Value.slice (some ⟨g9, 0, none⟩) xs.length c9).ownBlock = some g12 ∨ g12 = (w9.alloc (.cells #[.int .i64 j] 3)).heap.size) → (w12.cell? ⟨w.heap.size, 0, none⟩ = some (.string p0) ∧ w12.cell? ⟨w.heap.size, 1, none⟩ = some (.string p1) ∧ w12.cell? ⟨w.heap.size, 2, none⟩ = some (.bool p2) ∧ w12.cell? ⟨w.heap.size, 3, none⟩ = some (.slice pa pl pc) ∧ w12.cell? ⟨w.heap.size + 1, 3, none⟩ = some (.slice (some ⟨b, off, none⟩) kids.length cap) ∧ w12.cell? ⟨b, off + j * 4, none⟩ = some (.string k0) ∧ w12.cell? ⟨b, off + j * 4 + 1, none⟩ = some (.string k1) ∧ w12.cell? ⟨b, off + j * 4 + 2, none⟩ = some (.bool k2) ∧ w12.cell? ⟨b, off + j * 4 + 3, none⟩ = some (.slice s1 s2 s3)) ∧ Hid (Calls Try.prog 31 #[.agg #[.string p0, .string p1, .bool p2, .slice pa pl pc], .agg #[.string k0, .string k1, .bool k2, .slice s1 s2 s3], .slice (some ⟨g12, 0, none⟩) (xs.length + 1) c12] w12 (fun e w13 => ∃ (g13 c13 : Nat), e = .returned (.slice (some ⟨g13, 0, none⟩) M.length c13) ∧ ∃ vs13 : Nat → Value, (w13.cell? ⟨w.heap.size, 0, none⟩ = some (.string p0) ∧ w13.cell? ⟨w.heap.size, 1, none⟩ = some (.string p1) ∧ w13.cell? ⟨w.heap.size, 2, none⟩ = some (.bool p2) ∧ w13.cell? ⟨w.heap.size, 3, none⟩ = some (.slice pa pl pc) ∧ w13.cell? ⟨w.heap.size + 1, 3, none⟩ = some (.slice (some ⟨b, off, none⟩) kids.length cap) ∧ w13.cell? ⟨b, off + j * 4, none⟩ = some (.string k0) ∧ w13.cell? ⟨b, off + j * 4 + 1, none⟩ = some (.string k1) ∧ w13.cell? ⟨b, off + j * 4 + 2, none⟩ = some (.bool k2) ∧ w13.cell? ⟨b, off + j * 4 + 3, none⟩ = some (.slice s1 s2 s3)) ∧ Hid (w13.ownsRow (w.heap.size + 2) 40 1 (.slice (some ⟨g, 0, none⟩) LJ.length c) LJ.length (slv vs LJ.length)) ∧ Hid (∀ q z, (slv vs13 M.length)[q]? = some z → w13.cell? ((⟨g13, 0, none⟩ : Addr).add q) = some z) ∧ Hid ((slv vs13 M.length).length = M.length * 1) ∧ Hid (∀ u ∈ slv vs13 M.length, u.oneCell' = true) ∧ Hid (w.heap.size + 2 ≤ w13.heap.size) ∧ Hid (∀ (g14 c14 : Nat) (w14 : World), w14.ownsRow (w.heap.size + 2) 40 1 (.slice (some ⟨g14, 0, none⟩) (LJ.length + M.length) c14) (LJ.length + M.length) (slv vs LJ.length ++ slv vs13 M.length) → w13.grownBy w14 (Value.slice (some ⟨g, 0, none⟩) LJ.length c).ownBlock → ((Value.slice (some ⟨g, 0, none⟩) LJ.length c).ownBlock = some g14 ∨ g14 = w13.heap.size) → (w14.cell? ⟨w.heap.size, 0, none⟩ = some (.string p0) ∧ w14.cell? ⟨w.heap.size, 1, none⟩ = some (.string p1) ∧ w14.cell? ⟨w.heap.size, 2, none⟩ = some (.bool p2) ∧ w14.cell? ⟨w.heap.size, 3, none⟩ = some (.slice pa pl pc) ∧ w14.cell? ⟨w.heap.size + 1, 3, none⟩ = some (.slice (some ⟨b, off, none⟩) kids.length cap) ∧ w14.cell? ⟨b, off + j * 4, none⟩ = some (.string k0) ∧ w14.cell? ⟨b, off + j * 4 + 1, none⟩ = some (.string k1) ∧ w14.cell? ⟨b, off + j * 4 + 2, none⟩ = some (.bool k2) ∧ w14.cell? ⟨b, off + j * 4 + 3, none⟩ = some (.slice s1 s2 s3)) ∧ Hid (Below (w.heap.size + 2) ((w.alloc (.cells #[.string p0, .string p1, .bool p2, .slice pa pl pc] 26)).alloc (.cells #[.string n, .string x, .bool lf, .slice (some ⟨b, off, none⟩) kids.length cap] 26)) w14 ∧ ∃ vs, RS w14 (w.heap.size + 2) (LJf (j + 1)) (.slice (some ⟨g14, 0, none⟩) (LJf (j + 1)).length c14) vs)))))) from ⟨hoA, (HPR.out _ hbA).cells (g := gp) rfl, hbA.size, fun g9 c9 w9 h1 h2 => by
            have hb9 : Below wr.heap.size wr w9 := hbA.grown h2 hbA.size (fun q hq => by injection hq with hq; omega)
            have hb10 : Below wr.heap.size wr (w9.alloc (.cells #[.int .i64 j] 3)) := hb9.alloc hb9.size _
            exact ⟨hb9, HSP.out _ (HBR.out _ hb9), HSP.out _ (HBR.out _ hb10), HT.out (w9.alloc (.cells #[.int .i64 j] 3)) g9 c9 w9.heap.size hb10 (own_still h1 (bel_alloc _ _)) ((Box.new w9 3 [.int .i64 (j : Nat)]).cell 0 (by simp))⟩⟩)
          have hoB : ((wr.drew.alloc (.cells #[] 3)).alloc (.cells #[.int .i64 j] 3)).ownsRow wr.heap.size 3 1 (.slice (some ⟨wr.heap.size, 0, none⟩) 0 0) 0 [] := own_still hoA (bel_alloc _ _)
          have szA : (wr.drew.alloc (.cells #[] 3)).heap.size = wr.heap.size + 1 := by show (wr.alloc (.cells #[] 3)).heap.size = _; simp
          have szI : (wr.drew.alloc (.cells #[.int .i64 j] 3)).heap.size = wr.heap.size + 1 := by show (wr.alloc (.cells #[.int .i64 j] 3)).heap.size = _; simp
          have xI : Box ((wr.drew.alloc (.cells #[] 3)).alloc (.cells #[.int .i64 j] 3)) (wr.heap.size + 1) 3 [.int .i64 (j : Nat)] := by
            have h := Box.new (wr.drew.alloc (.cells #[] 3)) 3 [.int .i64 (j : Nat)]
            rw [szA] at h
            exact h
          have HB9 := (show Hid (((wr.drew.alloc (.cells #[] 3)).alloc (.cells #[.int .i64 j] 3)).ownsRow wr.heap.size 3 1 (.slice (some ⟨wr.heap.size, 0, none⟩) 0 0) 0 [] ∧ (∀ q z, (nums xs)[q]? = some z → ((wr.drew.alloc (.cells #[] 3)).alloc (.cells #[.int .i64 j] 3)).cell? ((⟨gp, 0, none⟩ : Addr).add q) = some z) ∧ wr.heap.size ≤ ((wr.drew.alloc (.cells #[] 3)).alloc (.cells #[.int .i64 j] 3)).heap.size ∧ ∀ (g9 c9 : Nat) (w9 : World), w9.ownsRow wr.heap.size 3 1 (.slice (some ⟨g9, 0, none⟩) xs.length c9) xs.length (nums xs) → ((wr.drew.alloc (.cells #[] 3)).alloc (.cells #[.int .i64 j] 3)).grownBy w9 (some (wr.heap.size)) → Below wr.heap.size wr w9 ∧ (w9.cell? ⟨w.heap.size, 0, none⟩ = some (.string p0) ∧ w9.cell? ⟨w.heap.size, 1, none⟩ = some (.string p1) ∧ w9.cell? ⟨w.heap.size, 2, none⟩ = some (.bool p2) ∧ w9.cell? ⟨w.heap.size, 3, none⟩ = some (.slice pa pl pc) ∧ w9.cell? ⟨w.heap.size + 1, 3, none⟩ = some (.slice (some ⟨b, off, none⟩) kids.length cap) ∧ w9.cell? ⟨b, off + j * 4, none⟩ = some (.string k0) ∧ w9.cell? ⟨b, off + j * 4 + 1, none⟩ = some (.string k1) ∧ w9.cell? ⟨b, off + j * 4 + 2, none⟩ = some (.bool k2) ∧ w9.cell? ⟨b, off + j * 4 + 3, none⟩ = some (.slice s1 s2 s3)) ∧ Hid (w9.ownsRow wr.heap.size 3 1 (.slice (some ⟨g9, 0, none⟩) xs.length c9) xs.length (nums xs) ∧ (∀ q z, [Value.int .i64 (j : Nat)][q]? = some z → w9.cell? ((⟨wr.heap.size + 1, 0, none⟩ : Addr).add q) = some z) ∧ wr.heap.size ≤ w9.heap.size ∧ ∀ (g12 c12 : Nat) (w12 : World), w12.ownsRow wr.heap.size 3 1 (.slice (some ⟨g12, 0, none⟩) (xs.length + 1) c12) (xs.length + 1) (nums xs ++ [.int .i64 (j : Nat)]) → w9.grownBy w12 (Value.slice (some ⟨g9, 0, none⟩) xs.length c9).ownBlock → ((Value.slice (some ⟨g9, 0, none⟩) xs.length c9).ownBlock = some g12 ∨ g12 = w9.heap.size) → (w12.cell? ⟨w.heap.size, 0, none⟩ = some (.string p0) ∧ w12.cell? ⟨w.heap.size, 1, none⟩ = some (.string p1) ∧ w12.cell? ⟨w.heap.size, 2, none⟩ = some (.bool p2) ∧ w12.cell? ⟨w.heap.size, 3, none⟩ = some (.slice pa pl pc) ∧ w12.cell? ⟨w.heap.size + 1, 3, none⟩ = some (.slice (some ⟨b, off, none⟩) kids.length cap) ∧ w12.cell? ⟨b, off + j * 4, none⟩ = some (.string k0) ∧ w12.cell? ⟨b, off + j * 4 + 1, none⟩ = some (.string k1) ∧ w12.cell? ⟨b, off + j * 4 + 2, none⟩ = some (.bool k2) ∧ w12.cell? ⟨b, off + j * 4 + 3, none⟩ = some (.slice s1 s2 s3)) ∧ Hid (Calls Try.prog 31 #[.agg #[.string p0, .string p1, .bool p2, .slice pa pl pc], .agg #[.string k0, .string k1, .bool k2, .slice s1 s2 s3], .slice (some ⟨g12, 0, none⟩) (xs.length + 1) c12] w12 (fun e w13 => ∃ (g13 c13 : Nat), e = .returned (.slice (some ⟨g13, 0, none⟩) M.length c13) ∧ ∃ vs13 : Nat → Value, (w13.cell? ⟨w.heap.size, 0, none⟩ = some (.string p0) ∧ w13.cell? ⟨w.heap.size, 1, none⟩ = some (.string p1) ∧ w13.cell? ⟨w.heap.size, 2, none⟩ = some (.bool p2) ∧ w13.cell? ⟨w.heap.size, 3, none⟩ = some (.slice pa pl pc) ∧ w13.cell? ⟨w.heap.size + 1, 3, none⟩ = some (.slice (some ⟨b, off, none⟩) kids.length cap) ∧ w13.cell? ⟨b, off + j * 4, none⟩ = some (.string k0) ∧ w13.cell? ⟨b, off + j * 4 + 1, none⟩ = some (.string k1) ∧ w13.cell? ⟨b, off + j * 4 + 2, none⟩ = some (.bool k2) ∧ w13.cell? ⟨b, off + j * 4 + 3, none⟩ = some (.slice s1 s2 s3)) ∧ Hid (w13.ownsRow (w.heap.size + 2) 40 1 (.slice (some ⟨g, 0, none⟩) LJ.length c) LJ.length (slv vs LJ.length)) ∧ Hid (∀ q z, (slv vs13 M.length)[q]? = some z → w13.cell? ((⟨g13, 0, none⟩ : Addr).add q) = some z) ∧ Hid ((slv vs13 M.length).length = M.length * 1) ∧ Hid (∀ u ∈ slv vs13 M.length, u.oneCell' = true) ∧ Hid (w.heap.size + 2 ≤ w13.heap.size) ∧ Hid (∀ (g14 c14 : Nat) (w14 : World), w14.ownsRow (w.heap.size + 2) 40 1 (.slice (some ⟨g14, 0, none⟩) (LJ.length + M.length) c14) (LJ.length + M.length) (slv vs LJ.length ++ slv vs13 M.length) → w13.grownBy w14 (Value.slice (some ⟨g, 0, none⟩) LJ.length c).ownBlock → ((Value.slice (some ⟨g, 0, none⟩) LJ.length c).ownBlock = some g14 ∨ g14 = w13.heap.size) → (w14.cell? ⟨w.heap.size, 0, none⟩ = some (.string p0) ∧ w14.cell? ⟨w.heap.size, 1, none⟩ = some (.string p1) ∧ w14.cell? ⟨w.heap.size, 2, none⟩ = some (.bool p2) ∧ w14.cell? ⟨w.heap.size, 3, none⟩ = some (.slice pa pl pc) ∧ w14.cell? ⟨w.heap.size + 1, 3, none⟩ = some (.slice (some ⟨b, off, none⟩) kids.length cap) ∧ w14.cell? ⟨b, off + j * 4, none⟩ = some (.string k0) ∧ w14.cell? ⟨b, off + j * 4 + 1, none⟩ = some (.string k1) ∧ w14.cell? ⟨b, off + j * 4 + 2, none⟩ = some (.bool k2) ∧ w14.cell? ⟨b, off + j * 4 + 3, none⟩ = some (.slice s1 s2 s3)) ∧ Hid (Below (w.heap.size + 2) ((w.alloc (.cells #[.string p0, .string p1, .bool p2, .slice pa pl pc] 26)).alloc (.cells #[.string n, .string x, .bool lf, .slice (some ⟨b, off, none⟩) kids.length cap] 26)) w14 ∧ ∃ vs, RS w14 (w.heap.size + 2) (LJf (j + 1)) (.slice (some ⟨g14, 0, none⟩) (LJf (j + 1)).length c14) vs)))))) from ⟨hoB, (HPR.out _ hbB).cells (g := gp) rfl, hbB.size, fun g9 c9 w9 h1 h2 => by
            have hb9 : Below wr.heap.size wr w9 := hbB.grown h2 hbB.size (fun q hq => by injection hq with hq; omega)
            exact ⟨hb9, HSP.out _ (HBR.out _ hb9), HT.out w9 g9 c9 (wr.heap.size + 1) hb9 h1 ((xI.keep (h2.block _ xI.lt (fun e => by injection e with e; omega))).cell 0 (by simp))⟩⟩)
          have hoC : ((wr.drew.alloc (.cells #[.int .i64 j] 3)).alloc (.cells #[] 3)).ownsRow wr.heap.size 3 1 (.slice (some ⟨wr.heap.size + 1, 0, none⟩) 0 0) 0 [] := by
            have h := World.ownsRow_made (base := wr.heap.size) (e := 3) (size := 1) (wr.drew.alloc (.cells #[.int .i64 j] 3)) #[] 0 (by omega) (Nat.zero_le _) rfl
            rw [szI] at h
            exact h
          have xC : Box ((wr.drew.alloc (.cells #[.int .i64 j] 3)).alloc (.cells #[] 3)) wr.heap.size 3 [.int .i64 (j : Nat)] := (Box.new wr.drew 3 [.int .i64 (j : Nat)]).still (bel_alloc _ _)
          have HC9 := (show Hid (((wr.drew.alloc (.cells #[.int .i64 j] 3)).alloc (.cells #[] 3)).ownsRow wr.heap.size 3 1 (.slice (some ⟨wr.heap.size + 1, 0, none⟩) 0 0) 0 [] ∧ (∀ q z, (nums xs)[q]? = some z → ((wr.drew.alloc (.cells #[.int .i64 j] 3)).alloc (.cells #[] 3)).cell? ((⟨gp, 0, none⟩ : Addr).add q) = some z) ∧ wr.heap.size ≤ ((wr.drew.alloc (.cells #[.int .i64 j] 3)).alloc (.cells #[] 3)).heap.size ∧ ∀ (g9 c9 : Nat) (w9 : World), w9.ownsRow wr.heap.size 3 1 (.slice (some ⟨g9, 0, none⟩) xs.length c9) xs.length (nums xs) → ((wr.drew.alloc (.cells #[.int .i64 j] 3)).alloc (.cells #[] 3)).grownBy w9 (some (wr.heap.size + 1)) → Below wr.heap.size wr w9 ∧ (w9.cell? ⟨w.heap.size, 0, none⟩ = some (.string p0) ∧ w9.cell? ⟨w.heap.size, 1, none⟩ = some (.string p1) ∧ w9.cell? ⟨w.heap.size, 2, none⟩ = some (.bool p2) ∧ w9.cell? ⟨w.heap.size, 3, none⟩ = some (.slice pa pl pc) ∧ w9.cell? ⟨w.heap.size + 1, 3, none⟩ = some (.slice (some ⟨b, off, none⟩) kids.length cap) ∧ w9.cell? ⟨b, off + j * 4, none⟩ = some (.string k0) ∧ w9.cell? ⟨b, off + j * 4 + 1, none⟩ = some (.string k1) ∧ w9.cell? ⟨b, off + j * 4 + 2, none⟩ = some (.bool k2) ∧ w9.cell? ⟨b, off + j * 4 + 3, none⟩ = some (.slice s1 s2 s3)) ∧ Hid (w9.ownsRow wr.heap.size 3 1 (.slice (some ⟨g9, 0, none⟩) xs.length c9) xs.length (nums xs) ∧ (∀ q z, [Value.int .i64 (j : Nat)][q]? = some z → w9.cell? ((⟨wr.heap.size, 0, none⟩ : Addr).add q) = some z) ∧ wr.heap.size ≤ w9.heap.size ∧ ∀ (g12 c12 : Nat) (w12 : World), w12.ownsRow wr.heap.size 3 1 (.slice (some ⟨g12, 0, none⟩) (xs.length + 1) c12) (xs.length + 1) (nums xs ++ [.int .i64 (j : Nat)]) → w9.grownBy w12 (Value.slice (some ⟨g9, 0, none⟩) xs.length c9).ownBlock → ((Value.slice (some ⟨g9, 0, none⟩) xs.length c9).ownBlock = some g12 ∨ g12 = w9.heap.size) → (w12.cell? ⟨w.heap.size, 0, none⟩ = some (.string p0) ∧ w12.cell? ⟨w.heap.size, 1, none⟩ = some (.string p1) ∧ w12.cell? ⟨w.heap.size, 2, none⟩ = some (.bool p2) ∧ w12.cell? ⟨w.heap.size, 3, none⟩ = some (.slice pa pl pc) ∧ w12.cell? ⟨w.heap.size + 1, 3, none⟩ = some (.slice (some ⟨b, off, none⟩) kids.length cap) ∧ w12.cell? ⟨b, off + j * 4, none⟩ = some (.string k0) ∧ w12.cell? ⟨b, off + j * 4 + 1, none⟩ = some (.string k1) ∧ w12.cell? ⟨b, off + j * 4 + 2, none⟩ = some (.bool k2) ∧ w12.cell? ⟨b, off + j * 4 + 3, none⟩ = some (.slice s1 s2 s3)) ∧ Hid (Calls Try.prog 31 #[.agg #[.string p0, .string p1, .bool p2, .slice pa pl pc], .agg #[.string k0, .string k1, .bool k2, .slice s1 s2 s3], .slice (some ⟨g12, 0, none⟩) (xs.length + 1) c12] w12 (fun e w13 => ∃ (g13 c13 : Nat), e = .returned (.slice (some ⟨g13, 0, none⟩) M.length c13) ∧ ∃ vs13 : Nat → Value, (w13.cell? ⟨w.heap.size, 0, none⟩ = some (.string p0) ∧ w13.cell? ⟨w.heap.size, 1, none⟩ = some (.string p1) ∧ w13.cell? ⟨w.heap.size, 2, none⟩ = some (.bool p2) ∧ w13.cell? ⟨w.heap.size, 3, none⟩ = some (.slice pa pl pc) ∧ w13.cell? ⟨w.heap.size + 1, 3, none⟩ = some (.slice (some ⟨b, off, none⟩) kids.length cap) ∧ w13.cell? ⟨b, off + j * 4, none⟩ = some (.string k0) ∧ w13.cell? ⟨b, off + j * 4 + 1, none⟩ = some (.string k1) ∧ w13.cell? ⟨b, off + j * 4 + 2, none⟩ = some (.bool k2) ∧ w13.cell? ⟨b, off + j * 4 + 3, none⟩ = some (.slice s1 s2 s3)) ∧ Hid (w13.ownsRow (w.heap.size + 2) 40 1 (.slice (some ⟨g, 0, none⟩) LJ.length c) LJ.length (slv vs LJ.length)) ∧ Hid (∀ q z, (slv vs13 M.length)[q]? = some z → w13.cell? ((⟨g13, 0, none⟩ : Addr).add q) = some z) ∧ Hid ((slv vs13 M.length).length = M.length * 1) ∧ Hid (∀ u ∈ slv vs13 M.length, u.oneCell' = true) ∧ Hid (w.heap.size + 2 ≤ w13.heap.size) ∧ Hid (∀ (g14 c14 : Nat) (w14 : World), w14.ownsRow (w.heap.size + 2) 40 1 (.slice (some ⟨g14, 0, none⟩) (LJ.length + M.length) c14) (LJ.length + M.length) (slv vs LJ.length ++ slv vs13 M.length) → w13.grownBy w14 (Value.slice (some ⟨g, 0, none⟩) LJ.length c).ownBlock → ((Value.slice (some ⟨g, 0, none⟩) LJ.length c).ownBlock = some g14 ∨ g14 = w13.heap.size) → (w14.cell? ⟨w.heap.size, 0, none⟩ = some (.string p0) ∧ w14.cell? ⟨w.heap.size, 1, none⟩ = some (.string p1) ∧ w14.cell? ⟨w.heap.size, 2, none⟩ = some (.bool p2) ∧ w14.cell? ⟨w.heap.size, 3, none⟩ = some (.slice pa pl pc) ∧ w14.cell? ⟨w.heap.size + 1, 3, none⟩ = some (.slice (some ⟨b, off, none⟩) kids.length cap) ∧ w14.cell? ⟨b, off + j * 4, none⟩ = some (.string k0) ∧ w14.cell? ⟨b, off + j * 4 + 1, none⟩ = some (.string k1) ∧ w14.cell? ⟨b, off + j * 4 + 2, none⟩ = some (.bool k2) ∧ w14.cell? ⟨b, off + j * 4 + 3, none⟩ = some (.slice s1 s2 s3)) ∧ Hid (Below (w.heap.size + 2) ((w.alloc (.cells #[.string p0, .string p1, .bool p2, .slice pa pl pc] 26)).alloc (.cells #[.string n, .string x, .bool lf, .slice (some ⟨b, off, none⟩) kids.length cap] 26)) w14 ∧ ∃ vs, RS w14 (w.heap.size + 2) (LJf (j + 1)) (.slice (some ⟨g14, 0, none⟩) (LJf (j + 1)).length c14) vs)))))) from ⟨hoC, (HPR.out _ hbC).cells (g := gp) rfl, hbC.size, fun g9 c9 w9 h1 h2 => by
            have hb9 : Below wr.heap.size wr w9 := hbC.grown h2 hbC.size (fun q hq => by injection hq with hq; omega)
            exact ⟨hb9, HSP.out _ (HBR.out _ hb9), HT.out w9 g9 c9 wr.heap.size hb9 h1 ((xC.keep (h2.block _ xC.lt (fun e => by injection e with e; omega))).cell 0 (by simp))⟩⟩)
          clear HT HPR HBR HSP HRR HCK HLE hdr hbA hbI hbB hbC hoA hoB hoC xI xC szA szI hrs d0 d1 d2 d3 hsv HRS HB bxp bxt hbw hbW0 hkc
          go_wp2_with fail
          refine wp_region_held_drew (S := (fun wq => wq.cell? ⟨w.heap.size, 0, none⟩ = some (.string p0) ∧ wq.cell? ⟨w.heap.size, 1, none⟩ = some (.string p1) ∧ wq.cell? ⟨w.heap.size, 2, none⟩ = some (.bool p2) ∧ wq.cell? ⟨w.heap.size, 3, none⟩ = some (.slice pa pl pc) ∧ wq.cell? ⟨w.heap.size + 1, 3, none⟩ = some (.slice (some ⟨b, off, none⟩) kids.length cap) ∧ wq.cell? ⟨b, off + j * 4, none⟩ = some (.string k0) ∧ wq.cell? ⟨b, off + j * 4 + 1, none⟩ = some (.string k1) ∧ wq.cell? ⟨b, off + j * 4 + 2, none⟩ = some (.bool k2) ∧ wq.cell? ⟨b, off + j * 4 + 3, none⟩ = some (.slice s1 s2 s3))) (by kernel_rfl) hS0 (fun hHeld => ?_)
          clear hS0
          refine wpAnyH_take (i := 0) (oi := oQ0) (v := ?v1b) rfl (by kernel_rfl) (by kernel_rfl) (by kernel_rfl) (fun _ _ _ h => h) (Or.inl ⟨by rfl, ?h1b⟩) hHeld ?r1b
          case h1b => (intro w hSw; (try dsimp only at hSw); go_simp; try with_reducible rfl)
          try simp only [Act.put, List.setIfInBounds_toArray, List.set_cons_zero, List.set_cons_succ]
          refine wpAnyH_take (i := 1) (oi := oQ1) (v := ?v2b) rfl (by kernel_rfl) (by kernel_rfl) (by kernel_rfl) (fun _ _ _ h => h) (Or.inl ⟨by rfl, ?h2b⟩) hHeld ?r2b
          case h2b => (intro w hSw; (try dsimp only at hSw); go_simp; try with_reducible rfl)
          try simp only [Act.put, List.setIfInBounds_toArray, List.set_cons_zero, List.set_cons_succ]
          refine wpAnyH_take (i := 2) (oi := oQ2) (v := ?v3b) rfl (by kernel_rfl) (by kernel_rfl) (by kernel_rfl) (fun _ _ _ h => h) (Or.inl ⟨by rfl, ?h3b⟩) hHeld ?r3b
          case h3b => (intro w hSw; (try dsimp only at hSw); go_simp; try with_reducible rfl)
          try simp only [Act.put, List.setIfInBounds_toArray, List.set_cons_zero, List.set_cons_succ]
          refine wpAnyH_take (i := 3) (oi := oQ3) (v := ?v4b) rfl (by kernel_rfl) (by kernel_rfl) (by kernel_rfl) (fun _ _ _ h => h) (Or.inl ⟨by rfl, ?h4b⟩) hHeld ?r4b
          case h4b => (intro w hSw; (try dsimp only at hSw); go_simp; try with_reducible rfl)
          try simp only [Act.put, List.setIfInBounds_toArray, List.set_cons_zero, List.set_cons_succ]
          refine wpAnyH_take (i := 4) (oi := oQ4) (v := ?v5b) rfl (by kernel_rfl) (by kernel_rfl) (by kernel_rfl) (fun _ _ _ h => h) (Or.inl ⟨by rfl, ?h5b⟩) hHeld ?r5b
          case h5b => (intro w hSw; (try dsimp only at hSw); go_simp; try with_reducible rfl)
          try simp only [Act.put, List.setIfInBounds_toArray, List.set_cons_zero, List.set_cons_succ]
          refine wpAnyH_take (i := 5) (oi := oQ5) (v := ?v6b) rfl (by kernel_rfl) (by kernel_rfl) (by kernel_rfl) (fun _ _ _ h => h) (Or.inl ⟨by rfl, ?h6b⟩) hHeld ?r6b
          case h6b => (intro w hSw; (try dsimp only at hSw); go_simp; try with_reducible rfl)
          try simp only [Act.put, List.setIfInBounds_toArray, List.set_cons_zero, List.set_cons_succ]
          refine wpAnyH_take (i := 6) (oi := oQ6) (v := ?v7b) rfl (by kernel_rfl) (by kernel_rfl) (by kernel_rfl) (fun _ _ _ h => h) (Or.inl ⟨by rfl, ?h7b⟩) hHeld ?r7b
          case h7b => (intro w hSw; (try dsimp only at hSw); go_simp; try with_reducible rfl)
          try simp only [Act.put, List.setIfInBounds_toArray, List.set_cons_zero, List.set_cons_succ]
          refine wpAnyH_take (i := 8) (oi := oQ7) (v := ?v8b) rfl (by kernel_rfl) (by kernel_rfl) (by kernel_rfl) (fun _ _ _ h => h) (Or.inl ⟨by rfl, ?h8b⟩) hHeld ?r8b
          case h8b => (intro w hSw; (try dsimp only at hSw); go_simp; try with_reducible rfl)
          try simp only [Act.put, List.setIfInBounds_toArray, List.set_cons_zero, List.set_cons_succ]
          refine wpAnyH_take (i := 10) (oi := oQ8) (v := ?v9b) rfl (by kernel_rfl) (by kernel_rfl) (by kernel_rfl) (fun _ _ _ h => h) (Or.inl ⟨by rfl, ?h9b⟩) hHeld ?r9b
          case h9b => (intro w hSw; (try dsimp only at hSw); go_simp; try with_reducible rfl)
          try simp only [Act.put, List.setIfInBounds_toArray, List.set_cons_zero, List.set_cons_succ]
          refine wpAnyH_ready (rs := [7, 11]) (by kernel_rfl) (by simp) ?_
          refine (AllReadyH.cons (o := oQ9) rfl (fun K hK => ?_) (AllReadyH.cons (o := oQ10) rfl (fun K hK => ?_) AllReadyH.nil))
          · go_simp
            clear hHeld
            refine hK.out _ _ HSA.out.1 (fun hHeld => ?_)
            clear hK K
            try simp only [Act.put, List.setIfInBounds_toArray, List.set_cons_zero, List.set_cons_succ]
            refine wpAnyH_ready (rs := [9, 11]) (by kernel_rfl) (by simp) ?_
            refine (AllReadyH.cons (o := oQ11) rfl (fun K hK => ?_) (AllReadyH.cons (o := oQ10) rfl (fun K hK => ?_) AllReadyH.nil))
            ·
              refine step_append_made _ rfl (.tmp 38) (.tmp 39) 40 rfl wr.heap.size 3 i3 _ 1 8 Try.underlying40 hi3 hz0 hz1 hz2 rfl (by decide) wr.heap.size (by simp [Act.eval, Act.put]) HA9.out.1 ⟨gp, 0, none⟩ xs.length cp (nums xs) (by simp [Act.eval, Act.put]) HNL.out HA9.out.2.1 (nums_one xs) (by unfold maxLen; omega) (by omega) HA9.out.2.2.1 ?_
              intro g9 c9 w9 hown9 hgr9
              obtain ⟨hb9, hS9, HX9⟩ := HA9.out.2.2.2 g9 c9 w9 hown9 hgr9
              clear hown9 hgr9
              clear hHeld
              refine hK.out _ _ hS9 (fun hHeld => ?_)
              clear hK K
              try simp only [Act.put, List.setIfInBounds_toArray, List.set_cons_zero, List.set_cons_succ]
              refine wpAnyH_ready (rs := [11]) (by kernel_rfl) (by simp) ?_
              refine (AllReadyH.cons (o := oQ10) rfl (fun K hK => ?_) AllReadyH.nil)
              go_simp
              clear hHeld
              refine hK.out _ _ HX9.out.1 (fun hHeld => ?_)
              clear hK K
              try simp only [Act.put, List.setIfInBounds_toArray, List.set_cons_zero, List.set_cons_succ]
              refine wpAnyH_ready (rs := [12]) (by kernel_rfl) (by simp) ?_
              refine (AllReadyH.cons (o := oQ12) rfl (fun K hK => ?_) AllReadyH.nil)
              refine step_append_lies _ rfl (.tmp 40) (.tmp 42) 40 rfl wr.heap.size 3 i3 _ 1 8 Try.underlying40 hi3 hz0 hz1 hz2 rfl (by decide) _ xs.length (nums xs) (by simp [Act.eval, Act.put]) HX9.out.2.1 ⟨w9.heap.size, 0, none⟩ 1 1 [.int .i64 j] (by simp [Act.eval, Act.put]) rfl HX9.out.2.2.1 (by intro z hz; simp at hz; subst hz; rfl) (by decide) (by unfold maxLen; omega) (by omega) HX9.out.2.2.2.1 _ rfl ?_
              intro g12 c12 w12 hown12 hgr12 hat12 hlt12
              obtain ⟨hS12, HCL⟩ := HX9.out.2.2.2.2 g12 c12 w12 hown12 hgr12 hat12
              clear hown12 hgr12 hat12 hlt12
              clear hHeld
              refine hK.out _ _ hS12 (fun hHeld => ?_)
              clear hK K
              try simp only [Act.put, List.setIfInBounds_toArray, List.set_cons_zero, List.set_cons_succ]
              refine wpAnyH_ready (rs := [13]) (by kernel_rfl) (by simp) ?_
              refine (AllReadyH.cons (o := oQ13) rfl (fun K hK => ?_) AllReadyH.nil)
              go_simp
              refine Calls.mono HCL.out ?_
              rintro e w13 ⟨g13, c13, rfl, vs13, hS13, HO13, HN13, HL13, H113, HZ13, HUP⟩
              dsimp only
              clear hHeld
              refine hK.out _ _ hS13 (fun hHeld => ?_)
              clear hK K
              try simp only [Act.put, List.setIfInBounds_toArray, List.set_cons_zero, List.set_cons_succ]
              refine wpAnyH_ready (rs := [14]) (by kernel_rfl) (by simp) ?_
              refine (AllReadyH.cons (o := oQ14) rfl (fun K hK => ?_) AllReadyH.nil)
              refine step_append_at _ rfl (.tmp 31) (.tmp 44) 35 rfl (w.heap.size + 2) 40 i86 _ 1 24 Try.underlying35 hi86 y0 y1 y2 rfl (by decide) _ LJ.length (slv vs LJ.length) (by simp [Act.eval, Act.put]) HO13.out ⟨g13, 0, none⟩ M.length c13 (slv vs13 M.length) (by simp [Act.eval, Act.put]) HL13.out HN13.out H113.out (by unfold maxLen; omega) (by omega) HZ13.out (by simp) ?_
              intro g14 c14 w14 hown14 hgr14 hat14
              obtain ⟨hS14, HE⟩ := HUP.out g14 c14 w14 hown14 hgr14 hat14
              clear hown14 hgr14 hat14
              clear hHeld
              refine hK.out _ _ hS14 (fun hHeld => ?_)
              clear hK K
              try simp only [Act.put, List.setIfInBounds_toArray, List.set_cons_zero, List.set_cons_succ]
              refine wpAnyH_take (i := 15) (oi := oQ15) (v := ?v10b) rfl (by kernel_rfl) (by kernel_rfl) (by kernel_rfl) (fun _ _ _ h => h) (Or.inl ⟨by rfl, ?h10b⟩) hHeld ?r10b
              case h10b => (intro w hSw; (try dsimp only at hSw); go_simp; try with_reducible rfl)
              try simp only [Act.put, List.setIfInBounds_toArray, List.set_cons_zero, List.set_cons_succ]
              refine wpAnyH_done (by kernel_rfl) ?_ _
              go_wp2_with fail
              exact ⟨⟨j + 1, g14, c14, by rw [HLN.out], by go_num, by omega, HE.out.1, HE.out.2⟩, by simp [intOf]; omega⟩
            · go_simp
              clear hHeld
              refine hK.out _ _ HSB.out.1 (fun hHeld => ?_)
              clear hK K
              try simp only [Act.put, List.setIfInBounds_toArray, List.set_cons_zero, List.set_cons_succ]
              refine wpAnyH_ready (rs := [9]) (by kernel_rfl) (by simp) ?_
              refine (AllReadyH.cons (o := oQ11) rfl (fun K hK => ?_) AllReadyH.nil)
              refine step_append_made _ rfl (.tmp 38) (.tmp 39) 40 rfl wr.heap.size 3 i3 _ 1 8 Try.underlying40 hi3 hz0 hz1 hz2 rfl (by decide) wr.heap.size (by simp [Act.eval, Act.put]) HB9.out.1 ⟨gp, 0, none⟩ xs.length cp (nums xs) (by simp [Act.eval, Act.put]) HNL.out HB9.out.2.1 (nums_one xs) (by unfold maxLen; omega) (by omega) HB9.out.2.2.1 ?_
              intro g9 c9 w9 hown9 hgr9
              obtain ⟨hb9, hS9, HX9⟩ := HB9.out.2.2.2 g9 c9 w9 hown9 hgr9
              clear hown9 hgr9
              clear hHeld
              refine hK.out _ _ hS9 (fun hHeld => ?_)
              clear hK K
              try simp only [Act.put, List.setIfInBounds_toArray, List.set_cons_zero, List.set_cons_succ]
              refine wpAnyH_ready (rs := [12]) (by kernel_rfl) (by simp) ?_
              refine (AllReadyH.cons (o := oQ12) rfl (fun K hK => ?_) AllReadyH.nil)
              refine step_append_lies _ rfl (.tmp 40) (.tmp 42) 40 rfl wr.heap.size 3 i3 _ 1 8 Try.underlying40 hi3 hz0 hz1 hz2 rfl (by decide) _ xs.length (nums xs) (by simp [Act.eval, Act.put]) HX9.out.1 ⟨wr.heap.size + 1, 0, none⟩ 1 1 [.int .i64 j] (by simp [Act.eval, Act.put]) rfl HX9.out.2.1 (by intro z hz; simp at hz; subst hz; rfl) (by decide) (by unfold maxLen; omega) (by omega) HX9.out.2.2.1 _ rfl ?_
              intro g12 c12 w12 hown12 hgr12 hat12 hlt12
              obtain ⟨hS12, HCL⟩ := HX9.out.2.2.2 g12 c12 w12 hown12 hgr12 hat12
              clear hown12 hgr12 hat12 hlt12
              clear hHeld
              refine hK.out _ _ hS12 (fun hHeld => ?_)
              clear hK K
              try simp only [Act.put, List.setIfInBounds_toArray, List.set_cons_zero, List.set_cons_succ]
              refine wpAnyH_ready (rs := [13]) (by kernel_rfl) (by simp) ?_
              refine (AllReadyH.cons (o := oQ13) rfl (fun K hK => ?_) AllReadyH.nil)
              go_simp
              refine Calls.mono HCL.out ?_
              rintro e w13 ⟨g13, c13, rfl, vs13, hS13, HO13, HN13, HL13, H113, HZ13, HUP⟩
              dsimp only
              clear hHeld
              refine hK.out _ _ hS13 (fun hHeld => ?_)
              clear hK K
              try simp only [Act.put, List.setIfInBounds_toArray, List.set_cons_zero, List.set_cons_succ]
              refine wpAnyH_ready (rs := [14]) (by kernel_rfl) (by simp) ?_
              refine (AllReadyH.cons (o := oQ14) rfl (fun K hK => ?_) AllReadyH.nil)
              refine step_append_at _ rfl (.tmp 31) (.tmp 44) 35 rfl (w.heap.size + 2) 40 i86 _ 1 24 Try.underlying35 hi86 y0 y1 y2 rfl (by decide) _ LJ.length (slv vs LJ.length) (by simp [Act.eval, Act.put]) HO13.out ⟨g13, 0, none⟩ M.length c13 (slv vs13 M.length) (by simp [Act.eval, Act.put]) HL13.out HN13.out H113.out (by unfold maxLen; omega) (by omega) HZ13.out (by simp) ?_
              intro g14 c14 w14 hown14 hgr14 hat14
              obtain ⟨hS14, HE⟩ := HUP.out g14 c14 w14 hown14 hgr14 hat14
              clear hown14 hgr14 hat14
              clear hHeld
              refine hK.out _ _ hS14 (fun hHeld => ?_)
              clear hK K
              try simp only [Act.put, List.setIfInBounds_toArray, List.set_cons_zero, List.set_cons_succ]
              refine wpAnyH_take (i := 15) (oi := oQ15) (v := ?v11b) rfl (by kernel_rfl) (by kernel_rfl) (by kernel_rfl) (fun _ _ _ h => h) (Or.inl ⟨by rfl, ?h11b⟩) hHeld ?r11b
              case h11b => (intro w hSw; (try dsimp only at hSw); go_simp; try with_reducible rfl)
              try simp only [Act.put, List.setIfInBounds_toArray, List.set_cons_zero, List.set_cons_succ]
              refine wpAnyH_done (by kernel_rfl) ?_ _
              go_wp2_with fail
              exact ⟨⟨j + 1, g14, c14, by rw [HLN.out], by go_num, by omega, HE.out.1, HE.out.2⟩, by simp [intOf]; omega⟩
          · go_simp
            clear hHeld
            refine hK.out _ _ HSC.out.1 (fun hHeld => ?_)
            clear hK K
            try simp only [Act.put, List.setIfInBounds_toArray, List.set_cons_zero, List.set_cons_succ]
            refine wpAnyH_ready (rs := [7]) (by kernel_rfl) (by simp) ?_
            refine (AllReadyH.cons (o := oQ9) rfl (fun K hK => ?_) AllReadyH.nil)
            go_simp
            clear hHeld
            refine hK.out _ _ HSC.out.2 (fun hHeld => ?_)
            clear hK K
            try simp only [Act.put, List.setIfInBounds_toArray, List.set_cons_zero, List.set_cons_succ]
            refine wpAnyH_ready (rs := [9]) (by kernel_rfl) (by simp) ?_
            refine (AllReadyH.cons (o := oQ11) rfl (fun K hK => ?_) AllReadyH.nil)
            refine step_append_made _ rfl (.tmp 38) (.tmp 39) 40 rfl wr.heap.size 3 i3 _ 1 8 Try.underlying40 hi3 hz0 hz1 hz2 rfl (by decide) (wr.heap.size + 1) (by simp [Act.eval, Act.put]) HC9.out.1 ⟨gp, 0, none⟩ xs.length cp (nums xs) (by simp [Act.eval, Act.put]) HNL.out HC9.out.2.1 (nums_one xs) (by unfold maxLen; omega) (by omega) HC9.out.2.2.1 ?_
            intro g9 c9 w9 hown9 hgr9
            obtain ⟨hb9, hS9, HX9⟩ := HC9.out.2.2.2 g9 c9 w9 hown9 hgr9
            clear hown9 hgr9
            clear hHeld
            refine hK.out _ _ hS9 (fun hHeld => ?_)
            clear hK K
            try simp only [Act.put, List.setIfInBounds_toArray, List.set_cons_zero, List.set_cons_succ]
            refine wpAnyH_ready (rs := [12]) (by kernel_rfl) (by simp) ?_
            refine (AllReadyH.cons (o := oQ12) rfl (fun K hK => ?_) AllReadyH.nil)
            refine step_append_lies _ rfl (.tmp 40) (.tmp 42) 40 rfl wr.heap.size 3 i3 _ 1 8 Try.underlying40 hi3 hz0 hz1 hz2 rfl (by decide) _ xs.length (nums xs) (by simp [Act.eval, Act.put]) HX9.out.1 ⟨wr.heap.size, 0, none⟩ 1 1 [.int .i64 j] (by simp [Act.eval, Act.put]) rfl HX9.out.2.1 (by intro z hz; simp at hz; subst hz; rfl) (by decide) (by unfold maxLen; omega) (by omega) HX9.out.2.2.1 _ rfl ?_
            intro g12 c12 w12 hown12 hgr12 hat12 hlt12
            obtain ⟨hS12, HCL⟩ := HX9.out.2.2.2 g12 c12 w12 hown12 hgr12 hat12
            clear hown12 hgr12 hat12 hlt12
            clear hHeld
            refine hK.out _ _ hS12 (fun hHeld => ?_)
            clear hK K
            try simp only [Act.put, List.setIfInBounds_toArray, List.set_cons_zero, List.set_cons_succ]
            refine wpAnyH_ready (rs := [13]) (by kernel_rfl) (by simp) ?_
            refine (AllReadyH.cons (o := oQ13) rfl (fun K hK => ?_) AllReadyH.nil)
            go_simp
            refine Calls.mono HCL.out ?_
            rintro e w13 ⟨g13, c13, rfl, vs13, hS13, HO13, HN13, HL13, H113, HZ13, HUP⟩
            dsimp only
            clear hHeld
            refine hK.out _ _ hS13 (fun hHeld => ?_)
            clear hK K
            try simp only [Act.put, List.setIfInBounds_toArray, List.set_cons_zero, List.set_cons_succ]
            refine wpAnyH_ready (rs := [14]) (by kernel_rfl) (by simp) ?_
            refine (AllReadyH.cons (o := oQ14) rfl (fun K hK => ?_) AllReadyH.nil)
            refine step_append_at _ rfl (.tmp 31) (.tmp 44) 35 rfl (w.heap.size + 2) 40 i86 _ 1 24 Try.underlying35 hi86 y0 y1 y2 rfl (by decide) _ LJ.length (slv vs LJ.length) (by simp [Act.eval, Act.put]) HO13.out ⟨g13, 0, none⟩ M.length c13 (slv vs13 M.length) (by simp [Act.eval, Act.put]) HL13.out HN13.out H113.out (by unfold maxLen; omega) (by omega) HZ13.out (by simp) ?_
            intro g14 c14 w14 hown14 hgr14 hat14
            obtain ⟨hS14, HE⟩ := HUP.out g14 c14 w14 hown14 hgr14 hat14
            clear hown14 hgr14 hat14
            clear hHeld
            refine hK.out _ _ hS14 (fun hHeld => ?_)
            clear hK K
            try simp only [Act.put, List.setIfInBounds_toArray, List.set_cons_zero, List.set_cons_succ]
            refine wpAnyH_take (i := 15) (oi := oQ15) (v := ?v12b) rfl (by kernel_rfl) (by kernel_rfl) (by kernel_rfl) (fun _ _ _ h => h) (Or.inl ⟨by rfl, ?h12b⟩) hHeld ?r12b
            case h12b => (intro w hSw; (try dsimp only at hSw); go_simp; try with_reducible rfl)
            try simp only [Act.put, List.setIfInBounds_toArray, List.set_cons_zero, List.set_cons_succ]
            refine wpAnyH_done (by kernel_rfl) ?_ _
            go_wp2_with fail
            exact ⟨⟨j + 1, g14, c14, by rw [HLN.out], by go_num, by omega, HE.out.1, HE.out.2⟩, by simp [intOf]; omega⟩
        · have q1 : ¬ ((j : Int) < (kids.length : Int)) := by omega
          have hje : j = kids.length := by omega
          have T3 : wr.cell? ⟨w.heap.size + 1, 3, none⟩ = some (.slice a kids.length cap) := bxt.cell 3 (by simp)
          have HE := (show Hid (PlA (LJf kids.length) w (.returned (.slice (some ⟨g, 0, none⟩) (LJf kids.length).length c)) wr) from (by
            obtain ⟨vs, h⟩ := HRS.out
            rw [hje] at h
            exact ⟨g, c, vs, rfl, hbw, own_base h.out (by omega), h.row⟩))
          clear bxp bxt hbw hbW0 HRS HB
          rw [hje]
          go_wp2_with fail
          go_ret
          exact HE.out
end Go.Proofs.Ytbgoikaelmacbaa
