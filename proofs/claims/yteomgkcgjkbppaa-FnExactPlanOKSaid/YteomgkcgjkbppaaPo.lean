import Derived.Test.YteomgkcgjkbppaaPn
/-! The specification: l11Find, l11Match. -/
namespace Go.Proofs.Yteomgkcgjkbppaa
open Go.RowKit Go.Deep Go.Lib
set_option linter.unusedVariables false
set_option maxRecDepth 100000
set_option linter.unusedSimpArgs false

theorem own_some {w : World} {B t k n : Nat} {v : Value} {cs : List Value} (h : w.ownsRow B t k v n cs) (hn : v ≠ .slice none 0 0) : ∃ g cap, v = .slice (some ⟨g, 0, none⟩) n cap := by
  rcases h.2 with ⟨rfl, h0⟩ | ⟨g, cap, cur, rfl, _⟩
  · exact absurd rfl hn
  · exact ⟨g, cap, rfl⟩
theorem step_append_made {P : Program} (w : World) {ops : Array Oper} {o : Oper} {a : Act} {K : Act → World → Prop} {Q : Exit → Act → World → Prop} {E : Prop} (hgd : o.guard = none) (s x : Operand) (t : TypeId)
    (ho : o.op = .call { callee := .builtin .append, args := #[s, x], argTypes := #[t, t] })
    (base : Nat) (e : TypeId) (i : TypeInfo) (z : Value) (size bytes : Nat) (ht : P.underlying t = some (.slice e)) (hi : P.info? e = some i) (hz : i.zero = some z)
    (hsize : i.size = size) (hby : i.bytes = bytes) (hzs : z.cells.size = size) (hsz : 0 < size)
    (b : Nat) (hs : a.eval s = .slice (some ⟨b, 0, none⟩) 0 0) (hown : w.ownsRow base e size (.slice (some ⟨b, 0, none⟩) 0 0) 0 [])
    (ad : Addr) (m c : Nat) (news : List Value) (hx : a.eval x = .slice (some ad) m c) (hl : news.length = m * size) (hnews : ∀ j u, news[j]? = some u → w.cell? (ad.add j) = some u) (h1 : ∀ u ∈ news, u.oneCell' = true)
    (h63 : m ≤ maxLen) (hbytes : m * bytes ≤ 140737488355328) (hbase : base ≤ w.heap.size)
    (h : ∀ g' cap' w', w'.ownsRow base e size (.slice (some ⟨g', 0, none⟩) m cap') m news → w.grownBy w' (some b) → K (a.put o.dst (.slice (some ⟨g', 0, none⟩) m cap')) w') :
    if Region.wanted o (yielded ops a.tmps) = true then Oper.wp P o a w K Q else E := by
  have hw : Region.wanted o (yielded ops a.tmps) = true := by simp [Region.wanted, hgd]
  rw [if_pos hw]
  obtain ⟨v', w', hr, h2, h3, h4, h5⟩ := run_append_own_at (P := P) w base t o.type e i z size bytes ht hi hz hsize hby hzs hsz _ 0 [] hown ad m c news hl hnews h1 (by omega) (by rw [Nat.zero_add]; exact hbytes) hbase
  rw [Nat.zero_add, List.nil_append] at h2
  obtain ⟨g', cap', e'⟩ := own_some h2 (fun q => by have := (h4.1 q).1; cases this)
  subst e'
  have h3' : w.grownBy w' (some b) := by simpa [Value.ownBlock] using h3
  unfold Oper.wp execOp
  simp only [ho, resolve, invoke, builtin, Sem.run_bind, Sem.run_pure, Result.andThen_ok, List.map_toArray, List.map_cons, List.map_nil, hs, hx, hr]
  exact h g' cap' w' h2 h3'
def nb (bl : List (ByteArray × Tr)) (i : Nat) : ByteArray × Tr := (bl[i]?).getD (ByteArray.empty, ⟨ByteArray.empty, ByteArray.empty, false, []⟩)
theorem nb_eq {bl : List (ByteArray × Tr)} {i : Nat} (h : i < bl.length) : nb bl i = bl[i] := by simp [nb, h]
theorem nb_app {bl : List (ByteArray × Tr)} {x : ByteArray × Tr} {i : Nat} (h : i < bl.length) : nb (bl ++ [x]) i = nb bl i := by simp [nb, List.getElem?_append_left h]
theorem nb_last (bl : List (ByteArray × Tr)) (x : ByteArray × Tr) : nb (bl ++ [x]) bl.length = x := by simp [nb]
/-- The cells of the first j binds. -/
def bcs (bl : List (ByteArray × Tr)) (sv : Nat → Value) : Nat → List Value
  | 0 => []
  | j + 1 => bcs bl sv j ++ [.string (nb bl j).1, .string (nb bl j).2.name, .string (nb bl j).2.text, .bool (nb bl j).2.leaf, sv j]
theorem bcs_len (bl : List (ByteArray × Tr)) (sv : Nat → Value) : ∀ j, (bcs bl sv j).length = j * 5
  | 0 => rfl
  | j + 1 => by rw [bcs, List.length_append, bcs_len bl sv j]; simp; omega
theorem bcs_congr {bl cl : List (ByteArray × Tr)} {sv tv : Nat → Value} : ∀ j, (∀ i, i < j → nb bl i = nb cl i ∧ sv i = tv i) → bcs bl sv j = bcs cl tv j
  | 0, _ => rfl
  | j + 1, h => by rw [bcs, bcs, bcs_congr j (fun i hi => h i (by omega)), (h j (by omega)).1, (h j (by omega)).2]
theorem bcs_get (bl : List (ByteArray × Tr)) (sv : Nat → Value) : ∀ j i, i < j → (bcs bl sv j)[i * 5]? = some (.string (nb bl i).1) ∧ (bcs bl sv j)[i * 5 + 1]? = some (.string (nb bl i).2.name) ∧ (bcs bl sv j)[i * 5 + 2]? = some (.string (nb bl i).2.text) ∧ (bcs bl sv j)[i * 5 + 3]? = some (.bool (nb bl i).2.leaf) ∧ (bcs bl sv j)[i * 5 + 4]? = some (sv i)
  | 0, _, h => absurd h (Nat.not_lt_zero _)
  | j + 1, i, h => by
    have hl := bcs_len bl sv j
    by_cases e : i = j
    · subst e
      rw [bcs]
      refine ⟨?_, ?_, ?_, ?_, ?_⟩ <;> (rw [List.getElem?_append_right (by omega), hl]; simp)
    · obtain ⟨h0, h1, h2, h3, h4⟩ := bcs_get bl sv j i (by omega)
      rw [bcs]
      refine ⟨?_, ?_, ?_, ?_, ?_⟩ <;> (rw [List.getElem?_append_left (by omega)]; assumption)
theorem bcs_one (bl : List (ByteArray × Tr)) (sv : Nat → Value) (hs : ∀ i, (sv i).oneCell' = true) : ∀ j, ∀ u ∈ bcs bl sv j, u.oneCell' = true
  | 0, u, h => by simp [bcs] at h
  | j + 1, u, h => by
    rw [bcs] at h
    rcases List.mem_append.1 h with h | h
    · exact bcs_one bl sv hs j u h
    · simp at h
      rcases h with rfl | rfl | rfl | rfl | rfl
      · rfl
      · rfl
      · rfl
      · rfl
      · exact hs j
/-- Binds that lie behind a slice. -/
def BLi (w : World) (bl : List (ByteArray × Tr)) (v : Value) : Prop :=
  ∃ (b cap : Nat) (sv : Nat → Value), v = .slice (some ⟨b, 0, none⟩) bl.length cap ∧ w.ownsRow 0 62 5 v bl.length (bcs bl sv bl.length) ∧ (∀ i, ∃ x y z, sv i = .slice x y z) ∧ ∀ i (hi : i < bl.length), Lies w (fun _ => True) bl[i].2 (sv i)
theorem BLi.still {w w' : World} {bl : List (ByteArray × Tr)} {v : Value} (h : BLi w bl v) (hb : Below w.heap.size w w') : BLi w' bl v := by
  obtain ⟨b, cap, sv, hv, ho, hs, hl⟩ := h
  exact ⟨b, cap, sv, hv, own_keep1 ho (fun q hq => hb.block q (World.ownsRow.lt ho q hq).2), hs, fun i hi => (hl i hi).still hb⟩
theorem BLi.made (w : World) : BLi (w.alloc (.cells #[] 62)) [] (.slice (some ⟨w.heap.size, 0, none⟩) 0 0) :=
  ⟨w.heap.size, 0, fun _ => .slice none 0 0, rfl, World.ownsRow_made w #[] 0 (Nat.zero_le _) (Nat.zero_le _) rfl, fun _ => ⟨_, _, _, rfl⟩, fun i hi => absurd hi (Nat.not_lt_zero _)⟩
theorem BLi.add {w w' : World} {bl : List (ByteArray × Tr)} {x : ByteArray} {t : Tr} {u : Value} {b cap g cp B : Nat} {sv : Nat → Value} (hs : ∀ i, ∃ x y z, sv i = .slice x y z) (hl : ∀ i (hi : i < bl.length), Lies w (fun _ => True) bl[i].2 (sv i)) (hb : Below w.heap.size w w')
    (hx : Lies w (fun _ => True) t u) (hu : ∃ x y z, u = .slice x y z) (ho : w'.ownsRow B 62 5 (.slice (some ⟨g, 0, none⟩) (bl.length + 1) cp) (bl.length + 1) (bcs bl sv bl.length ++ [.string x, .string t.name, .string t.text, .bool t.leaf, u])) : BLi w' (bl ++ [(x, t)]) (.slice (some ⟨g, 0, none⟩) (bl.length + 1) cp) := by
  have hlen : (bl ++ [(x, t)]).length = bl.length + 1 := by simp
  refine ⟨g, cp, fun i => if i = bl.length then u else sv i, by rw [hlen], ?_, fun i => ?_, fun i hi => ?_⟩
  · rw [hlen, bcs, bcs_congr (cl := bl) (tv := sv) bl.length (fun i hi => ⟨nb_app hi, if_neg (by omega)⟩), nb_last]
    simp only [if_true]
    exact ⟨ho.1, by
      rcases ho.2 with e | ⟨g', cap', cur, e1, e2, e3⟩
      · exact .inl e
      · exact .inr ⟨g', cap', cur, e1, Nat.zero_le _, e3⟩⟩
  · dsimp only
    split
    · exact hu
    · exact hs i
  · rw [hlen] at hi
    by_cases e : i = bl.length
    · subst e
      simp only [if_true]
      rw [List.getElem_append_right (Nat.le_refl _)]
      simp
      exact hx.still hb
    · have hi2 : i < bl.length := by omega
      dsimp only
      rw [if_neg e, List.getElem_append_left hi2]
      exact (hl i hi2).still hb
/-- What l11Find answers. -/
def FdR (bl : List (ByteArray × Tr)) (s : ByteArray) (i : Int) : Prop := (i = -1 ∧ look bl s = none) ∨ ∃ (k : Nat) (hk : k < bl.length), i = k ∧ look bl s = some bl[k].2
set_option maxHeartbeats 800000 in
theorem find48 (bl : List (ByteArray × Tr)) (s : ByteArray) (v : Value) (w : World) (h : BLi w bl v) :
    Calls Try.prog 48 #[v, .string s] w fun e w' => ∃ i : Int, e = .returned (.int .i64 i) ∧ FdR bl s i ∧ w' = w := by
  obtain ⟨b, cap, sv, rfl, ho, hs, hl⟩ := h
  have hm : bl.length ≤ 2 ^ 63 - 1 := by
    rcases ho.2 with ⟨e, e0⟩ | ⟨g, cp, cur, r1, r2, r3, r4, r5, r6⟩
    · rw [e0]; exact Nat.zero_le _
    · unfold maxLen at r5; omega
  have HC := (show Hid (∀ i (hi : i < bl.length), w.cell? ⟨b, i * 5, none⟩ = some (.string bl[i].1)) from fun i hi => by
    rw [World.ownsRow.cellAt ho _ (by omega), (bcs_get bl sv bl.length i hi).1, nb_eq hi])
  clear ho hs hl
  go_enter Try.func48, Try.ntmps48
  go_wp2_with fail
  go_loop [5] (fun i => ∃ j : Nat, i = .int .i64 j ∧ j ≤ bl.length ∧ Hid (∀ i (hi : i < bl.length), i < j → ¬ bl[i].1 = s)) (fun i => bl.length - (intOf i).toNat)
  case atStart => exact ⟨0, rfl, Nat.zero_le _, fun i _ h0 => absurd h0 (Nat.not_lt_zero _)⟩
  case round =>
    obtain ⟨j, rfl, hj, HJ⟩ := hrel
    by_cases hlt : j < bl.length
    · have c1 := HC.out j hlt
      have q1 : (j : Int) < (bl.length : Int) := by omega
      by_cases he : bl[j].1 = s
      · have HH := (show Hid (FdR bl s (j : Int)) from .inr ⟨j, hlt, rfl, look_at hlt HJ.out he⟩)
        rw [he] at c1
        clear he HJ
        go_wp2_with fail
        go_ret
        exact ⟨(j : Int), rfl, HH.out, rfl⟩
      · have hd := ne_bytes he
        have HN := (show Hid (∀ i (hi : i < bl.length), i < j + 1 → ¬ bl[i].1 = s) from fun i hi hij => by
          by_cases e : i = j
          · subst e; exact he
          · exact HJ.out i hi (by omega))
        generalize bl[j].1 = y at *
        clear he HJ
        go_wp2_with fail
        go_round
        case rel => exact ⟨j + 1, by go_num, by omega, HN⟩
        case measure => simp [intOf]; omega
    · have HH := (show Hid (FdR bl s (-1)) from .inl ⟨rfl, look_none (fun i hi => HJ.out i hi (by omega))⟩)
      clear HJ
      go_wp2_with fail
      go_ret
      exact ⟨-1, rfl, HH.out, rfl⟩
end Go.Proofs.Yteomgkcgjkbppaa
