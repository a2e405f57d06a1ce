import Derived.Test.YtgjnlhidbjpdkajGreatS3
import Derived.Deep.AppendLies
import Derived.Deep.RegionLaw
import Derived.OwnWalk
/-! The specification's l03SayItems: items, as words in a row that grows. -/
namespace Go.Proofs.YtgjnlhidbjpdkajGreat
open Go.RowKit Go.Deep
set_option linter.unusedVariables false
set_option maxRecDepth 100000
set_option linter.unusedSimpArgs false

/-- Texts as cells. -/
def sc (l : List ByteArray) : List Value := l.map .string
theorem sc_len (l : List ByteArray) : (sc l).length = l.length := by simp [sc]
theorem sc_append (l m : List ByteArray) : sc (l ++ m) = sc l ++ sc m := by simp [sc]
theorem grown_of_below {w w' : World} (h : Below w.heap.size w w') (o : Option Nat) : w.grownBy w' o := ⟨h.os, h.tape, h.output, h.size, fun b hb _ => h.block b hb⟩
theorem own_still {w w' : World} {base : Nat} {e : TypeId} {size : Nat} {v : Value} {n : Nat} {xs : List Value} (h : w.ownsRow base e size v n xs) (hb : Below w.heap.size w w') : w'.ownsRow base e size v n xs :=
  h.kept (grown_of_below hb none) (by cases v.ownBlock <;> simp)
theorem cell_one_box (w : World) (u : Value) (T : TypeId) : ∀ j x, [u][j]? = some x → (w.alloc (.cells #[u] T)).cell? ((⟨w.heap.size, 0, none⟩ : Addr).add j) = some x := by
  intro j x h
  cases j with
  | zero => simp at h; subst h; simp [Addr.add, go_sem]
  | succ j => simp at h
theorem own_made0 (w : World) (T : Nat) : (w.alloc (.cells #[] T)).ownsRow w.heap.size T 1 (.slice (some ⟨w.heap.size, 0, none⟩) 0 0) 0 [] :=
  ⟨rfl, .inr ⟨w.heap.size, 0, #[], rfl, Nat.le_refl _, blk_alloc_new _ _, Nat.le_refl _, Nat.zero_le _, rfl, rfl⟩⟩
theorem info9s : (Tryz.prog.info? 9).map (fun i => (i.zero, i.size, i.bytes)) = some (some (.string ByteArray.empty), 1, 16) := by kernel_rfl

theorem own_slice {w : World} {base : Nat} {e : TypeId} {size : Nat} {v : Value} {n : Nat} {xs : List Value} (h : w.ownsRow base e size v n xs) : ∃ a cap, v = .slice a n cap := by
  obtain ⟨_, h⟩ := h
  rcases h with ⟨rfl, rfl⟩ | ⟨g, cap, _, rfl, _⟩
  · exact ⟨_, _, rfl⟩
  · exact ⟨_, _, rfl⟩
theorem own_cells {w : World} {B g n cap : Nat} {e : TypeId} {xs : List Value} (h : w.ownsRow B e 1 (.slice (some ⟨g, 0, none⟩) n cap) n xs) : ∀ j u, xs[j]? = some u → w.cell? ((⟨g, 0, none⟩ : Addr).add j) = some u := by
  obtain ⟨hl, h⟩ := h
  rcases h with ⟨e, _⟩ | ⟨g', cap', cur, e, _, hg, _, _, hsz, htk⟩
  · cases e
  · cases e
    intro j u hu
    rw [WideShapes.add_plain, Nat.zero_add, cell_of_row w g j cur _ (0, 0) hg]
    rw [← htk, List.getElem?_take] at hu
    split at hu
    · simpa using hu
    · simp at hu
theorem sc_one (l : List ByteArray) : ∀ u ∈ sc l, u.oneCell' = true := by
  intro u hu
  obtain ⟨_, _, rfl⟩ := List.mem_map.1 hu
  rfl
/-- append(out, more...) at a step of a region that draws, also where there is no more. -/
theorem step_append_at {P : Program} (w : World) {ops : Array Oper} {o : Oper} {a : Act} {K : Act → World → Prop} {Q : Exit → Act → World → Prop} {E : Prop} (hgd : o.guard = none) (s x : Operand) (t : TypeId)
    (ho : o.op = .call { callee := .builtin .append, args := #[s, x], argTypes := #[t, t] })
    (base : Nat) (e : TypeId) (i : TypeInfo) (z : Value) (size bytes : Nat) (ht : P.underlying t = some (.slice e)) (hi : P.info? e = some i) (hz : i.zero = some z)
    (hsize : i.size = size) (hby : i.bytes = bytes) (hzs : z.cells.size = size) (hsz : 0 < size)
    (v : Value) (n : Nat) (xs : List Value) (hs : a.eval s = v) (hown : w.ownsRow base e size v n xs)
    (ad : Addr) (m c : Nat) (news : List Value) (hx : a.eval x = .slice (some ad) m c) (hl : news.length = m * size) (hnews : ∀ j u, news[j]? = some u → w.cell? (ad.add j) = some u) (h1 : ∀ u ∈ news, u.oneCell' = true)
    (h63 : n + m ≤ maxLen) (hbytes : (n + m) * bytes ≤ 140737488355328) (hbase : base ≤ w.heap.size)
    (h : ∀ a' cap w', w'.ownsRow base e size (.slice a' (n + m) cap) (n + m) (xs ++ news) → w.grownBy w' v.ownBlock → K (a.put o.dst (.slice a' (n + m) cap)) w') :
    if Region.wanted o (yielded ops a.tmps) = true then Oper.wp P o a w K Q else E := by
  have hw : Region.wanted o (yielded ops a.tmps) = true := by simp [Region.wanted, hgd]
  rw [if_pos hw]
  obtain ⟨v', w', hr, h2, h3, _, _⟩ := run_append_own_at (P := P) w base t o.type e i z size bytes ht hi hz hsize hby hzs hsz v n xs hown ad m c news hl hnews h1 h63 hbytes hbase
  obtain ⟨a', c', rfl⟩ := own_slice h2
  unfold Oper.wp execOp
  simp only [ho, resolve, invoke, builtin, Sem.run_bind, Sem.run_pure, Result.andThen_ok, List.map_toArray, List.map_cons, List.map_nil, hs, hx, hr]
  exact h a' c' w' h2 h3
/-- A row of texts that is owned, read. -/
theorem own_strs {w : World} {B : Nat} {v : Value} {l : List ByteArray} (h : w.ownsRow B 9 1 v l.length (sc l)) (hs : ∀ i (hi : i < l.length), l[i].size ≤ maxLen) : Strs w (fun b => B ≤ b) l v := by
  have h0 := h
  obtain ⟨hl, h⟩ := h
  rcases h with ⟨rfl, e⟩ | ⟨g, cap, cur, rfl, hB, hg, hn, hm, hsz, htk⟩
  · have : l = [] := List.length_eq_zero_iff.1 e
    subst this
    exact ⟨none, 0, 0, 0, rfl, Nat.le_refl _, Nat.zero_le _, fun h => absurd h (Nat.not_lt_zero _), fun i hi => absurd hi (Nat.not_lt_zero _)⟩
  · refine ⟨_, cap, g, 0, rfl, hn, hm, fun _ => ⟨rfl, hB⟩, fun i hi => ⟨?_, hs i hi⟩⟩
    have := own_cells h0 i (.string l[i]) (by simp [sc, hi])
    rw [WideShapes.add_plain] at this
    exact this

set_option maxHeartbeats 3200000 in
theorem sayItems_step {S : Nat → Prop} (say : Int → ByteArray) (nm : ByteArray) (a1 a2 a3 a4 : Option Addr) (n1 p1 n2 p2 n3 p3 n4 p4 : Nat) (items : List Int) (v : Value) (w : World) (hI : Ints w S items v) (hlen : items.length ≤ 1048576)
    (hsay : ∀ (k : Nat) (hk : k < items.length) (w' : World), Below w.heap.size w w' → Calls Tryz.prog 72 #[.agg #[.string nm, .slice a1 n1 p1, .slice a2 n2 p2, .slice a3 n3 p3, .slice a4 n4 p4], .int .i64 items[k]] w' fun e w'' => e = .returned (.string (say items[k])) ∧ Below w'.heap.size w' w'') :
    Calls Tryz.prog 36 #[.agg #[.string nm, .slice a1 n1 p1, .slice a2 n2 p2, .slice a3 n3 p3, .slice a4 n4 p4], v] w fun e w' => ∃ g c, e = .returned (.slice (some ⟨g, 0, none⟩) items.length c) ∧ Below w.heap.size w w' ∧ w'.ownsRow w.heap.size 9 1 (.slice (some ⟨g, 0, none⟩) items.length c) items.length (sc (items.map say)) := by
  obtain ⟨ai, ci, bi, oi, rfl, hc, hm, ha, hcell⟩ := hI
  have HC := (show Hid _ from hcell); clear hcell
  have HS := (show Hid _ from hsay); clear hsay
  unfold maxLen at hm
  obtain ⟨i9, hi9, hzz⟩ := Option.map_eq_some_iff.1 info9s
  simp only [Prod.mk.injEq] at hzz
  obtain ⟨hz0, hz1, hz2⟩ := hzz
  have HB0 := (show Hid _ from Box.new w 36 [.string nm, .slice a1 n1 p1, .slice a2 n2 p2, .slice a3 n3 p3, .slice a4 n4 p4])
  go_enter Tryz.func36, Tryz.ntmps36
  go_wp2_with fail
  go_loopw [5, 6] (fun u i wr => ∃ (j g' c' : Nat), u = .slice (some ⟨g', 0, none⟩) j c' ∧ i = .int .i64 j ∧ j ≤ items.length ∧ Hid (Below w.heap.size w wr ∧ Box wr w.heap.size 36 [.string nm, .slice a1 n1 p1, .slice a2 n2 p2, .slice a3 n3 p3, .slice a4 n4 p4] ∧ wr.ownsRow (w.heap.size + 1) 9 1 (.slice (some ⟨g', 0, none⟩) j c') j (sc ((items.take j).map say)))) (fun _ i _ => items.length - (intOf i).toNat)
  case atStart =>
    refine ⟨0, _, _, rfl, rfl, Nat.zero_le _, bel2 _ _ _, HB0.out.still (bel_alloc _ _), ?_⟩
    have h := own_made0 (w.alloc (.cells #[.string nm, .slice a1 n1 p1, .slice a2 n2 p2, .slice a3 n3 p3, .slice a4 n4 p4] 36)) 9
    simp only [World.size_alloc] at h
    simpa [sc] using h
  case round =>
    obtain ⟨j, g', c', rfl, rfl, hj, HR⟩ := hrel
    have hwz : w.heap.size + 1 ≤ wr.heap.size := HR.out.2.1.lt
    by_cases hlt : j < items.length
    · have hlt' := hlt
      obtain ⟨rfl, _⟩ := ha (by omega)
      have c0 := HC.out j hlt'
      rw [← HR.out.1.cell (lt_of_cell c0)] at c0
      have T0 : wr.cell? ⟨w.heap.size, 0, none⟩ = some (.string nm) := HR.out.2.1.cell 0 (by simp)
      have T1 : wr.cell? ⟨w.heap.size, 1, none⟩ = some (.slice a1 n1 p1) := HR.out.2.1.cell 1 (by simp)
      have T2 : wr.cell? ⟨w.heap.size, 2, none⟩ = some (.slice a2 n2 p2) := HR.out.2.1.cell 2 (by simp)
      have T3 : wr.cell? ⟨w.heap.size, 3, none⟩ = some (.slice a3 n3 p3) := HR.out.2.1.cell 3 (by simp)
      have T4 : wr.cell? ⟨w.heap.size, 4, none⟩ = some (.slice a4 n4 p4) := HR.out.2.1.cell 4 (by simp)
      have hdr := (Below.refl wr.heap.size wr).drew
      have HCL := (show Hid _ from HS.out j hlt' wr.drew HR.out.1.drew)
      have htk : sc ((items.take (j + 1)).map say) = sc ((items.take j).map say) ++ [.string (say items[j])] := by
        rw [← List.take_append_getElem hlt', List.map_append, sc_append]; rfl
      have HTK := (show Hid _ from htk); clear htk
      generalize items[j] = it at *
      generalize say it = tx at *
      go_wp2_with fail
      go_region_law (first
        | (refine step_append_lies _ rfl (.tmp 14) (.tmp 21) 47 rfl (w.heap.size + 1) 9 i9 _ 1 16 Tryz.underlying47 hi9 hz0 hz1 hz2 rfl (by decide) _ j _ (by simp [Act.eval, Act.put]) HO2.out ⟨w1.heap.size, 0, none⟩ 1 1 [.string tx] (by simp [Act.eval, Act.put]) rfl (cell_one_box _ _ _) (by intro u hu; simp at hu; subst hu; rfl) (by decide) (by unfold maxLen; omega) (by omega) (by simp; omega) _ rfl ?_; intro g3 cap3 w3 hown3 hgr3 hat3 hlt3)
        | (go_simp; go_at_call 72; refine Calls.mono HCL.out ?_; rintro e w1 ⟨rfl, hb1⟩; have hbA := hdr.trans (hb1.mono (Nat.le_refl _)); have hs1 : wr.heap.size ≤ w1.heap.size := hbA.size; have HO2 := (show Hid _ from own_still (own_still HR.out.2.2 hbA) (bel_alloc w1 (.cells #[.string tx] 9)))))
      all_goals
        have hgB : Below wr.heap.size wr (w1.alloc (.cells #[.string tx] 9)) := bel_trans hbA (bel_alloc _ _)
        have hb3 : Below w.heap.size w w3 := ((bel_trans HR.out.1 hgB).grown hgr3 (by simp; omega) (fun q hq => by
          have := (World.ownsRow.lt HR.out.2.2 q hq).1
          omega))
        have hx3 : Box w3 w.heap.size 36 [.string nm, .slice a1 n1 p1, .slice a2 n2 p2, .slice a3 n3 p3, .slice a4 n4 p4] := (Box.still HR.out.2.1 hgB).keep (hgr3.block _ (by simp; omega) (fun e => by have := (World.ownsRow.lt HR.out.2.2 _ e.symm).1; omega))
        rw [← HTK.out] at hown3
        have HN := (show Hid _ from (⟨hb3, hx3, hown3⟩ : _ ∧ _ ∧ _))
        clear hb3 hx3 hown3 hgr3 hat3 T0 T1 T2 T3 T4 c0 HO2
        go_wp2_with fail
        exact ⟨⟨j + 1, _, _, by rfl, by go_num, by omega, HN⟩, by simp [intOf]; omega⟩
    · have : j = items.length := by omega
      subst this
      have HN := (show Hid (Below w.heap.size w wr ∧ wr.ownsRow w.heap.size 9 1 (.slice (some ⟨g', 0, none⟩) items.length c') items.length (sc (items.map say))) from ⟨HR.out.1, by
        have h := HR.out.2.2
        rw [List.take_length] at h
        refine ⟨h.1, ?_⟩
        rcases h.2 with e | ⟨g, cap', cur, e, hB, rest⟩
        · exact .inl e
        · exact .inr ⟨g, cap', cur, e, by omega, rest⟩⟩)
      go_wp2_with fail
      go_ret
      exact ⟨_, _, rfl, HN.out⟩
end Go.Proofs.YtgjnlhidbjpdkajGreat
