import Derived.Test.YthmdoplickpmaaiRxS
import Derived.Deep.WholeRow
import Derived.Great.BuildSlice
import Derived.Deep.RegionLaw
namespace Go.Proofs.Ythmdoplickpmaai
open Go.RowKit Go.Deep Go.Lib
set_option linter.unusedVariables false
set_option maxRecDepth 100000
set_option linter.unusedSimpArgs false

/-- The cells of a node: its kind, its set, its kids. -/
def nd (k : Int) (u : Value) : Array Value := (.int .i64 k :: (List.replicate 256 (.bool false) ++ [u])).toArray
theorem info113 : (Try.prog.info? 113).map (fun i => (i.zero, i.size, i.bytes)) = some (some (.agg (nd 0 (.slice none 0 0))), 258, 288) := by kernel_rfl
theorem size113 : (Try.prog.info? 113).map (·.size) = some 258 := by kernel_rfl
theorem step_load_row {P : Program} {ops : Array Oper} {o : Oper} {a : Act} {w : World} {K : Act → World → Prop} {Q : Exit → Act → World → Prop} {E : Prop} (hgd : o.guard = none) (ty : TypeId) (x : Operand) (ho : o.op = .load ty x)
    (g : Nat) (hx : a.eval x = .pointer (some ⟨g, 0, none⟩)) (t : TypeId) (cs : Array Value) (fr : Nat × Nat) (d : TypeDesc) (hg : w.heap[g]? = some (.cells cs t fr))
    (hu : P.underlying ty = some d) (hd : (match d with | .struct _ | .array _ _ => true | _ => false) = true) (hi : (P.info? ty).map (·.size) = some cs.size)
    (h : K (a.put o.dst (.agg cs)) w) : if Region.wanted o (yielded ops a.tmps) = true then Oper.wp P o a w K Q else E := by
  have hw : Region.wanted o (yielded ops a.tmps) = true := by simp [Region.wanted, hgd]
  rw [if_pos hw]
  exact wp_load_row ty x ho g hx t cs fr d hg hu hd hi h
theorem fill_one {z cs : Array Value} {n : Nat} (hn : 0 < n) (hz : z.size = n) (hcs : cs.size = n) : Instr.fill (fun i => some (i * n, n)) z [(0, .agg cs)] = some cs := by
  obtain ⟨r, h1, h2, h3⟩ := Great.fill_dense hn [.agg cs] 0 z (by intro v hv; simp at hv; subst hv; exact hcs) (by simp; omega)
  have e : ([Value.agg cs].zipIdx 0).map (fun x => (x.2, x.1)) = [(0, .agg cs)] := rfl
  rw [e] at h1
  rw [h1]
  congr 1
  apply Array.ext_getElem?
  intro k
  rw [h3 k]
  by_cases hk : k < n
  · rw [if_pos (by simp; omega)]
    have hd : k / n = 0 := Nat.div_eq_of_lt hk
    have hm : k % n = k := Nat.mod_eq_of_lt hk
    simp [hd, hm, Value.cells]
  · rw [if_neg (by simp; omega), Array.getElem?_eq_none (by omega), Array.getElem?_eq_none (by omega)]
theorem step_box {P : Program} {ops : Array Oper} {o : Oper} {a : Act} {w : World} {K : Act → World → Prop} {Q : Exit → Act → World → Prop} {E : Prop} (hgd : o.guard = none) (t e : TypeId) (x : Operand) (ho : o.op = .buildSlice t 1 #[(0, x)])
    (cs : Array Value) (ie : TypeInfo) (z : Array Value) (n : Nat) (hx : a.eval x = .agg cs) (hu : P.underlying t = some (.slice e)) (hie : P.info? e = some ie) (hz : ie.zero = some (.agg z)) (hsz : ie.size = n) (hn : 0 < n) (hn2 : n ≤ 1000) (hzn : z.size = n) (hcs : cs.size = n)
    (h : K (a.put o.dst (.slice (some ⟨w.heap.size, 0, none⟩) 1 1)) (w.alloc (.cells cs e))) : if Region.wanted o (yielded ops a.tmps) = true then Oper.wp P o a w K Q else E := by
  have hw : Region.wanted o (yielded ops a.tmps) = true := by simp [Region.wanted, hgd]
  rw [if_pos hw]
  subst hsz
  refine wp_buildSlice t e 1 #[(0, x)] ho cs ie (.agg z) hu hie hz (by omega) (by omega) ?_ h
  have e1 : (#[(0, x)].map fun (x : Nat × Operand) => (x.1, a.eval x.2)).toList = [(0, .agg cs)] := by simp [hx]
  rw [e1]
  refine fill_one hn ?_ hcs
  simp

set_option maxHeartbeats 1600000 in
theorem put_any {p n : Nat} {s : ByteArray} {z b : Int} {g : Option Nat} (cs : Array Value) (hcs : cs.size = 258) (h1 : ∀ u ∈ cs.toList, u.oneCell' = true) (w : World) (h : Rdx w p s z b n g) (hn : n ≤ 100000) :
    Calls Try.prog 57 #[.pointer (some ⟨p, 0, none⟩), .agg cs] w fun e w' => e = .returned (.int .i64 n) ∧ ∃ g', Rdx w' p s z b (n + 1) g' ∧ Mv p g w g' w' := by
  obtain ⟨i113, hi113, hzz⟩ := Option.map_eq_some_iff.1 info113
  simp only [Prod.mk.injEq] at hzz
  obtain ⟨hz0, hz1, hz2⟩ := hzz
  have hzs : (nd 0 (.slice none 0 0)).size = 258 := rfl
  have hlt := h.lt
  obtain ⟨f, xs, r1, r2, r3, r4, r5, r6, r7, r8⟩ := h
  have hb := bel_alloc w (.cells cs 113)
  have hblk := blk_alloc_new w (.cells cs 113)
  have c3 : (w.alloc (.cells cs 113)).cell? ⟨p, 3, none⟩ = some (f 3) := (r1.alloc _).cell (by omega)
  have hO := own_of (w' := w.alloc (.cells cs 113)) r6 (fun k hk => hb.block k (ownlt r6 hk))
  have HF := (show Hid _ from (⟨r1.alloc (.cells cs 113), r2, r3, r4, r5, hO, hb⟩ : _ ∧ _ ∧ _ ∧ _ ∧ _ ∧ _ ∧ _)); clear r1 r2 r3 r4 r6 hb hO
  go_enter Try.func57, Try.ntmps57
  go_wp2_with fail
  have hpz : p < (w.alloc (.cells cs 113)).heap.size := by have := hlt.1; simp; omega
  have hgz : ∀ k, g = some k → k < (w.alloc (.cells cs 113)).heap.size ∧ k ≠ p := fun k hk => ⟨by have := (hlt.2.1 k hk).1; simp; omega, (hlt.2.1 k hk).2⟩
  have HM : Hid (Mv p g w g (w.alloc (.cells cs 113))) := Mv.bel (bel_alloc _ _)
  clear hlt
  generalize w.heap.size = B at *
  generalize w.alloc (.cells cs 113) = W at *
  have hblkD : W.drew.heap[B]? = some (.cells cs 113 (0, 0)) := hblk
  have c3D : (W.drew.alloc (.cells cs 113)).cell? ⟨p, 3, none⟩ = some (f 3) := (World.rowIs.alloc (World.rowIs.drew HF.out.1) _).cell (by omega)
  have y3 : W.frozen? ⟨p, 3, none⟩ = false := HF.out.1.frozen 3
  have HOW : Hid ((W.drew.alloc (.cells cs 113)).ownsRow 0 113 258 (f 3) n xs) := own_of (w := W) HF.out.2.2.2.2.2.1 (fun k hk => blk_alloc_lt W.drew _ k (ownlt HF.out.2.2.2.2.2.1 hk))
  have HNB := (show Hid _ from World.news_of_block (blk_alloc_new W.drew (.cells cs 113)))
  have H1 := (show Hid _ from h1); clear h1
  have hlen : cs.toList.length = 258 := by simpa using hcs
  have hsz : (W.alloc (.cells cs 113)).heap.size = W.heap.size + 1 := World.size_alloc _ _
  have HZ := (show Hid _ from hsz); clear hsz
  refine wp_region_any (by kernel_rfl) ?_
  change wpAny _ _ _ _ _ _ _ (World.drew _)
  refine wpAny_take (i := 0) (v := (.pointer (some ⟨p, 0, none⟩))) rfl (by kernel_rfl) (by kernel_rfl) (by kernel_rfl) (fun _ _ _ h => h) (Or.inl ⟨by rfl, by intro w; go_simp⟩) ?_
  refine wpAny_take (i := 1) (v := (.pointer (some ⟨p, 0, none⟩))) rfl (by kernel_rfl) (by kernel_rfl) (by kernel_rfl) (fun _ _ _ h => h) (Or.inl ⟨by rfl, by intro w; go_simp⟩) ?_
  refine wpAny_take (i := 2) (v := (.pointer (some ⟨p, 0, none⟩))) rfl (by kernel_rfl) (by kernel_rfl) (by kernel_rfl) (fun _ _ _ h => h) (Or.inl ⟨by rfl, by intro w; go_simp⟩) ?_
  refine wpAny_take (i := 3) (v := (.pointer (some ⟨p, 3, none⟩))) rfl (by kernel_rfl) (by kernel_rfl) (by kernel_rfl) (fun _ _ _ h => h) (Or.inl ⟨by rfl, by intro w; go_simp⟩) ?_
  refine wpAny_ready (rs := [4, 5]) (by kernel_rfl) (by simp) ?_
  refine AllReady.cons rfl (fun K hK => ?_) (AllReady.cons rfl (fun K hK => ?_) AllReady.nil)
  case' refine_1 =>
    go_simp
    refine hK _ _ ?_
    clear hK K
    refine wpAny_ready (rs := [5]) (by kernel_rfl) (by simp) ?_
    refine AllReady.cons rfl (fun K hK => ?_) AllReady.nil
    refine step_load_row rfl 113 (.tmp 3) rfl B (by simp [Act.eval, Act.put]) 113 cs (0, 0) _ hblkD Try.underlying113 rfl (by rw [hcs]; exact size113) ?_
    refine hK _ _ ?_
    clear hK K
    refine wpAny_ready (rs := [6]) (by kernel_rfl) (by simp) ?_
    refine AllReady.cons rfl (fun K hK => ?_) AllReady.nil
    refine step_box rfl 67 113 (.tmp 10) rfl cs i113 _ 258 (by simp [Act.eval, Act.put]) Try.underlying67 hi113 hz0 hz1 (by decide) (by decide) hzs hcs ?_
    refine hK _ _ ?_
    clear hK K
  case' refine_2 =>
    refine step_load_row rfl 113 (.tmp 3) rfl B (by simp [Act.eval, Act.put]) 113 cs (0, 0) _ hblkD Try.underlying113 rfl (by rw [hcs]; exact size113) ?_
    refine hK _ _ ?_
    clear hK K
    refine wpAny_ready (rs := [4, 6]) (by kernel_rfl) (by simp) ?_
    refine AllReady.cons rfl (fun K hK => ?_) (AllReady.cons rfl (fun K hK => ?_) AllReady.nil)
  case' refine_2.refine_1 =>
    go_simp
    refine hK _ _ ?_
    clear hK K
    refine wpAny_ready (rs := [6]) (by kernel_rfl) (by simp) ?_
    refine AllReady.cons rfl (fun K hK => ?_) AllReady.nil
    refine step_box rfl 67 113 (.tmp 10) rfl cs i113 _ 258 (by simp [Act.eval, Act.put]) Try.underlying67 hi113 hz0 hz1 (by decide) (by decide) hzs hcs ?_
    refine hK _ _ ?_
    clear hK K
  case' refine_2.refine_2 =>
    refine step_box rfl 67 113 (.tmp 10) rfl cs i113 _ 258 (by simp [Act.eval, Act.put]) Try.underlying67 hi113 hz0 hz1 (by decide) (by decide) hzs hcs ?_
    refine hK _ _ ?_
    clear hK K
    refine wpAny_ready (rs := [4]) (by kernel_rfl) (by simp) ?_
    refine AllReady.cons rfl (fun K hK => ?_) AllReady.nil
    go_simp
    refine hK _ _ ?_
    clear hK K
  all_goals
    refine wpAny_ready (rs := [7]) (by kernel_rfl) (by simp) ?_
    refine AllReady.cons rfl (fun K hK => ?_) AllReady.nil
    refine step_append_lies _ rfl (.tmp 9) (.tmp 11) 67 rfl 0 113 i113 _ 258 288 Try.underlying67 hi113 hz0 hz1 hz2 hzs (by decide) (f 3) n xs (by simp [Act.eval, Act.put]) HOW.out ⟨W.drew.heap.size, 0, none⟩ 1 1 cs.toList (by simp [Act.eval, Act.put]) (by rw [hlen]) HNB.out H1.out (by decide) (by unfold maxLen; omega) (by omega) (Nat.zero_le _) _ rfl ?_
    intro g3 cap3 w3 hown3 hgr3 hat3 hlt3
    refine hK _ _ ?_
    clear hK K
    have hr3 : w3.rowIs p 91 4 f := World.rowIs.of_block (World.rowIs.alloc (World.rowIs.drew HF.out.1) _) (hgr3.block p (Nat.lt_of_lt_of_eq (Nat.lt_succ_of_lt hpz) HZ.out.symm) (fun e => by rw [r5] at e; exact r7 e.symm))
    have hr4 := hr3.set 3 (.slice (some ⟨g3, 0, none⟩) (n + 1) cap3)
    have hs3 : W.heap.size + 1 ≤ w3.heap.size := Nat.le_trans (Nat.le_of_eq HZ.out.symm) hgr3.size
    have hat' : g = some g3 ∨ g3 = W.heap.size + 1 := by
      rcases hat3 with e | e
      · exact .inl (by rw [← r5, e])
      · exact .inr (e.trans HZ.out)
    have hg3p : g3 ≠ p := by
      rcases hat' with e | e
      · exact (hgz g3 e).2
      · omega
    have c3E : w3.cell? ⟨p, 3, none⟩ = some (f 3) := hr3.cell (by omega)
    have y3E := hr3.frozen 3
    have hN : Rdx (w3.setCell ⟨p, 3, none⟩ (.slice (some ⟨g3, 0, none⟩) (n + 1) cap3)) p s z b (n + 1) (some g3) := by
      refine ⟨_, xs ++ cs.toList, hr4, by rw [if_neg (by omega)]; exact HF.out.2.1, by rw [if_neg (by omega)]; exact HF.out.2.2.1, by rw [if_neg (by omega)]; exact HF.out.2.2.2.1, by rw [if_pos rfl]; rfl, ?_, by intro e; cases e; exact hg3p rfl, r8⟩
      rw [if_pos rfl]
      exact own_of hown3 (fun k hk => blk_setCell_other _ _ _ _ (by show k ≠ p; cases hk; exact hg3p))
    have hV : Mv p g W (some g3) (w3.setCell ⟨p, 3, none⟩ (.slice (some ⟨g3, 0, none⟩) (n + 1) cap3)) := by
      refine ⟨⟨hgr3.os, hgr3.tape, hgr3.output, by simp; omega, fun k hk k1 k2 => (blk_setCell_other _ _ _ _ (by exact k1)).trans ((hgr3.block k (Nat.lt_of_lt_of_eq (Nat.lt_succ_of_lt hk) HZ.out.symm) (fun e => by rw [r5] at e; exact k2 e.symm)).trans (blk_alloc_lt W.drew _ _ hk))⟩, ?_⟩
      rcases hat' with e | e
      · exact .inl e.symm
      · exact .inr ⟨g3, rfl, by omega⟩
    have HN := (show Hid _ from (⟨hN, hV⟩ : _ ∧ _)); clear hN hV hr3 hr4 hown3 hgr3 hat3 hat' hs3
    refine wpAny_take (i := 8) (v := (.pointer (some ⟨p, 0, none⟩))) rfl (by kernel_rfl) (by kernel_rfl) (by kernel_rfl) (fun _ _ _ h => h) (Or.inl ⟨by rfl, by intro w; go_simp⟩) ?_
    refine wpAny_take (i := 9) (v := (.pointer (some ⟨p, 3, none⟩))) rfl (by kernel_rfl) (by kernel_rfl) (by kernel_rfl) (fun _ _ _ h => h) (Or.inl ⟨by rfl, by intro w; go_simp⟩) ?_
    refine wpAny_ready (rs := [10]) (by kernel_rfl) (by simp) ?_
    refine AllReady.cons rfl (fun K hK => ?_) AllReady.nil
    go_simp
    refine hK _ _ ?_
    clear hK K
    refine wpAny_done (by kernel_rfl) ?_ _
    go_wp2_with fail
    go_ret
    exact ⟨by go_num, some g3, HN.out.1, HM.out.trans HN.out.2⟩
end Go.Proofs.Ythmdoplickpmaai
