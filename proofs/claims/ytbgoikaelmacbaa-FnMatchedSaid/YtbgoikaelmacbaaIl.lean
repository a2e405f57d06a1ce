import Derived.Test.YtbgoikaelmacbaaRy
import Derived.Test.YtbgoikaelmacbaaIp
/-! The program: Places. -/
namespace Go.Proofs.Ytbgoikaelmacbaa
open Go.RowKit Go.Deep Go.Shelf
set_option linter.unusedVariables false
set_option maxRecDepth 100000
set_option linter.unusedSimpArgs false
attribute [local go_sem] Oper.semAt_some

theorem allP83 {l B0 n0 N : Nat} (hl0 : l < B0) (hn0 : n0 ≤ l) (T : World → Nat → Prop) (J : List Yp → World → Prop) (hJb : BearsT B0 T J) (hTl : ∀ s W q, J s W → T W q → n0 ≤ q ∧ q < W.heap.size ∧ q ≠ l)
    (hY : ∀ m pre x W1, J pre W1 → YpX T n0 B0 N pre x W1 → YieldAt Fence.wide m Try.prog l (ypE x) W1 fun e W' => e = .returned (.bool true) ∧ J (pre ++ [x]) W' ∧ Fy T l W1 W') (p : Tr) (m : Nat) (v : Value) (bp : Nat) (W : World)
    (hl : Lies W (fun q => q < n0) p v) (hb : Box W bp 26 [.string p.name, .string p.text, .bool p.leaf, v]) (hJ : J [] W) (hB : B0 ≤ W.heap.size) (hk : p.cnt ≤ 1000000) (hN : p.cnt ≤ N) :
    CallsIn Fence.wide m Try.prog 57 #[.func (.yield l) #[] #[], .pointer (some ⟨bp, 0, none⟩)] W fun e W' => (∃ u, e = .returned u) ∧ ∃ ys : List Yp, ys.map (fun y => y.1.1) = ps p [] ∧ J ys W' := by
  have HCL := (show Hid _ from (callsIn_wide (n := m)).1 (tellP84 hl0 hn0 T J hJb hTl hY p m v (.slice none 0 0) [] [] W hl hJ hB (own_nil _ _ _ _) (fun q e => by cases e) (by simp; omega) (by simp; omega)))
  obtain ⟨a, c, d, rfl⟩ := hl.form
  have c0 : W.cell? ⟨bp, 0, none⟩ = some (.string p.name) := hb.cell 0 (by simp)
  have c1 : W.cell? ⟨bp, 1, none⟩ = some (.string p.text) := hb.cell 1 (by simp)
  have c2 : W.cell? ⟨bp, 2, none⟩ = some (.bool p.leaf) := hb.cell 2 (by simp)
  have c3 : W.cell? ⟨bp, 3, none⟩ = some (.slice a c d) := hb.cell 3 (by simp)
  simp only [Tr.val] at HCL
  generalize p.name = n0 at *
  generalize p.text = x0 at *
  generalize p.leaf = l0 at *
  clear hb hl hJ hY
  refine callsIn_of_wp Try.func57 rfl trivial ?_ rfl
  simp only [Try.ntmps57, List.size_toArray, List.length_cons, List.length_nil, Nat.reduceAdd, Nat.reduceSub, Array.replicate_succ, Array.replicate_zero, List.push_toArray, List.append_toArray, List.nil_append, List.cons_append]
  refine wpIn_wide.2 ?_
  go_wp2_with fail
  refine Calls.mono HCL.out ?_
  rintro e W' ⟨rfl, ys, e1, e2, e3, e4⟩
  have HE := (show Hid (J ys W') from (by show J ys W'; simpa using e2))
  clear e2 e3 e4 HCL
  go_wp2_with fail
  go_end0
  exact ⟨⟨_, rfl⟩, ys, e1, HE.out⟩
/-- What Places leaves. -/
def IlA (p t : Tr) (w : World) (e : Ending) (w' : World) : Prop :=
  ∃ (va : Option Addr) (vc B : Nat) (vs : Nat → Value), e = .returned (.tuple #[.slice va (plR p t).1.length vc, .int .i64 (plR p t).2]) ∧ Below w.heap.size w w' ∧ w.heap.size ≤ B ∧ RRv w' B (plR p t).1 (.slice va (plR p t).1.length vc) vs
theorem info86s : (Try.prog.info? 40).map (fun i => (i.zero, i.size, i.bytes)) = some (some (.slice none 0 0), 1, 24) := by kernel_rfl
set_option maxHeartbeats 3200000 in
theorem iPlaces22 {S S' : Nat → Prop} (p t : Tr) (pv tv : Value) (w : World) (hp : Lies w S p pv) (ht : Lies w S' t tv) :
    Calls Try.prog 11 #[p.val pv, t.val tv] w (IlA p t w) := by
  have hp0 : Lies w (fun q => q < w.heap.size) p pv := (hp.lt).mono (fun q hq => hq.2)
  have ht0 : Lies w (fun q => q < w.heap.size) t tv := (ht.lt).mono (fun q hq => hq.2)
  obtain ⟨pa, pl, pc, rfl⟩ := hp.form
  obtain ⟨ta, tl, tc, rfl⟩ := ht.form
  clear hp ht
  have HPT := (show Hid (∀ wq : World, Below w.heap.size w wq → Calls Try.prog 24 #[p.val (.slice pa pl pc)] wq fun e w' => e = .returned (.bool (patB p)) ∧ Below wq.heap.size wq w') from fun wq h => ipat37 p _ wq (hp0.still h))
  have HOK := (show Hid (∀ wq : World, Below w.heap.size w wq → Calls Try.prog 25 #[t.val (.slice ta tl tc)] wq fun e w' => e = .returned (.bool t.ok) ∧ Below wq.heap.size wq w') from fun wq h => iOK_any t _ wq (ht0.still h))
  have HMD := (show Hid (∀ (u : Tr) (v : Value) (wq : World), p.cnt ≤ 1000 → Lies wq (fun _ => True) p (.slice pa pl pc) → Lies wq (fun _ => True) u v → Calls Try.prog 26 #[p.val (.slice pa pl pc), u.val v] wq (MdA (mtT p u []) wq)) from fun u v wq h h1 h2 => matched39 p u _ v wq h1 h2 (by omega))
  have HCN := (show Hid (patB p = true → p.cnt ≤ 1000) from fun h => by
    unfold patB at h
    rw [Bool.and_eq_true] at h
    exact ok_cnt h.1)
  have HTN := (show Hid (t.ok = true → t.cnt ≤ 1000) from fun h => ok_cnt h)
  have HR0 := (show Hid (patB p = false ∨ t.ok = false → plR p t = ([], 1)) from fun h => by
    unfold plR
    rw [if_neg]
    rcases h with h | h <;> simp [h])
  have HR1 := (show Hid (patB p = true → t.ok = true → plR p t = (plT p t [], 0)) from fun h h' => by
    unfold plR
    rw [if_pos (by rw [h, h']; rfl)])
  have HNO := (show Hid (∀ w' : World, plR p t = ([], 1) → Below w.heap.size w w' → IlA p t w (.returned (.tuple #[.slice none 0 0, .int .i64 1])) w') from fun w' h h' => ⟨none, 0, w.heap.size, fun _ => .slice none 0 0, by rw [h]; rfl, h', Nat.le_refl _, by rw [h]; exact RRv.nil _ _⟩)
  have HLP := (show Hid (Lies w (fun q => q < w.heap.size) p (.slice pa pl pc)) from hp0)
  have HLT := (show Hid (Lies w (fun q => q < w.heap.size) t (.slice ta tl tc)) from ht0)
  have HAN := (show Hid (∀ wq : World, Below (w.heap.size + 2) ((w.alloc (.cells #[.string p.name, .string p.text, .bool p.leaf, .slice pa pl pc] 26)).alloc (.cells #[.string t.name, .string t.text, .bool t.leaf, .slice ta tl tc] 26)) wq → Below w.heap.size w wq ∧ Box wq w.heap.size 26 [.string p.name, .string p.text, .bool p.leaf, .slice pa pl pc] ∧ Box wq (w.heap.size + 1) 26 [.string t.name, .string t.text, .bool t.leaf, .slice ta tl tc] ∧ w.heap.size + 2 ≤ wq.heap.size) from fun wq h => by
    have h1 : Below w.heap.size w ((w.alloc (.cells #[.string p.name, .string p.text, .bool p.leaf, .slice pa pl pc] 26)).alloc (.cells #[.string t.name, .string t.text, .bool t.leaf, .slice ta tl tc] 26)) := (bel_alloc _ _).alloc (by simp) _
    refine ⟨h1.trans (h.mono (by omega)), ?_, ?_, by have := h.size; simpa using this⟩
    · exact ((Box.new w 26 _).still (bel_alloc _ _)).keep (h.block _ (by omega))
    · have h2 := Box.new (w.alloc (.cells #[.string p.name, .string p.text, .bool p.leaf, .slice pa pl pc] 26)) 26 [.string t.name, .string t.text, .bool t.leaf, .slice ta tl tc]
      rw [show (w.alloc (.cells #[.string p.name, .string p.text, .bool p.leaf, .slice pa pl pc] 26)).heap.size = w.heap.size + 1 from by simp] at h2
      exact h2.keep (h.block _ (by omega)))
  have HP0 := (show Hid _ from HPT.out _ (HAN.out _ (Below.refl _ _)).1)
  have hz2 : ((w.alloc (.cells #[.string p.name, .string p.text, .bool p.leaf, .slice pa pl pc] 26)).alloc (.cells #[.string t.name, .string t.text, .bool t.leaf, .slice ta tl tc] 26)).heap.size = w.heap.size + 2 := by simp
  rw [hz2] at HP0
  clear hz2 HPT hp0 ht0
  simp only [Tr.val] at HP0 HOK HMD ⊢
  have HPB := (show Hid (∀ W : World, Box W w.heap.size 26 [.string p.name, .string p.text, .bool p.leaf, .slice pa pl pc] → W.cell? ⟨w.heap.size, 0, none⟩ = some (.string p.name) ∧ W.cell? ⟨w.heap.size, 1, none⟩ = some (.string p.text) ∧ W.cell? ⟨w.heap.size, 2, none⟩ = some (.bool p.leaf) ∧ W.cell? ⟨w.heap.size, 3, none⟩ = some (.slice pa pl pc)) from fun W h => ⟨h.cell 0 (by simp), h.cell 1 (by simp), h.cell 2 (by simp), h.cell 3 (by simp)⟩)
  have HT83 := (show Hid (∀ (J : List Yp → World → Prop) (l B0 : Nat) (bp : Nat) (pb : Nat), l < B0 → w.heap.size ≤ l → BearsT B0 (TP pb) J → (∀ s W q, J s W → TP pb W q → w.heap.size ≤ q ∧ q < W.heap.size ∧ q ≠ l) → (∀ m pre x W1, J pre W1 → YpX (TP pb) w.heap.size B0 1000 pre x W1 → YieldAt Fence.wide m Try.prog l (ypE x) W1 fun e W' => e = .returned (.bool true) ∧ J (pre ++ [x]) W' ∧ Fy (TP pb) l W1 W') → ∀ (m : Nat) (W : World), Below w.heap.size w W → Box W bp 26 [.string t.name, .string t.text, .bool t.leaf, .slice ta tl tc] → J [] W → B0 ≤ W.heap.size → t.cnt ≤ 1000 → CallsIn Fence.wide m Try.prog 57 #[.func (.yield l) #[] #[], .pointer (some ⟨bp, 0, none⟩)] W fun e W' => (∃ u, e = .returned u) ∧ ∃ ys : List Yp, ys.map (fun y => y.1.1) = ps t [] ∧ J ys W') from fun J l B0 bp pb h1 h2 h3 h4 h5 m W h6 h7 h8 h9 h10 => allP83 h1 h2 (TP pb) J h3 h4 h5 t m _ bp W (HLT.out.keep (fun q hq => h6.block q hq)) h7 h8 h9 (by omega) h10)
  refine (callsIn_wide (n := 5)).1 ?_
  refine callsIn_of_wp_marks Try.func11 rfl trivial ?_ rfl
  simp only [Try.ntmps11, List.size_toArray, List.length_cons, List.length_nil, Nat.reduceAdd, Nat.reduceSub, Array.replicate_succ, Array.replicate_zero, List.push_toArray, List.append_toArray, List.nil_append, List.cons_append]
  refine wpIn_wide.2 ?_
  generalize hp_0 : p.name = p0 at *
  generalize hp_1 : p.text = p1 at *
  generalize hp_2 : p.leaf = p2 at *
  generalize ht_0 : t.name = t0 at *
  generalize ht_1 : t.text = t1 at *
  generalize ht_2 : t.leaf = t2 at *
  clear hp_0 hp_1 hp_2 ht_0 ht_1 ht_2
  cases hpb : patB p
  · rw [hpb] at HP0
    have HF := (show Hid _ from HR0.out (.inl hpb))
    clear hpb HR0 HR1 HCN HTN HMD HOK HT83 HPB
    go_wp2_with fail
    refine Calls.mono HP0.out ?_
    rintro e w1 ⟨rfl, hb1⟩
    have HB1 := (show Hid _ from (HAN.out w1 hb1).1)
    clear hb1 HP0 HAN
    go_wp2_with fail
    refine ⟨.tuple #[.slice none 0 0, .int .i64 1], by simp [results, Try.results11, go_sem], HNO.out w1 HF.out HB1.out⟩
  rw [hpb] at HP0
  have hpc := HCN.out hpb
  go_wp2_with fail
  refine Calls.mono HP0.out ?_
  rintro e w1 ⟨rfl, hb1⟩
  have HB1 := (show Hid (Below (w.heap.size + 2) ((w.alloc (.cells #[.string p0, .string p1, .bool p2, .slice pa pl pc] 26)).alloc (.cells #[.string t0, .string t1, .bool t2, .slice ta tl tc] 26)) w1) from hb1)
  obtain ⟨hbw, _, bx2, hz1⟩ := HAN.out w1 hb1
  have r0 : w1.cell? ⟨w.heap.size + 1, 0, none⟩ = some (.string t0) := bx2.cell 0 (by simp)
  have r1 : w1.cell? ⟨w.heap.size + 1, 1, none⟩ = some (.string t1) := bx2.cell 1 (by simp)
  have r2 : w1.cell? ⟨w.heap.size + 1, 2, none⟩ = some (.bool t2) := bx2.cell 2 (by simp)
  have r3 : w1.cell? ⟨w.heap.size + 1, 3, none⟩ = some (.slice ta tl tc) := bx2.cell 3 (by simp)
  have C2 := (show Hid _ from HOK.out w1 hbw)
  clear hb1 HP0 hbw bx2
  cases hok : t.ok
  · rw [hok] at C2
    have HF := (show Hid _ from HR0.out (.inr hok))
    clear hpb hok HR0 HR1 HCN HTN HMD HOK HT83 HPB
    go_wp2_with fail
    refine Calls.mono C2.out ?_
    rintro e w2 ⟨rfl, hb2⟩
    have HB2 := (show Hid (Below w.heap.size w w2) from (HAN.out w2 (HB1.out.trans (hb2.mono hz1))).1)
    clear hb2 C2
    go_wp2_with fail
    refine ⟨.tuple #[.slice none 0 0, .int .i64 1], by simp [results, Try.results11, go_sem], HNO.out w2 HF.out HB2.out⟩
  rw [hok] at C2
  have htc := HTN.out hok
  have HF := (show Hid _ from HR1.out hpb hok)
  clear hpb hok HR0 HR1 HCN HTN
  go_wp2_with fail
  refine Calls.mono C2.out ?_
  rintro e w2 ⟨rfl, hb2⟩
  have HB2 := (show Hid (Below (w.heap.size + 2) ((w.alloc (.cells #[.string p0, .string p1, .bool p2, .slice pa pl pc] 26)).alloc (.cells #[.string t0, .string t1, .bool t2, .slice ta tl tc] 26)) (w2.alloc (.cells #[.slice none 0 0] 35))) from (HB1.out.trans (hb2.mono hz1)).alloc (by have := hb2.size; omega) _)
  obtain ⟨hbw, bx1, bx2, hz2⟩ := HAN.out _ HB2.out
  clear r0 r1 r2 r3
  have r0 : (w2.alloc (.cells #[.slice none 0 0] 35)).cell? ⟨w.heap.size + 1, 0, none⟩ = some (.string t0) := bx2.cell 0 (by simp)
  have r1 : (w2.alloc (.cells #[.slice none 0 0] 35)).cell? ⟨w.heap.size + 1, 1, none⟩ = some (.string t1) := bx2.cell 1 (by simp)
  have r2 : (w2.alloc (.cells #[.slice none 0 0] 35)).cell? ⟨w.heap.size + 1, 2, none⟩ = some (.bool t2) := bx2.cell 2 (by simp)
  have r3 : (w2.alloc (.cells #[.slice none 0 0] 35)).cell? ⟨w.heap.size + 1, 3, none⟩ = some (.slice ta tl tc) := bx2.cell 3 (by simp)
  have HSP := (show Hid ((w2.alloc (.cells #[.slice none 0 0] 35)).heap.size = w2.heap.size + 1) from (by show _ = _; simp))
  have HW2 := (show Hid (w.heap.size + 2 ≤ w2.heap.size) from (by show _ ≤ _; have := hb2.size; omega))
  have HPX := (show Hid (Box (w2.alloc (.cells #[.slice none 0 0] 35)) w2.heap.size 35 [.slice none 0 0]) from Box.new w2 35 _)
  clear hb2 C2 bx1 bx2 HB1 hz1
  go_wp2_with fail
  refine Calls.mono (tin56 _ _ _ _ _ _ _) ?_
  rintro e w3 ⟨rfl, hw3⟩
  have HBV := (show Hid (Below (w2.alloc (.cells #[.slice none 0 0] 35)).heap.size (w2.alloc (.cells #[.slice none 0 0] 35)) w3) from (by rw [hw3]; exact bel_alloc _ _))
  have HZV := (show Hid (w3.heap.size = w2.heap.size + 2) from (by show w3.heap.size = w2.heap.size + 2; rw [hw3]; simp))
  have HXV := (show Hid (Box w3 (w2.heap.size + 1) 26 [.string t0, .string t1, .bool t2, .slice ta tl tc]) from (by
    have h := Box.new (w2.alloc (.cells #[.slice none 0 0] 35)) 26 [.string t0, .string t1, .bool t2, .slice ta tl tc]
    rw [HSP.out] at h
    rw [hw3]
    exact h))
  have HPX3 := (show Hid (Box w3 w2.heap.size 35 [.slice none 0 0]) from HPX.out.still HBV.out)
  have HB3 := (show Hid (Below w.heap.size w w3 ∧ Box w3 w.heap.size 26 [.string p0, .string p1, .bool p2, .slice pa pl pc]) from (by
    have h := HAN.out w3 (HB2.out.trans (HBV.out.mono hz2))
    exact ⟨h.1, h.2.1⟩))
  clear hw3 r0 r1 r2 r3 hbw HBV HPX HB2 hz2
  rw [HSP.out]
  clear HSP
  have H0 := (show Hid (PlI w3 w2.heap.size p [] w3) from ⟨rfl, rfl, rfl, Nat.le_refl _, by have := HZV.out; omega, fun _ _ _ => rfl, .slice none 0 0, fun _ => .slice none 0 0, HPX3.out, RRv.nil _ _⟩)
  go_wp2_with fail
  refine (wpIn_wide (n := 5)).1 ?_
  refine wpIn_rangeD (α := Yp) rfl (by omega) (gf := 57) (lb := #[.pointer (some ⟨w2.heap.size + 1, 0, none⟩)]) rfl trivial (enters_of Try.func57 (by kernel_rfl) rfl) (encs := ypE) (fun _ => rfl) (TP w2.heap.size) (YpX (TP w2.heap.size) w.heap.size (w3.heap.size + 2) 1000) (PlI w3 w2.heap.size p) (PlI.bears _ _ _) ?hT H0.out (S := fun ys => ys.map (fun y => y.1.1) = ps t []) ?hseq ?hround ?hdone
  case hT =>
    intro s W q h ht
    have := (h.tp ht).1
    have := h.lt
    omega
  case hseq =>
    intro J W hbW hsz hJI hJb hY hJ0
    have hz := HZV.out
    have hw2 := HW2.out
    refine HT83.out J (w3.heap.size + 1) (w3.heap.size + 2) (w2.heap.size + 1) w2.heap.size (by omega) (by omega) hJb (fun s V q hj ht => ?_) (fun m pre x W1 hj hx => yield_any (hY pre x W1 hj hx)) _ W (HB3.out.1.trans (hbW.mono (by omega))) (HXV.out.still hbW) hJ0 hsz htc
    have h1 := ((hJI s V hj).tp ht)
    exact ⟨by omega, h1.2, by omega⟩
  case hround =>
    intro pre x W hi hx hsz
    obtain ⟨u1, u2, u3, e1⟩ := x.2.1
    obtain ⟨q1, q2, q3, e2⟩ := x.2.2
    have hz := HZV.out
    have hw2 := HW2.out
    simp only [ypE, Tr.val, e1, e2]
    gi_wp2
    refine ⟨bel_alloc _ _, fun o hIo => ?_⟩
    obtain ⟨Wb, hWb⟩ : ∃ Wb : World, (W.alloc (.cells #[.string x.1.1.1.name, .string x.1.1.1.text, .bool x.1.1.1.leaf, .slice u1 u2 u3] 26)).putObj (w3.heap.size + 1) o = Wb := ⟨_, rfl⟩
    rw [hWb] at hIo ⊢
    have xb : Box Wb W.heap.size 26 [.string x.1.1.1.name, .string x.1.1.1.text, .bool x.1.1.1.leaf, .slice u1 u2 u3] := by
      rw [← hWb]
      exact (Box.new W 26 _).keep (World.putObj_heap_other (by omega))
    have hbl : ∀ q, q < W.heap.size → q ≠ w3.heap.size + 1 → Wb.heap[q]? = W.heap[q]? := fun q h1 h2 => by
      rw [← hWb]
      exact (World.putObj_heap_other h2).trans ((bel_alloc _ _).block q h1)
    have hWz : Wb.heap.size = W.heap.size + 1 := by rw [← hWb]; simp
    have hlow : ∀ q, q < w3.heap.size → q ≠ w2.heap.size → Wb.heap[q]? = w3.heap[q]? := fun q h1 h2 => hIo.block q h1 h2
    have bp : Box Wb w.heap.size 26 [.string p0, .string p1, .bool p2, .slice pa pl pc] := HB3.out.2.keep (hlow _ (by omega) (by omega))
    have hlp : Lies Wb (fun _ => True) p (.slice pa pl pc) := (HLP.out.keep (fun q hq => (hlow q (by omega) (by omega)).trans (HB3.out.1.block q hq))).mono (fun _ _ => trivial)
    have hlx : Lies Wb (fun _ => True) x.1.1.1 (.slice u1 u2 u3) := by
      rw [← e1]
      exact (hx.tree.keep (fun q hq => hbl q (by omega) (by omega))).mono (fun _ _ => trivial)
    have hpx : Wb.ownsRow (w3.heap.size + 2) 3 1 (.slice q1 q2 q3) x.1.1.2.length (nums x.1.1.2) := by
      have h := hx.row
      rw [e2] at h
      exact own_keep1 h (fun q hq => hbl q (World.ownsRow.lt h q hq).2 (by have := (World.ownsRow.lt h q hq).1; omega))
    have HMX := (show Hid _ from HMD.out x.1.1.1 (.slice u1 u2 u3) Wb hpc hlp hlx)
    have HIB := (show Hid (PlI w3 w2.heap.size p pre Wb) from hIo)
    have HSH := (show Hid (x.1.1.2.length ≤ 1000000) from hx.short)
    have HFE := (show Hid (pre.length + 1 ≤ 1000) from hx.few)
    have HPR := (show Hid (Wb.ownsRow (w3.heap.size + 2) 3 1 (.slice q1 q2 q3) x.1.1.2.length (nums x.1.1.2)) from hpx)
    have HBP := (show Hid (Box Wb w.heap.size 26 [.string p0, .string p1, .bool p2, .slice pa pl pc]) from bp)
    have hmt : (mtT p x.1.1.1 []).2 = mtB p x.1.1.1 := rfl
    unfold MdA at HMX
    rw [hmt] at HMX
    clear hmt
    obtain ⟨c0, c1, c2, c3⟩ := HPB.out Wb bp
    have d0 : Wb.cell? ⟨W.heap.size, 0, none⟩ = some (.string x.1.1.1.name) := xb.cell 0 (by simp)
    have d1 : Wb.cell? ⟨W.heap.size, 1, none⟩ = some (.string x.1.1.1.text) := xb.cell 1 (by simp)
    have d2 : Wb.cell? ⟨W.heap.size, 2, none⟩ = some (.bool x.1.1.1.leaf) := xb.cell 2 (by simp)
    have d3 : Wb.cell? ⟨W.heap.size, 3, none⟩ = some (.slice u1 u2 u3) := xb.cell 3 (by simp)
    clear xb bp hlow hlp hlx hpx hIo hbl hWb hx hi
    generalize mtT p x.1.1.1 [] = R at *
    cases hmb : mtB p x.1.1.1
    · rw [hmb] at HMX
      gi_wp2_with (refine ⟨trivial, ?_⟩; gi_at_call 26; refine (CallsIn.inRound _ (callsIn_wide.2 HMX.out)).mono ?_; rintro e w4 ⟨mb, ba, cap, B4, sv, rfl, hb4, _, _⟩)
      refine HIB.out.pass (bel_trans hb4 (bel_alloc _ _)) hmb (by omega)
    · rw [hmb] at HMX
      gi_wp2_with (refine ⟨trivial, ?_⟩; gi_at_call 26; refine (CallsIn.inRound _ (callsIn_wide.2 HMX.out)).mono ?_; rintro e w4 ⟨mb, ba, cap, B4, sv, rfl, hb4, _, _⟩)
      obtain ⟨v, vs, bx, rr⟩ := HIB.out.row
      obtain ⟨va, vc, rfl, _⟩ := own_ne rr.out
      obtain ⟨i86, hi86, hz0, hz1, hz2⟩ := info_parts info86s
      have hb5 : Below Wb.heap.size Wb (w4.alloc (.cells #[.map (some mb), .slice ba R.1.length cap] 54)).drew := (bel_trans hb4 (bel_alloc _ _)).drew
      have HB5 := (show Hid (Below Wb.heap.size Wb (w4.alloc (.cells #[.map (some mb), .slice ba R.1.length cap] 54)).drew) from hb5)
      have V0 : (w4.alloc (.cells #[.map (some mb), .slice ba R.1.length cap] 54)).drew.cell? ⟨w2.heap.size, 0, none⟩ = some (.slice va (lsO p pre).length vc) := (bx.still hb5).cell 0 (by simp)
      have HCL := (show Hid _ from clone57 x.1.1.2 (.slice q1 q2 q3) (w4.alloc (.cells #[.map (some mb), .slice ba R.1.length cap] 54)).drew (own_still HPR.out hb5) HSH.out)
      have hll : (lsO p pre).length ≤ 1000 := by
        have h1 : (lsO p pre).length ≤ pre.length := by unfold lsO; rw [List.length_map]; exact List.length_filter_le _ _
        have := HFE.out
        omega
      have HXB := (show Hid (Box Wb w2.heap.size 35 [.slice va (lsO p pre).length vc] ∧ RRv Wb (w3.heap.size + 2) (lsO p pre) (.slice va (lsO p pre).length vc) vs) from ⟨bx, rr⟩)
      have HC6 := (show Hid (∀ (w6 : World) (ua : Option Addr) (uc : Nat), Below (w4.alloc (.cells #[.map (some mb), .slice ba R.1.length cap] 54)).drew.heap.size (w4.alloc (.cells #[.map (some mb), .slice ba R.1.length cap] 54)).drew w6 → w6.ownsRow (w4.alloc (.cells #[.map (some mb), .slice ba R.1.length cap] 54)).drew.heap.size 3 1 (.slice ua x.1.1.2.length uc) x.1.1.2.length (nums x.1.1.2) → w6.cell? ⟨w2.heap.size, 0, none⟩ = some (.slice va (lsO p pre).length vc) ∧ (w6.alloc (.cells #[.slice ua x.1.1.2.length uc] 40)).cell? ⟨w2.heap.size, 0, none⟩ = some (.slice va (lsO p pre).length vc) ∧ Hid ((w6.alloc (.cells #[.slice ua x.1.1.2.length uc] 40)).ownsRow (w3.heap.size + 2) 40 1 (.slice va (lsO p pre).length vc) (lsO p pre).length (slv vs (lsO p pre).length)) ∧ Hid (∀ j z, [Value.slice ua x.1.1.2.length uc][j]? = some z → (w6.alloc (.cells #[.slice ua x.1.1.2.length uc] 40)).cell? ((⟨w6.heap.size, 0, none⟩ : Addr).add j) = some z) ∧ Hid (w3.heap.size + 2 ≤ (w6.alloc (.cells #[.slice ua x.1.1.2.length uc] 40)).heap.size) ∧ Hid (∀ (g8 c8 : Nat) (w8 : World), w8.ownsRow (w3.heap.size + 2) 40 1 (.slice (some ⟨g8, 0, none⟩) ((lsO p pre).length + 1) c8) ((lsO p pre).length + 1) (slv vs (lsO p pre).length ++ [.slice ua x.1.1.2.length uc]) → (w6.alloc (.cells #[.slice ua x.1.1.2.length uc] 40)).grownBy w8 (Value.slice va (lsO p pre).length vc).ownBlock → ((Value.slice va (lsO p pre).length vc).ownBlock = some g8 ∨ g8 = (w6.alloc (.cells #[.slice ua x.1.1.2.length uc] 40)).heap.size) → w8.cell? ⟨w2.heap.size, 0, none⟩ = some (.slice va (lsO p pre).length vc) ∧ w8.frozen? ⟨w2.heap.size, 0, none⟩ = false ∧ Hid (rgPostD (TP w2.heap.size) (w3.heap.size + 1) (PlI w3 w2.heap.size p) (pre ++ [x]) Wb .normal { tmps := #[], defers := [] } (w8.setCell ⟨w2.heap.size, 0, none⟩ (.slice (some ⟨g8, 0, none⟩) ((lsO p pre).length + 1) c8))))) from fun w6 ua uc hb6 hu6 => by
        have hbA := bel_trans HB5.out hb6
        have hbB := bel_trans hbA (bel_alloc w6 (.cells #[.slice ua x.1.1.2.length uc] 40))
        have hs5 := HB5.out.size
        refine ⟨(HXB.out.1.still hbA).cell 0 (by simp), (HXB.out.1.still hbB).cell 0 (by simp), own_still HXB.out.2.out hbB, World.news_of_block (cs := #[.slice ua x.1.1.2.length uc]) (blk_alloc_new _ _), (by show _ ≤ _; have := hbB.size; omega), fun g8 c8 w8 h1 h2 h3 => ?_⟩
        have hvl := World.ownsRow.lt HXB.out.2.out
        have bx8 := (HXB.out.1.still hbB).keep (h2.block _ (HXB.out.1.still hbB).lt (fun e => by have := (hvl _ e.symm).1; omega))
        refine ⟨bx8.cell 0 (by simp), bx8.frozen 0, ?_⟩
        have hu : w6.ownsRow Wb.heap.size 3 1 (.slice ua x.1.1.2.length uc) x.1.1.2.length (nums x.1.1.2) := ⟨hu6.1, by
          rcases hu6.2 with e | ⟨g', cap', cur, e1, e2, e3⟩
          · exact .inl e
          · exact .inr ⟨g', cap', cur, e1, by omega, e3⟩⟩
        exact HIB.out.put (by omega) HXB.out.1 HXB.out.2 hbA hmb (by omega) (fun h => by have := (HIB.out.tp h).1; have := HIB.out.lt; omega) hu h1 h2 h3)
      have hfe := HFE.out
      clear bx rr hb4 hb5 HXB HB5
      refine region_round (fun _ => True) (by kernel_rfl) (no_defer (by kernel_rfl)) trivial (fun hHeld => ?_)
      refine wpAnyH_take (i := 1) (oi := { dst := some 31, op := Go.Op.move (Go.Operand.tmp 7), type := 40, pos := "l11_rewriting.go:83", after := #[], guard := none }) (v := ?v1) rfl (by kernel_rfl) (by kernel_rfl) (by kernel_rfl) (fun _ _ _ h => h) (Or.inl ⟨by rfl, ?h1⟩) hHeld ?r1
      case h1 => (intro w hSw; (try dsimp only at hSw); go_simp; try with_reducible rfl)
      try simp only [Act.put, List.setIfInBounds_toArray, List.set_cons_zero, List.set_cons_succ]
      refine wpAnyH_ready (rs := [0, 2]) (by kernel_rfl) (by simp) ?_
      refine (AllReadyH.cons (o := { dst := some 30, op := Go.Op.load 35 (Go.Operand.tmp 6), type := 35, pos := "l11_rewriting.go:83", after := #[], guard := none }) rfl (fun K hK => ?_) (AllReadyH.cons (o := { dst := some 32, op := Go.Op.call { callee := Go.Callee.value (Go.Operand.func 33), args := #[Go.Operand.tmp 31], argTypes := #[40] }, type := 40, pos := "l11_rewriting.go:83", after := #[{ on := 1, ground := Go.Ground.data }], guard := none }) rfl (fun K hK => ?_) AllReadyH.nil))
      · go_simp
        clear hHeld
        refine hK.out _ _ trivial (fun hHeld => ?_)
        clear hK K
        try simp only [Act.put, List.setIfInBounds_toArray, List.set_cons_zero, List.set_cons_succ]
        refine wpAnyH_ready (rs := [2]) (by kernel_rfl) (by simp) ?_
        refine (AllReadyH.cons (o := { dst := some 32, op := Go.Op.call { callee := Go.Callee.value (Go.Operand.func 33), args := #[Go.Operand.tmp 31], argTypes := #[40] }, type := 40, pos := "l11_rewriting.go:83", after := #[{ on := 1, ground := Go.Ground.data }], guard := none }) rfl (fun K hK => ?_) AllReadyH.nil)
        go_simp
        refine Calls.mono HCL.out ?_
        rintro e w6 ⟨ua, uc, rfl, hb6, hu6⟩
        obtain ⟨P6, P7, HO7, HU7, HZ7, HUP⟩ := HC6.out w6 ua uc hb6 hu6
        clear hb6 hu6
        dsimp only
        clear hHeld
        refine hK.out _ _ trivial (fun hHeld => ?_)
        clear hK K
        try simp only [Act.put, List.setIfInBounds_toArray, List.set_cons_zero, List.set_cons_succ]
        refine wpAnyH_ready (rs := [3]) (by kernel_rfl) (by simp) ?_
        refine (AllReadyH.cons (o := { dst := some 33, op := Go.Op.buildSlice 35 1 #[(0, Go.Operand.tmp 32)], type := 35, pos := "l11_rewriting.go:83", after := #[{ on := 2, ground := Go.Ground.data }], guard := none }) rfl (fun K hK => ?_) AllReadyH.nil)
        go_simp
        clear hHeld
        refine hK.out _ _ trivial (fun hHeld => ?_)
        clear hK K
        try simp only [Act.put, List.setIfInBounds_toArray, List.set_cons_zero, List.set_cons_succ]
        refine wpAnyH_ready (rs := [4]) (by kernel_rfl) (by simp) ?_
        refine (AllReadyH.cons (o := { dst := some 34, op := Go.Op.call { callee := Go.Callee.builtin Go.Builtin.append, args := #[Go.Operand.tmp 30, Go.Operand.tmp 33], argTypes := #[35, 35] }, type := 35, pos := "l11_rewriting.go:83", after := #[{ on := 0, ground := Go.Ground.data }, { on := 3, ground := Go.Ground.data }, { on := 2, ground := Go.Ground.chain }], guard := none }) rfl (fun K hK => ?_) AllReadyH.nil)
        refine step_append_lies _ rfl (.tmp 30) (.tmp 33) 35 rfl (w3.heap.size + 2) 40 i86 _ 1 24 Try.underlying35 hi86 hz0 hz1 hz2 rfl (by decide) _ (lsO p pre).length (slv vs (lsO p pre).length) (by simp [Act.eval, Act.put]) HO7.out ⟨w6.heap.size, 0, none⟩ 1 1 [.slice ua x.1.1.2.length uc] (by simp [Act.eval, Act.put]) rfl HU7.out (by intro z hz; simp at hz; subst hz; rfl) (by decide) (by unfold maxLen; omega) (by omega) HZ7.out _ rfl ?_
        intro g8 c8 w8 hown8 hgr8 hat8 hlt8
        obtain ⟨Q8, F8, HE⟩ := HUP.out g8 c8 w8 hown8 hgr8 hat8
        clear hown8 hgr8 hat8 hlt8 HUP
        clear hHeld
        refine hK.out _ _ trivial (fun hHeld => ?_)
        clear hK K
        try simp only [Act.put, List.setIfInBounds_toArray, List.set_cons_zero, List.set_cons_succ]
        refine wpAnyH_ready (rs := [5]) (by kernel_rfl) (by simp) ?_
        refine (AllReadyH.cons (o := { dst := none, op := Go.Op.store 35 (Go.Operand.tmp 6) (Go.Operand.tmp 34), type := 0, pos := "l11_rewriting.go:83", after := #[{ on := 4, ground := Go.Ground.data }, { on := 4, ground := Go.Ground.chain }, { on := 0, ground := Go.Ground.phase }, { on := 1, ground := Go.Ground.phase }, { on := 2, ground := Go.Ground.phase }, { on := 3, ground := Go.Ground.phase }, { on := 4, ground := Go.Ground.phase }], guard := none }) rfl (fun K hK => ?_) AllReadyH.nil)
        go_simp
        clear hHeld
        refine hK.out _ _ trivial (fun hHeld => ?_)
        clear hK K
        try simp only [Act.put, List.setIfInBounds_toArray, List.set_cons_zero, List.set_cons_succ]
        refine wpAnyH_done (by kernel_rfl) ?_ _
        exact HE.out
      · go_simp
        refine Calls.mono HCL.out ?_
        rintro e w6 ⟨ua, uc, rfl, hb6, hu6⟩
        obtain ⟨P6, P7, HO7, HU7, HZ7, HUP⟩ := HC6.out w6 ua uc hb6 hu6
        clear hb6 hu6
        dsimp only
        clear hHeld
        refine hK.out _ _ trivial (fun hHeld => ?_)
        clear hK K
        try simp only [Act.put, List.setIfInBounds_toArray, List.set_cons_zero, List.set_cons_succ]
        refine wpAnyH_ready (rs := [0, 3]) (by kernel_rfl) (by simp) ?_
        refine (AllReadyH.cons (o := { dst := some 30, op := Go.Op.load 35 (Go.Operand.tmp 6), type := 35, pos := "l11_rewriting.go:83", after := #[], guard := none }) rfl (fun K hK => ?_) (AllReadyH.cons (o := { dst := some 33, op := Go.Op.buildSlice 35 1 #[(0, Go.Operand.tmp 32)], type := 35, pos := "l11_rewriting.go:83", after := #[{ on := 2, ground := Go.Ground.data }], guard := none }) rfl (fun K hK => ?_) AllReadyH.nil))
        · go_simp
          clear hHeld
          refine hK.out _ _ trivial (fun hHeld => ?_)
          clear hK K
          try simp only [Act.put, List.setIfInBounds_toArray, List.set_cons_zero, List.set_cons_succ]
          refine wpAnyH_ready (rs := [3]) (by kernel_rfl) (by simp) ?_
          refine (AllReadyH.cons (o := { dst := some 33, op := Go.Op.buildSlice 35 1 #[(0, Go.Operand.tmp 32)], type := 35, pos := "l11_rewriting.go:83", after := #[{ on := 2, ground := Go.Ground.data }], guard := none }) rfl (fun K hK => ?_) AllReadyH.nil)
          go_simp
          clear hHeld
          refine hK.out _ _ trivial (fun hHeld => ?_)
          clear hK K
          try simp only [Act.put, List.setIfInBounds_toArray, List.set_cons_zero, List.set_cons_succ]
          refine wpAnyH_ready (rs := [4]) (by kernel_rfl) (by simp) ?_
          refine (AllReadyH.cons (o := { dst := some 34, op := Go.Op.call { callee := Go.Callee.builtin Go.Builtin.append, args := #[Go.Operand.tmp 30, Go.Operand.tmp 33], argTypes := #[35, 35] }, type := 35, pos := "l11_rewriting.go:83", after := #[{ on := 0, ground := Go.Ground.data }, { on := 3, ground := Go.Ground.data }, { on := 2, ground := Go.Ground.chain }], guard := none }) rfl (fun K hK => ?_) AllReadyH.nil)
          refine step_append_lies _ rfl (.tmp 30) (.tmp 33) 35 rfl (w3.heap.size + 2) 40 i86 _ 1 24 Try.underlying35 hi86 hz0 hz1 hz2 rfl (by decide) _ (lsO p pre).length (slv vs (lsO p pre).length) (by simp [Act.eval, Act.put]) HO7.out ⟨w6.heap.size, 0, none⟩ 1 1 [.slice ua x.1.1.2.length uc] (by simp [Act.eval, Act.put]) rfl HU7.out (by intro z hz; simp at hz; subst hz; rfl) (by decide) (by unfold maxLen; omega) (by omega) HZ7.out _ rfl ?_
          intro g8 c8 w8 hown8 hgr8 hat8 hlt8
          obtain ⟨Q8, F8, HE⟩ := HUP.out g8 c8 w8 hown8 hgr8 hat8
          clear hown8 hgr8 hat8 hlt8 HUP
          clear hHeld
          refine hK.out _ _ trivial (fun hHeld => ?_)
          clear hK K
          try simp only [Act.put, List.setIfInBounds_toArray, List.set_cons_zero, List.set_cons_succ]
          refine wpAnyH_ready (rs := [5]) (by kernel_rfl) (by simp) ?_
          refine (AllReadyH.cons (o := { dst := none, op := Go.Op.store 35 (Go.Operand.tmp 6) (Go.Operand.tmp 34), type := 0, pos := "l11_rewriting.go:83", after := #[{ on := 4, ground := Go.Ground.data }, { on := 4, ground := Go.Ground.chain }, { on := 0, ground := Go.Ground.phase }, { on := 1, ground := Go.Ground.phase }, { on := 2, ground := Go.Ground.phase }, { on := 3, ground := Go.Ground.phase }, { on := 4, ground := Go.Ground.phase }], guard := none }) rfl (fun K hK => ?_) AllReadyH.nil)
          go_simp
          clear hHeld
          refine hK.out _ _ trivial (fun hHeld => ?_)
          clear hK K
          try simp only [Act.put, List.setIfInBounds_toArray, List.set_cons_zero, List.set_cons_succ]
          refine wpAnyH_done (by kernel_rfl) ?_ _
          exact HE.out
        · go_simp
          clear hHeld
          refine hK.out _ _ trivial (fun hHeld => ?_)
          clear hK K
          try simp only [Act.put, List.setIfInBounds_toArray, List.set_cons_zero, List.set_cons_succ]
          refine wpAnyH_ready (rs := [0]) (by kernel_rfl) (by simp) ?_
          refine (AllReadyH.cons (o := { dst := some 30, op := Go.Op.load 35 (Go.Operand.tmp 6), type := 35, pos := "l11_rewriting.go:83", after := #[], guard := none }) rfl (fun K hK => ?_) AllReadyH.nil)
          go_simp
          clear hHeld
          refine hK.out _ _ trivial (fun hHeld => ?_)
          clear hK K
          try simp only [Act.put, List.setIfInBounds_toArray, List.set_cons_zero, List.set_cons_succ]
          refine wpAnyH_ready (rs := [4]) (by kernel_rfl) (by simp) ?_
          refine (AllReadyH.cons (o := { dst := some 34, op := Go.Op.call { callee := Go.Callee.builtin Go.Builtin.append, args := #[Go.Operand.tmp 30, Go.Operand.tmp 33], argTypes := #[35, 35] }, type := 35, pos := "l11_rewriting.go:83", after := #[{ on := 0, ground := Go.Ground.data }, { on := 3, ground := Go.Ground.data }, { on := 2, ground := Go.Ground.chain }], guard := none }) rfl (fun K hK => ?_) AllReadyH.nil)
          refine step_append_lies _ rfl (.tmp 30) (.tmp 33) 35 rfl (w3.heap.size + 2) 40 i86 _ 1 24 Try.underlying35 hi86 hz0 hz1 hz2 rfl (by decide) _ (lsO p pre).length (slv vs (lsO p pre).length) (by simp [Act.eval, Act.put]) HO7.out ⟨w6.heap.size, 0, none⟩ 1 1 [.slice ua x.1.1.2.length uc] (by simp [Act.eval, Act.put]) rfl HU7.out (by intro z hz; simp at hz; subst hz; rfl) (by decide) (by unfold maxLen; omega) (by omega) HZ7.out _ rfl ?_
          intro g8 c8 w8 hown8 hgr8 hat8 hlt8
          obtain ⟨Q8, F8, HE⟩ := HUP.out g8 c8 w8 hown8 hgr8 hat8
          clear hown8 hgr8 hat8 hlt8 HUP
          clear hHeld
          refine hK.out _ _ trivial (fun hHeld => ?_)
          clear hK K
          try simp only [Act.put, List.setIfInBounds_toArray, List.set_cons_zero, List.set_cons_succ]
          refine wpAnyH_ready (rs := [5]) (by kernel_rfl) (by simp) ?_
          refine (AllReadyH.cons (o := { dst := none, op := Go.Op.store 35 (Go.Operand.tmp 6) (Go.Operand.tmp 34), type := 0, pos := "l11_rewriting.go:83", after := #[{ on := 4, ground := Go.Ground.data }, { on := 4, ground := Go.Ground.chain }, { on := 0, ground := Go.Ground.phase }, { on := 1, ground := Go.Ground.phase }, { on := 2, ground := Go.Ground.phase }, { on := 3, ground := Go.Ground.phase }, { on := 4, ground := Go.Ground.phase }], guard := none }) rfl (fun K hK => ?_) AllReadyH.nil)
          go_simp
          clear hHeld
          refine hK.out _ _ trivial (fun hHeld => ?_)
          clear hK K
          try simp only [Act.put, List.setIfInBounds_toArray, List.set_cons_zero, List.set_cons_succ]
          refine wpAnyH_done (by kernel_rfl) ?_ _
          exact HE.out
  case hdone =>
    rintro ys W hS hI hD
    have hz := HZV.out
    have hw2 := HW2.out
    obtain ⟨v, vs, bx, rr⟩ := hI.row
    have hls : lsO p ys = plT p t [] := lsO_all p t ys hS
    rw [hls] at rr
    obtain ⟨va, vc, rfl, _⟩ := own_ne rr.out
    have V0 : W.cell? ⟨w2.heap.size, 0, none⟩ = some (.slice va (plT p t []).length vc) := bx.cell 0 (by simp)
    have HFIN := (show Hid (IlA p t w (.returned (.tuple #[.slice va (plT p t []).length vc, .int .i64 0])) (W.putObj w3.heap.size (.deferred none))) from (by
      have hb : Below w.heap.size w W := ⟨hI.os.trans HB3.out.1.os, hI.tape.trans HB3.out.1.tape, hI.output.trans HB3.out.1.output, Nat.le_trans HB3.out.1.size hI.size, fun q hq => (hI.block q (by omega) (by omega)).trans (HB3.out.1.block q hq)⟩
      refine ⟨va, vc, w3.heap.size + 2, vs, by rw [HF.out], hb.grown (grownBy_putObj' _ _ _) hb.size (fun k e => by cases e; omega), by omega, ?_⟩
      rw [HF.out]
      exact rr.keep (fun q hq => World.putObj_heap_other (by have := (World.ownsRow.lt rr.out q hq).1; omega)) (fun i hi q hq => World.putObj_heap_other (by have := (World.ownsRow.lt (rr.row i hi) q hq).1; omega))))
    clear bx rr hI hS hls
    generalize (plT p t []).length = L at *
    go_wp2_with fail
    refine ⟨by simp, .inl ⟨_, _, rfl, run_takeDeferred hD, ?_⟩⟩
    exact ⟨.tuple #[.slice va L vc, .int .i64 0], by simp [results, Try.results11, go_sem], HFIN.out⟩
end Go.Proofs.Ytbgoikaelmacbaa
