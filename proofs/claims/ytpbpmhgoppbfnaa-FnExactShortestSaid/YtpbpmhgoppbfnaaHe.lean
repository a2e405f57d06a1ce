import Derived.Test.YtpbpmhgoppbfnaaHd
/-! The program: shortest, whole. -/
namespace Go.Proofs.Ytpbpmhgoppbfnaa
open Go.RowKit Go.Deep
set_option linter.unusedVariables false
set_option maxRecDepth 100000
set_option linter.unusedSimpArgs false

/-- The state of the search for shortest words. -/
structure InvS (w0 : World) (N g bs gP gW b : Nat) (v0 v1 vo v3 : Value) (L : List Int) (l : List (List Nat)) (w : World) : Prop where
  bel : Below w0.heap.size w0 w
  st : St w g bs v0 v1 vo v3 L
  pb : Box w gP 65 [.pointer (some ⟨g, 0, none⟩)]
  wb : Box w gW 23 [.slice (some ⟨b, 0, none⟩) N N]
  row : SRow w b l
  len : l.length = N
theorem InvS.still {w0 : World} {N g bs gP gW b : Nat} {v0 v1 vo v3 : Value} {L : List Int} {l : List (List Nat)} {w w' : World} (h : InvS w0 N g bs gP gW b v0 v1 vo v3 L l w) (hb : Below w.heap.size w w') : InvS w0 N g bs gP gW b v0 v1 vo v3 L l w' :=
  ⟨bel_trans h.bel hb, h.st.still hb, h.pb.still hb, h.wb.still hb, h.row.still hb, h.len⟩
theorem InvS.next {w0 : World} {N g bs gP gW b : Nat} {v0 v1 vo v3 : Value} {L : List Int} {l l' : List (List Nat)} {w w' : World} (h : InvS w0 N g bs gP gW b v0 v1 vo v3 L l w) (hb : Bt b w w') (hr : SRow w' b l') (hl : l'.length = N) (h0 : w0.heap.size ≤ b) (h1 : g ≠ b) (h2 : bs ≠ b) (h3 : gP ≠ b) (h4 : gW ≠ b) : InvS w0 N g bs gP gW b v0 v1 vo v3 L l' w' :=
  ⟨h.bel.trans (hb.below h0 h.bel.size), ⟨h.st.box.keepBt hb h1, World.rowIs.of_block h.st.row (hb.block bs (World.rowIs.lt h.st.row) h2), h.st.ne⟩, h.pb.keepBt hb h3, h.wb.keepBt hb h4, hr, hl⟩
def newK (d : Bn) (L : List Int) (l : List (List Nat)) (k : Nat) : Bool := newS (Lf L) l (pN (d.prods.getD k dflP))
def nxtK (d : Bn) (L : List Int) (l : List (List Nat)) (k : Nat) : List (List Nat) := nxtS (Lf L) l (pN (d.prods.getD k dflP))
/-- At first: each terminal, as far as j. -/
def iniW (N j : Nat) : List (List Nat) := (List.range N).map fun i => if i < j then [i] else []
theorem iniW_len (N j : Nat) : (iniW N j).length = N := by simp [iniW]
theorem iniW_get {N j x : Nat} : wsF (iniW N j) x = if x < j ∧ x < N then [x] else [] := by
  unfold wsF iniW
  by_cases h : x < N
  · by_cases h2 : x < j
    · simp [List.getD_eq_getElem?_getD, h, h2]
    · simp [List.getD_eq_getElem?_getD, h, h2]
  · simp [List.getD_eq_getElem?_getD, h]
theorem iniW_next {N j : Nat} (h : j < N) : (iniW N j).set j [j] = iniW N (j + 1) := by
  apply List.ext_getElem
  · simp [iniW_len]
  · intro i h1 h2
    rw [iniW_len] at h2
    rw [List.getElem_set]
    by_cases e : j = i
    · subst e; simp [iniW]
    · rw [if_neg e]
      have : (i < j) ↔ (i < j + 1) := by omega
      simp [iniW, this]
theorem iniW_pw {nt N : Nat} {ps : List (Nat × List Nat)} {L : Nat → Int} (hS : Snd nt ps L) (hN : nt ≤ N) (hnt : nt ≤ 60) : PW nt ps L (iniW N nt) := by
  refine ⟨fun x => ?_, fun x => ?_, fun x hx => ?_, fun x g0 g1 => ?_, fun x g0 g1 g2 => ?_⟩
  · rw [iniW_get]; split <;> simp
  · rw [iniW_get]; split
    · intro a ha; simp at ha; omega
    · intro a ha; simp at ha
  · rw [iniW_get, if_pos ⟨hx, by omega⟩]
  · rw [iniW_get]; split
    · rename_i h; right; rw [hS.tm x h.1]; rfl
    · exact .inl rfl
  · rw [iniW_get] at g2 ⊢
    split
    · rename_i h; exact Wo.term h.1 Wo.nil
    · rename_i h
      rw [if_neg h] at g2
      have e : L x = 0 := by simpa using g2.symm
      obtain ⟨w, h1, h2⟩ := Wo.of_lens (hS.is x g0) (by omega)
      rw [e] at h2
      have : w = [] := by simpa using h2
      rw [this] at h1
      exact h1
theorem info9s : (Try.prog.info? 9).map (fun i => (i.zero, i.size, i.bytes)) = some (some (.string ⟨#[]⟩), 1, 16) := by kernel_rfl
theorem run_makeWords (n : Nat) (hn : n ≤ 1048576) (w : World) :
    (Instr.makeSlice 23 (.int .i64 (n : Int)) (.int .i64 (n : Int))).run Try.prog w = .ok (.slice (some ⟨w.heap.size, 0, none⟩) n n) (w.alloc (.cells (madeCells #[.string ⟨#[]⟩] n) 9)) := by
  obtain ⟨i, hi, hzz⟩ := Option.map_eq_some_iff.1 info9s
  simp only [Prod.mk.injEq] at hzz
  obtain ⟨hz0, hz1, hz2⟩ := hzz
  have hr := run_make (P := Try.prog) w 23 9 i _ Try.underlying23 hi hz0 .i64 .i64 n n (by omega) (Int.le_refl _) (by rw [hz2]; omega) (by omega)
  simp only [Int.toNat_natCast, hz1, Nat.mul_one] at hr
  exact hr
theorem str_row (w : World) (n : Nat) : SRow (w.alloc (.cells (madeCells #[.string ⟨#[]⟩] n) 9)) w.heap.size (iniW n 0) := by
  refine ⟨_, blk_alloc_new _ _, by rw [size_madeCells, iniW_len], fun i hi => ?_⟩
  rw [iniW_len] at hi
  have e : (iniW n 0).getD i [] = [] := by
    have := iniW_get (N := n) (j := 0) (x := i)
    unfold wsF at this
    rw [this]
    simp
  show _ = some (Value.string (bw ((iniW n 0).getD i [])))
  rw [e]
  have h1 : i % 1 = 0 := Nat.mod_one i
  simp [madeCells, hi, h1]
  rfl

set_option maxHeartbeats 6400000 in
theorem shortest_any {S : Nat → Prop} (d : Bn) (hok : Bok d) (N g bs : Nat) (a0 : Option Addr) (c0 : Nat) (v1 vo v3 : Value) (L : List Int) (w : World) (hP : Pds w S d.prods v3) (hS : St w g bs (.slice a0 d.terms.length c0) v1 vo v3 L) (hL : L.length = N) (hN : N = d.terms.length + d.nons.length) (hSnd : Snd d.terms.length (bps d) (Lf L)) :
    Calls Try.prog 36 #[.pointer (some ⟨g, 0, none⟩)] w fun e w' => ∃ b l, e = .returned (.slice (some ⟨b, 0, none⟩) N N) ∧ Below w.heap.size w w' ∧ SRow w' b l ∧ l.length = N ∧ PW d.terms.length (bps d) (Lf L) l ∧ ∀ p ∈ bps d, newS (Lf L) l p = false := by
  have hN160 : N ≤ 160 := by rw [hN]; have := hok.nt; have := hok.nn.2; omega
  have hmk := fun w => run_makeWords N (by omega) w
  obtain ⟨a3, c3, e3, _⟩ := hP.form
  have hP' := hP
  rw [e3] at hP' hS
  clear hP
  have hlt1 := hS.box.lt
  have hlt2 := World.rowIs.lt hS.row
  have h60 := hok.nt
  have hNt : d.terms.length ≤ N := by omega
  obtain ⟨W1, hW1⟩ : ∃ W1, ((w.alloc (.cells #[.pointer (some ⟨g, 0, none⟩)] 65)).alloc (.cells (madeCells #[.string ⟨#[]⟩] N) 9)).alloc (.cells #[.slice (some ⟨w.heap.size + 1, 0, none⟩) N N] 23) = W1 := ⟨_, rfl⟩
  have hbA : Below w.heap.size w W1 := by rw [← hW1]; exact ((bel_alloc w _).alloc (by simp) _).alloc (by simp; omega) _
  have hx1 : Box W1 w.heap.size 65 [.pointer (some ⟨g, 0, none⟩)] := by rw [← hW1]; exact (Box.new w 65 [.pointer (some ⟨g, 0, none⟩)]).still ((bel_alloc _ _).alloc (by simp) _)
  have hx2 : SRow W1 (w.heap.size + 1) (iniW N 0) := by
    have := str_row (w.alloc (.cells #[.pointer (some ⟨g, 0, none⟩)] 65)) N
    rw [World.size_alloc] at this
    rw [← hW1]
    exact this.still (bel_alloc _ _)
  have hx3 : Box W1 (w.heap.size + 1 + 1) 23 [.slice (some ⟨w.heap.size + 1, 0, none⟩) N N] := by
    have := Box.new ((w.alloc (.cells #[.pointer (some ⟨g, 0, none⟩)] 65)).alloc (.cells (madeCells #[.string ⟨#[]⟩] N) 9)) 23 [.slice (some ⟨w.heap.size + 1, 0, none⟩) N N]
    rw [World.size_alloc, World.size_alloc] at this
    rw [← hW1]
    exact this
  have H0 := (show Hid (InvS w N g bs w.heap.size (w.heap.size + 1 + 1) (w.heap.size + 1) (.slice a0 d.terms.length c0) v1 vo (.slice a3 d.prods.length c3) L (iniW N 0) W1) from ⟨hbA, hS.still hbA, hx1, hx3, hx2, iniW_len _ _⟩)
  have T4 : (w.alloc (.cells #[.pointer (some ⟨g, 0, none⟩)] 65)).cell? ⟨g, 4, none⟩ = some (.slice (some ⟨bs, 0, none⟩) L.length L.length) := (hS.still (bel_alloc _ _)).box.cell 4 (by simp)
  rw [hL] at T4
  have T0 : W1.cell? ⟨g, 0, none⟩ = some (.slice a0 d.terms.length c0) := H0.out.st.box.cell 0 (by simp)
  have Q1 : W1.cell? ⟨w.heap.size, 0, none⟩ = some (.pointer (some ⟨g, 0, none⟩)) := hx1.cell 0 (by simp)
  have hset := fun (w1 : World) (h0 : InvS w N g bs w.heap.size (w.heap.size + 1 + 1) (w.heap.size + 1) (.slice a0 d.terms.length c0) v1 vo (.slice a3 d.prods.length c3) L (iniW N d.terms.length) w1) => settle68 w.heap.size (w.heap.size + 1 + 1) d.prods _ w hP' (fun l w' => InvS w N g bs w.heap.size (w.heap.size + 1 + 1) (w.heap.size + 1) (.slice a0 d.terms.length c0) v1 vo (.slice a3 d.prods.length c3) L l w' ∧ PW d.terms.length (bps d) (Lf L) l) (msS (Lf L) N) (newK d L) (nxtK d L)
    (fun a w' h => h.1.bel)
    (fun a b w' ha hb => by rw [SRow.uniq ha.1.row hb.1.row (by rw [ha.1.len, hb.1.len]) ha.2.sm hb.2.sm])
    (fun a w' o h => ⟨h.1.still (bel_alloc w' o), h.2⟩)
    (fun a k w' hk h hn => by
      unfold newK at hn
      unfold nxtK nxtS
      rw [if_pos hn]
      have hl := hok.left k hk
      have hx : (pN (d.prods.getD k dflP)).1 < a.length := by
        rw [getD_lt _ _ hk, h.1.len]
        show d.prods[k].left.toNat < N
        omega
      have := msS_less (hSnd.top _) h.2.sm hx hn
      rw [h.1.len] at this
      exact this)
    (fun a k hn => by unfold newK at hn; unfold nxtK nxtS; rw [hn]; rfl)
    (fun k hk a w' vr h hr => by
      have hl := hok.left k hk
      have hin : ∀ i (hi : i < d.prods[k].right.length), 0 ≤ d.prods[k].right[i] ∧ d.prods[k].right[i] < (L.length : Int) := fun i hi => by rw [hL, hN]; exact hok.right k hk i hi
      have hwb := h.1.wb
      rw [← h.1.len] at hwb
      refine Calls.mono (spell_any w' w.heap.size (w.heap.size + 1 + 1) g bs (w.heap.size + 1) _ v1 vo _ L a d.prods[k] vr h.1.pb hwb h.1.st h.1.row (by rw [h.1.len, hL]) (hr.still h.1.bel) hin (by omega) (by rw [hL, hN]; omega) hSnd.low hSnd.top (hok.len k hk) (by rw [hL]; exact hN160) h.2.lim h.2.sm) ?_
      rintro e w2 ⟨rfl, h1, h2⟩
      have e1 : newK d L a k = newS (Lf L) a (pN d.prods[k]) := by unfold newK; rw [getD_lt _ _ hk]
      have e2 : nxtK d L a k = nxtS (Lf L) a (pN d.prods[k]) := by unfold nxtK; rw [getD_lt _ _ hk]
      rw [e1, e2]
      have hx : (pN d.prods[k]).1 < a.length := by
        rw [h.1.len]
        show d.prods[k].left.toNat < N
        omega
      have hpw : PW d.terms.length (bps d) (Lf L) (nxtS (Lf L) a (pN d.prods[k])) := by
        unfold nxtS
        by_cases hn : newS (Lf L) a (pN d.prods[k]) = true
        · rw [if_pos hn]
          refine h.2.step hSnd (pN_mem hk) ?_ hx hn
          show d.terms.length ≤ d.prods[k].left.toNat
          omega
        · rw [if_neg hn]; exact h.2
      have hln : (nxtS (Lf L) a (pN d.prods[k])).length = N := by
        unfold nxtS
        split
        · rw [List.length_set, h.1.len]
        · exact h.1.len
      exact ⟨rfl, h.1.next h2 h1 hln (by omega) (by omega) (by omega) (by omega) (by omega), hpw⟩)
    (iniW N d.terms.length) w1 ⟨h0, iniW_pw hSnd hNt h60⟩
  have HSET := (show Hid _ from hset)
  clear hset hP' hS hbA hx1 hx2 hx3 hSnd hok hN hL
  go_enter Try.func36, Try.ntmps36
  go_wp2_with fail
  clear hW1 T0 T4 Q1
  go_loopw [17] (fun i wr => ∃ j : Nat, i = .int .i64 j ∧ j ≤ d.terms.length ∧ Hid (InvS w N g bs w.heap.size (w.heap.size + 1 + 1) (w.heap.size + 1) (.slice a0 d.terms.length c0) v1 vo (.slice a3 d.prods.length c3) L (iniW N j) wr)) (fun i _ => d.terms.length - (intOf i).toNat)
  case atStart => exact ⟨0, rfl, Nat.zero_le _, H0.out⟩
  case round =>
    obtain ⟨j, rfl, hj, HJ⟩ := hrel
    by_cases hlt : j < d.terms.length
    · have hlt' := hlt
      have hjN : j < (iniW N j).length := by rw [iniW_len]; omega
      have Q0 := HJ.out.wb.cell 0 (by simp)
      simp only [List.getD_cons_zero] at Q0
      go_wp2_with fail
      go_region_with (go_at_call 67; refine Calls.mono (wordOf_any j (by omega) _) ?_; rintro e w2 ⟨rfl, hb2⟩; have hI2 := HJ.out.still (w' := w2) (((Below.refl wr.heap.size wr).drew).trans hb2); have Q2 := hI2.wb.cell 0 (by simp); simp only [List.getD_cons_zero] at Q2; have d2 := hI2.row.cell hjN; have f2 : w2.frozen? ⟨w.heap.size + 1, j, none⟩ = false := World.rowIs.frozen hI2.row j; have HI2 := (show Hid _ from hI2); clear hI2)
      all_goals
        have HN : Hid (InvS w N g bs w.heap.size (w.heap.size + 1 + 1) (w.heap.size + 1) (.slice a0 d.terms.length c0) v1 vo (.slice a3 d.prods.length c3) L (iniW N (j + 1)) (w2.setCell ⟨w.heap.size + 1, j, none⟩ (.string (bw [j])))) := by
          have h1 := HI2.out.row.set hjN [j]
          rw [iniW_next (by omega)] at h1
          exact HI2.out.next (Bt.set _ _) h1 (iniW_len _ _) (by omega) (by omega) (by omega) (by omega) (by omega)
        clear Q2 d2 f2 HI2 Q0
        go_wp2_with fail
        exact ⟨⟨j + 1, by go_num, by omega, HN⟩, by simp [intOf]; omega⟩
    · have hje : j = d.terms.length := by omega
      subst hje
      have HS := (show Hid _ from HSET.out wr HJ.out)
      have T3 := HJ.out.st.box.cell 3 (by simp)
      have Q1 := HJ.out.pb.cell 0 (by simp)
      simp only [List.getD_cons_zero, List.getD_cons_succ] at T3 Q1
      go_wp2_with fail
      refine Calls.mono HS.out ?_
      rintro e w3 ⟨rfl, l, ⟨hI, hpw⟩, hq⟩
      have Q0 := hI.wb.cell 0 (by simp)
      simp only [List.getD_cons_zero] at Q0
      have HF : Hid (∃ b l, Ending.returned (.slice (some ⟨w.heap.size + 1, 0, none⟩) N N) = .returned (.slice (some ⟨b, 0, none⟩) N N) ∧ Below w.heap.size w w3 ∧ SRow w3 b l ∧ l.length = N ∧ PW d.terms.length (bps d) (Lf L) l ∧ ∀ p ∈ bps d, newS (Lf L) l p = false) := by
        refine ⟨_, l, rfl, hI.bel, hI.row, hI.len, hpw, fun p hp => ?_⟩
        obtain ⟨q, hq1, rfl⟩ := List.mem_map.1 hp
        obtain ⟨k, hk, rfl⟩ := List.mem_iff_getElem.1 hq1
        have := hq k hk
        unfold newK at this
        rw [getD_lt _ _ hk] at this
        exact this
      clear hI hpw hq T3 Q1 HS
      go_wp2_with fail
      go_ret
      exact HF.out
end Go.Proofs.Ytpbpmhgoppbfnaa
