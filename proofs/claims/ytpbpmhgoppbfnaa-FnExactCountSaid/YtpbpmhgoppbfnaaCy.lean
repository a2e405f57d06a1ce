import Derived.Test.YtpbpmhgoppbfnaaLd
/-! The program: what leads where; Cyclic. -/
namespace Go.Proofs.Ytpbpmhgoppbfnaa
open Go.RowKit Go.Deep
set_option linter.unusedVariables false
set_option maxRecDepth 100000
set_option linter.unusedSimpArgs false

/-- One step: to a symbol beside which there are only ones that make the empty word. -/
def Ed (d : Bn) (L : Nat → Int) (a b : Nat) : Prop := ∃ k, ∃ hk : k < d.prods.length, d.prods[k].left.toNat = a ∧ b ∈ nats (alo L d.prods[k].right)
/-- The state of the search for what leads where. -/
structure InvW (W0 : World) (d : Bn) (N gs bs g g2 b : Nat) (v0 v1 vo v3 : Value) (L : List Int) (W : List Nat) (w : World) : Prop where
  bel : Below W0.heap.size W0 w
  st : St w gs bs v0 v1 vo v3 L
  box : Box w g 108 [.slice (some ⟨b, 0, none⟩) N N]
  pick : Box w g2 46 [.func (.func 75) #[.pointer (some ⟨gs, 0, none⟩)] #[]]
  row : WRow w b W
  len : W.length = N * 3
  lt : ∀ i, W.getD i 0 < 2 ^ 64
  snd : ∀ a y, y < 192 → mem W a y = true → Tc (Ed d (Lf L)) a y
def dflP : Pd := ⟨0, [], ByteArray.empty, 0, 0⟩
def stpW (d : Bn) (L : List Int) (W : List Nat) (k : Nat) : List Nat := stepW W (d.prods.getD k dflP).left.toNat (nats (alo (Lf L) (d.prods.getD k dflP).right))
def newW (d : Bn) (L : List Int) (W : List Nat) (k : Nat) : Bool := grew (stpW d L W k) W (d.prods.getD k dflP).left.toNat
/-- Where nothing is new the state is as it was. -/
def nxtW (d : Bn) (L : List Int) (W : List Nat) (k : Nat) : List Nat := if newW d L W k then stpW d L W k else W
theorem grew_no {V W : List Nat} {l : Nat} (hlen : V.length = W.length) (ho : ∀ i, ¬ (l * 3 ≤ i ∧ i < l * 3 + 3) → V.getD i 0 = W.getD i 0) (h : grew V W l = false) : V = W := by
  unfold grew at h
  simp only [Bool.not_eq_false', Bool.and_eq_true, beq_iff_eq] at h
  refine ext_getD hlen fun i => ?_
  by_cases hi : l * 3 ≤ i ∧ i < l * 3 + 3
  · have : i = l * 3 ∨ i = l * 3 + 1 ∨ i = l * 3 + 2 := by omega
    rcases this with rfl | rfl | rfl
    · have := h.1; omega
    · have := h.2.1; omega
    · have := h.2.2; omega
  · exact ho i hi
theorem grew_yes {V W : List Nat} {l : Nat} (h : grew V W l = true) : V ≠ W := by
  intro e
  subst e
  unfold grew at h
  simp at h
theorem alo_nats {L : Nat → Int} {r : List Int} {N : Nat} (hin : ∀ i (hi : i < r.length), 0 ≤ r[i] ∧ r[i] < (N : Int)) : ∀ x ∈ nats (alo L r), x < N := by
  intro x hx
  obtain ⟨y, hy, rfl⟩ := List.mem_map.1 hx
  obtain ⟨k, hk, he⟩ := List.mem_iff_getElem.1 ((alo_sub L r).2 y hy)
  have := hin k hk
  rw [he] at this
  omega
theorem zero_row (w : World) (n : Nat) : WRow (w.alloc (.cells (madeCells #[.int .u64 0, .int .u64 0, .int .u64 0] n) 112)) w.heap.size (List.replicate n 0) := by
  refine ⟨_, blk_alloc_new _ _, by rw [size_madeCells]; simp, fun i hi => ?_⟩
  simp at hi
  show _ = some (Value.int .u64 (((List.replicate n 0).getD i 0 : Nat) : Int))
  have e : (List.replicate n 0).getD i 0 = 0 := by simp [List.getD_eq_getElem?_getD, hi]
  rw [e]
  have h3 : i % 3 = 0 ∨ i % 3 = 1 ∨ i % 3 = 2 := by omega
  rcases h3 with h | h | h <;> simp [madeCells, hi, h]
theorem info112 : (Try.prog.info? 112).map (fun i => (i.zero, i.size, i.bytes)) = some (some (.agg #[.int .u64 0, .int .u64 0, .int .u64 0]), 3, 24) := by kernel_rfl
theorem run_makeSets (n : Nat) (hn : n ≤ 1048576) (w : World) :
    (Instr.makeSlice 108 (.int .i64 (n : Int)) (.int .i64 (n : Int))).run Try.prog w = .ok (.slice (some ⟨w.heap.size, 0, none⟩) n n) (w.alloc (.cells (madeCells #[.int .u64 0, .int .u64 0, .int .u64 0] (n * 3)) 112)) := by
  obtain ⟨i, hi, hzz⟩ := Option.map_eq_some_iff.1 info112
  simp only [Prod.mk.injEq] at hzz
  obtain ⟨hz0, hz1, hz2⟩ := hzz
  have hr := run_make (P := Try.prog) w 108 112 i _ Try.underlying108 hi hz0 .i64 .i64 n n (by omega) (Int.le_refl _) (by rw [hz2]; omega) (by omega)
  simp only [Int.toNat_natCast, hz1] at hr
  exact hr
theorem mem_zero (n a y : Nat) : mem (List.replicate n 0) a y = false := by
  unfold mem
  have : (List.replicate n 0).getD (a * 3 + y / 64) 0 = 0 := by
    by_cases h : a * 3 + y / 64 < n
    · simp [List.getD_eq_getElem?_getD, h]
    · simp [List.getD_eq_getElem?_getD, Nat.le_of_not_lt h]
  rw [this]
  simp

set_option maxHeartbeats 6400000 in
theorem leads_any {S : Nat → Prop} (d : Bn) (hok : Bok d) (W0 : World) (N gs bs : Nat) (v0 v1 vo v3 : Value) (hP : Pds W0 S d.prods v3) (L : List Int) (w : World) (hb : Below W0.heap.size W0 w) (hS : St w gs bs v0 v1 vo v3 L) (hL : L.length = N) (hN : N = d.terms.length + d.nons.length) :
    Calls Try.prog 74 #[.pointer (some ⟨gs, 0, none⟩), .func (.func 75) #[.pointer (some ⟨gs, 0, none⟩)] #[]] w fun e w' => ∃ b W, e = .returned (.slice (some ⟨b, 0, none⟩) N N) ∧ Below w.heap.size w w' ∧ WRow w' b W ∧ W.length = N * 3 ∧ (∀ i, W.getD i 0 < 2 ^ 64) ∧ (∀ a y, y < 192 → mem W a y = true → Tc (Ed d (Lf L)) a y) ∧ ∀ k, k < d.prods.length → newW d L W k = false := by
  have hmk := fun w => run_makeSets N (by rw [hN]; have := hok.nt; have := hok.nn.2; omega) w
  have hN160 : N ≤ 160 := by rw [hN]; have := hok.nt; have := hok.nn.2; omega
  obtain ⟨a3, c3, e3, _⟩ := hP.form
  have hP' := hP
  rw [e3] at hP' hS
  clear hP
  have hlt1 := hS.box.lt
  have hlt2 := World.rowIs.lt hS.row
  have T4 : (w.alloc (.cells #[.func (.func 75) #[.pointer (some ⟨gs, 0, none⟩)] #[]] 46)).cell? ⟨gs, 4, none⟩ = some (.slice (some ⟨bs, 0, none⟩) L.length L.length) := (hS.still (bel_alloc _ _)).box.cell 4 (by simp)
  rw [hL] at T4
  have hbA : Below w.heap.size w (((w.alloc (.cells #[.func (.func 75) #[.pointer (some ⟨gs, 0, none⟩)] #[]] 46)).alloc (.cells (madeCells #[.int .u64 0, .int .u64 0, .int .u64 0] (N * 3)) 112)).alloc (.cells #[.slice (some ⟨w.heap.size + 1, 0, none⟩) N N] 108)) := ((bel_alloc w (.cells #[.func (.func 75) #[.pointer (some ⟨gs, 0, none⟩)] #[]] 46)).alloc (by simp) (.cells (madeCells #[.int .u64 0, .int .u64 0, .int .u64 0] (N * 3)) 112)).alloc (by simp; omega) (.cells #[.slice (some ⟨w.heap.size + 1, 0, none⟩) N N] 108)
  have T3 : (((w.alloc (.cells #[.func (.func 75) #[.pointer (some ⟨gs, 0, none⟩)] #[]] 46)).alloc (.cells (madeCells #[.int .u64 0, .int .u64 0, .int .u64 0] (N * 3)) 112)).alloc (.cells #[.slice (some ⟨w.heap.size + 1, 0, none⟩) N N] 108)).cell? ⟨gs, 3, none⟩ = some (.slice a3 d.prods.length c3) := (hS.still hbA).box.cell 3 (by simp)
  have hx1 : Box (((w.alloc (.cells #[.func (.func 75) #[.pointer (some ⟨gs, 0, none⟩)] #[]] 46)).alloc (.cells (madeCells #[.int .u64 0, .int .u64 0, .int .u64 0] (N * 3)) 112)).alloc (.cells #[.slice (some ⟨w.heap.size + 1, 0, none⟩) N N] 108)) w.heap.size 46 [.func (.func 75) #[.pointer (some ⟨gs, 0, none⟩)] #[]] := (Box.new w 46 [.func (.func 75) #[.pointer (some ⟨gs, 0, none⟩)] #[]]).still ((bel_alloc (w.alloc (.cells #[.func (.func 75) #[.pointer (some ⟨gs, 0, none⟩)] #[]] 46)) (.cells (madeCells #[.int .u64 0, .int .u64 0, .int .u64 0] (N * 3)) 112)).alloc (by simp) (.cells #[.slice (some ⟨w.heap.size + 1, 0, none⟩) N N] 108))
  have hx2 : WRow (((w.alloc (.cells #[.func (.func 75) #[.pointer (some ⟨gs, 0, none⟩)] #[]] 46)).alloc (.cells (madeCells #[.int .u64 0, .int .u64 0, .int .u64 0] (N * 3)) 112)).alloc (.cells #[.slice (some ⟨w.heap.size + 1, 0, none⟩) N N] 108)) (w.heap.size + 1) (List.replicate (N * 3) 0) := by
    have := zero_row (w.alloc (.cells #[.func (.func 75) #[.pointer (some ⟨gs, 0, none⟩)] #[]] 46)) (N * 3)
    rw [World.size_alloc] at this
    exact this.still (bel_alloc _ _)
  have hx3 : Box (((w.alloc (.cells #[.func (.func 75) #[.pointer (some ⟨gs, 0, none⟩)] #[]] 46)).alloc (.cells (madeCells #[.int .u64 0, .int .u64 0, .int .u64 0] (N * 3)) 112)).alloc (.cells #[.slice (some ⟨w.heap.size + 1, 0, none⟩) N N] 108)) (w.heap.size + 1 + 1) 108 [.slice (some ⟨w.heap.size + 1, 0, none⟩) N N] := by
    have := Box.new ((w.alloc (.cells #[.func (.func 75) #[.pointer (some ⟨gs, 0, none⟩)] #[]] 46)).alloc (.cells (madeCells #[.int .u64 0, .int .u64 0, .int .u64 0] (N * 3)) 112)) 108 [.slice (some ⟨w.heap.size + 1, 0, none⟩) N N]
    rw [World.size_alloc, World.size_alloc] at this
    exact this
  have h0 : InvW W0 d N gs bs (w.heap.size + 1 + 1) w.heap.size (w.heap.size + 1) v0 v1 vo (.slice a3 d.prods.length c3) L (List.replicate (N * 3) 0) (((w.alloc (.cells #[.func (.func 75) #[.pointer (some ⟨gs, 0, none⟩)] #[]] 46)).alloc (.cells (madeCells #[.int .u64 0, .int .u64 0, .int .u64 0] (N * 3)) 112)).alloc (.cells #[.slice (some ⟨w.heap.size + 1, 0, none⟩) N N] 108)) :=
    ⟨hb.trans (hbA.mono hb.size), hS.still hbA, hx3, hx1, hx2, by simp, fun i => by
      by_cases h : i < N * 3
      · simp [List.getD_eq_getElem?_getD, h]
      · simp [List.getD_eq_getElem?_getD, Nat.le_of_not_lt h], fun a y hy hm => by rw [mem_zero] at hm; cases hm⟩
  have hsz0 := hb.size
  have hlr : ∀ k, ∀ hk : k < d.prods.length, d.prods[k].left.toNat < N ∧ (∀ x ∈ nats (alo (Lf L) d.prods[k].right), x < N) := fun k hk => by
    have h1 := hok.left k hk
    refine ⟨by rw [hN]; omega, alo_nats (fun i hi => by rw [hN]; exact hok.right k hk i hi)⟩
  have hset := settle107 (w.heap.size + 1 + 1) w.heap.size d.prods _ W0 hP' (fun W w' => InvW W0 d N gs bs (w.heap.size + 1 + 1) w.heap.size (w.heap.size + 1) v0 v1 vo (.slice a3 d.prods.length c3) L W w' ∧ Below w.heap.size w w') room (newW d L) (nxtW d L)
    (fun a w' h => h.1.bel)
    (fun a b w' ha hb => by rw [WRow.uniq ha.1.row hb.1.row (by rw [ha.1.len, hb.1.len])])
    (fun a w' o h => ⟨⟨h.1.bel.trans ((bel_alloc w' o).mono h.1.bel.size), h.1.st.still (bel_alloc w' o), h.1.box.still (bel_alloc w' o), h.1.pick.still (bel_alloc w' o), h.1.row.still (bel_alloc w' o), h.1.len, h.1.lt, h.1.snd⟩, h.2.trans ((bel_alloc w' o).mono h.2.size)⟩)
    (fun a k w' hk h hn => by
      unfold nxtW
      rw [if_pos hn]
      obtain ⟨q1, q2⟩ := hlr k hk
      have hll : (d.prods.getD k dflP).left.toNat * 3 + 3 ≤ a.length := by rw [getD_lt _ _ hk, h.1.len]; omega
      exact room_lt _ _ (stepW_len _ _ _) (stepW_ge _ _ _ hll) (stepW_lt _ _ _ h.1.lt) (grew_yes hn))
    (fun a k hn => by unfold nxtW; rw [hn]; rfl)
    (fun k hk a w' vr h hr => by
      obtain ⟨q1, q2⟩ := hlr k hk
      have hl := hok.left k hk
      have hll : d.prods[k].left.toNat * 3 + 3 ≤ a.length := by rw [h.1.len]; omega
      have hin : ∀ i (hi : i < d.prods[k].right.length), 0 ≤ d.prods[k].right[i] ∧ d.prods[k].right[i] < (N : Int) := fun i hi => by rw [hN]; exact hok.right k hk i hi
      have hri := (hr.blk.still h.1.bel).mono (S' := fun c => c ≠ w.heap.size + 1) (fun c hc => by omega)
      refine Calls.mono (leads1_any w' gs bs (w.heap.size + 1 + 1) w.heap.size (w.heap.size + 1) N v0 v1 vo _ L a d.prods[k] vr h.1.st hL hN160 h.1.box h.1.pick h.1.row h.1.len h.1.lt (by omega) (by omega) (by omega) (by omega) hri hin (by omega) (by rw [hN]; omega) (by have := hok.len k hk; omega)) ?_
      rintro e w2 ⟨rfl, h1, h2⟩
      have hst : stpW d L a k = stepW a d.prods[k].left.toNat (nats (alo (Lf L) d.prods[k].right)) := by unfold stpW; rw [getD_lt _ _ hk]
      have hnw : newW d L a k = grew (stepW a d.prods[k].left.toNat (nats (alo (Lf L) d.prods[k].right))) a d.prods[k].left.toNat := by unfold newW; rw [hst, getD_lt _ _ hk]
      have hsame : nxtW d L a k = stepW a d.prods[k].left.toNat (nats (alo (Lf L) d.prods[k].right)) := by
        unfold nxtW
        by_cases hn : newW d L a k = true
        · rw [if_pos hn, hst]
        · rw [if_neg hn]
          have hn' : newW d L a k = false := by simpa using hn
          rw [hnw] at hn'
          exact (grew_no (stepW_len _ _ _) (fun i hi => stepW_other _ _ (fun x hx => by have := q2 x hx; omega) _ hll i hi) hn').symm
      rw [hsame]
      have hb2 : Below w.heap.size w' w2 := h2.below (by omega) h.2.size
      refine ⟨by rw [hnw], ⟨h.1.bel.trans (hb2.mono hsz0), h.1.st.bt h2 (by omega) (by omega), h.1.box.bt h2 (by omega), h.1.pick.bt h2 (by omega), h1, by rw [stepW_len]; exact h.1.len, stepW_lt _ _ _ h.1.lt, ?_⟩, h.2.trans hb2⟩
      exact stepW_sound (Ed d (Lf L)) _ _ (fun x hx => ⟨by have := q2 x hx; omega, k, hk, rfl, hx⟩) _ hll h.1.snd)
    (List.replicate (N * 3) 0) (((w.alloc (.cells #[.func (.func 75) #[.pointer (some ⟨gs, 0, none⟩)] #[]] 46)).alloc (.cells (madeCells #[.int .u64 0, .int .u64 0, .int .u64 0] (N * 3)) 112)).alloc (.cells #[.slice (some ⟨w.heap.size + 1, 0, none⟩) N N] 108)) ⟨h0, hbA⟩
  have HSE := (show Hid _ from hset)
  clear hset h0 hx1 hx2 hx3 hbA hS hP' hb hlr hN hL
  go_enter Try.func74, Try.ntmps74
  go_wp2_with fail
  refine Calls.mono HSE.out ?_
  rintro e w1 ⟨rfl, W, hI, hq⟩
  have G0 : w1.cell? ⟨w.heap.size + 1 + 1, 0, none⟩ = some (.slice (some ⟨w.heap.size + 1, 0, none⟩) N N) := hI.1.box.cell 0 (by simp)
  have HF := (show Hid _ from (⟨hI, hq⟩ : _ ∧ _)); clear hI hq HSE T3 T4
  go_wp2_with fail
  go_ret
  exact ⟨_, W, rfl, HF.out.1.2, HF.out.1.1.row, HF.out.1.1.len, HF.out.1.1.lt, HF.out.1.1.snd, HF.out.2⟩
end Go.Proofs.Ytpbpmhgoppbfnaa
