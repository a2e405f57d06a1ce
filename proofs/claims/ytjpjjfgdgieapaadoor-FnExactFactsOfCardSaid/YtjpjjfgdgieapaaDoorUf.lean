import Derived.Test.YtjpjjfgdgieapaaDoorUe
/-! The program: what follows. -/
namespace Go.Proofs.YtjpjjfgdgieapaaDoor
open Go.RowKit Go.Deep
set_option linter.unusedVariables false
set_option maxRecDepth 100000
set_option linter.unusedSimpArgs false

theorem fl_mono {L : Nat → Int} {Wf V0 F : List Nat} {a y : Nat} (hy : y < 192) (hm : mem F a y = true) : ∀ (r : List Int), (∀ s ∈ r, s.toNat * 3 + 3 ≤ F.length) → mem (fl L Wf V0 F r).1 a y = true := by
  intro r
  induction r with
  | nil => intro _; exact hm
  | cons s r ih =>
    intro h
    unfold fl
    rw [mem_orR _ (by rw [fl_len]; exact h s (by simp)) a y hy, ih (fun x hx => h x (List.mem_cons_of_mem _ hx))]
    rfl
/-- The sets are right. -/
def FolOk (d : Bn) (z : Nat → Bool) (B : Nat → Int → Prop) (F : List Nat) : Prop := ∀ n y, n < d.nons.length → y < 192 → mem F (d.terms.length + n) y = true → Fol d z B n (y : Int)
structure FolH (d : Bn) (z : Nat → Bool) (B : Nat → Int → Prop) (L : List Int) (Wf : List Nat) : Prop where
  hz : ∀ x, x < d.terms.length + d.nons.length → (z x = true ↔ Lf L x = 0)
  hf : ∀ s, s < d.terms.length + d.nons.length → ∀ y, y < 192 → (mem Wf s y = true ↔ if s < d.terms.length then y = s else B (s - d.terms.length) (y : Int))
theorem FolH.vb {d : Bn} (hok : Bok d) {z : Nat → Bool} {B : Nat → Int → Prop} {L : List Int} {Wf V0 : List Nat} (h : FolH d z B L Wf) (h0 : V0.length = 3) {k : Nat} (hk : k < d.prods.length) (i : Nat) {y : Nat} (hy : y < 192) : mem (vb (Lf L) Wf V0 (d.prods[k].right.drop i)) 0 y = true ↔ Bg d.terms.length z B (d.prods[k].right.drop i) y ∨ ((∀ x ∈ d.prods[k].right.drop i, z x.toNat = true) ∧ mem V0 0 y = true) := by
  refine vb_mem h0 y hy _ (fun s hs => ?_)
  obtain ⟨j, hj, rfl⟩ := List.mem_iff_getElem.1 (List.mem_of_mem_drop hs)
  obtain ⟨r1, r2⟩ := hok.right k hk j hj
  have hlt : d.prods[k].right[j].toNat < d.terms.length + d.nons.length := by omega
  refine ⟨r1, h.hz _ hlt, ?_⟩
  rw [h.hf _ hlt y hy]
  by_cases e : d.prods[k].right[j].toNat < d.terms.length
  · rw [if_pos e, if_pos e]
    constructor
    · intro h2; omega
    · intro h2; omega
  · rw [if_neg e, if_neg e]
theorem FolH.snd {d : Bn} (hok : Bok d) {z : Nat → Bool} {B : Nat → Int → Prop} {L : List Int} {Wf F : List Nat} (h : FolH d z B L Wf) (hF : FolOk d z B F) (hFl : F.length = (d.terms.length + d.nons.length) * 3) {k : Nat} (hk : k < d.prods.length) : ∀ (r : List Int) (i : Nat), d.prods[k].right.drop i = r → FolOk d z B (fl (Lf L) Wf (rowS F d.prods[k].left.toNat) F r).1 := by
  intro r
  induction r with
  | nil => intro i _; exact hF
  | cons s r ih =>
    intro i hi n y hn hy hm
    have hil : i < d.prods[k].right.length := by
      rcases Nat.lt_or_ge i d.prods[k].right.length with h1 | h1
      · exact h1
      · rw [List.drop_eq_nil_of_le h1] at hi; cases hi
    rw [List.drop_eq_getElem_cons hil] at hi
    injection hi with e1 e2
    obtain ⟨r1, r2⟩ := hok.right k hk i hil
    unfold fl at hm
    rw [mem_orR _ (by rw [fl_len, hFl]; rw [e1] at r1 r2; omega) _ y hy, Bool.or_eq_true, Bool.and_eq_true] at hm
    rcases hm with hm | ⟨hm1, hm2⟩
    · exact ih (i + 1) e2 n y hn hy hm
    · have hs := of_decide_eq_true hm1
      rw [← e2, h.vb hok rfl hk (i + 1) hy, mem_rowS _ _ _ hy] at hm2
      have hl := hok.left k hk
      have := (Fol.closed d z B).2 k hk i hil (by rw [e1]; omega) y (by
        rcases hm2 with hm2 | ⟨g1, g2⟩
        · exact .inl hm2
        · refine .inr ⟨g1, ?_⟩
          have e3 : d.terms.length + (d.prods[k].left.toNat - d.terms.length) = d.prods[k].left.toNat := by omega
          exact hF (d.prods[k].left.toNat - d.terms.length) y (by omega) hy (by rw [e3]; exact g2))
      rw [e1] at this
      have e4 : s.toNat - d.terms.length = n := by omega
      rw [e4] at this
      exact this
theorem FolH.all {d : Bn} (hok : Bok d) {z : Nat → Bool} {B : Nat → Int → Prop} {L : List Int} {Wf F : List Nat} (h : FolH d z B L Wf) (hFl : F.length = (d.terms.length + d.nons.length) * 3) (hb : mem F d.terms.length d.terms.length = true) (hq : ∀ k (hk : k < d.prods.length), (fl (Lf L) Wf (rowS F d.prods[k].left.toNat) F d.prods[k].right).2 = false) (n y : Nat) (hn : n < d.nons.length) (hy : y < 192) (hf : Fol d z B n y) : mem F (d.terms.length + n) y = true := by
  have h60 := hok.nt
  have hG := hf (fun n y => n < d.nons.length → 0 ≤ y → y < 192 → mem F (d.terms.length + n) y.toNat = true) ⟨fun _ _ _ => by simpa using hb, fun k hk i hi ht y hy hn h0 h1 => by
    obtain ⟨r1, r2⟩ := hok.right k hk i hi
    have hl := hok.left k hk
    obtain ⟨yy, rfl⟩ : ∃ yy : Nat, y = yy := ⟨y.toNat, by omega⟩
    have hyy : yy < 192 := by omega
    rw [Int.toNat_natCast]
    have e3 : d.terms.length + (d.prods[k].right[i].toNat - d.terms.length) = d.prods[k].right[i].toNat := by omega
    rw [e3]
    refine (fl_no d.prods[k].right (fun s hs => ?_) (hq k hk)).2 i hi yy hyy ((h.vb hok rfl hk (i + 1) hyy).2 ?_)
    · obtain ⟨j, hj, rfl⟩ := List.mem_iff_getElem.1 hs
      have := hok.right k hk j hj
      rw [hFl]
      omega
    · rcases hy with hy | ⟨g1, g2⟩
      · exact .inl hy
      · refine .inr ⟨g1, ?_⟩
        have e4 : d.terms.length + (d.prods[k].left.toNat - d.terms.length) = d.prods[k].left.toNat := by omega
        have := g2 (by omega) h0 h1
        rw [e4, Int.toNat_natCast] at this
        rw [mem_rowS _ _ _ hyy]
        exact this⟩ hn (by omega) (by omega)
  rw [Int.toNat_natCast] at hG
  exact hG
/-- The state of the search for what follows. -/
structure InvO (d : Bn) (z : Nat → Bool) (B : Nat → Int → Prop) (w1 : World) (bf : Nat) (F : List Nat) (w : World) : Prop where
  bt : Bt bf w1 w
  row : WRow w bf F
  len : F.length = (d.terms.length + d.nons.length) * 3
  lt : ∀ i, F.getD i 0 < 2 ^ 64
  snd : FolOk d z B F
  beg : mem F d.terms.length d.terms.length = true
def dFl (d : Bn) (L : List Int) (Wf F : List Nat) (k : Nat) : List Nat × Bool := fl (Lf L) Wf (rowS F (d.prods.getD k dflP).left.toNat) F (d.prods.getD k dflP).right
/-- Where nothing is new the state is as it was. -/
def nxF (d : Bn) (L : List Int) (Wf F : List Nat) (k : Nat) : List Nat := if (dFl d L Wf F k).2 then (dFl d L Wf F k).1 else F
set_option maxHeartbeats 6400000 in
theorem follows_any {S : Nat → Prop} (d : Bn) (hok : Bok d) (W0 : World) (N gs bs bq : Nat) (a0 : Option Addr) (c0 : Nat) (v1 vo v3 : Value) (hP : Pds W0 S d.prods v3) (L : List Int) (Wf : List Nat) (z : Nat → Bool) (B : Nat → Int → Prop) (w : World) (hb : Below W0.heap.size W0 w) (hS : St w gs bs (.slice a0 d.terms.length c0) v1 vo v3 L) (hL : L.length = N) (hN : N = d.terms.length + d.nons.length) (hQ : WRow w bq Wf) (hQN : Wf.length = N * 3) (hQl : ∀ i, Wf.getD i 0 < 2 ^ 64) (hH : FolH d z B L Wf) :
    Calls Tryd.prog 70 #[.pointer (some ⟨gs, 0, none⟩), .slice (some ⟨bq, 0, none⟩) N N] w fun e w' => ∃ b F, e = .returned (.slice (some ⟨b, 0, none⟩) N N) ∧ Below w.heap.size w w' ∧ w.heap.size ≤ b ∧ WRow w' b F ∧ F.length = N * 3 ∧ (∀ i, F.getD i 0 < 2 ^ 64) ∧ ∀ n y, n < d.nons.length → y < 192 → (mem F (d.terms.length + n) y = true ↔ Fol d z B n y) := by
  have hN160 : N ≤ 160 := by rw [hN]; have := hok.nt; have := hok.nn.2; omega
  have hmk := fun w => run_makeSets N (by omega) w
  obtain ⟨a3, c3, e3, _⟩ := hP.form
  have hP' := hP
  rw [e3] at hP' hS
  clear hP
  have hlt1 := hS.box.lt
  have hlt2 := World.rowIs.lt hS.row
  have hlt3 := World.rowIs.lt hQ
  have hbA : Below w.heap.size w ((((w.alloc (.cells #[.pointer (some ⟨gs, 0, none⟩)] 58)).alloc (.cells #[.slice (some ⟨bq, 0, none⟩) N N] 103)).alloc (.cells (madeCells #[.int .u64 0, .int .u64 0, .int .u64 0] (N * 3)) 102)).alloc (.cells #[.slice (some ⟨w.heap.size + 1 + 1, 0, none⟩) N N] 103)) := (((bel_alloc w _).alloc (by simp) _).alloc (by simp; omega) _).alloc (by simp; omega) _
  obtain ⟨w4, hw4⟩ : ∃ w4, ((((w.alloc (.cells #[.pointer (some ⟨gs, 0, none⟩)] 58)).alloc (.cells #[.slice (some ⟨bq, 0, none⟩) N N] 103)).alloc (.cells (madeCells #[.int .u64 0, .int .u64 0, .int .u64 0] (N * 3)) 102)).alloc (.cells #[.slice (some ⟨w.heap.size + 1 + 1, 0, none⟩) N N] 103)) = w4 := ⟨_, rfl⟩
  have hsz4 : w4.heap.size = w.heap.size + 1 + 1 + 1 + 1 := by rw [← hw4]; simp
  have T0 : ((w.alloc (.cells #[.pointer (some ⟨gs, 0, none⟩)] 58)).alloc (.cells #[.slice (some ⟨bq, 0, none⟩) N N] 103)).cell? ⟨w.heap.size + 1, 0, none⟩ = some (.slice (some ⟨bq, 0, none⟩) N N) := by
    have := (Box.new (w.alloc (.cells #[.pointer (some ⟨gs, 0, none⟩)] 58)) 103 [.slice (some ⟨bq, 0, none⟩) N N]).cell 0 (by simp)
    rw [World.size_alloc] at this
    exact this
  have hx1 : Box w4 w.heap.size 58 [.pointer (some ⟨gs, 0, none⟩)] := by
    rw [← hw4]
    exact (((Box.new w 58 [.pointer (some ⟨gs, 0, none⟩)]).still (bel_alloc _ _)).still (bel_alloc _ _)).still (bel_alloc _ _)
  have hx2 : Box w4 (w.heap.size + 1) 103 [.slice (some ⟨bq, 0, none⟩) N N] := by
    have := Box.new (w.alloc (.cells #[.pointer (some ⟨gs, 0, none⟩)] 58)) 103 [.slice (some ⟨bq, 0, none⟩) N N]
    rw [World.size_alloc] at this
    rw [← hw4]
    exact (this.still (bel_alloc _ _)).still (bel_alloc _ _)
  have hx3 : WRow w4 (w.heap.size + 1 + 1) (List.replicate (N * 3) 0) := by
    have := zero_row ((w.alloc (.cells #[.pointer (some ⟨gs, 0, none⟩)] 58)).alloc (.cells #[.slice (some ⟨bq, 0, none⟩) N N] 103)) (N * 3)
    rw [World.size_alloc, World.size_alloc] at this
    rw [← hw4]
    exact this.still (bel_alloc _ _)
  have hx4 : Box w4 (w.heap.size + 1 + 1 + 1) 103 [.slice (some ⟨w.heap.size + 1 + 1, 0, none⟩) N N] := by
    have := Box.new (((w.alloc (.cells #[.pointer (some ⟨gs, 0, none⟩)] 58)).alloc (.cells #[.slice (some ⟨bq, 0, none⟩) N N] 103)).alloc (.cells (madeCells #[.int .u64 0, .int .u64 0, .int .u64 0] (N * 3)) 102)) 103 [.slice (some ⟨w.heap.size + 1 + 1, 0, none⟩) N N]
    rw [World.size_alloc, World.size_alloc, World.size_alloc] at this
    rw [← hw4]
    exact this
  rw [hw4] at hbA
  obtain ⟨bf, hbf⟩ : ∃ bf, w.heap.size + 1 + 1 = bf := ⟨_, rfl⟩
  have hbw : w.heap.size < bf := by omega
  have hntN : d.terms.length < N := by rw [hN]; have := hok.nn.1; omega
  have hZl : (List.replicate (N * 3) 0).length = N * 3 := List.length_replicate
  have hZt : ∀ i, (List.replicate (N * 3) 0).getD i 0 < 2 ^ 64 := fun i => by
    by_cases h : i < N * 3
    · simp [List.getD_eq_getElem?_getD, h]
    · simp [List.getD_eq_getElem?_getD, Nat.le_of_not_lt h]
  have hd4 : Below w4.heap.size w4 w4.drew := (Below.refl w4.heap.size w4).drew
  have HADD : Hid (Calls Tryd.prog 67 #[.pointer (some ⟨bf, d.terms.length * 3, none⟩), .int .i64 (d.terms.length : Nat)] w4.drew fun e w' => e = .returned (.tuple #[]) ∧ InvO d z B w4 bf (add1 (List.replicate (N * 3) 0) d.terms.length d.terms.length) w') := by
    have h60 := hok.nt
    have hidx : d.terms.length * 3 + d.terms.length / 64 < (List.replicate (N * 3) 0).length := by rw [hZl]; omega
    have h1 := add_any bf (d.terms.length * 3) (List.replicate (N * 3) 0) (d.terms.length / 64) (d.terms.length % 64) (by omega) (Nat.mod_lt _ (by omega)) w4.drew (by rw [← hbf]; exact hx3.still hd4) hidx (by rw [← getD_lt _ 0 hidx]; exact hZt _)
    rw [Nat.div_add_mod] at h1
    refine Calls.mono h1 ?_
    rintro e w' ⟨rfl, h2, h3⟩
    have ha1 : (List.replicate (N * 3) 0).set (d.terms.length * 3 + d.terms.length / 64) ((List.replicate (N * 3) 0)[d.terms.length * 3 + d.terms.length / 64] ||| 2 ^ (d.terms.length % 64)) = add1 (List.replicate (N * 3) 0) d.terms.length d.terms.length := by unfold add1; rw [getD_lt _ _ hidx]
    rw [ha1] at h2
    have hm : ∀ a y, y < 192 → mem (add1 (List.replicate (N * 3) 0) d.terms.length d.terms.length) a y = decide (a = d.terms.length ∧ y = d.terms.length) := fun a y hy => by
      rw [mem_add1 _ _ _ (by rw [hZl]; omega) (by omega) a y hy, mem_zero, Bool.false_or]
    refine ⟨rfl, (Bt.of_below hd4).trans h3, h2, by rw [add1_len, hZl, hN], add1_lt _ hZt _ _, fun n y hn hy h => ?_, ?_⟩
    · rw [hm _ _ hy] at h
      obtain ⟨h4, rfl⟩ := of_decide_eq_true h
      have : n = 0 := by omega
      subst this
      exact (Fol.closed d z B).1
    · rw [hm _ _ (by omega)]
      simp
  have HST4 := (show Hid (Calls Tryd.prog 66 #[.pointer (some ⟨gs, 0, none⟩)] w4 fun e w' => e = .returned (.int .i64 (d.terms.length : Nat)) ∧ w' = w4) from start_any w4 gs bs _ .nilFunc d.terms.length c0 a0 v1 vo _ L rfl (hS.still hbA))
  have HST5 := (show Hid (Calls Tryd.prog 66 #[.pointer (some ⟨gs, 0, none⟩)] w4.drew fun e w' => e = .returned (.int .i64 (d.terms.length : Nat)) ∧ w' = w4.drew) from start_any w4.drew gs bs _ .nilFunc d.terms.length c0 a0 v1 vo _ L rfl ((hS.still hbA).still hd4))
  rw [hbf] at hx4
  have hB0 : Below W0.heap.size W0 w4 := hb.trans (hbA.mono hb.size)
  have hsz0 := hb.size
  -- what stands in each world of the search
  have HLOW := (show Hid (∀ F w', InvO d z B w4 bf F w' → Below W0.heap.size W0 w' ∧ St w' gs bs (.slice a0 d.terms.length c0) v1 vo (.slice a3 d.prods.length c3) L ∧ Box w' w.heap.size 58 [.pointer (some ⟨gs, 0, none⟩)] ∧ Box w' (w.heap.size + 1) 103 [.slice (some ⟨bq, 0, none⟩) N N] ∧ Box w' (bf + 1) 103 [.slice (some ⟨bf, 0, none⟩) N N] ∧ WRow w' bq Wf) from fun F w' hI => by
    have hg : bf + 1 = w.heap.size + 1 + 1 + 1 := by omega
    refine ⟨hB0.trans (hI.bt.below (by omega) hB0.size), (hS.still hbA).bt hI.bt (by omega) (by omega), hx1.bt hI.bt (by omega), hx2.bt hI.bt (by omega), ?_, World.rowIs.of_block (hQ.still hbA) (hI.bt.block _ (World.rowIs.lt (hQ.still hbA)) (by omega))⟩
    exact hx4.bt hI.bt (by omega))
  have hset := settle88 (bf + 1) w.heap.size (w.heap.size + 1) d.prods _ W0 hP' (fun F w' => InvO d z B w4 bf F w') room (fun F k => (dFl d L Wf F k).2) (nxF d L Wf)
    (fun F w' hI => (HLOW.out F w' hI).1)
    (fun a b w' ha hb => by rw [WRow.uniq ha.row hb.row (by rw [ha.len, hb.len])])
    (fun F w' o hI => ⟨hI.bt.trans (Bt.of_below (bel_alloc w' o)), hI.row.still (bel_alloc w' o), hI.len, hI.lt, hI.snd, hI.beg⟩)
    (fun F k w' hk hI hn => by
      have hs : ∀ s ∈ d.prods[k].right, s.toNat * 3 + 3 ≤ F.length := fun s hs => by
        obtain ⟨j, hj, rfl⟩ := List.mem_iff_getElem.1 hs
        have := hok.right k hk j hj
        rw [hI.len]
        omega
      unfold nxF
      rw [if_pos hn]
      unfold dFl at hn ⊢
      rw [getD_lt _ _ hk] at hn ⊢
      exact (fl_room (rowS_lt hI.lt _) hQl hI.lt _ hs).2 hn)
    (fun F k hn => by unfold nxF; rw [if_neg (by rw [hn]; simp)])
    (fun k hk F w' vr hI hr => by
      obtain ⟨g1, g2, g3, g4, g5, g6⟩ := HLOW.out F w' hI
      have hl := hok.left k hk
      have hin : ∀ i (hi : i < d.prods[k].right.length), 0 ≤ d.prods[k].right[i] ∧ d.prods[k].right[i] < (N : Int) := fun i hi => by rw [hN]; exact hok.right k hk i hi
      have hri := (hr.blk.still g1).mono (S' := fun c => c ≠ bf) (fun c hc => by omega)
      have e : dFl d L Wf F k = fl (Lf L) Wf (rowS F d.prods[k].left.toNat) F d.prods[k].right := by unfold dFl; rw [getD_lt _ _ hk]
      have hs : ∀ s ∈ d.prods[k].right, s.toNat * 3 + 3 ≤ F.length := fun s hs => by
        obtain ⟨j, hj, rfl⟩ := List.mem_iff_getElem.1 hs
        have := hok.right k hk j hj
        rw [hI.len]
        omega
      refine Calls.mono (follows88 w' gs bs (bf + 1) w.heap.size (w.heap.size + 1) bf bq N _ v1 vo _ L Wf F d.prods[k] vr g2 hL hN160 g5 g3 g4 hI.row (by rw [hI.len, hN]) hI.lt g6 hQN hQl (by omega) (by omega) (by omega) (by omega) (by omega) (by omega) hri hin (by omega) (by rw [hN]; omega) (hok.len k hk)) ?_
      rintro e w2 ⟨rfl, h1, h2⟩
      have en : nxF d L Wf F k = (fl (Lf L) Wf (rowS F d.prods[k].left.toNat) F d.prods[k].right).1 := by
        unfold nxF
        rw [e]
        by_cases hn : (fl (Lf L) Wf (rowS F d.prods[k].left.toNat) F d.prods[k].right).2 = true
        · rw [if_pos hn]
        · rw [if_neg hn, (fl_no _ hs (by simpa using hn)).1]
      rw [e, en]
      refine ⟨rfl, hI.bt.trans h2, h1, by rw [fl_len]; exact hI.len, fl_lt (rowS_lt hI.lt _) hQl hI.lt _, hH.snd hok hI.snd hI.len hk _ 0 rfl, fl_mono (by have := hok.nt; omega) hI.beg _ hs⟩)
  have HSE : Hid (∀ F w', InvO d z B w4 bf F w' → Calls Tryd.prog 62 #[.slice a3 d.prods.length c3, .func (.func 88) #[] #[.pointer (some ⟨bf + 1, 0, none⟩), .pointer (some ⟨w.heap.size, 0, none⟩), .pointer (some ⟨w.heap.size + 1, 0, none⟩)]] w' fun e w'' => e = .returned (.tuple #[]) ∧ ∃ F', InvO d z B w4 bf F' w'' ∧ ∀ k, k < d.prods.length → (dFl d L Wf F' k).2 = false) := hset
  have HFIN : Hid (∀ F' w'', InvO d z B w4 bf F' w'' → (∀ k, k < d.prods.length → (dFl d L Wf F' k).2 = false) → w''.cell? ⟨bf + 1, 0, none⟩ = some (.slice (some ⟨bf, 0, none⟩) N N) ∧ ∃ b F, Ending.returned (.slice (some ⟨bf, 0, none⟩) N N) = .returned (.slice (some ⟨b, 0, none⟩) N N) ∧ Below w.heap.size w w'' ∧ w.heap.size ≤ b ∧ WRow w'' b F ∧ F.length = N * 3 ∧ (∀ i, F.getD i 0 < 2 ^ 64) ∧ ∀ n y, n < d.nons.length → y < 192 → (mem F (d.terms.length + n) y = true ↔ Fol d z B n y)) := fun F' w'' hI hq => by
    obtain ⟨_, _, _, _, g5, _⟩ := HLOW.out F' w'' hI
    refine ⟨g5.cell 0 (by simp), bf, F', rfl, hbA.trans (hI.bt.below (by omega) hbA.size), by omega, hI.row, by rw [hI.len, hN], hI.lt, fun n y hn hy => ⟨hI.snd n y hn hy, hH.all hok hI.len hI.beg (fun k hk => ?_) n y hn hy⟩⟩
    have := hq k hk
    unfold dFl at this
    rw [getD_lt _ _ hk] at this
    exact this
  have HC4 : Hid (∀ F w', InvO d z B w4 bf F w' → w'.cell? ⟨w.heap.size, 0, none⟩ = some (.pointer (some ⟨gs, 0, none⟩)) ∧ w'.cell? ⟨gs, 3, none⟩ = some (.slice a3 d.prods.length c3)) := fun F w' hI => by
    obtain ⟨_, g2, g3, _⟩ := HLOW.out F w' hI
    exact ⟨g3.cell 0 (by simp), g2.box.cell 3 (by simp)⟩
  have P0 : w4.cell? ⟨w.heap.size, 0, none⟩ = some (.pointer (some ⟨gs, 0, none⟩)) := hx1.cell 0 (by simp)
  have P5 : w4.cell? ⟨bf + 1, 0, none⟩ = some (.slice (some ⟨bf, 0, none⟩) N N) := hx4.cell 0 (by simp)
  generalize add1 (List.replicate (N * 3) 0) d.terms.length d.terms.length = F1 at *
  clear hset HLOW hx1 hx2 hx3 hx4 hS hQ hbA hP' hB0 hZt hd4 hb hok hH hQl hZl hsz4 hlt1 hlt2 hlt3 hQN hL hbw hsz0 hN
  subst hbf
  go_enter Tryd.func70, Tryd.ntmps70
  go_wp2_with fail
  refine Calls.mono HST4.out ?_
  rintro e w5 ⟨rfl, hw5⟩
  subst hw5
  clear hw4 T0 HST4 hmk
  go_upto_region 3 with fail
  go_cut [] from 12 to 17 (fun wx => Hid (InvO d z B w5 (w.heap.size + 1 + 1) F1 wx))
  case first =>
    clear HSE HFIN HC4
    go_region_with (first | (go_at_call 66; refine Calls.mono HST5.out ?_; rintro e w6 ⟨rfl, rfl⟩) | (go_at_call 67; refine Calls.mono HADD.out ?_; rintro e w6 ⟨rfl, hI⟩; have HI := (show Hid (InvO d z B w5 (w.heap.size + 1 + 1) F1 w6) from hI); clear hI))
    all_goals
      go_wp2_with fail
      go_meet
      exact HI
  case rest =>
    clear P0 P5
    obtain ⟨c0, c1⟩ := HC4.out F1 wc hcut.out
    go_wp2_with fail
    refine Calls.mono (HSE.out F1 wc hcut.out) ?_
    rintro e w7 ⟨rfl, F', hI, hq⟩
    obtain ⟨c5, hfin⟩ := HFIN.out F' w7 hI hq
    have HN := (show Hid _ from hfin)
    clear hI hq hfin HSE HFIN HC4 c0 c1 hcut
    go_wp2_with fail
    go_ret
    exact HN.out
end Go.Proofs.YtjpjjfgdgieapaaDoor
