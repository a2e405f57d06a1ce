import Derived.Test.YtaimlmjgicmbeaaMk3
/-! Marks: plain rules. -/
namespace Go.Proofs.Ytaimlmjgicmbeaa
open Go.RowKit Go.Deep
set_option linter.unusedVariables false
set_option maxRecDepth 100000
set_option linter.unusedSimpArgs false

theorem TmsO.row {w : World} {S : Nat → Prop} {l : List Tm} {v : Value} (h : TmsO w S l v) : ∃ b, v = .slice (some ⟨b, 0, none⟩) l.length l.length ∧ S b ∧ l.length ≤ 1048576 ∧ ∃ f, w.rowIs b 79 (l.length * 3) f := by
  obtain ⟨b, f, hv, h1, hn, hr, _⟩ := h
  exact ⟨b, hv, h1, hn, f, hr⟩
theorem StrsO.row {w : World} {S : Nat → Prop} {l : List ByteArray} {v : Value} (h : StrsO w S l v) : ∃ b, v = .slice (some ⟨b, 0, none⟩) l.length l.length ∧ S b ∧ l.length ≤ 1048576 ∧ ∃ f, w.rowIs b 9 l.length f := by
  obtain ⟨b, f, hv, h1, hn, hr, _⟩ := h
  exact ⟨b, hv, h1, hn, f, hr⟩
theorem PdsO.row {w : World} {lo hi : Nat} {l : List Pd} {v : Value} (h : PdsO w (fun b => lo ≤ b ∧ b < hi) l v) : ∃ b, v = .slice (some ⟨b, 0, none⟩) l.length l.length ∧ (lo ≤ b ∧ b < hi) ∧ l.length ≤ 1048576 ∧ PM w lo hi b l.length := by
  obtain ⟨b, f, hv, h1, hn, hr, hf⟩ := h
  refine ⟨b, hv, h1, hn, f, hr, fun i hi => ?_⟩
  obtain ⟨h2, c, h3, h4, h5⟩ := hf i hi
  exact ⟨c, _, _, h3, h2.2.2.2.2.2, h4.1, h4.2, h5⟩
theorem Four.out {w w' : World} {g lo hi : Nat} {c0 c1 c2 c3 : Value} (h : Four w g c0 c1 c2 c3) (ho : Out lo hi w w') (hg : g < lo ∨ hi ≤ g) : Four w' g c0 c1 c2 c3 := by
  have hb := ho.2.2.2.2 g (lt_of_cell h.1) hg
  exact ⟨(World.cell?_of_block (w := w) hb).trans h.1, (World.cell?_of_block (w := w) hb).trans h.2.1, (World.cell?_of_block (w := w) hb).trans h.2.2.1, (World.cell?_of_block (w := w) hb).trans h.2.2.2⟩
/-- A row of one type stays when a row of another type's block is written. -/
theorem row_out {w w' : World} {b c t t' n m : Nat} {f g : Nat → Value} (h : w.rowIs b t n f) (h' : w.rowIs c t' m g) (ht : t ≠ t') (ho : Out c (c + 1) w w') : w'.rowIs b t n f :=
  World.rowIs.of_block h (ho.2.2.2.2 b (World.rowIs.lt h) (by have := row_ne h h' ht; omega))
theorem PM.past {w w' : World} {lo hi b l c t m : Nat} {g : Nat → Value} (h : PM w lo hi b l) (hc : w.rowIs c t m g) (ht : t ≠ 66) (ht' : t ≠ 3) (ho : Out c (c + 1) w w') : PM w' lo hi b l := by
  obtain ⟨f, hr, hf⟩ := h
  refine ⟨f, row_out hr hc (fun e => ht e.symm) ho, fun i hi => ?_⟩
  obtain ⟨c', m', g', h1, h2, h3, h4, h5⟩ := hf i hi
  exact ⟨c', m', g', h1, h2, h3, h4, row_out h5 hc (fun e => ht' e.symm) ho⟩
set_option maxHeartbeats 3200000 in
theorem markBnf_any (d : Bn) (u0 u1 u3 : Value) (w : World) (lo hi : Nat) (h : BOwn w (fun b => lo ≤ b ∧ b < hi) d u0 u1 u3) (hhi : hi ≤ w.heap.size) :
    Calls Try.prog 12 #[.agg #[u0, u1, .int .i64 d.own, u3], .int .i64 1] w fun e w' => ∃ k : Nat, e = .returned (.int .i64 k) ∧ 1 ≤ k ∧ k ≤ 35184372088832 ∧ Out lo hi w w' := by
  obtain ⟨b0, rfl, hb0, hn0, r0⟩ := h.terms.row
  obtain ⟨b1, rfl, hb1, hn1, r1⟩ := h.nons.row
  obtain ⟨b3, rfl, hb3, hn3, r3⟩ := h.prods.row
  clear h
  generalize d.terms.length = l0 at *
  generalize d.nons.length = l1 at *
  generalize d.prods.length = l3 at *
  have hba := bel_alloc w (.cells #[.slice (some ⟨b0, 0, none⟩) l0 l0, .slice (some ⟨b1, 0, none⟩) l1 l1, .int .i64 d.own, .slice (some ⟨b3, 0, none⟩) l3 l3] 34)
  have hq := four_box w (.slice (some ⟨b0, 0, none⟩) l0 l0) (.slice (some ⟨b1, 0, none⟩) l1 l1) (.int .i64 d.own) (.slice (some ⟨b3, 0, none⟩) l3 l3) 34
  obtain ⟨f0, r0⟩ := r0
  obtain ⟨f1, r1⟩ := r1
  have q0 := World.rowIs.of_block r0 (hba.block _ (World.rowIs.lt r0))
  have q1 := World.rowIs.of_block r1 (hba.block _ (World.rowIs.lt r1))
  have q3 := r3.still hba
  have H0 := (show Hid _ from markTms_any l0 b0 1 _ ⟨_, q0⟩ hn0 (by omega) (by omega))
  have HQ := (show Hid _ from (⟨q0, q1, q3, hba, hq⟩ : _ ∧ _ ∧ _ ∧ _ ∧ _))
  obtain ⟨x0, x1, x2, x3⟩ := hq
  clear r0 r1 r3 q0 q1 q3 hba
  go_enter Try.func12, Try.ntmps12
  go_wp2_with fail
  refine Calls.mono H0.out ?_
  rintro e w1 ⟨rfl, ho1⟩
  obtain ⟨q0, q1, q3, hba, hq⟩ := HQ.out
  have p1 := row_out q1 q0 (by decide) ho1
  have p3 := q3.past q0 (by decide) (by decide) ho1
  have o1 := Out.trans (Out.of_below hba) (Out.mono ho1 hb0.1 (by omega) : Out lo hi _ w1)
  have pq := hq.out ho1 (by omega)
  have H1 := (show Hid _ from markStrs_any l1 b1 (1 + l0 * 3) w1 ⟨_, p1⟩ hn1 (by omega) (by omega))
  clear x0 x1 x2 x3 HQ q0 q1 q3 hba hq ho1 H0
  have HQ := (show Hid _ from (⟨p1, p3, o1, pq⟩ : _ ∧ _ ∧ _ ∧ _))
  obtain ⟨x0, x1, x2, x3⟩ := pq
  clear p1 p3 o1
  generalize hk1 : 1 + l0 * 3 = k1 at *
  have hk1' : 1 ≤ k1 ∧ k1 ≤ 3145729 := by omega
  clear hk1
  go_wp2_with fail
  refine Calls.mono H1.out ?_
  rintro e w2 ⟨rfl, ho2⟩
  obtain ⟨p1, p3, o1, pq⟩ := HQ.out
  have s3 := p3.past p1 (by decide) (by decide) ho2
  have o2 := Out.trans o1 (Out.mono ho2 hb1.1 (by omega) : Out lo hi _ w2)
  have sq := pq.out ho2 (by omega)
  have H2 := (show Hid _ from markPds_any l3 b3 lo hi (k1 + l1) w2 s3 hb3.1 hb3.2 hn3 (by omega) (by omega))
  clear x0 x1 x2 x3 HQ p1 p3 o1 pq ho2 H1 s3
  have HO := (show Hid _ from o2); clear o2
  obtain ⟨x0, x1, x2, x3⟩ := sq
  generalize hk2 : k1 + l1 = k2 at *
  have hk2' : 1 ≤ k2 ∧ k2 ≤ 4194305 := by omega
  clear hk2
  go_wp2_with fail
  refine Calls.mono H2.out ?_
  rintro e w3 ⟨k3, rfl, hk3, hk3', ho3⟩
  have HO3 := (show Hid _ from Out.trans HO.out ho3); clear ho3 x0 x1 x2 x3
  go_wp2_with fail
  go_ret
  exact ⟨k3, rfl, by omega, by omega, HO3.out⟩
end Go.Proofs.Ytaimlmjgicmbeaa
