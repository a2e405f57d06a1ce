import Derived.Test.YtofobmdljelmgaaBx4
import Derived.Deep.RegionHeld3
namespace Go.Proofs.Ytofobmdljelmgaa
open Go.RowKit Go.Deep Go.Lib
set_option linter.unusedVariables false
set_option maxRecDepth 100000
set_option linter.unusedSimpArgs false

theorem big_any (a : Option Addr) (n cap : Nat) (w : World) (hn : n ≤ 2 ^ 63 - 1) : Calls Try.prog 6 #[.slice a n cap] w fun e w' => e = .returned (.bool (decide (1048576 < n))) ∧ w' = w := by
  by_cases h : 1048576 < n
  · have h' : (1048576 : Int) < n := by omega
    go_enter Try.func6, Try.ntmps6
    go_wp2_with fail
    go_ret
    exact ⟨by simp [h], rfl⟩
  · have h' : (n : Int) ≤ 1048576 := by omega
    go_enter Try.func6, Try.ntmps6
    go_wp2_with fail
    go_ret
    exact ⟨by simp [h]; omega, rfl⟩

/-- The cells that sameTree's loop loads. -/
def HeldS (g : Tr) (h b1 o1 b2 o2 : Nat) (s1 s2 v1 v2 : Value) (w' : World) : Prop := w'.cell? ⟨h, 3, none⟩ = some s1 ∧ w'.cell? ⟨h + 1, 3, none⟩ = some s2 ∧ (w'.cell? ⟨b1, o1, none⟩ = some (.string g.name) ∧ w'.cell? ⟨b1, o1 + 1, none⟩ = some (.string g.text) ∧ w'.cell? ⟨b1, o1 + 2, none⟩ = some (.bool g.leaf) ∧ w'.cell? ⟨b1, o1 + 3, none⟩ = some (v1)) ∧ w'.cell? ⟨b2, o2, none⟩ = some (.string g.name) ∧ w'.cell? ⟨b2, o2 + 1, none⟩ = some (.string g.text) ∧ w'.cell? ⟨b2, o2 + 2, none⟩ = some (.bool g.leaf) ∧ w'.cell? ⟨b2, o2 + 3, none⟩ = some (v2)
theorem HeldS.still {g : Tr} {h b1 o1 b2 o2 : Nat} {s1 s2 v1 v2 : Value} {w w' : World} (H : HeldS g h b1 o1 b2 o2 s1 s2 v1 v2 w) (hb : Below w.heap.size w w') : HeldS g h b1 o1 b2 o2 s1 s2 v1 v2 w' := by
  have e : ∀ {b o : Nat} {v : Value}, w.cell? ⟨b, o, none⟩ = some v → w'.cell? ⟨b, o, none⟩ = some v := fun h => (hb.cell (lt_of_cell h)).trans h
  obtain ⟨h0, h1, ⟨h2, h3, h4, h5⟩, h6, h7, h8, h9⟩ := H
  exact ⟨e h0, e h1, ⟨e h2, e h3, e h4, e h5⟩, e h6, e h7, e h8, e h9⟩

set_option maxHeartbeats 800000 in
theorem same_any {S S' : Nat → Prop} (t : Tr) : ∀ (v v' : Value) (w : World), Lies w S t v → Lies w S' t v' →
    Calls Try.prog 12 #[t.val v, t.val v'] w fun e w' => e = .returned (.bool true) ∧ Below w.heap.size w w' := by
  refine Tr.ind (P := fun t => ∀ (v v' : Value) (w : World), Lies w S t v → Lies w S' t v' →
    Calls Try.prog 12 #[t.val v, t.val v'] w fun e w' => e = .returned (.bool true) ∧ Below w.heap.size w w') ?_ t
  intro n x l k ih v v' w h1 h2
  obtain ⟨a1, cap1, b1, off1, sv1, rfl, hn, hx, hc1, hm1, ha1, hcell1, hk1⟩ := h1.out
  obtain ⟨a2, cap2, b2, off2, sv2, rfl, _, _, hc2, hm2, ha2, hcell2, hk2⟩ := h2.out
  dsimp only at hn hx hc1 ha1 hcell1 hk1 hc2 ha2 hcell2 hk2 ⊢
  have HI := (show Hid _ from ih); clear ih
  have HC := (show Hid _ from (⟨hcell1, hcell2⟩ : _ ∧ _)); clear hcell1 hcell2
  have HK := (show Hid _ from (⟨hk1, hk2⟩ : _ ∧ _)); clear hk1 hk2
  have HA := (show Hid _ from (⟨ha1, ha2⟩ : _ ∧ _)); clear ha1 ha2
  unfold maxLen at hm1 hm2
  simp only [Tr.val]
  clear h1 h2
  go_enter Try.func12, Try.ntmps12
  go_wp2_with fail
  go_loopw [5] (fun i wr => ∃ (j : Nat), j ≤ k.length ∧ i = .int .i64 j ∧ Below ((w.alloc (.cells #[.string n, .string x, .bool l, .slice a1 k.length cap1] 39)).alloc (.cells #[.string n, .string x, .bool l, .slice a2 k.length cap2] 39)).heap.size ((w.alloc (.cells #[.string n, .string x, .bool l, .slice a1 k.length cap1] 39)).alloc (.cells #[.string n, .string x, .bool l, .slice a2 k.length cap2] 39)) wr) (fun i _ => k.length - (intOf i).toNat)
  case atStart => exact ⟨0, Nat.zero_le _, rfl, Below.refl _ _⟩
  case round =>
    obtain ⟨j, hj, rfl, hbw⟩ := hrel
    have hbw' : Below w.heap.size w wr := ((bel_alloc _ _).alloc (by simp) _).trans (hbw.mono (by simp; omega))
    obtain ⟨hcc, hff⟩ := bcell hbw
    have A1 : wr.cell? ⟨w.heap.size, 3, none⟩ = some (.slice a1 k.length cap1) := by rw [hcc _ _ (by simp; omega)]; simp [go_sem]
    have A2 : wr.cell? ⟨w.heap.size + 1, 3, none⟩ = some (.slice a2 k.length cap2) := by rw [hcc _ _ (by simp)]; simp [go_sem]
    clear hcc hff
    by_cases hlt : j < k.length
    · obtain ⟨rfl, _⟩ := HA.out.1 (by omega)
      obtain ⟨rfl, _⟩ := HA.out.2 (by omega)
      obtain ⟨c0, c1, c2, c3⟩ := HC.out.1 j hlt
      obtain ⟨d0, d1, d2, d3⟩ := HC.out.2 j hlt
      obtain ⟨p1, p2, p3, hp⟩ := (HK.out.1 j hlt).form
      obtain ⟨q1, q2, q3, hq⟩ := (HK.out.2 j hlt).form
      have mv : ∀ {b o : Nat} {v : Value}, w.cell? ⟨b, o, none⟩ = some v → wr.cell? ⟨b, o, none⟩ = some v := fun h => (hbw'.cell (lt_of_cell h)).trans h
      rw [hp] at c3
      rw [hq] at d3
      have hS : HeldS k[j] w.heap.size b1 (off1 + j * 4) b2 (off2 + j * 4) (.slice (some ⟨b1, off1, none⟩) k.length cap1) (.slice (some ⟨b2, off2, none⟩) k.length cap2) (.slice p1 p2 p3) (.slice q1 q2 q3) wr := ⟨A1, A2, ⟨mv c0, mv c1, mv c2, mv c3⟩, mv d0, mv d1, mv d2, mv d3⟩
      have hdr := (Below.refl wr.heap.size wr).drew
      have hS0 := hS.still hdr
      have hcl := HI.out j hlt (sv1 j) (sv2 j) wr.drew ((HK.out.1 j hlt).still (hbw'.drew)) ((HK.out.2 j hlt).still (hbw'.drew))
      rw [hp, hq] at hcl
      have HCL := (show Hid _ from hcl); clear hcl c0 c1 c2 c3 d0 d1 d2 d3 hp hq
      have HS := (show Hid _ from hS); clear hS
      have HDR := (show Hid _ from hdr); clear hdr
      generalize hkd : k[j] = kd at *
      have hjl : (j : Int) < k.length := by omega
      clear mv
      go_wp2_with fail
      go_region_held3 (fun w' => w'.cell? ⟨w.heap.size, 3, none⟩ = some (.slice (some ⟨b1, off1, none⟩) k.length cap1) ∧ w'.cell? ⟨w.heap.size + 1, 3, none⟩ = some (.slice (some ⟨b2, off2, none⟩) k.length cap2) ∧ (w'.cell? ⟨b1, off1 + j * 4, none⟩ = some (.string kd.name) ∧ w'.cell? ⟨b1, off1 + j * 4 + 1, none⟩ = some (.string kd.text) ∧ w'.cell? ⟨b1, off1 + j * 4 + 2, none⟩ = some (.bool kd.leaf) ∧ w'.cell? ⟨b1, off1 + j * 4 + 3, none⟩ = some (.slice p1 p2 p3)) ∧ w'.cell? ⟨b2, off2 + j * 4, none⟩ = some (.string kd.name) ∧ w'.cell? ⟨b2, off2 + j * 4 + 1, none⟩ = some (.string kd.text) ∧ w'.cell? ⟨b2, off2 + j * 4 + 2, none⟩ = some (.bool kd.leaf) ∧ w'.cell? ⟨b2, off2 + j * 4 + 3, none⟩ = some (.slice q1 q2 q3)) (((show HeldS kd w.heap.size b1 (off1 + j * 4) b2 (off2 + j * 4) (.slice (some ⟨b1, off1, none⟩) k.length cap1) (.slice (some ⟨b2, off2, none⟩) k.length cap2) (.slice p1 p2 p3) (.slice q1 q2 q3) _); (first | with_reducible exact hS0 | with_reducible exact hS1)))
        (first | (go_at_call 12; refine Calls.mono HCL.out ?_; rintro e w1 ⟨rfl, hb1⟩; have hx1 : Below wr.heap.size wr w1 := HDR.out.trans (hb1.mono (Nat.le_refl _)); have hS1 := HeldS.still HS.out hx1))
      have hbw2 := hbw.trans (hx1.mono hbw.size)
      clear hS0 hS1 hb1 hx1 A1 A2
      go_wp2_with fail
      exact ⟨⟨j + 1, by omega, by go_num, hbw2⟩, by simp [intOf]; omega⟩
    · have hge : (k.length : Int) ≤ j := by omega
      go_wp2_with fail
      go_ret
      exact ⟨rfl, hbw'⟩
end Go.Proofs.Ytofobmdljelmgaa
