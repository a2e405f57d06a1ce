import Derived.Test.YtpbpmhgoppbfnaaCy
import Derived.Test.YtpbpmhgoppbfnaaIbo
/-! The program: Cyclic. -/
namespace Go.Proofs.Ytpbpmhgoppbfnaa
open Go.RowKit Go.Deep
set_option linter.unusedVariables false
set_option maxRecDepth 100000
set_option linter.unusedSimpArgs false

/-- Where nothing is new, all that is led to is there. -/
theorem led_all {d : Bn} (hok : Bok d) {L : List Int} {W : List Nat} {N : Nat} (hN : N = d.terms.length + d.nons.length) (hlen : W.length = N * 3) (hq : ∀ k, k < d.prods.length → newW d L W k = false) {a y : Nat} (h : Tc (Ed d (Lf L)) a y) : y < 192 ∧ mem W a y = true := by
  have hN160 : N ≤ 160 := by rw [hN]; have := hok.nt; have := hok.nn.2; omega
  have key : ∀ k (hk : k < d.prods.length), ∀ x ∈ nats (alo (Lf L) d.prods[k].right), x < 192 ∧ mem W d.prods[k].left.toNat x = true ∧ ∀ y, y < 192 → mem W x y = true → mem W d.prods[k].left.toNat y = true := by
    intro k hk x hx
    have hl := hok.left k hk
    have hq2 : ∀ x ∈ nats (alo (Lf L) d.prods[k].right), x < N := alo_nats (fun i hi => by rw [hN]; exact hok.right k hk i hi)
    have hll : d.prods[k].left.toNat * 3 + 3 ≤ W.length := by rw [hlen]; omega
    have hn := hq k hk
    have hst : stpW d L W k = stepW W d.prods[k].left.toNat (nats (alo (Lf L) d.prods[k].right)) := by unfold stpW; rw [getD_lt _ _ hk]
    unfold newW at hn
    rw [hst, getD_lt _ _ hk] at hn
    have hfix := grew_no (stepW_len _ _ _) (fun i hi => stepW_other _ _ (fun x hx => by have := hq2 x hx; omega) _ hll i hi) hn
    obtain ⟨h1, h2⟩ := stepW_fix _ _ (fun x hx => by have := hq2 x hx; omega) W hll hfix x hx
    exact ⟨by have := hq2 x hx; omega, h1, h2⟩
  induction h using Tc.ind with
  | one h =>
    obtain ⟨k, hk, rfl, hx⟩ := h
    obtain ⟨h1, h2, _⟩ := key k hk _ hx
    exact ⟨h1, h2⟩
  | step h _ ih =>
    obtain ⟨k, hk, rfl, hx⟩ := h
    obtain ⟨h1, h2, h3⟩ := key k hk _ hx
    exact ⟨ih.1, h3 _ ih.1 ih.2⟩
/-- Some symbol is in its own set, from j on. -/
def cycB (W : List Nat) (N : Nat) : Bool := (List.range N).any fun x => mem W x x

set_option maxHeartbeats 6400000 in
theorem cyclic_any {S : Nat → Prop} (d : Bn) (hok : Bok d) (W0 : World) (N gs bs : Nat) (v0 v1 vo v3 : Value) (hP : Pds W0 S d.prods v3) (L : List Int) (w : World) (hb : Below W0.heap.size W0 w) (hS : St w gs bs v0 v1 vo v3 L) (hL : L.length = N) (hN : N = d.terms.length + d.nons.length) :
    Calls Try.prog 44 #[.pointer (some ⟨gs, 0, none⟩)] w fun e w' => ∃ B, e = .returned (.bool B) ∧ Below w.heap.size w w' ∧ (B = true ↔ ∃ x, Tc (Ed d (Lf L)) x x) := by
  have HV := (show Hid _ from leads_any d hok W0 N gs bs v0 v1 vo v3 hP L w hb hS hL hN)
  have hN160 : N ≤ 160 := by rw [hN]; have := hok.nt; have := hok.nn.2; omega
  have HOK := (show Hid _ from (⟨hok, hN⟩ : _ ∧ _))
  clear hok hP hb hS hL hN
  go_enter Try.func44, Try.ntmps44
  go_wp2_with fail
  refine Calls.mono HV.out ?_
  rintro e w1 ⟨b, W, rfl, hbw, hrow, hlen, hlt, hsnd, hq⟩
  have HR : Hid (cycB W N = true ↔ ∃ x, Tc (Ed d (Lf L)) x x) := by
    show cycB W N = true ↔ ∃ x, Tc (Ed d (Lf L)) x x
    unfold cycB
    rw [List.any_eq_true]
    constructor
    · rintro ⟨x, hx, hm⟩
      rw [List.mem_range] at hx
      exact ⟨x, hsnd x x (by omega) hm⟩
    · rintro ⟨x, hx⟩
      obtain ⟨_, h2⟩ := led_all HOK.out.1 HOK.out.2 hlen hq hx
      have hxN : x < N := by
        have : ∃ y, Ed d (Lf L) x y := hx.fst
        obtain ⟨y, k, hk, rfl, _⟩ := this
        have := HOK.out.1.left k hk
        rw [HOK.out.2]
        omega
      exact ⟨x, List.mem_range.2 hxN, h2⟩
  have HW := (show Hid _ from (⟨hbw, hrow, hlt⟩ : _ ∧ _ ∧ _))
  clear hbw hrow hsnd hq HV hlt HOK
  go_wp2_with fail
  go_loopw [10] (fun i wr => ∃ j : Nat, i = .int .i64 j ∧ j ≤ N ∧ Hid (Below w1.heap.size w1 wr ∧ ∀ x, x < j → mem W x x = false)) (fun i _ => N - (intOf i).toNat)
  case atStart => exact ⟨0, rfl, Nat.zero_le _, Below.refl _ _, fun x hx => absurd hx (Nat.not_lt_zero _)⟩
  case round =>
    obtain ⟨j, rfl, hj, HJ⟩ := hrel
    by_cases hlt : j < N
    · have hlt' := hlt
      have hrw := WRow.still HW.out.2.1 HJ.out.1
      have C0 := hrw.cell (i := j * 3) (by omega)
      have C1 := hrw.cell (i := j * 3 + 1) (by omega)
      have C2 := hrw.cell (i := j * 3 + 2) (by omega)
      rw [← getD_lt W 0 (i := j * 3) (by omega)] at C0
      rw [← getD_lt W 0 (i := j * 3 + 1) (by omega)] at C1
      rw [← getD_lt W 0 (i := j * 3 + 2) (by omega)] at C2
      have hjj : 64 * (j / 64) + j % 64 = j := Nat.div_add_mod j 64
      have hbx := Box.new wr 112 [.int .u64 (W.getD (j * 3) 0 : Nat), .int .u64 (W.getD (j * 3 + 1) 0 : Nat), .int .u64 (W.getD (j * 3 + 2) 0 : Nat)]
      have hcell : ∀ i, i < 3 → (wr.alloc (.cells #[.int .u64 (W.getD (j * 3) 0 : Nat), .int .u64 (W.getD (j * 3 + 1) 0 : Nat), .int .u64 (W.getD (j * 3 + 2) 0 : Nat)] 112)).cell? ⟨wr.heap.size, 0 + i, none⟩ = some (.int .u64 (W.getD (j * 3 + i) 0 : Nat)) := by
        intro i hi
        rw [Nat.zero_add]
        have h3 : i = 0 ∨ i = 1 ∨ i = 2 := by omega
        rcases h3 with rfl | rfl | rfl
        · exact hbx.cell 0 (by simp)
        · exact hbx.cell 1 (by simp)
        · exact hbx.cell 2 (by simp)
      have hv := has_any wr.heap.size 0 (fun i => W.getD (j * 3 + i) 0) (j / 64) (j % 64) (by omega) (Nat.mod_lt _ (by omega)) _ hcell (fun i => HW.out.2.2 _)
      rw [hjj] at hv
      have hm : (W.getD (j * 3 + j / 64) 0).testBit (j % 64) = mem W j j := rfl
      rw [hm] at hv
      have HVV := (show Hid _ from hv)
      have HBN := (show Hid _ from bel_trans HJ.out.1 (bel_alloc wr (.cells #[.int .u64 (W.getD (j * 3) 0 : Nat), .int .u64 (W.getD (j * 3 + 1) 0 : Nat), .int .u64 (W.getD (j * 3 + 2) 0 : Nat)] 112)))
      clear hv hm hcell hbx hjj hrw
      generalize W.getD (j * 3) 0 = x0 at *
      generalize W.getD (j * 3 + 1) 0 = x1 at *
      generalize W.getD (j * 3 + 2) 0 = x2 at *
      cases hB : mem W j j
      · rw [hB] at HVV
        have HN := (show Hid _ from (⟨HBN.out, fun x hx => by
          by_cases e : x = j
          · subst e; exact hB
          · exact HJ.out.2 x (by omega)⟩ : _ ∧ ∀ x, x < j + 1 → mem W x x = false))
        clear hB HJ
        go_wp2_with fail
        refine Calls.mono HVV.out ?_
        rintro e w2 ⟨rfl, rfl⟩
        go_wp2_with fail
        exact ⟨⟨j + 1, by go_num, by omega, HN⟩, by simp [intOf]; omega⟩
      · rw [hB] at HVV
        have HC : Hid (cycB W N = true) := by
          show cycB W N = true
          unfold cycB
          rw [List.any_eq_true]
          exact ⟨j, List.mem_range.2 hlt', hB⟩
        clear hB HJ
        go_wp2_with fail
        refine Calls.mono HVV.out ?_
        rintro e w2 ⟨rfl, rfl⟩
        go_wp2_with fail
        go_ret
        exact ⟨true, rfl, bel_trans HW.out.1 HBN.out, by rw [← HR.out, HC.out]⟩
    · have HC : Hid (cycB W N = false) := by
        show cycB W N = false
        unfold cycB
        rw [List.any_eq_false]
        intro x hx
        rw [List.mem_range] at hx
        rw [HJ.out.2 x (by omega)]
        simp
      have HB := (show Hid _ from bel_trans HW.out.1 HJ.out.1)
      clear HJ
      go_wp2_with fail
      go_ret
      exact ⟨false, rfl, HB.out, by rw [← HR.out, HC.out]⟩
end Go.Proofs.Ytpbpmhgoppbfnaa
