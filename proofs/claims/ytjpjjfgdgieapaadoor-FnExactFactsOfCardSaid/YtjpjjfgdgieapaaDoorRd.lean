import Derived.Test.YtjpjjfgdgieapaaDoorRd0
import Derived.Test.YtjpjjfgdgieapaaDoorFb
import Derived.Deep.RegionHeld3
/-! The program: facts, walked. -/
namespace Go.Proofs.YtjpjjfgdgieapaaDoor
open Go.RowKit Go.Deep
set_option linter.unusedVariables false
set_option maxRecDepth 100000
set_option linter.unusedSimpArgs false

theorem Own.keep {w w' : World} {B : Nat} {es : List Ent} (h : Own w B es) (hb : ∀ q, B ≤ q → w'.heap[q]? = w.heap[q]?) : Own w' B es :=
  ⟨fun e he => by
    obtain ⟨h1, h2⟩ := h.ok e he
    refine ⟨h1, ?_⟩
    rcases h2 with h2 | ⟨g, cap, cur, e1, e2, e3, e4⟩
    · exact .inl h2
    · exact .inr ⟨g, cap, cur, e1, e2, (hb g e2).trans e3, e4⟩, h.ne⟩
theorem list7 {α : Type} {l : List α} (h : l.length = 7) : ∃ a b c d e f g, l = [a, b, c, d, e, f, g] := by
  match l, h with
  | [a, b, c, d, e, f, g], _ => exact ⟨a, b, c, d, e, f, g, rfl⟩
/-- The loop, from the first Non on. -/
def GaE (d : Bn) (L : List Int) (Rr WB WF WO : List Nat) (wA : World) (B g : Nat) (W : World) : Prop := ∃ us RF RO rows, FSu wA g g us (colF d L Rr WB d.nons.length RF RO) rows W ∧ RF.map (·.2) = (List.range d.nons.length).map (fun i => ascI WF (d.terms.length + i) 192) ∧ RO.map (·.2) = (List.range d.nons.length).map (fun i => ascI WO (d.terms.length + i) 192) ∧ rows.Perm (RF.map entI ++ RO.map entI)
set_option maxHeartbeats 51200000 in
theorem facts27 {S : Nat → Prop} (d : Bn) (hok : Bok d) (W0 : World) (N gs bs : Nat) (a0 : Option Addr) (c0 : Nat) (v1 vo v3 : Value) (hP : Pds W0 S d.prods v3) (L : List Int) (z : Nat → Bool) (Bf : Nat → Int → Prop) (w : World) (hb : Below W0.heap.size W0 w) (hS : St w gs bs (.slice a0 d.terms.length c0) v1 vo v3 L) (hL : L.length = N) (hN : N = d.terms.length + d.nons.length) (hT : Tz w)
    (hFH : ∀ WB WF, WB.length = N * 3 → (∀ a y, y < 192 → mem WB a y = true → Tc (B.Ed d (Lf L)) a y) → (∀ k, k < d.prods.length → B.newW d L WB k = false) → FsA WB N d.terms.length N 0 WF → FolH d z Bf L WF) :
    Calls Tryd.prog 27 #[.pointer (some ⟨gs, 0, none⟩)] w fun e w' => ∃ (us : List Value) (Rr WW WB WF WO : List Nat) (RF RO : List (Value × List Int)) (Bb : Nat), e = .returned (.agg us.toArray) ∧ us.length = 7 ∧ Below w.heap.size w w' ∧ w.heap.size ≤ Bb ∧ Own w' Bb (colE (colF d L Rr WB d.nons.length RF RO) us ++ (RF.map entI ++ RO.map entI)) ∧ RF.map (·.2) = (List.range d.nons.length).map (fun i => ascI WF (d.terms.length + i) 192) ∧ RO.map (·.2) = (List.range d.nons.length).map (fun i => ascI WO (d.terms.length + i) 192) ∧ (∀ y, y < 192 → (mem Rr 0 y = true ↔ y = d.terms.length ∨ mem WW d.terms.length y = true)) ∧ WW.length = N * 3 ∧ (∀ a y, y < 192 → mem WW a y = true → Tc (W.Ed d (Lf L)) a y) ∧ (∀ k, k < d.prods.length → W.newW d L WW k = false) ∧ WB.length = N * 3 ∧ (∀ a y, y < 192 → mem WB a y = true → Tc (B.Ed d (Lf L)) a y) ∧ (∀ k, k < d.prods.length → B.newW d L WB k = false) ∧ FsA WB N d.terms.length N 0 WF ∧ (∀ n y, n < d.nons.length → y < 192 → (mem WO (d.terms.length + n) y = true ↔ Fol d z Bf n y)) := by
  have hN160 : N ≤ 160 := by rw [hN]; have := hok.nt; have := hok.nn.2; omega
  have hnt1 : d.terms.length < N := by rw [hN]; have := hok.nn.1; omega
  have hnt60 : d.terms.length ≤ 60 := hok.nt
  obtain ⟨wa, hwa⟩ : ∃ wa, w.alloc (.cells #[.slice none 0 0, .slice none 0 0, .slice none 0 0, .slice none 0 0, .slice none 0 0, .slice none 0 0, .slice none 0 0] 32) = wa := ⟨_, rfl⟩
  have hba : Below w.heap.size w wa := by rw [← hwa]; exact bel_alloc _ _
  have hbx : Box wa w.heap.size 32 [.slice none 0 0, .slice none 0 0, .slice none 0 0, .slice none 0 0, .slice none 0 0, .slice none 0 0, .slice none 0 0] := by rw [← hwa]; exact Box.new w 32 _
  have hb0 : Below W0.heap.size W0 wa := hb.trans (hba.mono hb.size)
  have HLW := (show Hid (Calls Tryd.prog 64 #[.pointer (some ⟨gs, 0, none⟩), .func (.func 65) #[] #[]] wa fun e w' => ∃ b WW, e = .returned (.slice (some ⟨b, 0, none⟩) N N) ∧ Below wa.heap.size wa w' ∧ WRow w' b WW ∧ WW.length = N * 3 ∧ (∀ i, WW.getD i 0 < 2 ^ 64) ∧ (∀ a y, y < 192 → mem WW a y = true → Tc (W.Ed d (Lf L)) a y) ∧ ∀ k, k < d.prods.length → W.newW d L WW k = false) from W.leads_any d hok W0 N gs bs _ v1 vo v3 hP L wa hb0 (hS.still hba) hL hN)
  have HST := (show Hid (∀ w', Below w.heap.size w w' → Calls Tryd.prog 66 #[.pointer (some ⟨gs, 0, none⟩)] w' fun e w'' => e = .returned (.int .i64 (d.terms.length : Nat)) ∧ w'' = w') from fun w' hb' => start_any w' gs bs _ .nilFunc d.terms.length c0 a0 v1 vo _ L rfl (hS.still hb'))
  have HLB := (show Hid (∀ w', Below w.heap.size w w' → Calls Tryd.prog 64 #[.pointer (some ⟨gs, 0, none⟩), .func (.func 68) #[.pointer (some ⟨gs, 0, none⟩)] #[]] w' fun e w'' => ∃ b WB, e = .returned (.slice (some ⟨b, 0, none⟩) N N) ∧ Below w'.heap.size w' w'' ∧ WRow w'' b WB ∧ WB.length = N * 3 ∧ (∀ i, WB.getD i 0 < 2 ^ 64) ∧ (∀ a y, y < 192 → mem WB a y = true → Tc (B.Ed d (Lf L)) a y) ∧ ∀ k, k < d.prods.length → B.newW d L WB k = false) from fun w' hb' => B.leads_any d hok W0 N gs bs _ v1 vo v3 hP L w' (hb.trans (hb'.mono hb.size)) (hS.still hb') hL hN)
  have HFI := (show Hid (∀ w' bB WB, Below w.heap.size w w' → WRow w' bB WB → WB.length = N * 3 → (∀ i, WB.getD i 0 < 2 ^ 64) → Calls Tryd.prog 69 #[.pointer (some ⟨gs, 0, none⟩), .slice (some ⟨bB, 0, none⟩) N N] w' fun e w'' => ∃ b WF, e = .returned (.slice (some ⟨b, 0, none⟩) N N) ∧ Below w'.heap.size w' w'' ∧ w'.heap.size ≤ b ∧ WRow w'' b WF ∧ FsA WB N d.terms.length N 0 WF) from fun w' bB WB hb' hr hl ht => firsts_any w' gs bs d.terms.length c0 a0 v1 vo v3 L (hS.still hb') bB N WB hr hl ht hN160 (by omega))
  have HFO := (show Hid (∀ w' bF WF, Below w.heap.size w w' → WRow w' bF WF → WF.length = N * 3 → (∀ i, WF.getD i 0 < 2 ^ 64) → FolH d z Bf L WF → Calls Tryd.prog 70 #[.pointer (some ⟨gs, 0, none⟩), .slice (some ⟨bF, 0, none⟩) N N] w' fun e w'' => ∃ b F, e = .returned (.slice (some ⟨b, 0, none⟩) N N) ∧ Below w'.heap.size w' w'' ∧ w'.heap.size ≤ b ∧ WRow w'' b F ∧ F.length = N * 3 ∧ (∀ i, F.getD i 0 < 2 ^ 64) ∧ ∀ n y, n < d.nons.length → y < 192 → (mem F (d.terms.length + n) y = true ↔ Fol d z Bf n y)) from fun w' bF WF hb' hr hl ht hh => follows_any d hok W0 N gs bs bF a0 c0 v1 vo v3 hP L WF z Bf w' (hb.trans (hb'.mono hb.size)) (hS.still hb') hL hN hr hl ht hh)
  have HS := (show Hid (∀ w', Below w.heap.size w w' → St w' gs bs (.slice a0 d.terms.length c0) v1 vo v3 L ∧ Tz w') from fun w' hb' => ⟨hS.still hb', hT.still hb'⟩)
  have HFH := (show Hid _ from hFH)
  have HOK := (show Hid (Bok d) from hok)
  have HLN := (show Hid (L.length = N ∧ N = d.terms.length + d.nons.length) from ⟨hL, hN⟩)
  have HBX := (show Hid (Below w.heap.size w wa ∧ Box wa w.heap.size 32 [.slice none 0 0, .slice none 0 0, .slice none 0 0, .slice none 0 0, .slice none 0 0, .slice none 0 0, .slice none 0 0]) from ⟨hba, hbx⟩)
  clear hFH hb hS hT hP hba hbx hb0 hL hN hok
  go_enter Tryd.func27, Tryd.ntmps27
  go_wp2_with fail
  refine Calls.mono HLW.out ?_
  rintro e w1 ⟨bW, WW, rfl, hb1, hwr, hwl, hwt, hws, hwq⟩
  clear hwa
  have hbw1 : Below w.heap.size w w1 := bel_trans HBX.out.1 hb1
  go_wp2_with fail
  refine Calls.mono (HST.out w1 hbw1) ?_
  rintro e w2 ⟨rfl, hw2⟩
  subst hw2
  have r0 := hwr.cell (i := d.terms.length * 3) (by omega)
  have r1 := hwr.cell (i := d.terms.length * 3 + 1) (by omega)
  have r2 := hwr.cell (i := d.terms.length * 3 + 2) (by omega)
  rw [← getD_lt WW 0 (by omega)] at r0 r1 r2
  have HR0 : Hid (WRow (w2.alloc (.cells #[.int .u64 (WW.getD (d.terms.length * 3) 0 : Nat), .int .u64 (WW.getD (d.terms.length * 3 + 1) 0 : Nat), .int .u64 (WW.getD (d.terms.length * 3 + 2) 0 : Nat)] 102)) w2.heap.size (rowS WW d.terms.length)) := by
    have h1 := (Box.new w2 102 [.int .u64 (WW.getD (d.terms.length * 3) 0 : Nat), .int .u64 (WW.getD (d.terms.length * 3 + 1) 0 : Nat), .int .u64 (WW.getD (d.terms.length * 3 + 2) 0 : Nat)]).ex
    obtain ⟨c, q1, q2, q3⟩ := h1
    refine ⟨c, q1, q2, fun i hi => ?_⟩
    have hi3 : i < 3 := hi
    rw [q3 i hi]
    have : i = 0 ∨ i = 1 ∨ i = 2 := by omega
    rcases this with rfl | rfl | rfl <;> rfl
  have HWW := (show Hid (WW.length = N * 3 ∧ (∀ i, WW.getD i 0 < 2 ^ 64) ∧ (∀ a y, y < 192 → mem WW a y = true → Tc (W.Ed d (Lf L)) a y) ∧ ∀ k, k < d.prods.length → W.newW d L WW k = false) from ⟨hwl, hwt, hws, hwq⟩)
  obtain ⟨q0, hq0⟩ : ∃ q, WW.getD (d.terms.length * 3) 0 = q := ⟨_, rfl⟩
  obtain ⟨q1, hq1⟩ : ∃ q, WW.getD (d.terms.length * 3 + 1) 0 = q := ⟨_, rfl⟩
  obtain ⟨q2, hq2⟩ : ∃ q, WW.getD (d.terms.length * 3 + 2) 0 = q := ⟨_, rfl⟩
  rw [hq0] at r0 HR0
  rw [hq1] at r1 HR0
  rw [hq2] at r2 HR0
  obtain ⟨tb, htb⟩ : ∃ tb, w2.heap.size = tb := ⟨_, rfl⟩
  have hbw2 : Below w.heap.size w (w2.alloc (.cells #[.int .u64 (q0 : Nat), .int .u64 (q1 : Nat), .int .u64 (q2 : Nat)] 102)) := bel_trans hbw1 (bel_alloc _ _)
  have htw : w.heap.size < tb := by
    have h1 := HBX.out.2.lt
    have h2 := hb1.size
    omega
  have HADD : Hid (Calls Tryd.prog 67 #[.pointer (some ⟨tb, 0, none⟩), .int .i64 (d.terms.length : Nat)] (w2.alloc (.cells #[.int .u64 (q0 : Nat), .int .u64 (q1 : Nat), .int .u64 (q2 : Nat)] 102)) fun e w' => e = .returned (.tuple #[]) ∧ WRow w' tb (add1 (rowS WW d.terms.length) 0 d.terms.length) ∧ Bt tb (w2.alloc (.cells #[.int .u64 (q0 : Nat), .int .u64 (q1 : Nat), .int .u64 (q2 : Nat)] 102)) w') := by
    have hl3 : (rowS WW d.terms.length).length = 3 := rfl
    have hidx : 0 + d.terms.length / 64 < (rowS WW d.terms.length).length := by rw [hl3]; omega
    have h1 := add_any tb 0 (rowS WW d.terms.length) (d.terms.length / 64) (d.terms.length % 64) (by omega) (Nat.mod_lt _ (by omega)) _ (by rw [← htb]; exact HR0.out) hidx (by rw [← getD_lt _ 0 hidx]; exact rowS_lt hwt _ _)
    rw [Nat.div_add_mod] at h1
    refine Calls.mono h1 ?_
    rintro e w' ⟨rfl, h2, h3⟩
    have ha1 : (rowS WW d.terms.length).set (0 + d.terms.length / 64) ((rowS WW d.terms.length)[0 + d.terms.length / 64] ||| 2 ^ (d.terms.length % 64)) = add1 (rowS WW d.terms.length) 0 d.terms.length := by unfold add1; rw [Nat.zero_mul, getD_lt _ _ hidx]
    rw [ha1] at h2
    exact ⟨rfl, h2, h3⟩
  have HSTA := (show Hid _ from HST.out _ hbw2)
  have HB2 := (show Hid (Below w.heap.size w (w2.alloc (.cells #[.int .u64 (q0 : Nat), .int .u64 (q1 : Nat), .int .u64 (q2 : Nat)] 102)) ∧ Below wa.heap.size wa w2 ∧ wa.heap.size ≤ tb ∧ Box (w2.alloc (.cells #[.int .u64 (q0 : Nat), .int .u64 (q1 : Nat), .int .u64 (q2 : Nat)] 102)) w.heap.size 32 [.slice none 0 0, .slice none 0 0, .slice none 0 0, .slice none 0 0, .slice none 0 0, .slice none 0 0, .slice none 0 0]) from ⟨hbw2, hb1, by have := hb1.size; omega, (HBX.out.2.still hb1).still (bel_alloc _ _)⟩)
  clear hb1 hwr hwl hwt hws hwq hbw1 HLW hbw2 hq0 hq1 hq2 HR0
  go_wp2_with fail
  refine Calls.mono HSTA.out ?_
  rintro e w3 ⟨rfl, hw3⟩
  subst hw3
  go_wp2_with fail
  refine Calls.mono HADD.out ?_
  rintro e w4 ⟨rfl, hrr, hbt⟩
  obtain ⟨Rr, hRr⟩ : ∃ Rr, add1 (rowS WW d.terms.length) 0 d.terms.length = Rr := ⟨_, rfl⟩
  rw [hRr] at hrr
  have HRS : Hid ((∀ y, y < 192 → (mem Rr 0 y = true ↔ y = d.terms.length ∨ mem WW d.terms.length y = true)) ∧ Rr.length = 3 ∧ ∀ i, Rr.getD i 0 < 2 ^ 64) := by
    refine ⟨fun y hy => ?_, by rw [← hRr, add1_len]; rfl, by rw [← hRr]; exact add1_lt _ (rowS_lt HWW.out.2.1 _) _ _⟩
    rw [← hRr, mem_add1 _ _ _ (by show 0 * 3 + 3 ≤ 3; omega) (by omega) 0 y hy, mem_rowS _ _ _ hy, Bool.or_eq_true]
    simp only [true_and, decide_eq_true_eq]
    exact Or.comm
  have hbw4 : Below w.heap.size w w4 := HB2.out.1.trans (hbt.below (by omega) HB2.out.1.size)
  have HR4 := (show Hid (WRow w4 tb Rr ∧ Box w4 w.heap.size 32 [.slice none 0 0, .slice none 0 0, .slice none 0 0, .slice none 0 0, .slice none 0 0, .slice none 0 0, .slice none 0 0]) from ⟨hrr, HB2.out.2.2.2.bt hbt (by omega)⟩)
  clear hrr hbt hRr HSTA HADD htb r0 r1 r2
  go_wp2_with fail
  refine Calls.mono (HLB.out w4 hbw4) ?_
  rintro e w5 ⟨bB, WB, rfl, hb5, hwb, hbl, hbt, hbs, hbq⟩
  have hbw5 : Below w.heap.size w w5 := bel_trans hbw4 hb5
  go_wp2_with fail
  refine Calls.mono (HFI.out w5 bB WB hbw5 hwb hbl hbt) ?_
  rintro e w6 ⟨bF, WF, rfl, hb6, hge6, hwf, hfs⟩
  have hbw6 : Below w.heap.size w w6 := bel_trans hbw5 hb6
  have hfl : WF.length = N * 3 := hfs.1
  have hft : ∀ i, WF.getD i 0 < 2 ^ 64 := hfs.2.1
  have HFH2 := (show Hid (FolH d z Bf L WF) from HFH.out WB WF hbl hbs hbq hfs)
  go_wp2_with fail
  refine Calls.mono (HFO.out w6 bF WF hbw6 hwf hfl hft HFH2.out) ?_
  rintro e wA ⟨bO, WO, rfl, hb7, hge7, hwo, hol, hot, hos⟩
  have hbwA : Below w.heap.size w wA := bel_trans hbw6 hb7
  have HG : Hid (GaH d L N gs bs tb bB bF bO (.slice a0 d.terms.length c0) v1 vo v3 Rr WB WF WO wA) := by
    obtain ⟨h1, h2⟩ := HS.out wA hbwA
    have h57 := bel_trans hb6 hb7
    have h47 := bel_trans hb5 h57
    exact ⟨h1, HLN.out.1, HLN.out.2, hN160, HR4.out.1.still h47, HRS.out.2.1, HRS.out.2.2, hwb.still h57, hbl, hbt, hwf.still hb7, hfl, hft, hwo, hol, hot, h2⟩
  have HSETS : Hid ((∀ y, y < 192 → (mem Rr 0 y = true ↔ y = d.terms.length ∨ mem WW d.terms.length y = true)) ∧ WW.length = N * 3 ∧ (∀ a y, y < 192 → mem WW a y = true → Tc (W.Ed d (Lf L)) a y) ∧ (∀ k, k < d.prods.length → W.newW d L WW k = false) ∧ WB.length = N * 3 ∧ (∀ a y, y < 192 → mem WB a y = true → Tc (B.Ed d (Lf L)) a y) ∧ (∀ k, k < d.prods.length → B.newW d L WB k = false) ∧ FsA WB N d.terms.length N 0 WF ∧ (∀ n y, n < d.nons.length → y < 192 → (mem WO (d.terms.length + n) y = true ↔ Fol d z Bf n y))) := ⟨HRS.out.1, HWW.out.1, HWW.out.2.2.1, HWW.out.2.2.2, hbl, hbs, hbq, hfs, hos⟩
  have HBA := (show Hid (Below w.heap.size w wA ∧ Box wA w.heap.size 32 [.slice none 0 0, .slice none 0 0, .slice none 0 0, .slice none 0 0, .slice none 0 0, .slice none 0 0, .slice none 0 0]) from ⟨hbwA, ((HR4.out.2.still hb5).still hb6).still hb7⟩)
  have HST2 := (show Hid _ from HST.out (wA.alloc (.cells #[.slice none 0 0, .slice none 0 0, .slice none 0 0, .slice none 0 0, .slice none 0 0, .slice none 0 0, .slice none 0 0] 32)) (bel_trans hbwA (bel_alloc _ _)))
  have H0 : Hid (∃ us RF RO rows, FSu wA wA.heap.size wA.heap.size us (colF d L Rr WB 0 RF RO) rows (wA.alloc (.cells #[.slice none 0 0, .slice none 0 0, .slice none 0 0, .slice none 0 0, .slice none 0 0, .slice none 0 0, .slice none 0 0] 32)) ∧ RF.map (·.2) = (List.range 0).map (fun i => ascI WF (d.terms.length + i) 192) ∧ RO.map (·.2) = (List.range 0).map (fun i => ascI WO (d.terms.length + i) 192) ∧ rows.Perm (RF.map entI ++ RO.map entI)) :=
    ⟨_, [], [], [], FSu.new wA _ rfl (by intro p hp; simp [colF] at hp; rcases hp with rfl | rfl | rfl | rfl | rfl | rfl | rfl <;> rfl), rfl, rfl, List.Perm.refl _⟩
  have hgA : w.heap.size < wA.heap.size := by have := HBA.out.2.lt; exact this
  clear hbw4 hbw5 hbw6 hbwA hb5 hb6 hb7 hge6 hge7 hwb hbl hbt hbs hbq hwf hfs hfl hft hwo hol hot hos HST HLB HFI HFO HS HFH HFH2 HBX HB2 HWW HRS HR4
  go_wp2_with fail
  refine Calls.mono HST2.out ?_
  rintro e w8 ⟨rfl, hw8⟩
  rw [hw8]
  clear hw8 w8 HST2
  obtain ⟨g, hg⟩ : ∃ g, wA.heap.size = g := ⟨_, rfl⟩
  obtain ⟨wB, hwB⟩ : ∃ wB, wA.alloc (.cells #[.slice none 0 0, .slice none 0 0, .slice none 0 0, .slice none 0 0, .slice none 0 0, .slice none 0 0, .slice none 0 0] 32) = wB := ⟨_, rfl⟩
  rw [hg] at H0 hgA
  rw [hwB] at H0 ⊢
  have HGA := (show Hid (wA.heap.size = g) from hg)
  rw [hg]
  clear hwB hg
  -- what lies below stays
  have HLOW := (show Hid (∀ (W : World), (∀ q, q < g → W.heap[q]? = wA.heap[q]?) → GaH d L N gs bs tb bB bF bO (.slice a0 d.terms.length c0) v1 vo v3 Rr WB WF WO W) from fun W h => HG.out.keep (fun q hq => h q (by rw [← HGA.out]; exact hq)))
  have HNN := (show Hid (d.nons.length ≤ 100 ∧ N = d.terms.length + d.nons.length) from ⟨HOK.out.nn.2, HLN.out.2⟩)
  have HH8 : Hid (∀ k W, (∃ us RF RO rows, FSu wA g g us (colF d L Rr WB k RF RO) rows W ∧ RF.map (·.2) = (List.range k).map (fun i => ascI WF (d.terms.length + i) 192) ∧ RO.map (·.2) = (List.range k).map (fun i => ascI WO (d.terms.length + i) 192) ∧ rows.Perm (RF.map entI ++ RO.map entI)) → W.cell? ⟨gs, 4, none⟩ = some (.slice (some ⟨bs, 0, none⟩) N N)) := fun k W h => by
    obtain ⟨us, RF, RO, rows, hf, _⟩ := h
    have h1 := HLOW.out W (fun q hq => hf.bel.block q hq)
    have := h1.st.box.cell 4 (by simp)
    rw [h1.hL] at this
    exact this
  go_wp2_with fail
  go_loopw [8] (fun i wr => ∃ k : Nat, i = .int .i64 ((d.terms.length + k : Nat) : Int) ∧ k ≤ d.nons.length ∧ Hid (∃ us RF RO rows, FSu wA g g us (colF d L Rr WB k RF RO) rows wr ∧ RF.map (·.2) = (List.range k).map (fun i => ascI WF (d.terms.length + i) 192) ∧ RO.map (·.2) = (List.range k).map (fun i => ascI WO (d.terms.length + i) 192) ∧ rows.Perm (RF.map entI ++ RO.map entI))) (fun i _ => N - (intOf i).toNat)
  case atStart => exact ⟨0, by simp, Nat.zero_le _, H0.out⟩
  case round =>
    obtain ⟨k, rfl, hk, HK⟩ := hrel
    have c4 := HH8.out k wr HK.out
    have hn100 := HNN.out.1
    by_cases hlt : k < d.nons.length
    · obtain ⟨us, RF, RO, rows, hF, hRF, hRO, hp⟩ := HK.out
      obtain ⟨s, hs⟩ : ∃ s, d.terms.length + k = s := ⟨_, rfl⟩
      have hsN : s < N := by have := HNN.out.2; omega
      rw [hs]
      obtain ⟨x4, hx4⟩ : ∃ x, Lf L s = x := ⟨_, rfl⟩
      obtain ⟨x0, hx0⟩ : ∃ x, (x4 == 0) = x := ⟨_, rfl⟩
      obtain ⟨x1, hx1⟩ : ∃ x, (x4 != -1) = x := ⟨_, rfl⟩
      obtain ⟨x2, hx2⟩ : ∃ x, mem Rr 0 s = x := ⟨_, rfl⟩
      obtain ⟨x3, hx3⟩ : ∃ x, mem WB s s = x := ⟨_, rfl⟩
      obtain ⟨A5, hA5⟩ : ∃ x, ascI WF s 192 = x := ⟨_, rfl⟩
      obtain ⟨A6, hA6⟩ : ∃ x, ascI WO s 192 = x := ⟨_, rfl⟩
      obtain ⟨C0, hC0⟩ : ∃ C, (List.range k).map (fun i => Value.bool (Lf L (d.terms.length + i) == 0)) = C := ⟨_, rfl⟩
      obtain ⟨C1, hC1⟩ : ∃ C, (List.range k).map (fun i => Value.bool (Lf L (d.terms.length + i) != -1)) = C := ⟨_, rfl⟩
      obtain ⟨C2, hC2⟩ : ∃ C, (List.range k).map (fun i => Value.bool (mem Rr 0 (d.terms.length + i))) = C := ⟨_, rfl⟩
      obtain ⟨C3, hC3⟩ : ∃ C, (List.range k).map (fun i => Value.bool (mem WB (d.terms.length + i) (d.terms.length + i))) = C := ⟨_, rfl⟩
      obtain ⟨C4, hC4⟩ : ∃ C, (List.range k).map (fun i => Value.int .i64 (Lf L (d.terms.length + i))) = C := ⟨_, rfl⟩
      obtain ⟨C5, hC5⟩ : ∃ C, RF.map (·.1) = C := ⟨_, rfl⟩
      obtain ⟨C6, hC6⟩ : ∃ C, RO.map (·.1) = C := ⟨_, rfl⟩
      have hlf : RF.length = k := by have := congrArg List.length hRF; simpa using this
      have hlo : RO.length = k := by have := congrArg List.length hRO; simpa using this
      have HC0 : Hid (C0.length ≤ 100000) := by show C0.length ≤ _; rw [← hC0]; simp; omega
      have HC1 : Hid (C1.length ≤ 100000) := by show C1.length ≤ _; rw [← hC1]; simp; omega
      have HC2 : Hid (C2.length ≤ 100000) := by show C2.length ≤ _; rw [← hC2]; simp; omega
      have HC3 : Hid (C3.length ≤ 100000) := by show C3.length ≤ _; rw [← hC3]; simp; omega
      have HC4 : Hid (C4.length ≤ 100000) := by show C4.length ≤ _; rw [← hC4]; simp; omega
      have HC5 : Hid (C5.length ≤ 100000) := by show C5.length ≤ _; rw [← hC5]; simp; omega
      have HC6 : Hid (C6.length ≤ 100000) := by show C6.length ≤ _; rw [← hC6]; simp; omega
      have HF0 : Hid (∃ us, FSu wA g g us [(4, C0), (4, C1), (4, C2), (4, C3), (3, C4), (29, C5), (29, C6)] rows wr) := ⟨us, by
        have e : colF d L Rr WB k RF RO = [(4, C0), (4, C1), (4, C2), (4, C3), (3, C4), (29, C5), (29, C6)] := by unfold colF; rw [hC0, hC1, hC2, hC3, hC4, hC5, hC6]
        rw [← e]
        exact hF⟩
      have HFIN : Hid (∀ (f5 : Value) (wx : World) (us : List Value) (f6 : Value), FSu wA g g us [(4, C0 ++ [.bool x0]), (4, C1 ++ [.bool x1]), (4, C2 ++ [.bool x2]), (4, C3 ++ [.bool x3]), (3, C4 ++ [.int .i64 x4]), (29, C5 ++ [f5]), (29, C6 ++ [f6])] (entI (f6, A6) :: entI (f5, A5) :: rows) wx → ∃ us RF RO rows, FSu wA g g us (colF d L Rr WB (k + 1) RF RO) rows wx ∧ RF.map (·.2) = (List.range (k + 1)).map (fun i => ascI WF (d.terms.length + i) 192) ∧ RO.map (·.2) = (List.range (k + 1)).map (fun i => ascI WO (d.terms.length + i) 192) ∧ rows.Perm (RF.map entI ++ RO.map entI)) := fun f5 wx us f6 h => by
        have e : colF d L Rr WB (k + 1) (RF ++ [(f5, A5)]) (RO ++ [(f6, A6)]) = [(4, C0 ++ [.bool x0]), (4, C1 ++ [.bool x1]), (4, C2 ++ [.bool x2]), (4, C3 ++ [.bool x3]), (3, C4 ++ [.int .i64 x4]), (29, C5 ++ [f5]), (29, C6 ++ [f6])] := by
          unfold colF
          simp only [List.range_succ, List.map_append, List.map_cons, List.map_nil, hC0, hC1, hC2, hC3, hC4, hC5, hC6, hs, hx4, hx0, hx1, hx2, hx3]
        refine ⟨us, RF ++ [(f5, A5)], RO ++ [(f6, A6)], _, by rw [e]; exact h, by rw [List.map_append, hRF, List.range_succ, List.map_append, List.map_cons, List.map_nil, List.map_cons, List.map_nil, hs, hA5], by rw [List.map_append, hRO, List.range_succ, List.map_append, List.map_cons, List.map_nil, List.map_cons, List.map_nil, hs, hA6], ?_⟩
        rw [List.map_append, List.map_append]
        have p1 : (entI (f6, A6) :: entI (f5, A5) :: rows).Perm (entI (f6, A6) :: entI (f5, A5) :: (RF.map entI ++ RO.map entI)) := List.Perm.cons _ (List.Perm.cons _ hp)
        refine p1.trans ?_
        refine (List.Perm.swap _ _ _).trans ?_
        have p2 : (RF.map entI ++ [(f5, A5)].map entI ++ (RO.map entI ++ [(f6, A6)].map entI)).Perm (entI (f5, A5) :: (RF.map entI ++ (RO.map entI ++ [entI (f6, A6)]))) := by
          rw [List.append_assoc]
          exact List.perm_middle
        refine List.Perm.trans ?_ p2.symm
        refine List.Perm.cons _ ?_
        rw [← List.append_assoc]
        exact (List.perm_append_singleton _ _).symm
      have HSF : Hid (∀ (W : World), (∀ q, q < g → W.heap[q]? = wA.heap[q]?) → W.cell? ⟨gs, 4, none⟩ = some (.slice (some ⟨bs, 0, none⟩) N N) ∧ W.cell? ⟨bs, s, none⟩ = some (.int .i64 x4)) := fun W h => by
        have h1 := HLOW.out W h
        have h2 := h1.st.box.cell 4 (by simp)
        have h3 := h1.st.cell s (by rw [h1.hL]; exact hsN)
        rw [h1.hL] at h2
        rw [← Lf_lt (by rw [h1.hL]; exact hsN), hx4] at h3
        exact ⟨h2, h3⟩
      have HC72 : Hid (∀ (W : World), (∀ q, q < g → W.heap[q]? = wA.heap[q]?) → Calls Tryd.prog 71 #[.pointer (some ⟨tb, 0, none⟩), .int .i64 (s : Nat)] W fun e w' => e = .returned (.bool x2) ∧ w' = W) := fun W h => by
        have h1 := HLOW.out W h
        have h2 := has_row (l := 0) (y := s) h1.rr (by rw [h1.rrl]; omega) h1.rrt (by omega)
        rw [hx2] at h2
        exact h2
      have HC73 : Hid (∀ (W : World), (∀ q, q < g → W.heap[q]? = wA.heap[q]?) → Calls Tryd.prog 71 #[.pointer (some ⟨bB, s * 3, none⟩), .int .i64 (s : Nat)] W fun e w' => e = .returned (.bool x3) ∧ w' = W) := fun W h => by
        have h1 := HLOW.out W h
        have h2 := has_row (l := s) (y := s) h1.wb (by rw [h1.wbl]; omega) h1.wbt (by omega)
        rw [hx3] at h2
        exact h2
      have HC75 : Hid (∀ (W : World), (∀ q, q < g → W.heap[q]? = wA.heap[q]?) → Calls Tryd.prog 72 #[.pointer (some ⟨bF, s * 3, none⟩)] W fun e w' => ∃ a n c, e = .returned (.slice a n c) ∧ n = A5.length ∧ Mk1 W.heap.size W w' (.slice a n c) A5) := fun W h => by
        have h1 := HLOW.out W h
        have h2 := ascending72 bF s WF W h1.wf (by rw [h1.wfl]; omega) h1.wft h1.tz
        rw [hA5] at h2
        exact h2
      have HC76 : Hid (∀ (W : World), (∀ q, q < g → W.heap[q]? = wA.heap[q]?) → Calls Tryd.prog 72 #[.pointer (some ⟨bO, s * 3, none⟩)] W fun e w' => ∃ a n c, e = .returned (.slice a n c) ∧ n = A6.length ∧ Mk1 W.heap.size W w' (.slice a n c) A6) := fun W h => by
        have h1 := HLOW.out W h
        have h2 := ascending72 bO s WO W h1.wo (by rw [h1.wol]; omega) h1.wot h1.tz
        rw [hA6] at h2
        exact h2
      have hnx : k + 1 ≤ d.nons.length := hlt
      have HSS := (show Hid (d.terms.length + k = s) from hs)
      have HKN := (show Hid (k < d.nons.length ∧ N = d.terms.length + d.nons.length) from ⟨hlt, HNN.out.2⟩)
      clear hF hRF hRO hp hx4 hx2 hx3 hA5 hA6 hC0 hC1 hC2 hC3 hC4 hC5 hC6 hlf hlo hs HK HH8 HNN HG HSETS HBA HGA HLN HOK
      obtain ⟨us0, hf0⟩ := HF0.out
      obtain ⟨u0z, hu0⟩ : ∃ u, us0[0]? = some u := ⟨_, List.getElem?_eq_getElem (by rw [hf0.len]; simp)⟩
      go_upto_region 10 with fail
      go_cut [] from 39 to 51 (fun wx => Hid (∃ us, FSu wA g g us [(4, C0 ++ [.bool x0]), (4, C1), (4, C2), (4, C3), (3, C4), (29, C5), (29, C6)] rows wx))
      case first =>
        have hfd := hf0.still ((Below.refl wr.heap.size wr).drew)
        have hc0 : wr.drew.cell? ⟨g, 0, none⟩ = some u0z := by have := hfd.at (j := 0) (by rw [hf0.len]; simp); rw [List.getElem?_eq_getElem (by rw [hf0.len]; simp)] at hu0; injection hu0 with hu; rw [← hu]; exact this
        have hbl := bel_alloc wr.drew (.cells #[.bool x0] 4)
        have hc1 : (wr.drew.alloc (.cells #[.bool x0] 4)).cell? ⟨g, 0, none⟩ = some u0z := (hbl.cell (lt_of_cell hc0)).trans hc0
        have hc2 : ((wr.alloc (.cells #[.bool x0] 4)).drew).cell? ⟨g, 0, none⟩ = some u0z := hc1
        obtain ⟨a2, c2, n2, w3, hr, ⟨y3, hy3⟩, hfz, hst, hb3⟩ := hfd.push4 0 (by simp) C0 rfl wr.heap.size x0 rfl HC0.out u0z hu0
        have HR := (show Hid _ from hr)
        have HST : Hid (∃ us, FSu wA g g us [(4, C0 ++ [.bool x0]), (4, C1), (4, C2), (4, C3), (3, C4), (29, C5), (29, C6)] rows (w3.setCell ⟨g, 0, none⟩ (.slice a2 n2 c2))) := ⟨_, hst⟩
        have hS0 := HSF.out wr.drew (fun q hq => hfd.bel.block q hq)
        have hS1 := HSF.out (wr.drew.alloc (.cells #[.bool x0] 4)) (fun q hq => (hbl.block q (Nat.lt_of_lt_of_le hq hfd.bz)).trans (hfd.bel.block q hq))
        have hS2 := HSF.out w3 (fun q hq => hb3.block q hq)
        have hS3 := HSF.out (w3.setCell ⟨g, 0, none⟩ (.slice a2 n2 c2)) (fun q hq => hst.bel.block q hq)
        clear hr hst hb3 hbl hfd hf0
        clear HSF HFIN HC72 HC73 HC75 HC76 HLOW HSS HKN
        refine wp_region_held_drew (S := (fun w' => w'.cell? ⟨gs, 4, none⟩ = some (.slice (some ⟨bs, 0, none⟩) N N) ∧ w'.cell? ⟨bs, s, none⟩ = some (.int .i64 x4))) (by kernel_rfl) hS0 (fun hHeld => ?_)
        refine wpAnyH_take (i := 0) (oi := { dst := some 39, op := Go.Op.fieldAddr 32 (Go.Operand.tmp 7) 0, type := 0, pos := "l04_facts.go:303", after := #[], guard := none }) (v := ?v60) rfl (by kernel_rfl) (by kernel_rfl) (by kernel_rfl) (fun _ _ _ h => h) (Or.inl ⟨by rfl, ?h60⟩) hHeld ?r60
        case h60 => (intro w hSw; (try dsimp only at hSw); go_simp; try with_reducible rfl)
        try simp only [Act.put, List.setIfInBounds_toArray, List.set_cons_zero, List.set_cons_succ]
        refine wpAnyH_take (i := 2) (oi := { dst := some 41, op := Go.Op.move (Go.Operand.tmp 0), type := 58, pos := "l04_facts.go:303", after := #[], guard := none }) (v := ?v61) rfl (by kernel_rfl) (by kernel_rfl) (by kernel_rfl) (fun _ _ _ h => h) (Or.inl ⟨by rfl, ?h61⟩) hHeld ?r61
        case h61 => (intro w hSw; (try dsimp only at hSw); go_simp; try with_reducible rfl)
        try simp only [Act.put, List.setIfInBounds_toArray, List.set_cons_zero, List.set_cons_succ]
        refine wpAnyH_take (i := 3) (oi := { dst := some 42, op := Go.Op.nilCheck (Go.Operand.tmp 41), type := 0, pos := "l04_facts.go:303", after := #[{ on := 2, ground := Go.Ground.data }], guard := none }) (v := ?v62) rfl (by kernel_rfl) (by kernel_rfl) (by kernel_rfl) (fun _ _ _ h => h) (Or.inl ⟨by rfl, ?h62⟩) hHeld ?r62
        case h62 => (intro w hSw; (try dsimp only at hSw); go_simp; try with_reducible rfl)
        try simp only [Act.put, List.setIfInBounds_toArray, List.set_cons_zero, List.set_cons_succ]
        refine wpAnyH_take (i := 4) (oi := { dst := some 43, op := Go.Op.fieldAddr 97 (Go.Operand.tmp 42) 1, type := 0, pos := "l04_facts.go:303", after := #[{ on := 3, ground := Go.Ground.data }], guard := none }) (v := ?v63) rfl (by kernel_rfl) (by kernel_rfl) (by kernel_rfl) (fun _ _ _ h => h) (Or.inl ⟨by rfl, ?h63⟩) hHeld ?r63
        case h63 => (intro w hSw; (try dsimp only at hSw); go_simp; try with_reducible rfl)
        try simp only [Act.put, List.setIfInBounds_toArray, List.set_cons_zero, List.set_cons_succ]
        refine wpAnyH_take (i := 5) (oi := { dst := some 44, op := Go.Op.load 29 (Go.Operand.tmp 43), type := 29, pos := "l04_facts.go:303", after := #[{ on := 4, ground := Go.Ground.data }], guard := none }) (v := ?v64) rfl (by kernel_rfl) (by kernel_rfl) (by kernel_rfl) (fun _ _ _ h => h) (Or.inl ⟨by rfl, ?h64⟩) hHeld ?r64
        case h64 => (intro w hSw; (try dsimp only at hSw); go_simp; try with_reducible rfl)
        try simp only [Act.put, List.setIfInBounds_toArray, List.set_cons_zero, List.set_cons_succ]
        refine wpAnyH_take (i := 6) (oi := { dst := some 45, op := Go.Op.move (Go.Operand.tmp 8), type := 3, pos := "l04_facts.go:303", after := #[], guard := none }) (v := ?v65) rfl (by kernel_rfl) (by kernel_rfl) (by kernel_rfl) (fun _ _ _ h => h) (Or.inl ⟨by rfl, ?h65⟩) hHeld ?r65
        case h65 => (intro w hSw; (try dsimp only at hSw); go_simp; try with_reducible rfl)
        try simp only [Act.put, List.setIfInBounds_toArray, List.set_cons_zero, List.set_cons_succ]
        refine wpAnyH_take (i := 7) (oi := { dst := some 46, op := Go.Op.indexAddr 29 (Go.Operand.tmp 44) (Go.Operand.tmp 45), type := 0, pos := "l04_facts.go:303", after := #[{ on := 5, ground := Go.Ground.data }, { on := 6, ground := Go.Ground.data }], guard := none }) (v := ?v66) rfl (by kernel_rfl) (by kernel_rfl) (by kernel_rfl) (fun _ _ _ h => h) (Or.inl ⟨by rfl, ?h66⟩) hHeld ?r66
        case h66 => (intro w hSw; (try dsimp only at hSw); go_simp; try with_reducible rfl)
        try simp only [Act.put, List.setIfInBounds_toArray, List.set_cons_zero, List.set_cons_succ]
        refine wpAnyH_take (i := 8) (oi := { dst := some 47, op := Go.Op.load 3 (Go.Operand.tmp 46), type := 3, pos := "l04_facts.go:303", after := #[{ on := 7, ground := Go.Ground.data }], guard := none }) (v := ?v67) rfl (by kernel_rfl) (by kernel_rfl) (by kernel_rfl) (fun _ _ _ h => h) (Or.inl ⟨by rfl, ?h67⟩) hHeld ?r67
        case h67 => (intro w hSw; (try dsimp only at hSw); go_simp; try with_reducible rfl)
        try simp only [Act.put, List.setIfInBounds_toArray, List.set_cons_zero, List.set_cons_succ]
        refine wpAnyH_take (i := 9) (oi := { dst := some 48, op := Go.Op.binOp Go.BinOp.eql 3 (Go.Operand.tmp 47) (Go.Operand.const (Go.Value.int Go.IntKind.i64 0)) 3, type := 4, pos := "l04_facts.go:303", after := #[{ on := 8, ground := Go.Ground.data }], guard := none }) (v := ?v68) rfl (by kernel_rfl) (by kernel_rfl) (by kernel_rfl) (fun _ _ _ h => h) (Or.inl ⟨by rfl, ?h68⟩) hHeld ?r68
        case h68 => (intro w hSw; (try dsimp only at hSw); go_simp; try with_reducible rfl)
        try simp only [Act.put, List.setIfInBounds_toArray, List.set_cons_zero, List.set_cons_succ]
        refine wpAnyH_ready (rs := [1, 10]) (by kernel_rfl) (by simp) ?_
        refine (AllReadyH.cons (o := { dst := some 40, op := Go.Op.load 28 (Go.Operand.tmp 39), type := 28, pos := "l04_facts.go:303", after := #[{ on := 0, ground := Go.Ground.data }], guard := none }) rfl (fun K hK => ?_) (AllReadyH.cons (o := { dst := some 49, op := Go.Op.buildSlice 28 1 #[(0, Go.Operand.tmp 48)], type := 28, pos := "l04_facts.go:303", after := #[{ on := 9, ground := Go.Ground.data }], guard := none }) rfl (fun K hK => ?_) AllReadyH.nil))
        · go_simp
          clear hHeld
          refine hK.out _ _ hS0 (fun hHeld => ?_)
          clear hK K
          try simp only [Act.put, List.setIfInBounds_toArray, List.set_cons_zero, List.set_cons_succ]
          refine wpAnyH_ready (rs := [10]) (by kernel_rfl) (by simp) ?_
          refine (AllReadyH.cons (o := { dst := some 49, op := Go.Op.buildSlice 28 1 #[(0, Go.Operand.tmp 48)], type := 28, pos := "l04_facts.go:303", after := #[{ on := 9, ground := Go.Ground.data }], guard := none }) rfl (fun K hK => ?_) AllReadyH.nil)
          go_simp
          clear hHeld
          refine hK.out _ _ hS1 (fun hHeld => ?_)
          clear hK K
          try simp only [Act.put, List.setIfInBounds_toArray, List.set_cons_zero, List.set_cons_succ]
          refine wpAnyH_ready (rs := [11]) (by kernel_rfl) (by simp) ?_
          refine (AllReadyH.cons (o := { dst := some 50, op := Go.Op.call { callee := Go.Callee.builtin Go.Builtin.append, args := #[Go.Operand.tmp 40, Go.Operand.tmp 49], argTypes := #[28, 28] }, type := 28, pos := "l04_facts.go:303", after := #[{ on := 1, ground := Go.Ground.data }, { on := 10, ground := Go.Ground.data }], guard := none }) rfl (fun K hK => ?_) AllReadyH.nil)
          refine step_append_run rfl (.tmp 40) (.tmp 49) 28 28 rfl (by simp [Act.eval, Act.put]) (by simp [Act.eval, Act.put]) HR.out ?_
          clear hHeld
          refine hK.out _ _ hS2 (fun hHeld => ?_)
          clear hK K
          try simp only [Act.put, List.setIfInBounds_toArray, List.set_cons_zero, List.set_cons_succ]
          refine wpAnyH_take (i := 12) (oi := { dst := some 51, op := Go.Op.fieldAddr 32 (Go.Operand.tmp 7) 0, type := 0, pos := "l04_facts.go:303", after := #[{ on := 0, ground := Go.Ground.phase }, { on := 1, ground := Go.Ground.phase }, { on := 2, ground := Go.Ground.phase }, { on := 3, ground := Go.Ground.phase }, { on := 4, ground := Go.Ground.phase }, { on := 5, ground := Go.Ground.phase }, { on := 6, ground := Go.Ground.phase }, { on := 7, ground := Go.Ground.phase }, { on := 8, ground := Go.Ground.phase }, { on := 9, ground := Go.Ground.phase }, { on := 10, ground := Go.Ground.phase }, { on := 11, ground := Go.Ground.phase }], guard := none }) (v := ?v69) rfl (by kernel_rfl) (by kernel_rfl) (by kernel_rfl) (fun _ _ _ h => h) (Or.inl ⟨by rfl, ?h69⟩) hHeld ?r69
          case h69 => (intro w hSw; (try dsimp only at hSw); go_simp; try with_reducible rfl)
          try simp only [Act.put, List.setIfInBounds_toArray, List.set_cons_zero, List.set_cons_succ]
          refine wpAnyH_ready (rs := [13]) (by kernel_rfl) (by simp) ?_
          refine (AllReadyH.cons (o := { dst := none, op := Go.Op.store 28 (Go.Operand.tmp 51) (Go.Operand.tmp 50), type := 0, pos := "l04_facts.go:303", after := #[{ on := 12, ground := Go.Ground.data }, { on := 11, ground := Go.Ground.data }, { on := 11, ground := Go.Ground.chain }, { on := 0, ground := Go.Ground.phase }, { on := 1, ground := Go.Ground.phase }, { on := 2, ground := Go.Ground.phase }, { on := 3, ground := Go.Ground.phase }, { on := 4, ground := Go.Ground.phase }, { on := 5, ground := Go.Ground.phase }, { on := 6, ground := Go.Ground.phase }, { on := 7, ground := Go.Ground.phase }, { on := 8, ground := Go.Ground.phase }, { on := 9, ground := Go.Ground.phase }, { on := 10, ground := Go.Ground.phase }, { on := 11, ground := Go.Ground.phase }], guard := none }) rfl (fun K hK => ?_) AllReadyH.nil)
          go_simp
          clear hHeld
          refine hK.out _ _ hS3 (fun hHeld => ?_)
          clear hK K
          try simp only [Act.put, List.setIfInBounds_toArray, List.set_cons_zero, List.set_cons_succ]
          refine wpAnyH_done (by kernel_rfl) ?_ _
          go_wp2_with fail
          go_meet
          exact HST
        · go_simp
          clear hHeld
          refine hK.out _ _ hS1 (fun hHeld => ?_)
          clear hK K
          try simp only [Act.put, List.setIfInBounds_toArray, List.set_cons_zero, List.set_cons_succ]
          refine wpAnyH_ready (rs := [1]) (by kernel_rfl) (by simp) ?_
          refine (AllReadyH.cons (o := { dst := some 40, op := Go.Op.load 28 (Go.Operand.tmp 39), type := 28, pos := "l04_facts.go:303", after := #[{ on := 0, ground := Go.Ground.data }], guard := none }) rfl (fun K hK => ?_) AllReadyH.nil)
          go_simp
          clear hHeld
          refine hK.out _ _ hS1 (fun hHeld => ?_)
          clear hK K
          try simp only [Act.put, List.setIfInBounds_toArray, List.set_cons_zero, List.set_cons_succ]
          refine wpAnyH_ready (rs := [11]) (by kernel_rfl) (by simp) ?_
          refine (AllReadyH.cons (o := { dst := some 50, op := Go.Op.call { callee := Go.Callee.builtin Go.Builtin.append, args := #[Go.Operand.tmp 40, Go.Operand.tmp 49], argTypes := #[28, 28] }, type := 28, pos := "l04_facts.go:303", after := #[{ on := 1, ground := Go.Ground.data }, { on := 10, ground := Go.Ground.data }], guard := none }) rfl (fun K hK => ?_) AllReadyH.nil)
          refine step_append_run rfl (.tmp 40) (.tmp 49) 28 28 rfl (by simp [Act.eval, Act.put]) (by simp [Act.eval, Act.put]) HR.out ?_
          clear hHeld
          refine hK.out _ _ hS2 (fun hHeld => ?_)
          clear hK K
          try simp only [Act.put, List.setIfInBounds_toArray, List.set_cons_zero, List.set_cons_succ]
          refine wpAnyH_take (i := 12) (oi := { dst := some 51, op := Go.Op.fieldAddr 32 (Go.Operand.tmp 7) 0, type := 0, pos := "l04_facts.go:303", after := #[{ on := 0, ground := Go.Ground.phase }, { on := 1, ground := Go.Ground.phase }, { on := 2, ground := Go.Ground.phase }, { on := 3, ground := Go.Ground.phase }, { on := 4, ground := Go.Ground.phase }, { on := 5, ground := Go.Ground.phase }, { on := 6, ground := Go.Ground.phase }, { on := 7, ground := Go.Ground.phase }, { on := 8, ground := Go.Ground.phase }, { on := 9, ground := Go.Ground.phase }, { on := 10, ground := Go.Ground.phase }, { on := 11, ground := Go.Ground.phase }], guard := none }) (v := ?v70) rfl (by kernel_rfl) (by kernel_rfl) (by kernel_rfl) (fun _ _ _ h => h) (Or.inl ⟨by rfl, ?h70⟩) hHeld ?r70
          case h70 => (intro w hSw; (try dsimp only at hSw); go_simp; try with_reducible rfl)
          try simp only [Act.put, List.setIfInBounds_toArray, List.set_cons_zero, List.set_cons_succ]
          refine wpAnyH_ready (rs := [13]) (by kernel_rfl) (by simp) ?_
          refine (AllReadyH.cons (o := { dst := none, op := Go.Op.store 28 (Go.Operand.tmp 51) (Go.Operand.tmp 50), type := 0, pos := "l04_facts.go:303", after := #[{ on := 12, ground := Go.Ground.data }, { on := 11, ground := Go.Ground.data }, { on := 11, ground := Go.Ground.chain }, { on := 0, ground := Go.Ground.phase }, { on := 1, ground := Go.Ground.phase }, { on := 2, ground := Go.Ground.phase }, { on := 3, ground := Go.Ground.phase }, { on := 4, ground := Go.Ground.phase }, { on := 5, ground := Go.Ground.phase }, { on := 6, ground := Go.Ground.phase }, { on := 7, ground := Go.Ground.phase }, { on := 8, ground := Go.Ground.phase }, { on := 9, ground := Go.Ground.phase }, { on := 10, ground := Go.Ground.phase }, { on := 11, ground := Go.Ground.phase }], guard := none }) rfl (fun K hK => ?_) AllReadyH.nil)
          go_simp
          clear hHeld
          refine hK.out _ _ hS3 (fun hHeld => ?_)
          clear hK K
          try simp only [Act.put, List.setIfInBounds_toArray, List.set_cons_zero, List.set_cons_succ]
          refine wpAnyH_done (by kernel_rfl) ?_ _
          go_wp2_with fail
          go_meet
          exact HST
      case rest =>
        have HF1 := hcut
        clear hu0 hf0 hcut HF0
        obtain ⟨us1, hf1⟩ := HF1.out
        obtain ⟨u1z, hu1⟩ : ∃ u, us1[1]? = some u := ⟨_, List.getElem?_eq_getElem (by rw [hf1.len]; simp)⟩
        go_upto_region 11 with fail
        go_cut [] from 52 to 64 (fun wx => Hid (∃ us, FSu wA g g us [(4, C0 ++ [.bool x0]), (4, C1 ++ [.bool x1]), (4, C2), (4, C3), (3, C4), (29, C5), (29, C6)] rows wx))
        case first =>
          have hfd := hf1.still ((Below.refl wc.heap.size wc).drew)
          have hc0 : wc.drew.cell? ⟨g, 1, none⟩ = some u1z := by have := hfd.at (j := 1) (by rw [hf1.len]; simp); rw [List.getElem?_eq_getElem (by rw [hf1.len]; simp)] at hu1; injection hu1 with hu; rw [← hu]; exact this
          have hbl := bel_alloc wc.drew (.cells #[.bool x1] 4)
          have hc1 : (wc.drew.alloc (.cells #[.bool x1] 4)).cell? ⟨g, 1, none⟩ = some u1z := (hbl.cell (lt_of_cell hc0)).trans hc0
          have hc2 : ((wc.alloc (.cells #[.bool x1] 4)).drew).cell? ⟨g, 1, none⟩ = some u1z := hc1
          obtain ⟨a2, c2, n2, w3, hr, ⟨y3, hy3⟩, hfz, hst, hb3⟩ := hfd.push4 1 (by simp) C1 rfl wc.heap.size x1 rfl HC1.out u1z hu1
          have HR := (show Hid _ from hr)
          have HST : Hid (∃ us, FSu wA g g us [(4, C0 ++ [.bool x0]), (4, C1 ++ [.bool x1]), (4, C2), (4, C3), (3, C4), (29, C5), (29, C6)] rows (w3.setCell ⟨g, 1, none⟩ (.slice a2 n2 c2))) := ⟨_, hst⟩
          have hS0 := HSF.out wc.drew (fun q hq => hfd.bel.block q hq)
          have hS1 := HSF.out (wc.drew.alloc (.cells #[.bool x1] 4)) (fun q hq => (hbl.block q (Nat.lt_of_lt_of_le hq hfd.bz)).trans (hfd.bel.block q hq))
          have hS2 := HSF.out w3 (fun q hq => hb3.block q hq)
          have hS3 := HSF.out (w3.setCell ⟨g, 1, none⟩ (.slice a2 n2 c2)) (fun q hq => hst.bel.block q hq)
          clear hr hst hb3 hbl hfd hf1
          clear HSF HFIN HC72 HC73 HC75 HC76 HLOW HSS HKN
          refine wp_region_held_drew (S := (fun w' => w'.cell? ⟨gs, 4, none⟩ = some (.slice (some ⟨bs, 0, none⟩) N N) ∧ w'.cell? ⟨bs, s, none⟩ = some (.int .i64 x4))) (by kernel_rfl) hS0 (fun hHeld => ?_)
          refine wpAnyH_take (i := 0) (oi := { dst := some 52, op := Go.Op.fieldAddr 32 (Go.Operand.tmp 7) 1, type := 0, pos := "l04_facts.go:304", after := #[], guard := none }) (v := ?v71) rfl (by kernel_rfl) (by kernel_rfl) (by kernel_rfl) (fun _ _ _ h => h) (Or.inl ⟨by rfl, ?h71⟩) hHeld ?r71
          case h71 => (intro w hSw; (try dsimp only at hSw); go_simp; try with_reducible rfl)
          try simp only [Act.put, List.setIfInBounds_toArray, List.set_cons_zero, List.set_cons_succ]
          refine wpAnyH_take (i := 2) (oi := { dst := some 54, op := Go.Op.move (Go.Operand.tmp 0), type := 58, pos := "l04_facts.go:304", after := #[], guard := none }) (v := ?v72) rfl (by kernel_rfl) (by kernel_rfl) (by kernel_rfl) (fun _ _ _ h => h) (Or.inl ⟨by rfl, ?h72⟩) hHeld ?r72
          case h72 => (intro w hSw; (try dsimp only at hSw); go_simp; try with_reducible rfl)
          try simp only [Act.put, List.setIfInBounds_toArray, List.set_cons_zero, List.set_cons_succ]
          refine wpAnyH_take (i := 3) (oi := { dst := some 55, op := Go.Op.nilCheck (Go.Operand.tmp 54), type := 0, pos := "l04_facts.go:304", after := #[{ on := 2, ground := Go.Ground.data }], guard := none }) (v := ?v73) rfl (by kernel_rfl) (by kernel_rfl) (by kernel_rfl) (fun _ _ _ h => h) (Or.inl ⟨by rfl, ?h73⟩) hHeld ?r73
          case h73 => (intro w hSw; (try dsimp only at hSw); go_simp; try with_reducible rfl)
          try simp only [Act.put, List.setIfInBounds_toArray, List.set_cons_zero, List.set_cons_succ]
          refine wpAnyH_take (i := 4) (oi := { dst := some 56, op := Go.Op.fieldAddr 97 (Go.Operand.tmp 55) 1, type := 0, pos := "l04_facts.go:304", after := #[{ on := 3, ground := Go.Ground.data }], guard := none }) (v := ?v74) rfl (by kernel_rfl) (by kernel_rfl) (by kernel_rfl) (fun _ _ _ h => h) (Or.inl ⟨by rfl, ?h74⟩) hHeld ?r74
          case h74 => (intro w hSw; (try dsimp only at hSw); go_simp; try with_reducible rfl)
          try simp only [Act.put, List.setIfInBounds_toArray, List.set_cons_zero, List.set_cons_succ]
          refine wpAnyH_take (i := 5) (oi := { dst := some 57, op := Go.Op.load 29 (Go.Operand.tmp 56), type := 29, pos := "l04_facts.go:304", after := #[{ on := 4, ground := Go.Ground.data }], guard := none }) (v := ?v75) rfl (by kernel_rfl) (by kernel_rfl) (by kernel_rfl) (fun _ _ _ h => h) (Or.inl ⟨by rfl, ?h75⟩) hHeld ?r75
          case h75 => (intro w hSw; (try dsimp only at hSw); go_simp; try with_reducible rfl)
          try simp only [Act.put, List.setIfInBounds_toArray, List.set_cons_zero, List.set_cons_succ]
          refine wpAnyH_take (i := 6) (oi := { dst := some 58, op := Go.Op.move (Go.Operand.tmp 8), type := 3, pos := "l04_facts.go:304", after := #[], guard := none }) (v := ?v76) rfl (by kernel_rfl) (by kernel_rfl) (by kernel_rfl) (fun _ _ _ h => h) (Or.inl ⟨by rfl, ?h76⟩) hHeld ?r76
          case h76 => (intro w hSw; (try dsimp only at hSw); go_simp; try with_reducible rfl)
          try simp only [Act.put, List.setIfInBounds_toArray, List.set_cons_zero, List.set_cons_succ]
          refine wpAnyH_take (i := 7) (oi := { dst := some 59, op := Go.Op.indexAddr 29 (Go.Operand.tmp 57) (Go.Operand.tmp 58), type := 0, pos := "l04_facts.go:304", after := #[{ on := 5, ground := Go.Ground.data }, { on := 6, ground := Go.Ground.data }], guard := none }) (v := ?v77) rfl (by kernel_rfl) (by kernel_rfl) (by kernel_rfl) (fun _ _ _ h => h) (Or.inl ⟨by rfl, ?h77⟩) hHeld ?r77
          case h77 => (intro w hSw; (try dsimp only at hSw); go_simp; try with_reducible rfl)
          try simp only [Act.put, List.setIfInBounds_toArray, List.set_cons_zero, List.set_cons_succ]
          refine wpAnyH_take (i := 8) (oi := { dst := some 60, op := Go.Op.load 3 (Go.Operand.tmp 59), type := 3, pos := "l04_facts.go:304", after := #[{ on := 7, ground := Go.Ground.data }], guard := none }) (v := ?v78) rfl (by kernel_rfl) (by kernel_rfl) (by kernel_rfl) (fun _ _ _ h => h) (Or.inl ⟨by rfl, ?h78⟩) hHeld ?r78
          case h78 => (intro w hSw; (try dsimp only at hSw); go_simp; try with_reducible rfl)
          try simp only [Act.put, List.setIfInBounds_toArray, List.set_cons_zero, List.set_cons_succ]
          refine wpAnyH_take (i := 9) (oi := { dst := some 61, op := Go.Op.binOp Go.BinOp.neq 3 (Go.Operand.tmp 60) (Go.Operand.const (Go.Value.int Go.IntKind.i64 (-1))) 3, type := 4, pos := "l04_facts.go:304", after := #[{ on := 8, ground := Go.Ground.data }], guard := none }) (v := ?v79) rfl (by kernel_rfl) (by kernel_rfl) (by kernel_rfl) (fun _ _ _ h => h) (Or.inl ⟨by rfl, ?h79⟩) hHeld ?r79
          case h79 => (intro w hSw; (try dsimp only at hSw); go_simp; try with_reducible rfl)
          try simp only [Act.put, List.setIfInBounds_toArray, List.set_cons_zero, List.set_cons_succ]
          refine wpAnyH_ready (rs := [1, 10]) (by kernel_rfl) (by simp) ?_
          refine (AllReadyH.cons (o := { dst := some 53, op := Go.Op.load 28 (Go.Operand.tmp 52), type := 28, pos := "l04_facts.go:304", after := #[{ on := 0, ground := Go.Ground.data }], guard := none }) rfl (fun K hK => ?_) (AllReadyH.cons (o := { dst := some 62, op := Go.Op.buildSlice 28 1 #[(0, Go.Operand.tmp 61)], type := 28, pos := "l04_facts.go:304", after := #[{ on := 9, ground := Go.Ground.data }], guard := none }) rfl (fun K hK => ?_) AllReadyH.nil))
          · go_simp
            clear hHeld
            refine hK.out _ _ hS0 (fun hHeld => ?_)
            clear hK K
            try simp only [Act.put, List.setIfInBounds_toArray, List.set_cons_zero, List.set_cons_succ]
            refine wpAnyH_ready (rs := [10]) (by kernel_rfl) (by simp) ?_
            refine (AllReadyH.cons (o := { dst := some 62, op := Go.Op.buildSlice 28 1 #[(0, Go.Operand.tmp 61)], type := 28, pos := "l04_facts.go:304", after := #[{ on := 9, ground := Go.Ground.data }], guard := none }) rfl (fun K hK => ?_) AllReadyH.nil)
            go_simp
            clear hHeld
            refine hK.out _ _ hS1 (fun hHeld => ?_)
            clear hK K
            try simp only [Act.put, List.setIfInBounds_toArray, List.set_cons_zero, List.set_cons_succ]
            refine wpAnyH_ready (rs := [11]) (by kernel_rfl) (by simp) ?_
            refine (AllReadyH.cons (o := { dst := some 63, op := Go.Op.call { callee := Go.Callee.builtin Go.Builtin.append, args := #[Go.Operand.tmp 53, Go.Operand.tmp 62], argTypes := #[28, 28] }, type := 28, pos := "l04_facts.go:304", after := #[{ on := 1, ground := Go.Ground.data }, { on := 10, ground := Go.Ground.data }], guard := none }) rfl (fun K hK => ?_) AllReadyH.nil)
            refine step_append_run rfl (.tmp 53) (.tmp 62) 28 28 rfl (by simp [Act.eval, Act.put]) (by simp [Act.eval, Act.put]) HR.out ?_
            clear hHeld
            refine hK.out _ _ hS2 (fun hHeld => ?_)
            clear hK K
            try simp only [Act.put, List.setIfInBounds_toArray, List.set_cons_zero, List.set_cons_succ]
            refine wpAnyH_take (i := 12) (oi := { dst := some 64, op := Go.Op.fieldAddr 32 (Go.Operand.tmp 7) 1, type := 0, pos := "l04_facts.go:304", after := #[{ on := 0, ground := Go.Ground.phase }, { on := 1, ground := Go.Ground.phase }, { on := 2, ground := Go.Ground.phase }, { on := 3, ground := Go.Ground.phase }, { on := 4, ground := Go.Ground.phase }, { on := 5, ground := Go.Ground.phase }, { on := 6, ground := Go.Ground.phase }, { on := 7, ground := Go.Ground.phase }, { on := 8, ground := Go.Ground.phase }, { on := 9, ground := Go.Ground.phase }, { on := 10, ground := Go.Ground.phase }, { on := 11, ground := Go.Ground.phase }], guard := none }) (v := ?v80) rfl (by kernel_rfl) (by kernel_rfl) (by kernel_rfl) (fun _ _ _ h => h) (Or.inl ⟨by rfl, ?h80⟩) hHeld ?r80
            case h80 => (intro w hSw; (try dsimp only at hSw); go_simp; try with_reducible rfl)
            try simp only [Act.put, List.setIfInBounds_toArray, List.set_cons_zero, List.set_cons_succ]
            refine wpAnyH_ready (rs := [13]) (by kernel_rfl) (by simp) ?_
            refine (AllReadyH.cons (o := { dst := none, op := Go.Op.store 28 (Go.Operand.tmp 64) (Go.Operand.tmp 63), type := 0, pos := "l04_facts.go:304", after := #[{ on := 12, ground := Go.Ground.data }, { on := 11, ground := Go.Ground.data }, { on := 11, ground := Go.Ground.chain }, { on := 0, ground := Go.Ground.phase }, { on := 1, ground := Go.Ground.phase }, { on := 2, ground := Go.Ground.phase }, { on := 3, ground := Go.Ground.phase }, { on := 4, ground := Go.Ground.phase }, { on := 5, ground := Go.Ground.phase }, { on := 6, ground := Go.Ground.phase }, { on := 7, ground := Go.Ground.phase }, { on := 8, ground := Go.Ground.phase }, { on := 9, ground := Go.Ground.phase }, { on := 10, ground := Go.Ground.phase }, { on := 11, ground := Go.Ground.phase }], guard := none }) rfl (fun K hK => ?_) AllReadyH.nil)
            go_simp
            clear hHeld
            refine hK.out _ _ hS3 (fun hHeld => ?_)
            clear hK K
            try simp only [Act.put, List.setIfInBounds_toArray, List.set_cons_zero, List.set_cons_succ]
            refine wpAnyH_done (by kernel_rfl) ?_ _
            go_wp2_with fail
            go_meet
            exact HST
          · go_simp
            clear hHeld
            refine hK.out _ _ hS1 (fun hHeld => ?_)
            clear hK K
            try simp only [Act.put, List.setIfInBounds_toArray, List.set_cons_zero, List.set_cons_succ]
            refine wpAnyH_ready (rs := [1]) (by kernel_rfl) (by simp) ?_
            refine (AllReadyH.cons (o := { dst := some 53, op := Go.Op.load 28 (Go.Operand.tmp 52), type := 28, pos := "l04_facts.go:304", after := #[{ on := 0, ground := Go.Ground.data }], guard := none }) rfl (fun K hK => ?_) AllReadyH.nil)
            go_simp
            clear hHeld
            refine hK.out _ _ hS1 (fun hHeld => ?_)
            clear hK K
            try simp only [Act.put, List.setIfInBounds_toArray, List.set_cons_zero, List.set_cons_succ]
            refine wpAnyH_ready (rs := [11]) (by kernel_rfl) (by simp) ?_
            refine (AllReadyH.cons (o := { dst := some 63, op := Go.Op.call { callee := Go.Callee.builtin Go.Builtin.append, args := #[Go.Operand.tmp 53, Go.Operand.tmp 62], argTypes := #[28, 28] }, type := 28, pos := "l04_facts.go:304", after := #[{ on := 1, ground := Go.Ground.data }, { on := 10, ground := Go.Ground.data }], guard := none }) rfl (fun K hK => ?_) AllReadyH.nil)
            refine step_append_run rfl (.tmp 53) (.tmp 62) 28 28 rfl (by simp [Act.eval, Act.put]) (by simp [Act.eval, Act.put]) HR.out ?_
            clear hHeld
            refine hK.out _ _ hS2 (fun hHeld => ?_)
            clear hK K
            try simp only [Act.put, List.setIfInBounds_toArray, List.set_cons_zero, List.set_cons_succ]
            refine wpAnyH_take (i := 12) (oi := { dst := some 64, op := Go.Op.fieldAddr 32 (Go.Operand.tmp 7) 1, type := 0, pos := "l04_facts.go:304", after := #[{ on := 0, ground := Go.Ground.phase }, { on := 1, ground := Go.Ground.phase }, { on := 2, ground := Go.Ground.phase }, { on := 3, ground := Go.Ground.phase }, { on := 4, ground := Go.Ground.phase }, { on := 5, ground := Go.Ground.phase }, { on := 6, ground := Go.Ground.phase }, { on := 7, ground := Go.Ground.phase }, { on := 8, ground := Go.Ground.phase }, { on := 9, ground := Go.Ground.phase }, { on := 10, ground := Go.Ground.phase }, { on := 11, ground := Go.Ground.phase }], guard := none }) (v := ?v81) rfl (by kernel_rfl) (by kernel_rfl) (by kernel_rfl) (fun _ _ _ h => h) (Or.inl ⟨by rfl, ?h81⟩) hHeld ?r81
            case h81 => (intro w hSw; (try dsimp only at hSw); go_simp; try with_reducible rfl)
            try simp only [Act.put, List.setIfInBounds_toArray, List.set_cons_zero, List.set_cons_succ]
            refine wpAnyH_ready (rs := [13]) (by kernel_rfl) (by simp) ?_
            refine (AllReadyH.cons (o := { dst := none, op := Go.Op.store 28 (Go.Operand.tmp 64) (Go.Operand.tmp 63), type := 0, pos := "l04_facts.go:304", after := #[{ on := 12, ground := Go.Ground.data }, { on := 11, ground := Go.Ground.data }, { on := 11, ground := Go.Ground.chain }, { on := 0, ground := Go.Ground.phase }, { on := 1, ground := Go.Ground.phase }, { on := 2, ground := Go.Ground.phase }, { on := 3, ground := Go.Ground.phase }, { on := 4, ground := Go.Ground.phase }, { on := 5, ground := Go.Ground.phase }, { on := 6, ground := Go.Ground.phase }, { on := 7, ground := Go.Ground.phase }, { on := 8, ground := Go.Ground.phase }, { on := 9, ground := Go.Ground.phase }, { on := 10, ground := Go.Ground.phase }, { on := 11, ground := Go.Ground.phase }], guard := none }) rfl (fun K hK => ?_) AllReadyH.nil)
            go_simp
            clear hHeld
            refine hK.out _ _ hS3 (fun hHeld => ?_)
            clear hK K
            try simp only [Act.put, List.setIfInBounds_toArray, List.set_cons_zero, List.set_cons_succ]
            refine wpAnyH_done (by kernel_rfl) ?_ _
            go_wp2_with fail
            go_meet
            exact HST
        case rest =>
          have HF2 := hcut
          clear hu1 hf1 hcut HF1
          obtain ⟨us2, hf2⟩ := HF2.out
          obtain ⟨u2z, hu2⟩ : ∃ u, us2[2]? = some u := ⟨_, List.getElem?_eq_getElem (by rw [hf2.len]; simp)⟩
          go_upto_region 12 with fail
          go_cut [] from 65 to 71 (fun wx => Hid (∃ us, FSu wA g g us [(4, C0 ++ [.bool x0]), (4, C1 ++ [.bool x1]), (4, C2 ++ [.bool x2]), (4, C3), (3, C4), (29, C5), (29, C6)] rows wx))
          case first =>
            have hfd := hf2.still ((Below.refl wc.heap.size wc).drew)
            have hc0 : wc.drew.cell? ⟨g, 2, none⟩ = some u2z := by have := hfd.at (j := 2) (by rw [hf2.len]; simp); rw [List.getElem?_eq_getElem (by rw [hf2.len]; simp)] at hu2; injection hu2 with hu; rw [← hu]; exact this
            have hbl := bel_alloc wc.drew (.cells #[.bool x2] 4)
            have hc1 : (wc.drew.alloc (.cells #[.bool x2] 4)).cell? ⟨g, 2, none⟩ = some u2z := (hbl.cell (lt_of_cell hc0)).trans hc0
            have hc2 : ((wc.alloc (.cells #[.bool x2] 4)).drew).cell? ⟨g, 2, none⟩ = some u2z := hc1
            obtain ⟨a2, c2, n2, w3, hr, ⟨y3, hy3⟩, hfz, hst, hb3⟩ := hfd.push4 2 (by simp) C2 rfl wc.heap.size x2 rfl HC2.out u2z hu2
            have HR := (show Hid _ from hr)
            have HST : Hid (∃ us, FSu wA g g us [(4, C0 ++ [.bool x0]), (4, C1 ++ [.bool x1]), (4, C2 ++ [.bool x2]), (4, C3), (3, C4), (29, C5), (29, C6)] rows (w3.setCell ⟨g, 2, none⟩ (.slice a2 n2 c2))) := ⟨_, hst⟩
            have HCL := (show Hid _ from HC72.out wc.drew (fun q hq => hfd.bel.block q hq))
            clear hr hst hb3 hbl hfd hf2
            clear HSF HFIN HC72 HC73 HC75 HC76 HLOW HSS HKN
            refine wp_region_held_drew (S := fun _ => True) (by kernel_rfl) trivial (fun hHeld => ?_)
            refine wpAnyH_take (i := 0) (oi := { dst := some 65, op := Go.Op.fieldAddr 32 (Go.Operand.tmp 7) 2, type := 0, pos := "l04_facts.go:305", after := #[], guard := none }) (v := ?v82) rfl (by kernel_rfl) (by kernel_rfl) (by kernel_rfl) (fun _ _ _ h => h) (Or.inl ⟨by rfl, ?h82⟩) hHeld ?r82
            case h82 => (intro w hSw; (try dsimp only at hSw); go_simp; try with_reducible rfl)
            try simp only [Act.put, List.setIfInBounds_toArray, List.set_cons_zero, List.set_cons_succ]
            refine wpAnyH_take (i := 2) (oi := { dst := some 67, op := Go.Op.move (Go.Operand.tmp 8), type := 3, pos := "l04_facts.go:305", after := #[], guard := none }) (v := ?v83) rfl (by kernel_rfl) (by kernel_rfl) (by kernel_rfl) (fun _ _ _ h => h) (Or.inl ⟨by rfl, ?h83⟩) hHeld ?r83
            case h83 => (intro w hSw; (try dsimp only at hSw); go_simp; try with_reducible rfl)
            try simp only [Act.put, List.setIfInBounds_toArray, List.set_cons_zero, List.set_cons_succ]
            refine wpAnyH_ready (rs := [1, 3]) (by kernel_rfl) (by simp) ?_
            refine (AllReadyH.cons (o := { dst := some 66, op := Go.Op.load 28 (Go.Operand.tmp 65), type := 28, pos := "l04_facts.go:305", after := #[{ on := 0, ground := Go.Ground.data }], guard := none }) rfl (fun K hK => ?_) (AllReadyH.cons (o := { dst := some 68, op := Go.Op.call { callee := Go.Callee.value (Go.Operand.func 71), args := #[Go.Operand.tmp 3, Go.Operand.tmp 67], argTypes := #[102, 3] }, type := 4, pos := "l04_facts.go:305", after := #[{ on := 2, ground := Go.Ground.data }], guard := none }) rfl (fun K hK => ?_) AllReadyH.nil))
            · go_simp
              clear hHeld
              refine hK.out _ _ trivial (fun hHeld => ?_)
              clear hK K
              try simp only [Act.put, List.setIfInBounds_toArray, List.set_cons_zero, List.set_cons_succ]
              refine wpAnyH_ready (rs := [3]) (by kernel_rfl) (by simp) ?_
              refine (AllReadyH.cons (o := { dst := some 68, op := Go.Op.call { callee := Go.Callee.value (Go.Operand.func 71), args := #[Go.Operand.tmp 3, Go.Operand.tmp 67], argTypes := #[102, 3] }, type := 4, pos := "l04_facts.go:305", after := #[{ on := 2, ground := Go.Ground.data }], guard := none }) rfl (fun K hK => ?_) AllReadyH.nil)
              go_simp
              refine Calls.mono HCL.out ?_
              rintro e w2 ⟨rfl, rfl⟩
              dsimp only
              clear hHeld
              refine hK.out _ _ trivial (fun hHeld => ?_)
              clear hK K
              try simp only [Act.put, List.setIfInBounds_toArray, List.set_cons_zero, List.set_cons_succ]
              refine wpAnyH_ready (rs := [4]) (by kernel_rfl) (by simp) ?_
              refine (AllReadyH.cons (o := { dst := some 69, op := Go.Op.buildSlice 28 1 #[(0, Go.Operand.tmp 68)], type := 28, pos := "l04_facts.go:305", after := #[{ on := 3, ground := Go.Ground.data }], guard := none }) rfl (fun K hK => ?_) AllReadyH.nil)
              go_simp
              clear hHeld
              refine hK.out _ _ trivial (fun hHeld => ?_)
              clear hK K
              try simp only [Act.put, List.setIfInBounds_toArray, List.set_cons_zero, List.set_cons_succ]
              refine wpAnyH_ready (rs := [5]) (by kernel_rfl) (by simp) ?_
              refine (AllReadyH.cons (o := { dst := some 70, op := Go.Op.call { callee := Go.Callee.builtin Go.Builtin.append, args := #[Go.Operand.tmp 66, Go.Operand.tmp 69], argTypes := #[28, 28] }, type := 28, pos := "l04_facts.go:305", after := #[{ on := 1, ground := Go.Ground.data }, { on := 4, ground := Go.Ground.data }, { on := 3, ground := Go.Ground.chain }], guard := none }) rfl (fun K hK => ?_) AllReadyH.nil)
              refine step_append_run rfl (.tmp 66) (.tmp 69) 28 28 rfl (by simp [Act.eval, Act.put]) (by simp [Act.eval, Act.put]) HR.out ?_
              clear hHeld
              refine hK.out _ _ trivial (fun hHeld => ?_)
              clear hK K
              try simp only [Act.put, List.setIfInBounds_toArray, List.set_cons_zero, List.set_cons_succ]
              refine wpAnyH_take (i := 6) (oi := { dst := some 71, op := Go.Op.fieldAddr 32 (Go.Operand.tmp 7) 2, type := 0, pos := "l04_facts.go:305", after := #[{ on := 0, ground := Go.Ground.phase }, { on := 1, ground := Go.Ground.phase }, { on := 2, ground := Go.Ground.phase }, { on := 3, ground := Go.Ground.phase }, { on := 4, ground := Go.Ground.phase }, { on := 5, ground := Go.Ground.phase }], guard := none }) (v := ?v84) rfl (by kernel_rfl) (by kernel_rfl) (by kernel_rfl) (fun _ _ _ h => h) (Or.inl ⟨by rfl, ?h84⟩) hHeld ?r84
              case h84 => (intro w hSw; (try dsimp only at hSw); go_simp; try with_reducible rfl)
              try simp only [Act.put, List.setIfInBounds_toArray, List.set_cons_zero, List.set_cons_succ]
              refine wpAnyH_ready (rs := [7]) (by kernel_rfl) (by simp) ?_
              refine (AllReadyH.cons (o := { dst := none, op := Go.Op.store 28 (Go.Operand.tmp 71) (Go.Operand.tmp 70), type := 0, pos := "l04_facts.go:305", after := #[{ on := 6, ground := Go.Ground.data }, { on := 5, ground := Go.Ground.data }, { on := 5, ground := Go.Ground.chain }, { on := 0, ground := Go.Ground.phase }, { on := 1, ground := Go.Ground.phase }, { on := 2, ground := Go.Ground.phase }, { on := 3, ground := Go.Ground.phase }, { on := 4, ground := Go.Ground.phase }, { on := 5, ground := Go.Ground.phase }], guard := none }) rfl (fun K hK => ?_) AllReadyH.nil)
              go_simp
              clear hHeld
              refine hK.out _ _ trivial (fun hHeld => ?_)
              clear hK K
              try simp only [Act.put, List.setIfInBounds_toArray, List.set_cons_zero, List.set_cons_succ]
              refine wpAnyH_done (by kernel_rfl) ?_ _
              go_wp2_with fail
              go_meet
              exact HST
            · go_simp
              refine Calls.mono HCL.out ?_
              rintro e w2 ⟨rfl, rfl⟩
              dsimp only
              clear hHeld
              refine hK.out _ _ trivial (fun hHeld => ?_)
              clear hK K
              try simp only [Act.put, List.setIfInBounds_toArray, List.set_cons_zero, List.set_cons_succ]
              refine wpAnyH_ready (rs := [1, 4]) (by kernel_rfl) (by simp) ?_
              refine (AllReadyH.cons (o := { dst := some 66, op := Go.Op.load 28 (Go.Operand.tmp 65), type := 28, pos := "l04_facts.go:305", after := #[{ on := 0, ground := Go.Ground.data }], guard := none }) rfl (fun K hK => ?_) (AllReadyH.cons (o := { dst := some 69, op := Go.Op.buildSlice 28 1 #[(0, Go.Operand.tmp 68)], type := 28, pos := "l04_facts.go:305", after := #[{ on := 3, ground := Go.Ground.data }], guard := none }) rfl (fun K hK => ?_) AllReadyH.nil))
              · go_simp
                clear hHeld
                refine hK.out _ _ trivial (fun hHeld => ?_)
                clear hK K
                try simp only [Act.put, List.setIfInBounds_toArray, List.set_cons_zero, List.set_cons_succ]
                refine wpAnyH_ready (rs := [4]) (by kernel_rfl) (by simp) ?_
                refine (AllReadyH.cons (o := { dst := some 69, op := Go.Op.buildSlice 28 1 #[(0, Go.Operand.tmp 68)], type := 28, pos := "l04_facts.go:305", after := #[{ on := 3, ground := Go.Ground.data }], guard := none }) rfl (fun K hK => ?_) AllReadyH.nil)
                go_simp
                clear hHeld
                refine hK.out _ _ trivial (fun hHeld => ?_)
                clear hK K
                try simp only [Act.put, List.setIfInBounds_toArray, List.set_cons_zero, List.set_cons_succ]
                refine wpAnyH_ready (rs := [5]) (by kernel_rfl) (by simp) ?_
                refine (AllReadyH.cons (o := { dst := some 70, op := Go.Op.call { callee := Go.Callee.builtin Go.Builtin.append, args := #[Go.Operand.tmp 66, Go.Operand.tmp 69], argTypes := #[28, 28] }, type := 28, pos := "l04_facts.go:305", after := #[{ on := 1, ground := Go.Ground.data }, { on := 4, ground := Go.Ground.data }, { on := 3, ground := Go.Ground.chain }], guard := none }) rfl (fun K hK => ?_) AllReadyH.nil)
                refine step_append_run rfl (.tmp 66) (.tmp 69) 28 28 rfl (by simp [Act.eval, Act.put]) (by simp [Act.eval, Act.put]) HR.out ?_
                clear hHeld
                refine hK.out _ _ trivial (fun hHeld => ?_)
                clear hK K
                try simp only [Act.put, List.setIfInBounds_toArray, List.set_cons_zero, List.set_cons_succ]
                refine wpAnyH_take (i := 6) (oi := { dst := some 71, op := Go.Op.fieldAddr 32 (Go.Operand.tmp 7) 2, type := 0, pos := "l04_facts.go:305", after := #[{ on := 0, ground := Go.Ground.phase }, { on := 1, ground := Go.Ground.phase }, { on := 2, ground := Go.Ground.phase }, { on := 3, ground := Go.Ground.phase }, { on := 4, ground := Go.Ground.phase }, { on := 5, ground := Go.Ground.phase }], guard := none }) (v := ?v85) rfl (by kernel_rfl) (by kernel_rfl) (by kernel_rfl) (fun _ _ _ h => h) (Or.inl ⟨by rfl, ?h85⟩) hHeld ?r85
                case h85 => (intro w hSw; (try dsimp only at hSw); go_simp; try with_reducible rfl)
                try simp only [Act.put, List.setIfInBounds_toArray, List.set_cons_zero, List.set_cons_succ]
                refine wpAnyH_ready (rs := [7]) (by kernel_rfl) (by simp) ?_
                refine (AllReadyH.cons (o := { dst := none, op := Go.Op.store 28 (Go.Operand.tmp 71) (Go.Operand.tmp 70), type := 0, pos := "l04_facts.go:305", after := #[{ on := 6, ground := Go.Ground.data }, { on := 5, ground := Go.Ground.data }, { on := 5, ground := Go.Ground.chain }, { on := 0, ground := Go.Ground.phase }, { on := 1, ground := Go.Ground.phase }, { on := 2, ground := Go.Ground.phase }, { on := 3, ground := Go.Ground.phase }, { on := 4, ground := Go.Ground.phase }, { on := 5, ground := Go.Ground.phase }], guard := none }) rfl (fun K hK => ?_) AllReadyH.nil)
                go_simp
                clear hHeld
                refine hK.out _ _ trivial (fun hHeld => ?_)
                clear hK K
                try simp only [Act.put, List.setIfInBounds_toArray, List.set_cons_zero, List.set_cons_succ]
                refine wpAnyH_done (by kernel_rfl) ?_ _
                go_wp2_with fail
                go_meet
                exact HST
              · go_simp
                clear hHeld
                refine hK.out _ _ trivial (fun hHeld => ?_)
                clear hK K
                try simp only [Act.put, List.setIfInBounds_toArray, List.set_cons_zero, List.set_cons_succ]
                refine wpAnyH_ready (rs := [1]) (by kernel_rfl) (by simp) ?_
                refine (AllReadyH.cons (o := { dst := some 66, op := Go.Op.load 28 (Go.Operand.tmp 65), type := 28, pos := "l04_facts.go:305", after := #[{ on := 0, ground := Go.Ground.data }], guard := none }) rfl (fun K hK => ?_) AllReadyH.nil)
                go_simp
                clear hHeld
                refine hK.out _ _ trivial (fun hHeld => ?_)
                clear hK K
                try simp only [Act.put, List.setIfInBounds_toArray, List.set_cons_zero, List.set_cons_succ]
                refine wpAnyH_ready (rs := [5]) (by kernel_rfl) (by simp) ?_
                refine (AllReadyH.cons (o := { dst := some 70, op := Go.Op.call { callee := Go.Callee.builtin Go.Builtin.append, args := #[Go.Operand.tmp 66, Go.Operand.tmp 69], argTypes := #[28, 28] }, type := 28, pos := "l04_facts.go:305", after := #[{ on := 1, ground := Go.Ground.data }, { on := 4, ground := Go.Ground.data }, { on := 3, ground := Go.Ground.chain }], guard := none }) rfl (fun K hK => ?_) AllReadyH.nil)
                refine step_append_run rfl (.tmp 66) (.tmp 69) 28 28 rfl (by simp [Act.eval, Act.put]) (by simp [Act.eval, Act.put]) HR.out ?_
                clear hHeld
                refine hK.out _ _ trivial (fun hHeld => ?_)
                clear hK K
                try simp only [Act.put, List.setIfInBounds_toArray, List.set_cons_zero, List.set_cons_succ]
                refine wpAnyH_take (i := 6) (oi := { dst := some 71, op := Go.Op.fieldAddr 32 (Go.Operand.tmp 7) 2, type := 0, pos := "l04_facts.go:305", after := #[{ on := 0, ground := Go.Ground.phase }, { on := 1, ground := Go.Ground.phase }, { on := 2, ground := Go.Ground.phase }, { on := 3, ground := Go.Ground.phase }, { on := 4, ground := Go.Ground.phase }, { on := 5, ground := Go.Ground.phase }], guard := none }) (v := ?v86) rfl (by kernel_rfl) (by kernel_rfl) (by kernel_rfl) (fun _ _ _ h => h) (Or.inl ⟨by rfl, ?h86⟩) hHeld ?r86
                case h86 => (intro w hSw; (try dsimp only at hSw); go_simp; try with_reducible rfl)
                try simp only [Act.put, List.setIfInBounds_toArray, List.set_cons_zero, List.set_cons_succ]
                refine wpAnyH_ready (rs := [7]) (by kernel_rfl) (by simp) ?_
                refine (AllReadyH.cons (o := { dst := none, op := Go.Op.store 28 (Go.Operand.tmp 71) (Go.Operand.tmp 70), type := 0, pos := "l04_facts.go:305", after := #[{ on := 6, ground := Go.Ground.data }, { on := 5, ground := Go.Ground.data }, { on := 5, ground := Go.Ground.chain }, { on := 0, ground := Go.Ground.phase }, { on := 1, ground := Go.Ground.phase }, { on := 2, ground := Go.Ground.phase }, { on := 3, ground := Go.Ground.phase }, { on := 4, ground := Go.Ground.phase }, { on := 5, ground := Go.Ground.phase }], guard := none }) rfl (fun K hK => ?_) AllReadyH.nil)
                go_simp
                clear hHeld
                refine hK.out _ _ trivial (fun hHeld => ?_)
                clear hK K
                try simp only [Act.put, List.setIfInBounds_toArray, List.set_cons_zero, List.set_cons_succ]
                refine wpAnyH_done (by kernel_rfl) ?_ _
                go_wp2_with fail
                go_meet
                exact HST
          case rest =>
            have HF3 := hcut
            clear hu2 hf2 hcut HF2
            obtain ⟨us3, hf3⟩ := HF3.out
            obtain ⟨u3z, hu3⟩ : ∃ u, us3[3]? = some u := ⟨_, List.getElem?_eq_getElem (by rw [hf3.len]; simp)⟩
            go_upto_region 13 with fail
            go_cut [] from 72 to 81 (fun wx => Hid (∃ us, FSu wA g g us [(4, C0 ++ [.bool x0]), (4, C1 ++ [.bool x1]), (4, C2 ++ [.bool x2]), (4, C3 ++ [.bool x3]), (3, C4), (29, C5), (29, C6)] rows wx))
            case first =>
              have hfd := hf3.still ((Below.refl wc.heap.size wc).drew)
              have hc0 : wc.drew.cell? ⟨g, 3, none⟩ = some u3z := by have := hfd.at (j := 3) (by rw [hf3.len]; simp); rw [List.getElem?_eq_getElem (by rw [hf3.len]; simp)] at hu3; injection hu3 with hu; rw [← hu]; exact this
              have hbl := bel_alloc wc.drew (.cells #[.bool x3] 4)
              have hc1 : (wc.drew.alloc (.cells #[.bool x3] 4)).cell? ⟨g, 3, none⟩ = some u3z := (hbl.cell (lt_of_cell hc0)).trans hc0
              have hc2 : ((wc.alloc (.cells #[.bool x3] 4)).drew).cell? ⟨g, 3, none⟩ = some u3z := hc1
              obtain ⟨a2, c2, n2, w3, hr, ⟨y3, hy3⟩, hfz, hst, hb3⟩ := hfd.push4 3 (by simp) C3 rfl wc.heap.size x3 rfl HC3.out u3z hu3
              have HR := (show Hid _ from hr)
              have HST : Hid (∃ us, FSu wA g g us [(4, C0 ++ [.bool x0]), (4, C1 ++ [.bool x1]), (4, C2 ++ [.bool x2]), (4, C3 ++ [.bool x3]), (3, C4), (29, C5), (29, C6)] rows (w3.setCell ⟨g, 3, none⟩ (.slice a2 n2 c2))) := ⟨_, hst⟩
              have HCL := (show Hid _ from HC73.out wc.drew (fun q hq => hfd.bel.block q hq))
              clear hr hst hb3 hbl hfd hf3
              clear HSF HFIN HC72 HC73 HC75 HC76 HLOW HSS HKN
              refine wp_region_held_drew (S := fun _ => True) (by kernel_rfl) trivial (fun hHeld => ?_)
              refine wpAnyH_take (i := 0) (oi := { dst := some 72, op := Go.Op.fieldAddr 32 (Go.Operand.tmp 7) 3, type := 0, pos := "l04_facts.go:306", after := #[], guard := none }) (v := ?v87) rfl (by kernel_rfl) (by kernel_rfl) (by kernel_rfl) (fun _ _ _ h => h) (Or.inl ⟨by rfl, ?h87⟩) hHeld ?r87
              case h87 => (intro w hSw; (try dsimp only at hSw); go_simp; try with_reducible rfl)
              try simp only [Act.put, List.setIfInBounds_toArray, List.set_cons_zero, List.set_cons_succ]
              refine wpAnyH_take (i := 2) (oi := { dst := some 74, op := Go.Op.move (Go.Operand.tmp 4), type := 103, pos := "l04_facts.go:306", after := #[], guard := none }) (v := ?v88) rfl (by kernel_rfl) (by kernel_rfl) (by kernel_rfl) (fun _ _ _ h => h) (Or.inl ⟨by rfl, ?h88⟩) hHeld ?r88
              case h88 => (intro w hSw; (try dsimp only at hSw); go_simp; try with_reducible rfl)
              try simp only [Act.put, List.setIfInBounds_toArray, List.set_cons_zero, List.set_cons_succ]
              refine wpAnyH_take (i := 3) (oi := { dst := some 75, op := Go.Op.move (Go.Operand.tmp 8), type := 3, pos := "l04_facts.go:306", after := #[], guard := none }) (v := ?v89) rfl (by kernel_rfl) (by kernel_rfl) (by kernel_rfl) (fun _ _ _ h => h) (Or.inl ⟨by rfl, ?h89⟩) hHeld ?r89
              case h89 => (intro w hSw; (try dsimp only at hSw); go_simp; try with_reducible rfl)
              try simp only [Act.put, List.setIfInBounds_toArray, List.set_cons_zero, List.set_cons_succ]
              refine wpAnyH_take (i := 4) (oi := { dst := some 76, op := Go.Op.indexAddr 103 (Go.Operand.tmp 74) (Go.Operand.tmp 75), type := 0, pos := "l04_facts.go:306", after := #[{ on := 2, ground := Go.Ground.data }, { on := 3, ground := Go.Ground.data }], guard := none }) (v := ?v90) rfl (by kernel_rfl) (by kernel_rfl) (by kernel_rfl) (fun _ _ _ h => h) (Or.inl ⟨by rfl, ?h90⟩) hHeld ?r90
              case h90 => (intro w hSw; (try dsimp only at hSw); go_simp; try with_reducible rfl)
              try simp only [Act.put, List.setIfInBounds_toArray, List.set_cons_zero, List.set_cons_succ]
              refine wpAnyH_take (i := 5) (oi := { dst := some 77, op := Go.Op.move (Go.Operand.tmp 8), type := 3, pos := "l04_facts.go:306", after := #[], guard := none }) (v := ?v91) rfl (by kernel_rfl) (by kernel_rfl) (by kernel_rfl) (fun _ _ _ h => h) (Or.inl ⟨by rfl, ?h91⟩) hHeld ?r91
              case h91 => (intro w hSw; (try dsimp only at hSw); go_simp; try with_reducible rfl)
              try simp only [Act.put, List.setIfInBounds_toArray, List.set_cons_zero, List.set_cons_succ]
              refine wpAnyH_ready (rs := [1, 6]) (by kernel_rfl) (by simp) ?_
              refine (AllReadyH.cons (o := { dst := some 73, op := Go.Op.load 28 (Go.Operand.tmp 72), type := 28, pos := "l04_facts.go:306", after := #[{ on := 0, ground := Go.Ground.data }], guard := none }) rfl (fun K hK => ?_) (AllReadyH.cons (o := { dst := some 78, op := Go.Op.call { callee := Go.Callee.value (Go.Operand.func 71), args := #[Go.Operand.tmp 76, Go.Operand.tmp 77], argTypes := #[102, 3] }, type := 4, pos := "l04_facts.go:306", after := #[{ on := 4, ground := Go.Ground.data }, { on := 5, ground := Go.Ground.data }], guard := none }) rfl (fun K hK => ?_) AllReadyH.nil))
              · go_simp
                clear hHeld
                refine hK.out _ _ trivial (fun hHeld => ?_)
                clear hK K
                try simp only [Act.put, List.setIfInBounds_toArray, List.set_cons_zero, List.set_cons_succ]
                refine wpAnyH_ready (rs := [6]) (by kernel_rfl) (by simp) ?_
                refine (AllReadyH.cons (o := { dst := some 78, op := Go.Op.call { callee := Go.Callee.value (Go.Operand.func 71), args := #[Go.Operand.tmp 76, Go.Operand.tmp 77], argTypes := #[102, 3] }, type := 4, pos := "l04_facts.go:306", after := #[{ on := 4, ground := Go.Ground.data }, { on := 5, ground := Go.Ground.data }], guard := none }) rfl (fun K hK => ?_) AllReadyH.nil)
                go_simp
                refine Calls.mono HCL.out ?_
                rintro e w2 ⟨rfl, rfl⟩
                dsimp only
                clear hHeld
                refine hK.out _ _ trivial (fun hHeld => ?_)
                clear hK K
                try simp only [Act.put, List.setIfInBounds_toArray, List.set_cons_zero, List.set_cons_succ]
                refine wpAnyH_ready (rs := [7]) (by kernel_rfl) (by simp) ?_
                refine (AllReadyH.cons (o := { dst := some 79, op := Go.Op.buildSlice 28 1 #[(0, Go.Operand.tmp 78)], type := 28, pos := "l04_facts.go:306", after := #[{ on := 6, ground := Go.Ground.data }], guard := none }) rfl (fun K hK => ?_) AllReadyH.nil)
                go_simp
                clear hHeld
                refine hK.out _ _ trivial (fun hHeld => ?_)
                clear hK K
                try simp only [Act.put, List.setIfInBounds_toArray, List.set_cons_zero, List.set_cons_succ]
                refine wpAnyH_ready (rs := [8]) (by kernel_rfl) (by simp) ?_
                refine (AllReadyH.cons (o := { dst := some 80, op := Go.Op.call { callee := Go.Callee.builtin Go.Builtin.append, args := #[Go.Operand.tmp 73, Go.Operand.tmp 79], argTypes := #[28, 28] }, type := 28, pos := "l04_facts.go:306", after := #[{ on := 1, ground := Go.Ground.data }, { on := 7, ground := Go.Ground.data }, { on := 6, ground := Go.Ground.chain }], guard := none }) rfl (fun K hK => ?_) AllReadyH.nil)
                refine step_append_run rfl (.tmp 73) (.tmp 79) 28 28 rfl (by simp [Act.eval, Act.put]) (by simp [Act.eval, Act.put]) HR.out ?_
                clear hHeld
                refine hK.out _ _ trivial (fun hHeld => ?_)
                clear hK K
                try simp only [Act.put, List.setIfInBounds_toArray, List.set_cons_zero, List.set_cons_succ]
                refine wpAnyH_take (i := 9) (oi := { dst := some 81, op := Go.Op.fieldAddr 32 (Go.Operand.tmp 7) 3, type := 0, pos := "l04_facts.go:306", after := #[{ on := 0, ground := Go.Ground.phase }, { on := 1, ground := Go.Ground.phase }, { on := 2, ground := Go.Ground.phase }, { on := 3, ground := Go.Ground.phase }, { on := 4, ground := Go.Ground.phase }, { on := 5, ground := Go.Ground.phase }, { on := 6, ground := Go.Ground.phase }, { on := 7, ground := Go.Ground.phase }, { on := 8, ground := Go.Ground.phase }], guard := none }) (v := ?v92) rfl (by kernel_rfl) (by kernel_rfl) (by kernel_rfl) (fun _ _ _ h => h) (Or.inl ⟨by rfl, ?h92⟩) hHeld ?r92
                case h92 => (intro w hSw; (try dsimp only at hSw); go_simp; try with_reducible rfl)
                try simp only [Act.put, List.setIfInBounds_toArray, List.set_cons_zero, List.set_cons_succ]
                refine wpAnyH_ready (rs := [10]) (by kernel_rfl) (by simp) ?_
                refine (AllReadyH.cons (o := { dst := none, op := Go.Op.store 28 (Go.Operand.tmp 81) (Go.Operand.tmp 80), type := 0, pos := "l04_facts.go:306", after := #[{ on := 9, ground := Go.Ground.data }, { on := 8, ground := Go.Ground.data }, { on := 8, ground := Go.Ground.chain }, { on := 0, ground := Go.Ground.phase }, { on := 1, ground := Go.Ground.phase }, { on := 2, ground := Go.Ground.phase }, { on := 3, ground := Go.Ground.phase }, { on := 4, ground := Go.Ground.phase }, { on := 5, ground := Go.Ground.phase }, { on := 6, ground := Go.Ground.phase }, { on := 7, ground := Go.Ground.phase }, { on := 8, ground := Go.Ground.phase }], guard := none }) rfl (fun K hK => ?_) AllReadyH.nil)
                go_simp
                clear hHeld
                refine hK.out _ _ trivial (fun hHeld => ?_)
                clear hK K
                try simp only [Act.put, List.setIfInBounds_toArray, List.set_cons_zero, List.set_cons_succ]
                refine wpAnyH_done (by kernel_rfl) ?_ _
                go_wp2_with fail
                go_meet
                exact HST
              · go_simp
                refine Calls.mono HCL.out ?_
                rintro e w2 ⟨rfl, rfl⟩
                dsimp only
                clear hHeld
                refine hK.out _ _ trivial (fun hHeld => ?_)
                clear hK K
                try simp only [Act.put, List.setIfInBounds_toArray, List.set_cons_zero, List.set_cons_succ]
                refine wpAnyH_ready (rs := [1, 7]) (by kernel_rfl) (by simp) ?_
                refine (AllReadyH.cons (o := { dst := some 73, op := Go.Op.load 28 (Go.Operand.tmp 72), type := 28, pos := "l04_facts.go:306", after := #[{ on := 0, ground := Go.Ground.data }], guard := none }) rfl (fun K hK => ?_) (AllReadyH.cons (o := { dst := some 79, op := Go.Op.buildSlice 28 1 #[(0, Go.Operand.tmp 78)], type := 28, pos := "l04_facts.go:306", after := #[{ on := 6, ground := Go.Ground.data }], guard := none }) rfl (fun K hK => ?_) AllReadyH.nil))
                · go_simp
                  clear hHeld
                  refine hK.out _ _ trivial (fun hHeld => ?_)
                  clear hK K
                  try simp only [Act.put, List.setIfInBounds_toArray, List.set_cons_zero, List.set_cons_succ]
                  refine wpAnyH_ready (rs := [7]) (by kernel_rfl) (by simp) ?_
                  refine (AllReadyH.cons (o := { dst := some 79, op := Go.Op.buildSlice 28 1 #[(0, Go.Operand.tmp 78)], type := 28, pos := "l04_facts.go:306", after := #[{ on := 6, ground := Go.Ground.data }], guard := none }) rfl (fun K hK => ?_) AllReadyH.nil)
                  go_simp
                  clear hHeld
                  refine hK.out _ _ trivial (fun hHeld => ?_)
                  clear hK K
                  try simp only [Act.put, List.setIfInBounds_toArray, List.set_cons_zero, List.set_cons_succ]
                  refine wpAnyH_ready (rs := [8]) (by kernel_rfl) (by simp) ?_
                  refine (AllReadyH.cons (o := { dst := some 80, op := Go.Op.call { callee := Go.Callee.builtin Go.Builtin.append, args := #[Go.Operand.tmp 73, Go.Operand.tmp 79], argTypes := #[28, 28] }, type := 28, pos := "l04_facts.go:306", after := #[{ on := 1, ground := Go.Ground.data }, { on := 7, ground := Go.Ground.data }, { on := 6, ground := Go.Ground.chain }], guard := none }) rfl (fun K hK => ?_) AllReadyH.nil)
                  refine step_append_run rfl (.tmp 73) (.tmp 79) 28 28 rfl (by simp [Act.eval, Act.put]) (by simp [Act.eval, Act.put]) HR.out ?_
                  clear hHeld
                  refine hK.out _ _ trivial (fun hHeld => ?_)
                  clear hK K
                  try simp only [Act.put, List.setIfInBounds_toArray, List.set_cons_zero, List.set_cons_succ]
                  refine wpAnyH_take (i := 9) (oi := { dst := some 81, op := Go.Op.fieldAddr 32 (Go.Operand.tmp 7) 3, type := 0, pos := "l04_facts.go:306", after := #[{ on := 0, ground := Go.Ground.phase }, { on := 1, ground := Go.Ground.phase }, { on := 2, ground := Go.Ground.phase }, { on := 3, ground := Go.Ground.phase }, { on := 4, ground := Go.Ground.phase }, { on := 5, ground := Go.Ground.phase }, { on := 6, ground := Go.Ground.phase }, { on := 7, ground := Go.Ground.phase }, { on := 8, ground := Go.Ground.phase }], guard := none }) (v := ?v93) rfl (by kernel_rfl) (by kernel_rfl) (by kernel_rfl) (fun _ _ _ h => h) (Or.inl ⟨by rfl, ?h93⟩) hHeld ?r93
                  case h93 => (intro w hSw; (try dsimp only at hSw); go_simp; try with_reducible rfl)
                  try simp only [Act.put, List.setIfInBounds_toArray, List.set_cons_zero, List.set_cons_succ]
                  refine wpAnyH_ready (rs := [10]) (by kernel_rfl) (by simp) ?_
                  refine (AllReadyH.cons (o := { dst := none, op := Go.Op.store 28 (Go.Operand.tmp 81) (Go.Operand.tmp 80), type := 0, pos := "l04_facts.go:306", after := #[{ on := 9, ground := Go.Ground.data }, { on := 8, ground := Go.Ground.data }, { on := 8, ground := Go.Ground.chain }, { on := 0, ground := Go.Ground.phase }, { on := 1, ground := Go.Ground.phase }, { on := 2, ground := Go.Ground.phase }, { on := 3, ground := Go.Ground.phase }, { on := 4, ground := Go.Ground.phase }, { on := 5, ground := Go.Ground.phase }, { on := 6, ground := Go.Ground.phase }, { on := 7, ground := Go.Ground.phase }, { on := 8, ground := Go.Ground.phase }], guard := none }) rfl (fun K hK => ?_) AllReadyH.nil)
                  go_simp
                  clear hHeld
                  refine hK.out _ _ trivial (fun hHeld => ?_)
                  clear hK K
                  try simp only [Act.put, List.setIfInBounds_toArray, List.set_cons_zero, List.set_cons_succ]
                  refine wpAnyH_done (by kernel_rfl) ?_ _
                  go_wp2_with fail
                  go_meet
                  exact HST
                · go_simp
                  clear hHeld
                  refine hK.out _ _ trivial (fun hHeld => ?_)
                  clear hK K
                  try simp only [Act.put, List.setIfInBounds_toArray, List.set_cons_zero, List.set_cons_succ]
                  refine wpAnyH_ready (rs := [1]) (by kernel_rfl) (by simp) ?_
                  refine (AllReadyH.cons (o := { dst := some 73, op := Go.Op.load 28 (Go.Operand.tmp 72), type := 28, pos := "l04_facts.go:306", after := #[{ on := 0, ground := Go.Ground.data }], guard := none }) rfl (fun K hK => ?_) AllReadyH.nil)
                  go_simp
                  clear hHeld
                  refine hK.out _ _ trivial (fun hHeld => ?_)
                  clear hK K
                  try simp only [Act.put, List.setIfInBounds_toArray, List.set_cons_zero, List.set_cons_succ]
                  refine wpAnyH_ready (rs := [8]) (by kernel_rfl) (by simp) ?_
                  refine (AllReadyH.cons (o := { dst := some 80, op := Go.Op.call { callee := Go.Callee.builtin Go.Builtin.append, args := #[Go.Operand.tmp 73, Go.Operand.tmp 79], argTypes := #[28, 28] }, type := 28, pos := "l04_facts.go:306", after := #[{ on := 1, ground := Go.Ground.data }, { on := 7, ground := Go.Ground.data }, { on := 6, ground := Go.Ground.chain }], guard := none }) rfl (fun K hK => ?_) AllReadyH.nil)
                  refine step_append_run rfl (.tmp 73) (.tmp 79) 28 28 rfl (by simp [Act.eval, Act.put]) (by simp [Act.eval, Act.put]) HR.out ?_
                  clear hHeld
                  refine hK.out _ _ trivial (fun hHeld => ?_)
                  clear hK K
                  try simp only [Act.put, List.setIfInBounds_toArray, List.set_cons_zero, List.set_cons_succ]
                  refine wpAnyH_take (i := 9) (oi := { dst := some 81, op := Go.Op.fieldAddr 32 (Go.Operand.tmp 7) 3, type := 0, pos := "l04_facts.go:306", after := #[{ on := 0, ground := Go.Ground.phase }, { on := 1, ground := Go.Ground.phase }, { on := 2, ground := Go.Ground.phase }, { on := 3, ground := Go.Ground.phase }, { on := 4, ground := Go.Ground.phase }, { on := 5, ground := Go.Ground.phase }, { on := 6, ground := Go.Ground.phase }, { on := 7, ground := Go.Ground.phase }, { on := 8, ground := Go.Ground.phase }], guard := none }) (v := ?v94) rfl (by kernel_rfl) (by kernel_rfl) (by kernel_rfl) (fun _ _ _ h => h) (Or.inl ⟨by rfl, ?h94⟩) hHeld ?r94
                  case h94 => (intro w hSw; (try dsimp only at hSw); go_simp; try with_reducible rfl)
                  try simp only [Act.put, List.setIfInBounds_toArray, List.set_cons_zero, List.set_cons_succ]
                  refine wpAnyH_ready (rs := [10]) (by kernel_rfl) (by simp) ?_
                  refine (AllReadyH.cons (o := { dst := none, op := Go.Op.store 28 (Go.Operand.tmp 81) (Go.Operand.tmp 80), type := 0, pos := "l04_facts.go:306", after := #[{ on := 9, ground := Go.Ground.data }, { on := 8, ground := Go.Ground.data }, { on := 8, ground := Go.Ground.chain }, { on := 0, ground := Go.Ground.phase }, { on := 1, ground := Go.Ground.phase }, { on := 2, ground := Go.Ground.phase }, { on := 3, ground := Go.Ground.phase }, { on := 4, ground := Go.Ground.phase }, { on := 5, ground := Go.Ground.phase }, { on := 6, ground := Go.Ground.phase }, { on := 7, ground := Go.Ground.phase }, { on := 8, ground := Go.Ground.phase }], guard := none }) rfl (fun K hK => ?_) AllReadyH.nil)
                  go_simp
                  clear hHeld
                  refine hK.out _ _ trivial (fun hHeld => ?_)
                  clear hK K
                  try simp only [Act.put, List.setIfInBounds_toArray, List.set_cons_zero, List.set_cons_succ]
                  refine wpAnyH_done (by kernel_rfl) ?_ _
                  go_wp2_with fail
                  go_meet
                  exact HST
            case rest =>
              have HF4 := hcut
              clear hu3 hf3 hcut HF3
              obtain ⟨us4, hf4⟩ := HF4.out
              obtain ⟨u4z, hu4⟩ : ∃ u, us4[4]? = some u := ⟨_, List.getElem?_eq_getElem (by rw [hf4.len]; simp)⟩
              go_upto_region 14 with fail
              go_cut [] from 82 to 93 (fun wx => Hid (∃ us, FSu wA g g us [(4, C0 ++ [.bool x0]), (4, C1 ++ [.bool x1]), (4, C2 ++ [.bool x2]), (4, C3 ++ [.bool x3]), (3, C4 ++ [.int .i64 x4]), (29, C5), (29, C6)] rows wx))
              case first =>
                have hfd := hf4.still ((Below.refl wc.heap.size wc).drew)
                have hc0 : wc.drew.cell? ⟨g, 4, none⟩ = some u4z := by have := hfd.at (j := 4) (by rw [hf4.len]; simp); rw [List.getElem?_eq_getElem (by rw [hf4.len]; simp)] at hu4; injection hu4 with hu; rw [← hu]; exact this
                have hbl := bel_alloc wc.drew (.cells #[.int .i64 x4] 3)
                have hc1 : (wc.drew.alloc (.cells #[.int .i64 x4] 3)).cell? ⟨g, 4, none⟩ = some u4z := (hbl.cell (lt_of_cell hc0)).trans hc0
                have hc2 : ((wc.alloc (.cells #[.int .i64 x4] 3)).drew).cell? ⟨g, 4, none⟩ = some u4z := hc1
                obtain ⟨a2, c2, n2, w3, hr, ⟨y3, hy3⟩, hfz, hst, hb3⟩ := hfd.push3 4 (by simp) C4 rfl wc.heap.size x4 rfl HC4.out u4z hu4
                have HR := (show Hid _ from hr)
                have HST : Hid (∃ us, FSu wA g g us [(4, C0 ++ [.bool x0]), (4, C1 ++ [.bool x1]), (4, C2 ++ [.bool x2]), (4, C3 ++ [.bool x3]), (3, C4 ++ [.int .i64 x4]), (29, C5), (29, C6)] rows (w3.setCell ⟨g, 4, none⟩ (.slice a2 n2 c2))) := ⟨_, hst⟩
                have hS0 := HSF.out wc.drew (fun q hq => hfd.bel.block q hq)
                have hS1 := HSF.out (wc.drew.alloc (.cells #[.int .i64 x4] 3)) (fun q hq => (hbl.block q (Nat.lt_of_lt_of_le hq hfd.bz)).trans (hfd.bel.block q hq))
                have hS2 := HSF.out w3 (fun q hq => hb3.block q hq)
                have hS3 := HSF.out (w3.setCell ⟨g, 4, none⟩ (.slice a2 n2 c2)) (fun q hq => hst.bel.block q hq)
                clear hr hst hb3 hbl hfd hf4
                clear HSF HFIN HC72 HC73 HC75 HC76 HLOW HSS HKN
                refine wp_region_held_drew (S := (fun w' => w'.cell? ⟨gs, 4, none⟩ = some (.slice (some ⟨bs, 0, none⟩) N N) ∧ w'.cell? ⟨bs, s, none⟩ = some (.int .i64 x4))) (by kernel_rfl) hS0 (fun hHeld => ?_)
                refine wpAnyH_take (i := 0) (oi := { dst := some 82, op := Go.Op.fieldAddr 32 (Go.Operand.tmp 7) 4, type := 0, pos := "l04_facts.go:307", after := #[], guard := none }) (v := ?v95) rfl (by kernel_rfl) (by kernel_rfl) (by kernel_rfl) (fun _ _ _ h => h) (Or.inl ⟨by rfl, ?h95⟩) hHeld ?r95
                case h95 => (intro w hSw; (try dsimp only at hSw); go_simp; try with_reducible rfl)
                try simp only [Act.put, List.setIfInBounds_toArray, List.set_cons_zero, List.set_cons_succ]
                refine wpAnyH_take (i := 2) (oi := { dst := some 84, op := Go.Op.move (Go.Operand.tmp 0), type := 58, pos := "l04_facts.go:307", after := #[], guard := none }) (v := ?v96) rfl (by kernel_rfl) (by kernel_rfl) (by kernel_rfl) (fun _ _ _ h => h) (Or.inl ⟨by rfl, ?h96⟩) hHeld ?r96
                case h96 => (intro w hSw; (try dsimp only at hSw); go_simp; try with_reducible rfl)
                try simp only [Act.put, List.setIfInBounds_toArray, List.set_cons_zero, List.set_cons_succ]
                refine wpAnyH_take (i := 3) (oi := { dst := some 85, op := Go.Op.nilCheck (Go.Operand.tmp 84), type := 0, pos := "l04_facts.go:307", after := #[{ on := 2, ground := Go.Ground.data }], guard := none }) (v := ?v97) rfl (by kernel_rfl) (by kernel_rfl) (by kernel_rfl) (fun _ _ _ h => h) (Or.inl ⟨by rfl, ?h97⟩) hHeld ?r97
                case h97 => (intro w hSw; (try dsimp only at hSw); go_simp; try with_reducible rfl)
                try simp only [Act.put, List.setIfInBounds_toArray, List.set_cons_zero, List.set_cons_succ]
                refine wpAnyH_take (i := 4) (oi := { dst := some 86, op := Go.Op.fieldAddr 97 (Go.Operand.tmp 85) 1, type := 0, pos := "l04_facts.go:307", after := #[{ on := 3, ground := Go.Ground.data }], guard := none }) (v := ?v98) rfl (by kernel_rfl) (by kernel_rfl) (by kernel_rfl) (fun _ _ _ h => h) (Or.inl ⟨by rfl, ?h98⟩) hHeld ?r98
                case h98 => (intro w hSw; (try dsimp only at hSw); go_simp; try with_reducible rfl)
                try simp only [Act.put, List.setIfInBounds_toArray, List.set_cons_zero, List.set_cons_succ]
                refine wpAnyH_take (i := 5) (oi := { dst := some 87, op := Go.Op.load 29 (Go.Operand.tmp 86), type := 29, pos := "l04_facts.go:307", after := #[{ on := 4, ground := Go.Ground.data }], guard := none }) (v := ?v99) rfl (by kernel_rfl) (by kernel_rfl) (by kernel_rfl) (fun _ _ _ h => h) (Or.inl ⟨by rfl, ?h99⟩) hHeld ?r99
                case h99 => (intro w hSw; (try dsimp only at hSw); go_simp; try with_reducible rfl)
                try simp only [Act.put, List.setIfInBounds_toArray, List.set_cons_zero, List.set_cons_succ]
                refine wpAnyH_take (i := 6) (oi := { dst := some 88, op := Go.Op.move (Go.Operand.tmp 8), type := 3, pos := "l04_facts.go:307", after := #[], guard := none }) (v := ?v100) rfl (by kernel_rfl) (by kernel_rfl) (by kernel_rfl) (fun _ _ _ h => h) (Or.inl ⟨by rfl, ?h100⟩) hHeld ?r100
                case h100 => (intro w hSw; (try dsimp only at hSw); go_simp; try with_reducible rfl)
                try simp only [Act.put, List.setIfInBounds_toArray, List.set_cons_zero, List.set_cons_succ]
                refine wpAnyH_take (i := 7) (oi := { dst := some 89, op := Go.Op.indexAddr 29 (Go.Operand.tmp 87) (Go.Operand.tmp 88), type := 0, pos := "l04_facts.go:307", after := #[{ on := 5, ground := Go.Ground.data }, { on := 6, ground := Go.Ground.data }], guard := none }) (v := ?v101) rfl (by kernel_rfl) (by kernel_rfl) (by kernel_rfl) (fun _ _ _ h => h) (Or.inl ⟨by rfl, ?h101⟩) hHeld ?r101
                case h101 => (intro w hSw; (try dsimp only at hSw); go_simp; try with_reducible rfl)
                try simp only [Act.put, List.setIfInBounds_toArray, List.set_cons_zero, List.set_cons_succ]
                refine wpAnyH_take (i := 8) (oi := { dst := some 90, op := Go.Op.load 3 (Go.Operand.tmp 89), type := 3, pos := "l04_facts.go:307", after := #[{ on := 7, ground := Go.Ground.data }], guard := none }) (v := ?v102) rfl (by kernel_rfl) (by kernel_rfl) (by kernel_rfl) (fun _ _ _ h => h) (Or.inl ⟨by rfl, ?h102⟩) hHeld ?r102
                case h102 => (intro w hSw; (try dsimp only at hSw); go_simp; try with_reducible rfl)
                try simp only [Act.put, List.setIfInBounds_toArray, List.set_cons_zero, List.set_cons_succ]
                refine wpAnyH_ready (rs := [1, 9]) (by kernel_rfl) (by simp) ?_
                refine (AllReadyH.cons (o := { dst := some 83, op := Go.Op.load 29 (Go.Operand.tmp 82), type := 29, pos := "l04_facts.go:307", after := #[{ on := 0, ground := Go.Ground.data }], guard := none }) rfl (fun K hK => ?_) (AllReadyH.cons (o := { dst := some 91, op := Go.Op.buildSlice 29 1 #[(0, Go.Operand.tmp 90)], type := 29, pos := "l04_facts.go:307", after := #[{ on := 8, ground := Go.Ground.data }], guard := none }) rfl (fun K hK => ?_) AllReadyH.nil))
                · go_simp
                  clear hHeld
                  refine hK.out _ _ hS0 (fun hHeld => ?_)
                  clear hK K
                  try simp only [Act.put, List.setIfInBounds_toArray, List.set_cons_zero, List.set_cons_succ]
                  refine wpAnyH_ready (rs := [9]) (by kernel_rfl) (by simp) ?_
                  refine (AllReadyH.cons (o := { dst := some 91, op := Go.Op.buildSlice 29 1 #[(0, Go.Operand.tmp 90)], type := 29, pos := "l04_facts.go:307", after := #[{ on := 8, ground := Go.Ground.data }], guard := none }) rfl (fun K hK => ?_) AllReadyH.nil)
                  go_simp
                  clear hHeld
                  refine hK.out _ _ hS1 (fun hHeld => ?_)
                  clear hK K
                  try simp only [Act.put, List.setIfInBounds_toArray, List.set_cons_zero, List.set_cons_succ]
                  refine wpAnyH_ready (rs := [10]) (by kernel_rfl) (by simp) ?_
                  refine (AllReadyH.cons (o := { dst := some 92, op := Go.Op.call { callee := Go.Callee.builtin Go.Builtin.append, args := #[Go.Operand.tmp 83, Go.Operand.tmp 91], argTypes := #[29, 29] }, type := 29, pos := "l04_facts.go:307", after := #[{ on := 1, ground := Go.Ground.data }, { on := 9, ground := Go.Ground.data }], guard := none }) rfl (fun K hK => ?_) AllReadyH.nil)
                  refine step_append_run rfl (.tmp 83) (.tmp 91) 29 29 rfl (by simp [Act.eval, Act.put]) (by simp [Act.eval, Act.put]) HR.out ?_
                  clear hHeld
                  refine hK.out _ _ hS2 (fun hHeld => ?_)
                  clear hK K
                  try simp only [Act.put, List.setIfInBounds_toArray, List.set_cons_zero, List.set_cons_succ]
                  refine wpAnyH_take (i := 11) (oi := { dst := some 93, op := Go.Op.fieldAddr 32 (Go.Operand.tmp 7) 4, type := 0, pos := "l04_facts.go:307", after := #[{ on := 0, ground := Go.Ground.phase }, { on := 1, ground := Go.Ground.phase }, { on := 2, ground := Go.Ground.phase }, { on := 3, ground := Go.Ground.phase }, { on := 4, ground := Go.Ground.phase }, { on := 5, ground := Go.Ground.phase }, { on := 6, ground := Go.Ground.phase }, { on := 7, ground := Go.Ground.phase }, { on := 8, ground := Go.Ground.phase }, { on := 9, ground := Go.Ground.phase }, { on := 10, ground := Go.Ground.phase }], guard := none }) (v := ?v103) rfl (by kernel_rfl) (by kernel_rfl) (by kernel_rfl) (fun _ _ _ h => h) (Or.inl ⟨by rfl, ?h103⟩) hHeld ?r103
                  case h103 => (intro w hSw; (try dsimp only at hSw); go_simp; try with_reducible rfl)
                  try simp only [Act.put, List.setIfInBounds_toArray, List.set_cons_zero, List.set_cons_succ]
                  refine wpAnyH_ready (rs := [12]) (by kernel_rfl) (by simp) ?_
                  refine (AllReadyH.cons (o := { dst := none, op := Go.Op.store 29 (Go.Operand.tmp 93) (Go.Operand.tmp 92), type := 0, pos := "l04_facts.go:307", after := #[{ on := 11, ground := Go.Ground.data }, { on := 10, ground := Go.Ground.data }, { on := 10, ground := Go.Ground.chain }, { on := 0, ground := Go.Ground.phase }, { on := 1, ground := Go.Ground.phase }, { on := 2, ground := Go.Ground.phase }, { on := 3, ground := Go.Ground.phase }, { on := 4, ground := Go.Ground.phase }, { on := 5, ground := Go.Ground.phase }, { on := 6, ground := Go.Ground.phase }, { on := 7, ground := Go.Ground.phase }, { on := 8, ground := Go.Ground.phase }, { on := 9, ground := Go.Ground.phase }, { on := 10, ground := Go.Ground.phase }], guard := none }) rfl (fun K hK => ?_) AllReadyH.nil)
                  go_simp
                  clear hHeld
                  refine hK.out _ _ hS3 (fun hHeld => ?_)
                  clear hK K
                  try simp only [Act.put, List.setIfInBounds_toArray, List.set_cons_zero, List.set_cons_succ]
                  refine wpAnyH_done (by kernel_rfl) ?_ _
                  go_wp2_with fail
                  go_meet
                  exact HST
                · go_simp
                  clear hHeld
                  refine hK.out _ _ hS1 (fun hHeld => ?_)
                  clear hK K
                  try simp only [Act.put, List.setIfInBounds_toArray, List.set_cons_zero, List.set_cons_succ]
                  refine wpAnyH_ready (rs := [1]) (by kernel_rfl) (by simp) ?_
                  refine (AllReadyH.cons (o := { dst := some 83, op := Go.Op.load 29 (Go.Operand.tmp 82), type := 29, pos := "l04_facts.go:307", after := #[{ on := 0, ground := Go.Ground.data }], guard := none }) rfl (fun K hK => ?_) AllReadyH.nil)
                  go_simp
                  clear hHeld
                  refine hK.out _ _ hS1 (fun hHeld => ?_)
                  clear hK K
                  try simp only [Act.put, List.setIfInBounds_toArray, List.set_cons_zero, List.set_cons_succ]
                  refine wpAnyH_ready (rs := [10]) (by kernel_rfl) (by simp) ?_
                  refine (AllReadyH.cons (o := { dst := some 92, op := Go.Op.call { callee := Go.Callee.builtin Go.Builtin.append, args := #[Go.Operand.tmp 83, Go.Operand.tmp 91], argTypes := #[29, 29] }, type := 29, pos := "l04_facts.go:307", after := #[{ on := 1, ground := Go.Ground.data }, { on := 9, ground := Go.Ground.data }], guard := none }) rfl (fun K hK => ?_) AllReadyH.nil)
                  refine step_append_run rfl (.tmp 83) (.tmp 91) 29 29 rfl (by simp [Act.eval, Act.put]) (by simp [Act.eval, Act.put]) HR.out ?_
                  clear hHeld
                  refine hK.out _ _ hS2 (fun hHeld => ?_)
                  clear hK K
                  try simp only [Act.put, List.setIfInBounds_toArray, List.set_cons_zero, List.set_cons_succ]
                  refine wpAnyH_take (i := 11) (oi := { dst := some 93, op := Go.Op.fieldAddr 32 (Go.Operand.tmp 7) 4, type := 0, pos := "l04_facts.go:307", after := #[{ on := 0, ground := Go.Ground.phase }, { on := 1, ground := Go.Ground.phase }, { on := 2, ground := Go.Ground.phase }, { on := 3, ground := Go.Ground.phase }, { on := 4, ground := Go.Ground.phase }, { on := 5, ground := Go.Ground.phase }, { on := 6, ground := Go.Ground.phase }, { on := 7, ground := Go.Ground.phase }, { on := 8, ground := Go.Ground.phase }, { on := 9, ground := Go.Ground.phase }, { on := 10, ground := Go.Ground.phase }], guard := none }) (v := ?v104) rfl (by kernel_rfl) (by kernel_rfl) (by kernel_rfl) (fun _ _ _ h => h) (Or.inl ⟨by rfl, ?h104⟩) hHeld ?r104
                  case h104 => (intro w hSw; (try dsimp only at hSw); go_simp; try with_reducible rfl)
                  try simp only [Act.put, List.setIfInBounds_toArray, List.set_cons_zero, List.set_cons_succ]
                  refine wpAnyH_ready (rs := [12]) (by kernel_rfl) (by simp) ?_
                  refine (AllReadyH.cons (o := { dst := none, op := Go.Op.store 29 (Go.Operand.tmp 93) (Go.Operand.tmp 92), type := 0, pos := "l04_facts.go:307", after := #[{ on := 11, ground := Go.Ground.data }, { on := 10, ground := Go.Ground.data }, { on := 10, ground := Go.Ground.chain }, { on := 0, ground := Go.Ground.phase }, { on := 1, ground := Go.Ground.phase }, { on := 2, ground := Go.Ground.phase }, { on := 3, ground := Go.Ground.phase }, { on := 4, ground := Go.Ground.phase }, { on := 5, ground := Go.Ground.phase }, { on := 6, ground := Go.Ground.phase }, { on := 7, ground := Go.Ground.phase }, { on := 8, ground := Go.Ground.phase }, { on := 9, ground := Go.Ground.phase }, { on := 10, ground := Go.Ground.phase }], guard := none }) rfl (fun K hK => ?_) AllReadyH.nil)
                  go_simp
                  clear hHeld
                  refine hK.out _ _ hS3 (fun hHeld => ?_)
                  clear hK K
                  try simp only [Act.put, List.setIfInBounds_toArray, List.set_cons_zero, List.set_cons_succ]
                  refine wpAnyH_done (by kernel_rfl) ?_ _
                  go_wp2_with fail
                  go_meet
                  exact HST
              case rest =>
                have HF5 := hcut
                clear hu4 hf4 hcut HF4
                obtain ⟨us5, hf5⟩ := HF5.out
                obtain ⟨u5z, hu5⟩ : ∃ u, us5[5]? = some u := ⟨_, List.getElem?_eq_getElem (by rw [hf5.len]; simp)⟩
                go_upto_region 15 with fail
                go_cut [] from 94 to 102 (fun wx => Hid (∃ us f5, (∃ a n c, f5 = .slice a n c) ∧ FSu wA g g us [(4, C0 ++ [.bool x0]), (4, C1 ++ [.bool x1]), (4, C2 ++ [.bool x2]), (4, C3 ++ [.bool x3]), (3, C4 ++ [.int .i64 x4]), (29, C5 ++ [f5]), (29, C6)] (entI (f5, A5) :: rows) wx))
                case first =>
                  have hfd := hf5.still ((Below.refl wc.heap.size wc).drew)
                  have hc0 : wc.drew.cell? ⟨g, 5, none⟩ = some u5z := by have := hfd.at (j := 5) (by rw [hf5.len]; simp); rw [List.getElem?_eq_getElem (by rw [hf5.len]; simp)] at hu5; injection hu5 with hu; rw [← hu]; exact this
                  have HCL := (show Hid _ from HC75.out wc.drew (fun q hq => hfd.bel.block q hq))
                  have HPU : Hid (∀ w2 xa xn xc, xn = A5.length → Mk1 wc.drew.heap.size wc.drew w2 (.slice xa xn xc) A5 → (w2.cell? ⟨g, 5, none⟩ = some u5z ∧ (w2.alloc (.cells #[.slice xa xn xc] 29)).cell? ⟨g, 5, none⟩ = some u5z) ∧ ∃ a2 c2 n2 w3, (Builtin.append_ #[30, 30] 30 #[u5z, .slice (some ⟨w2.heap.size, 0, none⟩) 1 1]).run Tryd.prog (w2.alloc (.cells #[.slice xa xn xc] 29)) = .ok (.slice a2 n2 c2) w3 ∧ (∃ y, w3.cell? ⟨g, 5, none⟩ = some y) ∧ w3.frozen? ⟨g, 5, none⟩ = false ∧ ∃ us, FSu wA g g us [(4, C0 ++ [.bool x0]), (4, C1 ++ [.bool x1]), (4, C2 ++ [.bool x2]), (4, C3 ++ [.bool x3]), (3, C4 ++ [.int .i64 x4]), (29, C5 ++ [(.slice xa xn xc)]), (29, C6)] (entI ((.slice xa xn xc), A5) :: rows) (w3.setCell ⟨g, 5, none⟩ (.slice a2 n2 c2))) := fun w2 xa xn xc hxn hmk => by
                    have hb2 : Below wc.drew.heap.size wc.drew w2 := hmk.1
                    have h1 := hfd.add (e := entI (.slice xa xn xc, A5)) hb2 (show World.ownsRow _ _ _ _ _ _ _ from hmk.2.2)
                    obtain ⟨a2, c2, n2, w3, hr, hy3, hfz, hst, hb3⟩ := h1.push29 5 (by simp) C5 rfl w2.heap.size xa xn xc rfl HC5.out u5z hu5
                    exact ⟨⟨(hb2.cell (lt_of_cell hc0)).trans hc0, ((hb2.trans ((bel_alloc w2 _).mono hb2.size)).cell (lt_of_cell hc0)).trans hc0⟩, a2, c2, n2, w3, hr, hy3, hfz, _, hst⟩
                  clear hfd hf5
                  clear HSF HFIN HC72 HC73 HC75 HC76 HLOW HSS HKN
                  refine wp_region_held_drew (S := fun _ => True) (by kernel_rfl) trivial (fun hHeld => ?_)
                  refine wpAnyH_take (i := 0) (oi := { dst := some 94, op := Go.Op.fieldAddr 32 (Go.Operand.tmp 7) 5, type := 0, pos := "l04_facts.go:308", after := #[], guard := none }) (v := ?v105) rfl (by kernel_rfl) (by kernel_rfl) (by kernel_rfl) (fun _ _ _ h => h) (Or.inl ⟨by rfl, ?h105⟩) hHeld ?r105
                  case h105 => (intro w hSw; (try dsimp only at hSw); go_simp; try with_reducible rfl)
                  try simp only [Act.put, List.setIfInBounds_toArray, List.set_cons_zero, List.set_cons_succ]
                  refine wpAnyH_take (i := 2) (oi := { dst := some 96, op := Go.Op.move (Go.Operand.tmp 5), type := 103, pos := "l04_facts.go:308", after := #[], guard := none }) (v := ?v106) rfl (by kernel_rfl) (by kernel_rfl) (by kernel_rfl) (fun _ _ _ h => h) (Or.inl ⟨by rfl, ?h106⟩) hHeld ?r106
                  case h106 => (intro w hSw; (try dsimp only at hSw); go_simp; try with_reducible rfl)
                  try simp only [Act.put, List.setIfInBounds_toArray, List.set_cons_zero, List.set_cons_succ]
                  refine wpAnyH_take (i := 3) (oi := { dst := some 97, op := Go.Op.move (Go.Operand.tmp 8), type := 3, pos := "l04_facts.go:308", after := #[], guard := none }) (v := ?v107) rfl (by kernel_rfl) (by kernel_rfl) (by kernel_rfl) (fun _ _ _ h => h) (Or.inl ⟨by rfl, ?h107⟩) hHeld ?r107
                  case h107 => (intro w hSw; (try dsimp only at hSw); go_simp; try with_reducible rfl)
                  try simp only [Act.put, List.setIfInBounds_toArray, List.set_cons_zero, List.set_cons_succ]
                  refine wpAnyH_take (i := 4) (oi := { dst := some 98, op := Go.Op.indexAddr 103 (Go.Operand.tmp 96) (Go.Operand.tmp 97), type := 0, pos := "l04_facts.go:308", after := #[{ on := 2, ground := Go.Ground.data }, { on := 3, ground := Go.Ground.data }], guard := none }) (v := ?v108) rfl (by kernel_rfl) (by kernel_rfl) (by kernel_rfl) (fun _ _ _ h => h) (Or.inl ⟨by rfl, ?h108⟩) hHeld ?r108
                  case h108 => (intro w hSw; (try dsimp only at hSw); go_simp; try with_reducible rfl)
                  try simp only [Act.put, List.setIfInBounds_toArray, List.set_cons_zero, List.set_cons_succ]
                  refine wpAnyH_ready (rs := [1, 5]) (by kernel_rfl) (by simp) ?_
                  refine (AllReadyH.cons (o := { dst := some 95, op := Go.Op.load 30 (Go.Operand.tmp 94), type := 30, pos := "l04_facts.go:308", after := #[{ on := 0, ground := Go.Ground.data }], guard := none }) rfl (fun K hK => ?_) (AllReadyH.cons (o := { dst := some 99, op := Go.Op.call { callee := Go.Callee.value (Go.Operand.func 72), args := #[Go.Operand.tmp 98], argTypes := #[102] }, type := 29, pos := "l04_facts.go:308", after := #[{ on := 4, ground := Go.Ground.data }], guard := none }) rfl (fun K hK => ?_) AllReadyH.nil))
                  · go_simp
                    clear hHeld
                    refine hK.out _ _ trivial (fun hHeld => ?_)
                    clear hK K
                    try simp only [Act.put, List.setIfInBounds_toArray, List.set_cons_zero, List.set_cons_succ]
                    refine wpAnyH_ready (rs := [5]) (by kernel_rfl) (by simp) ?_
                    refine (AllReadyH.cons (o := { dst := some 99, op := Go.Op.call { callee := Go.Callee.value (Go.Operand.func 72), args := #[Go.Operand.tmp 98], argTypes := #[102] }, type := 29, pos := "l04_facts.go:308", after := #[{ on := 4, ground := Go.Ground.data }], guard := none }) rfl (fun K hK => ?_) AllReadyH.nil)
                    go_simp
                    refine Calls.mono HCL.out ?_
                    rintro e w2 ⟨xa, xn, xc, rfl, hxn, hmk⟩
                    obtain ⟨⟨hc2, hc3⟩, a2, c2, n2, w3, hr, ⟨y3, hy3⟩, hfz, us9, hst⟩ := HPU.out w2 xa xn xc hxn hmk
                    have HR := (show Hid _ from hr)
                    have HSTF : Hid (∃ us f5, (∃ a n c, f5 = .slice a n c) ∧ FSu wA g g us [(4, C0 ++ [.bool x0]), (4, C1 ++ [.bool x1]), (4, C2 ++ [.bool x2]), (4, C3 ++ [.bool x3]), (3, C4 ++ [.int .i64 x4]), (29, C5 ++ [f5]), (29, C6)] (entI (f5, A5) :: rows) (w3.setCell ⟨g, 5, none⟩ (.slice a2 n2 c2))) := ⟨us9, .slice xa xn xc, ⟨_, _, _, rfl⟩, hst⟩
                    clear hr hst hmk hxn
                    dsimp only
                    clear hHeld
                    refine hK.out _ _ trivial (fun hHeld => ?_)
                    clear hK K
                    try simp only [Act.put, List.setIfInBounds_toArray, List.set_cons_zero, List.set_cons_succ]
                    refine wpAnyH_ready (rs := [6]) (by kernel_rfl) (by simp) ?_
                    refine (AllReadyH.cons (o := { dst := some 100, op := Go.Op.buildSlice 30 1 #[(0, Go.Operand.tmp 99)], type := 30, pos := "l04_facts.go:308", after := #[{ on := 5, ground := Go.Ground.data }], guard := none }) rfl (fun K hK => ?_) AllReadyH.nil)
                    go_simp
                    clear hHeld
                    refine hK.out _ _ trivial (fun hHeld => ?_)
                    clear hK K
                    try simp only [Act.put, List.setIfInBounds_toArray, List.set_cons_zero, List.set_cons_succ]
                    refine wpAnyH_ready (rs := [7]) (by kernel_rfl) (by simp) ?_
                    refine (AllReadyH.cons (o := { dst := some 101, op := Go.Op.call { callee := Go.Callee.builtin Go.Builtin.append, args := #[Go.Operand.tmp 95, Go.Operand.tmp 100], argTypes := #[30, 30] }, type := 30, pos := "l04_facts.go:308", after := #[{ on := 1, ground := Go.Ground.data }, { on := 6, ground := Go.Ground.data }, { on := 5, ground := Go.Ground.chain }], guard := none }) rfl (fun K hK => ?_) AllReadyH.nil)
                    refine step_append_run rfl (.tmp 95) (.tmp 100) 30 30 rfl (by simp [Act.eval, Act.put]) (by simp [Act.eval, Act.put]) HR.out ?_
                    clear hHeld
                    refine hK.out _ _ trivial (fun hHeld => ?_)
                    clear hK K
                    try simp only [Act.put, List.setIfInBounds_toArray, List.set_cons_zero, List.set_cons_succ]
                    refine wpAnyH_take (i := 8) (oi := { dst := some 102, op := Go.Op.fieldAddr 32 (Go.Operand.tmp 7) 5, type := 0, pos := "l04_facts.go:308", after := #[{ on := 0, ground := Go.Ground.phase }, { on := 1, ground := Go.Ground.phase }, { on := 2, ground := Go.Ground.phase }, { on := 3, ground := Go.Ground.phase }, { on := 4, ground := Go.Ground.phase }, { on := 5, ground := Go.Ground.phase }, { on := 6, ground := Go.Ground.phase }, { on := 7, ground := Go.Ground.phase }], guard := none }) (v := ?v109) rfl (by kernel_rfl) (by kernel_rfl) (by kernel_rfl) (fun _ _ _ h => h) (Or.inl ⟨by rfl, ?h109⟩) hHeld ?r109
                    case h109 => (intro w hSw; (try dsimp only at hSw); go_simp; try with_reducible rfl)
                    try simp only [Act.put, List.setIfInBounds_toArray, List.set_cons_zero, List.set_cons_succ]
                    refine wpAnyH_ready (rs := [9]) (by kernel_rfl) (by simp) ?_
                    refine (AllReadyH.cons (o := { dst := none, op := Go.Op.store 30 (Go.Operand.tmp 102) (Go.Operand.tmp 101), type := 0, pos := "l04_facts.go:308", after := #[{ on := 8, ground := Go.Ground.data }, { on := 7, ground := Go.Ground.data }, { on := 7, ground := Go.Ground.chain }, { on := 0, ground := Go.Ground.phase }, { on := 1, ground := Go.Ground.phase }, { on := 2, ground := Go.Ground.phase }, { on := 3, ground := Go.Ground.phase }, { on := 4, ground := Go.Ground.phase }, { on := 5, ground := Go.Ground.phase }, { on := 6, ground := Go.Ground.phase }, { on := 7, ground := Go.Ground.phase }], guard := none }) rfl (fun K hK => ?_) AllReadyH.nil)
                    go_simp
                    clear hHeld
                    refine hK.out _ _ trivial (fun hHeld => ?_)
                    clear hK K
                    try simp only [Act.put, List.setIfInBounds_toArray, List.set_cons_zero, List.set_cons_succ]
                    refine wpAnyH_done (by kernel_rfl) ?_ _
                    go_wp2_with fail
                    go_meet
                    exact HSTF
                  · go_simp
                    refine Calls.mono HCL.out ?_
                    rintro e w2 ⟨xa, xn, xc, rfl, hxn, hmk⟩
                    obtain ⟨⟨hc2, hc3⟩, a2, c2, n2, w3, hr, ⟨y3, hy3⟩, hfz, us9, hst⟩ := HPU.out w2 xa xn xc hxn hmk
                    have HR := (show Hid _ from hr)
                    have HSTF : Hid (∃ us f5, (∃ a n c, f5 = .slice a n c) ∧ FSu wA g g us [(4, C0 ++ [.bool x0]), (4, C1 ++ [.bool x1]), (4, C2 ++ [.bool x2]), (4, C3 ++ [.bool x3]), (3, C4 ++ [.int .i64 x4]), (29, C5 ++ [f5]), (29, C6)] (entI (f5, A5) :: rows) (w3.setCell ⟨g, 5, none⟩ (.slice a2 n2 c2))) := ⟨us9, .slice xa xn xc, ⟨_, _, _, rfl⟩, hst⟩
                    clear hr hst hmk hxn
                    dsimp only
                    clear hHeld
                    refine hK.out _ _ trivial (fun hHeld => ?_)
                    clear hK K
                    try simp only [Act.put, List.setIfInBounds_toArray, List.set_cons_zero, List.set_cons_succ]
                    refine wpAnyH_ready (rs := [1, 6]) (by kernel_rfl) (by simp) ?_
                    refine (AllReadyH.cons (o := { dst := some 95, op := Go.Op.load 30 (Go.Operand.tmp 94), type := 30, pos := "l04_facts.go:308", after := #[{ on := 0, ground := Go.Ground.data }], guard := none }) rfl (fun K hK => ?_) (AllReadyH.cons (o := { dst := some 100, op := Go.Op.buildSlice 30 1 #[(0, Go.Operand.tmp 99)], type := 30, pos := "l04_facts.go:308", after := #[{ on := 5, ground := Go.Ground.data }], guard := none }) rfl (fun K hK => ?_) AllReadyH.nil))
                    · go_simp
                      clear hHeld
                      refine hK.out _ _ trivial (fun hHeld => ?_)
                      clear hK K
                      try simp only [Act.put, List.setIfInBounds_toArray, List.set_cons_zero, List.set_cons_succ]
                      refine wpAnyH_ready (rs := [6]) (by kernel_rfl) (by simp) ?_
                      refine (AllReadyH.cons (o := { dst := some 100, op := Go.Op.buildSlice 30 1 #[(0, Go.Operand.tmp 99)], type := 30, pos := "l04_facts.go:308", after := #[{ on := 5, ground := Go.Ground.data }], guard := none }) rfl (fun K hK => ?_) AllReadyH.nil)
                      go_simp
                      clear hHeld
                      refine hK.out _ _ trivial (fun hHeld => ?_)
                      clear hK K
                      try simp only [Act.put, List.setIfInBounds_toArray, List.set_cons_zero, List.set_cons_succ]
                      refine wpAnyH_ready (rs := [7]) (by kernel_rfl) (by simp) ?_
                      refine (AllReadyH.cons (o := { dst := some 101, op := Go.Op.call { callee := Go.Callee.builtin Go.Builtin.append, args := #[Go.Operand.tmp 95, Go.Operand.tmp 100], argTypes := #[30, 30] }, type := 30, pos := "l04_facts.go:308", after := #[{ on := 1, ground := Go.Ground.data }, { on := 6, ground := Go.Ground.data }, { on := 5, ground := Go.Ground.chain }], guard := none }) rfl (fun K hK => ?_) AllReadyH.nil)
                      refine step_append_run rfl (.tmp 95) (.tmp 100) 30 30 rfl (by simp [Act.eval, Act.put]) (by simp [Act.eval, Act.put]) HR.out ?_
                      clear hHeld
                      refine hK.out _ _ trivial (fun hHeld => ?_)
                      clear hK K
                      try simp only [Act.put, List.setIfInBounds_toArray, List.set_cons_zero, List.set_cons_succ]
                      refine wpAnyH_take (i := 8) (oi := { dst := some 102, op := Go.Op.fieldAddr 32 (Go.Operand.tmp 7) 5, type := 0, pos := "l04_facts.go:308", after := #[{ on := 0, ground := Go.Ground.phase }, { on := 1, ground := Go.Ground.phase }, { on := 2, ground := Go.Ground.phase }, { on := 3, ground := Go.Ground.phase }, { on := 4, ground := Go.Ground.phase }, { on := 5, ground := Go.Ground.phase }, { on := 6, ground := Go.Ground.phase }, { on := 7, ground := Go.Ground.phase }], guard := none }) (v := ?v110) rfl (by kernel_rfl) (by kernel_rfl) (by kernel_rfl) (fun _ _ _ h => h) (Or.inl ⟨by rfl, ?h110⟩) hHeld ?r110
                      case h110 => (intro w hSw; (try dsimp only at hSw); go_simp; try with_reducible rfl)
                      try simp only [Act.put, List.setIfInBounds_toArray, List.set_cons_zero, List.set_cons_succ]
                      refine wpAnyH_ready (rs := [9]) (by kernel_rfl) (by simp) ?_
                      refine (AllReadyH.cons (o := { dst := none, op := Go.Op.store 30 (Go.Operand.tmp 102) (Go.Operand.tmp 101), type := 0, pos := "l04_facts.go:308", after := #[{ on := 8, ground := Go.Ground.data }, { on := 7, ground := Go.Ground.data }, { on := 7, ground := Go.Ground.chain }, { on := 0, ground := Go.Ground.phase }, { on := 1, ground := Go.Ground.phase }, { on := 2, ground := Go.Ground.phase }, { on := 3, ground := Go.Ground.phase }, { on := 4, ground := Go.Ground.phase }, { on := 5, ground := Go.Ground.phase }, { on := 6, ground := Go.Ground.phase }, { on := 7, ground := Go.Ground.phase }], guard := none }) rfl (fun K hK => ?_) AllReadyH.nil)
                      go_simp
                      clear hHeld
                      refine hK.out _ _ trivial (fun hHeld => ?_)
                      clear hK K
                      try simp only [Act.put, List.setIfInBounds_toArray, List.set_cons_zero, List.set_cons_succ]
                      refine wpAnyH_done (by kernel_rfl) ?_ _
                      go_wp2_with fail
                      go_meet
                      exact HSTF
                    · go_simp
                      clear hHeld
                      refine hK.out _ _ trivial (fun hHeld => ?_)
                      clear hK K
                      try simp only [Act.put, List.setIfInBounds_toArray, List.set_cons_zero, List.set_cons_succ]
                      refine wpAnyH_ready (rs := [1]) (by kernel_rfl) (by simp) ?_
                      refine (AllReadyH.cons (o := { dst := some 95, op := Go.Op.load 30 (Go.Operand.tmp 94), type := 30, pos := "l04_facts.go:308", after := #[{ on := 0, ground := Go.Ground.data }], guard := none }) rfl (fun K hK => ?_) AllReadyH.nil)
                      go_simp
                      clear hHeld
                      refine hK.out _ _ trivial (fun hHeld => ?_)
                      clear hK K
                      try simp only [Act.put, List.setIfInBounds_toArray, List.set_cons_zero, List.set_cons_succ]
                      refine wpAnyH_ready (rs := [7]) (by kernel_rfl) (by simp) ?_
                      refine (AllReadyH.cons (o := { dst := some 101, op := Go.Op.call { callee := Go.Callee.builtin Go.Builtin.append, args := #[Go.Operand.tmp 95, Go.Operand.tmp 100], argTypes := #[30, 30] }, type := 30, pos := "l04_facts.go:308", after := #[{ on := 1, ground := Go.Ground.data }, { on := 6, ground := Go.Ground.data }, { on := 5, ground := Go.Ground.chain }], guard := none }) rfl (fun K hK => ?_) AllReadyH.nil)
                      refine step_append_run rfl (.tmp 95) (.tmp 100) 30 30 rfl (by simp [Act.eval, Act.put]) (by simp [Act.eval, Act.put]) HR.out ?_
                      clear hHeld
                      refine hK.out _ _ trivial (fun hHeld => ?_)
                      clear hK K
                      try simp only [Act.put, List.setIfInBounds_toArray, List.set_cons_zero, List.set_cons_succ]
                      refine wpAnyH_take (i := 8) (oi := { dst := some 102, op := Go.Op.fieldAddr 32 (Go.Operand.tmp 7) 5, type := 0, pos := "l04_facts.go:308", after := #[{ on := 0, ground := Go.Ground.phase }, { on := 1, ground := Go.Ground.phase }, { on := 2, ground := Go.Ground.phase }, { on := 3, ground := Go.Ground.phase }, { on := 4, ground := Go.Ground.phase }, { on := 5, ground := Go.Ground.phase }, { on := 6, ground := Go.Ground.phase }, { on := 7, ground := Go.Ground.phase }], guard := none }) (v := ?v111) rfl (by kernel_rfl) (by kernel_rfl) (by kernel_rfl) (fun _ _ _ h => h) (Or.inl ⟨by rfl, ?h111⟩) hHeld ?r111
                      case h111 => (intro w hSw; (try dsimp only at hSw); go_simp; try with_reducible rfl)
                      try simp only [Act.put, List.setIfInBounds_toArray, List.set_cons_zero, List.set_cons_succ]
                      refine wpAnyH_ready (rs := [9]) (by kernel_rfl) (by simp) ?_
                      refine (AllReadyH.cons (o := { dst := none, op := Go.Op.store 30 (Go.Operand.tmp 102) (Go.Operand.tmp 101), type := 0, pos := "l04_facts.go:308", after := #[{ on := 8, ground := Go.Ground.data }, { on := 7, ground := Go.Ground.data }, { on := 7, ground := Go.Ground.chain }, { on := 0, ground := Go.Ground.phase }, { on := 1, ground := Go.Ground.phase }, { on := 2, ground := Go.Ground.phase }, { on := 3, ground := Go.Ground.phase }, { on := 4, ground := Go.Ground.phase }, { on := 5, ground := Go.Ground.phase }, { on := 6, ground := Go.Ground.phase }, { on := 7, ground := Go.Ground.phase }], guard := none }) rfl (fun K hK => ?_) AllReadyH.nil)
                      go_simp
                      clear hHeld
                      refine hK.out _ _ trivial (fun hHeld => ?_)
                      clear hK K
                      try simp only [Act.put, List.setIfInBounds_toArray, List.set_cons_zero, List.set_cons_succ]
                      refine wpAnyH_done (by kernel_rfl) ?_ _
                      go_wp2_with fail
                      go_meet
                      exact HSTF
                case rest =>
                  obtain ⟨us6a, f5, ⟨xa5, xn5, xc5, rfl⟩, hf6a⟩ := hcut.out
                  have HF6 : Hid (∃ us, FSu wA g g us [(4, C0 ++ [.bool x0]), (4, C1 ++ [.bool x1]), (4, C2 ++ [.bool x2]), (4, C3 ++ [.bool x3]), (3, C4 ++ [.int .i64 x4]), (29, C5 ++ [(.slice xa5 xn5 xc5)]), (29, C6)] (entI ((.slice xa5 xn5 xc5), A5) :: rows) wc) := ⟨us6a, hf6a⟩
                  clear hf6a
                  clear hu5 hf5 HF5
                  obtain ⟨us6, hf6⟩ := HF6.out
                  obtain ⟨u6z, hu6⟩ : ∃ u, us6[6]? = some u := ⟨_, List.getElem?_eq_getElem (by rw [hf6.len]; simp)⟩
                  go_upto_region 16 with fail
                  have hfd := hf6.still ((Below.refl wc.heap.size wc).drew)
                  have hc0 : wc.drew.cell? ⟨g, 6, none⟩ = some u6z := by have := hfd.at (j := 6) (by rw [hf6.len]; simp); rw [List.getElem?_eq_getElem (by rw [hf6.len]; simp)] at hu6; injection hu6 with hu; rw [← hu]; exact this
                  have HCL := (show Hid _ from HC76.out wc.drew (fun q hq => hfd.bel.block q hq))
                  have HPU : Hid (∀ w2 xa xn xc, xn = A6.length → Mk1 wc.drew.heap.size wc.drew w2 (.slice xa xn xc) A6 → (w2.cell? ⟨g, 6, none⟩ = some u6z ∧ (w2.alloc (.cells #[.slice xa xn xc] 29)).cell? ⟨g, 6, none⟩ = some u6z) ∧ ∃ a2 c2 n2 w3, (Builtin.append_ #[30, 30] 30 #[u6z, .slice (some ⟨w2.heap.size, 0, none⟩) 1 1]).run Tryd.prog (w2.alloc (.cells #[.slice xa xn xc] 29)) = .ok (.slice a2 n2 c2) w3 ∧ (∃ y, w3.cell? ⟨g, 6, none⟩ = some y) ∧ w3.frozen? ⟨g, 6, none⟩ = false ∧ ∃ us, FSu wA g g us [(4, C0 ++ [.bool x0]), (4, C1 ++ [.bool x1]), (4, C2 ++ [.bool x2]), (4, C3 ++ [.bool x3]), (3, C4 ++ [.int .i64 x4]), (29, C5 ++ [(.slice xa5 xn5 xc5)]), (29, C6 ++ [(.slice xa xn xc)])] (entI ((.slice xa xn xc), A6) :: entI ((.slice xa5 xn5 xc5), A5) :: rows) (w3.setCell ⟨g, 6, none⟩ (.slice a2 n2 c2))) := fun w2 xa xn xc hxn hmk => by
                    have hb2 : Below wc.drew.heap.size wc.drew w2 := hmk.1
                    have h1 := hfd.add (e := entI (.slice xa xn xc, A6)) hb2 (show World.ownsRow _ _ _ _ _ _ _ from hmk.2.2)
                    obtain ⟨a2, c2, n2, w3, hr, hy3, hfz, hst, hb3⟩ := h1.push29 6 (by simp) C6 rfl w2.heap.size xa xn xc rfl HC6.out u6z hu6
                    exact ⟨⟨(hb2.cell (lt_of_cell hc0)).trans hc0, ((hb2.trans ((bel_alloc w2 _).mono hb2.size)).cell (lt_of_cell hc0)).trans hc0⟩, a2, c2, n2, w3, hr, hy3, hfz, _, hst⟩
                  clear hfd hf6
                  refine wp_region_held_drew (S := fun _ => True) (by kernel_rfl) trivial (fun hHeld => ?_)
                  refine wpAnyH_take (i := 0) (oi := { dst := some 103, op := Go.Op.fieldAddr 32 (Go.Operand.tmp 7) 6, type := 0, pos := "l04_facts.go:309", after := #[], guard := none }) (v := ?v112) rfl (by kernel_rfl) (by kernel_rfl) (by kernel_rfl) (fun _ _ _ h => h) (Or.inl ⟨by rfl, ?h112⟩) hHeld ?r112
                  case h112 => (intro w hSw; (try dsimp only at hSw); go_simp; try with_reducible rfl)
                  try simp only [Act.put, List.setIfInBounds_toArray, List.set_cons_zero, List.set_cons_succ]
                  refine wpAnyH_take (i := 2) (oi := { dst := some 105, op := Go.Op.move (Go.Operand.tmp 6), type := 103, pos := "l04_facts.go:309", after := #[], guard := none }) (v := ?v113) rfl (by kernel_rfl) (by kernel_rfl) (by kernel_rfl) (fun _ _ _ h => h) (Or.inl ⟨by rfl, ?h113⟩) hHeld ?r113
                  case h113 => (intro w hSw; (try dsimp only at hSw); go_simp; try with_reducible rfl)
                  try simp only [Act.put, List.setIfInBounds_toArray, List.set_cons_zero, List.set_cons_succ]
                  refine wpAnyH_take (i := 3) (oi := { dst := some 106, op := Go.Op.move (Go.Operand.tmp 8), type := 3, pos := "l04_facts.go:309", after := #[], guard := none }) (v := ?v114) rfl (by kernel_rfl) (by kernel_rfl) (by kernel_rfl) (fun _ _ _ h => h) (Or.inl ⟨by rfl, ?h114⟩) hHeld ?r114
                  case h114 => (intro w hSw; (try dsimp only at hSw); go_simp; try with_reducible rfl)
                  try simp only [Act.put, List.setIfInBounds_toArray, List.set_cons_zero, List.set_cons_succ]
                  refine wpAnyH_take (i := 4) (oi := { dst := some 107, op := Go.Op.indexAddr 103 (Go.Operand.tmp 105) (Go.Operand.tmp 106), type := 0, pos := "l04_facts.go:309", after := #[{ on := 2, ground := Go.Ground.data }, { on := 3, ground := Go.Ground.data }], guard := none }) (v := ?v115) rfl (by kernel_rfl) (by kernel_rfl) (by kernel_rfl) (fun _ _ _ h => h) (Or.inl ⟨by rfl, ?h115⟩) hHeld ?r115
                  case h115 => (intro w hSw; (try dsimp only at hSw); go_simp; try with_reducible rfl)
                  try simp only [Act.put, List.setIfInBounds_toArray, List.set_cons_zero, List.set_cons_succ]
                  refine wpAnyH_ready (rs := [1, 5]) (by kernel_rfl) (by simp) ?_
                  refine (AllReadyH.cons (o := { dst := some 104, op := Go.Op.load 30 (Go.Operand.tmp 103), type := 30, pos := "l04_facts.go:309", after := #[{ on := 0, ground := Go.Ground.data }], guard := none }) rfl (fun K hK => ?_) (AllReadyH.cons (o := { dst := some 108, op := Go.Op.call { callee := Go.Callee.value (Go.Operand.func 72), args := #[Go.Operand.tmp 107], argTypes := #[102] }, type := 29, pos := "l04_facts.go:309", after := #[{ on := 4, ground := Go.Ground.data }], guard := none }) rfl (fun K hK => ?_) AllReadyH.nil))
                  · go_simp
                    clear hHeld
                    refine hK.out _ _ trivial (fun hHeld => ?_)
                    clear hK K
                    try simp only [Act.put, List.setIfInBounds_toArray, List.set_cons_zero, List.set_cons_succ]
                    refine wpAnyH_ready (rs := [5]) (by kernel_rfl) (by simp) ?_
                    refine (AllReadyH.cons (o := { dst := some 108, op := Go.Op.call { callee := Go.Callee.value (Go.Operand.func 72), args := #[Go.Operand.tmp 107], argTypes := #[102] }, type := 29, pos := "l04_facts.go:309", after := #[{ on := 4, ground := Go.Ground.data }], guard := none }) rfl (fun K hK => ?_) AllReadyH.nil)
                    go_simp
                    refine Calls.mono HCL.out ?_
                    rintro e w2 ⟨xa, xn, xc, rfl, hxn, hmk⟩
                    obtain ⟨⟨hc2, hc3⟩, a2, c2, n2, w3, hr, ⟨y3, hy3⟩, hfz, us9, hst⟩ := HPU.out w2 xa xn xc hxn hmk
                    have HR := (show Hid _ from hr)
                    have HSTF := (show Hid _ from HFIN.out (.slice xa5 xn5 xc5) _ us9 (.slice xa xn xc) hst)
                    clear hr hst hmk hxn
                    dsimp only
                    clear hHeld
                    refine hK.out _ _ trivial (fun hHeld => ?_)
                    clear hK K
                    try simp only [Act.put, List.setIfInBounds_toArray, List.set_cons_zero, List.set_cons_succ]
                    refine wpAnyH_ready (rs := [6]) (by kernel_rfl) (by simp) ?_
                    refine (AllReadyH.cons (o := { dst := some 109, op := Go.Op.buildSlice 30 1 #[(0, Go.Operand.tmp 108)], type := 30, pos := "l04_facts.go:309", after := #[{ on := 5, ground := Go.Ground.data }], guard := none }) rfl (fun K hK => ?_) AllReadyH.nil)
                    go_simp
                    clear hHeld
                    refine hK.out _ _ trivial (fun hHeld => ?_)
                    clear hK K
                    try simp only [Act.put, List.setIfInBounds_toArray, List.set_cons_zero, List.set_cons_succ]
                    refine wpAnyH_ready (rs := [7]) (by kernel_rfl) (by simp) ?_
                    refine (AllReadyH.cons (o := { dst := some 110, op := Go.Op.call { callee := Go.Callee.builtin Go.Builtin.append, args := #[Go.Operand.tmp 104, Go.Operand.tmp 109], argTypes := #[30, 30] }, type := 30, pos := "l04_facts.go:309", after := #[{ on := 1, ground := Go.Ground.data }, { on := 6, ground := Go.Ground.data }, { on := 5, ground := Go.Ground.chain }], guard := none }) rfl (fun K hK => ?_) AllReadyH.nil)
                    refine step_append_run rfl (.tmp 104) (.tmp 109) 30 30 rfl (by simp [Act.eval, Act.put]) (by simp [Act.eval, Act.put]) HR.out ?_
                    clear hHeld
                    refine hK.out _ _ trivial (fun hHeld => ?_)
                    clear hK K
                    try simp only [Act.put, List.setIfInBounds_toArray, List.set_cons_zero, List.set_cons_succ]
                    refine wpAnyH_take (i := 8) (oi := { dst := some 111, op := Go.Op.fieldAddr 32 (Go.Operand.tmp 7) 6, type := 0, pos := "l04_facts.go:309", after := #[{ on := 0, ground := Go.Ground.phase }, { on := 1, ground := Go.Ground.phase }, { on := 2, ground := Go.Ground.phase }, { on := 3, ground := Go.Ground.phase }, { on := 4, ground := Go.Ground.phase }, { on := 5, ground := Go.Ground.phase }, { on := 6, ground := Go.Ground.phase }, { on := 7, ground := Go.Ground.phase }], guard := none }) (v := ?v116) rfl (by kernel_rfl) (by kernel_rfl) (by kernel_rfl) (fun _ _ _ h => h) (Or.inl ⟨by rfl, ?h116⟩) hHeld ?r116
                    case h116 => (intro w hSw; (try dsimp only at hSw); go_simp; try with_reducible rfl)
                    try simp only [Act.put, List.setIfInBounds_toArray, List.set_cons_zero, List.set_cons_succ]
                    refine wpAnyH_ready (rs := [9]) (by kernel_rfl) (by simp) ?_
                    refine (AllReadyH.cons (o := { dst := none, op := Go.Op.store 30 (Go.Operand.tmp 111) (Go.Operand.tmp 110), type := 0, pos := "l04_facts.go:309", after := #[{ on := 8, ground := Go.Ground.data }, { on := 7, ground := Go.Ground.data }, { on := 7, ground := Go.Ground.chain }, { on := 0, ground := Go.Ground.phase }, { on := 1, ground := Go.Ground.phase }, { on := 2, ground := Go.Ground.phase }, { on := 3, ground := Go.Ground.phase }, { on := 4, ground := Go.Ground.phase }, { on := 5, ground := Go.Ground.phase }, { on := 6, ground := Go.Ground.phase }, { on := 7, ground := Go.Ground.phase }], guard := none }) rfl (fun K hK => ?_) AllReadyH.nil)
                    go_simp
                    clear hHeld
                    refine hK.out _ _ trivial (fun hHeld => ?_)
                    clear hK K
                    try simp only [Act.put, List.setIfInBounds_toArray, List.set_cons_zero, List.set_cons_succ]
                    refine wpAnyH_done (by kernel_rfl) ?_ _
                    go_wp2_with fail
                    have h1 := HSS.out
                    have h2 := HKN.out
                    exact ⟨⟨k + 1, by go_num, by omega, HSTF⟩, by simp [intOf]; omega⟩
                  · go_simp
                    refine Calls.mono HCL.out ?_
                    rintro e w2 ⟨xa, xn, xc, rfl, hxn, hmk⟩
                    obtain ⟨⟨hc2, hc3⟩, a2, c2, n2, w3, hr, ⟨y3, hy3⟩, hfz, us9, hst⟩ := HPU.out w2 xa xn xc hxn hmk
                    have HR := (show Hid _ from hr)
                    have HSTF := (show Hid _ from HFIN.out (.slice xa5 xn5 xc5) _ us9 (.slice xa xn xc) hst)
                    clear hr hst hmk hxn
                    dsimp only
                    clear hHeld
                    refine hK.out _ _ trivial (fun hHeld => ?_)
                    clear hK K
                    try simp only [Act.put, List.setIfInBounds_toArray, List.set_cons_zero, List.set_cons_succ]
                    refine wpAnyH_ready (rs := [1, 6]) (by kernel_rfl) (by simp) ?_
                    refine (AllReadyH.cons (o := { dst := some 104, op := Go.Op.load 30 (Go.Operand.tmp 103), type := 30, pos := "l04_facts.go:309", after := #[{ on := 0, ground := Go.Ground.data }], guard := none }) rfl (fun K hK => ?_) (AllReadyH.cons (o := { dst := some 109, op := Go.Op.buildSlice 30 1 #[(0, Go.Operand.tmp 108)], type := 30, pos := "l04_facts.go:309", after := #[{ on := 5, ground := Go.Ground.data }], guard := none }) rfl (fun K hK => ?_) AllReadyH.nil))
                    · go_simp
                      clear hHeld
                      refine hK.out _ _ trivial (fun hHeld => ?_)
                      clear hK K
                      try simp only [Act.put, List.setIfInBounds_toArray, List.set_cons_zero, List.set_cons_succ]
                      refine wpAnyH_ready (rs := [6]) (by kernel_rfl) (by simp) ?_
                      refine (AllReadyH.cons (o := { dst := some 109, op := Go.Op.buildSlice 30 1 #[(0, Go.Operand.tmp 108)], type := 30, pos := "l04_facts.go:309", after := #[{ on := 5, ground := Go.Ground.data }], guard := none }) rfl (fun K hK => ?_) AllReadyH.nil)
                      go_simp
                      clear hHeld
                      refine hK.out _ _ trivial (fun hHeld => ?_)
                      clear hK K
                      try simp only [Act.put, List.setIfInBounds_toArray, List.set_cons_zero, List.set_cons_succ]
                      refine wpAnyH_ready (rs := [7]) (by kernel_rfl) (by simp) ?_
                      refine (AllReadyH.cons (o := { dst := some 110, op := Go.Op.call { callee := Go.Callee.builtin Go.Builtin.append, args := #[Go.Operand.tmp 104, Go.Operand.tmp 109], argTypes := #[30, 30] }, type := 30, pos := "l04_facts.go:309", after := #[{ on := 1, ground := Go.Ground.data }, { on := 6, ground := Go.Ground.data }, { on := 5, ground := Go.Ground.chain }], guard := none }) rfl (fun K hK => ?_) AllReadyH.nil)
                      refine step_append_run rfl (.tmp 104) (.tmp 109) 30 30 rfl (by simp [Act.eval, Act.put]) (by simp [Act.eval, Act.put]) HR.out ?_
                      clear hHeld
                      refine hK.out _ _ trivial (fun hHeld => ?_)
                      clear hK K
                      try simp only [Act.put, List.setIfInBounds_toArray, List.set_cons_zero, List.set_cons_succ]
                      refine wpAnyH_take (i := 8) (oi := { dst := some 111, op := Go.Op.fieldAddr 32 (Go.Operand.tmp 7) 6, type := 0, pos := "l04_facts.go:309", after := #[{ on := 0, ground := Go.Ground.phase }, { on := 1, ground := Go.Ground.phase }, { on := 2, ground := Go.Ground.phase }, { on := 3, ground := Go.Ground.phase }, { on := 4, ground := Go.Ground.phase }, { on := 5, ground := Go.Ground.phase }, { on := 6, ground := Go.Ground.phase }, { on := 7, ground := Go.Ground.phase }], guard := none }) (v := ?v117) rfl (by kernel_rfl) (by kernel_rfl) (by kernel_rfl) (fun _ _ _ h => h) (Or.inl ⟨by rfl, ?h117⟩) hHeld ?r117
                      case h117 => (intro w hSw; (try dsimp only at hSw); go_simp; try with_reducible rfl)
                      try simp only [Act.put, List.setIfInBounds_toArray, List.set_cons_zero, List.set_cons_succ]
                      refine wpAnyH_ready (rs := [9]) (by kernel_rfl) (by simp) ?_
                      refine (AllReadyH.cons (o := { dst := none, op := Go.Op.store 30 (Go.Operand.tmp 111) (Go.Operand.tmp 110), type := 0, pos := "l04_facts.go:309", after := #[{ on := 8, ground := Go.Ground.data }, { on := 7, ground := Go.Ground.data }, { on := 7, ground := Go.Ground.chain }, { on := 0, ground := Go.Ground.phase }, { on := 1, ground := Go.Ground.phase }, { on := 2, ground := Go.Ground.phase }, { on := 3, ground := Go.Ground.phase }, { on := 4, ground := Go.Ground.phase }, { on := 5, ground := Go.Ground.phase }, { on := 6, ground := Go.Ground.phase }, { on := 7, ground := Go.Ground.phase }], guard := none }) rfl (fun K hK => ?_) AllReadyH.nil)
                      go_simp
                      clear hHeld
                      refine hK.out _ _ trivial (fun hHeld => ?_)
                      clear hK K
                      try simp only [Act.put, List.setIfInBounds_toArray, List.set_cons_zero, List.set_cons_succ]
                      refine wpAnyH_done (by kernel_rfl) ?_ _
                      go_wp2_with fail
                      have h1 := HSS.out
                      have h2 := HKN.out
                      exact ⟨⟨k + 1, by go_num, by omega, HSTF⟩, by simp [intOf]; omega⟩
                    · go_simp
                      clear hHeld
                      refine hK.out _ _ trivial (fun hHeld => ?_)
                      clear hK K
                      try simp only [Act.put, List.setIfInBounds_toArray, List.set_cons_zero, List.set_cons_succ]
                      refine wpAnyH_ready (rs := [1]) (by kernel_rfl) (by simp) ?_
                      refine (AllReadyH.cons (o := { dst := some 104, op := Go.Op.load 30 (Go.Operand.tmp 103), type := 30, pos := "l04_facts.go:309", after := #[{ on := 0, ground := Go.Ground.data }], guard := none }) rfl (fun K hK => ?_) AllReadyH.nil)
                      go_simp
                      clear hHeld
                      refine hK.out _ _ trivial (fun hHeld => ?_)
                      clear hK K
                      try simp only [Act.put, List.setIfInBounds_toArray, List.set_cons_zero, List.set_cons_succ]
                      refine wpAnyH_ready (rs := [7]) (by kernel_rfl) (by simp) ?_
                      refine (AllReadyH.cons (o := { dst := some 110, op := Go.Op.call { callee := Go.Callee.builtin Go.Builtin.append, args := #[Go.Operand.tmp 104, Go.Operand.tmp 109], argTypes := #[30, 30] }, type := 30, pos := "l04_facts.go:309", after := #[{ on := 1, ground := Go.Ground.data }, { on := 6, ground := Go.Ground.data }, { on := 5, ground := Go.Ground.chain }], guard := none }) rfl (fun K hK => ?_) AllReadyH.nil)
                      refine step_append_run rfl (.tmp 104) (.tmp 109) 30 30 rfl (by simp [Act.eval, Act.put]) (by simp [Act.eval, Act.put]) HR.out ?_
                      clear hHeld
                      refine hK.out _ _ trivial (fun hHeld => ?_)
                      clear hK K
                      try simp only [Act.put, List.setIfInBounds_toArray, List.set_cons_zero, List.set_cons_succ]
                      refine wpAnyH_take (i := 8) (oi := { dst := some 111, op := Go.Op.fieldAddr 32 (Go.Operand.tmp 7) 6, type := 0, pos := "l04_facts.go:309", after := #[{ on := 0, ground := Go.Ground.phase }, { on := 1, ground := Go.Ground.phase }, { on := 2, ground := Go.Ground.phase }, { on := 3, ground := Go.Ground.phase }, { on := 4, ground := Go.Ground.phase }, { on := 5, ground := Go.Ground.phase }, { on := 6, ground := Go.Ground.phase }, { on := 7, ground := Go.Ground.phase }], guard := none }) (v := ?v118) rfl (by kernel_rfl) (by kernel_rfl) (by kernel_rfl) (fun _ _ _ h => h) (Or.inl ⟨by rfl, ?h118⟩) hHeld ?r118
                      case h118 => (intro w hSw; (try dsimp only at hSw); go_simp; try with_reducible rfl)
                      try simp only [Act.put, List.setIfInBounds_toArray, List.set_cons_zero, List.set_cons_succ]
                      refine wpAnyH_ready (rs := [9]) (by kernel_rfl) (by simp) ?_
                      refine (AllReadyH.cons (o := { dst := none, op := Go.Op.store 30 (Go.Operand.tmp 111) (Go.Operand.tmp 110), type := 0, pos := "l04_facts.go:309", after := #[{ on := 8, ground := Go.Ground.data }, { on := 7, ground := Go.Ground.data }, { on := 7, ground := Go.Ground.chain }, { on := 0, ground := Go.Ground.phase }, { on := 1, ground := Go.Ground.phase }, { on := 2, ground := Go.Ground.phase }, { on := 3, ground := Go.Ground.phase }, { on := 4, ground := Go.Ground.phase }, { on := 5, ground := Go.Ground.phase }, { on := 6, ground := Go.Ground.phase }, { on := 7, ground := Go.Ground.phase }], guard := none }) rfl (fun K hK => ?_) AllReadyH.nil)
                      go_simp
                      clear hHeld
                      refine hK.out _ _ trivial (fun hHeld => ?_)
                      clear hK K
                      try simp only [Act.put, List.setIfInBounds_toArray, List.set_cons_zero, List.set_cons_succ]
                      refine wpAnyH_done (by kernel_rfl) ?_ _
                      go_wp2_with fail
                      have h1 := HSS.out
                      have h2 := HKN.out
                      exact ⟨⟨k + 1, by go_num, by omega, HSTF⟩, by simp [intOf]; omega⟩
    · have hkn : k = d.nons.length := by omega
      subst hkn
      obtain ⟨us, RF, RO, rows, hF, hRF, hRO, hp⟩ := HK.out
      have hl7 : us.length = 7 := hF.len
      obtain ⟨u0, u1, u2, u3, u4, u5, u6, rfl⟩ := list7 hl7
      obtain ⟨b0, n0, d0, rfl⟩ := hF.frm u0 (by simp)
      obtain ⟨b1, n1, d1, rfl⟩ := hF.frm u1 (by simp)
      obtain ⟨b2, n2, d2, rfl⟩ := hF.frm u2 (by simp)
      obtain ⟨b3, n3, d3, rfl⟩ := hF.frm u3 (by simp)
      obtain ⟨b4, n4, d4, rfl⟩ := hF.frm u4 (by simp)
      obtain ⟨b5, n5, d5, rfl⟩ := hF.frm u5 (by simp)
      obtain ⟨b6, n6, d6, rfl⟩ := hF.frm u6 (by simp)
      have y0 := hF.at (j := 0) (by simp)
      have y1 := hF.at (j := 1) (by simp)
      have y2 := hF.at (j := 2) (by simp)
      have y3 := hF.at (j := 3) (by simp)
      have y4 := hF.at (j := 4) (by simp)
      have y5 := hF.at (j := 5) (by simp)
      have y6 := hF.at (j := 6) (by simp)
      simp only [List.getElem_cons_zero, List.getElem_cons_succ] at y0 y1 y2 y3 y4 y5 y6
      have hbx := HBA.out.2.keep (hF.bel.block _ hgA)
      have z0 : wr.cell? ⟨w.heap.size, 0, none⟩ = some (.slice none 0 0) := hbx.cell 0 (by simp)
      have z1 : wr.cell? ⟨w.heap.size, 1, none⟩ = some (.slice none 0 0) := hbx.cell 1 (by simp)
      have z2 : wr.cell? ⟨w.heap.size, 2, none⟩ = some (.slice none 0 0) := hbx.cell 2 (by simp)
      have z3 : wr.cell? ⟨w.heap.size, 3, none⟩ = some (.slice none 0 0) := hbx.cell 3 (by simp)
      have z4 : wr.cell? ⟨w.heap.size, 4, none⟩ = some (.slice none 0 0) := hbx.cell 4 (by simp)
      have z5 : wr.cell? ⟨w.heap.size, 5, none⟩ = some (.slice none 0 0) := hbx.cell 5 (by simp)
      have z6 : wr.cell? ⟨w.heap.size, 6, none⟩ = some (.slice none 0 0) := hbx.cell 6 (by simp)
      have zf0 := hbx.frozen 0
      have zf1 := hbx.frozen 1
      have zf2 := hbx.frozen 2
      have zf3 := hbx.frozen 3
      have zf4 := hbx.frozen 4
      have zf5 := hbx.frozen 5
      have zf6 := hbx.frozen 6
      have hgB := HGA.out
      have HFIN : Hid (∃ (us : List Value) (Rr WW WB WF WO : List Nat) (RF RO : List (Value × List Int)) (Bb : Nat), Ending.returned (.agg #[.slice b0 n0 d0, .slice b1 n1 d1, .slice b2 n2 d2, .slice b3 n3 d3, .slice b4 n4 d4, .slice b5 n5 d5, .slice b6 n6 d6]) = .returned (.agg us.toArray) ∧ us.length = 7 ∧ Below w.heap.size w (((((((wr.setCell ⟨w.heap.size, 0, none⟩ (.slice b0 n0 d0)).setCell ⟨w.heap.size, 1, none⟩ (.slice b1 n1 d1)).setCell ⟨w.heap.size, 2, none⟩ (.slice b2 n2 d2)).setCell ⟨w.heap.size, 3, none⟩ (.slice b3 n3 d3)).setCell ⟨w.heap.size, 4, none⟩ (.slice b4 n4 d4)).setCell ⟨w.heap.size, 5, none⟩ (.slice b5 n5 d5)).setCell ⟨w.heap.size, 6, none⟩ (.slice b6 n6 d6)) ∧ w.heap.size ≤ Bb ∧ Own (((((((wr.setCell ⟨w.heap.size, 0, none⟩ (.slice b0 n0 d0)).setCell ⟨w.heap.size, 1, none⟩ (.slice b1 n1 d1)).setCell ⟨w.heap.size, 2, none⟩ (.slice b2 n2 d2)).setCell ⟨w.heap.size, 3, none⟩ (.slice b3 n3 d3)).setCell ⟨w.heap.size, 4, none⟩ (.slice b4 n4 d4)).setCell ⟨w.heap.size, 5, none⟩ (.slice b5 n5 d5)).setCell ⟨w.heap.size, 6, none⟩ (.slice b6 n6 d6)) Bb (colE (colF d L Rr WB d.nons.length RF RO) us ++ (RF.map entI ++ RO.map entI)) ∧ RF.map (·.2) = (List.range d.nons.length).map (fun i => ascI WF (d.terms.length + i) 192) ∧ RO.map (·.2) = (List.range d.nons.length).map (fun i => ascI WO (d.terms.length + i) 192) ∧ (∀ y, y < 192 → (mem Rr 0 y = true ↔ y = d.terms.length ∨ mem WW d.terms.length y = true)) ∧ WW.length = N * 3 ∧ (∀ a y, y < 192 → mem WW a y = true → Tc (W.Ed d (Lf L)) a y) ∧ (∀ k, k < d.prods.length → W.newW d L WW k = false) ∧ WB.length = N * 3 ∧ (∀ a y, y < 192 → mem WB a y = true → Tc (B.Ed d (Lf L)) a y) ∧ (∀ k, k < d.prods.length → B.newW d L WB k = false) ∧ FsA WB N d.terms.length N 0 WF ∧ (∀ n y, n < d.nons.length → y < 192 → (mem WO (d.terms.length + n) y = true ↔ Fol d z Bf n y))) := by
        have hb9 : Below w.heap.size w wr := HBA.out.1.trans (hF.bel.mono (by omega))
        have ho : Own wr g (colE (colF d L Rr WB d.nons.length RF RO) [.slice b0 n0 d0, .slice b1 n1 d1, .slice b2 n2 d2, .slice b3 n3 d3, .slice b4 n4 d4, .slice b5 n5 d5, .slice b6 n6 d6] ++ (RF.map entI ++ RO.map entI)) := hF.own.tail.perm (List.Perm.append_left _ hp)
        refine ⟨[.slice b0 n0 d0, .slice b1 n1 d1, .slice b2 n2 d2, .slice b3 n3 d3, .slice b4 n4 d4, .slice b5 n5 d5, .slice b6 n6 d6], Rr, WW, WB, WF, WO, RF, RO, g, rfl, rfl, ((((((hb9.setCell (Nat.le_refl _) _).setCell (Nat.le_refl _) _).setCell (Nat.le_refl _) _).setCell (Nat.le_refl _) _).setCell (Nat.le_refl _) _).setCell (Nat.le_refl _) _).setCell (Nat.le_refl _) _, by omega, ho.keep (fun q hq => ?_), hRF, hRO, HSETS.out⟩
        have hne : q ≠ w.heap.size := by omega
        exact ((((((blk_setCell_other _ _ _ _ (by exact hne)).trans (blk_setCell_other _ _ _ _ (by exact hne))).trans (blk_setCell_other _ _ _ _ (by exact hne))).trans (blk_setCell_other _ _ _ _ (by exact hne))).trans (blk_setCell_other _ _ _ _ (by exact hne))).trans (blk_setCell_other _ _ _ _ (by exact hne))).trans (blk_setCell_other _ _ _ _ (by exact hne))
      have Z : ∀ i, i < 7 → (((((((wr.setCell ⟨w.heap.size, 0, none⟩ (.slice b0 n0 d0)).setCell ⟨w.heap.size, 1, none⟩ (.slice b1 n1 d1)).setCell ⟨w.heap.size, 2, none⟩ (.slice b2 n2 d2)).setCell ⟨w.heap.size, 3, none⟩ (.slice b3 n3 d3)).setCell ⟨w.heap.size, 4, none⟩ (.slice b4 n4 d4)).setCell ⟨w.heap.size, 5, none⟩ (.slice b5 n5 d5)).setCell ⟨w.heap.size, 6, none⟩ (.slice b6 n6 d6)).cell? ⟨w.heap.size, i, none⟩ = some ([.slice b0 n0 d0, .slice b1 n1 d1, .slice b2 n2 d2, .slice b3 n3 d3, .slice b4 n4 d4, .slice b5 n5 d5, .slice b6 n6 d6].getD i .nilFunc) := fun i hi => by
        have hbq : Box (((((((wr.setCell ⟨w.heap.size, 0, none⟩ (.slice b0 n0 d0)).setCell ⟨w.heap.size, 1, none⟩ (.slice b1 n1 d1)).setCell ⟨w.heap.size, 2, none⟩ (.slice b2 n2 d2)).setCell ⟨w.heap.size, 3, none⟩ (.slice b3 n3 d3)).setCell ⟨w.heap.size, 4, none⟩ (.slice b4 n4 d4)).setCell ⟨w.heap.size, 5, none⟩ (.slice b5 n5 d5)).setCell ⟨w.heap.size, 6, none⟩ (.slice b6 n6 d6)) w.heap.size 32 [.slice b0 n0 d0, .slice b1 n1 d1, .slice b2 n2 d2, .slice b3 n3 d3, .slice b4 n4 d4, .slice b5 n5 d5, .slice b6 n6 d6] := by
          obtain ⟨c, q1, q2, q3⟩ := World.rowIs.set (World.rowIs.set (World.rowIs.set (World.rowIs.set (World.rowIs.set (World.rowIs.set (World.rowIs.set hbx.ex 0 (.slice b0 n0 d0)) 1 (.slice b1 n1 d1)) 2 (.slice b2 n2 d2)) 3 (.slice b3 n3 d3)) 4 (.slice b4 n4 d4)) 5 (.slice b5 n5 d5)) 6 (.slice b6 n6 d6)
          refine ⟨⟨c, q1, q2, fun i hi => ?_⟩⟩
          rw [q3 i hi]
          have hi7 : i < 7 := hi
          have : i = 0 ∨ i = 1 ∨ i = 2 ∨ i = 3 ∨ i = 4 ∨ i = 5 ∨ i = 6 := by omega
          rcases this with rfl | rfl | rfl | rfl | rfl | rfl | rfl <;> rfl
        exact hbq.cell i (by simpa using hi)
      have HZ := (show Hid (∀ i, i < 7 → (((((((wr.setCell ⟨w.heap.size, 0, none⟩ (.slice b0 n0 d0)).setCell ⟨w.heap.size, 1, none⟩ (.slice b1 n1 d1)).setCell ⟨w.heap.size, 2, none⟩ (.slice b2 n2 d2)).setCell ⟨w.heap.size, 3, none⟩ (.slice b3 n3 d3)).setCell ⟨w.heap.size, 4, none⟩ (.slice b4 n4 d4)).setCell ⟨w.heap.size, 5, none⟩ (.slice b5 n5 d5)).setCell ⟨w.heap.size, 6, none⟩ (.slice b6 n6 d6)).cell? ⟨w.heap.size, i, none⟩ = some ([.slice b0 n0 d0, .slice b1 n1 d1, .slice b2 n2 d2, .slice b3 n3 d3, .slice b4 n4 d4, .slice b5 n5 d5, .slice b6 n6 d6].getD i .nilFunc)) from Z)
      have hNle : N ≤ d.terms.length + d.nons.length := by have := HNN.out.2; omega
      clear hF hRF hRO hp hbx HK HH8 HNN HG HSETS HBA HLN HOK Z HLOW hgB
      go_wp2_with fail
      have Z0 := HZ.out 0 (by omega)
      have Z1 := HZ.out 1 (by omega)
      have Z2 := HZ.out 2 (by omega)
      have Z3 := HZ.out 3 (by omega)
      have Z4 := HZ.out 4 (by omega)
      have Z5 := HZ.out 5 (by omega)
      have Z6 := HZ.out 6 (by omega)
      simp only [List.getD_cons_zero, List.getD_cons_succ] at Z0 Z1 Z2 Z3 Z4 Z5 Z6
      refine bodyPost_ret (v := .agg #[.slice b0 n0 d0, .slice b1 n1 d1, .slice b2 n2 d2, .slice b3 n3 d3, .slice b4 n4 d4, .slice b5 n5 d5, .slice b6 n6 d6]) (by simp [results, Tryd.results27, go_sem, Z0, Z1, Z2, Z3, Z4, Z5, Z6]) rfl ?_
      obtain ⟨us, Rr, WW, WB, WF, WO, RF, RO, Bb, h1, h2, h3, h4⟩ := HFIN.out
      exact ⟨us, h1, h2, h3, Rr, WW, WB, WF, WO, RF, RO, Bb, h4⟩
end Go.Proofs.YtjpjjfgdgieapaaDoor
