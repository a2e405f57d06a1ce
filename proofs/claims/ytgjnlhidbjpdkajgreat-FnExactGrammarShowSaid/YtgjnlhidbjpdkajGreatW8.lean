import Derived.Test.YtgjnlhidbjpdkajGreatW7
/-! The program's writer: a level. -/
namespace Go.Proofs.YtgjnlhidbjpdkajGreat
open Go.RowKit Go.Deep Go.Lib
set_option linter.unusedVariables false
set_option maxRecDepth 100000
set_option linter.unusedSimpArgs false

/-- A level's word. -/
def ascW (k : Int) : ByteArray := if k = 1 then ⟨#[108, 101, 102, 116]⟩ else if k = 2 then ⟨#[114, 105, 103, 104, 116]⟩ else ⟨#[110, 111, 110, 101]⟩
def quoW (s : ByteArray) : ByteArray := ⟨#[39]⟩ ++ s ++ ⟨#[39]⟩
def levW (t : DLevel) : List ByteArray := ascW t.assoc :: t.lits.map quoW
theorem quoW_size (s : ByteArray) : (quoW s).size = s.size + 2 := by
  have q1 : (ByteArray.mk #[39]).size = 1 := rfl
  simp [quoW, ByteArray.size_append, q1]; omega
set_option maxHeartbeats 3200000 in
theorem wlev_any {S : Nat → Prop} (p : Nat) (gc : List Value) (t : DLevel) (v : Value) (W0 w : World) (hW : Below W0.heap.size W0 w) (hp : W0.heap.size ≤ p) (hS : Strs W0 S t.lits v) (hsz : ∀ i (hi : i < t.lits.length), t.lits[i].size ≤ 1048576) (A : ByteArray × Bool) (h : Wr p gc A.1 A.2 w) :
    Calls Tryz.prog 58 #[.pointer (some ⟨p, 0, none⟩), .agg #[.int .i64 t.assoc, v]] w fun e w' => WD p gc (wAll A.1 A.2 (levW t)) w e w' := by
  obtain ⟨a, cap, b, off, rfl, hc, hm, ha, hcell⟩ := hS
  have HC := (show Hid _ from hcell); clear hcell
  have HA := (show Hid _ from ha); clear ha
  have HZ := (show Hid _ from hsz); clear hsz
  unfold maxLen at hm
  have hlt := h.lt
  have hF0 : Fr p w (w.alloc (.cells #[.int .i64 t.assoc, .slice a t.lits.length cap] 49)) := Fr.of_below (bel_alloc _ _) (by omega)
  have hB0 := Box.new w 49 [.int .i64 t.assoc, .slice a t.lits.length cap]
  have h0 := h.still (bel_alloc w (.cells #[.int .i64 t.assoc, .slice a t.lits.length cap] 49))
  clear h
  have hlv : levW t = ascW t.assoc :: t.lits.map quoW := rfl
  have has : ascW t.assoc = if t.assoc = 1 then ⟨#[108, 101, 102, 116]⟩ else if t.assoc = 2 then ⟨#[114, 105, 103, 104, 116]⟩ else ⟨#[110, 111, 110, 101]⟩ := rfl
  have hl5 : ∀ x : ByteArray, x.size ≤ 5 → x.size ≤ 4294967296 := fun x h => by omega
  by_cases k1 : t.assoc = 1
  · have hk : ascW t.assoc = ⟨#[108, 101, 102, 116]⟩ := by rw [has, if_pos k1]
    have k1' : (t.assoc == 1) = true := by simp [k1]
    clear has k1
    have HW := (show Hid _ from word_one p gc ⟨#[108, 101, 102, 116]⟩ (hl5 _ (by decide)) A _ h0)
    rw [hlv, hk]
    have HB0 := (show Hid _ from hB0); clear hB0
    have HF0 := (show Hid _ from hF0); clear hF0
    clear h0 hlv hk hl5
    generalize t.assoc = AS at *
    generalize t.lits = L at *
    go_enter Tryz.func58, Tryz.ntmps58
    go_wp2_with fail
    refine Calls.mono HW.out ?_
    rintro e w1 ⟨rfl, h1, h2⟩
    have HB1 := (show Hid _ from h2.box HB0.out (by omega) (by decide))
    have HF1 := (show Hid _ from HF0.out.trans h2)
    have H1 := (show Hid _ from h1)
    have C1 : w1.cell? ⟨w.heap.size, 1, none⟩ = some (.slice a L.length cap) := HB1.out.cell 1 (by simp)
    clear h1 h2 HW
    go_wp2_with fail
    go_loopw [21] (fun i wr => ∃ j : Nat, i = .int .i64 j ∧ j ≤ L.length ∧ Hid (∃ B : ByteArray × Bool, Wr p gc B.1 B.2 wr ∧ Fr p w wr ∧ wAll B.1 B.2 ((L.map quoW).drop j) = wAll A.1 A.2 (⟨#[108, 101, 102, 116]⟩ :: L.map quoW))) (fun i _ => L.length - (intOf i).toNat)
    case atStart => exact ⟨0, rfl, Nat.zero_le _, _, H1.out, HF1.out, rfl⟩
    case round =>
      obtain ⟨j, rfl, hj, HR⟩ := hrel
      clear C1
      by_cases hlt : j < L.length
      · have hlt' := hlt
        obtain ⟨rfl, _⟩ := HA.out (by omega)
        obtain ⟨B, hB, hF, hE⟩ := HR.out
        obtain ⟨c0, z0⟩ := HC.out j hlt'
        rw [← (hF.below hW hp).cell (lt_of_cell c0)] at c0
        have z1 := HZ.out j hlt'
        rw [List.drop_eq_getElem_cons (by simpa using hlt'), List.getElem_map] at hE
        have HE := (show Hid _ from (⟨hF, hE⟩ : _ ∧ _)); clear hE hF HR
        have HQ := (show Hid _ from fun w => quoted_any L[j] z1 w)
        have HV := (show Hid _ from word_one p gc (quoW L[j]) (by rw [quoW_size]; omega) B wr hB); clear hB
        have hqe : quoW L[j] = ⟨#[39]⟩ ++ L[j] ++ ⟨#[39]⟩ := rfl
        generalize quoW L[j] = qx at *
        rw [← hqe] at HQ
        clear hqe
        generalize L[j] = x at *
        go_wp2_with fail
        refine Calls.mono (HQ.out _) ?_
        rintro e w2 ⟨rfl, rfl⟩
        go_wp2_with fail
        refine Calls.mono HV.out ?_
        rintro e w3 ⟨rfl, h3, h4⟩
        have HN : Hid (∃ B : ByteArray × Bool, Wr p gc B.1 B.2 w3 ∧ Fr p w w3 ∧ wAll B.1 B.2 ((L.map quoW).drop (j + 1)) = wAll A.1 A.2 (⟨#[108, 101, 102, 116]⟩ :: L.map quoW)) := ⟨_, h3, HE.out.1.trans h4, HE.out.2⟩
        clear h3 h4 c0 HV HE
        go_wp2_with fail
        exact ⟨⟨j + 1, by go_num, by omega, HN⟩, by simp [intOf]; omega⟩
      · obtain ⟨B, hB, hF, hE⟩ := HR.out
        rw [List.drop_eq_nil_of_le (by simp; omega)] at hE
        have HN := (show Hid _ from (⟨hB, hF, hE⟩ : _ ∧ _ ∧ _)); clear hB hF hE
        go_wp2_with fail
        refine bodyPost_end (v := .tuple #[]) (by simp [results, Tryz.results58]) rfl ?_
        refine ⟨rfl, ?_, HN.out.2.1⟩
        rw [← HN.out.2.2]
        exact HN.out.1
  have k1' : (t.assoc == 1) = false := by simp [k1]
  by_cases k2 : t.assoc = 2
  · have hk : ascW t.assoc = ⟨#[114, 105, 103, 104, 116]⟩ := by rw [has, if_neg k1, if_pos k2]
    have k2' : (t.assoc == 2) = true := by simp [k2]
    clear has k1 k2
    have HW := (show Hid _ from word_one p gc ⟨#[114, 105, 103, 104, 116]⟩ (hl5 _ (by decide)) A _ h0)
    rw [hlv, hk]
    have HB0 := (show Hid _ from hB0); clear hB0
    have HF0 := (show Hid _ from hF0); clear hF0
    clear h0 hlv hk hl5
    generalize t.assoc = AS at *
    generalize t.lits = L at *
    go_enter Tryz.func58, Tryz.ntmps58
    go_wp2_with fail
    refine Calls.mono HW.out ?_
    rintro e w1 ⟨rfl, h1, h2⟩
    have HB1 := (show Hid _ from h2.box HB0.out (by omega) (by decide))
    have HF1 := (show Hid _ from HF0.out.trans h2)
    have H1 := (show Hid _ from h1)
    have C1 : w1.cell? ⟨w.heap.size, 1, none⟩ = some (.slice a L.length cap) := HB1.out.cell 1 (by simp)
    clear h1 h2 HW
    go_wp2_with fail
    go_loopw [21] (fun i wr => ∃ j : Nat, i = .int .i64 j ∧ j ≤ L.length ∧ Hid (∃ B : ByteArray × Bool, Wr p gc B.1 B.2 wr ∧ Fr p w wr ∧ wAll B.1 B.2 ((L.map quoW).drop j) = wAll A.1 A.2 (⟨#[114, 105, 103, 104, 116]⟩ :: L.map quoW))) (fun i _ => L.length - (intOf i).toNat)
    case atStart => exact ⟨0, rfl, Nat.zero_le _, _, H1.out, HF1.out, rfl⟩
    case round =>
      obtain ⟨j, rfl, hj, HR⟩ := hrel
      clear C1
      by_cases hlt : j < L.length
      · have hlt' := hlt
        obtain ⟨rfl, _⟩ := HA.out (by omega)
        obtain ⟨B, hB, hF, hE⟩ := HR.out
        obtain ⟨c0, z0⟩ := HC.out j hlt'
        rw [← (hF.below hW hp).cell (lt_of_cell c0)] at c0
        have z1 := HZ.out j hlt'
        rw [List.drop_eq_getElem_cons (by simpa using hlt'), List.getElem_map] at hE
        have HE := (show Hid _ from (⟨hF, hE⟩ : _ ∧ _)); clear hE hF HR
        have HQ := (show Hid _ from fun w => quoted_any L[j] z1 w)
        have HV := (show Hid _ from word_one p gc (quoW L[j]) (by rw [quoW_size]; omega) B wr hB); clear hB
        have hqe : quoW L[j] = ⟨#[39]⟩ ++ L[j] ++ ⟨#[39]⟩ := rfl
        generalize quoW L[j] = qx at *
        rw [← hqe] at HQ
        clear hqe
        generalize L[j] = x at *
        go_wp2_with fail
        refine Calls.mono (HQ.out _) ?_
        rintro e w2 ⟨rfl, rfl⟩
        go_wp2_with fail
        refine Calls.mono HV.out ?_
        rintro e w3 ⟨rfl, h3, h4⟩
        have HN : Hid (∃ B : ByteArray × Bool, Wr p gc B.1 B.2 w3 ∧ Fr p w w3 ∧ wAll B.1 B.2 ((L.map quoW).drop (j + 1)) = wAll A.1 A.2 (⟨#[114, 105, 103, 104, 116]⟩ :: L.map quoW)) := ⟨_, h3, HE.out.1.trans h4, HE.out.2⟩
        clear h3 h4 c0 HV HE
        go_wp2_with fail
        exact ⟨⟨j + 1, by go_num, by omega, HN⟩, by simp [intOf]; omega⟩
      · obtain ⟨B, hB, hF, hE⟩ := HR.out
        rw [List.drop_eq_nil_of_le (by simp; omega)] at hE
        have HN := (show Hid _ from (⟨hB, hF, hE⟩ : _ ∧ _ ∧ _)); clear hB hF hE
        go_wp2_with fail
        refine bodyPost_end (v := .tuple #[]) (by simp [results, Tryz.results58]) rfl ?_
        refine ⟨rfl, ?_, HN.out.2.1⟩
        rw [← HN.out.2.2]
        exact HN.out.1
  · have hk : ascW t.assoc = ⟨#[110, 111, 110, 101]⟩ := by rw [has, if_neg k1, if_neg k2]
    have k2' : (t.assoc == 2) = false := by simp [k2]
    clear has k1 k2
    have HW := (show Hid _ from word_one p gc ⟨#[110, 111, 110, 101]⟩ (hl5 _ (by decide)) A _ h0)
    rw [hlv, hk]
    have HB0 := (show Hid _ from hB0); clear hB0
    have HF0 := (show Hid _ from hF0); clear hF0
    clear h0 hlv hk hl5
    generalize t.assoc = AS at *
    generalize t.lits = L at *
    go_enter Tryz.func58, Tryz.ntmps58
    go_wp2_with fail
    refine Calls.mono HW.out ?_
    rintro e w1 ⟨rfl, h1, h2⟩
    have HB1 := (show Hid _ from h2.box HB0.out (by omega) (by decide))
    have HF1 := (show Hid _ from HF0.out.trans h2)
    have H1 := (show Hid _ from h1)
    have C1 : w1.cell? ⟨w.heap.size, 1, none⟩ = some (.slice a L.length cap) := HB1.out.cell 1 (by simp)
    clear h1 h2 HW
    go_wp2_with fail
    go_loopw [21] (fun i wr => ∃ j : Nat, i = .int .i64 j ∧ j ≤ L.length ∧ Hid (∃ B : ByteArray × Bool, Wr p gc B.1 B.2 wr ∧ Fr p w wr ∧ wAll B.1 B.2 ((L.map quoW).drop j) = wAll A.1 A.2 (⟨#[110, 111, 110, 101]⟩ :: L.map quoW))) (fun i _ => L.length - (intOf i).toNat)
    case atStart => exact ⟨0, rfl, Nat.zero_le _, _, H1.out, HF1.out, rfl⟩
    case round =>
      obtain ⟨j, rfl, hj, HR⟩ := hrel
      clear C1
      by_cases hlt : j < L.length
      · have hlt' := hlt
        obtain ⟨rfl, _⟩ := HA.out (by omega)
        obtain ⟨B, hB, hF, hE⟩ := HR.out
        obtain ⟨c0, z0⟩ := HC.out j hlt'
        rw [← (hF.below hW hp).cell (lt_of_cell c0)] at c0
        have z1 := HZ.out j hlt'
        rw [List.drop_eq_getElem_cons (by simpa using hlt'), List.getElem_map] at hE
        have HE := (show Hid _ from (⟨hF, hE⟩ : _ ∧ _)); clear hE hF HR
        have HQ := (show Hid _ from fun w => quoted_any L[j] z1 w)
        have HV := (show Hid _ from word_one p gc (quoW L[j]) (by rw [quoW_size]; omega) B wr hB); clear hB
        have hqe : quoW L[j] = ⟨#[39]⟩ ++ L[j] ++ ⟨#[39]⟩ := rfl
        generalize quoW L[j] = qx at *
        rw [← hqe] at HQ
        clear hqe
        generalize L[j] = x at *
        go_wp2_with fail
        refine Calls.mono (HQ.out _) ?_
        rintro e w2 ⟨rfl, rfl⟩
        go_wp2_with fail
        refine Calls.mono HV.out ?_
        rintro e w3 ⟨rfl, h3, h4⟩
        have HN : Hid (∃ B : ByteArray × Bool, Wr p gc B.1 B.2 w3 ∧ Fr p w w3 ∧ wAll B.1 B.2 ((L.map quoW).drop (j + 1)) = wAll A.1 A.2 (⟨#[110, 111, 110, 101]⟩ :: L.map quoW)) := ⟨_, h3, HE.out.1.trans h4, HE.out.2⟩
        clear h3 h4 c0 HV HE
        go_wp2_with fail
        exact ⟨⟨j + 1, by go_num, by omega, HN⟩, by simp [intOf]; omega⟩
      · obtain ⟨B, hB, hF, hE⟩ := HR.out
        rw [List.drop_eq_nil_of_le (by simp; omega)] at hE
        have HN := (show Hid _ from (⟨hB, hF, hE⟩ : _ ∧ _ ∧ _)); clear hB hF hE
        go_wp2_with fail
        refine bodyPost_end (v := .tuple #[]) (by simp [results, Tryz.results58]) rfl ?_
        refine ⟨rfl, ?_, HN.out.2.1⟩
        rw [← HN.out.2.2]
        exact HN.out.1
end Go.Proofs.YtgjnlhidbjpdkajGreat
