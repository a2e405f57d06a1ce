import Derived.Test.YtledclkmeikgdaaXTl
import Derived.Test.YtledclkmeikgdaaXRight
/-! The specification: l12Term, TermOK. -/
namespace Go.Proofs.Ytledclkmeikgdaa.T
open Go.RowKit Go.Deep
set_option linter.unusedVariables false
set_option maxRecDepth 100000
set_option linter.unusedSimpArgs false

theorem tmN (n x : ByteArray) (k : List Tr) (m : Nat) (d : Bool) (h : kdN n = some (m, d)) : tm ⟨n, x, false, k⟩ = (decide (k.length = m) && (k.all tm && (!d || id0 k))) := by
  rw [tm_mk, h]; rfl
theorem id0_eq {k : List Tr} (hk0 : 0 < k.length) : id0 k = idT k[0] := by
  cases k with
  | nil => simp at hk0
  | cons t k => rfl
theorem tmN_len {n x : ByteArray} {k : List Tr} {m : Nat} {d : Bool} (h : kdN n = some (m, d)) (hl : ¬ k.length = m) : tm ⟨n, x, false, k⟩ = false := by
  rw [tmN n x k m d h, decide_eq_false hl]; rfl
theorem tmN_kid {n x : ByteArray} {k : List Tr} {m : Nat} {d : Bool} (h : kdN n = some (m, d)) (q : Nat) (hq : q < k.length) (hf : tm k[q] = false) : tm ⟨n, x, false, k⟩ = false := by
  rw [tmN n x k m d h, show k.all tm = false from List.all_eq_false.2 ⟨k[q], List.getElem_mem hq, by rw [hf]; simp⟩]
  simp
theorem tmN_id {n x : ByteArray} {k : List Tr} {m : Nat} (h : kdN n = some (m, true)) (hk0 : 0 < k.length) (hf : idT k[0] = false) : tm ⟨n, x, false, k⟩ = false := by
  rw [tmN n x k m true h, id0_eq hk0, hf]
  simp
theorem tmN_true {n x : ByteArray} {k : List Tr} {m : Nat} {d : Bool} (h : kdN n = some (m, d)) (hl : k.length = m) (h0 : d = true → id0 k = true) (ha : ∀ q (hq : q < k.length), tm k[q] = true) : tm ⟨n, x, false, k⟩ = true := by
  rw [tmN n x k m d h, decide_eq_true hl, show k.all tm = true from by
    rw [List.all_eq_true]
    intro y hy
    obtain ⟨i, hi, rfl⟩ := List.mem_iff_getElem.1 hy
    exact ha i hi]
  cases d
  · rfl
  · rw [h0 rfl]; rfl
/-- The box of a node. -/
def E4 (p : Nat) (n x : ByteArray) (v : Value) (wq : World) : Prop := wq.cell? ⟨p, 0, none⟩ = some (.string n) ∧ wq.cell? ⟨p, 1, none⟩ = some (.string x) ∧ wq.cell? ⟨p, 2, none⟩ = some (.bool false) ∧ wq.cell? ⟨p, 3, none⟩ = some v
theorem E4.new (w : World) (n x : ByteArray) (v : Value) : E4 w.heap.size n x v (w.alloc (.cells #[.string n, .string x, .bool false, v] 40)) := by
  refine ⟨?_, ?_, ?_, ?_⟩ <;> simp [go_sem]
set_option maxHeartbeats 12800000 in
theorem term68 {S : Nat → Prop} (t : Tr) : ∀ (v : Value) (w : World), Lies w S t v →
    Calls Try.prog 94 #[t.val v] w fun e w' => e = .returned (.bool (tm t)) ∧ Below w.heap.size w w' := by
  refine Tr.ind (P := fun t => ∀ (v : Value) (w : World), Lies w S t v →
    Calls Try.prog 94 #[t.val v] w fun e w' => e = .returned (.bool (tm t)) ∧ Below w.heap.size w w') ?_ t
  intro n x l k ih v w hlies
  obtain ⟨a, cap, b, off, sv, rfl, hn, hx, hc, hm, ha, hcell, hk⟩ := hlies.out
  dsimp only at hn hx hc ha hcell hk ⊢
  have HN := (show Hid _ from fun w' => sName x hx w')
  have HM := (show Hid _ from fun w' => num98 x hx w')
  have HNK := (show Hid (∀ (hk0 : 0 < k.length) (w' : World), Calls Try.prog 33 #[.string k[0].text] w' fun e w'' => e = .returned (.bool (nmB k[0].text)) ∧ w'' = w') from fun hk0 w' => by
    obtain ⟨_, _, _, _, _, _, _, hx0, _⟩ := (hk 0 hk0).out
    exact sName k[0].text hx0 w')
  have HI := (show Hid (∀ j (hj : j < k.length) (w' : World), Below w.heap.size w w' → ∃ (q1 : Option Addr) (q2 q3 : Nat), a = some ⟨b, off, none⟩ ∧ w'.cell? ⟨b, off + j * 4, none⟩ = some (.string k[j].name) ∧ w'.cell? ⟨b, off + j * 4 + 1, none⟩ = some (.string k[j].text) ∧ w'.cell? ⟨b, off + j * 4 + 2, none⟩ = some (.bool k[j].leaf) ∧ w'.cell? ⟨b, off + j * 4 + 3, none⟩ = some (.slice q1 q2 q3) ∧
      Calls Try.prog 94 #[.agg #[.string k[j].name, .string k[j].text, .bool k[j].leaf, .slice q1 q2 q3]] w' fun e w'' => e = .returned (.bool (tm k[j])) ∧ Below w'.heap.size w' w'') from fun j hj w' hb => by
    obtain ⟨q1, q2, q3, e3⟩ := (hk j hj).form
    obtain ⟨c0, c1, c2, c3⟩ := hcell j hj
    have hcl := ih j hj (sv j) w' ((hk j hj).still hb)
    rw [e3] at c3 hcl
    exact ⟨q1, q2, q3, (ha (by omega)).1, (hb.cell (lt_of_cell c0)).trans c0, (hb.cell (lt_of_cell c1)).trans c1, (hb.cell (lt_of_cell c2)).trans c2, (hb.cell (lt_of_cell c3)).trans c3, hcl⟩)
  have hb0 := bel_alloc w (.cells #[.string n, .string x, .bool l, .slice a k.length cap] 40)
  unfold maxLen at hm hx
  simp only [Tr.val]
  clear ih hcell hk hlies ha hn
  cases l
  case true =>
    rw [show tm ⟨n, x, true, k⟩ = tmL n x from by rw [tm_mk]; rfl]
    clear HI HNK
    generalize hR : tmL n x = R
    have HR := (show Hid _ from hR); clear hR
    cases h0 : (n.toList == ([73, 100] : List UInt8))
    case true =>
      have HE : Hid (R = nmB x) := by show R = nmB x; rw [← HR.out]; unfold tmL cId; rw [h0]; rfl
      go_enter Try.func94, Try.ntmps94
      go_wp2_with fail
      refine Calls.mono (HN.out _) ?_
      rintro e w1 ⟨rfl, rfl⟩
      go_wp2_with fail
      go_ret
      exact ⟨ret_bool HE.out.symm, bel_alloc _ _⟩
    cases h1 : (n.toList == ([78, 117, 109] : List UInt8))
    case true =>
      have HE : Hid (R = numB x) := by show R = numB x; rw [← HR.out]; unfold tmL cId cNum; rw [h0, h1]; rfl
      go_enter Try.func94, Try.ntmps94
      go_wp2_with fail
      refine Calls.mono (HM.out _) ?_
      rintro e w1 ⟨rfl, rfl⟩
      go_wp2_with fail
      go_ret
      exact ⟨ret_bool HE.out.symm, bel_alloc _ _⟩
    cases h2 : (n.toList == ([89, 101, 115] : List UInt8))
    case true =>
      have HE : Hid (R = x.toList.isEmpty) := by show R = x.toList.isEmpty; rw [← HR.out]; unfold tmL cId cNum cYes; rw [h0, h1, h2]; rfl
      cases h4 : x.toList.isEmpty
      all_goals
        go_enter Try.func94, Try.ntmps94
        go_wp2_with fail
        go_ret
        exact ⟨ret_bool (by rw [HE.out, h4]), bel_alloc _ _⟩
    cases h3 : (n.toList == ([78, 111] : List UInt8))
    case true =>
      have HE : Hid (R = x.toList.isEmpty) := by show R = x.toList.isEmpty; rw [← HR.out]; unfold tmL cId cNum cYes cNo; rw [h0, h1, h2, h3]; rfl
      cases h4 : x.toList.isEmpty
      all_goals
        go_enter Try.func94, Try.ntmps94
        go_wp2_with fail
        go_ret
        exact ⟨ret_bool (by rw [HE.out, h4]), bel_alloc _ _⟩
    have HE : Hid (R = false) := by show R = false; rw [← HR.out]; unfold tmL cId cNum cYes cNo; rw [h0, h1, h2, h3]; rfl
    go_enter Try.func94, Try.ntmps94
    go_wp2_with fail
    go_ret
    exact ⟨ret_bool HE.out.symm, bel_alloc _ _⟩
  case false =>
    clear HN HM
    have hE0 := E4.new w n x (.slice a k.length cap)
    rcases kd_cases n with ⟨e, g⟩ | ⟨e, g⟩ | ⟨e, g⟩ | ⟨e, g⟩ | ⟨e, g⟩ | ⟨e, g⟩ | ⟨q0, q1, q2, q3, q4, q5, g⟩
    case inr.inr.inr.inr.inr.inr =>
      rw [show tm ⟨n, x, false, k⟩ = false from by rw [tm_mk, g]; rfl]
      unfold cLam at q0; unfold cLet at q1; unfold cIf at q2; unfold cApp at q3; unfold cAdd at q4; unfold cEq at q5
      clear hE0 HI HNK
      go_enter Try.func94, Try.ntmps94
      go_wp2_with fail
      go_ret
      exact ⟨rfl, bel_alloc _ _⟩
    case inl =>
      have q0 : (n.toList == ([76, 97, 109] : List UInt8)) = true := by rw [e]; rfl
      have q1 : (n.toList == ([76, 101, 116] : List UInt8)) = false := by rw [e]; rfl
      have q2 : (n.toList == ([73, 102] : List UInt8)) = false := by rw [e]; rfl
      have q3 : (n.toList == ([65, 112, 112] : List UInt8)) = false := by rw [e]; rfl
      have q4 : (n.toList == ([65, 100, 100] : List UInt8)) = false := by rw [e]; rfl
      have q5 : (n.toList == ([69, 113] : List UInt8)) = false := by rw [e]; rfl
      have HLN := (show Hid _ from fun (hl : ¬ k.length = 2) => tmN_len (x := x) g hl)
      have HKD := (show Hid _ from fun (q : Nat) (hq : q < k.length) (hf : tm k[q] = false) => tmN_kid (x := x) g q hq hf)
      have HTR0 := (show Hid _ from fun (hl : k.length = 2) h0 ha => tmN_true (x := x) g hl h0 ha)
      have HIF := (show Hid _ from fun hk0 hf => tmN_id (x := x) (k := k) g hk0 hf)
      generalize tm ⟨n, x, false, k⟩ = R at *
      clear e g
      by_cases hl : k.length = 2
      case neg =>
        have HF := (show Hid (R = false) from HLN.out hl)
        have hne : ((k.length : Int) != 2) = true := by simp; omega
        clear hE0 HI HNK hl
        go_enter Try.func94, Try.ntmps94
        go_wp2_with fail
        go_ret
        exact ⟨ret_bool HF.out.symm, bel_alloc _ _⟩
      have hne : ((k.length : Int) != 2) = false := by simp; omega
      have HB0 := (show Hid _ from hb0)
      have cK := hE0.2.2.2
      clear HLN hE0 hb0
      have HLL := (show Hid (k.length = 2) from hl)
      have hk0 : 0 < k.length := by omega
      clear hl
      obtain ⟨q1, q2, q3, rfl, c0, c1, c2, c3, _⟩ := HI.out 0 hk0 _ HB0.out
      simp only [Nat.zero_mul, Nat.add_zero] at c0 c1 c2 c3
      have HNM := (show Hid _ from HNK.out hk0)
      cases hlf : k[0].leaf
      case false =>
        have HF := (show Hid (R = false) from HIF.out hk0 (by unfold idT; rw [hlf]; rfl))
        rw [hlf] at c2
        clear HI hlf
        go_enter Try.func94, Try.ntmps94
        go_wp2_with fail
        go_ret
        exact ⟨ret_bool HF.out.symm, bel_alloc _ _⟩
      rw [hlf] at c2
      cases hid : (k[0].name.toList == ([73, 100] : List UInt8))
      case false =>
        have HF := (show Hid (R = false) from HIF.out hk0 (by unfold idT cId; rw [hlf, hid]; rfl))
        clear HI hlf
        generalize k[0].name = kn at *
        go_enter Try.func94, Try.ntmps94
        go_wp2_with fail
        go_ret
        exact ⟨ret_bool HF.out.symm, bel_alloc _ _⟩
      have hidT : idT k[0] = true := by unfold idT cId; rw [hlf, hid]; rfl
      have hT0 := tm_id hidT
      have HID := (show Hid (id0 k = true) from (id0_eq hk0).trans hidT)
      have HFN := (show Hid (nmB k[0].text = false → R = false) from fun h => HKD.out 0 hk0 (hT0.trans h))
      have HTN := (show Hid (nmB k[0].text = true → (∀ q (hq : q < k.length), 1 ≤ q → tm k[q] = true) → R = true) from fun h hq => HTR0.out HLL.out (fun _ => HID.out) (fun q hq' => by
        by_cases e : q = 0
        · subst e; exact hT0.trans h
        · exact hq q hq' (by omega)))
      clear hT0 hidT HIF hlf HNK
      generalize k[0].name = kn at *
      generalize k[0].text = kx at *
      generalize nmB kx = NB at *
      go_enter Try.func94, Try.ntmps94
      go_wp2_with fail
      refine Calls.mono (HNM.out _) ?_
      rintro e w1 ⟨rfl, rfl⟩
      clear c0 c1 c2 c3
      cases NB
      · have HF := (show Hid _ from HFN.out rfl)
        clear HI
        go_wp2_with fail
        go_ret
        exact ⟨ret_bool HF.out.symm, HB0.out⟩
      · have HTR := (show Hid _ from HTN.out rfl)
        clear HFN HTN
        go_wp2_with fail
        go_loopw [5] (fun i wr => ∃ j : Nat, i = .int .i64 j ∧ 1 ≤ j ∧ j ≤ 2 ∧ Hid (∀ q (hq : q < k.length), 1 ≤ q → q < j → tm k[q] = true) ∧ wr.cell? ⟨w.heap.size, 3, none⟩ = some (.slice (some ⟨b, off, none⟩) k.length cap) ∧ Hid (Below w.heap.size w wr)) (fun i _ => 2 - (intOf i).toNat)
        case atStart => exact ⟨1, rfl, Nat.le_refl _, by omega, fun q hq h1 h2 => absurd h2 (by omega), cK, HB0.out⟩
        case round =>
          obtain ⟨j, rfl, hjF, hj, HJ, cK, HBW⟩ := hrel
          by_cases hlt : j < 2
          · have hjl : j < k.length := by have := HLL.out; omega
            obtain ⟨q1, q2, q3, _, c0, c1, c2, c3, hcl⟩ := HI.out j hjl wr HBW.out
            have HCL := (show Hid _ from hcl); clear hcl
            have HNX := (show Hid (tm k[j] = true → ∀ q (hq : q < k.length), 1 ≤ q → q < j + 1 → tm k[q] = true) from fun h q hq h1 h2 => by
              by_cases e : q = j
              · subst e; exact h
              · exact HJ.out q hq h1 (by omega))
            have HFX := (show Hid (tm k[j] = false → R = false) from fun h => HKD.out j hjl h)
            have hcl := lt_of_cell cK
            generalize k[j].name = kn at *
            generalize k[j].text = kx at *
            generalize k[j].leaf = kl at *
            generalize tm k[j] = B at *
            go_wp2_with fail
            refine Calls.mono HCL.out ?_
            rintro e w2 ⟨rfl, hb2⟩
            have cK2 : w2.cell? ⟨w.heap.size, 3, none⟩ = some (.slice (some ⟨b, off, none⟩) k.length cap) := (hb2.cell hcl).trans cK
            have HB2 := (show Hid _ from bel_trans HBW.out hb2); clear hb2 c0 c1 c2 c3 cK hcl
            cases B
            · have HF := (show Hid _ from HFX.out rfl)
              go_wp2_with fail
              go_ret
              exact ⟨ret_bool HF.out.symm, HB2.out⟩
            · have HNN := (show Hid _ from HNX.out rfl)
              go_wp2_with fail
              exact ⟨⟨j + 1, by go_num, by omega, by omega, HNN, cK2, HB2⟩, by simp [intOf]; omega⟩
          · have HF := (show Hid (R = true) from HTR.out (fun q hq h1 => HJ.out q hq h1 (by have := HLL.out; omega)))
            go_wp2_with fail
            go_ret
            exact ⟨ret_bool HF.out.symm, HBW.out⟩
    case inr.inl =>
      have q0 : (n.toList == ([76, 97, 109] : List UInt8)) = false := by rw [e]; rfl
      have q1 : (n.toList == ([76, 101, 116] : List UInt8)) = true := by rw [e]; rfl
      have q2 : (n.toList == ([73, 102] : List UInt8)) = false := by rw [e]; rfl
      have q3 : (n.toList == ([65, 112, 112] : List UInt8)) = false := by rw [e]; rfl
      have q4 : (n.toList == ([65, 100, 100] : List UInt8)) = false := by rw [e]; rfl
      have q5 : (n.toList == ([69, 113] : List UInt8)) = false := by rw [e]; rfl
      have HLN := (show Hid _ from fun (hl : ¬ k.length = 3) => tmN_len (x := x) g hl)
      have HKD := (show Hid _ from fun (q : Nat) (hq : q < k.length) (hf : tm k[q] = false) => tmN_kid (x := x) g q hq hf)
      have HTR0 := (show Hid _ from fun (hl : k.length = 3) h0 ha => tmN_true (x := x) g hl h0 ha)
      have HIF := (show Hid _ from fun hk0 hf => tmN_id (x := x) (k := k) g hk0 hf)
      generalize tm ⟨n, x, false, k⟩ = R at *
      clear e g
      by_cases hl : k.length = 3
      case neg =>
        have HF := (show Hid (R = false) from HLN.out hl)
        have hne : ((k.length : Int) != 3) = true := by simp; omega
        clear hE0 HI HNK hl
        go_enter Try.func94, Try.ntmps94
        go_wp2_with fail
        go_ret
        exact ⟨ret_bool HF.out.symm, bel_alloc _ _⟩
      have hne : ((k.length : Int) != 3) = false := by simp; omega
      have HB0 := (show Hid _ from hb0)
      have cK := hE0.2.2.2
      clear HLN hE0 hb0
      have HLL := (show Hid (k.length = 3) from hl)
      have hk0 : 0 < k.length := by omega
      clear hl
      obtain ⟨q1, q2, q3, rfl, c0, c1, c2, c3, _⟩ := HI.out 0 hk0 _ HB0.out
      simp only [Nat.zero_mul, Nat.add_zero] at c0 c1 c2 c3
      have HNM := (show Hid _ from HNK.out hk0)
      cases hlf : k[0].leaf
      case false =>
        have HF := (show Hid (R = false) from HIF.out hk0 (by unfold idT; rw [hlf]; rfl))
        rw [hlf] at c2
        clear HI hlf
        go_enter Try.func94, Try.ntmps94
        go_wp2_with fail
        go_ret
        exact ⟨ret_bool HF.out.symm, bel_alloc _ _⟩
      rw [hlf] at c2
      cases hid : (k[0].name.toList == ([73, 100] : List UInt8))
      case false =>
        have HF := (show Hid (R = false) from HIF.out hk0 (by unfold idT cId; rw [hlf, hid]; rfl))
        clear HI hlf
        generalize k[0].name = kn at *
        go_enter Try.func94, Try.ntmps94
        go_wp2_with fail
        go_ret
        exact ⟨ret_bool HF.out.symm, bel_alloc _ _⟩
      have hidT : idT k[0] = true := by unfold idT cId; rw [hlf, hid]; rfl
      have hT0 := tm_id hidT
      have HID := (show Hid (id0 k = true) from (id0_eq hk0).trans hidT)
      have HFN := (show Hid (nmB k[0].text = false → R = false) from fun h => HKD.out 0 hk0 (hT0.trans h))
      have HTN := (show Hid (nmB k[0].text = true → (∀ q (hq : q < k.length), 1 ≤ q → tm k[q] = true) → R = true) from fun h hq => HTR0.out HLL.out (fun _ => HID.out) (fun q hq' => by
        by_cases e : q = 0
        · subst e; exact hT0.trans h
        · exact hq q hq' (by omega)))
      clear hT0 hidT HIF hlf HNK
      generalize k[0].name = kn at *
      generalize k[0].text = kx at *
      generalize nmB kx = NB at *
      go_enter Try.func94, Try.ntmps94
      go_wp2_with fail
      refine Calls.mono (HNM.out _) ?_
      rintro e w1 ⟨rfl, rfl⟩
      clear c0 c1 c2 c3
      cases NB
      · have HF := (show Hid _ from HFN.out rfl)
        clear HI
        go_wp2_with fail
        go_ret
        exact ⟨ret_bool HF.out.symm, HB0.out⟩
      · have HTR := (show Hid _ from HTN.out rfl)
        clear HFN HTN
        go_wp2_with fail
        go_loopw [5] (fun i wr => ∃ j : Nat, i = .int .i64 j ∧ 1 ≤ j ∧ j ≤ 3 ∧ Hid (∀ q (hq : q < k.length), 1 ≤ q → q < j → tm k[q] = true) ∧ wr.cell? ⟨w.heap.size, 3, none⟩ = some (.slice (some ⟨b, off, none⟩) k.length cap) ∧ Hid (Below w.heap.size w wr)) (fun i _ => 3 - (intOf i).toNat)
        case atStart => exact ⟨1, rfl, Nat.le_refl _, by omega, fun q hq h1 h2 => absurd h2 (by omega), cK, HB0.out⟩
        case round =>
          obtain ⟨j, rfl, hjF, hj, HJ, cK, HBW⟩ := hrel
          by_cases hlt : j < 3
          · have hjl : j < k.length := by have := HLL.out; omega
            obtain ⟨q1, q2, q3, _, c0, c1, c2, c3, hcl⟩ := HI.out j hjl wr HBW.out
            have HCL := (show Hid _ from hcl); clear hcl
            have HNX := (show Hid (tm k[j] = true → ∀ q (hq : q < k.length), 1 ≤ q → q < j + 1 → tm k[q] = true) from fun h q hq h1 h2 => by
              by_cases e : q = j
              · subst e; exact h
              · exact HJ.out q hq h1 (by omega))
            have HFX := (show Hid (tm k[j] = false → R = false) from fun h => HKD.out j hjl h)
            have hcl := lt_of_cell cK
            generalize k[j].name = kn at *
            generalize k[j].text = kx at *
            generalize k[j].leaf = kl at *
            generalize tm k[j] = B at *
            go_wp2_with fail
            refine Calls.mono HCL.out ?_
            rintro e w2 ⟨rfl, hb2⟩
            have cK2 : w2.cell? ⟨w.heap.size, 3, none⟩ = some (.slice (some ⟨b, off, none⟩) k.length cap) := (hb2.cell hcl).trans cK
            have HB2 := (show Hid _ from bel_trans HBW.out hb2); clear hb2 c0 c1 c2 c3 cK hcl
            cases B
            · have HF := (show Hid _ from HFX.out rfl)
              go_wp2_with fail
              go_ret
              exact ⟨ret_bool HF.out.symm, HB2.out⟩
            · have HNN := (show Hid _ from HNX.out rfl)
              go_wp2_with fail
              exact ⟨⟨j + 1, by go_num, by omega, by omega, HNN, cK2, HB2⟩, by simp [intOf]; omega⟩
          · have HF := (show Hid (R = true) from HTR.out (fun q hq h1 => HJ.out q hq h1 (by have := HLL.out; omega)))
            go_wp2_with fail
            go_ret
            exact ⟨ret_bool HF.out.symm, HBW.out⟩
    case inr.inr.inl =>
      have q0 : (n.toList == ([76, 97, 109] : List UInt8)) = false := by rw [e]; rfl
      have q1 : (n.toList == ([76, 101, 116] : List UInt8)) = false := by rw [e]; rfl
      have q2 : (n.toList == ([73, 102] : List UInt8)) = true := by rw [e]; rfl
      have q3 : (n.toList == ([65, 112, 112] : List UInt8)) = false := by rw [e]; rfl
      have q4 : (n.toList == ([65, 100, 100] : List UInt8)) = false := by rw [e]; rfl
      have q5 : (n.toList == ([69, 113] : List UInt8)) = false := by rw [e]; rfl
      have HLN := (show Hid _ from fun (hl : ¬ k.length = 3) => tmN_len (x := x) g hl)
      have HKD := (show Hid _ from fun (q : Nat) (hq : q < k.length) (hf : tm k[q] = false) => tmN_kid (x := x) g q hq hf)
      have HTR0 := (show Hid _ from fun (hl : k.length = 3) h0 ha => tmN_true (x := x) g hl h0 ha)
      generalize tm ⟨n, x, false, k⟩ = R at *
      clear e g
      by_cases hl : k.length = 3
      case neg =>
        have HF := (show Hid (R = false) from HLN.out hl)
        have hne : ((k.length : Int) != 3) = true := by simp; omega
        clear hE0 HI HNK hl
        go_enter Try.func94, Try.ntmps94
        go_wp2_with fail
        go_ret
        exact ⟨ret_bool HF.out.symm, bel_alloc _ _⟩
      have hne : ((k.length : Int) != 3) = false := by simp; omega
      have HB0 := (show Hid _ from hb0)
      have cK := hE0.2.2.2
      clear HLN hE0 hb0
      have HLL := (show Hid (k.length = 3) from hl)
      have HTR := (show Hid ((∀ q (hq : q < k.length), 0 ≤ q → tm k[q] = true) → R = true) from fun h => HTR0.out HLL.out (fun h => by simp at h) (fun q hq => h q hq (Nat.zero_le _)))
      clear hl
      go_enter Try.func94, Try.ntmps94
      go_wp2_with fail
      go_loopw [5] (fun i wr => ∃ j : Nat, i = .int .i64 j ∧ j ≤ 3 ∧ Hid (∀ q (hq : q < k.length), 0 ≤ q → q < j → tm k[q] = true) ∧ wr.cell? ⟨w.heap.size, 3, none⟩ = some (.slice a k.length cap) ∧ Hid (Below w.heap.size w wr)) (fun i _ => 3 - (intOf i).toNat)
      case atStart => exact ⟨0, rfl, by omega, fun q hq h1 h2 => absurd h2 (by omega), cK, HB0.out⟩
      case round =>
        obtain ⟨j, rfl, hj, HJ, cK, HBW⟩ := hrel
        by_cases hlt : j < 3
        · have hjl : j < k.length := by have := HLL.out; omega
          obtain ⟨q1, q2, q3, rfl, c0, c1, c2, c3, hcl⟩ := HI.out j hjl wr HBW.out
          have HCL := (show Hid _ from hcl); clear hcl
          have HNX := (show Hid (tm k[j] = true → ∀ q (hq : q < k.length), 0 ≤ q → q < j + 1 → tm k[q] = true) from fun h q hq h1 h2 => by
            by_cases e : q = j
            · subst e; exact h
            · exact HJ.out q hq h1 (by omega))
          have HFX := (show Hid (tm k[j] = false → R = false) from fun h => HKD.out j hjl h)
          have hcl := lt_of_cell cK
          generalize k[j].name = kn at *
          generalize k[j].text = kx at *
          generalize k[j].leaf = kl at *
          generalize tm k[j] = B at *
          go_wp2_with fail
          refine Calls.mono HCL.out ?_
          rintro e w2 ⟨rfl, hb2⟩
          have cK2 : w2.cell? ⟨w.heap.size, 3, none⟩ = some (.slice (some ⟨b, off, none⟩) k.length cap) := (hb2.cell hcl).trans cK
          have HB2 := (show Hid _ from bel_trans HBW.out hb2); clear hb2 c0 c1 c2 c3 cK hcl
          cases B
          · have HF := (show Hid _ from HFX.out rfl)
            go_wp2_with fail
            go_ret
            exact ⟨ret_bool HF.out.symm, HB2.out⟩
          · have HNN := (show Hid _ from HNX.out rfl)
            go_wp2_with fail
            exact ⟨⟨j + 1, by go_num, by omega, HNN, cK2, HB2⟩, by simp [intOf]; omega⟩
        · have HF := (show Hid (R = true) from HTR.out (fun q hq h1 => HJ.out q hq h1 (by have := HLL.out; omega)))
          go_wp2_with fail
          go_ret
          exact ⟨ret_bool HF.out.symm, HBW.out⟩
    case inr.inr.inr.inl =>
      have q0 : (n.toList == ([76, 97, 109] : List UInt8)) = false := by rw [e]; rfl
      have q1 : (n.toList == ([76, 101, 116] : List UInt8)) = false := by rw [e]; rfl
      have q2 : (n.toList == ([73, 102] : List UInt8)) = false := by rw [e]; rfl
      have q3 : (n.toList == ([65, 112, 112] : List UInt8)) = true := by rw [e]; rfl
      have q4 : (n.toList == ([65, 100, 100] : List UInt8)) = false := by rw [e]; rfl
      have q5 : (n.toList == ([69, 113] : List UInt8)) = false := by rw [e]; rfl
      have HLN := (show Hid _ from fun (hl : ¬ k.length = 2) => tmN_len (x := x) g hl)
      have HKD := (show Hid _ from fun (q : Nat) (hq : q < k.length) (hf : tm k[q] = false) => tmN_kid (x := x) g q hq hf)
      have HTR0 := (show Hid _ from fun (hl : k.length = 2) h0 ha => tmN_true (x := x) g hl h0 ha)
      generalize tm ⟨n, x, false, k⟩ = R at *
      clear e g
      by_cases hl : k.length = 2
      case neg =>
        have HF := (show Hid (R = false) from HLN.out hl)
        have hne : ((k.length : Int) != 2) = true := by simp; omega
        clear hE0 HI HNK hl
        go_enter Try.func94, Try.ntmps94
        go_wp2_with fail
        go_ret
        exact ⟨ret_bool HF.out.symm, bel_alloc _ _⟩
      have hne : ((k.length : Int) != 2) = false := by simp; omega
      have HB0 := (show Hid _ from hb0)
      have cK := hE0.2.2.2
      clear HLN hE0 hb0
      have HLL := (show Hid (k.length = 2) from hl)
      have HTR := (show Hid ((∀ q (hq : q < k.length), 0 ≤ q → tm k[q] = true) → R = true) from fun h => HTR0.out HLL.out (fun h => by simp at h) (fun q hq => h q hq (Nat.zero_le _)))
      clear hl
      go_enter Try.func94, Try.ntmps94
      go_wp2_with fail
      go_loopw [5] (fun i wr => ∃ j : Nat, i = .int .i64 j ∧ j ≤ 2 ∧ Hid (∀ q (hq : q < k.length), 0 ≤ q → q < j → tm k[q] = true) ∧ wr.cell? ⟨w.heap.size, 3, none⟩ = some (.slice a k.length cap) ∧ Hid (Below w.heap.size w wr)) (fun i _ => 2 - (intOf i).toNat)
      case atStart => exact ⟨0, rfl, by omega, fun q hq h1 h2 => absurd h2 (by omega), cK, HB0.out⟩
      case round =>
        obtain ⟨j, rfl, hj, HJ, cK, HBW⟩ := hrel
        by_cases hlt : j < 2
        · have hjl : j < k.length := by have := HLL.out; omega
          obtain ⟨q1, q2, q3, rfl, c0, c1, c2, c3, hcl⟩ := HI.out j hjl wr HBW.out
          have HCL := (show Hid _ from hcl); clear hcl
          have HNX := (show Hid (tm k[j] = true → ∀ q (hq : q < k.length), 0 ≤ q → q < j + 1 → tm k[q] = true) from fun h q hq h1 h2 => by
            by_cases e : q = j
            · subst e; exact h
            · exact HJ.out q hq h1 (by omega))
          have HFX := (show Hid (tm k[j] = false → R = false) from fun h => HKD.out j hjl h)
          have hcl := lt_of_cell cK
          generalize k[j].name = kn at *
          generalize k[j].text = kx at *
          generalize k[j].leaf = kl at *
          generalize tm k[j] = B at *
          go_wp2_with fail
          refine Calls.mono HCL.out ?_
          rintro e w2 ⟨rfl, hb2⟩
          have cK2 : w2.cell? ⟨w.heap.size, 3, none⟩ = some (.slice (some ⟨b, off, none⟩) k.length cap) := (hb2.cell hcl).trans cK
          have HB2 := (show Hid _ from bel_trans HBW.out hb2); clear hb2 c0 c1 c2 c3 cK hcl
          cases B
          · have HF := (show Hid _ from HFX.out rfl)
            go_wp2_with fail
            go_ret
            exact ⟨ret_bool HF.out.symm, HB2.out⟩
          · have HNN := (show Hid _ from HNX.out rfl)
            go_wp2_with fail
            exact ⟨⟨j + 1, by go_num, by omega, HNN, cK2, HB2⟩, by simp [intOf]; omega⟩
        · have HF := (show Hid (R = true) from HTR.out (fun q hq h1 => HJ.out q hq h1 (by have := HLL.out; omega)))
          go_wp2_with fail
          go_ret
          exact ⟨ret_bool HF.out.symm, HBW.out⟩
    case inr.inr.inr.inr.inl =>
      have q0 : (n.toList == ([76, 97, 109] : List UInt8)) = false := by rw [e]; rfl
      have q1 : (n.toList == ([76, 101, 116] : List UInt8)) = false := by rw [e]; rfl
      have q2 : (n.toList == ([73, 102] : List UInt8)) = false := by rw [e]; rfl
      have q3 : (n.toList == ([65, 112, 112] : List UInt8)) = false := by rw [e]; rfl
      have q4 : (n.toList == ([65, 100, 100] : List UInt8)) = true := by rw [e]; rfl
      have q5 : (n.toList == ([69, 113] : List UInt8)) = false := by rw [e]; rfl
      have HLN := (show Hid _ from fun (hl : ¬ k.length = 2) => tmN_len (x := x) g hl)
      have HKD := (show Hid _ from fun (q : Nat) (hq : q < k.length) (hf : tm k[q] = false) => tmN_kid (x := x) g q hq hf)
      have HTR0 := (show Hid _ from fun (hl : k.length = 2) h0 ha => tmN_true (x := x) g hl h0 ha)
      generalize tm ⟨n, x, false, k⟩ = R at *
      clear e g
      by_cases hl : k.length = 2
      case neg =>
        have HF := (show Hid (R = false) from HLN.out hl)
        have hne : ((k.length : Int) != 2) = true := by simp; omega
        clear hE0 HI HNK hl
        go_enter Try.func94, Try.ntmps94
        go_wp2_with fail
        go_ret
        exact ⟨ret_bool HF.out.symm, bel_alloc _ _⟩
      have hne : ((k.length : Int) != 2) = false := by simp; omega
      have HB0 := (show Hid _ from hb0)
      have cK := hE0.2.2.2
      clear HLN hE0 hb0
      have HLL := (show Hid (k.length = 2) from hl)
      have HTR := (show Hid ((∀ q (hq : q < k.length), 0 ≤ q → tm k[q] = true) → R = true) from fun h => HTR0.out HLL.out (fun h => by simp at h) (fun q hq => h q hq (Nat.zero_le _)))
      clear hl
      go_enter Try.func94, Try.ntmps94
      go_wp2_with fail
      go_loopw [5] (fun i wr => ∃ j : Nat, i = .int .i64 j ∧ j ≤ 2 ∧ Hid (∀ q (hq : q < k.length), 0 ≤ q → q < j → tm k[q] = true) ∧ wr.cell? ⟨w.heap.size, 3, none⟩ = some (.slice a k.length cap) ∧ Hid (Below w.heap.size w wr)) (fun i _ => 2 - (intOf i).toNat)
      case atStart => exact ⟨0, rfl, by omega, fun q hq h1 h2 => absurd h2 (by omega), cK, HB0.out⟩
      case round =>
        obtain ⟨j, rfl, hj, HJ, cK, HBW⟩ := hrel
        by_cases hlt : j < 2
        · have hjl : j < k.length := by have := HLL.out; omega
          obtain ⟨q1, q2, q3, rfl, c0, c1, c2, c3, hcl⟩ := HI.out j hjl wr HBW.out
          have HCL := (show Hid _ from hcl); clear hcl
          have HNX := (show Hid (tm k[j] = true → ∀ q (hq : q < k.length), 0 ≤ q → q < j + 1 → tm k[q] = true) from fun h q hq h1 h2 => by
            by_cases e : q = j
            · subst e; exact h
            · exact HJ.out q hq h1 (by omega))
          have HFX := (show Hid (tm k[j] = false → R = false) from fun h => HKD.out j hjl h)
          have hcl := lt_of_cell cK
          generalize k[j].name = kn at *
          generalize k[j].text = kx at *
          generalize k[j].leaf = kl at *
          generalize tm k[j] = B at *
          go_wp2_with fail
          refine Calls.mono HCL.out ?_
          rintro e w2 ⟨rfl, hb2⟩
          have cK2 : w2.cell? ⟨w.heap.size, 3, none⟩ = some (.slice (some ⟨b, off, none⟩) k.length cap) := (hb2.cell hcl).trans cK
          have HB2 := (show Hid _ from bel_trans HBW.out hb2); clear hb2 c0 c1 c2 c3 cK hcl
          cases B
          · have HF := (show Hid _ from HFX.out rfl)
            go_wp2_with fail
            go_ret
            exact ⟨ret_bool HF.out.symm, HB2.out⟩
          · have HNN := (show Hid _ from HNX.out rfl)
            go_wp2_with fail
            exact ⟨⟨j + 1, by go_num, by omega, HNN, cK2, HB2⟩, by simp [intOf]; omega⟩
        · have HF := (show Hid (R = true) from HTR.out (fun q hq h1 => HJ.out q hq h1 (by have := HLL.out; omega)))
          go_wp2_with fail
          go_ret
          exact ⟨ret_bool HF.out.symm, HBW.out⟩
    case inr.inr.inr.inr.inr.inl =>
      have q0 : (n.toList == ([76, 97, 109] : List UInt8)) = false := by rw [e]; rfl
      have q1 : (n.toList == ([76, 101, 116] : List UInt8)) = false := by rw [e]; rfl
      have q2 : (n.toList == ([73, 102] : List UInt8)) = false := by rw [e]; rfl
      have q3 : (n.toList == ([65, 112, 112] : List UInt8)) = false := by rw [e]; rfl
      have q4 : (n.toList == ([65, 100, 100] : List UInt8)) = false := by rw [e]; rfl
      have q5 : (n.toList == ([69, 113] : List UInt8)) = true := by rw [e]; rfl
      have HLN := (show Hid _ from fun (hl : ¬ k.length = 2) => tmN_len (x := x) g hl)
      have HKD := (show Hid _ from fun (q : Nat) (hq : q < k.length) (hf : tm k[q] = false) => tmN_kid (x := x) g q hq hf)
      have HTR0 := (show Hid _ from fun (hl : k.length = 2) h0 ha => tmN_true (x := x) g hl h0 ha)
      generalize tm ⟨n, x, false, k⟩ = R at *
      clear e g
      by_cases hl : k.length = 2
      case neg =>
        have HF := (show Hid (R = false) from HLN.out hl)
        have hne : ((k.length : Int) != 2) = true := by simp; omega
        clear hE0 HI HNK hl
        go_enter Try.func94, Try.ntmps94
        go_wp2_with fail
        go_ret
        exact ⟨ret_bool HF.out.symm, bel_alloc _ _⟩
      have hne : ((k.length : Int) != 2) = false := by simp; omega
      have HB0 := (show Hid _ from hb0)
      have cK := hE0.2.2.2
      clear HLN hE0 hb0
      have HLL := (show Hid (k.length = 2) from hl)
      have HTR := (show Hid ((∀ q (hq : q < k.length), 0 ≤ q → tm k[q] = true) → R = true) from fun h => HTR0.out HLL.out (fun h => by simp at h) (fun q hq => h q hq (Nat.zero_le _)))
      clear hl
      go_enter Try.func94, Try.ntmps94
      go_wp2_with fail
      go_loopw [5] (fun i wr => ∃ j : Nat, i = .int .i64 j ∧ j ≤ 2 ∧ Hid (∀ q (hq : q < k.length), 0 ≤ q → q < j → tm k[q] = true) ∧ wr.cell? ⟨w.heap.size, 3, none⟩ = some (.slice a k.length cap) ∧ Hid (Below w.heap.size w wr)) (fun i _ => 2 - (intOf i).toNat)
      case atStart => exact ⟨0, rfl, by omega, fun q hq h1 h2 => absurd h2 (by omega), cK, HB0.out⟩
      case round =>
        obtain ⟨j, rfl, hj, HJ, cK, HBW⟩ := hrel
        by_cases hlt : j < 2
        · have hjl : j < k.length := by have := HLL.out; omega
          obtain ⟨q1, q2, q3, rfl, c0, c1, c2, c3, hcl⟩ := HI.out j hjl wr HBW.out
          have HCL := (show Hid _ from hcl); clear hcl
          have HNX := (show Hid (tm k[j] = true → ∀ q (hq : q < k.length), 0 ≤ q → q < j + 1 → tm k[q] = true) from fun h q hq h1 h2 => by
            by_cases e : q = j
            · subst e; exact h
            · exact HJ.out q hq h1 (by omega))
          have HFX := (show Hid (tm k[j] = false → R = false) from fun h => HKD.out j hjl h)
          have hcl := lt_of_cell cK
          generalize k[j].name = kn at *
          generalize k[j].text = kx at *
          generalize k[j].leaf = kl at *
          generalize tm k[j] = B at *
          go_wp2_with fail
          refine Calls.mono HCL.out ?_
          rintro e w2 ⟨rfl, hb2⟩
          have cK2 : w2.cell? ⟨w.heap.size, 3, none⟩ = some (.slice (some ⟨b, off, none⟩) k.length cap) := (hb2.cell hcl).trans cK
          have HB2 := (show Hid _ from bel_trans HBW.out hb2); clear hb2 c0 c1 c2 c3 cK hcl
          cases B
          · have HF := (show Hid _ from HFX.out rfl)
            go_wp2_with fail
            go_ret
            exact ⟨ret_bool HF.out.symm, HB2.out⟩
          · have HNN := (show Hid _ from HNX.out rfl)
            go_wp2_with fail
            exact ⟨⟨j + 1, by go_num, by omega, HNN, cK2, HB2⟩, by simp [intOf]; omega⟩
        · have HF := (show Hid (R = true) from HTR.out (fun q hq h1 => HJ.out q hq h1 (by have := HLL.out; omega)))
          go_wp2_with fail
          go_ret
          exact ⟨ret_bool HF.out.symm, HBW.out⟩
set_option maxHeartbeats 800000 in
theorem sTerm26 {S : Nat → Prop} (t : Tr) (v : Value) (w : World) (h : Lies w S t v) :
    Calls Try.prog 49 #[t.val v] w fun e w' => e = .returned (.bool (t.ok && tm t)) ∧ Below w.heap.size w w' := by
  have HOK := (show Hid (∀ w', Below w.heap.size w w' → _) from fun w' hb => sOK_any t v w' (h.still hb))
  have HFM := (show Hid (∀ w', Below w.heap.size w w' → _) from fun w' hb => term68 t v w' (h.still hb))
  obtain ⟨a, c, d, rfl⟩ := h.form
  clear h
  simp only [Tr.val] at HOK HFM ⊢
  generalize t.name = n at *
  generalize t.text = x at *
  generalize t.leaf = l at *
  have hb0 := bel_alloc w (.cells #[.string n, .string x, .bool l, .slice a c d] 40)
  generalize hA : t.ok = A at *
  generalize hB : tm t = B at *
  clear hA hB
  cases A
  all_goals
    go_enter Try.func49, Try.ntmps49
    go_wp2_with fail
    refine Calls.mono (HOK.out _ hb0) ?_
    rintro e w1 ⟨rfl, hb1⟩
  · have HB := (show Hid _ from bel_trans hb0 hb1); clear hb1 hb0
    go_wp2_with fail
    go_ret
    exact ⟨rfl, HB.out⟩
  · have c0 : w1.cell? ⟨w.heap.size, 0, none⟩ = some (.string n) := (hb1.cell (by simp)).trans (by simp [go_sem])
    have c1 : w1.cell? ⟨w.heap.size, 1, none⟩ = some (.string x) := (hb1.cell (by simp)).trans (by simp [go_sem])
    have c2 : w1.cell? ⟨w.heap.size, 2, none⟩ = some (.bool l) := (hb1.cell (by simp)).trans (by simp [go_sem])
    have c3 : w1.cell? ⟨w.heap.size, 3, none⟩ = some (.slice a c d) := (hb1.cell (by simp)).trans (by simp [go_sem])
    have HB := (show Hid _ from bel_trans hb0 hb1); clear hb1 hb0
    go_wp2_with fail
    refine Calls.mono (HFM.out _ HB.out) ?_
    rintro e w2 ⟨rfl, hb2⟩
    have HB2 := (show Hid _ from bel_trans HB.out hb2); clear hb2
    go_wp2_with fail
    go_ret
    exact ⟨ret_bool (by simp), HB2.out⟩
end Go.Proofs.Ytledclkmeikgdaa.T
