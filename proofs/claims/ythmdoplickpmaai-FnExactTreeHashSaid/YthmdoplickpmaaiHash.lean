import Derived.Test.YthmdoplickpmaaiShow5
namespace Go.Proofs.Ythmdoplickpmaai
open Go.RowKit Go.Deep Go.Lib
set_option linter.unusedVariables false
set_option maxRecDepth 100000
set_option linter.unusedSimpArgs false

def hstep (h : Nat) (b : UInt8) : Nat := (h * 33 + b.toNat) % 4294967296
/-- The number of a text. -/
def hsh (l : List UInt8) : Nat := l.foldl hstep 5381
theorem hsh_take_succ (l : List UInt8) (j : Nat) (h : j < l.length) : hsh (l.take (j + 1)) = hstep (hsh (l.take j)) l[j] := by
  unfold hsh
  rw [List.take_succ_eq_append_getElem h, List.foldl_append]
  rfl
theorem hstep_lt (h : Nat) (b : UInt8) : hstep h b < 4294967296 := Nat.mod_lt _ (by decide)
theorem hsh_lt (l : List UInt8) : ∀ j, j ≤ l.length → hsh (l.take j) < 4294967296 := by
  intro j hj
  cases j with
  | zero => simp [hsh]
  | succ j => rw [hsh_take_succ l j (by omega)]; exact hstep_lt _ _

set_option maxHeartbeats 800000 in
theorem hashOn_any (s : ByteArray) (hs : s.size ≤ 16777216) (w : World) :
    Calls Try.prog 36 #[.int .i64 5381, .string s] w fun e w' => e = .returned (.int .i64 (hsh s.data.toList)) ∧ w' = w := by
  have hsl : s.data.toList.length = s.size := rfl
  go_enter Try.func36, Try.ntmps36
  go_wp2_with fail
  go_loop [0, 5] (fun u i => ∃ (j h : Nat), j ≤ s.size ∧ i = .int .i64 j ∧ u = .int .i64 h ∧ h < 4294967296 ∧ Hid (h = hsh (s.data.toList.take j))) (fun _ i => s.size - (intOf i).toNat)
  case atStart => exact ⟨0, 5381, Nat.zero_le _, rfl, rfl, by omega, rfl⟩
  case round =>
    obtain ⟨j, h, hj, rfl, rfl, hh, HH⟩ := hrel
    by_cases hlt : j < s.size
    · have g1 := hsh_take_succ s.data.toList j (by rw [hsl]; exact hlt)
      have hxj : s.data.toList[j]'(by rw [hsl]; exact hlt) = s[j] := rfl
      rw [hxj] at g1
      have hc : s[j].toNat < 256 := s[j].toNat_lt
      have HG := (show Hid _ from g1); clear g1 hxj
      go_wp2_with fail
      refine ⟨⟨j + 1, hstep h s[j], by omega, by go_num, ?_, hstep_lt _ _, ?_⟩, by simp [intOf]; omega⟩
      · exact val_int (by unfold hstep; omega)
      · show hstep h s[j] = _
        rw [HG.out, ← HH.out]
    · go_wp2_with fail
      go_ret
      refine ⟨ret_int ?_, rfl⟩
      have e := HH.out
      rw [List.take_of_length_le (by omega)] at e
      rw [e]

set_option maxHeartbeats 800000 in
theorem sHash_no {S : Nat → Prop} (t : Tr) (v : Value) (w : World) (hlies : Lies w S t v) (hok : t.ok = false) :
    Calls Try.prog 19 #[t.val v] w fun e w' => e = .returned (.tuple #[.int .i64 0, .int .i64 1]) ∧ Below w.heap.size w w' := by
  have h9 := fun (w' : World) (hw : Below w.heap.size w w') => sOK_any t v w' (hlies.still hw)
  obtain ⟨a, len, cap, rfl⟩ := hlies.form
  have H9 := (show Hid _ from h9); clear h9
  have HO := (show Hid _ from hok); clear hok
  simp only [Tr.val]
  go_enter Try.func19, Try.ntmps19
  go_wp2_with fail
  refine Calls.mono (H9.out _ (bel_alloc _ _)) ?_
  rintro e w1 ⟨rfl, hb1⟩
  rw [HO.out]
  go_wp2_with fail
  go_ret2
  exact ⟨rfl, bel_box hb1⟩

set_option maxHeartbeats 800000 in
theorem sHash_yes {S : Nat → Prop} (t : Tr) (v : Value) (w : World) (hlies : Lies w S t v) (hok : t.ok = true) (hwt : t.wt ≤ 1048576) :
    Calls Try.prog 19 #[t.val v] w fun e w' => e = .returned (.tuple #[.int .i64 (hsh t.sh), .int .i64 0]) ∧ Below w.heap.size w w' := by
  have hbd := sh_bd hwt hok
  have hcb := (ok_right hok).2.1
  have h9 := fun (w' : World) (hw : Below w.heap.size w w') => sOK_any t v w' (hlies.still hw)
  have h34 := fun (w' : World) (hw : Below w.heap.size w w') => sShowOf t v w' (hlies.still hw) hwt (by omega)
  have h33 := fun w' => hashOn_any (bs t.sh) (by rw [bs_size]; omega) w'
  have e33 : (bs t.sh).data.toList = t.sh := by simp [bs]
  rw [e33] at h33
  obtain ⟨a, len, cap, rfl⟩ := hlies.form
  have H9 := (show Hid _ from h9); clear h9
  have H34 := (show Hid _ from h34); clear h34
  have H33 := (show Hid _ from h33); clear h33 e33
  have HO := (show Hid _ from hok); clear hok
  simp only [Tr.val]
  go_enter Try.func19, Try.ntmps19
  go_wp2_with fail
  refine Calls.mono (H9.out _ (bel_alloc _ _)) ?_
  rintro e w1 ⟨rfl, hb1⟩
  rw [HO.out]
  have hbw1 := bel_box hb1
  obtain ⟨X0, X1, X2, X3⟩ := (four_box w (.string t.name) (.string t.text) (.bool t.leaf) (.slice a len cap) 29).still hb1
  go_wp2_with fail
  refine Calls.mono (H34.out _ hbw1) ?_
  rintro e w2 ⟨rfl, hb2⟩
  go_wp2_with fail
  refine Calls.mono (H33.out _) ?_
  rintro e w3 ⟨rfl, rfl⟩
  go_wp2_with fail
  go_ret2
  exact ⟨rfl, bel_trans hbw1 hb2⟩

set_option maxHeartbeats 800000 in
theorem iHash_no {S : Nat → Prop} (t : Tr) (v : Value) (w : World) (hlies : Lies w S t v) (hok : t.ok = false) :
    Calls Try.prog 20 #[t.val v] w fun e w' => e = .returned (.tuple #[.int .i64 0, .int .i64 1]) ∧ Below w.heap.size w w' := by
  have h9 := fun (w' : World) (hw : Below w.heap.size w w') => iOK_any t v w' (hlies.still hw)
  obtain ⟨a, len, cap, rfl⟩ := hlies.form
  have H9 := (show Hid _ from h9); clear h9
  have HO := (show Hid _ from hok); clear hok
  simp only [Tr.val]
  go_enter Try.func20, Try.ntmps20
  go_wp2_with fail
  refine Calls.mono (H9.out _ (bel_alloc _ _)) ?_
  rintro e w1 ⟨rfl, hb1⟩
  rw [HO.out]
  go_wp2_with fail
  go_ret2
  exact ⟨rfl, bel_box hb1⟩

theorem ret_ii {a b x y : Int} (h : a = b) (h' : x = y) : Ending.returned (.tuple #[.int .i64 a, .int .i64 x]) = .returned (.tuple #[.int .i64 b, .int .i64 y]) := by rw [h, h']

/-- The bytes of an owned row, cell by cell. -/
theorem own_cells {B : Nat} {w : World} {v : Value} {l : List UInt8} (h : w.ownsRow B 5 1 v l.length (bc l)) : ∃ (a : Option Addr) (c g : Nat), v = .slice a l.length c ∧ l.length ≤ c ∧ (0 < l.length → a = some ⟨g, 0, none⟩) ∧ ∀ j (hj : j < l.length), w.cell? ⟨g, j, none⟩ = some (.int .u8 l[j].toNat) := by
  have h0 := h
  obtain ⟨hl, h⟩ := h
  rcases h with ⟨rfl, hz⟩ | ⟨g, cap, cur, rfl, hb, hg, hc, hm, hsz, htk⟩
  · refine ⟨none, 0, 0, by rw [hz], by omega, fun h => by omega, fun j hj => by omega⟩
  · refine ⟨_, cap, g, rfl, hc, fun _ => rfl, fun j hj => ?_⟩
    rw [h0.cellAt j (by omega)]
    simp [bc, hj]

set_option maxHeartbeats 1600000 in
theorem iHash_yes {S : Nat → Prop} (t : Tr) (v : Value) (w : World) (hlies : Lies w S t v) (hok : t.ok = true) (hwt : t.wt ≤ 1048576) :
    Calls Try.prog 20 #[t.val v] w fun e w' => e = .returned (.tuple #[.int .i64 (hsh t.sh), .int .i64 0]) ∧ Below w.heap.size w w' := by
  have h11 := fun (w' : World) (hw : Below w.heap.size w w') => iOK_any t v w' (hlies.still hw)
  have h34 := fun (w' : World) (hw : Below w.heap.size w w') => inward_any t v w' (hlies.still hw) hwt
  have hbd := sh_bd hwt hok
  obtain ⟨a, len, cap, rfl⟩ := hlies.form
  have H11 := (show Hid _ from h11); clear h11
  have H34 := (show Hid _ from h34); clear h34
  have HO := (show Hid _ from hok); clear hok
  simp only [Tr.val]
  go_enter Try.func20, Try.ntmps20
  go_wp2_with fail
  refine Calls.mono (H11.out _ (bel_alloc _ _)) ?_
  rintro e w1 ⟨rfl, hb1⟩
  rw [HO.out]
  have hbw1 := bel_box hb1
  obtain ⟨X0, X1, X2, X3⟩ := (four_box w (.string t.name) (.string t.text) (.bool t.leaf) (.slice a len cap) 29).still hb1
  go_wp2_with fail
  refine Calls.mono (H34.out _ hbw1) ?_
  rintro e w2 ⟨u, rfl, hb2, hf2⟩
  have hbw2 := bel_trans hbw1 hb2
  have hy := show_any w2.heap.size t u (.slice none 0 0) 0 [] w2 (hf2.mono (fun b _ hlt => hlt)) (Nat.le_refl _) (World.ownsRow_nil _ _ _ _) (by omega)
  rcases hy with ⟨X, rfl, hcl⟩ | ⟨X, rfl, hcl⟩
  · have HCL := (show Hid _ from hcl); clear hcl hf2
    have hme := method_showL X
    go_wp2_with fail
    refine Calls.mono HCL.out ?_
    rintro e w3 ⟨⟨v', rfl, hown, hb3⟩, _⟩
    simp only [Nat.zero_add, List.nil_append] at hown
    have hbw3 := bel_trans hbw2 hb3
    obtain ⟨a3, c3, g3, rfl, hc3, ha3, hcell⟩ := own_cells hown
    have hl3 : t.sh.length ≤ 8388608 := hbd.1
    have HA := (show Hid _ from ha3); clear ha3
    have HC := (show Hid _ from hcell); clear hcell hown
    have HB := (show Hid _ from hbw3); clear hbw3 hb3 hbd
    have HE := (show Hid _ from (fun j (hj : j < t.sh.length) => hsh_take_succ t.sh j hj))
    have HF : Hid (hsh (t.sh.take t.sh.length) = hsh t.sh) := by show _ = _; rw [List.take_length]
    have hhl := hsh_lt t.sh
    have HHL := (show Hid _ from hhl); clear hhl
    generalize hL : t.sh = L at *
    have HL := (show Hid _ from hL); clear hL
    go_wp2_with fail
    go_loop [4, 14] (fun u i => ∃ (j h : Nat), j ≤ L.length ∧ i = .int .i64 j ∧ u = .int .u32 h ∧ h < 4294967296 ∧ Hid (h = hsh (L.take j))) (fun _ i => L.length - (intOf i).toNat)
    case atStart => exact ⟨0, 5381, Nat.zero_le _, rfl, rfl, by omega, rfl⟩
    case round =>
      obtain ⟨j, h, hj, rfl, rfl, hh, HH⟩ := hrel
      by_cases hlt : j < L.length
      · obtain rfl := HA.out (by omega)
        have cJ := HC.out j hlt
        have g1 := HE.out j hlt
        have hc : L[j].toNat < 256 := L[j].toNat_lt
        have HG := (show Hid _ from g1); clear g1
        go_wp2_with fail
        refine ⟨⟨j + 1, hstep h L[j], by omega, by go_num, ?_, hstep_lt _ _, ?_⟩, by simp [intOf]; omega⟩
        · exact val_int (by unfold hstep; omega)
        · show hstep h L[j] = _
          rw [HG.out, ← HH.out]
      · go_wp2_with fail
        go_ret2
        have e := HH.out
        rw [List.take_of_length_le (by omega)] at e
        exact ⟨ret_ii (by rw [HL.out, e]) rfl, HB.out⟩
  · have HCL := (show Hid _ from hcl); clear hcl hf2
    have hme := method_showN X
    go_wp2_with fail
    refine Calls.mono HCL.out ?_
    rintro e w3 ⟨⟨v', rfl, hown, hb3⟩, _⟩
    simp only [Nat.zero_add, List.nil_append] at hown
    have hbw3 := bel_trans hbw2 hb3
    obtain ⟨a3, c3, g3, rfl, hc3, ha3, hcell⟩ := own_cells hown
    have hl3 : t.sh.length ≤ 8388608 := hbd.1
    have HA := (show Hid _ from ha3); clear ha3
    have HC := (show Hid _ from hcell); clear hcell hown
    have HB := (show Hid _ from hbw3); clear hbw3 hb3 hbd
    have HE := (show Hid _ from (fun j (hj : j < t.sh.length) => hsh_take_succ t.sh j hj))
    have HF : Hid (hsh (t.sh.take t.sh.length) = hsh t.sh) := by show _ = _; rw [List.take_length]
    have hhl := hsh_lt t.sh
    have HHL := (show Hid _ from hhl); clear hhl
    generalize hL : t.sh = L at *
    have HL := (show Hid _ from hL); clear hL
    go_wp2_with fail
    go_loop [4, 14] (fun u i => ∃ (j h : Nat), j ≤ L.length ∧ i = .int .i64 j ∧ u = .int .u32 h ∧ h < 4294967296 ∧ Hid (h = hsh (L.take j))) (fun _ i => L.length - (intOf i).toNat)
    case atStart => exact ⟨0, 5381, Nat.zero_le _, rfl, rfl, by omega, rfl⟩
    case round =>
      obtain ⟨j, h, hj, rfl, rfl, hh, HH⟩ := hrel
      by_cases hlt : j < L.length
      · obtain rfl := HA.out (by omega)
        have cJ := HC.out j hlt
        have g1 := HE.out j hlt
        have hc : L[j].toNat < 256 := L[j].toNat_lt
        have HG := (show Hid _ from g1); clear g1
        go_wp2_with fail
        refine ⟨⟨j + 1, hstep h L[j], by omega, by go_num, ?_, hstep_lt _ _, ?_⟩, by simp [intOf]; omega⟩
        · exact val_int (by unfold hstep; omega)
        · show hstep h L[j] = _
          rw [HG.out, ← HH.out]
      · go_wp2_with fail
        go_ret2
        have e := HH.out
        rw [List.take_of_length_le (by omega)] at e
        exact ⟨ret_ii (by rw [HL.out, e]) rfl, HB.out⟩
end Go.Proofs.Ythmdoplickpmaai
