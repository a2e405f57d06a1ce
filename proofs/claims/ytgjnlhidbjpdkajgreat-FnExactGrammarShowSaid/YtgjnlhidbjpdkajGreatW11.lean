import Derived.Test.YtgjnlhidbjpdkajGreatSh
/-! The program's writer: a line. -/
namespace Go.Proofs.YtgjnlhidbjpdkajGreat
open Go.RowKit Go.Deep Go.Lib
set_option linter.unusedVariables false
set_option maxRecDepth 100000
set_option linter.unusedSimpArgs false

/-- A line is done. -/
def WL (p : Nat) (gc : List Value) (T : ByteArray) (w : World) (e : Ending) (w' : World) : Prop := e = .returned (.tuple #[]) ∧ (∃ G, Wr p gc T G w') ∧ Fr p w w'
theorem Wr.glue {p : Nat} {gc : List Value} {T : ByteArray} {G : Bool} {w : World} (h : Wr p gc T G w) : w.frozen? ⟨p, 6, none⟩ = false ∧ (∃ b, w.cell? ⟨p, 6, none⟩ = some (.bool b)) ∧ Wr p gc T true (w.setCell ⟨p, 6, none⟩ (.bool true)) := by
  obtain ⟨out, gl, ⟨h5, a, cap, hB, hO⟩, hle, hc⟩ := h
  refine ⟨hB.frozen 6, ⟨gl, (gc_c5 h5 hB).2⟩, out, true, ⟨h5, a, cap, ?_, own_past hO (by omega)⟩, hle, ?_⟩
  · have := hB.set 6 (.bool true)
    rw [(gc_s5 h5).2] at this
    exact this
  · rcases hc with ⟨h, _⟩ | h
    · exact .inl ⟨h, rfl⟩
    · exact .inr h
theorem semi_end : endB ⟨#[59]⟩ = true := end_yes (by simp [endL])

set_option maxHeartbeats 3200000 in
theorem wline53 (cap : Array Value) (p : Nat) (gc : List Value) (ws : List ByteArray) (T : ByteArray) (G : Bool) (w : World) (h : Wr p gc T G w) (hT : (wAll T true ws).1.size ≤ 4398046511104)
    (hcl : ∀ w', Fr p w w' → Wr p gc T true w' → Calls Tryz.prog 53 cap w' fun e w'' => WD p gc (wAll T true ws) w' e w'') :
    Calls Tryz.prog 52 #[.pointer (some ⟨p, 0, none⟩), .func (.func 53) #[] cap] w fun e w' => WL p gc ((wAll T true ws).1 ++ ⟨#[59, 10]⟩) w e w' := by
  obtain ⟨i5, hi5, hz0, hz1, hz2⟩ := info_parts5
  obtain ⟨f6, ⟨b6, c6⟩, hg⟩ := h.glue
  have HCL := (show Hid _ from hcl _ (Fr.set w 6 (.bool true)) hg); clear hcl
  have HFS := (show Hid _ from (Fr.set (p := p) w 6 (.bool true)))
  clear h hg
  generalize wAll T true ws = AA at *
  go_enter Tryz.func52, Tryz.ntmps52
  go_wp2_with fail
  go_at_call 53
  refine Calls.mono HCL.out ?_
  rintro e w1 ⟨rfl, h1, h2⟩
  have HF1 := (show Hid _ from HFS.out.trans h2)
  have HV := (show Hid _ from word_any p gc ⟨#[59]⟩ (by decide) _ _ w1 h1)
  clear h1 h2 HCL f6 c6
  go_wp2_with fail
  refine Calls.mono HV.out ?_
  rintro e w2 ⟨rfl, ⟨out, gl, ⟨h5, a, cap2, hB, hO⟩, hle, hc⟩, h4⟩
  have q1 : (ByteArray.mk #[59]).size = 1 := rfl
  have hsz := (wAdd_size AA.1 AA.2 ⟨#[59]⟩).2
  rw [q1] at hsz
  have hol : out.length ≤ 4398046511104 + 2 := by omega
  obtain ⟨C5, C6⟩ := gc_c5 h5 hB
  have F5 := hB.frozen 5
  have hplt := hB.lt
  have HB := (show Hid _ from hB.still (bel_alloc w2 (.cells #[.int .u8 10] 5))); clear hB
  have HO1 := (show Hid _ from own_still hO (bel_alloc w2 (.cells #[.int .u8 10] 5))); clear hO
  have HF2 := (show Hid _ from HF1.out.trans h4)
  have HC := (show Hid _ from (⟨hle, hc⟩ : _ ∧ _))
  clear h4 hle hc HV HF1 hsz q1
  go_wp2_with (at_builtin; refine wpList_append_own _ rfl (.tmp 15) (.tmp 16) 59 rfl (p + 1) 5 i5 (.int .u8 0) 1 1 Tryz.underlying59 hi5 hz0 hz1 hz2 rfl (by decide) _ _ _ rfl HO1.out ⟨w2.heap.size, 0, none⟩ 1 1 [.int .u8 10] rfl rfl (cells_box _ [.int .u8 10] _) (by intro u hu; simp at hu; subst hu; rfl) ?d1 ?d2 ?d3 ?nx)
  case d1 => unfold maxLen; omega
  case d2 => omega
  case d3 => first | omega | (simp; omega)
  case nx =>
    intro v3 w3 hown3 hgr3 _
    obtain ⟨a3, c3, rfl⟩ := own_slice hown3
    obtain ⟨hB5, hB6, hO6, hF6⟩ := Wst.grow (l := [10]) h5 HB.out HO1.out rfl hown3 hgr3
    have G5 := (gc_c5 h5 hB5).1
    have J5 := hB5.frozen 5
    have HX := (show Hid _ from (⟨hB6, hO6, (HF2.out.trans (Fr.of_below (bel_alloc w2 (.cells #[.int .u8 10] 5)) (by omega))).trans hF6⟩ : _ ∧ _ ∧ _)); clear hB5 hB6 hO6 hF6 hown3 hgr3 C5 C6 F5 HB HO1 HF2
    go_wp2_with fail
    refine bodyPost_end (v := .tuple #[]) (by simp [results, Tryz.results52]) rfl ?_
    have heq : AA.1 ++ ⟨#[59, 10]⟩ = wAdd AA.1 AA.2 ⟨#[59]⟩ ++ ⟨#[10]⟩ := by
      unfold wAdd
      rw [semi_end]
      exact ba_ext (by simp)
    refine ⟨rfl, ⟨gl, out ++ [10], gl, ⟨h5, a3, c3, HX.out.1, HX.out.2.1⟩, ?_, ?_⟩, HX.out.2.2⟩
    · have q : (ByteArray.mk #[10]).size = 1 := rfl
      have := HC.out.1
      rw [heq, ByteArray.size_append, q]
      simp; omega
    · rcases HC.out.2 with ⟨h, _⟩ | h
      · exact .inl ⟨by rw [heq, h]; simp, rfl⟩
      · exact .inr (by simp; omega)

set_option maxHeartbeats 3200000 in
theorem wline55 (cap : Array Value) (p : Nat) (gc : List Value) (ws : List ByteArray) (T : ByteArray) (G : Bool) (w : World) (h : Wr p gc T G w) (hT : (wAll T true ws).1.size ≤ 4398046511104)
    (hcl : ∀ w', Fr p w w' → Wr p gc T true w' → Calls Tryz.prog 55 cap w' fun e w'' => WD p gc (wAll T true ws) w' e w'') :
    Calls Tryz.prog 52 #[.pointer (some ⟨p, 0, none⟩), .func (.func 55) #[] cap] w fun e w' => WL p gc ((wAll T true ws).1 ++ ⟨#[59, 10]⟩) w e w' := by
  obtain ⟨i5, hi5, hz0, hz1, hz2⟩ := info_parts5
  obtain ⟨f6, ⟨b6, c6⟩, hg⟩ := h.glue
  have HCL := (show Hid _ from hcl _ (Fr.set w 6 (.bool true)) hg); clear hcl
  have HFS := (show Hid _ from (Fr.set (p := p) w 6 (.bool true)))
  clear h hg
  generalize wAll T true ws = AA at *
  go_enter Tryz.func52, Tryz.ntmps52
  go_wp2_with fail
  go_at_call 55
  refine Calls.mono HCL.out ?_
  rintro e w1 ⟨rfl, h1, h2⟩
  have HF1 := (show Hid _ from HFS.out.trans h2)
  have HV := (show Hid _ from word_any p gc ⟨#[59]⟩ (by decide) _ _ w1 h1)
  clear h1 h2 HCL f6 c6
  go_wp2_with fail
  refine Calls.mono HV.out ?_
  rintro e w2 ⟨rfl, ⟨out, gl, ⟨h5, a, cap2, hB, hO⟩, hle, hc⟩, h4⟩
  have q1 : (ByteArray.mk #[59]).size = 1 := rfl
  have hsz := (wAdd_size AA.1 AA.2 ⟨#[59]⟩).2
  rw [q1] at hsz
  have hol : out.length ≤ 4398046511104 + 2 := by omega
  obtain ⟨C5, C6⟩ := gc_c5 h5 hB
  have F5 := hB.frozen 5
  have hplt := hB.lt
  have HB := (show Hid _ from hB.still (bel_alloc w2 (.cells #[.int .u8 10] 5))); clear hB
  have HO1 := (show Hid _ from own_still hO (bel_alloc w2 (.cells #[.int .u8 10] 5))); clear hO
  have HF2 := (show Hid _ from HF1.out.trans h4)
  have HC := (show Hid _ from (⟨hle, hc⟩ : _ ∧ _))
  clear h4 hle hc HV HF1 hsz q1
  go_wp2_with (at_builtin; refine wpList_append_own _ rfl (.tmp 15) (.tmp 16) 59 rfl (p + 1) 5 i5 (.int .u8 0) 1 1 Tryz.underlying59 hi5 hz0 hz1 hz2 rfl (by decide) _ _ _ rfl HO1.out ⟨w2.heap.size, 0, none⟩ 1 1 [.int .u8 10] rfl rfl (cells_box _ [.int .u8 10] _) (by intro u hu; simp at hu; subst hu; rfl) ?d1 ?d2 ?d3 ?nx)
  case d1 => unfold maxLen; omega
  case d2 => omega
  case d3 => first | omega | (simp; omega)
  case nx =>
    intro v3 w3 hown3 hgr3 _
    obtain ⟨a3, c3, rfl⟩ := own_slice hown3
    obtain ⟨hB5, hB6, hO6, hF6⟩ := Wst.grow (l := [10]) h5 HB.out HO1.out rfl hown3 hgr3
    have G5 := (gc_c5 h5 hB5).1
    have J5 := hB5.frozen 5
    have HX := (show Hid _ from (⟨hB6, hO6, (HF2.out.trans (Fr.of_below (bel_alloc w2 (.cells #[.int .u8 10] 5)) (by omega))).trans hF6⟩ : _ ∧ _ ∧ _)); clear hB5 hB6 hO6 hF6 hown3 hgr3 C5 C6 F5 HB HO1 HF2
    go_wp2_with fail
    refine bodyPost_end (v := .tuple #[]) (by simp [results, Tryz.results52]) rfl ?_
    have heq : AA.1 ++ ⟨#[59, 10]⟩ = wAdd AA.1 AA.2 ⟨#[59]⟩ ++ ⟨#[10]⟩ := by
      unfold wAdd
      rw [semi_end]
      exact ba_ext (by simp)
    refine ⟨rfl, ⟨gl, out ++ [10], gl, ⟨h5, a3, c3, HX.out.1, HX.out.2.1⟩, ?_, ?_⟩, HX.out.2.2⟩
    · have q : (ByteArray.mk #[10]).size = 1 := rfl
      have := HC.out.1
      rw [heq, ByteArray.size_append, q]
      simp; omega
    · rcases HC.out.2 with ⟨h, _⟩ | h
      · exact .inl ⟨by rw [heq, h]; simp, rfl⟩
      · exact .inr (by simp; omega)

set_option maxHeartbeats 3200000 in
theorem wline57 (cap : Array Value) (p : Nat) (gc : List Value) (ws : List ByteArray) (T : ByteArray) (G : Bool) (w : World) (h : Wr p gc T G w) (hT : (wAll T true ws).1.size ≤ 4398046511104)
    (hcl : ∀ w', Fr p w w' → Wr p gc T true w' → Calls Tryz.prog 57 cap w' fun e w'' => WD p gc (wAll T true ws) w' e w'') :
    Calls Tryz.prog 52 #[.pointer (some ⟨p, 0, none⟩), .func (.func 57) #[] cap] w fun e w' => WL p gc ((wAll T true ws).1 ++ ⟨#[59, 10]⟩) w e w' := by
  obtain ⟨i5, hi5, hz0, hz1, hz2⟩ := info_parts5
  obtain ⟨f6, ⟨b6, c6⟩, hg⟩ := h.glue
  have HCL := (show Hid _ from hcl _ (Fr.set w 6 (.bool true)) hg); clear hcl
  have HFS := (show Hid _ from (Fr.set (p := p) w 6 (.bool true)))
  clear h hg
  generalize wAll T true ws = AA at *
  go_enter Tryz.func52, Tryz.ntmps52
  go_wp2_with fail
  go_at_call 57
  refine Calls.mono HCL.out ?_
  rintro e w1 ⟨rfl, h1, h2⟩
  have HF1 := (show Hid _ from HFS.out.trans h2)
  have HV := (show Hid _ from word_any p gc ⟨#[59]⟩ (by decide) _ _ w1 h1)
  clear h1 h2 HCL f6 c6
  go_wp2_with fail
  refine Calls.mono HV.out ?_
  rintro e w2 ⟨rfl, ⟨out, gl, ⟨h5, a, cap2, hB, hO⟩, hle, hc⟩, h4⟩
  have q1 : (ByteArray.mk #[59]).size = 1 := rfl
  have hsz := (wAdd_size AA.1 AA.2 ⟨#[59]⟩).2
  rw [q1] at hsz
  have hol : out.length ≤ 4398046511104 + 2 := by omega
  obtain ⟨C5, C6⟩ := gc_c5 h5 hB
  have F5 := hB.frozen 5
  have hplt := hB.lt
  have HB := (show Hid _ from hB.still (bel_alloc w2 (.cells #[.int .u8 10] 5))); clear hB
  have HO1 := (show Hid _ from own_still hO (bel_alloc w2 (.cells #[.int .u8 10] 5))); clear hO
  have HF2 := (show Hid _ from HF1.out.trans h4)
  have HC := (show Hid _ from (⟨hle, hc⟩ : _ ∧ _))
  clear h4 hle hc HV HF1 hsz q1
  go_wp2_with (at_builtin; refine wpList_append_own _ rfl (.tmp 15) (.tmp 16) 59 rfl (p + 1) 5 i5 (.int .u8 0) 1 1 Tryz.underlying59 hi5 hz0 hz1 hz2 rfl (by decide) _ _ _ rfl HO1.out ⟨w2.heap.size, 0, none⟩ 1 1 [.int .u8 10] rfl rfl (cells_box _ [.int .u8 10] _) (by intro u hu; simp at hu; subst hu; rfl) ?d1 ?d2 ?d3 ?nx)
  case d1 => unfold maxLen; omega
  case d2 => omega
  case d3 => first | omega | (simp; omega)
  case nx =>
    intro v3 w3 hown3 hgr3 _
    obtain ⟨a3, c3, rfl⟩ := own_slice hown3
    obtain ⟨hB5, hB6, hO6, hF6⟩ := Wst.grow (l := [10]) h5 HB.out HO1.out rfl hown3 hgr3
    have G5 := (gc_c5 h5 hB5).1
    have J5 := hB5.frozen 5
    have HX := (show Hid _ from (⟨hB6, hO6, (HF2.out.trans (Fr.of_below (bel_alloc w2 (.cells #[.int .u8 10] 5)) (by omega))).trans hF6⟩ : _ ∧ _ ∧ _)); clear hB5 hB6 hO6 hF6 hown3 hgr3 C5 C6 F5 HB HO1 HF2
    go_wp2_with fail
    refine bodyPost_end (v := .tuple #[]) (by simp [results, Tryz.results52]) rfl ?_
    have heq : AA.1 ++ ⟨#[59, 10]⟩ = wAdd AA.1 AA.2 ⟨#[59]⟩ ++ ⟨#[10]⟩ := by
      unfold wAdd
      rw [semi_end]
      exact ba_ext (by simp)
    refine ⟨rfl, ⟨gl, out ++ [10], gl, ⟨h5, a3, c3, HX.out.1, HX.out.2.1⟩, ?_, ?_⟩, HX.out.2.2⟩
    · have q : (ByteArray.mk #[10]).size = 1 := rfl
      have := HC.out.1
      rw [heq, ByteArray.size_append, q]
      simp; omega
    · rcases HC.out.2 with ⟨h, _⟩ | h
      · exact .inl ⟨by rw [heq, h]; simp, rfl⟩
      · exact .inr (by simp; omega)

set_option maxHeartbeats 3200000 in
theorem wline59 (cap : Array Value) (p : Nat) (gc : List Value) (ws : List ByteArray) (T : ByteArray) (G : Bool) (w : World) (h : Wr p gc T G w) (hT : (wAll T true ws).1.size ≤ 4398046511104)
    (hcl : ∀ w', Fr p w w' → Wr p gc T true w' → Calls Tryz.prog 59 cap w' fun e w'' => WD p gc (wAll T true ws) w' e w'') :
    Calls Tryz.prog 52 #[.pointer (some ⟨p, 0, none⟩), .func (.func 59) #[] cap] w fun e w' => WL p gc ((wAll T true ws).1 ++ ⟨#[59, 10]⟩) w e w' := by
  obtain ⟨i5, hi5, hz0, hz1, hz2⟩ := info_parts5
  obtain ⟨f6, ⟨b6, c6⟩, hg⟩ := h.glue
  have HCL := (show Hid _ from hcl _ (Fr.set w 6 (.bool true)) hg); clear hcl
  have HFS := (show Hid _ from (Fr.set (p := p) w 6 (.bool true)))
  clear h hg
  generalize wAll T true ws = AA at *
  go_enter Tryz.func52, Tryz.ntmps52
  go_wp2_with fail
  go_at_call 59
  refine Calls.mono HCL.out ?_
  rintro e w1 ⟨rfl, h1, h2⟩
  have HF1 := (show Hid _ from HFS.out.trans h2)
  have HV := (show Hid _ from word_any p gc ⟨#[59]⟩ (by decide) _ _ w1 h1)
  clear h1 h2 HCL f6 c6
  go_wp2_with fail
  refine Calls.mono HV.out ?_
  rintro e w2 ⟨rfl, ⟨out, gl, ⟨h5, a, cap2, hB, hO⟩, hle, hc⟩, h4⟩
  have q1 : (ByteArray.mk #[59]).size = 1 := rfl
  have hsz := (wAdd_size AA.1 AA.2 ⟨#[59]⟩).2
  rw [q1] at hsz
  have hol : out.length ≤ 4398046511104 + 2 := by omega
  obtain ⟨C5, C6⟩ := gc_c5 h5 hB
  have F5 := hB.frozen 5
  have hplt := hB.lt
  have HB := (show Hid _ from hB.still (bel_alloc w2 (.cells #[.int .u8 10] 5))); clear hB
  have HO1 := (show Hid _ from own_still hO (bel_alloc w2 (.cells #[.int .u8 10] 5))); clear hO
  have HF2 := (show Hid _ from HF1.out.trans h4)
  have HC := (show Hid _ from (⟨hle, hc⟩ : _ ∧ _))
  clear h4 hle hc HV HF1 hsz q1
  go_wp2_with (at_builtin; refine wpList_append_own _ rfl (.tmp 15) (.tmp 16) 59 rfl (p + 1) 5 i5 (.int .u8 0) 1 1 Tryz.underlying59 hi5 hz0 hz1 hz2 rfl (by decide) _ _ _ rfl HO1.out ⟨w2.heap.size, 0, none⟩ 1 1 [.int .u8 10] rfl rfl (cells_box _ [.int .u8 10] _) (by intro u hu; simp at hu; subst hu; rfl) ?d1 ?d2 ?d3 ?nx)
  case d1 => unfold maxLen; omega
  case d2 => omega
  case d3 => first | omega | (simp; omega)
  case nx =>
    intro v3 w3 hown3 hgr3 _
    obtain ⟨a3, c3, rfl⟩ := own_slice hown3
    obtain ⟨hB5, hB6, hO6, hF6⟩ := Wst.grow (l := [10]) h5 HB.out HO1.out rfl hown3 hgr3
    have G5 := (gc_c5 h5 hB5).1
    have J5 := hB5.frozen 5
    have HX := (show Hid _ from (⟨hB6, hO6, (HF2.out.trans (Fr.of_below (bel_alloc w2 (.cells #[.int .u8 10] 5)) (by omega))).trans hF6⟩ : _ ∧ _ ∧ _)); clear hB5 hB6 hO6 hF6 hown3 hgr3 C5 C6 F5 HB HO1 HF2
    go_wp2_with fail
    refine bodyPost_end (v := .tuple #[]) (by simp [results, Tryz.results52]) rfl ?_
    have heq : AA.1 ++ ⟨#[59, 10]⟩ = wAdd AA.1 AA.2 ⟨#[59]⟩ ++ ⟨#[10]⟩ := by
      unfold wAdd
      rw [semi_end]
      exact ba_ext (by simp)
    refine ⟨rfl, ⟨gl, out ++ [10], gl, ⟨h5, a3, c3, HX.out.1, HX.out.2.1⟩, ?_, ?_⟩, HX.out.2.2⟩
    · have q : (ByteArray.mk #[10]).size = 1 := rfl
      have := HC.out.1
      rw [heq, ByteArray.size_append, q]
      simp; omega
    · rcases HC.out.2 with ⟨h, _⟩ | h
      · exact .inl ⟨by rw [heq, h]; simp, rfl⟩
      · exact .inr (by simp; omega)
end Go.Proofs.YtgjnlhidbjpdkajGreat
