import Derived.Test.YtgjnlhidbjpdkajGreatW11
/-! The program's writer: what the lines hold. -/
namespace Go.Proofs.YtgjnlhidbjpdkajGreat
open Go.RowKit Go.Deep Go.Lib
set_option linter.unusedVariables false
set_option maxRecDepth 100000
set_option linter.unusedSimpArgs false

theorem lang_gd {nm : ByteArray} (h : ownB nm = true) : Gd (langW nm) (langW nm) := Gd.cons (plW_long (by simp)) (Gd.one (own_plain h))
theorem tok_gd {t : DToken} (h : tokB t = true) : Gd (tokW t) (tokW t) := by
  unfold tokB at h
  simp only [Bool.and_eq_true] at h
  refine Gd.cons (plW_long ?_) (Gd.cons (own_plain h.1) (Gd.one (plW_long (by simp))))
  split <;> simp
theorem lev_gd (t : DLevel) : Gd (levW t) (levW t) := by
  refine Gd.cons (plW_long ?_) ?_
  · unfold ascW; repeat' split
    all_goals simp
  · have : ∀ l : List ByteArray, Gd (l.map quoW) (l.map quoW) := by
      intro l
      induction l with
      | nil => exact Gd.nil
      | cons x r ih => exact Gd.cons (quo_plain x) ih
    exact this _
theorem lab_gd {a : DGAlt} (h : altB a = true) : Gd (labG a.label) (labG a.label) := by
  unfold labG
  split
  · exact Gd.nil
  · rename_i hn
    unfold altB at h
    simp only [Bool.or_eq_true, decide_eq_true_eq] at h
    rcases h with h | h
    · exact absurd h hn
    · exact Gd.cons (plW_first (c := 35) (r := []) rfl (by decide)) (Gd.one (own_plain h))
theorem Gok.rule_gd {d : DGrammar} (h : Gok d) (i : Nat) (hi : i < d.rules.length) : Gd (d.rules[i].name :: ⟨#[61]⟩ :: bars (altF (flI d.parts d.parts.length)) d.rules[i].alts) (sayR d.parts d.parts.length d.rules[i]) := by
  have hr := h.rul i hi
  unfold rulB at hr
  simp only [Bool.and_eq_true, List.all_eq_true] at hr
  obtain ⟨e1, e2, h1, _⟩ := h.ord i hi
  refine Gd.cons (own_plain hr.1) (Gd.cons (plW_first (c := 61) (r := []) rfl (by decide)) (Gd.ofBars _ fun a ha => ?_))
  refine Gd.append ?_ (lab_gd (hr.2.2 a ha))
  obtain ⟨k, hk, rfl⟩ := List.mem_iff_getElem.1 ha
  obtain ⟨ea, eb, hit⟩ := sAlts_mem d.parts _ _ _ h1 k hk
  exact Gd.items d.parts _ _ _ _ _ hit
theorem line_text {T : ByteArray} {f s : List ByteArray} (h : Gd f s) : (wAll T true f).1 ++ ⟨#[59, 10]⟩ = T ++ lnT s := by
  rw [h T true, lnT, ← ba_assoc]; rfl

set_option maxHeartbeats 1600000 in
theorem cl53 (p : Nat) (nm : ByteArray) (v1 v2 v3 v4 : Value) (qw : Nat) (hn : nm.size ≤ 1048576) (A : ByteArray × Bool) (w : World) (h : Wr p [.string nm, v1, v2, v3, v4] A.1 A.2 w) (hb : Box w qw 101 [.pointer (some ⟨p, 0, none⟩)]) :
    Calls Tryz.prog 53 #[.pointer (some ⟨qw, 0, none⟩)] w fun e w' => WD p [.string nm, v1, v2, v3, v4] (wAll A.1 A.2 (langW nm)) w e w' := by
  have q1 : (ByteArray.mk #[108, 97, 110, 103, 117, 97, 103, 101]).size = 8 := rfl
  have hdr := (Below.refl w.heap.size w).drew
  have HV := (show Hid _ from two_cells ⟨#[108, 97, 110, 103, 117, 97, 103, 101]⟩ nm (by omega) (by omega) w.drew (h.still hdr))
  have C0 := h.cell4.1
  have Q0 : w.cell? ⟨qw, 0, none⟩ = some (.pointer (some ⟨p, 0, none⟩)) := hb.cell 0 (by simp)
  have Q1 : (w.alloc (.cells #[.string ⟨#[108, 97, 110, 103, 117, 97, 103, 101]⟩, .string nm] 9)).cell? ⟨qw, 0, none⟩ = some (.pointer (some ⟨p, 0, none⟩)) := by
    rw [(bel_alloc w _).cell (p := ⟨qw, 0, none⟩) hb.lt]; exact Q0
  have C1 : (w.alloc (.cells #[.string ⟨#[108, 97, 110, 103, 117, 97, 103, 101]⟩, .string nm] 9)).cell? ⟨p, 0, none⟩ = some (.string nm) := by
    rw [(bel_alloc w _).cell (p := ⟨p, 0, none⟩) h.lt]; exact C0
  have HF := (show Hid _ from Fr.drew (p := p) w)
  clear h hb
  go_enter Tryz.func53, Tryz.ntmps53
  go_wp2_with fail
  go_region_with (go_at_call 54; refine Calls.mono HV.out ?_; rintro e w1 ⟨rfl, h1, h2⟩; have HN := (show Hid _ from (⟨h1, HF.out.trans h2⟩ : _ ∧ _)); clear h1 h2)
  all_goals
    go_wp2_with fail
    refine bodyPost_end (v := .tuple #[]) (by simp [results, Tryz.results53]) rfl ?_
    exact ⟨rfl, HN.out.1, HN.out.2⟩
theorem cl55 (p : Nat) (gc : List Value) (t : DToken) (h1 : t.name.size ≤ 1048576) (h2 : t.rx.size ≤ 1048576) (qw qt : Nat) (A : ByteArray × Bool) (w : World) (h : Wr p gc A.1 A.2 w) (hb : Box w qw 101 [.pointer (some ⟨p, 0, none⟩)]) (ht : Box w qt 46 [.string t.name, .string t.rx, .bool t.skip]) :
    Calls Tryz.prog 55 #[.pointer (some ⟨qw, 0, none⟩), .pointer (some ⟨qt, 0, none⟩)] w fun e w' => WD p gc (wAll A.1 A.2 (tokW t)) w e w' := by
  have HV := (show Hid _ from wtok_any p gc t h1 h2 A w h)
  have Q0 : w.cell? ⟨qw, 0, none⟩ = some (.pointer (some ⟨p, 0, none⟩)) := hb.cell 0 (by simp)
  have T0 : w.cell? ⟨qt, 0, none⟩ = some (.string t.name) := ht.cell 0 (by simp)
  have T1 : w.cell? ⟨qt, 1, none⟩ = some (.string t.rx) := ht.cell 1 (by simp)
  have T2 : w.cell? ⟨qt, 2, none⟩ = some (.bool t.skip) := ht.cell 2 (by simp)
  clear h hb ht
  go_enter Tryz.func55, Tryz.ntmps55
  go_wp2_with fail
  refine Calls.mono HV.out ?_
  rintro e w1 ⟨rfl, h1, h2⟩
  have HN := (show Hid _ from (⟨h1, h2⟩ : _ ∧ _)); clear h1 h2
  go_wp2_with fail
  refine bodyPost_end (v := .tuple #[]) (by simp [results, Tryz.results55]) rfl ?_
  exact ⟨rfl, HN.out.1, HN.out.2⟩
theorem cl57 {S : Nat → Prop} (p : Nat) (gc : List Value) (t : DLevel) (v : Value) (W0 w : World) (hW : Below W0.heap.size W0 w) (hp : W0.heap.size ≤ p) (hS : Strs W0 S t.lits v) (hsz : ∀ i (hi : i < t.lits.length), t.lits[i].size ≤ 1048576) (qw qt : Nat) (A : ByteArray × Bool) (h : Wr p gc A.1 A.2 w) (hb : Box w qw 101 [.pointer (some ⟨p, 0, none⟩)]) (ht : Box w qt 49 [.int .i64 t.assoc, v]) :
    Calls Tryz.prog 57 #[.pointer (some ⟨qw, 0, none⟩), .pointer (some ⟨qt, 0, none⟩)] w fun e w' => WD p gc (wAll A.1 A.2 (levW t)) w e w' := by
  have HV := (show Hid _ from wlev_any p gc t v W0 w hW hp hS hsz A h)
  have Q0 : w.cell? ⟨qw, 0, none⟩ = some (.pointer (some ⟨p, 0, none⟩)) := hb.cell 0 (by simp)
  have T0 : w.cell? ⟨qt, 0, none⟩ = some (.int .i64 t.assoc) := ht.cell 0 (by simp)
  have T1 : w.cell? ⟨qt, 1, none⟩ = some v := ht.cell 1 (by simp)
  obtain ⟨a, cap, rfl, _⟩ := hS.form
  clear h hb ht hS hsz
  go_enter Tryz.func57, Tryz.ntmps57
  go_wp2_with fail
  refine Calls.mono HV.out ?_
  rintro e w1 ⟨rfl, h1, h2⟩
  have HN := (show Hid _ from (⟨h1, h2⟩ : _ ∧ _)); clear h1 h2
  go_wp2_with fail
  refine bodyPost_end (v := .tuple #[]) (by simp [results, Tryz.results57]) rfl ?_
  exact ⟨rfl, HN.out.1, HN.out.2⟩
theorem cl59 {S : Nat → Prop} (g : List Int → List ByteArray) (gc : List Value) (p : Nat) (r : DGRule) (v : Value) (W0 w : World) (hW : Below W0.heap.size W0 w) (hp : W0.heap.size ≤ p) (hA : GAltR W0 S r.alts v) (hnm : r.name.size ≤ 1048576) (hlb : ∀ k (hk : k < r.alts.length), r.alts[k].label.size ≤ 1048576)
    (hit : ∀ k (hk : k < r.alts.length) (w' : World) (v' : Value) (A : ByteArray × Bool), Below W0.heap.size W0 w' → Ints W0 S r.alts[k].items v' → Wr p gc A.1 A.2 w' → Calls Tryz.prog 88 #[.pointer (some ⟨p, 0, none⟩), v'] w' fun e w'' => WD p gc (wAll A.1 A.2 (g r.alts[k].items)) w' e w'')
    (qw qt : Nat) (A : ByteArray × Bool) (h : Wr p gc A.1 A.2 w) (hb : Box w qw 101 [.pointer (some ⟨p, 0, none⟩)]) (ht : Box w qt 54 [.string r.name, v]) :
    Calls Tryz.prog 59 #[.pointer (some ⟨qw, 0, none⟩), .pointer (some ⟨qt, 0, none⟩)] w fun e w' => WD p gc (wAll A.1 A.2 (r.name :: ⟨#[61]⟩ :: bars (altF g) r.alts)) w e w' := by
  have HV := (show Hid _ from wrule_any g gc p r v W0 w hW hp hA hnm hlb hit A h)
  have Q0 : w.cell? ⟨qw, 0, none⟩ = some (.pointer (some ⟨p, 0, none⟩)) := hb.cell 0 (by simp)
  have T0 : w.cell? ⟨qt, 0, none⟩ = some (.string r.name) := ht.cell 0 (by simp)
  have T1 : w.cell? ⟨qt, 1, none⟩ = some v := ht.cell 1 (by simp)
  obtain ⟨a, cap, rfl, _⟩ := hA.form
  clear h hb ht hA hit hlb
  go_enter Tryz.func59, Tryz.ntmps59
  go_wp2_with fail
  refine Calls.mono HV.out ?_
  rintro e w1 ⟨rfl, h1, h2⟩
  have HN := (show Hid _ from (⟨h1, h2⟩ : _ ∧ _)); clear h1 h2
  go_wp2_with fail
  refine bodyPost_end (v := .tuple #[]) (by simp [results, Tryz.results59]) rfl ?_
  exact ⟨rfl, HN.out.1, HN.out.2⟩
end Go.Proofs.YtgjnlhidbjpdkajGreat
