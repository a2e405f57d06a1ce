import Derived.Test.YtgjnlhidbjpdkajGreatW5
import Derived.Test.YtgjnlhidbjpdkajGreatW6
/-! The program's writer: several words, a bar, a token, a level. -/
namespace Go.Proofs.YtgjnlhidbjpdkajGreat
open Go.RowKit Go.Deep Go.Lib
set_option linter.unusedVariables false
set_option maxRecDepth 100000
set_option linter.unusedSimpArgs false

/-- It is done: the words stand there. -/
def WD (p : Nat) (gc : List Value) (A : ByteArray × Bool) (w : World) (e : Ending) (w' : World) : Prop := e = .returned (.tuple #[]) ∧ Wr p gc A.1 A.2 w' ∧ Fr p w w'
theorem word_one (p : Nat) (gc : List Value) (x : ByteArray) (hx : x.size ≤ 4294967296) (A : ByteArray × Bool) (w : World) (h : Wr p gc A.1 A.2 w) :
    Calls Tryz.prog 85 #[.pointer (some ⟨p, 0, none⟩), .string x] w fun e w' => WD p gc (wAll A.1 A.2 [x]) w e w' := word_any p gc x hx A.1 A.2 w h
theorem wAll_step {A : ByteArray × Bool} {x : ByteArray} {l : List ByteArray} : wAll (wAll A.1 A.2 [x]).1 (wAll A.1 A.2 [x]).2 l = wAll A.1 A.2 (x :: l) := rfl

set_option maxHeartbeats 1600000 in
theorem wds_any (p : Nat) (gc : List Value) (l : List ByteArray) (hl : ∀ x ∈ l, x.size ≤ 4294967296) (q off cap : Nat) (hcap : l.length ≤ cap) (hm : cap ≤ 1048576) (A : ByteArray × Bool) (w : World) (h : Wr p gc A.1 A.2 w)
    (hc : ∀ w', Fr p w w' → ∀ i (hi : i < l.length), w'.cell? ⟨q, off + i, none⟩ = some (.string l[i])) :
    Calls Tryz.prog 54 #[.pointer (some ⟨p, 0, none⟩), .slice (some ⟨q, off, none⟩) l.length cap] w fun e w' => WD p gc (wAll A.1 A.2 l) w e w' := by
  have HC := (show Hid _ from hc); clear hc
  have H0 := (show Hid _ from h); clear h
  have HL := (show Hid _ from hl); clear hl
  go_enter Tryz.func54, Tryz.ntmps54
  go_wp2_with fail
  go_loopw [8] (fun i wr => ∃ j : Nat, i = .int .i64 j ∧ j ≤ l.length ∧ Hid (∃ B : ByteArray × Bool, Wr p gc B.1 B.2 wr ∧ Fr p w wr ∧ wAll B.1 B.2 (l.drop j) = wAll A.1 A.2 l)) (fun i _ => l.length - (intOf i).toNat)
  case atStart => exact ⟨0, rfl, Nat.zero_le _, A, H0.out, Fr.refl _ _, rfl⟩
  case round =>
    obtain ⟨j, rfl, hj, HR⟩ := hrel
    by_cases hlt : j < l.length
    · have hlt' := hlt
      obtain ⟨B, hB, hF, hE⟩ := HR.out
      have c0 := HC.out wr hF j hlt'
      rw [List.drop_eq_getElem_cons hlt'] at hE
      have HE := (show Hid _ from (⟨hF, hE⟩ : _ ∧ _)); clear hE hF HR
      have HW := (show Hid _ from word_one p gc l[j] (HL.out _ (List.getElem_mem hlt')) B wr hB); clear hB
      generalize l[j] = x at *
      go_wp2_with fail
      refine Calls.mono HW.out ?_
      rintro e w1 ⟨rfl, h1, h2⟩
      have HN : Hid (∃ B : ByteArray × Bool, Wr p gc B.1 B.2 w1 ∧ Fr p w w1 ∧ wAll B.1 B.2 (l.drop (j + 1)) = wAll A.1 A.2 l) := ⟨_, h1, HE.out.1.trans h2, HE.out.2⟩
      clear h1 h2 c0 HW HE
      go_wp2_with fail
      exact ⟨⟨j + 1, by go_num, by omega, HN⟩, by simp [intOf]; omega⟩
    · obtain ⟨B, hB, hF, hE⟩ := HR.out
      rw [List.drop_eq_nil_of_le (by omega)] at hE
      have HN := (show Hid _ from (⟨hB, hF, hE⟩ : _ ∧ _ ∧ _)); clear hB hF hE
      go_wp2_with fail
      refine bodyPost_end (v := .tuple #[]) (by simp [results, Tryz.results54]) rfl ?_
      refine ⟨rfl, ?_, HN.out.2.1⟩
      rw [← HN.out.2.2]
      exact HN.out.1
/-- A bar ahead of each but the first. -/
def barL (k : Nat) : List ByteArray := if 0 < k then [⟨#[124]⟩] else []
theorem wbar_any (p : Nat) (gc : List Value) (k : Nat) (A : ByteArray × Bool) (w : World) (h : Wr p gc A.1 A.2 w) :
    Calls Tryz.prog 87 #[.pointer (some ⟨p, 0, none⟩), .int .i64 k] w fun e w' => WD p gc (wAll A.1 A.2 (barL k)) w e w' := by
  have H0 := (show Hid _ from h)
  have HW := (show Hid _ from word_one p gc ⟨#[124]⟩ (by show 1 ≤ 4294967296; omega) A w h); clear h
  unfold barL
  go_enter Tryz.func87, Tryz.ntmps87
  by_cases hk : 0 < k
  · have hd : decide ((0 : Int) < k) = true := by simp; omega
    rw [if_pos hk]
    go_wp2_with fail
    refine Calls.mono HW.out ?_
    rintro e w1 ⟨rfl, h1, h2⟩
    have HN := (show Hid _ from (⟨h1, h2⟩ : _ ∧ _)); clear h1 h2
    go_wp2_with fail
    refine bodyPost_end (v := .tuple #[]) (by simp [results, Tryz.results87]) rfl ?_
    exact ⟨rfl, HN.out.1, HN.out.2⟩
  · have hd : decide ((0 : Int) < k) = false := by simp; omega
    rw [if_neg hk]
    go_wp2_with fail
    refine bodyPost_end (v := .tuple #[]) (by simp [results, Tryz.results87]) rfl ?_
    exact ⟨rfl, H0.out, Fr.refl _ _⟩
/-- A row that was made just now. -/
theorem made_cells {p : Nat} (w : World) (T : Nat) (cs : List Value) (l : List ByteArray) (hcs : cs = sc l) (hT : T ≠ 5) (hp : p < w.heap.size) : ∀ w', Fr p (w.alloc (.cells cs.toArray T)) w' → ∀ i (hi : i < l.length), w'.cell? ⟨w.heap.size, 0 + i, none⟩ = some (.string l[i]) := by
  intro w' hf i hi
  subst hcs
  have hb := hf.box (Box.new w T (sc l)) (by omega) hT
  have := hb.cell i (by rw [sc_len]; exact hi)
  rw [Nat.zero_add, this]
  simp [sc, List.getD_eq_getElem?_getD, hi]
theorem Wr.lt {p : Nat} {gc : List Value} {T : ByteArray} {G : Bool} {w : World} (h : Wr p gc T G w) : p < w.heap.size := by
  obtain ⟨_, _, h, _⟩ := h
  exact h.lt
theorem Wr.still {p : Nat} {gc : List Value} {T : ByteArray} {G : Bool} {w w' : World} (h : Wr p gc T G w) (hb : Below w.heap.size w w') : Wr p gc T G w' := by
  obtain ⟨out, gl, ⟨h5, a, cap, hB, hO⟩, r⟩ := h
  exact ⟨out, gl, ⟨h5, a, cap, hB.still hb, own_still hO hb⟩, r⟩
/-- A token's words. -/
def tokW (t : DToken) : List ByteArray := [if t.skip then ⟨#[115, 107, 105, 112]⟩ else ⟨#[116, 111, 107, 101, 110]⟩, t.name, ⟨#[126]⟩ ++ t.rx ++ ⟨#[126]⟩]
theorem tokW_le (t : DToken) (h1 : t.name.size ≤ 1048576) (h2 : t.rx.size ≤ 1048576) : ∀ x ∈ tokW t, x.size ≤ 4294967296 := by
  intro x hx
  have q1 : (ByteArray.mk #[126]).size = 1 := rfl
  have q2 : (if t.skip = true then (⟨#[115, 107, 105, 112]⟩ : ByteArray) else ⟨#[116, 111, 107, 101, 110]⟩).size ≤ 5 := by split <;> decide
  unfold tokW at hx
  simp only [List.mem_cons, List.not_mem_nil, or_false] at hx
  rcases hx with rfl | rfl | rfl
  · omega
  · omega
  · simp only [ByteArray.size_append, q1]; omega
set_option maxHeartbeats 1600000 in
theorem wtok_any (p : Nat) (gc : List Value) (t : DToken) (h1 : t.name.size ≤ 1048576) (h2 : t.rx.size ≤ 1048576) (A : ByteArray × Bool) (w : World) (h : Wr p gc A.1 A.2 w) :
    Calls Tryz.prog 56 #[.pointer (some ⟨p, 0, none⟩), .agg #[.string t.name, .string t.rx, .bool t.skip]] w fun e w' => WD p gc (wAll A.1 A.2 (tokW t)) w e w' := by
  have q1 : (ByteArray.mk #[126]).size = 1 := rfl
  have q2 : (ByteArray.mk #[115, 107, 105, 112]).size = 4 := rfl
  have q3 : (ByteArray.mk #[116, 111, 107, 101, 110]).size = 5 := rfl
  have hlt := h.lt
  have HF := (show Hid _ from fun (w : World) o (hp : p ≤ w.heap.size) => Fr.of_below (bel_alloc w o) hp)
  cases hs : t.skip
  · have hw := wds_any p gc (tokW t) (tokW_le t h1 h2) (w.heap.size + 1) 0 3 (by simp [tokW]) (by omega) A _ ((h.still (bel_alloc w (.cells #[.string t.name, .string t.rx, .bool false] 46))).still (bel_alloc _ (.cells #[.string ⟨#[116, 111, 107, 101, 110]⟩, .string t.name, .string (⟨#[126]⟩ ++ t.rx ++ ⟨#[126]⟩)] 9)))
      (by
        have := made_cells (p := p) (w.alloc (.cells #[.string t.name, .string t.rx, .bool false] 46)) 9 [.string ⟨#[116, 111, 107, 101, 110]⟩, .string t.name, .string (⟨#[126]⟩ ++ t.rx ++ ⟨#[126]⟩)] (tokW t) (by simp [tokW, sc, hs]) (by decide) (by simp; omega)
        simpa using this)
    have HW := (show Hid _ from hw); clear hw
    have e3 : (tokW t).length = 3 := rfl
    rw [e3] at HW
    clear h
    go_enter Tryz.func56, Tryz.ntmps56
    go_wp2_with fail
    refine Calls.mono HW.out ?_
    rintro e w1 ⟨rfl, h1, h2⟩
    have HN := (show Hid _ from (⟨h1, (HF.out w (.cells #[.string t.name, .string t.rx, .bool false] 46) (by omega)).trans ((HF.out _ _ (by simp; omega)).trans h2)⟩ : _ ∧ _)); clear h1 h2
    go_wp2_with fail
    refine bodyPost_end (v := .tuple #[]) (by simp [results, Tryz.results56]) rfl ?_
    exact ⟨rfl, HN.out.1, HN.out.2⟩
  · have hw := wds_any p gc (tokW t) (tokW_le t h1 h2) (w.heap.size + 1) 0 3 (by simp [tokW]) (by omega) A _ ((h.still (bel_alloc w (.cells #[.string t.name, .string t.rx, .bool true] 46))).still (bel_alloc _ (.cells #[.string ⟨#[115, 107, 105, 112]⟩, .string t.name, .string (⟨#[126]⟩ ++ t.rx ++ ⟨#[126]⟩)] 9)))
      (by
        have := made_cells (p := p) (w.alloc (.cells #[.string t.name, .string t.rx, .bool true] 46)) 9 [.string ⟨#[115, 107, 105, 112]⟩, .string t.name, .string (⟨#[126]⟩ ++ t.rx ++ ⟨#[126]⟩)] (tokW t) (by simp [tokW, sc, hs]) (by decide) (by simp; omega)
        simpa using this)
    have HW := (show Hid _ from hw); clear hw
    have e3 : (tokW t).length = 3 := rfl
    rw [e3] at HW
    clear h
    go_enter Tryz.func56, Tryz.ntmps56
    go_wp2_with fail
    refine Calls.mono HW.out ?_
    rintro e w1 ⟨rfl, h1, h2⟩
    have HN := (show Hid _ from (⟨h1, (HF.out w (.cells #[.string t.name, .string t.rx, .bool true] 46) (by omega)).trans ((HF.out _ _ (by simp; omega)).trans h2)⟩ : _ ∧ _)); clear h1 h2
    go_wp2_with fail
    refine bodyPost_end (v := .tuple #[]) (by simp [results, Tryz.results56]) rfl ?_
    exact ⟨rfl, HN.out.1, HN.out.2⟩
end Go.Proofs.YtgjnlhidbjpdkajGreat
