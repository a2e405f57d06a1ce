import Derived.Test.YtokncahlcphhnaaTb
import Derived.Test.YtokncahlcphhnaaLb
import Derived.Lib.AppendStr
import Derived.Lib.ConvBytes
import Derived.Laws.BytesString
/-! A layout as text: what both sides need of bytes, groups and truth values. -/
namespace Go.Proofs.Ytokncahlcphhnaa
open Go.RowKit Go.Deep Go.Lib
set_option linter.unusedVariables false
set_option maxRecDepth 100000
set_option linter.unusedSimpArgs false

theorem strCells_u8 (s : ByteArray) : strCells s = u8 s.data.toList := by simp [strCells, u8]
/-- A text's bytes behind a row: where the row is. -/
theorem append_str {w : World} {B n : Nat} {v : Value} {xs : List Value} (hown : w.ownsRow B 5 1 v n xs) (s : ByteArray) (ty : TypeId) (h63 : n + s.size ≤ 140737488355328) (hbase : B ≤ w.heap.size) :
    ∃ v' w', (Builtin.append_ #[69, 9] ty #[v, .string s]).run Try.prog w = .ok v' w' ∧ w'.ownsRow B 5 1 v' (n + s.size) (xs ++ u8 s.data.toList) ∧ w.grownBy w' v.ownBlock ∧ (v'.ownBlock = v.ownBlock ∨ ∃ x, v'.ownBlock = some x ∧ w.heap.size ≤ x) := by
  obtain ⟨i5, hi5, hzz⟩ := Option.map_eq_some_iff.1 info5
  simp only [Prod.mk.injEq] at hzz
  obtain ⟨hz0, hz1, hz2⟩ := hzz
  obtain ⟨v', w', hr, h2, h3, h4⟩ := run_append_own_string (P := Try.prog) w B 69 9 ty 5 i5 Try.underlying69 Try.underlying9 hi5 hz0 hz1 hz2 v n xs hown s (by unfold maxLen; omega) h63 hbase
  refine ⟨v', w', hr, by rw [← strCells_u8]; exact h2, h3, ?_⟩
  have hxl : xs.length = n := by simpa using hown.1
  rcases hown.2 with ⟨rfl, rfl⟩ | ⟨g, cap, cur, rfl, hbg, hg, hnc, hcm, hcs, htake⟩
  · by_cases hm : s.size = 0
    · left; rw [h4.2 ⟨rfl, hm⟩]
    · right
      have hr2 := run_append_nil_string (P := Try.prog) w 69 9 ty 5 i5 (.int .u8 0) Try.underlying69 Try.underlying9 hi5 hz0 s (by omega) (by omega) (by rw [hz2]; omega)
      rw [hr2] at hr
      injection hr with e1 _
      exact ⟨w.heap.size, by rw [← e1]; rfl, Nat.le_refl _⟩
  · by_cases hroom : n + s.size ≤ cap
    · left
      have hcs' : cur.size = cap := by simpa using hcs
      have hr2 := run_append_room_string (P := Try.prog) w 69 9 ty 5 i5 Try.underlying69 Try.underlying9 hi5 hz1 g n cap cur hg s hroom (by omega)
      rw [hr2] at hr
      injection hr with e1 _
      rw [← e1]; rfl
    · right
      have holds : ∀ j u, xs[j]? = some u → w.cell? ((⟨g, 0, none⟩ : Addr).add j) = some u := hown.cells (g := g) rfl
      have hr2 := run_append_grow_string (P := Try.prog) w 69 9 ty 5 i5 (.int .u8 0) Try.underlying69 Try.underlying9 hi5 hz0 ⟨g, 0, none⟩ n cap xs (by rw [hz1]; simpa using hxl) holds s (by omega) (by omega) (by rw [hz2]; exact growslice_fits (by omega) (by omega))
      rw [hr2] at hr
      injection hr with e1 _
      exact ⟨w.heap.size, by rw [← e1]; rfl, Nat.le_refl _⟩
/-- A text as bytes of its own. -/
theorem conv_bytes (w : World) (s : ByteArray) : ∃ (cp : Nat) (W : World), (convert 9 69 (.string s)).run Try.prog w = .ok (.slice (some ⟨w.heap.size, 0, none⟩) s.size cp) W ∧ Below w.heap.size w W ∧ W.heap.size = w.heap.size + 1 ∧ ∀ j u, (u8 s.data.toList)[j]? = some u → W.cell? ((⟨w.heap.size, 0, none⟩ : Addr).add j) = some u := by
  refine ⟨_, _, Lib.run_convert_string_bytes (P := Try.prog) w 9 69 5 s Try.underlying9 Try.underlying69 Try.underlying5, ⟨?_, ?_, ?_, ?_, fun k hk => bytesWorld_at_old w 5 s k hk⟩, bytesWorld_size w 5 s, fun j u hu => ?_⟩
  · rfl
  · rfl
  · rfl
  · rw [bytesWorld_size]; omega
  · have hj : j < s.size := by
      have h1 := (List.getElem?_eq_some_iff.1 hu).1
      rw [u8_len] at h1
      exact h1
    have h1 := bytesWorld_cell w 5 s j hj
    rw [WideShapes.add_plain, Nat.zero_add, h1]
    have hj2 : j < s.data.toList.length := hj
    simp [u8, List.getD_eq_getElem?_getD, hj2] at hu ⊢
    obtain ⟨x, hx, rfl⟩ := hu
    rw [hx]; rfl
theorem ba_ext {a b : ByteArray} (h : a.data.toList = b.data.toList) : a = b := by
  cases a; cases b
  congr 1
  exact Array.ext' h
theorem ba_push_all (l : List UInt8) : ∀ s : ByteArray, (l.map fun b => ((b.toNat : Nat) : Int)).foldl (fun r n => r.push (UInt8.ofNat n.toNat)) s = s ++ (⟨l.toArray⟩ : ByteArray) := by
  induction l with
  | nil => intro s; exact (ba_ext (by simp)).symm
  | cons c r ih =>
    intro s
    simp only [List.map_cons, List.foldl_cons]
    rw [ih]
    refine ba_ext ?_
    simp [ByteArray.push]
/-- 'string(bytes)' of a row that the call owns. -/
theorem conv_text {B : Nat} {w : World} {v : Value} {l : List UInt8} (h : w.ownsRow B 5 1 v l.length (u8 l)) : (convert 69 9 v).run Try.prog w = .ok (.string ⟨l.toArray⟩) w := by
  obtain ⟨hl, h⟩ := h
  rcases h with ⟨rfl, h0⟩ | ⟨g, cap, cur, rfl, _, hg, hc, _, hsz, htk⟩
  · have hl0 : l = [] := List.length_eq_zero_iff.1 h0
    subst hl0
    rw [run_convert_bytes_string w 69 9 5 none 0 0 Try.underlying69 Try.underlying5 Try.underlying9]
    simp [Conv.bytesToString, Sem.run_pure]
    rfl
  · rw [run_convert_bytes_string w 69 9 5 _ _ _ Try.underlying69 Try.underlying5 Try.underlying9]
    have hload : (loadCells ⟨g, 0, none⟩ l.length).run Try.prog w = .ok ((l.map fun b => ((b.toNat : Nat) : Int)).map (Value.int .u8)).toArray w := by
      have e : ((l.map fun b => ((b.toNat : Nat) : Int)).map (Value.int .u8)) = u8 l := by simp [u8, Function.comp_def]
      rw [e]
      have := run_loadCells_list (P := Try.prog) w ⟨g, 0, none⟩ (u8 l) (fun j u hu => by
        rw [WideShapes.add_plain, Nat.zero_add, cell_of_row w g j cur 5 (0, 0) hg]
        rw [← htk] at hu
        rw [List.getElem?_take] at hu
        split at hu
        · simpa using hu
        · simp at hu)
      rw [u8_len] at this
      exact this
    rw [run_bytesToString w ⟨g, 0, none⟩ l.length cap _ hload, ba_push_all]
    simp
/-- Truth values that lie behind a slice. -/
def Bls (w : World) (S : Nat → Prop) (l : List Bool) (v : Value) : Prop :=
  ∃ (a : Option Addr) (cap b off : Nat), v = .slice a l.length cap ∧ l.length ≤ cap ∧ cap ≤ maxLen ∧ (0 < l.length → a = some ⟨b, off, none⟩ ∧ S b) ∧ ∀ i (hi : i < l.length), w.cell? ⟨b, off + i, none⟩ = some (.bool l[i])
theorem Bls.still {w w' : World} {S : Nat → Prop} {l : List Bool} {v : Value} (h : Bls w S l v) (hb : Below w.heap.size w w') : Bls w' S l v := by
  obtain ⟨a, cap, b, off, hv, hc, hm, ha, hcell⟩ := h
  exact ⟨a, cap, b, off, hv, hc, hm, ha, fun i hi => (hb.cell (lt_of_cell (hcell i hi))).trans (hcell i hi)⟩
theorem Bls.form {w : World} {S : Nat → Prop} {l : List Bool} {v : Value} (h : Bls w S l v) : ∃ a cap, v = .slice a l.length cap ∧ l.length ≤ maxLen := by
  obtain ⟨a, cap, b, off, hv, hc, hm, _⟩ := h
  exact ⟨_, _, hv, by omega⟩
/-- The first so many nodes. -/
theorem LNodeR.take {w : World} {S : Nat → Prop} {l : List DLNode} {b off cap i : Nat} (h : LNodeR w S l (.slice (some ⟨b, off, none⟩) l.length cap)) (hi : i ≤ l.length) : LNodeR w S (l.take i) (.slice (some ⟨b, off, none⟩) i cap) := by
  obtain ⟨a, cap', b', off', s3, hv, hc, hm, ha, hcell, r3⟩ := h
  have e1 : a = some ⟨b, off, none⟩ := by injection hv with e _ _; exact e.symm
  have e2 : cap' = cap := by injection hv with _ _ e; exact e.symm
  subst e2
  have hlen : (l.take i).length = i := by simp; omega
  refine ⟨some ⟨b, off, none⟩, cap', b', off', s3, by rw [hlen], by omega, hm, fun h0 => ?_, fun j hj => ?_, fun j hj => ?_⟩
  · rw [hlen] at h0
    obtain ⟨h1, h2⟩ := ha (by omega)
    rw [e1] at h1
    exact ⟨h1, h2⟩
  · rw [hlen] at hj
    have := hcell j (by omega)
    simpa [List.getElem_take] using this
  · rw [hlen] at hj
    have := r3 j (by omega)
    simpa [List.getElem_take] using this
theorem gpl_lt {l : List DLNode} {i : Nat} (hi : i < l.length) (hk : l[i].kind = 6) : (gpl l i).length < (gpl l l.length).length := by
  have h1 : ∀ j, i + 1 ≤ j → (gpl l (i + 1)).length ≤ (gpl l j).length := by
    intro j hj
    induction j with
    | zero => omega
    | succ j ih =>
      by_cases e : i + 1 = j + 1
      · rw [e]; exact Nat.le_refl _
      · have h2 := ih (by omega)
        by_cases h3 : (l.getD j zN).kind = 6
        · rw [gpl_yes h3, List.length_append]; omega
        · rw [gpl_no h3]; exact h2
  have h2 := h1 l.length (by omega)
  rw [gpl_yes (by rw [getZ hi]; exact hk), List.length_append] at h2
  simp at h2
  omega
set_option maxHeartbeats 800000 in
theorem group50 {S : Nat → Prop} (l : List DLNode) (b off cap p i : Nat) (bv ov : Value) (w : World) (h : LNodeR w S l (.slice (some ⟨b, off, none⟩) l.length cap)) (hi : i < l.length)
    (q0 : w.cell? ⟨p, 0, none⟩ = some (.slice (some ⟨b, off, none⟩) l.length cap)) :
    Calls Try.prog 50 #[.pointer (some ⟨p, 0, none⟩), .int .i64 i] w fun e w' => e = .returned (.int .i64 (gpl l i).length) ∧ w' = w := by
  have hg := groups19 (l.take i) _ w (h.take (i := i) (by omega))
  have e1 : (l.take i).length = i := by simp; omega
  rw [e1, gpl_take i (Nat.le_refl _)] at hg
  have HG := (show Hid _ from hg); clear hg e1
  have hc : l.length ≤ cap := by obtain ⟨a, cap', b', off', s3, hv, hc, _⟩ := h; injection hv with _ _ e; omega
  have hm : cap ≤ maxLen := by obtain ⟨a, cap', b', off', s3, hv, hc, hm, _⟩ := h; injection hv with _ _ e; omega
  unfold maxLen at hm
  clear h
  generalize (gpl l i).length = G at *
  go_enter Try.func50, Try.ntmps50
  go_wp2_with fail
  refine Calls.mono HG.out ?_
  rintro e w1 ⟨rfl, rfl⟩
  go_wp2_with fail
  go_ret
  exact ⟨rfl, rfl⟩
end Go.Proofs.Ytokncahlcphhnaa
