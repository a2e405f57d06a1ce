import Derived.Test.YtpmlagenakcdfaaWds
import Derived.Test.YtpmlagenakcdfaaMk4
import Derived.Test.YtpmlagenakcdfaaSbq
/-! Words of a text as numbers: what is answered; the name of a word's Term; its number. -/
namespace Go.Proofs.Ytpmlagenakcdfaa
open Go.RowKit Go.Deep
set_option linter.unusedVariables false
set_option maxRecDepth 100000
set_option linter.unusedSimpArgs false

def litB : ByteArray := ⟨#[76, 105, 116]⟩
theorem litB_list : litB.toList = [76, 105, 116] := by rw [ByteArray.toList_eq]; rfl
def quoB : ByteArray := ⟨#[39]⟩
/-- The name of the Term that a word stands for. -/
def tn (x : Wd) : ByteArray := if x.name = litB then quoB ++ x.text ++ quoB else x.name
/-- The first place of a text. -/
def fnd : List ByteArray → ByteArray → Option Nat
  | [], _ => none
  | x :: r, t => if x = t then some 0 else (fnd r t).map (· + 1)
theorem fnd_none {l : List ByteArray} {t : ByteArray} (h : fnd l t = none) : t ∉ l := by
  induction l with
  | nil => simp
  | cons x r ih =>
    unfold fnd at h
    by_cases e : x = t
    · rw [if_pos e] at h; cases h
    · rw [if_neg e, Option.map_eq_none_iff] at h
      intro hm
      rcases List.mem_cons.1 hm with rfl | h2
      · exact e rfl
      · exact ih h h2
theorem fnd_some {l : List ByteArray} {t : ByteArray} {i : Nat} (h : fnd l t = some i) : ∃ hi : i < l.length, l[i] = t ∧ ∀ k (hk : k < l.length), k < i → l[k] ≠ t := by
  induction l generalizing i with
  | nil => cases h
  | cons x r ih =>
    unfold fnd at h
    by_cases e : x = t
    · rw [if_pos e] at h
      obtain rfl : 0 = i := by simpa using h
      exact ⟨by simp, by simpa using e, fun k hk h0 => absurd h0 (Nat.not_lt_zero _)⟩
    · rw [if_neg e, Option.map_eq_some_iff] at h
      obtain ⟨i', h1, rfl⟩ := h
      obtain ⟨hi, h2, h3⟩ := ih h1
      refine ⟨by simp; omega, by simpa using h2, fun k hk hlt => ?_⟩
      cases k with
      | zero => simpa using e
      | succ k => simpa using h3 k (by simpa using hk) (by omega)
/-- Word by word. -/
def tmGo (nm : List ByteArray) : List Wd → Nat → List Int → List Int → List Int × List Int × Int
  | [], _, ts, ps => (ts, ps, 0)
  | x :: r, p, ts, ps => if x.skip = true then tmGo nm r (p + 1) ts ps else match fnd nm (tn x) with
    | none => ([], [], 8)
    | some i => tmGo nm r (p + 1) (ts ++ [(i : Int)]) (ps ++ [(p : Int)])
theorem drop_at {l : List Wd} {j : Nat} (h : j < l.length) : l.drop j = l[j] :: l.drop (j + 1) := List.drop_eq_getElem_cons h
theorem tmGo_skip {nm : List ByteArray} {l : List Wd} {j : Nat} {ts ps : List Int} (h : j < l.length) (hs : l[j].skip = true) : tmGo nm (l.drop j) j ts ps = tmGo nm (l.drop (j + 1)) (j + 1) ts ps := by
  rw [drop_at h, tmGo, if_pos hs]
theorem tmGo_none {nm : List ByteArray} {l : List Wd} {j : Nat} {ts ps : List Int} (h : j < l.length) (hs : l[j].skip = false) (hf : fnd nm (tn l[j]) = none) : tmGo nm (l.drop j) j ts ps = ([], [], 8) := by
  rw [drop_at h, tmGo, if_neg (by rw [hs]; simp), hf]
theorem tmGo_some {nm : List ByteArray} {l : List Wd} {j i : Nat} {ts ps : List Int} (h : j < l.length) (hs : l[j].skip = false) (hf : fnd nm (tn l[j]) = some i) : tmGo nm (l.drop j) j ts ps = tmGo nm (l.drop (j + 1)) (j + 1) (ts ++ [(i : Int)]) (ps ++ [(j : Int)]) := by
  rw [drop_at h, tmGo, if_neg (by rw [hs]; simp), hf]
theorem tmGo_end {nm : List ByteArray} {l : List Wd} {j : Nat} {ts ps : List Int} (h : l.length ≤ j) : tmGo nm (l.drop j) j ts ps = (ts, ps, 0) := by
  rw [List.drop_eq_nil_of_le h, tmGo]
/-- What Terminals answers. -/
def nms (d : Bn) : List ByteArray := d.terms.map (·.name)
def tmR (d : Bn) (l : List Wd) : List Int × List Int × Int := if bnB d = true ∧ l.length ≤ 1000 then tmGo (nms d) l 0 [] [] else ([], [], 1)

set_option maxHeartbeats 800000 in
theorem quoted_any (s : ByteArray) (w : World) (hs : s.size ≤ 1048576) : Calls Try.prog 100 #[.string s] w fun e w' => e = .returned (.string (quoB ++ s ++ quoB)) ∧ w' = w := by
  go_enter Try.func100, Try.ntmps100
  go_wp2_with fail
  go_ret
  exact ⟨rfl, rfl⟩
set_option maxHeartbeats 800000 in
theorem termName_any (x : Wd) (w : World) (hs : x.text.size ≤ 1048576) :
    Calls Try.prog 85 #[.agg #[.string x.name, .string x.text, .int .i64 x.at_, .int .i64 x.reach, .bool x.skip, .string x.modes]] w fun e w' => e = .returned (.string (tn x)) ∧ Below w.heap.size w w' := by
  have HQ := (show Hid _ from fun w => quoted_any x.text w hs)
  have HE := (show Hid _ from fun o => bel_alloc w o)
  by_cases he : x.name = litB
  · have ht : tn x = quoB ++ x.text ++ quoB := by unfold tn; rw [if_pos he]
    rw [ht, he]
    unfold litB
    go_enter Try.func85, Try.ntmps85
    go_wp2_with fail
    refine Calls.mono (HQ.out _) ?_
    rintro e w1 ⟨rfl, rfl⟩
    go_wp2_with fail
    go_ret
    exact ⟨rfl, HE.out _⟩
  · have ht : tn x = x.name := by unfold tn; rw [if_neg he]
    rw [ht]
    have hne := ne_bytes he
    rw [litB_list] at hne
    go_enter Try.func85, Try.ntmps85
    go_wp2_with fail
    go_ret
    exact ⟨rfl, HE.out _⟩
/-- The number that is told of a place. -/
def plc : Option Nat → Int
  | none => -1
  | some i => i
set_option maxHeartbeats 800000 in
theorem l03Term_any {S : Nat → Prop} (l : List Tm) (v : Value) (g : Nat) (t : ByteArray) (w : World) (h : Tms w S l v) (hg : w.cell? ⟨g, 5, none⟩ = some v) :
    Calls Try.prog 79 #[.pointer (some ⟨g, 0, none⟩), .string t] w fun e w' => e = .returned (.int .i64 (plc (fnd (l.map (·.name)) t))) ∧ w' = w := by
  obtain ⟨a, cap, b, off, rfl, hc, hm, ha, hcell⟩ := h
  have HC := (show Hid _ from hcell); clear hcell
  have HA := (show Hid _ from ha); clear ha
  unfold maxLen at hm
  generalize hR : fnd (l.map (·.name)) t = R
  have HR := (show Hid _ from hR); clear hR
  go_enter Try.func79, Try.ntmps79
  go_wp2_with fail
  go_loopw [5] (fun i wr => ∃ k : Nat, i = .int .i64 k ∧ k ≤ l.length ∧ Hid (∀ i (hi : i < l.length), i < k → l[i].name ≠ t) ∧ wr = w) (fun i _ => l.length - (intOf i).toNat)
  case atStart => exact ⟨0, rfl, Nat.zero_le _, fun i hi h0 => absurd h0 (Nat.not_lt_zero _), rfl⟩
  case round =>
    obtain ⟨k, rfl, hk, HK, rfl⟩ := hrel
    by_cases hkl : k < l.length
    · obtain ⟨rfl, _⟩ := HA.out (by omega)
      have c0 := (HC.out k hkl).1
      by_cases he : l[k].name = t
      · have HP : Hid (plc R = k) := by
          show plc R = k
          have h1 := HR.out
          cases R with
          | none => exact absurd (List.mem_map.2 ⟨l[k], List.getElem_mem hkl, he⟩) (fnd_none h1)
          | some i =>
            obtain ⟨hi, h2, h3⟩ := fnd_some h1
            simp only [List.getElem_map, List.length_map] at hi h2 h3
            show (i : Int) = k
            have h4 : ¬ i < k := fun hlt => HK.out i hi hlt h2
            have h5 : ¬ k < i := fun hlt => h3 k hkl hlt he
            omega
        rw [he] at c0
        clear he
        go_wp2_with fail
        go_ret
        exact ⟨by rw [HP.out]; rfl, rfl⟩
      · have HN : Hid (∀ i (hi : i < l.length), i < k + 1 → l[i].name ≠ t) := fun i hi hik => by
          by_cases e : i = k
          · subst e; exact he
          · exact HK.out i hi (by omega)
        have hbe := ne_bytes he
        clear he
        go_wp2_with fail
        exact ⟨⟨k + 1, by go_num, by omega, HN, trivial⟩, by simp [intOf]; omega⟩
    · have HP : Hid (plc R = -1) := by
        show plc R = -1
        have h1 := HR.out
        cases R with
        | none => rfl
        | some i =>
          obtain ⟨hi, h2, h3⟩ := fnd_some h1
          simp only [List.getElem_map, List.length_map] at hi h2 h3
          exact absurd h2 (HK.out i hi (by omega))
      go_wp2_with fail
      go_ret
      exact ⟨by rw [HP.out]; rfl, rfl⟩
end Go.Proofs.Ytpmlagenakcdfaa
