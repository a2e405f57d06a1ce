import Derived.Test.YtanbdfeoijflaaaDoorLf
import Derived.Shelf.Strings.Shaped
import Derived.Shelf.Strings.SplitShaped
import Derived.Shelf.Strconv.Atoi
import Derived.Lib.SplitLaws
/-! Reading a program: what comes from the shelf, and what it means. -/
namespace Go.Proofs
open Go.Shelf
shelf_lay LaysM.n145 Nm 145 at Tryd as Tryd.laysCut
shelf_lay LaysM.n146 Nm 146 at Tryd as Tryd.laysSplit
shelf_lay Lays.n172 Nm 172 at Tryd as Tryd.laysAtoi
end Go.Proofs
namespace Go.Proofs.YtanbdfeoijflaaaDoor
open Go.RowKit Go.Deep Go.Lib Go.Shelf
set_option linter.unusedVariables false
set_option maxRecDepth 100000

/-- What stands before the first c, and behind it. -/
def pre (c : UInt8) : List UInt8 → List UInt8
  | [] => []
  | b :: l => if b = c then [] else b :: pre c l
def post (c : UInt8) : List UInt8 → List UInt8
  | [] => []
  | b :: l => if b = c then l else post c l
/-- The pieces between the c's. -/
def spl (c : UInt8) : List UInt8 → List (List UInt8)
  | [] => [[]]
  | b :: l => if b = c then [] :: spl c l else (b :: (spl c l).headD []) :: (spl c l).tail
theorem spl_ne (c : UInt8) (l : List UInt8) : spl c l ≠ [] := by
  cases l with
  | nil => simp [spl]
  | cons b l => unfold spl; split <;> simp
theorem idx_pre (c : UInt8) (l : List UInt8) : indexByte l c = if c ∈ l then (((pre c l).length : Nat) : Int) else -1 := by
  induction l with
  | nil => rfl
  | cons b l ih =>
    unfold indexByte pre
    rw [ih]
    by_cases h : b = c
    · subst h; simp
    · rw [if_neg h]
      have h2 : ¬ c = b := fun e => h e.symm
      have hb : (b == c) = false := by simpa using h
      by_cases hc : c ∈ l
      · simp [hb, hc]
      · simp [hb, hc, h2]
theorem take_pre (c : UInt8) (l : List UInt8) (h : c ∈ l) : l.take (pre c l).length = pre c l ∧ l.drop ((pre c l).length + 1) = post c l := by
  induction l with
  | nil => cases h
  | cons b l ih =>
    unfold pre post
    by_cases e : b = c
    · subst e; simp
    · rw [if_neg e, if_neg e]
      have h2 : c ∈ l := by
        rcases List.mem_cons.1 h with h1 | h1
        · exact absurd h1.symm e
        · exact h1
      obtain ⟨i1, i2⟩ := ih h2
      exact ⟨by simp [i1], by simpa using i2⟩
theorem cut_pre (c : UInt8) (l : List UInt8) : Lib.cut l [c] = if c ∈ l then (pre c l, post c l, true) else (l, [], false) := by
  unfold Lib.cut
  rw [index_one, idx_pre]
  by_cases h : c ∈ l
  · obtain ⟨h1, h2⟩ := take_pre c l h
    rw [if_pos h, if_pos h, if_pos (by omega)]
    simp only [Int.toNat_natCast, List.length_singleton, h1, h2]
  · rw [if_neg h, if_neg h, if_neg (by decide)]
theorem splitK_spl (c : UInt8) : ∀ (l : List UInt8) (k : Nat), Lib.count l [c] = k → Lib.splitK [c] 0 k l = spl c l := by
  intro l
  induction l with
  | nil =>
    intro k hk
    rw [count_one] at hk
    have : k = 0 := by simpa using hk.symm
    subst this
    rfl
  | cons b l ih =>
    intro k hk
    by_cases e : b = c
    · subst e
      rw [count_cons_eq] at hk
      obtain ⟨j, rfl⟩ : ∃ j, k = j + 1 := ⟨Lib.count l [b], by omega⟩
      have := ih j (by omega)
      unfold spl
      rw [if_pos rfl, ← this]
      have hi : Lib.index (b :: l) [b] = 0 := by rw [index_one]; simp [indexByte]
      have hs : Lib.splitK [b] 0 (j + 1) (b :: l) = if Lib.index (b :: l) [b] == -1 then [b :: l] else (b :: l).take ((Lib.index (b :: l) [b]).toNat + 0) :: Lib.splitK [b] 0 j ((b :: l).drop ((Lib.index (b :: l) [b]).toNat + [b].length)) := rfl
      rw [hs, hi]
      simp
    · rw [count_cons_ne b c l e] at hk
      have h := ih k hk
      unfold spl
      rw [if_neg e, ← h]
      cases k with
      | zero => simp [Lib.splitK]
      | succ k =>
        have hb : (b == c) = false := by simpa using e
        have hi : Lib.index (b :: l) [c] = if Lib.index l [c] == -1 then -1 else Lib.index l [c] + 1 := by
          rw [index_one, index_one]
          show (if (b == c) = true then (0 : Int) else _) = _
          rw [hb]
          simp
        have hg := Lib.index_ge l [c]
        have hs : Lib.splitK [c] 0 (k + 1) (b :: l) = if Lib.index (b :: l) [c] == -1 then [b :: l] else (b :: l).take ((Lib.index (b :: l) [c]).toNat + 0) :: Lib.splitK [c] 0 k ((b :: l).drop ((Lib.index (b :: l) [c]).toNat + [c].length)) := rfl
        have hs2 : Lib.splitK [c] 0 (k + 1) l = if Lib.index l [c] == -1 then [l] else l.take ((Lib.index l [c]).toNat + 0) :: Lib.splitK [c] 0 k (l.drop ((Lib.index l [c]).toNat + [c].length)) := rfl
        rw [hs, hs2, hi]
        by_cases hm : Lib.index l [c] = -1
        · simp [hm]
        · obtain ⟨i, hin⟩ : ∃ i : Nat, Lib.index l [c] = i := ⟨(Lib.index l [c]).toNat, by omega⟩
          rw [hin]
          have n1 : ((i : Int) == -1) = false := by simp <;> omega
          have n2 : ((i : Int) + 1 == -1) = false := by simp <;> omega
          have n3 : ((i : Int) + 1).toNat = i + 1 := by omega
          simp [n1, n2, n3]
/-- Some length that the library keeps for itself. -/
def MxL (w : World) : Prop := ∃ m, w.cell? ⟨0, 0, none⟩ = some (.int .i64 m)
theorem MxL.still {w w' : World} (h : MxL w) (hb : Below w.heap.size w w') : MxL w' := by
  obtain ⟨m, h⟩ := h
  exact ⟨m, by rw [hb.cell (lt_of_cell h)]; exact h⟩
theorem cut23 (s : List UInt8) (w : World) (hs : s.length < 4294967281) (hm : MxL w) :
    Calls Tryd.prog 23 #[.string (bs s), .string ⟨#[10]⟩] w fun e w' => (e = if (10 : UInt8) ∈ s then .returned (.tuple #[.string (bs (pre 10 s)), .string (bs (post 10 s)), .bool true]) else .returned (.tuple #[.string (bs s), .string (bs []), .bool false])) ∧ Below w.heap.size w w' := by
  obtain ⟨m, hm⟩ := hm
  refine Calls.mono (Any.strings_Cut { Tryd.laysCut with } (bs s) ⟨#[10]⟩ m w (by rw [bs_size]; exact hs) hm) ?_
  rintro e w' ⟨rfl, n, rfl⟩
  refine ⟨?_, ⟨rfl, rfl, rfl, Nat.le_refl _, fun _ _ => rfl⟩⟩
  have e1 : Lib.cut (bs s).data.toList [10] = if (10 : UInt8) ∈ s then (pre 10 s, post 10 s, true) else (s, [], false) := by
    rw [← cut_pre]
    simp [bs]
  show Ending.returned (.tuple #[.string (bs (Lib.cut (bs s).data.toList [10]).1), .string (bs (Lib.cut (bs s).data.toList [10]).2.1), .bool (Lib.cut (bs s).data.toList [10]).2.2]) = _
  rw [e1]
  split <;> rfl
theorem split50 (s : List UInt8) (w : World) (hs : s.length < 4294967281) (hm : MxL w) :
    Calls Tryd.prog 50 #[.string (bs s), .string ⟨#[32]⟩] w fun e w' => e = .returned (.slice (some ⟨w.heap.size, 0, none⟩) (spl 32 s).length (spl 32 s).length) ∧ w' = w.alloc (.cells ((spl 32 s).map fun x => Value.string (bs x)).toArray 9) := by
  obtain ⟨m, hm⟩ := hm
  refine Calls.mono (Any.strings_Split { Tryd.laysSplit with } Tryd.laysSplit.i9 (bs s) ⟨#[32]⟩ m w (by rw [bs_size]; exact hs) hm (by decide)) ?_
  rintro e w' ⟨rfl, rfl⟩
  have hd : (Lib.splitB ⟨#[32]⟩ 0 (Lib.countB (bs s) ⟨#[32]⟩) (bs s)).map (·.data.toList) = spl 32 s := by
    rw [splitB_data]
    have e0 : (bs s).data.toList = s := by simp [bs]
    show Lib.splitK [32] 0 (Lib.count (bs s).data.toList [32]) (bs s).data.toList = _
    rw [e0]
    exact splitK_spl 32 s _ rfl
  have hl : Lib.countB (bs s) ⟨#[32]⟩ + 1 = (spl 32 s).length := by
    rw [← hd, List.length_map, Lib.splitB_all ⟨#[32]⟩ (by decide) 0 _ (bs s) rfl]
  have hc : (Lib.splitB ⟨#[32]⟩ 0 (Lib.countB (bs s) ⟨#[32]⟩) (bs s)).map Value.string = (spl 32 s).map fun x => Value.string (bs x) := by
    rw [← hd, List.map_map]
    rfl
  rw [hl, hc]
  exact ⟨rfl, rfl⟩
theorem atoi62 (s : List UInt8) (n : Int) (hl : s.length ≤ 18) (h : Lib.atoi s = some n) (w : World) :
    Calls Tryd.prog 62 #[.string (bs s)] w fun e w' => e = .returned (.tuple #[.int .i64 n, .nilIface]) ∧ ∃ t, w' = Lib.bytesWorld w 5 t := by
  have e0 : (bs s).data.toList = s := by simp [bs]
  exact Any.strconv_Atoi Tryd.laysAtoi (bs s) n (by rw [bs_size]; exact hl) (by rw [e0]; exact h) w
end Go.Proofs.YtanbdfeoijflaaaDoor
