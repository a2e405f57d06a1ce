import Derived.Test.YtledclkmeikgdaaXSize
import Derived.Test.YtledclkmeikgdaaXRight
import Derived.Test.YtledclkmeikgdaaXTo
import Derived.Lib.AppendStr
/-! Bytes that are written, and what they are as a text; rows that are owned. -/
namespace Go.Proofs.Ytledclkmeikgdaa.T
open Go.RowKit Go.Deep Go.Lib
set_option linter.unusedVariables false
set_option maxRecDepth 100000
set_option linter.unusedSimpArgs false

theorem grown_of_below {w w' : World} (hb : Below w.heap.size w w') (row : Option Nat) : w.grownBy w' row := ⟨hb.os, hb.tape, hb.output, hb.size, fun k hk _ => hb.block k hk⟩
/-- What is owned stays owned behind what turns nothing old. -/
theorem own_still {w w' : World} {base : Nat} {e : TypeId} {size : Nat} {v : Value} {n : Nat} {xs : List Value} (h : w.ownsRow base e size v n xs) (hb : Below w.heap.size w w') : w'.ownsRow base e size v n xs :=
  h.kept (grown_of_below hb none) (by cases v.ownBlock <;> simp)
theorem cell_one_box (w : World) (u : Value) (T : TypeId) : ∀ j x, [u][j]? = some x → (w.alloc (.cells #[u] T)).cell? ((⟨w.heap.size, 0, none⟩ : Addr).add j) = some x := by
  intro j x h
  cases j with
  | zero => simp at h; subst h; simp [Addr.add, go_sem]
  | succ j => simp at h
/-- A list of bytes, as a string; as cells. -/
def bs (l : List UInt8) : ByteArray := ⟨l.toArray⟩
def bc (l : List UInt8) : List Value := l.map fun b => Value.int .u8 b.toNat
theorem bs_data (s : ByteArray) : bs s.data.toList = s := rfl
theorem bs_append (x y : List UInt8) : bs x ++ bs y = bs (x ++ y) := ByteArray.mk_append_mk x y
theorem bs_size (l : List UInt8) : (bs l).size = l.length := by show l.toArray.size = _; simp
theorem bc_append (x y : List UInt8) : bc (x ++ y) = bc x ++ bc y := by simp [bc]
theorem bc_length (l : List UInt8) : (bc l).length = l.length := by simp [bc]
theorem bc_str (s : ByteArray) : strCells s = bc s.data.toList := rfl
theorem bc_bs (l : List UInt8) : strCells (bs l) = bc l := by simp [bc_str, bs]

theorem info5 : (Try.prog.info? 5).map (fun i => (i.zero, i.size, i.bytes)) = some (some (.int .u8 0), 1, 1) := by kernel_rfl
theorem own_slice {w : World} {base : Nat} {e : TypeId} {size : Nat} {v : Value} {n : Nat} {xs : List Value} (h : w.ownsRow base e size v n xs) : ∃ a cap, v = .slice a n cap := by
  obtain ⟨_, h⟩ := h
  rcases h with ⟨rfl, rfl⟩ | ⟨g, cap, _, rfl, _⟩
  · exact ⟨_, _, rfl⟩
  · exact ⟨_, _, rfl⟩
theorem push_all (l : List UInt8) : ∀ s : ByteArray, (l.map fun b => ((b.toNat : Nat) : Int)).foldl (fun r n => r.push (UInt8.ofNat n.toNat)) s = s ++ bs l := by
  induction l with
  | nil => intro s; apply ByteArray.ext; simp [bs]
  | cons c r ih =>
    intro s
    simp only [List.map_cons, List.foldl_cons]
    rw [ih]
    have e : s.push (UInt8.ofNat ((c.toNat : Int)).toNat) = s ++ bs [c] := by
      simp only [Int.toNat_natCast, UInt8.ofNat_toNat]
      apply ByteArray.ext
      simp [bs]
    rw [e, ByteArray.append_assoc, bs_append]
    rfl
/-- 'string(bytes)' of a row that the call owns. -/
theorem conv_own {B : Nat} {w : World} {v : Value} {l : List UInt8} (h : w.ownsRow B 5 1 v l.length (bc l)) : (convert 22 9 v).run Try.prog w = .ok (.string (bs l)) w := by
  obtain ⟨hl, h⟩ := h
  rcases h with ⟨rfl, h0⟩ | ⟨g, cap, cur, rfl, _, hg, hc, _, hsz, htk⟩
  · have hl0 : l = [] := List.length_eq_zero_iff.1 h0
    subst hl0
    rw [run_convert_bytes_string w 22 9 5 none 0 0 Try.underlying22 Try.underlying5 Try.underlying9]
    simp [Conv.bytesToString, bs, Sem.run_pure]
    rfl
  · rw [run_convert_bytes_string w 22 9 5 _ _ _ Try.underlying22 Try.underlying5 Try.underlying9]
    have hload : (loadCells ⟨g, 0, none⟩ l.length).run Try.prog w = .ok ((l.map fun b => ((b.toNat : Nat) : Int)).map (Value.int .u8)).toArray w := by
      have e : ((l.map fun b => ((b.toNat : Nat) : Int)).map (Value.int .u8)) = bc l := by simp [bc, Function.comp_def]
      rw [e]
      have := run_loadCells_list (P := Try.prog) w ⟨g, 0, none⟩ (bc l) (fun j u hu => by
        rw [WideShapes.add_plain, Nat.zero_add, cell_of_row w g j cur 5 (0, 0) hg]
        rw [← htk] at hu
        rw [List.getElem?_take] at hu
        split at hu
        · simpa using hu
        · simp at hu)
      rw [bc_length] at this
      exact this
    rw [run_bytesToString w ⟨g, 0, none⟩ l.length cap _ hload, push_all]
    simp [bs]
end Go.Proofs.Ytledclkmeikgdaa.T

namespace Go.Proofs.Ytledclkmeikgdaa.T
open Go.RowKit Go.Deep Go.Lib
set_option linter.unusedVariables false
set_option linter.unusedSimpArgs false

/-- A digit, as a byte. -/
def dg (q : Nat) : UInt8 := UInt8.ofNat (48 + q % 10)
theorem dg_nat (q : Nat) : (dg q).toNat = 48 + q % 10 := by
  unfold dg
  rw [UInt8.toNat_ofNat']
  omega
/-- The digits of a number ahead of a text, with fuel. -/
def dgF : Nat → Nat → List UInt8 → List UInt8
  | 0, _, l => l
  | f + 1, q, l => if q = 0 then l else dgF f (q / 10) (dg q :: l)
theorem dgF_step {f q : Nat} {l : List UInt8} (hq : 0 < q) : dgF (f + 1) q l = dgF f (q / 10) (dg q :: l) := by
  show (if q = 0 then l else _) = _
  rw [if_neg (by omega)]
theorem dgF_zero (f : Nat) (l : List UInt8) : dgF f 0 l = l := by
  cases f <;> rfl
theorem dgF_fuel : ∀ (f g q : Nat) (l : List UInt8), q ≤ f → q ≤ g → dgF f q l = dgF g q l := by
  intro f
  induction f with
  | zero =>
    intro g q l hf hg
    obtain rfl : q = 0 := by omega
    rw [dgF_zero, dgF_zero]
  | succ f ih =>
    intro g q l hf hg
    by_cases hq : q = 0
    · subst hq; rw [dgF_zero, dgF_zero]
    · cases g with
      | zero => omega
      | succ g => rw [dgF_step (by omega), dgF_step (by omega)]; exact ih g _ _ (by omega) (by omega)
/-- What a thing is marked with. -/
def mt (k : Nat) : ByteArray := bs (109 :: dgF k k [])

theorem conv_one (q : Nat) (w : World) : (convert 22 9 (.slice (some ⟨w.heap.size, 0, none⟩) 1 1)).run Try.prog (w.alloc (.cells #[.int .u8 (48 + (q : Int) % 10)] 5)) = .ok (.string (bs [dg q])) (w.alloc (.cells #[.int .u8 (48 + (q : Int) % 10)] 5)) := by
  have h := World.ownsRow_lit (base := w.heap.size) (e := 5) (size := 1) w #[.int .u8 (48 + (q : Int) % 10)] 1 (Nat.le_refl _) (by unfold maxLen; omega) rfl
  refine conv_own (B := w.heap.size) (l := [dg q]) ?_
  have e : bc [dg q] = [.int .u8 (48 + (q : Int) % 10)] := by
    simp only [bc, List.map_cons, List.map_nil, dg_nat]
    congr 2
    all_goals omega
  rw [e]
  exact h

set_option maxHeartbeats 800000 in
theorem markText_any (k : Nat) (h0 : 0 < k) (hk : k ≤ 67108864) (w : World) :
    Calls Try.prog 106 #[.int .i64 k] w fun e w' => e = .returned (.string (mt k)) ∧ Below w.heap.size w w' := by
  go_enter Try.func106, Try.ntmps106
  go_wp2_with fail
  go_loopw [0, 3] (fun u o wr => ∃ (q : Nat) (l : List UInt8), u = .int .i64 q ∧ o = .string (bs l) ∧ l.length + q ≤ k ∧ q ≤ k ∧ Hid (dgF q q l = dgF k k []) ∧ Below w.heap.size w wr) (fun u _ _ => (intOf u).toNat)
  case atStart => exact ⟨k, [], rfl, rfl, by simp, Nat.le_refl _, rfl, Below.refl _ _⟩
  case round =>
    obtain ⟨q, l, rfl, rfl, hl, hqk, HD, hbw⟩ := hrel
    by_cases hq : 0 < q
    · have hcv := conv_one q wr
      have hs1 : (bs [dg q]).size = 1 := bs_size _
      have hs2 : (bs l).size ≤ 67108864 := by rw [bs_size]; omega
      have eA : bs [dg q] ++ bs l = bs (dg q :: l) := by rw [bs_append]; rfl
      have hb2 : Below w.heap.size w (wr.alloc (.cells #[.int .u8 (48 + (q : Int) % 10)] 5)) := bel_trans hbw (bel_alloc _ _)
      have hd : dgF (q / 10) (q / 10) (dg q :: l) = dgF q q l := by
        obtain ⟨p, rfl⟩ : ∃ p, q = p + 1 := ⟨q - 1, by omega⟩
        rw [dgF_step (by omega)]
        exact dgF_fuel _ _ _ _ (by omega) (by omega)
      have HE := (show Hid _ from (⟨eA, hd⟩ : _ ∧ _)); clear eA hd
      have hdv : (q : Int) / 10 = ((q / 10 : Nat) : Int) := by omega
      have HV := (show Hid _ from hdv); clear hdv
      generalize hS : bs l = sL at *
      generalize hT : bs [dg q] = sD at *
      have HST := (show Hid _ from (⟨hS, hT⟩ : _ ∧ _)); clear hS hT
      have hs1' : sD.size ≤ 1 := by omega
      clear hs1
      go_wp2_with fail
      refine ⟨⟨q / 10, dg q :: l, val_int HV.out, ?_, by simp; omega, by omega, ?_, hb2⟩, ?_⟩
      · rw [← HE.out.1]
      · exact HE.out.2.trans HD.out
      · rw [HV.out]; simp [intOf]; omega
    · have hs2 : (bs l).size ≤ 67108864 := by rw [bs_size]; omega
      have e1 : mt k = bs [109] ++ bs l := by
        unfold mt
        rw [← HD.out, show q = 0 by omega, dgF_zero, bs_append]
        rfl
      have HE := (show Hid _ from e1); clear e1
      go_wp2_with fail
      go_ret
      exact ⟨by rw [HE.out]; rfl, hbw⟩

/-- All blocks that were there, but those of the range, are as they were. -/
def Out (lo hi : Nat) (w w' : World) : Prop := w'.os = w.os ∧ w'.tape = w.tape ∧ w'.output = w.output ∧ w.heap.size ≤ w'.heap.size ∧ ∀ k, k < w.heap.size → (k < lo ∨ hi ≤ k) → w'.heap[k]? = w.heap[k]?
theorem Out.refl (lo hi : Nat) (w : World) : Out lo hi w w := ⟨rfl, rfl, rfl, Nat.le_refl _, fun _ _ _ => rfl⟩
theorem Out.trans {lo hi : Nat} {a b c : World} (h : Out lo hi a b) (g : Out lo hi b c) : Out lo hi a c :=
  ⟨g.1.trans h.1, g.2.1.trans h.2.1, g.2.2.1.trans h.2.2.1, Nat.le_trans h.2.2.2.1 g.2.2.2.1, fun k hk hr => (g.2.2.2.2 k (Nat.lt_of_lt_of_le hk h.2.2.2.1) hr).trans (h.2.2.2.2 k hk hr)⟩
theorem Out.of_below {lo hi : Nat} {a b : World} (h : Below a.heap.size a b) : Out lo hi a b := ⟨h.os, h.tape, h.output, h.size, fun k hk _ => h.block k hk⟩
theorem Out.set {lo hi p o : Nat} (w : World) (u : Value) (h1 : lo ≤ p) (h2 : p < hi) : Out lo hi w (w.setCell ⟨p, o, none⟩ u) :=
  ⟨rfl, rfl, rfl, by simp [World.setCell], fun k _ hr => blk_setCell_other _ _ _ _ (by show k ≠ p; omega)⟩
theorem Out.mono {lo hi lo' hi' : Nat} {w w' : World} (h : Out lo hi w w') (h1 : lo' ≤ lo) (h2 : hi ≤ hi') : Out lo' hi' w w' :=
  ⟨h.1, h.2.1, h.2.2.1, h.2.2.2.1, fun k hk hr => h.2.2.2.2 k hk (by omega)⟩

/-- A tree that owns what it lies in: its row of Kids in one block, their own trees in ranges of blocks, no two of which meet. -/
def OwnBy (L : Nat → Nat → Tr → Value → Prop) (w : World) (lo hi : Nat) (t : Tr) (v : Value) : Prop :=
  ∃ (a : Option Addr) (cap b : Nat) (f : Nat → Value) (l h : Nat → Nat), v = .slice a t.kids.length cap ∧ t.name.size ≤ maxLen ∧ t.text.size ≤ maxLen ∧ t.kids.length ≤ cap ∧ cap ≤ maxLen ∧
    (0 < t.kids.length → a = some ⟨b, 0, none⟩ ∧ lo ≤ b ∧ b < hi ∧ w.rowIs b 40 (cap * 4) f) ∧
    (∀ i (hi : i < t.kids.length), f (i * 4) = .string t.kids[i].name ∧ f (i * 4 + 1) = .string t.kids[i].text ∧ f (i * 4 + 2) = .bool t.kids[i].leaf) ∧
    (∀ i (hi : i < t.kids.length), L (l i) (h i) t.kids[i] (f (i * 4 + 3))) ∧
    (∀ i, i < t.kids.length → lo ≤ l i ∧ h i ≤ hi ∧ (b < l i ∨ h i ≤ b)) ∧
    ∀ i j, i < j → j < t.kids.length → h i ≤ l j ∨ h j ≤ l i
def OwnN (w : World) : Nat → Nat → Nat → Tr → Value → Prop
  | 0 => fun _ _ _ _ => False
  | d + 1 => fun lo hi t v => OwnBy (OwnN w d) w lo hi t v
def Own (w : World) (lo hi : Nat) (t : Tr) (v : Value) : Prop := ∃ d, OwnN w d lo hi t v

theorem OwnBy.imp {L L' : Nat → Nat → Tr → Value → Prop} {w : World} {lo hi : Nat} {t : Tr} {v : Value} (hL : ∀ i (hi : i < t.kids.length) x y u, L x y t.kids[i] u → L' x y t.kids[i] u) (hh : OwnBy L w lo hi t v) : OwnBy L' w lo hi t v := by
  obtain ⟨a, cap, b, f, l, h, hv, hn, hx, hc, hm, ha, hf, hk, hr, hd⟩ := hh
  exact ⟨a, cap, b, f, l, h, hv, hn, hx, hc, hm, ha, hf, fun i hi => hL i hi _ _ _ (hk i hi), hr, hd⟩
theorem OwnN.succ {w : World} : ∀ (d : Nat) {lo hi : Nat} {t : Tr} {v : Value}, OwnN w d lo hi t v → OwnN w (d + 1) lo hi t v
  | 0, _, _, _, _, h => False.elim h
  | d + 1, _, _, _, _, h => OwnBy.imp (fun _ _ _ _ _ hk => OwnN.succ d hk) h
theorem OwnN.up {w : World} {d d' : Nat} (hd : d ≤ d') {lo hi : Nat} {t : Tr} {v : Value} (h : OwnN w d lo hi t v) : OwnN w d' lo hi t v := by
  induction hd with
  | refl => exact h
  | step _ ih => exact OwnN.succ _ ih
theorem Own.out {w : World} {lo hi : Nat} {t : Tr} {v : Value} (h : Own w lo hi t v) : OwnBy (Own w) w lo hi t v := by
  obtain ⟨d, h⟩ := h
  cases d with
  | zero => exact False.elim h
  | succ d => exact OwnBy.imp (fun _ _ _ _ _ hk => ⟨d, hk⟩) h
theorem Own.shut {w : World} {lo hi : Nat} {t : Tr} {v : Value} (hh : OwnBy (Own w) w lo hi t v) : Own w lo hi t v := by
  obtain ⟨a, cap, b, f, l, h, hv, hn, hx, hc, hm, ha, hf, hk, hr, hd⟩ := hh
  obtain ⟨d, hdd⟩ := fuel_lt (n := t.kids.length) (q := fun i m => ∀ hi : i < t.kids.length, OwnN w m (l i) (h i) t.kids[i] (f (i * 4 + 3)))
    (fun i a b hab h hi => (h hi).up hab) (fun i hi => by obtain ⟨m, hm⟩ := hk i hi; exact ⟨m, fun _ => hm⟩)
  exact ⟨d + 1, a, cap, b, f, l, h, hv, hn, hx, hc, hm, ha, hf, fun i hi => hdd i hi hi, hr, hd⟩
/-- Where its range holds what it held, it is owned still; a greater range serves. -/
theorem Own.keep {w w' : World} {t : Tr} : ∀ {lo hi : Nat} {v : Value}, Own w lo hi t v → ∀ {lo' hi' : Nat}, lo' ≤ lo → hi ≤ hi' → (∀ k, lo ≤ k → k < hi → k < w.heap.size → w'.heap[k]? = w.heap[k]?) → Own w' lo' hi' t v := by
  refine Tr.ind (P := fun t => ∀ {lo hi : Nat} {v : Value}, Own w lo hi t v → ∀ {lo' hi' : Nat}, lo' ≤ lo → hi ≤ hi' → (∀ k, lo ≤ k → k < hi → k < w.heap.size → w'.heap[k]? = w.heap[k]?) → Own w' lo' hi' t v) ?_ t
  intro n x le k ih lo hi v hh lo' hi' h1 h2 hk'
  obtain ⟨a, cap, b, f, l, h, hv, hn, hx, hc, hm, ha, hf, hk, hr, hd⟩ := hh.out
  refine Own.shut ⟨a, cap, b, f, l, h, hv, hn, hx, hc, hm, fun h0 => ?_, hf, fun i hi => ?_, fun i hi => ?_, hd⟩
  · obtain ⟨q1, q2, q3, q4⟩ := ha h0
    exact ⟨q1, by omega, by omega, q4.of_block (hk' b q2 q3 q4.lt)⟩
  · have := hr i hi
    exact ih i hi (hk i hi) (Nat.le_refl _) (Nat.le_refl _) (fun k a b c => hk' k (by omega) (by omega) c)
  · have := hr i hi
    exact ⟨by omega, by omega, this.2.2⟩
theorem Own.lies {w : World} {t : Tr} : ∀ {lo hi : Nat} {v : Value}, Own w lo hi t v → Lies w (fun b => lo ≤ b ∧ b < hi) t v := by
  refine Tr.ind (P := fun t => ∀ {lo hi : Nat} {v : Value}, Own w lo hi t v → Lies w (fun b => lo ≤ b ∧ b < hi) t v) ?_ t
  intro n x le k ih lo hi v hh
  obtain ⟨a, cap, b, f, l, h, hv, hn, hx, hc, hm, ha, hf, hk, hr, hd⟩ := hh.out
  refine Lies.shut ⟨a, cap, b, 0, fun i => f (i * 4 + 3), hv, hn, hx, hc, hm, fun h0 => ⟨(ha h0).1, (ha h0).2.1, (ha h0).2.2.1⟩, fun i hi => ?_, fun i hi => ?_⟩
  · dsimp only at hi ⊢ hc
    obtain ⟨_, _, _, q4⟩ := ha (by show 0 < k.length; omega)
    obtain ⟨p0, p1, p2⟩ := hf i hi
    simp only [Nat.zero_add]
    rw [← p0, ← p1, ← p2]
    exact ⟨q4.cell (by omega), q4.cell (by omega), q4.cell (by omega), q4.cell (by omega)⟩
  · have := hr i hi
    exact (ih i hi (hk i hi)).mono (fun b hb => ⟨by omega, by omega⟩)
end Go.Proofs.Ytledclkmeikgdaa.T
