import Derived.Test.YtpbpmhgoppbfnaaLt
import Derived.Maps.OwnSet
import Derived.DeepKeys4
import Derived.BigQuiet
/-! Maps with keys of several numbers, and what is worked out but once. -/
namespace Go.Proofs.Ytpbpmhgoppbfnaa
open Go.RowKit Go.Deep Go.Maps Go.WideMaps Go.ChangeMaps
set_option linter.unusedVariables false
set_option maxRecDepth 100000
set_option linter.unusedSimpArgs false

/-- All blocks but two are as they were. -/
structure Kq (a b : Nat) (w w' : World) : Prop where
  os : w'.os = w.os
  tape : w'.tape = w.tape
  output : w'.output = w.output
  size : w.heap.size ≤ w'.heap.size
  block : ∀ k, k < w.heap.size → k ≠ a → k ≠ b → w'.heap[k]? = w.heap[k]?
theorem Kq.refl (a b : Nat) (w : World) : Kq a b w w := ⟨rfl, rfl, rfl, Nat.le_refl _, fun _ _ _ _ => rfl⟩
theorem Kq.trans {a b : Nat} {x y z : World} (h : Kq a b x y) (k : Kq a b y z) : Kq a b x z :=
  ⟨k.os.trans h.os, k.tape.trans h.tape, k.output.trans h.output, Nat.le_trans h.size k.size, fun q hq h1 h2 => (k.block q (Nat.lt_of_lt_of_le hq h.size) h1 h2).trans (h.block q hq h1 h2)⟩
theorem Kq.of_below {a b : Nat} {x y : World} (h : Below x.heap.size x y) : Kq a b x y := ⟨h.os, h.tape, h.output, h.size, fun k hk _ _ => h.block k hk⟩
theorem Kq.below {a b B : Nat} {x y : World} (h : Kq a b x y) (ha : B ≤ a) (hb : B ≤ b) (hB : B ≤ x.heap.size) : Below B x y :=
  ⟨h.os, h.tape, h.output, h.size, fun k hk => h.block k (by omega) (by omega) (by omega)⟩
theorem Kq.turned1 {a b : Nat} {x y : World} (h : x.mapTurned y a) : Kq a b x y :=
  ⟨h.grown.os, h.grown.tape, h.grown.output, h.grown.size, fun k hk h1 _ => h.grown.block k hk (fun e => h1 (by injection e))⟩
theorem Kq.turned2 {a b : Nat} {x y : World} (h : x.mapTurned y b) : Kq a b x y :=
  ⟨h.grown.os, h.grown.tape, h.grown.output, h.grown.size, fun k hk _ h1 => h.grown.block k hk (fun e => h1 (by injection e))⟩
theorem Kq.cell {a b : Nat} {x y : World} (h : Kq a b x y) {p : Addr} {v : Value} (hc : x.cell? p = some v) (h1 : p.block ≠ a) (h2 : p.block ≠ b) : y.cell? p = some v :=
  (World.cell?_of_block (w := x) (h.block p.block (lt_of_cell hc) h1 h2)).trans hc

/-- No more of them than there are numbers. -/
theorem nodup_le : ∀ (n : Nat) (l : List Nat), l.Nodup → (∀ x ∈ l, x < n) → l.length ≤ n := by
  intro n
  induction n with
  | zero =>
    intro l _ h
    cases l with
    | nil => simp
    | cons x l => exact absurd (h x (by simp)) (Nat.not_lt_zero _)
  | succ n ih =>
    intro l hl h
    by_cases hm : n ∈ l
    · have h1 := ih (l.erase n) (hl.erase n) (fun x hx => by
        have h2 := (hl.mem_erase_iff).1 hx
        have := h x h2.2
        omega)
      rw [List.length_erase_of_mem hm] at h1
      omega
    · have := ih l hl (fun x hx => by
        have h1 := h x hx
        have : x ≠ n := fun e => hm (e ▸ hx)
        omega)
      omega

theorem laidOutC : laidOutB Try.prog = true := by kernel_rfl
theorem keyed127 : Keyed Try.prog 127 := Keyed.of_law (deep_law_laid laidOutC (m := 2) (by omega) (of_decide_eq_true (by kernel_rfl)) (by kernel_rfl) (by kernel_rfl))
theorem keyed140 : Keyed Try.prog 140 := Keyed.of_law (deep_law_laid laidOutC (m := 2) (by omega) (of_decide_eq_true (by kernel_rfl)) (by kernel_rfl) (by kernel_rfl))
theorem types_pos : ∃ n, Try.prog.types.size + 1 = n + 2 := by
  have h : decide (1 ≤ Try.prog.types.size) = true := by kernel_rfl
  have h1 : 1 ≤ Try.prog.types.size := of_decide_eq_true h
  exact ⟨Try.prog.types.size - 1, by omega⟩
/-- Small enough to be a part of a key. -/
def Sl (x : Int) : Prop := 0 ≤ x ∧ x < 1000
theorem Sl.wf {x : Int} (h : Sl x) : (Lit.int .i64 x).wf = true := by
  have hm : IntKind.i64.min = -9223372036854775808 := by decide
  have hM : IntKind.i64.max = 9223372036854775807 := by decide
  obtain ⟨h0, h1⟩ := h
  simp [Lit.wf, hm, hM]
  omega
def kv3 (x i j : Int) : Value := .agg #[.int .i64 x, .int .i64 i, .int .i64 j]
def kv4 (k p i j : Int) : Value := .agg #[.int .i64 k, .int .i64 p, .int .i64 i, .int .i64 j]
theorem kty127 : Try.prog.keyType 127 = true := by kernel_rfl
theorem kty140 : Try.prog.keyType 140 = true := by kernel_rfl
theorem cel127 : Try.prog.cellsOf 127 = 3 := by kernel_rfl
theorem cel140 : Try.prog.cellsOf 140 = 4 := by kernel_rfl
theorem cel3 : Try.prog.cellsOf 3 = 1 := by kernel_rfl
theorem key127 {x i j : Int} (hx : Sl x) (hi : Sl i) (hj : Sl j) : ∃ l, keyOf Try.prog 127 (kv3 x i j) = some l := by
  obtain ⟨n, hn⟩ := types_pos
  have hf : (kv3 x i j).formed Try.prog 127 = true := by simp [Value.formed, kv3, Try.underlying127, cel127]
  unfold keyOf
  rw [Try.underlying127]
  simp only [kty127, hf, hn, Bool.and_self, if_true]
  simp [Program.keyLits, Try.underlying127, cel127, cel3, Try.underlying3, kv3, Value.cells, hx.wf, hi.wf, hj.wf]
theorem key140 {k p i j : Int} (hk : Sl k) (hp : Sl p) (hi : Sl i) (hj : Sl j) : ∃ l, keyOf Try.prog 140 (kv4 k p i j) = some l := by
  obtain ⟨n, hn⟩ := types_pos
  have hf : (kv4 k p i j).formed Try.prog 140 = true := by simp [Value.formed, kv4, Try.underlying140, cel140]
  unfold keyOf
  rw [Try.underlying140]
  simp only [kty140, hf, hn, Bool.and_self, if_true]
  simp [Program.keyLits, Try.underlying140, cel140, cel3, Try.underlying3, kv4, Value.cells, hk.wf, hp.wf, hi.wf, hj.wf]
/-- The number of a key. -/
def kno (v : Value) : Nat := match v with
  | .agg cs => cs.toList.foldl (fun n c => match c with
    | .int _ x => n * 1000 + x.toNat
    | _ => n) 0
  | _ => 0
theorem kno3 (x i j : Int) : kno (kv3 x i j) = (x.toNat * 1000 + i.toNat) * 1000 + j.toNat := by simp [kno, kv3]
theorem kno4 (k p i j : Int) : kno (kv4 k p i j) = ((k.toNat * 1000 + p.toNat) * 1000 + i.toNat) * 1000 + j.toNat := by simp [kno, kv4]
/-- Keys of the one map, and of the other. -/
def Ky3 (v : Value) : Prop := ∃ x i j, Sl x ∧ Sl i ∧ Sl j ∧ v = kv3 x i j
def Ky4 (v : Value) : Prop := ∃ k p i j, Sl k ∧ Sl p ∧ Sl i ∧ Sl j ∧ v = kv4 k p i j
structure KyT (K : TypeId) (Q : Value → Prop) : Prop where
  keyed : Keyed Try.prog K
  key : ∀ v, Q v → ∃ l, keyOf Try.prog K v = some l
  few : ∀ v, Q v → kno v < 1000000000000
  inj : ∀ u v, Q u → Q v → kno u = kno v → u = v
theorem ky127 : KyT 127 Ky3 where
  keyed := keyed127
  key := fun v ⟨x, i, j, hx, hi, hj, e⟩ => by rw [e]; exact key127 hx hi hj
  few := fun v ⟨x, i, j, hx, hi, hj, e⟩ => by
    unfold Sl at hx hi hj
    rw [e, kno3]
    omega
  inj := fun u v ⟨x, i, j, hx, hi, hj, e⟩ ⟨x', i', j', hx', hi', hj', e'⟩ h => by
    unfold Sl at hx hi hj hx' hi' hj'
    rw [e, e', kno3, kno3] at h
    rw [e, e', show x = x' by omega, show i = i' by omega, show j = j' by omega]
theorem ky140 : KyT 140 Ky4 where
  keyed := keyed140
  key := fun v ⟨k, p, i, j, hk, hp, hi, hj, e⟩ => by rw [e]; exact key140 hk hp hi hj
  few := fun v ⟨k, p, i, j, hk, hp, hi, hj, e⟩ => by
    unfold Sl at hk hp hi hj
    rw [e, kno4]
    omega
  inj := fun u v ⟨k, p, i, j, hk, hp, hi, hj, e⟩ ⟨k', p', i', j', hk', hp', hi', hj', e'⟩ h => by
    unfold Sl at hk hp hi hj hk' hp' hi' hj'
    rw [e, e', kno4, kno4] at h
    rw [e, e', show k = k' by omega, show p = p' by omega, show i = i' by omega, show j = j' by omega]
/-- Block b is a map in which what is known of keys is what G says. -/
structure Mp (w : World) (b : Nat) (K : TypeId) (Q : Value → Prop) (G : Value → Int) : Prop where
  ex : ∃ (D : DataW Unit) (ks : List Value), w.ownsMap Try.prog K (plainElem Try.prog 3) b ks.length D ∧ Tidy D ∧ size D = ks.length ∧ ks.Nodup ∧ (∀ v ∈ ks, Q v) ∧ (∀ v l, Q v → keyOf Try.prog K v = some l → (has D l = true ↔ v ∈ ks)) ∧ ∀ v l z, v ∈ ks → keyOf Try.prog K v = some l → D.atKey l z = .lit (.int .i64 (G v))
theorem Mp.new (w : World) (K : TypeId) (Q : Value → Prop) (G : Value → Int) : Mp (w.alloc (.map #[] 0)) w.heap.size K Q G :=
  ⟨.map [], [], World.ownsMap_made w Try.prog K (plainElem Try.prog 3), tidy_empty, rfl, by simp, by simp, fun v l _ _ => by simp [has], by simp⟩
theorem Mp.keep {w w' : World} {b : Nat} {K : TypeId} {Q : Value → Prop} {G : Value → Int} (h : Mp w b K Q G) (hb : w'.heap[b]? = w.heap[b]?) : Mp w' b K Q G := by
  obtain ⟨D, ks, h1, h2⟩ := h
  refine ⟨D, ks, ?_, h2⟩
  obtain ⟨es, clock, h3, h4⟩ := h1
  exact ⟨es, clock, hb.trans h3, h4⟩
theorem Mp.lt {w : World} {b : Nat} {K : TypeId} {Q : Value → Prop} {G : Value → Int} (h : Mp w b K Q G) : b < w.heap.size := by
  obtain ⟨D, ks, h1, _⟩ := h
  exact h1.lt
theorem map_nodup {α : Type} {f : α → Nat} : ∀ {l : List α}, l.Nodup → (∀ x ∈ l, ∀ y ∈ l, f x = f y → x = y) → (l.map f).Nodup
  | [], _, _ => by simp
  | x :: l, h, hi => by
    rw [List.nodup_cons] at h
    rw [List.map_cons, List.nodup_cons]
    refine ⟨fun hm => ?_, map_nodup h.2 (fun a ha b hb => hi a (by simp [ha]) b (by simp [hb]))⟩
    obtain ⟨y, hy, e⟩ := List.mem_map.1 hm
    have := hi y (by simp [hy]) x (by simp) e
    exact h.1 (this ▸ hy)
theorem few_keys {K : TypeId} {Q : Value → Prop} (T : KyT K Q) {ks : List Value} (hn : ks.Nodup) (hq : ∀ v ∈ ks, Q v) : ks.length ≤ 1000000000000 := by
  have h := nodup_le 1000000000000 (ks.map kno) (map_nodup hn (fun u hu v hv e => T.inj u v (hq u hu) (hq v hv) e)) (fun n hn => by
    obtain ⟨v, hv, rfl⟩ := List.mem_map.1 hn
    exact T.few v (hq v hv))
  simpa using h
/-- One more is known. -/
theorem Mp.put {w1 : World} {b : Nat} {K : TypeId} {Q : Value → Prop} {G : Value → Int} (T : KyT K Q) {D : DataW Unit} {ks : List Value} (h2 : Tidy D) (h3 : size D = ks.length) (h4 : ks.Nodup) (h5 : ∀ v ∈ ks, Q v) (h6 : ∀ v l, Q v → keyOf Try.prog K v = some l → (has D l = true ↔ v ∈ ks)) (h7 : ∀ v l z, v ∈ ks → keyOf Try.prog K v = some l → D.atKey l z = .lit (.int .i64 (G v)))
    {v : Value} {l : Lit} (hv : Q v) (hl : keyOf Try.prog K v = some l) (ho : w1.ownsMap Try.prog K (plainElem Try.prog 3) b (ks.length + 1) (D.put l (.lit (.int .i64 (G v))))) : Mp w1 b K Q G := by
  have hkl := T.keyed.key hl
  have hne : ∀ u l', keyOf Try.prog K u = some l' → u ≠ v → l' ≠ l := fun u l' h e e2 => e (T.keyed.inj (by rw [e2] at h; exact h) hl)
  by_cases hm : v ∈ ks
  · refine ⟨D.put l (.lit (.int .i64 (G v))), ks, ?_, h2.put hkl _, ?_, h4, h5, fun u l' hu hl' => ?_, fun u l' z hu hl' => ?_⟩
    · have hsz : size (D.put l (.lit (.int .i64 (G v)))) = ks.length := by rw [size_put h2, (h6 v l hv hl).2 hm, h3]; simp
      obtain ⟨es, clock, a1, a2, a3, a4⟩ := ho
      refine ⟨es, clock, a1, a2, ?_, a4⟩
      have e1 : size (D.put l (.lit (.int .i64 (G v)))) = es.size := by rw [a4]; simp [Maps.size, length_sorted]
      omega
    · rw [size_put h2, (h6 v l hv hl).2 hm, h3]; simp
    · by_cases e : u = v
      · subst e
        obtain rfl : l' = l := by rw [hl] at hl'; injection hl' with h; exact h.symm
        rw [has_put_same h2.isMap hkl]
        simp [hm]
      · rw [has_put_other (hne u l' hl' e)]
        exact h6 u l' hu hl'
    · by_cases e : u = v
      · subst e
        obtain rfl : l' = l := by rw [hl] at hl'; injection hl' with h; exact h.symm
        rw [atKey_put_same h2.isMap hkl]
      · rw [atKey_put_other (hne u l' hl' e)]
        exact h7 u l' z hu hl'
  · have hf : has D l = false := by
      cases e : has D l
      · rfl
      · exact absurd ((h6 v l hv hl).1 e) hm
    refine ⟨D.put l (.lit (.int .i64 (G v))), ks ++ [v], by simpa using ho, h2.put hkl _, ?_, ?_, fun u hu => ?_, fun u l' hu hl' => ?_, fun u l' z hu hl' => ?_⟩
    · rw [size_put h2, hf, h3]; simp
    · rw [List.nodup_append]
      exact ⟨h4, by simp, fun a ha c hc => by simp at hc; subst hc; exact fun e => hm (e ▸ ha)⟩
    · rcases List.mem_append.1 hu with hu | hu
      · exact h5 u hu
      · simp at hu; subst hu; exact hv
    · by_cases e : u = v
      · subst e
        obtain rfl : l' = l := by rw [hl] at hl'; injection hl' with h; exact h.symm
        rw [has_put_same h2.isMap hkl]
        simp
      · rw [has_put_other (hne u l' hl' e), h6 u l' hu hl']
        simp [e]
    · by_cases e : u = v
      · subst e
        obtain rfl : l' = l := by rw [hl] at hl'; injection hl' with h; exact h.symm
        rw [atKey_put_same h2.isMap hkl]
      · rw [atKey_put_other (hne u l' hl' e)]
        refine h7 u l' z ?_ hl'
        rcases List.mem_append.1 hu with hu | hu
        · exact hu
        · simp at hu; exact absurd hu e
theorem zero3c (w : World) : (zeroValue 3).run Try.prog w = .ok (.int .i64 0) w := by
  exact (Option.map_eq_some_iff.1 (show (Try.prog.info? 3).map (fun i => i.zero) = some (some (.int .i64 0)) by kernel_rfl)).elim fun i hi => by simp [zeroValue, typeInfo, hi.1, hi.2]
theorem plain3 {n : Int} (h0 : 0 ≤ n) (h1 : n ≤ 1000000) : plainElem (H := Unit) Try.prog 3 (.int .i64 n) = some (.lit (.int .i64 n), []) := plainElem_int Try.underlying3 (by
    have hm : IntKind.i64.min = -9223372036854775808 := by decide
    have hM : IntKind.i64.max = 9223372036854775807 := by decide
    simp [Lit.wf, hm, hM]
    omega)
set_option maxHeartbeats 1600000 in
/-- What is known is told; what is not is worked out, and known then. -/
theorem once82 (b : Nat) (G : Value → Int) (x i j : Int) (caps : Array Value) (P : World → World → Prop) (w : World) (hM : Mp w b 127 Ky3 G) (hq : Ky3 (kv3 x i j)) (h0 : 0 ≤ G (kv3 x i j)) (h1 : G (kv3 x i j) ≤ 1000000)
    (hW : Calls Try.prog 83 caps (w.alloc (.cells #[.int .i64 x, .int .i64 i, .int .i64 j] 127)) fun e w' => e = .returned (.int .i64 (G (kv3 x i j))) ∧ Mp w' b 127 Ky3 G ∧ P (w.alloc (.cells #[.int .i64 x, .int .i64 i, .int .i64 j] 127)) w' ∧ Box w' w.heap.size 127 [.int .i64 x, .int .i64 i, .int .i64 j]) :
    Calls Try.prog 82 #[.map (some b), .agg #[.int .i64 x, .int .i64 i, .int .i64 j], .func (.func 83) #[] caps] w fun e w' => e = .returned (.int .i64 (G (kv3 x i j))) ∧ Mp w' b 127 Ky3 G ∧ (w' = w.alloc (.cells #[.int .i64 x, .int .i64 i, .int .i64 j] 127) ∨ ∃ w2, P (w.alloc (.cells #[.int .i64 x, .int .i64 i, .int .i64 j] 127)) w2 ∧ w2.mapTurned w' b) := by
  obtain ⟨l, hl⟩ := ky127.key _ hq
  have HW := (show Hid _ from hW); clear hW
  have HQ := (show Hid _ from (⟨hq, hl⟩ : _ ∧ _))
  have hm1 : Mp (w.alloc (.cells #[.int .i64 x, .int .i64 i, .int .i64 j] 127)) b 127 Ky3 G := hM.keep ((bel_alloc _ _).block b hM.lt)
  have HM1 := (show Hid _ from hm1)
  obtain ⟨D, ks, d1, d2, d3, d4, d5, d6, d7⟩ := hm1
  have hk : keyOf Try.prog 127 (.agg #[.int .i64 x, .int .i64 i, .int .i64 j]) = some l := hl
  have HD := (show Hid _ from (⟨d1, d6, d7⟩ : _ ∧ _ ∧ _)); clear d1 d2 d3 d4 d5
  by_cases hin : kv3 x i j ∈ ks
  · have hh : has D l = true := (d6 _ _ hq hl).2 hin
    have ha := d7 _ l (.lit (.int .i64 0)) hin hl
    have HA := (show Hid _ from ha); clear ha d6 d7 hin hl hM hq
    go_enter Try.func82, Try.ntmps82
    go_wp2_with (at_lookup; refine wpList_lookup_own_ok_int _ rfl _ _ 120 rfl 127 3 .i64 keyed127 Try.underlying120 Try.underlying3 (zero3c _) b _ D rfl HD.out.1 _ _ rfl hk ?_; intro c hat hwc)
    go_ret
    have hc : c = G (kv3 x i j) := by
      have h1 := HA.out
      have h2 : D.atKey l (DataW.lit (Lit.int IntKind.i64 0)) = DataW.lit (Lit.int IntKind.i64 c) := hat
      rw [h1] at h2
      simpa using h2.symm
    exact ⟨by rw [hc]; rfl, HM1.out, .inl rfl⟩
  · have hh : has D l = false := by
      cases e : has D l
      · rfl
      · exact absurd ((d6 _ _ hq hl).1 e) hin
    clear d6 d7 hin hl hM hq
    go_enter Try.func82, Try.ntmps82
    go_wp2_with (at_lookup; refine wpList_lookup_own_ok_int _ rfl _ _ 120 rfl 127 3 .i64 keyed127 Try.underlying120 Try.underlying3 (zero3c _) b _ D rfl HD.out.1 _ _ rfl hk ?_; intro c hat hwc)
    refine Calls.mono HW.out ?_
    rintro e w2 ⟨rfl, hm2, hp2, hbx⟩
    obtain ⟨E, js, j1, j2, j3, j4, j5, j6, j7⟩ := hm2
    have hfew := few_keys ky127 j4 j5
    have HE := (show Hid _ from (⟨j1, j2, j3, j4, j5, j6, j7⟩ : _ ∧ _ ∧ _ ∧ _ ∧ _ ∧ _ ∧ _)); clear j1 j2 j3 j4 j5 j6 j7
    have t0 : w2.cell? ⟨w.heap.size, 0, none⟩ = some (.int .i64 x) := hbx.cell 0 (by simp)
    have t1 : w2.cell? ⟨w.heap.size, 1, none⟩ = some (.int .i64 i) := hbx.cell 1 (by simp)
    have t2 : w2.cell? ⟨w.heap.size, 2, none⟩ = some (.int .i64 j) := hbx.cell 2 (by simp)
    have HP2 := (show Hid _ from hp2)
    have hpe := plain3 h0 h1
    clear hp2 hbx HW HD hh
    go_wp2_with (at_mapUpdate; refine wpList_mapUpdate_in _ rfl _ _ _ 120 rfl 127 3 keyed127 Try.underlying120 _ b _ E rfl HE.out.1 ?hn _ _ _ rfl rfl hk _ _ hpe ?nx)
    case hn => unfold maxLen; omega
    case nx =>
      intro w3 hown3 hturn3
      have HM3 := (show Hid _ from Mp.put ky127 HE.out.2.1 HE.out.2.2.1 HE.out.2.2.2.1 HE.out.2.2.2.2.1 HE.out.2.2.2.2.2.1 HE.out.2.2.2.2.2.2 HQ.out.1 HQ.out.2 hown3)
      have HT3 := (show Hid _ from hturn3); clear hown3 hturn3
      go_wp2_with fail
      go_ret
      exact ⟨rfl, HM3.out, .inr ⟨w2, HP2.out, HT3.out⟩⟩
set_option maxHeartbeats 1600000 in
/-- What is known is told; what is not is worked out, and known then. -/
theorem once96 (b : Nat) (G : Value → Int) (k p i j : Int) (caps : Array Value) (P : World → World → Prop) (w : World) (hM : Mp w b 140 Ky4 G) (hq : Ky4 (kv4 k p i j)) (h0 : 0 ≤ G (kv4 k p i j)) (h1 : G (kv4 k p i j) ≤ 1000000)
    (hW : Calls Try.prog 97 caps (w.alloc (.cells #[.int .i64 k, .int .i64 p, .int .i64 i, .int .i64 j] 140)) fun e w' => e = .returned (.int .i64 (G (kv4 k p i j))) ∧ Mp w' b 140 Ky4 G ∧ P (w.alloc (.cells #[.int .i64 k, .int .i64 p, .int .i64 i, .int .i64 j] 140)) w' ∧ Box w' w.heap.size 140 [.int .i64 k, .int .i64 p, .int .i64 i, .int .i64 j]) :
    Calls Try.prog 96 #[.map (some b), .agg #[.int .i64 k, .int .i64 p, .int .i64 i, .int .i64 j], .func (.func 97) #[] caps] w fun e w' => e = .returned (.int .i64 (G (kv4 k p i j))) ∧ Mp w' b 140 Ky4 G ∧ (w' = w.alloc (.cells #[.int .i64 k, .int .i64 p, .int .i64 i, .int .i64 j] 140) ∨ ∃ w2, P (w.alloc (.cells #[.int .i64 k, .int .i64 p, .int .i64 i, .int .i64 j] 140)) w2 ∧ w2.mapTurned w' b) := by
  obtain ⟨l, hl⟩ := ky140.key _ hq
  have HW := (show Hid _ from hW); clear hW
  have HQ := (show Hid _ from (⟨hq, hl⟩ : _ ∧ _))
  have hm1 : Mp (w.alloc (.cells #[.int .i64 k, .int .i64 p, .int .i64 i, .int .i64 j] 140)) b 140 Ky4 G := hM.keep ((bel_alloc _ _).block b hM.lt)
  have HM1 := (show Hid _ from hm1)
  obtain ⟨D, ks, d1, d2, d3, d4, d5, d6, d7⟩ := hm1
  have hk : keyOf Try.prog 140 (.agg #[.int .i64 k, .int .i64 p, .int .i64 i, .int .i64 j]) = some l := hl
  have HD := (show Hid _ from (⟨d1, d6, d7⟩ : _ ∧ _ ∧ _)); clear d1 d2 d3 d4 d5
  by_cases hin : kv4 k p i j ∈ ks
  · have hh : has D l = true := (d6 _ _ hq hl).2 hin
    have ha := d7 _ l (.lit (.int .i64 0)) hin hl
    have HA := (show Hid _ from ha); clear ha d6 d7 hin hl hM hq
    go_enter Try.func96, Try.ntmps96
    go_wp2_with (at_lookup; refine wpList_lookup_own_ok_int _ rfl _ _ 121 rfl 140 3 .i64 keyed140 Try.underlying121 Try.underlying3 (zero3c _) b _ D rfl HD.out.1 _ _ rfl hk ?_; intro c hat hwc)
    go_ret
    have hc : c = G (kv4 k p i j) := by
      have h1 := HA.out
      have h2 : D.atKey l (DataW.lit (Lit.int IntKind.i64 0)) = DataW.lit (Lit.int IntKind.i64 c) := hat
      rw [h1] at h2
      simpa using h2.symm
    exact ⟨by rw [hc]; rfl, HM1.out, .inl rfl⟩
  · have hh : has D l = false := by
      cases e : has D l
      · rfl
      · exact absurd ((d6 _ _ hq hl).1 e) hin
    clear d6 d7 hin hl hM hq
    go_enter Try.func96, Try.ntmps96
    go_wp2_with (at_lookup; refine wpList_lookup_own_ok_int _ rfl _ _ 121 rfl 140 3 .i64 keyed140 Try.underlying121 Try.underlying3 (zero3c _) b _ D rfl HD.out.1 _ _ rfl hk ?_; intro c hat hwc)
    refine Calls.mono HW.out ?_
    rintro e w2 ⟨rfl, hm2, hp2, hbx⟩
    obtain ⟨E, js, j1, j2, j3, j4, j5, j6, j7⟩ := hm2
    have hfew := few_keys ky140 j4 j5
    have HE := (show Hid _ from (⟨j1, j2, j3, j4, j5, j6, j7⟩ : _ ∧ _ ∧ _ ∧ _ ∧ _ ∧ _ ∧ _)); clear j1 j2 j3 j4 j5 j6 j7
    have t0 : w2.cell? ⟨w.heap.size, 0, none⟩ = some (.int .i64 k) := hbx.cell 0 (by simp)
    have t1 : w2.cell? ⟨w.heap.size, 1, none⟩ = some (.int .i64 p) := hbx.cell 1 (by simp)
    have t2 : w2.cell? ⟨w.heap.size, 2, none⟩ = some (.int .i64 i) := hbx.cell 2 (by simp)
    have t3 : w2.cell? ⟨w.heap.size, 3, none⟩ = some (.int .i64 j) := hbx.cell 3 (by simp)
    have HP2 := (show Hid _ from hp2)
    have hpe := plain3 h0 h1
    clear hp2 hbx HW HD hh
    go_wp2_with (at_mapUpdate; refine wpList_mapUpdate_in _ rfl _ _ _ 121 rfl 140 3 keyed140 Try.underlying121 _ b _ E rfl HE.out.1 ?hn _ _ _ rfl rfl hk _ _ hpe ?nx)
    case hn => unfold maxLen; omega
    case nx =>
      intro w3 hown3 hturn3
      have HM3 := (show Hid _ from Mp.put ky140 HE.out.2.1 HE.out.2.2.1 HE.out.2.2.2.1 HE.out.2.2.2.2.1 HE.out.2.2.2.2.2.1 HE.out.2.2.2.2.2.2 HQ.out.1 HQ.out.2 hown3)
      have HT3 := (show Hid _ from hturn3); clear hown3 hturn3
      go_wp2_with fail
      go_ret
      exact ⟨rfl, HM3.out, .inr ⟨w2, HP2.out, HT3.out⟩⟩
end Go.Proofs.Ytpbpmhgoppbfnaa
