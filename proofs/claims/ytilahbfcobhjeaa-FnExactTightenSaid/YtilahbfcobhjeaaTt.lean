import Derived.Test.YtilahbfcobhjeaaTg
import Derived.Test.YtilahbfcobhjeaaTn
/-! Programs that are made tighter: Tighten of both sides (of the program: given what staying tells). -/
namespace Go.Proofs.Ytilahbfcobhjeaa
open Go.RowKit Go.Deep
set_option linter.unusedVariables false
set_option maxRecDepth 100000
set_option linter.unusedSimpArgs false

/-- What Tighten leaves. -/
def TiA (l : List DIns) (w : World) (e : Ending) (w' : World) : Prop :=
  ∃ (v : Value) (c : Int) (r : List DIns) (b : Nat), e = .returned (.tuple #[v, .int .i64 c]) ∧ Below w.heap.size w w' ∧ OwnX w' b r v ∧ (0 < r.length → w.heap.size ≤ b) ∧ (pgB l = true → TgR l r ∧ c = 0) ∧ (pgB l = false → r = [] ∧ c = 1)
theorem OwnX.nil (w : World) (a : Option Addr) (c : Nat) (hc : c ≤ maxLen) : OwnX w 0 [] (.slice a 0 c) :=
  ⟨a, c, fun _ => .nilFunc, rfl, Nat.zero_le _, hc, fun h => absurd h (Nat.lt_irrefl _), fun i hi => absurd hi (Nat.not_lt_zero _)⟩
theorem in_zero {n : Nat} {x : DIns} (h : inB n x = true) (hh : ¬ htB x.op = true) : x.to_ = 0 := by
  unfold inB at h
  simp only [Bool.and_eq_true] at h
  have h2 := h.2.1
  unfold mxT at h2
  rw [if_neg hh] at h2
  unfold btB at h2
  simp at h2
  omega
theorem pg_len {l : List DIns} (hp : pgB l = true) : 1 ≤ l.length ∧ l.length ≤ 50000 := by
  unfold pgB at hp; simp only [Bool.and_eq_true] at hp
  have h1 := hp.1
  unfold btB at h1
  simp at h1
  omega
set_option maxHeartbeats 1600000 in
theorem sTi28 {S : Nat → Prop} (l : List DIns) (v : Value) (w : World) (h : InsR w S l v) : Calls Try.prog 28 #[v] w (TiA l w) := by
  have HP := (show Hid _ from sPg9 l v w h)
  have HT := (show Hid (∀ wq, Below w.heap.size w wq → pgB l = true → Calls Try.prog 68 #[v] wq (TgA l wq)) from fun wq hb hp => tight68 l v wq (h.keep (fun b _ hlt => hb.block b hlt)) hp)
  obtain ⟨a, cap, hv, _⟩ := h.form
  subst hv
  clear h
  cases hp : pgB l
  · rw [hp] at HP
    have HN := (show Hid _ from hp)
    clear hp HT
    go_enter Try.func28, Try.ntmps28
    go_wp2_with fail
    refine Calls.mono HP.out ?_
    rintro e w1 ⟨rfl, hb1⟩
    have HE := (show Hid (TiA l w (.returned (.tuple #[.slice (some ⟨w1.heap.size, 0, none⟩) 0 0, .int .i64 1])) (w1.alloc (.cells #[] 57))) from ⟨_, 1, [], 0, rfl, bel_trans hb1 (bel_alloc _ _), OwnX.nil _ _ 0 (by unfold maxLen; omega), fun h => absurd h (Nat.lt_irrefl _), fun h => (by rw [HN.out] at h; cases h), fun _ => ⟨rfl, rfl⟩⟩)
    clear hb1
    go_wp2_with fail
    go_ret2
    exact HE.out
  · rw [hp] at HP
    have HN := (show Hid _ from hp)
    clear hp
    go_enter Try.func28, Try.ntmps28
    go_wp2_with fail
    refine Calls.mono HP.out ?_
    rintro e w1 ⟨rfl, hb1⟩
    have HT1 := (show Hid _ from HT.out w1 hb1 HN.out)
    have HB1 := (show Hid _ from hb1)
    unfold TgA at HT1
    clear hb1 HT
    go_wp2_with fail
    refine Calls.mono HT1.out ?_
    rintro e w2 ⟨r, g, c, hr, rfl, hb2, ho⟩
    have HE := (show Hid (TiA l w (.returned (.tuple #[.slice (some ⟨g, 0, none⟩) r.length c, .int .i64 0])) w2) from ⟨_, 0, r, g, rfl, bel_trans HB1.out hb2, (XC.of ho).own, fun _ => by have := (own_lt ho (b := g) rfl).1; have := HB1.out.size; omega, fun _ => ⟨hr, rfl⟩, fun h => by rw [HN.out] at h; cases h⟩)
    clear hb2 ho hr
    go_wp2_with fail
    go_ret2
    exact HE.out
/-- What staying answers. -/
def StyA (L : List DIns) (w : World) (e : Ending) (w' : World) : Prop :=
  ∃ (g : Nat) (st bs : List Bool), e = .returned (.slice (some ⟨g, 0, none⟩) L.length L.length) ∧ Below w.heap.size w w' ∧ BR w' g st ∧ st.length = L.length ∧ Lst L bs ∧ Lvs L (notB bs) (notB st)
set_option maxHeartbeats 3200000 in
theorem iTi29 {S : Nat → Prop} (l : List DIns) (v : Value) (w : World) (h : InsR w S l v)
    (hstay : pgB l = true → ∀ (g c : Nat) (wq : World), XC wq g c (led l) → Calls Try.prog 71 #[.slice (some ⟨g, 0, none⟩) l.length c] wq (StyA (led l) wq)) : Calls Try.prog 29 #[v] w (TiA l w) := by
  have HP := (show Hid _ from iPg11 l v w h)
  have HL := (show Hid (∀ wq, Below w.heap.size w wq → pgB l = true → Calls Try.prog 69 #[v] wq (LoA l wq)) from fun wq hb hp => led69 l v wq (h.keep (fun b _ hlt => hb.block b hlt)) (pg_len hp).1 (pg_len hp).2 (fun i hi => (pg_at hp hi).1)
    (fun w' hb' => jump103 l v w' (h.keep (fun b _ hlt => ((hb.trans (hb'.mono hb.size)).block b hlt))) (pg_len hp).1 (pg_len hp).2 (fun i hi => (pg_at hp hi).1)))
  obtain ⟨a, cap, hv, _⟩ := h.form
  subst hv
  clear h
  cases hp : pgB l
  · rw [hp] at HP
    have HN := (show Hid _ from hp)
    clear hp HL hstay
    go_enter Try.func29, Try.ntmps29
    go_wp2_with fail
    refine Calls.mono HP.out ?_
    rintro e w1 ⟨rfl, hb1⟩
    have HE := (show Hid (TiA l w (.returned (.tuple #[.slice none 0 0, .int .i64 1])) w1) from ⟨_, 1, [], 0, rfl, hb1, OwnX.nil _ _ 0 (by unfold maxLen; omega), fun h => absurd h (Nat.lt_irrefl _), fun h => (by rw [HN.out] at h; cases h), fun _ => ⟨rfl, rfl⟩⟩)
    clear hb1
    go_wp2_with fail
    go_ret2
    exact HE.out
  · rw [hp] at HP
    have HN := (show Hid _ from hp)
    have HS := (show Hid _ from hstay hp)
    have hin : ∀ i (hi : i < l.length), inB l.length l[i] = true := fun i hi => (pg_at hp hi).1
    have HLE := (show Hid (1 ≤ l.length ∧ l.length ≤ 50000) from pg_len hp)
    have HT0 := (show Hid (∀ i (hi : i < (led l).length), 0 ≤ (led l)[i].to_ ∧ (led l)[i].to_ < (led l).length) from fun i hi => by
      by_cases hh : htB (led l)[i].op = true
      · exact led_to hin i hi hh
      · have hil : i < l.length := by rw [led_len] at hi; exact hi
        have hll := led_len l
        rw [led_get hi] at hh ⊢
        rw [ldX_op] at hh
        unfold ldX
        rw [if_neg hh, in_zero (hin i hil) hh]
        omega)
    have HT1 := (show Hid (∀ i (hi : i < (led l).length), ¬ htB (led l)[i].op = true → (led l)[i].to_ = 0) from fun i hi hh => by
      have hil : i < l.length := by rw [led_len] at hi; exact hi
      rw [led_get hi] at hh ⊢
      rw [ldX_op] at hh
      unfold ldX
      rw [if_neg hh, in_zero (hin i hil) hh])
    have HLL := (show Hid _ from led_len l)
    clear hp hstay hin
    go_enter Try.func29, Try.ntmps29
    go_wp2_with fail
    refine Calls.mono HP.out ?_
    rintro e w1 ⟨rfl, hb1⟩
    have HL1 := (show Hid _ from HL.out w1 hb1 HN.out)
    have HB1 := (show Hid _ from hb1)
    unfold LoA at HL1
    clear hb1 HL
    go_wp2_with fail
    refine Calls.mono HL1.out ?_
    rintro e w2 ⟨g, c, rfl, hb2, hxc, hg⟩
    have HB2 := (show Hid _ from bel_trans HB1.out hb2)
    have HX2 := (show Hid (XC w2 g c (led l)) from hxc)
    have HS1 := (show Hid _ from HS.out g c w2 hxc)
    unfold StyA at HS1
    clear hb2 hxc hg HL1 HS
    go_wp2_with fail
    refine Calls.mono HS1.out ?_
    rintro e w3 ⟨g3, st, bs, rfl, hb3, hbr, hsl, hls, hlv⟩
    have HO := (show Hid _ from only70 (led l) st (.slice (some ⟨g, 0, none⟩) (led l).length c) (.slice (some ⟨g3, 0, none⟩) st.length st.length) w3
      (((show XC w2 g c (led l) from HX2.out).xr.still hb3).ins HX2.out.1 HX2.out.2.1) (hbr.bls (Nat.le_refl _) (by unfold maxLen; have := HLE.out; have := HLL.out; omega)) hsl (by rw [HLL.out]; exact HLE.out.2) HT0.out HT1.out)
    rw [hsl, HLL.out] at HO
    have HTG := (show Hid (TgR l (wtO (notB st) (led l) (led l).length)) from ⟨bs, notB st, hls, hlv, rfl⟩)
    rw [← HLL.out] at HO
    rw [← HLL.out]
    generalize wtO (notB st) (led l) (led l).length = R at *
    rw [HLL.out] at HO ⊢
    have HB3 := (show Hid _ from bel_trans HB2.out hb3)
    unfold OnA at HO
    clear hb3 hbr hsl hls hlv HS1
    go_wp2_with fail
    refine Calls.mono HO.out ?_
    rintro e w4 ⟨v4, b4, rfl, hb4, hox, hbs⟩
    have HE := (show Hid (TiA l w (.returned (.tuple #[v4, .int .i64 0])) w4) from ⟨_, 0, R, b4, rfl, bel_trans HB3.out hb4, hox, fun h => by have := hbs h; have := HB3.out.size; omega, fun _ => ⟨HTG.out, rfl⟩, fun h => by rw [HN.out] at h; cases h⟩)
    clear hb4 hox hbs
    go_wp2_with fail
    go_ret2
    exact HE.out
end Go.Proofs.Ytilahbfcobhjeaa
