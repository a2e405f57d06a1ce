import Derived.Test.YthmdoplickpmaaiPut7
import Derived.Test.YthmdoplickpmaaiLawAt
import Derived.Deep.CutRange
import Derived.Deep.Light
namespace Go.Proofs.Ythmdoplickpmaai
open Go.RowKit Go.Deep Go.Lib
set_option linter.unusedVariables false
set_option maxRecDepth 100000
set_option linter.unusedSimpArgs false

theorem Four.set {w : World} {g B o : Nat} {c0 c1 c2 c3 x : Value} (h : Four w g c0 c1 c2 c3) (hB : g ≠ B) : Four (w.setCell ⟨B, o, none⟩ x) g c0 c1 c2 c3 := by
  have e : ∀ i, (w.setCell ⟨B, o, none⟩ x).cell? ⟨g, i, none⟩ = w.cell? ⟨g, i, none⟩ := fun i => World.cell?_of_block (w := w) (blk_setCell_other _ _ _ _ (by exact hB))
  exact ⟨(e 0).trans h.1, (e 1).trans h.2.1, (e 2).trans h.2.2.1, (e 3).trans h.2.2.2⟩
theorem Held8.set {t u : Tr} {v uv x : Value} {h B o : Nat} {w : World} (H : Held8 t u v uv h w) (hB : h + 2 ≤ B) : Held8 t u v uv h (w.setCell ⟨B, o, none⟩ x) := ⟨H.1.set (by omega), H.2.set (by omega)⟩
/-- An answer in a variable of its own. -/
def Boxed (R : Tr) (B lo hi : Nat) (a : Option Addr) (m c : Nat) (w : World) : Prop :=
  Four w B (.string R.name) (.string R.text) (.bool R.leaf) (.slice a m c) ∧ Own w lo hi R (.slice a m c) ∧ hi ≤ w.heap.size ∧ B < w.heap.size ∧ (B < lo ∨ hi ≤ B)

theorem Boxed.still {R : Tr} {B lo hi : Nat} {a : Option Addr} {m c : Nat} {w w' : World} (h : Boxed R B lo hi a m c w) (hb : Below w.heap.size w w') : Boxed R B lo hi a m c w' :=
  ⟨h.1.still hb, h.2.1.still hb, Nat.le_trans h.2.2.1 hb.size, Nat.lt_of_lt_of_le h.2.2.2.1 hb.size, h.2.2.2.2⟩
/-- Two trees' boxes, wherever they lie. -/
def TwoBox (x y : Tr) (vx vy : Value) (g h : Nat) (w : World) : Prop := Four w g (.string x.name) (.string x.text) (.bool x.leaf) vx ∧ Four w h (.string y.name) (.string y.text) (.bool y.leaf) vy
theorem TwoBox.still {x y : Tr} {vx vy : Value} {g h : Nat} {w w' : World} (H : TwoBox x y vx vy g h w) (hb : Below w.heap.size w w') : TwoBox x y vx vy g h w' := ⟨H.1.still hb, H.2.still hb⟩
theorem boxed_new {R : Tr} {lo : Nat} {a : Option Addr} {m c : Nat} {w : World} (h : Own w lo w.heap.size R (.slice a m c)) : Boxed R w.heap.size lo w.heap.size a m c (w.alloc (.cells #[.string R.name, .string R.text, .bool R.leaf, .slice a m c] 29)) :=
  ⟨four_box _ _ _ _ _ _, h.still (bel_alloc _ _), by simp, by simp, .inr (Nat.le_refl _)⟩
theorem boxed_set {R : Tr} {B lo hi : Nat} {a : Option Addr} {m c : Nat} {w : World} {z0 z1 z2 z3 : Value} (hB : Box4 w B z0 z1 z2 z3) (h : Own w lo hi R (.slice a m c)) (hhi : hi ≤ w.heap.size) (hd : B < lo ∨ hi ≤ B) :
    Boxed R B lo hi a m c ((((w.setCell ⟨B, 0, none⟩ (.string R.name)).setCell ⟨B, 1, none⟩ (.string R.text)).setCell ⟨B, 2, none⟩ (.bool R.leaf)).setCell ⟨B, 3, none⟩ (.slice a m c)) :=
  ⟨(hB.set4 _ _ _ _).cells, ((((h.past hd).past hd).past hd).past hd), by simp [World.setCell]; exact hhi, by simp [World.setCell]; exact hB.lt, hd⟩

theorem mark_at (t : Tr) (v : Value) (w : World) (lo hi n : Nat) (h : Own w lo hi t v) (hhi : hi ≤ w.heap.size) (hn : 0 < n) (hn' : n ≤ 6000000) (hwt : t.wt ≤ 1048576) :
    Calls Try.prog 14 #[t.val v, .int .i64 n] w fun e w' => ∃ n' : Nat, n' ≤ 10000000 ∧ e = .returned (.int .i64 n') ∧ Out lo hi w w' := by
  have hb := mkN_le hwt
  unfold mkN at hb
  refine Calls.mono (mark_any t v w lo hi n h hhi hn (by omega)) ?_
  rintro e w' ⟨rfl, ho, _⟩
  exact ⟨n + 3 * Tr.cntL t.kids, by omega, rfl, ho⟩
theorem bel_set4 {b B : Nat} {w w' : World} {x0 x1 x2 x3 : Value} (h : Below b w w') (hB : b ≤ B) : Below b w ((((w'.setCell ⟨B, 0, none⟩ x0).setCell ⟨B, 1, none⟩ x1).setCell ⟨B, 2, none⟩ x2).setCell ⟨B, 3, none⟩ x3) :=
  (((h.setCell hB _).setCell hB _).setCell hB _).setCell hB _
theorem boxed_rel {R : Tr} {B lo hi : Nat} {a : Option Addr} {m c : Nat} {w0 w : World} {z0 z1 z2 z3 : Value} (hB : Box4 w B z0 z1 z2 z3) (h : Own w lo hi R (.slice a m c)) (hhi : hi ≤ w.heap.size) (hd : B < lo) (h0 : w0.heap.size ≤ B) (hb : Below w0.heap.size w0 w) :
    Hid (Boxed R B lo hi a m c ((((w.setCell ⟨B, 0, none⟩ (.string R.name)).setCell ⟨B, 1, none⟩ (.string R.text)).setCell ⟨B, 2, none⟩ (.bool R.leaf)).setCell ⟨B, 3, none⟩ (.slice a m c)) ∧ w0.heap.size ≤ B ∧ w0.heap.size ≤ lo ∧ Below w0.heap.size w0 ((((w.setCell ⟨B, 0, none⟩ (.string R.name)).setCell ⟨B, 1, none⟩ (.string R.text)).setCell ⟨B, 2, none⟩ (.bool R.leaf)).setCell ⟨B, 3, none⟩ (.slice a m c))) :=
  ⟨boxed_set hB h hhi (.inl hd), h0, by omega, bel_set4 hb h0⟩
theorem boxed_rel0 {R : Tr} {lo : Nat} {a : Option Addr} {m c : Nat} {w0 w : World} (h : Own w lo w.heap.size R (.slice a m c)) (h0 : w0.heap.size ≤ lo) (hb : Below w0.heap.size w0 w) :
    Hid (Boxed R w.heap.size lo w.heap.size a m c (w.alloc (.cells #[.string R.name, .string R.text, .bool R.leaf, .slice a m c] 29)) ∧ w0.heap.size ≤ w.heap.size ∧ w0.heap.size ≤ lo ∧ Below w0.heap.size w0 (w.alloc (.cells #[.string R.name, .string R.text, .bool R.leaf, .slice a m c] 29))) :=
  ⟨boxed_new h, hb.size, h0, bel_trans hb (bel_alloc _ _)⟩

set_option maxHeartbeats 16000000 in
theorem lawPut {S S' S2 : Nat → Prop} (t u : Tr) (l : List Int) (v pv uv : Value) (w : World) (hlies : Lies w S t v) (hp : Ints w S' l pv) (hlu : Lies w S2 u uv) :
    Calls Try.prog 4 #[t.val v, pv, u.val uv] w fun e w' => e = .returned (.bool true) ∧ Below w.heap.size w w' := by
  have hsz := fun (w' : World) (hw : Below w.heap.size w w') => sz_any t v w' 1048576 (hlies.still hw) (by omega) (by omega)
  have hszu := fun (w' : World) (hw : Below w.heap.size w w') (q : Int) (h0 : 0 ≤ q) (h1 : q ≤ 1048576) => sz_any u uv w' q (hlu.still hw) (by omega) (by omega)
  have hto := fun (w' : World) (hw : Below w.heap.size w w') => toO_any t v w' (hlies.still hw)
  have htu := fun (w' : World) (hw : Below w.heap.size w w') => toO_any u uv w' (hlu.still hw)
  have hti := fun (w' : World) (hw : Below w.heap.size w w') => toInts_any l pv w' (hp.still hw)
  obtain ⟨a, len, cap, rfl⟩ := hlies.form
  obtain ⟨ua, ulen, ucap, rfl⟩ := hlu.form
  obtain ⟨pa, pcap, pb, poff, rfl, hpc, hpm, _⟩ := hp
  have HS := (show Hid _ from hsz); clear hsz
  have HSU := (show Hid _ from hszu); clear hszu
  have HT := (show Hid _ from hto); clear hto
  have HTU := (show Hid _ from htu); clear htu
  have HTI := (show Hid _ from hti); clear hti
  unfold maxLen at hpm
  clear hlies hlu
  simp only [Tr.val]
  by_cases hll : l.length ≤ 1048576
  · go_enter Try.func4, Try.ntmps4
    go_wp2_with fail
    have hbw0 : Below w.heap.size w ((w.alloc (.cells #[.string t.name, .string t.text, .bool t.leaf, .slice a len cap] 24)).alloc (.cells #[.string u.name, .string u.text, .bool u.leaf, .slice ua ulen ucap] 24)) := (bel_alloc _ _).alloc (by simp) _
    have h80 : Held8 t u (.slice a len cap) (.slice ua ulen ucap) w.heap.size ((w.alloc (.cells #[.string t.name, .string t.text, .bool t.leaf, .slice a len cap] 24)).alloc (.cells #[.string u.name, .string u.text, .bool u.leaf, .slice ua ulen ucap] 24)) := by
      refine ⟨(four_box w _ _ _ _ 24).still (bel_alloc _ _), ?_⟩
      have := four_box (w.alloc (.cells #[.string t.name, .string t.text, .bool t.leaf, .slice a len cap] 24)) (.string u.name) (.string u.text) (.bool u.leaf) (.slice ua ulen ucap) 24
      simp only [World.size_alloc] at this
      exact this
    refine Calls.mono (HS.out _ hbw0) ?_
    rintro e w1 ⟨rfl, hb1⟩
    have hbw1 : Below w.heap.size w w1 := bel_trans hbw0 hb1
    have H81 := (show Hid _ from h80.still hb1)
    have hz1 : w.heap.size + 2 ≤ w1.heap.size := by have := hb1.size; simp at this; omega
    clear h80 hbw0 hb1
    by_cases hwt : (t.wt : Int) ≤ 1048576
    · rw [szR_yes hwt]
      have hwt' : t.wt ≤ 1048576 := by omega
      generalize hle : (1048576 : Int) - t.wt = lf at *
      have hz : (0 : Int) ≤ lf := by omega
      obtain ⟨A0, A1, A2, A3⟩ := H81.out.2
      go_wp2_with fail
      refine Calls.mono (HSU.out _ hbw1 lf hz (by omega)) ?_
      rintro e w2 ⟨rfl, hb2⟩
      have hbw2 := bel_trans hbw1 hb2
      have H82 := (show Hid _ from Held8.still H81.out hb2)
      have hz2 : w.heap.size + 2 ≤ w2.heap.size := by have := hb2.size; omega
      clear A0 A1 A2 A3 H81 hb2 hbw1 hz1
      by_cases hwu : (u.wt : Int) ≤ lf
      · rw [szR_yes hwu]
        have hwu' : u.wt ≤ 1048576 := by omega
        have hwtu : t.wt + u.wt ≤ 1048576 := by omega
        generalize hlf2 : lf - u.wt = lf2 at *
        have hz' : (0 : Int) ≤ lf2 := by omega
        clear hlf2 hle hwu hwt
        have hrw := putR_wt t l u
        have hI : ∀ (v pv uv : Value) (w' : World), (∃ S, Lies w' S t v) → (∃ S, Ints w' S l pv) → (∃ S, Lies w' S u uv) → Calls Try.prog 18 #[t.val v, pv, u.val uv] w' fun e w'' => Ans (putR t l u) w' e w'' := fun v pv uv w' ⟨_, h1⟩ ⟨_, h2⟩ ⟨_, h3⟩ => iPut_any t u l v pv uv w' h1 h2 h3 hwtu
        have hS : ∀ (v pv uv : Value) (w' : World), (∃ S, Lies w' S t v) → (∃ S, Ints w' S l pv) → (∃ S, Lies w' S u uv) → Calls Try.prog 17 #[t.val v, pv, u.val uv] w' fun e w'' => Ans (putR t l u) w' e w'' := fun v pv uv w' ⟨_, h1⟩ ⟨_, h2⟩ ⟨_, h3⟩ => sPut_any t u l v pv uv w' h1 h2 h3 hwtu
        have HI := (show Hid _ from hI); clear hI
        have HP := (show Hid _ from hS); clear hS
        generalize putR t l u = r at *
        obtain ⟨R, C⟩ := r
        dsimp only at hrw
        have hneC : ((C : Int) != C) = false := by simp
        have hlm : l.length ≤ maxLen := by unfold maxLen; omega
        go_wp2_with fail
        go_cut [8, 9] from 33 to 42 (fun b c wx => ∃ (B lo hi : Nat) (xa : Option Addr) (xm xc : Nat), b = .pointer (some ⟨B, 0, none⟩) ∧ c = .int .i64 C ∧ Hid (Boxed R B lo hi xa xm xc wx ∧ w2.heap.size ≤ B ∧ w2.heap.size ≤ lo ∧ Below w2.heap.size w2 wx))
        case first =>
          have hdr := (Below.refl w2.heap.size w2).drew
          have hS0 : Held8 t u (.slice a len cap) (.slice ua ulen ucap) w.heap.size w2.drew := Held8.still H82.out hdr
          have HDR := (show Hid _ from hdr); clear hdr
          clear HS HSU HI hpc hpm hrw
          go_region_held3 (fun w' => (w'.cell? ⟨w.heap.size, 0, none⟩ = some (.string t.name) ∧ w'.cell? ⟨w.heap.size, 1, none⟩ = some (.string t.text) ∧ w'.cell? ⟨w.heap.size, 2, none⟩ = some (.bool t.leaf) ∧ w'.cell? ⟨w.heap.size, 3, none⟩ = some (.slice a len cap)) ∧ w'.cell? ⟨w.heap.size + 1, 0, none⟩ = some (.string u.name) ∧ w'.cell? ⟨w.heap.size + 1, 1, none⟩ = some (.string u.text) ∧ w'.cell? ⟨w.heap.size + 1, 2, none⟩ = some (.bool u.leaf) ∧ w'.cell? ⟨w.heap.size + 1, 3, none⟩ = some (.slice ua ulen ucap)) (((show Held8 t u (.slice a len cap) (.slice ua ulen ucap) w.heap.size _); (first | with_reducible exact hS0 | with_reducible exact hSa | with_reducible exact hSb | with_reducible exact hSc | with_reducible exact hSd | with_reducible exact Held8.still hSd (bel_alloc _ _) | with_reducible exact Held8.still hSc (bel_alloc _ _) | with_reducible exact Held8.still hSb (bel_alloc _ _) | with_reducible exact Held8.still hSa (bel_alloc _ _) | with_reducible exact Held8.still (Held8.still H82.out (bel_alloc _ _)) ((Below.refl _ _).drew) | with_reducible exact Held8.still hS0 (bel_alloc _ _) | with_reducible exact (((hSd.set hz2).set hz2).set hz2).set hz2 | with_reducible exact (((hSd.set hza).set hza).set hza).set hza | with_reducible exact (((hSd.set hzb).set hzb).set hzb).set hzb | with_reducible exact (((hSd.set hzc).set hzc).set hzc).set hzc)))
            (first
            | (go_at_call 9; have _g := hbb; clear _g; refine Calls.mono (HTU.out _ ?_ hwu') ?_; (first | with_reducible exact bel_trans hbwa hxb | with_reducible exact bel_trans (bel_trans hbwa hxb) (bel_alloc _ _)); rintro e wc ⟨vc, rfl, hbc, hoc⟩; obtain ⟨ac, mc, cc, rfl⟩ := hoc.form; (first | (with_reducible have hxc : Below wb.heap.size wb wc := hbc) | (with_reducible have hxc : Below wb.heap.size wb wc := bel_trans (bel_alloc _ _) hbc)); have hSc := Held8.still hSb hxc; have hzc := Nat.le_trans hzb hxc.size; (first | (have hBx : Box4 wc wb.heap.size (.string ByteArray.empty) (.string ByteArray.empty) (.bool false) (.slice none 0 0) := Box4.still (Box4.new wb _ _ _ _) hbc) | (have hBx := Box4.still hBx hbc) | skip); dsimp only)
            | (go_at_call 10; refine Calls.mono (HTI.out _ ?_ hll) ?_; (first | with_reducible exact hbwa | with_reducible exact bel_trans hbwa (bel_alloc _ _)); rintro e wb ⟨rfl, hbb, hib⟩; (try simp only [World.size_alloc] at hib); (first | (with_reducible have hxb : Below wa.heap.size wa wb := hbb) | (with_reducible have hxb : Below wa.heap.size wa wb := bel_trans (bel_alloc _ _) hbb)); have hSb := Held8.still hSa hxb; have hzb := Nat.le_trans hza hxb.size; (first | (have hBx : Box4 wb wa.heap.size (.string ByteArray.empty) (.string ByteArray.empty) (.bool false) (.slice none 0 0) := Box4.still (Box4.new wa _ _ _ _) hbb) | (have hBx := Box4.still hBx hbb) | skip); dsimp only)
            | (go_at_call 9; refine Calls.mono (HT.out _ ?_ hwt') ?_; (first | with_reducible exact Below.drew hbw2 | with_reducible exact Below.drew (bel_trans hbw2 (bel_alloc _ _))); rintro e wa ⟨va, rfl, hba, hoa⟩; obtain ⟨aa, ma, ca, rfl⟩ := hoa.form; (first | (with_reducible have hxa : Below w2.heap.size w2 wa := HDR.out.trans (hba.mono (Nat.le_refl _))) | (with_reducible have hxa : Below w2.heap.size w2 wa := bel_trans (bel_alloc _ _) (Below.trans ((Below.refl _ _).drew) (hba.mono (Nat.le_refl _))))); have hbwa := bel_trans hbw2 hxa; have hSa := Held8.still H82.out hxa; have hza := Nat.le_trans hz2 hxa.size; (first | (have hBx : Box4 wa w2.heap.size (.string ByteArray.empty) (.string ByteArray.empty) (.bool false) (.slice none 0 0) := Box4.still (Box4.new w2 _ _ _ _) (Below.trans ((Below.refl _ _).drew) (hba.mono (Nat.le_refl _)))) | skip); dsimp only)
            | (go_at_call 17; refine Calls.mono (HP.out _ _ _ _ ?_ ?_ ?_) ?_; (first | with_reducible exact ⟨_, Own.lies (Own.still hoa (bel_trans hxb hxc))⟩ | with_reducible exact ⟨_, Own.lies (Own.still hoa (bel_trans (bel_trans hxb hxc) (bel_alloc _ _)))⟩); (first | with_reducible exact ⟨_, IRow.ints (IRow.still hib hxc) hlm⟩ | with_reducible exact ⟨_, IRow.ints (IRow.still hib (bel_trans hxc (bel_alloc _ _))) hlm⟩); (first | with_reducible exact ⟨_, Own.lies hoc⟩ | with_reducible exact ⟨_, Own.lies (Own.still hoc (bel_alloc _ _))⟩); rintro e wd ⟨ad, md, cd, rfl, hbd, hod⟩; dsimp only at hod; (try simp only [World.size_alloc] at hod); (first | (with_reducible have hxd : Below wc.heap.size wc wd := hbd) | (with_reducible have hxd : Below wc.heap.size wc wd := bel_trans (bel_alloc _ _) hbd)); have hSd := Held8.still hSc hxd; have hzd := Nat.le_trans hzc hxd.size; (first | (have hBx : Box4 wd wc.heap.size (.string ByteArray.empty) (.string ByteArray.empty) (.bool false) (.slice none 0 0) := Box4.still (Box4.new wc _ _ _ _) hbd) | (have hBl := Box4.lt hBx; have hBx := Box4.still hBx hbd) | skip); (try (have y0 := Box4.frozen hBx 0; have y1 := Box4.frozen hBx 1; have y2 := Box4.frozen hBx 2; have y3 := Box4.frozen hBx 3; have x0 := (Box4.cells hBx).1; have x1 := (Box4.cells hBx).2.1; have x2 := (Box4.cells hBx).2.2.1; have x3 := (Box4.cells hBx).2.2.2)); dsimp only))
          all_goals
            have s1 := hxa.size
            have s2 := hxb.size
            have s3 := hxc.size
            have s4 := hxd.size
            have hb24 := bel_trans (bel_trans (bel_trans hxa hxb) hxc) hxd
            go_wp2_with fail
            go_meet
            go_light
            first
              | (have _g := hBx; clear _g; exact ⟨_, _, _, ad, md, cd, rfl, rfl, boxed_rel hBx hod (Nat.le_refl _) (by omega) (by omega) hb24⟩)
              | exact ⟨_, _, _, ad, md, cd, rfl, rfl, boxed_rel0 hod (by omega) hb24⟩
        case rest =>
          obtain ⟨B8, lo8, hi8, a4, m4, c4, rfl, rfl, HB⟩ := hcut
          have hbwA := bel_trans hbw2 HB.out.2.2.2
          have H8A := (show Hid _ from Held8.still H82.out HB.out.2.2.2)
          have hzA : w.heap.size + 2 ≤ wc.heap.size := by have := HB.out.2.2.2.size; omega
          obtain ⟨A0, A1, A2, A3⟩ := H8A.out.1
          go_wp2_with fail
          refine Calls.mono (HT.out _ hbwA hwt') ?_
          rintro e w5 ⟨v5, rfl, hb5, ho5⟩
          obtain ⟨a5, l5, p5, rfl⟩ := ho5.form
          have c5 := bel_trans hb5 (bel_alloc w5 (.cells #[.string t.name, .string t.text, .bool t.leaf, .slice a5 l5 p5] 29))
          have O5 := (show Hid _ from ho5.still (bel_alloc w5 (.cells #[.string t.name, .string t.text, .bool t.leaf, .slice a5 l5 p5] 29)))
          have F10 := (show Hid _ from four_box w5 (.string t.name) (.string t.text) (.bool t.leaf) (.slice a5 l5 p5) 29)
          have z5 := hb5.size
          have C5 := (show Hid _ from c5)
          have hbw5 := bel_trans hbwA c5
          clear A0 A1 A2 A3 hb5 ho5 c5
          go_wp2_with fail
          refine Calls.mono (HTI.out _ hbw5 hll) ?_
          rintro e w6 ⟨rfl, hb6, hi6⟩
          simp only [World.size_alloc] at hi6 ⊢
          have hbw6 := bel_trans hbw5 hb6
          have I6 := (show Hid _ from hi6)
          have C6 := (show Hid _ from hb6)
          have z6 := World.rowIs.lt hi6
          obtain ⟨A0, A1, A2, A3⟩ := (Held8.still H8A.out (bel_trans C5.out hb6)).2
          clear hi6 hb6
          go_wp2_with fail
          refine Calls.mono (HTU.out _ hbw6 hwu') ?_
          rintro e w7 ⟨v7, rfl, hb7, ho7⟩
          obtain ⟨a7, l7, p7, rfl⟩ := ho7.form
          have c7 := bel_trans hb7 (bel_alloc w7 (.cells #[.string u.name, .string u.text, .bool u.leaf, .slice a7 l7 p7] 29))
          have O7 := (show Hid _ from ho7.still (bel_alloc w7 (.cells #[.string u.name, .string u.text, .bool u.leaf, .slice a7 l7 p7] 29)))
          have F12 := (show Hid _ from four_box w7 (.string u.name) (.string u.text) (.bool u.leaf) (.slice a7 l7 p7) 29)
          have z7 := hb7.size
          have C7 := (show Hid _ from c7)
          have hbw7 := bel_trans hbw6 c7
          have F10' := (show Hid _ from Four.still F10.out (bel_trans C6.out c7))
          clear A0 A1 A2 A3 hb7 ho7 c7
          obtain ⟨A0, A1, A2, A3⟩ := F10'.out
          go_wp2_with fail
          refine Calls.mono (HI.out _ _ _ _ ⟨_, Own.lies (Own.still O5.out (bel_trans C6.out C7.out))⟩ ⟨_, IRow.ints (IRow.still I6.out C7.out) hlm⟩ ⟨_, Own.lies O7.out⟩) ?_
          rintro e w8 ⟨a8, m8, c8, rfl, hb8, ho8⟩
          dsimp only at ho8 ⊢
          have c8' := bel_trans hb8 (bel_alloc w8 (.cells #[.string R.name, .string R.text, .bool R.leaf, .slice a8 m8 c8] 29))
          have C8 := (show Hid _ from c8')
          have z8 := hb8.size
          simp only [World.size_alloc] at ho8 z8
          have hbw8 := bel_trans hbw7 c8'
          have K67 := bel_trans C6.out (bel_trans C7.out C8.out)
          have O8 := (show Hid _ from ho8.still (bel_alloc w8 (.cells #[.string R.name, .string R.text, .bool R.leaf, .slice a8 m8 c8] 29)))
          have F13 := (show Hid _ from four_box w8 (.string R.name) (.string R.text) (.bool R.leaf) (.slice a8 m8 c8) 29)
          have G5 := (show Hid _ from Own.still O5.out K67)
          have G10 := (show Hid _ from Four.still F10.out K67)
          have G6 := (show Hid _ from IRow.still I6.out (bel_trans C7.out C8.out))
          have G7 := (show Hid _ from Own.still O7.out C8.out)
          have G12 := (show Hid _ from Four.still F12.out C8.out)
          have GB := (show Hid _ from Boxed.still HB.out.1 (bel_trans C5.out K67))
          have GA := (show Hid _ from Held8.still H8A.out (bel_trans C5.out K67))
          have zb : (w8.alloc (.cells #[.string R.name, .string R.text, .bool R.leaf, .slice a8 m8 c8] 29)).heap.size = w8.heap.size + 1 := World.size_alloc _ _
          have q1 := HB.out.1.2.2.1
          have q2 := HB.out.1.2.2.2.1
          have q3 := HB.out.2.1
          have q4 := HB.out.2.2.1
          have z6' := C6.out.size
          simp only [World.size_alloc] at z6'
          have HSZ := (show Hid _ from (⟨hz2, hzA, z5, z6, z7, z8, zb, q1, q2, q3, q4⟩ : _ ∧ _ ∧ _ ∧ _ ∧ _ ∧ _ ∧ _ ∧ _ ∧ _ ∧ _ ∧ _))
          clear A0 A1 A2 A3 O5 F10 F10' I6 O7 F12 HB H8A C5 C6 C7 C8 K67 hb8 ho8 hbw5 hbw6 hbw7 hbwA hbw2 H82 z5 z6 z6' z7 z8 zb q1 q2 q3 q4 hzA hz2 c8'
          obtain ⟨B0, B1, B2, B3⟩ := GB.out.1
          obtain ⟨D0, D1, D2, D3⟩ := F13.out
          go_wp2_with fail
          generalize hwb : w8.alloc (.cells #[.string R.name, .string R.text, .bool R.leaf, .slice a8 m8 c8] 29) = wb at *
          clear hwb B0 B1 B2 B3 D0 D1 D2 D3
          refine Calls.mono (eq_any R _ _ wb (Own.lies O8.out) (Own.lies GB.out.2.1)) ?_
          rintro e w9 ⟨rfl, hb9⟩
          have hbw9 := bel_trans hbw8 hb9
          go_wp2_with fail
          have hdr := (Below.refl w9.heap.size w9).drew
          have HTp := (show Hid (TwoBox t t (.slice a5 l5 p5) (.slice a len cap) w5.heap.size (w.heap.size) w9) from ⟨Four.still G10.out hb9, Four.still GA.out.1 hb9⟩)
          have hS0 := TwoBox.still HTp.out hdr
          have HDR := (show Hid _ from hdr); clear hdr
          have h10 := HT.out w9.drew (Below.drew hbw9) hwt'
          have h12 : ∀ (wy : World) (vy : Value), Below w9.drew.heap.size w9.drew wy → Lies wy (fun b => w9.drew.heap.size ≤ b ∧ b < wy.heap.size) t vy →
              Calls Try.prog 12 #[t.val (.slice a5 l5 p5), t.val vy] wy fun e w' => e = .returned (.bool true) ∧ Below wy.heap.size wy w' :=
            fun wy vy hb hl => eq_any t _ _ wy (Lies.still (Lies.still (Own.lies G5.out) hb9) (HDR.out.trans hb)) hl
          have H10 := (show Hid _ from h10); clear h10
          have H12 := (show Hid _ from h12); clear h12
          go_region_held3 (fun w' => (w'.cell? ⟨w5.heap.size, 0, none⟩ = some (.string t.name) ∧ w'.cell? ⟨w5.heap.size, 1, none⟩ = some (.string t.text) ∧ w'.cell? ⟨w5.heap.size, 2, none⟩ = some (.bool t.leaf) ∧ w'.cell? ⟨w5.heap.size, 3, none⟩ = some (.slice a5 l5 p5)) ∧ w'.cell? ⟨w.heap.size, 0, none⟩ = some (.string t.name) ∧ w'.cell? ⟨w.heap.size, 1, none⟩ = some (.string t.text) ∧ w'.cell? ⟨w.heap.size, 2, none⟩ = some (.bool t.leaf) ∧ w'.cell? ⟨w.heap.size, 3, none⟩ = some (.slice a len cap)) (((show TwoBox t t (.slice a5 l5 p5) (.slice a len cap) w5.heap.size (w.heap.size) _); (first | with_reducible exact hS0 | with_reducible exact hSx | with_reducible exact hSy)))
            (first
            | (go_at_call 9; refine Calls.mono H10.out ?_; rintro e wxp ⟨vxp, rfl, hbxp, hoxp⟩; obtain ⟨axp, lxp, pxp, rfl⟩ := hoxp.form; have hx1p : Below w9.heap.size w9 wxp := HDR.out.trans (hbxp.mono (Nat.le_refl _)); have hSx := TwoBox.still HTp.out hx1p)
            | (go_at_call 12; refine Calls.mono (H12.out _ _ hbxp hoxp.lies) ?_; rintro e wyp ⟨rfl, hbyp⟩; have hSy := TwoBox.still hSx hbyp))
          have hx2p := bel_trans hx1p hbyp
          clear hS0 hSx hSy H10 H12 HDR HTp hbxp hbyp hoxp hx1p
          have hxp := bel_trans hb9 hx2p
          have hbwp := bel_trans hbw8 hxp
          clear hx2p hb9 hbw9
          go_wp2_with fail
          refine Calls.mono (HTI.out _ hbwp hll) ?_
          rintro e w11 ⟨rfl, hb11, hi11⟩
          have hx11 := bel_trans hxp hb11
          go_wp2_with fail
          refine Calls.mono (eqInts_any l _ _ w11 (IRow.ints (IRow.still G6.out hx11) hlm) (hi11.ints hlm)) ?_
          rintro e w12 ⟨rfl, hb12⟩
          have hx12 := bel_trans hx11 hb12
          have hbw12 := bel_trans hbw8 hx12
          clear hxp hx11 hb11 hi11 hb12 hbwp
          go_wp2_with fail
          have hdr := (Below.refl w12.heap.size w12).drew
          have HTq := (show Hid (TwoBox u u (.slice a7 l7 p7) (.slice ua ulen ucap) w7.heap.size (w.heap.size + 1) w12) from ⟨Four.still G12.out hx12, Four.still GA.out.2 hx12⟩)
          have hS0 := TwoBox.still HTq.out hdr
          have HDR := (show Hid _ from hdr); clear hdr
          have h10 := HTU.out w12.drew (Below.drew hbw12) hwu'
          have h12 : ∀ (wy : World) (vy : Value), Below w12.drew.heap.size w12.drew wy → Lies wy (fun b => w12.drew.heap.size ≤ b ∧ b < wy.heap.size) u vy →
              Calls Try.prog 12 #[u.val (.slice a7 l7 p7), u.val vy] wy fun e w' => e = .returned (.bool true) ∧ Below wy.heap.size wy w' :=
            fun wy vy hb hl => eq_any u _ _ wy (Lies.still (Lies.still (Own.lies G7.out) hx12) (HDR.out.trans hb)) hl
          have H10 := (show Hid _ from h10); clear h10
          have H12 := (show Hid _ from h12); clear h12
          go_region_held3 (fun w' => (w'.cell? ⟨w7.heap.size, 0, none⟩ = some (.string u.name) ∧ w'.cell? ⟨w7.heap.size, 1, none⟩ = some (.string u.text) ∧ w'.cell? ⟨w7.heap.size, 2, none⟩ = some (.bool u.leaf) ∧ w'.cell? ⟨w7.heap.size, 3, none⟩ = some (.slice a7 l7 p7)) ∧ w'.cell? ⟨w.heap.size + 1, 0, none⟩ = some (.string u.name) ∧ w'.cell? ⟨w.heap.size + 1, 1, none⟩ = some (.string u.text) ∧ w'.cell? ⟨w.heap.size + 1, 2, none⟩ = some (.bool u.leaf) ∧ w'.cell? ⟨w.heap.size + 1, 3, none⟩ = some (.slice ua ulen ucap)) (((show TwoBox u u (.slice a7 l7 p7) (.slice ua ulen ucap) w7.heap.size (w.heap.size + 1) _); (first | with_reducible exact hS0 | with_reducible exact hSx | with_reducible exact hSy)))
            (first
            | (go_at_call 9; refine Calls.mono H10.out ?_; rintro e wxq ⟨vxq, rfl, hbxq, hoxq⟩; obtain ⟨axq, lxq, pxq, rfl⟩ := hoxq.form; have hx1q : Below w12.heap.size w12 wxq := HDR.out.trans (hbxq.mono (Nat.le_refl _)); have hSx := TwoBox.still HTq.out hx1q)
            | (go_at_call 12; refine Calls.mono (H12.out _ _ hbxq hoxq.lies) ?_; rintro e wyq ⟨rfl, hbyq⟩; have hSy := TwoBox.still hSx hbyq))
          have hx2q := bel_trans hx1q hbyq
          clear hS0 hSx hSy H10 H12 HDR HTq hbxq hbyq hoxq hx1q
          have hxq := bel_trans hx12 hx2q
          have hbwq := bel_trans hbw8 hxq
          clear hx2q hx12 hbw12
          obtain ⟨hz2, hzA, z5, z6, z7, z8, zb, q1, q2, q3, q4⟩ := HSZ.out
          have hsq := hxq.size
          obtain ⟨X0, X1, X2, X3⟩ := Four.still G10.out hxq
          go_wp2_with fail
          refine Calls.mono (mark_one t _ wyq wc.heap.size w5.heap.size (Own.still G5.out hxq) (by omega) hwt') ?_
          rintro e w13 ⟨rfl, hu13, _⟩
          have hn1 := mkN_le hwt'
          have hn0 : 0 < mkN t := by unfold mkN; omega
          generalize mkN t = n1 at *
          clear X0 X1 X2 X3
          have hs13 := hu13.2.2.2.1
          have hoff13 : Off (fun k => (wc.heap.size ≤ k ∧ k < w5.heap.size) ∨ k = w5.heap.size + 1 ∨ (w6.heap.size ≤ k ∧ k < w7.heap.size) ∨ (w7.heap.size + 1 ≤ k ∧ k < w8.heap.size)) wb w13 := (Off.of_below hxq).trans (Off.of_out hu13 (fun k h1 h2 => .inl ⟨h1, h2⟩))
          have hu13' : Off (fun k => (wc.heap.size ≤ k ∧ k < w5.heap.size) ∨ k = w5.heap.size + 1 ∨ (w6.heap.size ≤ k ∧ k < w7.heap.size)) wb w13 := (Off.of_below hxq).trans (Off.of_out hu13 (fun k h1 h2 => .inl ⟨h1, h2⟩))
          have hu13'' : Out wc.heap.size w5.heap.size wb w13 := (Out.of_below hxq).trans hu13
          have i13 : IRow w13 (w5.heap.size + 1) l := World.rowIs.of_block G6.out (hu13''.2.2.2.2 _ (World.rowIs.lt G6.out) (by omega))
          clear hu13 hxq
          have HI13 := (show Hid _ from i13); clear i13
          go_wp2_with fail
          refine Calls.mono (markInts_any l _ n1 w13 HI13.out hll (by omega)) ?_
          rintro e w14 ⟨rfl, hu14⟩
          generalize hn2 : n1 + l.length = n2 at *
          have hn2' : n2 ≤ 6000000 := by omega
          have hn20 : 0 < n2 := by omega
          clear hn2
          have hs14 := hu14.2.2.2.1
          have hoff14 := hoff13.trans (Off.of_out hu14 (fun k h1 h2 => .inr (.inl (by omega))))
          have hu14' := hu13'.trans (Off.of_out hu14 (fun k h1 h2 => .inr (.inl (by omega))))
          have hu14'' : Off (fun k => (wc.heap.size ≤ k ∧ k < w5.heap.size) ∨ k = w5.heap.size + 1) wb w14 := (Off.of_out hu13'' (fun k h1 h2 => .inl ⟨h1, h2⟩)).trans (Off.of_out hu14 (fun k h1 h2 => .inr (by omega)))
          obtain ⟨X0, X1, X2, X3⟩ := Four.off G12.out hoff14 (by omega)
          have o7 := Own.off G7.out hu14'' (fun k h1 h2 => by omega)
          have HO7 := (show Hid _ from o7); clear o7
          clear hu13'' hu14'' hu14 hoff13 hu13' HI13
          go_wp2_with fail
          refine Calls.mono (mark_at u _ w14 w6.heap.size w7.heap.size n2 HO7.out (by omega) hn20 hn2' hwu') ?_
          rintro e w14b ⟨n3, hn3, rfl, hu14b⟩
          clear X0 X1 X2 X3 HO7
          have hs14b := hu14b.2.2.2.1
          have hoff14b := hoff14.trans (Off.of_out hu14b (fun k h1 h2 => .inr (.inr (.inl ⟨h1, h2⟩))))
          have huX := hu14'.trans (Off.of_out hu14b (fun k h1 h2 => .inr (.inr ⟨h1, h2⟩)))
          obtain ⟨B0, B1, B2, B3⟩ := Four.off GB.out.1 hoff14b (by omega)
          obtain ⟨D0, D1, D2, D3⟩ := Four.off F13.out hoff14b (by omega)
          have o8 := Own.off O8.out huX (fun k h1 h2 => by omega)
          have o4 := Own.off GB.out.2.1 huX (fun k h1 h2 => by omega)
          have HO8 := (show Hid _ from o8); clear o8
          have HO4 := (show Hid _ from o4); clear o4
          clear hu14b hu14' huX hoff14
          go_wp2_with fail
          refine Calls.mono (eq_any R _ _ w14b (Own.lies HO8.out) (Own.lies HO4.out)) ?_
          rintro e w15 ⟨rfl, hb15⟩
          have hs15 := hb15.size
          have hoff15 := hoff14b.trans (Off.of_below hb15)
          clear B0 B1 B2 B3 D0 D1 D2 D3
          obtain ⟨D0, D1, D2, D3⟩ := Four.off F13.out hoff15 (by omega)
          go_wp2_with fail
          refine Calls.mono (mark_one R _ w15 (w7.heap.size + 1) w8.heap.size (Own.still HO8.out hb15) (by omega) (by omega)) ?_
          rintro e w16 ⟨rfl, hu16, ho16⟩
          have hn4 := mkN_le (t := R) (by omega)
          have hheld := fun (w' : World) (hw : Below w16.heap.size w16 w') => held_one R _ w' (ho16.still hw) (by omega)
          have HH := (show Hid _ from hheld); clear hheld
          generalize mkN R = M at *
          have hneM : ((M : Int) != M) = false := by simp
          have hs16 := hu16.2.2.2.1
          have hoff16 := hoff15.trans (Off.of_out hu16 (fun k h1 h2 => .inr (.inr (.inr ⟨h1, h2⟩))))
          clear hoff14b hoff15 hb15 hu16 ho16 D0 D1 D2 D3 HO8 HO4
          have f13 := Four.off F13.out hoff16 (by omega)
          have f8 := Four.off GB.out.1 hoff16 (by omega)
          have fA := Four.off GA.out.1 hoff16 (by omega)
          have fU := Four.off GA.out.2 hoff16 (by omega)
          have o4 := Own.off GB.out.2.1 hoff16 (fun k h1 h2 => by omega)
          have hbw16 := hbw8.trans (hoff16.below (by omega) (fun k hk => by omega))
          clear GB O8 G5 G6 G7 G10 G12 F13 GA hoff16
          have O4 := (show Hid _ from o4); clear o4
          have F13 := (show Hid _ from f13)
          have F8 := (show Hid _ from f8); clear f8
          have FA := (show Hid (Held8 t u (.slice a len cap) (.slice ua ulen ucap) w.heap.size w16) from ⟨fA, fU⟩); clear fA fU
          obtain ⟨D0, D1, D2, D3⟩ := f13
          go_wp2_with fail
          refine Calls.mono (HH.out _ (Below.refl _ _)) ?_
          rintro e w17 ⟨rfl, hb17⟩
          clear D0 D1 D2 D3
          have hbw17 := bel_trans hbw16 hb17
          have H817 := (show Hid _ from Held8.still FA.out hb17)
          have hz17 : w.heap.size + 2 ≤ w17.heap.size := by have := hb17.size; omega
          go_wp2_with fail
          go_cut [18, 19] from 113 to 122 (fun b c wx => ∃ (B lo hi : Nat) (xa : Option Addr) (xm xc : Nat), b = .pointer (some ⟨B, 0, none⟩) ∧ c = .int .i64 C ∧ Hid (Boxed R B lo hi xa xm xc wx ∧ w17.heap.size ≤ B ∧ w17.heap.size ≤ lo ∧ Below w17.heap.size w17 wx))
          case first =>
            have hdr := (Below.refl w17.heap.size w17).drew
            have hS0 : Held8 t u (.slice a len cap) (.slice ua ulen ucap) w.heap.size w17.drew := Held8.still H817.out hdr
            have HDR := (show Hid _ from hdr); clear hdr
            clear HS HSU HP
            go_region_held3 (fun w' => (w'.cell? ⟨w.heap.size, 0, none⟩ = some (.string t.name) ∧ w'.cell? ⟨w.heap.size, 1, none⟩ = some (.string t.text) ∧ w'.cell? ⟨w.heap.size, 2, none⟩ = some (.bool t.leaf) ∧ w'.cell? ⟨w.heap.size, 3, none⟩ = some (.slice a len cap)) ∧ w'.cell? ⟨w.heap.size + 1, 0, none⟩ = some (.string u.name) ∧ w'.cell? ⟨w.heap.size + 1, 1, none⟩ = some (.string u.text) ∧ w'.cell? ⟨w.heap.size + 1, 2, none⟩ = some (.bool u.leaf) ∧ w'.cell? ⟨w.heap.size + 1, 3, none⟩ = some (.slice ua ulen ucap)) (((show Held8 t u (.slice a len cap) (.slice ua ulen ucap) w.heap.size _); (first | with_reducible exact hS0 | with_reducible exact hSa | with_reducible exact hSb | with_reducible exact hSc | with_reducible exact hSd | with_reducible exact Held8.still hSd (bel_alloc _ _) | with_reducible exact Held8.still hSc (bel_alloc _ _) | with_reducible exact Held8.still hSb (bel_alloc _ _) | with_reducible exact Held8.still hSa (bel_alloc _ _) | with_reducible exact Held8.still (Held8.still H817.out (bel_alloc _ _)) ((Below.refl _ _).drew) | with_reducible exact Held8.still hS0 (bel_alloc _ _) | with_reducible exact (((hSd.set hz17).set hz17).set hz17).set hz17 | with_reducible exact (((hSd.set hza).set hza).set hza).set hza | with_reducible exact (((hSd.set hzb).set hzb).set hzb).set hzb | with_reducible exact (((hSd.set hzc).set hzc).set hzc).set hzc)))
              (first
              | (go_at_call 9; have _g := hbb; clear _g; refine Calls.mono (HTU.out _ ?_ hwu') ?_; (first | with_reducible exact bel_trans hbwa hxb | with_reducible exact bel_trans (bel_trans hbwa hxb) (bel_alloc _ _)); rintro e wc ⟨vc, rfl, hbc, hoc⟩; obtain ⟨ac, mc, cc, rfl⟩ := hoc.form; (first | (with_reducible have hxc : Below wb.heap.size wb wc := hbc) | (with_reducible have hxc : Below wb.heap.size wb wc := bel_trans (bel_alloc _ _) hbc)); have hSc := Held8.still hSb hxc; have hzc := Nat.le_trans hzb hxc.size; (first | (have hBx : Box4 wc wb.heap.size (.string ByteArray.empty) (.string ByteArray.empty) (.bool false) (.slice none 0 0) := Box4.still (Box4.new wb _ _ _ _) hbc) | (have hBx := Box4.still hBx hbc) | skip); dsimp only)
              | (go_at_call 10; refine Calls.mono (HTI.out _ ?_ hll) ?_; (first | with_reducible exact hbwa | with_reducible exact bel_trans hbwa (bel_alloc _ _)); rintro e wb ⟨rfl, hbb, hib⟩; (try simp only [World.size_alloc] at hib); (first | (with_reducible have hxb : Below wa.heap.size wa wb := hbb) | (with_reducible have hxb : Below wa.heap.size wa wb := bel_trans (bel_alloc _ _) hbb)); have hSb := Held8.still hSa hxb; have hzb := Nat.le_trans hza hxb.size; (first | (have hBx : Box4 wb wa.heap.size (.string ByteArray.empty) (.string ByteArray.empty) (.bool false) (.slice none 0 0) := Box4.still (Box4.new wa _ _ _ _) hbb) | (have hBx := Box4.still hBx hbb) | skip); dsimp only)
              | (go_at_call 9; refine Calls.mono (HT.out _ ?_ hwt') ?_; (first | with_reducible exact Below.drew hbw17 | with_reducible exact Below.drew (bel_trans hbw17 (bel_alloc _ _))); rintro e wa ⟨va, rfl, hba, hoa⟩; obtain ⟨aa, ma, ca, rfl⟩ := hoa.form; (first | (with_reducible have hxa : Below w17.heap.size w17 wa := HDR.out.trans (hba.mono (Nat.le_refl _))) | (with_reducible have hxa : Below w17.heap.size w17 wa := bel_trans (bel_alloc _ _) (Below.trans ((Below.refl _ _).drew) (hba.mono (Nat.le_refl _))))); have hbwa := bel_trans hbw17 hxa; have hSa := Held8.still H817.out hxa; have hza := Nat.le_trans hz17 hxa.size; (first | (have hBx : Box4 wa w17.heap.size (.string ByteArray.empty) (.string ByteArray.empty) (.bool false) (.slice none 0 0) := Box4.still (Box4.new w17 _ _ _ _) (Below.trans ((Below.refl _ _).drew) (hba.mono (Nat.le_refl _)))) | skip); dsimp only)
              | (go_at_call 18; refine Calls.mono (HI.out _ _ _ _ ?_ ?_ ?_) ?_; (first | with_reducible exact ⟨_, Own.lies (Own.still hoa (bel_trans hxb hxc))⟩ | with_reducible exact ⟨_, Own.lies (Own.still hoa (bel_trans (bel_trans hxb hxc) (bel_alloc _ _)))⟩); (first | with_reducible exact ⟨_, IRow.ints (IRow.still hib hxc) hlm⟩ | with_reducible exact ⟨_, IRow.ints (IRow.still hib (bel_trans hxc (bel_alloc _ _))) hlm⟩); (first | with_reducible exact ⟨_, Own.lies hoc⟩ | with_reducible exact ⟨_, Own.lies (Own.still hoc (bel_alloc _ _))⟩); rintro e wd ⟨ad, md, cd, rfl, hbd, hod⟩; dsimp only at hod; (try simp only [World.size_alloc] at hod); (first | (with_reducible have hxd : Below wc.heap.size wc wd := hbd) | (with_reducible have hxd : Below wc.heap.size wc wd := bel_trans (bel_alloc _ _) hbd)); have hSd := Held8.still hSc hxd; have hzd := Nat.le_trans hzc hxd.size; (first | (have hBx : Box4 wd wc.heap.size (.string ByteArray.empty) (.string ByteArray.empty) (.bool false) (.slice none 0 0) := Box4.still (Box4.new wc _ _ _ _) hbd) | (have hBl := Box4.lt hBx; have hBx := Box4.still hBx hbd) | skip); (try (have y0 := Box4.frozen hBx 0; have y1 := Box4.frozen hBx 1; have y2 := Box4.frozen hBx 2; have y3 := Box4.frozen hBx 3; have x0 := (Box4.cells hBx).1; have x1 := (Box4.cells hBx).2.1; have x2 := (Box4.cells hBx).2.2.1; have x3 := (Box4.cells hBx).2.2.2)); dsimp only))
            all_goals
              have s1 := hxa.size
              have s2 := hxb.size
              have s3 := hxc.size
              have s4 := hxd.size
              have hb24 := bel_trans (bel_trans (bel_trans hxa hxb) hxc) hxd
              go_wp2_with fail
              go_meet
              go_light
              first
                | (have _g := hBx; clear _g; exact ⟨_, _, _, ad, md, cd, rfl, rfl, boxed_rel hBx hod (Nat.le_refl _) (by omega) (by omega) hb24⟩)
                | exact ⟨_, _, _, ad, md, cd, rfl, rfl, boxed_rel0 hod (by omega) hb24⟩
          case rest =>
            obtain ⟨B18, lo18, hi18, a18, m18, c18, rfl, rfl, HB18⟩ := hcut
            have hx18 := bel_trans hb17 HB18.out.2.2.2
            obtain ⟨B0, B1, B2, B3⟩ := Four.still F8.out hx18
            obtain ⟨E0, E1, E2, E3⟩ := HB18.out.1.1
            go_wp2_with fail
            refine Calls.mono (eq_any R _ _ _ (Own.lies HB18.out.1.2.1) (Lies.still (Own.lies O4.out) hx18)) ?_
            rintro e w21 ⟨rfl, hb21⟩
            have hx21 := bel_trans hx18 hb21
            clear B0 B1 B2 B3 E0 E1 E2 E3
            obtain ⟨D0, D1, D2, D3⟩ := Four.still F13.out hx21
            go_wp2_with fail
            refine Calls.mono (HH.out _ hx21) ?_
            rintro e w22 ⟨rfl, hb22⟩
            have hbw22 := bel_trans hbw16 (bel_trans hx21 hb22)
            clear D0 D1 D2 D3
            go_wp2_with fail
            go_ret
            exact ⟨rfl, hbw22⟩
      · rw [szR_no (by omega)]
        go_wp2_with fail
        go_ret
        exact ⟨rfl, hbw2⟩
    · rw [szR_no (by omega)]
      go_wp2_with fail
      go_ret
      exact ⟨rfl, hbw1⟩
  · have hll' : (1048576 : Int) < l.length := by omega
    go_enter Try.func4, Try.ntmps4
    go_wp2_with fail
    go_ret
    exact ⟨rfl, (bel_alloc _ _).alloc (by simp) _⟩
end Go.Proofs.Ythmdoplickpmaai
