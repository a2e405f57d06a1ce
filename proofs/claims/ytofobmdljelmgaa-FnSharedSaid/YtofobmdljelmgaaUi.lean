import Derived.Test.YtofobmdljelmgaaUh
import Derived.Deep.RegionHeld3
import Derived.Deep.RegionLaw
/-! The program's tree, walked. -/
namespace Go.Proofs.Ytofobmdljelmgaa
open Go.RowKit Go.Deep Go.Lib
set_option linter.unusedVariables false
set_option maxRecDepth 100000
set_option linter.unusedSimpArgs false

theorem tree53_no {S : Nat → Prop} (ns : List Rd) (z g d : Int) (nv : Value) (gb : Nat) (w : World) (hN : Rds w S ns nv) (hB : Box w gb 128 [nv, .int .i64 g]) (h0 : 0 ≤ g) (hg : g ≤ 1000) (hd0 : 1 ≤ d) (hd1 : d ≤ 61)
    (h : z < 0 ∨ (ns.length : Int) ≤ z ∨ 1000 < g + 1 ∨ 60 < d) :
    Calls Try.prog 62 #[.pointer (some ⟨gb, 0, none⟩), .int .i64 z, .int .i64 d] w fun e w' => But gb w w' ∧ e = .panicked [formFault] := by
  obtain ⟨a, cap, rfl, hlen⟩ := hN.form
  unfold maxLen at hlen
  clear hN
  have hlt := hB.lt
  have B2 := hB.set 1 (.int .i64 (g + 1))
  have x0 : w.cell? ⟨gb, 0, none⟩ = some (.slice a ns.length cap) := hB.cell 0 (by simp)
  have x1 : w.cell? ⟨gb, 1, none⟩ = some (.int .i64 g) := hB.cell 1 (by simp)
  have f1 := hB.frozen 1
  have y0 : (w.setCell ⟨gb, 1, none⟩ (.int .i64 (g + 1))).cell? ⟨gb, 0, none⟩ = some (.slice a ns.length cap) := B2.cell 0 (by simp)
  have y1 : (w.setCell ⟨gb, 1, none⟩ (.int .i64 (g + 1))).cell? ⟨gb, 1, none⟩ = some (.int .i64 (g + 1)) := B2.cell 1 (by simp)
  have HBT := (show Hid (But gb w ((w.setCell ⟨gb, 1, none⟩ (.int .i64 (g + 1))).alloc (.cells #[.string ⟨#[]⟩, .string ⟨#[]⟩, .bool false, .slice none 0 0] 39))) from (But.set gb 1 w (.int .i64 (g + 1))).trans (But.alloc gb _ _))
  clear hB B2
  by_cases h1 : z < 0
  · go_enter Try.func62, Try.ntmps62
    go_wp2_with fail
    exact ⟨rfl, HBT.out, rfl⟩
  · by_cases h2 : (ns.length : Int) ≤ z
    · go_enter Try.func62, Try.ntmps62
      go_wp2_with fail
      exact ⟨rfl, HBT.out, rfl⟩
    · by_cases h3 : 1000 < g + 1
      · go_enter Try.func62, Try.ntmps62
        go_wp2_with fail
        exact ⟨rfl, HBT.out, rfl⟩
      · have h4 : 60 < d := by omega
        go_enter Try.func62, Try.ntmps62
        go_wp2_with fail
        exact ⟨rfl, HBT.out, rfl⟩
set_option maxHeartbeats 1000000 in
theorem tree53 {S : Nat → Prop} : ∀ (f : Nat) (ns : List Rd) (z g d : Int) (nv : Value) (gb : Nat) (w : World), d + f = 61 → 1 ≤ d → Rds w S ns nv → (∀ b, S b → b ≠ gb) → Box w gb 128 [nv, .int .i64 g] → 0 ≤ g → g ≤ 1000 →
    Calls Try.prog 62 #[.pointer (some ⟨gb, 0, none⟩), .int .i64 z, .int .i64 d] w (TgA ns gb nv z g d w) := by
  intro f
  induction f with
  | zero =>
    intro ns z g d nv gb w hd h1 hN hS hB h0 hg
    exact Calls.mono (tree53_no ns z g d nv gb w hN hB h0 hg h1 (by omega) (by omega)) (fun e w' ⟨k1, k2⟩ => ⟨k1, .inr ⟨fun t ht => by have := ht.head; omega, k2⟩⟩)
  | succ f ih =>
    intro ns z g d nv gb w hd h1 hN hS hB h0 hg
    by_cases hno : z < 0 ∨ (ns.length : Int) ≤ z ∨ 1000 < g + 1 ∨ 60 < d
    · exact Calls.mono (tree53_no ns z g d nv gb w hN hB h0 hg h1 (by omega) hno) (fun e w' ⟨k1, k2⟩ => ⟨k1, .inr ⟨fun t ht => by have := ht.head; omega, k2⟩⟩)
    · have q1 : 0 ≤ z := by omega
      have q2 : z < (ns.length : Int) := by omega
      have q3 : g + 1 ≤ 1000 := by omega
      have q4 : d ≤ 60 := by omega
      clear hno
      have HN := (show Hid _ from hN)
      have HS := (show Hid _ from hS)
      obtain ⟨a, cap, b, off, sv, rfl, hc, hm, ha, hcell, hzz, hr⟩ := hN
      obtain ⟨rfl, hSb⟩ := ha (by omega)
      have hbg : b ≠ gb := hS b hSb
      have hzl : z.toNat < ns.length := by omega
      obtain ⟨c0, c1, c2, c3⟩ := hcell z.toNat hzl
      have hI := hr z.toNat hzl
      have hzs := hzz z.toNat hzl
      have hzn := List.getElem?_eq_getElem hzl
      obtain ⟨⟨n, x, l, qs⟩, hnd⟩ : ∃ nd, ns[z.toNat] = nd := ⟨_, rfl⟩
      rw [hnd] at c0 c1 c2 hI hzs hzn
      dsimp only at c0 c1 c2 hI hzs
      have HIK := (show Hid _ from hI)
      obtain ⟨ka, kcap, kb, koff, hkv, hkc, hkm, hka, hkcell⟩ := hI
      rw [hkv] at c3
      clear hcell hr ha hkv hzz hnd
      generalize hzN : z.toNat = Z at *
      obtain rfl : z = (Z : Int) := by omega
      have HKC := (show Hid _ from (⟨hka, hkcell⟩ : _ ∧ _)); clear hka hkcell
      have HZ := (show Hid _ from (⟨hzs, hzn⟩ : _ ∧ _)); clear hzs hzn
      have HI := (show Hid _ from ih); clear ih
      unfold maxLen at hkm hm
      have hlt := hB.lt
      have hbut1 : But gb w (w.setCell ⟨gb, 1, none⟩ (.int .i64 (g + 1))) := But.set gb 1 _ _
      have B2 := hB.set 1 (.int .i64 (g + 1))
      have x0 : w.cell? ⟨gb, 0, none⟩ = some (.slice (some ⟨b, off, none⟩) ns.length cap) := hB.cell 0 (by simp)
      have x1 : w.cell? ⟨gb, 1, none⟩ = some (.int .i64 g) := hB.cell 1 (by simp)
      have f1 := hB.frozen 1
      have y0 : (w.setCell ⟨gb, 1, none⟩ (.int .i64 (g + 1))).cell? ⟨gb, 0, none⟩ = some (.slice (some ⟨b, off, none⟩) ns.length cap) := B2.cell 0 (by simp)
      have y1 : (w.setCell ⟨gb, 1, none⟩ (.int .i64 (g + 1))).cell? ⟨gb, 1, none⟩ = some (.int .i64 (g + 1)) := B2.cell 1 (by simp)
      have hblt : b < w.heap.size := lt_of_cell c0
      have b0 := hbut1.cell (by exact hbg) c0
      have b1 := hbut1.cell (by exact hbg) c1
      have b2 := hbut1.cell (by exact hbg) c2
      have b3 := hbut1.cell (by exact hbg) c3
      obtain ⟨i59, hi59, hy0, hy1, hy2⟩ := info_parts info39
      have HS0 : Hid (TgI w ((((w.setCell ⟨gb, 1, none⟩ (.int .i64 (g + 1))).alloc (.cells #[.string ⟨#[]⟩, .string ⟨#[]⟩, .bool false, .slice none 0 0] 39)).alloc (.cells #[.string n, .string x, .bool l, .slice ka qs.length kcap] 34)).alloc (.cells #[.string n, .string x, .bool l, .slice none 0 0] 39)) gb (.slice (some ⟨b, off, none⟩) ns.length cap) (.slice ka qs.length kcap) (.slice none 0 0) g n x l []) := by
        have e0 : g + 1 + ((Tr.cntL [] : Nat) : Int) = g + 1 := by simp [Tr.cntL]
        refine ⟨?_, ?_, ?_, ?_, ?_, ?_⟩
        · have := ((Box.new (w.setCell ⟨gb, 1, none⟩ (.int .i64 (g + 1))) 39 [.string ⟨#[]⟩, .string ⟨#[]⟩, .bool false, .slice none 0 0]).still (bel_alloc _ (.cells #[.string n, .string x, .bool l, .slice ka qs.length kcap] 34))).still (bel_alloc _ (.cells #[.string n, .string x, .bool l, .slice none 0 0] 39))
          rw [World.size_setCell] at this
          exact this
        · have := (Box.new ((w.setCell ⟨gb, 1, none⟩ (.int .i64 (g + 1))).alloc (.cells #[.string ⟨#[]⟩, .string ⟨#[]⟩, .bool false, .slice none 0 0] 39)) 34 [.string n, .string x, .bool l, .slice ka qs.length kcap]).still (bel_alloc _ (.cells #[.string n, .string x, .bool l, .slice none 0 0] 39))
          simpa using this
        · have := Box.new (((w.setCell ⟨gb, 1, none⟩ (.int .i64 (g + 1))).alloc (.cells #[.string ⟨#[]⟩, .string ⟨#[]⟩, .bool false, .slice none 0 0] 39)).alloc (.cells #[.string n, .string x, .bool l, .slice ka qs.length kcap] 34)) 39 [.string n, .string x, .bool l, .slice none 0 0]
          simpa using this
        · rw [e0]
          exact ((B2.still (bel_alloc _ _)).still (bel_alloc _ _)).still (bel_alloc _ _)
        · exact ((hbut1.still (bel_alloc _ _)).still (bel_alloc _ _)).still (bel_alloc _ _)
        · exact ⟨fun _ => .bool false, fun _ => 0, fun _ => 0, own_nil _ _ _ _, fun i hi => absurd hi (Nat.not_lt_zero _), fun i hi => absurd hi (Nat.not_lt_zero _), fun i i' _ hi => absurd hi (Nat.not_lt_zero _)⟩
      clear B2 hbut1 hB hS
      have k1 : decide ((Z : Int) < 0) = false := by simp
      have k2 : decide (ns.length ≤ Z) = false := by simp; omega
      have k3 : decide (1000 < g + 1) = false := by simp; omega
      have k4 : decide (60 < d) = false := by simp; omega
      have k5 : decide ((ns.length : Int) ≤ (Z : Int)) = false := by simp; omega
      go_enter Try.func62, Try.ntmps62
      go_wp2_with fail
      clear x0 x1 f1 y0 y1 c0 c1 c2 c3 b0 b1 b2 b3
      go_loopw [59] (fun i wr => ∃ (j : Nat) (u : Value) (k' : List Tr), i = .int .i64 j ∧ j ≤ qs.length ∧ Hid (k'.length = j) ∧ g + 1 + ((Tr.cntL k' : Nat) : Int) ≤ 1000 ∧ d + 1 + ((Tr.deepL k' : Nat) : Int) ≤ 61 ∧ Hid (KsR ns qs k') ∧ Hid (TgI w wr gb (.slice (some ⟨b, off, none⟩) ns.length cap) (.slice ka qs.length kcap) u g n x l k')) (fun i _ => qs.length - (intOf i).toNat)
      case atStart =>
        exact ⟨0, _, [], rfl, Nat.zero_le _, (show _ = _ from rfl), by simp [Tr.cntL]; omega, by simp [Tr.deepL]; omega, KsR.nil _ _, HS0.out⟩
      case round =>
        obtain ⟨j, u, k', rfl, hj, hk', hcn, hdp, HK, HT⟩ := hrel
        clear HS0
        replace hk' := hk'.out
        subst hk'
        obtain ⟨ua, up, rfl, _⟩ : ∃ a cap, u = .slice a k'.length cap ∧ (a = none → k'.length = 0) := by
          obtain ⟨fs, ls, hs, hown, _⟩ := HT.out.grw
          exact own_ne hown
        have hwd : IntKind.i64.wrap (d + 1) = d + 1 := by rw [IntKind.wrap_i64]; omega
        have hk1000 : k'.length ≤ 1000 := by have := len_le_cntL k'; omega
        by_cases hlt2 : k'.length < qs.length
        · obtain ⟨rfl, hSk⟩ := HKC.out.1 (by omega)
          have hkg : kb ≠ gb := HS.out kb hSk
          have hcz := HT.out.but.cell (by exact hkg) (HKC.out.2 k'.length hlt2)
          have HCL0 := (show Hid _ from HI.out ns qs[k'.length] (g + 1 + ((Tr.cntL k' : Nat) : Int)) (d + 1) _ gb wr.drew (by omega) (by omega) ((Rds.but HN.out HS.out HT.out.but).still (Below.refl _ _).drew) HS.out (HT.out.bg.keep rfl) (by omega) hcn)
          by_cases hf : ∃ t, Fit ns qs[k'.length] (g + 1 + ((Tr.cntL k' : Nat) : Int)) (d + 1) t
          · obtain ⟨t, ht⟩ := hf
            have HFT := (show Hid _ from ht)
            have HCL : Hid (Calls Try.prog 62 #[.pointer (some ⟨gb, 0, none⟩), .int .i64 qs[k'.length], .int .i64 (d + 1)] wr.drew fun e w1 => ∃ (a2 : Option Addr) (l2 p2 : Nat), e = .returned (.agg #[.string t.name, .string t.text, .bool t.leaf, .slice a2 l2 p2]) ∧ Hid (But gb wr w1 ∧ Box w1 gb 128 [.slice (some ⟨b, off, none⟩) ns.length cap, .int .i64 (g + 1 + ((Tr.cntL k' : Nat) : Int) + t.cnt)] ∧ Own w1 wr.heap.size w1.heap.size t (.slice a2 l2 p2))) := Calls.mono HCL0.out (by
              rintro e w1 ⟨k1, k2⟩
              rcases k2 with ⟨t', a2, l2, p2, k3, k4, k5, k6⟩ | ⟨k3, _⟩
              · obtain rfl : t = t' := ht.uniq k3
                exact ⟨a2, l2, p2, k4, ⟨k1.1, k1.2.1, k1.2.2.1, k1.2.2.2.1, k1.2.2.2.2⟩, k5, k6⟩
              · exact absurd ht (k3 t))
            clear HCL0 ht
            obtain ⟨fs, ls, hs, hown, hls, hr, hd2⟩ := HT.out.grw.past (g := gb) (o := 1) (x := .int .i64 (g + 1 + ((Tr.cntL k' : Nat) : Int) + t.cnt)) (by omega)
            have HF := (show Hid _ from (⟨hown, hls, hr, hd2⟩ : _ ∧ _ ∧ _ ∧ _)); clear hown hls hr hd2
            have T3 : wr.cell? ⟨w.heap.size + 1 + 1, 3, none⟩ = some (.slice ua k'.length up) := HT.out.b2.cell 3 (by simp)
            have f3 := HT.out.b2.frozen 3
            have HWZ := (show Hid (w.heap.size + 3 ≤ wr.heap.size) from (by have := HT.out.b2.lt; show _ ≤ _; omega))
            have HAF : Hid (∀ (w1 : World) (a2 : Option Addr) (l2 p2 : Nat), Hid (But gb wr w1 ∧ Box w1 gb 128 [.slice (some ⟨b, off, none⟩) ns.length cap, .int .i64 (g + 1 + ((Tr.cntL k' : Nat) : Int) + t.cnt)] ∧ Own w1 wr.heap.size w1.heap.size t (.slice a2 l2 p2)) → w.heap.size + 3 ≤ w1.heap.size ∧ w1.cell? ⟨w.heap.size + 1 + 1, 3, none⟩ = some (.slice ua k'.length up) ∧ (w1.alloc (.cells #[.string t.name, .string t.text, .bool t.leaf, .slice a2 l2 p2] 39)).cell? ⟨w.heap.size + 1 + 1, 3, none⟩ = some (.slice ua k'.length up) ∧ Hid ((w1.alloc (.cells #[.string t.name, .string t.text, .bool t.leaf, .slice a2 l2 p2] 39)).ownsRow (w.heap.size + 3) 39 4 (.slice ua k'.length up) k'.length (kc k' fs k'.length)) ∧
                Hid (∀ (w3 : World) (g3 cap3 : Nat), w3.ownsRow (w.heap.size + 3) 39 4 (.slice (some ⟨g3, 0, none⟩) (k'.length + 1) cap3) (k'.length + 1) (kc k' fs k'.length ++ [.string t.name, .string t.text, .bool t.leaf, .slice a2 l2 p2]) → (w1.alloc (.cells #[.string t.name, .string t.text, .bool t.leaf, .slice a2 l2 p2] 39)).grownBy w3 (Value.slice ua k'.length up).ownBlock → ((Value.slice ua k'.length up).ownBlock = some g3 ∨ g3 = (w1.alloc (.cells #[.string t.name, .string t.text, .bool t.leaf, .slice a2 l2 p2] 39)).heap.size) →
                  w3.cell? ⟨w.heap.size + 1 + 1, 3, none⟩ = some (.slice ua k'.length up) ∧ w3.frozen? ⟨w.heap.size + 1 + 1, 3, none⟩ = false ∧ Hid (TgI w (w3.setCell ⟨w.heap.size + 1 + 1, 3, none⟩ (.slice (some ⟨g3, 0, none⟩) (k'.length + 1) cap3)) gb (.slice (some ⟨b, off, none⟩) ns.length cap) (.slice (some ⟨kb, koff, none⟩) qs.length kcap) (.slice (some ⟨g3, 0, none⟩) (k'.length + 1) cap3) g n x l (k' ++ [t])))) := fun w1 a2 l2 p2 h => by
              obtain ⟨k1, k2, k3⟩ := h.out
              have hz := HT.out.b2.lt
              have hs1 := k1.size
              have hba := bel_alloc w1 (.cells #[.string t.name, .string t.text, .bool t.leaf, .slice a2 l2 p2] 39)
              have B1 := HT.out.b2.keep (k1.block hz (by omega))
              have B2 := B1.still hba
              have hbA := k1.bel HT.out.bg k2
              refine ⟨by omega, B1.cell 3 (by simp), B2.cell 3 (by simp), own_still (own_still HF.out.1 hbA) hba, fun w3 g3 cap3 e1 e2 e3 => ?_⟩
              have hub : ∀ q, (Value.slice ua k'.length up).ownBlock = some q → w.heap.size + 3 ≤ q := fun q hq => (World.ownsRow.lt HF.out.1 q hq).1
              have B3 := B2.keep (e2.block _ (by simp; omega) (fun e => by have := hub _ e.symm; omega))
              exact ⟨B3.cell 3 (by simp), B3.frozen 3, TgI.next HT.out (by omega) HF.out.1 HF.out.2.1 HF.out.2.2.1 HF.out.2.2.2 k1 k2 hba (k3.still hba) (Nat.le_refl _) (by simp) e1 e2 e3⟩
            have HKN : Hid (KsR ns qs (k' ++ [t])) := HK.out.add hlt2 HFT.out.1
            have HBN : Hid (g + 1 + ((Tr.cntL (k' ++ [t]) : Nat) : Int) ≤ 1000 ∧ d + 1 + ((Tr.deepL (k' ++ [t]) : Nat) : Int) ≤ 61) := by
              have e1 := HFT.out.2.1
              have e2 := HFT.out.2.2
              have e3 : Tr.cntL [t] = t.cnt := by simp [Tr.cntL]
              have e4 : Tr.deepL [t] = t.deep := by simp [Tr.deepL]
              show _ ∧ _
              rw [Tr.cntL_append, Tr.deepL_append, e3, e4]
              omega
            clear HK HFT HT HF HI HN HIK HKC HZ
            generalize qs[k'.length] = zj at *
            generalize t.name = knm at *
            generalize t.text = ktx at *
            generalize t.leaf = klf at *
            go_wp2_with fail
            go_region_law (first
              | (refine step_append_lies _ rfl (.tmp 64) (.tmp 70) 30 rfl (w.heap.size + 3) 39 i59 _ 4 64 Try.underlying30 hi59 hy0 hy1 hy2 rfl (by decide) _ k'.length (kc k' fs k'.length) (by simp [Act.eval, Act.put]) HO2.out ⟨w1.heap.size, 0, none⟩ 1 1 [.string knm, .string ktx, .bool klf, .slice a2 l2 p2] (by simp [Act.eval, Act.put]) rfl (cell_four_box _ _ _ _ _ _) (by intro u hu; simp at hu; rcases hu with rfl | rfl | rfl | rfl <;> rfl) (by decide) (by unfold maxLen; omega) (by omega) (by simp; omega) _ rfl ?_; intro g3 cap3 w3 hown3 hgr3 hat3 hlt3; obtain ⟨V3, g3f, HNX⟩ := HN3.out w3 g3 cap3 hown3 hgr3 hat3)
              | (go_simp; go_at_call 62; refine Calls.mono HCL.out ?_; rintro e w1 ⟨a2, l2, p2, rfl, HQ⟩; obtain ⟨hs1, U3, U4, HO2, HN3⟩ := HAF.out w1 a2 l2 p2 HQ))
            all_goals
              clear hown3 hgr3 hat3 hlt3 HN3 HO2 U3 U4 HQ HAF HCL
              go_wp2_with fail
              exact ⟨⟨k'.length + 1, _, k' ++ [t], by go_num, by omega, (by show _ = _; simp), HBN.out.1, HBN.out.2, HKN, HNX⟩, by simp [intOf]; omega⟩
          · have HCL : Hid (Calls Try.prog 62 #[.pointer (some ⟨gb, 0, none⟩), .int .i64 qs[k'.length], .int .i64 (d + 1)] wr.drew fun e w1 => e = .panicked [formFault] ∧ Hid (TgA ns gb (.slice (some ⟨b, off, none⟩) ns.length cap) (Z : Int) g d w (.panicked [formFault]) w1)) := Calls.mono HCL0.out (by
              rintro e w1 ⟨k1, k2⟩
              rcases k2 with ⟨t', a2, l2, p2, k3, k4, k5, k6⟩ | ⟨k3, k4⟩
              · exact absurd ⟨t', k3⟩ hf
              · exact ⟨k4, HT.out.but.trans ⟨k1.1, k1.2.1, k1.2.2.1, k1.2.2.2.1, k1.2.2.2.2⟩, .inr ⟨fun t ht => hf (ht.kid (by rw [Int.toNat_natCast]; exact HZ.out.2) HK.out hlt2), rfl⟩⟩)
            have T3 : wr.cell? ⟨w.heap.size + 1 + 1, 3, none⟩ = some (.slice ua k'.length up) := HT.out.b2.cell 3 (by simp)
            clear HK HT HI HN HIK HKC HZ HCL0 hf
            generalize qs[k'.length] = zj at *
            go_wp2_with fail
            refine wp_region_held_drew (S := (fun wq => wq.cell? ⟨w.heap.size + 1 + 1, 3, none⟩ = some (.slice ua k'.length up))) (by kernel_rfl) T3 (fun hHeld => ?_)
            refine wpAnyH_take (i := 0) (oi := { dst := some 63, op := Go.Op.fieldAddr 39 (Go.Operand.tmp 8) 3, type := 0, pos := "l09_documents.go:222", after := #[], guard := none }) (v := ?v1) rfl (by kernel_rfl) (by kernel_rfl) (by kernel_rfl) (fun _ _ _ h => h) (Or.inl ⟨by rfl, ?h1⟩) hHeld ?r1
            case h1 => (intro w hSw; (try dsimp only at hSw); go_simp; try with_reducible rfl)
            try simp only [Act.put, List.setIfInBounds_toArray, List.set_cons_zero, List.set_cons_succ]
            refine wpAnyH_take (i := 1) (oi := { dst := some 64, op := Go.Op.load 30 (Go.Operand.tmp 63), type := 30, pos := "l09_documents.go:222", after := #[{ on := 0, ground := Go.Ground.data }], guard := none }) (v := ?v2) rfl (by kernel_rfl) (by kernel_rfl) (by kernel_rfl) (fun _ _ _ h => h) (Or.inl ⟨by rfl, ?h2⟩) hHeld ?r2
            case h2 => (intro w hSw; (try dsimp only at hSw); go_simp; try with_reducible rfl)
            try simp only [Act.put, List.setIfInBounds_toArray, List.set_cons_zero, List.set_cons_succ]
            refine wpAnyH_take (i := 2) (oi := { dst := some 65, op := Go.Op.move (Go.Operand.tmp 0), type := 172, pos := "l09_documents.go:222", after := #[], guard := none }) (v := ?v3) rfl (by kernel_rfl) (by kernel_rfl) (by kernel_rfl) (fun _ _ _ h => h) (Or.inl ⟨by rfl, ?h3⟩) hHeld ?r3
            case h3 => (intro w hSw; (try dsimp only at hSw); go_simp; try with_reducible rfl)
            try simp only [Act.put, List.setIfInBounds_toArray, List.set_cons_zero, List.set_cons_succ]
            refine wpAnyH_take (i := 3) (oi := { dst := some 66, op := Go.Op.move (Go.Operand.tmp 10), type := 3, pos := "l09_documents.go:222", after := #[], guard := none }) (v := ?v4) rfl (by kernel_rfl) (by kernel_rfl) (by kernel_rfl) (fun _ _ _ h => h) (Or.inl ⟨by rfl, ?h4⟩) hHeld ?r4
            case h4 => (intro w hSw; (try dsimp only at hSw); go_simp; try with_reducible rfl)
            try simp only [Act.put, List.setIfInBounds_toArray, List.set_cons_zero, List.set_cons_succ]
            refine wpAnyH_take (i := 4) (oi := { dst := some 67, op := Go.Op.move (Go.Operand.tmp 2), type := 3, pos := "l09_documents.go:222", after := #[], guard := none }) (v := ?v5) rfl (by kernel_rfl) (by kernel_rfl) (by kernel_rfl) (fun _ _ _ h => h) (Or.inl ⟨by rfl, ?h5⟩) hHeld ?r5
            case h5 => (intro w hSw; (try dsimp only at hSw); go_simp; try with_reducible rfl)
            try simp only [Act.put, List.setIfInBounds_toArray, List.set_cons_zero, List.set_cons_succ]
            refine wpAnyH_take (i := 5) (oi := { dst := some 68, op := Go.Op.binOp Go.BinOp.add 3 (Go.Operand.tmp 67) (Go.Operand.const (Go.Value.int Go.IntKind.i64 1)) 3, type := 3, pos := "l09_documents.go:222", after := #[{ on := 4, ground := Go.Ground.data }], guard := none }) (v := ?v6) rfl (by kernel_rfl) (by kernel_rfl) (by kernel_rfl) (fun _ _ _ h => h) (Or.inl ⟨by rfl, ?h6⟩) hHeld ?r6
            case h6 => (intro w hSw; (try dsimp only at hSw); go_simp; try with_reducible rfl)
            try simp only [Act.put, List.setIfInBounds_toArray, List.set_cons_zero, List.set_cons_succ]
            refine wpAnyH_ready (rs := [6]) (by kernel_rfl) (by simp) ?_
            refine AllReadyH.cons (o := { dst := some 69, op := Go.Op.call { callee := Go.Callee.value (Go.Operand.func 62), args := #[Go.Operand.tmp 65, Go.Operand.tmp 66, Go.Operand.tmp 68], argTypes := #[172, 3, 3] }, type := 39, pos := "l09_documents.go:222", after := #[{ on := 2, ground := Go.Ground.data }, { on := 3, ground := Go.Ground.data }, { on := 5, ground := Go.Ground.data }], guard := none }) rfl (fun K hK => ?_) AllReadyH.nil
            go_simp
            refine Calls.mono HCL.out ?_
            rintro e w1 ⟨rfl, HQ⟩
            go_wp2_with fail
            exact ⟨rfl, HQ.out⟩
        · have hje : k'.length = qs.length := by omega
          have HFT : Hid (Fit ns (Z : Int) g d ⟨n, x, l, k'⟩) := Fit.done (by omega) (by rw [Int.toNat_natCast]; exact HZ.out.2) HK.out hje hcn hdp
          have A0 : wr.cell? ⟨w.heap.size + 1 + 1, 0, none⟩ = some (.string n) := HT.out.b2.cell 0 (by simp)
          have A1 : wr.cell? ⟨w.heap.size + 1 + 1, 1, none⟩ = some (.string x) := HT.out.b2.cell 1 (by simp)
          have A2 : wr.cell? ⟨w.heap.size + 1 + 1, 2, none⟩ = some (.bool l) := HT.out.b2.cell 2 (by simp)
          have A3 : wr.cell? ⟨w.heap.size + 1 + 1, 3, none⟩ = some (.slice ua k'.length up) := HT.out.b2.cell 3 (by simp)
          have Z0 : wr.cell? ⟨w.heap.size, 0, none⟩ = some (.string ByteArray.empty) := HT.out.b0.cell 0 (by simp)
          have Z1 : wr.cell? ⟨w.heap.size, 1, none⟩ = some (.string ByteArray.empty) := HT.out.b0.cell 1 (by simp)
          have Z2 : wr.cell? ⟨w.heap.size, 2, none⟩ = some (.bool false) := HT.out.b0.cell 2 (by simp)
          have Z3 : wr.cell? ⟨w.heap.size, 3, none⟩ = some (.slice none 0 0) := HT.out.b0.cell 3 (by simp)
          have y0 := HT.out.b0.frozen 0
          have y1 := HT.out.b0.frozen 1
          have y2 := HT.out.b0.frozen 2
          have y3 := HT.out.b0.frozen 3
          have HFN : ∀ wq : World, Hid (wq = (((wr.setCell ⟨w.heap.size, 0, none⟩ (.string n)).setCell ⟨w.heap.size, 1, none⟩ (.string x)).setCell ⟨w.heap.size, 2, none⟩ (.bool l)).setCell ⟨w.heap.size, 3, none⟩ (.slice ua k'.length up)) → Hid (TgA ns gb (.slice (some ⟨b, off, none⟩) ns.length cap) (Z : Int) g d w (.returned (.agg #[.string n, .string x, .bool l, .slice ua k'.length up])) wq ∧ wq.cell? ⟨w.heap.size, 0, none⟩ = some (.string n) ∧ wq.cell? ⟨w.heap.size, 1, none⟩ = some (.string x) ∧ wq.cell? ⟨w.heap.size, 2, none⟩ = some (.bool l) ∧ wq.cell? ⟨w.heap.size, 3, none⟩ = some (.slice ua k'.length up)) := fun wq he => by
            have he := he.out
            subst he
            have hBo := (((HT.out.b0.set 0 (.string n)).set 1 (.string x)).set 2 (.bool l)).set 3 (.slice ua k'.length up)
            have hD : Own wr (w.heap.size + 3) wr.heap.size ⟨n, x, l, k'⟩ (.slice ua k'.length up) := Grw.done HT.out.grw HZ.out.1.1 HZ.out.1.2
            have hG : Box ((((wr.setCell ⟨w.heap.size, 0, none⟩ (.string n)).setCell ⟨w.heap.size, 1, none⟩ (.string x)).setCell ⟨w.heap.size, 2, none⟩ (.bool l)).setCell ⟨w.heap.size, 3, none⟩ (.slice ua k'.length up)) gb 128 [.slice (some ⟨b, off, none⟩) ns.length cap, .int .i64 (g + ((Tr.mk n x l k').cnt : Nat))] := by
              have e : g + ((Tr.mk n x l k').cnt : Nat) = g + 1 + ((Tr.cntL k' : Nat) : Int) := by rw [Tr.cnt_mk]; omega
              rw [e]
              exact (((HT.out.bg.past (by omega)).past (by omega)).past (by omega)).past (by omega)
            exact ⟨⟨(((HT.out.but.setNew (Nat.le_refl _) _).setNew (Nat.le_refl _) _).setNew (Nat.le_refl _) _).setNew (Nat.le_refl _) _, .inl ⟨⟨n, x, l, k'⟩, ua, k'.length, up, HFT.out, rfl, hG, ((((hD.past (.inl (by omega))).past (.inl (by omega))).past (.inl (by omega))).past (.inl (by omega))).keep (by omega) (by simp) (fun _ _ _ _ => rfl)⟩⟩, hBo.cell 0 (by simp), hBo.cell 1 (by simp), hBo.cell 2 (by simp), hBo.cell 3 (by simp)⟩
          have hnl : ¬ ((k'.length : Int) < (qs.length : Int)) := by omega
          clear HK HT HI HN HIK HKC HZ HFT hje
          go_wp2_with fail
          obtain ⟨f0, o0, o1, o2, o3⟩ := (HFN _ rfl).out
          exact bodyPost_ret (v := .agg #[.string n, .string x, .bool l, .slice ua k'.length up]) (by simp [results, Try.results62, go_sem, o0, o1, o2, o3]) rfl f0
end Go.Proofs.Ytofobmdljelmgaa
