import Derived.Test.YtofobmdljelmgaaNv
import Derived.BigRegion
/-! The program's number. -/
namespace Go.Proofs.Ytofobmdljelmgaa
open Go.RowKit Go.Deep
set_option linter.unusedVariables false
set_option maxRecDepth 100000
set_option linter.unusedSimpArgs false

section
variable {B gs b1 b2 : Nat} {r u : Value} {w w' : World} {ns : List Nd} {K : Nat → Prop} {DL : List (List Nat)} {LL : List (Nat × Nat)} {MM : List (ByteArray × ByteArray × Bool × Nat)}
/-- A node is looked for. -/
theorem NS.look {nn a : Nat} {x t : ByteArray} {f : Bool} {l : List Nat} (h : NS B gs b1 b2 r w u ns K DL LL MM) (hk : K1 b2 w w') (ha : DL[a]? = some l)
    (hn : ((MM.map encM)[nn]? = some (encM (x, t, f, a)) ∧ Mn w' b2 125 (MM.map encM)) ∨ (encM (x, t, f, a) ∉ MM.map encM ∧ nn = (MM.map encM).length ∧ Mn w' b2 125 (MM.map encM ++ [encM (x, t, f, a)]))) :
    Box w' gs 73 [.map (some b1), .map (some b2), u, r] ∧ Mn w' b1 122 (LL.map encL) ∧ DN B w' u ns K ∧
      ((put1 ns ⟨x, t, f, l⟩ = (ns, nn) ∧ nn < ns.length ∧ NS B gs b1 b2 r w' u ns K DL LL MM) ∨ (put1 ns ⟨x, t, f, l⟩ = (ns ++ [⟨x, t, f, l⟩], ns.length) ∧ nn = ns.length ∧ MOK DL (MM ++ [(x, t, f, a)]) (ns ++ [⟨x, t, f, l⟩]) ∧ Mn w' b2 125 ((MM ++ [(x, t, f, a)]).map encM))) := by
  have hb : ∀ q, q < w.heap.size → q ≠ b2 → w'.heap[q]? = w.heap[q]? := hk.block
  have hbx := h.box.keep (hb _ h.box.lt h.d12.2.2)
  have hm1 := h.m1.keep (hb _ h.m1.lt h.d12.1)
  have hdn := h.dn.keep hk.size (fun q hq hlt => hb q hlt (fun e => by
    subst e
    have := h.fr q (.inr (.inr rfl))
    rcases hq with hq | hq
    · exact this.2.1 hq
    · exact this.2.2 hq))
  refine ⟨hbx, hm1, hdn, ?_⟩
  rcases hn with ⟨e1, e2⟩ | ⟨e1, e3, e2⟩
  · obtain ⟨g1, g2⟩ := h.mok.hit h.nod (map_at (fun _ _ => encM_inj) e1) ha
    exact .inl ⟨g1, g2, hbx, hm1, e2, h.lok, h.mok, hdn, h.nod, h.fr, h.d12⟩
  · obtain ⟨g1, g2⟩ := h.mok.miss h.lok (map_not (fun _ _ => encM_inj) e1) ha
    exact .inr ⟨g1, by rw [e3, List.length_map, h.mok.len], g2, by simpa using e2⟩
end
set_option maxHeartbeats 12800000 in
theorem num36 {S : Nat → Prop} {B gs b1 b2 : Nat} {r : Value} (hr1 : r.oneCell' = true) (hS : ∀ q, S q → q < B) : ∀ (t : Tr) (v u : Value) (ns : List Nd) (K : Nat → Prop) (DL : List (List Nat)) (LL : List (Nat × Nat)) (MM : List (ByteArray × ByteArray × Bool × Nat)) (w : World), Lies w S t v → NS B gs b1 b2 r w u ns K DL LL MM → B ≤ w.heap.size → ns.length + t.cnt ≤ 1000000 → LL.length + t.cnt ≤ 1000000 →
    Calls Try.prog 33 #[.pointer (some ⟨gs, 0, none⟩), t.val v] w (NuR B gs b1 b2 r t ns K DL LL u w) := by
  refine Tr.ind (P := fun t => ∀ (v u : Value) (ns : List Nd) (K : Nat → Prop) (DL : List (List Nat)) (LL : List (Nat × Nat)) (MM : List (ByteArray × ByteArray × Bool × Nat)) (w : World), Lies w S t v → NS B gs b1 b2 r w u ns K DL LL MM → B ≤ w.heap.size → ns.length + t.cnt ≤ 1000000 → LL.length + t.cnt ≤ 1000000 → Calls Try.prog 33 #[.pointer (some ⟨gs, 0, none⟩), t.val v] w (NuR B gs b1 b2 r t ns K DL LL u w)) ?_
  intro n x l k ih v u ns K DL LL MM w hl hd hB hlen hlen2
  have IH := (show Hid _ from ih); clear ih
  obtain ⟨a, cap, b, off, sv, rfl, hn, hx, hc, hm, ha, hcell, hk⟩ := hl.out
  dsimp only at hn hx hc hm ha hcell hk
  have HA := (show Hid _ from ha); clear ha
  have HC := (show Hid _ from hcell); clear hcell
  have HK := (show Hid _ from hk); clear hk hl
  have HNX := (show Hid _ from (⟨hn, hx⟩ : _ ∧ _)); clear hn hx
  unfold maxLen at hm
  rw [Tr.cnt_mk] at hlen hlen2
  have HLEN := (show Hid _ from (⟨hlen, hlen2⟩ : _ ∧ _)); clear hlen hlen2
  have HB := (show Hid _ from hB); clear hB
  have HS := (show Hid _ from hS)
  have HLT := (show Hid (gs < w.heap.size ∧ b1 < w.heap.size ∧ b2 < w.heap.size) from ⟨hd.box.lt, hd.m1.lt, hd.m2.lt⟩)
  have HBB := (show Hid (∀ w', ∀ u', FN gs b1 b2 w w' u u' → Below B w w') from fun w' u' hf => hd.below hf HB.out)
  have HR := (show Hid (∀ u' K' DL' LL' MM' e w', e = .returned (.int .i64 ((put1 (pk k k.length ns).1 ⟨n, x, l, (pk k k.length ns).2⟩).2 : Nat)) → NS B gs b1 b2 r w' u' (put1 (pk k k.length ns).1 ⟨n, x, l, (pk k k.length ns).2⟩).1 K' DL' LL' MM' → FN gs b1 b2 w w' u u' → (∀ b, K' b → K b ∨ w.heap.size ≤ b) → DL <+: DL' → LL'.length + 1 ≤ LL.length + (1 + Tr.cntL k) → NuR B gs b1 b2 r ⟨n, x, l, k⟩ ns K DL LL u w e w') from fun u' K' DL' LL' MM' e w' h1 h2 h3 h4 h5 h6 => by
    unfold NuR
    rw [putT_mk, ← pk_all, Tr.cnt_mk]
    exact ⟨u', K', DL', LL', MM', h1, h2, h3, h4, h5, h6⟩)
  have HI0 := (show Hid (NuI B gs b1 b2 w.heap.size r w (w.alloc (.cells #[.string n, .string x, .bool l, .slice a k.length cap] 39)) n x l (.slice a k.length cap) k ns K K u u (.slice none 0 0) DL DL LL LL MM 0 0) from (by
    have hbb := bel_alloc w (.cells #[.string n, .string x, .bool l, .slice a k.length cap] 39)
    refine ⟨Box.new w 39 [.string n, .string x, .bool l, .slice a k.length cap], by rw [pk_zero]; exact hd.still hbb, by rw [pk_zero]; exact own_nil _ _ _ _, FN.of_below hbb, fun b hb => .inl hb, fun q hq => ?_, List.prefix_refl _, by rw [pk_zero]; exact hd.lok.zero, by omega⟩
    rcases hq with e | e
    · exact ⟨fun hb => by have := hd.dn.lt q (.inl hb); omega, fun hb => by have := hd.dn.lt q (.inr hb); omega⟩
    · cases e))
  clear hd
  obtain ⟨i3, hi3, hz0, hz1, hz2⟩ := info_parts info3i
  obtain ⟨i8, hi8, hy0, hy1, hy2⟩ := info_parts info34
  generalize hPK : pk k k.length ns = PK at *
  have HPK := (show Hid _ from hPK); clear hPK
  have T3 : (w.alloc (.cells #[.string n, .string x, .bool l, .slice a k.length cap] 39)).cell? ⟨w.heap.size, 3, none⟩ = some (.slice a k.length cap) := HI0.out.bt.cell 3 (by simp)
  go_enter Try.func33, Try.ntmps33
  go_wp2_with fail
  clear T3
  go_loopw [5, 6, 14] (fun vk q i wr => ∃ (j aa : Nat) (uj : Value) (Kj : Nat → Prop) (DLj : List (List Nat)) (LLj : List (Nat × Nat)) (MMj : List (ByteArray × ByteArray × Bool × Nat)), i = .int .i64 j ∧ q = .int .i64 aa ∧ j ≤ k.length ∧ Hid (NuI B gs b1 b2 w.heap.size r w wr n x l (.slice a k.length cap) k ns K Kj u uj vk DL DLj LL LLj MMj j aa)) (fun _ _ i _ => k.length - (intOf i).toNat)
  case atStart => exact ⟨0, 0, _, _, _, _, _, rfl, rfl, Nat.zero_le _, HI0.out⟩
  case round =>
    obtain ⟨j, aa, uj, Kj, DLj, LLj, MMj, rfl, rfl, hj, HJ⟩ := hrel
    have HBEL := (show Hid _ from HBB.out wr uj HJ.out.fn)
    have hab : aa ≤ 1000000 := by
      have h1 := (List.getElem?_eq_some_iff.1 HJ.out.la).1
      have h2 := HJ.out.s.lok.len
      have h3 := HJ.out.ll
      have h4 := Tr.cntL_take_le k j
      have h5 := HLEN.out.2
      omega
    by_cases hlt : j < k.length
    · obtain ⟨rfl, hSb⟩ := HA.out (by omega)
      obtain ⟨c0, c1, c2, c3⟩ := HC.out j hlt
      have hbB := HS.out b hSb
      rw [← HBEL.out.cell (by exact hbB)] at c0 c1 c2 c3
      have hl := HK.out j hlt
      obtain ⟨mm, hmm⟩ : ∃ mm, (putT k[j] (pk k j ns).1).2 = mm := ⟨_, rfl⟩
      have h1 := pk_len k j ns
      have h2 := Tr.cntL_take_succ k j hlt
      have h3 := Tr.cntL_take_le k (j + 1)
      have h4 := HLEN.out
      have h5 := HJ.out.ll
      have h6 := len_le_cntL k
      have hmb : mm ≤ 1000000 := by
        have e1 := putT_lt k[j] HJ.out.s.nod
        have e2 := putT_len k[j] (pk k j ns).1
        omega
      have hjb : j ≤ 1000000 := by omega
      have HIH : Hid (Calls Try.prog 33 #[.pointer (some ⟨gs, 0, none⟩), k[j].val (sv j)] (wr.alloc (.cells #[.string k[j].name, .string k[j].text, .bool k[j].leaf, sv j] 39)) fun e w' => ∃ u' K' DL' LL' MM', e = .returned (.int .i64 (mm : Nat)) ∧ NS B gs b1 b2 r w' u' (putT k[j] (pk k j ns).1).1 K' DL' LL' MM' ∧ FN gs b1 b2 wr w' uj u' ∧ (∀ b, K' b → Kj b ∨ wr.heap.size ≤ b) ∧ DLj <+: DL' ∧ LL'.length + 1 ≤ LLj.length + Tr.cnt k[j]) := by
        have hba := bel_alloc wr (.cells #[.string k[j].name, .string k[j].text, .bool k[j].leaf, sv j] 39)
        have hbl := hl.low HS.out HBEL.out
        refine Calls.mono (IH.out j hlt (sv j) uj (pk k j ns).1 Kj DLj LLj MMj _ (hbl.still hba) (HJ.out.s.still hba) (Nat.le_trans (Nat.le_trans HB.out HBEL.out.size) hba.size) (by omega) (by omega)) ?_
        rintro e w' ⟨u', K', DL', LL', MM', e1, e2, e3, e4, e5, e6⟩
        exact ⟨u', K', DL', LL', MM', by rw [e1, hmm], e2, (FN.of_below hba).trans e3, fun b hb => by
          have hs := hba.size
          rcases e4 b hb with e | e
          · exact .inl e
          · exact .inr (by omega), e5, e6⟩
      have HMM := (show Hid _ from hmm)
      have HAPP : Hid (∀ (w1 w2 : World) (u' : Value) (K' : Nat → Prop) (DL' : List (List Nat)) (LL' : List (Nat × Nat)) (MM' : List (ByteArray × ByteArray × Bool × Nat)) (q cq : Nat) (o : Obj), NS B gs b1 b2 r w1 u' (putT k[j] (pk k j ns).1).1 K' DL' LL' MM' → FN gs b1 b2 wr w1 uj u' → (∀ b, K' b → Kj b ∨ wr.heap.size ≤ b) → DLj <+: DL' → LL'.length + 1 ≤ LLj.length + Tr.cnt k[j] → w2.ownsRow (w.heap.size + 1) 3 1 (.slice (some ⟨q, 0, none⟩) (j + 1) cq) (j + 1) (iv (ins (pk k j ns).2) ++ [.int .i64 (mm : Nat)]) → (w1.alloc o).grownBy w2 u5.ownBlock → (u5.ownBlock = some q ∨ q = w1.heap.size + 1) → NuJ B gs b1 b2 w.heap.size r w w2 n x l (.slice (some ⟨b, off, none⟩) k.length cap) k ns K K' u u' (.slice (some ⟨q, 0, none⟩) (j + 1) cq) DL DL' LL LL' MM' j aa ∧ LL'.length ≤ 1000000) := fun w1 w2 u' K' DL' LL' MM' q cq o e1 e2 e3 e4 e5 e6 e7 e8 => ⟨HJ.out.appended hlt rfl HLT.out e1 e2 e3 e4 e5 o (by rw [hmm]; exact e6) e7 e8, by omega⟩
      have HNXT : Hid (∀ (w2 w3 : World) (u' vk' : Value) (K' : Nat → Prop) (DL' : List (List Nat)) (LL' : List (Nat × Nat)) (MM' : List (ByteArray × ByteArray × Bool × Nat)) (nn : Nat), NuJ B gs b1 b2 w.heap.size r w w2 n x l (.slice (some ⟨b, off, none⟩) k.length cap) k ns K K' u u' vk' DL DL' LL LL' MM' j aa → K1 b1 w2 w3 → (((LL'.map encL)[nn]? = some (encL (aa, mm)) ∧ Mn w3 b1 122 (LL'.map encL)) ∨ (encL (aa, mm) ∉ LL'.map encL ∧ nn = (LL'.map encL).length ∧ Mn w3 b1 122 (LL'.map encL ++ [encL (aa, mm)]))) → ∃ DL2 LL2, NuI B gs b1 b2 w.heap.size r w w3 n x l (.slice (some ⟨b, off, none⟩) k.length cap) k ns K K' u u' vk' DL DL2 LL LL2 MM' (j + 1) (nn + 1) ∧ nn ≤ 1000000) := fun w2 w3 u' vk' K' DL' LL' MM' nn e1 e2 e3 => by
        obtain ⟨DL2, LL2, hI⟩ := e1.next hlt HLT.out hmm.symm e2 e3
        refine ⟨DL2, LL2, hI, ?_⟩
        have g1 := (List.getElem?_eq_some_iff.1 hI.la).1
        have g2 := hI.s.lok.len
        have g3 := hI.ll
        omega
      obtain ⟨a3, l3, p3, e3⟩ := hl.form
      rw [e3] at c3
      rw [e3] at HIH
      simp only [Tr.val] at HIH
      clear e3 hl hmm h1 h2 h3 h4 h5 h6
      generalize k[j].name = knm at *
      generalize k[j].text = ktx at *
      generalize k[j].leaf = klf at *
      go_wp2_with fail
      refine Calls.mono HIH.out ?_
      rintro e w1 ⟨u1, K1', DL1, LL1, MM1, rfl, hs1, hf1, hk1, hp1, hl1⟩
      obtain ⟨q1, q3, q4⟩ := HJ.out.called HLT.out hf1 hk1
      have HQ := (show Hid _ from (⟨hs1, hf1, hk1, hp1, hl1⟩ : _ ∧ _ ∧ _ ∧ _ ∧ _))
      have hba := bel_alloc w1 (.cells #[.int .i64 (mm : Nat)] 3)
      have HO1 := (show Hid _ from own_keep1 q3 (fun q hq => hba.block q (World.ownsRow.lt q3 q hq).2))
      have HZ1 := (show Hid (w.heap.size + 1 ≤ w1.heap.size) from (by have := q1.lt; show _ ≤ _; omega))
      clear q1 q3 q4 hs1 hf1 hk1 hp1 hl1 hba HIH c0 c1 c2 c3
      go_wp2_with (at_builtin; refine wpList_append_lies _ rfl (.tmp 21) (.tmp 23) 25 rfl (w.heap.size + 1) 3 i3 _ 1 8 Try.underlying25 hi3 hz0 hz1 hz2 rfl (by decide) _ j _ rfl HO1.out ⟨w1.heap.size, 0, none⟩ 1 1 [.int .i64 (mm : Nat)] rfl rfl ?c1 ?c2 (by decide) ?c3 ?c5 ?c4 _ rfl ?nx)
      case c1 => exact World.news_of_block (cs := #[.int .i64 (mm : Nat)]) (blk_alloc_new _ _)
      case c2 => intro u hu; simp at hu; subst hu; rfl
      case c3 => unfold maxLen; omega
      case c5 => omega
      case c4 => have := HZ1.out; simp; omega
      case nx =>
        intro g7 cap7 w7 hown7 hgr7 hat7 hlt7
        obtain ⟨hJJ, hLb⟩ := HAPP.out w1 w7 u1 K1' DL1 LL1 MM1 g7 cap7 _ HQ.out.1 HQ.out.2.1 HQ.out.2.2.1 HQ.out.2.2.2.1 HQ.out.2.2.2.2 hown7 hgr7 (by simpa using hat7)
        have M0 : w7.cell? ⟨gs, 0, none⟩ = some (.map (some b1)) := hJJ.s.box.cell 0 (by simp)
        obtain ⟨lk, hlk⟩ := key101 (a := aa) (b := mm) (by omega) (by omega)
        have HCL := (show Hid (Calls Try.prog 60 #[.map (some b1), .agg #[.int .i64 (aa : Nat), .int .i64 (mm : Nat)]] w7 (NoR b1 122 (LL1.map encL) (encL (aa, mm)) w7)) from number59 b1 (LL1.map encL) aa mm lk w7 hlk hJJ.s.m1 (by rw [List.length_map]; exact hLb))
        have HJJ := (show Hid _ from hJJ)
        clear hown7 hgr7 hat7 hlt7 HAPP HQ HO1 hlk hJJ
        go_wp2_with fail
        refine Calls.mono HCL.out ?_
        rintro e w8 ⟨nn, rfl, hk8, hn8⟩
        obtain ⟨DL8, LL8, hI8, hnb⟩ := HNXT.out w7 w8 u1 _ K1' DL1 LL1 MM1 nn HJJ.out hk8 hn8
        have HI8 := (show Hid _ from hI8)
        clear hk8 hn8 hI8 HCL HJJ HNXT M0
        go_wp2_with fail
        exact ⟨⟨j + 1, nn + 1, _, _, _, _, _, by go_num, by go_num, by omega, HI8⟩, by simp [intOf]; omega⟩
    · obtain rfl : j = k.length := by omega
      obtain ⟨y1, y2, y3, y4, y5, y6, y7, y8, y9⟩ := HJ.out
      rw [HPK.out] at y2 y3 y8
      rw [List.take_length] at y9
      clear HJ HC HA HK IH HI0
      obtain ⟨ua, up, rfl, hu1, hu2⟩ := y2.dn.form
      obtain ⟨va, vp, rfl, hvn⟩ := own_ne y3
      have hnb : PK.1.length ≤ 1000000 := by
        have h1 := pk_len k k.length ns
        rw [HPK.out, List.take_length] at h1
        have := HLEN.out.1
        omega
      have hMb : MMj.length ≤ 1000000 := by rw [y2.mok.len]; exact hnb
      have hG := y2.box
      have h0 : (ins PK.2).length = k.length := by
        rw [ins_len, ← HPK.out]
        exact pk_num k _ (Nat.le_refl _) ns
      have hki : OwnI wr ((Value.slice va k.length vp).ownBlock.getD 0) (ins PK.2) (.slice va k.length vp) := own_ints (by rw [h0]; exact y3)
      have hvq : PK.2 ≠ [] → ∃ q, (Value.slice va k.length vp).ownBlock = some q := fun hne => by
        cases va with
        | none =>
          have := hvn rfl
          rw [ins_len] at h0
          exact absurd (List.eq_nil_of_length_eq_zero (by omega)) hne
        | some q => exact ⟨_, rfl⟩
      have hqs : ∀ q, (Value.slice va k.length vp).ownBlock = some q → w.heap.size + 1 ≤ q ∧ q < wr.heap.size := fun q hq => World.ownsRow.lt y3 q hq
      have HV := (show Hid _ from (⟨hki, hvq, hqs⟩ : _ ∧ _ ∧ _)); clear hki hvq hqs h0
      obtain ⟨lk, hlk⟩ := key104 (x := n) (t := x) (f := l) (a := aa) HNX.out.1 HNX.out.2 (by omega)
      have HCL := (show Hid (Calls Try.prog 61 #[.map (some b2), .agg #[.string n, .string x, .bool l, .int .i64 (aa : Nat)]] wr.drew (NoR b2 125 (MMj.map encM) (encM (n, x, l, aa)) wr.drew)) from number60 b2 (MMj.map encM) n x l aa lk wr.drew hlk (y2.m2.keep rfl) (by rw [List.length_map]; exact hMb))
      have HC4 := (show Hid (∀ wq, Box wq gs 73 [.map (some b1), .map (some b2), .slice ua PK.1.length up, r] → Box wq w.heap.size 39 [.string n, .string x, .bool l, .slice a k.length cap] → wq.cell? ⟨gs, 1, none⟩ = some (.map (some b2)) ∧ wq.cell? ⟨w.heap.size, 0, none⟩ = some (.string n) ∧ wq.cell? ⟨w.heap.size, 1, none⟩ = some (.string x) ∧ wq.cell? ⟨w.heap.size, 2, none⟩ = some (.bool l)) from fun wq e1 e2 => ⟨e1.cell 1 (by simp), e2.cell 0 (by simp), e2.cell 1 (by simp), e2.cell 2 (by simp)⟩)
      have hS0 := HC4.out wr.drew (hG.keep rfl) (y1.keep rfl)
      have HS1 := (show Hid (∀ w3 : World, K1 b2 wr.drew w3 → Box w3 w.heap.size 39 [.string n, .string x, .bool l, .slice a k.length cap] ∧ (w3.cell? ⟨gs, 1, none⟩ = some (.map (some b2)) ∧ w3.cell? ⟨w.heap.size, 0, none⟩ = some (.string n) ∧ w3.cell? ⟨w.heap.size, 1, none⟩ = some (.string x) ∧ w3.cell? ⟨w.heap.size, 2, none⟩ = some (.bool l))) from fun w3 hk => by
        have e1 := y1.keep (hk.block _ y1.lt (by have := HLT.out.2.2; omega))
        exact ⟨e1, HC4.out w3 (hG.keep (hk.block _ hG.lt y2.d12.2.2)) e1⟩)
      have HY := (show Hid _ from (⟨y2, y4, y5, y6, y7, y8, y9⟩ : _ ∧ _ ∧ _ ∧ _ ∧ _ ∧ _ ∧ _))
      clear y1 y2 y3 y4 y5 y6 y7 y8 y9 hG hlk hu1 hu2
      have hrd : IntKind.i64.wrap (1 : Int) = 1 := by decide
      have T3 : True := trivial
      go_wp2_with fail
      go_cut [10] from 35 to 47 (fun v10 wx => ∃ nn : Nat, v10 = .int .i64 nn ∧ Hid (K1 b2 wr wx ∧ (((MMj.map encM)[nn]? = some (encM (n, x, l, aa)) ∧ Mn wx b2 125 (MMj.map encM)) ∨ (encM (n, x, l, aa) ∉ MMj.map encM ∧ nn = (MMj.map encM).length ∧ Mn wx b2 125 (MMj.map encM ++ [encM (n, x, l, aa)])))))
      case first =>
        go_region_held3 (fun wq => wq.cell? ⟨gs, 1, none⟩ = some (.map (some b2)) ∧ wq.cell? ⟨w.heap.size, 0, none⟩ = some (.string n) ∧ wq.cell? ⟨w.heap.size, 1, none⟩ = some (.string x) ∧ wq.cell? ⟨w.heap.size, 2, none⟩ = some (.bool l)) (first | with_reducible exact hS0 | with_reducible exact hS1) ((go_at_call 61; refine Calls.mono HCL.out ?_; rintro e w3 ⟨nn, rfl, hk3, hn3⟩; have hS1 := (HS1.out w3 hk3).2))
        all_goals go_wp2_with fail
        all_goals go_meet
        all_goals exact ⟨nn, rfl, ⟨hk3.os, hk3.tape, hk3.output, hk3.size, hk3.block⟩, hn3⟩
      case rest =>
        obtain ⟨nn, rfl, HX⟩ := hcut
        obtain ⟨z1, z2, z3, z4⟩ := HY.out.1.look HX.out.1 HY.out.2.2.2.2.2.1 HX.out.2
        have U2 : wc.cell? ⟨gs, 2, none⟩ = some (.slice ua PK.1.length up) := z1.cell 2 (by simp)
        have htb := (HS1.out wc ⟨HX.out.1.os, HX.out.1.tape, HX.out.1.output, HX.out.1.size, HX.out.1.block⟩).1
        have HTB := (show Hid _ from htb)
        clear hS0 HS1 HC4 HCL
        rcases z4 with ⟨g1, g2, g3⟩ | ⟨g1, g2, g3, g4⟩
        · have hne : ((nn : Int) == (PK.1.length : Int)) = false := by simp; omega
          have HE := (show Hid (NuR B gs b1 b2 r ⟨n, x, l, k⟩ ns K DL LL u w (.returned (.int .i64 (nn : Nat))) wc) from HR.out _ Kj DLj LLj MMj _ wc (by rw [g1]) (by rw [g1]; exact g3) (HY.out.2.1.trans (FN.map2 HX.out.1)) HY.out.2.2.1 HY.out.2.2.2.2.1 (by have := HY.out.2.2.2.2.2.2; omega))
          clear g1 g2 g3 z1 z2 z3 htb
          go_wp2_with fail
          go_ret
          exact HE.out
        · subst g2
          obtain ⟨kv, kb, hd3⟩ := z3
          have hb2 : Below wc.heap.size wc (wc.drew.alloc (.cells #[.string n, .string x, .bool l, .slice va k.length vp] 34)) := (Below.refl wc.heap.size wc).drew.alloc (Nat.le_refl _) _
          have hd4 := hd3.keep hb2.size (fun q _ hlt => hb2.block q hlt)
          have HO3 := (show Hid _ from hd4.row)
          have hS0 : (wc.drew.cell? ⟨w.heap.size, 0, none⟩ = some (.string n) ∧ wc.drew.cell? ⟨w.heap.size, 1, none⟩ = some (.string x) ∧ wc.drew.cell? ⟨w.heap.size, 2, none⟩ = some (.bool l)) := ⟨htb.cell 0 (by simp), htb.cell 1 (by simp), htb.cell 2 (by simp)⟩
          have htb2 := htb.still hb2
          have hS2 : ((wc.drew.alloc (.cells #[.string n, .string x, .bool l, .slice va k.length vp] 34)).cell? ⟨w.heap.size, 0, none⟩ = some (.string n) ∧ (wc.drew.alloc (.cells #[.string n, .string x, .bool l, .slice va k.length vp] 34)).cell? ⟨w.heap.size, 1, none⟩ = some (.string x) ∧ (wc.drew.alloc (.cells #[.string n, .string x, .bool l, .slice va k.length vp] 34)).cell? ⟨w.heap.size, 2, none⟩ = some (.bool l)) := ⟨htb2.cell 0 (by simp), htb2.cell 1 (by simp), htb2.cell 2 (by simp)⟩
          have hgb := z1.still hb2
          have X2 : wc.drew.cell? ⟨gs, 2, none⟩ = some (.slice ua PK.1.length up) := z1.cell 2 (by simp)
          have X3 : (wc.drew.alloc (.cells #[.string n, .string x, .bool l, .slice va k.length vp] 34)).cell? ⟨gs, 2, none⟩ = some (.slice ua PK.1.length up) := hgb.cell 2 (by simp)
          have X4 : (wc.alloc (.cells #[.string n, .string x, .bool l, .slice va k.length vp] 34)).cell? ⟨gs, 2, none⟩ = some (.slice ua PK.1.length up) := (z1.still (bel_alloc _ _)).cell 2 (by simp)
          have HNEW := (show Hid _ from World.news_of_block (cs := #[.string n, .string x, .bool l, .slice va k.length vp]) (blk_alloc_new wc.drew (.cells #[.string n, .string x, .bool l, .slice va k.length vp] 34)))
          have HZ3 := (show Hid (B ≤ (wc.drew.alloc (.cells #[.string n, .string x, .bool l, .slice va k.length vp] 34)).heap.size) from (by
            have h1 := HB.out
            have h2 := HBEL.out.size
            have h3 := HX.out.1.size
            have h4 := hb2.size
            show _ ≤ _
            omega))
          have HST := (show Hid (∀ (w7 : World) (v : Value), (w7.cell? ⟨w.heap.size, 0, none⟩ = some (.string n) ∧ w7.cell? ⟨w.heap.size, 1, none⟩ = some (.string x) ∧ w7.cell? ⟨w.heap.size, 2, none⟩ = some (.bool l)) → ((w7.setCell ⟨gs, 2, none⟩ v).cell? ⟨w.heap.size, 0, none⟩ = some (.string n) ∧ (w7.setCell ⟨gs, 2, none⟩ v).cell? ⟨w.heap.size, 1, none⟩ = some (.string x) ∧ (w7.setCell ⟨gs, 2, none⟩ v).cell? ⟨w.heap.size, 2, none⟩ = some (.bool l))) from fun w7 v ⟨e1, e2, e3⟩ => by
            have hne : w.heap.size ≠ gs := by have := HLT.out.1; omega
            have hb : (w7.setCell ⟨gs, 2, none⟩ v).heap[w.heap.size]? = w7.heap[w.heap.size]? := blk_setCell_other _ _ _ _ hne
            exact ⟨(World.cell?_of_block (w := w7) hb).trans e1, (World.cell?_of_block (w := w7) hb).trans e2, (World.cell?_of_block (w := w7) hb).trans e3⟩)
          have HAP : Hid (∀ (g7 cap7 : Nat) (w7 : World), w7.ownsRow B 34 4 (.slice (some ⟨g7, 0, none⟩) (PK.1.length + 1) cap7) (PK.1.length + 1) (nc PK.1 kv PK.1.length ++ [.string n, .string x, .bool l, .slice va k.length vp]) → (wc.drew.alloc (.cells #[.string n, .string x, .bool l, .slice va k.length vp] 34)).grownBy w7 (Value.slice ua PK.1.length up).ownBlock → ((Value.slice ua PK.1.length up).ownBlock = some g7 ∨ g7 = (wc.drew.alloc (.cells #[.string n, .string x, .bool l, .slice va k.length vp] 34)).heap.size) → (w7.cell? ⟨w.heap.size, 0, none⟩ = some (.string n) ∧ w7.cell? ⟨w.heap.size, 1, none⟩ = some (.string x) ∧ w7.cell? ⟨w.heap.size, 2, none⟩ = some (.bool l)) ∧ w7.cell? ⟨gs, 2, none⟩ = some (.slice ua PK.1.length up) ∧ w7.frozen? ⟨gs, 2, none⟩ = false ∧ Hid (NuR B gs b1 b2 r ⟨n, x, l, k⟩ ns K DL LL u w (.returned (.int .i64 (PK.1.length : Nat))) (w7.setCell ⟨gs, 2, none⟩ (.slice (some ⟨g7, 0, none⟩) (PK.1.length + 1) cap7)))) := fun g7 cap7 w7 hown hgr hat => by
            obtain ⟨hki, hvq, hqs⟩ := HV.out
            have hfr := HY.out.1.fr
            have hd12 := HY.out.1.d12
            have hk2 := HX.out.1
            have hsz2 := hb2.size
            have hszk := hk2.size
            have hsz7 := hgr.size
            have hub : ∀ q, (Value.slice ua PK.1.length up).ownBlock = some q → B ≤ q ∧ q < wc.heap.size := fun q hq => hd3.lt q (.inr hq)
            have hblk : ∀ q, q < wc.heap.size → (Value.slice ua PK.1.length up).ownBlock ≠ some q → w7.heap[q]? = wc.heap[q]? := fun q hq hne => (hgr.block q (by omega) (fun e => hne e.symm)).trans (hb2.block q hq)
            have hgl := z1.lt
            have hbt7 := htb.keep (hblk _ htb.lt (HY.out.2.2.2.1 _ (.inl rfl)).2)
            have hgs7 := z1.keep (hblk _ z1.lt (hfr _ (.inl rfl)).2.2)
            refine ⟨⟨hbt7.cell 0 (by simp), hbt7.cell 1 (by simp), hbt7.cell 2 (by simp)⟩, hgs7.cell 2 (by simp), hgs7.frozen 2, ?_⟩
            have hset : ∀ q, q ≠ gs → (w7.setCell ⟨gs, 2, none⟩ (.slice (some ⟨g7, 0, none⟩) (PK.1.length + 1) cap7)).heap[q]? = w7.heap[q]? := fun q hq => blk_setCell_other _ _ _ _ hq
            have hss : (w7.setCell ⟨gs, 2, none⟩ (.slice (some ⟨g7, 0, none⟩) (PK.1.length + 1) cap7)).heap.size = w7.heap.size := by simp
            have hvw : OwnI wc ((Value.slice va k.length vp).ownBlock.getD 0) (ins PK.2) (.slice va k.length vp) := hki.keep0 (fun hne => by
              obtain ⟨q, hq⟩ := hvq (ins_ne.1 hne)
              have := hqs q hq
              have h2 := HLT.out
              rw [hq]
              exact hk2.block q this.2 (by omega))
            have hgg : ∀ q, (q = gs ∨ q = b1 ∨ q = b2) → g7 ≠ q ∧ ¬ (PK.2 ≠ [] ∧ q = (Value.slice va k.length vp).ownBlock.getD 0) := fun q hq => by
              have hqw : q < w.heap.size := by
                have := HLT.out
                rcases hq with e | e | e <;> omega
              have hws : w.heap.size ≤ wr.heap.size := HY.out.2.1.size
              refine ⟨fun e => ?_, fun ⟨hne, e⟩ => ?_⟩
              · rcases hat with e1 | e1
                · exact (hfr q hq).2.2 (by rw [e1, e])
                · omega
              · obtain ⟨p, hp⟩ := hvq hne
                rw [hp] at e
                have := hqs p hp
                have e' : q = p := e
                omega
            have hDN := Dn.add (n := ⟨n, x, l, PK.2⟩) (q := (Value.slice va k.length vp).ownBlock.getD 0) hd4 (hvw.still hb2) (fun hne => by
              obtain ⟨q, hq⟩ := hvq hne
              have h2 := hqs q hq
              have h3 := HY.out.2.2.2.1 q (.inr hq)
              have h4 := HB.out
              rw [hq]
              exact ⟨by show B ≤ q; omega, by show q < _; omega, h3.1, h3.2⟩) hown hgr hat
            refine HR.out (.slice (some ⟨g7, 0, none⟩) (PK.1.length + 1) cap7) (fun b => Kj b ∨ (PK.2 ≠ [] ∧ b = (Value.slice va k.length vp).ownBlock.getD 0)) DLj LLj (MMj ++ [(n, x, l, aa)]) _ _ (by rw [g1]) ?_ ?_ ?_ HY.out.2.2.2.2.1 (by have := HY.out.2.2.2.2.2.2; omega)
            · rw [g1]
              refine ⟨hgs7.set 2 _, ?_, ?_, HY.out.1.lok, g3, ?_, ?_, fun q hq => ?_, hd12⟩
              · exact (z2.keep (hblk _ z2.lt (hfr _ (.inr (.inl rfl))).2.2)).keep (hset _ (fun e => hd12.2.1 e.symm))
              · exact (g4.keep (hblk _ g4.lt (hfr _ (.inr (.inr rfl))).2.2)).keep (hset _ (fun e => hd12.2.2 e.symm))
              · refine hDN.keep (by omega) (fun q hq _ => hset q (fun e => ?_))
                subst e
                rcases hq with (hq | hq) | hq
                · exact (hfr _ (.inl rfl)).2.1 hq
                · exact (hgg _ (.inl rfl)).2 hq
                · exact (hgg _ (.inl rfl)).1 (by simpa [Value.ownBlock] using hq)
              · have := put1_nodup HY.out.1.nod (⟨n, x, l, PK.2⟩ : Nd)
                rw [g1] at this
                exact this
              · refine ⟨(hfr q hq).1, fun hb => ?_, fun e => (hgg q hq).1 (by simpa [Value.ownBlock] using e)⟩
                rcases hb with hb | hb
                · exact (hfr q hq).2.1 hb
                · exact (hgg q hq).2 hb
            · refine (HY.out.2.1.trans (FN.map2 hk2)).trans ⟨hgr.os.trans hb2.os, hgr.tape.trans hb2.tape, hgr.output.trans hb2.output, by omega, fun q hq e1 e2 e3 hne => (hset q e1).trans (hblk q hq hne), ?_⟩
              rcases hat with e | e
              · exact .inl e.symm
              · exact .inr ⟨g7, rfl, by omega⟩
            · intro b hb
              rcases hb with hb | ⟨hne, rfl⟩
              · exact HY.out.2.2.1 b hb
              · obtain ⟨q, hq⟩ := HV.out.2.1 hne
                have := HV.out.2.2 q hq
                rw [hq]
                exact .inr (by show _ ≤ q; omega)
          clear hd3 hd4 hb2 htb htb2 hgb z1 z2 g1 g3 g4 HV HY HX HR
          go_wp2_with fail
          refine wp_region_held_drew (S := (fun wq => wq.cell? ⟨w.heap.size, 0, none⟩ = some (.string n) ∧ wq.cell? ⟨w.heap.size, 1, none⟩ = some (.string x) ∧ wq.cell? ⟨w.heap.size, 2, none⟩ = some (.bool l))) (by kernel_rfl) hS0 (fun hHeld => ?_)
          refine wpAnyH_take (i := 0) (oi := { dst := some 56, op := Go.Op.move (Go.Operand.tmp 0), type := 119, pos := "l09_documents.go:197", after := #[], guard := none }) (v := ?v1) rfl (by kernel_rfl) (by kernel_rfl) (by kernel_rfl) (fun _ _ _ h => h) (Or.inl ⟨by rfl, ?h1⟩) hHeld ?r1
          case h1 => (intro w hSw; (try dsimp only at hSw); go_simp; try with_reducible rfl)
          try simp only [Act.put, List.setIfInBounds_toArray, List.set_cons_zero, List.set_cons_succ]
          refine wpAnyH_take (i := 1) (oi := { dst := some 57, op := Go.Op.move (Go.Operand.tmp 0), type := 119, pos := "l09_documents.go:197", after := #[], guard := none }) (v := ?v2) rfl (by kernel_rfl) (by kernel_rfl) (by kernel_rfl) (fun _ _ _ h => h) (Or.inl ⟨by rfl, ?h2⟩) hHeld ?r2
          case h2 => (intro w hSw; (try dsimp only at hSw); go_simp; try with_reducible rfl)
          try simp only [Act.put, List.setIfInBounds_toArray, List.set_cons_zero, List.set_cons_succ]
          refine wpAnyH_take (i := 2) (oi := { dst := some 58, op := Go.Op.nilCheck (Go.Operand.tmp 57), type := 0, pos := "l09_documents.go:197", after := #[{ on := 1, ground := Go.Ground.data }], guard := none }) (v := ?v3) rfl (by kernel_rfl) (by kernel_rfl) (by kernel_rfl) (fun _ _ _ h => h) (Or.inl ⟨by rfl, ?h3⟩) hHeld ?r3
          case h3 => (intro w hSw; (try dsimp only at hSw); go_simp; try with_reducible rfl)
          try simp only [Act.put, List.setIfInBounds_toArray, List.set_cons_zero, List.set_cons_succ]
          refine wpAnyH_take (i := 3) (oi := { dst := some 59, op := Go.Op.fieldAddr 73 (Go.Operand.tmp 58) 2, type := 0, pos := "l09_documents.go:197", after := #[{ on := 2, ground := Go.Ground.data }], guard := none }) (v := ?v4) rfl (by kernel_rfl) (by kernel_rfl) (by kernel_rfl) (fun _ _ _ h => h) (Or.inl ⟨by rfl, ?h4⟩) hHeld ?r4
          case h4 => (intro w hSw; (try dsimp only at hSw); go_simp; try with_reducible rfl)
          try simp only [Act.put, List.setIfInBounds_toArray, List.set_cons_zero, List.set_cons_succ]
          refine wpAnyH_take (i := 4) (oi := { dst := some 60, op := Go.Op.fieldAddr 27 (Go.Operand.tmp 59) 0, type := 0, pos := "l09_documents.go:197", after := #[{ on := 3, ground := Go.Ground.data }], guard := none }) (v := ?v5) rfl (by kernel_rfl) (by kernel_rfl) (by kernel_rfl) (fun _ _ _ h => h) (Or.inl ⟨by rfl, ?h5⟩) hHeld ?r5
          case h5 => (intro w hSw; (try dsimp only at hSw); go_simp; try with_reducible rfl)
          try simp only [Act.put, List.setIfInBounds_toArray, List.set_cons_zero, List.set_cons_succ]
          refine wpAnyH_take (i := 6) (oi := { dst := some 62, op := Go.Op.fieldAddr 39 (Go.Operand.tmp 3) 0, type := 0, pos := "l09_documents.go:197", after := #[], guard := none }) (v := ?v6) rfl (by kernel_rfl) (by kernel_rfl) (by kernel_rfl) (fun _ _ _ h => h) (Or.inl ⟨by rfl, ?h6⟩) hHeld ?r6
          case h6 => (intro w hSw; (try dsimp only at hSw); go_simp; try with_reducible rfl)
          try simp only [Act.put, List.setIfInBounds_toArray, List.set_cons_zero, List.set_cons_succ]
          refine wpAnyH_take (i := 7) (oi := { dst := some 63, op := Go.Op.load 9 (Go.Operand.tmp 62), type := 9, pos := "l09_documents.go:197", after := #[{ on := 6, ground := Go.Ground.data }], guard := none }) (v := ?v7) rfl (by kernel_rfl) (by kernel_rfl) (by kernel_rfl) (fun _ _ _ h => h) (Or.inl ⟨by rfl, ?h7⟩) hHeld ?r7
          case h7 => (intro w hSw; (try dsimp only at hSw); go_simp; try with_reducible rfl)
          try simp only [Act.put, List.setIfInBounds_toArray, List.set_cons_zero, List.set_cons_succ]
          refine wpAnyH_take (i := 8) (oi := { dst := some 64, op := Go.Op.fieldAddr 39 (Go.Operand.tmp 3) 1, type := 0, pos := "l09_documents.go:197", after := #[], guard := none }) (v := ?v8) rfl (by kernel_rfl) (by kernel_rfl) (by kernel_rfl) (fun _ _ _ h => h) (Or.inl ⟨by rfl, ?h8⟩) hHeld ?r8
          case h8 => (intro w hSw; (try dsimp only at hSw); go_simp; try with_reducible rfl)
          try simp only [Act.put, List.setIfInBounds_toArray, List.set_cons_zero, List.set_cons_succ]
          refine wpAnyH_take (i := 9) (oi := { dst := some 65, op := Go.Op.load 9 (Go.Operand.tmp 64), type := 9, pos := "l09_documents.go:197", after := #[{ on := 8, ground := Go.Ground.data }], guard := none }) (v := ?v9) rfl (by kernel_rfl) (by kernel_rfl) (by kernel_rfl) (fun _ _ _ h => h) (Or.inl ⟨by rfl, ?h9⟩) hHeld ?r9
          case h9 => (intro w hSw; (try dsimp only at hSw); go_simp; try with_reducible rfl)
          try simp only [Act.put, List.setIfInBounds_toArray, List.set_cons_zero, List.set_cons_succ]
          refine wpAnyH_take (i := 10) (oi := { dst := some 66, op := Go.Op.fieldAddr 39 (Go.Operand.tmp 3) 2, type := 0, pos := "l09_documents.go:197", after := #[], guard := none }) (v := ?v10) rfl (by kernel_rfl) (by kernel_rfl) (by kernel_rfl) (fun _ _ _ h => h) (Or.inl ⟨by rfl, ?h10⟩) hHeld ?r10
          case h10 => (intro w hSw; (try dsimp only at hSw); go_simp; try with_reducible rfl)
          try simp only [Act.put, List.setIfInBounds_toArray, List.set_cons_zero, List.set_cons_succ]
          refine wpAnyH_take (i := 11) (oi := { dst := some 67, op := Go.Op.load 4 (Go.Operand.tmp 66), type := 4, pos := "l09_documents.go:197", after := #[{ on := 10, ground := Go.Ground.data }], guard := none }) (v := ?v11) rfl (by kernel_rfl) (by kernel_rfl) (by kernel_rfl) (fun _ _ _ h => h) (Or.inl ⟨by rfl, ?h11⟩) hHeld ?r11
          case h11 => (intro w hSw; (try dsimp only at hSw); go_simp; try with_reducible rfl)
          try simp only [Act.put, List.setIfInBounds_toArray, List.set_cons_zero, List.set_cons_succ]
          refine wpAnyH_take (i := 12) (oi := { dst := some 68, op := Go.Op.move (Go.Operand.tmp 5), type := 25, pos := "l09_documents.go:197", after := #[], guard := none }) (v := ?v12) rfl (by kernel_rfl) (by kernel_rfl) (by kernel_rfl) (fun _ _ _ h => h) (Or.inl ⟨by rfl, ?h12⟩) hHeld ?r12
          case h12 => (intro w hSw; (try dsimp only at hSw); go_simp; try with_reducible rfl)
          try simp only [Act.put, List.setIfInBounds_toArray, List.set_cons_zero, List.set_cons_succ]
          refine wpAnyH_take (i := 13) (oi := { dst := some 69, op := Go.Op.build 34 #[(0, Go.Operand.tmp 63), (1, Go.Operand.tmp 65), (2, Go.Operand.tmp 67), (3, Go.Operand.tmp 68)], type := 34, pos := "l09_documents.go:197", after := #[{ on := 7, ground := Go.Ground.data }, { on := 9, ground := Go.Ground.data }, { on := 11, ground := Go.Ground.data }, { on := 12, ground := Go.Ground.data }], guard := none }) (v := ?v13) rfl (by kernel_rfl) (by kernel_rfl) (by kernel_rfl) (fun _ _ _ h => h) (Or.inl ⟨by rfl, ?h13⟩) hHeld ?r13
          case h13 => (intro w hSw; (try dsimp only at hSw); go_simp; try with_reducible rfl)
          try simp only [Act.put, List.setIfInBounds_toArray, List.set_cons_zero, List.set_cons_succ]
          refine wpAnyH_ready (rs := [5, 14]) (by kernel_rfl) (by simp) ?_
          refine AllReadyH.cons (o := { dst := some 61, op := Go.Op.load 24 (Go.Operand.tmp 60), type := 24, pos := "l09_documents.go:197", after := #[{ on := 4, ground := Go.Ground.data }], guard := none }) rfl (fun K hK => ?_) (AllReadyH.cons (o := { dst := some 70, op := Go.Op.buildSlice 24 1 #[(0, Go.Operand.tmp 69)], type := 24, pos := "l09_documents.go:197", after := #[{ on := 13, ground := Go.Ground.data }], guard := none }) rfl (fun K hK => ?_) AllReadyH.nil)
          · go_simp
            clear hHeld
            refine hK.out _ _ hS0 (fun hHeld => ?_)
            clear hK K
            try simp only [Act.put, List.setIfInBounds_toArray, List.set_cons_zero, List.set_cons_succ]
            refine wpAnyH_ready (rs := [14]) (by kernel_rfl) (by simp) ?_
            refine AllReadyH.cons (o := { dst := some 70, op := Go.Op.buildSlice 24 1 #[(0, Go.Operand.tmp 69)], type := 24, pos := "l09_documents.go:197", after := #[{ on := 13, ground := Go.Ground.data }], guard := none }) rfl (fun K hK => ?_) AllReadyH.nil
            go_simp
            clear hHeld
            refine hK.out _ _ hS2 (fun hHeld => ?_)
            clear hK K
            try simp only [Act.put, List.setIfInBounds_toArray, List.set_cons_zero, List.set_cons_succ]
            refine wpAnyH_ready (rs := [15]) (by kernel_rfl) (by simp) ?_
            refine AllReadyH.cons (o := { dst := some 71, op := Go.Op.call { callee := Go.Callee.builtin Go.Builtin.append, args := #[Go.Operand.tmp 61, Go.Operand.tmp 70], argTypes := #[24, 24] }, type := 24, pos := "l09_documents.go:197", after := #[{ on := 5, ground := Go.Ground.data }, { on := 14, ground := Go.Ground.data }], guard := none }) rfl (fun K hK => ?_) AllReadyH.nil
            (refine step_append_lies _ rfl (.tmp 61) (.tmp 70) 24 rfl B 34 i8 _ 4 64 Try.underlying24 hi8 hy0 hy1 hy2 rfl (by decide) _ PK.1.length (nc PK.1 kv PK.1.length) (by simp [Act.eval, Act.put]) HO3.out ⟨wc.heap.size, 0, none⟩ 1 1 [.string n, .string x, .bool l, .slice va k.length vp] (by simp [Act.eval, Act.put]) rfl HNEW.out (by intro y hy; simp at hy; rcases hy with rfl | rfl | rfl | rfl <;> rfl) (by decide) (by unfold maxLen; omega) (by omega) HZ3.out _ rfl ?_; intro g7 cap7 w7 hown7 hgr7 hat7 hlt7; obtain ⟨hS7, n7, f7, HE7⟩ := HAP.out g7 cap7 w7 hown7 hgr7 hat7; clear hown7 hgr7 hat7 hlt7)
            clear hHeld
            refine hK.out _ _ hS7 (fun hHeld => ?_)
            clear hK K
            try simp only [Act.put, List.setIfInBounds_toArray, List.set_cons_zero, List.set_cons_succ]
            refine wpAnyH_take (i := 16) (oi := { dst := some 72, op := Go.Op.nilCheck (Go.Operand.tmp 56), type := 0, pos := "l09_documents.go:197", after := #[{ on := 0, ground := Go.Ground.data }, { on := 0, ground := Go.Ground.phase }, { on := 1, ground := Go.Ground.phase }, { on := 2, ground := Go.Ground.phase }, { on := 3, ground := Go.Ground.phase }, { on := 4, ground := Go.Ground.phase }, { on := 5, ground := Go.Ground.phase }, { on := 6, ground := Go.Ground.phase }, { on := 7, ground := Go.Ground.phase }, { on := 8, ground := Go.Ground.phase }, { on := 9, ground := Go.Ground.phase }, { on := 10, ground := Go.Ground.phase }, { on := 11, ground := Go.Ground.phase }, { on := 12, ground := Go.Ground.phase }, { on := 13, ground := Go.Ground.phase }, { on := 14, ground := Go.Ground.phase }, { on := 15, ground := Go.Ground.phase }], guard := none }) (v := ?v14) rfl (by kernel_rfl) (by kernel_rfl) (by kernel_rfl) (fun _ _ _ h => h) (Or.inl ⟨by rfl, ?h14⟩) hHeld ?r14
            case h14 => (intro w hSw; (try dsimp only at hSw); go_simp; try with_reducible rfl)
            try simp only [Act.put, List.setIfInBounds_toArray, List.set_cons_zero, List.set_cons_succ]
            refine wpAnyH_take (i := 17) (oi := { dst := some 73, op := Go.Op.fieldAddr 73 (Go.Operand.tmp 72) 2, type := 0, pos := "l09_documents.go:197", after := #[{ on := 16, ground := Go.Ground.data }, { on := 0, ground := Go.Ground.phase }, { on := 1, ground := Go.Ground.phase }, { on := 2, ground := Go.Ground.phase }, { on := 3, ground := Go.Ground.phase }, { on := 4, ground := Go.Ground.phase }, { on := 5, ground := Go.Ground.phase }, { on := 6, ground := Go.Ground.phase }, { on := 7, ground := Go.Ground.phase }, { on := 8, ground := Go.Ground.phase }, { on := 9, ground := Go.Ground.phase }, { on := 10, ground := Go.Ground.phase }, { on := 11, ground := Go.Ground.phase }, { on := 12, ground := Go.Ground.phase }, { on := 13, ground := Go.Ground.phase }, { on := 14, ground := Go.Ground.phase }, { on := 15, ground := Go.Ground.phase }], guard := none }) (v := ?v15) rfl (by kernel_rfl) (by kernel_rfl) (by kernel_rfl) (fun _ _ _ h => h) (Or.inl ⟨by rfl, ?h15⟩) hHeld ?r15
            case h15 => (intro w hSw; (try dsimp only at hSw); go_simp; try with_reducible rfl)
            try simp only [Act.put, List.setIfInBounds_toArray, List.set_cons_zero, List.set_cons_succ]
            refine wpAnyH_take (i := 18) (oi := { dst := some 74, op := Go.Op.fieldAddr 27 (Go.Operand.tmp 73) 0, type := 0, pos := "l09_documents.go:197", after := #[{ on := 17, ground := Go.Ground.data }, { on := 0, ground := Go.Ground.phase }, { on := 1, ground := Go.Ground.phase }, { on := 2, ground := Go.Ground.phase }, { on := 3, ground := Go.Ground.phase }, { on := 4, ground := Go.Ground.phase }, { on := 5, ground := Go.Ground.phase }, { on := 6, ground := Go.Ground.phase }, { on := 7, ground := Go.Ground.phase }, { on := 8, ground := Go.Ground.phase }, { on := 9, ground := Go.Ground.phase }, { on := 10, ground := Go.Ground.phase }, { on := 11, ground := Go.Ground.phase }, { on := 12, ground := Go.Ground.phase }, { on := 13, ground := Go.Ground.phase }, { on := 14, ground := Go.Ground.phase }, { on := 15, ground := Go.Ground.phase }], guard := none }) (v := ?v16) rfl (by kernel_rfl) (by kernel_rfl) (by kernel_rfl) (fun _ _ _ h => h) (Or.inl ⟨by rfl, ?h16⟩) hHeld ?r16
            case h16 => (intro w hSw; (try dsimp only at hSw); go_simp; try with_reducible rfl)
            try simp only [Act.put, List.setIfInBounds_toArray, List.set_cons_zero, List.set_cons_succ]
            refine wpAnyH_ready (rs := [19]) (by kernel_rfl) (by simp) ?_
            refine AllReadyH.cons (o := { dst := none, op := Go.Op.store 24 (Go.Operand.tmp 74) (Go.Operand.tmp 71), type := 0, pos := "l09_documents.go:197", after := #[{ on := 18, ground := Go.Ground.data }, { on := 15, ground := Go.Ground.data }, { on := 15, ground := Go.Ground.chain }, { on := 0, ground := Go.Ground.phase }, { on := 1, ground := Go.Ground.phase }, { on := 2, ground := Go.Ground.phase }, { on := 3, ground := Go.Ground.phase }, { on := 4, ground := Go.Ground.phase }, { on := 5, ground := Go.Ground.phase }, { on := 6, ground := Go.Ground.phase }, { on := 7, ground := Go.Ground.phase }, { on := 8, ground := Go.Ground.phase }, { on := 9, ground := Go.Ground.phase }, { on := 10, ground := Go.Ground.phase }, { on := 11, ground := Go.Ground.phase }, { on := 12, ground := Go.Ground.phase }, { on := 13, ground := Go.Ground.phase }, { on := 14, ground := Go.Ground.phase }, { on := 15, ground := Go.Ground.phase }], guard := none }) rfl (fun K hK => ?_) AllReadyH.nil
            go_simp
            clear hHeld
            refine hK.out _ _ (HST.out _ _ hS7) (fun hHeld => ?_)
            clear hK K
            try simp only [Act.put, List.setIfInBounds_toArray, List.set_cons_zero, List.set_cons_succ]
            refine wpAnyH_done (by kernel_rfl) ?_ _
            go_wp2_with fail
            go_ret
            exact HE7.out
          · go_simp
            clear hHeld
            refine hK.out _ _ hS2 (fun hHeld => ?_)
            clear hK K
            try simp only [Act.put, List.setIfInBounds_toArray, List.set_cons_zero, List.set_cons_succ]
            refine wpAnyH_ready (rs := [5]) (by kernel_rfl) (by simp) ?_
            refine AllReadyH.cons (o := { dst := some 61, op := Go.Op.load 24 (Go.Operand.tmp 60), type := 24, pos := "l09_documents.go:197", after := #[{ on := 4, ground := Go.Ground.data }], guard := none }) rfl (fun K hK => ?_) AllReadyH.nil
            go_simp
            clear hHeld
            refine hK.out _ _ hS2 (fun hHeld => ?_)
            clear hK K
            try simp only [Act.put, List.setIfInBounds_toArray, List.set_cons_zero, List.set_cons_succ]
            refine wpAnyH_ready (rs := [15]) (by kernel_rfl) (by simp) ?_
            refine AllReadyH.cons (o := { dst := some 71, op := Go.Op.call { callee := Go.Callee.builtin Go.Builtin.append, args := #[Go.Operand.tmp 61, Go.Operand.tmp 70], argTypes := #[24, 24] }, type := 24, pos := "l09_documents.go:197", after := #[{ on := 5, ground := Go.Ground.data }, { on := 14, ground := Go.Ground.data }], guard := none }) rfl (fun K hK => ?_) AllReadyH.nil
            (refine step_append_lies _ rfl (.tmp 61) (.tmp 70) 24 rfl B 34 i8 _ 4 64 Try.underlying24 hi8 hy0 hy1 hy2 rfl (by decide) _ PK.1.length (nc PK.1 kv PK.1.length) (by simp [Act.eval, Act.put]) HO3.out ⟨wc.heap.size, 0, none⟩ 1 1 [.string n, .string x, .bool l, .slice va k.length vp] (by simp [Act.eval, Act.put]) rfl HNEW.out (by intro y hy; simp at hy; rcases hy with rfl | rfl | rfl | rfl <;> rfl) (by decide) (by unfold maxLen; omega) (by omega) HZ3.out _ rfl ?_; intro g7 cap7 w7 hown7 hgr7 hat7 hlt7; obtain ⟨hS7, n7, f7, HE7⟩ := HAP.out g7 cap7 w7 hown7 hgr7 hat7; clear hown7 hgr7 hat7 hlt7)
            clear hHeld
            refine hK.out _ _ hS7 (fun hHeld => ?_)
            clear hK K
            try simp only [Act.put, List.setIfInBounds_toArray, List.set_cons_zero, List.set_cons_succ]
            refine wpAnyH_take (i := 16) (oi := { dst := some 72, op := Go.Op.nilCheck (Go.Operand.tmp 56), type := 0, pos := "l09_documents.go:197", after := #[{ on := 0, ground := Go.Ground.data }, { on := 0, ground := Go.Ground.phase }, { on := 1, ground := Go.Ground.phase }, { on := 2, ground := Go.Ground.phase }, { on := 3, ground := Go.Ground.phase }, { on := 4, ground := Go.Ground.phase }, { on := 5, ground := Go.Ground.phase }, { on := 6, ground := Go.Ground.phase }, { on := 7, ground := Go.Ground.phase }, { on := 8, ground := Go.Ground.phase }, { on := 9, ground := Go.Ground.phase }, { on := 10, ground := Go.Ground.phase }, { on := 11, ground := Go.Ground.phase }, { on := 12, ground := Go.Ground.phase }, { on := 13, ground := Go.Ground.phase }, { on := 14, ground := Go.Ground.phase }, { on := 15, ground := Go.Ground.phase }], guard := none }) (v := ?v17) rfl (by kernel_rfl) (by kernel_rfl) (by kernel_rfl) (fun _ _ _ h => h) (Or.inl ⟨by rfl, ?h17⟩) hHeld ?r17
            case h17 => (intro w hSw; (try dsimp only at hSw); go_simp; try with_reducible rfl)
            try simp only [Act.put, List.setIfInBounds_toArray, List.set_cons_zero, List.set_cons_succ]
            refine wpAnyH_take (i := 17) (oi := { dst := some 73, op := Go.Op.fieldAddr 73 (Go.Operand.tmp 72) 2, type := 0, pos := "l09_documents.go:197", after := #[{ on := 16, ground := Go.Ground.data }, { on := 0, ground := Go.Ground.phase }, { on := 1, ground := Go.Ground.phase }, { on := 2, ground := Go.Ground.phase }, { on := 3, ground := Go.Ground.phase }, { on := 4, ground := Go.Ground.phase }, { on := 5, ground := Go.Ground.phase }, { on := 6, ground := Go.Ground.phase }, { on := 7, ground := Go.Ground.phase }, { on := 8, ground := Go.Ground.phase }, { on := 9, ground := Go.Ground.phase }, { on := 10, ground := Go.Ground.phase }, { on := 11, ground := Go.Ground.phase }, { on := 12, ground := Go.Ground.phase }, { on := 13, ground := Go.Ground.phase }, { on := 14, ground := Go.Ground.phase }, { on := 15, ground := Go.Ground.phase }], guard := none }) (v := ?v18) rfl (by kernel_rfl) (by kernel_rfl) (by kernel_rfl) (fun _ _ _ h => h) (Or.inl ⟨by rfl, ?h18⟩) hHeld ?r18
            case h18 => (intro w hSw; (try dsimp only at hSw); go_simp; try with_reducible rfl)
            try simp only [Act.put, List.setIfInBounds_toArray, List.set_cons_zero, List.set_cons_succ]
            refine wpAnyH_take (i := 18) (oi := { dst := some 74, op := Go.Op.fieldAddr 27 (Go.Operand.tmp 73) 0, type := 0, pos := "l09_documents.go:197", after := #[{ on := 17, ground := Go.Ground.data }, { on := 0, ground := Go.Ground.phase }, { on := 1, ground := Go.Ground.phase }, { on := 2, ground := Go.Ground.phase }, { on := 3, ground := Go.Ground.phase }, { on := 4, ground := Go.Ground.phase }, { on := 5, ground := Go.Ground.phase }, { on := 6, ground := Go.Ground.phase }, { on := 7, ground := Go.Ground.phase }, { on := 8, ground := Go.Ground.phase }, { on := 9, ground := Go.Ground.phase }, { on := 10, ground := Go.Ground.phase }, { on := 11, ground := Go.Ground.phase }, { on := 12, ground := Go.Ground.phase }, { on := 13, ground := Go.Ground.phase }, { on := 14, ground := Go.Ground.phase }, { on := 15, ground := Go.Ground.phase }], guard := none }) (v := ?v19) rfl (by kernel_rfl) (by kernel_rfl) (by kernel_rfl) (fun _ _ _ h => h) (Or.inl ⟨by rfl, ?h19⟩) hHeld ?r19
            case h19 => (intro w hSw; (try dsimp only at hSw); go_simp; try with_reducible rfl)
            try simp only [Act.put, List.setIfInBounds_toArray, List.set_cons_zero, List.set_cons_succ]
            refine wpAnyH_ready (rs := [19]) (by kernel_rfl) (by simp) ?_
            refine AllReadyH.cons (o := { dst := none, op := Go.Op.store 24 (Go.Operand.tmp 74) (Go.Operand.tmp 71), type := 0, pos := "l09_documents.go:197", after := #[{ on := 18, ground := Go.Ground.data }, { on := 15, ground := Go.Ground.data }, { on := 15, ground := Go.Ground.chain }, { on := 0, ground := Go.Ground.phase }, { on := 1, ground := Go.Ground.phase }, { on := 2, ground := Go.Ground.phase }, { on := 3, ground := Go.Ground.phase }, { on := 4, ground := Go.Ground.phase }, { on := 5, ground := Go.Ground.phase }, { on := 6, ground := Go.Ground.phase }, { on := 7, ground := Go.Ground.phase }, { on := 8, ground := Go.Ground.phase }, { on := 9, ground := Go.Ground.phase }, { on := 10, ground := Go.Ground.phase }, { on := 11, ground := Go.Ground.phase }, { on := 12, ground := Go.Ground.phase }, { on := 13, ground := Go.Ground.phase }, { on := 14, ground := Go.Ground.phase }, { on := 15, ground := Go.Ground.phase }], guard := none }) rfl (fun K hK => ?_) AllReadyH.nil
            go_simp
            clear hHeld
            refine hK.out _ _ (HST.out _ _ hS7) (fun hHeld => ?_)
            clear hK K
            try simp only [Act.put, List.setIfInBounds_toArray, List.set_cons_zero, List.set_cons_succ]
            refine wpAnyH_done (by kernel_rfl) ?_ _
            go_wp2_with fail
            go_ret
            exact HE7.out
end Go.Proofs.Ytofobmdljelmgaa
