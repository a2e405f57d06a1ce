import Derived.Test.YtilahbfcobhjeaaTu
/-! Programs that are made tighter: staying, walked. -/
namespace Go.Proofs.Ytilahbfcobhjeaa
open Go.RowKit Go.Deep Go.Shelf
set_option linter.unusedVariables false
set_option maxRecDepth 100000
set_option linter.unusedSimpArgs false
attribute [local go_sem] Oper.semAt_some

set_option maxHeartbeats 12800000 in
theorem stay71 (L : List DIns) (b cap : Nat) (w : World) (hx : XC w b cap L) (h1 : 1 ≤ L.length) (hl : L.length ≤ 50000) (hop : ∀ i (hi : i < L.length), 1 ≤ L[i].op ∧ L[i].op ≤ 10)
    (hto : ∀ i (hi : i < L.length), htB L[i].op = true → 0 ≤ L[i].to_ ∧ L[i].to_ < L.length) (hgs : ∀ i (hi : i < L.length), gsB L[i].op = true → i + 1 < L.length) :
    Calls Try.prog 71 #[.slice (some ⟨b, 0, none⟩) L.length cap] w (StyA L w) := by
  have HC0 : Hid (∀ wq, Below w.heap.size w wq → Calls Try.prog 105 #[.slice (some ⟨b, 0, none⟩) L.length cap] wq (CoA L wq)) := fun wq hb => come105 L _ wq ((hx.xr.still hb).ins hx.1 hx.2.1) h1 hl hop hto hgs
  have hbw : b < w.heap.size := hx.lt
  have hcl := hx.1
  have hcm := hx.2.1
  have HX := (show Hid (XR w b L) from hx.xr)
  have hz := zr65
  have HR := (show Hid _ from rows36 w)
  have HC1 := (show Hid _ from HC0.out (w.alloc (.cells tbA 65)) (bel_alloc _ _))
  have HOP := (show Hid _ from hop)
  have HTO := (show Hid _ from hto)
  have HCM := (show Hid _ from hcm)
  unfold CoA at HC1
  unfold maxLen at hcm
  clear HC0 hx hop hto hgs
  refine (callsIn_wide (n := 5)).1 ?_
  refine callsIn_of_wp_marks Try.func71 rfl trivial ?_ rfl
  simp only [Try.ntmps71, List.size_toArray, List.length_cons, List.length_nil, Nat.reduceAdd, Nat.reduceSub, Array.replicate_succ, Array.replicate_zero, List.push_toArray, List.append_toArray, List.nil_append, List.cons_append]
  refine wpIn_wide.2 ?_
  go_wp2_with fail
  refine Calls.mono HR.out ?_
  rintro e w1 ⟨rfl, hw1⟩
  rw [hw1]
  clear hw1 w1 HR
  go_wp2_with fail
  refine Calls.mono HC1.out ?_
  rintro e w1 ⟨bs, gB, rfl, hb1, hbr, hls, hgb⟩
  have hst := sto65h w1 (.cells #[.slice none 0 0] 108)
  have HB1 := (show Hid (Below w.heap.size w w1) from bel_trans (bel_alloc _ _) hb1)
  have HBR := (show Hid (BR w1 gB bs) from hbr)
  have HLS := (show Hid _ from hls)
  have hgB : gB < w1.heap.size := hbr.lt
  have hgBw : w.heap.size < gB := by simp at hgb; omega
  clear hb1 hbr hls HC1 hgb
  go_wp2_with fail
  refine Calls.mono (back106 _ _ _ _) ?_
  rintro e w2 ⟨rfl, hw2⟩
  rw [hw2]
  clear hw2 w2 hst hz
  have H3 : Hid (Below w.heap.size w ((((w1.alloc (.cells tbA 65)).alloc (.cells #[.slice (some ⟨gB, 0, none⟩) L.length L.length] 108)).alloc (.cells #[.int .i64 (L.length : Int)] 3)).alloc (.cells #[.slice (some ⟨b, 0, none⟩) L.length cap] 25)) ∧ TbL ((((w1.alloc (.cells tbA 65)).alloc (.cells #[.slice (some ⟨gB, 0, none⟩) L.length L.length] 108)).alloc (.cells #[.int .i64 (L.length : Int)] 3)).alloc (.cells #[.slice (some ⟨b, 0, none⟩) L.length cap] 25)) w1.heap.size ∧ Box ((((w1.alloc (.cells tbA 65)).alloc (.cells #[.slice (some ⟨gB, 0, none⟩) L.length L.length] 108)).alloc (.cells #[.int .i64 (L.length : Int)] 3)).alloc (.cells #[.slice (some ⟨b, 0, none⟩) L.length cap] 25)) (w1.heap.size + 1) 108 [.slice (some ⟨gB, 0, none⟩) L.length L.length] ∧ Box ((((w1.alloc (.cells tbA 65)).alloc (.cells #[.slice (some ⟨gB, 0, none⟩) L.length L.length] 108)).alloc (.cells #[.int .i64 (L.length : Int)] 3)).alloc (.cells #[.slice (some ⟨b, 0, none⟩) L.length cap] 25)) (w1.heap.size + 1 + 1) 3 [.int .i64 (L.length : Int)] ∧ Box ((((w1.alloc (.cells tbA 65)).alloc (.cells #[.slice (some ⟨gB, 0, none⟩) L.length L.length] 108)).alloc (.cells #[.int .i64 (L.length : Int)] 3)).alloc (.cells #[.slice (some ⟨b, 0, none⟩) L.length cap] 25)) (w1.heap.size + 1 + 1 + 1) 25 [.slice (some ⟨b, 0, none⟩) L.length cap] ∧ BR ((((w1.alloc (.cells tbA 65)).alloc (.cells #[.slice (some ⟨gB, 0, none⟩) L.length L.length] 108)).alloc (.cells #[.int .i64 (L.length : Int)] 3)).alloc (.cells #[.slice (some ⟨b, 0, none⟩) L.length cap] 25)) gB bs ∧ XR ((((w1.alloc (.cells tbA 65)).alloc (.cells #[.slice (some ⟨gB, 0, none⟩) L.length L.length] 108)).alloc (.cells #[.int .i64 (L.length : Int)] 3)).alloc (.cells #[.slice (some ⟨b, 0, none⟩) L.length cap] 25)) b L ∧ ((((w1.alloc (.cells tbA 65)).alloc (.cells #[.slice (some ⟨gB, 0, none⟩) L.length L.length] 108)).alloc (.cells #[.int .i64 (L.length : Int)] 3)).alloc (.cells #[.slice (some ⟨b, 0, none⟩) L.length cap] 25)).heap.size = w1.heap.size + 1 + 1 + 1 + 1) := by
    have sA : (w1.alloc (.cells tbA 65)).heap.size = w1.heap.size + 1 := by simp
    have sB : ((w1.alloc (.cells tbA 65)).alloc (.cells #[.slice (some ⟨gB, 0, none⟩) L.length L.length] 108)).heap.size = w1.heap.size + 1 + 1 := by simp
    have sC : (((w1.alloc (.cells tbA 65)).alloc (.cells #[.slice (some ⟨gB, 0, none⟩) L.length L.length] 108)).alloc (.cells #[.int .i64 (L.length : Int)] 3)).heap.size = w1.heap.size + 1 + 1 + 1 := by simp
    have b1 := Box.new (w1.alloc (.cells tbA 65)) 108 [.slice (some ⟨gB, 0, none⟩) L.length L.length]
    have b2 := Box.new ((w1.alloc (.cells tbA 65)).alloc (.cells #[.slice (some ⟨gB, 0, none⟩) L.length L.length] 108)) 3 [.int .i64 (L.length : Int)]
    have b3 := Box.new (((w1.alloc (.cells tbA 65)).alloc (.cells #[.slice (some ⟨gB, 0, none⟩) L.length L.length] 108)).alloc (.cells #[.int .i64 (L.length : Int)] 3)) 25 [.slice (some ⟨b, 0, none⟩) L.length cap]
    rw [sA] at b1
    rw [sB] at b2
    rw [sC] at b3
    have hb4 : Below w1.heap.size w1 ((((w1.alloc (.cells tbA 65)).alloc (.cells #[.slice (some ⟨gB, 0, none⟩) L.length L.length] 108)).alloc (.cells #[.int .i64 (L.length : Int)] 3)).alloc (.cells #[.slice (some ⟨b, 0, none⟩) L.length cap] 25)) := (((bel_alloc w1 _).alloc (by simp) _).alloc (by simp; omega) _).alloc (by simp; omega) _
    have hb5 := bel_trans HB1.out hb4
    exact ⟨hb5, (((TbL.new w1).still (bel_alloc _ _)).still (bel_alloc _ _)).still (bel_alloc _ _), (b1.still (bel_alloc _ _)).still (bel_alloc _ _), b2.still (bel_alloc _ _), b3, (show BR w1 gB bs from HBR.out).still hb4, (show XR w b L from HX.out).still hb5, by simp⟩
  rw [show (((w1.alloc (.cells tbA 65)).alloc (.cells #[.slice (some ⟨gB, 0, none⟩) L.length L.length] 108)).alloc (.cells #[.int .i64 (L.length : Int)] 3)).heap.size = w1.heap.size + 1 + 1 + 1 by simp]
  generalize hW3 : ((((w1.alloc (.cells tbA 65)).alloc (.cells #[.slice (some ⟨gB, 0, none⟩) L.length L.length] 108)).alloc (.cells #[.int .i64 (L.length : Int)] 3)).alloc (.cells #[.slice (some ⟨b, 0, none⟩) L.length cap] 25)) = w3 at *
  clear hW3
  have HSZ := (show Hid _ from HB1.out.size)
  generalize hgt : w1.heap.size = gt at *
  clear hgt
  have hbl : bs.length = L.length := HLS.out.cl.len
  have H0 := (show Hid (StI w3 L bs gB (gt + 1 + 1) [] w3) from ⟨rfl, rfl, rfl, Nat.le_refl _, fun _ _ _ _ => rfl, bs, L.length, H3.out.2.2.2.2.2.1, H3.out.2.2.2.1, hbl, Bw.start (by rw [notB_len]; exact hbl), fun j hj => rfl⟩)
  have HZ3 := (show Hid _ from H3.out.2.2.2.2.2.2.2)
  go_wp2_with fail
  refine (wpIn_wide (n := 5)).1 ?_
  refine wpIn_rangeD (α := Nat) rfl (by omega) (gf := 123) (lb := #[.pointer (some ⟨gt + 1 + 1 + 1, 0, none⟩)]) rfl trivial (enters_of Try.func123 (by kernel_rfl) rfl) (encs := bkE L) (fun _ => rfl) (TS gB (gt + 1 + 1)) (BkX L.length) (StI w3 L bs gB (gt + 1 + 1)) StI.bears ?hT H0.out (S := fun xs => xs = bkL L.length L.length) ?hseq ?hround ?hdone
  case hT =>
    intro s W q h ht
    have hz := HZ3.out
    rcases ht with rfl | rfl <;> omega
  case hseq =>
    intro J W hbW hsz hJI hJb hY hJ0
    have hz := HZ3.out
    have hx3 := H3.out.2.2.2.2.2.2.1.still hbW
    exact back123 (B0 := w3.heap.size + 2) (off := 0) (cap := cap) (bp := gt + 1 + 1 + 1) (b := b) L (TS gB (gt + 1 + 1)) J (fun s V q hj ht => by rcases ht with rfl | rfl <;> constructor <;> omega) (by omega) (by omega) (fun m pre x W1 hj hx => yield_any (hY pre x W1 hj hx)) _ W (fun i hi => by rw [Nat.zero_add]; exact hx3.cells hi) (H3.out.2.2.2.2.1.still hbW) hJ0 hl h1 hcl HCM.out
  case hround =>
    intro pre x W hi hx hsz
    have hpl := hx.1
    have hxl : x < L.length := by have := hx.2.1; omega
    have HXI := (show Hid (x = L.length - 1 - pre.length) from hx.2.1)
    clear hx
    have hz := HZ3.out
    simp only [bkE]
    rw [insAt_at hxl]
    gi_wp2
    refine ⟨bel_alloc _ _, fun o hIo => ?_⟩
    obtain ⟨Wb, hWb⟩ : ∃ Wb : World, (W.alloc (.cells #[.int .i64 L[x].op, .int .i64 L[x].n, .int .i64 L[x].to_] 57)).putObj (w3.heap.size + 1) o = Wb := ⟨_, rfl⟩
    rw [hWb] at hIo ⊢
    have xb : Box Wb W.heap.size 57 [.int .i64 L[x].op, .int .i64 L[x].n, .int .i64 L[x].to_] := by
      rw [← hWb]
      exact (Box.new W 57 _).keep (World.putObj_heap_other (by omega))
    have hWz : Wb.heap.size = W.heap.size + 1 := by rw [← hWb]; simp
    have hlow : ∀ q, q < w3.heap.size → q ≠ gB → q ≠ gt + 1 + 1 → Wb.heap[q]? = w3.heap[q]? := fun q e1 e2 e3 => hIo.block q e1 e2 e3
    have tbB : TbL Wb gt := H3.out.2.1.keep (hlow gt (by omega) (by omega) (by omega))
    have bsB : Box Wb (gt + 1) 108 [.slice (some ⟨gB, 0, none⟩) L.length L.length] := H3.out.2.2.1.keep (hlow (gt + 1) (by omega) (by omega) (by omega))
    obtain ⟨st, nx, b1, b2, b3, b4, b5⟩ := hIo.st
    have hnx := b4.nl
    have hxs : x < st.length := by omega
    have d0 : Wb.cell? ⟨W.heap.size, 0, none⟩ = some (.int .i64 L[x].op) := xb.cell 0 (by simp)
    have d2 : Wb.cell? ⟨W.heap.size, 2, none⟩ = some (.int .i64 L[x].to_) := xb.cell 2 (by simp)
    have e0 : Wb.cell? ⟨gt + 1, 0, none⟩ = some (.slice (some ⟨gB, 0, none⟩) L.length L.length) := bsB.cell 0 (by simp)
    have g0 : Wb.cell? ⟨gt + 1 + 1, 0, none⟩ = some (.int .i64 (nx : Int)) := b2.cell 0 (by simp)
    have gf := b2.frozen 0
    have s0 := b1.cell hxs
    have sf := b1.frozen x
    have hbx : st[x] = bs.getD x false := by have h := b5 x (by have := (show x = _ from HXI.out); omega); rw [getD_at hxs] at h; exact h
    obtain ⟨o1, o2⟩ := HOP.out x hxl
    have hto' := HTO.out x hxl
    have HNX := (show Hid (∀ (u : Bool) (W' : World), (u = true ↔ (bs.getD x false = true ∧ ¬ (htB L[x].op = true ∧ (x : Int) < L[x].to_ ∧ L[x].to_ ≤ nx))) → (W'.os = Wb.os ∧ W'.tape = Wb.tape ∧ W'.output = Wb.output ∧ W'.heap.size = Wb.heap.size ∧ ∀ q, q ≠ gB → q ≠ gt + 1 + 1 → W'.heap[q]? = Wb.heap[q]?) → BR W' gB (st.set x u) → Box W' (gt + 1 + 1) 3 [.int .i64 ((if u = true then x else nx : Nat) : Int)] → StI w3 L bs gB (gt + 1 + 1) (pre ++ [x]) W' ∧ Fy (TS gB (gt + 1 + 1)) (w3.heap.size + 1) Wb W' ∧ W'.heap[w3.heap.size + 1]? = Wb.heap[w3.heap.size + 1]?) from fun u W' hu hW hB hh => ⟨hIo.next hbl hpl HXI.out b3 b4 b5 (fun h => by rw [insAt_at hxl] at h ⊢; have := (hto' h).2; omega) (by rw [insAt_at hxl]; exact hu) hW hB hh, ⟨hW.1, hW.2.1, hW.2.2.1, Nat.le_of_eq hW.2.2.2.1.symm, fun q h1 h2 h3 => hW.2.2.2.2 q (fun e => h3 (.inl e)) (fun e => h3 (.inr e)), fun q hq => .inl hq⟩, hW.2.2.2.2 _ (by omega) (by omega)⟩)
    have HB1' := (show Hid (BR Wb gB st) from b1)
    have HBS := (show Hid (Box Wb (gt + 1) 108 [.slice (some ⟨gB, 0, none⟩) L.length L.length]) from bsB)
    have HNG' := (show Hid (gt + 1 ≠ gB) from (by show _ ≠ _; omega))
    have HB2' := (show Hid (Box Wb (gt + 1 + 1) 3 [.int .i64 (nx : Int)]) from b2)
    obtain ⟨o, ho⟩ : ∃ o : Nat, L[x].op = o := ⟨L[x].op.toNat, by omega⟩
    rw [ho] at d0 hto' HNX
    have ho10 : o ≤ 10 := by omega
    have ho' : ((o : Nat) : Int) ≤ 10 := by omega
    obtain ⟨_, _, r2, _, _⟩ := tbB.row o ho10
    have HNG := (show Hid (gB ≠ gt + 1 + 1) from (by show _ ≠ _; omega))
    have HSX := (show Hid (st.set x (bs.getD x false) = st) from by show _ = _; rw [← hbx]; exact List.set_getElem_self _)
    rw [hbx] at s0
    clear xb hWb hIo hi b1 b2 b3 b4 b5 tbB bsB o1 o2 ho hlow hbx
    generalize L[x].to_ = xt at *
    generalize htB (o : Int) = A at *
    generalize bs.getD x false = Bx at *
    have HEND := (show Hid (∀ (u : Bool) (W' : World) (a' : Act), (u = true ↔ (Bx = true ∧ ¬ (A = true ∧ (x : Int) < xt ∧ xt ≤ nx))) → (W'.os = Wb.os ∧ W'.tape = Wb.tape ∧ W'.output = Wb.output ∧ W'.heap.size = Wb.heap.size ∧ ∀ q, q ≠ gB → q ≠ gt + 1 + 1 → W'.heap[q]? = Wb.heap[q]?) → BR W' gB (st.set x u) → Box W' (gt + 1 + 1) 3 [.int .i64 ((if u = true then x else nx : Nat) : Int)] → rgPostD (TS gB (gt + 1 + 1)) (w3.heap.size + 1) (StI w3 L bs gB (gt + 1 + 1)) (pre ++ [x]) Wb .normal a' W') from fun u W' a' e1 e2 e3 e4 => ⟨(HNX.out u W' e1 e2 e3 e4).2, (HNX.out u W' e1 e2 e3 e4).1⟩)
    have HLV := (show Hid ((A = true ∧ (x : Int) < xt ∧ xt ≤ nx) → ∀ a', rgPostD (TS gB (gt + 1 + 1)) (w3.heap.size + 1) (StI w3 L bs gB (gt + 1 + 1)) (pre ++ [x]) Wb .normal a' (Wb.setCell ⟨gB, x, none⟩ (.bool false))) from fun h a' => HEND.out false _ a' ⟨fun e => (by cases e), fun e => absurd h e.2⟩ ⟨rfl, rfl, rfl, by simp, fun q h1 h2 => blk_setCell_other _ _ _ _ h1⟩ (HB1'.out.set x false) (by simpa using HB2'.out.keep (blk_setCell_other _ _ _ _ (fun e => HNG.out e.symm))))
    have HSTY := (show Hid (¬ (A = true ∧ (x : Int) < xt ∧ xt ≤ nx) → Bx = true → ∀ a', rgPostD (TS gB (gt + 1 + 1)) (w3.heap.size + 1) (StI w3 L bs gB (gt + 1 + 1)) (pre ++ [x]) Wb .normal a' (Wb.setCell ⟨gt + 1 + 1, 0, none⟩ (.int .i64 (x : Int)))) from fun h hb a' => HEND.out true _ a' ⟨fun _ => ⟨hb, h⟩, fun _ => rfl⟩ ⟨rfl, rfl, rfl, by simp, fun q h1 h2 => blk_setCell_other _ _ _ _ h2⟩ (by rw [← hb, HSX.out]; exact HB1'.out.keep (blk_setCell_other _ _ _ _ HNG.out)) (by simpa using HB2'.out.set 0 (.int .i64 (x : Int))))
    have HNOT := (show Hid (Bx = false → ∀ a', rgPostD (TS gB (gt + 1 + 1)) (w3.heap.size + 1) (StI w3 L bs gB (gt + 1 + 1)) (pre ++ [x]) Wb .normal a' Wb) from fun hb a' => HEND.out false _ a' ⟨fun e => (by cases e), fun e => absurd e.1 (by rw [hb]; simp)⟩ ⟨rfl, rfl, rfl, rfl, fun _ _ _ => rfl⟩ (by rw [← hb, HSX.out]; exact HB1'.out) (by simpa using HB2'.out))
    have y0 : (Wb.setCell ⟨gB, x, none⟩ (.bool false)).cell? ⟨gt + 1, 0, none⟩ = some (.slice (some ⟨gB, 0, none⟩) L.length L.length) := (HBS.out.keep (blk_setCell_other _ _ _ _ HNG'.out)).cell 0 (by simp)
    have y1 : (Wb.setCell ⟨gB, x, none⟩ (.bool false)).cell? ⟨gB, x, none⟩ = some (.bool false) := by
      have := (HB1'.out.set x false).cell (i := x) (by simpa using hxs)
      simpa using this
    clear HEND HNX HB1' HB2' HBS HNG' HSX HXI hxs hz
    cases A
    case false =>
      cases Bx
      case false =>
        have HE := (show Hid _ from HNOT.out rfl)
        clear HNOT HSTY HLV y0 y1
        gi_wp2
        exact HE.out _
      case true =>
        have HE := (show Hid _ from HSTY.out (by simp) rfl)
        clear HNOT HSTY HLV y0 y1
        gi_wp2
        exact HE.out _
    case true =>
      by_cases h1 : (x : Int) < xt
      case neg =>
        cases Bx
        case false =>
          have HE := (show Hid _ from HNOT.out rfl)
          clear HNOT HSTY HLV y0 y1
          gi_wp2
          exact HE.out _
        case true =>
          have HE := (show Hid _ from HSTY.out (fun h => h1 h.2.1) rfl)
          clear HNOT HSTY HLV y0 y1
          gi_wp2
          exact HE.out _
      by_cases h2 : xt ≤ nx
      case neg =>
        cases Bx
        case false =>
          have HE := (show Hid _ from HNOT.out rfl)
          clear HNOT HSTY HLV y0 y1
          gi_wp2
          exact HE.out _
        case true =>
          have HE := (show Hid _ from HSTY.out (fun h => h2 h.2.2) rfl)
          clear HNOT HSTY HLV y0 y1
          gi_wp2
          exact HE.out _
      have HE := (show Hid _ from HLV.out ⟨rfl, h1, h2⟩)
      clear HNOT HSTY HLV
      gi_wp2
      exact HE.out _
  case hdone =>
    rintro xs W hS hI hD
    have hz := HZ3.out
    have hsw := HSZ.out
    obtain ⟨st, nx, b1, b2, b3, b4, b5⟩ := hI.st
    have hxl : xs.length = L.length := by rw [hS, bkL_len]
    rw [hxl, Nat.sub_self] at b4
    have V0 : W.cell? ⟨gt + 1, 0, none⟩ = some (.slice (some ⟨gB, 0, none⟩) L.length L.length) := (H3.out.2.2.1.keep (hI.block (gt + 1) (by omega) (by omega) (by omega))).cell 0 (by simp)
    have HFIN := (show Hid (StyA L w (.returned (.slice (some ⟨gB, 0, none⟩) L.length L.length)) (W.putObj w3.heap.size (.deferred none))) from (by
      have hb : Below w.heap.size w W := ⟨hI.os.trans H3.out.1.os, hI.tape.trans H3.out.1.tape, hI.output.trans H3.out.1.output, Nat.le_trans H3.out.1.size hI.size, fun q hq => (hI.block q (by omega) (by omega) (by omega)).trans (H3.out.1.block q hq)⟩
      exact ⟨gB, st, bs, rfl, hb.grown (grownBy_putObj' _ _ _) hb.size (fun k e => by cases e; omega), b1.keep (World.putObj_heap_other (by omega)), b3, HLS.out, b4.done⟩))
    clear b1 b2 b3 b4 b5 hI hS hxl H3 H0 HLS HBR HX HB1
    go_wp2_with fail
    refine ⟨by simp, .inl ⟨_, _, rfl, run_takeDeferred hD, ?_⟩⟩
    exact ⟨.slice (some ⟨gB, 0, none⟩) L.length L.length, by simp [results, Try.results71, go_sem], HFIN.out⟩
end Go.Proofs.Ytilahbfcobhjeaa
