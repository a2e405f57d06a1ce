import Derived.Test.YtilahbfcobhjeaaTi
import Derived.Test.YtilahbfcobhjeaaPf
/-! Programs that are made tighter: comeTo of the program. -/
namespace Go.Proofs.Ytilahbfcobhjeaa
open Go.RowKit Go.Deep
set_option linter.unusedVariables false
set_option maxRecDepth 100000
set_option linter.unusedSimpArgs false

/-- How many wait, read off the box. -/
def slW (w : World) (q : Nat) : Nat := match w.cell? ⟨q, 0, none⟩ with | some (.slice _ n _) => n | _ => 0
theorem Sk.slW {w : World} {q A : Nat} {v : Value} {T : List Nat} (h : Sk w q A v T) : slW w q = T.length := by
  obtain ⟨a, c, rfl, _⟩ := h.form
  have k5 : w.cell? ⟨q, 0, none⟩ = some (.slice a T.length c) := h.box.cell 0 (by simp)
  unfold Go.Proofs.Ytilahbfcobhjeaa.slW
  rw [k5]
theorem trL_le (lv : List Bool) : trL lv ≤ lv.length := by
  unfold trL
  induction lv with
  | nil => simp
  | cons b lv ih =>
    simp only [List.map_cons, List.sum_cons, List.length_cons]
    split <;> omega
theorem trL_put {lv : List Bool} {k : Nat} (h : k < lv.length) (ht : lv[k] = false) : trL (lv.set k true) = trL lv + 1 := by
  induction lv generalizing k with
  | nil => cases h
  | cons b lv ih =>
    cases k with
    | zero =>
      simp only [List.getElem_cons_zero] at ht
      subst ht
      simp [trL]
      omega
    | succ k =>
      have := ih (k := k) (by simpa using h) (by simpa using ht)
      simp only [trL, List.set_cons_succ, List.map_cons, List.sum_cons] at this ⊢
      omega
theorem rwN_one (k : Nat) : (rwN k).oneCell' = true := by unfold rwN; split <;> (try split) <;> rfl
theorem rwD_one (k : Nat) (h : k ≤ 10) : (rwD k).oneCell' = true := by
  have hk : k = 0 ∨ k = 1 ∨ k = 2 ∨ k = 3 ∨ k = 4 ∨ k = 5 ∨ k = 6 ∨ k = 7 ∨ k = 8 ∨ k = 9 ∨ k = 10 := by omega
  rcases hk with rfl | rfl | rfl | rfl | rfl | rfl | rfl | rfl | rfl | rfl | rfl <;> rfl
/-- What stands while places wait: the rows of all Ops, the places that have been, the pile. -/
structure CT (w : World) (L : List DIns) (b off gt gB q A : Nat) (v : Value) (bs : List Bool) (T : List Nat) (wr : World) : Prop where
  bel : Below w.heap.size w wr
  tb : TbL wr gt
  been : BR wr gB bs
  sk : Sk wr q A v T
  ins : ∀ i (hi : i < L.length), wr.cell? ⟨b, off + i * 3, none⟩ = some (.int .i64 L[i].op) ∧ wr.cell? ⟨b, off + i * 3 + 2, none⟩ = some (.int .i64 L[i].to_)
  hb : b < w.heap.size
  num : w.heap.size ≤ gt ∧ gt < gB ∧ gB < A ∧ A < q
section
variable {w : World} {L : List DIns} {b off gt gB q A : Nat} {v v' : Value} {bs : List Bool} {T T' : List Nat} {wr w' : World}
theorem CT.kp (h : CT w L b off gt gB q A v bs T wr) (hk : Kp q A wr w') (hs : Sk w' q A v' T') : CT w L b off gt gB q A v' bs T' w' := by
  obtain ⟨n1, n2, n3, n4⟩ := h.num
  have hbl := h.hb
  have hbel : Below w.heap.size wr w' := hk.bel (by omega) (by omega)
  exact ⟨h.bel.trans hbel, h.tb.keep (hk.block gt (by omega) (by omega)), h.been.keep (hk.block gB (by omega) (by omega)), hs,
    fun i hi => ⟨(hbel.cell (by exact hbl)).trans (h.ins i hi).1, (hbel.cell (by exact hbl)).trans (h.ins i hi).2⟩, h.hb, h.num⟩
theorem CT.still (h : CT w L b off gt gB q A v bs T wr) (hb : Below wr.heap.size wr w') : CT w L b off gt gB q A v bs T w' :=
  h.kp (Kp.of_bel hb h.sk.hA) (h.sk.still hb)
theorem CT.see (h : CT w L b off gt gB q A v bs T wr) (k : Nat) : CT w L b off gt gB q A v (bs.set k true) T (wr.setCell ⟨gB, k, none⟩ (.bool true)) := by
  obtain ⟨n1, n2, n3, n4⟩ := h.num
  have hbl := h.hb
  have hbel : Below w.heap.size wr (wr.setCell ⟨gB, k, none⟩ (.bool true)) := (Below.refl _ _).setCell (by show _ ≤ gB; omega) _
  refine ⟨h.bel.trans hbel, h.tb.keep (blk_setCell_other _ _ _ _ (by show gt ≠ gB; omega)), h.been.set k true, ?_, fun i hi => ⟨(hbel.cell (by exact hbl)).trans (h.ins i hi).1, (hbel.cell (by exact hbl)).trans (h.ins i hi).2⟩, h.hb, h.num⟩
  exact ⟨h.sk.box.keep (blk_setCell_other _ _ _ _ (by show q ≠ gB; omega)), own_keep h.sk.row (fun c hc => blk_setCell_other _ _ _ _ (by show c ≠ gB; have := (own_lt h.sk.row hc).1; omega)), by have := h.sk.hA; simp; exact this, h.sk.nq⟩
end
/-- What comeTo answers. -/
def CoA (L : List DIns) (w : World) (e : Ending) (w' : World) : Prop := ∃ bs gB, e = .returned (.slice (some ⟨gB, 0, none⟩) L.length L.length) ∧ Below w.heap.size w w' ∧ BR w' gB bs ∧ Lst L bs ∧ w.heap.size ≤ gB
set_option maxHeartbeats 12800000 in
theorem come105 {S : Nat → Prop} (L : List DIns) (v : Value) (w : World) (h : InsR w S L v) (h1 : 1 ≤ L.length) (hl : L.length ≤ 50000) (hop : ∀ i (hi : i < L.length), 1 ≤ L[i].op ∧ L[i].op ≤ 10)
    (hto : ∀ i (hi : i < L.length), htB L[i].op = true → 0 ≤ L[i].to_ ∧ L[i].to_ < L.length) (hgs : ∀ i (hi : i < L.length), gsB L[i].op = true → i + 1 < L.length) :
    Calls Try.prog 105 #[v] w (CoA L w) := by
  obtain ⟨a, cap, b, off, rfl, hc, hm, ha, hcell⟩ := h
  obtain ⟨rfl, _⟩ := ha (by omega)
  have hz := zr65
  have hinw := (show Hid (∀ k (hk : k < L.length), w.cell? ⟨b, off + k * 3 + 2, none⟩ = some (.int .i64 L[k].to_)) from fun k hk => (hcell k hk).2.2)
  have HR := (show Hid _ from rows36 w)
  have hst := sto65g (w.alloc (.cells tbA 65)) (w.heap.size + 1) (by simp)
  have hmk := run_makeB L.length hl ((w.alloc (.cells tbA 65)).alloc (.cells tbA 65))
  simp only [World.size_alloc] at hmk
  unfold maxLen at hm
  clear ha
  go_enter Try.func105, Try.ntmps105
  go_wp2_with fail
  refine Calls.mono HR.out ?_
  rintro e w1 ⟨rfl, hw1⟩
  rw [hw1]
  clear hw1 w1 HR
  go_wp2_with fail
  have H0 : Hid (CT w L b off (w.heap.size + 1) (w.heap.size + 1 + 1) (w.heap.size + 1 + 1 + 1 + 1) (w.heap.size + 1 + 1 + 1) (.slice (some ⟨w.heap.size + 1 + 1 + 1, 0, none⟩) 1 1) (List.replicate L.length false) [0] (((((w.alloc (.cells tbA 65)).alloc (.cells tbA 65)).alloc (.cells (madeCells #[.bool false] L.length) 4)).alloc (.cells #[.int .i64 0] 3)).alloc (.cells #[(.slice (some ⟨w.heap.size + 1 + 1 + 1, 0, none⟩) 1 1)] 76))) := by
    have hbb : b < w.heap.size := lt_of_cell (hcell 0 (by omega)).1
    have tb0 : TbL ((w.alloc (.cells tbA 65)).alloc (.cells tbA 65)) (w.heap.size + 1) := by have := TbL.new (w.alloc (.cells tbA 65)); rw [World.size_alloc] at this; exact this
    have br0 : BR (((w.alloc (.cells tbA 65)).alloc (.cells tbA 65)).alloc (.cells (madeCells #[.bool false] L.length) 4)) (w.heap.size + 1 + 1) (List.replicate L.length false) := by have := BR.made ((w.alloc (.cells tbA 65)).alloc (.cells tbA 65)) L.length; rw [World.size_alloc, World.size_alloc] at this; exact this
    have e3 : (((w.alloc (.cells tbA 65)).alloc (.cells tbA 65)).alloc (.cells (madeCells #[.bool false] L.length) 4)).heap.size = w.heap.size + 1 + 1 + 1 := by simp
    have e5 : ((((w.alloc (.cells tbA 65)).alloc (.cells tbA 65)).alloc (.cells (madeCells #[.bool false] L.length) 4)).alloc (.cells #[.int .i64 0] 3)).heap.size = w.heap.size + 1 + 1 + 1 + 1 := by simp
    have ro0 : ((((w.alloc (.cells tbA 65)).alloc (.cells tbA 65)).alloc (.cells (madeCells #[.bool false] L.length) 4)).alloc (.cells #[.int .i64 0] 3)).ownsRow (w.heap.size + 1 + 1 + 1) 3 1 (.slice (some ⟨w.heap.size + 1 + 1 + 1, 0, none⟩) 1 1) 1 (iv (nL [0])) := ⟨rfl, .inr ⟨w.heap.size + 1 + 1 + 1, 1, #[.int .i64 0], rfl, Nat.le_refl _, by rw [← e3]; exact blk_alloc_new _ _, Nat.le_refl _, by unfold maxLen; omega, rfl, rfl⟩⟩
    have bx0 : Box (((((w.alloc (.cells tbA 65)).alloc (.cells tbA 65)).alloc (.cells (madeCells #[.bool false] L.length) 4)).alloc (.cells #[.int .i64 0] 3)).alloc (.cells #[(.slice (some ⟨w.heap.size + 1 + 1 + 1, 0, none⟩) 1 1)] 76)) (w.heap.size + 1 + 1 + 1 + 1) 76 [(.slice (some ⟨w.heap.size + 1 + 1 + 1, 0, none⟩) 1 1)] := by have := Box.new ((((w.alloc (.cells tbA 65)).alloc (.cells tbA 65)).alloc (.cells (madeCells #[.bool false] L.length) 4)).alloc (.cells #[.int .i64 0] 3)) 76 [(.slice (some ⟨w.heap.size + 1 + 1 + 1, 0, none⟩) 1 1)]; rw [e5] at this; exact this
    have hb2 : Below w.heap.size w ((w.alloc (.cells tbA 65)).alloc (.cells tbA 65)) := (bel_alloc _ _).alloc (by simp) _
    have hbel : Below w.heap.size w (((((w.alloc (.cells tbA 65)).alloc (.cells tbA 65)).alloc (.cells (madeCells #[.bool false] L.length) 4)).alloc (.cells #[.int .i64 0] 3)).alloc (.cells #[(.slice (some ⟨w.heap.size + 1 + 1 + 1, 0, none⟩) 1 1)] 76)) := ((hb2.alloc (by simp; omega) _).alloc (by simp; omega) _).alloc (by simp; omega) _
    refine ⟨hbel, ((tb0.still (bel_alloc _ _)).still (bel_alloc _ _)).still (bel_alloc _ _), (br0.still (bel_alloc _ _)).still (bel_alloc _ _), ⟨bx0, own_keep ro0 (fun c hc => (bel_alloc _ _).block c (own_lt ro0 hc).2), by simp, fun c hc => by have h := Option.some.inj (show some (w.heap.size + 1 + 1 + 1) = some c from hc); omega⟩, fun i hi => ?_, hbb, by omega, by omega, by omega, by omega⟩
    obtain ⟨c0, c1, c2⟩ := hcell i hi
    exact ⟨(hbel.cell (lt_of_cell c0)).trans c0, (hbel.cell (lt_of_cell c2)).trans c2⟩
  have HGB := (show Hid (w.heap.size ≤ w.heap.size + 1 + 1) from (by show _ ≤ _; omega))
  clear hcell hst hmk hz
  generalize hW5 : (((((w.alloc (.cells tbA 65)).alloc (.cells tbA 65)).alloc (.cells (madeCells #[.bool false] L.length) 4)).alloc (.cells #[.int .i64 0] 3)).alloc (.cells #[(.slice (some ⟨w.heap.size + 1 + 1 + 1, 0, none⟩) 1 1)] 76)) = W5 at *
  clear hW5
  generalize Value.slice (some ⟨w.heap.size + 1 + 1 + 1, 0, none⟩) 1 1 = V0 at H0
  generalize w.heap.size + 1 + 1 + 1 + 1 = q at *
  generalize hA : w.heap.size + 1 + 1 + 1 = A at *
  clear hA
  generalize w.heap.size + 1 + 1 = gB at *
  generalize w.heap.size + 1 = gt at *
  have HOP := (show Hid _ from hop); clear hop
  have HTO := (show Hid _ from hto); clear hto
  have HGS := (show Hid _ from hgs); clear hgs
  go_loopw [6] (fun _ wr => ∃ (v : Value) (bs : List Bool) (T : List Nat), Hid (CT w L b off gt gB q A v bs T wr ∧ bs.length = L.length ∧ Sn L bs T ∧ (∀ x, x ∈ T → x < L.length) ∧ T.length ≤ 2 * trL bs + 1)) (fun _ wr => 3 * (L.length - trN wr gB L.length) + slW wr q)
  case atStart =>
    refine ⟨V0, List.replicate L.length false, [0], H0.out, by simp, Sn.start _ (by simp) (fun k => ?_), fun x hx => by simp at hx; omega, by simp⟩
    by_cases hk : k < L.length
    · rw [getD_at (by simpa using hk)]; simp
    · rw [List.getD_eq_getElem?_getD, List.getElem?_eq_none (by simp; omega)]; rfl
  case round =>
    obtain ⟨v, bs, T, H⟩ := hrel
    obtain ⟨hct, hbl, hsn, hlt, hTl⟩ := H.out
    obtain ⟨av, cv, rfl, hlc, hcm, hav⟩ := hct.sk.form
    have kq : wr.cell? ⟨q, 0, none⟩ = some (.slice av T.length cv) := hct.sk.box.cell 0 (by simp)
    unfold maxLen at hcm
    rcases List.eq_nil_or_concat T with rfl | ⟨T0, k, rfl⟩
    case inl =>
      have HE := (show Hid (CoA L w (.returned (.slice (some ⟨gB, 0, none⟩) L.length L.length)) wr) from ⟨bs, gB, rfl, hct.bel, hct.been, hsn.done, by have := hct.num; omega⟩)
      have kq' : wr.cell? ⟨q, 0, none⟩ = some (.slice av 0 cv) := kq
      clear kq H hct hsn hlt
      go_wp2_with fail
      go_ret
      exact HE.out
    case inr =>
      rw [List.concat_eq_append] at *
      have hkl : k < L.length := hlt k (by simp)
      have hkb : k < bs.length := by omega
      have HTL := (show Hid ((T0 ++ [k]).length = T0.length + 1) from (by show _ = _; simp))
      have htb := trL_le bs
      rw [HTL.out] at hTl
      have HTK := (show Hid _ from take122 q A k (.slice av (T0 ++ [k]).length cv) T0 wr hct.sk (by omega))
      have HMU : Hid (trN wr gB L.length = trL bs ∧ slW wr q = T0.length + 1) := by
        have h1 := trN_eq hct.been
        rw [hbl] at h1
        exact ⟨h1, by rw [hct.sk.slW, HTL.out]⟩
      have HCT := (show Hid _ from hct)
      have HSN := (show Hid _ from hsn)
      have HLT := (show Hid (∀ x, x ∈ T0 → x < L.length) from fun x hx => hlt x (by simp [hx]))
      rw [HTL.out] at kq hlc
      clear hct hsn hlt H hav
      go_wp2_with fail
      refine Calls.mono HTK.out ?_
      rintro e w1 ⟨g9, c9, v1, rfl, hc9, hk1, hs1⟩
      have HC1 := (show Hid (CT w L b off gt gB q A v1 bs T0 w1) from HCT.out.kp hk1 hs1)
      have cb := HC1.out.been.cell hkb
      have fb := HC1.out.been.frozen k
      have hmu1 := trN_eq HC1.out.been
      rw [hbl] at hmu1
      have hsw1 := HC1.out.sk.slW
      clear hk1 hs1 HTK HCT kq hlc
      cases hb : bs[k]
      case true =>
        rw [hb] at cb
        have HN := (show Hid (CT w L b off gt gB q A v1 bs T0 w1 ∧ bs.length = L.length ∧ Sn L bs T0 ∧ (∀ x, x ∈ T0 → x < L.length) ∧ T0.length ≤ 2 * trL bs + 1) from ⟨HC1.out, hbl, HSN.out.skip (k := k) (by rw [getD_at hkb, hb]) (fun x => by simp), HLT.out, by omega⟩)
        have HD := (show Hid (3 * (L.length - trN w1 gB L.length) + slW w1 q < 3 * (L.length - trN wr gB L.length) + slW wr q) from (by show _ < _; rw [hmu1, hsw1, HMU.out.1, HMU.out.2]; omega))
        clear hb hmu1 hsw1 HC1 HSN
        go_wp2_with fail
        exact ⟨⟨v1, bs, T0, HN.out⟩, HD.out⟩
      case false =>
        rw [hb] at cb
        have HC2 := (show Hid (CT w L b off gt gB q A v1 (bs.set k true) T0 (w1.setCell ⟨gB, k, none⟩ (.bool true))) from HC1.out.see k)
        obtain ⟨o1, o2⟩ := HOP.out k hkl
        have hto' := HTO.out k hkl
        have hgs' := HGS.out k hkl
        obtain ⟨x0, x2⟩ := HC2.out.ins k hkl
        have HSE := (show Hid (∀ T', (∀ x, x ∈ T0 ++ [k] → x = k ∨ x ∈ T') → (gsB L[k].op = true → k + 1 ∈ T') → (htB L[k].op = true → L[k].to_.toNat ∈ T') → (∀ x, x ∈ T' → x ∈ T0 ++ [k] ∨ (gsB L[k].op = true ∧ x = k + 1) ∨ (htB L[k].op = true ∧ x = L[k].to_.toNat)) → Sn L (bs.set k true) T') from fun T' q1 q2 q3 q4 => HSN.out.see hkl (by simp) q1 q2 q3 q4)
        have HTP := (show Hid _ from trL_put hkb hb)
        have HBL := (show Hid ((bs.set k true).length = L.length) from (by show _ = _; rw [List.length_set]; exact hbl))
        obtain ⟨o, ho⟩ : ∃ o : Nat, L[k].op = o := ⟨L[k].op.toNat, by omega⟩
        rw [ho] at x0 hto' hgs' HSE o1 o2
        have ho10 : o ≤ 10 := by omega
        obtain ⟨r0, r1, r2, r3, r4⟩ := HC2.out.tb.row o ho10
        have HIN := (show Hid (∀ w', Below w.heap.size w w' → w'.cell? ⟨b, off + k * 3 + 2, none⟩ = some (.int .i64 L[k].to_)) from fun w' hb' => by
          have h := (hinw.out k hkl)
          exact (hb'.cell (lt_of_cell h)).trans h)
        generalize L[k].to_ = xt at *
        have ho' : ((o : Nat) : Int) ≤ 10 := by omega
        have kwk : IntKind.i64.wrap ((k : Int) + 1) = ((k : Int) + 1) := by rw [IntKind.wrap_i64]; omega
        have HQ1 := (show Hid (q < w1.heap.size ∧ ∀ c, v1.ownBlock = some c → c < w1.heap.size) from ⟨HC1.out.sk.box.lt, fun c hc => (own_lt HC1.out.sk.row hc).2⟩)
        have HGL := (show Hid (w.heap.size ≤ w1.heap.size) from HC1.out.bel.size)
        clear hb hmu1 hsw1 HC1 HSN ho
        generalize hA1 : htB (o : Int) = A1 at *
        generalize hG1 : gsB (o : Int) = G1 at *
        clear hA1 hG1
        have HC3 := (show Hid _ from HC2.out.still (bel_alloc (w1.setCell ⟨gB, k, none⟩ (.bool true)) (.cells #[.string (rwS o), rwN o, .bool A1, .bool (!G1), rwD o] 63)))
        have HBX := (show Hid (Box ((w1.setCell ⟨gB, k, none⟩ (.bool true)).alloc (.cells #[.string (rwS o), rwN o, .bool A1, .bool (!G1), rwD o] 63)) w1.heap.size 63 [.string (rwS o), rwN o, .bool A1, .bool (!G1), rwD o]) from (by have h := Box.new (w1.setCell ⟨gB, k, none⟩ (.bool true)) 63 [.string (rwS o), rwN o, .bool A1, .bool (!G1), rwD o]; rw [show (w1.setCell ⟨gB, k, none⟩ (.bool true)).heap.size = w1.heap.size by simp] at h; exact h))
        clear HC2
        have hRN := fun (w' : World) (ad : Addr) => run_store Try.prog w' ad (rwN o) Mode.plain (rwN_one o)
        have hRD := fun (w' : World) (ad : Addr) => run_store Try.prog w' ad (rwD o) Mode.plain (rwD_one o ho10)
        generalize rwN o = RN at *
        generalize rwD o = RD at *
        generalize rwS o = RS at *
        cases A1
        case false =>
          cases G1
          case false =>
            clear hto' hgs'
            simp only [Bool.not_false, Bool.not_true] at HC3 HBX r3
            have HTL0 := (show Hid (T0.length ≤ 200000) from (by show _ ≤ _; omega))
            have hmu := trN_eq HC3.out.been
            rw [HBL.out] at hmu
            have hsw := HC3.out.sk.slW
            have HD := (show Hid (3 * (L.length - trN ((w1.setCell ⟨gB, k, none⟩ (.bool true)).alloc (.cells #[.string RS, RN, .bool false, .bool true, RD] 63)) gB L.length) + slW ((w1.setCell ⟨gB, k, none⟩ (.bool true)).alloc (.cells #[.string RS, RN, .bool false, .bool true, RD] 63)) q < 3 * (L.length - trN wr gB L.length) + slW wr q) from (by show _ < _; rw [hmu, hsw, HMU.out.1, HMU.out.2, HTP.out]; have h5 := trL_le (bs.set k true); rw [HTP.out, HBL.out] at h5; (try simp only [List.length_append, List.length_cons, List.length_nil]); omega))
            have HN := (show Hid (CT w L b off gt gB q A v1 (bs.set k true) T0 ((w1.setCell ⟨gB, k, none⟩ (.bool true)).alloc (.cells #[.string RS, RN, .bool false, .bool true, RD] 63)) ∧ (bs.set k true).length = L.length ∧ Sn L (bs.set k true) T0 ∧ (∀ x, x ∈ T0 → x < L.length) ∧ T0.length ≤ 2 * trL (bs.set k true) + 1) from by
              refine ⟨HC3.out, HBL.out, HSE.out _ ?_ ?_ ?_ ?_, ?_, ?_⟩
              · intro x hx
                simp only [List.mem_append, List.mem_singleton] at hx ⊢
                rcases hx with h | h
                · exact .inr (by simp [h])
                · exact .inl h
              · intro h; cases h
              · intro h; cases h
              · intro x hx
                exact .inl (by simp [hx])
              · exact HLT.out
              · rw [HTP.out]; (try simp only [List.length_append, List.length_cons, List.length_nil]); omega)
            clear hmu hsw HC3 HSE
            go_wp2_with fail
            exact ⟨⟨v1, bs.set k true, T0, HN.out⟩, HD.out⟩
          case true =>
            have hk1 := hgs' rfl
            clear hto' hgs'
            simp only [Bool.not_false, Bool.not_true] at HC3 HBX r3
            have HTL0 := (show Hid (T0.length ≤ 200000) from (by show _ ≤ _; omega))
            have HP2 := (show Hid _ from put107s q A (k + 1) v1 T0 ((w1.setCell ⟨gB, k, none⟩ (.bool true)).alloc (.cells #[.string RS, RN, .bool false, .bool false, RD] 63)) HC3.out.sk (by have := HTL0.out; simp; omega))
            rw [show ((k + 1 : Nat) : Int) = (k : Int) + 1 by omega] at HP2
            go_wp2_with fail
            refine Calls.mono HP2.out ?_
            rintro e w6 ⟨rfl, hkp, _, v3, hs3⟩
            have HC6 := (show Hid (CT w L b off gt gB q A v3 (bs.set k true) (T0 ++ [k + 1]) w6) from HC3.out.kp hkp hs3)
            clear hkp hs3 HP2 HC3
            have hmu := trN_eq HC6.out.been
            rw [HBL.out] at hmu
            have hsw := HC6.out.sk.slW
            have HD := (show Hid (3 * (L.length - trN w6 gB L.length) + slW w6 q < 3 * (L.length - trN wr gB L.length) + slW wr q) from (by show _ < _; rw [hmu, hsw, HMU.out.1, HMU.out.2, HTP.out]; have h5 := trL_le (bs.set k true); rw [HTP.out, HBL.out] at h5; (try simp only [List.length_append, List.length_cons, List.length_nil]); omega))
            have HN := (show Hid (CT w L b off gt gB q A v3 (bs.set k true) (T0 ++ [k + 1]) w6 ∧ (bs.set k true).length = L.length ∧ Sn L (bs.set k true) (T0 ++ [k + 1]) ∧ (∀ x, x ∈ (T0 ++ [k + 1]) → x < L.length) ∧ (T0 ++ [k + 1]).length ≤ 2 * trL (bs.set k true) + 1) from by
              refine ⟨HC6.out, HBL.out, HSE.out _ ?_ ?_ ?_ ?_, ?_, ?_⟩
              · intro x hx
                simp only [List.mem_append, List.mem_singleton] at hx ⊢
                rcases hx with h | h
                · exact .inr (by simp [h])
                · exact .inl h
              · intro _; simp
              · intro h; cases h
              · intro x hx
                simp only [List.mem_append, List.mem_singleton] at hx ⊢
                rcases hx with h | h
                · exact .inl (.inl h)
                · exact .inr (.inl ⟨by trivial, h⟩)
              · intro x hx
                simp only [List.mem_append, List.mem_singleton] at hx
                rcases hx with h | h
                · exact HLT.out x h
                · omega
              · rw [HTP.out]; (try simp only [List.length_append, List.length_cons, List.length_nil]); omega)
            clear hmu hsw HC6 HSE
            go_wp2_with fail
            exact ⟨⟨v3, bs.set k true, (T0 ++ [k + 1]), HN.out⟩, HD.out⟩
        case true =>
          obtain ⟨t0, t1⟩ := hto' rfl
          obtain ⟨t, rfl⟩ : ∃ t : Nat, xt = t := ⟨xt.toNat, by omega⟩
          have htl : t < L.length := by omega
          cases G1
          case false =>
            clear hto' hgs'
            simp only [Bool.not_false, Bool.not_true] at HC3 HBX r3
            have HTL0 := (show Hid (T0.length ≤ 200000) from (by show _ ≤ _; omega))
            have HP1 := (show Hid _ from put107s q A t v1 T0 ((w1.setCell ⟨gB, k, none⟩ (.bool true)).alloc (.cells #[.string RS, RN, .bool true, .bool true, RD] 63)) HC3.out.sk HTL0.out)
            have c7 : ((w1.setCell ⟨gB, k, none⟩ (.bool true)).alloc (.cells #[.string RS, RN, .bool true, .bool true, RD] 63)).cell? ⟨b, off + k * 3 + 2, none⟩ = some (.int .i64 (t : Int)) := HIN.out _ HC3.out.bel
            go_wp2_with fail
            refine Calls.mono HP1.out ?_
            rintro e w4 ⟨rfl, hkp, hkb4, v2, hs2⟩
            have HC4 := (show Hid (CT w L b off gt gB q A v2 (bs.set k true) (T0 ++ [t]) w4) from HC3.out.kp hkp hs2)
            have hbx4 := HBX.out.keep (hkb4 _ HBX.out.lt (fun e => by have := HQ1.out.1; omega) (fun e => by have := HQ1.out.2 _ e; omega))
            have b3 : w4.cell? ⟨w1.heap.size, 3, none⟩ = some (.bool true) := hbx4.cell 3 (by simp)
            clear hkp hkb4 hs2 hbx4 HP1 HC3 HBX
            have hmu := trN_eq HC4.out.been
            rw [HBL.out] at hmu
            have hsw := HC4.out.sk.slW
            have HD := (show Hid (3 * (L.length - trN w4 gB L.length) + slW w4 q < 3 * (L.length - trN wr gB L.length) + slW wr q) from (by show _ < _; rw [hmu, hsw, HMU.out.1, HMU.out.2, HTP.out]; have h5 := trL_le (bs.set k true); rw [HTP.out, HBL.out] at h5; (try simp only [List.length_append, List.length_cons, List.length_nil]); omega))
            have HN := (show Hid (CT w L b off gt gB q A v2 (bs.set k true) (T0 ++ [t]) w4 ∧ (bs.set k true).length = L.length ∧ Sn L (bs.set k true) (T0 ++ [t]) ∧ (∀ x, x ∈ (T0 ++ [t]) → x < L.length) ∧ (T0 ++ [t]).length ≤ 2 * trL (bs.set k true) + 1) from by
              refine ⟨HC4.out, HBL.out, HSE.out _ ?_ ?_ ?_ ?_, ?_, ?_⟩
              · intro x hx
                simp only [List.mem_append, List.mem_singleton] at hx ⊢
                rcases hx with h | h
                · exact .inr (by simp [h])
                · exact .inl h
              · intro h; cases h
              · intro _; simp
              · intro x hx
                simp only [List.mem_append, List.mem_singleton] at hx ⊢
                rcases hx with h | h
                · exact .inl (.inl h)
                · exact .inr (.inr ⟨by trivial, by rw [h]; simp⟩)
              · intro x hx
                simp only [List.mem_append, List.mem_singleton] at hx
                rcases hx with h | h
                · exact HLT.out x h
                · omega
              · rw [HTP.out]; (try simp only [List.length_append, List.length_cons, List.length_nil]); omega)
            clear hmu hsw HC4 HSE
            go_wp2_with fail
            exact ⟨⟨v2, bs.set k true, (T0 ++ [t]), HN.out⟩, HD.out⟩
          case true =>
            have hk1 := hgs' rfl
            clear hto' hgs'
            simp only [Bool.not_false, Bool.not_true] at HC3 HBX r3
            have HTL0 := (show Hid (T0.length ≤ 200000) from (by show _ ≤ _; omega))
            have HP1 := (show Hid _ from put107s q A t v1 T0 ((w1.setCell ⟨gB, k, none⟩ (.bool true)).alloc (.cells #[.string RS, RN, .bool true, .bool false, RD] 63)) HC3.out.sk HTL0.out)
            have c7 : ((w1.setCell ⟨gB, k, none⟩ (.bool true)).alloc (.cells #[.string RS, RN, .bool true, .bool false, RD] 63)).cell? ⟨b, off + k * 3 + 2, none⟩ = some (.int .i64 (t : Int)) := HIN.out _ HC3.out.bel
            go_wp2_with fail
            refine Calls.mono HP1.out ?_
            rintro e w4 ⟨rfl, hkp, hkb4, v2, hs2⟩
            have HC4 := (show Hid (CT w L b off gt gB q A v2 (bs.set k true) (T0 ++ [t]) w4) from HC3.out.kp hkp hs2)
            have hbx4 := HBX.out.keep (hkb4 _ HBX.out.lt (fun e => by have := HQ1.out.1; omega) (fun e => by have := HQ1.out.2 _ e; omega))
            have b3 : w4.cell? ⟨w1.heap.size, 3, none⟩ = some (.bool false) := hbx4.cell 3 (by simp)
            clear hkp hkb4 hs2 hbx4 HP1 HC3 HBX
            have HP2 := (show Hid _ from put107s q A (k + 1) v2 (T0 ++ [t]) w4 HC4.out.sk (by have := HTL0.out; simp; omega))
            rw [show ((k + 1 : Nat) : Int) = (k : Int) + 1 by omega] at HP2
            go_wp2_with fail
            refine Calls.mono HP2.out ?_
            rintro e w6 ⟨rfl, hkp, _, v3, hs3⟩
            have HC6 := (show Hid (CT w L b off gt gB q A v3 (bs.set k true) ((T0 ++ [t]) ++ [k + 1]) w6) from HC4.out.kp hkp hs3)
            clear hkp hs3 HP2 HC4
            have hmu := trN_eq HC6.out.been
            rw [HBL.out] at hmu
            have hsw := HC6.out.sk.slW
            have HD := (show Hid (3 * (L.length - trN w6 gB L.length) + slW w6 q < 3 * (L.length - trN wr gB L.length) + slW wr q) from (by show _ < _; rw [hmu, hsw, HMU.out.1, HMU.out.2, HTP.out]; have h5 := trL_le (bs.set k true); rw [HTP.out, HBL.out] at h5; (try simp only [List.length_append, List.length_cons, List.length_nil]); omega))
            have HN := (show Hid (CT w L b off gt gB q A v3 (bs.set k true) ((T0 ++ [t]) ++ [k + 1]) w6 ∧ (bs.set k true).length = L.length ∧ Sn L (bs.set k true) ((T0 ++ [t]) ++ [k + 1]) ∧ (∀ x, x ∈ ((T0 ++ [t]) ++ [k + 1]) → x < L.length) ∧ ((T0 ++ [t]) ++ [k + 1]).length ≤ 2 * trL (bs.set k true) + 1) from by
              refine ⟨HC6.out, HBL.out, HSE.out _ ?_ ?_ ?_ ?_, ?_, ?_⟩
              · intro x hx
                simp only [List.mem_append, List.mem_singleton] at hx ⊢
                rcases hx with h | h
                · exact .inr (by simp [h])
                · exact .inl h
              · intro _; simp
              · intro _; simp
              · intro x hx
                simp only [List.mem_append, List.mem_singleton] at hx ⊢
                rcases hx with (h | h) | h
                · exact .inl (.inl h)
                · exact .inr (.inr ⟨by trivial, by rw [h]; simp⟩)
                · exact .inr (.inl ⟨by trivial, h⟩)
              · intro x hx
                simp only [List.mem_append, List.mem_singleton] at hx
                rcases hx with (h | h) | h
                · exact HLT.out x h
                · omega
                · omega
              · rw [HTP.out]; (try simp only [List.length_append, List.length_cons, List.length_nil]); omega)
            clear hmu hsw HC6 HSE
            go_wp2_with fail
            exact ⟨⟨v3, bs.set k true, ((T0 ++ [t]) ++ [k + 1]), HN.out⟩, HD.out⟩
end Go.Proofs.Ytilahbfcobhjeaa
