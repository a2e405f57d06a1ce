import Derived.Test.YtboffildchoelaaYd
import Derived.Test.YtboffildchoelaaSize
/-! The program: patterns are read; isPlain; readPattern. -/
namespace Go.Proofs.Ytboffildchoelaa
open Go.RowKit Go.Deep Go.Maps Go.WideMaps Go.ChangeMaps Go.Lib
set_option linter.unusedVariables false
set_option maxRecDepth 100000
set_option linter.unusedSimpArgs false

theorem Box.drw {w : World} {g ty : Nat} {cs : List Value} (h : Box w g ty cs) : Box w.drew g ty cs := h.still ((Below.refl _ _).drew)
/-- What stands for a pattern that was read. -/
def PtA (B b m : Nat) (ks : List ByteArray) (hn : Nat) (f : Bool) (uv uh : Value) (t : Tr) (w : World) (e : Ending) (w' : World) : Prop :=
  ∃ (q : Nat) (va ha : Option Addr) (vc hc : Nat) (uv' : Value) (s1 s2 : ByteArray) (l : Bool) (num : Int) (kv : Value), e = .returned (.agg #[.pointer (some ⟨q, 0, none⟩), .slice va (pv t ks).length vc, .slice ha (hn + ph t) hc]) ∧ w.heap.size ≤ q ∧
    Box w' q 129 [.string s1, .string s2, .bool l, .int .i64 (kd t.name t.leaf), .int .i64 num, kv] ∧ Rs w' B b m (pv t ks) (hn + ph t) (f || pf t) uv' (.slice ha (hn + ph t) hc) ∧ Fm (To b m uv uh (.slice none 0 0)) w w' ∧
    At1 w.heap.size uv uv' ∧ At1 w.heap.size uh (.slice ha (hn + ph t) hc) ∧ uv'.ownBlock ≠ some q ∧ (Value.slice ha (hn + ph t) hc).ownBlock ≠ some q
set_option maxHeartbeats 3200000 in
theorem patt56 {B b m : Nat} (t : Tr) (v : Value) (ks : List ByteArray) (hn : Nat) (f : Bool) (uv uh : Value) (w : World) (hR : Rs w B b m ks hn f uv uh) (hB : B ≤ w.heap.size) (hl : Lies w (fun q => q < B) t v) (h1 : ks.length + t.cnt ≤ 100000) (h2 : hn + t.cnt ≤ 100000) (h3 : t.deep ≤ 100000) :
    Calls Try.prog 56 #[.pointer (some ⟨b, 0, none⟩), t.val v] w (PtA B b m ks hn f uv uh t w) := by
  obtain ⟨a1, l1, p1, rfl⟩ := hl.form
  have hz0 : ((w.alloc (.cells #[.string t.name, .string t.text, .bool t.leaf, .slice a1 l1 p1] 42)).alloc (.cells #[.pointer none, .slice none 0 0, .slice none 0 0] 87)).heap.size = w.heap.size + 2 := by simp
  have bW : Below w.heap.size w ((w.alloc (.cells #[.string t.name, .string t.text, .bool t.leaf, .slice a1 l1 p1] 42)).alloc (.cells #[.pointer none, .slice none 0 0, .slice none 0 0] 87)) := (bel_alloc _ _).alloc (by simp) _
  have HCP := (show Hid _ from part63 t (.slice a1 l1 p1) ks hn f uv uh (.slice none 0 0) 0 [] ((w.alloc (.cells #[.string t.name, .string t.text, .bool t.leaf, .slice a1 l1 p1] 42)).alloc (.cells #[.pointer none, .slice none 0 0, .slice none 0 0] 87)) (hR.still bW) (own_nil _ _ _ _) (fun q hq => by cases hq) (fun u hu => by cases hu) (by omega) (hl.keep (fun q hq => bW.block q (by omega))) h1 h2 (by omega))
  have hbw := hR.bx.lt
  have hmw := hR.mp.lt
  have huv := hR.uvl
  have huh := hR.uhl
  have hpl := pv_few t ks
  have HUP := (show Hid (∀ (e : Ending) (w1 : World), PaA B b m ks hn f uv uh (.slice none 0 0) 0 [] t ((w.alloc (.cells #[.string t.name, .string t.text, .bool t.leaf, .slice a1 l1 p1] 42)).alloc (.cells #[.pointer none, .slice none 0 0, .slice none 0 0] 87)) e w1 → ∃ (q : Nat) (va ha : Option Addr) (vc hc : Nat), e = .returned (.pointer (some ⟨q, 0, none⟩)) ∧ (w1.drew.cell? ⟨b, 1, none⟩ = some (.slice va (pv t ks).length vc) ∧ w1.drew.cell? ⟨b, 2, none⟩ = some (.slice ha (hn + ph t) hc)) ∧
      (Calls Try.prog 64 #[.slice va (pv t ks).length vc] w1.drew fun e w' => ∃ (ua : Option Addr) (uc : Nat), e = .returned (.slice ua (pv t ks).length uc) ∧ Below w1.drew.heap.size w1.drew w') ∧
      ∀ (ua : Option Addr) (uc : Nat) (w2 : World), Below w1.drew.heap.size w1.drew w2 → (w2.cell? ⟨b, 1, none⟩ = some (.slice va (pv t ks).length vc) ∧ w2.cell? ⟨b, 2, none⟩ = some (.slice ha (hn + ph t) hc)) ∧ ((w2.cell? ⟨w.heap.size + 1, 0, none⟩ = some (.pointer none) ∧ w2.cell? ⟨w.heap.size + 1, 1, none⟩ = some (.slice none 0 0) ∧ w2.cell? ⟨w.heap.size + 1, 2, none⟩ = some (.slice none 0 0)) ∧ (∀ i, w2.frozen? ⟨w.heap.size + 1, i, none⟩ = false)) ∧ ((((w2.setCell ⟨w.heap.size + 1, 0, none⟩ (.pointer (some ⟨q, 0, none⟩))).setCell ⟨w.heap.size + 1, 1, none⟩ (.slice ua (pv t ks).length uc)).setCell ⟨w.heap.size + 1, 2, none⟩ (.slice ha (hn + ph t) hc)).cell? ⟨b, 1, none⟩ = some (.slice va (pv t ks).length vc) ∧ (((w2.setCell ⟨w.heap.size + 1, 0, none⟩ (.pointer (some ⟨q, 0, none⟩))).setCell ⟨w.heap.size + 1, 1, none⟩ (.slice ua (pv t ks).length uc)).setCell ⟨w.heap.size + 1, 2, none⟩ (.slice ha (hn + ph t) hc)).cell? ⟨b, 2, none⟩ = some (.slice ha (hn + ph t) hc)) ∧
        PtA B b m ks hn f uv uh t w (.returned (.agg #[.pointer (some ⟨q, 0, none⟩), .slice ua (pv t ks).length uc, .slice ha (hn + ph t) hc])) (((w2.setCell ⟨w.heap.size + 1, 0, none⟩ (.pointer (some ⟨q, 0, none⟩))).setCell ⟨w.heap.size + 1, 1, none⟩ (.slice ua (pv t ks).length uc)).setCell ⟨w.heap.size + 1, 2, none⟩ (.slice ha (hn + ph t) hc))) from fun e w1 h => by
    obtain ⟨q, uv', uh', s1, s2, l, num, kv, rfl, hq, hbx, rs', fm', _, a1', a2', n1', n2'⟩ := h
    obtain ⟨bs, g1, g2⟩ := rs'.rv
    obtain ⟨hs, g3⟩ := rs'.rh
    obtain ⟨va, vc, rfl, _⟩ := own_ne g2
    obtain ⟨ha, hc, rfl, _⟩ := own_ne g3
    have bd : Below w1.heap.size w1 w1.drew := (Below.refl _ _).drew
    have hcl := clone64 bs (pv t ks).length (.slice va (pv t ks).length vc) w1.drew (own_still g2 bd) (fun u hu => by obtain ⟨c, rfl⟩ := g1 u hu; rfl) (by omega)
    refine ⟨q, va, ha, vc, hc, rfl, ⟨(rs'.still bd).bx.cell 1 (by simp), (rs'.still bd).bx.cell 2 (by simp)⟩, hcl, fun ua uc w2 hb2 => ?_⟩
    have b12 : Below w1.heap.size w1 w2 := bd.trans (hb2.mono (by simp))
    have rs2 := rs'.still b12
    have nT : ¬ To b m uv uh (.slice none 0 0) (w.heap.size + 1) := by
      rintro (e | e | e | e | e)
      · omega
      · omega
      · have := (huv _ e).2; omega
      · have := (huh _ e).2; omega
      · cases e
    have bz0 : Box ((w.alloc (.cells #[.string t.name, .string t.text, .bool t.leaf, .slice a1 l1 p1] 42)).alloc (.cells #[.pointer none, .slice none 0 0, .slice none 0 0] 87)) (w.heap.size + 1) 87 [.pointer none, .slice none 0 0, .slice none 0 0] := by
      have h := Box.new (w.alloc (.cells #[.string t.name, .string t.text, .bool t.leaf, .slice a1 l1 p1] 42)) 87 [.pointer none, .slice none 0 0, .slice none 0 0]
      simpa using h
    have bz1 := bz0.fm fm' nT
    have bz2 := bz1.still b12
    have hs1 := fm'.size
    have hs2 := b12.size
    have nv : (Value.slice va (pv t ks).length vc).ownBlock ≠ some (w.heap.size + 1) := fun e => by
      rcases a1' with e1 | ⟨q', e1, hq'⟩
      · rw [e1] at e; have := (huv _ e).2; omega
      · rw [e1] at e; injection e with e; omega
    have nh : (Value.slice ha (hn + ph t) hc).ownBlock ≠ some (w.heap.size + 1) := fun e => by
      rcases a2' with e1 | ⟨q', e1, hq'⟩
      · rw [e1] at e; have := (huh _ e).2; omega
      · rw [e1] at e; injection e with e; omega
    have fS : Fm (fun q => q = w.heap.size + 1) w2 (((w2.setCell ⟨w.heap.size + 1, 0, none⟩ (.pointer (some ⟨q, 0, none⟩))).setCell ⟨w.heap.size + 1, 1, none⟩ (.slice ua (pv t ks).length uc)).setCell ⟨w.heap.size + 1, 2, none⟩ (.slice ha (hn + ph t) hc)) := ((Fm.set (T := fun q => q = w.heap.size + 1) rfl).trans (Fm.set (T := fun q => q = w.heap.size + 1) rfl) (fun _ _ e => e)).trans (Fm.set (T := fun q => q = w.heap.size + 1) rfl) (fun _ _ e => e)
    refine ⟨⟨rs2.bx.cell 1 (by simp), rs2.bx.cell 2 (by simp)⟩, ⟨⟨bz2.cell 0 (by simp), bz2.cell 1 (by simp), bz2.cell 2 (by simp)⟩, fun i => bz2.frozen i⟩, ⟨(World.cell?_of_block (fS.block b (by omega) (by show ¬ b = _; omega))).trans (rs2.bx.cell 1 (by simp)), (World.cell?_of_block (fS.block b (by omega) (by show ¬ b = _; omega))).trans (rs2.bx.cell 2 (by simp))⟩, ?_⟩
    refine ⟨q, ua, ha, uc, hc, _, s1, s2, l, num, kv, rfl, by omega, (hbx.still b12).fm fS (by show ¬ q = _; omega), rs2.fm fS (by show ¬ b = _; omega) (by show ¬ m = _; omega) (fun q' hq' e => nv (by rw [hq']; exact congrArg some e)) (fun q' hq' e => nh (by rw [hq']; exact congrArg some e)), ?_, ?_, ?_, n1', n2'⟩
    · exact (((Fm.of_below bW).trans fm' (fun _ _ e => e)).still b12).trans fS (fun q' hq' e => by have e' : q' = w.heap.size + 1 := e; omega)
    · rcases a1' with e1 | ⟨q', e1, hq'⟩
      · exact .inl e1
      · exact .inr ⟨q', e1, by omega⟩
    · rcases a2' with e1 | ⟨q', e1, hq'⟩
      · exact .inl e1
      · exact .inr ⟨q', e1, by omega⟩)
  clear hR hl huv huh hpl
  simp only [Tr.val] at HCP ⊢
  generalize t.name = n0 at *
  generalize t.text = x0 at *
  generalize t.leaf = lf0 at *
  generalize hPV : (pv t ks).length = PV at *
  generalize hPH : hn + ph t = PH at *
  clear hPV hPH
  go_enter Try.func56, Try.ntmps56
  go_wp2_with fail
  refine Calls.mono HCP.out ?_
  intro e w1 hpa
  obtain ⟨q, va, ha, vc, hc, rfl, hS0, hcl, hup⟩ := HUP.out e w1 hpa
  have HCL := (show Hid _ from hcl)
  have HU2 := (show Hid _ from hup)
  clear hcl hup hpa HUP HCP
  dsimp only
  go_wp2_with fail
  go_region_held3 (fun wq => wq.cell? ⟨b, 1, none⟩ = some (.slice va PV vc) ∧ wq.cell? ⟨b, 2, none⟩ = some (.slice ha PH hc)) (first | with_reducible exact hS0 | with_reducible exact hS1 | with_reducible exact hS2) ((first | (go_at_call 64; refine Calls.mono HCL.out ?_; rintro e w2 ⟨ua, uc, rfl, hb2⟩; obtain ⟨hS1, ⟨⟨Z0, Z1, Z2⟩, ZF⟩, hS2, hfin⟩ := HU2.out ua uc w2 hb2; have F0 := ZF 0; have F1 := ZF 1; have F2 := ZF 2; have HFIN := (show Hid _ from hfin); clear hfin ZF)))
  clear hS0 hS1 hS2 hb2
  go_wp2_with fail
  refine bodyPost_ret (v := .agg #[.pointer (some ⟨q, 0, none⟩), .slice ua PV uc, .slice ha PH hc]) (by simp [results, Try.results56, go_sem, Z0, Z1, Z2]) rfl ?_
  exact HFIN.out
theorem plain57 (q : Nat) (v1 v2 : Value) (w : World) (s1 s2 : ByteArray) (l : Bool) (kn num : Int) (kv : Value) (hb : Box w q 129 [.string s1, .string s2, .bool l, .int .i64 kn, .int .i64 num, kv]) (g1 : v1.oneCell' = true) (g2 : v2.oneCell' = true) :
    Calls Try.prog 57 #[.agg #[.pointer (some ⟨q, 0, none⟩), v1, v2]] w fun e w' => e = .returned (.bool (kn == 0)) ∧ Below w.heap.size w w' := by
  have hq := hb.lt
  have C3 : (w.alloc (.cells #[.pointer (some ⟨q, 0, none⟩), v1, v2] 87)).cell? ⟨q, 3, none⟩ = some (.int .i64 kn) := (hb.still (bel_alloc _ _)).cell 3 (by simp)
  have HB := (show Hid _ from bel_alloc w (.cells #[.pointer (some ⟨q, 0, none⟩), v1, v2] 87))
  clear hb
  go_enter Try.func57, Try.ntmps57
  go_wp2_with fail
  go_ret
  exact ⟨rfl, HB.out⟩
theorem kd_pl (n : ByteArray) (l : Bool) : (kd n l == 0) = plB n l := by
  unfold kd plB
  cases h1 : hoB n l
  · cases h2 : v6B n l <;> simp
  · simp
/-- What readPattern leaves. -/
def RpA (t : Tr) (w : World) (e : Ending) (w' : World) : Prop :=
  ∃ (pa : Option Addr) (va ha : Option Addr) (vl vc hl hc : Nat) (R : Bool), e = .returned (.tuple #[.agg #[.pointer pa, .slice va vl vc, .slice ha hl hc], .bool R]) ∧ Below w.heap.size w w' ∧
    (R = true → t.ok = true ∧ pf t = false ∧ hl = ph t ∧ ∃ (q : Nat) (s1 s2 : ByteArray) (l : Bool) (num : Int) (kv : Value), pa = some ⟨q, 0, none⟩ ∧ Box w' q 129 [.string s1, .string s2, .bool l, .int .i64 (kd t.name t.leaf), .int .i64 num, kv]) ∧ (R = false → t.ok = false ∨ pf t = true)
set_option maxHeartbeats 3200000 in
theorem rpat58 {S : Nat → Prop} (t : Tr) (v : Value) (w : World) (hl : Lies w S t v) :
    Calls Try.prog 58 #[t.val v] w (RpA t w) := by
  obtain ⟨a1, l1, p1, rfl⟩ := hl.form
  have hl0 : Lies w (fun q => q < w.heap.size) t (.slice a1 l1 p1) := (hl.lt).mono (fun q hq => hq.2)
  have hz0 : ((w.alloc (.cells #[.string t.name, .string t.text, .bool t.leaf, .slice a1 l1 p1] 42)).alloc (.cells #[.pointer none, .slice none 0 0, .slice none 0 0] 87)).heap.size = w.heap.size + 2 := by simp
  have bW : Below w.heap.size w ((w.alloc (.cells #[.string t.name, .string t.text, .bool t.leaf, .slice a1 l1 p1] 42)).alloc (.cells #[.pointer none, .slice none 0 0, .slice none 0 0] 87)) := (bel_alloc _ _).alloc (by simp) _
  have HOK := (show Hid _ from iOK_any t (.slice a1 l1 p1) ((w.alloc (.cells #[.string t.name, .string t.text, .bool t.leaf, .slice a1 l1 p1] 42)).alloc (.cells #[.pointer none, .slice none 0 0, .slice none 0 0] 87)) (hl0.still bW))
  have bt0 : Box ((w.alloc (.cells #[.string t.name, .string t.text, .bool t.leaf, .slice a1 l1 p1] 42)).alloc (.cells #[.pointer none, .slice none 0 0, .slice none 0 0] 87)) w.heap.size 42 [.string t.name, .string t.text, .bool t.leaf, .slice a1 l1 p1] := (Box.new w 42 _).still (bel_alloc _ _)
  have bz0 : Box ((w.alloc (.cells #[.string t.name, .string t.text, .bool t.leaf, .slice a1 l1 p1] 42)).alloc (.cells #[.pointer none, .slice none 0 0, .slice none 0 0] 87)) (w.heap.size + 1) 87 [.pointer none, .slice none 0 0, .slice none 0 0] := by
    have h := Box.new (w.alloc (.cells #[.string t.name, .string t.text, .bool t.leaf, .slice a1 l1 p1] 42)) 87 [.pointer none, .slice none 0 0, .slice none 0 0]
    simpa using h
  have HT1 := (show Hid (∀ w1 : World, Below ((w.alloc (.cells #[.string t.name, .string t.text, .bool t.leaf, .slice a1 l1 p1] 42)).alloc (.cells #[.pointer none, .slice none 0 0, .slice none 0 0] 87)).heap.size ((w.alloc (.cells #[.string t.name, .string t.text, .bool t.leaf, .slice a1 l1 p1] 42)).alloc (.cells #[.pointer none, .slice none 0 0, .slice none 0 0] 87)) w1 → Below w.heap.size w w1 ∧ Box w1 w.heap.size 42 [.string t.name, .string t.text, .bool t.leaf, .slice a1 l1 p1] ∧ Box w1 (w.heap.size + 1) 87 [.pointer none, .slice none 0 0, .slice none 0 0]) from fun w1 hb => ⟨bW.trans (hb.mono (by omega)), bt0.still hb, bz0.still hb⟩)
  have HCP := (show Hid (t.ok = true → ∀ w1 : World, Below w.heap.size w w1 → Calls Try.prog 56 #[.pointer (some ⟨w1.heap.size + 1, 0, none⟩), t.val (.slice a1 l1 p1)] ((w1.alloc (.map #[] 0)).alloc (.cells #[.map (some w1.heap.size), .slice none 0 0, .slice none 0 0, .bool false] 112)) (PtA w1.heap.size (w1.heap.size + 1) w1.heap.size [] 0 false (.slice none 0 0) (.slice none 0 0) t ((w1.alloc (.map #[] 0)).alloc (.cells #[.map (some w1.heap.size), .slice none 0 0, .slice none 0 0, .bool false] 112)))) from fun hok w1 hb => by
    have hcn : t.cnt ≤ 1000 ∧ t.deep ≤ 60 := by
      unfold Tr.ok at hok
      simp only [Bool.and_eq_true, decide_eq_true_eq] at hok
      exact hok.1
    have b2 : Below w1.heap.size w1 ((w1.alloc (.map #[] 0)).alloc (.cells #[.map (some w1.heap.size), .slice none 0 0, .slice none 0 0, .bool false] 112)) := (bel_alloc _ _).alloc (by simp) _
    refine patt56 t (.slice a1 l1 p1) [] 0 false (.slice none 0 0) (.slice none 0 0) _ ⟨?_, ?_, ⟨[], fun x hx => (by cases hx), own_nil _ _ _ _⟩, ⟨[], own_nil _ _ _ _⟩, by omega, Nat.le_refl _, by omega, fun q hq => (by cases hq), fun q hq => (by cases hq)⟩ b2.size ((hl0.still (bel_trans hb b2)).mono (fun q hq => Nat.lt_of_lt_of_le hq hb.size)) (by simp; omega) (by omega) (by omega)
    · have h := Box.new (w1.alloc (.map #[] 0)) 112 [.map (some w1.heap.size), .slice none 0 0, .slice none 0 0, .bool false]
      simpa using h
    · exact (Mn.new w1 9).keep ((bel_alloc (w1.alloc (.map #[] 0)) _).block _ (by simp)))
  have hmk := fun w => run_makeMap (P := Try.prog) 110 w
  have HBAD := (show Hid (t.ok = false → ∀ w' : World, Below w.heap.size w w' → RpA t w (.returned (.tuple #[.agg #[.pointer none, .slice none 0 0, .slice none 0 0], .bool false])) w') from fun h w' hb => ⟨none, none, none, 0, 0, 0, 0, false, rfl, hb, fun e => (by cases e), fun _ => .inl h⟩)
  have HGOOD := (show Hid (t.ok = true → ∀ (q : Nat) (va ha : Option Addr) (vl vc hc : Nat) (s1 s2 : ByteArray) (l : Bool) (num : Int) (kv : Value) (w' : World), Below w.heap.size w w' → Box w' q 129 [.string s1, .string s2, .bool l, .int .i64 (kd t.name t.leaf), .int .i64 num, kv] → RpA t w (.returned (.tuple #[.agg #[.pointer (some ⟨q, 0, none⟩), .slice va vl vc, .slice ha (0 + ph t) hc], .bool (!(false || pf t))])) w') from fun h q va ha vl vc hc s1 s2 l num kv w' hb hx => ⟨some ⟨q, 0, none⟩, va, ha, vl, vc, 0 + ph t, hc, !(false || pf t), rfl, hb, fun e => ⟨h, by cases e2 : pf t <;> simp [e2] at e ⊢, by omega, q, s1, s2, l, num, kv, rfl, hx⟩, fun e => .inr (by cases e2 : pf t <;> simp [e2] at e ⊢)⟩)
  clear hl hl0 bt0 bz0
  cases hok : t.ok
  · rw [hok] at HOK
    have HB2 := (show Hid _ from HBAD.out hok)
    clear HCP HGOOD HBAD hok
    simp only [Tr.val] at HOK ⊢
    generalize t.name = n0 at *
    generalize t.text = x0 at *
    generalize t.leaf = lf0 at *
    go_enter Try.func58, Try.ntmps58
    go_wp2_with fail
    refine Calls.mono HOK.out ?_
    rintro e w1 ⟨rfl, hb1⟩
    obtain ⟨g1, g2, g3⟩ := HT1.out w1 hb1
    have Z0 : w1.cell? ⟨w.heap.size + 1, 0, none⟩ = some (.pointer none) := g3.cell 0 (by simp)
    have Z1 : w1.cell? ⟨w.heap.size + 1, 1, none⟩ = some (.slice none 0 0) := g3.cell 1 (by simp)
    have Z2 : w1.cell? ⟨w.heap.size + 1, 2, none⟩ = some (.slice none 0 0) := g3.cell 2 (by simp)
    have F0 := g3.frozen 0
    have F1 := g3.frozen 1
    have F2 := g3.frozen 2
    have G1 := (show Hid _ from g1)
    clear hb1 g1 g2 g3 HOK HT1
    go_wp2_with fail
    refine bodyPost_ret (v := .tuple #[.agg #[.pointer none, .slice none 0 0, .slice none 0 0], .bool false]) (by simp [results, Try.results58, go_sem, Z0, Z1, Z2]) rfl ?_
    refine HB2.out _ ?_
    iterate 3 (refine Below.setCell ?_ (by simp <;> omega) _)
    exact G1.out
  · rw [hok] at HOK
    have HG2 := (show Hid _ from HGOOD.out hok)
    have HC2 := (show Hid _ from HCP.out hok)
    clear HCP HGOOD HBAD hok
    simp only [Tr.val] at HOK HC2 ⊢
    generalize hkd : kd t.name t.leaf = KD at *
    unfold PtA at HC2
    rw [hkd] at HC2
    clear hkd
    generalize t.name = n0 at *
    generalize t.text = x0 at *
    generalize t.leaf = lf0 at *
    go_enter Try.func58, Try.ntmps58
    go_wp2_with fail
    refine Calls.mono HOK.out ?_
    rintro e w1 ⟨rfl, hb1⟩
    obtain ⟨g1, g2, g3⟩ := HT1.out w1 hb1
    have hs1 : w.heap.size + 2 ≤ w1.heap.size := by have := g3.lt; omega
    have T0 : w1.cell? ⟨w.heap.size, 0, none⟩ = some (.string n0) := g2.cell 0 (by simp)
    have T1 : w1.cell? ⟨w.heap.size, 1, none⟩ = some (.string x0) := g2.cell 1 (by simp)
    have T2 : w1.cell? ⟨w.heap.size, 2, none⟩ = some (.bool lf0) := g2.cell 2 (by simp)
    have T3 : w1.cell? ⟨w.heap.size, 3, none⟩ = some (.slice a1 l1 p1) := g2.cell 3 (by simp)
    have gW := (g2.still (bel_alloc w1 (.map #[] 0))).still (bel_alloc _ (.cells #[.map (some w1.heap.size), .slice none 0 0, .slice none 0 0, .bool false] 112))
    have T0' : ((w1.alloc (.map #[] 0)).alloc (.cells #[.map (some w1.heap.size), .slice none 0 0, .slice none 0 0, .bool false] 112)).cell? ⟨w.heap.size, 0, none⟩ = some (.string n0) := gW.cell 0 (by simp)
    have T1' : ((w1.alloc (.map #[] 0)).alloc (.cells #[.map (some w1.heap.size), .slice none 0 0, .slice none 0 0, .bool false] 112)).cell? ⟨w.heap.size, 1, none⟩ = some (.string x0) := gW.cell 1 (by simp)
    have T2' : ((w1.alloc (.map #[] 0)).alloc (.cells #[.map (some w1.heap.size), .slice none 0 0, .slice none 0 0, .bool false] 112)).cell? ⟨w.heap.size, 2, none⟩ = some (.bool lf0) := gW.cell 2 (by simp)
    have T3' : ((w1.alloc (.map #[] 0)).alloc (.cells #[.map (some w1.heap.size), .slice none 0 0, .slice none 0 0, .bool false] 112)).cell? ⟨w.heap.size, 3, none⟩ = some (.slice a1 l1 p1) := gW.cell 3 (by simp)
    clear gW
    have HC3 := (show Hid _ from HC2.out w1 g1)
    have G1 := (show Hid _ from g1)
    have G3 := (show Hid _ from g3)
    clear hb1 g1 g2 g3 HOK HT1 HC2
    go_wp2_with fail
    refine Calls.mono HC3.out ?_
    rintro e w4 ⟨q, va, ha, vc, hc, uv', s1, s2, l, num, kv, rfl, hq, hbx, rs4, fm4, _, _, _, _⟩
    have hq' : w1.heap.size + 2 ≤ q := by simpa using hq
    have hql : q < w4.heap.size := hbx.lt
    have b4 : Below w1.heap.size w1 w4 := ((bel_alloc w1 (.map #[] 0)).alloc (by simp) (.cells #[.map (some w1.heap.size), .slice none 0 0, .slice none 0 0, .bool false] 112)).trans (fm4.below (B := w1.heap.size) (by
      rintro q (e | e | e | e | e)
      · omega
      · omega
      · cases e
      · cases e
      · cases e) (by simp; omega))
    have gz := G3.out.still b4
    have Z0 : w4.cell? ⟨w.heap.size + 1, 0, none⟩ = some (.pointer none) := gz.cell 0 (by simp)
    have Z1 : w4.cell? ⟨w.heap.size + 1, 1, none⟩ = some (.slice none 0 0) := gz.cell 1 (by simp)
    have Z2 : w4.cell? ⟨w.heap.size + 1, 2, none⟩ = some (.slice none 0 0) := gz.cell 2 (by simp)
    have F0 := gz.frozen 0
    have F1 := gz.frozen 1
    have F2 := gz.frozen 2
    have gA := gz.still (bel_alloc w4 (.cells #[.pointer (some ⟨q, 0, none⟩), .slice va (pv t []).length vc, .slice ha (0 + ph t) hc] 87))
    have Y0 : (w4.alloc (.cells #[.pointer (some ⟨q, 0, none⟩), .slice va (pv t []).length vc, .slice ha (0 + ph t) hc] 87)).cell? ⟨w.heap.size + 1, 0, none⟩ = some (.pointer none) := gA.cell 0 (by simp)
    have FY0 : (w4.alloc (.cells #[.pointer (some ⟨q, 0, none⟩), .slice va (pv t []).length vc, .slice ha (0 + ph t) hc] 87)).frozen? ⟨w.heap.size + 1, 0, none⟩ = false := gA.frozen 0
    have Y1 : (w4.alloc (.cells #[.pointer (some ⟨q, 0, none⟩), .slice va (pv t []).length vc, .slice ha (0 + ph t) hc] 87)).cell? ⟨w.heap.size + 1, 1, none⟩ = some (.slice none 0 0) := gA.cell 1 (by simp)
    have FY1 : (w4.alloc (.cells #[.pointer (some ⟨q, 0, none⟩), .slice va (pv t []).length vc, .slice ha (0 + ph t) hc] 87)).frozen? ⟨w.heap.size + 1, 1, none⟩ = false := gA.frozen 1
    have Y2 : (w4.alloc (.cells #[.pointer (some ⟨q, 0, none⟩), .slice va (pv t []).length vc, .slice ha (0 + ph t) hc] 87)).cell? ⟨w.heap.size + 1, 2, none⟩ = some (.slice none 0 0) := gA.cell 2 (by simp)
    have FY2 : (w4.alloc (.cells #[.pointer (some ⟨q, 0, none⟩), .slice va (pv t []).length vc, .slice ha (0 + ph t) hc] 87)).frozen? ⟨w.heap.size + 1, 2, none⟩ = false := gA.frozen 2
    have Y0d : (w4.alloc (.cells #[.pointer (some ⟨q, 0, none⟩), .slice va (pv t []).length vc, .slice ha (0 + ph t) hc] 87)).drew.cell? ⟨w.heap.size + 1, 0, none⟩ = some (.pointer none) := gA.drw.cell 0 (by simp)
    have FY0d : (w4.alloc (.cells #[.pointer (some ⟨q, 0, none⟩), .slice va (pv t []).length vc, .slice ha (0 + ph t) hc] 87)).drew.frozen? ⟨w.heap.size + 1, 0, none⟩ = false := gA.drw.frozen 0
    have Y1d : (w4.alloc (.cells #[.pointer (some ⟨q, 0, none⟩), .slice va (pv t []).length vc, .slice ha (0 + ph t) hc] 87)).drew.cell? ⟨w.heap.size + 1, 1, none⟩ = some (.slice none 0 0) := gA.drw.cell 1 (by simp)
    have FY1d : (w4.alloc (.cells #[.pointer (some ⟨q, 0, none⟩), .slice va (pv t []).length vc, .slice ha (0 + ph t) hc] 87)).drew.frozen? ⟨w.heap.size + 1, 1, none⟩ = false := gA.drw.frozen 1
    have Y2d : (w4.alloc (.cells #[.pointer (some ⟨q, 0, none⟩), .slice va (pv t []).length vc, .slice ha (0 + ph t) hc] 87)).drew.cell? ⟨w.heap.size + 1, 2, none⟩ = some (.slice none 0 0) := gA.drw.cell 2 (by simp)
    have FY2d : (w4.alloc (.cells #[.pointer (some ⟨q, 0, none⟩), .slice va (pv t []).length vc, .slice ha (0 + ph t) hc] 87)).drew.frozen? ⟨w.heap.size + 1, 2, none⟩ = false := gA.drw.frozen 2
    have hfc := rs4.bx.cell 3 (by simp)
    have FC : w4.cell? ⟨w1.heap.size + 1, 3, none⟩ = some (.bool (false || pf t)) := hfc
    have hs4 : w1.heap.size + 1 < w4.heap.size := rs4.bx.lt
    have HFIN := (show Hid _ from fun w' g g' => HG2.out q va ha (pv t []).length vc hc s1 s2 l num kv w' g g')
    have HB4 := (show Hid _ from bel_trans G1.out b4)
    have HBX := (show Hid _ from hbx)
    have hS0 : ((w4.alloc (.cells #[.pointer (some ⟨q, 0, none⟩), .slice va (pv t []).length vc, .slice ha (0 + ph t) hc] 87)).drew.cell? ⟨w4.heap.size, 0, none⟩ = some (.pointer (some ⟨q, 0, none⟩)) ∧ (w4.alloc (.cells #[.pointer (some ⟨q, 0, none⟩), .slice va (pv t []).length vc, .slice ha (0 + ph t) hc] 87)).drew.cell? ⟨w4.heap.size, 1, none⟩ = some (.slice va (pv t []).length vc) ∧ (w4.alloc (.cells #[.pointer (some ⟨q, 0, none⟩), .slice va (pv t []).length vc, .slice ha (0 + ph t) hc] 87)).drew.cell? ⟨w4.heap.size, 2, none⟩ = some (.slice ha (0 + ph t) hc)) ∧ (w4.alloc (.cells #[.pointer (some ⟨q, 0, none⟩), .slice va (pv t []).length vc, .slice ha (0 + ph t) hc] 87)).drew.cell? ⟨w1.heap.size + 1, 3, none⟩ = some (.bool (false || pf t)) := by
      have h := (Box.new w4 87 [.pointer (some ⟨q, 0, none⟩), .slice va (pv t []).length vc, .slice ha (0 + ph t) hc]).drw
      exact ⟨⟨h.cell 0 (by simp), h.cell 1 (by simp), h.cell 2 (by simp)⟩, ((rs4.bx.still (bel_alloc _ _)).drw).cell 3 (by simp)⟩
    have hS2 : (((((w4.alloc (.cells #[.pointer (some ⟨q, 0, none⟩), .slice va (pv t []).length vc, .slice ha (0 + ph t) hc] 87)).setCell ⟨w.heap.size + 1, 0, none⟩ (.pointer (some ⟨q, 0, none⟩))).setCell ⟨w.heap.size + 1, 1, none⟩ (.slice va (pv t []).length vc)).setCell ⟨w.heap.size + 1, 2, none⟩ (.slice ha (0 + ph t) hc)).drew.cell? ⟨w4.heap.size, 0, none⟩ = some (.pointer (some ⟨q, 0, none⟩)) ∧ ((((w4.alloc (.cells #[.pointer (some ⟨q, 0, none⟩), .slice va (pv t []).length vc, .slice ha (0 + ph t) hc] 87)).setCell ⟨w.heap.size + 1, 0, none⟩ (.pointer (some ⟨q, 0, none⟩))).setCell ⟨w.heap.size + 1, 1, none⟩ (.slice va (pv t []).length vc)).setCell ⟨w.heap.size + 1, 2, none⟩ (.slice ha (0 + ph t) hc)).drew.cell? ⟨w4.heap.size, 1, none⟩ = some (.slice va (pv t []).length vc) ∧ ((((w4.alloc (.cells #[.pointer (some ⟨q, 0, none⟩), .slice va (pv t []).length vc, .slice ha (0 + ph t) hc] 87)).setCell ⟨w.heap.size + 1, 0, none⟩ (.pointer (some ⟨q, 0, none⟩))).setCell ⟨w.heap.size + 1, 1, none⟩ (.slice va (pv t []).length vc)).setCell ⟨w.heap.size + 1, 2, none⟩ (.slice ha (0 + ph t) hc)).drew.cell? ⟨w4.heap.size, 2, none⟩ = some (.slice ha (0 + ph t) hc)) ∧ ((((w4.alloc (.cells #[.pointer (some ⟨q, 0, none⟩), .slice va (pv t []).length vc, .slice ha (0 + ph t) hc] 87)).setCell ⟨w.heap.size + 1, 0, none⟩ (.pointer (some ⟨q, 0, none⟩))).setCell ⟨w.heap.size + 1, 1, none⟩ (.slice va (pv t []).length vc)).setCell ⟨w.heap.size + 1, 2, none⟩ (.slice ha (0 + ph t) hc)).drew.cell? ⟨w1.heap.size + 1, 3, none⟩ = some (.bool (false || pf t)) := by
      have h := ((((Box.new w4 87 [.pointer (some ⟨q, 0, none⟩), .slice va (pv t []).length vc, .slice ha (0 + ph t) hc]).past (q := w.heap.size + 1) (o := 0) (u := .pointer (some ⟨q, 0, none⟩)) (by omega)).past (q := w.heap.size + 1) (o := 1) (u := .slice va (pv t []).length vc) (by omega)).past (q := w.heap.size + 1) (o := 2) (u := .slice ha (0 + ph t) hc) (by omega)).drw
      have h' := ((((rs4.bx.still (bel_alloc w4 (.cells #[.pointer (some ⟨q, 0, none⟩), .slice va (pv t []).length vc, .slice ha (0 + ph t) hc] 87))).past (q := w.heap.size + 1) (o := 0) (u := .pointer (some ⟨q, 0, none⟩)) (by omega)).past (q := w.heap.size + 1) (o := 1) (u := .slice va (pv t []).length vc) (by omega)).past (q := w.heap.size + 1) (o := 2) (u := .slice ha (0 + ph t) hc) (by omega)).drw
      exact ⟨⟨h.cell 0 (by simp), h.cell 1 (by simp), h.cell 2 (by simp)⟩, h'.cell 3 (by simp)⟩
    have gZ := (((gA.set 0 (.pointer (some ⟨q, 0, none⟩))).set 1 (.slice va (pv t []).length vc)).set 2 (.slice ha (0 + ph t) hc)).drw
    have E0 : ((((w4.alloc (.cells #[.pointer (some ⟨q, 0, none⟩), .slice va (pv t []).length vc, .slice ha (0 + ph t) hc] 87)).setCell ⟨w.heap.size + 1, 0, none⟩ (.pointer (some ⟨q, 0, none⟩))).setCell ⟨w.heap.size + 1, 1, none⟩ (.slice va (pv t []).length vc)).setCell ⟨w.heap.size + 1, 2, none⟩ (.slice ha (0 + ph t) hc)).drew.cell? ⟨w.heap.size + 1, 0, none⟩ = some (.pointer (some ⟨q, 0, none⟩)) := gZ.cell 0 (by simp)
    have E1 : ((((w4.alloc (.cells #[.pointer (some ⟨q, 0, none⟩), .slice va (pv t []).length vc, .slice ha (0 + ph t) hc] 87)).setCell ⟨w.heap.size + 1, 0, none⟩ (.pointer (some ⟨q, 0, none⟩))).setCell ⟨w.heap.size + 1, 1, none⟩ (.slice va (pv t []).length vc)).setCell ⟨w.heap.size + 1, 2, none⟩ (.slice ha (0 + ph t) hc)).drew.cell? ⟨w.heap.size + 1, 1, none⟩ = some (.slice va (pv t []).length vc) := gZ.cell 1 (by simp)
    have E2 : ((((w4.alloc (.cells #[.pointer (some ⟨q, 0, none⟩), .slice va (pv t []).length vc, .slice ha (0 + ph t) hc] 87)).setCell ⟨w.heap.size + 1, 0, none⟩ (.pointer (some ⟨q, 0, none⟩))).setCell ⟨w.heap.size + 1, 1, none⟩ (.slice va (pv t []).length vc)).setCell ⟨w.heap.size + 1, 2, none⟩ (.slice ha (0 + ph t) hc)).drew.cell? ⟨w.heap.size + 1, 2, none⟩ = some (.slice ha (0 + ph t) hc) := gZ.cell 2 (by simp)
    clear hq hbx rs4 fm4 b4 gz gA gZ hfc HG2 HC3 G1 G3 T0 T1 T2 T3 T0' T1' T2' T3'
    generalize (pv t []).length = PV at *
    generalize (false || pf t) = FB at *
    generalize 0 + ph t = PH at *
    go_wp2_with fail
    go_region_held3 (fun wq => (wq.cell? ⟨w4.heap.size, 0, none⟩ = some (.pointer (some ⟨q, 0, none⟩)) ∧ wq.cell? ⟨w4.heap.size, 1, none⟩ = some (.slice va PV vc) ∧ wq.cell? ⟨w4.heap.size, 2, none⟩ = some (.slice ha PH hc)) ∧ wq.cell? ⟨w1.heap.size + 1, 3, none⟩ = some (.bool FB)) (first | with_reducible exact hS0 | with_reducible exact hS2) (fail)
    clear hS0 hS2
    go_wp2_with fail
    refine bodyPost_ret (v := .tuple #[.agg #[.pointer (some ⟨q, 0, none⟩), .slice va PV vc, .slice ha PH hc], .bool (!FB)]) (by simp [results, Try.results58, go_sem, E0, E1, E2]) rfl ?_
    refine HFIN.out _ ?_ ?_
    · have h0 : Below w.heap.size w (w4.alloc (.cells #[.pointer (some ⟨q, 0, none⟩), .slice va PV vc, .slice ha PH hc] 87)) := HB4.out.alloc (by omega) _
      exact (((h0.setCell (by show w.heap.size ≤ w.heap.size + 1; omega) _).setCell (by show w.heap.size ≤ w.heap.size + 1; omega) _).setCell (by show w.heap.size ≤ w.heap.size + 1; omega) _).drew
    · exact ((((HBX.out.still (bel_alloc _ _)).past (by omega)).past (by omega)).past (by omega)).drw
end Go.Proofs.Ytboffildchoelaa
