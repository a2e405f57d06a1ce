import Derived.Test.YtpmlagenakcdfaaZc
/-! The program: the Kids of a node. -/
namespace Go.Proofs.Ytpmlagenakcdfaa
open Go.RowKit Go.Deep
set_option linter.unusedVariables false
set_option maxRecDepth 100000
set_option linter.unusedSimpArgs false

theorem tk_len {N : Nat} {r : Int → Nat → Option Nat} {g : Nat → List Wd → List T.Tr × List Wd} (hg : ∀ s a b ws, r s a = some b → a < b ∧ (g a ws).1.length + (g a ws).2.length ≤ ws.length + (b - a)) (ss : List Int) : ∀ (a b : Nat) (ws : List Wd), rdk N r ss a = some b → a ≤ b ∧ (tk N r g ss a ws).1.length + (tk N r g ss a ws).2.length ≤ ws.length + (b - a) := by
  induction ss with
  | nil =>
    intro a b ws e
    simp only [rdk, Option.some.injEq] at e
    subst e
    exact ⟨Nat.le_refl _, by simp [tk]⟩
  | cons s ss ih =>
    intro a b ws e
    simp only [rdk] at e
    simp only [tk]
    split at e
    · rename_i hs
      rw [if_pos hs]
      have h1 := ih a b (lvs ws).2 e
      have h3 := lvs_len ws
      simp only [List.length_append]
      omega
    · rename_i hs
      rw [if_neg hs]
      cases e2 : r s a with
      | none => rw [e2] at e; cases e
      | some c =>
        rw [e2] at e
        simp only [Option.getD_some, List.length_append]
        have h1 := ih c b (g a ws).2 e
        have h2 := hg s a c ws e2
        omega
theorem gv_len (d : Bn) (L : List Int) : ∀ (f : Nat) (s : Int) (a b : Nat) (ws : List Wd), rd d L f s a = some b → (gv d L f a ws).1.length + (gv d L f a ws).2.length ≤ ws.length + (b - a) := by
  intro f
  induction f with
  | zero => intro s a b ws e; cases e
  | succ f ih =>
    intro s a b ws e
    have hgt := rd_gt d L _ _ _ _ e
    obtain ⟨_, hend⟩ := rd_succ e
    unfold atP at hend
    rw [List.take_length] at hend
    have h1 := tk_len (N := d.terms.length) (g := gv d L f) (fun s a b ws e => ⟨(rd_gt d L f s a b e).1, ih s a b ws e⟩) _ _ _ ws hend
    rw [gv_succ]
    have e2 : kd d L f a ws = tk d.terms.length (rd d L f) (gv d L f) (pa d L a).right (a + 1) ws := by
      unfold kd tp
      rw [List.take_length]
    split
    · rw [e2]; simp only [List.length_cons, List.length_nil]; omega
    · rw [e2]; omega
theorem tp_len {d : Bn} {L : List Int} {f a i x : Nat} {ws : List Wd} (hx : atP d L f a i = some x) : a + 1 ≤ x ∧ (tp d L f a i ws).1.length + (tp d L f a i ws).2.length ≤ ws.length + (x - (a + 1)) :=
  tk_len (N := d.terms.length) (g := gv d L f) (fun s a b ws e => ⟨(rd_gt d L f s a b e).1, gv_len d L f s a b ws e⟩) _ _ _ ws hx
/-- The Kids, by the derivation's own fuel. -/
def kdf (d : Bn) (L : List Int) : Nat → Nat → List Wd → List T.Tr × List Wd
  | 0, _, ws => ([], ws)
  | f + 1, a, ws => kd d L f a ws
theorem LvI.trans {d : Bn} {S S' : Nat → Prop} {R B : Nat} {v0 v1 v3 : Value} {w wr w' : World} {ws : List Wd} {k : List T.Tr} {u : Value} (h : Kp B R w wr) (h2 : LvI NF d S S' R B v0 v1 v3 wr w' ws k u) : LvI NF d S S' R B v0 v1 v3 w w' ws k u := ⟨h.trans h2.kp, h2.tw, h2.gf, fun q hq => hq.elim⟩
set_option maxHeartbeats 25600000 in
theorem kids_i {S S' K : Nat → Prop} {R : Nat} {v0 v1 v3 : Value} {d : Bn} {L : List Int} (hok : bnB d = true) (hK : ∀ q, K q → q < R) : ∀ (f a b : Nat) (s : Int) (v u : Value) (ws : List Wd) (k : List T.Tr) (w : World) (B : Nat), TwI d S S' R v0 v1 v3 w ws → DP d L w K f a v → rd d L f s a = some b → R < B → B ≤ w.heap.size → T.Grw k B k.length u w → k.length + ws.length + (b - a) ≤ 1000000 →
    Calls Try.prog 87 #[.pointer (some ⟨R, 0, none⟩), v, u] w fun e w' => ∃ u', e = .returned u' ∧ LvI NF d S S' R B v0 v1 v3 w w' (kdf d L f a ws).2 (k ++ (kdf d L f a ws).1) u' := by
  intro f
  induction f with
  | zero => intro a b s v u ws k w B h hp hr; cases hr
  | succ f ih =>
  intro a b s v u ws k w B h hp hr hRB hB hg hlen
  have IH := (show Hid _ from ih)
  clear ih
  obtain ⟨ho, hend⟩ := rd_succ hr
  have hab := (rd_gt d L _ _ _ _ hr).1
  obtain ⟨kn, hkn, hnum, hpa, hleft, hal⟩ := okAt_prod ho
  obtain ⟨jk1, jk2, hl12, hrr, jk3, jk4⟩ := pd_of hok hkn
  rw [← hpa] at hl12
  obtain ⟨g, kb, kc, ka, vs, ats, rfl, hKg, u0, u1, hkc, hka, hkid, _⟩ := hp
  have HI0 := (show Hid (∀ n, LvI NF d S S' R B v0 v1 v3 w (w.drewN n) (tp d L f a 0 ws).2 (k ++ (tp d L f a 0 ws).1) u) from fun n => by
    rw [tp_zero, List.append_nil]
    exact ⟨(Kp.refl _ _ _).drewN n, h.keep (fun _ _ => rfl), GrF.of (hg.carry (Nat.le_refl _) (fun _ _ _ => rfl)), fun q hq => hq.elim⟩)
  have HKD := (show Hid _ from hkid)
  have HKB := (show Hid _ from hka)
  have HA0 := (show Hid (atP d L f a 0 = some (a + 1)) from atP_zero d L f a)
  have HKA := (show Hid _ from fun (i x : Nat) (hi : i < (pa d L a).right.length) (hx : atP d L f a i = some x) => kid_at hend hi hx)
  have HTS := (show Hid _ from fun (i x : Nat) (hi : i < (pa d L a).right.length) (hx : atP d L f a i = some x) => tp_succ (ws := ws) hi hx)
  have HLE := (show Hid (∀ (i x : Nat), atP d L f a i = some x → x ≤ b ∧ a + 1 ≤ x ∧ (k ++ (tp d L f a i ws).1).length + (tp d L f a i ws).2.length ≤ k.length + ws.length + (x - (a + 1))) from fun i x hx => ⟨atP_le hx hend, (tp_len (ws := ws) hx).1, by have := (tp_len (ws := ws) hx).2; rw [List.length_append]; omega⟩)
  have HBB := (show Hid (R < B ∧ B ≤ w.heap.size) from ⟨hRB, hB⟩)
  have HKR := (show Hid _ from hK)
  have HOK := (show Hid _ from hok)
  have HCELL := (show Hid (∀ (w' : World), Kp B R w w' → (∀ q o v, q < R → w.cell? ⟨q, o, none⟩ = some v → w'.cell? ⟨q, o, none⟩ = some v) ∧ (∀ q, q < R → w'.heap[q]? = w.heap[q]?)) from fun w' hk => ⟨fun q o v hq hc => (hk.cell (p := ⟨q, o, none⟩) (by show q < B; omega) (by show q ≠ R; omega)).trans hc, fun q hq => hk.block q (by omega) (by omega)⟩)
  have HKDF := (show Hid (kdf d L (f + 1) a ws = tp d L f a (pa d L a).right.length ws) from rfl)
  obtain ⟨i48, hi48, hzz⟩ := Option.map_eq_some_iff.1 info48y
  simp only [Prod.mk.injEq] at hzz
  obtain ⟨hz0, hz1, hz2⟩ := hzz
  clear hkid hka hend hr ho hleft hnum hpa hrr jk1 jk2 jk3 jk4 hg hB hRB hok h hK u0 hal
  obtain ⟨P, hP⟩ : ∃ P, pa d L a = P := ⟨_, rfl⟩
  have HP := (show Hid _ from hP)
  rw [hP] at hl12 hkc u1
  clear hP
  go_enter Try.func87, Try.ntmps87
  go_wp2_with fail
  go_loopw [2, 14] (fun u' i wr => ∃ j x : Nat, i = .int .i64 j ∧ j ≤ P.right.length ∧ Hid (atP d L f a j = some x ∧ LvI NF d S S' R B v0 v1 v3 w wr (tp d L f a j ws).2 (k ++ (tp d L f a j ws).1) u')) (fun _ i _ => P.right.length - (intOf i).toNat)
  case atStart => exact ⟨0, a + 1, rfl, Nat.zero_le _, HA0.out, HI0.out 0⟩
  case round =>
    obtain ⟨j, x, rfl, hj, HJ⟩ := hrel
    have HXJ := (show Hid _ from HJ.out.1)
    have HLI := (show Hid _ from HJ.out.2)
    clear HJ
    by_cases hlt : j < P.right.length
    · have hltA : j < (pa d L a).right.length := by rw [HP.out]; exact hlt
      obtain ⟨hlow, hblk⟩ := HCELL.out wr HLI.out.kp
      obtain ⟨e2, hKk⟩ := HKB.out (by rw [HP.out]; omega)
      subst e2
      obtain ⟨k1, k2, k3, k4⟩ := HKD.out j hltA
      rw [HXJ.out] at k1
      have k1 : x = ats j := by simpa using k1
      rw [← k1] at k4
      have k2' := hlow kb _ _ (HKR.out _ hKk) k2
      have hts := HTS.out j x hltA HXJ.out
      have hka2 := HKA.out j x hltA HXJ.out
      obtain ⟨le1, le2, le3⟩ := HLE.out j x HXJ.out
      obtain ⟨y, hy⟩ : ∃ y, (pa d L a).right[j] = y := ⟨_, rfl⟩
      rw [hy] at hts k3 k4 hka2
      have hjm : j ≤ 12 := by omega
      have HBK := (show Hid _ from hblk)
      have HLEN := (show Hid ((k ++ (tp d L f a j ws).1).length + (tp d L f a j ws).2.length ≤ 1000000 ∧ (k ++ (tp d L f a j ws).1).length + (tp d L f a j ws).2.length ≤ k.length + ws.length + (x - (a + 1)) ∧ x ≤ b ∧ a + 1 ≤ x) from ⟨by omega, le3, le1, le2⟩)
      clear hlow hKk k2 k1 hblk le3
      by_cases hyt : y < (d.terms.length : Int)
      · rw [if_pos hyt] at hts
        have hat := hka2.1 hyt
        have hv := k3 hyt
        rw [hv] at k2'
        have HCL := (show Hid _ from leaves_i (F := NF) (fun q hq => hq.elim) d (tp d L f a j ws).2 (k ++ (tp d L f a j ws).1) u2 wr HLI.out.tw HBB.out.1 (Nat.le_trans HBB.out.2 HLI.out.kp.size) HLI.out.gf HLEN.out.1)
        have HN := (show Hid _ from (⟨hat, hts⟩ : _ ∧ _))
        clear hka2 hat hts hv k3 k4 hy le1 le2 HBK
        go_wp2_with fail
        refine Calls.mono HCL.out ?_
        rintro e w7 ⟨u7, rfl, hL7⟩
        have HF : Hid (atP d L f a (j + 1) = some x ∧ LvI NF d S S' R B v0 v1 v3 w w7 (tp d L f a (j + 1) ws).2 (k ++ (tp d L f a (j + 1) ws).1) u7) := by
          refine ⟨HN.out.1, ?_⟩
          rw [HN.out.2]
          dsimp only
          rw [← List.append_assoc]
          exact hL7.trans HLI.out.kp
        clear hL7 HCL
        go_wp2_with fail
        exact ⟨⟨j + 1, x, by go_num, by omega, HF⟩, by simp [intOf]; omega⟩
      · rw [if_neg hyt] at hts
        obtain ⟨c, hc, hat⟩ := hka2.2 (by omega)
        have hdp := k4 (by omega)
        have hxc := (rd_gt d L _ _ _ _ hc).1
        have hcb := (HLE.out (j + 1) c hat).1
        obtain ⟨gq, hv, _⟩ := DPg_form hdp
        rw [hv] at k2' hdp
        cases f with
        | zero => exact hdp.elim
        | succ f =>
        have HDQ := (show Hid (DP d L wr K (f + 1) x (.pointer (some ⟨gq, 0, none⟩))) from DP.keep (fun q hq _ => HBK.out q (HKR.out q hq)) _ _ _ hdp)
        have HHC := (show Hid _ from hc)
        have HBND := (show Hid ((k ++ (tp d L (f + 1) a j ws).1).length + (tp d L (f + 1) a j ws).2.length + (c - x) ≤ 1000000) from by have := HLEN.out; show _ ≤ _; omega)
        have HN := (show Hid _ from (⟨hat, hts⟩ : _ ∧ _))
        have HGS := (show Hid _ from gv_succ d L f x (tp d L (f + 1) a j ws).2)
        clear hka2 hat hts hv k3 k4 hy le1 le2 HBK hdp hcb hxc HLEN HTS HLE HKD HKB HKA HA0 HI0 HKDF HCELL hc
        obtain ⟨K1, hK1⟩ : ∃ K1, k ++ (tp d L (f + 1) a j ws).1 = K1 := ⟨_, rfl⟩
        obtain ⟨W1, hW1⟩ : ∃ W1, (tp d L (f + 1) a j ws).2 = W1 := ⟨_, rfl⟩
        rw [hK1, hW1] at HLI HBND
        rw [hW1] at HN HGS
        have HK1 := (show Hid _ from hK1)
        clear hK1 hW1
        have HNO := (show Hid (∀ (w' : World), Below wr.heap.size wr w' → Calls Try.prog 86 #[.pointer (some ⟨R, 0, none⟩), .pointer (some ⟨gq, 0, none⟩)] w' fun e w'' => e = .returned (.int .i64 ((pa d L x).left - d.terms.length)) ∧ Below w'.heap.size w' w'') from fun w' hb => nonOf_i HOK.out f x c y _ W1 w' (HLI.out.tw.still hb) (DP.keep (fun q _ hq => hb.block q hq) _ _ _ HDQ.out) HHC.out)
        have HO2 := (show Hid (∀ (w' : World), Below wr.heap.size wr w' → w'.cell? ⟨R, 2, none⟩ = some (.int .i64 d.own)) from fun w' hb => by
          obtain ⟨⟨vw, hbx, _⟩, _⟩ := HLI.out.tw.still hb
          exact hbx.cell 2 (by simp))
        have o2 := HO2.out wr (Below.refl _ _)
        have HDR := (show Hid _ from (Below.refl wr.heap.size wr).drew)
        obtain ⟨Q, hQ⟩ : ∃ Q, pa d L x = Q := ⟨_, rfl⟩
        rw [hQ] at HNO HGS
        have HQ := (show Hid _ from hQ)
        clear hQ
        go_upto_region 7 with fail
        go_cut [28] from 29 to 37 (fun v wx => v = .bool (decide (Q.left - d.terms.length < d.own)) ∧ Hid (Below wr.heap.size wr wx))
        case first =>
          clear IH HLI HDQ HHC HBND HN HGS HK1 HQ
          go_region_with (go_at_call 86; refine Calls.mono (HNO.out _ HDR.out) ?_; rintro e w7 ⟨rfl, hb7⟩; have o2' := HO2.out w7 (HDR.out.trans hb7))
          all_goals
            go_wp2_with fail
            go_meet
            exact ⟨rfl, HDR.out.trans hb7⟩
        case rest =>
          obtain ⟨w6, rfl⟩ : ∃ w6, w6 = wc := ⟨_, rfl⟩
          obtain ⟨rfl, HC6⟩ := hcut
          have HLJ := (show Hid (LvI NF d S S' R B v0 v1 v3 w w6 W1 K1 u2) from ⟨HLI.out.kp.trans ((Below.kp HC6.out R).mono (by have := HLI.out.kp.size; have := HBB.out.2; omega)), HLI.out.tw.still HC6.out, GrF.of (HLI.out.gr.still HC6.out), fun q hq => hq.elim⟩)
          have HDW := (show Hid (DP d L w6 K (f + 1) x (.pointer (some ⟨gq, 0, none⟩))) from DP.keep (fun q _ hq => HC6.out.block q hq) _ _ _ HDQ.out)
          have hBw : B ≤ w6.heap.size := Nat.le_trans HBB.out.2 HLJ.out.kp.size
          have HBW := (show Hid _ from hBw)
          clear HNO HO2 o2 HDR HLI HDQ HC6 hBw k2'
          by_cases hown : Q.left - (d.terms.length : Int) < d.own
          · have hd : decide (Q.left - (d.terms.length : Int) < d.own) = true := by simp [hown]
            rw [hd]
            have hgs := HGS.out
            rw [if_pos hown] at hgs
            have HND := (show Hid _ from node_i HOK.out f x c y _ W1 w6 HLJ.out.tw HDW.out HHC.out HKR.out (fun W hW hDW => by
              have h1 := IH.out x c y _ (.slice none 0 0) W1 [] W W.heap.size hW hDW HHC.out hW.lt (Nat.le_refl _) (T.Grw.nil _ _ _) (by have := HBND.out; simp; omega)
              simpa [kdf] using h1))
            have HGV := (show Hid _ from hgs)
            clear hd hown hgs HGS
            go_wp2_with fail
            refine Calls.mono HND.out ?_
            rintro e w8 ⟨u9, rfl, hk8, ht8, ho8, _⟩
            rw [HQ.out] at ho8 ⊢
            obtain ⟨au, mu, cu, rfl⟩ := T.Own.form ho8
            obtain ⟨TR, hTR⟩ : ∃ TR : T.Tr, TR = ⟨ndN d Q, ByteArray.empty, false, (kd d L f x W1).1⟩ := ⟨_, rfl⟩
            rw [← hTR] at ho8 HGV
            have hnm : TR.name = ndN d Q := by rw [hTR]
            have htx : TR.text = ByteArray.empty := by rw [hTR]
            have hlf : TR.leaf = false := by rw [hTR]
            obtain ⟨fs, l, hh, hoo, hls, hrr2, hdd, hff⟩ := GrF.ext HLJ.out.gf [TR]
            have hba := bel_alloc w8 (.cells #[.string (ndN d Q), .string ByteArray.empty, .bool false, .slice au mu cu] 48)
            have hk9 : Kp w6.heap.size R w6 (w8.alloc (.cells #[.string (ndN d Q), .string ByteArray.empty, .bool false, .slice au mu cu] 48)) := hk8.trans ((Below.kp hba R).mono hk8.size)
            have HO1 := (show Hid _ from own_keep1 hoo (fun q hq => hk9.block q (World.ownsRow.lt hoo q hq).2 (by have := (World.ownsRow.lt hoo q hq).1; have := HBB.out.1; omega)))
            have hkl : K1.length ≤ 1000000 := by have := HBND.out; omega
            have HSTP := (show Hid _ from (⟨hk9, ht8.still hba, T.Own.still ho8 hba, hba.size, hoo, hls, hrr2, hdd, hff⟩ : _ ∧ _ ∧ _ ∧ _ ∧ _ ∧ _ ∧ _ ∧ _ ∧ _))
            have HSZ := (show Hid (B ≤ w8.heap.size) from Nat.le_trans HBW.out hk8.size)
            have HNMX := (show Hid _ from (⟨hnm, htx, hlf⟩ : _ ∧ _ ∧ _))
            clear hk8 ht8 ho8 hba hk9 hoo hls hrr2 hdd hff hnm htx hlf hTR HND
            go_wp2_with (at_builtin; refine wpList_append_lies _ rfl (.tmp 38) (.tmp 42) 46 rfl B 48 i48 _ 4 64 Try.underlying46 hi48 hz0 hz1 hz2 rfl (by decide) _ K1.length _ rfl HO1.out ⟨w8.heap.size, 0, none⟩ 1 1 [.string (ndN d Q), .string ByteArray.empty, .bool false, .slice au mu cu] rfl rfl ?c1 ?c2 (by decide) ?c3 ?c5 ?c4 _ rfl ?nx)
            case c1 => exact T.cell_four_box w8 (.string (ndN d Q)) (.string ByteArray.empty) (.bool false) (.slice au mu cu) 48
            case c2 => intro y hy; simp at hy; rcases hy with rfl | rfl | rfl | rfl <;> rfl
            case c3 => unfold maxLen; omega
            case c5 => omega
            case c4 => have h1 := HSZ.out; simp; omega
            case nx =>
              intro g7 cap7 w7 hown7 hgr7 hat7 hlt7
              obtain ⟨p1, p2, p3, p4, p5, p6, p7, p8, p9⟩ := HSTP.out
              obtain ⟨hkp7, hg7, hlow, _⟩ := LvI.step (F := NF) (k' := K1) (t := TR) (kv := .slice au mu cu) (w2 := w8.alloc (.cells #[.string (ndN d Q), .string ByteArray.empty, .bool false, .slice au mu cu] 48)) HBB.out.1 HBB.out.2 HLJ.out.kp p5 p6 p7 p8 p9 p1 p3 (Nat.le_refl _) p4 (by rw [HNMX.out.1, HNMX.out.2.1, HNMX.out.2.2]; exact hown7) hgr7 (by simpa using hat7)
              have HF : Hid (atP d L (f + 1) a (j + 1) = some c ∧ LvI NF d S S' R B v0 v1 v3 w w7 (tp d L (f + 1) a (j + 1) ws).2 (k ++ (tp d L (f + 1) a (j + 1) ws).1) (.slice (some ⟨g7, 0, none⟩) (K1.length + 1) cap7)) := by
                refine ⟨HN.out.1, ?_⟩
                rw [HN.out.2]
                dsimp only
                rw [← List.append_assoc, HK1.out, HGV.out]
                exact ⟨hkp7, p2.keep (fun q hq => hlow q (by have := HBB.out.1; omega)), hg7, fun q hq => hq.elim⟩
              clear hkp7 hg7 hlow hown7 hgr7 hat7 hlt7 p1 p2 p3 p4 p5 p6 p7 p8 p9
              go_wp2_with fail
              exact ⟨⟨j + 1, c, by go_num, by omega, HF⟩, by simp [intOf]; omega⟩
          · have hd : decide (Q.left - (d.terms.length : Int) < d.own) = false := by simp; omega
            rw [hd]
            have hgs := HGS.out
            rw [if_neg hown] at hgs
            have HGV := (show Hid _ from hgs)
            have HCL := (show Hid _ from IH.out x c y _ u2 W1 K1 w6 B HLJ.out.tw HDW.out HHC.out HBB.out.1 HBW.out HLJ.out.gr (by have := HBND.out; omega))
            clear hd hown hgs HGS
            go_wp2_with fail
            refine Calls.mono HCL.out ?_
            rintro e w7 ⟨u7, rfl, hL7⟩
            have HF : Hid (atP d L (f + 1) a (j + 1) = some c ∧ LvI NF d S S' R B v0 v1 v3 w w7 (tp d L (f + 1) a (j + 1) ws).2 (k ++ (tp d L (f + 1) a (j + 1) ws).1) u7) := by
              refine ⟨HN.out.1, ?_⟩
              rw [HN.out.2]
              dsimp only
              rw [← List.append_assoc, HK1.out, HGV.out]
              exact hL7.trans HLJ.out.kp
            clear hL7 HCL
            go_wp2_with fail
            exact ⟨⟨j + 1, c, by go_num, by omega, HF⟩, by simp [intOf]; omega⟩
    · have hje : j = (pa d L a).right.length := by rw [HP.out]; omega
      have HE : Hid (LvI NF d S S' R B v0 v1 v3 w wr (kdf d L (f + 1) a ws).2 (k ++ (kdf d L (f + 1) a ws).1) u2) := by
        have h1 := HLI.out
        rw [hje] at h1
        rw [HKDF.out]
        exact h1
      clear hje
      go_wp2_with fail
      go_ret
      exact ⟨u2, rfl, HE.out⟩
end Go.Proofs.Ytpmlagenakcdfaa
