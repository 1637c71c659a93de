/-
  Texts of this claim put together: Rp14.
-/
import Derived.Test.YtnkjdijbfnmnhaaGreatJ50
import Derived.Test.YtnkjdijbfnmnhaaGreatJ44
import Derived.Test.YtnkjdijbfnmnhaaGreatJ42
import Derived.Test.YtnkjdijbfnmnhaaGreatJ48
import Derived.Test.YtnkjdijbfnmnhaaGreatHeld
import Derived.Deep.RegionHeld
import Derived.Deep.DeepCutAuto
/-
  The document's Put of a configuration, and of a record.
-/
namespace Go.Proofs.YtnkjdijbfnmnhaaGreat
open Go.RowKit

theorem sees_u8 (w : World) (n : Nat) (h : n < 256) : Sees (w.alloc (.cells #[.int .u8 n] 5)) (w.heap.size + 1) (some ⟨w.heap.size, 0, none⟩) (bv [UInt8.ofNat n]) :=
  sees_box w #[.int .u8 n] 5 _ (by rw [bv_one, byte_of h])

set_option maxRecDepth 100000 in
set_option maxHeartbeats 1600000 in
theorem refNodes_any (l r : List UInt8) (x : NdM) (n : Nat) (hnn : x.l.length = n) (base : Nat) (v : Value) (B : Nat) (w : World) (hres : l ++ nodesB x.l = r) (hl : l.length ≤ 800000) (hx : NdM.ok w B x) (hB : B ≤ base)
    (hown : w.ownsRow base 5 1 v l.length (bv l)) (hbase : base ≤ w.heap.size) :
    Calls Tryz.prog 126 #[v, .slice x.A n x.c] w (PutsOn base v r w) := by
  obtain ⟨A, c, f⟩ := x
  simp only at hnn hres hx
  have HM := hide_ hx.1
  have HS := hide_ hx.2
  have HN := hide_ hnn
  have HO := hide_ hown
  obtain ⟨l1, hl1⟩ : ∃ l1, l ++ numB n = l1 := ⟨_, rfl⟩
  have HR := hide_ (show l1 ++ (f.take n).flatMap ndB = r by
    rw [← hnn, List.take_length, ← hl1, ← hres, ← hnn]
    simp only [List.append_assoc, nodesB])
  have hm := hx.1
  simp only at hm
  have HL1 := hide_ hl1
  have HNL0 := hide_ (numB_length n (by omega))
  have HLE := hide_ (show l1.length ≤ 800010 by rw [← hl1, List.length_append]; have := HNL0.out; omega)
  have HNB := hide_ (show n < 18446744073709551616 by omega)
  have HM2 := hide_ (show n ≤ 100 by omega)
  clear hx hnn hown hres hl1 hm HM
  have hn100 : n ≤ 100 := HM2.out
  go_enter Tryz.func126, Tryz.ntmps126
  go_wp2_with fail
  refine (refNum_any n (numB n) w rfl HNB.out).mono ?_
  rintro en w2 ⟨A2, c2, rfl, hown2, hb2⟩
  have HB2 := hide_ hb2
  have HO2 := hide_ hown2
  clear hb2 hown2
  go_wp2_with (first | (at_builtin; refine wpList_append_row _ rfl _ _ 50 rfl base u8_info Tryz.underlying50 _ l (numB n) l1 HL1.out rfl (own_below HO.out HB2.out) w2.heap.size A2 (numB n).length c2 rfl rfl (Sees.own HO2.out) ⟨by omega, by have := HNL0.out; omega⟩ (by have := HB2.out.size; omega) ?_; intro A3 c3 w3 hst; have HST := hide_ (RowStep.fresh HB2.out hst); clear hst) | fail)
  go_loopw [0, 14] (fun b i wr => ∃ (k : Nat), k ≤ n ∧ i = .int .i64 k ∧ Hid (RowStep base v w b wr (l1 ++ (f.take k).flatMap ndB))) (fun _ i _ => n - (intOf i).toNat)
  case atStart => exact ⟨0, Nat.zero_le _, rfl, hide_ (show RowStep base v w _ _ (l1 ++ (f.take 0).flatMap ndB) from by rw [List.take_zero, List.flatMap_nil, List.append_nil]; exact HST.out)⟩
  case round =>
    obtain ⟨k, hk, rfl, HK⟩ := hrel
    have hzw : w.heap.size ≤ wr.heap.size := HK.out.grow.size
    have hbw : Below B w wr := HK.out.below HO.out hB (by omega)
    by_cases hlt : k < n
    · obtain ⟨x, hx⟩ : ∃ x, f[k]? = some x := ⟨_, List.getElem?_eq_getElem (by rw [HN.out]; exact hlt)⟩
      obtain ⟨tb, ot, hAe, hab, e0⟩ := (HS.out.below hbw).u8 (k := k) (by rw [HN.out]; exact hlt)
      rw [(List.getElem?_eq_some_iff.1 hx).2] at e0
      have hwz : tb < wr.heap.size := by omega
      subst hAe
      have HX := hide_ (show l1 ++ (f.take (k + 1)).flatMap ndB = (l1 ++ (f.take k).flatMap ndB) ++ ndB x by
        rw [flat_snoc hx]
        simp only [List.append_assoc])
      have HLN := hide_ (show (l1 ++ (f.take k).flatMap ndB).length ≤ 802000 by
        have h1 := flat_take_le (f := ndB) (q := 10) f (fun z _ => ndB_len z) k
        have h2 := HLE.out
        have h3 := HM2.out
        rw [HN.out] at h1
        rw [List.length_append]
        omega)
      have HXL := hide_ (ndB_len x)
      have HY := hide_ (show x.toNat < 18446744073709551616 by have := x.toNat_lt; omega)
      have h255 : x.toNat ≤ 255 := by have := x.toNat_lt; omega
      obtain ⟨l2, hl2⟩ : ∃ l2, l1 ++ (f.take (k + 1)).flatMap ndB = l2 := ⟨_, rfl⟩
      rw [hl2] at HX
      have HL2 := hide_ hl2
      have HXB := hide_ (show ndB x = numB x.toNat from rfl)
      clear hl2 hx hbw
      generalize l1 ++ (f.take k).flatMap ndB = la at HX HLN HK
      generalize ndB x = xb at HX HXL HXB
      generalize x.toNat = y at HXB HY h255 e0
      go_wp2_with fail
      refine (refNum_any y xb wr HXB.out.symm HY.out).mono ?_
      rintro en w2 ⟨A2, c2, rfl, hown2, hb2⟩
      have HB2 := hide_ hb2
      have HO2 := hide_ hown2
      clear hb2 hown2
      go_wp2_with (at_builtin; refine wpList_append_row _ rfl _ _ 50 rfl base u8_info Tryz.underlying50 _ la xb l2 HX.out.symm rfl (own_below HK.out.own HB2.out) w2.heap.size A2 xb.length c2 rfl rfl (Sees.own HO2.out) ⟨by have := HLN.out; omega, by have := HXL.out; omega⟩ (by have := HB2.out.size; omega) ?_; intro A3 c3 w3 hst; have HST := hide_ (HK.out.trans (RowStep.fresh HB2.out hst)); clear hst)
      go_roundw
      case rel => exact ⟨k + 1, by omega, by go_num, by rw [HL2.out]; assumption⟩
      case measure => simp [intOf]; omega
    · obtain rfl : k = n := by omega
      have HK2 := hide_ (HR.out ▸ HK.out)
      clear HK
      obtain ⟨A3, c3, hA3⟩ := own_slice HK2.out.own
      subst hA3
      go_wp2
      go_ret
      exact ⟨_, _, rfl, HK2.out⟩

set_option maxRecDepth 100000 in
set_option maxHeartbeats 3200000 in
theorem refConfPut_any (x : CfM) (r : List UInt8) (B : Nat) (w : World) (hx : CfM.ok w B x) (hB : B ≤ w.heap.size) (hres : confB x.p = r) :
    Calls Tryz.prog 57 #[x.v] w (Puts w r) := by
  have hn1 : x.o.l.length ≤ 100 := hx.2.1.1
  have hc := hx.1
  have HCL := hide_ (numB_length x.C hc)
  have HNL := hide_ (nodesB_len hn1)
  have HC := hide_ hc
  have HXO := hide_ (fun (u : World) (h : Below w.heap.size w u) => ((hx.2.1.more hB).below h))
  have HXN := hide_ (fun (u : World) (h : Below w.heap.size w u) => ((hx.2.2.more hB).below h))
  obtain ⟨q1, hq1⟩ : ∃ q, numB x.C = q := ⟨_, rfl⟩
  obtain ⟨q2, hq2⟩ : ∃ q, q1 ++ nodesB x.o.l = q := ⟨_, rfl⟩
  have HR := hide_ (show q2 ++ nodesB x.n.l = r from by rw [← hq2, ← hq1, ← hres]; simp [confB, CfM.p])
  have HQ1 := hide_ hq1
  have HQ2 := hide_ hq2
  have HL1 := hide_ (show q1.length ≤ 10 by rw [← hq1]; exact HCL.out)
  have HL2 := hide_ (show q2.length ≤ 2000 by rw [← hq2, List.length_append]; have := HL1.out; have := HNL.out; omega)
  have HBB := hide_ hB
  clear hn1 hc hx hq1 hq2 hres hB
  obtain ⟨C, ⟨xA, xc, xl⟩, ⟨yA, yc, yl⟩⟩ := x
  simp only [CfM.v, cfV, NdM.v] at HC HXO HXN HQ1 HQ2 HR HCL HNL ⊢
  have HW := hide_ ((Below.refl w.heap.size w).alloc (Nat.le_refl _) (.cells #[.int .u64 C, .slice xA xl.length xc, .slice yA yl.length yc] 52))
  have HX := hide_ (BoxAt.new w #[.int .u64 C, .slice xA xl.length xc, .slice yA yl.length yc] 52)
  obtain ⟨W0, hW0⟩ : ∃ W, w.alloc (.cells #[.int .u64 C, .slice xA xl.length xc, .slice yA yl.length yc] 52) = W := ⟨_, rfl⟩
  have HW0 := hide_ hW0
  rw [hW0] at HW HX
  clear hW0
  obtain ⟨z, hz⟩ : ∃ z, w.heap.size = z := ⟨_, rfl⟩
  have HZ := hide_ hz
  have HSS := hide_ (fun (u : World) (h : Below W0.heap.size W0 u) => (⟨(HX.out.below h).cell 0, (HX.out.below h).cell 1, (HX.out.below h).cell 2⟩ : u.cell? ⟨w.heap.size, 0, none⟩ = some (.int .u64 C) ∧ u.cell? ⟨w.heap.size, 1, none⟩ = some (.slice xA xl.length xc) ∧ u.cell? ⟨w.heap.size, 2, none⟩ = some (.slice yA yl.length yc)))
  have HD := hide_ (show Below W0.heap.size W0 W0.drew from (Below.refl _ _).drew)
  clear hz
  go_enter Tryz.func57, Tryz.ntmps57
  go_upto_region 1 with fail
  rw [HW0.out]
  refine wp_region_held_drew (S := fun u => u.cell? ⟨w.heap.size, 0, none⟩ = some (.int .u64 C) ∧ u.cell? ⟨w.heap.size, 1, none⟩ = some (.slice xA xl.length xc) ∧ u.cell? ⟨w.heap.size, 2, none⟩ = some (.slice yA yl.length yc)) (by kernel_rfl) (HSS.out _ HD.out) (fun hHeld => ?_)
  refine wpAnyH_take (i := 0) (oi := ⟨some 3, _, _, _, _, _⟩) (v := ?v1) rfl (by kernel_rfl) (by kernel_rfl) (by kernel_rfl) (fun _ _ _ h => h) (Or.inl ⟨by rfl, ?hy1⟩) (by assumption) ?rest1
  case hy1 => intro w hSw; (try dsimp only at hSw); obtain ⟨h1, h2, h3⟩ := hSw; go_simp <;> with_reducible rfl
  simp only [Act.put, List.setIfInBounds_toArray, List.set_cons_zero, List.set_cons_succ]
  refine wpAnyH_take (i := 1) (oi := ⟨some 4, _, _, _, _, _⟩) (v := ?v2) rfl (by kernel_rfl) (by kernel_rfl) (by kernel_rfl) (fun _ _ _ h => h) (Or.inl ⟨by rfl, ?hy2⟩) (by assumption) ?rest2
  case hy2 => intro w hSw; (try dsimp only at hSw); obtain ⟨h1, h2, h3⟩ := hSw; go_simp <;> with_reducible rfl
  simp only [Act.put, List.setIfInBounds_toArray, List.set_cons_zero, List.set_cons_succ]
  refine wpAnyH_take (i := 3) (oi := ⟨some 6, _, _, _, _, _⟩) (v := ?v3) rfl (by kernel_rfl) (by kernel_rfl) (by kernel_rfl) (fun _ _ _ h => h) (Or.inl ⟨by rfl, ?hy3⟩) (by assumption) ?rest3
  case hy3 => intro w hSw; (try dsimp only at hSw); obtain ⟨h1, h2, h3⟩ := hSw; go_simp <;> with_reducible rfl
  simp only [Act.put, List.setIfInBounds_toArray, List.set_cons_zero, List.set_cons_succ]
  refine wpAnyH_take (i := 4) (oi := ⟨some 7, _, _, _, _, _⟩) (v := ?v4) rfl (by kernel_rfl) (by kernel_rfl) (by kernel_rfl) (fun _ _ _ h => h) (Or.inl ⟨by rfl, ?hy4⟩) (by assumption) ?rest4
  case hy4 => intro w hSw; (try dsimp only at hSw); obtain ⟨h1, h2, h3⟩ := hSw; go_simp <;> with_reducible rfl
  simp only [Act.put, List.setIfInBounds_toArray, List.set_cons_zero, List.set_cons_succ]
  refine wpAnyH_take (i := 6) (oi := ⟨some 9, _, _, _, _, _⟩) (v := ?v5) rfl (by kernel_rfl) (by kernel_rfl) (by kernel_rfl) (fun _ _ _ h => h) (Or.inl ⟨by rfl, ?hy5⟩) (by assumption) ?rest5
  case hy5 => intro w hSw; (try dsimp only at hSw); obtain ⟨h1, h2, h3⟩ := hSw; go_simp <;> with_reducible rfl
  simp only [Act.put, List.setIfInBounds_toArray, List.set_cons_zero, List.set_cons_succ]
  refine wpAnyH_take (i := 7) (oi := ⟨some 10, _, _, _, _, _⟩) (v := ?v6) rfl (by kernel_rfl) (by kernel_rfl) (by kernel_rfl) (fun _ _ _ h => h) (Or.inl ⟨by rfl, ?hy6⟩) (by assumption) ?rest6
  case hy6 => intro w hSw; (try dsimp only at hSw); obtain ⟨h1, h2, h3⟩ := hSw; go_simp <;> with_reducible rfl
  simp only [Act.put, List.setIfInBounds_toArray, List.set_cons_zero, List.set_cons_succ]
  refine wpAnyH_ready (rs := [2]) (by kernel_rfl) (by simp) ?_
  refine AllReadyH.cons rfl (fun K hK => ?_) AllReadyH.nil
  go_simp
  go_wp2_with fail
  refine (refNum_any C q1 _ HQ1.out HC.out).mono ?_
  rintro en u1 ⟨A1, c1, rfl, ho1, hb1⟩
  have HU1 := hide_ (HD.out.trans (hb1.mono HD.out.size))
  have HO1 := hide_ (own_mono (base' := W0.heap.size) ho1 HD.out.size)
  clear ho1 hb1
  refine hK.out _ _ (HSS.out _ HU1.out) (fun hHeld => ?_)
  clear hK K
  refine wpAnyH_ready (rs := [5]) (by kernel_rfl) (by simp) ?_
  refine AllReadyH.cons rfl (fun K hK => ?_) AllReadyH.nil
  go_simp
  go_wp2_with fail
  refine (refNodes_any q1 q2 ⟨xA, xc, xl⟩ _ rfl W0.heap.size _ w.heap.size _ HQ2.out (by have := HL1.out; omega) (HXO.out _ (HW.out.trans (HU1.out.mono HW.out.size))) HW.out.size HO1.out HU1.out.size).mono ?_
  rintro en u2 ⟨A2, c2, rfl, hst⟩
  have HU2 := hide_ (HU1.out.trans (hst.below HO1.out (Nat.le_refl _) HU1.out.size))
  have HO2 := hide_ hst.own
  clear hst
  refine hK.out _ _ (HSS.out _ HU2.out) (fun hHeld => ?_)
  clear hK K
  refine wpAnyH_ready (rs := [8]) (by kernel_rfl) (by simp) ?_
  refine AllReadyH.cons rfl (fun K hK => ?_) AllReadyH.nil
  go_simp
  go_wp2_with fail
  refine (refNodes_any q2 r ⟨yA, yc, yl⟩ _ rfl W0.heap.size _ w.heap.size _ HR.out (by have := HL2.out; omega) (HXN.out _ (HW.out.trans (HU2.out.mono HW.out.size))) HW.out.size HO2.out HU2.out.size).mono ?_
  rintro en u3 ⟨A3, c3, rfl, hst⟩
  have HU3 := hide_ (HU2.out.trans (hst.below HO2.out (Nat.le_refl _) HU2.out.size))
  have HO3 := hide_ hst.own
  clear hst
  refine hK.out _ _ (HSS.out _ HU3.out) (fun hHeld => ?_)
  clear hK K
  refine wpAnyH_take (i := 9) (oi := ⟨some 2, _, _, _, _, _⟩) (v := ?v7) rfl (by kernel_rfl) (by kernel_rfl) (by kernel_rfl) (fun _ _ _ h => h) (Or.inl ⟨by rfl, ?hy7⟩) (by assumption) ?rest7
  case hy7 => intro w hSw; (try dsimp only at hSw); obtain ⟨h1, h2, h3⟩ := hSw; go_simp <;> with_reducible rfl
  simp only [Act.put, List.setIfInBounds_toArray, List.set_cons_zero, List.set_cons_succ]
  refine wpAnyH_done (by kernel_rfl) ?_ _
  go_wp2
  go_ret
  exact ⟨A3, c3, rfl, own_mono HO3.out HW.out.size, HW.out.trans (HU3.out.mono HW.out.size)⟩

set_option maxRecDepth 100000 in
set_option maxHeartbeats 12800000 in
theorem refRecPut_any (m : RecM) (B : Nat) (w : World) (hm : RecM.good w B m) (hB : B ≤ w.heap.size) : Calls Tryz.prog 19 #[m.v] w (PutsT (putRc m.p) w) := by
  have HMY := hide_ (fun (u : World) (h : Below w.heap.size w u) => refMayRec_any m w.heap.size u ((hm.more hB).below h) h.size)
  have HRB6 := hide_ (fun (hg : mayG m.r.p = true) (u : World) (h : Below w.heap.size w u) => refBytes6_any m.r u.heap.size u (((hm.more hB).below h).more h.size).2.1 (Nat.le_refl _) hg)
  have HCF := hide_ (fun (u : World) (h : Below w.heap.size w u) => refConfPut_any m.cf (confB m.p.cf) u.heap.size u (((hm.2.2.more hB).below h).more h.size) (Nat.le_refl _) rfl)
  have HRG := hide_ (fun (h1 : mayR m.p = true) (h2 : m.p.ki = 1) => mayR_reg h1 h2)
  have HYK := hide_ (show mayR m.p = true → (m.ki = 1 ∨ m.ki = 2 ∨ m.ki = 3 ∨ m.ki = 4 ∨ m.ki = 5) from mayR_kind)
  have HKY := hide_ (show mayR m.p = true → (m.ki = 1 ∨ m.ki = 2) → m.ke < 16 from mayR_key)
  have HLN := hide_ (fun h : mayR m.p = true => recB_le hm h)
  have HY := hide_ (fun h : mayR m.p = true => putRc_yes h)
  have HN := hide_ (fun h : mayR m.p = false => putRc_no h)
  have HRB := hide_ (show recB m.p = numB m.ki ++ (if m.ki = 1 then numB m.ke ++ (balB m.pc m.pn m.pl ++ (balB m.ac m.an m.al ++ regB m.r.p)) else if m.ki = 2 then numB m.ke else if m.ki = 3 then numB m.fe else if m.ki = 4 then numB m.li else if m.ki = 5 then confB m.p.cf else []) from rfl)
  obtain ⟨q, hq⟩ : ∃ q, mayR m.p = q := ⟨_, rfl⟩
  simp only [hq] at HMY HRG HYK HKY HLN HY HN
  obtain ⟨R, hR⟩ : ∃ R, putRc m.p = R := ⟨_, rfl⟩
  rw [hR] at HY HN ⊢
  obtain ⟨out, hout⟩ : ∃ x, recB m.p = x := ⟨_, rfl⟩
  rw [hout] at HRB
  simp only [hout] at HY HLN
  obtain ⟨⟨hki, hke⟩, hbp, hba, hfe, hli⟩ := hm.1
  have HBP := hide_ hbp
  have HBA := hide_ hba
  have HC0 := hide_ (show m.box[0]? = some (.int .u8 m.ki) from rfl)
  have HC1 := hide_ (show m.box[1]? = some (.int .u8 m.ke) from rfl)
  have HC2 := hide_ (show m.box[16]? = some (.int .u64 m.fe) from rfl)
  have HC3 := hide_ (show m.box[17]? = some (.int .u32 m.li) from rfl)
  have HEP := hide_ m.ex_p
  have HEA := hide_ m.ex_a
  have HER := hide_ m.ex_r
  have HRN := hide_ (show m.r.cs.toArray.size = 8 from rfl)
  have HRV := hide_ (show m.r.v = .agg m.r.cs.toArray from rfl)
  have HEC := hide_ m.ex_c
  have HCN := hide_ (show m.cf.cs.toArray.size = 3 from rfl)
  have HCV := hide_ (show m.cf.v = .agg m.cf.cs.toArray from rfl)
  have HV := hide_ (show m.v = .agg m.box from rfl)
  have HSZ := hide_ (show m.box.size = 21 from rfl)
  obtain ⟨V, hV⟩ : ∃ V, m.v = V := ⟨_, rfl⟩
  rw [hV] at HV ⊢
  simp only [hV] at HMY
  obtain ⟨RC, hRC⟩ : ∃ V, m.r.cs.toArray = V := ⟨_, rfl⟩
  rw [hRC] at HER HRN HRV
  simp only [HRV.out] at HRB6
  obtain ⟨CC, hCC⟩ : ∃ V, m.cf.cs.toArray = V := ⟨_, rfl⟩
  rw [hCC] at HEC HCN HCV
  simp only [HCV.out] at HCF
  obtain ⟨rb, hrb⟩ : ∃ x, regB m.r.p = x := ⟨_, rfl⟩
  obtain ⟨cb, hcb⟩ : ∃ x, confB m.p.cf = x := ⟨_, rfl⟩
  rw [hrb, hcb] at HRB
  simp only [hrb] at HRB6
  simp only [hcb] at HCF
  have HRG2 := hide_ (show q = true → m.ki = 1 → mayG m.r.p = true from HRG.out)
  obtain ⟨ki, hkie⟩ : ∃ x, m.ki = x := ⟨_, rfl⟩
  obtain ⟨ke, hkee⟩ : ∃ x, m.ke = x := ⟨_, rfl⟩
  obtain ⟨fe, hfee⟩ : ∃ x, m.fe = x := ⟨_, rfl⟩
  obtain ⟨li, hlie⟩ : ∃ x, m.li = x := ⟨_, rfl⟩
  obtain ⟨pc, hpc⟩ : ∃ x, m.pc = x := ⟨_, rfl⟩
  obtain ⟨pn, hpn⟩ : ∃ x, m.pn = x := ⟨_, rfl⟩
  obtain ⟨pl, hpl⟩ : ∃ x, m.pl = x := ⟨_, rfl⟩
  obtain ⟨ac, hac⟩ : ∃ x, m.ac = x := ⟨_, rfl⟩
  obtain ⟨an, han⟩ : ∃ x, m.an = x := ⟨_, rfl⟩
  obtain ⟨al, hal⟩ : ∃ x, m.al = x := ⟨_, rfl⟩
  simp only [hkie, hkee, hfee, hlie, hpc, hpn, hpl, hac, han, hal] at HRG2 HYK HKY HRB HC0 HC1 HC2 HC3 hki hke hfe hli HBP HBA HEP HEA
  have hfe' : fe < 18446744073709551616 := by unfold N64 at hfe; omega
  have hli' : li ≤ 4294967295 := hli
  have HFE := hide_ hfe'
  have HLI := hide_ (show li < 18446744073709551616 by omega)
  clear hq hR hout hV hRC hCC hrb hcb hm hB HRG hkie hkee hfee hlie hfe hli hfe' hpc hpn hpl hac han hal hbp hba
  go_enter Tryz.func19, Tryz.ntmps19
  go_wp2_with (first | (refine box_whole 54 (by rfl) _ (by rfl) (by rfl) HV.out ?_; intro W0 HX0 HB0 HZ0; have hz0 : w.heap.size < W0.heap.size := HX0.out.lt) | (refine load_whole 54 (by rfl) _ (by rfl) rec_size rec_row HX0.out (by rfl) HSZ.out ?_; rw [← HV.out]))
  refine (HMY.out _ HB0.out).mono ?_
  rintro en w1 ⟨rfl, hb1⟩
  have HX1 := hide_ (HX0.out.below hb1)
  have HB1 := hide_ (HB0.out.trans (hb1.mono HB0.out.size))
  clear hb1 hz0 HX0 HB0 HZ0 HMY
  have hz0 : w.heap.size < w1.heap.size := HX1.out.lt
  cases q with
  | false =>
    obtain rfl := (HN.out rfl).symm
    go_wp2
    go_ret2
    refine ⟨some ⟨w1.heap.size, 0, none⟩, 0, rfl, ?_, HB1.out.alloc HB1.out.size _⟩
    exact own_mono (base := w1.heap.size) (World.ownsRow_lit w1 #[] 0 (Nat.le_refl _) (by simp [maxLen]) rfl) HB1.out.size
  | true =>
  obtain rfl := (HY.out rfl).symm
  have r0 := (HX1.out.cell 0).trans HC0.out
  have hk5 := HYK.out rfl
  have HLN2 := hide_ (HLN.out rfl)
  obtain ⟨b0, hb0⟩ : ∃ b, w1.heap.size = b := ⟨_, rfl⟩
  have HB0E := hide_ hb0
  have HKE := hide_ (show (ki = 1 ∨ ki = 2) → ke < 16 from fun h => HKY.out rfl h)
  clear hb0 HN HY HYK HKY HLN
  have HQ1 := hide_ (show numB ki = [UInt8.ofNat ki] from numB_small (by omega))
  have HO2 := hide_ (show (w1.alloc (.cells #[.int .u8 ki] 5)).ownsRow b0 5 1 (.slice (some ⟨w1.heap.size, 0, none⟩) 1 1) 1 (bv [UInt8.ofNat ki]) from by rw [bv_one, byte_of (by omega), ← HB0E.out]; exact World.ownsRow_lit w1 #[.int .u8 ki] 1 (Nat.le_refl _) (by simp [maxLen]) rfl)
  have HX2 := hide_ (HX1.out.alloc (.cells #[.int .u8 ki] 5))
  have HB2 := hide_ (HB1.out.alloc HB1.out.size (.cells #[.int .u8 ki] 5))
  have HZ2 := hide_ (show b0 ≤ (w1.alloc (.cells #[.int .u8 ki] 5)).heap.size from by rw [← HB0E.out]; simp)
  obtain ⟨W2, hW2⟩ : ∃ W, w1.alloc (.cells #[.int .u8 ki] 5) = W := ⟨_, rfl⟩
  have HW2 := hide_ hW2
  rw [hW2] at HO2 HX2 HB2 HZ2
  have HLT := hide_ (show w.heap.size < b0 from by rw [← HB0E.out]; exact HX1.out.lt)
  clear hW2
  go_upto_region 4 with fail
  rw [HW2.out, HB0E.out]
  rw [HB0E.out] at HO2
  obtain ⟨q1, hq1⟩ : ∃ x, [UInt8.ofNat ki] = x := ⟨_, rfl⟩
  rw [hq1] at HQ1 HO2
  have HLQ := hide_ (show q1.length = 1 from by rw [← hq1]; rfl)
  rw [HQ1.out] at HRB
  clear hq1 r0 hz0 HX1 HB1 HW2 HB0E HQ1
  have hz0 : w.heap.size < W2.heap.size := HX2.out.lt
  have r0 := (HX2.out.cell 0).trans HC0.out
  rcases hk5 with hk | hk | hk | hk | hk
  · subst hk
    have hko := HKE.out (.inl rfl)
    obtain ⟨q2, hq2⟩ : ∃ x, q1 ++ [UInt8.ofNat ke] = x := ⟨_, rfl⟩
    obtain ⟨pb, hpb⟩ : ∃ x, balB pc pn pl = x := ⟨_, rfl⟩
    obtain ⟨ab, hab⟩ : ∃ x, balB ac an al = x := ⟨_, rfl⟩
    obtain ⟨q3, hq3⟩ : ∃ x, q2 ++ pb = x := ⟨_, rfl⟩
    obtain ⟨q4, hq4⟩ : ∃ x, q3 ++ ab = x := ⟨_, rfl⟩
    have HQ := hide_ (show q1 ++ [UInt8.ofNat ke] = q2 ∧ balB pc pn pl = pb ∧ balB ac an al = ab ∧ q2 ++ pb = q3 ∧ q3 ++ ab = q4 ∧ q4 ++ rb = out from ⟨hq2, hpb, hab, hq3, hq4, by rw [← hq4, ← hq3, ← hq2, HRB.out, if_pos rfl, ← hpb, ← hab, numB_small (n := ke) (by omega)]; simp only [List.append_assoc]⟩)
    have HLL := hide_ (show q2.length = 2 ∧ pb.length ≤ 30 ∧ ab.length ≤ 30 ∧ q3.length ≤ 32 ∧ q4.length ≤ 62 ∧ rb.length ≤ 2048 from by
      have e1 := congrArg List.length HQ.out.1
      have e2 := balB_length HBP.out.1 HBP.out.2.1 HBP.out.2.2
      have e3 := balB_length HBA.out.1 HBA.out.2.1 HBA.out.2.2
      have e4 := congrArg List.length HQ.out.2.2.2.1
      have e5 := congrArg List.length HQ.out.2.2.2.2.1
      have e6 := congrArg List.length HQ.out.2.2.2.2.2
      have e7 := HLN2.out
      have e8 := HLQ.out
      rw [HQ.out.2.1] at e2
      rw [HQ.out.2.2.1] at e3
      simp only [List.length_append, List.length_cons, List.length_nil] at e1 e4 e5 e6
      omega)
    clear hko hq2 hpb hab hq3 hq4 HRB
    have hk16 : ke < 16 := HKE.out (by omega)
    have r1 := (HX2.out.cell 1).trans HC1.out
    have HSE := hide_ (sees_u8 W2 ke (by omega))
    have HOA := hide_ (HO2.out.alloc (.cells #[.int .u8 ke] 5))
    have HXA := hide_ (HX2.out.alloc (.cells #[.int .u8 ke] 5))
    have HBA2 := hide_ (HB2.out.alloc HB2.out.size (.cells #[.int .u8 ke] 5))
    have HZA := hide_ (show b0 ≤ (W2.alloc (.cells #[.int .u8 ke] 5)).heap.size from by have := HZ2.out; simp; omega)
    go_upto_region 7 with (at_builtin; refine wpList_append_bytes (P := Tryz.prog) _ rfl (.tmp 16) (.tmp 19) 50 rfl b0 5 u8_info Tryz.underlying50 _ 1 q1 [UInt8.ofNat ke] q2 HQ.out.1 rfl HOA.out (W2.heap.size + 1) (some ⟨W2.heap.size, 0, none⟩) 1 1 rfl rfl HSE.out (by omega) HZA.out ?_; intro A5 c5 w5 ho hb; (have HO5 := hide_ ho); (have HB5 := hide_ (HBA2.out.trans (hb.mono (by have := HLT.out; omega)))); (have HX5 := hide_ (show BoxAt w5 w.heap.size m.box 54 from (hb.block _ HLT.out).trans HXA.out)); (have HZ5 := hide_ (Nat.le_trans HZA.out hb.size)); clear ho hb)
    clear r0 r1 hz0 HSE HOA HXA HBA2 HZA HO2 HX2 HB2 HZ2
    have hz0 : w.heap.size < w5.heap.size := HX5.out.lt
    go_wp2_with (first | (refine load_part 49 (by rfl) _ (by rfl) balR_size balR_row HX5.out (i := 2) (by rfl) HEP.out (by rfl) ?_) | fail)
    refine (refBalPut_any pc pn pl pb w5 HQ.out.2.1 HBP.out.1 HBP.out.2.1 HBP.out.2.2).mono ?_
    rintro en w6 ⟨A6, c6, rfl, ho, hb⟩
    have HOW := hide_ (own_below HO5.out hb)
    have HSW := hide_ (Sees.own ho)
    have HXW := hide_ (HX5.out.below hb)
    have HBW := hide_ (HB5.out.trans (hb.mono HB5.out.size))
    have HZW := hide_ (Nat.le_trans HZ5.out hb.size)
    clear ho hb hz0 HO5 HX5 HB5 HZ5
    go_upto_region 8 with (at_builtin; refine wpList_append_bytes (P := Tryz.prog) _ rfl (.tmp 21) (.tmp 24) 50 rfl b0 5 u8_info Tryz.underlying50 _ q2.length q2 pb q3 HQ.out.2.2.2.1 rfl HOW.out w6.heap.size A6 pb.length c6 rfl rfl HSW.out (by have := HLL.out; omega) HZW.out ?_; intro A7 c7 w7 ho hb; (have HO7 := hide_ ho); (have HB7 := hide_ (HBW.out.trans (hb.mono (by have := HLT.out; omega)))); (have HX7 := hide_ (show BoxAt w7 w.heap.size m.box 54 from (hb.block _ HLT.out).trans HXW.out)); (have HZ7 := hide_ (Nat.le_trans HZW.out hb.size)); clear ho hb)
    clear HOW HSW HXW HBW HZW
    have hz0 : w.heap.size < w7.heap.size := HX7.out.lt
    go_wp2_with (first | (refine load_part 49 (by rfl) _ (by rfl) balR_size balR_row HX7.out (i := 5) (by rfl) HEA.out (by rfl) ?_) | fail)
    refine (refBalPut_any ac an al ab w7 HQ.out.2.2.1 HBA.out.1 HBA.out.2.1 HBA.out.2.2).mono ?_
    rintro en w8 ⟨A8, c8, rfl, ho, hb⟩
    have HOW := hide_ (own_below HO7.out hb)
    have HSW := hide_ (Sees.own ho)
    have HXW := hide_ (HX7.out.below hb)
    have HBW := hide_ (HB7.out.trans (hb.mono HB7.out.size))
    have HZW := hide_ (Nat.le_trans HZ7.out hb.size)
    clear ho hb hz0 HO7 HX7 HB7 HZ7
    go_upto_region 9 with (at_builtin; refine wpList_append_bytes (P := Tryz.prog) _ rfl (.tmp 26) (.tmp 29) 50 rfl b0 5 u8_info Tryz.underlying50 _ q3.length q3 ab q4 HQ.out.2.2.2.2.1 rfl HOW.out w8.heap.size A8 ab.length c8 rfl rfl HSW.out (by have := HLL.out; omega) HZW.out ?_; intro A9 c9 w9 ho hb; (have HO9 := hide_ ho); (have HB9 := hide_ (HBW.out.trans (hb.mono (by have := HLT.out; omega)))); (have HX9 := hide_ (show BoxAt w9 w.heap.size m.box 54 from (hb.block _ HLT.out).trans HXW.out)); (have HZ9 := hide_ (Nat.le_trans HZW.out hb.size)); clear ho hb)
    clear HOW HSW HXW HBW HZW
    have hz0 : w.heap.size < w9.heap.size := HX9.out.lt
    go_wp2_with (first | (refine load_part 31 (by rfl) _ (by rfl) regR_size regR_row HX9.out (i := 8) (by rfl) HER.out HRN.out ?_) | fail)
    refine (HRB6.out (HRG2.out (by first | trivial | rfl) (by first | trivial | rfl)) _ HB9.out).mono ?_
    rintro en w10 ⟨A10, c10, rfl, ho, hb⟩
    have HOW := hide_ (own_below HO9.out hb)
    have HSW := hide_ (Sees.own ho)
    have HXW := hide_ (HX9.out.below hb)
    have HBW := hide_ (HB9.out.trans (hb.mono HB9.out.size))
    have HZW := hide_ (Nat.le_trans HZ9.out hb.size)
    clear ho hb hz0 HO9 HX9 HB9 HZ9
    go_upto_region 18 with (at_builtin; refine wpList_append_bytes (P := Tryz.prog) _ rfl (.tmp 31) (.tmp 34) 50 rfl b0 5 u8_info Tryz.underlying50 _ q4.length q4 rb out HQ.out.2.2.2.2.2 rfl HOW.out w10.heap.size A10 rb.length c10 rfl rfl HSW.out (by have := HLL.out; omega) HZW.out ?_; intro A11 c11 w11 ho hb; (have HO11 := hide_ ho); (have HB11 := hide_ (HBW.out.trans (hb.mono (by have := HLT.out; omega)))); (have HX11 := hide_ (show BoxAt w11 w.heap.size m.box 54 from (hb.block _ HLT.out).trans HXW.out)); (have HZ11 := hide_ (Nat.le_trans HZW.out hb.size)); clear ho hb)
    go_wp2
    go_ret2
    exact ⟨A11, c11, rfl, own_mono HO11.out (by have := HLT.out; omega), HB11.out⟩
  · subst hk
    have hko := HKE.out (.inr rfl)
    have HQ := hide_ (show q1 ++ [UInt8.ofNat ke] = out from by rw [HRB.out, if_neg (by decide), if_pos rfl, numB_small (n := ke) (by omega)])
    clear hko HRB
    have hk16 : ke < 16 := HKE.out (by omega)
    have r1 := (HX2.out.cell 1).trans HC1.out
    have HSE := hide_ (sees_u8 W2 ke (by omega))
    have HOA := hide_ (HO2.out.alloc (.cells #[.int .u8 ke] 5))
    have HXA := hide_ (HX2.out.alloc (.cells #[.int .u8 ke] 5))
    have HBA2 := hide_ (HB2.out.alloc HB2.out.size (.cells #[.int .u8 ke] 5))
    have HZA := hide_ (show b0 ≤ (W2.alloc (.cells #[.int .u8 ke] 5)).heap.size from by have := HZ2.out; simp; omega)
    go_upto_region 18 with (at_builtin; refine wpList_append_bytes (P := Tryz.prog) _ rfl (.tmp 38) (.tmp 41) 50 rfl b0 5 u8_info Tryz.underlying50 _ 1 q1 [UInt8.ofNat ke] out HQ.out rfl HOA.out (W2.heap.size + 1) (some ⟨W2.heap.size, 0, none⟩) 1 1 rfl rfl HSE.out (by omega) HZA.out ?_; intro A5 c5 w5 ho hb; (have HO5 := hide_ ho); (have HB5 := hide_ (HBA2.out.trans (hb.mono (by have := HLT.out; omega)))); (have HX5 := hide_ (show BoxAt w5 w.heap.size m.box 54 from (hb.block _ HLT.out).trans HXA.out)); (have HZ5 := hide_ (Nat.le_trans HZA.out hb.size)); clear ho hb)
    clear r0 r1 hz0 HSE HOA HXA HBA2 HZA HO2 HX2 HB2 HZ2
    have hz0 : w.heap.size < w5.heap.size := HX5.out.lt
    go_wp2
    go_ret2
    exact ⟨A5, c5, rfl, own_mono HO5.out (by have := HLT.out; omega), HB5.out⟩
  · subst hk
    have HQ := hide_ (show q1 ++ numB fe = out from by rw [HRB.out, if_neg (by decide), if_neg (by decide), if_pos rfl])
    obtain ⟨nb, hnb⟩ : ∃ x, numB fe = x := ⟨_, rfl⟩
    have HNB := hide_ hnb
    have HNL := hide_ (show nb.length ≤ 10 from by rw [← hnb]; exact numB_length _ HFE.out)
    rw [hnb] at HQ
    clear HRB hnb
    have r1 := (HX2.out.cell 16).trans HC2.out
    go_wp2_with fail
    refine (refNum_any fe nb W2 HNB.out HFE.out).mono ?_
    rintro en w3 ⟨A3, c3, rfl, ho, hb⟩
    have HOW := hide_ (own_below HO2.out hb)
    have HSW := hide_ (Sees.own ho)
    have HXW := hide_ (HX2.out.below hb)
    have HBW := hide_ (HB2.out.trans (hb.mono HB2.out.size))
    have HZW := hide_ (Nat.le_trans HZ2.out hb.size)
    clear ho hb hz0 r0 HO2 HX2 HB2 HZ2
    go_upto_region 18 with (at_builtin; refine wpList_append_bytes (P := Tryz.prog) _ rfl (.tmp 45) (.tmp 48) 50 rfl b0 5 u8_info Tryz.underlying50 _ 1 q1 nb out HQ.out rfl HOW.out w3.heap.size A3 nb.length c3 rfl rfl HSW.out (by have := HNL.out; omega) HZW.out ?_; intro A4 c4 w4 ho hb; (have HO4 := hide_ ho); (have HB4 := hide_ (HBW.out.trans (hb.mono (by have := HLT.out; omega)))); (have HX4 := hide_ (show BoxAt w4 w.heap.size m.box 54 from (hb.block _ HLT.out).trans HXW.out)); (have HZ4 := hide_ (Nat.le_trans HZW.out hb.size)); clear ho hb)
    go_wp2
    go_ret2
    exact ⟨A4, c4, rfl, own_mono HO4.out (by have := HLT.out; omega), HB4.out⟩
  · subst hk
    have HQ := hide_ (show q1 ++ numB li = out from by rw [HRB.out, if_neg (by decide), if_neg (by decide), if_neg (by decide), if_pos rfl])
    obtain ⟨nb, hnb⟩ : ∃ x, numB li = x := ⟨_, rfl⟩
    have HNB := hide_ hnb
    have HNL := hide_ (show nb.length ≤ 10 from by rw [← hnb]; exact numB_length _ HLI.out)
    rw [hnb] at HQ
    clear HRB hnb
    have r1 := (HX2.out.cell 17).trans HC3.out
    go_wp2_with fail
    refine (refNum_any li nb W2 HNB.out HLI.out).mono ?_
    rintro en w3 ⟨A3, c3, rfl, ho, hb⟩
    have HOW := hide_ (own_below HO2.out hb)
    have HSW := hide_ (Sees.own ho)
    have HXW := hide_ (HX2.out.below hb)
    have HBW := hide_ (HB2.out.trans (hb.mono HB2.out.size))
    have HZW := hide_ (Nat.le_trans HZ2.out hb.size)
    clear ho hb hz0 r0 HO2 HX2 HB2 HZ2
    go_upto_region 18 with (at_builtin; refine wpList_append_bytes (P := Tryz.prog) _ rfl (.tmp 52) (.tmp 56) 50 rfl b0 5 u8_info Tryz.underlying50 _ 1 q1 nb out HQ.out rfl HOW.out w3.heap.size A3 nb.length c3 rfl rfl HSW.out (by have := HNL.out; omega) HZW.out ?_; intro A4 c4 w4 ho hb; (have HO4 := hide_ ho); (have HB4 := hide_ (HBW.out.trans (hb.mono (by have := HLT.out; omega)))); (have HX4 := hide_ (show BoxAt w4 w.heap.size m.box 54 from (hb.block _ HLT.out).trans HXW.out)); (have HZ4 := hide_ (Nat.le_trans HZW.out hb.size)); clear ho hb)
    go_wp2
    go_ret2
    exact ⟨A4, c4, rfl, own_mono HO4.out (by have := HLT.out; omega), HB4.out⟩
  · subst hk
    have HQ := hide_ (show q1 ++ cb = out from by rw [HRB.out, if_neg (by decide), if_neg (by decide), if_neg (by decide), if_neg (by decide), if_pos rfl])
    have HCL := hide_ (show cb.length ≤ 2048 from by have e := congrArg List.length HQ.out; have e2 := HLN2.out; rw [List.length_append] at e; omega)
    clear HRB
    go_wp2_with (first | (refine load_part 52 (by rfl) _ (by rfl) cfR_size cfR_row HX2.out (i := 18) (by rfl) HEC.out HCN.out ?_) | fail)
    refine (HCF.out W2 HB2.out).mono ?_
    rintro en w3 ⟨A3, c3, rfl, ho, hb⟩
    have HOW := hide_ (own_below HO2.out hb)
    have HSW := hide_ (Sees.own ho)
    have HXW := hide_ (HX2.out.below hb)
    have HBW := hide_ (HB2.out.trans (hb.mono HB2.out.size))
    have HZW := hide_ (Nat.le_trans HZ2.out hb.size)
    clear ho hb hz0 r0 HO2 HX2 HB2 HZ2
    go_upto_region 18 with (at_builtin; refine wpList_append_bytes (P := Tryz.prog) _ rfl (.tmp 60) (.tmp 63) 50 rfl b0 5 u8_info Tryz.underlying50 _ 1 q1 cb out HQ.out rfl HOW.out w3.heap.size A3 cb.length c3 rfl rfl HSW.out (by have := HCL.out; omega) HZW.out ?_; intro A4 c4 w4 ho hb; (have HO4 := hide_ ho); (have HB4 := hide_ (HBW.out.trans (hb.mono (by have := HLT.out; omega)))); (have HX4 := hide_ (show BoxAt w4 w.heap.size m.box 54 from (hb.block _ HLT.out).trans HXW.out)); (have HZ4 := hide_ (Nat.le_trans HZW.out hb.size)); clear ho hb)
    go_wp2
    go_ret2
    exact ⟨A4, c4, rfl, own_mono HO4.out (by have := HLT.out; omega), HB4.out⟩
end Go.Proofs.YtnkjdijbfnmnhaaGreat
