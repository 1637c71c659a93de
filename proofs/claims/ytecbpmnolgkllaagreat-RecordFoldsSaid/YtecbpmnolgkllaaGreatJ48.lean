/-
  Texts of this claim put together: Clo14.
-/
import Derived.Test.YtecbpmnolgkllaaGreatJ46
import Derived.Test.YtecbpmnolgkllaaGreatJ09
import Derived.Test.YtecbpmnolgkllaaGreatShort
import Derived.Deep.RegionHeld
/-
  Contracts of record's cloneConf and clone.
-/
namespace Go.Proofs.YtecbpmnolgkllaaGreat
open Go.RowKit

set_option maxRecDepth 100000 in
set_option maxHeartbeats 3200000 in
theorem cloneConf_any (x : CfM) (B : Nat) (w : World) (hx : CfM.ok w B x) (hB : B ≤ w.heap.size) :
    Calls Tryz.prog 57 #[x.v] w fun e w' => ∃ y : CfM, e = .returned y.v ∧ y.p = x.p ∧ CFresh w' (w.heap.size + 2) y ∧ Below w.heap.size w w' := by
  obtain ⟨C, ⟨oA, oc, ol⟩, ⟨nA, nc, nl⟩⟩ := x
  have HLO := hide_ (fun (u : World) (hb : Below w.heap.size w u) => (hx.2.1.2.below (hb.mono hB) : Sees u B oA (bv ol)))
  have HLN := hide_ (fun (u : World) (hb : Below w.heap.size w u) => (hx.2.2.2.below (hb.mono hB) : Sees u B nA (bv nl)))
  have HNUM := hide_ (show C < 18446744073709551616 ∧ ol.length ≤ 100 ∧ nl.length ≤ 100 from ⟨hx.1, hx.2.1.1, hx.2.2.1⟩)
  simp only [CfM.v, cfV, NdM.v]
  obtain ⟨n1, hn1⟩ : ∃ n, ol.length = n := ⟨_, rfl⟩
  obtain ⟨n2, hn2⟩ : ∃ n, nl.length = n := ⟨_, rfl⟩
  have HN1 := hide_ hn1
  have HN2 := hide_ hn2
  rw [hn1, hn2]
  clear hx hn1 hn2
  obtain ⟨W, hW⟩ : ∃ W, (w.alloc (.cells #[.int .u64 C, .slice oA n1 oc, .slice nA n2 nc] 52)).alloc (.cells #[.int .u64 0, .slice none 0 0, .slice none 0 0] 52) = W := ⟨_, rfl⟩
  have HW := hide_ (show Below w.heap.size w W from hW ▸ ((Below.refl _ _).alloc (Nat.le_refl _) _).alloc (by simp) _)
  have HX := hide_ (show BoxAt W w.heap.size #[.int .u64 C, .slice oA n1 oc, .slice nA n2 nc] 52 from hW ▸ (BoxAt.new w #[.int .u64 C, .slice oA n1 oc, .slice nA n2 nc] 52).alloc _)
  have HY := hide_ (show BoxAt W (w.heap.size + 1) #[.int .u64 0, .slice none 0 0, .slice none 0 0] 52 from by
    have h := BoxAt.new (w.alloc (.cells #[.int .u64 C, .slice oA n1 oc, .slice nA n2 nc] 52)) #[.int .u64 0, .slice none 0 0, .slice none 0 0] 52
    rw [hW] at h
    simpa using h)
  have HSZ := hide_ (show W.heap.size = w.heap.size + 2 from by rw [← hW]; simp)
  have HWE := hide_ hW
  clear hW
  go_enter Tryz.func57, Tryz.ntmps57
  go_upto_region 1 with fail
  rw [HWE.out]
  have HSS := hide_ (fun (u : World) (h : Below W.heap.size W u) => (show ∀ i : Nat, u.cell? ⟨w.heap.size, i, none⟩ = (#[.int .u64 C, .slice oA n1 oc, .slice nA n2 nc] : Array Value)[i]? from (HX.out.below h).cell))
  have HD := hide_ (show Below W.heap.size W W.drew from (Below.refl _ _).drew)
  refine wp_region_held_drew (S := fun u => ∀ i : Nat, u.cell? ⟨w.heap.size, i, none⟩ = (#[.int .u64 C, .slice oA n1 oc, .slice nA n2 nc] : Array Value)[i]?) (by kernel_rfl) (HSS.out _ HD.out) (fun hHeld => ?_)
  refine tkY 0 3 ?v1 rfl ?hy1 (by assumption) ?rest1
  case hy1 => intro w hSw; (try dsimp only at hSw); go_simp <;> with_reducible rfl
  simp only [Act.put, sTI, sT0, sT1]
  refine tkY 1 4 ?v2 rfl ?hy2 (by assumption) ?rest2
  case hy2 => intro w hSw; (try dsimp only at hSw); go_simp <;> with_reducible rfl
  simp only [Act.put, sTI, sT0, sT1]
  refine tkY 2 5 ?v3 rfl ?hy3 (by assumption) ?rest3
  case hy3 => intro w hSw; (try dsimp only at hSw); go_simp <;> with_reducible rfl
  simp only [Act.put, sTI, sT0, sT1]
  refine tkY 3 6 ?v4 rfl ?hy4 (by assumption) ?rest4
  case hy4 => intro w hSw; (try dsimp only at hSw); go_simp <;> with_reducible rfl
  simp only [Act.put, sTI, sT0, sT1]
  refine tkY 5 8 ?v5 rfl ?hy5 (by assumption) ?rest5
  case hy5 => intro w hSw; (try dsimp only at hSw); go_simp <;> with_reducible rfl
  simp only [Act.put, sTI, sT0, sT1]
  refine tkY 6 9 ?v6 rfl ?hy6 (by assumption) ?rest6
  case hy6 => intro w hSw; (try dsimp only at hSw); go_simp <;> with_reducible rfl
  simp only [Act.put, sTI, sT0, sT1]
  refine wpAnyH_ready (rs := [4]) (by kernel_rfl) (by simp) ?_
  refine AllReadyH.cons rfl (fun K hK => ?_) AllReadyH.nil
  go_simp
  go_wp2_with fail
  refine (clone8_any ol B oA n1 oc _ HN1.out (by have := HNUM.out; have := HN1.out; omega) (HLO.out _ (HW.out.trans (HD.out.mono HW.out.size))) (Nat.le_trans hB (HW.out.trans (HD.out.mono HW.out.size)).size)).mono ?_
  rintro en u1 ⟨A1, c1, rfl, ho1, hb1⟩
  have HU1 := hide_ (HD.out.trans (hb1.mono HD.out.size))
  have HO1 := hide_ (own_mono ho1 HD.out.size)
  clear ho1 hb1
  refine hK.out _ _ (HSS.out _ HU1.out) (fun hHeld => ?_)
  clear hK K
  refine wpAnyH_ready (rs := [7]) (by kernel_rfl) (by simp) ?_
  refine AllReadyH.cons rfl (fun K hK => ?_) AllReadyH.nil
  go_simp
  go_wp2_with fail
  refine (clone8_any nl B nA n2 nc _ HN2.out (by have := HNUM.out; have := HN2.out; omega) (HLN.out _ (HW.out.trans (HU1.out.mono HW.out.size))) (Nat.le_trans hB (HW.out.trans (HU1.out.mono HW.out.size)).size)).mono ?_
  rintro en u2 ⟨A2, c2, rfl, ho2, hb2⟩
  have HU2 := hide_ (HU1.out.trans (hb2.mono HU1.out.size))
  have HO2 := hide_ (own_mono ho2 HU1.out.size)
  have HO12 := hide_ (own_below HO1.out hb2)
  clear ho2 hb2
  refine hK.out _ _ (HSS.out _ HU2.out) (fun hHeld => ?_)
  clear hK K
  refine tkY 8 11 (.agg #[.int .u64 C, .slice A1 n1 c1, .slice A2 n2 c2]) rfl ?hy7 (by assumption) ?rest7
  case hy7 => intro w hSw; first | kernel_rfl | (go_simp <;> with_reducible rfl)
  simp only [Act.put, sTI, sT0, sT1]
  refine wpAnyH_ready (rs := [9]) (by kernel_rfl) (by simp) ?_
  refine AllReadyH.cons rfl (fun K hK => ?_) AllReadyH.nil
  have HY2 := hide_ (HY.out.below HU2.out)
  have HX2 := hide_ (HX.out.below HU2.out)
  refine step_store_whole 52 (by rfl) _ _ (by rfl) conf_size (by rfl) (by rfl) (cs := #[.int .u64 C, .slice A1 n1 c1, .slice A2 n2 c2]) (by rfl) (by rfl) (by simp [Value.oneCell']) HY2.out (by rfl) ?_ (by rfl)
  intro W6 HB6 HG6 HZ6
  have HX6 := hide_ (show BoxAt W6 w.heap.size #[.int .u64 C, .slice oA n1 oc, .slice nA n2 nc] 52 from (HG6.out.block _ HX2.out.lt (fun e => by injection e; omega)).trans HX2.out)
  refine hK.out _ _ HX6.out.cell (fun hHeld => ?_)
  clear hK K
  refine wpAnyH_done (by kernel_rfl) ?_ _
  clear hHeld
  go_wp2
  refine bodyPost_ret (res_whole conf_size conf_row (by rfl) (by rfl) HB6.out (by rfl)) rfl ?_
  have hs := HSZ.out
  have far : ∀ {n c : Nat} {A : Option Addr} {xs : List Value}, u2.ownsRow W.heap.size 5 1 (.slice A n c) n xs → W6.ownsRow (w.heap.size + 2) 5 1 (.slice A n c) n xs := fun ho => own_mono (own_other9 ho (fun e => own_far ho (by omega) e.symm) HG6.out) (by omega)
  obtain ⟨h1, h2, h3⟩ := HNUM.out
  refine ⟨⟨C, ⟨A1, c1, ol⟩, ⟨A2, c2, nl⟩⟩, by simp only [HN1.out, HN2.out], rfl, ⟨h1, ⟨?_, h2⟩, ⟨?_, h3⟩⟩, ?_⟩
  · simp only [HN1.out]
    exact far HO12.out
  · simp only [HN2.out]
    exact far HO2.out
  · have hb := HW.out.trans (HU2.out.mono HW.out.size)
    exact hb.grown HG6.out hb.size (fun k hk => by injection hk with hk; omega)

theorem setR_p (s : StaM) {i : Nat} {r : RegM} (h : r.p = (s.f i).r.p) : (s.setR i r).p = s.p := by
  unfold StaM.setR StaM.setF StaM.p
  simp only
  congr 1
  funext j
  by_cases e : j = i
  · subst e
    rw [if_pos rfl]
    unfold SlotM.p
    simp only [h]
  · rw [if_neg e]

set_option maxRecDepth 100000 in
set_option maxHeartbeats 6400000 in
theorem cloneSt_any (s : StaM) (B : Nat) (w : World) (hs : StaM.good w B s) (hB : B ≤ w.heap.size) :
    Calls Tryz.prog 56 #[s.v] w fun e w' => ∃ y : StaM, e = .returned y.v ∧ y.p = s.p ∧ StaM.fresh w' (w.heap.size + 2) y ∧ Below w.heap.size w w' := by
  have HS := hide_ hs
  have HV := hide_ (show s.v = .agg s.box from rfl)
  have HSZ := hide_ s.box_size
  obtain ⟨V, hV⟩ : ∃ V, s.v = V := ⟨_, rfl⟩
  rw [hV] at HV ⊢
  obtain ⟨X, hX⟩ : ∃ X, s.box = X := ⟨_, rfl⟩
  rw [hX] at HV HSZ
  have HXE := hide_ hX
  clear hs hV hX
  go_enter Tryz.func56, Tryz.ntmps56
  go_upto_region 0 with fail
  refine wp_region_lit ?_
  refine box_whole 68 (by rfl) _ (by rfl) (by rfl) HV.out ?_
  intro W0 HX0 HB0 HZ0
  simp only [Act.put, List.setIfInBounds_toArray, List.set_cons_zero, List.set_cons_succ]
  refine alloc_whole 68 (by rfl) (by rfl) sta_zero ?_
  intro W1 HY1 HB1 HZ1
  simp only [Act.put, List.setIfInBounds_toArray, List.set_cons_zero, List.set_cons_succ]
  have hsz : W0.heap.size = w.heap.size + 1 := HZ0.out
  rw [hsz] at HY1 HB1 HZ1 ⊢
  have HX1 := hide_ (HX0.out.below (by rw [hsz]; exact HB1.out))
  rw [HXE.out.symm] at HX1
  have HW1 := hide_ (HB0.out.trans (HB1.out.mono (by omega)))
  have HSZ1 := hide_ (show W1.heap.size = w.heap.size + 2 from by rw [HZ1.out])
  obtain ⟨z, hz⟩ : ∃ z, w.heap.size = z := ⟨_, rfl⟩
  have HZE := hide_ hz
  rw [hz] at HX1 HY1 HSZ1 ⊢
  clear HX0 HB0 HZ0 HB1 HZ1 hsz hz
  go_upto_region 2 with fail
  go_loopw [3, 4] (fun _ i wr => ∃ (k : Nat) (y : StaM), k ≤ 16 ∧ i = .int .i64 k ∧ Hid (y.p = s.p) ∧ Hid ((∀ j, j < k → (y.f j).num ∧ Fresh wr (z + 2) (y.f j).r ∧ (y.f j).r.few) ∧ (∀ j, k ≤ j → y.f j = s.f j) ∧ y.fe = s.fe ∧ y.li = s.li ∧ y.cf = s.cf) ∧ Hid (BoxAt wr z y.box 68) ∧ Hid (BoxAt wr (z + 1) zeroSt.box 68) ∧ Hid (Below w.heap.size w wr)) (fun _ i _ => 16 - (intOf i).toNat)
  case atStart => exact ⟨0, s, Nat.zero_le _, rfl, hide_ rfl, hide_ ⟨fun j hj => absurd hj (by omega), fun j _ => rfl, rfl, rfl, rfl⟩, HX1, HY1, HW1⟩
  case round =>
    obtain ⟨k, y, hk, rfl, HP, HI, HX, HY, HB⟩ := hrel
    by_cases hlt : k < 16
    · have hzl : z < wr.heap.size := HX.out.lt
      have hyr : (y.f k).r = (s.f k).r := by rw [HI.out.2.1 k (Nat.le_refl _)]
      have hgd := (HS.out.sl k hlt).1
      have hfw := (HS.out.sl k hlt).2
      have HCL := hide_ (CloneG_any (s.f k).r B wr (reg_stable.below hgd.2 (HB.out.mono hB)) (Nat.le_trans hB HB.out.size) hfw.1.1 hfw.1.2.1 hfw.1.2.2.1 hfw.1.2.2.2 hfw.2)
      have HGET := hide_ (y.reg_get hlt)
      rw [hyr] at HGET
      obtain ⟨r0, hr0⟩ : ∃ r, (s.f k).r = r := ⟨_, rfl⟩
      rw [hr0] at HCL HGET
      have HR0 := hide_ (show (y.f k).r = r0 from hyr.trans hr0)
      have HFEW := hide_ (hr0 ▸ hfw : r0.few)
      have HNUM := hide_ (show (y.f k).num from by rw [HI.out.2.1 k (Nat.le_refl _)]; exact hgd.1)
      have hk15 : (k : Int) * 15 = ((k * 15 : Nat) : Int) := by omega
      obtain ⟨V0, hV0⟩ : ∃ V, r0.v = V := ⟨_, rfl⟩
      have HV0 := hide_ (show V0 = .agg r0.cs.toArray from hV0.symm)
      rw [hV0] at HCL
      have HYS := hide_ y.box_size
      clear hyr hgd hfw hr0 hV0
      go_upto_region 4 with fail
      go_wp2_with (refine load_part 31 (by rfl) _ (by rfl) reg_size8 reg_row HX.out (by rfl) HGET.out (by rfl) ?_; rw [← HV0.out])
      refine HCL.out.mono ?_
      rintro en w2 ⟨x, rfl, hxp, hfr, hb2⟩
      have HX2 := hide_ (HX.out.below hb2)
      have HY2 := hide_ (HY.out.below hb2)
      have HB2 := hide_ (HB.out.trans (hb2.mono HB.out.size))
      have HFR := hide_ hfr
      have HXP := hide_ hxp
      have HWR := hide_ (show z + 2 ≤ wr.heap.size from by have := HY.out.lt; omega)
      have HBL := hide_ hb2
      obtain ⟨V2, hV2⟩ : ∃ V, x.v = V := ⟨_, rfl⟩
      rw [hV2]
      have HV2 := hide_ (show V2 = .agg x.cs.toArray from hV2.symm)
      have hzl2 : z < w2.heap.size := HX2.out.lt
      have HONE := hide_ (show x.cs.toArray.all (·.oneCell') = true from by simp [RegM.cs, Sl.v, Value.oneCell'])
      have HSET := hide_ (y.reg_set hlt x)
      clear hb2 hfr hxp hV2 hzl
      go_wp2_with (refine store_part 31 (by rfl) _ _ (by rfl) reg_size8 (by rfl) (by rfl) HV2.out (by rfl) HONE.out HX2.out (by rw [HYS.out]; omega) ?_; intro W6 HX6 HG6 HZ6)
      go_roundw
      case rel =>
        have hx6 := HX6.out
        rw [HSET.out] at hx6
        refine ⟨k + 1, y.setR k x, by omega, by go_num, hide_ ((setR_p y (by rw [HXP.out, HR0.out])).trans HP.out), hide_ ⟨fun j hj => ?_, fun j hj => ?_, HI.out.2.2⟩, hide_ hx6, hide_ ((HG6.out.block _ HY2.out.lt (fun e => by injection e; omega)).trans HY2.out), hide_ (HB2.out.grown HG6.out HB2.out.size (fun q hq => by injection hq with hq; have := HZE.out; omega))⟩
        · by_cases e : j = k
          · subst e
            have hfx : (y.setR j x).f j = { y.f j with r := x } := if_pos rfl
            rw [hfx]
            refine ⟨HNUM.out, ?_, ?_⟩
            · refine (Aside14.less HFR.out (show z + 2 ≤ wr.heap.size + 2 from by have := HWR.out; omega)).other14 HG6.out (by omega)
            · have hp := HXP.out
              unfold RegM.p at hp
              simp only [RegP.mk.injEq] at hp
              obtain ⟨_, _, _, e1, e2, e3, _, e4⟩ := hp
              have hf := HFEW.out
              refine ⟨⟨by rw [e1]; exact hf.1.1, ?_, by rw [e3]; exact hf.1.2.2.1, by rw [e4]; exact hf.1.2.2.2⟩, fun d hd => ?_⟩
              · have := congrArg List.length e2
                simp only [List.length_map] at this
                rw [this]
                exact hf.1.2.1
              · have hm : d.p ∈ r0.dn.l.map DoneM.p := by rw [← e2]; exact List.mem_map_of_mem hd
                obtain ⟨d0, hd0, he⟩ := List.mem_map.1 hm
                have := hf.2 d0 hd0
                have e5 : d0.va.l = d.va.l := by
                  unfold DoneM.p at he
                  simp only [Prod.mk.injEq] at he
                  exact he.2.2.2.2.2
                rw [← e5]
                exact this
          · have hfj : (y.setR k x).f j = y.f j := if_neg e
            rw [hfj]
            obtain ⟨g1, g2, g3⟩ := HI.out.1 j (by omega)
            exact ⟨g1, (g2.below HBL.out).other14 HG6.out (by omega), g3⟩
        · have hfj : (y.setR k x).f j = y.f j := if_neg (by omega)
          rw [hfj]
          exact HI.out.2.1 j (by omega)
      case measure => simp [intOf]; omega
    · have hk16 : 16 = k := by omega
      subst hk16
      have HCC := hide_ (cloneConf_any s.cf B wr (HS.out.cf.below (HB.out.mono hB)) (Nat.le_trans hB HB.out.size))
      have HGET := hide_ y.cf_get
      rw [HI.out.2.2.2.2] at HGET
      obtain ⟨V0, hV0⟩ : ∃ V, s.cf.v = V := ⟨_, rfl⟩
      have HV0 := hide_ (show V0 = .agg s.cf.cs.toArray from hV0.symm)
      rw [hV0] at HCC
      have HYS := hide_ y.box_size
      have hzl : z < wr.heap.size := HX.out.lt
      clear hV0
      go_wp2_with (refine load_part 52 (by rfl) _ (by rfl) conf_size conf_row HX.out (by rfl) HGET.out (by rfl) ?_; rw [← HV0.out])
      refine HCC.out.mono ?_
      rintro en w2 ⟨x, rfl, hxp, hfr, hb2⟩
      have HX2 := hide_ (HX.out.below hb2)
      have HY2 := hide_ (HY.out.below hb2)
      have HB2 := hide_ (HB.out.trans (hb2.mono HB.out.size))
      have HFR := hide_ hfr
      have HXP := hide_ hxp
      have HWR := hide_ (show z + 2 ≤ wr.heap.size from by have := HY.out.lt; omega)
      have HBL := hide_ hb2
      obtain ⟨V2, hV2⟩ : ∃ V, x.v = V := ⟨_, rfl⟩
      rw [hV2]
      have HV2 := hide_ (show V2 = .agg x.cs.toArray from hV2.symm)
      have hzl2 : z < w2.heap.size := HX2.out.lt
      have HONE := hide_ (show x.cs.toArray.all (·.oneCell') = true from by simp [CfM.cs, NdM.v, Value.oneCell'])
      have HSET := hide_ (y.cf_set x)
      have HZB := hide_ zeroSt.box_size
      clear hb2 hfr hxp hV2 hzl
      go_upto_region 7 with (refine store_part 52 (by rfl) _ _ (by rfl) conf_size (by rfl) (by rfl) HV2.out (by rfl) HONE.out HX2.out (by rw [HYS.out]; omega) ?_; intro W6 HX6 HG6 HZ6)
      have HX7 := hide_ HX6.out
      rw [HSET.out] at HX7
      have HY6 := hide_ (show BoxAt W6 (z + 1) zeroSt.box 68 from (HG6.out.block _ HY2.out.lt (fun e => by injection e; omega)).trans HY2.out)
      obtain ⟨y2, hy2⟩ : ∃ y2 : StaM, { y with cf := x } = y2 := ⟨_, rfl⟩
      rw [hy2] at HX7
      have HY2S := hide_ y2.box_size
      have HY2O := hide_ y2.one
      have HY2E := hide_ hy2
      clear hy2 HX6
      go_wp2_with (first | (refine load_whole 68 (by rfl) _ (by rfl) sta_size sta_row HX7.out (by rfl) HY2S.out ?_) | (refine store_whole 68 (by rfl) _ _ (by rfl) sta_size (by rfl) (by rfl) (cs := y2.box) (by rfl) HY2S.out HY2O.out HY6.out HZB.out ?_; intro W8 HX8 HG8 HZ8))
      refine bodyPost_ret (res_whole sta_size sta_row (by rfl) (by rfl) HX8.out HY2S.out) rfl ?_
      have hze := HZE.out
      refine ⟨y2, rfl, ?_, ?_, ?_⟩
      · rw [← HY2E.out]
        have h1 := HP.out
        unfold StaM.p at h1 ⊢
        simp only [StaP.mk.injEq] at h1 ⊢
        exact ⟨h1.1, h1.2.1, h1.2.2.1, HXP.out⟩
      · rw [hze, ← HY2E.out]
        refine ⟨fun i hi => ?_, ?_, ?_, ?_⟩
        · obtain ⟨g1, g2, g3⟩ := HI.out.1 i (by omega)
          exact ⟨g1, ((g2.below HBL.out).other14 HG6.out (by omega)).other14 HG8.out (by omega), g3⟩
        · show N64 y.fe
          rw [HI.out.2.2.1]
          exact HS.out.fe
        · show N32 y.li
          rw [HI.out.2.2.2.1]
          exact HS.out.li
        · have hf := HFR.out
          have hw := HWR.out
          have hl : CFresh w2 (z + 2) x := ⟨hf.1, ⟨own_mono hf.2.1.1 (by omega), hf.2.1.2⟩, ⟨own_mono hf.2.2.1 (by omega), hf.2.2.2⟩⟩
          exact (hl.grown HG6.out (fun q e => by injection e with e; omega)).grown HG8.out (fun q e => by injection e with e; omega)
      · refine (HB2.out.grown HG6.out HB2.out.size (fun q hq => by injection hq with hq; omega)).grown HG8.out ?_ (fun q hq => by injection hq with hq; omega)
        rw [HZ6.out]
        exact HB2.out.size
end Go.Proofs.YtecbpmnolgkllaaGreat
