/-
  scrutineerlaw14.RecordTwice answers true for every input and leaves its input as it was; no condition.
-/
import Derived.Test.YtecbpmnolgkllaaJ51
namespace Go.Proofs.Ytecbpmnolgkllaa.recordTwice
open Go.ChangeShapes Go.WideShapes Go.ChangeAt Go.RowKit

section
variable {P : Program} {w : World} {ops : Array Oper} {rest : List Oper} {o : Oper} {a : Act} {Q : Exit → Act → World → Prop}
/-- the walk's step: a row is built -/
theorem bslice_known (ty : TypeId) (n : Nat) (parts : Array (Nat × Operand)) (ho : o.op = .buildSlice ty n parts) (hgd : Region.wanted o (yielded ops a.tmps) = true) (vals : Array (Nat × Value)) (hp : (parts.map fun (i, x) => (i, a.eval x)) = vals) {V : Value} {W : World} (hr : (Instr.buildSlice ty n vals).run P w = .ok V W) (h : wpList P ops Q rest (a.put o.dst V) W) : wpList P ops Q (o :: rest) a w := by
  subst hp
  refine wpList_step fun _ hK => ?_
  rw [if_pos hgd]
  unfold Oper.wp execOp
  simp only [ho, Sem.run_bind, hr, Result.andThen_ok, Sem.run_pure]
  exact hK _ _ h
end

set_option maxRecDepth 100000 in
set_option maxHeartbeats 6400000 in
theorem walk (s1 : Sl RecM) (m0 : RecM) (w : World) (h1 : recsOk w w.heap.size s1) (h2 : RecM.wide w w.heap.size m0) :
    Calls Try.prog 5 #[s1.v, m0.v] w fun e w' => e = .returned (.bool true) ∧ Below w.heap.size w w' := by
  have HG1 := hide_ (fun (u : World) (h : Below w.heap.size w u) => great14_any s1 w.heap.size u (recs_stable.below h1 h) h.size)
  have HMW := hide_ (fun (u : World) (h : Below w.heap.size w u) => recw_stable.below h2 h)
  have H1 := hide_ h1
  obtain ⟨A1, cp1, l1⟩ := s1
  simp only [Sl.v] at HG1 H1 ⊢
  obtain ⟨n1, hn1⟩ : ∃ n, l1.length = n := ⟨_, rfl⟩
  rw [hn1] at HG1 ⊢
  have HN1 := hide_ hn1
  obtain ⟨m, hmm⟩ : ∃ x, x = m0 := ⟨_, rfl⟩
  subst hmm
  have HVM := hide_ (show m.v = .agg m.box from rfl)
  have HMZ := hide_ (show m.box.size = 21 from rfl)
  have HML := hide_ (show m.box.toList = m.cs from rfl)
  clear h1 h2 hn1
  have HBS := hide_ (fun (u : World) => show (Instr.buildSlice 44 1 #[(0, Value.agg m.box)]).run Try.prog u = .ok (.slice (some ⟨u.heap.size, 0, none⟩) 1 1) (u.alloc (.cells m.box 67)) from by obtain ⟨ki, ke, pc, pn, pl, ac, an, al, ⟨rk, inc, st, ⟨vA, vc, vl⟩, ⟨dA, dc, dl⟩, ⟨oA, oc, ol⟩, la, ⟨mA, mc, ml⟩⟩, fe, li, ⟨C, ⟨xA, xc, xl⟩, ⟨yA, yc, yl⟩⟩⟩ := m; kernel_rfl)
  obtain ⟨V, hV⟩ : ∃ V, m.v = V := ⟨_, rfl⟩
  rw [hV] at HVM ⊢
  have HVV := hide_ hV.symm
  clear hV
  go_enter Try.func5, Try.ntmps5
  go_wp2_with (refine box_whole 67 (by rfl) _ (by rfl) (by rfl) HVM.out ?_; intro W0 HX0 HB0 HZ0)
  refine (HG1.out _ HB0.out).mono ?_
  rintro e w1 ⟨b1, rfl, hb1, hg1⟩
  have HB1 := hide_ (HB0.out.trans (hb1.mono HB0.out.size))
  have HX1 := hide_ (HX0.out.below hb1)
  have HGA := hide_ hg1
  clear hb1 hg1 HG1
  cases b1 with
  | true =>
    go_wp2_with fail
    refine (awake14_any _).mono ?_
    rintro e wz ⟨rfl, hbz⟩
    go_wp2
    go_ret
    exact ⟨rfl, HB1.out.trans (hbz.mono HB1.out.size)⟩
  | false =>
  go_wp2_with (first | (refine load_whole 67 (by rfl) _ (by rfl) rec_size rec_row HX1.out (by rfl) HMZ.out ?_) | (refine bslice_known 44 1 _ (by rfl) (by rfl) #[(0, Value.agg m.box)] (by kernel_rfl) (HBS.out _) ?_))
  have HG2 := hide_ (great14_any ⟨some ⟨w1.heap.size, 0, none⟩, 1, [m]⟩ (w1.heap.size + 1) (w1.alloc (.cells m.box 67)) ⟨by simp, by simp [maxLen], by simpa [RecM.cs] using sees_box w1 m.box 67 m.box.toList (by simp), fun x hx => by rw [List.mem_singleton.1 hx]; exact recw_stable.more (HMW.out _ (HB1.out.trans ((Below.refl _ _).alloc (Nat.le_refl _) _ |>.mono HB1.out.size))) (by have := HB1.out.size; omega)⟩ (by simp))
  simp only [Sl.v, List.length_singleton] at HG2
  have HB2 := hide_ (HB1.out.alloc HB1.out.size (.cells m.box 67))
  have HX2 := hide_ (HX1.out.alloc (.cells m.box 67))
  refine HG2.out.mono ?_
  rintro e w3 ⟨b2, rfl, hb2, hg2⟩
  have HB3 := hide_ (HB2.out.trans (hb2.mono HB2.out.size))
  have HX3 := hide_ (HX2.out.below hb2)
  have HGB := hide_ hg2
  clear hb2 hg2 HG2
  cases b2 with
  | true =>
    go_wp2_with fail
    refine (awake14_any _).mono ?_
    rintro e wz ⟨rfl, hbz⟩
    go_wp2
    go_ret
    exact ⟨rfl, HB3.out.trans (hbz.mono HB3.out.size)⟩
  | false =>
  obtain ⟨hl1, hm1⟩ := HGA.out (by first | trivial | rfl)
  obtain ⟨_, hm2⟩ := HGB.out (by first | trivial | rfl)
  rw [HN1.out] at hl1
  have HT1 := hide_ (tame_of H1.out.2.2.2 hm1)
  have hmt := (HMW.out w (Below.refl _ _)).tame (hm2 m (by simp))
  have HTM := hide_ (show RecM.tame w w.heap.size m from ⟨⟨hmt.1, hmt.2.1, hmt.2.2.1⟩, hmt.2.2.2⟩)
  have HS := hide_ H1.out.2.2.1
  have HZB := hide_ zeroSt.box_size
  have HZO := hide_ zeroSt.one
  clear hm1 hm2 hmt HGA HGB H1 HMW HB1 HB2 HX1 HX2 HB0 HX0 HZ0 HBS
  go_upto_region 4 with (first | (refine build_known 62 _ (by rfl) (by rfl) (V := .agg zeroSt.box) (by kernel_rfl) ?_) | (refine alloc_whole 62 (by rfl) (by rfl) sta_zero ?_; intro W4 HY4 HB4 HZ4) | (refine store_whole 62 (by rfl) _ _ (by rfl) sta_size (by rfl) (by rfl) (cs := zeroSt.box) (by rfl) HZB.out HZO.out HY4.out HZB.out ?_; intro W5 HY5 HG5 HZ5))
  have hz4 := HZ4.out
  obtain ⟨g3, hg3⟩ : ∃ g, w.heap.size = g := ⟨_, rfl⟩
  obtain ⟨g5, hg5⟩ : ∃ g, w3.heap.size = g := ⟨_, rfl⟩
  have HGE := hide_ (show g3 = w.heap.size ∧ g5 = w3.heap.size from ⟨hg3.symm, hg5.symm⟩)
  have HGL := hide_ (show g3 < g5 from by have := HX3.out.lt; omega)
  have HB5 := hide_ (show Below w.heap.size w W5 from by
    have a4 := HB3.out.trans (HB4.out.mono HB3.out.size)
    exact a4.grown HG5.out a4.size (fun q hq => by injection hq with hq; have := HB3.out.size; omega))
  have HX5 := hide_ (show BoxAt W5 w.heap.size m.box 67 from (HG5.out.block _ (HX3.out.below HB4.out).lt (fun e => by injection e with e; have := HGL.out; omega)).trans (HX3.out.below HB4.out))
  rw [hg3] at HX5 ⊢
  rw [hg5] at HY5 ⊢
  clear hz4 hg3 hg5 HY4 HB4 HZ4 HG5 HZ5 HX3 HB3
  have HSA5 := hide_ (SAside.zero W5 (some g5))
  go_upto_region 5 with fail
  go_loopw [6] (fun i wr => ∃ (k : Nat) (s : StaM), k ≤ n1 ∧ i = .int .i64 k ∧ Hid (s.p = foldsP ((l1.take k).map RecM.p)) ∧ Hid (SAside wr (some g5) s) ∧ Hid (BoxAt wr g5 s.box 62) ∧ Hid (BoxAt wr g3 m.box 67) ∧ Hid (Below w.heap.size w wr)) (fun i _ => n1 - (intOf i).toNat)
  case atStart => exact ⟨0, zeroSt, Nat.zero_le _, rfl, hide_ rfl, HSA5, HY5, HX5, HB5⟩
  case round =>
    obtain ⟨k, s, hk, rfl, HP, HSA, HY, HX, HB⟩ := hrel
    by_cases hlt : k < n1
    case neg =>
      have hkn : n1 = k := by omega
      subst hkn
      have hp := HP.out
      clear hp
      have HFS := hide_ (fun (u : World) (h : Below wr.heap.size wr u) => Fold_any14 s m u.heap.size u (HSA.out.step h).good ((HTM.out.below (HB.out.trans (h.mono HB.out.size))).more (HB.out.trans (h.mono HB.out.size)).size) (Nat.le_refl _))
      have HSZ := hide_ s.box_size
      have HSV := hide_ (show s.v = .agg s.box from rfl)
      have HRF := hide_ (fun (u : World) (h : Below w.heap.size w u) => refFold_any s m u.heap.size u ((HTM.out.below h).more h.size) (Nat.le_refl _))
      obtain ⟨VS, hVS⟩ : ∃ V, s.v = V := ⟨_, rfl⟩
      simp only [hVS, ← HVV.out] at HFS HRF
      rw [hVS] at HSV
      clear hVS
      go_wp2_with (first | (refine load_whole 62 (by rfl) _ (by rfl) sta_size sta_row HY.out (by rfl) HSZ.out ?_; rw [← HSV.out]) | (refine load_whole 67 (by rfl) _ (by rfl) rec_size rec_row HX.out (by rfl) HMZ.out ?_; rw [← HVM.out]))
      refine (HFS.out _ (Below.refl _ _)).mono ?_
      rintro e w6 ⟨x, rfl, hxp, hxf, hb6⟩
      have HXP := hide_ hxp
      have HXF := hide_ hxf
      have HY6 := hide_ (HY.out.below hb6)
      have HX6 := hide_ (HX.out.below hb6)
      have HB6 := hide_ (HB.out.trans (hb6.mono HB.out.size))
      have HL6 := hide_ hb6
      clear hxp hxf hb6
      have HXZ := hide_ x.box_size
      have HXO := hide_ x.one
      have HXV := hide_ (show x.v = .agg x.box from rfl)
      obtain ⟨VX, hVX⟩ : ∃ V, x.v = V := ⟨_, rfl⟩
      rw [hVX] at HXV ⊢
      have HVX := hide_ hVX
      clear hVX
      go_upto_region 9 with (first | (refine alloc_whole 62 (by rfl) (by rfl) sta_zero ?_; intro W7 HQ7 HB7 HZ7) | (refine store_whole 62 (by rfl) _ _ (by rfl) sta_size (by rfl) (by rfl) (cs := x.box) HXV.out HXZ.out HXO.out HQ7.out HZB.out ?_; intro W8 HQ8 HG8 HZ8))
      obtain ⟨g7, hg7⟩ : ∃ g, w6.heap.size = g := ⟨_, rfl⟩
      have HLT := hide_ (show g5 < g7 ∧ g3 < g7 from ⟨by have := HY6.out.lt; omega, by have := HX6.out.lt; omega⟩)
      rw [hg7] at HQ8 ⊢
      have HG78 := hide_ (show w6.grownBy W8 (some g7) from grown_join (grown_below (World.grownBy.refl w6 (some g7)) HB7.out) (hg7 ▸ HG8.out))
      have HY8 := hide_ (show BoxAt W8 g5 s.box 62 from (HG78.out.block _ HY6.out.lt (fun e => by injection e with e; have := HLT.out; omega)).trans HY6.out)
      have HX8 := hide_ (show BoxAt W8 g3 m.box 67 from (HG78.out.block _ HX6.out.lt (fun e => by injection e with e; have := HLT.out; omega)).trans HX6.out)
      have HB8 := hide_ (HB6.out.grown HG78.out HB6.out.size (fun q hq => by injection hq with hq; have := HB6.out.size; omega))
      have HXA := hide_ (show StaM.good W8 W8.heap.size x from by
        have hbw : Below w6.heap.size w6 W8 := (Below.refl _ _).grown HG78.out (Nat.le_refl _) (fun q hq => by injection hq with hq; omega)
        exact (HXF.out.good.below hbw).more hbw.size)
      have HSA8 := hide_ (show StaM.good W8 W8.heap.size s from by
        have hbw : Below w6.heap.size w6 W8 := (Below.refl _ _).grown HG78.out (Nat.le_refl _) (fun q hq => by injection hq with hq; omega)
        have g := (HSA.out.step HL6.out).good
        exact (g.below hbw).more hbw.size)
      have HSE := hide_ (show x.p = foldP s.p m.p from HXP.out)
      clear hg7 HQ7 HB7 HZ7 HG8 HZ8 HG78 HY6 HX6 HB6 HL6 HXF HXP HXO HFS HSA HP HB HY HX
      have HF9 := hide_ (fun (u : World) (h : Below W8.heap.size W8 u) => Fold_any14 x m u.heap.size u ((HXA.out.below h).more h.size) ((HTM.out.below (HB8.out.trans (h.mono HB8.out.size))).more (HB8.out.trans (h.mono HB8.out.size)).size) (Nat.le_refl _))
      simp only [HVX.out, ← HVV.out] at HF9
      have HSQ := hide_ (fun (y : StaM) (u : World) (h : Below W8.heap.size W8 u) (hy : StaM.good u u.heap.size y) (hp : y.p = x.p) => show Calls Try.prog 19 #[y.v, VX] u fun e w' => e = .returned (.bool true) ∧ Below u.heap.size u w' from by have g := sameState_any y x u.heap.size u hy ((HXA.out.below h).more h.size) (Nat.le_refl _); rw [hp, sameSt_refl] at g; rw [← HVX.out]; exact g)
      have HSR := hide_ (fun (u : World) (h : Below W8.heap.size W8 u) => show Calls Try.prog 19 #[VX, (foldM s m).v] u fun e w' => e = .returned (.bool true) ∧ Below u.heap.size u w' from by
        have hb := HB8.out.trans (h.mono HB8.out.size)
        have htm := (HTM.out.below hb).more hb.size
        have hg := (foldM_aside (row := none) (SAside.none ((HSA8.out.below h).more h.size)) htm.g.1 htm.f (RAside.low htm.g.2.1 (Nat.le_refl _) (fun q e => by cases e)) (CAside.low htm.g.2.2 (Nat.le_refl _) (fun q e => by cases e))).good
        have g := sameState_any x (foldM s m) u.heap.size u ((HXA.out.below h).more h.size) hg (Nat.le_refl _)
        rw [foldM_p, HSE.out, sameSt_refl] at g
        rw [← HVX.out]
        exact g)
      have HTW := hide_ (show foldP x.p m.p = x.p from by rw [HSE.out, foldP_twice])
      have HSS := hide_ (fun (u : World) (h : Below W8.heap.size W8 u) => (⟨HQ8.out.below h, HY8.out.below h, HX8.out.below h⟩ : BoxAt u g7 x.box 62 ∧ BoxAt u g5 s.box 62 ∧ BoxAt u g3 m.box 67))
      have HBB := hide_ (fun (u : World) (h : Below W8.heap.size W8 u) => (HB8.out.trans (h.mono HB8.out.size) : Below w.heap.size w u))
      have HU0 := hide_ (show Below W8.heap.size W8 W8.drew from (Below.refl _ _).drew)
      refine wp_region_held_drew (S := fun u => BoxAt u g7 x.box 62 ∧ BoxAt u g5 s.box 62 ∧ BoxAt u g3 m.box 67) (by kernel_rfl) (HSS.out _ HU0.out) (fun hHeld => ?_)
      refine wpAnyH_take (i := 0) (oi := ⟨some 32, _, _, _, _, _⟩) (v := VX) rfl (by kernel_rfl) (by kernel_rfl) (by kernel_rfl) (fun _ _ _ h => h) (yl_whole 62 (by rfl) _ (by rfl) sta_size sta_row HXV.out (fun _ h => h.1) HXZ.out (by rfl)) (by assumption) ?_
      simp only [Act.put, sTI, sT0, sT1]
      refine wpAnyH_take (i := 1) (oi := ⟨some 33, _, _, _, _, _⟩) (v := V) rfl (by kernel_rfl) (by kernel_rfl) (by kernel_rfl) (fun _ _ _ h => h) (yl_whole 67 (by rfl) _ (by rfl) rec_size rec_row HVM.out (fun _ h => h.2.2) HMZ.out (by rfl)) (by assumption) ?_
      simp only [Act.put, sTI, sT0, sT1]
      refine wpAnyH_take (i := 3) (oi := ⟨some 35, _, _, _, _, _⟩) (v := VX) rfl (by kernel_rfl) (by kernel_rfl) (by kernel_rfl) (fun _ _ _ h => h) (yl_whole 62 (by rfl) _ (by rfl) sta_size sta_row HXV.out (fun _ h => h.1) HXZ.out (by rfl)) (by assumption) ?_
      simp only [Act.put, sTI, sT0, sT1]
      refine wpAnyH_ready (rs := [2]) (by kernel_rfl) (by simp) ?_
      refine AllReadyH.cons rfl (fun K hK => ?_) AllReadyH.nil
      go_simp
      go_wp2_with fail
      refine (HF9.out _ HU0.out).mono ?_
      rintro en u1 ⟨y, rfl, hyp, hyf, hbu⟩
      have HU1 := hide_ (HU0.out.trans (hbu.mono HU0.out.size))
      have HYC := hide_ (HSQ.out y u1 HU1.out hyf.good (hyp.trans HTW.out))
      clear hyp hyf
      obtain ⟨VY, hVY⟩ : ∃ V, y.v = V := ⟨_, rfl⟩
      rw [hVY] at HYC ⊢
      clear hVY
      clear hbu
      refine hK.out _ _ (HSS.out _ HU1.out) (fun hHeld => ?_)
      clear hK K
      refine wpAnyH_ready (rs := [4]) (by kernel_rfl) (by simp) ?_
      refine AllReadyH.cons rfl (fun K hK => ?_) AllReadyH.nil
      go_simp
      go_wp2_with fail
      refine (HYC.out).mono ?_
      rintro en u2 ⟨rfl, hbu⟩
      have HU2 := hide_ (HU1.out.trans (hbu.mono HU1.out.size))
      clear hbu
      refine hK.out _ _ (HSS.out _ HU2.out) (fun hHeld => ?_)
      clear hK K
      refine tkY 5 37 (.bool true) rfl ?hy1 (by assumption) ?rest1
      case hy1 => intro w hSw; clear hSw; go_simp <;> with_reducible rfl
      simp only [Act.put, sTI, sT0, sT1]
      refine wpAnyH_take (i := 6) (oi := ⟨some 38, _, _, _, _, _⟩) (v := VX) rfl (by kernel_rfl) (by kernel_rfl) (by kernel_rfl) (fun _ _ _ h => h) (yl_whole 62 (by rfl) _ (by rfl) sta_size sta_row HXV.out (fun _ h => h.1) HXZ.out (by rfl)) (by assumption) ?_
      simp only [Act.put, sTI, sT0, sT1]
      refine wpAnyH_take (i := 7) (oi := ⟨some 39, _, _, _, _, _⟩) (v := VS) rfl (by kernel_rfl) (by kernel_rfl) (by kernel_rfl) (fun _ _ _ h => h) (yl_whole 62 (by rfl) _ (by rfl) sta_size sta_row HSV.out (fun _ h => h.2.1) HSZ.out (by rfl)) (by assumption) ?_
      simp only [Act.put, sTI, sT0, sT1]
      refine wpAnyH_take (i := 8) (oi := ⟨some 40, _, _, _, _, _⟩) (v := V) rfl (by kernel_rfl) (by kernel_rfl) (by kernel_rfl) (fun _ _ _ h => h) (yl_whole 67 (by rfl) _ (by rfl) rec_size rec_row HVM.out (fun _ h => h.2.2) HMZ.out (by rfl)) (by assumption) ?_
      simp only [Act.put, sTI, sT0, sT1]
      refine wpAnyH_ready (rs := [9]) (by kernel_rfl) (by simp) ?_
      refine AllReadyH.cons rfl (fun K hK => ?_) AllReadyH.nil
      go_simp
      go_wp2_with fail
      refine (HRF.out _ (HBB.out _ HU2.out)).mono ?_
      rintro en u3 ⟨rfl, hbu⟩
      have HU3 := hide_ (HU2.out.trans (hbu.mono HU2.out.size))
      have HYD := hide_ (HSR.out u3 HU3.out)
      obtain ⟨VZ, hVZ⟩ : ∃ V, (foldM s m).v = V := ⟨_, rfl⟩
      rw [hVZ] at HYD ⊢
      clear hVZ
      clear hbu
      refine hK.out _ _ (HSS.out _ HU3.out) (fun hHeld => ?_)
      clear hK K
      refine wpAnyH_ready (rs := [10]) (by kernel_rfl) (by simp) ?_
      refine AllReadyH.cons rfl (fun K hK => ?_) AllReadyH.nil
      go_simp
      go_wp2_with fail
      refine (HYD.out).mono ?_
      rintro en u4 ⟨rfl, hbu⟩
      have HU4 := hide_ (HU3.out.trans (hbu.mono HU3.out.size))
      clear hbu
      refine hK.out _ _ (HSS.out _ HU4.out) (fun hHeld => ?_)
      clear hK K
      refine tkY 11 43 (.bool true) rfl ?hy2 (by assumption) ?rest2
      case hy2 => intro w hSw; clear hSw; go_simp <;> with_reducible rfl
      simp only [Act.put, sTI, sT0, sT1]
      refine tkY 12 44 (.bool true) rfl ?hy3 (by assumption) ?rest3
      case hy3 => intro w hSw; clear hSw; go_simp <;> with_reducible rfl
      simp only [Act.put, sTI, sT0, sT1]
      refine wpAnyH_ready (rs := [13]) (by kernel_rfl) (by simp) ?_
      refine AllReadyH.cons rfl (fun K hK => ?_) AllReadyH.nil
      go_simp
      go_wp2_with fail
      refine (awake14_any _).mono ?_
      rintro en u5 ⟨rfl, hbu⟩
      have HU5 := hide_ (HU4.out.trans (hbu.mono HU4.out.size))
      clear hbu
      refine hK.out _ _ (HSS.out _ HU5.out) (fun hHeld => ?_)
      clear hK K
      refine tkY 14 46 (.bool true) rfl ?hy4 (by assumption) ?rest4
      case hy4 => intro w hSw; clear hSw; go_simp <;> with_reducible rfl
      simp only [Act.put, sTI, sT0, sT1]
      refine tkY 15 4 (.bool true) rfl ?hy5 (by assumption) ?rest5
      case hy5 => intro w hSw; clear hSw; go_simp <;> with_reducible rfl
      simp only [Act.put, sTI, sT0, sT1]
      refine wpAnyH_done (by kernel_rfl) ?_ _
      clear hHeld
      have HBE := hide_ (HBB.out _ HU5.out)
      go_wp2
      go_ret
      exact ⟨rfl, HBE.out⟩
    obtain ⟨x, hx⟩ : ∃ x, l1[k]? = some x := ⟨_, List.getElem?_eq_getElem (by rw [HN1.out]; exact hlt)⟩
    obtain ⟨b, off, rfl, hb, hrg⟩ := HS.out.rec14 hx
    have htm := HT1.out x (List.mem_of_getElem? hx)
    have HRG := hide_ (fun (u : World) (h : Below w.heap.size w u) => hrg u (fun q hq => h.cell hq))
    have HNX := hide_ (foldsP_succ hx)
    have HFO := hide_ (fun (u : World) (h : Below wr.heap.size wr u) => Fold_any14 s x u.heap.size u (HSA.out.step h).good ((htm.below (HB.out.trans (h.mono HB.out.size))).more (HB.out.trans (h.mono HB.out.size)).size) (Nat.le_refl _))
    have HSZ := hide_ s.box_size
    have HSV := hide_ (show s.v = .agg s.box from rfl)
    have HXV := hide_ (show x.v = .agg x.cs.toArray from rfl)
    have HXL := hide_ x.cs_len
    obtain ⟨VS, hVS⟩ : ∃ V, s.v = V := ⟨_, rfl⟩
    obtain ⟨VX, hVX⟩ : ∃ V, x.v = V := ⟨_, rfl⟩
    simp only [hVS, hVX] at HFO
    rw [hVS] at HSV
    rw [hVX] at HXV
    have HBL := hide_ (fun (u : World) (h : Below w.heap.size w u) => Nat.lt_of_lt_of_le hb h.size)
    have hbz := HBL.out _ HB.out
    have hk21 : (k : Int) * 21 = ((k * 21 : Nat) : Int) := by omega
    have hlt2 : ((k : Int) < (n1 : Int)) := by omega
    clear hx hrg htm hVS hVX hb
    have HD := hide_ (show Below wr.heap.size wr wr.drew from (Below.refl _ _).drew)
    have HBD := hide_ (HB.out.trans (HD.out.mono HB.out.size))
    go_upto_region 7 with fail
    refine wp_region_held_drew (S := fun u => u.rangeAt b (off + k * 21) x.cs) (by kernel_rfl) (HRG.out _ HBD.out) (fun hHeld => ?_)
    refine tkY 1 24 ?v6 rfl ?hy6 (by assumption) ?rest6
    case hy6 => intro w hSw; clear hSw; go_simp <;> with_reducible rfl
    simp only [Act.put, sTI, sT0, sT1]
    refine tkY 2 25 ?v7 rfl ?hy7 (by assumption) ?rest7
    case hy7 => intro w hSw; clear hSw; go_simp <;> with_reducible rfl
    simp only [Act.put, sTI, sT0, sT1]
    refine tkY 3 26 ?v8 rfl ?hy8 (by assumption) ?rest8
    case hy8 => intro w hSw; clear hSw; go_simp <;> with_reducible rfl
    simp only [Act.put, sTI, sT0, sT1]
    refine wpAnyH_take (i := 4) (oi := ⟨some 27, _, _, _, _, _⟩) (v := VX) rfl (by kernel_rfl) (by kernel_rfl) (by kernel_rfl) (fun _ _ _ h => h) (yl_range 67 (by rfl) _ (by rfl) rec_size rec_row HXV.out (fun _ h => h) HXL.out (by rfl)) (by assumption) ?_
    simp only [Act.put, sTI, sT0, sT1]
    refine wpAnyH_ready (rs := [0]) (by kernel_rfl) (by simp) ?_
    refine AllReadyH.cons rfl (fun K hK => ?_) AllReadyH.nil
    refine step_load_whole 62 (by rfl) _ (by rfl) sta_size sta_row (HY.out.below HD.out) (by rfl) HSZ.out ?_
    rw [← HSV.out]
    refine hK.out _ _ (HRG.out _ HBD.out) (fun hHeld => ?_)
    clear hK K
    try simp only [Act.put, sTI]
    refine wpAnyH_ready (rs := [5]) (by kernel_rfl) (by simp) ?_
    refine AllReadyH.cons rfl (fun K hK => ?_) AllReadyH.nil
    go_simp
    go_wp2_with fail
    refine (HFO.out _ HD.out).mono ?_
    rintro en u1 ⟨y, rfl, hyp, hyf, hb1⟩
    have HU1 := hide_ (HD.out.trans (hb1.mono HD.out.size))
    have HBU := hide_ (HB.out.trans (HU1.out.mono HB.out.size))
    have HX1 := hide_ (HX.out.below HU1.out)
    have HY1 := hide_ (HY.out.below HU1.out)
    have HYP := hide_ (hyp.trans (by rw [HP.out, ← HNX.out]))
    have HYF := hide_ (hyf.aside (row := some g5) (fun q hq => by injection hq with hq; have := HY.out.lt; have := HD.out.size; omega))
    clear hyp hyf hb1
    have HYZ := hide_ y.box_size
    have HYO := hide_ y.one
    have HYV := hide_ (show y.v = .agg y.box from rfl)
    obtain ⟨VY, hVY⟩ : ∃ V, y.v = V := ⟨_, rfl⟩
    rw [hVY] at HYV ⊢
    clear hVY
    refine hK.out _ _ (HRG.out _ HBU.out) (fun hHeld => ?_)
    clear hK K
    refine wpAnyH_ready (rs := [6]) (by kernel_rfl) (by simp) ?_
    refine AllReadyH.cons rfl (fun K hK => ?_) AllReadyH.nil
    refine step_store_whole 62 (by rfl) _ _ (by rfl) sta_size (by rfl) (by rfl) (cs := y.box) HYV.out HYZ.out HYO.out HY1.out HSZ.out ?_ (by rfl)
    intro W6 HY6 HG6 HZ6
    have HB6 := hide_ (HBU.out.grown HG6.out HBU.out.size (fun q hq => by injection hq with hq; have := HGL.out; have := HGE.out.1; omega))
    have HX6 := hide_ (show BoxAt W6 g3 m.box 67 from (HG6.out.block _ HX1.out.lt (fun e => by injection e with e; have := HGL.out; omega)).trans HX1.out)
    refine hK.out _ _ (HRG.out _ HB6.out) (fun hHeld => ?_)
    clear hK K
    refine wpAnyH_done (by kernel_rfl) ?_ _
    clear hHeld
    go_wp2
    go_roundw
    case rel => exact ⟨k + 1, y, by omega, by go_num, HYP, hide_ (HYF.out.set HG6.out), HY6, HX6, HB6⟩
    case measure => simp [intOf]; omega

theorem own : ownKnob Try.prog.godebug = none := by kernel_rfl
theorem laid : laidOutB Try.prog = true := by kernel_rfl

set_option maxRecDepth 100000 in
theorem contract (H : Type) (enc : TypeId × Value → H) (W : World) (base : Nat) (args : Array Value) (ds gs : List (DataW H)) (before : List MemPlace)
    (hval : ∀ (j : Nat) t v, Try.f5.params[j]? = some t → args[j]? = some v → Value.okWide Try.prog W .any base t v)
    (hW : DataW.Whole enc Try.prog Try.f5.params.toList Rows.recordTwiceSpec.vars false W args.toList ds gs before) :
    Calls Try.prog 5 args W fun e W' => ∃ v, e = .returned v ∧ Rows.recordTwiceSpec.post enc Try.prog Try.f5 false true false false W args v W' := by
  have hW' := hW
  obtain ⟨p, q, hA0, hV, rfl, hfz, hnd⟩ := hW
  have hA : DataW.TrodAll enc Try.prog W 0 (fun _ => true) true Try.f5.params.toList args.toList ds p := hA0
  rw [Try.params5] at hA hval
  obtain ⟨v0, vs0, d0, ds0, p0, q0, hargs, rfl, rfl, h0, r0⟩ := trodAll_cons hA
  obtain ⟨v1, vs1, d1, ds1, p1, q1, rfl, rfl, rfl, h1, r1⟩ := trodAll_cons r0
  obtain ⟨rfl, rfl, rfl⟩ := trodAll_nil r1
  obtain rfl : args = #[v0, v1] := by cases args; simp_all
  obtain ⟨rfl, rfl⟩ := trodVars_none hV
  obtain ⟨u0, rfl, bu0⟩ := open_recs (hval 0 44 v0 rfl rfl) h0
  obtain ⟨u1, rfl, bu1⟩ := open_rec (hval 1 67 v1 rfl rfl) h1
  have fin : ∀ (e : Ending) (W' : World), e = .returned (.bool true) ∧ Below W.heap.size W W' → ∃ v, e = .returned v ∧ Rows.recordTwiceSpec.post enc Try.prog Try.f5 false true false false W #[Sl.v u0, RecM.v u1] v W' :=
    fun e W' ⟨he, hb⟩ => ⟨_, he, law_post laid (by kernel_rfl) rfl rfl rfl Try.underlying4 hW' hb⟩
  exact (walk u0 u1 W bu0 bu1).mono fin

set_option maxRecDepth 100000 in
theorem lifted (os : Os) (started : os.Started) (H : Type) (enc : TypeId × Value → H) :
    ReturnsInHanded {} Try.checked os 5 .any (Rows.recordTwiceSpec.pre6 enc Try.prog Try.f5 Rows.recordTwiceRow.domain false) (Rows.recordTwiceSpec.post enc Try.prog Try.f5 false true false false) := by
  refine returnsInHanded_of_change (C := Try.checked) (s := Rows.recordTwiceSpec) own started (by kernel_rfl) Try.func5
    (ChangeSpec.witness6 (enc := enc) (C := Try.checked) false ⟨#[], #[.slice none 0 0, .agg #[.int .u8 0, .int .u8 0, .int .u64 0, .int .u8 0, .int .u32 0, .int .u64 0, .int .u8 0, .int .u32 0, .int .u8 0, .int .u64 0, .int .i64 0, .slice none 0 0, .slice none 0 0, .slice none 0 0, .int .u64 0, .slice none 0 0, .int .u64 0, .int .u32 0, .int .u64 0, .slice none 0 0, .slice none 0 0]], []⟩ 8 (by kernel_rfl) (by kernel_rfl) (by kernel_rfl) (by kernel_rfl)) ?_
  intro W base args ds gs before hval hW _ _
  exact contract H enc W base args ds gs before hval hW

theorem proved : Rows.RecordTwiceSaid :=
  OpenClaim.holds_of_wide 5 Try.f5 rfl rfl rfl rfl rfl rfl rfl ⟨rfl, rfl, rfl, rfl, rfl⟩ rfl rfl rfl rfl rfl (by kernel_rfl) Try.func5 (by kernel_rfl)
    (of_decide_eq_true (by kernel_rfl)) (by unfold Func.isWrapper; first | (rw [if_pos (by decide +kernel)]; kernel_rfl) | (rw [if_neg (by decide +kernel)]; exact ⟨rfl, rfl⟩))
    (fun os started H enc _ => lifted os started H enc)

end Go.Proofs.Ytecbpmnolgkllaa.recordTwice
