/-
  scrutineerlaw07.EngineReads answers true for every input and leaves its input as it was; no condition.
-/
import Derived.Test.YtccfjaefnejjmaaGreatJ49
namespace Go.Proofs.YtccfjaefnejjmaaGreat.engineReads
open Go.ChangeShapes Go.WideShapes Go.ChangeAt Go.RowKit

set_option maxRecDepth 100000 in
set_option maxHeartbeats 12800000 in
theorem walk (ts tv : Int) (t : Sl RuM) (r : RegM) (o : OpM) (cn : Int) (w : World) (ht : rusOk w w.heap.size t) (hr : RegM.ok w w.heap.size r) (ho : OpM.ok o) (hc : U64 cn) :
    Calls Tryz.prog 8 #[tabV ts tv t, r.v, o.v, .int .u64 cn] w fun e w' => e = .returned (.bool true) ∧ Below w.heap.size w w' := by
  have RU := fun (u : World) (h : Below w.heap.size w u) => reg_stable.below hr h
  have TU := fun (u : World) (h : Below w.heap.size w u) => rus_stable.below ht h
  have HG := hide_ (fun (u : World) (h : Below w.heap.size w u) => great7_any ts tv t r w.heap.size u (TU u h) (RU u h) h.size)
  have HR := hide_ (fun (u : World) (h : Below w.heap.size w u) => refRight_any ts tv t r o cn w.heap.size u (TU u h) (RU u h) ho h.size)
  have HA := hide_ (fun (u : World) => awake07_any u)
  have HAP := hide_ (fun (u : World) (h : Below w.heap.size w u) hq h1 h2 h3 h4 h5 => apply_right ts tv t r o cn w.heap.size u (TU u h) (RU u h) ho hc h.size hq h1 h2 h3 h4 h5)
  have HSM := hide_ (fun (u : World) (x : RegM) (h : Below w.heap.size w u) (hx : RegM.ok u u.heap.size x) => refSameG_any x r u.heap.size u hx (reg_stable.more (RU u h) h.size) (Nat.le_refl _))
  have HSD := hide_ (fun (u : World) (x y : RegM) (hx : RegM.ok u u.heap.size x) (hy : RegM.ok u u.heap.size y) => refSameG_any x y u.heap.size u hx hy (Nat.le_refl _))
  have HRO := hide_ RU
  obtain ⟨qr, hqr⟩ : ∃ q, rightB ts tv t.l r.p o cn = q := ⟨_, rfl⟩
  simp only [hqr] at HR HAP
  have HQR := hide_ hqr
  obtain ⟨AP, hAP⟩ : ∃ A, applyG ts tv t.l r.p o cn = A := ⟨_, rfl⟩
  simp only [hAP] at HAP
  have HMS := hide_ (fun (h : qr = true) (hk : o.ki = 7) => by have := apply_same (hqr.trans h) hk; rw [hAP] at this; exact this)
  have HMR := hide_ (fun (h : qr = true) (hk : o.ki = 3 ∨ o.ki = 7) => by have := apply_reads (hqr.trans h) hk; rw [hAP] at this; exact this)
  obtain ⟨RP, hRP⟩ : ∃ P, r.p = P := ⟨_, rfl⟩
  have HRP := hide_ hRP
  rw [hRP] at HMS HMR
  clear RU TU ht hr ho hc hqr hAP hRP HQR
  obtain ⟨tA, tc, tl⟩ := t
  obtain ⟨oki, ke, cl, sq, ac, pa, ar, so, oinc, ce⟩ := o
  obtain ⟨ki, inc, st, ⟨vA, vc, vl⟩, ⟨dA, dc, dl⟩, ⟨oA, oc, ol⟩, la, ⟨mA, mc, ml⟩⟩ := r
  simp only [tabV, RegM.v, OpM.v, Sl.v] at HG HR HAP HSM HMS HMR ⊢
  obtain ⟨W0, hW0⟩ : ∃ W0, ((w.alloc (.cells #[.int .i64 ts, .int .i64 tv, .slice tA tl.length tc] 24)).alloc (.cells #[.int .u8 ki, .int .u64 inc, .int .i64 st, .slice vA vl.length vc, .slice dA dl.length dc, .slice oA ol.length oc, .int .u64 la, .slice mA ml.length mc] 31)).alloc (.cells #[.int .u8 oki, .int .u8 ke, .int .u8 cl, .int .u64 sq, .int .i64 ac, .int .i64 pa, .int .i64 ar, .int .u8 so, .int .u64 oinc, .int .u64 ce] 33) = W0 := ⟨_, rfl⟩
  have HXT := hide_ (show BoxAt W0 w.heap.size #[.int .i64 ts, .int .i64 tv, .slice tA tl.length tc] 24 from hW0 ▸ ((BoxAt.new w _ _).alloc _).alloc _)
  have HXR := hide_ (show BoxAt W0 (w.heap.size + 1) #[.int .u8 ki, .int .u64 inc, .int .i64 st, .slice vA vl.length vc, .slice dA dl.length dc, .slice oA ol.length oc, .int .u64 la, .slice mA ml.length mc] 31 from by
    have h := (BoxAt.new (w.alloc (.cells #[.int .i64 ts, .int .i64 tv, .slice tA tl.length tc] 24)) #[.int .u8 ki, .int .u64 inc, .int .i64 st, .slice vA vl.length vc, .slice dA dl.length dc, .slice oA ol.length oc, .int .u64 la, .slice mA ml.length mc] 31).alloc (.cells #[.int .u8 oki, .int .u8 ke, .int .u8 cl, .int .u64 sq, .int .i64 ac, .int .i64 pa, .int .i64 ar, .int .u8 so, .int .u64 oinc, .int .u64 ce] 33)
    rw [hW0] at h
    simpa using h)
  have HXO := hide_ (show BoxAt W0 (w.heap.size + 1 + 1) #[.int .u8 oki, .int .u8 ke, .int .u8 cl, .int .u64 sq, .int .i64 ac, .int .i64 pa, .int .i64 ar, .int .u8 so, .int .u64 oinc, .int .u64 ce] 33 from by
    have h := BoxAt.new ((w.alloc (.cells #[.int .i64 ts, .int .i64 tv, .slice tA tl.length tc] 24)).alloc (.cells #[.int .u8 ki, .int .u64 inc, .int .i64 st, .slice vA vl.length vc, .slice dA dl.length dc, .slice oA ol.length oc, .int .u64 la, .slice mA ml.length mc] 31)) #[.int .u8 oki, .int .u8 ke, .int .u8 cl, .int .u64 sq, .int .i64 ac, .int .i64 pa, .int .i64 ar, .int .u8 so, .int .u64 oinc, .int .u64 ce] 33
    rw [hW0] at h
    simpa using h)
  have HB0 := hide_ (show Below w.heap.size w W0 from hW0 ▸ (((Below.refl _ _).alloc (Nat.le_refl _) _).alloc (by simp) _).alloc (by simp; omega) _)
  have HW0 := hide_ hW0
  clear hW0
  go_enter Tryz.func8, Tryz.ntmps8
  go_wp2_with fail
  rw [HW0.out]
  refine (HG.out _ HB0.out).mono ?_
  rintro e1 w1 ⟨b1, rfl, hb1, hlen⟩
  have HLEN := hide_ hlen
  have HB1 := hide_ (HB0.out.trans (hb1.mono HB0.out.size))
  have HT1 := hide_ (HXT.out.below hb1)
  have HR1 := hide_ (HXR.out.below hb1)
  have HO1 := hide_ (HXO.out.below hb1)
  clear hb1 hlen
  have hct := HT1.out.cell
  have hcr := HR1.out.cell
  have hco := HO1.out.cell
  have zt := HT1.out.lt
  have zr := HR1.out.lt
  have zo := HO1.out.lt
  cases b1 with
  | true =>
    go_wp2_with fail
    refine (HA.out _).mono ?_
    rintro e2 w2 ⟨rfl, hb2⟩
    have HB2 := hide_ (HB1.out.trans (hb2.mono HB1.out.size))
    go_wp2
    go_ret
    exact ⟨rfl, HB2.out⟩
  | false =>
  obtain ⟨h1, h2, h3, h4, h5⟩ := HLEN.out rfl
  have HAQ := hide_ (fun (u : World) (h : Below w.heap.size w u) (hq : qr = true) => HAP.out u h hq h1 h2 h3 h4 h5)
  clear h1 h2 h3 h4 h5
  go_wp2_with fail
  refine (HR.out _ HB1.out).mono ?_
  rintro e2 w2 ⟨rfl, hb2⟩
  have HB2 := hide_ (HB1.out.trans (hb2.mono HB1.out.size))
  have HT2 := hide_ (HT1.out.below hb2)
  have HR2 := hide_ (HR1.out.below hb2)
  have HO2 := hide_ (HO1.out.below hb2)
  clear hb2 hct hcr hco zt zr zo
  have hct := HT2.out.cell
  have hcr := HR2.out.cell
  have hco := HO2.out.cell
  have zt := HT2.out.lt
  have zr := HR2.out.lt
  have zo := HO2.out.lt
  cases qr with
  | false =>
    go_wp2_with fail
    refine (HA.out _).mono ?_
    rintro e3 w3 ⟨rfl, hb3⟩
    have HB3 := hide_ (HB2.out.trans (hb3.mono HB2.out.size))
    go_wp2
    go_ret
    exact ⟨rfl, HB3.out⟩
  | true =>
  by_cases k37 : oki = 3 ∨ oki = 7
  case neg =>
    have d3 : (oki != 3) = true := bne_iff_ne.2 (fun h => k37 (.inl h))
    have d7 : (oki != 7) = true := bne_iff_ne.2 (fun h => k37 (.inr h))
    clear k37
    go_wp2_with fail
    refine (HA.out _).mono ?_
    rintro e3 w3 ⟨rfl, hb3⟩
    have HB3 := hide_ (HB2.out.trans (hb3.mono HB2.out.size))
    go_wp2
    go_ret
    exact ⟨rfl, HB3.out⟩
  have HMR2 := hide_ (HMR.out rfl k37)
  rcases k37 with rfl | rfl
  · go_wp2_with fail
    clear hct hcr hco zt zr zo
    refine (HAQ.out w2 HB2.out (by first | trivial | rfl)).mono ?_
    rintro e3 w3 ⟨x, y, rfl, hxp, hyp, hfr, -, -, hb3⟩
    have HB3 := hide_ (HB2.out.trans (hb3.mono HB2.out.size))
    have HT3 := hide_ (HT2.out.below hb3)
    have HR3 := hide_ (HR2.out.below hb3)
    have HO3 := hide_ (HO2.out.below hb3)
    have HFR := hide_ hfr
    have hs3 : w.heap.size + 3 ≤ w3.heap.size := by have := HO3.out.lt; omega
    clear hb3 hfr
    obtain ⟨xki, xinc, xst, ⟨xvA, xvc, xvl⟩, ⟨xdA, xdc, xdl⟩, ⟨xoA, xoc, xol⟩, xla, ⟨xmA, xmc, xml⟩⟩ := x
    obtain ⟨er, yi, ys, ⟨yA, yc, yl⟩⟩ := y
    have HXD := hide_ (show decide (RegM.p ⟨xki, xinc, xst, ⟨xvA, xvc, xvl⟩, ⟨none, 0, []⟩, ⟨xoA, xoc, xol⟩, xla, ⟨xmA, xmc, xml⟩⟩ = RegM.p ⟨ki, inc, st, ⟨vA, vc, vl⟩, ⟨none, 0, []⟩, ⟨oA, oc, ol⟩, la, ⟨mA, mc, ml⟩⟩) = true from by
      rw [decide_eq_true_eq]
      have h1 := HMR2.out
      rw [← hxp, ← HRP.out] at h1
      exact h1)
    clear hxp hyp
    have HOX := hide_ (fun (U : World) (hU : Below w3.heap.size w3 U) => show RegM.ok U U.heap.size ⟨xki, xinc, xst, ⟨xvA, xvc, xvl⟩, ⟨none, 0, []⟩, ⟨xoA, xoc, xol⟩, xla, ⟨xmA, xmc, xml⟩⟩ from by
      have h1 := (HFR.out.below hU).ok
      exact ⟨h1.1, h1.2.1, (zeroM_ok U U.heap.size).2.2.1, h1.2.2.2⟩)
    have HOR := hide_ (fun (U : World) (hU : Below w3.heap.size w3 U) => show RegM.ok U U.heap.size ⟨ki, inc, st, ⟨vA, vc, vl⟩, ⟨none, 0, []⟩, ⟨oA, oc, ol⟩, la, ⟨mA, mc, ml⟩⟩ from by
      have h2 := HB3.out.trans (hU.mono HB3.out.size)
      have h1 := reg_stable.more (HRO.out U h2) h2.size
      exact ⟨h1.1, h1.2.1, (zeroM_ok U U.heap.size).2.2.1, h1.2.2.2⟩)
    simp only [RegM.v, RepM.v, Sl.v]
    obtain ⟨W4, hW4⟩ : ∃ W4, (w3.alloc (.cells #[.int .u8 xki, .int .u64 xinc, .int .i64 xst, .slice xvA xvl.length xvc, .slice xdA xdl.length xdc, .slice xoA xol.length xoc, .int .u64 xla, .slice xmA xml.length xmc] 31)).alloc (.cells #[.int .i64 er, .int .u64 yi, .int .i64 ys, .slice yA yl.length yc] 38) = W4 := ⟨_, rfl⟩
    have hb4 : Below w3.heap.size w3 W4 := hW4 ▸ ((Below.refl _ _).alloc (Nat.le_refl _) _).alloc (by simp) _
    have HX4 := hide_ (show BoxAt W4 w3.heap.size #[.int .u8 xki, .int .u64 xinc, .int .i64 xst, .slice xvA xvl.length xvc, .slice xdA xdl.length xdc, .slice xoA xol.length xoc, .int .u64 xla, .slice xmA xml.length xmc] 31 from hW4 ▸ (BoxAt.new w3 _ _).alloc _)
    have HY4 := hide_ (show BoxAt W4 (w3.heap.size + 1) #[.int .i64 er, .int .u64 yi, .int .i64 ys, .slice yA yl.length yc] 38 from by
      have h := BoxAt.new (w3.alloc (.cells #[.int .u8 xki, .int .u64 xinc, .int .i64 xst, .slice xvA xvl.length xvc, .slice xdA xdl.length xdc, .slice xoA xol.length xoc, .int .u64 xla, .slice xmA xml.length xmc] 31)) #[.int .i64 er, .int .u64 yi, .int .i64 ys, .slice yA yl.length yc] 38
      rw [hW4] at h
      simpa using h)
    have HR4 := hide_ (HR3.out.below hb4)
    have HO4 := hide_ (HO3.out.below hb4)
    have HB4 := hide_ hb4
    have hs4 : W4.heap.size = w3.heap.size + 2 := by rw [← hW4]; simp
    have HW4 := hide_ hW4
    clear hW4 hb4
    have hco := HO3.out.cell
    have hcr := HR3.out.cell
    have zr := HR3.out.lt
    have zo := HO3.out.lt
    go_upto_region 4 with fail
    rw [HW4.out]
    clear hco hcr zr zo
    have hco := HO4.out.cell
    have hcr := HR4.out.cell
    have hcx := HX4.out.cell
    have hfx := HX4.out.frozen
    have hcy := HY4.out.cell
    have zr := HR4.out.lt
    have zo := HO4.out.lt
    have zx := HX4.out.lt
    have zy := HY4.out.lt
    go_wp2_with fail
    refine (HSD.out _ ⟨xki, xinc, xst, ⟨xvA, xvc, xvl⟩, ⟨none, 0, []⟩, ⟨xoA, xoc, xol⟩, xla, ⟨xmA, xmc, xml⟩⟩ ⟨ki, inc, st, ⟨vA, vc, vl⟩, ⟨none, 0, []⟩, ⟨oA, oc, ol⟩, la, ⟨mA, mc, ml⟩⟩ (HOX.out _ ?_) (HOR.out _ ?_)).mono ?_
    · first | exact (HB4.out.setCell (p := ⟨w3.heap.size, 4, none⟩) (Nat.le_refl _) _).alloc (by simp [World.setCell]; omega) _ | exact (HB4.out.alloc (by omega) _).setCell (p := ⟨w3.heap.size, 4, none⟩) (Nat.le_refl _) _
    · first | exact (HB4.out.setCell (p := ⟨w3.heap.size, 4, none⟩) (Nat.le_refl _) _).alloc (by simp [World.setCell]; omega) _ | exact (HB4.out.alloc (by omega) _).setCell (p := ⟨w3.heap.size, 4, none⟩) (Nat.le_refl _) _
    rw [HXD.out]
    rintro e6 w6 ⟨rfl, hb6⟩
    have HB6 := hide_ (show Below w3.heap.size w3 w6 from by
      first
        | exact ((HB4.out.setCell (p := ⟨w3.heap.size, 4, none⟩) (Nat.le_refl _) _).alloc (by simp [World.setCell]; omega) _).trans (hb6.mono (by simp [World.setCell]; omega))
        | exact ((HB4.out.alloc (by omega) _).setCell (p := ⟨w3.heap.size, 4, none⟩) (Nat.le_refl _) _).trans (hb6.mono (by simp [World.setCell]; omega)))
    clear hb6
    go_wp2_with fail
    refine (HA.out _).mono ?_
    rintro e7 w7 ⟨rfl, hb7⟩
    have HB7 := hide_ (HB3.out.trans ((HB6.out.trans (hb7.mono HB6.out.size)).mono HB3.out.size))
    go_wp2
    go_ret
    exact ⟨rfl, HB7.out⟩
  · go_wp2_with fail
    clear hct hcr hco zt zr zo
    refine (HAQ.out w2 HB2.out (by first | trivial | rfl)).mono ?_
    rintro e3 w3 ⟨x, y, rfl, hxp, hyp, hfr, -, -, hb3⟩
    have HB3 := hide_ (HB2.out.trans (hb3.mono HB2.out.size))
    have HT3 := hide_ (HT2.out.below hb3)
    have HR3 := hide_ (HR2.out.below hb3)
    have HO3 := hide_ (HO2.out.below hb3)
    have HFR := hide_ hfr
    have hs3 : w.heap.size + 3 ≤ w3.heap.size := by have := HO3.out.lt; omega
    clear hb3 hfr
    obtain ⟨xki, xinc, xst, ⟨xvA, xvc, xvl⟩, ⟨xdA, xdc, xdl⟩, ⟨xoA, xoc, xol⟩, xla, ⟨xmA, xmc, xml⟩⟩ := x
    obtain ⟨er, yi, ys, ⟨yA, yc, yl⟩⟩ := y
    have HXD := hide_ (show decide (RegM.p ⟨xki, xinc, xst, ⟨xvA, xvc, xvl⟩, ⟨none, 0, []⟩, ⟨xoA, xoc, xol⟩, xla, ⟨xmA, xmc, xml⟩⟩ = RegM.p ⟨ki, inc, st, ⟨vA, vc, vl⟩, ⟨none, 0, []⟩, ⟨oA, oc, ol⟩, la, ⟨mA, mc, ml⟩⟩) = true from by
      rw [decide_eq_true_eq]
      have h1 := HMR2.out
      rw [← hxp, ← HRP.out] at h1
      exact h1)
    have HX7 := hide_ (show decide (RegM.p ⟨xki, xinc, xst, ⟨xvA, xvc, xvl⟩, ⟨xdA, xdc, xdl⟩, ⟨xoA, xoc, xol⟩, xla, ⟨xmA, xmc, xml⟩⟩ = RegM.p ⟨ki, inc, st, ⟨vA, vc, vl⟩, ⟨dA, dc, dl⟩, ⟨oA, oc, ol⟩, la, ⟨mA, mc, ml⟩⟩) = true from by
      rw [decide_eq_true_eq, hxp, HRP.out]
      exact (HMS.out (by first | trivial | rfl) (by first | trivial | rfl)).1)
    have hye : er = 0 := by
      have h1 := (HMS.out (by first | trivial | rfl) (by first | trivial | rfl)).2
      rw [← hyp] at h1
      exact h1
    subst hye
    clear hxp hyp
    have HOX := hide_ (fun (U : World) (hU : Below w3.heap.size w3 U) => show RegM.ok U U.heap.size ⟨xki, xinc, xst, ⟨xvA, xvc, xvl⟩, ⟨none, 0, []⟩, ⟨xoA, xoc, xol⟩, xla, ⟨xmA, xmc, xml⟩⟩ from by
      have h1 := (HFR.out.below hU).ok
      exact ⟨h1.1, h1.2.1, (zeroM_ok U U.heap.size).2.2.1, h1.2.2.2⟩)
    have HOR := hide_ (fun (U : World) (hU : Below w3.heap.size w3 U) => show RegM.ok U U.heap.size ⟨ki, inc, st, ⟨vA, vc, vl⟩, ⟨none, 0, []⟩, ⟨oA, oc, ol⟩, la, ⟨mA, mc, ml⟩⟩ from by
      have h2 := HB3.out.trans (hU.mono HB3.out.size)
      have h1 := reg_stable.more (HRO.out U h2) h2.size
      exact ⟨h1.1, h1.2.1, (zeroM_ok U U.heap.size).2.2.1, h1.2.2.2⟩)
    simp only [RegM.v, RepM.v, Sl.v]
    obtain ⟨W4, hW4⟩ : ∃ W4, (w3.alloc (.cells #[.int .u8 xki, .int .u64 xinc, .int .i64 xst, .slice xvA xvl.length xvc, .slice xdA xdl.length xdc, .slice xoA xol.length xoc, .int .u64 xla, .slice xmA xml.length xmc] 31)).alloc (.cells #[.int .i64 0, .int .u64 yi, .int .i64 ys, .slice yA yl.length yc] 38) = W4 := ⟨_, rfl⟩
    have hb4 : Below w3.heap.size w3 W4 := hW4 ▸ ((Below.refl _ _).alloc (Nat.le_refl _) _).alloc (by simp) _
    have HX4 := hide_ (show BoxAt W4 w3.heap.size #[.int .u8 xki, .int .u64 xinc, .int .i64 xst, .slice xvA xvl.length xvc, .slice xdA xdl.length xdc, .slice xoA xol.length xoc, .int .u64 xla, .slice xmA xml.length xmc] 31 from hW4 ▸ (BoxAt.new w3 _ _).alloc _)
    have HY4 := hide_ (show BoxAt W4 (w3.heap.size + 1) #[.int .i64 0, .int .u64 yi, .int .i64 ys, .slice yA yl.length yc] 38 from by
      have h := BoxAt.new (w3.alloc (.cells #[.int .u8 xki, .int .u64 xinc, .int .i64 xst, .slice xvA xvl.length xvc, .slice xdA xdl.length xdc, .slice xoA xol.length xoc, .int .u64 xla, .slice xmA xml.length xmc] 31)) #[.int .i64 0, .int .u64 yi, .int .i64 ys, .slice yA yl.length yc] 38
      rw [hW4] at h
      simpa using h)
    have HR4 := hide_ (HR3.out.below hb4)
    have HO4 := hide_ (HO3.out.below hb4)
    have HB4 := hide_ hb4
    have hs4 : W4.heap.size = w3.heap.size + 2 := by rw [← hW4]; simp
    have HW4 := hide_ hW4
    clear hW4 hb4
    have hco := HO3.out.cell
    have hcr := HR3.out.cell
    have zr := HR3.out.lt
    have zo := HO3.out.lt
    go_upto_region 4 with fail
    rw [HW4.out]
    clear hco hcr zr zo
    have hco := HO4.out.cell
    have hcr := HR4.out.cell
    have hcx := HX4.out.cell
    have hfx := HX4.out.frozen
    have hcy := HY4.out.cell
    have zr := HR4.out.lt
    have zo := HO4.out.lt
    have zx := HX4.out.lt
    have zy := HY4.out.lt
    go_wp2_with fail
    refine (HSM.out W4 ⟨xki, xinc, xst, ⟨xvA, xvc, xvl⟩, ⟨xdA, xdc, xdl⟩, ⟨xoA, xoc, xol⟩, xla, ⟨xmA, xmc, xml⟩⟩ (HB3.out.trans (HB4.out.mono HB3.out.size)) (HFR.out.below HB4.out).ok).mono ?_
    rw [HX7.out]
    rintro e5 w5 ⟨rfl, hb5⟩
    have HB5 := hide_ (show Below w3.heap.size w3 w5 from HB4.out.trans (hb5.mono HB4.out.size))
    have HX5 := hide_ (HX4.out.below hb5)
    have HR5 := hide_ (HR4.out.below hb5)
    have hs5 : W4.heap.size ≤ w5.heap.size := hb5.size
    clear hb5 hco hcr hcx hfx hcy zr zo zx zy
    have hcr := HR5.out.cell
    have hcx := HX5.out.cell
    have hfx := HX5.out.frozen
    have zr := HR5.out.lt
    have zx := HX5.out.lt
    go_wp2_with fail
    refine (HSD.out _ ⟨xki, xinc, xst, ⟨xvA, xvc, xvl⟩, ⟨none, 0, []⟩, ⟨xoA, xoc, xol⟩, xla, ⟨xmA, xmc, xml⟩⟩ ⟨ki, inc, st, ⟨vA, vc, vl⟩, ⟨none, 0, []⟩, ⟨oA, oc, ol⟩, la, ⟨mA, mc, ml⟩⟩ (HOX.out _ ?_) (HOR.out _ ?_)).mono ?_
    · first | exact (HB5.out.setCell (p := ⟨w3.heap.size, 4, none⟩) (Nat.le_refl _) _).alloc (by simp [World.setCell]; omega) _ | exact (HB5.out.alloc (by omega) _).setCell (p := ⟨w3.heap.size, 4, none⟩) (Nat.le_refl _) _
    · first | exact (HB5.out.setCell (p := ⟨w3.heap.size, 4, none⟩) (Nat.le_refl _) _).alloc (by simp [World.setCell]; omega) _ | exact (HB5.out.alloc (by omega) _).setCell (p := ⟨w3.heap.size, 4, none⟩) (Nat.le_refl _) _
    rw [HXD.out]
    rintro e6 w6 ⟨rfl, hb6⟩
    have HB6 := hide_ (show Below w3.heap.size w3 w6 from by
      first
        | exact ((HB5.out.setCell (p := ⟨w3.heap.size, 4, none⟩) (Nat.le_refl _) _).alloc (by simp [World.setCell]; omega) _).trans (hb6.mono (by simp [World.setCell]; omega))
        | exact ((HB5.out.alloc (by omega) _).setCell (p := ⟨w3.heap.size, 4, none⟩) (Nat.le_refl _) _).trans (hb6.mono (by simp [World.setCell]; omega)))
    clear hb6
    go_wp2_with fail
    refine (HA.out _).mono ?_
    rintro e7 w7 ⟨rfl, hb7⟩
    have HB7 := hide_ (HB3.out.trans ((HB6.out.trans (hb7.mono HB6.out.size)).mono HB3.out.size))
    go_wp2
    go_ret
    exact ⟨rfl, HB7.out⟩

theorem own : ownKnob Tryz.prog.godebug = none := by kernel_rfl
theorem laid : laidOutB Tryz.prog = true := by kernel_rfl

set_option maxRecDepth 100000 in
theorem contract (H : Type) (enc : TypeId × Value → H) (W : World) (base : Nat) (args : Array Value) (ds gs : List (DataW H)) (before : List MemPlace)
    (hval : ∀ (j : Nat) t v, Tryz.f8.params[j]? = some t → args[j]? = some v → Value.okWide Tryz.prog W .any base t v)
    (hW : DataW.Whole enc Tryz.prog Tryz.f8.params.toList Rows.engineReadsSpec.vars false W args.toList ds gs before) :
    Calls Tryz.prog 8 args W fun e W' => ∃ v, e = .returned v ∧ Rows.engineReadsSpec.post enc Tryz.prog Tryz.f8 false true false false W args v W' := by
  have hW' := hW
  obtain ⟨p, q, hA0, hV, rfl, hfz, hnd⟩ := hW
  have hA : DataW.TrodAll enc Tryz.prog W 0 (fun _ => true) true Tryz.f8.params.toList args.toList ds p := hA0
  rw [Tryz.params8] at hA hval
  obtain ⟨v0, vs0, d0, ds0, p0, q0, hargs, rfl, rfl, h0, r0⟩ := trodAll_cons hA
  obtain ⟨v1, vs1, d1, ds1, p1, q1, rfl, rfl, rfl, h1, r1⟩ := trodAll_cons r0
  obtain ⟨v2, vs2, d2, ds2, p2, q2, rfl, rfl, rfl, h2, r2⟩ := trodAll_cons r1
  obtain ⟨v3, vs3, d3, ds3, p3, q3, rfl, rfl, rfl, h3, r3⟩ := trodAll_cons r2
  obtain ⟨rfl, rfl, rfl⟩ := trodAll_nil r3
  obtain rfl : args = #[v0, v1, v2, v3] := by cases args; simp_all
  obtain ⟨rfl, rfl⟩ := trodVars_none hV
  obtain ⟨x0, y0, z0, rfl, bx0, by0, bz0⟩ := open_table (hval 0 24 v0 rfl rfl) h0
  obtain ⟨u1, rfl, bu1⟩ := open_reg (hval 1 31 v1 rfl rfl) h1
  obtain ⟨u2, rfl, bu2⟩ := open_op (hval 2 33 v2 rfl rfl) h2
  obtain ⟨a3, rfl, rfl, rfl, w3⟩ := open_int Tryz.underlying25 (hval 3 25 v3 rfl rfl) h3
  have b3 : 0 ≤ a3 ∧ a3 ≤ 18446744073709551615 := by simpa [Lit.wf, IntKind.min, IntKind.max, IntKind.signed, IntKind.bits] using w3
  have fin : ∀ (e : Ending) (W' : World), e = .returned (.bool true) ∧ Below W.heap.size W W' → ∃ v, e = .returned v ∧ Rows.engineReadsSpec.post enc Tryz.prog Tryz.f8 false true false false W #[tabV x0 y0 z0, RegM.v u1, OpM.v u2, .int .u64 a3] v W' :=
    fun e W' ⟨he, hb⟩ => ⟨_, he, law_post laid (by kernel_rfl) rfl rfl rfl Tryz.underlying4 hW' hb⟩
  exact (walk x0 y0 z0 u1 u2 a3 W bz0 bu1 bu2 b3).mono fin

set_option maxRecDepth 100000 in
theorem lifted (os : Os) (started : os.Started) (H : Type) (enc : TypeId × Value → H) :
    ReturnsInHanded {} Tryz.checked os 8 .any (Rows.engineReadsSpec.pre6 enc Tryz.prog Tryz.f8 Rows.engineReadsRow.domain false) (Rows.engineReadsSpec.post enc Tryz.prog Tryz.f8 false true false false) := by
  refine returnsInHanded_of_change (C := Tryz.checked) (s := Rows.engineReadsSpec) own started (by kernel_rfl) Tryz.func8
    (ChangeSpec.witness6 (enc := enc) (C := Tryz.checked) false ⟨#[], #[.agg #[.int .i64 0, .int .i64 0, .slice none 0 0], .agg #[.int .u8 0, .int .u64 0, .int .i64 0, .slice none 0 0, .slice none 0 0, .slice none 0 0, .int .u64 0, .slice none 0 0], .agg #[.int .u8 0, .int .u8 0, .int .u8 0, .int .u64 0, .int .i64 0, .int .i64 0, .int .i64 0, .int .u8 0, .int .u64 0, .int .u64 0], .int .u64 0], []⟩ 8 (by kernel_rfl) (by kernel_rfl) (by kernel_rfl) (by kernel_rfl)) ?_
  intro W base args ds gs before hval hW _ _
  exact contract H enc W base args ds gs before hval hW

theorem proved : Rows.EngineReadsSaid :=
  OpenClaim.holds_of_wide 8 Tryz.f8 rfl rfl rfl rfl rfl rfl rfl ⟨rfl, rfl, rfl, rfl, rfl⟩ rfl rfl rfl rfl rfl (by kernel_rfl) Tryz.func8 (by kernel_rfl)
    (of_decide_eq_true (by kernel_rfl)) (by unfold Func.isWrapper; first | (rw [if_pos (by decide +kernel)]; kernel_rfl) | (rw [if_neg (by decide +kernel)]; exact ⟨rfl, rfl⟩))
    (fun os started H enc _ => lifted os started H enc)

end Go.Proofs.YtccfjaefnejjmaaGreat.engineReads
