/-
  scrutineerlaw07.EngineTwice answers true for every input and leaves its input as it was; no condition.
-/
import Derived.Test.YtccfjaefnejjmaaGreatJ49
namespace Go.Proofs.YtccfjaefnejjmaaGreat.engineTwice
open Go.ChangeShapes Go.WideShapes Go.ChangeAt Go.RowKit

set_option maxRecDepth 100000 in
set_option maxHeartbeats 12800000 in
theorem walk (ts tv : Int) (t : Sl RuM) (r : RegM) (o : OpM) (cn ag : Int) (w : World) (ht : rusOk w w.heap.size t) (hr : RegM.ok w w.heap.size r) (ho : OpM.ok o) (hc : U64 cn) (hag : U64 ag) :
    Calls Tryz.prog 5 #[tabV ts tv t, r.v, o.v, .int .u64 cn, .int .u64 ag] w fun e w' => e = .returned (.bool true) ∧ Below w.heap.size w w' := by
  have RU := fun (u : World) (h : Below w.heap.size w u) => reg_stable.below hr h
  have TU := fun (u : World) (h : Below w.heap.size w u) => rus_stable.below ht h
  have HG := hide_ (fun (u : World) (h : Below w.heap.size w u) => great7_any ts tv t r w.heap.size u (TU u h) (RU u h) h.size)
  have HR := hide_ (fun (u : World) (h : Below w.heap.size w u) => refRight_any ts tv t r o cn w.heap.size u (TU u h) (RU u h) ho h.size)
  have HA := hide_ (fun (u : World) => awake07_any u)
  have HAP := hide_ (fun (u : World) (h : Below w.heap.size w u) hq h1 h2 h3 h4 h5 => apply_right ts tv t r o cn w.heap.size u (TU u h) (RU u h) ho hc h.size hq h1 h2 h3 h4 h5)
  have HSD := hide_ (fun (u : World) (x y : RegM) (hx : RegM.ok u u.heap.size x) (hy : RegM.ok u u.heap.size y) => refSameG_any x y u.heap.size u hx hy (Nat.le_refl _))
  have HSR := hide_ (fun (u : World) (x y : RepM) (hx : RepM.ok u u.heap.size x) (hy : RepM.ok u u.heap.size y) => refSameRep_any x y u.heap.size u hx hy (Nat.le_refl _))
  have HRO := hide_ RU
  have hla : 0 ≤ r.p.la := hr.1.2.2.2.1
  have HA2 := hide_ (fun (u : World) (x : RegM) (h : Below w.heap.size w u) (hx : RegM.ok u u.heap.size x) (hq : rightB ts tv t.l r.p o cn = true) (hcl : o.cl ≠ 0) (ha : ag ≠ 0) (hp : x.p = (applyG ts tv t.l r.p o cn).1) =>
    show Calls Tryz.prog 13 #[tabV ts tv t, x.v, o.v, .int .u64 ag] u (Applies ((applyG ts tv t.l r.p o cn).1, (applyG ts tv t.l r.p o cn).2) 0 u) from by
      have hg := apply_good hq hla ho
      rw [← hp] at hg
      have hl := lens_of hg.1
      have h2 := apply_right ts tv t x o ag u.heap.size u (rus_stable.more (TU u h) h.size) hx ho hag (Nat.le_refl _) (right_of hq hg ha) hl.1 hl.2.1 hl.2.2.1 hl.2.2.2.1 hl.2.2.2.2
      rw [hp, apply_twice hq hcl ho.2.2.2.1.1] at h2
      exact h2)
  obtain ⟨qr, hqr⟩ : ∃ q, rightB ts tv t.l r.p o cn = q := ⟨_, rfl⟩
  simp only [hqr] at HR HAP HA2
  obtain ⟨AP, hAP⟩ : ∃ A, applyG ts tv t.l r.p o cn = A := ⟨_, rfl⟩
  simp only [hAP] at HAP HA2
  clear RU TU ht hr ho hc hag hqr hAP hla
  obtain ⟨tA, tc, tl⟩ := t
  obtain ⟨oki, ke, cl, sq, ac, pa, ar, so, oinc, ce⟩ := o
  obtain ⟨ki, inc, st, ⟨vA, vc, vl⟩, ⟨dA, dc, dl⟩, ⟨oA, oc, ol⟩, la, ⟨mA, mc, ml⟩⟩ := r
  simp only [tabV, RegM.v, OpM.v, Sl.v] at HG HR HAP HA2 ⊢
  obtain ⟨W0, hW0⟩ : ∃ W0, ((w.alloc (.cells #[.int .i64 ts, .int .i64 tv, .slice tA tl.length tc] 24)).alloc (.cells #[.int .u8 ki, .int .u64 inc, .int .i64 st, .slice vA vl.length vc, .slice dA dl.length dc, .slice oA ol.length oc, .int .u64 la, .slice mA ml.length mc] 31)).alloc (.cells #[.int .u8 oki, .int .u8 ke, .int .u8 cl, .int .u64 sq, .int .i64 ac, .int .i64 pa, .int .i64 ar, .int .u8 so, .int .u64 oinc, .int .u64 ce] 33) = W0 := ⟨_, rfl⟩
  have HXT := hide_ (show BoxAt W0 w.heap.size #[.int .i64 ts, .int .i64 tv, .slice tA tl.length tc] 24 from hW0 ▸ ((BoxAt.new w _ _).alloc _).alloc _)
  have HXR := hide_ (show BoxAt W0 (w.heap.size + 1) #[.int .u8 ki, .int .u64 inc, .int .i64 st, .slice vA vl.length vc, .slice dA dl.length dc, .slice oA ol.length oc, .int .u64 la, .slice mA ml.length mc] 31 from by
    have h := (BoxAt.new (w.alloc (.cells #[.int .i64 ts, .int .i64 tv, .slice tA tl.length tc] 24)) #[.int .u8 ki, .int .u64 inc, .int .i64 st, .slice vA vl.length vc, .slice dA dl.length dc, .slice oA ol.length oc, .int .u64 la, .slice mA ml.length mc] 31).alloc (.cells #[.int .u8 oki, .int .u8 ke, .int .u8 cl, .int .u64 sq, .int .i64 ac, .int .i64 pa, .int .i64 ar, .int .u8 so, .int .u64 oinc, .int .u64 ce] 33)
    rw [hW0] at h
    simpa using h)
  have HXO := hide_ (show BoxAt W0 (w.heap.size + 1 + 1) #[.int .u8 oki, .int .u8 ke, .int .u8 cl, .int .u64 sq, .int .i64 ac, .int .i64 pa, .int .i64 ar, .int .u8 so, .int .u64 oinc, .int .u64 ce] 33 from by
    have h := BoxAt.new ((w.alloc (.cells #[.int .i64 ts, .int .i64 tv, .slice tA tl.length tc] 24)).alloc (.cells #[.int .u8 ki, .int .u64 inc, .int .i64 st, .slice vA vl.length vc, .slice dA dl.length dc, .slice oA ol.length oc, .int .u64 la, .slice mA ml.length mc] 31)) #[.int .u8 oki, .int .u8 ke, .int .u8 cl, .int .u64 sq, .int .i64 ac, .int .i64 pa, .int .i64 ar, .int .u8 so, .int .u64 oinc, .int .u64 ce] 33
    rw [hW0] at h
    simpa using h)
  have HB0 := hide_ (show Below w.heap.size w W0 from hW0 ▸ (((Below.refl _ _).alloc (Nat.le_refl _) _).alloc (by simp) _).alloc (by simp; omega) _)
  have HW0 := hide_ hW0
  clear hW0
  go_enter Tryz.func5, Tryz.ntmps5
  go_wp2_with fail
  rw [HW0.out]
  refine (HG.out _ HB0.out).mono ?_
  rintro e1 w1 ⟨b1, rfl, hb1, hlen⟩
  have HLEN := hide_ hlen
  have HB1 := hide_ (HB0.out.trans (hb1.mono HB0.out.size))
  have HT1 := hide_ (HXT.out.below hb1)
  have HR1 := hide_ (HXR.out.below hb1)
  have HO1 := hide_ (HXO.out.below hb1)
  clear hb1 hlen
  have hct := HT1.out.cell
  have hcr := HR1.out.cell
  have hco := HO1.out.cell
  have zt := HT1.out.lt
  have zr := HR1.out.lt
  have zo := HO1.out.lt
  cases b1 with
  | true =>
    go_wp2_with fail
    refine (HA.out _).mono ?_
    rintro e2 w2 ⟨rfl, hb2⟩
    have HB2 := hide_ (HB1.out.trans (hb2.mono HB1.out.size))
    go_wp2
    go_ret
    exact ⟨rfl, HB2.out⟩
  | false =>
  obtain ⟨h1, h2, h3, h4, h5⟩ := HLEN.out rfl
  have HAQ := hide_ (fun (u : World) (h : Below w.heap.size w u) (hq : qr = true) => HAP.out u h hq h1 h2 h3 h4 h5)
  clear h1 h2 h3 h4 h5
  go_wp2_with fail
  refine (HR.out _ HB1.out).mono ?_
  rintro e2 w2 ⟨rfl, hb2⟩
  have HB2 := hide_ (HB1.out.trans (hb2.mono HB1.out.size))
  have HT2 := hide_ (HT1.out.below hb2)
  have HR2 := hide_ (HR1.out.below hb2)
  have HO2 := hide_ (HO1.out.below hb2)
  clear hb2 hct hcr hco zt zr zo
  have hct := HT2.out.cell
  have hcr := HR2.out.cell
  have hco := HO2.out.cell
  have zt := HT2.out.lt
  have zr := HR2.out.lt
  have zo := HO2.out.lt
  cases qr with
  | false =>
    go_wp2_with fail
    refine (HA.out _).mono ?_
    rintro e3 w3 ⟨rfl, hb3⟩
    have HB3 := hide_ (HB2.out.trans (hb3.mono HB2.out.size))
    go_wp2
    go_ret
    exact ⟨rfl, HB3.out⟩
  | true =>
  by_cases ka : ag = 0
  case pos =>
    have d3 : (ag == 0) = true := beq_iff_eq.2 ka
    clear ka
    go_wp2_with fail
    refine (HA.out _).mono ?_
    rintro e3 w3 ⟨rfl, hb3⟩
    have HB3 := hide_ (HB2.out.trans (hb3.mono HB2.out.size))
    go_wp2
    go_ret
    exact ⟨rfl, HB3.out⟩
  have d3 : (ag == 0) = false := beq_eq_false_iff_ne.2 ka
  by_cases kc : cl = 0
  case pos =>
    have d4 : (cl == 0) = true := beq_iff_eq.2 kc
    clear kc
    go_wp2_with fail
    refine (HA.out _).mono ?_
    rintro e3 w3 ⟨rfl, hb3⟩
    have HB3 := hide_ (HB2.out.trans (hb3.mono HB2.out.size))
    go_wp2
    go_ret
    exact ⟨rfl, HB3.out⟩
  have d4 : (cl == 0) = false := beq_eq_false_iff_ne.2 kc
  have HKA := hide_ ka
  have HKC := hide_ kc
  clear ka kc
  go_wp2_with fail
  clear hct hcr hco zt zr zo
  refine (HAQ.out w2 HB2.out (by first | trivial | rfl)).mono ?_
  rintro e3 w3 ⟨x, y, rfl, hxp, hyp, hfr, hyn, hyv, hb3⟩
  have HB3 := hide_ (HB2.out.trans (hb3.mono HB2.out.size))
  have HT3 := hide_ (HT2.out.below hb3)
  have HO3 := hide_ (HO2.out.below hb3)
  have HFR := hide_ hfr.ok
  have HYR := hide_ (show RepM.ok w3 w3.heap.size y from ⟨hyn, hyv.ok⟩)
  have HXP := hide_ hxp
  have HYP := hide_ hyp
  have hs3 : w.heap.size + 3 ≤ w3.heap.size := by have := HO3.out.lt; omega
  clear hb3 hfr hyn hyv hxp hyp
  obtain ⟨xki, xinc, xst, ⟨xvA, xvc, xvl⟩, ⟨xdA, xdc, xdl⟩, ⟨xoA, xoc, xol⟩, xla, ⟨xmA, xmc, xml⟩⟩ := x
  obtain ⟨per, pyi, pys, ⟨pyA, pyc, pyl⟩⟩ := y
  simp only [RegM.v, RepM.v, Sl.v]
  obtain ⟨W4, hW4⟩ : ∃ W4, (w3.alloc (.cells #[.int .u8 xki, .int .u64 xinc, .int .i64 xst, .slice xvA xvl.length xvc, .slice xdA xdl.length xdc, .slice xoA xol.length xoc, .int .u64 xla, .slice xmA xml.length xmc] 31)).alloc (.cells #[.int .i64 per, .int .u64 pyi, .int .i64 pys, .slice pyA pyl.length pyc] 38) = W4 := ⟨_, rfl⟩
  have hb4 : Below w3.heap.size w3 W4 := hW4 ▸ ((Below.refl _ _).alloc (Nat.le_refl _) _).alloc (by simp) _
  have HX4 := hide_ (show BoxAt W4 w3.heap.size #[.int .u8 xki, .int .u64 xinc, .int .i64 xst, .slice xvA xvl.length xvc, .slice xdA xdl.length xdc, .slice xoA xol.length xoc, .int .u64 xla, .slice xmA xml.length xmc] 31 from hW4 ▸ (BoxAt.new w3 _ _).alloc _)
  have HY4 := hide_ (show BoxAt W4 (w3.heap.size + 1) #[.int .i64 per, .int .u64 pyi, .int .i64 pys, .slice pyA pyl.length pyc] 38 from by
    have h := BoxAt.new (w3.alloc (.cells #[.int .u8 xki, .int .u64 xinc, .int .i64 xst, .slice xvA xvl.length xvc, .slice xdA xdl.length xdc, .slice xoA xol.length xoc, .int .u64 xla, .slice xmA xml.length xmc] 31)) #[.int .i64 per, .int .u64 pyi, .int .i64 pys, .slice pyA pyl.length pyc] 38
    rw [hW4] at h
    simpa using h)
  have HT4 := hide_ (HT3.out.below hb4)
  have HO4 := hide_ (HO3.out.below hb4)
  have HB4 := hide_ (HB3.out.trans (hb4.mono HB3.out.size))
  have HFX4 := hide_ (show RegM.ok W4 W4.heap.size ⟨xki, xinc, xst, ⟨xvA, xvc, xvl⟩, ⟨xdA, xdc, xdl⟩, ⟨xoA, xoc, xol⟩, xla, ⟨xmA, xmc, xml⟩⟩ from reg_stable.more (reg_stable.below HFR.out hb4) hb4.size)
  have HFY4 := hide_ (show RepM.ok W4 W4.heap.size ⟨per, pyi, pys, ⟨pyA, pyc, pyl⟩⟩ from ⟨HYR.out.1, ints_stable.more (ints_stable.below HYR.out.2 hb4) hb4.size⟩)
  have HW4 := hide_ hW4
  clear hW4 hb4
  have hco := HO3.out.cell
  have hct := HT3.out.cell
  have zt := HT3.out.lt
  have zo := HO3.out.lt
  go_upto_region 4 with fail
  rw [HW4.out]
  clear hco hct zt zo
  have hco := HO4.out.cell
  have hct := HT4.out.cell
  have hcx := HX4.out.cell
  have zt := HT4.out.lt
  have zo := HO4.out.lt
  have zx := HX4.out.lt
  go_wp2_with fail
  clear hco hct hcx zt zo zx
  refine (HA2.out W4 ⟨xki, xinc, xst, ⟨xvA, xvc, xvl⟩, ⟨xdA, xdc, xdl⟩, ⟨xoA, xoc, xol⟩, xla, ⟨xmA, xmc, xml⟩⟩ HB4.out HFX4.out (by first | trivial | rfl) HKC.out HKA.out HXP.out).mono ?_
  rintro e5 w5 ⟨x, y, rfl, hxp, hyp, hfr, hyn, hyv, hb5⟩
  have HB5 := hide_ (HB4.out.trans (hb5.mono HB4.out.size))
  have HX5 := hide_ (HX4.out.below hb5)
  have HY5 := hide_ (HY4.out.below hb5)
  have HFX5 := hide_ (show RegM.ok w5 w5.heap.size ⟨xki, xinc, xst, ⟨xvA, xvc, xvl⟩, ⟨xdA, xdc, xdl⟩, ⟨xoA, xoc, xol⟩, xla, ⟨xmA, xmc, xml⟩⟩ from reg_stable.more (reg_stable.below HFX4.out hb5) hb5.size)
  have HFY5 := hide_ (show RepM.ok w5 w5.heap.size ⟨per, pyi, pys, ⟨pyA, pyc, pyl⟩⟩ from ⟨HFY4.out.1, ints_stable.more (ints_stable.below HFY4.out.2 hb5) hb5.size⟩)
  have HFR2 := hide_ hfr.ok
  have HYR2 := hide_ (show RepM.ok w5 w5.heap.size y from ⟨hyn, hyv.ok⟩)
  have HDX := hide_ (show decide (RegM.p ⟨xki, xinc, xst, ⟨xvA, xvc, xvl⟩, ⟨xdA, xdc, xdl⟩, ⟨xoA, xoc, xol⟩, xla, ⟨xmA, xmc, xml⟩⟩ = x.p) = true from by rw [decide_eq_true_eq, hxp]; exact HXP.out)
  have HDY := hide_ (show decide (RepM.p ⟨per, pyi, pys, ⟨pyA, pyc, pyl⟩⟩ = y.p) = true from by rw [decide_eq_true_eq, hyp]; exact HYP.out)
  clear hb5 hfr hyn hyv hxp hyp
  obtain ⟨zki, zinc, zst, ⟨zvA, zvc, zvl⟩, ⟨zdA, zdc, zdl⟩, ⟨zoA, zoc, zol⟩, zla, ⟨zmA, zmc, zml⟩⟩ := x
  obtain ⟨qer, qyi, qys, ⟨qyA, qyc, qyl⟩⟩ := y
  simp only [RegM.v, RepM.v, Sl.v]
  obtain ⟨W6, hW6⟩ : ∃ W6, (w5.alloc (.cells #[.int .u8 zki, .int .u64 zinc, .int .i64 zst, .slice zvA zvl.length zvc, .slice zdA zdl.length zdc, .slice zoA zol.length zoc, .int .u64 zla, .slice zmA zml.length zmc] 31)).alloc (.cells #[.int .i64 qer, .int .u64 qyi, .int .i64 qys, .slice qyA qyl.length qyc] 38) = W6 := ⟨_, rfl⟩
  have hb6 : Below w5.heap.size w5 W6 := hW6 ▸ ((Below.refl _ _).alloc (Nat.le_refl _) _).alloc (by simp) _
  have HZ6 := hide_ (show BoxAt W6 w5.heap.size #[.int .u8 zki, .int .u64 zinc, .int .i64 zst, .slice zvA zvl.length zvc, .slice zdA zdl.length zdc, .slice zoA zol.length zoc, .int .u64 zla, .slice zmA zml.length zmc] 31 from hW6 ▸ (BoxAt.new w5 _ _).alloc _)
  have HQ6 := hide_ (show BoxAt W6 (w5.heap.size + 1) #[.int .i64 qer, .int .u64 qyi, .int .i64 qys, .slice qyA qyl.length qyc] 38 from by
    have h := BoxAt.new (w5.alloc (.cells #[.int .u8 zki, .int .u64 zinc, .int .i64 zst, .slice zvA zvl.length zvc, .slice zdA zdl.length zdc, .slice zoA zol.length zoc, .int .u64 zla, .slice zmA zml.length zmc] 31)) #[.int .i64 qer, .int .u64 qyi, .int .i64 qys, .slice qyA qyl.length qyc] 38
    rw [hW6] at h
    simpa using h)
  have HX6 := hide_ (HX5.out.below hb6)
  have HY6 := hide_ (HY5.out.below hb6)
  have HB6 := hide_ (HB5.out.trans (hb6.mono HB5.out.size))
  have HF1 := hide_ (show RegM.ok W6 W6.heap.size ⟨xki, xinc, xst, ⟨xvA, xvc, xvl⟩, ⟨xdA, xdc, xdl⟩, ⟨xoA, xoc, xol⟩, xla, ⟨xmA, xmc, xml⟩⟩ from reg_stable.more (reg_stable.below HFX5.out hb6) hb6.size)
  have HF2 := hide_ (show RegM.ok W6 W6.heap.size ⟨zki, zinc, zst, ⟨zvA, zvc, zvl⟩, ⟨zdA, zdc, zdl⟩, ⟨zoA, zoc, zol⟩, zla, ⟨zmA, zmc, zml⟩⟩ from reg_stable.more (reg_stable.below HFR2.out hb6) hb6.size)
  have HF3 := hide_ (show RepM.ok W6 W6.heap.size ⟨per, pyi, pys, ⟨pyA, pyc, pyl⟩⟩ from ⟨HFY5.out.1, ints_stable.more (ints_stable.below HFY5.out.2 hb6) hb6.size⟩)
  have HF4 := hide_ (show RepM.ok W6 W6.heap.size ⟨qer, qyi, qys, ⟨qyA, qyc, qyl⟩⟩ from ⟨HYR2.out.1, ints_stable.more (ints_stable.below HYR2.out.2 hb6) hb6.size⟩)
  have HW6 := hide_ hW6
  clear hW6 hb6
  go_upto_region 5 with fail
  rw [HW6.out]
  have hcx := HX6.out.cell
  have hcz := HZ6.out.cell
  have zx := HX6.out.lt
  have zz := HZ6.out.lt
  go_wp2_with fail
  refine (HSD.out W6 _ _ HF1.out HF2.out).mono ?_
  rw [HDX.out]
  rintro e7 w7 ⟨rfl, hb7⟩
  have HB7 := hide_ (HB6.out.trans (hb7.mono HB6.out.size))
  have HY7 := hide_ (HY6.out.below hb7)
  have HQ7 := hide_ (HQ6.out.below hb7)
  have HF5 := hide_ (show RepM.ok w7 w7.heap.size ⟨per, pyi, pys, ⟨pyA, pyc, pyl⟩⟩ from ⟨HF3.out.1, ints_stable.more (ints_stable.below HF3.out.2 hb7) hb7.size⟩)
  have HF6 := hide_ (show RepM.ok w7 w7.heap.size ⟨qer, qyi, qys, ⟨qyA, qyc, qyl⟩⟩ from ⟨HF4.out.1, ints_stable.more (ints_stable.below HF4.out.2 hb7) hb7.size⟩)
  clear hb7 hcx hcz zx zz
  have hcy := HY7.out.cell
  have hcq := HQ7.out.cell
  have zy := HY7.out.lt
  have zq := HQ7.out.lt
  go_wp2_with fail
  refine (HSR.out w7 _ _ HF5.out HF6.out).mono ?_
  rw [HDY.out]
  rintro e8 w8 ⟨rfl, hb8⟩
  have HB8 := hide_ (HB7.out.trans (hb8.mono HB7.out.size))
  clear hb8
  go_wp2_with fail
  refine (HA.out _).mono ?_
  rintro e9 w9 ⟨rfl, hb9⟩
  have HB9 := hide_ (HB8.out.trans (hb9.mono HB8.out.size))
  go_wp2
  go_ret
  exact ⟨rfl, HB9.out⟩

theorem own : ownKnob Tryz.prog.godebug = none := by kernel_rfl
theorem laid : laidOutB Tryz.prog = true := by kernel_rfl

set_option maxRecDepth 100000 in
theorem contract (H : Type) (enc : TypeId × Value → H) (W : World) (base : Nat) (args : Array Value) (ds gs : List (DataW H)) (before : List MemPlace)
    (hval : ∀ (j : Nat) t v, Tryz.f5.params[j]? = some t → args[j]? = some v → Value.okWide Tryz.prog W .any base t v)
    (hW : DataW.Whole enc Tryz.prog Tryz.f5.params.toList Rows.engineTwiceSpec.vars false W args.toList ds gs before) :
    Calls Tryz.prog 5 args W fun e W' => ∃ v, e = .returned v ∧ Rows.engineTwiceSpec.post enc Tryz.prog Tryz.f5 false true false false W args v W' := by
  have hW' := hW
  obtain ⟨p, q, hA0, hV, rfl, hfz, hnd⟩ := hW
  have hA : DataW.TrodAll enc Tryz.prog W 0 (fun _ => true) true Tryz.f5.params.toList args.toList ds p := hA0
  rw [Tryz.params5] at hA hval
  obtain ⟨v0, vs0, d0, ds0, p0, q0, hargs, rfl, rfl, h0, r0⟩ := trodAll_cons hA
  obtain ⟨v1, vs1, d1, ds1, p1, q1, rfl, rfl, rfl, h1, r1⟩ := trodAll_cons r0
  obtain ⟨v2, vs2, d2, ds2, p2, q2, rfl, rfl, rfl, h2, r2⟩ := trodAll_cons r1
  obtain ⟨v3, vs3, d3, ds3, p3, q3, rfl, rfl, rfl, h3, r3⟩ := trodAll_cons r2
  obtain ⟨v4, vs4, d4, ds4, p4, q4, rfl, rfl, rfl, h4, r4⟩ := trodAll_cons r3
  obtain ⟨rfl, rfl, rfl⟩ := trodAll_nil r4
  obtain rfl : args = #[v0, v1, v2, v3, v4] := by cases args; simp_all
  obtain ⟨rfl, rfl⟩ := trodVars_none hV
  obtain ⟨x0, y0, z0, rfl, bx0, by0, bz0⟩ := open_table (hval 0 24 v0 rfl rfl) h0
  obtain ⟨u1, rfl, bu1⟩ := open_reg (hval 1 31 v1 rfl rfl) h1
  obtain ⟨u2, rfl, bu2⟩ := open_op (hval 2 33 v2 rfl rfl) h2
  obtain ⟨a3, rfl, rfl, rfl, w3⟩ := open_int Tryz.underlying25 (hval 3 25 v3 rfl rfl) h3
  have b3 : 0 ≤ a3 ∧ a3 ≤ 18446744073709551615 := by simpa [Lit.wf, IntKind.min, IntKind.max, IntKind.signed, IntKind.bits] using w3
  obtain ⟨a4, rfl, rfl, rfl, w4⟩ := open_int Tryz.underlying25 (hval 4 25 v4 rfl rfl) h4
  have b4 : 0 ≤ a4 ∧ a4 ≤ 18446744073709551615 := by simpa [Lit.wf, IntKind.min, IntKind.max, IntKind.signed, IntKind.bits] using w4
  have fin : ∀ (e : Ending) (W' : World), e = .returned (.bool true) ∧ Below W.heap.size W W' → ∃ v, e = .returned v ∧ Rows.engineTwiceSpec.post enc Tryz.prog Tryz.f5 false true false false W #[tabV x0 y0 z0, RegM.v u1, OpM.v u2, .int .u64 a3, .int .u64 a4] v W' :=
    fun e W' ⟨he, hb⟩ => ⟨_, he, law_post laid (by kernel_rfl) rfl rfl rfl Tryz.underlying4 hW' hb⟩
  exact (walk x0 y0 z0 u1 u2 a3 a4 W bz0 bu1 bu2 b3 b4).mono fin

set_option maxRecDepth 100000 in
theorem lifted (os : Os) (started : os.Started) (H : Type) (enc : TypeId × Value → H) :
    ReturnsInHanded {} Tryz.checked os 5 .any (Rows.engineTwiceSpec.pre6 enc Tryz.prog Tryz.f5 Rows.engineTwiceRow.domain false) (Rows.engineTwiceSpec.post enc Tryz.prog Tryz.f5 false true false false) := by
  refine returnsInHanded_of_change (C := Tryz.checked) (s := Rows.engineTwiceSpec) own started (by kernel_rfl) Tryz.func5
    (ChangeSpec.witness6 (enc := enc) (C := Tryz.checked) false ⟨#[], #[.agg #[.int .i64 0, .int .i64 0, .slice none 0 0], .agg #[.int .u8 0, .int .u64 0, .int .i64 0, .slice none 0 0, .slice none 0 0, .slice none 0 0, .int .u64 0, .slice none 0 0], .agg #[.int .u8 0, .int .u8 0, .int .u8 0, .int .u64 0, .int .i64 0, .int .i64 0, .int .i64 0, .int .u8 0, .int .u64 0, .int .u64 0], .int .u64 0, .int .u64 0], []⟩ 8 (by kernel_rfl) (by kernel_rfl) (by kernel_rfl) (by kernel_rfl)) ?_
  intro W base args ds gs before hval hW _ _
  exact contract H enc W base args ds gs before hval hW

theorem proved : Rows.EngineTwiceSaid :=
  OpenClaim.holds_of_wide 5 Tryz.f5 rfl rfl rfl rfl rfl rfl rfl ⟨rfl, rfl, rfl, rfl, rfl⟩ rfl rfl rfl rfl rfl (by kernel_rfl) Tryz.func5 (by kernel_rfl)
    (of_decide_eq_true (by kernel_rfl)) (by unfold Func.isWrapper; first | (rw [if_pos (by decide +kernel)]; kernel_rfl) | (rw [if_neg (by decide +kernel)]; exact ⟨rfl, rfl⟩))
    (fun os started H enc _ => lifted os started H enc)

end Go.Proofs.YtccfjaefnejjmaaGreat.engineTwice
