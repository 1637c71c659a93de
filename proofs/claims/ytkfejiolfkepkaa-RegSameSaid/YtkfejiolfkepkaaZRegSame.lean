/-
  scrutineerlaw06.RegSame answers true for every input and leaves its input as it was; no condition.
-/
import Derived.Test.YtkfejiolfkepkaaJ47
import Derived.Test.YtkfejiolfkepkaaJ49
import Derived.Test.YtkfejiolfkepkaaLaw
import Derived.Deep.DeepCutAuto
namespace Go.Proofs.Ytkfejiolfkepkaa.regSame
open Go.ChangeShapes Go.WideShapes Go.ChangeAt Go.RowKit

theorem box_low {lo hi z : Nat} {w w' : World} {cs : Array Value} {t : TypeId} (h : FR lo hi w w') (hb : BoxAt w z cs t) (hz : z < lo) : BoxAt w' z cs t := (h.1.block z hz).trans hb

set_option maxRecDepth 100000 in
set_option maxHeartbeats 25600000 in
theorem walk (a b : RegM) (x y : RepM) (w : World) (ha : RegM.ok w w.heap.size a) (hb : RegM.ok w w.heap.size b) (hx : RepM.ok w w.heap.size x) (hy : RepM.ok w w.heap.size y) :
    Calls Try.prog 4 #[a.v, b.v, x.v, y.v] w fun e w' => e = .returned (.bool true) ∧ Below w.heap.size w w' := by
  have AU := fun (u : World) (h : Below w.heap.size w u) => reg_stable.below ha h
  have BU := fun (u : World) (h : Below w.heap.size w u) => reg_stable.below hb h
  have XU := fun (u : World) (h : Below w.heap.size w u) => show RepM.ok u w.heap.size x from ⟨hx.1, ints_stable.below hx.2 h⟩
  have YU := fun (u : World) (h : Below w.heap.size w u) => show RepM.ok u w.heap.size y from ⟨hy.1, ints_stable.below hy.2 h⟩
  have HGA := hide_ (fun (u : World) (h : Below w.heap.size w u) => GreatG_any a w.heap.size u (AU u h) h.size)
  have HGB := hide_ (fun (u : World) (h : Below w.heap.size w u) => GreatG_any b w.heap.size u (BU u h) h.size)
  have HCL := hide_ (fun (u : World) (h : Below w.heap.size w u) h1 h2 h3 h4 h5 => CloneG_any a w.heap.size u (AU u h) h.size h1 h2 h3 h4 h5)
  have HSC := hide_ (fun (u : World) (c : RegM) (h : Below w.heap.size w u) (hc : RegM.ok u u.heap.size c) => refSameG_any c a u.heap.size u hc (reg_stable.more (AU u h) h.size) (Nat.le_refl _))
  have HSD := hide_ (fun (u : World) (d : RegM) (h : Below w.heap.size w u) (hd : RegM.ok u u.heap.size d) => refSameG_any a d u.heap.size u (reg_stable.more (AU u h) h.size) hd (Nat.le_refl _))
  have HRS := hide_ (fun (u : World) (h : Below w.heap.size w u) => sameReg_any a b w.heap.size u (AU u h) (BU u h) h.size)
  have HRR := hide_ (fun (u : World) (h : Below w.heap.size w u) => refSameG_any a b w.heap.size u (AU u h) (BU u h) h.size)
  have HAA := hide_ (fun (u : World) (h : Below w.heap.size w u) => sameReg_any a a w.heap.size u (AU u h) (AU u h) h.size)
  have HSX := hide_ (fun (u : World) (h : Below w.heap.size w u) => sameRep_any x y w.heap.size u (XU u h) (YU u h) h.size)
  have HRX := hide_ (fun (u : World) (h : Below w.heap.size w u) => refSameRep_any x y w.heap.size u (XU u h) (YU u h) h.size)
  have HXX := hide_ (fun (u : World) (h : Below w.heap.size w u) => sameRep_any x x w.heap.size u (XU u h) (XU u h) h.size)
  obtain ⟨qab, hqab⟩ : ∃ q, decide (a.p = b.p) = q := ⟨_, rfl⟩
  obtain ⟨qxy, hqxy⟩ : ∃ q, decide (x.p = y.p) = q := ⟨_, rfl⟩
  simp only [hqab] at HRS HRR
  simp only [hqxy] at HSX HRX
  simp only [decide_true] at HAA HXX
  have mx := sl_len hx.2
  have my := sl_len hy.2
  have HL := hide_ (show True from trivial)
  obtain ⟨ap, hap⟩ : ∃ q, a.p = q := ⟨_, rfl⟩
  simp only [hap] at HSC HSD
  have HAP := hide_ hap
  clear AU BU XU YU ha hb hx hy hqab hqxy hap
  obtain ⟨ki, inc, st, ⟨vA, vc, vl⟩, ⟨dA, dc, dl⟩, ⟨oA, oc, ol⟩, la, ⟨mA, mc, ml⟩⟩ := a
  obtain ⟨ki2, inc2, st2, ⟨vA2, vc2, vl2⟩, ⟨dA2, dc2, dl2⟩, ⟨oA2, oc2, ol2⟩, la2, ⟨mA2, mc2, ml2⟩⟩ := b
  obtain ⟨er, xi, xs, ⟨xA, xc, xl⟩⟩ := x
  obtain ⟨er2, yi, ys, ⟨yA, yc, yl⟩⟩ := y
  simp only [RegM.v, RepM.v, Sl.v] at HGA HGB HCL HSC HSD HRS HRR HAA HSX HRX HXX mx my ⊢
  obtain ⟨W0, hW0⟩ : ∃ W0, (((w.alloc (.cells #[.int .u8 ki, .int .u64 inc, .int .i64 st, .slice vA vl.length vc, .slice dA dl.length dc, .slice oA ol.length oc, .int .u64 la, .slice mA ml.length mc] 29)).alloc (.cells #[.int .u8 ki2, .int .u64 inc2, .int .i64 st2, .slice vA2 vl2.length vc2, .slice dA2 dl2.length dc2, .slice oA2 ol2.length oc2, .int .u64 la2, .slice mA2 ml2.length mc2] 29)).alloc (.cells #[.int .i64 er, .int .u64 xi, .int .i64 xs, .slice xA xl.length xc] 43)).alloc (.cells #[.int .i64 er2, .int .u64 yi, .int .i64 ys, .slice yA yl.length yc] 43) = W0 := ⟨_, rfl⟩
  have HA0 := hide_ (show BoxAt W0 w.heap.size #[.int .u8 ki, .int .u64 inc, .int .i64 st, .slice vA vl.length vc, .slice dA dl.length dc, .slice oA ol.length oc, .int .u64 la, .slice mA ml.length mc] 29 from hW0 ▸ ((((BoxAt.new w #[.int .u8 ki, .int .u64 inc, .int .i64 st, .slice vA vl.length vc, .slice dA dl.length dc, .slice oA ol.length oc, .int .u64 la, .slice mA ml.length mc] 29).alloc _).alloc _).alloc _))
  have HB0 := hide_ (show BoxAt W0 (w.heap.size + 1) #[.int .u8 ki2, .int .u64 inc2, .int .i64 st2, .slice vA2 vl2.length vc2, .slice dA2 dl2.length dc2, .slice oA2 ol2.length oc2, .int .u64 la2, .slice mA2 ml2.length mc2] 29 from by
    have h := (((BoxAt.new (w.alloc (.cells #[.int .u8 ki, .int .u64 inc, .int .i64 st, .slice vA vl.length vc, .slice dA dl.length dc, .slice oA ol.length oc, .int .u64 la, .slice mA ml.length mc] 29)) #[.int .u8 ki2, .int .u64 inc2, .int .i64 st2, .slice vA2 vl2.length vc2, .slice dA2 dl2.length dc2, .slice oA2 ol2.length oc2, .int .u64 la2, .slice mA2 ml2.length mc2] 29).alloc (.cells #[.int .i64 er, .int .u64 xi, .int .i64 xs, .slice xA xl.length xc] 43)).alloc (.cells #[.int .i64 er2, .int .u64 yi, .int .i64 ys, .slice yA yl.length yc] 43))
    rw [hW0] at h
    simpa using h)
  have HX0 := hide_ (show BoxAt W0 (w.heap.size + 2) #[.int .i64 er, .int .u64 xi, .int .i64 xs, .slice xA xl.length xc] 43 from by
    have h := ((BoxAt.new ((w.alloc (.cells #[.int .u8 ki, .int .u64 inc, .int .i64 st, .slice vA vl.length vc, .slice dA dl.length dc, .slice oA ol.length oc, .int .u64 la, .slice mA ml.length mc] 29)).alloc (.cells #[.int .u8 ki2, .int .u64 inc2, .int .i64 st2, .slice vA2 vl2.length vc2, .slice dA2 dl2.length dc2, .slice oA2 ol2.length oc2, .int .u64 la2, .slice mA2 ml2.length mc2] 29)) #[.int .i64 er, .int .u64 xi, .int .i64 xs, .slice xA xl.length xc] 43).alloc (.cells #[.int .i64 er2, .int .u64 yi, .int .i64 ys, .slice yA yl.length yc] 43))
    rw [hW0] at h
    simpa using h)
  have HY0 := hide_ (show BoxAt W0 (w.heap.size + 3) #[.int .i64 er2, .int .u64 yi, .int .i64 ys, .slice yA yl.length yc] 43 from by
    have h := BoxAt.new (((w.alloc (.cells #[.int .u8 ki, .int .u64 inc, .int .i64 st, .slice vA vl.length vc, .slice dA dl.length dc, .slice oA ol.length oc, .int .u64 la, .slice mA ml.length mc] 29)).alloc (.cells #[.int .u8 ki2, .int .u64 inc2, .int .i64 st2, .slice vA2 vl2.length vc2, .slice dA2 dl2.length dc2, .slice oA2 ol2.length oc2, .int .u64 la2, .slice mA2 ml2.length mc2] 29)).alloc (.cells #[.int .i64 er, .int .u64 xi, .int .i64 xs, .slice xA xl.length xc] 43)) #[.int .i64 er2, .int .u64 yi, .int .i64 ys, .slice yA yl.length yc] 43
    rw [hW0] at h
    simpa using h)
  have HBW := hide_ (show Below w.heap.size w W0 from hW0 ▸ ((((Below.refl _ _).alloc (Nat.le_refl _) _).alloc (by simp) _).alloc (by simp; omega) _).alloc (by simp; omega) _)
  have HZ0 := hide_ (show w.heap.size + 4 = W0.heap.size from by rw [← hW0]; simp)
  have HW0 := hide_ hW0
  clear hW0
  go_enter Try.func4, Try.ntmps4
  go_wp2_with fail
  rw [HW0.out]
  refine (HGA.out _ HBW.out).mono ?_
  rintro en w1 ⟨b1, rfl, hb1, hlen⟩
  have HB1 := hide_ (HBW.out.trans (hb1.mono HBW.out.size))
  have HT1 := hide_ hb1
  clear hb1
  have hzz := HZ0.out
  cases b1 with
  | true =>
    go_wp2_with fail
    refine (awake06_any _).mono ?_
    rintro en wz ⟨rfl, hbz⟩
    go_wp2
    go_ret
    exact ⟨rfl, HB1.out.trans (hbz.mono HB1.out.size)⟩
  | false =>
  obtain ⟨g1, g2, g3, g4, g5⟩ := hlen rfl
  simp only at g1 g2 g3 g4 g5
  have HG5 := hide_ (show vl.length ≤ 50 ∧ dl.length ≤ 50 ∧ ol.length ≤ 50 ∧ ml.length ≤ 50 ∧ ∀ d ∈ dl, d.va.l.length ≤ 50 from ⟨g1, g2, g3, g4, g5⟩)
  clear hlen g1 g2 g3 g4 g5
  have hcb := (HB0.out.below HT1.out).cell
  have hcx := (HX0.out.below HT1.out).cell
  have hcy := (HY0.out.below HT1.out).cell
  have hs1 : W0.heap.size ≤ w1.heap.size := HT1.out.size
  have z1 : w.heap.size + 1 < w1.heap.size := by omega
  have z2 : w.heap.size + 2 < w1.heap.size := by omega
  have z3 : w.heap.size + 3 < w1.heap.size := by omega
  go_wp2_with fail
  refine (HGB.out _ HB1.out).mono ?_
  rintro en w2 ⟨b2, rfl, hb2, -⟩
  have HB2 := hide_ (HB1.out.trans (hb2.mono HB1.out.size))
  have HT2 := hide_ (HT1.out.trans (hb2.mono HT1.out.size))
  clear hb2 hcb hcx hcy z1 z2 z3 hs1
  have hs2 : W0.heap.size ≤ w2.heap.size := HT2.out.size
  have z0 : w.heap.size < w2.heap.size := by omega
  have z2 : w.heap.size + 2 < w2.heap.size := by omega
  have z3 : w.heap.size + 3 < w2.heap.size := by omega
  cases b2 with
  | true =>
    go_wp2_with fail
    refine (awake06_any _).mono ?_
    rintro en wz ⟨rfl, hbz⟩
    go_wp2
    go_ret
    exact ⟨rfl, HB2.out.trans (hbz.mono HB2.out.size)⟩
  | false =>
  have hca := (HA0.out.below HT2.out).cell
  have hcx := (HX0.out.below HT2.out).cell
  have hcy := (HY0.out.below HT2.out).cell
  by_cases n1 : xl.length ≤ 50
  case neg =>
    have d1 : decide ((50 : Int) < (xl.length : Int)) = true := decide_eq_true (by omega)
    clear n1
    go_wp2_with fail
    refine (awake06_any _).mono ?_
    rintro en wz ⟨rfl, hbz⟩
    go_wp2
    go_ret
    exact ⟨rfl, HB2.out.trans (hbz.mono HB2.out.size)⟩
  have d1 : decide ((50 : Int) < (xl.length : Int)) = false := decide_eq_false (by omega)
  by_cases n2 : yl.length ≤ 50
  case neg =>
    have d2 : decide ((50 : Int) < (yl.length : Int)) = true := decide_eq_true (by omega)
    clear n2
    go_wp2_with fail
    refine (awake06_any _).mono ?_
    rintro en wz ⟨rfl, hbz⟩
    go_wp2
    go_ret
    exact ⟨rfl, HB2.out.trans (hbz.mono HB2.out.size)⟩
  have d2 : decide ((50 : Int) < (yl.length : Int)) = false := decide_eq_false (by omega)
  go_wp2_with fail
  refine (HCL.out _ HB2.out HG5.out.1 HG5.out.2.1 HG5.out.2.2.1 HG5.out.2.2.2.1 HG5.out.2.2.2.2).mono ?_
  rintro en w3 ⟨c, rfl, hcp, hcf, hb3⟩
  have HB3 := hide_ (HB2.out.trans (hb3.mono HB2.out.size))
  have HT3 := hide_ (HT2.out.trans (hb3.mono HT2.out.size))
  have HCF := hide_ hcf
  have HNLF := hide_ (show ∀ d ∈ c.dn.l, d.va.l.length ≤ 9223372036854775807 from fun d hd => by have h := own_bounds (hcf.di d hd).2.1; unfold maxLen at h; omega)
  have hnl := (⟨(own_bounds hcf.va.1), own_bounds hcf.dn, own_bounds hcf.ou, own_bounds hcf.ma⟩ : _ ∧ _ ∧ _ ∧ _)
  have HCB := hide_ (BoxAt.new w3 c.box 29)
  have HSC2 := hide_ (fun (u : World) (h : Below (w3.alloc (.cells c.box 29)).heap.size (w3.alloc (.cells c.box 29)) u) => HSC.out u c ((HB3.out.alloc HB3.out.size _).trans (h.mono (HB3.out.alloc HB3.out.size _).size)) (hcf.below (((Below.refl _ _).alloc (Nat.le_refl _) _).trans (h.mono (by simp)))).ok)
  rw [show decide (c.p = ap) = true by rw [hcp, HAP.out]; simp] at HSC2
  have hs23 : w2.heap.size ≤ w3.heap.size := hb3.size
  clear hcp hcf hb3 hca hcx hcy z0 z2 z3
  obtain ⟨ki3, inc3, st3, ⟨vA3, vc3, vl3⟩, ⟨dA3, dc3, dl3⟩, ⟨oA3, oc3, ol3⟩, la3, ⟨mA3, mc3, ml3⟩⟩ := c
  simp only [RegM.v, RegM.box, Sl.v] at HCB HSC2 ⊢
  simp only at HNLF hnl
  unfold maxLen at hnl
  have hv1 : vl3.length ≤ 9223372036854775807 := by omega
  have hv2 : dl3.length ≤ 9223372036854775807 := by omega
  have hv3 : ol3.length ≤ 9223372036854775807 := by omega
  have hv4 : ml3.length ≤ 9223372036854775807 := by omega
  clear hnl
  obtain ⟨W4, hW4⟩ : ∃ W4, w3.alloc (.cells #[.int .u8 ki3, .int .u64 inc3, .int .i64 st3, .slice vA3 vl3.length vc3, .slice dA3 dl3.length dc3, .slice oA3 ol3.length oc3, .int .u64 la3, .slice mA3 ml3.length mc3] 29) = W4 := ⟨_, rfl⟩
  rw [hW4] at HCB HSC2
  have HZ4 := hide_ (show W4.heap.size = w3.heap.size + 1 by rw [← hW4]; simp)
  have HT4 := hide_ (show Below W0.heap.size W0 W4 from hW4 ▸ HT3.out.alloc HT3.out.size _)
  have HB4 := hide_ (show Below w.heap.size w W4 from hW4 ▸ HB3.out.alloc HB3.out.size _)
  have HC4 := hide_ (show Below w3.heap.size w3 W4 from hW4 ▸ (Below.refl _ _).alloc (Nat.le_refl _) _)
  have HW4 := hide_ hW4
  clear hW4
  have HBF := hide_ (fun (u : World) (h : Below W4.heap.size W4 u) => show Below w.heap.size w u from HB4.out.trans (h.mono HB4.out.size))
  go_upto_region 4 with fail
  rw [HW4.out]
  go_cut [70] (fun q wx => q = .bool false ∧ Below W4.heap.size W4 wx)
  case first =>
    have HN := hide_ (show Below W4.heap.size W4 W4.drew from (Below.refl _ _).drew)
    have HSS := hide_ (fun (w' : World) (h : Below W4.heap.size W4 w') => show (∀ i : Nat, w'.cell? ⟨w.heap.size, i, none⟩ = (#[.int .u8 ki, .int .u64 inc, .int .i64 st, .slice vA vl.length vc, .slice dA dl.length dc, .slice oA ol.length oc, .int .u64 la, .slice mA ml.length mc] : Array Value)[i]?) ∧ (∀ i : Nat, w'.cell? ⟨w.heap.size + 1, i, none⟩ = (#[.int .u8 ki2, .int .u64 inc2, .int .i64 st2, .slice vA2 vl2.length vc2, .slice dA2 dl2.length dc2, .slice oA2 ol2.length oc2, .int .u64 la2, .slice mA2 ml2.length mc2] : Array Value)[i]?) ∧ (∀ i : Nat, w'.cell? ⟨w.heap.size + 2, i, none⟩ = (#[.int .i64 er, .int .u64 xi, .int .i64 xs, .slice xA xl.length xc] : Array Value)[i]?) ∧ (∀ i : Nat, w'.cell? ⟨w.heap.size + 3, i, none⟩ = (#[.int .i64 er2, .int .u64 yi, .int .i64 ys, .slice yA yl.length yc] : Array Value)[i]?) ∧ (∀ i : Nat, w'.cell? ⟨w3.heap.size, i, none⟩ = (#[.int .u8 ki3, .int .u64 inc3, .int .i64 st3, .slice vA3 vl3.length vc3, .slice dA3 dl3.length dc3, .slice oA3 ol3.length oc3, .int .u64 la3, .slice mA3 ml3.length mc3] : Array Value)[i]?) from ⟨(HA0.out.below (HT4.out.trans (h.mono HT4.out.size))).cell, (HB0.out.below (HT4.out.trans (h.mono HT4.out.size))).cell, (HX0.out.below (HT4.out.trans (h.mono HT4.out.size))).cell, (HY0.out.below (HT4.out.trans (h.mono HT4.out.size))).cell, (HCB.out.below h).cell⟩)
    refine wp_region_held_drew (S := fun w' => (∀ i : Nat, w'.cell? ⟨w.heap.size, i, none⟩ = (#[.int .u8 ki, .int .u64 inc, .int .i64 st, .slice vA vl.length vc, .slice dA dl.length dc, .slice oA ol.length oc, .int .u64 la, .slice mA ml.length mc] : Array Value)[i]?) ∧ (∀ i : Nat, w'.cell? ⟨w.heap.size + 1, i, none⟩ = (#[.int .u8 ki2, .int .u64 inc2, .int .i64 st2, .slice vA2 vl2.length vc2, .slice dA2 dl2.length dc2, .slice oA2 ol2.length oc2, .int .u64 la2, .slice mA2 ml2.length mc2] : Array Value)[i]?) ∧ (∀ i : Nat, w'.cell? ⟨w.heap.size + 2, i, none⟩ = (#[.int .i64 er, .int .u64 xi, .int .i64 xs, .slice xA xl.length xc] : Array Value)[i]?) ∧ (∀ i : Nat, w'.cell? ⟨w.heap.size + 3, i, none⟩ = (#[.int .i64 er2, .int .u64 yi, .int .i64 ys, .slice yA yl.length yc] : Array Value)[i]?) ∧ (∀ i : Nat, w'.cell? ⟨w3.heap.size, i, none⟩ = (#[.int .u8 ki3, .int .u64 inc3, .int .i64 st3, .slice vA3 vl3.length vc3, .slice dA3 dl3.length dc3, .slice oA3 ol3.length oc3, .int .u64 la3, .slice mA3 ml3.length mc3] : Array Value)[i]?)) (by kernel_rfl) (HSS.out _ HN.out) (fun hHeld => ?_)
    refine wpAnyH_take (i := 0) (oi := ⟨some 37, _, _, _, _, _⟩) (v := ?v1) rfl (by kernel_rfl) (by kernel_rfl) (by kernel_rfl) (fun _ _ _ h => h) (Or.inl ⟨by rfl, ?hy1⟩) (by assumption) ?rest1
    case hy1 => intro w hSw; (try dsimp only at hSw); go_simp <;> with_reducible rfl
    simp only [Act.put, List.setIfInBounds_toArray, List.set_cons_zero, List.set_cons_succ]
    refine wpAnyH_take (i := 1) (oi := ⟨some 38, _, _, _, _, _⟩) (v := ?v2) rfl (by kernel_rfl) (by kernel_rfl) (by kernel_rfl) (fun _ _ _ h => h) (Or.inl ⟨by rfl, ?hy2⟩) (by assumption) ?rest2
    case hy2 => intro w hSw; (try dsimp only at hSw); go_simp <;> with_reducible rfl
    simp only [Act.put, List.setIfInBounds_toArray, List.set_cons_zero, List.set_cons_succ]
    refine wpAnyH_ready (rs := [2]) (by kernel_rfl) (by simp) ?_
    refine AllReadyH.cons rfl (fun K hK => ?_) AllReadyH.nil
    go_simp
    go_wp2_with fail
    refine (HSC2.out _ HN.out).mono ?_
    rintro en v1 ⟨rfl, hbv1⟩
    have HV1 := hide_ (HN.out.trans (hbv1.mono HN.out.size))
    clear hbv1
    refine hK.out _ _ (HSS.out _ HV1.out) (fun hHeld => ?_)
    clear hK K
    refine wpAnyH_take (i := 3) (oi := ⟨some 40, _, _, _, _, _⟩) (v := ?v3) rfl (by kernel_rfl) (by kernel_rfl) (by kernel_rfl) (fun _ _ _ h => h) (Or.inl ⟨by rfl, ?hy3⟩) (by assumption) ?rest3
    case hy3 => intro w hSw; (try dsimp only at hSw); go_simp <;> with_reducible rfl
    simp only [Act.put, List.setIfInBounds_toArray, List.set_cons_zero, List.set_cons_succ]
    refine wpAnyH_take (i := 4) (oi := ⟨some 41, _, _, _, _, _⟩) (v := ?v4) rfl (by kernel_rfl) (by kernel_rfl) (by kernel_rfl) (fun _ _ _ h => h) (Or.inl ⟨by rfl, ?hy4⟩) (by assumption) ?rest4
    case hy4 => intro w hSw; (try dsimp only at hSw); go_simp <;> with_reducible rfl
    simp only [Act.put, List.setIfInBounds_toArray, List.set_cons_zero, List.set_cons_succ]
    refine wpAnyH_take (i := 5) (oi := ⟨some 42, _, _, _, _, _⟩) (v := ?v5) rfl (by kernel_rfl) (by kernel_rfl) (by kernel_rfl) (fun _ _ _ h => h) (Or.inl ⟨by rfl, ?hy5⟩) (by assumption) ?rest5
    case hy5 => intro w hSw; (try dsimp only at hSw); go_simp <;> with_reducible rfl
    simp only [Act.put, List.setIfInBounds_toArray, List.set_cons_zero, List.set_cons_succ]
    refine wpAnyH_take (i := 6) (oi := ⟨some 43, _, _, _, _, _⟩) (v := ?v6) rfl (by kernel_rfl) (by kernel_rfl) (by kernel_rfl) (fun _ _ _ h => h) (Or.inl ⟨by rfl, ?hy6⟩) (by assumption) ?rest6
    case hy6 => intro w hSw; (try dsimp only at hSw); go_simp <;> with_reducible rfl
    simp only [Act.put, List.setIfInBounds_toArray, List.set_cons_zero, List.set_cons_succ]
    refine wpAnyH_take (i := 8) (oi := ⟨some 45, _, _, _, _, _⟩) (v := ?v7) rfl (by kernel_rfl) (by kernel_rfl) (by kernel_rfl) (fun _ _ _ h => h) (Or.inl ⟨by rfl, ?hy7⟩) (by assumption) ?rest7
    case hy7 => intro w hSw; (try dsimp only at hSw); go_simp <;> with_reducible rfl
    simp only [Act.put, List.setIfInBounds_toArray, List.set_cons_zero, List.set_cons_succ]
    refine wpAnyH_take (i := 9) (oi := ⟨some 46, _, _, _, _, _⟩) (v := ?v8) rfl (by kernel_rfl) (by kernel_rfl) (by kernel_rfl) (fun _ _ _ h => h) (Or.inl ⟨by rfl, ?hy8⟩) (by assumption) ?rest8
    case hy8 => intro w hSw; (try dsimp only at hSw); go_simp <;> with_reducible rfl
    simp only [Act.put, List.setIfInBounds_toArray, List.set_cons_zero, List.set_cons_succ]
    refine wpAnyH_ready (rs := [7]) (by kernel_rfl) (by simp) ?_
    refine AllReadyH.cons rfl (fun K hK => ?_) AllReadyH.nil
    go_simp
    go_wp2_with fail
    refine (HRS.out _ (HBF.out _ HV1.out)).mono ?_
    rintro en v2 ⟨rfl, hbv2⟩
    have HV2 := hide_ (HV1.out.trans (hbv2.mono HV1.out.size))
    clear hbv2
    refine hK.out _ _ (HSS.out _ HV2.out) (fun hHeld => ?_)
    clear hK K
    refine wpAnyH_ready (rs := [10]) (by kernel_rfl) (by simp) ?_
    refine AllReadyH.cons rfl (fun K hK => ?_) AllReadyH.nil
    go_simp
    go_wp2_with fail
    refine (HRR.out _ (HBF.out _ HV2.out)).mono ?_
    rintro en v3 ⟨rfl, hbv3⟩
    have HV3 := hide_ (HV2.out.trans (hbv3.mono HV2.out.size))
    clear hbv3
    refine hK.out _ _ (HSS.out _ HV3.out) (fun hHeld => ?_)
    clear hK K
    refine wpAnyH_take (i := 11) (oi := ⟨some 48, _, _, _, _, _⟩) (v := ?v9) rfl (by kernel_rfl) (by kernel_rfl) (by kernel_rfl) (fun _ _ _ h => h) (Or.inl ⟨by rfl, ?hy9⟩) (by assumption) ?rest9
    case hy9 => intro w hSw; (try dsimp only at hSw); go_simp <;> with_reducible rfl
    simp only [Act.put, List.setIfInBounds_toArray, List.set_cons_zero, List.set_cons_succ]
    refine wpAnyH_take (i := 12) (oi := ⟨some 49, _, _, _, _, _⟩) (v := ?v10) rfl (by kernel_rfl) (by kernel_rfl) (by kernel_rfl) (fun _ _ _ h => h) (Or.inl ⟨by rfl, ?hy10⟩) (by assumption) ?rest10
    case hy10 => intro w hSw; (try dsimp only at hSw); go_simp <;> with_reducible rfl
    simp only [Act.put, List.setIfInBounds_toArray, List.set_cons_zero, List.set_cons_succ]
    refine wpAnyH_take (i := 13) (oi := ⟨some 50, _, _, _, _, _⟩) (v := ?v11) rfl (by kernel_rfl) (by kernel_rfl) (by kernel_rfl) (fun _ _ _ h => h) (Or.inl ⟨by rfl, ?hy11⟩) (by assumption) ?rest11
    case hy11 => intro w hSw; (try dsimp only at hSw); go_simp <;> with_reducible rfl
    simp only [Act.put, List.setIfInBounds_toArray, List.set_cons_zero, List.set_cons_succ]
    refine wpAnyH_take (i := 14) (oi := ⟨some 51, _, _, _, _, _⟩) (v := ?v12) rfl (by kernel_rfl) (by kernel_rfl) (by kernel_rfl) (fun _ _ _ h => h) (Or.inl ⟨by rfl, ?hy12⟩) (by assumption) ?rest12
    case hy12 => intro w hSw; (try dsimp only at hSw); go_simp <;> with_reducible rfl
    simp only [Act.put, List.setIfInBounds_toArray, List.set_cons_zero, List.set_cons_succ]
    refine wpAnyH_take (i := 15) (oi := ⟨some 52, _, _, _, _, _⟩) (v := ?v13) rfl (by kernel_rfl) (by kernel_rfl) (by kernel_rfl) (fun _ _ _ h => h) (Or.inl ⟨by rfl, ?hy13⟩) (by assumption) ?rest13
    case hy13 => intro w hSw; (try dsimp only at hSw); go_simp <;> with_reducible rfl
    simp only [Act.put, List.setIfInBounds_toArray, List.set_cons_zero, List.set_cons_succ]
    refine wpAnyH_take (i := 17) (oi := ⟨some 54, _, _, _, _, _⟩) (v := ?v14) rfl (by kernel_rfl) (by kernel_rfl) (by kernel_rfl) (fun _ _ _ h => h) (Or.inl ⟨by rfl, ?hy14⟩) (by assumption) ?rest14
    case hy14 => intro w hSw; (try dsimp only at hSw); go_simp <;> with_reducible rfl
    simp only [Act.put, List.setIfInBounds_toArray, List.set_cons_zero, List.set_cons_succ]
    refine wpAnyH_take (i := 18) (oi := ⟨some 55, _, _, _, _, _⟩) (v := ?v15) rfl (by kernel_rfl) (by kernel_rfl) (by kernel_rfl) (fun _ _ _ h => h) (Or.inl ⟨by rfl, ?hy15⟩) (by assumption) ?rest15
    case hy15 => intro w hSw; (try dsimp only at hSw); go_simp <;> with_reducible rfl
    simp only [Act.put, List.setIfInBounds_toArray, List.set_cons_zero, List.set_cons_succ]
    refine wpAnyH_ready (rs := [16]) (by kernel_rfl) (by simp) ?_
    refine AllReadyH.cons rfl (fun K hK => ?_) AllReadyH.nil
    go_simp
    go_wp2_with fail
    refine (HSX.out _ (HBF.out _ HV3.out)).mono ?_
    rintro en v4 ⟨rfl, hbv4⟩
    have HV4 := hide_ (HV3.out.trans (hbv4.mono HV3.out.size))
    clear hbv4
    refine hK.out _ _ (HSS.out _ HV4.out) (fun hHeld => ?_)
    clear hK K
    refine wpAnyH_ready (rs := [19]) (by kernel_rfl) (by simp) ?_
    refine AllReadyH.cons rfl (fun K hK => ?_) AllReadyH.nil
    go_simp
    go_wp2_with fail
    refine (HRX.out _ (HBF.out _ HV4.out)).mono ?_
    rintro en v5 ⟨rfl, hbv5⟩
    have HV5 := hide_ (HV4.out.trans (hbv5.mono HV4.out.size))
    clear hbv5
    refine hK.out _ _ (HSS.out _ HV5.out) (fun hHeld => ?_)
    clear hK K
    refine wpAnyH_take (i := 20) (oi := ⟨some 57, _, _, _, _, _⟩) (v := ?v16) rfl (by kernel_rfl) (by kernel_rfl) (by kernel_rfl) (fun _ _ _ h => h) (Or.inl ⟨by rfl, ?hy16⟩) (by assumption) ?rest16
    case hy16 => intro w hSw; (try dsimp only at hSw); go_simp <;> with_reducible rfl
    simp only [Act.put, List.setIfInBounds_toArray, List.set_cons_zero, List.set_cons_succ]
    refine wpAnyH_take (i := 21) (oi := ⟨some 58, _, _, _, _, _⟩) (v := ?v17) rfl (by kernel_rfl) (by kernel_rfl) (by kernel_rfl) (fun _ _ _ h => h) (Or.inl ⟨by rfl, ?hy17⟩) (by assumption) ?rest17
    case hy17 => intro w hSw; (try dsimp only at hSw); go_simp <;> with_reducible rfl
    simp only [Act.put, List.setIfInBounds_toArray, List.set_cons_zero, List.set_cons_succ]
    refine wpAnyH_take (i := 22) (oi := ⟨some 59, _, _, _, _, _⟩) (v := ?v18) rfl (by kernel_rfl) (by kernel_rfl) (by kernel_rfl) (fun _ _ _ h => h) (Or.inl ⟨by rfl, ?hy18⟩) (by assumption) ?rest18
    case hy18 => intro w hSw; (try dsimp only at hSw); go_simp <;> with_reducible rfl
    simp only [Act.put, List.setIfInBounds_toArray, List.set_cons_zero, List.set_cons_succ]
    refine wpAnyH_take (i := 23) (oi := ⟨some 60, _, _, _, _, _⟩) (v := ?v19) rfl (by kernel_rfl) (by kernel_rfl) (by kernel_rfl) (fun _ _ _ h => h) (Or.inl ⟨by rfl, ?hy19⟩) (by assumption) ?rest19
    case hy19 => intro w hSw; (try dsimp only at hSw); go_simp <;> with_reducible rfl
    simp only [Act.put, List.setIfInBounds_toArray, List.set_cons_zero, List.set_cons_succ]
    refine wpAnyH_take (i := 24) (oi := ⟨some 61, _, _, _, _, _⟩) (v := ?v20) rfl (by kernel_rfl) (by kernel_rfl) (by kernel_rfl) (fun _ _ _ h => h) (Or.inl ⟨by rfl, ?hy20⟩) (by assumption) ?rest20
    case hy20 => intro w hSw; (try dsimp only at hSw); go_simp <;> with_reducible rfl
    simp only [Act.put, List.setIfInBounds_toArray, List.set_cons_zero, List.set_cons_succ]
    refine wpAnyH_ready (rs := [25]) (by kernel_rfl) (by simp) ?_
    refine AllReadyH.cons rfl (fun K hK => ?_) AllReadyH.nil
    go_simp
    go_wp2_with fail
    refine (HAA.out _ (HBF.out _ HV5.out)).mono ?_
    rintro en v6 ⟨rfl, hbv6⟩
    have HV6 := hide_ (HV5.out.trans (hbv6.mono HV5.out.size))
    clear hbv6
    refine hK.out _ _ (HSS.out _ HV6.out) (fun hHeld => ?_)
    clear hK K
    refine wpAnyH_take (i := 26) (oi := ⟨some 63, _, _, _, _, _⟩) (v := ?v21) rfl (by kernel_rfl) (by kernel_rfl) (by kernel_rfl) (fun _ _ _ h => h) (Or.inl ⟨by rfl, ?hy21⟩) (by assumption) ?rest21
    case hy21 => intro w hSw; (try dsimp only at hSw); go_simp <;> with_reducible rfl
    simp only [Act.put, List.setIfInBounds_toArray, List.set_cons_zero, List.set_cons_succ]
    refine wpAnyH_take (i := 27) (oi := ⟨some 64, _, _, _, _, _⟩) (v := ?v22) rfl (by kernel_rfl) (by kernel_rfl) (by kernel_rfl) (fun _ _ _ h => h) (Or.inl ⟨by rfl, ?hy22⟩) (by assumption) ?rest22
    case hy22 => intro w hSw; (try dsimp only at hSw); go_simp <;> with_reducible rfl
    simp only [Act.put, List.setIfInBounds_toArray, List.set_cons_zero, List.set_cons_succ]
    refine wpAnyH_take (i := 28) (oi := ⟨some 65, _, _, _, _, _⟩) (v := ?v23) rfl (by kernel_rfl) (by kernel_rfl) (by kernel_rfl) (fun _ _ _ h => h) (Or.inl ⟨by rfl, ?hy23⟩) (by assumption) ?rest23
    case hy23 => intro w hSw; (try dsimp only at hSw); go_simp <;> with_reducible rfl
    simp only [Act.put, List.setIfInBounds_toArray, List.set_cons_zero, List.set_cons_succ]
    refine wpAnyH_take (i := 29) (oi := ⟨some 66, _, _, _, _, _⟩) (v := ?v24) rfl (by kernel_rfl) (by kernel_rfl) (by kernel_rfl) (fun _ _ _ h => h) (Or.inl ⟨by rfl, ?hy24⟩) (by assumption) ?rest24
    case hy24 => intro w hSw; (try dsimp only at hSw); go_simp <;> with_reducible rfl
    simp only [Act.put, List.setIfInBounds_toArray, List.set_cons_zero, List.set_cons_succ]
    refine wpAnyH_take (i := 30) (oi := ⟨some 67, _, _, _, _, _⟩) (v := ?v25) rfl (by kernel_rfl) (by kernel_rfl) (by kernel_rfl) (fun _ _ _ h => h) (Or.inl ⟨by rfl, ?hy25⟩) (by assumption) ?rest25
    case hy25 => intro w hSw; (try dsimp only at hSw); go_simp <;> with_reducible rfl
    simp only [Act.put, List.setIfInBounds_toArray, List.set_cons_zero, List.set_cons_succ]
    refine wpAnyH_ready (rs := [31]) (by kernel_rfl) (by simp) ?_
    refine AllReadyH.cons rfl (fun K hK => ?_) AllReadyH.nil
    go_simp
    go_wp2_with fail
    refine (HXX.out _ (HBF.out _ HV6.out)).mono ?_
    rintro en v7 ⟨rfl, hbv7⟩
    have HV7 := hide_ (HV6.out.trans (hbv7.mono HV6.out.size))
    clear hbv7
    refine hK.out _ _ (HSS.out _ HV7.out) (fun hHeld => ?_)
    clear hK K
    refine wpAnyH_take (i := 32) (oi := ⟨some 69, _, _, _, _, _⟩) (v := ?v26) rfl (by kernel_rfl) (by kernel_rfl) (by kernel_rfl) (fun _ _ _ h => h) (Or.inl ⟨by rfl, ?hy26⟩) (by assumption) ?rest26
    case hy26 => intro w hSw; (try dsimp only at hSw); go_simp <;> with_reducible rfl
    simp only [Act.put, List.setIfInBounds_toArray, List.set_cons_zero, List.set_cons_succ]
    refine wpAnyH_take (i := 33) (oi := ⟨some 70, _, _, _, _, _⟩) (v := ?v27) rfl (by kernel_rfl) (by kernel_rfl) (by kernel_rfl) (fun _ _ _ h => h) (Or.inl ⟨by rfl, ?hy27⟩) (by assumption) ?rest27
    case hy27 => intro w hSw; (try dsimp only at hSw); go_simp <;> with_reducible rfl
    simp only [Act.put, List.setIfInBounds_toArray, List.set_cons_zero, List.set_cons_succ]
    refine wpAnyH_done (by kernel_rfl) ?_ _
    go_wp2_with fail
    go_meet
    exact ⟨rfl, HV7.out⟩
  case rest =>
  obtain ⟨rfl, hbc⟩ := hcut
  have HB5 := hide_ (HBF.out _ hbc)
  have HT5 := hide_ (HT4.out.trans (hbc.mono HT4.out.size))
  have HC5 := hide_ (HC4.out.trans (hbc.mono HC4.out.size))
  have HCB5 := hide_ (HCB.out.below hbc)
  have hs5 : W4.heap.size ≤ wc.heap.size := hbc.size
  have HS5 := hide_ hs5
  have HZ4' := HZ4.out
  clear hbc HSC HSC2 HRS HRR HAA HSX HRX HXX HGA HGB HCB HC4
  have hca := (HA0.out.below HT5.out).cell
  have z0 : w.heap.size < wc.heap.size := by omega
  go_wp2_with fail
  refine (HCL.out _ HB5.out HG5.out.1 HG5.out.2.1 HG5.out.2.2.1 HG5.out.2.2.2.1 HG5.out.2.2.2.2).mono ?_
  rintro en w6 ⟨d, rfl, hdp, hdf, hb6⟩
  clear hca z0
  have HSD2 := hide_ (fun (u : World) (h : Below w.heap.size w u) (hd : Fresh u (wc.heap.size + 2) d) => HSD.out u d h hd.ok)
  rw [show decide (ap = d.p) = true by rw [hdp, HAP.out]; simp] at HSD2
  have HDB := hide_ (BoxAt.new w6 d.box 29)
  have hs6 : wc.heap.size ≤ w6.heap.size := hb6.size
  obtain ⟨W7, hW7⟩ : ∃ W7, w6.alloc (.cells d.box 29) = W7 := ⟨_, rfl⟩
  rw [hW7] at HDB
  have hup : Below wc.heap.size wc W7 := hW7 ▸ hb6.alloc hb6.size _
  have HDF := hide_ (show Fresh W7 (wc.heap.size + 2) d from hW7 ▸ hdf.below ((Below.refl _ _).alloc (Nat.le_refl _) _))
  have HB7 := hide_ (HB5.out.trans (hup.mono HB5.out.size))
  have HA7 := hide_ (HA0.out.below (HT5.out.trans (hup.mono HT5.out.size)))
  have HCB7 := hide_ (HCB5.out.below hup)
  have HWK := hide_ (HCF.out.wk.below (HC5.out.trans (hup.mono HC5.out.size)))
  have HW7 := hide_ hW7
  clear hdp hdf hb6 hW7 hup HCF HCL HSD HDB HC5 HCB5 HB0 HX0 HY0
  have HDB := hide_ (show BoxAt W7 w6.heap.size d.box 29 from HW7.out ▸ BoxAt.new w6 d.box 29)
  obtain ⟨ki4, inc4, st4, ⟨vA4, vc4, vl4⟩, ⟨dA4, dc4, dl4⟩, ⟨oA4, oc4, ol4⟩, la4, ⟨mA4, mc4, ml4⟩⟩ := d
  simp only [RegM.v, RegM.box, Sl.v] at HDB HSD2 HDF HW7 ⊢
  obtain ⟨lo, hlo⟩ : ∃ n, w2.heap.size + 2 = n := ⟨_, rfl⟩
  obtain ⟨hi, hhi⟩ : ∃ n, w3.heap.size = n := ⟨_, rfl⟩
  obtain ⟨zd, hzd⟩ : ∃ n, w6.heap.size = n := ⟨_, rfl⟩
  obtain ⟨l4, hl4⟩ : ∃ n, wc.heap.size + 2 = n := ⟨_, rfl⟩
  rw [hlo, hhi] at HWK
  rw [hhi] at HCB7
  rw [hzd] at HDB
  simp only [hl4] at HDF HSD2
  have HFI := hide_ (show w.heap.size < lo ∧ hi ≤ l4 ∧ hi ≤ zd by omega)
  have HZD := hide_ hzd
  have HHI := hide_ hhi
  clear hlo hl4 hs5 hs6 HZ4' hs2 hs23 hzz
  have HFR := hide_ (FR.refl lo hi W7)
  go_wp2
  rw [HW7.out]
  try rw [HHI.out]
  clear hhi hzd
  have HNL := hide_ HNLF.out
  go_loopw [11] (fun i wr => ∃ k : Nat, k ≤ vl3.length ∧ i = .int .i64 k ∧ Hid (Wk wr lo hi ⟨ki3, inc3, st3, ⟨vA3, vc3, vl3⟩, ⟨dA3, dc3, dl3⟩, ⟨oA3, oc3, ol3⟩, la3, ⟨mA3, mc3, ml3⟩⟩) ∧ Hid (FR lo hi W7 wr)) (fun i _ => vl3.length - (intOf i).toNat)
  case atStart => exact ⟨0, Nat.zero_le _, rfl, HWK.out, HFR.out⟩
  case round =>
    obtain ⟨k, hk, rfl, HWR, HFW⟩ := hrel
    have HCR := hide_ (HFW.out.box HCB7.out (by omega))
    have hz : hi < wr.heap.size := HCR.out.lt
    have hcx := HCR.out.cell
    by_cases hlt : k < vl3.length
    case pos =>
      obtain ⟨⟨l, hl, hown⟩, hhi⟩ := HWR.out.va
      obtain ⟨g, hA, hg1, hg2, -⟩ := own_some hown (by show 0 < vl3.length; omega)
      simp only at hA hown hl hhi
      have hgh := hhi _ hA
      subst hA
      obtain ⟨x0, hx0⟩ : ∃ x0, l[k]? = some x0 := ⟨_, List.getElem?_eq_getElem (by omega)⟩
      have e0 : wr.cell? ⟨g, k, none⟩ = some (.int .i64 x0) := by rw [hown.cellAt k (by omega)]; unfold iv; rw [List.getElem?_map, hx0]; rfl
      have f0 := hown.frozenAt k
      have HNX := hide_ (fun (y : Int) => show Wk (wr.setCell ⟨g, k, none⟩ (.int .i64 y)) lo hi ⟨ki3, inc3, st3, ⟨some ⟨g, 0, none⟩, vc3, vl3⟩, ⟨dA3, dc3, dl3⟩, ⟨oA3, oc3, ol3⟩, la3, ⟨mA3, mc3, ml3⟩⟩ from HWR.out.int hown rfl)
      have HNF := hide_ (fun (y : Int) => show FR lo hi W7 (wr.setCell ⟨g, k, none⟩ (.int .i64 y)) from HFW.out.store hg1 hgh)
      have k1 : (k : Int) < (vl3.length : Int) := by omega
      clear hown hl hhi hx0 hg1 hgh
      go_wp2
      go_roundw
      case rel => exact ⟨k + 1, by omega, by go_num, HNX.out _, HNF.out _⟩
      case measure => simp [intOf]; omega
    have hkn : k = vl3.length := by omega
    subst hkn
    have HWK := hide_ HWR.out
    have HFR := hide_ HFW.out
    go_wp2
    clear hcx
    go_loopw [12] (fun i wr => ∃ k : Nat, k ≤ dl3.length ∧ i = .int .i64 k ∧ Hid (Wk wr lo hi ⟨ki3, inc3, st3, ⟨vA3, vc3, vl3⟩, ⟨dA3, dc3, dl3⟩, ⟨oA3, oc3, ol3⟩, la3, ⟨mA3, mc3, ml3⟩⟩) ∧ Hid (FR lo hi W7 wr)) (fun i _ => dl3.length - (intOf i).toNat)
    case atStart => exact ⟨0, Nat.zero_le _, rfl, HWK.out, HFR.out⟩
    case round =>
      obtain ⟨k, hk, rfl, HWR, HFW⟩ := hrel
      have HCR := hide_ (HFW.out.box HCB7.out (by omega))
      have hz : hi < wr.heap.size := HCR.out.lt
      have hcx := HCR.out.cell
      by_cases hlt : k < dl3.length
      case pos =>
        obtain ⟨x, hx⟩ : ∃ x, dl3[k]? = some x := ⟨_, List.getElem?_eq_getElem hlt⟩
        have HXK := hide_ hx
        have hxm := HNL.out x (List.mem_of_getElem? hx)
        have HDN := hide_ (fun (u : World) (h : Wk u lo hi ⟨ki3, inc3, st3, ⟨vA3, vc3, vl3⟩, ⟨dA3, dc3, dl3⟩, ⟨oA3, oc3, ol3⟩, la3, ⟨mA3, mc3, ml3⟩⟩) => show ∃ (g : Nat) (dk : List DoneM) (d : DoneM), dA3 = some ⟨g, 0, none⟩ ∧ (lo ≤ g ∧ g < hi ∧ g < u.heap.size) ∧ dk.length = dl3.length ∧ dk.map DoneM.va = dl3.map DoneM.va ∧ u.ownsRow lo 47 6 (.slice dA3 dl3.length dc3) dl3.length (dk.flatMap DoneM.cs) ∧ dk[k]? = some d ∧ d.va = x.va from by
          obtain ⟨dk, d1, d2, d3⟩ := h.dn
          simp only at d1 d2 d3
          obtain ⟨g, hA, hg1, hg2, -⟩ := own_some d3 (by omega)
          obtain ⟨d, hd⟩ : ∃ d, dk[k]? = some d := ⟨_, List.getElem?_eq_getElem (by omega)⟩
          have h2 : (dk.map DoneM.va)[k]? = (dl3.map DoneM.va)[k]? := by rw [d2]
          rw [List.getElem?_map, List.getElem?_map, hd, HXK.out] at h2
          injection h2 with h2
          exact ⟨g, dk, d, hA, ⟨hg1, h.dh _ hA, hg2⟩, d1, d2, d3, hd, h2⟩)
        have HXV := hide_ (fun (u : World) (h : Wk u lo hi ⟨ki3, inc3, st3, ⟨vA3, vc3, vl3⟩, ⟨dA3, dc3, dl3⟩, ⟨oA3, oc3, ol3⟩, la3, ⟨mA3, mc3, ml3⟩⟩) => h.dv x (List.mem_of_getElem? HXK.out))
        obtain ⟨g, -, -, hA, -⟩ := HDN.out _ HWR.out
        subst hA
        clear hx
        obtain ⟨cl, sq, er5, in5, st5, ⟨A, c5, va⟩⟩ := x
        simp only at HDN HXV hxm
        obtain ⟨na, hna⟩ : ∃ n, va.length = n := ⟨_, rfl⟩
        simp only [hna] at HXV hxm
        have HNA := hide_ hna
        clear hna
        have HHD := hide_ (fun (u : World) (h : Wk u lo hi ⟨ki3, inc3, st3, ⟨vA3, vc3, vl3⟩, ⟨some ⟨g, 0, none⟩, dc3, dl3⟩, ⟨oA3, oc3, ol3⟩, la3, ⟨mA3, mc3, ml3⟩⟩) => show (g < u.heap.size ∧ u.cell? ⟨g, k * 6 + 5, none⟩ = some (.slice A na c5)) ∧ (∃ z : Int, u.cell? ⟨g, k * 6 + 1, none⟩ = some (.int .u64 z)) ∧ u.frozen? ⟨g, k * 6 + 1, none⟩ = false from by
          obtain ⟨g', dk, d, hA, hg, d1, d2, d3, hd, hv⟩ := HDN.out u h
          injection hA with hA
          injection hA with hA
          subst hA
          refine ⟨⟨hg.2.2, ?_⟩, ⟨d.sq, ?_⟩, d3.frozenAt _⟩
          · rw [d3.cellAt (k * 6 + 5) (by omega), flat_get (cs := DoneM.cs) (q := 6) (fun _ => rfl) dk k 5 d hd (by omega)]
            show some d.va.v = _
            rw [hv]
            simp only [Sl.v, HNA.out]
          · rw [d3.cellAt (k * 6 + 1) (by omega), flat_get (cs := DoneM.cs) (q := 6) (fun _ => rfl) dk k 1 d hd (by omega)]
            rfl)
        have HST := hide_ (fun (u : World) (h : Wk u lo hi ⟨ki3, inc3, st3, ⟨vA3, vc3, vl3⟩, ⟨some ⟨g, 0, none⟩, dc3, dl3⟩, ⟨oA3, oc3, ol3⟩, la3, ⟨mA3, mc3, ml3⟩⟩) (hf : FR lo hi W7 u) (z : Int) => show Wk (u.setCell ⟨g, k * 6 + 1, none⟩ (.int .u64 z)) lo hi ⟨ki3, inc3, st3, ⟨vA3, vc3, vl3⟩, ⟨some ⟨g, 0, none⟩, dc3, dl3⟩, ⟨oA3, oc3, ol3⟩, la3, ⟨mA3, mc3, ml3⟩⟩ ∧ FR lo hi W7 (u.setCell ⟨g, k * 6 + 1, none⟩ (.int .u64 z)) from by
          obtain ⟨g', dk, d, hA, hg, d1, d2, d3, hd, hv⟩ := HDN.out u h
          injection hA with hA
          injection hA with hA
          subst hA
          exact ⟨h.dns rfl d1 d2 d3 hd, hf.store hg.1 hg.2.1⟩)
        have k1 : (k : Int) < (dl3.length : Int) := by omega
        have k2 : (0 : Int) ≤ (k : Int) := by omega
        have HKD := hide_ hk
        have HCO := hide_ HCR.out
        obtain ⟨wo, hwo⟩ : ∃ wo, wo = wr := ⟨_, rfl⟩
        subst hwo
        have HWO := hide_ HWR.out
        have HFO := hide_ HFW.out
        go_wp2
        clear hcx HWR HFW HCR hz
        go_loopw [13] (fun i wr => ∃ j : Nat, j ≤ na ∧ i = .int .i64 j ∧ Hid (Wk wr lo hi ⟨ki3, inc3, st3, ⟨vA3, vc3, vl3⟩, ⟨some ⟨g, 0, none⟩, dc3, dl3⟩, ⟨oA3, oc3, ol3⟩, la3, ⟨mA3, mc3, ml3⟩⟩) ∧ Hid (FR lo hi W7 wr)) (fun i _ => na - (intOf i).toNat)
        case atStart => exact ⟨0, Nat.zero_le _, rfl, HWO.out, HFO.out⟩
        case round =>
          obtain ⟨j, hj, rfl, HWR, HFW⟩ := hrel
          have HCR := hide_ (HFW.out.box HCB7.out (by omega))
          have hz : hi < wr.heap.size := HCR.out.lt
          have hcx := HCR.out.cell
          obtain ⟨⟨hgw, e5⟩, ⟨z, e1⟩, f1⟩ := HHD.out _ HWR.out
          by_cases hlt2 : j < na
          case pos =>
            obtain ⟨⟨l, hl, hown⟩, hhi⟩ := HXV.out _ HWR.out
            obtain ⟨g2, hA, hg1, hg2, -⟩ := own_some hown (by omega)
            have hgh := hhi _ hA
            subst hA
            obtain ⟨x0, hx0⟩ : ∃ x0, l[j]? = some x0 := ⟨_, List.getElem?_eq_getElem (by omega)⟩
            have e0 : wr.cell? ⟨g2, j, none⟩ = some (.int .i64 x0) := by rw [hown.cellAt j (by omega)]; unfold iv; rw [List.getElem?_map, hx0]; rfl
            have f0 := hown.frozenAt j
            have HNX := hide_ (fun (y : Int) => show Wk (wr.setCell ⟨g2, j, none⟩ (.int .i64 y)) lo hi _ from HWR.out.int hown rfl)
            have HNF := hide_ (fun (y : Int) => show FR lo hi W7 (wr.setCell ⟨g2, j, none⟩ (.int .i64 y)) from HFW.out.store hg1 hgh)
            have k3 : (j : Int) < (na : Int) := by omega
            have k4 : (0 : Int) ≤ (j : Int) := by omega
            clear hown hl hhi hx0 hg1 hgh e1 f1
            go_wp2
            go_roundw
            case rel => exact ⟨j + 1, by omega, by go_num, HNX.out _, HNF.out _⟩
            case measure => simp [intOf]; omega
          have hjn : na = j := by omega
          subst hjn
          have HNX := hide_ (fun (y : Int) => (HST.out _ HWR.out HFW.out y).1)
          have HNF := hide_ (fun (y : Int) => (HST.out _ HWR.out HFW.out y).2)
          go_wp2
          go_roundw
          case rel => exact ⟨k + 1, by omega, by go_num, HNX.out _, HNF.out _⟩
          case measure => simp [intOf]; omega
      have hkn : k = dl3.length := by omega
      subst hkn
      have HWK := hide_ HWR.out
      have HFR := hide_ HFW.out
      go_wp2
      clear hcx
      go_loopw [14] (fun i wr => ∃ k : Nat, k ≤ ol3.length ∧ i = .int .i64 k ∧ Hid (Wk wr lo hi ⟨ki3, inc3, st3, ⟨vA3, vc3, vl3⟩, ⟨dA3, dc3, dl3⟩, ⟨oA3, oc3, ol3⟩, la3, ⟨mA3, mc3, ml3⟩⟩) ∧ Hid (FR lo hi W7 wr)) (fun i _ => ol3.length - (intOf i).toNat)
      case atStart => exact ⟨0, Nat.zero_le _, rfl, HWK.out, HFR.out⟩
      case round =>
        obtain ⟨k, hk, rfl, HWR, HFW⟩ := hrel
        have HCR := hide_ (HFW.out.box HCB7.out (by omega))
        have hz : hi < wr.heap.size := HCR.out.lt
        have hcx := HCR.out.cell
        by_cases hlt : k < ol3.length
        case pos =>
          obtain ⟨l, hl, hown⟩ := HWR.out.ou
          obtain ⟨g, hA, hg1, hg2, -⟩ := own_some hown (by show 0 < ol3.length; omega)
          simp only at hA hown hl
          have hgh := HWR.out.oh _ hA
          subst hA
          obtain ⟨x0, hx0⟩ : ∃ x0, l[k]? = some x0 := ⟨_, List.getElem?_eq_getElem (by omega)⟩
          have e0 : wr.cell? ⟨g, k * 4, none⟩ = some (.int .u64 ((fun d : CelM => d.1) x0)) := by rw [hown.cellAt (k * 4) (by omega), show k * 4 = k * 4 + 0 from rfl, flat_get (cs := celC) (q := 4) (fun _ => rfl) l k 0 x0 hx0 (by omega)]; rfl
          have f0 := hown.frozenAt (k * 4)
          have HNX := hide_ (fun (y : Int) => show Wk (wr.setCell ⟨g, k * 4, none⟩ (.int .u64 y)) lo hi ⟨ki3, inc3, st3, ⟨vA3, vc3, vl3⟩, ⟨dA3, dc3, dl3⟩, ⟨some ⟨g, 0, none⟩, oc3, ol3⟩, la3, ⟨mA3, mc3, ml3⟩⟩ from HWR.out.ous rfl hl hown hx0)
          have HNF := hide_ (fun (y : Int) => show FR lo hi W7 (wr.setCell ⟨g, k * 4, none⟩ (.int .u64 y)) from HFW.out.store hg1 hgh)
          have k1 : (k : Int) < (ol3.length : Int) := by omega
          obtain ⟨y0, hy0⟩ : ∃ y0, (fun d : CelM => d.1) x0 = y0 := ⟨_, rfl⟩
          rw [hy0] at e0
          clear hown hl hx0 hg1 hgh hy0
          go_wp2
          go_roundw
          case rel => exact ⟨k + 1, by omega, by go_num, HNX.out _, HNF.out _⟩
          case measure => simp [intOf]; omega
        have hkn : k = ol3.length := by omega
        subst hkn
        have HWK := hide_ HWR.out
        have HFR := hide_ HFW.out
        go_wp2
        clear hcx
        go_loopw [15] (fun i wr => ∃ k : Nat, k ≤ ml3.length ∧ i = .int .i64 k ∧ Hid (Wk wr lo hi ⟨ki3, inc3, st3, ⟨vA3, vc3, vl3⟩, ⟨dA3, dc3, dl3⟩, ⟨oA3, oc3, ol3⟩, la3, ⟨mA3, mc3, ml3⟩⟩) ∧ Hid (FR lo hi W7 wr)) (fun i _ => ml3.length - (intOf i).toNat)
        case atStart => exact ⟨0, Nat.zero_le _, rfl, HWK.out, HFR.out⟩
        case round =>
          obtain ⟨k, hk, rfl, HWR, HFW⟩ := hrel
          have HCR := hide_ (HFW.out.box HCB7.out (by omega))
          have hz : hi < wr.heap.size := HCR.out.lt
          have hcx := HCR.out.cell
          by_cases hlt : k < ml3.length
          case pos =>
            obtain ⟨l, hl, hown⟩ := HWR.out.ma
            obtain ⟨g, hA, hg1, hg2, -⟩ := own_some hown (by show 0 < ml3.length; omega)
            simp only at hA hown hl
            have hgh := HWR.out.mh _ hA
            subst hA
            obtain ⟨x0, hx0⟩ : ∃ x0, l[k]? = some x0 := ⟨_, List.getElem?_eq_getElem (by omega)⟩
            have e0 : wr.cell? ⟨g, k * 3 + 2, none⟩ = some (.int .u64 ((fun d : MrkM => d.2.2) x0)) := by rw [hown.cellAt (k * 3 + 2) (by omega), flat_get (cs := mrkC) (q := 3) (fun _ => rfl) l k 2 x0 hx0 (by omega)]; rfl
            have f0 := hown.frozenAt (k * 3 + 2)
            have HNX := hide_ (fun (y : Int) => show Wk (wr.setCell ⟨g, k * 3 + 2, none⟩ (.int .u64 y)) lo hi ⟨ki3, inc3, st3, ⟨vA3, vc3, vl3⟩, ⟨dA3, dc3, dl3⟩, ⟨oA3, oc3, ol3⟩, la3, ⟨some ⟨g, 0, none⟩, mc3, ml3⟩⟩ from HWR.out.mas rfl hl hown hx0)
            have HNF := hide_ (fun (y : Int) => show FR lo hi W7 (wr.setCell ⟨g, k * 3 + 2, none⟩ (.int .u64 y)) from HFW.out.store hg1 hgh)
            have k1 : (k : Int) < (ml3.length : Int) := by omega
            obtain ⟨y0, hy0⟩ : ∃ y0, (fun d : MrkM => d.2.2) x0 = y0 := ⟨_, rfl⟩
            rw [hy0] at e0
            clear hown hl hx0 hg1 hgh hy0
            go_wp2
            go_roundw
            case rel => exact ⟨k + 1, by omega, by go_num, HNX.out _, HNF.out _⟩
            case measure => simp [intOf]; omega
          have hkn : k = ml3.length := by omega
          subst hkn
          have HWK := hide_ HWR.out
          have HFR := hide_ HFW.out
          have HAR := hide_ (box_low HFW.out HA7.out HFI.out.1)
          have HDR := hide_ (HFW.out.box HDB.out HFI.out.2.2)
          have hca := HAR.out.cell
          have hcd := HDR.out.cell
          have hza := HAR.out.lt
          have hzd := HDR.out.lt
          have HBL := hide_ (HB7.out.trans (HFW.out.1.mono (by have := HFI.out.1; omega)))
          go_wp2_with fail
          clear hcx
          try rw [HZD.out]
          refine (HSD2.out _ HBL.out (HFW.out.fresh HDF.out HFI.out.2.1)).mono ?_
          rintro en w8 ⟨rfl, hb8⟩
          have HB8 := hide_ (HBL.out.trans (hb8.mono HBL.out.size))
          clear hb8
          go_wp2_with fail
          refine (awake06_any _).mono ?_
          rintro en wz ⟨rfl, hbz⟩
          go_wp2
          go_ret
          exact ⟨rfl, HB8.out.trans (hbz.mono HB8.out.size)⟩
theorem own : ownKnob Try.prog.godebug = none := by kernel_rfl
theorem laid : laidOutB Try.prog = true := by kernel_rfl

set_option maxRecDepth 100000 in
theorem contract (H : Type) (enc : TypeId × Value → H) (W : World) (base : Nat) (args : Array Value) (ds gs : List (DataW H)) (before : List MemPlace)
    (hval : ∀ (j : Nat) t v, Try.f4.params[j]? = some t → args[j]? = some v → Value.okWide Try.prog W .any base t v)
    (hW : DataW.Whole enc Try.prog Try.f4.params.toList Rows.regSameSpec.vars false W args.toList ds gs before) :
    Calls Try.prog 4 args W fun e W' => ∃ v, e = .returned v ∧ Rows.regSameSpec.post enc Try.prog Try.f4 false true false false W args v W' := by
  have hW' := hW
  obtain ⟨p, q, hA0, hV, rfl, hfz, hnd⟩ := hW
  have hA : DataW.TrodAll enc Try.prog W 0 (fun _ => true) true Try.f4.params.toList args.toList ds p := hA0
  rw [Try.params4] at hA hval
  obtain ⟨v0, vs0, d0, ds0, p0, q0, hargs, rfl, rfl, h0, r0⟩ := trodAll_cons hA
  obtain ⟨v1, vs1, d1, ds1, p1, q1, rfl, rfl, rfl, h1, r1⟩ := trodAll_cons r0
  obtain ⟨v2, vs2, d2, ds2, p2, q2, rfl, rfl, rfl, h2, r2⟩ := trodAll_cons r1
  obtain ⟨v3, vs3, d3, ds3, p3, q3, rfl, rfl, rfl, h3, r3⟩ := trodAll_cons r2
  obtain ⟨rfl, rfl, rfl⟩ := trodAll_nil r3
  obtain rfl : args = #[v0, v1, v2, v3] := by cases args; simp_all
  obtain ⟨rfl, rfl⟩ := trodVars_none hV
  obtain ⟨u0, rfl, bu0⟩ := open_reg (hval 0 29 v0 rfl rfl) h0
  obtain ⟨u1, rfl, bu1⟩ := open_reg (hval 1 29 v1 rfl rfl) h1
  obtain ⟨u2, rfl, bu2⟩ := open_rep (hval 2 43 v2 rfl rfl) h2
  obtain ⟨u3, rfl, bu3⟩ := open_rep (hval 3 43 v3 rfl rfl) h3
  have fin : ∀ (e : Ending) (W' : World), e = .returned (.bool true) ∧ Below W.heap.size W W' → ∃ v, e = .returned v ∧ Rows.regSameSpec.post enc Try.prog Try.f4 false true false false W #[RegM.v u0, RegM.v u1, RepM.v u2, RepM.v u3] v W' :=
    fun e W' ⟨he, hb⟩ => ⟨_, he, law_post laid (by kernel_rfl) rfl rfl rfl Try.underlying4 hW' hb⟩
  exact (walk u0 u1 u2 u3 W bu0 bu1 bu2 bu3).mono fin

set_option maxRecDepth 100000 in
theorem lifted (os : Os) (started : os.Started) (H : Type) (enc : TypeId × Value → H) :
    ReturnsInHanded {} Try.checked os 4 .any (Rows.regSameSpec.pre6 enc Try.prog Try.f4 Rows.regSameRow.domain false) (Rows.regSameSpec.post enc Try.prog Try.f4 false true false false) := by
  refine returnsInHanded_of_change (C := Try.checked) (s := Rows.regSameSpec) own started (by kernel_rfl) Try.func4
    (ChangeSpec.witness6 (enc := enc) (C := Try.checked) false ⟨#[], #[.agg #[.int .u8 0, .int .u64 0, .int .i64 0, .slice none 0 0, .slice none 0 0, .slice none 0 0, .int .u64 0, .slice none 0 0], .agg #[.int .u8 0, .int .u64 0, .int .i64 0, .slice none 0 0, .slice none 0 0, .slice none 0 0, .int .u64 0, .slice none 0 0], .agg #[.int .i64 0, .int .u64 0, .int .i64 0, .slice none 0 0], .agg #[.int .i64 0, .int .u64 0, .int .i64 0, .slice none 0 0]], []⟩ 8 (by kernel_rfl) (by kernel_rfl) (by kernel_rfl) (by kernel_rfl)) ?_
  intro W base args ds gs before hval hW _ _
  exact contract H enc W base args ds gs before hval hW

theorem proved : Rows.RegSameSaid :=
  OpenClaim.holds_of_wide 4 Try.f4 rfl rfl rfl rfl rfl rfl rfl ⟨rfl, rfl, rfl, rfl, rfl⟩ rfl rfl rfl rfl rfl (by kernel_rfl) Try.func4 (by kernel_rfl)
    (of_decide_eq_true (by kernel_rfl)) (by unfold Func.isWrapper; first | (rw [if_pos (by decide +kernel)]; kernel_rfl) | (rw [if_neg (by decide +kernel)]; exact ⟨rfl, rfl⟩))
    (fun os started H enc _ => lifted os started H enc)

end Go.Proofs.Ytkfejiolfkepkaa.regSame
