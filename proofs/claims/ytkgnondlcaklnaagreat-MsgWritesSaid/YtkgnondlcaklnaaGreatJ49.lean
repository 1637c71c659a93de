/-
  Texts of this claim put together: MsgE.
-/
import Derived.Test.YtkgnondlcaklnaaGreatJ45
import Derived.Test.YtkgnondlcaklnaaGreatJ40
import Derived.Test.YtkgnondlcaklnaaGreatJ44
import Derived.Test.YtkgnondlcaklnaaGreatJ22
import Derived.BigGuard
/-
  Two messages the same: contracts of msg's Same and of the document's.
-/
namespace Go.Proofs.YtkgnondlcaklnaaGreat
open Go.RowKit

set_option maxRecDepth 100000 in
set_option maxHeartbeats 12800000 in
theorem refSameMsgEq_any (x y : MsgM) (B : Nat) (w : World) (hx : MsgM.good w B x) (hy : MsgM.good w B y) (hB : B ≤ w.heap.size) (heq : x.p = y.p) : Calls Tryz.prog 21 #[x.v, y.v] w fun e w' => e = .returned (.bool true) ∧ Below w.heap.size w w' := by
  have HR := hide_ (fun (u : World) (hb : Below w.heap.size w u) => refSameG_any x.r y.r w.heap.size u (reg_stable.below (reg_stable.more hx.2 hB) hb) (reg_stable.below (reg_stable.more hy.2 hB) hb) hb.size)
  have hrr : decide (x.r.p = y.r.p) = true := decide_eq_true (congrArg MsgP.r heq)
  simp only [hrr] at HR
  clear hrr hx hy
  obtain ⟨VX, hVX⟩ : ∃ V, x.v = V := ⟨_, rfl⟩
  obtain ⟨VY, hVY⟩ : ∃ V, y.v = V := ⟨_, rfl⟩
  rw [hVX, hVY]
  obtain ⟨ki, fr, tt, ke, co, bc, bn, bl, ok, ac, an, al, ⟨rk, inc, st, ⟨vA, vc, vl⟩, ⟨dA, dc, dl⟩, ⟨oA, oc, ol⟩, la, ⟨mA, mc, ml⟩⟩, nc, nn, nl, mx⟩ := x
  obtain ⟨ki2, fr2, tt2, ke2, co2, bc2, bn2, bl2, ok2, ac2, an2, al2, ⟨rk2, inc2, st2, ⟨vA2, vc2, vl2⟩, ⟨dA2, dc2, dl2⟩, ⟨oA2, oc2, ol2⟩, la2, ⟨mA2, mc2, ml2⟩⟩, nc2, nn2, nl2, mx2⟩ := y
  have HVX := hide_ (show VX = .agg #[.int .u8 ki, .int .u8 fr, .int .u8 tt, .int .u8 ke, .int .u64 co, .int .u64 bc, .int .u8 bn, .int .u32 bl, .bool ok, .int .u64 ac, .int .u8 an, .int .u32 al, .int .u8 rk, .int .u64 inc, .int .i64 st, .slice vA vl.length vc, .slice dA dl.length dc, .slice oA ol.length oc, .int .u64 la, .slice mA ml.length mc, .int .u64 nc, .int .u8 nn, .int .u32 nl, .int .u64 mx] from hVX.symm)
  have HVY := hide_ (show VY = .agg #[.int .u8 ki2, .int .u8 fr2, .int .u8 tt2, .int .u8 ke2, .int .u64 co2, .int .u64 bc2, .int .u8 bn2, .int .u32 bl2, .bool ok2, .int .u64 ac2, .int .u8 an2, .int .u32 al2, .int .u8 rk2, .int .u64 inc2, .int .i64 st2, .slice vA2 vl2.length vc2, .slice dA2 dl2.length dc2, .slice oA2 ol2.length oc2, .int .u64 la2, .slice mA2 ml2.length mc2, .int .u64 nc2, .int .u8 nn2, .int .u32 nl2, .int .u64 mx2] from hVY.symm)
  clear hVX hVY
  simp only [MsgM.p, MsgP.mk.injEq] at heq
  obtain ⟨rfl, rfl, rfl, rfl, rfl, rfl, rfl, rfl, rfl, rfl, rfl, rfl, -, rfl, rfl, rfl, rfl⟩ := heq
  simp only [RegM.v, Sl.v] at HR ⊢
  go_enter Tryz.func21, Tryz.ntmps21
  go_upto_region 0 with fail
  refine wp_region_lit ?_
  refine box_msg rfl _ rfl rfl HVX.out ?_
  intro W0 HX0 HB0 HZ0
  simp only [Act.put, List.setIfInBounds_toArray, List.set_cons_zero, List.set_cons_succ]
  refine box_msg rfl _ rfl rfl HVY.out ?_
  intro W1 HY1 HB1 HZ1
  simp only [Act.put, List.setIfInBounds_toArray, List.set_cons_zero, List.set_cons_succ]
  have hcx := (HX0.out.below HB1.out).cell
  have hcy := HY1.out.cell
  have HW := hide_ (HB0.out.trans (HB1.out.mono (by have := HZ0.out; omega)))
  go_wp2_with fail
  refine (HR.out _ HW.out).mono ?_
  rintro en w1 ⟨rfl, hb1⟩
  have HBC := hide_ (HW.out.trans (hb1.mono HW.out.size))
  have HXC := hide_ ((HX0.out.below HB1.out).below hb1)
  have HYC := hide_ (HY1.out.below hb1)
  clear hb1 hcx hcy
  have hcx := HXC.out.cell
  have hcy := HYC.out.cell
  go_wp2
  go_ret
  exact ⟨rfl, HBC.out⟩

end Go.Proofs.YtkgnondlcaklnaaGreat
