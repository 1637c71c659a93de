/-
  Texts of this claim put together: Msg3.
-/
import Derived.Test.YtkgnondlcaklnaaJ44
import Derived.Test.YtkgnondlcaklnaaJ37
import Derived.Test.YtkgnondlcaklnaaJ43
import Derived.Test.YtkgnondlcaklnaaJ22
import Derived.Test.YtkgnondlcaklnaaJ03
import Derived.BigGuard
/-
  Two messages the same: contracts of msg's Same and of the document's.
-/
namespace Go.Proofs.Ytkgnondlcaklnaa
open Go.RowKit

theorem msgP_eq (a b : MsgP) : decide (a = b) = (decide (a.ki = b.ki) && (decide (a.fr = b.fr) && (decide (a.tt = b.tt) && (decide (a.ke = b.ke) && (decide (a.co = b.co) && (decide (a.bc = b.bc) && (decide (a.bn = b.bn) && (decide (a.bl = b.bl) && (decide (a.ok = b.ok) && (decide (a.ac = b.ac) && (decide (a.an = b.an) && (decide (a.al = b.al) && (decide (a.r = b.r) && (decide (a.nc = b.nc) && (decide (a.nn = b.nn) && (decide (a.nl = b.nl) && (decide (a.mx = b.mx)))))))))))))))))) := by
  obtain ⟨a0, a1, a2, a3, a4, a5, a6, a7, a8, a9, a10, a11, a12, a13, a14, a15, a16⟩ := a
  obtain ⟨b0, b1, b2, b3, b4, b5, b6, b7, b8, b9, b10, b11, b12, b13, b14, b15, b16⟩ := b
  rw [Bool.eq_iff_iff]
  simp only [decide_eq_true_eq, Bool.and_eq_true, MsgP.mk.injEq]

set_option maxRecDepth 100000 in
set_option maxHeartbeats 12800000 in
theorem sameMsg_any (x y : MsgM) (B : Nat) (w : World) (hx : MsgM.good w B x) (hy : MsgM.good w B y) (hB : B ≤ w.heap.size) : Calls Try.prog 7 #[x.v, y.v] w fun e w' => e = .returned (.bool (decide (x.p = y.p))) ∧ Below w.heap.size w w' := by
  have HR := hide_ (fun (u : World) (hb : Below w.heap.size w u) => sameReg_any x.r y.r w.heap.size u (reg_stable.below (reg_stable.more hx.2 hB) hb) (reg_stable.below (reg_stable.more hy.2 hB) hb) hb.size)
  have HP := hide_ (msgP_eq x.p y.p)
  rw [HP.out]
  clear HP
  unfold MsgM.p
  simp only
  obtain ⟨qr, hr⟩ : ∃ q, decide (x.r.p = y.r.p) = q := ⟨_, rfl⟩
  simp only [hr] at HR ⊢
  clear hr hx hy
  obtain ⟨VX, hVX⟩ : ∃ V, x.v = V := ⟨_, rfl⟩
  obtain ⟨VY, hVY⟩ : ∃ V, y.v = V := ⟨_, rfl⟩
  rw [hVX, hVY]
  obtain ⟨ki, fr, tt, ke, co, bc, bn, bl, ok, ac, an, al, ⟨rk, inc, st, ⟨vA, vc, vl⟩, ⟨dA, dc, dl⟩, ⟨oA, oc, ol⟩, la, ⟨mA, mc, ml⟩⟩, nc, nn, nl, mx⟩ := x
  obtain ⟨ki2, fr2, tt2, ke2, co2, bc2, bn2, bl2, ok2, ac2, an2, al2, ⟨rk2, inc2, st2, ⟨vA2, vc2, vl2⟩, ⟨dA2, dc2, dl2⟩, ⟨oA2, oc2, ol2⟩, la2, ⟨mA2, mc2, ml2⟩⟩, nc2, nn2, nl2, mx2⟩ := y
  have HVX := hide_ (show VX = .agg #[.int .u8 ki, .int .u8 fr, .int .u8 tt, .int .u8 ke, .int .u64 co, .int .u64 bc, .int .u8 bn, .int .u32 bl, .bool ok, .int .u64 ac, .int .u8 an, .int .u32 al, .int .u8 rk, .int .u64 inc, .int .i64 st, .slice vA vl.length vc, .slice dA dl.length dc, .slice oA ol.length oc, .int .u64 la, .slice mA ml.length mc, .int .u64 nc, .int .u8 nn, .int .u32 nl, .int .u64 mx] from hVX.symm)
  have HVY := hide_ (show VY = .agg #[.int .u8 ki2, .int .u8 fr2, .int .u8 tt2, .int .u8 ke2, .int .u64 co2, .int .u64 bc2, .int .u8 bn2, .int .u32 bl2, .bool ok2, .int .u64 ac2, .int .u8 an2, .int .u32 al2, .int .u8 rk2, .int .u64 inc2, .int .i64 st2, .slice vA2 vl2.length vc2, .slice dA2 dl2.length dc2, .slice oA2 ol2.length oc2, .int .u64 la2, .slice mA2 ml2.length mc2, .int .u64 nc2, .int .u8 nn2, .int .u32 nl2, .int .u64 mx2] from hVY.symm)
  clear hVX hVY
  simp only [RegM.v, Sl.v] at HR ⊢
  go_enter Try.func7, Try.ntmps7
  go_upto_region 0 with fail
  refine wp_region_lit ?_
  refine box_msg rfl _ rfl rfl HVX.out ?_
  intro W0 HX0 HB0 HZ0
  simp only [Act.put, List.setIfInBounds_toArray, List.set_cons_zero, List.set_cons_succ]
  refine box_msg rfl _ rfl rfl HVY.out ?_
  intro W1 HY1 HB1 HZ1
  simp only [Act.put, List.setIfInBounds_toArray, List.set_cons_zero, List.set_cons_succ]
  have HXX := hide_ (HX0.out.below HB1.out)
  have HW := hide_ (HB0.out.trans (HB1.out.mono (by have := HZ0.out; omega)))
  have hcx := HXX.out.cell
  have hcy := HY1.out.cell
  go_upto_region 1 with fail
  refine wp_region_lit ?_
  try simp only [List.append_eq, List.cons_append, List.nil_append]
  by_cases c_ki : ki = ki2
  case neg =>
    have hd : ((ki : Int) == ki2) = false := beq_eq_false_iff_ne.2 (by omega)
    have HE := hide_ (decide_eq_false c_ki)
    have HNE := hide_ c_ki
    clear c_ki
    refine wpList_stop 5 ?_
    intro L HL
    simp only [List.take_succ_cons, List.take_zero, List.cons_append, List.nil_append]
    go_wp2_with fail
    all_goals first
      | (exact absurd ‹ki = ki2› HNE.out)
      | (rw [← HL.out]; exact pure_end (by assumption) 4 (by rfl) (.bool false) (by kernel_rfl) (by kernel_rfl) (by kernel_rfl) ⟨by rw [HE.out]; simp, HW.out⟩)
  subst c_ki
  refine wpList_stop 5 ?_
  intro L HL
  simp only [List.take_succ_cons, List.take_zero, List.cons_append, List.nil_append]
  go_wp2_with fail
  rw [← HL.out]
  simp only [List.drop_succ_cons, List.drop_zero]
  clear HL
  by_cases c_fr : fr = fr2
  case neg =>
    have hd : ((fr : Int) == fr2) = false := beq_eq_false_iff_ne.2 (by omega)
    have HE := hide_ (decide_eq_false c_fr)
    have HNE := hide_ c_fr
    clear c_fr
    refine wpList_stop 7 ?_
    intro L HL
    simp only [List.take_succ_cons, List.take_zero, List.cons_append, List.nil_append]
    go_wp2_with fail
    all_goals first
      | (exact absurd ‹fr = fr2› HNE.out)
      | (rw [← HL.out]; exact pure_end (by assumption) 4 (by rfl) (.bool false) (by kernel_rfl) (by kernel_rfl) (by kernel_rfl) ⟨by rw [HE.out]; simp, HW.out⟩)
  subst c_fr
  refine wpList_stop 7 ?_
  intro L HL
  simp only [List.take_succ_cons, List.take_zero, List.cons_append, List.nil_append]
  go_wp2_with fail
  rw [← HL.out]
  simp only [List.drop_succ_cons, List.drop_zero]
  clear HL
  by_cases c_tt : tt = tt2
  case neg =>
    have hd : ((tt : Int) == tt2) = false := beq_eq_false_iff_ne.2 (by omega)
    have HE := hide_ (decide_eq_false c_tt)
    have HNE := hide_ c_tt
    clear c_tt
    refine wpList_stop 7 ?_
    intro L HL
    simp only [List.take_succ_cons, List.take_zero, List.cons_append, List.nil_append]
    go_wp2_with fail
    all_goals first
      | (exact absurd ‹tt = tt2› HNE.out)
      | (rw [← HL.out]; exact pure_end (by assumption) 4 (by rfl) (.bool false) (by kernel_rfl) (by kernel_rfl) (by kernel_rfl) ⟨by rw [HE.out]; simp, HW.out⟩)
  subst c_tt
  refine wpList_stop 7 ?_
  intro L HL
  simp only [List.take_succ_cons, List.take_zero, List.cons_append, List.nil_append]
  go_wp2_with fail
  rw [← HL.out]
  simp only [List.drop_succ_cons, List.drop_zero]
  clear HL
  by_cases c_ke : ke = ke2
  case neg =>
    have hd : ((ke : Int) == ke2) = false := beq_eq_false_iff_ne.2 (by omega)
    have HE := hide_ (decide_eq_false c_ke)
    have HNE := hide_ c_ke
    clear c_ke
    refine wpList_stop 7 ?_
    intro L HL
    simp only [List.take_succ_cons, List.take_zero, List.cons_append, List.nil_append]
    go_wp2_with fail
    all_goals first
      | (exact absurd ‹ke = ke2› HNE.out)
      | (rw [← HL.out]; exact pure_end (by assumption) 4 (by rfl) (.bool false) (by kernel_rfl) (by kernel_rfl) (by kernel_rfl) ⟨by rw [HE.out]; simp, HW.out⟩)
  subst c_ke
  refine wpList_stop 7 ?_
  intro L HL
  simp only [List.take_succ_cons, List.take_zero, List.cons_append, List.nil_append]
  go_wp2_with fail
  rw [← HL.out]
  simp only [List.drop_succ_cons, List.drop_zero]
  clear HL
  by_cases c_co : co = co2
  case neg =>
    have hd : ((co : Int) == co2) = false := beq_eq_false_iff_ne.2 (by omega)
    have HE := hide_ (decide_eq_false c_co)
    have HNE := hide_ c_co
    clear c_co
    refine wpList_stop 7 ?_
    intro L HL
    simp only [List.take_succ_cons, List.take_zero, List.cons_append, List.nil_append]
    go_wp2_with fail
    all_goals first
      | (exact absurd ‹co = co2› HNE.out)
      | (rw [← HL.out]; exact pure_end (by assumption) 4 (by rfl) (.bool false) (by kernel_rfl) (by kernel_rfl) (by kernel_rfl) ⟨by rw [HE.out]; simp, HW.out⟩)
  subst c_co
  refine wpList_stop 7 ?_
  intro L HL
  simp only [List.take_succ_cons, List.take_zero, List.cons_append, List.nil_append]
  go_wp2_with fail
  rw [← HL.out]
  simp only [List.drop_succ_cons, List.drop_zero]
  clear HL
  by_cases c_bc : bc = bc2
  case neg =>
    have hd : ((bc : Int) == bc2) = false := beq_eq_false_iff_ne.2 (by omega)
    have HE := hide_ (decide_eq_false c_bc)
    have HNE := hide_ c_bc
    clear c_bc
    refine wpList_stop 7 ?_
    intro L HL
    simp only [List.take_succ_cons, List.take_zero, List.cons_append, List.nil_append]
    go_wp2_with fail
    all_goals first
      | (exact absurd ‹bc = bc2› HNE.out)
      | (rw [← HL.out]; exact pure_end (by assumption) 4 (by rfl) (.bool false) (by kernel_rfl) (by kernel_rfl) (by kernel_rfl) ⟨by rw [HE.out]; simp, HW.out⟩)
  subst c_bc
  by_cases c_bn : bn = bn2
  case neg =>
    have hd : ((bn : Int) == bn2) = false := beq_eq_false_iff_ne.2 (by omega)
    have HE := hide_ (decide_eq_false c_bn)
    have HNE := hide_ c_bn
    clear c_bn
    refine wpList_stop 7 ?_
    intro L HL
    simp only [List.take_succ_cons, List.take_zero, List.cons_append, List.nil_append]
    go_wp2_with fail
    all_goals first
      | (exact absurd ‹bn = bn2› HNE.out)
      | (rw [← HL.out]; exact pure_end (by assumption) 4 (by rfl) (.bool false) (by kernel_rfl) (by kernel_rfl) (by kernel_rfl) ⟨by rw [HE.out]; simp, HW.out⟩)
  subst c_bn
  by_cases c_bl : bl = bl2
  case neg =>
    have hd : ((bl : Int) == bl2) = false := beq_eq_false_iff_ne.2 (by omega)
    have HE := hide_ (decide_eq_false c_bl)
    have HNE := hide_ c_bl
    clear c_bl
    refine wpList_stop 7 ?_
    intro L HL
    simp only [List.take_succ_cons, List.take_zero, List.cons_append, List.nil_append]
    go_wp2_with fail
    all_goals first
      | (exact absurd ‹bl = bl2› HNE.out)
      | (rw [← HL.out]; exact pure_end (by assumption) 4 (by rfl) (.bool false) (by kernel_rfl) (by kernel_rfl) (by kernel_rfl) ⟨by rw [HE.out]; simp, HW.out⟩)
  subst c_bl
  refine wpList_stop 7 ?_
  intro L HL
  simp only [List.take_succ_cons, List.take_zero, List.cons_append, List.nil_append]
  go_wp2_with fail
  rw [← HL.out]
  simp only [List.drop_succ_cons, List.drop_zero]
  clear HL
  by_cases c_ok : ok = ok2
  case neg =>
    have hd : (ok == ok2) = false := beq_eq_false_iff_ne.2 c_ok
    have HE := hide_ (decide_eq_false c_ok)
    have HNE := hide_ c_ok
    clear c_ok
    refine wpList_stop 7 ?_
    intro L HL
    simp only [List.take_succ_cons, List.take_zero, List.cons_append, List.nil_append]
    go_wp2_with fail
    all_goals first
      | (exact absurd ‹ok = ok2› HNE.out)
      | (rw [← HL.out]; exact pure_end (by assumption) 4 (by rfl) (.bool false) (by kernel_rfl) (by kernel_rfl) (by kernel_rfl) ⟨by rw [HE.out]; simp, HW.out⟩)
  subst c_ok
  refine wpList_stop 7 ?_
  intro L HL
  simp only [List.take_succ_cons, List.take_zero, List.cons_append, List.nil_append]
  go_wp2_with fail
  rw [← HL.out]
  simp only [List.drop_succ_cons, List.drop_zero]
  clear HL
  by_cases c_ac : ac = ac2
  case neg =>
    have hd : ((ac : Int) == ac2) = false := beq_eq_false_iff_ne.2 (by omega)
    have HE := hide_ (decide_eq_false c_ac)
    have HNE := hide_ c_ac
    clear c_ac
    refine wpList_stop 7 ?_
    intro L HL
    simp only [List.take_succ_cons, List.take_zero, List.cons_append, List.nil_append]
    go_wp2_with fail
    all_goals first
      | (exact absurd ‹ac = ac2› HNE.out)
      | (rw [← HL.out]; exact pure_end (by assumption) 4 (by rfl) (.bool false) (by kernel_rfl) (by kernel_rfl) (by kernel_rfl) ⟨by rw [HE.out]; simp, HW.out⟩)
  subst c_ac
  by_cases c_an : an = an2
  case neg =>
    have hd : ((an : Int) == an2) = false := beq_eq_false_iff_ne.2 (by omega)
    have HE := hide_ (decide_eq_false c_an)
    have HNE := hide_ c_an
    clear c_an
    refine wpList_stop 7 ?_
    intro L HL
    simp only [List.take_succ_cons, List.take_zero, List.cons_append, List.nil_append]
    go_wp2_with fail
    all_goals first
      | (exact absurd ‹an = an2› HNE.out)
      | (rw [← HL.out]; exact pure_end (by assumption) 4 (by rfl) (.bool false) (by kernel_rfl) (by kernel_rfl) (by kernel_rfl) ⟨by rw [HE.out]; simp, HW.out⟩)
  subst c_an
  by_cases c_al : al = al2
  case neg =>
    have hd : ((al : Int) == al2) = false := beq_eq_false_iff_ne.2 (by omega)
    have HE := hide_ (decide_eq_false c_al)
    have HNE := hide_ c_al
    clear c_al
    refine wpList_stop 7 ?_
    intro L HL
    simp only [List.take_succ_cons, List.take_zero, List.cons_append, List.nil_append]
    go_wp2_with fail
    all_goals first
      | (exact absurd ‹al = al2› HNE.out)
      | (rw [← HL.out]; exact pure_end (by assumption) 4 (by rfl) (.bool false) (by kernel_rfl) (by kernel_rfl) (by kernel_rfl) ⟨by rw [HE.out]; simp, HW.out⟩)
  subst c_al
  refine wpList_stop 7 ?_
  intro L HL
  simp only [List.take_succ_cons, List.take_zero, List.cons_append, List.nil_append]
  go_wp2_with fail
  rw [← HL.out]
  simp only [List.drop_succ_cons, List.drop_zero]
  clear HL
  have HRR := hide_ (HR.out _ HW.out)
  refine wpList_stop 7 ?_
  intro L HL
  simp only [List.take_succ_cons, List.take_zero, List.cons_append, List.nil_append]
  go_wp2_with fail
  refine HRR.out.mono ?_
  rintro en w1 ⟨rfl, hb1⟩
  have HBC := hide_ (HW.out.trans (hb1.mono HW.out.size))
  have HXC := hide_ (HXX.out.below hb1)
  have HYC := hide_ (HY1.out.below hb1)
  clear hb1 hcx hcy
  have hcx := HXC.out.cell
  have hcy := HYC.out.cell
  go_wp2_with fail
  cases qr with
  | false =>
    rw [← HL.out]
    exact pure_end (by assumption) 4 (by rfl) (.bool false) (by kernel_rfl) (by kernel_rfl) (by kernel_rfl) ⟨by simp, HBC.out⟩
  | true =>
  rw [← HL.out]
  simp only [List.drop_succ_cons, List.drop_zero]
  clear HL
  by_cases c_nc : nc = nc2
  case neg =>
    have hd : ((nc : Int) == nc2) = false := beq_eq_false_iff_ne.2 (by omega)
    have HE := hide_ (decide_eq_false c_nc)
    have HNE := hide_ c_nc
    clear c_nc
    refine wpList_stop 7 ?_
    intro L HL
    simp only [List.take_succ_cons, List.take_zero, List.cons_append, List.nil_append]
    go_wp2_with fail
    all_goals first
      | (exact absurd ‹nc = nc2› HNE.out)
      | (rw [← HL.out]; exact pure_end (by assumption) 4 (by rfl) (.bool false) (by kernel_rfl) (by kernel_rfl) (by kernel_rfl) ⟨by rw [HE.out]; simp, HBC.out⟩)
  subst c_nc
  by_cases c_nn : nn = nn2
  case neg =>
    have hd : ((nn : Int) == nn2) = false := beq_eq_false_iff_ne.2 (by omega)
    have HE := hide_ (decide_eq_false c_nn)
    have HNE := hide_ c_nn
    clear c_nn
    refine wpList_stop 7 ?_
    intro L HL
    simp only [List.take_succ_cons, List.take_zero, List.cons_append, List.nil_append]
    go_wp2_with fail
    all_goals first
      | (exact absurd ‹nn = nn2› HNE.out)
      | (rw [← HL.out]; exact pure_end (by assumption) 4 (by rfl) (.bool false) (by kernel_rfl) (by kernel_rfl) (by kernel_rfl) ⟨by rw [HE.out]; simp, HBC.out⟩)
  subst c_nn
  by_cases c_nl : nl = nl2
  case neg =>
    have hd : ((nl : Int) == nl2) = false := beq_eq_false_iff_ne.2 (by omega)
    have HE := hide_ (decide_eq_false c_nl)
    have HNE := hide_ c_nl
    clear c_nl
    refine wpList_stop 7 ?_
    intro L HL
    simp only [List.take_succ_cons, List.take_zero, List.cons_append, List.nil_append]
    go_wp2_with fail
    all_goals first
      | (exact absurd ‹nl = nl2› HNE.out)
      | (rw [← HL.out]; exact pure_end (by assumption) 4 (by rfl) (.bool false) (by kernel_rfl) (by kernel_rfl) (by kernel_rfl) ⟨by rw [HE.out]; simp, HBC.out⟩)
  subst c_nl
  refine wpList_stop 7 ?_
  intro L HL
  simp only [List.take_succ_cons, List.take_zero, List.cons_append, List.nil_append]
  go_wp2_with fail
  rw [← HL.out]
  simp only [List.drop_succ_cons, List.drop_zero]
  clear HL
  by_cases c_mx : mx = mx2
  case neg =>
    have hd : ((mx : Int) == mx2) = false := beq_eq_false_iff_ne.2 (by omega)
    have HE := hide_ (decide_eq_false c_mx)
    have HNE := hide_ c_mx
    clear c_mx
    refine wpList_stop 7 ?_
    intro L HL
    simp only [List.take_succ_cons, List.take_zero, List.cons_append, List.nil_append]
    go_wp2_with fail
    all_goals first
      | (exact absurd ‹mx = mx2› HNE.out)
      | (rw [← HL.out]; exact pure_end (by assumption) 4 (by rfl) (.bool false) (by kernel_rfl) (by kernel_rfl) (by kernel_rfl) ⟨by rw [HE.out]; simp, HBC.out⟩)
  subst c_mx
  go_wp2
  go_ret
  exact ⟨by simp, HBC.out⟩

set_option maxRecDepth 100000 in
set_option maxHeartbeats 12800000 in
theorem refSameMsg_any (x y : MsgM) (B : Nat) (w : World) (hx : MsgM.good w B x) (hy : MsgM.good w B y) (hB : B ≤ w.heap.size) : Calls Try.prog 8 #[x.v, y.v] w fun e w' => e = .returned (.bool (decide (x.p = y.p))) ∧ Below w.heap.size w w' := by
  have HR := hide_ (fun (u : World) (hb : Below w.heap.size w u) => refSameG_any x.r y.r w.heap.size u (reg_stable.below (reg_stable.more hx.2 hB) hb) (reg_stable.below (reg_stable.more hy.2 hB) hb) hb.size)
  have HP := hide_ (msgP_eq x.p y.p)
  rw [HP.out]
  clear HP
  unfold MsgM.p
  simp only
  obtain ⟨qr, hr⟩ : ∃ q, decide (x.r.p = y.r.p) = q := ⟨_, rfl⟩
  simp only [hr] at HR ⊢
  clear hr hx hy
  obtain ⟨VX, hVX⟩ : ∃ V, x.v = V := ⟨_, rfl⟩
  obtain ⟨VY, hVY⟩ : ∃ V, y.v = V := ⟨_, rfl⟩
  rw [hVX, hVY]
  obtain ⟨ki, fr, tt, ke, co, bc, bn, bl, ok, ac, an, al, ⟨rk, inc, st, ⟨vA, vc, vl⟩, ⟨dA, dc, dl⟩, ⟨oA, oc, ol⟩, la, ⟨mA, mc, ml⟩⟩, nc, nn, nl, mx⟩ := x
  obtain ⟨ki2, fr2, tt2, ke2, co2, bc2, bn2, bl2, ok2, ac2, an2, al2, ⟨rk2, inc2, st2, ⟨vA2, vc2, vl2⟩, ⟨dA2, dc2, dl2⟩, ⟨oA2, oc2, ol2⟩, la2, ⟨mA2, mc2, ml2⟩⟩, nc2, nn2, nl2, mx2⟩ := y
  have HVX := hide_ (show VX = .agg #[.int .u8 ki, .int .u8 fr, .int .u8 tt, .int .u8 ke, .int .u64 co, .int .u64 bc, .int .u8 bn, .int .u32 bl, .bool ok, .int .u64 ac, .int .u8 an, .int .u32 al, .int .u8 rk, .int .u64 inc, .int .i64 st, .slice vA vl.length vc, .slice dA dl.length dc, .slice oA ol.length oc, .int .u64 la, .slice mA ml.length mc, .int .u64 nc, .int .u8 nn, .int .u32 nl, .int .u64 mx] from hVX.symm)
  have HVY := hide_ (show VY = .agg #[.int .u8 ki2, .int .u8 fr2, .int .u8 tt2, .int .u8 ke2, .int .u64 co2, .int .u64 bc2, .int .u8 bn2, .int .u32 bl2, .bool ok2, .int .u64 ac2, .int .u8 an2, .int .u32 al2, .int .u8 rk2, .int .u64 inc2, .int .i64 st2, .slice vA2 vl2.length vc2, .slice dA2 dl2.length dc2, .slice oA2 ol2.length oc2, .int .u64 la2, .slice mA2 ml2.length mc2, .int .u64 nc2, .int .u8 nn2, .int .u32 nl2, .int .u64 mx2] from hVY.symm)
  clear hVX hVY
  simp only [RegM.v, Sl.v] at HR ⊢
  go_enter Try.func8, Try.ntmps8
  go_upto_region 0 with fail
  refine wp_region_lit ?_
  refine box_msg rfl _ rfl rfl HVX.out ?_
  intro W0 HX0 HB0 HZ0
  simp only [Act.put, List.setIfInBounds_toArray, List.set_cons_zero, List.set_cons_succ]
  refine box_msg rfl _ rfl rfl HVY.out ?_
  intro W1 HY1 HB1 HZ1
  simp only [Act.put, List.setIfInBounds_toArray, List.set_cons_zero, List.set_cons_succ]
  have HXX := hide_ (HX0.out.below HB1.out)
  have HW := hide_ (HB0.out.trans (HB1.out.mono (by have := HZ0.out; omega)))
  have hcx := HXX.out.cell
  have hcy := HY1.out.cell
  go_upto_region 1 with fail
  refine wp_region_lit ?_
  try simp only [List.append_eq, List.cons_append, List.nil_append]
  by_cases c_ki : ki = ki2
  case neg =>
    have hd : ((ki : Int) == ki2) = false := beq_eq_false_iff_ne.2 (by omega)
    have HE := hide_ (decide_eq_false c_ki)
    have HNE := hide_ c_ki
    clear c_ki
    refine wpList_stop 5 ?_
    intro L HL
    simp only [List.take_succ_cons, List.take_zero, List.cons_append, List.nil_append]
    go_wp2_with fail
    all_goals first
      | (exact absurd ‹ki = ki2› HNE.out)
      | (rw [← HL.out]; exact pure_end2 (by assumption) 4 (by rfl) (.bool false) (by kernel_rfl) (by kernel_rfl) (by kernel_rfl) ⟨by rw [HE.out]; simp, HW.out⟩)
  subst c_ki
  refine wpList_stop 5 ?_
  intro L HL
  simp only [List.take_succ_cons, List.take_zero, List.cons_append, List.nil_append]
  go_wp2_with fail
  rw [← HL.out]
  simp only [List.drop_succ_cons, List.drop_zero]
  clear HL
  by_cases c_fr : fr = fr2
  case neg =>
    have hd : ((fr : Int) == fr2) = false := beq_eq_false_iff_ne.2 (by omega)
    have HE := hide_ (decide_eq_false c_fr)
    have HNE := hide_ c_fr
    clear c_fr
    refine wpList_stop 7 ?_
    intro L HL
    simp only [List.take_succ_cons, List.take_zero, List.cons_append, List.nil_append]
    go_wp2_with fail
    all_goals first
      | (exact absurd ‹fr = fr2› HNE.out)
      | (rw [← HL.out]; exact pure_end2 (by assumption) 4 (by rfl) (.bool false) (by kernel_rfl) (by kernel_rfl) (by kernel_rfl) ⟨by rw [HE.out]; simp, HW.out⟩)
  subst c_fr
  refine wpList_stop 7 ?_
  intro L HL
  simp only [List.take_succ_cons, List.take_zero, List.cons_append, List.nil_append]
  go_wp2_with fail
  rw [← HL.out]
  simp only [List.drop_succ_cons, List.drop_zero]
  clear HL
  by_cases c_tt : tt = tt2
  case neg =>
    have hd : ((tt : Int) == tt2) = false := beq_eq_false_iff_ne.2 (by omega)
    have HE := hide_ (decide_eq_false c_tt)
    have HNE := hide_ c_tt
    clear c_tt
    refine wpList_stop 7 ?_
    intro L HL
    simp only [List.take_succ_cons, List.take_zero, List.cons_append, List.nil_append]
    go_wp2_with fail
    all_goals first
      | (exact absurd ‹tt = tt2› HNE.out)
      | (rw [← HL.out]; exact pure_end2 (by assumption) 4 (by rfl) (.bool false) (by kernel_rfl) (by kernel_rfl) (by kernel_rfl) ⟨by rw [HE.out]; simp, HW.out⟩)
  subst c_tt
  refine wpList_stop 7 ?_
  intro L HL
  simp only [List.take_succ_cons, List.take_zero, List.cons_append, List.nil_append]
  go_wp2_with fail
  rw [← HL.out]
  simp only [List.drop_succ_cons, List.drop_zero]
  clear HL
  by_cases c_ke : ke = ke2
  case neg =>
    have hd : ((ke : Int) == ke2) = false := beq_eq_false_iff_ne.2 (by omega)
    have HE := hide_ (decide_eq_false c_ke)
    have HNE := hide_ c_ke
    clear c_ke
    refine wpList_stop 7 ?_
    intro L HL
    simp only [List.take_succ_cons, List.take_zero, List.cons_append, List.nil_append]
    go_wp2_with fail
    all_goals first
      | (exact absurd ‹ke = ke2› HNE.out)
      | (rw [← HL.out]; exact pure_end2 (by assumption) 4 (by rfl) (.bool false) (by kernel_rfl) (by kernel_rfl) (by kernel_rfl) ⟨by rw [HE.out]; simp, HW.out⟩)
  subst c_ke
  refine wpList_stop 7 ?_
  intro L HL
  simp only [List.take_succ_cons, List.take_zero, List.cons_append, List.nil_append]
  go_wp2_with fail
  rw [← HL.out]
  simp only [List.drop_succ_cons, List.drop_zero]
  clear HL
  by_cases c_co : co = co2
  case neg =>
    have hd : ((co : Int) == co2) = false := beq_eq_false_iff_ne.2 (by omega)
    have HE := hide_ (decide_eq_false c_co)
    have HNE := hide_ c_co
    clear c_co
    refine wpList_stop 7 ?_
    intro L HL
    simp only [List.take_succ_cons, List.take_zero, List.cons_append, List.nil_append]
    go_wp2_with fail
    all_goals first
      | (exact absurd ‹co = co2› HNE.out)
      | (rw [← HL.out]; exact pure_end2 (by assumption) 4 (by rfl) (.bool false) (by kernel_rfl) (by kernel_rfl) (by kernel_rfl) ⟨by rw [HE.out]; simp, HW.out⟩)
  subst c_co
  refine wpList_stop 7 ?_
  intro L HL
  simp only [List.take_succ_cons, List.take_zero, List.cons_append, List.nil_append]
  go_wp2_with fail
  rw [← HL.out]
  simp only [List.drop_succ_cons, List.drop_zero]
  clear HL
  by_cases c_ok : ok = ok2
  case neg =>
    have hd : (ok == ok2) = false := beq_eq_false_iff_ne.2 c_ok
    have HE := hide_ (decide_eq_false c_ok)
    have HNE := hide_ c_ok
    clear c_ok
    refine wpList_stop 7 ?_
    intro L HL
    simp only [List.take_succ_cons, List.take_zero, List.cons_append, List.nil_append]
    go_wp2_with fail
    all_goals first
      | (exact absurd ‹ok = ok2› HNE.out)
      | (rw [← HL.out]; exact pure_end2 (by assumption) 4 (by rfl) (.bool false) (by kernel_rfl) (by kernel_rfl) (by kernel_rfl) ⟨by rw [HE.out]; simp, HW.out⟩)
  subst c_ok
  refine wpList_stop 7 ?_
  intro L HL
  simp only [List.take_succ_cons, List.take_zero, List.cons_append, List.nil_append]
  go_wp2_with fail
  rw [← HL.out]
  simp only [List.drop_succ_cons, List.drop_zero]
  clear HL
  by_cases c_mx : mx = mx2
  case neg =>
    have hd : ((mx : Int) == mx2) = false := beq_eq_false_iff_ne.2 (by omega)
    have HE := hide_ (decide_eq_false c_mx)
    have HNE := hide_ c_mx
    clear c_mx
    refine wpList_stop 7 ?_
    intro L HL
    simp only [List.take_succ_cons, List.take_zero, List.cons_append, List.nil_append]
    go_wp2_with fail
    all_goals first
      | (exact absurd ‹mx = mx2› HNE.out)
      | (rw [← HL.out]; exact pure_end2 (by assumption) 4 (by rfl) (.bool false) (by kernel_rfl) (by kernel_rfl) (by kernel_rfl) ⟨by rw [HE.out]; simp, HW.out⟩)
  subst c_mx
  refine wpList_stop 7 ?_
  intro L HL
  simp only [List.take_succ_cons, List.take_zero, List.cons_append, List.nil_append]
  go_wp2_with fail
  rw [← HL.out]
  simp only [List.drop_succ_cons, List.drop_zero]
  clear HL
  go_upto_region 2 with fail
  refine wp_region_lit ?_
  try simp only [List.append_eq, List.cons_append, List.nil_append]
  by_cases c_bc : bc = bc2
  case neg =>
    have hd : ((bc : Int) == bc2) = false := beq_eq_false_iff_ne.2 (by omega)
    have HE := hide_ (decide_eq_false c_bc)
    have HNE := hide_ c_bc
    clear c_bc
    refine wpList_stop 8 ?_
    intro L HL
    simp only [List.take_succ_cons, List.take_zero, List.cons_append, List.nil_append]
    go_wp2_with fail
    all_goals first
      | (exact absurd ‹bc = bc2› HNE.out)
      | (rw [← HL.out]; exact pure_end (by assumption) 4 (by rfl) (.bool false) (by kernel_rfl) (by kernel_rfl) (by kernel_rfl) ⟨by rw [HE.out]; simp, HW.out⟩)
  subst c_bc
  by_cases c_bn : bn = bn2
  case neg =>
    have hd : ((bn : Int) == bn2) = false := beq_eq_false_iff_ne.2 (by omega)
    have HE := hide_ (decide_eq_false c_bn)
    have HNE := hide_ c_bn
    clear c_bn
    refine wpList_stop 8 ?_
    intro L HL
    simp only [List.take_succ_cons, List.take_zero, List.cons_append, List.nil_append]
    go_wp2_with fail
    all_goals first
      | (exact absurd ‹bn = bn2› HNE.out)
      | (rw [← HL.out]; exact pure_end (by assumption) 4 (by rfl) (.bool false) (by kernel_rfl) (by kernel_rfl) (by kernel_rfl) ⟨by rw [HE.out]; simp, HW.out⟩)
  subst c_bn
  by_cases c_bl : bl = bl2
  case neg =>
    have hd : ((bl : Int) == bl2) = false := beq_eq_false_iff_ne.2 (by omega)
    have HE := hide_ (decide_eq_false c_bl)
    have HNE := hide_ c_bl
    clear c_bl
    refine wpList_stop 8 ?_
    intro L HL
    simp only [List.take_succ_cons, List.take_zero, List.cons_append, List.nil_append]
    go_wp2_with fail
    all_goals first
      | (exact absurd ‹bl = bl2› HNE.out)
      | (rw [← HL.out]; exact pure_end (by assumption) 4 (by rfl) (.bool false) (by kernel_rfl) (by kernel_rfl) (by kernel_rfl) ⟨by rw [HE.out]; simp, HW.out⟩)
  subst c_bl
  refine wpList_stop 8 ?_
  intro L HL
  simp only [List.take_succ_cons, List.take_zero, List.cons_append, List.nil_append]
  go_wp2_with fail
  rw [← HL.out]
  simp only [List.drop_succ_cons, List.drop_zero]
  clear HL
  by_cases c_ac : ac = ac2
  case neg =>
    have hd : ((ac : Int) == ac2) = false := beq_eq_false_iff_ne.2 (by omega)
    have HE := hide_ (decide_eq_false c_ac)
    have HNE := hide_ c_ac
    clear c_ac
    refine wpList_stop 7 ?_
    intro L HL
    simp only [List.take_succ_cons, List.take_zero, List.cons_append, List.nil_append]
    go_wp2_with fail
    all_goals first
      | (exact absurd ‹ac = ac2› HNE.out)
      | (rw [← HL.out]; exact pure_end (by assumption) 4 (by rfl) (.bool false) (by kernel_rfl) (by kernel_rfl) (by kernel_rfl) ⟨by rw [HE.out]; simp, HW.out⟩)
  subst c_ac
  by_cases c_an : an = an2
  case neg =>
    have hd : ((an : Int) == an2) = false := beq_eq_false_iff_ne.2 (by omega)
    have HE := hide_ (decide_eq_false c_an)
    have HNE := hide_ c_an
    clear c_an
    refine wpList_stop 7 ?_
    intro L HL
    simp only [List.take_succ_cons, List.take_zero, List.cons_append, List.nil_append]
    go_wp2_with fail
    all_goals first
      | (exact absurd ‹an = an2› HNE.out)
      | (rw [← HL.out]; exact pure_end (by assumption) 4 (by rfl) (.bool false) (by kernel_rfl) (by kernel_rfl) (by kernel_rfl) ⟨by rw [HE.out]; simp, HW.out⟩)
  subst c_an
  by_cases c_al : al = al2
  case neg =>
    have hd : ((al : Int) == al2) = false := beq_eq_false_iff_ne.2 (by omega)
    have HE := hide_ (decide_eq_false c_al)
    have HNE := hide_ c_al
    clear c_al
    refine wpList_stop 7 ?_
    intro L HL
    simp only [List.take_succ_cons, List.take_zero, List.cons_append, List.nil_append]
    go_wp2_with fail
    all_goals first
      | (exact absurd ‹al = al2› HNE.out)
      | (rw [← HL.out]; exact pure_end (by assumption) 4 (by rfl) (.bool false) (by kernel_rfl) (by kernel_rfl) (by kernel_rfl) ⟨by rw [HE.out]; simp, HW.out⟩)
  subst c_al
  refine wpList_stop 7 ?_
  intro L HL
  simp only [List.take_succ_cons, List.take_zero, List.cons_append, List.nil_append]
  go_wp2_with fail
  rw [← HL.out]
  simp only [List.drop_succ_cons, List.drop_zero]
  clear HL
  by_cases c_nc : nc = nc2
  case neg =>
    have hd : ((nc : Int) == nc2) = false := beq_eq_false_iff_ne.2 (by omega)
    have HE := hide_ (decide_eq_false c_nc)
    have HNE := hide_ c_nc
    clear c_nc
    refine wpList_stop 7 ?_
    intro L HL
    simp only [List.take_succ_cons, List.take_zero, List.cons_append, List.nil_append]
    go_wp2_with fail
    all_goals first
      | (exact absurd ‹nc = nc2› HNE.out)
      | (rw [← HL.out]; exact pure_end (by assumption) 4 (by rfl) (.bool false) (by kernel_rfl) (by kernel_rfl) (by kernel_rfl) ⟨by rw [HE.out]; simp, HW.out⟩)
  subst c_nc
  by_cases c_nn : nn = nn2
  case neg =>
    have hd : ((nn : Int) == nn2) = false := beq_eq_false_iff_ne.2 (by omega)
    have HE := hide_ (decide_eq_false c_nn)
    have HNE := hide_ c_nn
    clear c_nn
    refine wpList_stop 7 ?_
    intro L HL
    simp only [List.take_succ_cons, List.take_zero, List.cons_append, List.nil_append]
    go_wp2_with fail
    all_goals first
      | (exact absurd ‹nn = nn2› HNE.out)
      | (rw [← HL.out]; exact pure_end (by assumption) 4 (by rfl) (.bool false) (by kernel_rfl) (by kernel_rfl) (by kernel_rfl) ⟨by rw [HE.out]; simp, HW.out⟩)
  subst c_nn
  by_cases c_nl : nl = nl2
  case neg =>
    have hd : ((nl : Int) == nl2) = false := beq_eq_false_iff_ne.2 (by omega)
    have HE := hide_ (decide_eq_false c_nl)
    have HNE := hide_ c_nl
    clear c_nl
    refine wpList_stop 7 ?_
    intro L HL
    simp only [List.take_succ_cons, List.take_zero, List.cons_append, List.nil_append]
    go_wp2_with fail
    all_goals first
      | (exact absurd ‹nl = nl2› HNE.out)
      | (rw [← HL.out]; exact pure_end (by assumption) 4 (by rfl) (.bool false) (by kernel_rfl) (by kernel_rfl) (by kernel_rfl) ⟨by rw [HE.out]; simp, HW.out⟩)
  subst c_nl
  refine wpList_stop 7 ?_
  intro L HL
  simp only [List.take_succ_cons, List.take_zero, List.cons_append, List.nil_append]
  go_wp2_with fail
  rw [← HL.out]
  simp only [List.drop_succ_cons, List.drop_zero]
  clear HL
  have HRR := hide_ (HR.out _ HW.out)
  refine wpList_stop 7 ?_
  intro L HL
  simp only [List.take_succ_cons, List.take_zero, List.cons_append, List.nil_append]
  go_wp2_with fail
  refine HRR.out.mono ?_
  rintro en w1 ⟨rfl, hb1⟩
  have HBC := hide_ (HW.out.trans (hb1.mono HW.out.size))
  have HXC := hide_ (HXX.out.below hb1)
  have HYC := hide_ (HY1.out.below hb1)
  clear hb1 hcx hcy
  have hcx := HXC.out.cell
  have hcy := HYC.out.cell
  go_wp2_with fail
  cases qr with
  | false =>
    rw [← HL.out]
    exact pure_end (by assumption) 4 (by rfl) (.bool false) (by kernel_rfl) (by kernel_rfl) (by kernel_rfl) ⟨by simp, HBC.out⟩
  | true =>
  rw [← HL.out]
  simp only [List.drop_succ_cons, List.drop_zero]
  clear HL
  go_wp2
  go_ret
  exact ⟨by simp, HBC.out⟩

end Go.Proofs.Ytkgnondlcaklnaa
