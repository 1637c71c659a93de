/-
  Texts of this claim put together: Sam14.
-/
import Derived.Test.YtecbpmnolgkllaaGreatJ46
import Derived.Test.YtecbpmnolgkllaaGreatJ37
import Derived.Test.YtecbpmnolgkllaaGreatShort
import Derived.Deep.RegionHeld
/-
  Slots the same, what is known the same: contracts of record's Same and of the document's.
-/
namespace Go.Proofs.YtecbpmnolgkllaaGreat
open Go.RowKit

theorem slotP_eq (a b : SlotP) : decide (a = b) = (decide (a.ha = b.ha) && (decide (a.pc = b.pc) && (decide (a.pn = b.pn) && (decide (a.pl = b.pl) && (decide (a.ac = b.ac) && (decide (a.an = b.an) && (decide (a.al = b.al) && (decide (a.r = b.r))))))))) := by
  obtain ⟨a0, a1, a2, a3, a4, a5, a6, a7⟩ := a
  obtain ⟨b0, b1, b2, b3, b4, b5, b6, b7⟩ := b
  rw [Bool.eq_iff_iff]
  simp only [decide_eq_true_eq, Bool.and_eq_true, SlotP.mk.injEq]

set_option maxRecDepth 100000 in
set_option maxHeartbeats 12800000 in
theorem sameSlot_any (x y : SlotM) (B : Nat) (w : World) (hx : SlotM.good w B x) (hy : SlotM.good w B y) (hB : B ≤ w.heap.size) : Calls Tryz.prog 61 #[x.v, y.v] w fun e w' => e = .returned (.bool (decide (x.p = y.p))) ∧ Below w.heap.size w w' := by
  have Hr := hide_ (fun (u : World) (hb : Below w.heap.size w u) => sameReg_any x.r y.r w.heap.size u (reg_stable.below (reg_stable.more hx.2 hB) hb) (reg_stable.below (reg_stable.more hy.2 hB) hb) hb.size)
  have HP := hide_ (slotP_eq x.p y.p)
  rw [HP.out]
  clear HP
  unfold SlotM.p
  simp only
  obtain ⟨qr, hr⟩ : ∃ q, decide (x.r.p = y.r.p) = q := ⟨_, rfl⟩
  simp only [hr] at Hr ⊢
  clear hr hx hy
  obtain ⟨VX, hVX⟩ : ∃ V, x.v = V := ⟨_, rfl⟩
  obtain ⟨VY, hVY⟩ : ∃ V, y.v = V := ⟨_, rfl⟩
  rw [hVX, hVY]
  obtain ⟨ha, pc, pn, pl, ac, an, al, ⟨rk, inc, st, ⟨vA, vc, vl⟩, ⟨dA, dc, dl⟩, ⟨oA, oc, ol⟩, la, ⟨mA, mc, ml⟩⟩⟩ := x
  obtain ⟨ha2, pc2, pn2, pl2, ac2, an2, al2, ⟨rk2, inc2, st2, ⟨vA2, vc2, vl2⟩, ⟨dA2, dc2, dl2⟩, ⟨oA2, oc2, ol2⟩, la2, ⟨mA2, mc2, ml2⟩⟩⟩ := y
  have HVX := hide_ (show VX = .agg #[.bool ha, .int .u64 pc, .int .u8 pn, .int .u32 pl, .int .u64 ac, .int .u8 an, .int .u32 al, .int .u8 rk, .int .u64 inc, .int .i64 st, .slice vA vl.length vc, .slice dA dl.length dc, .slice oA ol.length oc, .int .u64 la, .slice mA ml.length mc] from hVX.symm)
  have HVY := hide_ (show VY = .agg #[.bool ha2, .int .u64 pc2, .int .u8 pn2, .int .u32 pl2, .int .u64 ac2, .int .u8 an2, .int .u32 al2, .int .u8 rk2, .int .u64 inc2, .int .i64 st2, .slice vA2 vl2.length vc2, .slice dA2 dl2.length dc2, .slice oA2 ol2.length oc2, .int .u64 la2, .slice mA2 ml2.length mc2] from hVY.symm)
  clear hVX hVY
  simp only [RegM.v, Sl.v] at Hr ⊢
  go_enter Tryz.func61, Tryz.ntmps61
  go_upto_region 0 with fail
  refine wp_region_lit ?_
  refine box_whole 65 rfl _ rfl rfl HVX.out ?_
  intro W0 HX0 HB0 HZ0
  simp only [Act.put, List.setIfInBounds_toArray, List.set_cons_zero, List.set_cons_succ]
  refine box_whole 65 rfl _ rfl rfl HVY.out ?_
  intro W1 HY1 HB1 HZ1
  simp only [Act.put, List.setIfInBounds_toArray, List.set_cons_zero, List.set_cons_succ]
  have HX1 := hide_ (HX0.out.below HB1.out)
  have HW1 := hide_ (HB0.out.trans (HB1.out.mono (by have := HZ0.out; omega)))
  clear HX0 HB0 HB1
  have hcx := HX1.out.cell
  have hcy := HY1.out.cell
  go_upto_region 1 with fail
  refine wp_region_lit ?_
  try simp only [List.append_eq, List.cons_append, List.nil_append]
  by_cases c_ha : ha = ha2
  case neg =>
    have hd : (ha == ha2) = false := beq_eq_false_iff_ne.2 c_ha
    have HE := hide_ (decide_eq_false c_ha)
    have HNE := hide_ c_ha
    clear c_ha
    refine wpList_stop 5 ?_
    intro L HL
    simp only [List.take_succ_cons, List.take_zero, List.cons_append, List.nil_append]
    go_wp2_with fail
    all_goals first
      | (exact absurd ‹ha = ha2› HNE.out)
      | (rw [← HL.out]; exact pure_end (by assumption) 4 (by rfl) (.bool false) (by kernel_rfl) (by kernel_rfl) (by kernel_rfl) ⟨by rw [HE.out]; simp, HW1.out⟩)
  subst c_ha
  refine wpList_stop 5 ?_
  intro L HL
  simp only [List.take_succ_cons, List.take_zero, List.cons_append, List.nil_append]
  go_wp2_with fail
  rw [← HL.out]
  simp only [List.drop_succ_cons, List.drop_zero]
  clear HL
  by_cases c_pc : pc = pc2
  case neg =>
    have hd : ((pc : Int) == pc2) = false := beq_eq_false_iff_ne.2 (by omega)
    have HE := hide_ (decide_eq_false c_pc)
    have HNE := hide_ c_pc
    clear c_pc
    refine wpList_stop 7 ?_
    intro L HL
    simp only [List.take_succ_cons, List.take_zero, List.cons_append, List.nil_append]
    go_wp2_with fail
    all_goals first
      | (exact absurd ‹pc = pc2› HNE.out)
      | (rw [← HL.out]; exact pure_end (by assumption) 4 (by rfl) (.bool false) (by kernel_rfl) (by kernel_rfl) (by kernel_rfl) ⟨by rw [HE.out]; simp, HW1.out⟩)
  subst c_pc
  by_cases c_pn : pn = pn2
  case neg =>
    have hd : ((pn : Int) == pn2) = false := beq_eq_false_iff_ne.2 (by omega)
    have HE := hide_ (decide_eq_false c_pn)
    have HNE := hide_ c_pn
    clear c_pn
    refine wpList_stop 7 ?_
    intro L HL
    simp only [List.take_succ_cons, List.take_zero, List.cons_append, List.nil_append]
    go_wp2_with fail
    all_goals first
      | (exact absurd ‹pn = pn2› HNE.out)
      | (rw [← HL.out]; exact pure_end (by assumption) 4 (by rfl) (.bool false) (by kernel_rfl) (by kernel_rfl) (by kernel_rfl) ⟨by rw [HE.out]; simp, HW1.out⟩)
  subst c_pn
  by_cases c_pl : pl = pl2
  case neg =>
    have hd : ((pl : Int) == pl2) = false := beq_eq_false_iff_ne.2 (by omega)
    have HE := hide_ (decide_eq_false c_pl)
    have HNE := hide_ c_pl
    clear c_pl
    refine wpList_stop 7 ?_
    intro L HL
    simp only [List.take_succ_cons, List.take_zero, List.cons_append, List.nil_append]
    go_wp2_with fail
    all_goals first
      | (exact absurd ‹pl = pl2› HNE.out)
      | (rw [← HL.out]; exact pure_end (by assumption) 4 (by rfl) (.bool false) (by kernel_rfl) (by kernel_rfl) (by kernel_rfl) ⟨by rw [HE.out]; simp, HW1.out⟩)
  subst c_pl
  refine wpList_stop 7 ?_
  intro L HL
  simp only [List.take_succ_cons, List.take_zero, List.cons_append, List.nil_append]
  go_wp2_with fail
  rw [← HL.out]
  simp only [List.drop_succ_cons, List.drop_zero]
  clear HL
  by_cases c_ac : ac = ac2
  case neg =>
    have hd : ((ac : Int) == ac2) = false := beq_eq_false_iff_ne.2 (by omega)
    have HE := hide_ (decide_eq_false c_ac)
    have HNE := hide_ c_ac
    clear c_ac
    refine wpList_stop 7 ?_
    intro L HL
    simp only [List.take_succ_cons, List.take_zero, List.cons_append, List.nil_append]
    go_wp2_with fail
    all_goals first
      | (exact absurd ‹ac = ac2› HNE.out)
      | (rw [← HL.out]; exact pure_end (by assumption) 4 (by rfl) (.bool false) (by kernel_rfl) (by kernel_rfl) (by kernel_rfl) ⟨by rw [HE.out]; simp, HW1.out⟩)
  subst c_ac
  by_cases c_an : an = an2
  case neg =>
    have hd : ((an : Int) == an2) = false := beq_eq_false_iff_ne.2 (by omega)
    have HE := hide_ (decide_eq_false c_an)
    have HNE := hide_ c_an
    clear c_an
    refine wpList_stop 7 ?_
    intro L HL
    simp only [List.take_succ_cons, List.take_zero, List.cons_append, List.nil_append]
    go_wp2_with fail
    all_goals first
      | (exact absurd ‹an = an2› HNE.out)
      | (rw [← HL.out]; exact pure_end (by assumption) 4 (by rfl) (.bool false) (by kernel_rfl) (by kernel_rfl) (by kernel_rfl) ⟨by rw [HE.out]; simp, HW1.out⟩)
  subst c_an
  by_cases c_al : al = al2
  case neg =>
    have hd : ((al : Int) == al2) = false := beq_eq_false_iff_ne.2 (by omega)
    have HE := hide_ (decide_eq_false c_al)
    have HNE := hide_ c_al
    clear c_al
    refine wpList_stop 7 ?_
    intro L HL
    simp only [List.take_succ_cons, List.take_zero, List.cons_append, List.nil_append]
    go_wp2_with fail
    all_goals first
      | (exact absurd ‹al = al2› HNE.out)
      | (rw [← HL.out]; exact pure_end (by assumption) 4 (by rfl) (.bool false) (by kernel_rfl) (by kernel_rfl) (by kernel_rfl) ⟨by rw [HE.out]; simp, HW1.out⟩)
  subst c_al
  refine wpList_stop 7 ?_
  intro L HL
  simp only [List.take_succ_cons, List.take_zero, List.cons_append, List.nil_append]
  go_wp2_with fail
  rw [← HL.out]
  simp only [List.drop_succ_cons, List.drop_zero]
  clear HL
  have HRR := hide_ (Hr.out _ HW1.out)
  refine wpList_stop 7 ?_
  intro L HL
  simp only [List.take_succ_cons, List.take_zero, List.cons_append, List.nil_append]
  go_wp2_with fail
  refine HRR.out.mono ?_
  rintro en w2 ⟨rfl, hb1⟩
  have HW2 := hide_ (HW1.out.trans (hb1.mono HW1.out.size))
  have HX2 := hide_ (HX1.out.below hb1)
  have HY2 := hide_ (HY1.out.below hb1)
  clear hb1 hcx hcy HRR
  have hcx := HX2.out.cell
  have hcy := HY2.out.cell
  go_wp2_with fail
  cases qr with
  | false =>
    rw [← HL.out]
    exact pure_end (by assumption) 4 (by rfl) (.bool false) (by kernel_rfl) (by kernel_rfl) (by kernel_rfl) ⟨by simp, HW2.out⟩
  | true =>
  rw [← HL.out]
  simp only [List.drop_succ_cons, List.drop_zero]
  clear HL
  go_wp2
  go_ret
  exact ⟨by simp, HW2.out⟩

set_option maxRecDepth 100000 in
set_option maxHeartbeats 12800000 in
theorem refSameSlot_any (x y : SlotM) (B : Nat) (w : World) (hx : SlotM.good w B x) (hy : SlotM.good w B y) (hB : B ≤ w.heap.size) : Calls Tryz.prog 60 #[x.v, y.v] w fun e w' => e = .returned (.bool (decide (x.p = y.p))) ∧ Below w.heap.size w w' := by
  have Hr := hide_ (fun (u : World) (hb : Below w.heap.size w u) => refSameG_any x.r y.r w.heap.size u (reg_stable.below (reg_stable.more hx.2 hB) hb) (reg_stable.below (reg_stable.more hy.2 hB) hb) hb.size)
  have HP := hide_ (slotP_eq x.p y.p)
  rw [HP.out]
  clear HP
  unfold SlotM.p
  simp only
  obtain ⟨qr, hr⟩ : ∃ q, decide (x.r.p = y.r.p) = q := ⟨_, rfl⟩
  simp only [hr] at Hr ⊢
  clear hr hx hy
  obtain ⟨VX, hVX⟩ : ∃ V, x.v = V := ⟨_, rfl⟩
  obtain ⟨VY, hVY⟩ : ∃ V, y.v = V := ⟨_, rfl⟩
  rw [hVX, hVY]
  obtain ⟨ha, pc, pn, pl, ac, an, al, ⟨rk, inc, st, ⟨vA, vc, vl⟩, ⟨dA, dc, dl⟩, ⟨oA, oc, ol⟩, la, ⟨mA, mc, ml⟩⟩⟩ := x
  obtain ⟨ha2, pc2, pn2, pl2, ac2, an2, al2, ⟨rk2, inc2, st2, ⟨vA2, vc2, vl2⟩, ⟨dA2, dc2, dl2⟩, ⟨oA2, oc2, ol2⟩, la2, ⟨mA2, mc2, ml2⟩⟩⟩ := y
  have HVX := hide_ (show VX = .agg #[.bool ha, .int .u64 pc, .int .u8 pn, .int .u32 pl, .int .u64 ac, .int .u8 an, .int .u32 al, .int .u8 rk, .int .u64 inc, .int .i64 st, .slice vA vl.length vc, .slice dA dl.length dc, .slice oA ol.length oc, .int .u64 la, .slice mA ml.length mc] from hVX.symm)
  have HVY := hide_ (show VY = .agg #[.bool ha2, .int .u64 pc2, .int .u8 pn2, .int .u32 pl2, .int .u64 ac2, .int .u8 an2, .int .u32 al2, .int .u8 rk2, .int .u64 inc2, .int .i64 st2, .slice vA2 vl2.length vc2, .slice dA2 dl2.length dc2, .slice oA2 ol2.length oc2, .int .u64 la2, .slice mA2 ml2.length mc2] from hVY.symm)
  clear hVX hVY
  simp only [RegM.v, Sl.v] at Hr ⊢
  go_enter Tryz.func60, Tryz.ntmps60
  go_upto_region 0 with fail
  refine wp_region_lit ?_
  refine box_whole 65 rfl _ rfl rfl HVX.out ?_
  intro W0 HX0 HB0 HZ0
  simp only [Act.put, List.setIfInBounds_toArray, List.set_cons_zero, List.set_cons_succ]
  refine box_whole 65 rfl _ rfl rfl HVY.out ?_
  intro W1 HY1 HB1 HZ1
  simp only [Act.put, List.setIfInBounds_toArray, List.set_cons_zero, List.set_cons_succ]
  have HX1 := hide_ (HX0.out.below HB1.out)
  have HW1 := hide_ (HB0.out.trans (HB1.out.mono (by have := HZ0.out; omega)))
  clear HX0 HB0 HB1
  have hcx := HX1.out.cell
  have hcy := HY1.out.cell
  go_upto_region 1 with fail
  refine wp_region_lit ?_
  try simp only [List.append_eq, List.cons_append, List.nil_append]
  by_cases c_ha : ha = ha2
  case neg =>
    have hd : (ha == ha2) = false := beq_eq_false_iff_ne.2 c_ha
    have HE := hide_ (decide_eq_false c_ha)
    have HNE := hide_ c_ha
    clear c_ha
    refine wpList_stop 5 ?_
    intro L HL
    simp only [List.take_succ_cons, List.take_zero, List.cons_append, List.nil_append]
    go_wp2_with fail
    all_goals first
      | (exact absurd ‹ha = ha2› HNE.out)
      | (rw [← HL.out]; exact pure_end (by assumption) 4 (by rfl) (.bool false) (by kernel_rfl) (by kernel_rfl) (by kernel_rfl) ⟨by rw [HE.out]; simp, HW1.out⟩)
  subst c_ha
  refine wpList_stop 5 ?_
  intro L HL
  simp only [List.take_succ_cons, List.take_zero, List.cons_append, List.nil_append]
  go_wp2_with fail
  rw [← HL.out]
  simp only [List.drop_succ_cons, List.drop_zero]
  clear HL
  by_cases c_pc : pc = pc2
  case neg =>
    have hd : ((pc : Int) == pc2) = false := beq_eq_false_iff_ne.2 (by omega)
    have HE := hide_ (decide_eq_false c_pc)
    have HNE := hide_ c_pc
    clear c_pc
    refine wpList_stop 7 ?_
    intro L HL
    simp only [List.take_succ_cons, List.take_zero, List.cons_append, List.nil_append]
    go_wp2_with fail
    all_goals first
      | (exact absurd ‹pc = pc2› HNE.out)
      | (rw [← HL.out]; exact pure_end (by assumption) 4 (by rfl) (.bool false) (by kernel_rfl) (by kernel_rfl) (by kernel_rfl) ⟨by rw [HE.out]; simp, HW1.out⟩)
  subst c_pc
  by_cases c_pn : pn = pn2
  case neg =>
    have hd : ((pn : Int) == pn2) = false := beq_eq_false_iff_ne.2 (by omega)
    have HE := hide_ (decide_eq_false c_pn)
    have HNE := hide_ c_pn
    clear c_pn
    refine wpList_stop 7 ?_
    intro L HL
    simp only [List.take_succ_cons, List.take_zero, List.cons_append, List.nil_append]
    go_wp2_with fail
    all_goals first
      | (exact absurd ‹pn = pn2› HNE.out)
      | (rw [← HL.out]; exact pure_end (by assumption) 4 (by rfl) (.bool false) (by kernel_rfl) (by kernel_rfl) (by kernel_rfl) ⟨by rw [HE.out]; simp, HW1.out⟩)
  subst c_pn
  by_cases c_pl : pl = pl2
  case neg =>
    have hd : ((pl : Int) == pl2) = false := beq_eq_false_iff_ne.2 (by omega)
    have HE := hide_ (decide_eq_false c_pl)
    have HNE := hide_ c_pl
    clear c_pl
    refine wpList_stop 7 ?_
    intro L HL
    simp only [List.take_succ_cons, List.take_zero, List.cons_append, List.nil_append]
    go_wp2_with fail
    all_goals first
      | (exact absurd ‹pl = pl2› HNE.out)
      | (rw [← HL.out]; exact pure_end (by assumption) 4 (by rfl) (.bool false) (by kernel_rfl) (by kernel_rfl) (by kernel_rfl) ⟨by rw [HE.out]; simp, HW1.out⟩)
  subst c_pl
  refine wpList_stop 7 ?_
  intro L HL
  simp only [List.take_succ_cons, List.take_zero, List.cons_append, List.nil_append]
  go_wp2_with fail
  rw [← HL.out]
  simp only [List.drop_succ_cons, List.drop_zero]
  clear HL
  by_cases c_ac : ac = ac2
  case neg =>
    have hd : ((ac : Int) == ac2) = false := beq_eq_false_iff_ne.2 (by omega)
    have HE := hide_ (decide_eq_false c_ac)
    have HNE := hide_ c_ac
    clear c_ac
    refine wpList_stop 7 ?_
    intro L HL
    simp only [List.take_succ_cons, List.take_zero, List.cons_append, List.nil_append]
    go_wp2_with fail
    all_goals first
      | (exact absurd ‹ac = ac2› HNE.out)
      | (rw [← HL.out]; exact pure_end (by assumption) 4 (by rfl) (.bool false) (by kernel_rfl) (by kernel_rfl) (by kernel_rfl) ⟨by rw [HE.out]; simp, HW1.out⟩)
  subst c_ac
  by_cases c_an : an = an2
  case neg =>
    have hd : ((an : Int) == an2) = false := beq_eq_false_iff_ne.2 (by omega)
    have HE := hide_ (decide_eq_false c_an)
    have HNE := hide_ c_an
    clear c_an
    refine wpList_stop 7 ?_
    intro L HL
    simp only [List.take_succ_cons, List.take_zero, List.cons_append, List.nil_append]
    go_wp2_with fail
    all_goals first
      | (exact absurd ‹an = an2› HNE.out)
      | (rw [← HL.out]; exact pure_end (by assumption) 4 (by rfl) (.bool false) (by kernel_rfl) (by kernel_rfl) (by kernel_rfl) ⟨by rw [HE.out]; simp, HW1.out⟩)
  subst c_an
  by_cases c_al : al = al2
  case neg =>
    have hd : ((al : Int) == al2) = false := beq_eq_false_iff_ne.2 (by omega)
    have HE := hide_ (decide_eq_false c_al)
    have HNE := hide_ c_al
    clear c_al
    refine wpList_stop 7 ?_
    intro L HL
    simp only [List.take_succ_cons, List.take_zero, List.cons_append, List.nil_append]
    go_wp2_with fail
    all_goals first
      | (exact absurd ‹al = al2› HNE.out)
      | (rw [← HL.out]; exact pure_end (by assumption) 4 (by rfl) (.bool false) (by kernel_rfl) (by kernel_rfl) (by kernel_rfl) ⟨by rw [HE.out]; simp, HW1.out⟩)
  subst c_al
  refine wpList_stop 7 ?_
  intro L HL
  simp only [List.take_succ_cons, List.take_zero, List.cons_append, List.nil_append]
  go_wp2_with fail
  rw [← HL.out]
  simp only [List.drop_succ_cons, List.drop_zero]
  clear HL
  have HRR := hide_ (Hr.out _ HW1.out)
  refine wpList_stop 7 ?_
  intro L HL
  simp only [List.take_succ_cons, List.take_zero, List.cons_append, List.nil_append]
  go_wp2_with fail
  refine HRR.out.mono ?_
  rintro en w2 ⟨rfl, hb1⟩
  have HW2 := hide_ (HW1.out.trans (hb1.mono HW1.out.size))
  have HX2 := hide_ (HX1.out.below hb1)
  have HY2 := hide_ (HY1.out.below hb1)
  clear hb1 hcx hcy HRR
  have hcx := HX2.out.cell
  have hcy := HY2.out.cell
  go_wp2_with fail
  cases qr with
  | false =>
    rw [← HL.out]
    exact pure_end (by assumption) 4 (by rfl) (.bool false) (by kernel_rfl) (by kernel_rfl) (by kernel_rfl) ⟨by simp, HW2.out⟩
  | true =>
  rw [← HL.out]
  simp only [List.drop_succ_cons, List.drop_zero]
  clear HL
  go_wp2
  go_ret
  exact ⟨by simp, HW2.out⟩

/-- is the same known? -/
def slotsB (a b : StaP) (k : Nat) : Bool := (List.range k).all fun i => decide (a.f i = b.f i)
def sameSt (a b : StaP) : Bool := slotsB a b 16 && (decide (a.fe = b.fe) && (decide (a.li = b.li) && decide (a.cf = b.cf)))
theorem slotsB_no {a b : StaP} {i k : Nat} (hi : i < k) (h : decide (a.f i = b.f i) = false) : slotsB a b k = false := by
  unfold slotsB
  rw [← Bool.not_eq_true, List.all_eq_true]
  intro hh
  have := hh i (List.mem_range.2 hi)
  rw [h] at this
  cases this
theorem slotsB_yes {a b : StaP} {k : Nat} (h : ∀ i, i < k → decide (a.f i = b.f i) = true) : slotsB a b k = true := by
  unfold slotsB
  rw [List.all_eq_true]
  exact fun i hi => h i (List.mem_range.1 hi)

set_option maxRecDepth 100000 in
set_option maxHeartbeats 6400000 in
theorem sameState_any (x y : StaM) (B : Nat) (w : World) (hx : StaM.good w B x) (hy : StaM.good w B y) (hB : B ≤ w.heap.size) : Calls Tryz.prog 25 #[x.v, y.v] w fun e w' => e = .returned (.bool (sameSt x.p y.p)) ∧ Below w.heap.size w w' := by
  have HXG := hide_ (fun (u : World) (hb : Below w.heap.size w u) => (hx.more hB).below hb)
  have HYG := hide_ (fun (u : World) (hb : Below w.heap.size w u) => (hy.more hB).below hb)
  have HVX := hide_ (show x.v = .agg x.box from rfl)
  have HVY := hide_ (show y.v = .agg y.box from rfl)
  obtain ⟨VX, hVX⟩ : ∃ V, x.v = V := ⟨_, rfl⟩
  obtain ⟨VY, hVY⟩ : ∃ V, y.v = V := ⟨_, rfl⟩
  rw [hVX] at HVX ⊢
  rw [hVY] at HVY ⊢
  clear hVX hVY hx hy
  go_enter Tryz.func25, Tryz.ntmps25
  go_upto_region 0 with fail
  refine wp_region_lit ?_
  refine box_whole 68 (by rfl) _ (by rfl) (by rfl) HVX.out ?_
  intro W0 HX0 HB0 HZ0
  simp only [Act.put, List.setIfInBounds_toArray, List.set_cons_zero, List.set_cons_succ]
  refine box_whole 68 (by rfl) _ (by rfl) (by rfl) HVY.out ?_
  intro W1 HY1 HB1 HZ1
  simp only [Act.put, List.setIfInBounds_toArray, List.set_cons_zero, List.set_cons_succ]
  have HX1 := hide_ (HX0.out.below HB1.out)
  have HW1 := hide_ (HB0.out.trans (HB1.out.mono HB0.out.size))
  obtain ⟨gx, hgx⟩ : ∃ g, w.heap.size = g := ⟨_, rfl⟩
  obtain ⟨gy, hgy⟩ : ∃ g, W0.heap.size = g := ⟨_, rfl⟩
  rw [hgx] at HX1 ⊢
  rw [hgy] at HY1 ⊢
  clear HX0 HB0 HB1 HZ0 HZ1 HVX HVY hgx hgy
  go_upto_region 2 with fail
  go_loopw [5, 6] (fun _ i wr => ∃ k : Nat, k ≤ 16 ∧ i = .int .i64 k ∧ Hid (∀ j, j < k → decide (x.p.f j = y.p.f j) = true) ∧ Hid (BoxAt wr gx x.box 68) ∧ Hid (BoxAt wr gy y.box 68) ∧ Hid (Below w.heap.size w wr)) (fun _ i _ => 16 - (intOf i).toNat)
  case atStart => exact ⟨0, Nat.zero_le _, rfl, hide_ fun j hj => absurd hj (by omega), HX1, HY1, HW1⟩
  case round =>
    obtain ⟨k, hk, rfl, HJ, HX, HY, HB⟩ := hrel
    have hzx : gx < wr.heap.size := HX.out.lt
    have hzy : gy < wr.heap.size := HY.out.lt
    by_cases hlt : k < 16
    case neg =>
      have hk16 : 16 = k := by omega
      subst hk16
      have HSB := hide_ (slotsB_yes HJ.out)
      have HCC := hide_ (fun (u : World) (h : Below w.heap.size w u) => cfSame_any x.cf y.cf w.heap.size u (HXG.out u h).cf (HYG.out u h).cf h.size)
      have HGX := hide_ x.cf_get
      have HGY := hide_ y.cf_get
      obtain ⟨qc, hqc⟩ : ∃ q, decide (x.cf.p = y.cf.p) = q := ⟨_, rfl⟩
      have HQ := hide_ (show sameSt x.p y.p = (decide (x.fe = y.fe) && (decide (x.li = y.li) && qc)) from by unfold sameSt; rw [HSB.out, Bool.true_and, ← hqc]; rfl)
      simp only [hqc] at HCC
      clear hqc
      obtain ⟨VCx, hVCx⟩ : ∃ V, x.cf.v = V := ⟨_, rfl⟩
      have HVCx := hide_ (show VCx = .agg x.cf.cs.toArray from hVCx.symm)
      simp only [hVCx] at HCC
      clear hVCx
      obtain ⟨VCy, hVCy⟩ : ∃ V, y.cf.v = V := ⟨_, rfl⟩
      have HVCy := hide_ (show VCy = .agg y.cf.cs.toArray from hVCy.symm)
      simp only [hVCy] at HCC
      clear hVCy
      have rx0 := (HX.out.cell 240).trans x.cell_fe
      have rx1 := (HX.out.cell 241).trans x.cell_li
      have ry0 := (HY.out.cell 240).trans y.cell_fe
      have ry1 := (HY.out.cell 241).trans y.cell_li
      obtain ⟨fx, hfx⟩ : ∃ f, x.fe = f := ⟨_, rfl⟩
      obtain ⟨fy, hfy⟩ : ∃ f, y.fe = f := ⟨_, rfl⟩
      obtain ⟨lx, hlx⟩ : ∃ f, x.li = f := ⟨_, rfl⟩
      obtain ⟨ly, hly⟩ : ∃ f, y.li = f := ⟨_, rfl⟩
      rw [hfx] at rx0 HQ
      rw [hfy] at ry0 HQ
      rw [hlx] at rx1 HQ
      rw [hly] at ry1 HQ
      clear hfx hfy hlx hly
      by_cases cfx : fx = fy
      case neg =>
        have hd : ((fx : Int) == (fy : Int)) = false := beq_eq_false_iff_ne.2 (by omega)
        have HD := hide_ (decide_eq_false cfx)
        clear cfx
        go_wp2
        go_ret
        exact ⟨by rw [HQ.out, HD.out]; simp, HB.out⟩
      subst cfx
      by_cases clx : lx = ly
      case neg =>
        have hd : ((lx : Int) == (ly : Int)) = false := beq_eq_false_iff_ne.2 (by omega)
        have HD := hide_ (decide_eq_false clx)
        clear clx
        go_wp2
        go_ret
        exact ⟨by rw [HQ.out, HD.out]; simp, HB.out⟩
      subst clx
      go_wp2_with (first | (refine load_part 52 (by rfl) _ (by rfl) conf_size conf_row HX.out (by rfl) HGX.out (by rfl) ?_; rw [← HVCx.out]) | (refine load_part 52 (by rfl) _ (by rfl) conf_size conf_row HY.out (by rfl) HGY.out (by rfl) ?_; rw [← HVCy.out]))
      refine (HCC.out _ HB.out).mono ?_
      rintro en w2 ⟨rfl, hb2⟩
      have HB2 := hide_ (HB.out.trans (hb2.mono HB.out.size))
      clear hb2 rx0 rx1 ry0 ry1 hzx hzy
      go_wp2
      go_ret
      exact ⟨by rw [HQ.out]; simp, HB2.out⟩
    have HCC := hide_ (fun (u : World) (h : Below w.heap.size w u) => sameSlot_any (x.f k) (y.f k) w.heap.size u ((HXG.out u h).sl k hlt).1 ((HYG.out u h).sl k hlt).1 h.size)
    have HGX := hide_ (x.slot_get hlt)
    have HGY := hide_ (y.slot_get hlt)
    obtain ⟨q, hq⟩ : ∃ q, decide ((x.f k).p = (y.f k).p) = q := ⟨_, rfl⟩
    simp only [hq] at HCC
    have HQ := hide_ (show decide (x.p.f k = y.p.f k) = q from hq)
    obtain ⟨VCx, hVCx⟩ : ∃ V, (x.f k).v = V := ⟨_, rfl⟩
    have HVCx := hide_ (show VCx = .agg (x.f k).box from hVCx.symm)
    simp only [hVCx] at HCC
    clear hVCx
    obtain ⟨VCy, hVCy⟩ : ∃ V, (y.f k).v = V := ⟨_, rfl⟩
    have HVCy := hide_ (show VCy = .agg (y.f k).box from hVCy.symm)
    simp only [hVCy] at HCC
    clear hVCy
    have HZX := hide_ (show (x.f k).box.size = 15 from rfl)
    have HZY := hide_ (show (y.f k).box.size = 15 from rfl)
    have HSS := hide_ (fun (u : World) (h : Below wr.heap.size wr u) => (⟨HX.out.below h, HY.out.below h⟩ : BoxAt u gx x.box 68 ∧ BoxAt u gy y.box 68))
    have HD := hide_ (show Below wr.heap.size wr wr.drew from (Below.refl _ _).drew)
    clear hq
    go_upto_region 4 with fail
    refine wp_region_held_drew (S := fun u => BoxAt u gx x.box 68 ∧ BoxAt u gy y.box 68) (by kernel_rfl) (HSS.out _ HD.out) (fun hHeld => ?_)
    refine tkY 0 9 ?v1 rfl ?hy1 (by assumption) ?rest1
    case hy1 => intro w hSw; clear hSw; go_simp <;> with_reducible rfl
    simp only [Act.put, sTI, sT0, sT1]
    refine tkY 1 10 ?v2 rfl ?hy2 (by assumption) ?rest2
    case hy2 => intro w hSw; clear hSw; go_simp <;> with_reducible rfl
    simp only [Act.put, sTI, sT0, sT1]
    refine tkY 2 11 ?v3 rfl ?hy3 (by assumption) ?rest3
    case hy3 => intro w hSw; clear hSw; go_simp <;> with_reducible rfl
    simp only [Act.put, sTI, sT0, sT1]
    refine wpAnyH_take (i := 3) (oi := ⟨some 12, _, _, _, _, _⟩) (v := VCx) rfl (by kernel_rfl) (by kernel_rfl) (by kernel_rfl) (fun _ _ _ h => h) (yl_part 65 (by rfl) _ (by rfl) slot_size slot_row HVCx.out (fun _ h => h.1) HGX.out HZX.out (by rfl)) (by assumption) ?_
    simp only [Act.put, sTI, sT0, sT1]
    refine tkY 4 13 ?v4 rfl ?hy4 (by assumption) ?rest4
    case hy4 => intro w hSw; clear hSw; go_simp <;> with_reducible rfl
    simp only [Act.put, sTI, sT0, sT1]
    refine tkY 5 14 ?v5 rfl ?hy5 (by assumption) ?rest5
    case hy5 => intro w hSw; clear hSw; go_simp <;> with_reducible rfl
    simp only [Act.put, sTI, sT0, sT1]
    refine tkY 6 15 ?v6 rfl ?hy6 (by assumption) ?rest6
    case hy6 => intro w hSw; clear hSw; go_simp <;> with_reducible rfl
    simp only [Act.put, sTI, sT0, sT1]
    refine wpAnyH_take (i := 7) (oi := ⟨some 16, _, _, _, _, _⟩) (v := VCy) rfl (by kernel_rfl) (by kernel_rfl) (by kernel_rfl) (fun _ _ _ h => h) (yl_part 65 (by rfl) _ (by rfl) slot_size slot_row HVCy.out (fun _ h => h.2) HGY.out HZY.out (by rfl)) (by assumption) ?_
    simp only [Act.put, sTI, sT0, sT1]
    refine wpAnyH_ready (rs := [8]) (by kernel_rfl) (by simp) ?_
    refine AllReadyH.cons rfl (fun K hK => ?_) AllReadyH.nil
    go_simp
    go_wp2_with fail
    refine (HCC.out _ (HB.out.trans (HD.out.mono HB.out.size))).mono ?_
    rintro en u1 ⟨rfl, hb1⟩
    have HU1 := hide_ (HD.out.trans (hb1.mono HD.out.size))
    clear hb1
    refine hK.out _ _ (HSS.out _ HU1.out) (fun hHeld => ?_)
    clear hK K
    refine tkY 9 18 (.bool (!q)) rfl ?hy7 (by assumption) ?rest7
    case hy7 => intro w hSw; clear hSw; go_simp <;> with_reducible rfl
    simp only [Act.put, sTI, sT0, sT1]
    refine wpAnyH_done (by kernel_rfl) ?_ _
    clear hHeld
    have HB2 := hide_ (HB.out.trans (HU1.out.mono HB.out.size))
    cases q with
    | false =>
      have HF := hide_ (show sameSt x.p y.p = false from by unfold sameSt; rw [slotsB_no hlt HQ.out]; rfl)
      go_wp2
      go_ret
      exact ⟨by rw [HF.out]; rfl, HB2.out⟩
    | true =>
      go_wp2
      go_roundw
      case rel =>
        refine ⟨k + 1, by omega, by go_num, hide_ fun j hj => ?_, hide_ (HX.out.below HU1.out), hide_ (HY.out.below HU1.out), HB2⟩
        by_cases e : j = k
        · subst e
          exact HQ.out
        · exact HJ.out j (by omega)
      case measure => simp [intOf]; omega

set_option maxRecDepth 100000 in
set_option maxHeartbeats 6400000 in
theorem refSameState_any (x y : StaM) (B : Nat) (w : World) (hx : StaM.good w B x) (hy : StaM.good w B y) (hB : B ≤ w.heap.size) : Calls Tryz.prog 24 #[x.v, y.v] w fun e w' => e = .returned (.bool (sameSt x.p y.p)) ∧ Below w.heap.size w w' := by
  have HXG := hide_ (fun (u : World) (hb : Below w.heap.size w u) => (hx.more hB).below hb)
  have HYG := hide_ (fun (u : World) (hb : Below w.heap.size w u) => (hy.more hB).below hb)
  have HVX := hide_ (show x.v = .agg x.box from rfl)
  have HVY := hide_ (show y.v = .agg y.box from rfl)
  obtain ⟨VX, hVX⟩ : ∃ V, x.v = V := ⟨_, rfl⟩
  obtain ⟨VY, hVY⟩ : ∃ V, y.v = V := ⟨_, rfl⟩
  rw [hVX] at HVX ⊢
  rw [hVY] at HVY ⊢
  clear hVX hVY hx hy
  go_enter Tryz.func24, Tryz.ntmps24
  go_upto_region 0 with fail
  refine wp_region_lit ?_
  refine box_whole 68 (by rfl) _ (by rfl) (by rfl) HVX.out ?_
  intro W0 HX0 HB0 HZ0
  simp only [Act.put, List.setIfInBounds_toArray, List.set_cons_zero, List.set_cons_succ]
  refine box_whole 68 (by rfl) _ (by rfl) (by rfl) HVY.out ?_
  intro W1 HY1 HB1 HZ1
  simp only [Act.put, List.setIfInBounds_toArray, List.set_cons_zero, List.set_cons_succ]
  have HX1 := hide_ (HX0.out.below HB1.out)
  have HW1 := hide_ (HB0.out.trans (HB1.out.mono HB0.out.size))
  obtain ⟨gx, hgx⟩ : ∃ g, w.heap.size = g := ⟨_, rfl⟩
  obtain ⟨gy, hgy⟩ : ∃ g, W0.heap.size = g := ⟨_, rfl⟩
  rw [hgx] at HX1 ⊢
  rw [hgy] at HY1 ⊢
  clear HX0 HB0 HB1 HZ0 HZ1 HVX HVY hgx hgy
  go_upto_region 2 with fail
  go_loopw [5, 6] (fun _ i wr => ∃ k : Nat, k ≤ 16 ∧ i = .int .i64 k ∧ Hid (∀ j, j < k → decide (x.p.f j = y.p.f j) = true) ∧ Hid (BoxAt wr gx x.box 68) ∧ Hid (BoxAt wr gy y.box 68) ∧ Hid (Below w.heap.size w wr)) (fun _ i _ => 16 - (intOf i).toNat)
  case atStart => exact ⟨0, Nat.zero_le _, rfl, hide_ fun j hj => absurd hj (by omega), HX1, HY1, HW1⟩
  case round =>
    obtain ⟨k, hk, rfl, HJ, HX, HY, HB⟩ := hrel
    have hzx : gx < wr.heap.size := HX.out.lt
    have hzy : gy < wr.heap.size := HY.out.lt
    by_cases hlt : k < 16
    case neg =>
      have hk16 : 16 = k := by omega
      subst hk16
      have HSB := hide_ (slotsB_yes HJ.out)
      have HCC := hide_ (fun (u : World) (h : Below w.heap.size w u) => refCfSame_any x.cf y.cf w.heap.size u (HXG.out u h).cf (HYG.out u h).cf h.size)
      have HGX := hide_ x.cf_get
      have HGY := hide_ y.cf_get
      obtain ⟨qc, hqc⟩ : ∃ q, decide (x.cf.p = y.cf.p) = q := ⟨_, rfl⟩
      have HQ := hide_ (show sameSt x.p y.p = (decide (x.fe = y.fe) && (decide (x.li = y.li) && qc)) from by unfold sameSt; rw [HSB.out, Bool.true_and, ← hqc]; rfl)
      simp only [hqc] at HCC
      clear hqc
      obtain ⟨VCx, hVCx⟩ : ∃ V, x.cf.v = V := ⟨_, rfl⟩
      have HVCx := hide_ (show VCx = .agg x.cf.cs.toArray from hVCx.symm)
      simp only [hVCx] at HCC
      clear hVCx
      obtain ⟨VCy, hVCy⟩ : ∃ V, y.cf.v = V := ⟨_, rfl⟩
      have HVCy := hide_ (show VCy = .agg y.cf.cs.toArray from hVCy.symm)
      simp only [hVCy] at HCC
      clear hVCy
      have rx0 := (HX.out.cell 240).trans x.cell_fe
      have rx1 := (HX.out.cell 241).trans x.cell_li
      have ry0 := (HY.out.cell 240).trans y.cell_fe
      have ry1 := (HY.out.cell 241).trans y.cell_li
      obtain ⟨fx, hfx⟩ : ∃ f, x.fe = f := ⟨_, rfl⟩
      obtain ⟨fy, hfy⟩ : ∃ f, y.fe = f := ⟨_, rfl⟩
      obtain ⟨lx, hlx⟩ : ∃ f, x.li = f := ⟨_, rfl⟩
      obtain ⟨ly, hly⟩ : ∃ f, y.li = f := ⟨_, rfl⟩
      rw [hfx] at rx0 HQ
      rw [hfy] at ry0 HQ
      rw [hlx] at rx1 HQ
      rw [hly] at ry1 HQ
      clear hfx hfy hlx hly
      by_cases cfx : fx = fy
      case neg =>
        have hd : ((fx : Int) == (fy : Int)) = false := beq_eq_false_iff_ne.2 (by omega)
        have HD := hide_ (decide_eq_false cfx)
        clear cfx
        go_wp2
        go_ret
        exact ⟨by rw [HQ.out, HD.out]; simp, HB.out⟩
      subst cfx
      by_cases clx : lx = ly
      case neg =>
        have hd : ((lx : Int) == (ly : Int)) = false := beq_eq_false_iff_ne.2 (by omega)
        have HD := hide_ (decide_eq_false clx)
        clear clx
        go_wp2
        go_ret
        exact ⟨by rw [HQ.out, HD.out]; simp, HB.out⟩
      subst clx
      go_wp2_with (first | (refine load_part 52 (by rfl) _ (by rfl) conf_size conf_row HX.out (by rfl) HGX.out (by rfl) ?_; rw [← HVCx.out]) | (refine load_part 52 (by rfl) _ (by rfl) conf_size conf_row HY.out (by rfl) HGY.out (by rfl) ?_; rw [← HVCy.out]))
      refine (HCC.out _ HB.out).mono ?_
      rintro en w2 ⟨rfl, hb2⟩
      have HB2 := hide_ (HB.out.trans (hb2.mono HB.out.size))
      clear hb2 rx0 rx1 ry0 ry1 hzx hzy
      go_wp2
      go_ret
      exact ⟨by rw [HQ.out]; simp, HB2.out⟩
    have HCC := hide_ (fun (u : World) (h : Below w.heap.size w u) => refSameSlot_any (x.f k) (y.f k) w.heap.size u ((HXG.out u h).sl k hlt).1 ((HYG.out u h).sl k hlt).1 h.size)
    have HGX := hide_ (x.slot_get hlt)
    have HGY := hide_ (y.slot_get hlt)
    obtain ⟨q, hq⟩ : ∃ q, decide ((x.f k).p = (y.f k).p) = q := ⟨_, rfl⟩
    simp only [hq] at HCC
    have HQ := hide_ (show decide (x.p.f k = y.p.f k) = q from hq)
    obtain ⟨VCx, hVCx⟩ : ∃ V, (x.f k).v = V := ⟨_, rfl⟩
    have HVCx := hide_ (show VCx = .agg (x.f k).box from hVCx.symm)
    simp only [hVCx] at HCC
    clear hVCx
    obtain ⟨VCy, hVCy⟩ : ∃ V, (y.f k).v = V := ⟨_, rfl⟩
    have HVCy := hide_ (show VCy = .agg (y.f k).box from hVCy.symm)
    simp only [hVCy] at HCC
    clear hVCy
    have HZX := hide_ (show (x.f k).box.size = 15 from rfl)
    have HZY := hide_ (show (y.f k).box.size = 15 from rfl)
    have HSS := hide_ (fun (u : World) (h : Below wr.heap.size wr u) => (⟨HX.out.below h, HY.out.below h⟩ : BoxAt u gx x.box 68 ∧ BoxAt u gy y.box 68))
    have HD := hide_ (show Below wr.heap.size wr wr.drew from (Below.refl _ _).drew)
    clear hq
    go_upto_region 4 with fail
    refine wp_region_held_drew (S := fun u => BoxAt u gx x.box 68 ∧ BoxAt u gy y.box 68) (by kernel_rfl) (HSS.out _ HD.out) (fun hHeld => ?_)
    refine tkY 0 9 ?v1 rfl ?hy1 (by assumption) ?rest1
    case hy1 => intro w hSw; clear hSw; go_simp <;> with_reducible rfl
    simp only [Act.put, sTI, sT0, sT1]
    refine tkY 1 10 ?v2 rfl ?hy2 (by assumption) ?rest2
    case hy2 => intro w hSw; clear hSw; go_simp <;> with_reducible rfl
    simp only [Act.put, sTI, sT0, sT1]
    refine tkY 2 11 ?v3 rfl ?hy3 (by assumption) ?rest3
    case hy3 => intro w hSw; clear hSw; go_simp <;> with_reducible rfl
    simp only [Act.put, sTI, sT0, sT1]
    refine wpAnyH_take (i := 3) (oi := ⟨some 12, _, _, _, _, _⟩) (v := VCx) rfl (by kernel_rfl) (by kernel_rfl) (by kernel_rfl) (fun _ _ _ h => h) (yl_part 65 (by rfl) _ (by rfl) slot_size slot_row HVCx.out (fun _ h => h.1) HGX.out HZX.out (by rfl)) (by assumption) ?_
    simp only [Act.put, sTI, sT0, sT1]
    refine tkY 4 13 ?v4 rfl ?hy4 (by assumption) ?rest4
    case hy4 => intro w hSw; clear hSw; go_simp <;> with_reducible rfl
    simp only [Act.put, sTI, sT0, sT1]
    refine tkY 5 14 ?v5 rfl ?hy5 (by assumption) ?rest5
    case hy5 => intro w hSw; clear hSw; go_simp <;> with_reducible rfl
    simp only [Act.put, sTI, sT0, sT1]
    refine tkY 6 15 ?v6 rfl ?hy6 (by assumption) ?rest6
    case hy6 => intro w hSw; clear hSw; go_simp <;> with_reducible rfl
    simp only [Act.put, sTI, sT0, sT1]
    refine wpAnyH_take (i := 7) (oi := ⟨some 16, _, _, _, _, _⟩) (v := VCy) rfl (by kernel_rfl) (by kernel_rfl) (by kernel_rfl) (fun _ _ _ h => h) (yl_part 65 (by rfl) _ (by rfl) slot_size slot_row HVCy.out (fun _ h => h.2) HGY.out HZY.out (by rfl)) (by assumption) ?_
    simp only [Act.put, sTI, sT0, sT1]
    refine wpAnyH_ready (rs := [8]) (by kernel_rfl) (by simp) ?_
    refine AllReadyH.cons rfl (fun K hK => ?_) AllReadyH.nil
    go_simp
    go_wp2_with fail
    refine (HCC.out _ (HB.out.trans (HD.out.mono HB.out.size))).mono ?_
    rintro en u1 ⟨rfl, hb1⟩
    have HU1 := hide_ (HD.out.trans (hb1.mono HD.out.size))
    clear hb1
    refine hK.out _ _ (HSS.out _ HU1.out) (fun hHeld => ?_)
    clear hK K
    refine tkY 9 18 (.bool (!q)) rfl ?hy7 (by assumption) ?rest7
    case hy7 => intro w hSw; clear hSw; go_simp <;> with_reducible rfl
    simp only [Act.put, sTI, sT0, sT1]
    refine wpAnyH_done (by kernel_rfl) ?_ _
    clear hHeld
    have HB2 := hide_ (HB.out.trans (HU1.out.mono HB.out.size))
    cases q with
    | false =>
      have HF := hide_ (show sameSt x.p y.p = false from by unfold sameSt; rw [slotsB_no hlt HQ.out]; rfl)
      go_wp2
      go_ret
      exact ⟨by rw [HF.out]; rfl, HB2.out⟩
    | true =>
      go_wp2
      go_roundw
      case rel =>
        refine ⟨k + 1, by omega, by go_num, hide_ fun j hj => ?_, hide_ (HX.out.below HU1.out), hide_ (HY.out.below HU1.out), HB2⟩
        by_cases e : j = k
        · subst e
          exact HQ.out
        · exact HJ.out j (by omega)
      case measure => simp [intOf]; omega

end Go.Proofs.YtecbpmnolgkllaaGreat
