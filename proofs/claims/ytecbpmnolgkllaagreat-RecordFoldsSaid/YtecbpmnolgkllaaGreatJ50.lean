/-
  Texts of this claim put together: Fol14b.
-/
import Derived.Test.YtecbpmnolgkllaaGreatJ49
import Derived.Deep.RegionHeld
/-
  What is known behind a record: contract of record's Fold.
-/
namespace Go.Proofs.YtecbpmnolgkllaaGreat
open Go.RowKit

theorem few_eq {x r : RegM} (h : x.p = r.p) (hf : r.few) : x.few := by
  unfold RegM.p at h
  simp only [RegP.mk.injEq] at h
  obtain ⟨_, _, _, e1, e2, e3, _, e4⟩ := h
  refine ⟨⟨by rw [e1]; exact hf.1.1, ?_, by rw [e3]; exact hf.1.2.2.1, by rw [e4]; exact hf.1.2.2.2⟩, fun d hd => ?_⟩
  · have := congrArg List.length e2
    simp only [List.length_map] at this
    rw [this]
    exact hf.1.2.1
  · have hm : d.p ∈ r.dn.l.map DoneM.p := by rw [← e2]; exact List.mem_map_of_mem hd
    obtain ⟨d0, hd0, he⟩ := List.mem_map.1 hm
    have := hf.2 d0 hd0
    have e5 : d0.va.l = d.va.l := by
      unfold DoneM.p at he
      simp only [Prod.mk.injEq] at he
      exact he.2.2.2.2.2
    rw [← e5]
    exact this
theorem few_zero : zeroM.few := by simp [RegM.few, zeroM]
theorem fresh_zero (w : World) (lo : Nat) : Fresh w lo zeroM :=
  ⟨(zeroM_ok w 0).1, ⟨World.ownsRow_nil _ _ _ _, by simp [zeroM]⟩, World.ownsRow_nil _ _ _ _, by simp [zeroM], World.ownsRow_nil _ _ _ _, by simp [zeroM], World.ownsRow_nil _ _ _ _, by simp [zeroM]⟩
/-- a slot in new memory is others' -/
theorem StaM.fresh.setF {w : World} {lo : Nat} {s : StaM} (h : StaM.fresh w lo s) (i : Nat) (x : SlotM) (h1 : x.num) (h2 : Fresh w lo x.r) (h3 : x.r.few) : StaM.fresh w lo (s.setF i x) :=
  ⟨fun j hj => by
    by_cases e : j = i
    · rw [show (s.setF i x).f j = x from if_pos e]
      exact ⟨h1, h2, h3⟩
    · rw [show (s.setF i x).f j = s.f j from if_neg e]
      exact h.sl j hj, h.fe, h.li, h.cf⟩

/-- what Fold leaves -/
def Folded (s : StaM) (q : RecP) (w : World) (e : Ending) (w' : World) : Prop := ∃ s' : StaM, e = .returned s'.v ∧ s'.p = foldP s.p q ∧ StaM.fresh w' w.heap.size s' ∧ Below w.heap.size w w'

set_option maxRecDepth 100000 in
set_option maxHeartbeats 6400000 in
theorem Fold0_any (s : StaM) (m : RecM) (B : Nat) (w : World) (hs : StaM.good w B s) (hm : RecM.tame w B m) (hB : B ≤ w.heap.size) (hy : mayR m.p = false) : Calls Tryz.prog 21 #[s.v, m.v] w (Folded s m.p w) := by
  have HM := hide_ (fun (u : World) (h : Below w.heap.size w u) => mayRec_any m w.heap.size u ((hm.g.more hB).below h) h.size)
  have HCL := hide_ (fun (u : World) (h : Below w.heap.size w u) => cloneSt_any s w.heap.size u ((hs.more hB).below h) h.size)
  rw [hy] at HM
  have HNUM := hide_ hm.g.1
  have HDO := hide_ (fun t : StaP => show foldP t m.p = t from by unfold foldP; rw [if_neg (by rw [hy]; decide)])
  clear hy
  obtain ⟨R, hR⟩ : ∃ R, Folded s m.p w = R := ⟨_, rfl⟩
  rw [hR]
  have HFD := hide_ (fun (e : Ending) (w' : World) (s' : StaM) (h1 : e = .returned s'.v) (h2 : s'.p = foldP s.p m.p) (h3 : StaM.fresh w' w.heap.size s') (h4 : Below w.heap.size w w') => show R e w' from by rw [← hR]; exact ⟨s', h1, h2, h3, h4⟩)
  obtain ⟨mp, hmp⟩ : ∃ x, m.p = x := ⟨_, rfl⟩
  rw [hmp] at HDO HFD
  clear hR hmp
  have HV := hide_ (show s.v = .agg s.box from rfl)
  have HSZ := hide_ s.box_size
  obtain ⟨V, hV⟩ : ∃ V, s.v = V := ⟨_, rfl⟩
  rw [hV] at HV ⊢
  simp only [hV] at HCL
  clear hV
  obtain ⟨V2, hV2⟩ : ∃ V, m.v = V := ⟨_, rfl⟩
  simp only [hV2] at HM ⊢
  obtain ⟨ki, ke, pc, pn, pl, ac, an, al, ⟨rk, inc, st, ⟨vA, vc, vl⟩, ⟨dA, dc, dl⟩, ⟨oA, oc, ol⟩, la, ⟨mA, mc, ml⟩⟩, fe, li, ⟨C, ⟨xA, xc, xl⟩, ⟨yA, yc, yl⟩⟩⟩ := m
  have HV2 := hide_ (show V2 = .agg #[.int .u8 ki, .int .u8 ke, .int .u64 pc, .int .u8 pn, .int .u32 pl, .int .u64 ac, .int .u8 an, .int .u32 al, .int .u8 rk, .int .u64 inc, .int .i64 st, .slice vA vl.length vc, .slice dA dl.length dc, .slice oA ol.length oc, .int .u64 la, .slice mA ml.length mc, .int .u64 fe, .int .u32 li, .int .u64 C, .slice xA xl.length xc, .slice yA yl.length yc] from hV2.symm)
  clear hV2 hs hm
  go_enter Tryz.func21, Tryz.ntmps21
  go_upto_region 0 with fail
  refine wp_region_lit ?_
  refine box_whole 68 (by rfl) _ (by rfl) (by rfl) HV.out ?_
  intro W0 HX0 HB0 HZ0
  simp only [Act.put, List.setIfInBounds_toArray, List.set_cons_zero, List.set_cons_succ]
  refine box_whole 54 (by rfl) _ (by rfl) (by rfl) HV2.out ?_
  intro W1 HR1 HB1 HZ1
  simp only [Act.put, List.setIfInBounds_toArray, List.set_cons_zero, List.set_cons_succ]
  refine alloc_whole 68 (by rfl) (by rfl) sta_zero ?_
  intro W2 HY2 HB2 HZ2
  simp only [Act.put, List.setIfInBounds_toArray, List.set_cons_zero, List.set_cons_succ]
  have hz1 := HZ0.out
  have hz2 := HZ1.out
  have hz3 := HZ2.out
  rw [hz1] at hz2
  rw [hz2] at hz3
  have HX2 := hide_ ((HX0.out.below HB1.out).below HB2.out)
  have HR2 := hide_ (HR1.out.below HB2.out)
  have HW2 := hide_ ((HB0.out.trans (HB1.out.mono HB0.out.size)).trans (HB2.out.mono (HB0.out.trans (HB1.out.mono HB0.out.size)).size))
  obtain ⟨z, hz⟩ : ∃ z, w.heap.size = z := ⟨_, rfl⟩
  obtain ⟨z1, hz1'⟩ : ∃ z, W0.heap.size = z := ⟨_, rfl⟩
  obtain ⟨z2, hz2'⟩ : ∃ z, W1.heap.size = z := ⟨_, rfl⟩
  have HZS := hide_ (show z1 = z + 1 ∧ z2 = z + 2 ∧ W2.heap.size = z + 3 from by omega)
  have HZE := hide_ hz
  rw [hz] at HX2 ⊢
  rw [hz1'] at HR2 ⊢
  rw [hz2'] at HY2 ⊢
  clear HX0 HB0 HZ0 HR1 HB1 HZ1 HB2 HZ2 hz1 hz2 hz3 hz hz1' hz2'
  have hcx := HR2.out.cell
  have hzz : z1 < W2.heap.size := HR2.out.lt
  have hzx : z < W2.heap.size := HX2.out.lt
  go_wp2_with (refine load_whole 68 (by rfl) _ (by rfl) sta_size sta_row HX2.out (by rfl) HSZ.out ?_; rw [← HV.out])
  refine (HCL.out _ HW2.out).mono ?_
  rintro en w3 ⟨y, rfl, hyp, hyf, hb3⟩
  have HYP := hide_ hyp
  have HX3 := hide_ (HX2.out.below hb3)
  have HR3 := hide_ (HR2.out.below hb3)
  have HY3 := hide_ (HY2.out.below hb3)
  have HW3 := hide_ (HW2.out.trans (hb3.mono HW2.out.size))
  have HF3 := hide_ (hyf.less (show z + 3 ≤ W2.heap.size + 2 from by have := HZS.out; omega))
  have HYS := hide_ y.box_size
  have HYO := hide_ y.one
  have HYV := hide_ (show y.v = .agg y.box from rfl)
  obtain ⟨VY, hVY⟩ : ∃ V, y.v = V := ⟨_, rfl⟩
  rw [hVY] at HYV ⊢
  clear hVY hyp hyf hb3 hcx hzz hzx HCL HX2 HR2 HY2
  have hcx := HR3.out.cell
  have hzz : z1 < w3.heap.size := HR3.out.lt
  have hzx : z < w3.heap.size := HX3.out.lt
  go_upto_region 2 with (refine store_whole 68 (by rfl) _ _ (by rfl) sta_size (by rfl) (by rfl) HYV.out HYS.out HYO.out HX3.out HSZ.out ?_; intro W4 HX4 HG4 HZ4)
  have HR4 := hide_ (show BoxAt W4 z1 #[.int .u8 ki, .int .u8 ke, .int .u64 pc, .int .u8 pn, .int .u32 pl, .int .u64 ac, .int .u8 an, .int .u32 al, .int .u8 rk, .int .u64 inc, .int .i64 st, .slice vA vl.length vc, .slice dA dl.length dc, .slice oA ol.length oc, .int .u64 la, .slice mA ml.length mc, .int .u64 fe, .int .u32 li, .int .u64 C, .slice xA xl.length xc, .slice yA yl.length yc] 54 from (HG4.out.block _ HR3.out.lt (fun e => by injection e with e; have := HZS.out; omega)).trans HR3.out)
  have HY4 := hide_ (show BoxAt W4 z2 zeroSt.box 68 from (HG4.out.block _ HY3.out.lt (fun e => by injection e with e; have := HZS.out; omega)).trans HY3.out)
  have HW4 := hide_ (HW3.out.grown HG4.out HW3.out.size (fun q hq => by injection hq with hq; have := HZE.out; omega))
  have HF4 := hide_ (HF3.out.grown HG4.out (fun q hq => by injection hq with hq; omega))
  clear hcx hzz hzx HX3 HR3 HY3 HF3 HYO HYV HSZ
  have hcx := HR4.out.cell
  have hzz : z1 < W4.heap.size := HR4.out.lt
  have hzx : z < W4.heap.size := HX4.out.lt
  go_wp2_with (refine load_whole 54 (by rfl) _ (by rfl) rec_size rec_row HR4.out (by rfl) (by rfl) ?_; rw [← HV2.out])
  refine (HM.out _ HW4.out).mono ?_
  rintro en w5 ⟨rfl, hb5⟩
  have HX5 := hide_ (HX4.out.below hb5)
  have HR5 := hide_ (HR4.out.below hb5)
  have HY5 := hide_ (HY4.out.below hb5)
  have HW5 := hide_ (HW4.out.trans (hb5.mono HW4.out.size))
  have HF5 := hide_ (show StaM.fresh w5 (z + 3) y from HF4.out.grown (row := some z) (grown_below (World.grownBy.refl _ _) hb5) (fun q hq => by injection hq with hq; omega))
  clear hb5 hcx hzz hzx HM HX4 HR4 HY4 HF4
  have hcx := HR5.out.cell
  have hzz : z1 < w5.heap.size := HR5.out.lt
  have hzx : z < w5.heap.size := HX5.out.lt
  have HQS := hide_ (StaM.box_size (y))
  have HQO := hide_ (StaM.one (y))
  have HZB := hide_ zeroSt.box_size
  go_wp2_with (first | (refine load_whole 68 (by rfl) _ (by rfl) sta_size sta_row HX5.out (by rfl) HQS.out ?_) | (refine store_whole 68 (by rfl) _ _ (by rfl) sta_size (by rfl) (by rfl) (cs := StaM.box (y)) (by rfl) HQS.out HQO.out HY5.out HZB.out ?_; intro W8 HX8 HG8 HZ8))
  refine bodyPost_ret (res_whole sta_size sta_row (by rfl) (by rfl) HX8.out HQS.out) rfl ?_
  have hs := HZS.out
  have hze := HZE.out
  refine HFD.out _ _ y rfl (HYP.out.trans (HDO.out s.p).symm) ((HF5.out.grown HG8.out (fun q hq => by injection hq with hq; omega)).less (by omega)) (HW5.out.grown HG8.out HW5.out.size (fun q hq => by injection hq with hq; omega))

set_option maxRecDepth 100000 in
set_option maxHeartbeats 6400000 in
theorem Fold1_any (s : StaM) (m : RecM) (B : Nat) (w : World) (hs : StaM.good w B s) (hm : RecM.tame w B m) (hB : B ≤ w.heap.size) (hk : m.ki = 1) (hy : mayR m.p = true) : Calls Tryz.prog 21 #[s.v, m.v] w (Folded s m.p w) := by
  have HM := hide_ (fun (u : World) (h : Below w.heap.size w u) => mayRec_any m w.heap.size u ((hm.g.more hB).below h) h.size)
  have HCL := hide_ (fun (u : World) (h : Below w.heap.size w u) => cloneSt_any s w.heap.size u ((hs.more hB).below h) h.size)
  rw [hy] at HM
  have HNUM := hide_ hm.g.1
  have HCR := hide_ (fun (u : World) (h : Below w.heap.size w u) => CloneG_any m.r w.heap.size u (reg_stable.below (reg_stable.more hm.g.2.1 hB) h) h.size hm.f.1.1 hm.f.1.2.1 hm.f.1.2.2.1 hm.f.1.2.2.2 hm.f.2)
  have HFEW := hide_ hm.f
  have HDO := hide_ (fun t : StaP => show foldP t m.p = t.setF m.ke (slotOfP m.p) from by unfold foldP; rw [if_pos hy]; unfold doP;  rw [if_pos (show m.p.ki = 1 from hk)]; rfl)
  have hke16 : m.ke < 16 := mayR_key hy (.inl hk)
  clear hy
  obtain ⟨R, hR⟩ : ∃ R, Folded s m.p w = R := ⟨_, rfl⟩
  rw [hR]
  have HFD := hide_ (fun (e : Ending) (w' : World) (s' : StaM) (h1 : e = .returned s'.v) (h2 : s'.p = foldP s.p m.p) (h3 : StaM.fresh w' w.heap.size s') (h4 : Below w.heap.size w w') => show R e w' from by rw [← hR]; exact ⟨s', h1, h2, h3, h4⟩)
  obtain ⟨mp, hmp⟩ : ∃ x, m.p = x := ⟨_, rfl⟩
  rw [hmp] at HDO HFD
  have HSP := hide_ (show slotOfP mp = (slotOf m).p from by rw [← hmp]; rfl)
  clear hR hmp
  have HV := hide_ (show s.v = .agg s.box from rfl)
  have HSZ := hide_ s.box_size
  obtain ⟨V, hV⟩ : ∃ V, s.v = V := ⟨_, rfl⟩
  rw [hV] at HV ⊢
  simp only [hV] at HCL
  clear hV
  obtain ⟨V2, hV2⟩ : ∃ V, m.v = V := ⟨_, rfl⟩
  simp only [hV2] at HM ⊢
  obtain ⟨ki, ke, pc, pn, pl, ac, an, al, ⟨rk, inc, st, ⟨vA, vc, vl⟩, ⟨dA, dc, dl⟩, ⟨oA, oc, ol⟩, la, ⟨mA, mc, ml⟩⟩, fe, li, ⟨C, ⟨xA, xc, xl⟩, ⟨yA, yc, yl⟩⟩⟩ := m
  have HV2 := hide_ (show V2 = .agg #[.int .u8 ki, .int .u8 ke, .int .u64 pc, .int .u8 pn, .int .u32 pl, .int .u64 ac, .int .u8 an, .int .u32 al, .int .u8 rk, .int .u64 inc, .int .i64 st, .slice vA vl.length vc, .slice dA dl.length dc, .slice oA ol.length oc, .int .u64 la, .slice mA ml.length mc, .int .u64 fe, .int .u32 li, .int .u64 C, .slice xA xl.length xc, .slice yA yl.length yc] from hV2.symm)
  clear hV2 hs hm
  simp only at hk
  subst hk
  go_enter Tryz.func21, Tryz.ntmps21
  go_upto_region 0 with fail
  refine wp_region_lit ?_
  refine box_whole 68 (by rfl) _ (by rfl) (by rfl) HV.out ?_
  intro W0 HX0 HB0 HZ0
  simp only [Act.put, List.setIfInBounds_toArray, List.set_cons_zero, List.set_cons_succ]
  refine box_whole 54 (by rfl) _ (by rfl) (by rfl) HV2.out ?_
  intro W1 HR1 HB1 HZ1
  simp only [Act.put, List.setIfInBounds_toArray, List.set_cons_zero, List.set_cons_succ]
  refine alloc_whole 68 (by rfl) (by rfl) sta_zero ?_
  intro W2 HY2 HB2 HZ2
  simp only [Act.put, List.setIfInBounds_toArray, List.set_cons_zero, List.set_cons_succ]
  have hz1 := HZ0.out
  have hz2 := HZ1.out
  have hz3 := HZ2.out
  rw [hz1] at hz2
  rw [hz2] at hz3
  have HX2 := hide_ ((HX0.out.below HB1.out).below HB2.out)
  have HR2 := hide_ (HR1.out.below HB2.out)
  have HW2 := hide_ ((HB0.out.trans (HB1.out.mono HB0.out.size)).trans (HB2.out.mono (HB0.out.trans (HB1.out.mono HB0.out.size)).size))
  obtain ⟨z, hz⟩ : ∃ z, w.heap.size = z := ⟨_, rfl⟩
  obtain ⟨z1, hz1'⟩ : ∃ z, W0.heap.size = z := ⟨_, rfl⟩
  obtain ⟨z2, hz2'⟩ : ∃ z, W1.heap.size = z := ⟨_, rfl⟩
  have HZS := hide_ (show z1 = z + 1 ∧ z2 = z + 2 ∧ W2.heap.size = z + 3 from by omega)
  have HZE := hide_ hz
  rw [hz] at HX2 ⊢
  rw [hz1'] at HR2 ⊢
  rw [hz2'] at HY2 ⊢
  clear HX0 HB0 HZ0 HR1 HB1 HZ1 HB2 HZ2 hz1 hz2 hz3 hz hz1' hz2'
  simp only [RegM.v, Sl.v] at HCR
  have hcx := HR2.out.cell
  have hzz : z1 < W2.heap.size := HR2.out.lt
  have hzx : z < W2.heap.size := HX2.out.lt
  go_wp2_with (refine load_whole 68 (by rfl) _ (by rfl) sta_size sta_row HX2.out (by rfl) HSZ.out ?_; rw [← HV.out])
  refine (HCL.out _ HW2.out).mono ?_
  rintro en w3 ⟨y, rfl, hyp, hyf, hb3⟩
  have HYP := hide_ hyp
  have HX3 := hide_ (HX2.out.below hb3)
  have HR3 := hide_ (HR2.out.below hb3)
  have HY3 := hide_ (HY2.out.below hb3)
  have HW3 := hide_ (HW2.out.trans (hb3.mono HW2.out.size))
  have HF3 := hide_ (hyf.less (show z + 3 ≤ W2.heap.size + 2 from by have := HZS.out; omega))
  have HYS := hide_ y.box_size
  have HYO := hide_ y.one
  have HYV := hide_ (show y.v = .agg y.box from rfl)
  obtain ⟨VY, hVY⟩ : ∃ V, y.v = V := ⟨_, rfl⟩
  rw [hVY] at HYV ⊢
  clear hVY hyp hyf hb3 hcx hzz hzx HCL HX2 HR2 HY2
  have hcx := HR3.out.cell
  have hzz : z1 < w3.heap.size := HR3.out.lt
  have hzx : z < w3.heap.size := HX3.out.lt
  go_upto_region 2 with (refine store_whole 68 (by rfl) _ _ (by rfl) sta_size (by rfl) (by rfl) HYV.out HYS.out HYO.out HX3.out HSZ.out ?_; intro W4 HX4 HG4 HZ4)
  have HR4 := hide_ (show BoxAt W4 z1 #[.int .u8 ((1 : Nat) : Int), .int .u8 ke, .int .u64 pc, .int .u8 pn, .int .u32 pl, .int .u64 ac, .int .u8 an, .int .u32 al, .int .u8 rk, .int .u64 inc, .int .i64 st, .slice vA vl.length vc, .slice dA dl.length dc, .slice oA ol.length oc, .int .u64 la, .slice mA ml.length mc, .int .u64 fe, .int .u32 li, .int .u64 C, .slice xA xl.length xc, .slice yA yl.length yc] 54 from (HG4.out.block _ HR3.out.lt (fun e => by injection e with e; have := HZS.out; omega)).trans HR3.out)
  have HY4 := hide_ (show BoxAt W4 z2 zeroSt.box 68 from (HG4.out.block _ HY3.out.lt (fun e => by injection e with e; have := HZS.out; omega)).trans HY3.out)
  have HW4 := hide_ (HW3.out.grown HG4.out HW3.out.size (fun q hq => by injection hq with hq; have := HZE.out; omega))
  have HF4 := hide_ (HF3.out.grown HG4.out (fun q hq => by injection hq with hq; omega))
  clear hcx hzz hzx HX3 HR3 HY3 HF3 HYO HYV HSZ
  have hcx := HR4.out.cell
  have hzz : z1 < W4.heap.size := HR4.out.lt
  have hzx : z < W4.heap.size := HX4.out.lt
  go_wp2_with (refine load_whole 54 (by rfl) _ (by rfl) rec_size rec_row HR4.out (by rfl) (by rfl) ?_; rw [← HV2.out])
  refine (HM.out _ HW4.out).mono ?_
  rintro en w5 ⟨rfl, hb5⟩
  have HX5 := hide_ (HX4.out.below hb5)
  have HR5 := hide_ (HR4.out.below hb5)
  have HY5 := hide_ (HY4.out.below hb5)
  have HW5 := hide_ (HW4.out.trans (hb5.mono HW4.out.size))
  have HF5 := hide_ (show StaM.fresh w5 (z + 3) y from HF4.out.grown (row := some z) (grown_below (World.grownBy.refl _ _) hb5) (fun q hq => by injection hq with hq; omega))
  clear hb5 hcx hzz hzx HM HX4 HR4 HY4 HF4
  have hcx := HR5.out.cell
  have hzz : z1 < w5.heap.size := HR5.out.lt
  have hzx : z < w5.heap.size := HX5.out.lt
  have HSS := hide_ (fun (u : World) (h : Below w5.heap.size w5 u) => (show ∀ i : Nat, u.cell? ⟨z1, i, none⟩ = (#[.int .u8 ((1 : Nat) : Int), .int .u8 ke, .int .u64 pc, .int .u8 pn, .int .u32 pl, .int .u64 ac, .int .u8 an, .int .u32 al, .int .u8 rk, .int .u64 inc, .int .i64 st, .slice vA vl.length vc, .slice dA dl.length dc, .slice oA ol.length oc, .int .u64 la, .slice mA ml.length mc, .int .u64 fe, .int .u32 li, .int .u64 C, .slice xA xl.length xc, .slice yA yl.length yc] : Array Value)[i]? from (HR5.out.below h).cell))
  have HD := hide_ (show Below w5.heap.size w5 w5.drew from (Below.refl _ _).drew)
  have hk15 : (ke : Int) * 15 = ((ke * 15 : Nat) : Int) := by omega
  have hkeI : (ke : Int) < 16 := by omega
  go_upto_region 6 with fail
  clear hcx
  refine wp_region_held_drew (S := fun u => ∀ i : Nat, u.cell? ⟨z1, i, none⟩ = (#[.int .u8 ((1 : Nat) : Int), .int .u8 ke, .int .u64 pc, .int .u8 pn, .int .u32 pl, .int .u64 ac, .int .u8 an, .int .u32 al, .int .u8 rk, .int .u64 inc, .int .i64 st, .slice vA vl.length vc, .slice dA dl.length dc, .slice oA ol.length oc, .int .u64 la, .slice mA ml.length mc, .int .u64 fe, .int .u32 li, .int .u64 C, .slice xA xl.length xc, .slice yA yl.length yc] : Array Value)[i]?) (by kernel_rfl) (HSS.out _ HD.out) (fun hHeld => ?_)
  refine tkY 0 15 ?v1 rfl ?hy1 (by assumption) ?rest1
  case hy1 => intro w hSw; (try dsimp only at hSw); go_simp <;> with_reducible rfl
  simp only [Act.put, sTI, sT0, sT1]
  refine tkY 1 16 ?v2 rfl ?hy2 (by assumption) ?rest2
  case hy2 => intro w hSw; (try dsimp only at hSw); go_simp <;> with_reducible rfl
  simp only [Act.put, sTI, sT0, sT1]
  refine tkY 2 17 ?v3 rfl ?hy3 (by assumption) ?rest3
  case hy3 => intro w hSw; (try dsimp only at hSw); go_simp <;> with_reducible rfl
  simp only [Act.put, sTI, sT0, sT1]
  refine tkY 3 18 ?v4 rfl ?hy4 (by assumption) ?rest4
  case hy4 => intro w hSw; (try dsimp only at hSw); go_simp <;> with_reducible rfl
  simp only [Act.put, sTI, sT0, sT1]
  refine tkY 4 19 ?v5 rfl ?hy5 (by assumption) ?rest5
  case hy5 => intro w hSw; (try dsimp only at hSw); go_simp <;> with_reducible rfl
  simp only [Act.put, sTI, sT0, sT1]
  refine tkY 5 20 ?v6 rfl ?hy6 (by assumption) ?rest6
  case hy6 => intro w hSw; (try dsimp only at hSw); go_simp <;> with_reducible rfl
  simp only [Act.put, sTI, sT0, sT1]
  refine tkY 6 21 ?v7 rfl ?hy7 (by assumption) ?rest7
  case hy7 => intro w hSw; (try dsimp only at hSw); go_simp <;> with_reducible rfl
  simp only [Act.put, sTI, sT0, sT1]
  refine tkY 7 22 ?v8 rfl ?hy8 (by assumption) ?rest8
  case hy8 => intro w hSw; (try dsimp only at hSw); go_simp <;> with_reducible rfl
  simp only [Act.put, sTI, sT0, sT1]
  refine tkY 10 25 ?v9 rfl ?hy9 (by assumption) ?rest9
  case hy9 => intro w hSw; (try dsimp only at hSw); go_simp <;> with_reducible rfl
  simp only [Act.put, sTI, sT0, sT1]
  refine wpAnyH_ready (rs := [8]) (by kernel_rfl) (by simp) ?_
  refine AllReadyH.cons rfl (fun K hK => ?_) AllReadyH.nil
  go_simp
  go_wp2_with fail
  refine (HCR.out _ (HW5.out.trans (HD.out.mono HW5.out.size))).mono ?_
  rintro en u1 ⟨x, rfl, hxp, hxf, hb6⟩
  have HU1 := hide_ (HD.out.trans (hb6.mono HD.out.size))
  have HXP := hide_ hxp
  have HXF := hide_ (Aside14.less hxf (show z + 3 ≤ w5.drew.heap.size + 2 from by have := HY5.out.lt; have := HZS.out; have := HD.out.size; omega))
  clear hb6 hxp hxf
  refine hK.out _ _ (HSS.out _ HU1.out) (fun hHeld => ?_)
  clear hK K
  obtain ⟨rk', inc', st', ⟨vA', vc', vl'⟩, ⟨dA', dc', dl'⟩, ⟨oA', oc', ol'⟩, la', ⟨mA', mc', ml'⟩⟩ := x
  simp only [RegM.v, Sl.v]
  refine tkY 9 24 (.agg #[.bool true, .int .u64 pc, .int .u8 pn, .int .u32 pl, .int .u64 ac, .int .u8 an, .int .u32 al, .int .u8 rk', .int .u64 inc', .int .i64 st', .slice vA' vl'.length vc', .slice dA' dl'.length dc', .slice oA' ol'.length oc', .int .u64 la', .slice mA' ml'.length mc']) rfl ?hy10 (by assumption) ?rest10
  case hy10 => intro w hSw; kernel_rfl
  simp only [Act.put, sTI, sT0, sT1]
  refine tkY 11 26 ?v11 rfl ?hy11 (by assumption) ?rest11
  case hy11 => intro w hSw; (try dsimp only at hSw); go_simp <;> with_reducible rfl
  simp only [Act.put, sTI, sT0, sT1]
  have HX6 := hide_ (HX5.out.below HU1.out)
  have HR6 := hide_ (HR5.out.below HU1.out)
  have HY6 := hide_ (HY5.out.below HU1.out)
  have HF6 := hide_ (show StaM.fresh u1 (z + 3) y from HF5.out.grown (row := some z) (grown_below (World.grownBy.refl _ _) HU1.out) (fun q hq => by injection hq with hq; omega))
  have HW6 := hide_ (HW5.out.trans (HU1.out.mono HW5.out.size))
  have HSET := hide_ (y.slot_set hke16 (⟨true, pc, pn, pl, ac, an, al, ⟨rk', inc', st', ⟨vA', vc', vl'⟩, ⟨dA', dc', dl'⟩, ⟨oA', oc', ol'⟩, la', ⟨mA', mc', ml'⟩⟩⟩ : SlotM))
  refine wpAnyH_ready (rs := [12]) (by kernel_rfl) (by simp) ?_
  refine AllReadyH.cons rfl (fun K hK => ?_) AllReadyH.nil
  refine step_store_part 65 (by rfl) _ _ (by rfl) slot_size (by rfl) (by rfl) (cells := #[.bool true, .int .u64 pc, .int .u8 pn, .int .u32 pl, .int .u64 ac, .int .u8 an, .int .u32 al, .int .u8 rk', .int .u64 inc', .int .i64 st', .slice vA' vl'.length vc', .slice dA' dl'.length dc', .slice oA' ol'.length oc', .int .u64 la', .slice mA' ml'.length mc']) (by rfl) (by rfl) (by simp [Value.oneCell']) HX6.out (by rw [HYS.out]; omega) ?_ (by rfl)
  intro W7 HX7 HG7 HZ7
  have HR7 := hide_ (show BoxAt W7 z1 #[.int .u8 ((1 : Nat) : Int), .int .u8 ke, .int .u64 pc, .int .u8 pn, .int .u32 pl, .int .u64 ac, .int .u8 an, .int .u32 al, .int .u8 rk, .int .u64 inc, .int .i64 st, .slice vA vl.length vc, .slice dA dl.length dc, .slice oA ol.length oc, .int .u64 la, .slice mA ml.length mc, .int .u64 fe, .int .u32 li, .int .u64 C, .slice xA xl.length xc, .slice yA yl.length yc] 54 from (HG7.out.block _ HR6.out.lt (fun e => by injection e with e; have := HZS.out; omega)).trans HR6.out)
  refine hK.out _ _ HR7.out.cell (fun hHeld => ?_)
  clear hK K
  refine wpAnyH_done (by kernel_rfl) ?_ _
  clear hHeld
  have HX8' := hide_ (show BoxAt W7 z (splice y.box (ke * 15) (SlotM.cs (⟨true, pc, pn, pl, ac, an, al, ⟨rk', inc', st', ⟨vA', vc', vl'⟩, ⟨dA', dc', dl'⟩, ⟨oA', oc', ol'⟩, la', ⟨mA', mc', ml'⟩⟩⟩ : SlotM))) 68 from HX7.out)
  rw [HSET.out] at HX8'
  obtain ⟨s2, hs2⟩ : ∃ s2, y.setF ke (⟨true, pc, pn, pl, ac, an, al, ⟨rk', inc', st', ⟨vA', vc', vl'⟩, ⟨dA', dc', dl'⟩, ⟨oA', oc', ol'⟩, la', ⟨mA', mc', ml'⟩⟩⟩ : SlotM) = s2 := ⟨_, rfl⟩
  rw [hs2] at HX8'
  have HP2 := hide_ (show s2.p = foldP s.p mp from by
    rw [HDO.out, ← HYP.out, HSP.out, ← hs2, setF_p]
    have hp := HXP.out
    unfold slotOf SlotM.p
    simp only
    rw [hp])
  have HF7 := hide_ (show StaM.fresh W7 (z + 3) s2 from by
    rw [← hs2]
    refine (HF6.out.grown HG7.out (fun q hq => by injection hq with hq; omega)).setF ke _ ⟨HNUM.out.2.1, HNUM.out.2.2.1⟩ (HXF.out.other14 HG7.out (by omega)) (few_eq HXP.out HFEW.out))
  have HY7 := hide_ (show BoxAt W7 z2 zeroSt.box 68 from (HG7.out.block _ HY6.out.lt (fun e => by injection e with e; have := HZS.out; omega)).trans HY6.out)
  have HW7 := hide_ (HW6.out.grown HG7.out HW6.out.size (fun q hq => by injection hq with hq; have := HZE.out; omega))
  clear hs2 HSET
  have hzx7 : z < W7.heap.size := HX8'.out.lt
  have HQS := hide_ (StaM.box_size (s2))
  have HQO := hide_ (StaM.one (s2))
  have HZB := hide_ zeroSt.box_size
  go_wp2_with (first | (refine load_whole 68 (by rfl) _ (by rfl) sta_size sta_row HX8'.out (by rfl) HQS.out ?_) | (refine store_whole 68 (by rfl) _ _ (by rfl) sta_size (by rfl) (by rfl) (cs := StaM.box (s2)) (by rfl) HQS.out HQO.out HY7.out HZB.out ?_; intro W8 HX8 HG8 HZ8))
  refine bodyPost_ret (res_whole sta_size sta_row (by rfl) (by rfl) HX8.out HQS.out) rfl ?_
  have hs := HZS.out
  have hze := HZE.out
  refine HFD.out _ _ s2 rfl HP2.out ((HF7.out.grown HG8.out (fun q hq => by injection hq with hq; omega)).less (by omega)) (HW7.out.grown HG8.out HW7.out.size (fun q hq => by injection hq with hq; omega))

set_option maxRecDepth 100000 in
set_option maxHeartbeats 6400000 in
theorem Fold2_any (s : StaM) (m : RecM) (B : Nat) (w : World) (hs : StaM.good w B s) (hm : RecM.tame w B m) (hB : B ≤ w.heap.size) (hk : m.ki = 2) (hy : mayR m.p = true) : Calls Tryz.prog 21 #[s.v, m.v] w (Folded s m.p w) := by
  have HM := hide_ (fun (u : World) (h : Below w.heap.size w u) => mayRec_any m w.heap.size u ((hm.g.more hB).below h) h.size)
  have HCL := hide_ (fun (u : World) (h : Below w.heap.size w u) => cloneSt_any s w.heap.size u ((hs.more hB).below h) h.size)
  rw [hy] at HM
  have HNUM := hide_ hm.g.1
  have HDO := hide_ (fun t : StaP => show foldP t m.p = t.setF m.ke zeroSP from by unfold foldP; rw [if_pos hy]; unfold doP; rw [if_neg (show ¬ m.p.ki = 1 from by show ¬ m.ki = 1; omega)]; rw [if_pos (show m.p.ki = 2 from hk)]; rfl)
  have hke16 : m.ke < 16 := mayR_key hy (.inr hk)
  clear hy
  obtain ⟨R, hR⟩ : ∃ R, Folded s m.p w = R := ⟨_, rfl⟩
  rw [hR]
  have HFD := hide_ (fun (e : Ending) (w' : World) (s' : StaM) (h1 : e = .returned s'.v) (h2 : s'.p = foldP s.p m.p) (h3 : StaM.fresh w' w.heap.size s') (h4 : Below w.heap.size w w') => show R e w' from by rw [← hR]; exact ⟨s', h1, h2, h3, h4⟩)
  obtain ⟨mp, hmp⟩ : ∃ x, m.p = x := ⟨_, rfl⟩
  rw [hmp] at HDO HFD
  clear hR hmp
  have HV := hide_ (show s.v = .agg s.box from rfl)
  have HSZ := hide_ s.box_size
  obtain ⟨V, hV⟩ : ∃ V, s.v = V := ⟨_, rfl⟩
  rw [hV] at HV ⊢
  simp only [hV] at HCL
  clear hV
  obtain ⟨V2, hV2⟩ : ∃ V, m.v = V := ⟨_, rfl⟩
  simp only [hV2] at HM ⊢
  obtain ⟨ki, ke, pc, pn, pl, ac, an, al, ⟨rk, inc, st, ⟨vA, vc, vl⟩, ⟨dA, dc, dl⟩, ⟨oA, oc, ol⟩, la, ⟨mA, mc, ml⟩⟩, fe, li, ⟨C, ⟨xA, xc, xl⟩, ⟨yA, yc, yl⟩⟩⟩ := m
  have HV2 := hide_ (show V2 = .agg #[.int .u8 ki, .int .u8 ke, .int .u64 pc, .int .u8 pn, .int .u32 pl, .int .u64 ac, .int .u8 an, .int .u32 al, .int .u8 rk, .int .u64 inc, .int .i64 st, .slice vA vl.length vc, .slice dA dl.length dc, .slice oA ol.length oc, .int .u64 la, .slice mA ml.length mc, .int .u64 fe, .int .u32 li, .int .u64 C, .slice xA xl.length xc, .slice yA yl.length yc] from hV2.symm)
  clear hV2 hs hm
  simp only at hk
  subst hk
  go_enter Tryz.func21, Tryz.ntmps21
  go_upto_region 0 with fail
  refine wp_region_lit ?_
  refine box_whole 68 (by rfl) _ (by rfl) (by rfl) HV.out ?_
  intro W0 HX0 HB0 HZ0
  simp only [Act.put, List.setIfInBounds_toArray, List.set_cons_zero, List.set_cons_succ]
  refine box_whole 54 (by rfl) _ (by rfl) (by rfl) HV2.out ?_
  intro W1 HR1 HB1 HZ1
  simp only [Act.put, List.setIfInBounds_toArray, List.set_cons_zero, List.set_cons_succ]
  refine alloc_whole 68 (by rfl) (by rfl) sta_zero ?_
  intro W2 HY2 HB2 HZ2
  simp only [Act.put, List.setIfInBounds_toArray, List.set_cons_zero, List.set_cons_succ]
  have hz1 := HZ0.out
  have hz2 := HZ1.out
  have hz3 := HZ2.out
  rw [hz1] at hz2
  rw [hz2] at hz3
  have HX2 := hide_ ((HX0.out.below HB1.out).below HB2.out)
  have HR2 := hide_ (HR1.out.below HB2.out)
  have HW2 := hide_ ((HB0.out.trans (HB1.out.mono HB0.out.size)).trans (HB2.out.mono (HB0.out.trans (HB1.out.mono HB0.out.size)).size))
  obtain ⟨z, hz⟩ : ∃ z, w.heap.size = z := ⟨_, rfl⟩
  obtain ⟨z1, hz1'⟩ : ∃ z, W0.heap.size = z := ⟨_, rfl⟩
  obtain ⟨z2, hz2'⟩ : ∃ z, W1.heap.size = z := ⟨_, rfl⟩
  have HZS := hide_ (show z1 = z + 1 ∧ z2 = z + 2 ∧ W2.heap.size = z + 3 from by omega)
  have HZE := hide_ hz
  rw [hz] at HX2 ⊢
  rw [hz1'] at HR2 ⊢
  rw [hz2'] at HY2 ⊢
  clear HX0 HB0 HZ0 HR1 HB1 HZ1 HB2 HZ2 hz1 hz2 hz3 hz hz1' hz2'
  have hcx := HR2.out.cell
  have hzz : z1 < W2.heap.size := HR2.out.lt
  have hzx : z < W2.heap.size := HX2.out.lt
  go_wp2_with (refine load_whole 68 (by rfl) _ (by rfl) sta_size sta_row HX2.out (by rfl) HSZ.out ?_; rw [← HV.out])
  refine (HCL.out _ HW2.out).mono ?_
  rintro en w3 ⟨y, rfl, hyp, hyf, hb3⟩
  have HYP := hide_ hyp
  have HX3 := hide_ (HX2.out.below hb3)
  have HR3 := hide_ (HR2.out.below hb3)
  have HY3 := hide_ (HY2.out.below hb3)
  have HW3 := hide_ (HW2.out.trans (hb3.mono HW2.out.size))
  have HF3 := hide_ (hyf.less (show z + 3 ≤ W2.heap.size + 2 from by have := HZS.out; omega))
  have HYS := hide_ y.box_size
  have HYO := hide_ y.one
  have HYV := hide_ (show y.v = .agg y.box from rfl)
  obtain ⟨VY, hVY⟩ : ∃ V, y.v = V := ⟨_, rfl⟩
  rw [hVY] at HYV ⊢
  clear hVY hyp hyf hb3 hcx hzz hzx HCL HX2 HR2 HY2
  have hcx := HR3.out.cell
  have hzz : z1 < w3.heap.size := HR3.out.lt
  have hzx : z < w3.heap.size := HX3.out.lt
  go_upto_region 2 with (refine store_whole 68 (by rfl) _ _ (by rfl) sta_size (by rfl) (by rfl) HYV.out HYS.out HYO.out HX3.out HSZ.out ?_; intro W4 HX4 HG4 HZ4)
  have HR4 := hide_ (show BoxAt W4 z1 #[.int .u8 ((2 : Nat) : Int), .int .u8 ke, .int .u64 pc, .int .u8 pn, .int .u32 pl, .int .u64 ac, .int .u8 an, .int .u32 al, .int .u8 rk, .int .u64 inc, .int .i64 st, .slice vA vl.length vc, .slice dA dl.length dc, .slice oA ol.length oc, .int .u64 la, .slice mA ml.length mc, .int .u64 fe, .int .u32 li, .int .u64 C, .slice xA xl.length xc, .slice yA yl.length yc] 54 from (HG4.out.block _ HR3.out.lt (fun e => by injection e with e; have := HZS.out; omega)).trans HR3.out)
  have HY4 := hide_ (show BoxAt W4 z2 zeroSt.box 68 from (HG4.out.block _ HY3.out.lt (fun e => by injection e with e; have := HZS.out; omega)).trans HY3.out)
  have HW4 := hide_ (HW3.out.grown HG4.out HW3.out.size (fun q hq => by injection hq with hq; have := HZE.out; omega))
  have HF4 := hide_ (HF3.out.grown HG4.out (fun q hq => by injection hq with hq; omega))
  clear hcx hzz hzx HX3 HR3 HY3 HF3 HYO HYV HSZ
  have hcx := HR4.out.cell
  have hzz : z1 < W4.heap.size := HR4.out.lt
  have hzx : z < W4.heap.size := HX4.out.lt
  go_wp2_with (refine load_whole 54 (by rfl) _ (by rfl) rec_size rec_row HR4.out (by rfl) (by rfl) ?_; rw [← HV2.out])
  refine (HM.out _ HW4.out).mono ?_
  rintro en w5 ⟨rfl, hb5⟩
  have HX5 := hide_ (HX4.out.below hb5)
  have HR5 := hide_ (HR4.out.below hb5)
  have HY5 := hide_ (HY4.out.below hb5)
  have HW5 := hide_ (HW4.out.trans (hb5.mono HW4.out.size))
  have HF5 := hide_ (show StaM.fresh w5 (z + 3) y from HF4.out.grown (row := some z) (grown_below (World.grownBy.refl _ _) hb5) (fun q hq => by injection hq with hq; omega))
  clear hb5 hcx hzz hzx HM HX4 HR4 HY4 HF4
  have hcx := HR5.out.cell
  have hzz : z1 < w5.heap.size := HR5.out.lt
  have hzx : z < w5.heap.size := HX5.out.lt
  have HSET := hide_ (y.slot_set hke16 zeroSl)
  have hk15 : (ke : Int) * 15 = ((ke * 15 : Nat) : Int) := by omega
  go_upto_region 15 with (first | (refine build_known 65 _ (by rfl) (by rfl) (V := .agg #[.bool false, .int .u64 0, .int .u8 0, .int .u32 0, .int .u64 0, .int .u8 0, .int .u32 0, .int .u8 0, .int .u64 0, .int .i64 0, .slice none 0 0, .slice none 0 0, .slice none 0 0, .int .u64 0, .slice none 0 0]) (by kernel_rfl) ?_) | (refine store_part 65 (by rfl) _ _ (by rfl) slot_size (by rfl) (by rfl) (cells := #[.bool false, .int .u64 0, .int .u8 0, .int .u32 0, .int .u64 0, .int .u8 0, .int .u32 0, .int .u8 0, .int .u64 0, .int .i64 0, .slice none 0 0, .slice none 0 0, .slice none 0 0, .int .u64 0, .slice none 0 0]) (by rfl) (by rfl) (by simp [Value.oneCell']) HX5.out (by rw [HYS.out]; omega) ?_; intro W7 HX7 HG7 HZ7))
  have HX8' := hide_ (show BoxAt W7 z (splice y.box (ke * 15) zeroSl.cs) 68 from HX7.out)
  rw [HSET.out] at HX8'
  obtain ⟨s2, hs2⟩ : ∃ s2, y.setF ke zeroSl = s2 := ⟨_, rfl⟩
  rw [hs2] at HX8'
  have HP2 := hide_ (show s2.p = foldP s.p mp from by
    rw [HDO.out, ← HYP.out, ← hs2, setF_p]
    rfl)
  have HF7 := hide_ (show StaM.fresh W7 (z + 3) s2 from by
    rw [← hs2]
    refine (HF5.out.grown HG7.out (fun q hq => by injection hq with hq; omega)).setF ke zeroSl (by simp [SlotM.num, zeroSl, BalIn, N64]) (fresh_zero _ _) few_zero)
  have HY7 := hide_ (show BoxAt W7 z2 zeroSt.box 68 from (HG7.out.block _ HY5.out.lt (fun e => by injection e with e; have := HZS.out; omega)).trans HY5.out)
  have HW7 := hide_ (HW5.out.grown HG7.out HW5.out.size (fun q hq => by injection hq with hq; have := HZE.out; omega))
  clear hs2 hzx hcx hzz
  have hzx7 : z < W7.heap.size := HX8'.out.lt
  have HQS := hide_ (StaM.box_size (s2))
  have HQO := hide_ (StaM.one (s2))
  have HZB := hide_ zeroSt.box_size
  go_wp2_with (first | (refine load_whole 68 (by rfl) _ (by rfl) sta_size sta_row HX8'.out (by rfl) HQS.out ?_) | (refine store_whole 68 (by rfl) _ _ (by rfl) sta_size (by rfl) (by rfl) (cs := StaM.box (s2)) (by rfl) HQS.out HQO.out HY7.out HZB.out ?_; intro W8 HX8 HG8 HZ8))
  refine bodyPost_ret (res_whole sta_size sta_row (by rfl) (by rfl) HX8.out HQS.out) rfl ?_
  have hs := HZS.out
  have hze := HZE.out
  refine HFD.out _ _ s2 rfl HP2.out ((HF7.out.grown HG8.out (fun q hq => by injection hq with hq; omega)).less (by omega)) (HW7.out.grown HG8.out HW7.out.size (fun q hq => by injection hq with hq; omega))

set_option maxRecDepth 100000 in
set_option maxHeartbeats 6400000 in
theorem Fold3_any (s : StaM) (m : RecM) (B : Nat) (w : World) (hs : StaM.good w B s) (hm : RecM.tame w B m) (hB : B ≤ w.heap.size) (hk : m.ki = 3) (hy : mayR m.p = true) : Calls Tryz.prog 21 #[s.v, m.v] w (Folded s m.p w) := by
  have HM := hide_ (fun (u : World) (h : Below w.heap.size w u) => mayRec_any m w.heap.size u ((hm.g.more hB).below h) h.size)
  have HCL := hide_ (fun (u : World) (h : Below w.heap.size w u) => cloneSt_any s w.heap.size u ((hs.more hB).below h) h.size)
  rw [hy] at HM
  have HNUM := hide_ hm.g.1
  have HDO := hide_ (fun t : StaP => show foldP t m.p = { t with fe := max t.fe m.fe } from by unfold foldP; rw [if_pos hy]; unfold doP; rw [if_neg (show ¬ m.p.ki = 1 from by show ¬ m.ki = 1; omega)]; rw [if_neg (show ¬ m.p.ki = 2 from by show ¬ m.ki = 2; omega)]; rw [if_pos (show m.p.ki = 3 from hk)]; rfl)
  clear hy
  obtain ⟨R, hR⟩ : ∃ R, Folded s m.p w = R := ⟨_, rfl⟩
  rw [hR]
  have HFD := hide_ (fun (e : Ending) (w' : World) (s' : StaM) (h1 : e = .returned s'.v) (h2 : s'.p = foldP s.p m.p) (h3 : StaM.fresh w' w.heap.size s') (h4 : Below w.heap.size w w') => show R e w' from by rw [← hR]; exact ⟨s', h1, h2, h3, h4⟩)
  obtain ⟨mp, hmp⟩ : ∃ x, m.p = x := ⟨_, rfl⟩
  rw [hmp] at HDO HFD
  clear hR hmp
  have HV := hide_ (show s.v = .agg s.box from rfl)
  have HSZ := hide_ s.box_size
  obtain ⟨V, hV⟩ : ∃ V, s.v = V := ⟨_, rfl⟩
  rw [hV] at HV ⊢
  simp only [hV] at HCL
  clear hV
  obtain ⟨V2, hV2⟩ : ∃ V, m.v = V := ⟨_, rfl⟩
  simp only [hV2] at HM ⊢
  obtain ⟨ki, ke, pc, pn, pl, ac, an, al, ⟨rk, inc, st, ⟨vA, vc, vl⟩, ⟨dA, dc, dl⟩, ⟨oA, oc, ol⟩, la, ⟨mA, mc, ml⟩⟩, fe, li, ⟨C, ⟨xA, xc, xl⟩, ⟨yA, yc, yl⟩⟩⟩ := m
  have HV2 := hide_ (show V2 = .agg #[.int .u8 ki, .int .u8 ke, .int .u64 pc, .int .u8 pn, .int .u32 pl, .int .u64 ac, .int .u8 an, .int .u32 al, .int .u8 rk, .int .u64 inc, .int .i64 st, .slice vA vl.length vc, .slice dA dl.length dc, .slice oA ol.length oc, .int .u64 la, .slice mA ml.length mc, .int .u64 fe, .int .u32 li, .int .u64 C, .slice xA xl.length xc, .slice yA yl.length yc] from hV2.symm)
  clear hV2 hs hm
  simp only at hk
  subst hk
  go_enter Tryz.func21, Tryz.ntmps21
  go_upto_region 0 with fail
  refine wp_region_lit ?_
  refine box_whole 68 (by rfl) _ (by rfl) (by rfl) HV.out ?_
  intro W0 HX0 HB0 HZ0
  simp only [Act.put, List.setIfInBounds_toArray, List.set_cons_zero, List.set_cons_succ]
  refine box_whole 54 (by rfl) _ (by rfl) (by rfl) HV2.out ?_
  intro W1 HR1 HB1 HZ1
  simp only [Act.put, List.setIfInBounds_toArray, List.set_cons_zero, List.set_cons_succ]
  refine alloc_whole 68 (by rfl) (by rfl) sta_zero ?_
  intro W2 HY2 HB2 HZ2
  simp only [Act.put, List.setIfInBounds_toArray, List.set_cons_zero, List.set_cons_succ]
  have hz1 := HZ0.out
  have hz2 := HZ1.out
  have hz3 := HZ2.out
  rw [hz1] at hz2
  rw [hz2] at hz3
  have HX2 := hide_ ((HX0.out.below HB1.out).below HB2.out)
  have HR2 := hide_ (HR1.out.below HB2.out)
  have HW2 := hide_ ((HB0.out.trans (HB1.out.mono HB0.out.size)).trans (HB2.out.mono (HB0.out.trans (HB1.out.mono HB0.out.size)).size))
  obtain ⟨z, hz⟩ : ∃ z, w.heap.size = z := ⟨_, rfl⟩
  obtain ⟨z1, hz1'⟩ : ∃ z, W0.heap.size = z := ⟨_, rfl⟩
  obtain ⟨z2, hz2'⟩ : ∃ z, W1.heap.size = z := ⟨_, rfl⟩
  have HZS := hide_ (show z1 = z + 1 ∧ z2 = z + 2 ∧ W2.heap.size = z + 3 from by omega)
  have HZE := hide_ hz
  rw [hz] at HX2 ⊢
  rw [hz1'] at HR2 ⊢
  rw [hz2'] at HY2 ⊢
  clear HX0 HB0 HZ0 HR1 HB1 HZ1 HB2 HZ2 hz1 hz2 hz3 hz hz1' hz2'
  have hcx := HR2.out.cell
  have hzz : z1 < W2.heap.size := HR2.out.lt
  have hzx : z < W2.heap.size := HX2.out.lt
  go_wp2_with (refine load_whole 68 (by rfl) _ (by rfl) sta_size sta_row HX2.out (by rfl) HSZ.out ?_; rw [← HV.out])
  refine (HCL.out _ HW2.out).mono ?_
  rintro en w3 ⟨y, rfl, hyp, hyf, hb3⟩
  have HYP := hide_ hyp
  have HX3 := hide_ (HX2.out.below hb3)
  have HR3 := hide_ (HR2.out.below hb3)
  have HY3 := hide_ (HY2.out.below hb3)
  have HW3 := hide_ (HW2.out.trans (hb3.mono HW2.out.size))
  have HF3 := hide_ (hyf.less (show z + 3 ≤ W2.heap.size + 2 from by have := HZS.out; omega))
  have HYS := hide_ y.box_size
  have HYO := hide_ y.one
  have HYV := hide_ (show y.v = .agg y.box from rfl)
  obtain ⟨VY, hVY⟩ : ∃ V, y.v = V := ⟨_, rfl⟩
  rw [hVY] at HYV ⊢
  clear hVY hyp hyf hb3 hcx hzz hzx HCL HX2 HR2 HY2
  have hcx := HR3.out.cell
  have hzz : z1 < w3.heap.size := HR3.out.lt
  have hzx : z < w3.heap.size := HX3.out.lt
  go_upto_region 2 with (refine store_whole 68 (by rfl) _ _ (by rfl) sta_size (by rfl) (by rfl) HYV.out HYS.out HYO.out HX3.out HSZ.out ?_; intro W4 HX4 HG4 HZ4)
  have HR4 := hide_ (show BoxAt W4 z1 #[.int .u8 ((3 : Nat) : Int), .int .u8 ke, .int .u64 pc, .int .u8 pn, .int .u32 pl, .int .u64 ac, .int .u8 an, .int .u32 al, .int .u8 rk, .int .u64 inc, .int .i64 st, .slice vA vl.length vc, .slice dA dl.length dc, .slice oA ol.length oc, .int .u64 la, .slice mA ml.length mc, .int .u64 fe, .int .u32 li, .int .u64 C, .slice xA xl.length xc, .slice yA yl.length yc] 54 from (HG4.out.block _ HR3.out.lt (fun e => by injection e with e; have := HZS.out; omega)).trans HR3.out)
  have HY4 := hide_ (show BoxAt W4 z2 zeroSt.box 68 from (HG4.out.block _ HY3.out.lt (fun e => by injection e with e; have := HZS.out; omega)).trans HY3.out)
  have HW4 := hide_ (HW3.out.grown HG4.out HW3.out.size (fun q hq => by injection hq with hq; have := HZE.out; omega))
  have HF4 := hide_ (HF3.out.grown HG4.out (fun q hq => by injection hq with hq; omega))
  clear hcx hzz hzx HX3 HR3 HY3 HF3 HYO HYV HSZ
  have hcx := HR4.out.cell
  have hzz : z1 < W4.heap.size := HR4.out.lt
  have hzx : z < W4.heap.size := HX4.out.lt
  go_wp2_with (refine load_whole 54 (by rfl) _ (by rfl) rec_size rec_row HR4.out (by rfl) (by rfl) ?_; rw [← HV2.out])
  refine (HM.out _ HW4.out).mono ?_
  rintro en w5 ⟨rfl, hb5⟩
  have HX5 := hide_ (HX4.out.below hb5)
  have HR5 := hide_ (HR4.out.below hb5)
  have HY5 := hide_ (HY4.out.below hb5)
  have HW5 := hide_ (HW4.out.trans (hb5.mono HW4.out.size))
  have HF5 := hide_ (show StaM.fresh w5 (z + 3) y from HF4.out.grown (row := some z) (grown_below (World.grownBy.refl _ _) hb5) (fun q hq => by injection hq with hq; omega))
  clear hb5 hcx hzz hzx HM HX4 HR4 HY4 HF4
  have hcx := HR5.out.cell
  have hzz : z1 < w5.heap.size := HR5.out.lt
  have hzx : z < w5.heap.size := HX5.out.lt
  have r0 := (HX5.out.cell 240).trans y.cell_fe
  have f0 := HX5.out.free9 240
  obtain ⟨fs, hfs⟩ : ∃ f, y.fe = f := ⟨_, rfl⟩
  rw [hfs] at r0
  obtain ⟨mx, hmx⟩ : ∃ f, max fs fe = f := ⟨_, rfl⟩
  have hmi : (if fs < fe then (fe : Int) else (fs : Int)) = (mx : Int) := by split <;> omega
  have HMX := hide_ hmx
  have HFS := hide_ hfs
  clear hmx hfs
  go_upto_region 15 with fail
  try rw [hmi]
  have HX8' := hide_ (HX5.out.set9 240 (.int .u64 mx))
  rw [y.fe_set] at HX8'
  obtain ⟨W7, hW7⟩ : ∃ W, w5.setCell ⟨z, 240, none⟩ (.int .u64 mx) = W := ⟨_, rfl⟩
  have HG7 := hide_ (grown_cell9 w5 z 240 (.int .u64 mx))
  rw [hW7] at HX8' HG7 ⊢
  clear hW7 r0 f0
  obtain ⟨s2, hs2⟩ : ∃ s2 : StaM, { y with fe := mx } = s2 := ⟨_, rfl⟩
  rw [hs2] at HX8'
  have HP2 := hide_ (show s2.p = foldP s.p mp from by
    rw [HDO.out, ← HYP.out, ← hs2, ← HMX.out, ← HFS.out]
    rfl)
  have HF7 := hide_ (show StaM.fresh W7 (z + 3) s2 from by
    have g := HF5.out.grown HG7.out (fun q hq => by injection hq with hq; omega)
    have g1 := g.fe
    have g2 := HNUM.out.2.2.2.1
    have g3 := HFS.out
    have g4 := HMX.out
    rw [← hs2]
    refine ⟨g.sl, ?_, g.li, g.cf⟩
    unfold N64 at *
    simp only at g2
    show mx < _
    omega)
  have HY7 := hide_ (show BoxAt W7 z2 zeroSt.box 68 from (HG7.out.block _ HY5.out.lt (fun e => by injection e with e; have := HZS.out; omega)).trans HY5.out)
  have HW7 := hide_ (HW5.out.grown HG7.out HW5.out.size (fun q hq => by injection hq with hq; have := HZE.out; omega))
  clear hs2 hzx hcx hzz
  have hzx7 : z < W7.heap.size := HX8'.out.lt
  have HQS := hide_ (StaM.box_size (s2))
  have HQO := hide_ (StaM.one (s2))
  have HZB := hide_ zeroSt.box_size
  go_wp2_with (first | (refine load_whole 68 (by rfl) _ (by rfl) sta_size sta_row HX8'.out (by rfl) HQS.out ?_) | (refine store_whole 68 (by rfl) _ _ (by rfl) sta_size (by rfl) (by rfl) (cs := StaM.box (s2)) (by rfl) HQS.out HQO.out HY7.out HZB.out ?_; intro W8 HX8 HG8 HZ8))
  refine bodyPost_ret (res_whole sta_size sta_row (by rfl) (by rfl) HX8.out HQS.out) rfl ?_
  have hs := HZS.out
  have hze := HZE.out
  refine HFD.out _ _ s2 rfl HP2.out ((HF7.out.grown HG8.out (fun q hq => by injection hq with hq; omega)).less (by omega)) (HW7.out.grown HG8.out HW7.out.size (fun q hq => by injection hq with hq; omega))

set_option maxRecDepth 100000 in
set_option maxHeartbeats 6400000 in
theorem Fold4_any (s : StaM) (m : RecM) (B : Nat) (w : World) (hs : StaM.good w B s) (hm : RecM.tame w B m) (hB : B ≤ w.heap.size) (hk : m.ki = 4) (hy : mayR m.p = true) : Calls Tryz.prog 21 #[s.v, m.v] w (Folded s m.p w) := by
  have HM := hide_ (fun (u : World) (h : Below w.heap.size w u) => mayRec_any m w.heap.size u ((hm.g.more hB).below h) h.size)
  have HCL := hide_ (fun (u : World) (h : Below w.heap.size w u) => cloneSt_any s w.heap.size u ((hs.more hB).below h) h.size)
  rw [hy] at HM
  have HNUM := hide_ hm.g.1
  have HDO := hide_ (fun t : StaP => show foldP t m.p = { t with li := m.li } from by unfold foldP; rw [if_pos hy]; unfold doP; rw [if_neg (show ¬ m.p.ki = 1 from by show ¬ m.ki = 1; omega)]; rw [if_neg (show ¬ m.p.ki = 2 from by show ¬ m.ki = 2; omega)]; rw [if_neg (show ¬ m.p.ki = 3 from by show ¬ m.ki = 3; omega)]; rw [if_pos (show m.p.ki = 4 from hk)]; rfl)
  clear hy
  obtain ⟨R, hR⟩ : ∃ R, Folded s m.p w = R := ⟨_, rfl⟩
  rw [hR]
  have HFD := hide_ (fun (e : Ending) (w' : World) (s' : StaM) (h1 : e = .returned s'.v) (h2 : s'.p = foldP s.p m.p) (h3 : StaM.fresh w' w.heap.size s') (h4 : Below w.heap.size w w') => show R e w' from by rw [← hR]; exact ⟨s', h1, h2, h3, h4⟩)
  obtain ⟨mp, hmp⟩ : ∃ x, m.p = x := ⟨_, rfl⟩
  rw [hmp] at HDO HFD
  clear hR hmp
  have HV := hide_ (show s.v = .agg s.box from rfl)
  have HSZ := hide_ s.box_size
  obtain ⟨V, hV⟩ : ∃ V, s.v = V := ⟨_, rfl⟩
  rw [hV] at HV ⊢
  simp only [hV] at HCL
  clear hV
  obtain ⟨V2, hV2⟩ : ∃ V, m.v = V := ⟨_, rfl⟩
  simp only [hV2] at HM ⊢
  obtain ⟨ki, ke, pc, pn, pl, ac, an, al, ⟨rk, inc, st, ⟨vA, vc, vl⟩, ⟨dA, dc, dl⟩, ⟨oA, oc, ol⟩, la, ⟨mA, mc, ml⟩⟩, fe, li, ⟨C, ⟨xA, xc, xl⟩, ⟨yA, yc, yl⟩⟩⟩ := m
  have HV2 := hide_ (show V2 = .agg #[.int .u8 ki, .int .u8 ke, .int .u64 pc, .int .u8 pn, .int .u32 pl, .int .u64 ac, .int .u8 an, .int .u32 al, .int .u8 rk, .int .u64 inc, .int .i64 st, .slice vA vl.length vc, .slice dA dl.length dc, .slice oA ol.length oc, .int .u64 la, .slice mA ml.length mc, .int .u64 fe, .int .u32 li, .int .u64 C, .slice xA xl.length xc, .slice yA yl.length yc] from hV2.symm)
  clear hV2 hs hm
  simp only at hk
  subst hk
  go_enter Tryz.func21, Tryz.ntmps21
  go_upto_region 0 with fail
  refine wp_region_lit ?_
  refine box_whole 68 (by rfl) _ (by rfl) (by rfl) HV.out ?_
  intro W0 HX0 HB0 HZ0
  simp only [Act.put, List.setIfInBounds_toArray, List.set_cons_zero, List.set_cons_succ]
  refine box_whole 54 (by rfl) _ (by rfl) (by rfl) HV2.out ?_
  intro W1 HR1 HB1 HZ1
  simp only [Act.put, List.setIfInBounds_toArray, List.set_cons_zero, List.set_cons_succ]
  refine alloc_whole 68 (by rfl) (by rfl) sta_zero ?_
  intro W2 HY2 HB2 HZ2
  simp only [Act.put, List.setIfInBounds_toArray, List.set_cons_zero, List.set_cons_succ]
  have hz1 := HZ0.out
  have hz2 := HZ1.out
  have hz3 := HZ2.out
  rw [hz1] at hz2
  rw [hz2] at hz3
  have HX2 := hide_ ((HX0.out.below HB1.out).below HB2.out)
  have HR2 := hide_ (HR1.out.below HB2.out)
  have HW2 := hide_ ((HB0.out.trans (HB1.out.mono HB0.out.size)).trans (HB2.out.mono (HB0.out.trans (HB1.out.mono HB0.out.size)).size))
  obtain ⟨z, hz⟩ : ∃ z, w.heap.size = z := ⟨_, rfl⟩
  obtain ⟨z1, hz1'⟩ : ∃ z, W0.heap.size = z := ⟨_, rfl⟩
  obtain ⟨z2, hz2'⟩ : ∃ z, W1.heap.size = z := ⟨_, rfl⟩
  have HZS := hide_ (show z1 = z + 1 ∧ z2 = z + 2 ∧ W2.heap.size = z + 3 from by omega)
  have HZE := hide_ hz
  rw [hz] at HX2 ⊢
  rw [hz1'] at HR2 ⊢
  rw [hz2'] at HY2 ⊢
  clear HX0 HB0 HZ0 HR1 HB1 HZ1 HB2 HZ2 hz1 hz2 hz3 hz hz1' hz2'
  have hcx := HR2.out.cell
  have hzz : z1 < W2.heap.size := HR2.out.lt
  have hzx : z < W2.heap.size := HX2.out.lt
  go_wp2_with (refine load_whole 68 (by rfl) _ (by rfl) sta_size sta_row HX2.out (by rfl) HSZ.out ?_; rw [← HV.out])
  refine (HCL.out _ HW2.out).mono ?_
  rintro en w3 ⟨y, rfl, hyp, hyf, hb3⟩
  have HYP := hide_ hyp
  have HX3 := hide_ (HX2.out.below hb3)
  have HR3 := hide_ (HR2.out.below hb3)
  have HY3 := hide_ (HY2.out.below hb3)
  have HW3 := hide_ (HW2.out.trans (hb3.mono HW2.out.size))
  have HF3 := hide_ (hyf.less (show z + 3 ≤ W2.heap.size + 2 from by have := HZS.out; omega))
  have HYS := hide_ y.box_size
  have HYO := hide_ y.one
  have HYV := hide_ (show y.v = .agg y.box from rfl)
  obtain ⟨VY, hVY⟩ : ∃ V, y.v = V := ⟨_, rfl⟩
  rw [hVY] at HYV ⊢
  clear hVY hyp hyf hb3 hcx hzz hzx HCL HX2 HR2 HY2
  have hcx := HR3.out.cell
  have hzz : z1 < w3.heap.size := HR3.out.lt
  have hzx : z < w3.heap.size := HX3.out.lt
  go_upto_region 2 with (refine store_whole 68 (by rfl) _ _ (by rfl) sta_size (by rfl) (by rfl) HYV.out HYS.out HYO.out HX3.out HSZ.out ?_; intro W4 HX4 HG4 HZ4)
  have HR4 := hide_ (show BoxAt W4 z1 #[.int .u8 ((4 : Nat) : Int), .int .u8 ke, .int .u64 pc, .int .u8 pn, .int .u32 pl, .int .u64 ac, .int .u8 an, .int .u32 al, .int .u8 rk, .int .u64 inc, .int .i64 st, .slice vA vl.length vc, .slice dA dl.length dc, .slice oA ol.length oc, .int .u64 la, .slice mA ml.length mc, .int .u64 fe, .int .u32 li, .int .u64 C, .slice xA xl.length xc, .slice yA yl.length yc] 54 from (HG4.out.block _ HR3.out.lt (fun e => by injection e with e; have := HZS.out; omega)).trans HR3.out)
  have HY4 := hide_ (show BoxAt W4 z2 zeroSt.box 68 from (HG4.out.block _ HY3.out.lt (fun e => by injection e with e; have := HZS.out; omega)).trans HY3.out)
  have HW4 := hide_ (HW3.out.grown HG4.out HW3.out.size (fun q hq => by injection hq with hq; have := HZE.out; omega))
  have HF4 := hide_ (HF3.out.grown HG4.out (fun q hq => by injection hq with hq; omega))
  clear hcx hzz hzx HX3 HR3 HY3 HF3 HYO HYV HSZ
  have hcx := HR4.out.cell
  have hzz : z1 < W4.heap.size := HR4.out.lt
  have hzx : z < W4.heap.size := HX4.out.lt
  go_wp2_with (refine load_whole 54 (by rfl) _ (by rfl) rec_size rec_row HR4.out (by rfl) (by rfl) ?_; rw [← HV2.out])
  refine (HM.out _ HW4.out).mono ?_
  rintro en w5 ⟨rfl, hb5⟩
  have HX5 := hide_ (HX4.out.below hb5)
  have HR5 := hide_ (HR4.out.below hb5)
  have HY5 := hide_ (HY4.out.below hb5)
  have HW5 := hide_ (HW4.out.trans (hb5.mono HW4.out.size))
  have HF5 := hide_ (show StaM.fresh w5 (z + 3) y from HF4.out.grown (row := some z) (grown_below (World.grownBy.refl _ _) hb5) (fun q hq => by injection hq with hq; omega))
  clear hb5 hcx hzz hzx HM HX4 HR4 HY4 HF4
  have hcx := HR5.out.cell
  have hzz : z1 < w5.heap.size := HR5.out.lt
  have hzx : z < w5.heap.size := HX5.out.lt
  have r0 := (HX5.out.cell 241).trans y.cell_li
  have f0 := HX5.out.free9 241
  go_upto_region 15 with fail
  have HX8' := hide_ (HX5.out.set9 241 (.int .u32 li))
  rw [y.li_set] at HX8'
  obtain ⟨W7, hW7⟩ : ∃ W, w5.setCell ⟨z, 241, none⟩ (.int .u32 li) = W := ⟨_, rfl⟩
  have HG7 := hide_ (grown_cell9 w5 z 241 (.int .u32 li))
  rw [hW7] at HX8' HG7 ⊢
  clear hW7 r0 f0
  obtain ⟨s2, hs2⟩ : ∃ s2 : StaM, { y with li := li } = s2 := ⟨_, rfl⟩
  rw [hs2] at HX8'
  have HP2 := hide_ (show s2.p = foldP s.p mp from by
    rw [HDO.out, ← HYP.out, ← hs2]
    rfl)
  have HF7 := hide_ (show StaM.fresh W7 (z + 3) s2 from by
    have g := HF5.out.grown HG7.out (fun q hq => by injection hq with hq; omega)
    rw [← hs2]
    exact ⟨g.sl, g.fe, HNUM.out.2.2.2.2, g.cf⟩)
  have HY7 := hide_ (show BoxAt W7 z2 zeroSt.box 68 from (HG7.out.block _ HY5.out.lt (fun e => by injection e with e; have := HZS.out; omega)).trans HY5.out)
  have HW7 := hide_ (HW5.out.grown HG7.out HW5.out.size (fun q hq => by injection hq with hq; have := HZE.out; omega))
  clear hs2 hzx hcx hzz
  have hzx7 : z < W7.heap.size := HX8'.out.lt
  have HQS := hide_ (StaM.box_size (s2))
  have HQO := hide_ (StaM.one (s2))
  have HZB := hide_ zeroSt.box_size
  go_wp2_with (first | (refine load_whole 68 (by rfl) _ (by rfl) sta_size sta_row HX8'.out (by rfl) HQS.out ?_) | (refine store_whole 68 (by rfl) _ _ (by rfl) sta_size (by rfl) (by rfl) (cs := StaM.box (s2)) (by rfl) HQS.out HQO.out HY7.out HZB.out ?_; intro W8 HX8 HG8 HZ8))
  refine bodyPost_ret (res_whole sta_size sta_row (by rfl) (by rfl) HX8.out HQS.out) rfl ?_
  have hs := HZS.out
  have hze := HZE.out
  refine HFD.out _ _ s2 rfl HP2.out ((HF7.out.grown HG8.out (fun q hq => by injection hq with hq; omega)).less (by omega)) (HW7.out.grown HG8.out HW7.out.size (fun q hq => by injection hq with hq; omega))

set_option maxRecDepth 100000 in
set_option maxHeartbeats 6400000 in
theorem Fold5_any (s : StaM) (m : RecM) (B : Nat) (w : World) (hs : StaM.good w B s) (hm : RecM.tame w B m) (hB : B ≤ w.heap.size) (hk : m.ki = 5) (hy : mayR m.p = true) : Calls Tryz.prog 21 #[s.v, m.v] w (Folded s m.p w) := by
  have HM := hide_ (fun (u : World) (h : Below w.heap.size w u) => mayRec_any m w.heap.size u ((hm.g.more hB).below h) h.size)
  have HCL := hide_ (fun (u : World) (h : Below w.heap.size w u) => cloneSt_any s w.heap.size u ((hs.more hB).below h) h.size)
  rw [hy] at HM
  have HNUM := hide_ hm.g.1
  have HCC := hide_ (fun (u : World) (h : Below w.heap.size w u) => cloneConf_any m.cf w.heap.size u ((hm.g.2.2.more hB).below h) h.size)
  have HDO := hide_ (fun t : StaP => show foldP t m.p = { t with cf := m.cf.p } from by unfold foldP; rw [if_pos hy]; unfold doP; rw [if_neg (show ¬ m.p.ki = 1 from by show ¬ m.ki = 1; omega)]; rw [if_neg (show ¬ m.p.ki = 2 from by show ¬ m.ki = 2; omega)]; rw [if_neg (show ¬ m.p.ki = 3 from by show ¬ m.ki = 3; omega)]; rw [if_neg (show ¬ m.p.ki = 4 from by show ¬ m.ki = 4; omega)]; rw [if_pos (show m.p.ki = 5 from hk)]; rfl)
  clear hy
  obtain ⟨R, hR⟩ : ∃ R, Folded s m.p w = R := ⟨_, rfl⟩
  rw [hR]
  have HFD := hide_ (fun (e : Ending) (w' : World) (s' : StaM) (h1 : e = .returned s'.v) (h2 : s'.p = foldP s.p m.p) (h3 : StaM.fresh w' w.heap.size s') (h4 : Below w.heap.size w w') => show R e w' from by rw [← hR]; exact ⟨s', h1, h2, h3, h4⟩)
  obtain ⟨mp, hmp⟩ : ∃ x, m.p = x := ⟨_, rfl⟩
  rw [hmp] at HDO HFD
  clear hR hmp
  have HV := hide_ (show s.v = .agg s.box from rfl)
  have HSZ := hide_ s.box_size
  obtain ⟨V, hV⟩ : ∃ V, s.v = V := ⟨_, rfl⟩
  rw [hV] at HV ⊢
  simp only [hV] at HCL
  clear hV
  obtain ⟨V2, hV2⟩ : ∃ V, m.v = V := ⟨_, rfl⟩
  simp only [hV2] at HM ⊢
  obtain ⟨ki, ke, pc, pn, pl, ac, an, al, ⟨rk, inc, st, ⟨vA, vc, vl⟩, ⟨dA, dc, dl⟩, ⟨oA, oc, ol⟩, la, ⟨mA, mc, ml⟩⟩, fe, li, ⟨C, ⟨xA, xc, xl⟩, ⟨yA, yc, yl⟩⟩⟩ := m
  have HV2 := hide_ (show V2 = .agg #[.int .u8 ki, .int .u8 ke, .int .u64 pc, .int .u8 pn, .int .u32 pl, .int .u64 ac, .int .u8 an, .int .u32 al, .int .u8 rk, .int .u64 inc, .int .i64 st, .slice vA vl.length vc, .slice dA dl.length dc, .slice oA ol.length oc, .int .u64 la, .slice mA ml.length mc, .int .u64 fe, .int .u32 li, .int .u64 C, .slice xA xl.length xc, .slice yA yl.length yc] from hV2.symm)
  clear hV2 hs hm
  simp only at hk
  subst hk
  go_enter Tryz.func21, Tryz.ntmps21
  go_upto_region 0 with fail
  refine wp_region_lit ?_
  refine box_whole 68 (by rfl) _ (by rfl) (by rfl) HV.out ?_
  intro W0 HX0 HB0 HZ0
  simp only [Act.put, List.setIfInBounds_toArray, List.set_cons_zero, List.set_cons_succ]
  refine box_whole 54 (by rfl) _ (by rfl) (by rfl) HV2.out ?_
  intro W1 HR1 HB1 HZ1
  simp only [Act.put, List.setIfInBounds_toArray, List.set_cons_zero, List.set_cons_succ]
  refine alloc_whole 68 (by rfl) (by rfl) sta_zero ?_
  intro W2 HY2 HB2 HZ2
  simp only [Act.put, List.setIfInBounds_toArray, List.set_cons_zero, List.set_cons_succ]
  have hz1 := HZ0.out
  have hz2 := HZ1.out
  have hz3 := HZ2.out
  rw [hz1] at hz2
  rw [hz2] at hz3
  have HX2 := hide_ ((HX0.out.below HB1.out).below HB2.out)
  have HR2 := hide_ (HR1.out.below HB2.out)
  have HW2 := hide_ ((HB0.out.trans (HB1.out.mono HB0.out.size)).trans (HB2.out.mono (HB0.out.trans (HB1.out.mono HB0.out.size)).size))
  obtain ⟨z, hz⟩ : ∃ z, w.heap.size = z := ⟨_, rfl⟩
  obtain ⟨z1, hz1'⟩ : ∃ z, W0.heap.size = z := ⟨_, rfl⟩
  obtain ⟨z2, hz2'⟩ : ∃ z, W1.heap.size = z := ⟨_, rfl⟩
  have HZS := hide_ (show z1 = z + 1 ∧ z2 = z + 2 ∧ W2.heap.size = z + 3 from by omega)
  have HZE := hide_ hz
  rw [hz] at HX2 ⊢
  rw [hz1'] at HR2 ⊢
  rw [hz2'] at HY2 ⊢
  clear HX0 HB0 HZ0 HR1 HB1 HZ1 HB2 HZ2 hz1 hz2 hz3 hz hz1' hz2'
  have hcx := HR2.out.cell
  have hzz : z1 < W2.heap.size := HR2.out.lt
  have hzx : z < W2.heap.size := HX2.out.lt
  go_wp2_with (refine load_whole 68 (by rfl) _ (by rfl) sta_size sta_row HX2.out (by rfl) HSZ.out ?_; rw [← HV.out])
  refine (HCL.out _ HW2.out).mono ?_
  rintro en w3 ⟨y, rfl, hyp, hyf, hb3⟩
  have HYP := hide_ hyp
  have HX3 := hide_ (HX2.out.below hb3)
  have HR3 := hide_ (HR2.out.below hb3)
  have HY3 := hide_ (HY2.out.below hb3)
  have HW3 := hide_ (HW2.out.trans (hb3.mono HW2.out.size))
  have HF3 := hide_ (hyf.less (show z + 3 ≤ W2.heap.size + 2 from by have := HZS.out; omega))
  have HYS := hide_ y.box_size
  have HYO := hide_ y.one
  have HYV := hide_ (show y.v = .agg y.box from rfl)
  obtain ⟨VY, hVY⟩ : ∃ V, y.v = V := ⟨_, rfl⟩
  rw [hVY] at HYV ⊢
  clear hVY hyp hyf hb3 hcx hzz hzx HCL HX2 HR2 HY2
  have hcx := HR3.out.cell
  have hzz : z1 < w3.heap.size := HR3.out.lt
  have hzx : z < w3.heap.size := HX3.out.lt
  go_upto_region 2 with (refine store_whole 68 (by rfl) _ _ (by rfl) sta_size (by rfl) (by rfl) HYV.out HYS.out HYO.out HX3.out HSZ.out ?_; intro W4 HX4 HG4 HZ4)
  have HR4 := hide_ (show BoxAt W4 z1 #[.int .u8 ((5 : Nat) : Int), .int .u8 ke, .int .u64 pc, .int .u8 pn, .int .u32 pl, .int .u64 ac, .int .u8 an, .int .u32 al, .int .u8 rk, .int .u64 inc, .int .i64 st, .slice vA vl.length vc, .slice dA dl.length dc, .slice oA ol.length oc, .int .u64 la, .slice mA ml.length mc, .int .u64 fe, .int .u32 li, .int .u64 C, .slice xA xl.length xc, .slice yA yl.length yc] 54 from (HG4.out.block _ HR3.out.lt (fun e => by injection e with e; have := HZS.out; omega)).trans HR3.out)
  have HY4 := hide_ (show BoxAt W4 z2 zeroSt.box 68 from (HG4.out.block _ HY3.out.lt (fun e => by injection e with e; have := HZS.out; omega)).trans HY3.out)
  have HW4 := hide_ (HW3.out.grown HG4.out HW3.out.size (fun q hq => by injection hq with hq; have := HZE.out; omega))
  have HF4 := hide_ (HF3.out.grown HG4.out (fun q hq => by injection hq with hq; omega))
  clear hcx hzz hzx HX3 HR3 HY3 HF3 HYO HYV HSZ
  have hcx := HR4.out.cell
  have hzz : z1 < W4.heap.size := HR4.out.lt
  have hzx : z < W4.heap.size := HX4.out.lt
  go_wp2_with (refine load_whole 54 (by rfl) _ (by rfl) rec_size rec_row HR4.out (by rfl) (by rfl) ?_; rw [← HV2.out])
  refine (HM.out _ HW4.out).mono ?_
  rintro en w5 ⟨rfl, hb5⟩
  have HX5 := hide_ (HX4.out.below hb5)
  have HR5 := hide_ (HR4.out.below hb5)
  have HY5 := hide_ (HY4.out.below hb5)
  have HW5 := hide_ (HW4.out.trans (hb5.mono HW4.out.size))
  have HF5 := hide_ (show StaM.fresh w5 (z + 3) y from HF4.out.grown (row := some z) (grown_below (World.grownBy.refl _ _) hb5) (fun q hq => by injection hq with hq; omega))
  clear hb5 hcx hzz hzx HM HX4 HR4 HY4 HF4
  have hcx := HR5.out.cell
  have hzz : z1 < w5.heap.size := HR5.out.lt
  have hzx : z < w5.heap.size := HX5.out.lt
  go_wp2_with fail
  refine (HCC.out _ HW5.out).mono ?_
  rintro en w6 ⟨x, rfl, hxp, hxf, hb6⟩
  have HX6 := hide_ (HX5.out.below hb6)
  have HR6 := hide_ (HR5.out.below hb6)
  have HY6 := hide_ (HY5.out.below hb6)
  have HW6 := hide_ (HW5.out.trans (hb6.mono HW5.out.size))
  have HF6 := hide_ (show StaM.fresh w6 (z + 3) y from HF5.out.grown (row := some z) (grown_below (World.grownBy.refl _ _) hb6) (fun q hq => by injection hq with hq; omega))
  have HXP := hide_ hxp
  have HXF := hide_ (show CFresh w6 (z + 3) x from ⟨hxf.1, ⟨own_mono hxf.2.1.1 (by have := HY5.out.lt; have := HZS.out; omega), hxf.2.1.2⟩, ⟨own_mono hxf.2.2.1 (by have := HY5.out.lt; have := HZS.out; omega), hxf.2.2.2⟩⟩)
  clear hb6 hxp hxf hcx hzz hzx HX5 HR5 HY5 HF5
  have hzx : z < w6.heap.size := HX6.out.lt
  have HXV := hide_ (show x.v = .agg x.cs.toArray from rfl)
  have HONE := hide_ (show x.cs.toArray.all (·.oneCell') = true from by simp [CfM.cs, NdM.v, Value.oneCell'])
  have HSET := hide_ (y.cf_set x)
  obtain ⟨VX, hVX⟩ : ∃ V, x.v = V := ⟨_, rfl⟩
  rw [hVX] at HXV ⊢
  clear hVX
  go_upto_region 15 with (refine store_part 52 (by rfl) _ _ (by rfl) conf_size (by rfl) (by rfl) HXV.out (by rfl) HONE.out HX6.out (by rw [HYS.out]; omega) ?_; intro W7 HX7 HG7 HZ7)
  have HX8' := hide_ (show BoxAt W7 z (splice y.box 242 x.cs) 68 from HX7.out)
  rw [HSET.out] at HX8'
  obtain ⟨s2, hs2⟩ : ∃ s2 : StaM, { y with cf := x } = s2 := ⟨_, rfl⟩
  rw [hs2] at HX8'
  have HP2 := hide_ (show s2.p = foldP s.p mp from by
    rw [HDO.out, ← HYP.out, ← hs2]
    have hp := HXP.out
    unfold StaM.p
    simp only
    rw [hp])
  have HF7 := hide_ (show StaM.fresh W7 (z + 3) s2 from by
    have g := HF6.out.grown HG7.out (fun q hq => by injection hq with hq; omega)
    rw [← hs2]
    exact ⟨g.sl, g.fe, g.li, HXF.out.grown HG7.out (fun q hq => by injection hq with hq; omega)⟩)
  have HY7 := hide_ (show BoxAt W7 z2 zeroSt.box 68 from (HG7.out.block _ HY6.out.lt (fun e => by injection e with e; have := HZS.out; omega)).trans HY6.out)
  have HW7 := hide_ (HW6.out.grown HG7.out HW6.out.size (fun q hq => by injection hq with hq; have := HZE.out; omega))
  clear hs2 hzx
  have hzx7 : z < W7.heap.size := HX8'.out.lt
  have HQS := hide_ (StaM.box_size (s2))
  have HQO := hide_ (StaM.one (s2))
  have HZB := hide_ zeroSt.box_size
  go_wp2_with (first | (refine load_whole 68 (by rfl) _ (by rfl) sta_size sta_row HX8'.out (by rfl) HQS.out ?_) | (refine store_whole 68 (by rfl) _ _ (by rfl) sta_size (by rfl) (by rfl) (cs := StaM.box (s2)) (by rfl) HQS.out HQO.out HY7.out HZB.out ?_; intro W8 HX8 HG8 HZ8))
  refine bodyPost_ret (res_whole sta_size sta_row (by rfl) (by rfl) HX8.out HQS.out) rfl ?_
  have hs := HZS.out
  have hze := HZE.out
  refine HFD.out _ _ s2 rfl HP2.out ((HF7.out.grown HG8.out (fun q hq => by injection hq with hq; omega)).less (by omega)) (HW7.out.grown HG8.out HW7.out.size (fun q hq => by injection hq with hq; omega))

theorem Fold_any14 (s : StaM) (m : RecM) (B : Nat) (w : World) (hs : StaM.good w B s) (hm : RecM.tame w B m) (hB : B ≤ w.heap.size) : Calls Tryz.prog 21 #[s.v, m.v] w (Folded s m.p w) := by
  by_cases hy : mayR m.p = true
  · rcases mayR_kind hy with k | k | k | k | k
    · exact Fold1_any s m B w hs hm hB k hy
    · exact Fold2_any s m B w hs hm hB k hy
    · exact Fold3_any s m B w hs hm hB k hy
    · exact Fold4_any s m B w hs hm hB k hy
    · exact Fold5_any s m B w hs hm hB k hy
  · exact Fold0_any s m B w hs hm hB (by simpa using hy)
end Go.Proofs.YtecbpmnolgkllaaGreat
