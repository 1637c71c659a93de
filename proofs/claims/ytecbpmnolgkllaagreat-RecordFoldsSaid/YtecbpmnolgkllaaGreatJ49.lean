/-
  Texts of this claim put together: Fol14.
-/
import Derived.Test.YtecbpmnolgkllaaGreatJ48
import Derived.Test.YtecbpmnolgkllaaGreatJ45
/-
  What is known behind a record: contracts of the document's Fold and of record's.
-/
namespace Go.Proofs.YtecbpmnolgkllaaGreat
open Go.RowKit

def slotOf (m : RecM) : SlotM := ⟨true, m.pc, m.pn, m.pl, m.ac, m.an, m.al, m.r⟩
def slotOfP (p : RecP) : SlotP := ⟨true, p.pc, p.pn, p.pl, p.ac, p.an, p.al, p.r⟩
def StaP.setF (s : StaP) (i : Nat) (x : SlotP) : StaP := { s with f := fun j => if j = i then x else s.f j }
def doP (s : StaP) (p : RecP) : StaP :=
  if p.ki = 1 then s.setF p.ke (slotOfP p)
  else if p.ki = 2 then s.setF p.ke zeroSP
  else if p.ki = 3 then { s with fe := max s.fe p.fe }
  else if p.ki = 4 then { s with li := p.li }
  else if p.ki = 5 then { s with cf := p.cf }
  else s
def foldP (s : StaP) (p : RecP) : StaP := if mayR p = true then doP s p else s
def doM (s : StaM) (m : RecM) : StaM :=
  if m.ki = 1 then s.setF m.ke (slotOf m)
  else if m.ki = 2 then s.setF m.ke zeroSl
  else if m.ki = 3 then { s with fe := max s.fe m.fe }
  else if m.ki = 4 then { s with li := m.li }
  else if m.ki = 5 then { s with cf := m.cf }
  else s
def foldM (s : StaM) (m : RecM) : StaM := if mayR m.p = true then doM s m else s
theorem setF_p (s : StaM) (i : Nat) (x : SlotM) : (s.setF i x).p = s.p.setF i x.p := by
  unfold StaM.setF StaP.setF StaM.p
  simp only
  congr 1
  funext j
  split <;> rfl
theorem doM_p (s : StaM) (m : RecM) : (doM s m).p = doP s.p m.p := by
  unfold doM doP
  show _ = if m.ki = 1 then _ else if m.ki = 2 then _ else if m.ki = 3 then _ else if m.ki = 4 then _ else if m.ki = 5 then _ else _
  split
  · exact setF_p _ _ _
  split
  · exact setF_p _ _ _
  split
  · rfl
  split
  · rfl
  split <;> rfl
theorem foldM_p (s : StaM) (m : RecM) : (foldM s m).p = foldP s.p m.p := by
  unfold foldM foldP
  split
  · exact doM_p s m
  · rfl
/-- which records may be, by their kinds -/
theorem mayR_kind {p : RecP} (h : mayR p = true) : p.ki = 1 ∨ p.ki = 2 ∨ p.ki = 3 ∨ p.ki = 4 ∨ p.ki = 5 := by
  unfold mayR tellR at h
  rw [Bool.and_eq_true] at h
  by_cases k1 : p.ki = 1
  · exact .inl k1
  by_cases k2 : p.ki = 2
  · exact .inr (.inl k2)
  by_cases k3 : p.ki = 3
  · exact .inr (.inr (.inl k3))
  by_cases k4 : p.ki = 4
  · exact .inr (.inr (.inr (.inl k4)))
  by_cases k5 : p.ki = 5
  · exact .inr (.inr (.inr (.inr k5)))
  rw [if_neg k1, if_neg k2, if_neg k3, if_neg k4, if_neg k5] at h
  exact absurd h.2 (by decide)
theorem mayR_key {p : RecP} (h : mayR p = true) (hk : p.ki = 1 ∨ p.ki = 2) : p.ke < 16 := by
  unfold mayR tellR at h
  rw [Bool.and_eq_true] at h
  rcases hk with hk | hk
  · rw [if_pos hk, Bool.and_eq_true] at h
    exact of_decide_eq_true h.2.1
  · rw [if_neg (by omega), if_pos hk] at h
    exact of_decide_eq_true h.2

structure RecM.tame (w : World) (B : Nat) (m : RecM) : Prop where
  g : RecM.good w B m
  f : m.r.few
/-- what is known behind it may be read where both may be -/
theorem foldM_aside {w : World} {row : Option Nat} {s : StaM} {m : RecM} (hs : SAside w row s) (h1 : m.ok') (hf : m.r.few) (hr : RAside w row m.r) (hc : CAside w row m.cf) : SAside w row (foldM s m) := fun u hu => by
  have g := hs u hu
  obtain ⟨hk, hp, ha, hfe, hli⟩ := h1
  unfold foldM
  split
  · unfold doM
    split
    · refine ⟨fun i hi => ?_, g.fe, g.li, g.cf⟩
      by_cases e : i = m.ke
      · rw [show (s.setF m.ke (slotOf m)).f i = slotOf m from if_pos e]
        exact ⟨⟨⟨hp, ha⟩, hr u hu⟩, hf⟩
      · rw [show (s.setF m.ke (slotOf m)).f i = s.f i from if_neg e]
        exact g.sl i hi
    split
    · refine ⟨fun i hi => ?_, g.fe, g.li, g.cf⟩
      by_cases e : i = m.ke
      · rw [show (s.setF m.ke zeroSl).f i = zeroSl from if_pos e]
        exact (zeroSt_good u u.heap.size).sl i hi
      · rw [show (s.setF m.ke zeroSl).f i = s.f i from if_neg e]
        exact g.sl i hi
    split
    · refine ⟨g.sl, ?_, g.li, g.cf⟩
      have := g.fe
      unfold N64 at *
      show max s.fe m.fe < _
      omega
    split
    · exact ⟨g.sl, g.fe, hli, g.cf⟩
    split
    · exact ⟨g.sl, g.fe, g.li, hc u hu⟩
    · exact g
  · exact g

set_option maxRecDepth 100000 in
set_option maxHeartbeats 6400000 in
theorem refFold0_any (s : StaM) (m : RecM) (B : Nat) (w : World) (hm : RecM.tame w B m) (hB : B ≤ w.heap.size) (hy : mayR m.p = false) : Calls Tryz.prog 58 #[s.v, m.v] w fun e w' => e = .returned (s).v ∧ Below w.heap.size w w' := by
  have HV := hide_ (show s.v = .agg s.box from rfl)
  have HSZ := hide_ s.box_size
  obtain ⟨V, hV⟩ : ∃ V, s.v = V := ⟨_, rfl⟩
  rw [hV] at HV ⊢
  clear hV
  have HM := hide_ (fun (u : World) (h : Below w.heap.size w u) => refMayRec_any m w.heap.size u ((hm.g.more hB).below h) h.size)
  rw [hy] at HM
  clear hy
  obtain ⟨V2, hV2⟩ : ∃ V, m.v = V := ⟨_, rfl⟩
  simp only [hV2] at HM ⊢
  obtain ⟨ki, ke, pc, pn, pl, ac, an, al, ⟨rk, inc, st, ⟨vA, vc, vl⟩, ⟨dA, dc, dl⟩, ⟨oA, oc, ol⟩, la, ⟨mA, mc, ml⟩⟩, fe, li, ⟨C, ⟨xA, xc, xl⟩, ⟨yA, yc, yl⟩⟩⟩ := m
  have HV2 := hide_ (show V2 = .agg #[.int .u8 ki, .int .u8 ke, .int .u64 pc, .int .u8 pn, .int .u32 pl, .int .u64 ac, .int .u8 an, .int .u32 al, .int .u8 rk, .int .u64 inc, .int .i64 st, .slice vA vl.length vc, .slice dA dl.length dc, .slice oA ol.length oc, .int .u64 la, .slice mA ml.length mc, .int .u64 fe, .int .u32 li, .int .u64 C, .slice xA xl.length xc, .slice yA yl.length yc] from hV2.symm)
  clear hV2 hm
  go_enter Tryz.func58, Tryz.ntmps58
  go_upto_region 0 with fail
  refine wp_region_lit ?_
  refine box_whole 68 (by rfl) _ (by rfl) (by rfl) HV.out ?_
  intro W0 HX0 HB0 HZ0
  simp only [Act.put, List.setIfInBounds_toArray, List.set_cons_zero, List.set_cons_succ]
  refine box_whole 54 (by rfl) _ (by rfl) (by rfl) HV2.out ?_
  intro W1 HR1 HB1 HZ1
  simp only [Act.put, List.setIfInBounds_toArray, List.set_cons_zero, List.set_cons_succ]
  refine alloc_whole 68 (by rfl) (by rfl) sta_zero ?_
  intro W2 HY2 HB2 HZ2
  simp only [Act.put, List.setIfInBounds_toArray, List.set_cons_zero, List.set_cons_succ]
  have hz1 := HZ0.out
  have hz2 := HZ1.out
  have hz3 := HZ2.out
  rw [hz1] at hz2
  rw [hz2] at hz3
  have HX2 := hide_ ((HX0.out.below HB1.out).below HB2.out)
  have HR2 := hide_ (HR1.out.below HB2.out)
  have HW2 := hide_ ((HB0.out.trans (HB1.out.mono HB0.out.size)).trans (HB2.out.mono (HB0.out.trans (HB1.out.mono HB0.out.size)).size))
  obtain ⟨z, hz⟩ : ∃ z, w.heap.size = z := ⟨_, rfl⟩
  obtain ⟨z1, hz1'⟩ : ∃ z, W0.heap.size = z := ⟨_, rfl⟩
  obtain ⟨z2, hz2'⟩ : ∃ z, W1.heap.size = z := ⟨_, rfl⟩
  have HZS := hide_ (show z1 = z + 1 ∧ z2 = z + 2 ∧ W2.heap.size = z + 3 from by omega)
  have HZE := hide_ hz
  rw [hz] at HX2 ⊢
  rw [hz1'] at HR2 ⊢
  rw [hz2'] at HY2 ⊢
  clear HX0 HB0 HZ0 HR1 HB1 HZ1 HB2 HZ2 hz1 hz2 hz3 hz hz1' hz2'
  have hcx := HR2.out.cell
  have hzz : z1 < W2.heap.size := HR2.out.lt
  have hzx : z < W2.heap.size := HX2.out.lt
  go_wp2_with (refine load_whole 54 (by rfl) _ (by rfl) rec_size rec_row HR2.out (by rfl) (by rfl) ?_; rw [← HV2.out])
  refine (HM.out _ HW2.out).mono ?_
  rintro en w3 ⟨rfl, hb3⟩
  have HX3 := hide_ (HX2.out.below hb3)
  have HR3 := hide_ (HR2.out.below hb3)
  have HY3 := hide_ (HY2.out.below hb3)
  have HW3 := hide_ (HW2.out.trans (hb3.mono HW2.out.size))
  clear hb3 hcx hzz hzx HM HX2 HR2 HY2
  have hcx := HR3.out.cell
  have hzz : z1 < w3.heap.size := HR3.out.lt
  have hzx : z < w3.heap.size := HX3.out.lt
  have HQS := hide_ (StaM.box_size (s))
  have HQO := hide_ (StaM.one (s))
  have HZB := hide_ zeroSt.box_size
  go_wp2_with (first | (refine load_whole 68 (by rfl) _ (by rfl) sta_size sta_row HX3.out (by rfl) HQS.out ?_) | (refine store_whole 68 (by rfl) _ _ (by rfl) sta_size (by rfl) (by rfl) (cs := StaM.box (s)) (by rfl) HQS.out HQO.out HY3.out HZB.out ?_; intro W8 HX8 HG8 HZ8))
  refine bodyPost_ret (res_whole sta_size sta_row (by rfl) (by rfl) HX8.out HQS.out) rfl ?_
  have hs := HZS.out
  have hze := HZE.out
  exact ⟨by rw [HV.out], HW3.out.grown HG8.out HW3.out.size (fun q hq => by injection hq with hq; omega)⟩

set_option maxRecDepth 100000 in
set_option maxHeartbeats 6400000 in
theorem refFold1_any (s : StaM) (m : RecM) (B : Nat) (w : World) (hm : RecM.tame w B m) (hB : B ≤ w.heap.size) (hk : m.ki = 1) (hy : mayR m.p = true) : Calls Tryz.prog 58 #[s.v, m.v] w fun e w' => e = .returned (doM s m).v ∧ Below w.heap.size w w' := by
  have HV := hide_ (show s.v = .agg s.box from rfl)
  have HSZ := hide_ s.box_size
  obtain ⟨V, hV⟩ : ∃ V, s.v = V := ⟨_, rfl⟩
  rw [hV] at HV ⊢
  clear hV
  have HM := hide_ (fun (u : World) (h : Below w.heap.size w u) => refMayRec_any m w.heap.size u ((hm.g.more hB).below h) h.size)
  rw [hy] at HM
  have HDO := hide_ (show doM s m = s.setF m.ke (slotOf m) from by unfold doM;  rw [if_pos hk])
  obtain ⟨s2, hs2⟩ : ∃ x, doM s m = x := ⟨_, rfl⟩
  rw [hs2] at HDO ⊢
  clear hs2
  have hke := mayR_key hy (.inl hk)
  have hke16 : m.ke < 16 := hke
  clear hke
  clear hy
  obtain ⟨V2, hV2⟩ : ∃ V, m.v = V := ⟨_, rfl⟩
  simp only [hV2] at HM ⊢
  obtain ⟨ki, ke, pc, pn, pl, ac, an, al, ⟨rk, inc, st, ⟨vA, vc, vl⟩, ⟨dA, dc, dl⟩, ⟨oA, oc, ol⟩, la, ⟨mA, mc, ml⟩⟩, fe, li, ⟨C, ⟨xA, xc, xl⟩, ⟨yA, yc, yl⟩⟩⟩ := m
  have HV2 := hide_ (show V2 = .agg #[.int .u8 ki, .int .u8 ke, .int .u64 pc, .int .u8 pn, .int .u32 pl, .int .u64 ac, .int .u8 an, .int .u32 al, .int .u8 rk, .int .u64 inc, .int .i64 st, .slice vA vl.length vc, .slice dA dl.length dc, .slice oA ol.length oc, .int .u64 la, .slice mA ml.length mc, .int .u64 fe, .int .u32 li, .int .u64 C, .slice xA xl.length xc, .slice yA yl.length yc] from hV2.symm)
  clear hV2 hm
  simp only at hk
  subst hk
  go_enter Tryz.func58, Tryz.ntmps58
  go_upto_region 0 with fail
  refine wp_region_lit ?_
  refine box_whole 68 (by rfl) _ (by rfl) (by rfl) HV.out ?_
  intro W0 HX0 HB0 HZ0
  simp only [Act.put, List.setIfInBounds_toArray, List.set_cons_zero, List.set_cons_succ]
  refine box_whole 54 (by rfl) _ (by rfl) (by rfl) HV2.out ?_
  intro W1 HR1 HB1 HZ1
  simp only [Act.put, List.setIfInBounds_toArray, List.set_cons_zero, List.set_cons_succ]
  refine alloc_whole 68 (by rfl) (by rfl) sta_zero ?_
  intro W2 HY2 HB2 HZ2
  simp only [Act.put, List.setIfInBounds_toArray, List.set_cons_zero, List.set_cons_succ]
  have hz1 := HZ0.out
  have hz2 := HZ1.out
  have hz3 := HZ2.out
  rw [hz1] at hz2
  rw [hz2] at hz3
  have HX2 := hide_ ((HX0.out.below HB1.out).below HB2.out)
  have HR2 := hide_ (HR1.out.below HB2.out)
  have HW2 := hide_ ((HB0.out.trans (HB1.out.mono HB0.out.size)).trans (HB2.out.mono (HB0.out.trans (HB1.out.mono HB0.out.size)).size))
  obtain ⟨z, hz⟩ : ∃ z, w.heap.size = z := ⟨_, rfl⟩
  obtain ⟨z1, hz1'⟩ : ∃ z, W0.heap.size = z := ⟨_, rfl⟩
  obtain ⟨z2, hz2'⟩ : ∃ z, W1.heap.size = z := ⟨_, rfl⟩
  have HZS := hide_ (show z1 = z + 1 ∧ z2 = z + 2 ∧ W2.heap.size = z + 3 from by omega)
  have HZE := hide_ hz
  rw [hz] at HX2 ⊢
  rw [hz1'] at HR2 ⊢
  rw [hz2'] at HY2 ⊢
  clear HX0 HB0 HZ0 HR1 HB1 HZ1 HB2 HZ2 hz1 hz2 hz3 hz hz1' hz2'
  have hcx := HR2.out.cell
  have hzz : z1 < W2.heap.size := HR2.out.lt
  have hzx : z < W2.heap.size := HX2.out.lt
  go_wp2_with (refine load_whole 54 (by rfl) _ (by rfl) rec_size rec_row HR2.out (by rfl) (by rfl) ?_; rw [← HV2.out])
  refine (HM.out _ HW2.out).mono ?_
  rintro en w3 ⟨rfl, hb3⟩
  have HX3 := hide_ (HX2.out.below hb3)
  have HR3 := hide_ (HR2.out.below hb3)
  have HY3 := hide_ (HY2.out.below hb3)
  have HW3 := hide_ (HW2.out.trans (hb3.mono HW2.out.size))
  clear hb3 hcx hzz hzx HM HX2 HR2 HY2
  have hcx := HR3.out.cell
  have hzz : z1 < w3.heap.size := HR3.out.lt
  have hzx : z < w3.heap.size := HX3.out.lt
  have HSET := hide_ (s.slot_set hke16 (⟨true, pc, pn, pl, ac, an, al, ⟨rk, inc, st, ⟨vA, vc, vl⟩, ⟨dA, dc, dl⟩, ⟨oA, oc, ol⟩, la, ⟨mA, mc, ml⟩⟩⟩ : SlotM))
  have hk15 : (ke : Int) * 15 = ((ke * 15 : Nat) : Int) := by omega
  go_upto_region 14 with (first | (refine build_known 65 _ (by rfl) (by rfl) (V := .agg #[.bool true, .int .u64 pc, .int .u8 pn, .int .u32 pl, .int .u64 ac, .int .u8 an, .int .u32 al, .int .u8 rk, .int .u64 inc, .int .i64 st, .slice vA vl.length vc, .slice dA dl.length dc, .slice oA ol.length oc, .int .u64 la, .slice mA ml.length mc]) (by kernel_rfl) ?_) | (refine store_part 65 (by rfl) _ _ (by rfl) slot_size (by rfl) (by rfl) (cells := #[.bool true, .int .u64 pc, .int .u8 pn, .int .u32 pl, .int .u64 ac, .int .u8 an, .int .u32 al, .int .u8 rk, .int .u64 inc, .int .i64 st, .slice vA vl.length vc, .slice dA dl.length dc, .slice oA ol.length oc, .int .u64 la, .slice mA ml.length mc]) (by rfl) (by rfl) (by simp [Value.oneCell']) HX3.out (by rw [HSZ.out]; omega) ?_; intro W4 HX4 HG4 HZ4))
  have HX5 := hide_ (show BoxAt W4 z (splice s.box (ke * 15) ((⟨true, pc, pn, pl, ac, an, al, ⟨rk, inc, st, ⟨vA, vc, vl⟩, ⟨dA, dc, dl⟩, ⟨oA, oc, ol⟩, la, ⟨mA, mc, ml⟩⟩⟩ : SlotM)).cs) 68 from HX4.out)
  rw [HSET.out] at HX5
  have HDE := hide_ HDO.out.symm
  have HX6 := hide_ (show BoxAt W4 z s2.box 68 from by rw [← HDE.out]; exact HX5.out)
  have HY6 := hide_ (show BoxAt W4 z2 zeroSt.box 68 from (HG4.out.block _ HY3.out.lt (fun e => by injection e with e; have := HZS.out; omega)).trans HY3.out)
  have HW4 := hide_ (HW3.out.grown HG4.out HW3.out.size (fun q hq => by injection hq with hq; have := HZE.out; omega))
  clear hcx hzz hzx HX5 HDE
  have hzx : z < W4.heap.size := HX6.out.lt
  have HQS := hide_ (StaM.box_size (s2))
  have HQO := hide_ (StaM.one (s2))
  have HZB := hide_ zeroSt.box_size
  go_wp2_with (first | (refine load_whole 68 (by rfl) _ (by rfl) sta_size sta_row HX6.out (by rfl) HQS.out ?_) | (refine store_whole 68 (by rfl) _ _ (by rfl) sta_size (by rfl) (by rfl) (cs := StaM.box (s2)) (by rfl) HQS.out HQO.out HY6.out HZB.out ?_; intro W8 HX8 HG8 HZ8))
  refine bodyPost_ret (res_whole sta_size sta_row (by rfl) (by rfl) HX8.out HQS.out) rfl ?_
  have hs := HZS.out
  have hze := HZE.out
  exact ⟨rfl, HW4.out.grown HG8.out HW4.out.size (fun q hq => by injection hq with hq; omega)⟩

set_option maxRecDepth 100000 in
set_option maxHeartbeats 6400000 in
theorem refFold2_any (s : StaM) (m : RecM) (B : Nat) (w : World) (hm : RecM.tame w B m) (hB : B ≤ w.heap.size) (hk : m.ki = 2) (hy : mayR m.p = true) : Calls Tryz.prog 58 #[s.v, m.v] w fun e w' => e = .returned (doM s m).v ∧ Below w.heap.size w w' := by
  have HV := hide_ (show s.v = .agg s.box from rfl)
  have HSZ := hide_ s.box_size
  obtain ⟨V, hV⟩ : ∃ V, s.v = V := ⟨_, rfl⟩
  rw [hV] at HV ⊢
  clear hV
  have HM := hide_ (fun (u : World) (h : Below w.heap.size w u) => refMayRec_any m w.heap.size u ((hm.g.more hB).below h) h.size)
  rw [hy] at HM
  have HDO := hide_ (show doM s m = s.setF m.ke zeroSl from by unfold doM; rw [if_neg (show ¬ m.ki = 1 from by omega)]; rw [if_pos hk])
  obtain ⟨s2, hs2⟩ : ∃ x, doM s m = x := ⟨_, rfl⟩
  rw [hs2] at HDO ⊢
  clear hs2
  have hke := mayR_key hy (.inr hk)
  have hke16 : m.ke < 16 := hke
  clear hke
  clear hy
  obtain ⟨V2, hV2⟩ : ∃ V, m.v = V := ⟨_, rfl⟩
  simp only [hV2] at HM ⊢
  obtain ⟨ki, ke, pc, pn, pl, ac, an, al, ⟨rk, inc, st, ⟨vA, vc, vl⟩, ⟨dA, dc, dl⟩, ⟨oA, oc, ol⟩, la, ⟨mA, mc, ml⟩⟩, fe, li, ⟨C, ⟨xA, xc, xl⟩, ⟨yA, yc, yl⟩⟩⟩ := m
  have HV2 := hide_ (show V2 = .agg #[.int .u8 ki, .int .u8 ke, .int .u64 pc, .int .u8 pn, .int .u32 pl, .int .u64 ac, .int .u8 an, .int .u32 al, .int .u8 rk, .int .u64 inc, .int .i64 st, .slice vA vl.length vc, .slice dA dl.length dc, .slice oA ol.length oc, .int .u64 la, .slice mA ml.length mc, .int .u64 fe, .int .u32 li, .int .u64 C, .slice xA xl.length xc, .slice yA yl.length yc] from hV2.symm)
  clear hV2 hm
  simp only at hk
  subst hk
  go_enter Tryz.func58, Tryz.ntmps58
  go_upto_region 0 with fail
  refine wp_region_lit ?_
  refine box_whole 68 (by rfl) _ (by rfl) (by rfl) HV.out ?_
  intro W0 HX0 HB0 HZ0
  simp only [Act.put, List.setIfInBounds_toArray, List.set_cons_zero, List.set_cons_succ]
  refine box_whole 54 (by rfl) _ (by rfl) (by rfl) HV2.out ?_
  intro W1 HR1 HB1 HZ1
  simp only [Act.put, List.setIfInBounds_toArray, List.set_cons_zero, List.set_cons_succ]
  refine alloc_whole 68 (by rfl) (by rfl) sta_zero ?_
  intro W2 HY2 HB2 HZ2
  simp only [Act.put, List.setIfInBounds_toArray, List.set_cons_zero, List.set_cons_succ]
  have hz1 := HZ0.out
  have hz2 := HZ1.out
  have hz3 := HZ2.out
  rw [hz1] at hz2
  rw [hz2] at hz3
  have HX2 := hide_ ((HX0.out.below HB1.out).below HB2.out)
  have HR2 := hide_ (HR1.out.below HB2.out)
  have HW2 := hide_ ((HB0.out.trans (HB1.out.mono HB0.out.size)).trans (HB2.out.mono (HB0.out.trans (HB1.out.mono HB0.out.size)).size))
  obtain ⟨z, hz⟩ : ∃ z, w.heap.size = z := ⟨_, rfl⟩
  obtain ⟨z1, hz1'⟩ : ∃ z, W0.heap.size = z := ⟨_, rfl⟩
  obtain ⟨z2, hz2'⟩ : ∃ z, W1.heap.size = z := ⟨_, rfl⟩
  have HZS := hide_ (show z1 = z + 1 ∧ z2 = z + 2 ∧ W2.heap.size = z + 3 from by omega)
  have HZE := hide_ hz
  rw [hz] at HX2 ⊢
  rw [hz1'] at HR2 ⊢
  rw [hz2'] at HY2 ⊢
  clear HX0 HB0 HZ0 HR1 HB1 HZ1 HB2 HZ2 hz1 hz2 hz3 hz hz1' hz2'
  have hcx := HR2.out.cell
  have hzz : z1 < W2.heap.size := HR2.out.lt
  have hzx : z < W2.heap.size := HX2.out.lt
  go_wp2_with (refine load_whole 54 (by rfl) _ (by rfl) rec_size rec_row HR2.out (by rfl) (by rfl) ?_; rw [← HV2.out])
  refine (HM.out _ HW2.out).mono ?_
  rintro en w3 ⟨rfl, hb3⟩
  have HX3 := hide_ (HX2.out.below hb3)
  have HR3 := hide_ (HR2.out.below hb3)
  have HY3 := hide_ (HY2.out.below hb3)
  have HW3 := hide_ (HW2.out.trans (hb3.mono HW2.out.size))
  clear hb3 hcx hzz hzx HM HX2 HR2 HY2
  have hcx := HR3.out.cell
  have hzz : z1 < w3.heap.size := HR3.out.lt
  have hzx : z < w3.heap.size := HX3.out.lt
  have HSET := hide_ (s.slot_set hke16 zeroSl)
  have hk15 : (ke : Int) * 15 = ((ke * 15 : Nat) : Int) := by omega
  go_upto_region 14 with (first | (refine build_known 65 _ (by rfl) (by rfl) (V := .agg #[.bool false, .int .u64 0, .int .u8 0, .int .u32 0, .int .u64 0, .int .u8 0, .int .u32 0, .int .u8 0, .int .u64 0, .int .i64 0, .slice none 0 0, .slice none 0 0, .slice none 0 0, .int .u64 0, .slice none 0 0]) (by kernel_rfl) ?_) | (refine store_part 65 (by rfl) _ _ (by rfl) slot_size (by rfl) (by rfl) (cells := #[.bool false, .int .u64 0, .int .u8 0, .int .u32 0, .int .u64 0, .int .u8 0, .int .u32 0, .int .u8 0, .int .u64 0, .int .i64 0, .slice none 0 0, .slice none 0 0, .slice none 0 0, .int .u64 0, .slice none 0 0]) (by rfl) (by rfl) (by simp [Value.oneCell']) HX3.out (by rw [HSZ.out]; omega) ?_; intro W4 HX4 HG4 HZ4))
  have HX5 := hide_ (show BoxAt W4 z (splice s.box (ke * 15) zeroSl.cs) 68 from HX4.out)
  rw [HSET.out] at HX5
  have HDE := hide_ HDO.out.symm
  have HX6 := hide_ (show BoxAt W4 z s2.box 68 from by rw [← HDE.out]; exact HX5.out)
  have HY6 := hide_ (show BoxAt W4 z2 zeroSt.box 68 from (HG4.out.block _ HY3.out.lt (fun e => by injection e with e; have := HZS.out; omega)).trans HY3.out)
  have HW4 := hide_ (HW3.out.grown HG4.out HW3.out.size (fun q hq => by injection hq with hq; have := HZE.out; omega))
  clear hcx hzz hzx HX5 HDE
  have hzx : z < W4.heap.size := HX6.out.lt
  have HQS := hide_ (StaM.box_size (s2))
  have HQO := hide_ (StaM.one (s2))
  have HZB := hide_ zeroSt.box_size
  go_wp2_with (first | (refine load_whole 68 (by rfl) _ (by rfl) sta_size sta_row HX6.out (by rfl) HQS.out ?_) | (refine store_whole 68 (by rfl) _ _ (by rfl) sta_size (by rfl) (by rfl) (cs := StaM.box (s2)) (by rfl) HQS.out HQO.out HY6.out HZB.out ?_; intro W8 HX8 HG8 HZ8))
  refine bodyPost_ret (res_whole sta_size sta_row (by rfl) (by rfl) HX8.out HQS.out) rfl ?_
  have hs := HZS.out
  have hze := HZE.out
  exact ⟨rfl, HW4.out.grown HG8.out HW4.out.size (fun q hq => by injection hq with hq; omega)⟩

set_option maxRecDepth 100000 in
set_option maxHeartbeats 6400000 in
theorem refFold3_any (s : StaM) (m : RecM) (B : Nat) (w : World) (hm : RecM.tame w B m) (hB : B ≤ w.heap.size) (hk : m.ki = 3) (hy : mayR m.p = true) : Calls Tryz.prog 58 #[s.v, m.v] w fun e w' => e = .returned (doM s m).v ∧ Below w.heap.size w w' := by
  have HV := hide_ (show s.v = .agg s.box from rfl)
  have HSZ := hide_ s.box_size
  obtain ⟨V, hV⟩ : ∃ V, s.v = V := ⟨_, rfl⟩
  rw [hV] at HV ⊢
  clear hV
  have HM := hide_ (fun (u : World) (h : Below w.heap.size w u) => refMayRec_any m w.heap.size u ((hm.g.more hB).below h) h.size)
  rw [hy] at HM
  have HDO := hide_ (show doM s m = { s with fe := max s.fe m.fe } from by unfold doM; rw [if_neg (show ¬ m.ki = 1 from by omega)]; rw [if_neg (show ¬ m.ki = 2 from by omega)]; rw [if_pos hk])
  obtain ⟨s2, hs2⟩ : ∃ x, doM s m = x := ⟨_, rfl⟩
  rw [hs2] at HDO ⊢
  clear hs2
  have HFE := hide_ s.cell_fe
  clear hy
  obtain ⟨V2, hV2⟩ : ∃ V, m.v = V := ⟨_, rfl⟩
  simp only [hV2] at HM ⊢
  obtain ⟨ki, ke, pc, pn, pl, ac, an, al, ⟨rk, inc, st, ⟨vA, vc, vl⟩, ⟨dA, dc, dl⟩, ⟨oA, oc, ol⟩, la, ⟨mA, mc, ml⟩⟩, fe, li, ⟨C, ⟨xA, xc, xl⟩, ⟨yA, yc, yl⟩⟩⟩ := m
  have HV2 := hide_ (show V2 = .agg #[.int .u8 ki, .int .u8 ke, .int .u64 pc, .int .u8 pn, .int .u32 pl, .int .u64 ac, .int .u8 an, .int .u32 al, .int .u8 rk, .int .u64 inc, .int .i64 st, .slice vA vl.length vc, .slice dA dl.length dc, .slice oA ol.length oc, .int .u64 la, .slice mA ml.length mc, .int .u64 fe, .int .u32 li, .int .u64 C, .slice xA xl.length xc, .slice yA yl.length yc] from hV2.symm)
  clear hV2 hm
  simp only at hk
  subst hk
  go_enter Tryz.func58, Tryz.ntmps58
  go_upto_region 0 with fail
  refine wp_region_lit ?_
  refine box_whole 68 (by rfl) _ (by rfl) (by rfl) HV.out ?_
  intro W0 HX0 HB0 HZ0
  simp only [Act.put, List.setIfInBounds_toArray, List.set_cons_zero, List.set_cons_succ]
  refine box_whole 54 (by rfl) _ (by rfl) (by rfl) HV2.out ?_
  intro W1 HR1 HB1 HZ1
  simp only [Act.put, List.setIfInBounds_toArray, List.set_cons_zero, List.set_cons_succ]
  refine alloc_whole 68 (by rfl) (by rfl) sta_zero ?_
  intro W2 HY2 HB2 HZ2
  simp only [Act.put, List.setIfInBounds_toArray, List.set_cons_zero, List.set_cons_succ]
  have hz1 := HZ0.out
  have hz2 := HZ1.out
  have hz3 := HZ2.out
  rw [hz1] at hz2
  rw [hz2] at hz3
  have HX2 := hide_ ((HX0.out.below HB1.out).below HB2.out)
  have HR2 := hide_ (HR1.out.below HB2.out)
  have HW2 := hide_ ((HB0.out.trans (HB1.out.mono HB0.out.size)).trans (HB2.out.mono (HB0.out.trans (HB1.out.mono HB0.out.size)).size))
  obtain ⟨z, hz⟩ : ∃ z, w.heap.size = z := ⟨_, rfl⟩
  obtain ⟨z1, hz1'⟩ : ∃ z, W0.heap.size = z := ⟨_, rfl⟩
  obtain ⟨z2, hz2'⟩ : ∃ z, W1.heap.size = z := ⟨_, rfl⟩
  have HZS := hide_ (show z1 = z + 1 ∧ z2 = z + 2 ∧ W2.heap.size = z + 3 from by omega)
  have HZE := hide_ hz
  rw [hz] at HX2 ⊢
  rw [hz1'] at HR2 ⊢
  rw [hz2'] at HY2 ⊢
  clear HX0 HB0 HZ0 HR1 HB1 HZ1 HB2 HZ2 hz1 hz2 hz3 hz hz1' hz2'
  have hcx := HR2.out.cell
  have hzz : z1 < W2.heap.size := HR2.out.lt
  have hzx : z < W2.heap.size := HX2.out.lt
  go_wp2_with (refine load_whole 54 (by rfl) _ (by rfl) rec_size rec_row HR2.out (by rfl) (by rfl) ?_; rw [← HV2.out])
  refine (HM.out _ HW2.out).mono ?_
  rintro en w3 ⟨rfl, hb3⟩
  have HX3 := hide_ (HX2.out.below hb3)
  have HR3 := hide_ (HR2.out.below hb3)
  have HY3 := hide_ (HY2.out.below hb3)
  have HW3 := hide_ (HW2.out.trans (hb3.mono HW2.out.size))
  clear hb3 hcx hzz hzx HM HX2 HR2 HY2
  have hcx := HR3.out.cell
  have hzz : z1 < w3.heap.size := HR3.out.lt
  have hzx : z < w3.heap.size := HX3.out.lt
  have r0 := (HX3.out.cell 240).trans s.cell_fe
  have f0 := HX3.out.free9 240
  obtain ⟨fs, hfs⟩ : ∃ f, s.fe = f := ⟨_, rfl⟩
  rw [hfs] at r0
  obtain ⟨mx, hmx⟩ : ∃ f, max fs fe = f := ⟨_, rfl⟩
  have hmi : (if fs < fe then (fe : Int) else (fs : Int)) = (mx : Int) := by split <;> omega
  have HMX := hide_ hmx
  have HFS := hide_ hfs
  clear hmx hfs
  go_upto_region 14 with fail
  try rw [hmi]
  have HX5 := hide_ (HX3.out.set9 240 (.int .u64 mx))
  rw [s.fe_set] at HX5
  obtain ⟨W4, hW4⟩ : ∃ W, w3.setCell ⟨z, 240, none⟩ (.int .u64 mx) = W := ⟨_, rfl⟩
  have HG4 := hide_ (grown_cell9 w3 z 240 (.int .u64 mx))
  rw [hW4] at HX5 HG4 ⊢
  clear hW4 r0 f0
  have HDE := hide_ HDO.out.symm
  have hdo := HDO.out
  simp only [HFS.out, HMX.out] at hdo
  have HDE := hide_ hdo.symm
  have HX6 := hide_ (show BoxAt W4 z s2.box 68 from by rw [← HDE.out]; exact HX5.out)
  have HY6 := hide_ (show BoxAt W4 z2 zeroSt.box 68 from (HG4.out.block _ HY3.out.lt (fun e => by injection e with e; have := HZS.out; omega)).trans HY3.out)
  have HW4 := hide_ (HW3.out.grown HG4.out HW3.out.size (fun q hq => by injection hq with hq; have := HZE.out; omega))
  clear hcx hzz hzx HX5 HDE
  have hzx : z < W4.heap.size := HX6.out.lt
  have HQS := hide_ (StaM.box_size (s2))
  have HQO := hide_ (StaM.one (s2))
  have HZB := hide_ zeroSt.box_size
  go_wp2_with (first | (refine load_whole 68 (by rfl) _ (by rfl) sta_size sta_row HX6.out (by rfl) HQS.out ?_) | (refine store_whole 68 (by rfl) _ _ (by rfl) sta_size (by rfl) (by rfl) (cs := StaM.box (s2)) (by rfl) HQS.out HQO.out HY6.out HZB.out ?_; intro W8 HX8 HG8 HZ8))
  refine bodyPost_ret (res_whole sta_size sta_row (by rfl) (by rfl) HX8.out HQS.out) rfl ?_
  have hs := HZS.out
  have hze := HZE.out
  exact ⟨rfl, HW4.out.grown HG8.out HW4.out.size (fun q hq => by injection hq with hq; omega)⟩

set_option maxRecDepth 100000 in
set_option maxHeartbeats 6400000 in
theorem refFold4_any (s : StaM) (m : RecM) (B : Nat) (w : World) (hm : RecM.tame w B m) (hB : B ≤ w.heap.size) (hk : m.ki = 4) (hy : mayR m.p = true) : Calls Tryz.prog 58 #[s.v, m.v] w fun e w' => e = .returned (doM s m).v ∧ Below w.heap.size w w' := by
  have HV := hide_ (show s.v = .agg s.box from rfl)
  have HSZ := hide_ s.box_size
  obtain ⟨V, hV⟩ : ∃ V, s.v = V := ⟨_, rfl⟩
  rw [hV] at HV ⊢
  clear hV
  have HM := hide_ (fun (u : World) (h : Below w.heap.size w u) => refMayRec_any m w.heap.size u ((hm.g.more hB).below h) h.size)
  rw [hy] at HM
  have HDO := hide_ (show doM s m = { s with li := m.li } from by unfold doM; rw [if_neg (show ¬ m.ki = 1 from by omega)]; rw [if_neg (show ¬ m.ki = 2 from by omega)]; rw [if_neg (show ¬ m.ki = 3 from by omega)]; rw [if_pos hk])
  obtain ⟨s2, hs2⟩ : ∃ x, doM s m = x := ⟨_, rfl⟩
  rw [hs2] at HDO ⊢
  clear hs2
  clear hy
  obtain ⟨V2, hV2⟩ : ∃ V, m.v = V := ⟨_, rfl⟩
  simp only [hV2] at HM ⊢
  obtain ⟨ki, ke, pc, pn, pl, ac, an, al, ⟨rk, inc, st, ⟨vA, vc, vl⟩, ⟨dA, dc, dl⟩, ⟨oA, oc, ol⟩, la, ⟨mA, mc, ml⟩⟩, fe, li, ⟨C, ⟨xA, xc, xl⟩, ⟨yA, yc, yl⟩⟩⟩ := m
  have HV2 := hide_ (show V2 = .agg #[.int .u8 ki, .int .u8 ke, .int .u64 pc, .int .u8 pn, .int .u32 pl, .int .u64 ac, .int .u8 an, .int .u32 al, .int .u8 rk, .int .u64 inc, .int .i64 st, .slice vA vl.length vc, .slice dA dl.length dc, .slice oA ol.length oc, .int .u64 la, .slice mA ml.length mc, .int .u64 fe, .int .u32 li, .int .u64 C, .slice xA xl.length xc, .slice yA yl.length yc] from hV2.symm)
  clear hV2 hm
  simp only at hk
  subst hk
  go_enter Tryz.func58, Tryz.ntmps58
  go_upto_region 0 with fail
  refine wp_region_lit ?_
  refine box_whole 68 (by rfl) _ (by rfl) (by rfl) HV.out ?_
  intro W0 HX0 HB0 HZ0
  simp only [Act.put, List.setIfInBounds_toArray, List.set_cons_zero, List.set_cons_succ]
  refine box_whole 54 (by rfl) _ (by rfl) (by rfl) HV2.out ?_
  intro W1 HR1 HB1 HZ1
  simp only [Act.put, List.setIfInBounds_toArray, List.set_cons_zero, List.set_cons_succ]
  refine alloc_whole 68 (by rfl) (by rfl) sta_zero ?_
  intro W2 HY2 HB2 HZ2
  simp only [Act.put, List.setIfInBounds_toArray, List.set_cons_zero, List.set_cons_succ]
  have hz1 := HZ0.out
  have hz2 := HZ1.out
  have hz3 := HZ2.out
  rw [hz1] at hz2
  rw [hz2] at hz3
  have HX2 := hide_ ((HX0.out.below HB1.out).below HB2.out)
  have HR2 := hide_ (HR1.out.below HB2.out)
  have HW2 := hide_ ((HB0.out.trans (HB1.out.mono HB0.out.size)).trans (HB2.out.mono (HB0.out.trans (HB1.out.mono HB0.out.size)).size))
  obtain ⟨z, hz⟩ : ∃ z, w.heap.size = z := ⟨_, rfl⟩
  obtain ⟨z1, hz1'⟩ : ∃ z, W0.heap.size = z := ⟨_, rfl⟩
  obtain ⟨z2, hz2'⟩ : ∃ z, W1.heap.size = z := ⟨_, rfl⟩
  have HZS := hide_ (show z1 = z + 1 ∧ z2 = z + 2 ∧ W2.heap.size = z + 3 from by omega)
  have HZE := hide_ hz
  rw [hz] at HX2 ⊢
  rw [hz1'] at HR2 ⊢
  rw [hz2'] at HY2 ⊢
  clear HX0 HB0 HZ0 HR1 HB1 HZ1 HB2 HZ2 hz1 hz2 hz3 hz hz1' hz2'
  have hcx := HR2.out.cell
  have hzz : z1 < W2.heap.size := HR2.out.lt
  have hzx : z < W2.heap.size := HX2.out.lt
  go_wp2_with (refine load_whole 54 (by rfl) _ (by rfl) rec_size rec_row HR2.out (by rfl) (by rfl) ?_; rw [← HV2.out])
  refine (HM.out _ HW2.out).mono ?_
  rintro en w3 ⟨rfl, hb3⟩
  have HX3 := hide_ (HX2.out.below hb3)
  have HR3 := hide_ (HR2.out.below hb3)
  have HY3 := hide_ (HY2.out.below hb3)
  have HW3 := hide_ (HW2.out.trans (hb3.mono HW2.out.size))
  clear hb3 hcx hzz hzx HM HX2 HR2 HY2
  have hcx := HR3.out.cell
  have hzz : z1 < w3.heap.size := HR3.out.lt
  have hzx : z < w3.heap.size := HX3.out.lt
  have r0 := (HX3.out.cell 241).trans s.cell_li
  have f0 := HX3.out.free9 241
  go_upto_region 14 with fail
  have HX5 := hide_ (HX3.out.set9 241 (.int .u32 li))
  rw [s.li_set] at HX5
  obtain ⟨W4, hW4⟩ : ∃ W, w3.setCell ⟨z, 241, none⟩ (.int .u32 li) = W := ⟨_, rfl⟩
  have HG4 := hide_ (grown_cell9 w3 z 241 (.int .u32 li))
  rw [hW4] at HX5 HG4 ⊢
  clear hW4 r0 f0
  have HDE := hide_ HDO.out.symm
  have HX6 := hide_ (show BoxAt W4 z s2.box 68 from by rw [← HDE.out]; exact HX5.out)
  have HY6 := hide_ (show BoxAt W4 z2 zeroSt.box 68 from (HG4.out.block _ HY3.out.lt (fun e => by injection e with e; have := HZS.out; omega)).trans HY3.out)
  have HW4 := hide_ (HW3.out.grown HG4.out HW3.out.size (fun q hq => by injection hq with hq; have := HZE.out; omega))
  clear hcx hzz hzx HX5 HDE
  have hzx : z < W4.heap.size := HX6.out.lt
  have HQS := hide_ (StaM.box_size (s2))
  have HQO := hide_ (StaM.one (s2))
  have HZB := hide_ zeroSt.box_size
  go_wp2_with (first | (refine load_whole 68 (by rfl) _ (by rfl) sta_size sta_row HX6.out (by rfl) HQS.out ?_) | (refine store_whole 68 (by rfl) _ _ (by rfl) sta_size (by rfl) (by rfl) (cs := StaM.box (s2)) (by rfl) HQS.out HQO.out HY6.out HZB.out ?_; intro W8 HX8 HG8 HZ8))
  refine bodyPost_ret (res_whole sta_size sta_row (by rfl) (by rfl) HX8.out HQS.out) rfl ?_
  have hs := HZS.out
  have hze := HZE.out
  exact ⟨rfl, HW4.out.grown HG8.out HW4.out.size (fun q hq => by injection hq with hq; omega)⟩

set_option maxRecDepth 100000 in
set_option maxHeartbeats 6400000 in
theorem refFold5_any (s : StaM) (m : RecM) (B : Nat) (w : World) (hm : RecM.tame w B m) (hB : B ≤ w.heap.size) (hk : m.ki = 5) (hy : mayR m.p = true) : Calls Tryz.prog 58 #[s.v, m.v] w fun e w' => e = .returned (doM s m).v ∧ Below w.heap.size w w' := by
  have HV := hide_ (show s.v = .agg s.box from rfl)
  have HSZ := hide_ s.box_size
  obtain ⟨V, hV⟩ : ∃ V, s.v = V := ⟨_, rfl⟩
  rw [hV] at HV ⊢
  clear hV
  have HM := hide_ (fun (u : World) (h : Below w.heap.size w u) => refMayRec_any m w.heap.size u ((hm.g.more hB).below h) h.size)
  rw [hy] at HM
  have HDO := hide_ (show doM s m = { s with cf := m.cf } from by unfold doM; rw [if_neg (show ¬ m.ki = 1 from by omega)]; rw [if_neg (show ¬ m.ki = 2 from by omega)]; rw [if_neg (show ¬ m.ki = 3 from by omega)]; rw [if_neg (show ¬ m.ki = 4 from by omega)]; rw [if_pos hk])
  obtain ⟨s2, hs2⟩ : ∃ x, doM s m = x := ⟨_, rfl⟩
  rw [hs2] at HDO ⊢
  clear hs2
  clear hy
  obtain ⟨V2, hV2⟩ : ∃ V, m.v = V := ⟨_, rfl⟩
  simp only [hV2] at HM ⊢
  obtain ⟨ki, ke, pc, pn, pl, ac, an, al, ⟨rk, inc, st, ⟨vA, vc, vl⟩, ⟨dA, dc, dl⟩, ⟨oA, oc, ol⟩, la, ⟨mA, mc, ml⟩⟩, fe, li, ⟨C, ⟨xA, xc, xl⟩, ⟨yA, yc, yl⟩⟩⟩ := m
  have HV2 := hide_ (show V2 = .agg #[.int .u8 ki, .int .u8 ke, .int .u64 pc, .int .u8 pn, .int .u32 pl, .int .u64 ac, .int .u8 an, .int .u32 al, .int .u8 rk, .int .u64 inc, .int .i64 st, .slice vA vl.length vc, .slice dA dl.length dc, .slice oA ol.length oc, .int .u64 la, .slice mA ml.length mc, .int .u64 fe, .int .u32 li, .int .u64 C, .slice xA xl.length xc, .slice yA yl.length yc] from hV2.symm)
  clear hV2 hm
  simp only at hk
  subst hk
  go_enter Tryz.func58, Tryz.ntmps58
  go_upto_region 0 with fail
  refine wp_region_lit ?_
  refine box_whole 68 (by rfl) _ (by rfl) (by rfl) HV.out ?_
  intro W0 HX0 HB0 HZ0
  simp only [Act.put, List.setIfInBounds_toArray, List.set_cons_zero, List.set_cons_succ]
  refine box_whole 54 (by rfl) _ (by rfl) (by rfl) HV2.out ?_
  intro W1 HR1 HB1 HZ1
  simp only [Act.put, List.setIfInBounds_toArray, List.set_cons_zero, List.set_cons_succ]
  refine alloc_whole 68 (by rfl) (by rfl) sta_zero ?_
  intro W2 HY2 HB2 HZ2
  simp only [Act.put, List.setIfInBounds_toArray, List.set_cons_zero, List.set_cons_succ]
  have hz1 := HZ0.out
  have hz2 := HZ1.out
  have hz3 := HZ2.out
  rw [hz1] at hz2
  rw [hz2] at hz3
  have HX2 := hide_ ((HX0.out.below HB1.out).below HB2.out)
  have HR2 := hide_ (HR1.out.below HB2.out)
  have HW2 := hide_ ((HB0.out.trans (HB1.out.mono HB0.out.size)).trans (HB2.out.mono (HB0.out.trans (HB1.out.mono HB0.out.size)).size))
  obtain ⟨z, hz⟩ : ∃ z, w.heap.size = z := ⟨_, rfl⟩
  obtain ⟨z1, hz1'⟩ : ∃ z, W0.heap.size = z := ⟨_, rfl⟩
  obtain ⟨z2, hz2'⟩ : ∃ z, W1.heap.size = z := ⟨_, rfl⟩
  have HZS := hide_ (show z1 = z + 1 ∧ z2 = z + 2 ∧ W2.heap.size = z + 3 from by omega)
  have HZE := hide_ hz
  rw [hz] at HX2 ⊢
  rw [hz1'] at HR2 ⊢
  rw [hz2'] at HY2 ⊢
  clear HX0 HB0 HZ0 HR1 HB1 HZ1 HB2 HZ2 hz1 hz2 hz3 hz hz1' hz2'
  have hcx := HR2.out.cell
  have hzz : z1 < W2.heap.size := HR2.out.lt
  have hzx : z < W2.heap.size := HX2.out.lt
  go_wp2_with (refine load_whole 54 (by rfl) _ (by rfl) rec_size rec_row HR2.out (by rfl) (by rfl) ?_; rw [← HV2.out])
  refine (HM.out _ HW2.out).mono ?_
  rintro en w3 ⟨rfl, hb3⟩
  have HX3 := hide_ (HX2.out.below hb3)
  have HR3 := hide_ (HR2.out.below hb3)
  have HY3 := hide_ (HY2.out.below hb3)
  have HW3 := hide_ (HW2.out.trans (hb3.mono HW2.out.size))
  clear hb3 hcx hzz hzx HM HX2 HR2 HY2
  have hcx := HR3.out.cell
  have hzz : z1 < w3.heap.size := HR3.out.lt
  have hzx : z < w3.heap.size := HX3.out.lt
  have HSET := hide_ (s.cf_set (⟨C, ⟨xA, xc, xl⟩, ⟨yA, yc, yl⟩⟩ : CfM))
  go_upto_region 14 with (refine store_part 52 (by rfl) _ _ (by rfl) conf_size (by rfl) (by rfl) (cells := #[.int .u64 C, .slice xA xl.length xc, .slice yA yl.length yc]) (by rfl) (by rfl) (by simp [Value.oneCell']) HX3.out (by rw [HSZ.out]; omega) ?_; intro W4 HX4 HG4 HZ4)
  have HX5 := hide_ (show BoxAt W4 z (splice s.box 242 (CfM.cs (⟨C, ⟨xA, xc, xl⟩, ⟨yA, yc, yl⟩⟩ : CfM))) 68 from HX4.out)
  rw [HSET.out] at HX5
  have HDE := hide_ HDO.out.symm
  have HX6 := hide_ (show BoxAt W4 z s2.box 68 from by rw [← HDE.out]; exact HX5.out)
  have HY6 := hide_ (show BoxAt W4 z2 zeroSt.box 68 from (HG4.out.block _ HY3.out.lt (fun e => by injection e with e; have := HZS.out; omega)).trans HY3.out)
  have HW4 := hide_ (HW3.out.grown HG4.out HW3.out.size (fun q hq => by injection hq with hq; have := HZE.out; omega))
  clear hcx hzz hzx HX5 HDE
  have hzx : z < W4.heap.size := HX6.out.lt
  have HQS := hide_ (StaM.box_size (s2))
  have HQO := hide_ (StaM.one (s2))
  have HZB := hide_ zeroSt.box_size
  go_wp2_with (first | (refine load_whole 68 (by rfl) _ (by rfl) sta_size sta_row HX6.out (by rfl) HQS.out ?_) | (refine store_whole 68 (by rfl) _ _ (by rfl) sta_size (by rfl) (by rfl) (cs := StaM.box (s2)) (by rfl) HQS.out HQO.out HY6.out HZB.out ?_; intro W8 HX8 HG8 HZ8))
  refine bodyPost_ret (res_whole sta_size sta_row (by rfl) (by rfl) HX8.out HQS.out) rfl ?_
  have hs := HZS.out
  have hze := HZE.out
  exact ⟨rfl, HW4.out.grown HG8.out HW4.out.size (fun q hq => by injection hq with hq; omega)⟩

theorem refFold_any (s : StaM) (m : RecM) (B : Nat) (w : World) (hm : RecM.tame w B m) (hB : B ≤ w.heap.size) : Calls Tryz.prog 58 #[s.v, m.v] w fun e w' => e = .returned (foldM s m).v ∧ Below w.heap.size w w' := by
  by_cases hy : mayR m.p = true
  · unfold foldM
    rw [if_pos hy]
    rcases mayR_kind hy with k | k | k | k | k
    · exact refFold1_any s m B w hm hB k hy
    · exact refFold2_any s m B w hm hB k hy
    · exact refFold3_any s m B w hm hB k hy
    · exact refFold4_any s m B w hm hB k hy
    · exact refFold5_any s m B w hm hB k hy
  · unfold foldM
    rw [if_neg hy]
    exact refFold0_any s m B w hm hB (by simpa using hy)
end Go.Proofs.YtecbpmnolgkllaaGreat
