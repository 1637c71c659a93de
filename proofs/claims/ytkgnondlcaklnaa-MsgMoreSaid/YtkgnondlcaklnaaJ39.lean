/-
  Texts of this claim put together: PutReg, RefMay6, RefMayG, RefLists.
-/
import Derived.Test.YtkgnondlcaklnaaJ38
import Derived.Test.YtkgnondlcaklnaaJ23
import Derived.Test.YtkgnondlcaklnaaJ37
import Derived.Test.YtkgnondlcaklnaaJ33
import Derived.BigQuiet
import Derived.IntWalk
import Derived.Deep.RegionHeld
import Derived.Deep.DeepCutAuto
/-
  Contract of reg's Put.
-/
namespace Go.Proofs.Ytkgnondlcaklnaa
open Go.RowKit

theorem stn_parts {r : RegP} (h : stnB r = true) : r.inc ≠ 0 ∧ ((0 ≤ r.st ∧ r.st ≤ 31) ∧ r.va.length ≤ 8) ∧ (r.dn.length ≤ 8 ∧ ∀ d ∈ r.dn, d.2.1 ≠ 0 ∧ (0 ≤ d.2.2.1 ∧ d.2.2.1 ≤ 99) ∧ (0 ≤ d.2.2.2.2.1 ∧ d.2.2.2.2.1 ≤ 31) ∧ d.2.2.2.2.2.length ≤ 8) ∧ (r.ou.length ≤ 8 ∧ ∀ c ∈ r.ou, 0 ≤ c.2.2.1 ∧ c.2.2.1 ≤ 31) ∧ r.ma.length ≤ 16 := by
  unfold stnB at h
  simp only [Bool.and_eq_true, Bool.not_eq_true', decide_eq_false_iff_not] at h
  obtain ⟨h1, h2, h3, h4, h5⟩ := h
  refine ⟨h1, ?_, ⟨dnsB_len h3, fun d hd => ?_⟩, ⟨?_, fun c hc => ?_⟩, mksB_len h5⟩
  · unfold staB at h2
    simp only [Bool.and_eq_true, decide_eq_true_eq] at h2
    exact ⟨inB_true.1 h2.1, h2.2⟩
  · unfold dnsB at h3
    simp only [Bool.and_eq_true, Bool.not_eq_true'] at h3
    obtain ⟨k, hk, rfl⟩ := List.getElem_of_mem hd
    have h6 := anyB_false.1 h3.2 k hk
    rw [dnX_at (List.getElem?_eq_getElem hk)] at h6
    simp only [Bool.or_eq_false_iff, decide_eq_false_iff_not, Bool.not_eq_false'] at h6
    have h7 := h6.2
    unfold repB staB at h7
    simp only [Bool.and_eq_true, decide_eq_true_eq] at h7
    exact ⟨h6.1, inB_true.1 h7.1, inB_true.1 h7.2.1, h7.2.2⟩
  · unfold ousB at h4
    simp only [Bool.and_eq_true, decide_eq_true_eq] at h4
    exact h4.1
  · unfold ousB at h4
    simp only [Bool.and_eq_true, Bool.not_eq_true'] at h4
    obtain ⟨k, hk, rfl⟩ := List.getElem_of_mem hc
    have h6 := anyB_false.1 h4.2.2 k hk
    rw [ouX_at (List.getElem?_eq_getElem hk)] at h6
    simp only [Bool.or_eq_false_iff, Bool.not_eq_false'] at h6
    exact inB_true.1 h6.2
theorem may_stn {r : RegP} (h : mayG r = true) (h0 : r.ki ≠ 0) : stnB r = true ∧ (r.ki = 1 ∨ r.ki = 2) := by
  unfold mayG at h
  rw [if_neg h0] at h
  by_cases h1 : r.ki = 1
  · rw [if_pos h1] at h
    exact ⟨h, .inl h1⟩
  · rw [if_neg h1] at h
    by_cases h2 : r.ki = 2
    · rw [if_pos h2] at h
      simp only [Bool.and_eq_true] at h
      exact ⟨h.1, .inr h2⟩
    · rw [if_neg h2] at h
      cases h
def putRG (p : List UInt8) (r : RegP) : List UInt8 × Int := if mayG r then (p ++ regB r, 0) else ([], 3)
theorem putRG_yes {p : List UInt8} {r : RegP} (h : mayG r = true) : putRG p r = (p ++ regB r, 0) := by unfold putRG; rw [if_pos h]
theorem putRG_no {p : List UInt8} {r : RegP} (h : mayG r = false) : putRG p r = ([], 3) := by unfold putRG; rw [h]; rfl

set_option maxRecDepth 100000 in
set_option maxHeartbeats 6400000 in
theorem putReg_any (p : List UInt8) (k cap : Nat) (A : Option Addr) (x : RegM) (B : Nat) (w : World) (hk : p.length = k) (hp : k ≤ 1000) (hs : Sees w B A (bv p)) (hx : RegM.ok w B x) (hB : B ≤ w.heap.size) :
    Calls Try.prog 19 #[.slice A k cap, x.v] w (PutsT (putRG p x.p) w) := by
  have hw1 := (show Below w.heap.size w (w.alloc (.cells x.box 31)) from (Below.refl _ _).alloc (Nat.le_refl _) _)
  have HW := hide_ hw1
  have HX := hide_ (BoxAt.new w x.box 31)
  have HMY := hide_ (mayReg_any x B _ (reg_stable.below hx (hw1.mono hB)) (Nat.le_trans hB hw1.size))
  have HXO := hide_ hx
  have HS := hide_ hs
  have HK := hide_ hk
  obtain ⟨q, hq⟩ : ∃ q, mayG x.p = q := ⟨_, rfl⟩
  rw [hq] at HMY
  have hk8 : 0 ≤ x.ki ∧ x.ki ≤ 255 := hx.1.1
  clear hx hs hk hw1
  cases q with
  | false =>
    rw [putRG_no hq]
    clear hq HXO
    obtain ⟨ki, inc, st, ⟨vA, vc, vl⟩, ⟨dA, dc, dl⟩, ⟨oA, oc, ol⟩, la, ⟨mA, mc, ml⟩⟩ := x
    simp only [RegM.v, RegM.box, Sl.v] at HMY HW HX ⊢
    go_enter Try.func19, Try.ntmps19
    go_wp2_with fail
    refine HMY.out.mono ?_
    rintro en w1 ⟨rfl, hb⟩
    have HB := hide_ (HW.out.trans (hb.mono (by simp)))
    clear hb
    go_wp2
    go_ret2
    exact ⟨none, 0, rfl, World.ownsRow_nil _ _ _ _, HB.out⟩
  | true =>
  rw [putRG_yes hq]
  obtain ⟨ki, inc, st, ⟨vA, vc, vl⟩, ⟨dA, dc, dl⟩, ⟨oA, oc, ol⟩, la, ⟨mA, mc, ml⟩⟩ := x
  simp only at hk8
  obtain ⟨y, rfl⟩ := Int.eq_ofNat_of_zero_le hk8.1
  have hy8 : y ≤ 255 := by omega
  have HQ := hide_ hq
  obtain ⟨out, hout⟩ : ∃ r, p ++ regB (RegM.p ⟨(y : Int), inc, st, ⟨vA, vc, vl⟩, ⟨dA, dc, dl⟩, ⟨oA, oc, ol⟩, la, ⟨mA, mc, ml⟩⟩) = r := ⟨_, rfl⟩
  rw [hout]
  have HOUT := hide_ hout
  clear hout
  obtain ⟨q1, hq1⟩ : ∃ r, p ++ numB y = r := ⟨_, rfl⟩
  have HQ1 := hide_ hq1
  have HL1 := hide_ (show q1.length ≤ 1010 by rw [← hq1, List.length_append]; have := numB_length y (by omega); have := HK.out; omega)
  clear hq hq1 hk8
  simp only [RegM.v, RegM.box, Sl.v] at HMY HW HX ⊢
  go_enter Try.func19, Try.ntmps19
  go_wp2_with fail
  refine HMY.out.mono ?_
  rintro en w1 ⟨rfl, hb⟩
  have HB := hide_ (HW.out.trans (hb.mono (by simp)))
  have HX1 := hide_ (HX.out.below hb)
  clear hb HMY
  have hz1 : w.heap.size < w1.heap.size := HX1.out.lt
  have hcx := HX1.out.cell
  go_wp2_with fail
  refine (PutNum_any p q1 y B A k cap w1 HK.out HQ1.out (by omega) (HS.out.below (HB.out.mono hB)) (by omega) (by have := HK.out; omega)).mono ?_
  rintro en w2 ⟨A2, c2, rfl, ho2, hb2⟩
  have HO2 := hide_ ho2
  have HX2 := hide_ (HX1.out.below hb2)
  have HB2 := hide_ (HB.out.trans (hb2.mono (by omega)))
  have HBB := hide_ hb2
  clear ho2 hb2 hcx
  have hz2 : w.heap.size < w2.heap.size := HX2.out.lt
  have hw12 : w1.heap.size ≤ w2.heap.size := HBB.out.size
  have hcx := HX2.out.cell
  by_cases k0 : y = 0
  · subst k0
    have he : out = q1 := by
      rw [← HOUT.out, ← HQ1.out]
      unfold regB RegM.p natB
      simp
    subst he
    go_wp2
    go_ret2
    exact ⟨_, _, rfl, own_mono (base := w1.heap.size) (base' := w.heap.size) HO2.out (by omega), HB2.out⟩
  have hd0 : ((y : Int) == 0) = false := beq_eq_false_iff_ne.2 (by omega)
  obtain ⟨hinc, ⟨hst, hva⟩, ⟨hdl, hdc⟩, ⟨hol, hoc⟩, hml⟩ := stn_parts (may_stn HQ.out (show (y : Int) ≠ 0 by omega)).1
  unfold RegM.p at hst hva hdl hdc hol hoc hml
  simp only [List.length_map] at hst hva hdl hdc hol hoc hml
  obtain ⟨q2, hq2⟩ : ∃ r, q1 ++ natB inc = r := ⟨_, rfl⟩
  obtain ⟨q3, hq3⟩ : ∃ r, q2 ++ (natB st ++ varB vl) = r := ⟨_, rfl⟩
  obtain ⟨q4, hq4⟩ : ∃ r, q3 ++ (natB dl.length ++ dl.flatMap (fun d => donB d.p)) = r := ⟨_, rfl⟩
  obtain ⟨q5, hq5⟩ : ∃ r, q4 ++ (natB ol.length ++ ol.flatMap celB) = r := ⟨_, rfl⟩
  obtain ⟨q6, hq6⟩ : ∃ r, q5 ++ natB la = r := ⟨_, rfl⟩
  obtain ⟨q7, hq7⟩ : ∃ r, q6 ++ (natB ml.length ++ ml.flatMap mrkB) = r := ⟨_, rfl⟩
  have he : out = q7 := by
    rw [← HOUT.out, ← hq7, ← hq6, ← hq5, ← hq4, ← hq3, ← hq2, ← HQ1.out]
    unfold regB RegM.p
    rw [if_neg (show (y : Int) ≠ 0 by omega)]
    simp only [List.length_map, List.flatMap_map, List.append_assoc]
    rfl
  obtain ⟨⟨_, hu2, _, hu4⟩, hov, hod, hoo, hom⟩ := HXO.out
  simp only at hu2 hu4 hov hod hoo hom
  have HDC := hide_ (show ∀ d ∈ dl, (0 ≤ d.er ∧ d.er ≤ 99) ∧ (0 ≤ d.st ∧ d.st ≤ 31) ∧ d.va.l.length ≤ 8 from fun d hd => (hdc d.p (List.mem_map_of_mem hd)).2)
  have hlen1 := HL1.out
  have hlen2 : q2.length ≤ 1020 := by rw [← hq2, List.length_append]; have := natU_len inc hu2; omega
  have hlen3 : q3.length ≤ 1600 := by rw [← hq3, List.length_append, List.length_append]; have := natB_len st (by omega); have := varB_len vl hov.2.2.2 (by omega); omega
  have hlen4 : q4.length ≤ 6500 := by
    rw [← hq4, List.length_append, List.length_append]
    have := natB_len dl.length (by omega)
    have := flat_le (f := fun d : DoneM => donB d.p) dl fun z hz => don_len (hod.2.2.2 z hz) (HDC.out z hz)
    omega
  have hlen5 : q5.length ≤ 7000 := by
    rw [← hq5, List.length_append, List.length_append]
    have := natB_len ol.length (by omega)
    have := flat_le (f := celB) ol fun z hz => cel_len (hoo.2.2.2 z hz) (hoc z hz)
    omega
  have hlen6 : q6.length ≤ 7010 := by rw [← hq6, List.length_append]; have := natU_len la hu4; omega
  have he2 := he.symm
  clear he
  subst he2
  have HQQ := hide_ (show (q1 ++ natB inc = q2 ∧ q2 ++ (natB st ++ varB vl) = q3 ∧ q3 ++ (natB dl.length ++ dl.flatMap (fun d => donB d.p)) = q4) ∧ (q4 ++ (natB ol.length ++ ol.flatMap celB) = q5 ∧ q5 ++ natB la = q6 ∧ q6 ++ (natB ml.length ++ ml.flatMap mrkB) = q7) from ⟨⟨hq2, hq3, hq4⟩, hq5, hq6, hq7⟩)
  have HLL := hide_ (show q1.length ≤ 1010 ∧ q2.length ≤ 1020 ∧ q3.length ≤ 1600 ∧ q4.length ≤ 6500 ∧ q5.length ≤ 7000 ∧ q6.length ≤ 7010 from ⟨hlen1, hlen2, hlen3, hlen4, hlen5, hlen6⟩)
  have HU := hide_ (show U64 inc ∧ U64 la from ⟨hu2, hu4⟩)
  have HVA := hide_ (show (0 ≤ st ∧ st ≤ 31) ∧ vl.length ≤ 8 ∧ dl.length ≤ 8 ∧ ol.length ≤ 8 ∧ ml.length ≤ 16 from ⟨hst, hva, hdl, hol, hml⟩)
  have HOC := hide_ hoc
  have HOV := hide_ hov
  have HOD := hide_ hod
  have HOO := hide_ hoo
  have HOM := hide_ hom
  clear hq2 hq3 hq4 hq5 hq6 hq7 hlen1 hlen2 hlen3 hlen4 hlen5 hlen6 hu2 hu4 hov hod hoo hom hst hva hdl hdc hol hoc hml hinc HQ k0
  have HST0 := hide_ (RowStep.refl HO2.out)
  have HU3 := hide_ ((Below.refl w2.heap.size w2).alloc (Nat.le_refl _) (.cells #[.int .u64 inc] 22))
  have HSU3 := hide_ (sees_uv (w := w2) [inc] #[.int .u64 inc] 22 _ rfl rfl)
  have HBWF := hide_ (fun (u : World) (v' : Value) (rr : List UInt8) (h : RowStep w1.heap.size (.slice A2 q1.length c2) w2 v' u rr) => show Below w.heap.size w u from HB2.out.trans (h.below (r0 := q1) HO2.out (by omega) (by omega)))
  go_wp2_with fail
  refine (putNums6_at q1 q2 [inc] w1.heap.size _ 1 _ w2 _ _ (by simp) HU3.out HSU3.out (Nat.le_refl _) (by rw [uB1]; exact HQQ.out.1.1) rfl (by omega) (by intro z hz; simp at hz; subst hz; exact HU.out.1) (by have := HLL.out; omega) HO2.out (by omega)).mono ?_
  rintro en w3 ⟨A3, c3, rfl, hst3⟩
  have HST3 := hide_ (RowStep.fresh HU3.out hst3)
  have HX3 := hide_ ((HX2.out.alloc _).step (by decide) (own_below HO2.out HU3.out) hst3)
  clear hst3 hcx
  have hz3 : w.heap.size < w3.heap.size := HX3.out.lt
  have hy3 : w2.heap.size ≤ w3.heap.size := HST3.out.grow.size
  have HBW3 := hide_ (HBWF.out _ _ _ HST3.out)
  have hcx := HX3.out.cell
  go_wp2_with fail
  refine (putState_any q2 q3 st ⟨vA, vc, vl⟩ vl.length rfl w1.heap.size _ B _ HQQ.out.1.2.1 HVA.out.1 (by have := HLL.out; omega) (by have := HVA.out; omega) (ints_stable.below HOV.out (HBW3.out.mono hB)) (by omega) HST3.out.own (by omega)).mono ?_
  rintro en w4 ⟨A4, c4, rfl, hst4⟩
  have HST4 := hide_ (HST3.out.trans hst4)
  have HX4 := hide_ (HX3.out.step (by decide) HST3.out.own hst4)
  clear hst4 hcx
  have hz4 : w.heap.size < w4.heap.size := HX4.out.lt
  have hy4 : w2.heap.size ≤ w4.heap.size := HST4.out.grow.size
  have HBW4 := hide_ (HBWF.out _ _ _ HST4.out)
  have hcx := HX4.out.cell
  go_wp2_with fail
  refine (putDone_any q3 q4 ⟨dA, dc, dl⟩ dl.length rfl w1.heap.size _ B _ HQQ.out.1.2.2 (by have := HLL.out; omega) (by have := HVA.out; omega) (dns_stable.below HOD.out (HBW4.out.mono hB)) HDC.out (by omega) HST4.out.own (by omega)).mono ?_
  rintro en w5 ⟨A5, c5, rfl, hst5⟩
  have HST5 := hide_ (HST4.out.trans hst5)
  have HX5 := hide_ (HX4.out.step (by decide) HST4.out.own hst5)
  clear hst5 hcx
  have hz5 : w.heap.size < w5.heap.size := HX5.out.lt
  have hy5 : w2.heap.size ≤ w5.heap.size := HST5.out.grow.size
  have HBW5 := hide_ (HBWF.out _ _ _ HST5.out)
  have hcx := HX5.out.cell
  go_wp2_with fail
  refine (putOut_any q4 q5 ⟨oA, oc, ol⟩ ol.length rfl w1.heap.size _ B _ HQQ.out.2.1 (by have := HLL.out; omega) (by have := HVA.out; omega) (cels_stable.below HOO.out (HBW5.out.mono hB)) HOC.out (by omega) HST5.out.own (by omega)).mono ?_
  rintro en w6 ⟨A6, c6, rfl, hst6⟩
  have HST6 := hide_ (HST5.out.trans hst6)
  have HX6 := hide_ (HX5.out.step (by decide) HST5.out.own hst6)
  clear hst6 hcx
  have HU7 := hide_ ((Below.refl w6.heap.size w6).alloc (Nat.le_refl _) (.cells #[.int .u64 la] 22))
  have HSU7 := hide_ (sees_uv (w := w6) [la] #[.int .u64 la] 22 _ rfl rfl)
  have hz6 : w.heap.size < w6.heap.size := HX6.out.lt
  have hy6 : w2.heap.size ≤ w6.heap.size := HST6.out.grow.size
  have HBW6 := hide_ (HBWF.out _ _ _ HST6.out)
  have hcx := HX6.out.cell
  go_wp2_with fail
  refine (putNums6_at q5 q6 [la] w1.heap.size _ 1 _ w6 _ _ (by simp) HU7.out HSU7.out (Nat.le_refl _) (by rw [uB1]; exact HQQ.out.2.2.1) rfl (by omega) (by intro z hz; simp at hz; subst hz; exact HU.out.2) (by have := HLL.out; omega) HST6.out.own (by omega)).mono ?_
  rintro en w7 ⟨A7, c7, rfl, hst7⟩
  have HST7 := hide_ (HST6.out.trans (RowStep.fresh HU7.out hst7))
  have HX7 := hide_ ((HX6.out.alloc _).step (by decide) (own_below HST6.out.own HU7.out) hst7)
  clear hst7 hcx
  have hz7 : w.heap.size < w7.heap.size := HX7.out.lt
  have hy7 : w2.heap.size ≤ w7.heap.size := HST7.out.grow.size
  have HBW7 := hide_ (HBWF.out _ _ _ HST7.out)
  have hcx := HX7.out.cell
  go_wp2_with fail
  refine (putMarks_any q6 q7 ⟨mA, mc, ml⟩ ml.length rfl w1.heap.size _ B _ HQQ.out.2.2.2 (by have := HLL.out; omega) (by have := HVA.out; omega) (mrks_stable.below HOM.out (HBW7.out.mono hB)) (by omega) HST7.out.own (by omega)).mono ?_
  rintro en w8 ⟨A8, c8, rfl, hst8⟩
  have HST8 := hide_ (HST7.out.trans hst8)
  clear hst8 hcx
  go_wp2
  go_ret2
  exact ⟨_, _, rfl, own_mono (base := w1.heap.size) (base' := w.heap.size) HST8.out.own (by omega), HBWF.out _ _ _ HST8.out⟩

end Go.Proofs.Ytkgnondlcaklnaa
/-
  Contracts of layer 6's reference's reply and Great.
-/
namespace Go.Proofs.Ytkgnondlcaklnaa
open Go.RowKit

/-- what Great leaves: with no, the lists have room -/
def SomeG (r : RegM) (w : World) (e : Ending) (w' : World) : Prop := ∃ b : Bool, e = .returned (.bool b) ∧ Below w.heap.size w w' ∧ (b = false → r.va.l.length ≤ 50 ∧ r.dn.l.length ≤ 50 ∧ r.ou.l.length ≤ 50 ∧ r.ma.l.length ≤ 50 ∧ ∀ d ∈ r.dn.l, d.va.l.length ≤ 50)

theorem someG_mk {r : RegM} {w w' : World} {e : Ending} (b : Bool) (h1 : e = .returned (.bool b)) (h2 : Below w.heap.size w w') (h3 : b = false → r.va.l.length ≤ 50 ∧ r.dn.l.length ≤ 50 ∧ r.ou.l.length ≤ 50 ∧ r.ma.l.length ≤ 50 ∧ ∀ d ∈ r.dn.l, d.va.l.length ≤ 50) : SomeG r w e w' := ⟨b, h1, h2, h3⟩

set_option maxRecDepth 100000 in
set_option maxHeartbeats 3200000 in
theorem GreatG_any (r : RegM) (B : Nat) (w : World) (hr : RegM.ok w B r) (hB : B ≤ w.heap.size) : Calls Try.prog 5 #[r.v] w (SomeG r w) := by
  have HX := hide_ (BoxAt.new w r.box 31)
  have HW := hide_ ((Below.refl w.heap.size w).alloc (Nat.le_refl _) (.cells r.box 31))
  have HD := hide_ hr.2.2.1
  have m1 := sl_len hr.2.1
  have m2 := sl_len hr.2.2.1
  have m3 := sl_len hr.2.2.2.1
  have m4 := sl_len hr.2.2.2.2
  clear hr
  obtain ⟨ki, inc, st, ⟨vA, vc, vl⟩, ⟨dA, dc, dl⟩, ⟨oA, oc, ol⟩, la, ⟨mA, mc, ml⟩⟩ := r
  obtain ⟨nv, hnv⟩ : ∃ n, vl.length = n := ⟨_, rfl⟩
  obtain ⟨nd, hnd⟩ : ∃ n, dl.length = n := ⟨_, rfl⟩
  obtain ⟨no, hno⟩ : ∃ n, ol.length = n := ⟨_, rfl⟩
  obtain ⟨nm, hnm⟩ : ∃ n, ml.length = n := ⟨_, rfl⟩
  simp only [RegM.v, RegM.box, Sl.v, hnv, hnd, hno, hnm] at HX HW m1 m2 m3 m4 ⊢
  have HND := hide_ hnd
  have HNV := hide_ hnv
  have HNO := hide_ hno
  have HNM := hide_ hnm
  clear hnv hno hnm hnd
  by_cases c1 : 50 < nv
  · have d1 : decide (50 < (nv : Int)) = true := decide_eq_true (by omega)
    clear c1
    go_enter Try.func5, Try.ntmps5
    go_wp2
    go_ret
    exact someG_mk true rfl HW.out (fun h => by cases h)
  have d1 : decide (50 < (nv : Int)) = false := decide_eq_false (by omega)
  by_cases c2 : 50 < nd
  · have d2 : decide (50 < (nd : Int)) = true := decide_eq_true (by omega)
    clear c1 c2
    go_enter Try.func5, Try.ntmps5
    go_wp2
    go_ret
    exact someG_mk true rfl HW.out (fun h => by cases h)
  have d2 : decide (50 < (nd : Int)) = false := decide_eq_false (by omega)
  by_cases c3 : 50 < no
  · have d3 : decide (50 < (no : Int)) = true := decide_eq_true (by omega)
    clear c1 c2 c3
    go_enter Try.func5, Try.ntmps5
    go_wp2
    go_ret
    exact someG_mk true rfl HW.out (fun h => by cases h)
  have d3 : decide (50 < (no : Int)) = false := decide_eq_false (by omega)
  by_cases c4 : 50 < nm
  · have d4 : decide (50 < (nm : Int)) = true := decide_eq_true (by omega)
    clear c1 c2 c3 c4
    go_enter Try.func5, Try.ntmps5
    go_wp2
    go_ret
    exact someG_mk true rfl HW.out (fun h => by cases h)
  have d4 : decide (50 < (nm : Int)) = false := decide_eq_false (by omega)
  have hle : nv ≤ 50 ∧ nd ≤ 50 ∧ no ≤ 50 ∧ nm ≤ 50 := by omega
  have HLE := hide_ hle
  have hnd50 : nd ≤ 50 := hle.2.1
  clear c1 c2 c3 c4 hle
  go_enter Try.func5, Try.ntmps5
  go_wp2
  go_loopw [29] (fun i wr => ∃ k : Nat, k ≤ nd ∧ i = .int .i64 k ∧ Hid (∀ j d, j < k → dl[j]? = some d → d.va.l.length ≤ 50) ∧ Below w.heap.size w wr ∧ Hid (BoxAt wr w.heap.size #[.int .u8 ki, .int .u64 inc, .int .i64 st, .slice vA nv vc, .slice dA nd dc, .slice oA no oc, .int .u64 la, .slice mA nm mc] 31)) (fun i _ => nd - (intOf i).toNat)
  case atStart => exact ⟨0, Nat.zero_le _, rfl, (fun j d hj => absurd hj (by omega)), HW.out, HX.out⟩
  case round =>
    obtain ⟨k, hk, rfl, HJ, hb, HXR⟩ := hrel
    have hz : w.heap.size < wr.heap.size := HXR.out.lt
    have hcx := HXR.out.cell
    by_cases hlt : k < nd
    · obtain ⟨x, hx⟩ : ∃ x, dl[k]? = some x := ⟨_, List.getElem?_eq_getElem (by rw [HND.out]; exact hlt)⟩
      obtain ⟨tb, ot, hAe, hab, e0, e1, e2, e3, e4, e5⟩ := (HD.out.2.2.1.below (hb.mono hB)).done hx
      have hwz : tb < wr.heap.size := by omega
      have hxm := sl_len (HD.out.2.2.2 x (List.mem_of_getElem? hx)).2
      have HXX := hide_ hx
      subst hAe
      obtain ⟨cl, sq, er, inc2, st2, ⟨A, c, va⟩⟩ := x
      simp only at e5 hxm
      obtain ⟨m, hm⟩ : ∃ m, va.length = m := ⟨_, rfl⟩
      rw [hm] at e5 hxm
      have HM := hide_ hm
      have HB := hide_ hb
      clear hx hm e0 e1 e2 e3 e4 hb
      by_cases c5 : 50 < m
      · have d5 : decide (50 < (m : Int)) = true := decide_eq_true (by omega)
        clear c5
        go_wp2
        go_ret
        exact someG_mk true rfl HB.out (fun h => by cases h)
      · have d5 : decide (50 < (m : Int)) = false := decide_eq_false (by omega)
        have HJ2 := hide_ (show ∀ j d, j < k + 1 → dl[j]? = some d → d.va.l.length ≤ 50 from fun j d hj hd => by
          by_cases h : j = k
          · rw [h, HXX.out] at hd
            injection hd with hd
            rw [← hd]
            show va.length ≤ 50
            rw [HM.out]
            omega
          · exact HJ.out j d (by omega) hd)
        clear c5
        go_wp2
        go_roundw
        case rel => exact ⟨k + 1, by omega, by go_num, HJ2, HB.out, HXR⟩
        case measure => simp [intOf]; omega
    · obtain rfl : k = nd := by omega
      have HB := hide_ hb
      clear hb
      have HK := hide_ (show ∀ d ∈ dl, d.va.l.length ≤ 50 from fun d hd => by
        obtain ⟨j, hj, rfl⟩ := List.getElem_of_mem hd
        exact HJ.out j _ (by rw [← HND.out]; exact hj) (List.getElem?_eq_getElem hj))
      go_wp2
      go_ret
      exact someG_mk false rfl HB.out (fun _ => ⟨by show vl.length ≤ 50; rw [HNV.out]; exact HLE.out.1, by show dl.length ≤ 50; rw [HND.out]; exact HLE.out.2.1, by show ol.length ≤ 50; rw [HNO.out]; exact HLE.out.2.2.1, by show ml.length ≤ 50; rw [HNM.out]; exact HLE.out.2.2.2, HK.out⟩)
end Go.Proofs.Ytkgnondlcaklnaa

/-
  Contract of layer 6's reference's May.
-/
namespace Go.Proofs.Ytkgnondlcaklnaa
open Go.RowKit

end Go.Proofs.Ytkgnondlcaklnaa
/-
  Contract of layer 6's reference's lists.
-/
namespace Go.Proofs.Ytkgnondlcaklnaa
open Go.RowKit

end Go.Proofs.Ytkgnondlcaklnaa