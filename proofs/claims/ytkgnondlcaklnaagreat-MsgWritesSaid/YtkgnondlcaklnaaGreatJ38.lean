/-
  Texts of this claim put together: PutReg, RefMay6, RefMayG.
-/
import Derived.Test.YtkgnondlcaklnaaGreatJ37
import Derived.Test.YtkgnondlcaklnaaGreatJ23
import Derived.Test.YtkgnondlcaklnaaGreatJ36
import Derived.Test.YtkgnondlcaklnaaGreatJ32
/-
  Contract of reg's Put.
-/
namespace Go.Proofs.YtkgnondlcaklnaaGreat
open Go.RowKit

theorem stn_parts {r : RegP} (h : stnB r = true) : r.inc ≠ 0 ∧ ((0 ≤ r.st ∧ r.st ≤ 31) ∧ r.va.length ≤ 8) ∧ (r.dn.length ≤ 8 ∧ ∀ d ∈ r.dn, d.2.1 ≠ 0 ∧ (0 ≤ d.2.2.1 ∧ d.2.2.1 ≤ 99) ∧ (0 ≤ d.2.2.2.2.1 ∧ d.2.2.2.2.1 ≤ 31) ∧ d.2.2.2.2.2.length ≤ 8) ∧ (r.ou.length ≤ 8 ∧ ∀ c ∈ r.ou, 0 ≤ c.2.2.1 ∧ c.2.2.1 ≤ 31) ∧ r.ma.length ≤ 16 := by
  unfold stnB at h
  simp only [Bool.and_eq_true, Bool.not_eq_true', decide_eq_false_iff_not] at h
  obtain ⟨h1, h2, h3, h4, h5⟩ := h
  refine ⟨h1, ?_, ⟨dnsB_len h3, fun d hd => ?_⟩, ⟨?_, fun c hc => ?_⟩, mksB_len h5⟩
  · unfold staB at h2
    simp only [Bool.and_eq_true, decide_eq_true_eq] at h2
    exact ⟨inB_true.1 h2.1, h2.2⟩
  · unfold dnsB at h3
    simp only [Bool.and_eq_true, Bool.not_eq_true'] at h3
    obtain ⟨k, hk, rfl⟩ := List.getElem_of_mem hd
    have h6 := anyB_false.1 h3.2 k hk
    rw [dnX_at (List.getElem?_eq_getElem hk)] at h6
    simp only [Bool.or_eq_false_iff, decide_eq_false_iff_not, Bool.not_eq_false'] at h6
    have h7 := h6.2
    unfold repB staB at h7
    simp only [Bool.and_eq_true, decide_eq_true_eq] at h7
    exact ⟨h6.1, inB_true.1 h7.1, inB_true.1 h7.2.1, h7.2.2⟩
  · unfold ousB at h4
    simp only [Bool.and_eq_true, decide_eq_true_eq] at h4
    exact h4.1
  · unfold ousB at h4
    simp only [Bool.and_eq_true, Bool.not_eq_true'] at h4
    obtain ⟨k, hk, rfl⟩ := List.getElem_of_mem hc
    have h6 := anyB_false.1 h4.2.2 k hk
    rw [ouX_at (List.getElem?_eq_getElem hk)] at h6
    simp only [Bool.or_eq_false_iff, Bool.not_eq_false'] at h6
    exact inB_true.1 h6.2
theorem may_stn {r : RegP} (h : mayG r = true) (h0 : r.ki ≠ 0) : stnB r = true ∧ (r.ki = 1 ∨ r.ki = 2) := by
  unfold mayG at h
  rw [if_neg h0] at h
  by_cases h1 : r.ki = 1
  · rw [if_pos h1] at h
    exact ⟨h, .inl h1⟩
  · rw [if_neg h1] at h
    by_cases h2 : r.ki = 2
    · rw [if_pos h2] at h
      simp only [Bool.and_eq_true] at h
      exact ⟨h.1, .inr h2⟩
    · rw [if_neg h2] at h
      cases h
def putRG (p : List UInt8) (r : RegP) : List UInt8 × Int := if mayG r then (p ++ regB r, 0) else ([], 3)
theorem putRG_yes {p : List UInt8} {r : RegP} (h : mayG r = true) : putRG p r = (p ++ regB r, 0) := by unfold putRG; rw [if_pos h]
theorem putRG_no {p : List UInt8} {r : RegP} (h : mayG r = false) : putRG p r = ([], 3) := by unfold putRG; rw [h]; rfl

set_option maxRecDepth 100000 in
set_option maxHeartbeats 6400000 in
theorem putReg_any (p : List UInt8) (k cap : Nat) (A : Option Addr) (x : RegM) (B : Nat) (w : World) (hk : p.length = k) (hp : k ≤ 1000) (hs : Sees w B A (bv p)) (hx : RegM.ok w B x) (hB : B ≤ w.heap.size) :
    Calls Tryz.prog 38 #[.slice A k cap, x.v] w (PutsT (putRG p x.p) w) := by
  have hw1 := (show Below w.heap.size w (w.alloc (.cells x.box 31)) from (Below.refl _ _).alloc (Nat.le_refl _) _)
  have HW := hide_ hw1
  have HX := hide_ (BoxAt.new w x.box 31)
  have HMY := hide_ (mayReg_any x B _ (reg_stable.below hx (hw1.mono hB)) (Nat.le_trans hB hw1.size))
  have HXO := hide_ hx
  have HS := hide_ hs
  have HK := hide_ hk
  obtain ⟨q, hq⟩ : ∃ q, mayG x.p = q := ⟨_, rfl⟩
  rw [hq] at HMY
  have hk8 : 0 ≤ x.ki ∧ x.ki ≤ 255 := hx.1.1
  clear hx hs hk hw1
  cases q with
  | false =>
    rw [putRG_no hq]
    clear hq HXO
    obtain ⟨ki, inc, st, ⟨vA, vc, vl⟩, ⟨dA, dc, dl⟩, ⟨oA, oc, ol⟩, la, ⟨mA, mc, ml⟩⟩ := x
    simp only [RegM.v, RegM.box, Sl.v] at HMY HW HX ⊢
    go_enter Tryz.func38, Tryz.ntmps38
    go_wp2_with fail
    refine HMY.out.mono ?_
    rintro en w1 ⟨rfl, hb⟩
    have HB := hide_ (HW.out.trans (hb.mono (by simp)))
    clear hb
    go_wp2
    go_ret2
    exact ⟨none, 0, rfl, World.ownsRow_nil _ _ _ _, HB.out⟩
  | true =>
  rw [putRG_yes hq]
  obtain ⟨ki, inc, st, ⟨vA, vc, vl⟩, ⟨dA, dc, dl⟩, ⟨oA, oc, ol⟩, la, ⟨mA, mc, ml⟩⟩ := x
  simp only at hk8
  obtain ⟨y, rfl⟩ := Int.eq_ofNat_of_zero_le hk8.1
  have hy8 : y ≤ 255 := by omega
  have HQ := hide_ hq
  obtain ⟨out, hout⟩ : ∃ r, p ++ regB (RegM.p ⟨(y : Int), inc, st, ⟨vA, vc, vl⟩, ⟨dA, dc, dl⟩, ⟨oA, oc, ol⟩, la, ⟨mA, mc, ml⟩⟩) = r := ⟨_, rfl⟩
  rw [hout]
  have HOUT := hide_ hout
  clear hout
  obtain ⟨q1, hq1⟩ : ∃ r, p ++ numB y = r := ⟨_, rfl⟩
  have HQ1 := hide_ hq1
  have HL1 := hide_ (show q1.length ≤ 1010 by rw [← hq1, List.length_append]; have := numB_length y (by omega); have := HK.out; omega)
  clear hq hq1 hk8
  simp only [RegM.v, RegM.box, Sl.v] at HMY HW HX ⊢
  go_enter Tryz.func38, Tryz.ntmps38
  go_wp2_with fail
  refine HMY.out.mono ?_
  rintro en w1 ⟨rfl, hb⟩
  have HB := hide_ (HW.out.trans (hb.mono (by simp)))
  have HX1 := hide_ (HX.out.below hb)
  clear hb HMY
  have hz1 : w.heap.size < w1.heap.size := HX1.out.lt
  have hcx := HX1.out.cell
  go_wp2_with fail
  refine (PutNum_any p q1 y B A k cap w1 HK.out HQ1.out (by omega) (HS.out.below (HB.out.mono hB)) (by omega) (by have := HK.out; omega)).mono ?_
  rintro en w2 ⟨A2, c2, rfl, ho2, hb2⟩
  have HO2 := hide_ ho2
  have HX2 := hide_ (HX1.out.below hb2)
  have HB2 := hide_ (HB.out.trans (hb2.mono (by omega)))
  have HBB := hide_ hb2
  clear ho2 hb2 hcx
  have hz2 : w.heap.size < w2.heap.size := HX2.out.lt
  have hw12 : w1.heap.size ≤ w2.heap.size := HBB.out.size
  have hcx := HX2.out.cell
  by_cases k0 : y = 0
  · subst k0
    have he : out = q1 := by
      rw [← HOUT.out, ← HQ1.out]
      unfold regB RegM.p natB
      simp
    subst he
    go_wp2
    go_ret2
    exact ⟨_, _, rfl, own_mono (base := w1.heap.size) (base' := w.heap.size) HO2.out (by omega), HB2.out⟩
  have hd0 : ((y : Int) == 0) = false := beq_eq_false_iff_ne.2 (by omega)
  obtain ⟨hinc, ⟨hst, hva⟩, ⟨hdl, hdc⟩, ⟨hol, hoc⟩, hml⟩ := stn_parts (may_stn HQ.out (show (y : Int) ≠ 0 by omega)).1
  unfold RegM.p at hst hva hdl hdc hol hoc hml
  simp only [List.length_map] at hst hva hdl hdc hol hoc hml
  obtain ⟨q2, hq2⟩ : ∃ r, q1 ++ natB inc = r := ⟨_, rfl⟩
  obtain ⟨q3, hq3⟩ : ∃ r, q2 ++ (natB st ++ varB vl) = r := ⟨_, rfl⟩
  obtain ⟨q4, hq4⟩ : ∃ r, q3 ++ (natB dl.length ++ dl.flatMap (fun d => donB d.p)) = r := ⟨_, rfl⟩
  obtain ⟨q5, hq5⟩ : ∃ r, q4 ++ (natB ol.length ++ ol.flatMap celB) = r := ⟨_, rfl⟩
  obtain ⟨q6, hq6⟩ : ∃ r, q5 ++ natB la = r := ⟨_, rfl⟩
  obtain ⟨q7, hq7⟩ : ∃ r, q6 ++ (natB ml.length ++ ml.flatMap mrkB) = r := ⟨_, rfl⟩
  have he : out = q7 := by
    rw [← HOUT.out, ← hq7, ← hq6, ← hq5, ← hq4, ← hq3, ← hq2, ← HQ1.out]
    unfold regB RegM.p
    rw [if_neg (show (y : Int) ≠ 0 by omega)]
    simp only [List.length_map, List.flatMap_map, List.append_assoc]
    rfl
  obtain ⟨⟨_, hu2, _, hu4⟩, hov, hod, hoo, hom⟩ := HXO.out
  simp only at hu2 hu4 hov hod hoo hom
  have HDC := hide_ (show ∀ d ∈ dl, (0 ≤ d.er ∧ d.er ≤ 99) ∧ (0 ≤ d.st ∧ d.st ≤ 31) ∧ d.va.l.length ≤ 8 from fun d hd => (hdc d.p (List.mem_map_of_mem hd)).2)
  have hlen1 := HL1.out
  have hlen2 : q2.length ≤ 1020 := by rw [← hq2, List.length_append]; have := natU_len inc hu2; omega
  have hlen3 : q3.length ≤ 1600 := by rw [← hq3, List.length_append, List.length_append]; have := natB_len st (by omega); have := varB_len vl hov.2.2.2 (by omega); omega
  have hlen4 : q4.length ≤ 6500 := by
    rw [← hq4, List.length_append, List.length_append]
    have := natB_len dl.length (by omega)
    have := flat_le (f := fun d : DoneM => donB d.p) dl fun z hz => don_len (hod.2.2.2 z hz) (HDC.out z hz)
    omega
  have hlen5 : q5.length ≤ 7000 := by
    rw [← hq5, List.length_append, List.length_append]
    have := natB_len ol.length (by omega)
    have := flat_le (f := celB) ol fun z hz => cel_len (hoo.2.2.2 z hz) (hoc z hz)
    omega
  have hlen6 : q6.length ≤ 7010 := by rw [← hq6, List.length_append]; have := natU_len la hu4; omega
  have he2 := he.symm
  clear he
  subst he2
  have HQQ := hide_ (show (q1 ++ natB inc = q2 ∧ q2 ++ (natB st ++ varB vl) = q3 ∧ q3 ++ (natB dl.length ++ dl.flatMap (fun d => donB d.p)) = q4) ∧ (q4 ++ (natB ol.length ++ ol.flatMap celB) = q5 ∧ q5 ++ natB la = q6 ∧ q6 ++ (natB ml.length ++ ml.flatMap mrkB) = q7) from ⟨⟨hq2, hq3, hq4⟩, hq5, hq6, hq7⟩)
  have HLL := hide_ (show q1.length ≤ 1010 ∧ q2.length ≤ 1020 ∧ q3.length ≤ 1600 ∧ q4.length ≤ 6500 ∧ q5.length ≤ 7000 ∧ q6.length ≤ 7010 from ⟨hlen1, hlen2, hlen3, hlen4, hlen5, hlen6⟩)
  have HU := hide_ (show U64 inc ∧ U64 la from ⟨hu2, hu4⟩)
  have HVA := hide_ (show (0 ≤ st ∧ st ≤ 31) ∧ vl.length ≤ 8 ∧ dl.length ≤ 8 ∧ ol.length ≤ 8 ∧ ml.length ≤ 16 from ⟨hst, hva, hdl, hol, hml⟩)
  have HOC := hide_ hoc
  have HOV := hide_ hov
  have HOD := hide_ hod
  have HOO := hide_ hoo
  have HOM := hide_ hom
  clear hq2 hq3 hq4 hq5 hq6 hq7 hlen1 hlen2 hlen3 hlen4 hlen5 hlen6 hu2 hu4 hov hod hoo hom hst hva hdl hdc hol hoc hml hinc HQ k0
  have HST0 := hide_ (RowStep.refl HO2.out)
  have HU3 := hide_ ((Below.refl w2.heap.size w2).alloc (Nat.le_refl _) (.cells #[.int .u64 inc] 25))
  have HSU3 := hide_ (sees_uv (w := w2) [inc] #[.int .u64 inc] 25 _ rfl rfl)
  have HBWF := hide_ (fun (u : World) (v' : Value) (rr : List UInt8) (h : RowStep w1.heap.size (.slice A2 q1.length c2) w2 v' u rr) => show Below w.heap.size w u from HB2.out.trans (h.below (r0 := q1) HO2.out (by omega) (by omega)))
  go_wp2_with fail
  refine (putNums6_at q1 q2 [inc] w1.heap.size _ 1 _ w2 _ _ (by simp) HU3.out HSU3.out (Nat.le_refl _) (by rw [uB1]; exact HQQ.out.1.1) rfl (by omega) (by intro z hz; simp at hz; subst hz; exact HU.out.1) (by have := HLL.out; omega) HO2.out (by omega)).mono ?_
  rintro en w3 ⟨A3, c3, rfl, hst3⟩
  have HST3 := hide_ (RowStep.fresh HU3.out hst3)
  have HX3 := hide_ ((HX2.out.alloc _).step (by decide) (own_below HO2.out HU3.out) hst3)
  clear hst3 hcx
  have hz3 : w.heap.size < w3.heap.size := HX3.out.lt
  have hy3 : w2.heap.size ≤ w3.heap.size := HST3.out.grow.size
  have HBW3 := hide_ (HBWF.out _ _ _ HST3.out)
  have hcx := HX3.out.cell
  go_wp2_with fail
  refine (putState_any q2 q3 st ⟨vA, vc, vl⟩ vl.length rfl w1.heap.size _ B _ HQQ.out.1.2.1 HVA.out.1 (by have := HLL.out; omega) (by have := HVA.out; omega) (ints_stable.below HOV.out (HBW3.out.mono hB)) (by omega) HST3.out.own (by omega)).mono ?_
  rintro en w4 ⟨A4, c4, rfl, hst4⟩
  have HST4 := hide_ (HST3.out.trans hst4)
  have HX4 := hide_ (HX3.out.step (by decide) HST3.out.own hst4)
  clear hst4 hcx
  have hz4 : w.heap.size < w4.heap.size := HX4.out.lt
  have hy4 : w2.heap.size ≤ w4.heap.size := HST4.out.grow.size
  have HBW4 := hide_ (HBWF.out _ _ _ HST4.out)
  have hcx := HX4.out.cell
  go_wp2_with fail
  refine (putDone_any q3 q4 ⟨dA, dc, dl⟩ dl.length rfl w1.heap.size _ B _ HQQ.out.1.2.2 (by have := HLL.out; omega) (by have := HVA.out; omega) (dns_stable.below HOD.out (HBW4.out.mono hB)) HDC.out (by omega) HST4.out.own (by omega)).mono ?_
  rintro en w5 ⟨A5, c5, rfl, hst5⟩
  have HST5 := hide_ (HST4.out.trans hst5)
  have HX5 := hide_ (HX4.out.step (by decide) HST4.out.own hst5)
  clear hst5 hcx
  have hz5 : w.heap.size < w5.heap.size := HX5.out.lt
  have hy5 : w2.heap.size ≤ w5.heap.size := HST5.out.grow.size
  have HBW5 := hide_ (HBWF.out _ _ _ HST5.out)
  have hcx := HX5.out.cell
  go_wp2_with fail
  refine (putOut_any q4 q5 ⟨oA, oc, ol⟩ ol.length rfl w1.heap.size _ B _ HQQ.out.2.1 (by have := HLL.out; omega) (by have := HVA.out; omega) (cels_stable.below HOO.out (HBW5.out.mono hB)) HOC.out (by omega) HST5.out.own (by omega)).mono ?_
  rintro en w6 ⟨A6, c6, rfl, hst6⟩
  have HST6 := hide_ (HST5.out.trans hst6)
  have HX6 := hide_ (HX5.out.step (by decide) HST5.out.own hst6)
  clear hst6 hcx
  have HU7 := hide_ ((Below.refl w6.heap.size w6).alloc (Nat.le_refl _) (.cells #[.int .u64 la] 25))
  have HSU7 := hide_ (sees_uv (w := w6) [la] #[.int .u64 la] 25 _ rfl rfl)
  have hz6 : w.heap.size < w6.heap.size := HX6.out.lt
  have hy6 : w2.heap.size ≤ w6.heap.size := HST6.out.grow.size
  have HBW6 := hide_ (HBWF.out _ _ _ HST6.out)
  have hcx := HX6.out.cell
  go_wp2_with fail
  refine (putNums6_at q5 q6 [la] w1.heap.size _ 1 _ w6 _ _ (by simp) HU7.out HSU7.out (Nat.le_refl _) (by rw [uB1]; exact HQQ.out.2.2.1) rfl (by omega) (by intro z hz; simp at hz; subst hz; exact HU.out.2) (by have := HLL.out; omega) HST6.out.own (by omega)).mono ?_
  rintro en w7 ⟨A7, c7, rfl, hst7⟩
  have HST7 := hide_ (HST6.out.trans (RowStep.fresh HU7.out hst7))
  have HX7 := hide_ ((HX6.out.alloc _).step (by decide) (own_below HST6.out.own HU7.out) hst7)
  clear hst7 hcx
  have hz7 : w.heap.size < w7.heap.size := HX7.out.lt
  have hy7 : w2.heap.size ≤ w7.heap.size := HST7.out.grow.size
  have HBW7 := hide_ (HBWF.out _ _ _ HST7.out)
  have hcx := HX7.out.cell
  go_wp2_with fail
  refine (putMarks_any q6 q7 ⟨mA, mc, ml⟩ ml.length rfl w1.heap.size _ B _ HQQ.out.2.2.2 (by have := HLL.out; omega) (by have := HVA.out; omega) (mrks_stable.below HOM.out (HBW7.out.mono hB)) (by omega) HST7.out.own (by omega)).mono ?_
  rintro en w8 ⟨A8, c8, rfl, hst8⟩
  have HST8 := hide_ (HST7.out.trans hst8)
  clear hst8 hcx
  go_wp2
  go_ret2
  exact ⟨_, _, rfl, own_mono (base := w1.heap.size) (base' := w.heap.size) HST8.out.own (by omega), HBWF.out _ _ _ HST8.out⟩

end Go.Proofs.YtkgnondlcaklnaaGreat
/-
  Contracts of layer 6's reference's reply and Great.
-/
namespace Go.Proofs.YtkgnondlcaklnaaGreat
open Go.RowKit

theorem refReply_any (r : RepM) (hm : r.va.l.length ≤ 9223372036854775807) (w : World) : Calls Tryz.prog 73 #[r.v] w fun e w' => e = .returned (.bool (repB r.p)) ∧ Below w.heap.size w w' := by
  obtain ⟨er, inc, st, ⟨A, c, va⟩⟩ := r
  obtain ⟨n, hn⟩ : ∃ n, va.length = n := ⟨_, rfl⟩
  simp only [hn] at hm
  have HR := hide_ (show repB (RepM.p ⟨er, inc, st, ⟨A, c, va⟩⟩) = (decide (0 ≤ er) && decide (er ≤ 99) && (decide (0 ≤ st) && decide (st < 32) && decide (n ≤ 8))) by
    unfold repB RepM.p staB inB
    rw [hn, show decide (st ≤ 31) = decide (st < 32) from decide_eq_decide.2 (by omega)])
  rw [HR.out]
  simp only [RepM.v, Sl.v, hn]
  have HB := hide_ ((Below.refl w.heap.size w).alloc (Nat.le_refl _) (.cells #[.int .i64 er, .int .u64 inc, .int .i64 st, .slice A n c] 38))
  clear hn HR
  by_cases h1 : 0 ≤ er
  case neg =>
    have d1 := decide_eq_false h1
    have HE := hide_ d1
    clear h1
    go_enter Tryz.func73, Tryz.ntmps73
    go_wp2
    go_ret
    exact ⟨by rw [HE.out]; simp, HB.out⟩
  have d1 := decide_eq_true h1
  have H1 := hide_ d1
  by_cases h2 : er ≤ 99
  case neg =>
    have d2 := decide_eq_false h2
    have HE := hide_ d2
    clear h1 h2
    go_enter Tryz.func73, Tryz.ntmps73
    go_wp2
    go_ret
    exact ⟨by rw [HE.out]; simp, HB.out⟩
  have d2 := decide_eq_true h2
  have H2 := hide_ d2
  by_cases h3 : 0 ≤ st
  case neg =>
    have d3 := decide_eq_false h3
    have HE := hide_ d3
    clear h1 h2 h3
    go_enter Tryz.func73, Tryz.ntmps73
    go_wp2
    go_ret
    exact ⟨by rw [HE.out]; simp, HB.out⟩
  have d3 := decide_eq_true h3
  have H3 := hide_ d3
  by_cases h4 : st < 32
  case neg =>
    have d4 := decide_eq_false h4
    have HE := hide_ d4
    clear h1 h2 h3 h4
    go_enter Tryz.func73, Tryz.ntmps73
    go_wp2
    go_ret
    exact ⟨by rw [HE.out]; simp, HB.out⟩
  have d4 := decide_eq_true h4
  have H4 := hide_ d4
  by_cases h5 : n ≤ 8
  case neg =>
    have d5 : decide ((n : Int) ≤ 8) = false := decide_eq_false (by omega)
    have HE := hide_ (decide_eq_false h5)
    clear h1 h2 h3 h4 h5
    go_enter Tryz.func73, Tryz.ntmps73
    go_wp2
    go_ret
    exact ⟨by rw [HE.out]; simp, HB.out⟩
  have d5 : decide ((n : Int) ≤ 8) = true := decide_eq_true (by omega)
  have H5 := hide_ (decide_eq_true h5)
  clear h1 h2 h3 h4 h5
  go_enter Tryz.func73, Tryz.ntmps73
  go_wp2
  go_ret
  exact ⟨by rw [H1.out, H2.out, H3.out, H4.out, H5.out]; simp, HB.out⟩

/-- what Great leaves: with no, the lists have room -/
def SomeG (r : RegM) (w : World) (e : Ending) (w' : World) : Prop := ∃ b : Bool, e = .returned (.bool b) ∧ Below w.heap.size w w' ∧ (b = false → r.va.l.length ≤ 50 ∧ r.dn.l.length ≤ 50 ∧ r.ou.l.length ≤ 50 ∧ r.ma.l.length ≤ 50 ∧ ∀ d ∈ r.dn.l, d.va.l.length ≤ 50)

theorem someG_mk {r : RegM} {w w' : World} {e : Ending} (b : Bool) (h1 : e = .returned (.bool b)) (h2 : Below w.heap.size w w') (h3 : b = false → r.va.l.length ≤ 50 ∧ r.dn.l.length ≤ 50 ∧ r.ou.l.length ≤ 50 ∧ r.ma.l.length ≤ 50 ∧ ∀ d ∈ r.dn.l, d.va.l.length ≤ 50) : SomeG r w e w' := ⟨b, h1, h2, h3⟩

set_option maxRecDepth 100000 in
set_option maxHeartbeats 3200000 in
theorem GreatG_any (r : RegM) (B : Nat) (w : World) (hr : RegM.ok w B r) (hB : B ≤ w.heap.size) : Calls Tryz.prog 14 #[r.v] w (SomeG r w) := by
  have HX := hide_ (BoxAt.new w r.box 31)
  have HW := hide_ ((Below.refl w.heap.size w).alloc (Nat.le_refl _) (.cells r.box 31))
  have HD := hide_ hr.2.2.1
  have m1 := sl_len hr.2.1
  have m2 := sl_len hr.2.2.1
  have m3 := sl_len hr.2.2.2.1
  have m4 := sl_len hr.2.2.2.2
  clear hr
  obtain ⟨ki, inc, st, ⟨vA, vc, vl⟩, ⟨dA, dc, dl⟩, ⟨oA, oc, ol⟩, la, ⟨mA, mc, ml⟩⟩ := r
  obtain ⟨nv, hnv⟩ : ∃ n, vl.length = n := ⟨_, rfl⟩
  obtain ⟨nd, hnd⟩ : ∃ n, dl.length = n := ⟨_, rfl⟩
  obtain ⟨no, hno⟩ : ∃ n, ol.length = n := ⟨_, rfl⟩
  obtain ⟨nm, hnm⟩ : ∃ n, ml.length = n := ⟨_, rfl⟩
  simp only [RegM.v, RegM.box, Sl.v, hnv, hnd, hno, hnm] at HX HW m1 m2 m3 m4 ⊢
  have HND := hide_ hnd
  have HNV := hide_ hnv
  have HNO := hide_ hno
  have HNM := hide_ hnm
  clear hnv hno hnm hnd
  by_cases c1 : 50 < nv
  · have d1 : decide (50 < (nv : Int)) = true := decide_eq_true (by omega)
    clear c1
    go_enter Tryz.func14, Tryz.ntmps14
    go_wp2
    go_ret
    exact someG_mk true rfl HW.out (fun h => by cases h)
  have d1 : decide (50 < (nv : Int)) = false := decide_eq_false (by omega)
  by_cases c2 : 50 < nd
  · have d2 : decide (50 < (nd : Int)) = true := decide_eq_true (by omega)
    clear c1 c2
    go_enter Tryz.func14, Tryz.ntmps14
    go_wp2
    go_ret
    exact someG_mk true rfl HW.out (fun h => by cases h)
  have d2 : decide (50 < (nd : Int)) = false := decide_eq_false (by omega)
  by_cases c3 : 50 < no
  · have d3 : decide (50 < (no : Int)) = true := decide_eq_true (by omega)
    clear c1 c2 c3
    go_enter Tryz.func14, Tryz.ntmps14
    go_wp2
    go_ret
    exact someG_mk true rfl HW.out (fun h => by cases h)
  have d3 : decide (50 < (no : Int)) = false := decide_eq_false (by omega)
  by_cases c4 : 50 < nm
  · have d4 : decide (50 < (nm : Int)) = true := decide_eq_true (by omega)
    clear c1 c2 c3 c4
    go_enter Tryz.func14, Tryz.ntmps14
    go_wp2
    go_ret
    exact someG_mk true rfl HW.out (fun h => by cases h)
  have d4 : decide (50 < (nm : Int)) = false := decide_eq_false (by omega)
  have hle : nv ≤ 50 ∧ nd ≤ 50 ∧ no ≤ 50 ∧ nm ≤ 50 := by omega
  have HLE := hide_ hle
  have hnd50 : nd ≤ 50 := hle.2.1
  clear c1 c2 c3 c4 hle
  go_enter Tryz.func14, Tryz.ntmps14
  go_wp2
  go_loopw [29] (fun i wr => ∃ k : Nat, k ≤ nd ∧ i = .int .i64 k ∧ Hid (∀ j d, j < k → dl[j]? = some d → d.va.l.length ≤ 50) ∧ Below w.heap.size w wr ∧ Hid (BoxAt wr w.heap.size #[.int .u8 ki, .int .u64 inc, .int .i64 st, .slice vA nv vc, .slice dA nd dc, .slice oA no oc, .int .u64 la, .slice mA nm mc] 31)) (fun i _ => nd - (intOf i).toNat)
  case atStart => exact ⟨0, Nat.zero_le _, rfl, (fun j d hj => absurd hj (by omega)), HW.out, HX.out⟩
  case round =>
    obtain ⟨k, hk, rfl, HJ, hb, HXR⟩ := hrel
    have hz : w.heap.size < wr.heap.size := HXR.out.lt
    have hcx := HXR.out.cell
    by_cases hlt : k < nd
    · obtain ⟨x, hx⟩ : ∃ x, dl[k]? = some x := ⟨_, List.getElem?_eq_getElem (by rw [HND.out]; exact hlt)⟩
      obtain ⟨tb, ot, hAe, hab, e0, e1, e2, e3, e4, e5⟩ := (HD.out.2.2.1.below (hb.mono hB)).done hx
      have hwz : tb < wr.heap.size := by omega
      have hxm := sl_len (HD.out.2.2.2 x (List.mem_of_getElem? hx)).2
      have HXX := hide_ hx
      subst hAe
      obtain ⟨cl, sq, er, inc2, st2, ⟨A, c, va⟩⟩ := x
      simp only at e5 hxm
      obtain ⟨m, hm⟩ : ∃ m, va.length = m := ⟨_, rfl⟩
      rw [hm] at e5 hxm
      have HM := hide_ hm
      have HB := hide_ hb
      clear hx hm e0 e1 e2 e3 e4 hb
      by_cases c5 : 50 < m
      · have d5 : decide (50 < (m : Int)) = true := decide_eq_true (by omega)
        clear c5
        go_wp2
        go_ret
        exact someG_mk true rfl HB.out (fun h => by cases h)
      · have d5 : decide (50 < (m : Int)) = false := decide_eq_false (by omega)
        have HJ2 := hide_ (show ∀ j d, j < k + 1 → dl[j]? = some d → d.va.l.length ≤ 50 from fun j d hj hd => by
          by_cases h : j = k
          · rw [h, HXX.out] at hd
            injection hd with hd
            rw [← hd]
            show va.length ≤ 50
            rw [HM.out]
            omega
          · exact HJ.out j d (by omega) hd)
        clear c5
        go_wp2
        go_roundw
        case rel => exact ⟨k + 1, by omega, by go_num, HJ2, HB.out, HXR⟩
        case measure => simp [intOf]; omega
    · obtain rfl : k = nd := by omega
      have HB := hide_ hb
      clear hb
      have HK := hide_ (show ∀ d ∈ dl, d.va.l.length ≤ 50 from fun d hd => by
        obtain ⟨j, hj, rfl⟩ := List.getElem_of_mem hd
        exact HJ.out j _ (by rw [← HND.out]; exact hj) (List.getElem?_eq_getElem hj))
      go_wp2
      go_ret
      exact someG_mk false rfl HB.out (fun _ => ⟨by show vl.length ≤ 50; rw [HNV.out]; exact HLE.out.1, by show dl.length ≤ 50; rw [HND.out]; exact HLE.out.2.1, by show ol.length ≤ 50; rw [HNO.out]; exact HLE.out.2.2.1, by show ml.length ≤ 50; rw [HNM.out]; exact HLE.out.2.2.2, HK.out⟩)
end Go.Proofs.YtkgnondlcaklnaaGreat

/-
  Contract of layer 6's reference's May.
-/
namespace Go.Proofs.YtkgnondlcaklnaaGreat
open Go.RowKit

set_option maxRecDepth 100000 in
set_option maxHeartbeats 6400000 in
theorem refMayR_any (r : RegM) (B : Nat) (w : World) (hr : RegM.ok w B r) (hB : B ≤ w.heap.size) (hl : ∀ u, RegM.ok u B r → B ≤ u.heap.size → Calls Tryz.prog 33 #[r.v] u fun e w' => e = .returned (.bool (listsB r.p)) ∧ Below u.heap.size u w') : Calls Tryz.prog 13 #[r.v] w fun e w' => e = .returned (.bool (refMayG r.p)) ∧ Below w.heap.size w w' := by
  have HX := hide_ (BoxAt.new w r.box 31)
  have HW := hide_ ((Below.refl w.heap.size w).alloc (Nat.le_refl _) (.cells r.box 31))
  have HLI := hide_ (fun (u : World) (hu : Below w.heap.size w u) => hl u (reg_stable.below hr (hu.mono hB)) (Nat.le_trans hB hu.size))
  have m1 := sl_len hr.2.1
  have m2 := sl_len hr.2.2.1
  have m3 := sl_len hr.2.2.2.1
  have m4 := sl_len hr.2.2.2.2
  have HMY := hide_ (show refMayG r.p = (if r.ki = 0 then decide (r.inc = 0) && (decide (r.st = 0) && (decide (r.la = 0) && (decide (r.va.l.length = 0) && (decide ((r.dn.l.map DoneM.p).length = 0) && (decide (r.ou.l.length = 0) && decide (r.ma.l.length = 0)))))) else if decide (2 < r.ki) || (decide (r.ki = 2) && (!(decide (r.st = 0)) || (decide (0 < r.va.l.length) || decide (0 < r.ou.l.length)))) then false else !(decide (r.inc = 0)) && (inB r.st 0 31 && listsB r.p)) from rfl)
  obtain ⟨q, hq⟩ : ∃ q, listsB r.p = q := ⟨_, rfl⟩
  obtain ⟨G, hG⟩ : ∃ G, refMayG r.p = G := ⟨_, rfl⟩
  rw [hG]
  rw [hG, hq, List.length_map] at HMY
  rw [hq] at HLI
  clear hq hG hr hl
  obtain ⟨ki, inc, st, ⟨vA, vc, vl⟩, ⟨dA, dc, dl⟩, ⟨oA, oc, ol⟩, la, ⟨mA, mc, ml⟩⟩ := r
  obtain ⟨nv, hnv⟩ : ∃ n, vl.length = n := ⟨_, rfl⟩
  obtain ⟨nd, hnd⟩ : ∃ n, dl.length = n := ⟨_, rfl⟩
  obtain ⟨no, hno⟩ : ∃ n, ol.length = n := ⟨_, rfl⟩
  obtain ⟨nm, hnm⟩ : ∃ n, ml.length = n := ⟨_, rfl⟩
  simp only [RegM.v, RegM.box, Sl.v, hnv, hnd, hno, hnm] at HX HW HLI HMY m1 m2 m3 m4 ⊢
  clear hnv hno hnm hnd
  unfold inB at HMY
  by_cases q1 : ki = 0
  case pos =>
    obtain rfl : ki = 0 := by omega
    try clear q1
    by_cases q2 : inc = 0
    case pos =>
      obtain rfl : inc = 0 := by omega
      try clear q2
      by_cases q3 : st = 0
      case pos =>
        obtain rfl : st = 0 := by omega
        try clear q3
        by_cases q4 : la = 0
        case pos =>
          obtain rfl : la = 0 := by omega
          try clear q4
          by_cases q5 : nv = 0
          case pos =>
            obtain rfl : nv = 0 := by omega
            try clear q5
            by_cases q6 : nd = 0
            case pos =>
              obtain rfl : nd = 0 := by omega
              try clear q6
              by_cases q7 : no = 0
              case pos =>
                obtain rfl : no = 0 := by omega
                try clear q7
                by_cases q8 : nm = 0
                case pos =>
                  obtain rfl : nm = 0 := by omega
                  try clear q8
                  have HP := hide_ (show G = true by rw [HMY.out]; simp)
                  go_enter Tryz.func13, Tryz.ntmps13
                  go_wp2
                  go_ret
                  exact ⟨ret_boolT HP.out.symm, by first | exact HW.out | exact HW.out.drew⟩
                case neg =>
                  have d8 : ((nm : Int) == 0) = false := beq_eq_false_iff_ne.2 (by omega)
                  have HP := hide_ (show G = false by rw [HMY.out]; simp [q8])
                  clear q8
                  go_enter Tryz.func13, Tryz.ntmps13
                  go_wp2
                  go_ret
                  exact ⟨ret_boolT HP.out.symm, by first | exact HW.out | exact HW.out.drew⟩
              case neg =>
                have d7 : ((no : Int) == 0) = false := beq_eq_false_iff_ne.2 (by omega)
                have HP := hide_ (show G = false by rw [HMY.out]; simp [q7])
                clear q7
                go_enter Tryz.func13, Tryz.ntmps13
                go_wp2
                go_ret
                exact ⟨ret_boolT HP.out.symm, by first | exact HW.out | exact HW.out.drew⟩
            case neg =>
              have d6 : ((nd : Int) == 0) = false := beq_eq_false_iff_ne.2 (by omega)
              have HP := hide_ (show G = false by rw [HMY.out]; simp [q6])
              clear q6
              go_enter Tryz.func13, Tryz.ntmps13
              go_wp2
              go_ret
              exact ⟨ret_boolT HP.out.symm, by first | exact HW.out | exact HW.out.drew⟩
          case neg =>
            have d5 : ((nv : Int) == 0) = false := beq_eq_false_iff_ne.2 (by omega)
            have HP := hide_ (show G = false by rw [HMY.out]; simp [q5])
            clear q5
            go_enter Tryz.func13, Tryz.ntmps13
            go_wp2
            go_ret
            exact ⟨ret_boolT HP.out.symm, by first | exact HW.out | exact HW.out.drew⟩
        case neg =>
          have d4 : (la == 0) = false := by simp [q4]
          have HP := hide_ (show G = false by rw [HMY.out]; simp [q4])
          clear q4
          go_enter Tryz.func13, Tryz.ntmps13
          go_wp2
          go_ret
          exact ⟨ret_boolT HP.out.symm, by first | exact HW.out | exact HW.out.drew⟩
      case neg =>
        have d3 : (st == 0) = false := by simp [q3]
        have b3 : (st != 0) = true := by simp [q3]
        have HP := hide_ (show G = false by rw [HMY.out]; simp [q3])
        clear q3
        go_enter Tryz.func13, Tryz.ntmps13
        go_wp2
        go_ret
        exact ⟨ret_boolT HP.out.symm, by first | exact HW.out | exact HW.out.drew⟩
    case neg =>
      have d2 : (inc == 0) = false := by simp [q2]
      have b2 : (inc != 0) = true := by simp [q2]
      have HP := hide_ (show G = false by rw [HMY.out]; simp [q2])
      clear q2
      go_enter Tryz.func13, Tryz.ntmps13
      go_wp2
      go_ret
      exact ⟨ret_boolT HP.out.symm, by first | exact HW.out | exact HW.out.drew⟩
  case neg =>
    have d1 : (ki == 0) = false := by simp [q1]
    by_cases q9 : 2 < ki
    case pos =>
      have d9 : decide (2 < ki) = true := decide_eq_true (by omega)
      have HP := hide_ (show G = false by rw [HMY.out]; simp [q1, q9])
      clear q1 q9
      go_enter Tryz.func13, Tryz.ntmps13
      go_wp2
      go_ret
      exact ⟨ret_boolT HP.out.symm, by first | exact HW.out | exact HW.out.drew⟩
    case neg =>
      have d9 : decide (2 < ki) = false := decide_eq_false (by omega)
      by_cases q10 : ki = 2
      case pos =>
        obtain rfl : ki = 2 := by omega
        try clear q10
        by_cases q11 : st = 0
        case pos =>
          obtain rfl : st = 0 := by omega
          try clear q11
          by_cases q12 : 0 < nv
          case pos =>
            have d12 : decide (0 < nv) = true := decide_eq_true (by omega)
            have HP := hide_ (show G = false by rw [HMY.out]; simp [q1, q9, q12])
            clear q1 q9 q12
            go_enter Tryz.func13, Tryz.ntmps13
            go_wp2
            go_ret
            exact ⟨ret_boolT HP.out.symm, by first | exact HW.out | exact HW.out.drew⟩
          case neg =>
            obtain rfl : nv = 0 := by omega
            clear q12
            by_cases q13 : 0 < no
            case pos =>
              have d13 : decide (0 < no) = true := decide_eq_true (by omega)
              have HP := hide_ (show G = false by rw [HMY.out]; simp [q1, q9, q13])
              clear q1 q9 q13
              go_enter Tryz.func13, Tryz.ntmps13
              go_wp2
              go_ret
              exact ⟨ret_boolT HP.out.symm, by first | exact HW.out | exact HW.out.drew⟩
            case neg =>
              obtain rfl : no = 0 := by omega
              clear q13
              by_cases q14 : inc = 0
              case pos =>
                obtain rfl : inc = 0 := by omega
                try clear q14
                have HP := hide_ (show G = false by rw [HMY.out]; simp [q1, q9])
                clear q1 q9
                go_enter Tryz.func13, Tryz.ntmps13
                go_wp2
                go_ret
                exact ⟨ret_boolT HP.out.symm, by first | exact HW.out | exact HW.out.drew⟩
              case neg =>
                have d14 : (inc == 0) = false := by simp [q14]
                have b14 : (inc != 0) = true := by simp [q14]
                have HP := hide_ (show G = q by rw [HMY.out]; simp [q1, q9, q14])
                clear q1 q9 q14
                go_enter Tryz.func13, Tryz.ntmps13
                have hcx := HX.out.cell
                go_wp2_with fail
                refine (HLI.out _ (by first | exact HW.out | exact HW.out.drew)).mono ?_
                rintro e w1 ⟨rfl, hb1⟩
                have HB1 := hide_ (show Below w.heap.size w w1 from (by first | exact HW.out.trans (hb1.mono (by simp)) | exact HW.out.drew.trans (hb1.mono (by simp))))
                clear hb1
                go_wp2
                go_ret
                exact ⟨ret_boolT HP.out.symm, by first | exact HB1.out | exact HB1.out.drew⟩
        case neg =>
          have d11 : (st == 0) = false := by simp [q11]
          have b11 : (st != 0) = true := by simp [q11]
          have HP := hide_ (show G = false by rw [HMY.out]; simp [q1, q9, q11])
          clear q1 q9 q11
          go_enter Tryz.func13, Tryz.ntmps13
          go_wp2
          go_ret
          exact ⟨ret_boolT HP.out.symm, by first | exact HW.out | exact HW.out.drew⟩
      case neg =>
        have d10 : (ki == 2) = false := by simp [q10]
        by_cases q15 : inc = 0
        case pos =>
          obtain rfl : inc = 0 := by omega
          try clear q15
          have HP := hide_ (show G = false by rw [HMY.out]; simp [q1, q9, q10])
          clear q1 q9 q10
          go_enter Tryz.func13, Tryz.ntmps13
          go_wp2
          go_ret
          exact ⟨ret_boolT HP.out.symm, by first | exact HW.out | exact HW.out.drew⟩
        case neg =>
          have d15 : (inc == 0) = false := by simp [q15]
          have b15 : (inc != 0) = true := by simp [q15]
          by_cases q16 : 0 ≤ st
          case pos =>
            have d16 : decide (0 ≤ st) = true := decide_eq_true (by omega)
            by_cases q17 : st < 32
            case pos =>
              have d17 : decide (st < 32) = true := decide_eq_true (by omega)
              have q99 : st ≤ 31 := by omega
              clear q17
              have HP := hide_ (show G = q by rw [HMY.out]; simp [q1, q9, q10, q15, q16, q99])
              clear q1 q9 q10 q15 q16 q99
              go_enter Tryz.func13, Tryz.ntmps13
              have hcx := HX.out.cell
              go_wp2_with fail
              refine (HLI.out _ (by first | exact HW.out | exact HW.out.drew)).mono ?_
              rintro e w1 ⟨rfl, hb1⟩
              have HB1 := hide_ (show Below w.heap.size w w1 from (by first | exact HW.out.trans (hb1.mono (by simp)) | exact HW.out.drew.trans (hb1.mono (by simp))))
              clear hb1
              go_wp2
              go_ret
              exact ⟨ret_boolT HP.out.symm, by first | exact HB1.out | exact HB1.out.drew⟩
            case neg =>
              have d17 : decide (st < 32) = false := decide_eq_false (by omega)
              have q98 : ¬ st ≤ 31 := by omega
              clear q17
              have HP := hide_ (show G = false by rw [HMY.out]; simp [q1, q9, q10, q15, q16, q98])
              clear q1 q9 q10 q15 q16 q98
              go_enter Tryz.func13, Tryz.ntmps13
              go_wp2
              go_ret
              exact ⟨ret_boolT HP.out.symm, by first | exact HW.out | exact HW.out.drew⟩
          case neg =>
            have d16 : decide (0 ≤ st) = false := decide_eq_false (by omega)
            have HP := hide_ (show G = false by rw [HMY.out]; simp [q1, q9, q10, q15, q16])
            clear q1 q9 q10 q15 q16
            go_enter Tryz.func13, Tryz.ntmps13
            go_wp2
            go_ret
            exact ⟨ret_boolT HP.out.symm, by first | exact HW.out | exact HW.out.drew⟩
end Go.Proofs.YtkgnondlcaklnaaGreat
