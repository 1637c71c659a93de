/-
  Texts of this claim put together: PutReg, TkRu, TkTab, TkGet, GetReg, GetReg2, GetReg3, Open6, Law06.
-/
import Derived.Test.YtnkjdijbfnmnhaaGreatJ40
import Derived.Test.YtnkjdijbfnmnhaaGreatJ30
import Derived.Test.YtnkjdijbfnmnhaaGreatJ35
import Derived.Test.YtnkjdijbfnmnhaaGreatJ39
import Derived.Test.YtnkjdijbfnmnhaaGreatJ32
import Derived.Test.YtnkjdijbfnmnhaaGreatJ34
import Derived.Test.YtnkjdijbfnmnhaaGreatJ38
import Derived.Test.YtnkjdijbfnmnhaaGreatJ36
/-
  Contract of reg's Put.
-/
namespace Go.Proofs.YtnkjdijbfnmnhaaGreat
open Go.RowKit

theorem stn_parts {r : RegP} (h : stnB r = true) : r.inc ≠ 0 ∧ ((0 ≤ r.st ∧ r.st ≤ 31) ∧ r.va.length ≤ 8) ∧ (r.dn.length ≤ 8 ∧ ∀ d ∈ r.dn, d.2.1 ≠ 0 ∧ (0 ≤ d.2.2.1 ∧ d.2.2.1 ≤ 99) ∧ (0 ≤ d.2.2.2.2.1 ∧ d.2.2.2.2.1 ≤ 31) ∧ d.2.2.2.2.2.length ≤ 8) ∧ (r.ou.length ≤ 8 ∧ ∀ c ∈ r.ou, 0 ≤ c.2.2.1 ∧ c.2.2.1 ≤ 31) ∧ r.ma.length ≤ 16 := by
  unfold stnB at h
  simp only [Bool.and_eq_true, Bool.not_eq_true', decide_eq_false_iff_not] at h
  obtain ⟨h1, h2, h3, h4, h5⟩ := h
  refine ⟨h1, ?_, ⟨dnsB_len h3, fun d hd => ?_⟩, ⟨?_, fun c hc => ?_⟩, mksB_len h5⟩
  · unfold staB at h2
    simp only [Bool.and_eq_true, decide_eq_true_eq] at h2
    exact ⟨inB_true.1 h2.1, h2.2⟩
  · unfold dnsB at h3
    simp only [Bool.and_eq_true, Bool.not_eq_true'] at h3
    obtain ⟨k, hk, rfl⟩ := List.getElem_of_mem hd
    have h6 := anyB_false.1 h3.2 k hk
    rw [dnX_at (List.getElem?_eq_getElem hk)] at h6
    simp only [Bool.or_eq_false_iff, decide_eq_false_iff_not, Bool.not_eq_false'] at h6
    have h7 := h6.2
    unfold repB staB at h7
    simp only [Bool.and_eq_true, decide_eq_true_eq] at h7
    exact ⟨h6.1, inB_true.1 h7.1, inB_true.1 h7.2.1, h7.2.2⟩
  · unfold ousB at h4
    simp only [Bool.and_eq_true, decide_eq_true_eq] at h4
    exact h4.1
  · unfold ousB at h4
    simp only [Bool.and_eq_true, Bool.not_eq_true'] at h4
    obtain ⟨k, hk, rfl⟩ := List.getElem_of_mem hc
    have h6 := anyB_false.1 h4.2.2 k hk
    rw [ouX_at (List.getElem?_eq_getElem hk)] at h6
    simp only [Bool.or_eq_false_iff, Bool.not_eq_false'] at h6
    exact inB_true.1 h6.2
theorem may_stn {r : RegP} (h : mayG r = true) (h0 : r.ki ≠ 0) : stnB r = true ∧ (r.ki = 1 ∨ r.ki = 2) := by
  unfold mayG at h
  rw [if_neg h0] at h
  by_cases h1 : r.ki = 1
  · rw [if_pos h1] at h
    exact ⟨h, .inl h1⟩
  · rw [if_neg h1] at h
    by_cases h2 : r.ki = 2
    · rw [if_pos h2] at h
      simp only [Bool.and_eq_true] at h
      exact ⟨h.1, .inr h2⟩
    · rw [if_neg h2] at h
      cases h
def putRG (p : List UInt8) (r : RegP) : List UInt8 × Int := if mayG r then (p ++ regB r, 0) else ([], 3)
theorem putRG_yes {p : List UInt8} {r : RegP} (h : mayG r = true) : putRG p r = (p ++ regB r, 0) := by unfold putRG; rw [if_pos h]
theorem putRG_no {p : List UInt8} {r : RegP} (h : mayG r = false) : putRG p r = ([], 3) := by unfold putRG; rw [h]; rfl

set_option maxRecDepth 100000 in
set_option maxHeartbeats 6400000 in
theorem putReg_any (p : List UInt8) (k cap : Nat) (A : Option Addr) (x : RegM) (B : Nat) (w : World) (hk : p.length = k) (hp : k ≤ 1000) (hs : Sees w B A (bv p)) (hx : RegM.ok w B x) (hB : B ≤ w.heap.size) :
    Calls Tryz.prog 120 #[.slice A k cap, x.v] w (PutsT (putRG p x.p) w) := by
  have hw1 := (show Below w.heap.size w (w.alloc (.cells x.box 31)) from (Below.refl _ _).alloc (Nat.le_refl _) _)
  have HW := hide_ hw1
  have HX := hide_ (BoxAt.new w x.box 31)
  have HMY := hide_ (mayReg_any x B _ (reg_stable.below hx (hw1.mono hB)) (Nat.le_trans hB hw1.size))
  have HXO := hide_ hx
  have HS := hide_ hs
  have HK := hide_ hk
  obtain ⟨q, hq⟩ : ∃ q, mayG x.p = q := ⟨_, rfl⟩
  rw [hq] at HMY
  have hk8 : 0 ≤ x.ki ∧ x.ki ≤ 255 := hx.1.1
  clear hx hs hk hw1
  cases q with
  | false =>
    rw [putRG_no hq]
    clear hq HXO
    obtain ⟨ki, inc, st, ⟨vA, vc, vl⟩, ⟨dA, dc, dl⟩, ⟨oA, oc, ol⟩, la, ⟨mA, mc, ml⟩⟩ := x
    simp only [RegM.v, RegM.box, Sl.v] at HMY HW HX ⊢
    go_enter Tryz.func120, Tryz.ntmps120
    go_wp2_with fail
    refine HMY.out.mono ?_
    rintro en w1 ⟨rfl, hb⟩
    have HB := hide_ (HW.out.trans (hb.mono (by simp)))
    clear hb
    go_wp2
    go_ret2
    exact ⟨none, 0, rfl, World.ownsRow_nil _ _ _ _, HB.out⟩
  | true =>
  rw [putRG_yes hq]
  obtain ⟨ki, inc, st, ⟨vA, vc, vl⟩, ⟨dA, dc, dl⟩, ⟨oA, oc, ol⟩, la, ⟨mA, mc, ml⟩⟩ := x
  simp only at hk8
  obtain ⟨y, rfl⟩ := Int.eq_ofNat_of_zero_le hk8.1
  have hy8 : y ≤ 255 := by omega
  have HQ := hide_ hq
  obtain ⟨out, hout⟩ : ∃ r, p ++ regB (RegM.p ⟨(y : Int), inc, st, ⟨vA, vc, vl⟩, ⟨dA, dc, dl⟩, ⟨oA, oc, ol⟩, la, ⟨mA, mc, ml⟩⟩) = r := ⟨_, rfl⟩
  rw [hout]
  have HOUT := hide_ hout
  clear hout
  obtain ⟨q1, hq1⟩ : ∃ r, p ++ numB y = r := ⟨_, rfl⟩
  have HQ1 := hide_ hq1
  have HL1 := hide_ (show q1.length ≤ 1010 by rw [← hq1, List.length_append]; have := numB_length y (by omega); have := HK.out; omega)
  clear hq hq1 hk8
  simp only [RegM.v, RegM.box, Sl.v] at HMY HW HX ⊢
  go_enter Tryz.func120, Tryz.ntmps120
  go_wp2_with fail
  refine HMY.out.mono ?_
  rintro en w1 ⟨rfl, hb⟩
  have HB := hide_ (HW.out.trans (hb.mono (by simp)))
  have HX1 := hide_ (HX.out.below hb)
  clear hb HMY
  have hz1 : w.heap.size < w1.heap.size := HX1.out.lt
  have hcx := HX1.out.cell
  go_wp2_with fail
  refine (PutNum_any p q1 y B A k cap w1 HK.out HQ1.out (by omega) (HS.out.below (HB.out.mono hB)) (by omega) (by have := HK.out; omega)).mono ?_
  rintro en w2 ⟨A2, c2, rfl, ho2, hb2⟩
  have HO2 := hide_ ho2
  have HX2 := hide_ (HX1.out.below hb2)
  have HB2 := hide_ (HB.out.trans (hb2.mono (by omega)))
  have HBB := hide_ hb2
  clear ho2 hb2 hcx
  have hz2 : w.heap.size < w2.heap.size := HX2.out.lt
  have hw12 : w1.heap.size ≤ w2.heap.size := HBB.out.size
  have hcx := HX2.out.cell
  by_cases k0 : y = 0
  · subst k0
    have he : out = q1 := by
      rw [← HOUT.out, ← HQ1.out]
      unfold regB RegM.p natB
      simp
    subst he
    go_wp2
    go_ret2
    exact ⟨_, _, rfl, own_mono (base := w1.heap.size) (base' := w.heap.size) HO2.out (by omega), HB2.out⟩
  have hd0 : ((y : Int) == 0) = false := beq_eq_false_iff_ne.2 (by omega)
  obtain ⟨hinc, ⟨hst, hva⟩, ⟨hdl, hdc⟩, ⟨hol, hoc⟩, hml⟩ := stn_parts (may_stn HQ.out (show (y : Int) ≠ 0 by omega)).1
  unfold RegM.p at hst hva hdl hdc hol hoc hml
  simp only [List.length_map] at hst hva hdl hdc hol hoc hml
  obtain ⟨q2, hq2⟩ : ∃ r, q1 ++ natB inc = r := ⟨_, rfl⟩
  obtain ⟨q3, hq3⟩ : ∃ r, q2 ++ (natB st ++ varB vl) = r := ⟨_, rfl⟩
  obtain ⟨q4, hq4⟩ : ∃ r, q3 ++ (natB dl.length ++ dl.flatMap (fun d => donB d.p)) = r := ⟨_, rfl⟩
  obtain ⟨q5, hq5⟩ : ∃ r, q4 ++ (natB ol.length ++ ol.flatMap celB) = r := ⟨_, rfl⟩
  obtain ⟨q6, hq6⟩ : ∃ r, q5 ++ natB la = r := ⟨_, rfl⟩
  obtain ⟨q7, hq7⟩ : ∃ r, q6 ++ (natB ml.length ++ ml.flatMap mrkB) = r := ⟨_, rfl⟩
  have he : out = q7 := by
    rw [← HOUT.out, ← hq7, ← hq6, ← hq5, ← hq4, ← hq3, ← hq2, ← HQ1.out]
    unfold regB RegM.p
    rw [if_neg (show (y : Int) ≠ 0 by omega)]
    simp only [List.length_map, List.flatMap_map, List.append_assoc]
    rfl
  obtain ⟨⟨_, hu2, _, hu4⟩, hov, hod, hoo, hom⟩ := HXO.out
  simp only at hu2 hu4 hov hod hoo hom
  have HDC := hide_ (show ∀ d ∈ dl, (0 ≤ d.er ∧ d.er ≤ 99) ∧ (0 ≤ d.st ∧ d.st ≤ 31) ∧ d.va.l.length ≤ 8 from fun d hd => (hdc d.p (List.mem_map_of_mem hd)).2)
  have hlen1 := HL1.out
  have hlen2 : q2.length ≤ 1020 := by rw [← hq2, List.length_append]; have := natU_len inc hu2; omega
  have hlen3 : q3.length ≤ 1600 := by rw [← hq3, List.length_append, List.length_append]; have := natB_len st (by omega); have := varB_len vl hov.2.2.2 (by omega); omega
  have hlen4 : q4.length ≤ 6500 := by
    rw [← hq4, List.length_append, List.length_append]
    have := natB_len dl.length (by omega)
    have := flat_le (f := fun d : DoneM => donB d.p) dl fun z hz => don_len (hod.2.2.2 z hz) (HDC.out z hz)
    omega
  have hlen5 : q5.length ≤ 7000 := by
    rw [← hq5, List.length_append, List.length_append]
    have := natB_len ol.length (by omega)
    have := flat_le (f := celB) ol fun z hz => cel_len (hoo.2.2.2 z hz) (hoc z hz)
    omega
  have hlen6 : q6.length ≤ 7010 := by rw [← hq6, List.length_append]; have := natU_len la hu4; omega
  have he2 := he.symm
  clear he
  subst he2
  have HQQ := hide_ (show (q1 ++ natB inc = q2 ∧ q2 ++ (natB st ++ varB vl) = q3 ∧ q3 ++ (natB dl.length ++ dl.flatMap (fun d => donB d.p)) = q4) ∧ (q4 ++ (natB ol.length ++ ol.flatMap celB) = q5 ∧ q5 ++ natB la = q6 ∧ q6 ++ (natB ml.length ++ ml.flatMap mrkB) = q7) from ⟨⟨hq2, hq3, hq4⟩, hq5, hq6, hq7⟩)
  have HLL := hide_ (show q1.length ≤ 1010 ∧ q2.length ≤ 1020 ∧ q3.length ≤ 1600 ∧ q4.length ≤ 6500 ∧ q5.length ≤ 7000 ∧ q6.length ≤ 7010 from ⟨hlen1, hlen2, hlen3, hlen4, hlen5, hlen6⟩)
  have HU := hide_ (show U64 inc ∧ U64 la from ⟨hu2, hu4⟩)
  have HVA := hide_ (show (0 ≤ st ∧ st ≤ 31) ∧ vl.length ≤ 8 ∧ dl.length ≤ 8 ∧ ol.length ≤ 8 ∧ ml.length ≤ 16 from ⟨hst, hva, hdl, hol, hml⟩)
  have HOC := hide_ hoc
  have HOV := hide_ hov
  have HOD := hide_ hod
  have HOO := hide_ hoo
  have HOM := hide_ hom
  clear hq2 hq3 hq4 hq5 hq6 hq7 hlen1 hlen2 hlen3 hlen4 hlen5 hlen6 hu2 hu4 hov hod hoo hom hst hva hdl hdc hol hoc hml hinc HQ k0
  have HST0 := hide_ (RowStep.refl HO2.out)
  have HU3 := hide_ ((Below.refl w2.heap.size w2).alloc (Nat.le_refl _) (.cells #[.int .u64 inc] 25))
  have HSU3 := hide_ (sees_uv (w := w2) [inc] #[.int .u64 inc] 25 _ rfl rfl)
  have HBWF := hide_ (fun (u : World) (v' : Value) (rr : List UInt8) (h : RowStep w1.heap.size (.slice A2 q1.length c2) w2 v' u rr) => show Below w.heap.size w u from HB2.out.trans (h.below (r0 := q1) HO2.out (by omega) (by omega)))
  go_wp2_with fail
  refine (putNums6_at q1 q2 [inc] w1.heap.size _ 1 _ w2 _ _ (by simp) HU3.out HSU3.out (Nat.le_refl _) (by rw [uB1]; exact HQQ.out.1.1) rfl (by omega) (by intro z hz; simp at hz; subst hz; exact HU.out.1) (by have := HLL.out; omega) HO2.out (by omega)).mono ?_
  rintro en w3 ⟨A3, c3, rfl, hst3⟩
  have HST3 := hide_ (RowStep.fresh HU3.out hst3)
  have HX3 := hide_ ((HX2.out.alloc _).step (by decide) (own_below HO2.out HU3.out) hst3)
  clear hst3 hcx
  have hz3 : w.heap.size < w3.heap.size := HX3.out.lt
  have hy3 : w2.heap.size ≤ w3.heap.size := HST3.out.grow.size
  have HBW3 := hide_ (HBWF.out _ _ _ HST3.out)
  have hcx := HX3.out.cell
  go_wp2_with fail
  refine (putState_any q2 q3 st ⟨vA, vc, vl⟩ vl.length rfl w1.heap.size _ B _ HQQ.out.1.2.1 HVA.out.1 (by have := HLL.out; omega) (by have := HVA.out; omega) (ints_stable.below HOV.out (HBW3.out.mono hB)) (by omega) HST3.out.own (by omega)).mono ?_
  rintro en w4 ⟨A4, c4, rfl, hst4⟩
  have HST4 := hide_ (HST3.out.trans hst4)
  have HX4 := hide_ (HX3.out.step (by decide) HST3.out.own hst4)
  clear hst4 hcx
  have hz4 : w.heap.size < w4.heap.size := HX4.out.lt
  have hy4 : w2.heap.size ≤ w4.heap.size := HST4.out.grow.size
  have HBW4 := hide_ (HBWF.out _ _ _ HST4.out)
  have hcx := HX4.out.cell
  go_wp2_with fail
  refine (putDone_any q3 q4 ⟨dA, dc, dl⟩ dl.length rfl w1.heap.size _ B _ HQQ.out.1.2.2 (by have := HLL.out; omega) (by have := HVA.out; omega) (dns_stable.below HOD.out (HBW4.out.mono hB)) HDC.out (by omega) HST4.out.own (by omega)).mono ?_
  rintro en w5 ⟨A5, c5, rfl, hst5⟩
  have HST5 := hide_ (HST4.out.trans hst5)
  have HX5 := hide_ (HX4.out.step (by decide) HST4.out.own hst5)
  clear hst5 hcx
  have hz5 : w.heap.size < w5.heap.size := HX5.out.lt
  have hy5 : w2.heap.size ≤ w5.heap.size := HST5.out.grow.size
  have HBW5 := hide_ (HBWF.out _ _ _ HST5.out)
  have hcx := HX5.out.cell
  go_wp2_with fail
  refine (putOut_any q4 q5 ⟨oA, oc, ol⟩ ol.length rfl w1.heap.size _ B _ HQQ.out.2.1 (by have := HLL.out; omega) (by have := HVA.out; omega) (cels_stable.below HOO.out (HBW5.out.mono hB)) HOC.out (by omega) HST5.out.own (by omega)).mono ?_
  rintro en w6 ⟨A6, c6, rfl, hst6⟩
  have HST6 := hide_ (HST5.out.trans hst6)
  have HX6 := hide_ (HX5.out.step (by decide) HST5.out.own hst6)
  clear hst6 hcx
  have HU7 := hide_ ((Below.refl w6.heap.size w6).alloc (Nat.le_refl _) (.cells #[.int .u64 la] 25))
  have HSU7 := hide_ (sees_uv (w := w6) [la] #[.int .u64 la] 25 _ rfl rfl)
  have hz6 : w.heap.size < w6.heap.size := HX6.out.lt
  have hy6 : w2.heap.size ≤ w6.heap.size := HST6.out.grow.size
  have HBW6 := hide_ (HBWF.out _ _ _ HST6.out)
  have hcx := HX6.out.cell
  go_wp2_with fail
  refine (putNums6_at q5 q6 [la] w1.heap.size _ 1 _ w6 _ _ (by simp) HU7.out HSU7.out (Nat.le_refl _) (by rw [uB1]; exact HQQ.out.2.2.1) rfl (by omega) (by intro z hz; simp at hz; subst hz; exact HU.out.2) (by have := HLL.out; omega) HST6.out.own (by omega)).mono ?_
  rintro en w7 ⟨A7, c7, rfl, hst7⟩
  have HST7 := hide_ (HST6.out.trans (RowStep.fresh HU7.out hst7))
  have HX7 := hide_ ((HX6.out.alloc _).step (by decide) (own_below HST6.out.own HU7.out) hst7)
  clear hst7 hcx
  have hz7 : w.heap.size < w7.heap.size := HX7.out.lt
  have hy7 : w2.heap.size ≤ w7.heap.size := HST7.out.grow.size
  have HBW7 := hide_ (HBWF.out _ _ _ HST7.out)
  have hcx := HX7.out.cell
  go_wp2_with fail
  refine (putMarks_any q6 q7 ⟨mA, mc, ml⟩ ml.length rfl w1.heap.size _ B _ HQQ.out.2.2.2 (by have := HLL.out; omega) (by have := HVA.out; omega) (mrks_stable.below HOM.out (HBW7.out.mono hB)) (by omega) HST7.out.own (by omega)).mono ?_
  rintro en w8 ⟨A8, c8, rfl, hst8⟩
  have HST8 := hide_ (HST7.out.trans hst8)
  clear hst8 hcx
  go_wp2
  go_ret2
  exact ⟨_, _, rfl, own_mono (base := w1.heap.size) (base' := w.heap.size) HST8.out.own (by omega), HBWF.out _ _ _ HST8.out⟩

end Go.Proofs.YtnkjdijbfnmnhaaGreat
/-
  Contract of table's taker's method rule.
-/
namespace Go.Proofs.YtnkjdijbfnmnhaaGreat
open Go.RowKit

end Go.Proofs.YtnkjdijbfnmnhaaGreat
/-
  Contract of table's taker's method table.
-/
namespace Go.Proofs.YtnkjdijbfnmnhaaGreat
open Go.RowKit

end Go.Proofs.YtnkjdijbfnmnhaaGreat
/-
  What is put is got: contracts' bytes taken again; contract of table's Get.
-/
namespace Go.Proofs.YtnkjdijbfnmnhaaGreat
open Go.RowKit

theorem iterS_putg {α β : Type} {f : RS → β × RS} {b : α → List UInt8} {g : α → β} : ∀ (l : List α) (t : List UInt8), (∀ x ∈ l, ∀ t, f (b x ++ t, 0) = (g x, (t, 0))) → iterS f l.length (l.flatMap b ++ t, 0) = (l.map g, (t, 0)) := by
  intro l
  induction l with
  | nil => intro t _; rfl
  | cons x l ih =>
    intro t h
    rw [List.flatMap_cons, List.length_cons, List.append_assoc]
    show ((f _).1 :: (iterS f l.length (f _).2).1, (iterS f l.length (f _).2).2) = _
    rw [h x (by simp), ih t fun y hy => h y (by simp [hy])]
    rfl
theorem manyS_putg {α β : Type} {f : RS → β × RS} {b : α → List UInt8} {g : α → β} {most : Nat} (l : List α) (t : List UInt8) (hm : l.length ≤ most) (hl : l.length < 18446744073709551616) (h : ∀ x ∈ l, ∀ t, f (b x ++ t, 0) = (g x, (t, 0))) : manyS most f (natB l.length ++ (l.flatMap b ++ t), 0) = (l.map g, (t, 0)) := by
  unfold manyS
  rw [show natB (l.length : Int) = numB l.length from rfl, numS_put _ hl hm]
  exact iterS_putg l t h
theorem natS_put {n : Int} {most : Nat} (t : List UInt8) (_ : 0 ≤ n) (hm : n ≤ most) (h : most < 18446744073709551616) : numS most (natB n ++ t, 0) = (n.toNat, (t, 0)) := numS_put (x := n.toNat) t (by omega) (by omega)
theorem natS_back {n : Int} (h0 : 0 ≤ n) : ((n.toNat : Nat) : Int) = n := by omega

theorem tokS_put {t : Int × Int} (h : TokIn t) (r : List UInt8) : tokS (tokB t ++ r, 0) = (t, (r, 0)) := by
  obtain ⟨a, b⟩ := t
  have h1 := h.1
  have h2 := h.2.1
  have h3 := h.2.2
  simp only at h1 h2 h3
  unfold tokS tokB
  simp only [List.append_assoc]
  rw [natS_put _ h1 (by omega) (by omega)]
  simp only
  rw [intS_put r h3.1 h3.2, natS_back h1]
theorem fmlS_put {l : List (Int × Int)} (h : ∀ t ∈ l, TokIn t) (h24 : l.length ≤ 24) (r : List UInt8) : fmlS (fmlB l ++ r, 0) = (l, (r, 0)) := by
  unfold fmlS fmlB
  rw [List.append_assoc, manyS_putg (g := id) l r h24 (by omega) (fun x hx t => tokS_put (h x hx) t), List.map_id]
theorem setS_put {s : SetM} (hv : 0 ≤ s.var ∧ s.var ≤ 1000) (h : ∀ t ∈ s.val.l, TokIn t) (h24 : s.val.l.length ≤ 24) (r : List UInt8) : setS (setBy s ++ r, 0) = (s.bare, (r, 0)) := by
  unfold setS setBy
  simp only [List.append_assoc]
  rw [natS_put _ hv.1 (by omega) (by omega)]
  simp only
  rw [fmlS_put h h24, natS_back hv.1]
  rfl
theorem emS_put {s : EmM} (hv : 0 ≤ s.tg ∧ s.tg ≤ 255) (ha : 0 ≤ s.ac ∧ s.ac ≤ 1000) (h : ∀ t ∈ s.arg.l, TokIn t) (h24 : s.arg.l.length ≤ 24) (r : List UInt8) : emS (emBy s ++ r, 0) = (s.bare, (r, 0)) := by
  unfold emS emBy
  simp only [List.append_assoc]
  rw [natS_put _ hv.1 (by omega) (by omega)]
  simp only
  rw [natS_put _ ha.1 (by omega) (by omega)]
  simp only
  rw [fmlS_put h h24, natS_back hv.1, natS_back ha.1]
  rfl
theorem ruleS_put {w : World} {B : Nat} {st vs : Int} {r : RuM} (hok : RuM.ok w B r) (hm : ruB st vs r = true) (hst : st ≤ 32) (hvs : vs ≤ 8) (t : List UInt8) : ruleS (ruBy r ++ t, 0) = (r.bare, (t, 0)) := by
  have hs := ruS_of hm
  have hp := ruP_of hm
  obtain ⟨p1, p2, p3, p4, -, p6, p7⟩ := ruB_parts hm
  unfold ruleS ruBy
  simp only [List.append_assoc]
  rw [natS_put _ hp.1.1 (by omega) (by omega)]
  simp only
  rw [natS_put _ hp.1.2.1 (by omega) (by omega)]
  simp only
  rw [natS_put _ hp.1.2.2.1 (by omega) (by omega)]
  simp only
  rw [natS_put _ hp.1.2.2.2 (by omega) (by omega)]
  simp only
  rw [fmlS_put hok.2.1.2.2.2 hs.1]
  simp only
  unfold setsBy
  rw [List.append_assoc, manyS_putg (g := SetM.bare) r.se.l _ hs.2.1.1 (Nat.lt_of_le_of_lt hs.2.1.1 (by omega)) (fun x hx t => by
    obtain ⟨k, hk, rfl⟩ := List.getElem_of_mem hx
    have h1 := setsB_at p6 (List.getElem?_eq_getElem hk)
    exact setS_put ⟨hp.2.1 _ hx, by omega⟩ (hok.2.2.1.2.2.2 _ hx).2.2.2.2 (hs.2.1.2 _ hx) t)]
  simp only
  unfold emsBy
  rw [List.append_assoc, manyS_putg (g := EmM.bare) r.em.l _ hs.2.2.1 (Nat.lt_of_le_of_lt hs.2.2.1 (by omega)) (fun x hx t => by
    obtain ⟨k, hk, rfl⟩ := List.getElem_of_mem hx
    have h1 := emsB_at p7 (List.getElem?_eq_getElem hk)
    exact emS_put (hok.2.2.2.2.2.2 _ hx).1 ⟨hp.2.2 _ hx, by omega⟩ (hok.2.2.2.2.2.2 _ hx).2.2.2.2.2 (hs.2.2.2 _ hx) t)]
  simp only
  rw [natS_back hp.1.1, natS_back hp.1.2.1, natS_back hp.1.2.2.1, natS_back hp.1.2.2.2]
  rfl
theorem tabS_put {w : World} {B : Nat} {st vs : Int} {s : Sl RuM} (hok : rusOk w B s) (hm : mayT st vs s.l = true) (t : List UInt8) : tabS (tabBy st vs s.l ++ t, 0) = ((st, vs, s.l.map RuM.bare), (t, 0)) := by
  have hn := mayT_num hm
  unfold tabS tabBy
  simp only [List.append_assoc]
  rw [natS_put _ (by omega) (by omega) (by omega)]
  simp only
  rw [natS_put _ hn.2.1.1 (by omega) (by omega)]
  simp only
  rw [manyS_putg (g := RuM.bare) s.l _ hn.2.2 (by omega) (fun x hx t => by
    obtain ⟨k, hk, rfl⟩ := List.getElem_of_mem hx
    exact ruleS_put (hok.2.2.2 _ hx) (mayT_rule hm (List.getElem?_eq_getElem hk)) hn.1.2 hn.2.1.2 t)]
  simp only
  rw [natS_back (by omega), natS_back hn.2.1.1]

theorem bare_leastB (l : List SetM) (k : Nat) : leastB (l.map SetM.bare) k = leastB l k := by
  rcases k with _ | k
  · rfl
  · simp only [leastB, List.getElem?_map]
    cases l[k]? <;> rfl
theorem bare_setsB (vs : Int) (l : List SetM) : setsB vs (l.map SetM.bare) = setsB vs l := by
  unfold setsB
  rw [List.length_map, anyB_congr fun k _ => show setX vs (l.map SetM.bare) k = setX vs l k by
    unfold setX
    rw [List.getElem?_map, bare_leastB]
    cases l[k]? <;> rfl]
theorem bare_emsB (vs : Int) (l : List EmM) : emsB vs (l.map EmM.bare) = emsB vs l := by
  unfold emsB
  rw [List.length_map, anyB_congr fun k _ => show emX vs (l.map EmM.bare) k = emX vs l k by
    unfold emX
    rw [List.getElem?_map]
    cases l[k]? <;> rfl]
theorem bare_ruB (st vs : Int) (r : RuM) : ruB st vs r.bare = ruB st vs r := by
  unfold ruB RuM.bare
  simp only
  rw [bare_setsB, bare_emsB]
theorem bare_mayT (st vs : Int) (l : List RuM) : mayT st vs (l.map RuM.bare) = mayT st vs l := by
  unfold mayT rusB
  rw [List.length_map, anyB_congr fun k _ => show ruX st vs (l.map RuM.bare) k = ruX st vs l k by
    unfold ruX
    rw [List.getElem?_map]
    cases l[k]? with
    | none => rfl
    | some r => simp only [Option.map_some, bare_ruB]]
theorem bare_flat {α : Type} {f : α → α} {b : α → List UInt8} (h : ∀ x, b (f x) = b x) (l : List α) : (l.map f).flatMap b = l.flatMap b := by
  induction l with
  | nil => rfl
  | cons x l ih => rw [List.map_cons, List.flatMap_cons, List.flatMap_cons, ih, h]
theorem bare_ruBy (r : RuM) : ruBy r.bare = ruBy r := by
  unfold ruBy RuM.bare setsBy emsBy
  simp only [List.length_map]
  rw [bare_flat (f := SetM.bare) (b := setBy) (fun _ => rfl), bare_flat (f := EmM.bare) (b := emBy) (fun _ => rfl)]
theorem bare_tabBy (st vs : Int) (l : List RuM) : tabBy st vs (l.map RuM.bare) = tabBy st vs l := by
  unfold tabBy
  rw [List.length_map, bare_flat bare_ruBy]
theorem bare_putR (st vs : Int) (l : List RuM) : putR st vs (l.map RuM.bare) = putR st vs l := by
  unfold putR
  rw [bare_mayT, bare_tabBy]
theorem putR_of {st vs : Int} {l m : List RuM} (h : l.map RuM.bare = m.map RuM.bare) : putR st vs l = putR st vs m := by rw [← bare_putR, h, bare_putR]

end Go.Proofs.YtnkjdijbfnmnhaaGreat
/-
  Contract of reg's Get; what is put is taken, what is cut off is short: plain facts on lists.
-/
namespace Go.Proofs.YtnkjdijbfnmnhaaGreat
open Go.RowKit

theorem bigS_put {n : Int} (t : List UInt8) (h : U64 n) : numBig (natB n ++ t, 0) = (n.toNat, (t, 0)) := by
  unfold U64 at h
  exact numS_put (x := n.toNat) t (by omega) (by omega)
theorem bigS_cuts {n : Int} (h : U64 n) : Cuts numBig (natB n) := by
  unfold U64 at h
  exact numS_cuts (x := n.toNat) (by omega)
theorem natS_cuts {n : Int} {most : Nat} (h : n ≤ 1000000) : Cuts (numS most) (natB n) := numS_cuts (x := n.toNat) (by omega)
theorem bigS_holds : Holds2 numBig := rfl
/-- one thing behind another -/
theorem cut_step {α β : Type} {f : RS → α × RS} {h : RS → β × RS} {b c : List UInt8} (hc : Cuts f b) (hput : ∀ t, (f (b ++ t, 0)).2 = (t, 0)) (hh : (h ([], 2)).2 = ([], 2)) (hn : ∀ k, k < c.length → (h (c.take k, 0)).2 = ([], 2)) : ∀ k, k < (b ++ c).length → (h (f ((b ++ c).take k, 0)).2).2 = ([], 2) := fun k hk => by
  rw [List.length_append] at hk
  by_cases h1 : k < b.length
  · rw [take_app_lt h1, hc k h1, hh]
  · rw [take_app_ge (by omega), hput]
    exact hn _ (by omega)

theorem varS_put {l : List Int} (h : ∀ x ∈ l, I64 x) (h1 : l.length ≤ 1000) (t : List UInt8) : varS (varB l ++ t, 0) = (l, (t, 0)) := by
  unfold varS varB
  rw [List.append_assoc, manyS_putg (b := intB) (g := id) l t h1 (by omega) (fun x hx t => intS_put t (h x hx).1 (h x hx).2), List.map_id]
theorem varS_holds : Holds2 varS := manyS_holds intS_holds
theorem varS_cuts {l : List Int} (h : ∀ x ∈ l, I64 x) (h1 : l.length ≤ 1000) : Cuts varS (varB l) := by
  unfold varB
  exact manyS_cuts intS_holds l h1 (by omega) fun x hx => ⟨fun t => intS_put t (h x hx).1 (h x hx).2, intS_cuts (h x hx).1 (h x hx).2⟩

/-- an entry's numbers have room -/
def DonOk (d : DoneP) : Prop := U8 d.1 ∧ U64 d.2.1 ∧ (0 ≤ d.2.2.1 ∧ d.2.2.1 ≤ 1000) ∧ U64 d.2.2.2.1 ∧ (0 ≤ d.2.2.2.2.1 ∧ d.2.2.2.2.1 ≤ 1000) ∧ (∀ x ∈ d.2.2.2.2.2, I64 x) ∧ d.2.2.2.2.2.length ≤ 1000
theorem back {n : Int} (h : 0 ≤ n) : ((n.toNat : Nat) : Int) = n := by omega
theorem doneS_put {d : DoneP} (h : DonOk d) (t : List UInt8) : doneS (donB d ++ t, 0) = (d, (t, 0)) := by
  obtain ⟨cl, sq, er, inc, st, va⟩ := d
  obtain ⟨h1, h2, h3, h4, h5, h6, h7⟩ := h
  simp only at h1 h2 h3 h4 h5 h6 h7
  have g1 := h1
  have g2 := h2
  have g4 := h4
  unfold U8 at g1
  unfold U64 at g2 g4
  unfold doneS repS donB
  simp only [List.append_assoc]
  rw [natS_put _ g1.1 (by omega) (by omega)]
  simp only
  rw [bigS_put _ h2]
  simp only
  rw [natS_put _ h3.1 (by omega) (by omega)]
  simp only
  rw [bigS_put _ h4]
  simp only
  rw [natS_put _ h5.1 (by omega) (by omega)]
  simp only
  rw [varS_put h6 h7, back g1.1, back g2.1, back h3.1, back g4.1, back h5.1]
theorem repS_holds : Holds2 repS := rfl
theorem doneS_holds : Holds2 doneS := rfl
theorem doneS_cuts {d : DoneP} (h : DonOk d) : Cuts doneS (donB d) := by
  obtain ⟨cl, sq, er, inc, st, va⟩ := d
  obtain ⟨h1, h2, h3, h4, h5, h6, h7⟩ := h
  simp only at h1 h2 h3 h4 h5 h6 h7
  have g1 := h1
  unfold U8 at g1
  intro k hk
  unfold donB at hk ⊢
  simp only at hk ⊢
  refine cut_step (h := fun s => ((), (repS (numBig s).2).2)) (natS_cuts (by omega)) (fun t => by rw [natS_put _ g1.1 (by omega) (by omega)]) rfl ?_ k hk
  refine cut_step (h := fun s => ((), (repS s).2)) (bigS_cuts h2) (fun t => by rw [bigS_put _ h2]) rfl ?_
  refine cut_step (h := fun s => ((), (varS (numS 1000 (numBig s).2).2).2)) (natS_cuts (by omega)) (fun t => by rw [natS_put _ h3.1 (by omega) (by omega)]) rfl ?_
  refine cut_step (h := fun s => ((), (varS (numS 1000 s).2).2)) (bigS_cuts h4) (fun t => by rw [bigS_put _ h4]) rfl ?_
  refine cut_step (h := fun s => ((), (varS s).2)) (natS_cuts (by omega)) (fun t => by rw [natS_put _ h5.1 (by omega) (by omega)]) rfl ?_
  exact varS_cuts h6 h7

def CelOk (c : CelM) : Prop := celIn c ∧ (0 ≤ c.2.2.1 ∧ c.2.2.1 ≤ 1000)
theorem celS_put {c : CelM} (h : CelOk c) (t : List UInt8) : celS (celB c ++ t, 0) = (c, (t, 0)) := by
  obtain ⟨n, tg, ac, ar⟩ := c
  obtain ⟨⟨h1, h2, h3, h4⟩, h5⟩ := h
  simp only at h1 h2 h3 h4 h5
  have g1 := h1
  have g2 := h2
  unfold U64 at g1
  unfold U8 at g2
  unfold celS celB
  simp only [List.append_assoc]
  rw [bigS_put _ h1]
  simp only
  rw [natS_put _ g2.1 (by omega) (by omega)]
  simp only
  rw [natS_put _ h5.1 (by omega) (by omega)]
  simp only
  rw [intS_put t h4.1 h4.2, back g1.1, back g2.1, back h5.1]
theorem celS_holds : Holds2 celS := rfl
theorem celS_cuts {c : CelM} (h : CelOk c) : Cuts celS (celB c) := by
  obtain ⟨n, tg, ac, ar⟩ := c
  obtain ⟨⟨h1, h2, h3, h4⟩, h5⟩ := h
  simp only at h1 h2 h3 h4 h5
  have g2 := h2
  unfold U8 at g2
  intro k hk
  unfold celB at hk ⊢
  simp only at hk ⊢
  refine cut_step (h := fun s => ((), (intS (numS 1000 (numS 255 s).2).2).2)) (bigS_cuts h1) (fun t => by rw [bigS_put _ h1]) rfl ?_ k hk
  refine cut_step (h := fun s => ((), (intS (numS 1000 s).2).2)) (natS_cuts (by omega)) (fun t => by rw [natS_put _ g2.1 (by omega) (by omega)]) rfl ?_
  refine cut_step (h := fun s => ((), (intS s).2)) (natS_cuts (by omega)) (fun t => by rw [natS_put _ h5.1 (by omega) (by omega)]) rfl ?_
  exact intS_cuts h4.1 h4.2
theorem mrkS_put {m : MrkM} (h : mrkIn m) (t : List UInt8) : mrkS (mrkB m ++ t, 0) = (m, (t, 0)) := by
  obtain ⟨a, b, c⟩ := m
  obtain ⟨h1, h2, h3⟩ := h
  simp only at h1 h2 h3
  have g1 := h1
  have g2 := h2
  have g3 := h3
  unfold U8 at g1
  unfold U64 at g2 g3
  unfold mrkS mrkB
  simp only [List.append_assoc]
  rw [natS_put _ g1.1 (by omega) (by omega)]
  simp only
  rw [bigS_put _ h2]
  simp only
  rw [bigS_put _ h3, back g1.1, back g2.1, back g3.1]
theorem mrkS_holds : Holds2 mrkS := rfl
theorem mrkS_cuts {m : MrkM} (h : mrkIn m) : Cuts mrkS (mrkB m) := by
  obtain ⟨a, b, c⟩ := m
  obtain ⟨h1, h2, h3⟩ := h
  simp only at h1 h2 h3
  have g1 := h1
  unfold U8 at g1
  intro k hk
  unfold mrkB at hk ⊢
  simp only at hk ⊢
  refine cut_step (h := fun s => ((), (numBig (numBig s).2).2)) (natS_cuts (by omega)) (fun t => by rw [natS_put _ g1.1 (by omega) (by omega)]) rfl ?_ k hk
  refine cut_step (h := fun s => ((), (numBig s).2)) (bigS_cuts h2) (fun t => by rw [bigS_put _ h2]) rfl ?_
  exact bigS_cuts h3

/-- a register that may be, whose numbers have room -/
structure RegOk (r : RegP) : Prop where
  ki : U8 r.ki
  inc : U64 r.inc
  st : 0 ≤ r.st ∧ r.st ≤ 1000
  va : (∀ x ∈ r.va, I64 x) ∧ r.va.length ≤ 1000
  dn : (∀ d ∈ r.dn, DonOk d) ∧ r.dn.length ≤ 1000
  ou : (∀ c ∈ r.ou, CelOk c) ∧ r.ou.length ≤ 1000
  la : U64 r.la
  ma : (∀ m ∈ r.ma, mrkIn m) ∧ r.ma.length ≤ 1000
theorem regOk_of {w : World} {B : Nat} {x : RegM} (hx : RegM.ok w B x) (hm : mayG x.p = true) : RegOk x.p := by
  by_cases h0 : x.p.ki = 0
  · unfold mayG at hm
    rw [if_pos h0, decide_eq_true_eq] at hm
    rw [hm]
    constructor <;> simp [zeroP, U8, U64]
  · obtain ⟨-, h1, h2, h3, h4⟩ := stn_parts (may_stn hm h0).1
    refine ⟨hx.1.1, hx.1.2.1, ⟨h1.1.1, by have := h1.1.2; omega⟩, ⟨hx.2.1.2.2.2, by have := h1.2; omega⟩, ⟨fun d hd => ?_, by have := h2.1; omega⟩, ⟨fun c hc => ⟨hx.2.2.2.1.2.2.2 c hc, (h3.2 c hc).1, by have := (h3.2 c hc).2; omega⟩, by have := h3.1; omega⟩, hx.1.2.2.2, ⟨hx.2.2.2.2.2.2.2, by omega⟩⟩
    obtain ⟨y, hy, rfl⟩ := List.mem_map.1 hd
    have hy2 := hx.2.2.1.2.2.2 y hy
    have hy3 := h2.2 _ hd
    exact ⟨hy2.1.1, hy2.1.2.1, ⟨hy3.2.1.1, by have := hy3.2.1.2; omega⟩, hy2.1.2.2.2.1, ⟨hy3.2.2.1.1, by have := hy3.2.2.1.2; omega⟩, hy2.2.2.2.2, by have := hy3.2.2.2; omega⟩
theorem natS_len_put {α : Type} {n : Nat} (_ : α) (t : List UInt8) (h : n ≤ 1000) : numS 1000 (natB n ++ t, 0) = (n, (t, 0)) := by
  rw [natS_put _ (by omega) (by omega) (by omega)]
  simp
theorem regS_put {r : RegP} (h : RegOk r) (h0 : r.ki ≠ 0) (t : List UInt8) : regS (regB r ++ t, 0) = (r, (t, 0)) := by
  obtain ⟨ki, inc, st, va, dn, ou, la, ma⟩ := r
  obtain ⟨hk, hi, hs, hv, hd, ho, hl, hm⟩ := h
  simp only at hk hi hs hv hd ho hl hm h0
  have g1 := hk
  have g2 := hi
  have g3 := hl
  unfold U8 at g1
  unfold U64 at g2 g3
  unfold regS regB
  simp only [if_neg h0, List.append_assoc]
  rw [natS_put _ g1.1 (by omega) (by omega)]
  simp only
  rw [bigS_put _ hi]
  simp only
  rw [natS_put _ hs.1 (by omega) (by omega)]
  simp only
  rw [varS_put hv.1 hv.2]
  simp only
  rw [manyS_putg (b := donB) (g := id) dn _ hd.2 (Nat.lt_of_le_of_lt hd.2 (by omega)) (fun x hx t => doneS_put (hd.1 x hx) t)]
  simp only
  rw [manyS_putg (b := celB) (g := id) ou _ ho.2 (Nat.lt_of_le_of_lt ho.2 (by omega)) (fun x hx t => celS_put (ho.1 x hx) t)]
  simp only
  rw [bigS_put _ hl]
  simp only
  rw [manyS_putg (b := mrkB) (g := id) ma _ hm.2 (Nat.lt_of_le_of_lt hm.2 (by omega)) (fun x hx t => mrkS_put (hm.1 x hx) t)]
  simp only [List.map_id]
  rw [if_neg (by omega), back g1.1, back g2.1, back hs.1, back g3.1]
theorem regS_zero (t : List UInt8) : regS (regB zeroP ++ t, 0) = (zeroP, (t, 0)) := by
  unfold regS regB zeroP
  simp only [if_true, List.append_nil]
  rw [natS_put _ (by omega) (by omega) (by omega)]
  simp
theorem regS_err : (regS ([], 2)).2 = ([], 2) := rfl
end Go.Proofs.YtnkjdijbfnmnhaaGreat

/-
  Contract of reg's Get.
-/
namespace Go.Proofs.YtnkjdijbfnmnhaaGreat
open Go.RowKit

theorem regS_cuts {r : RegP} (h : RegOk r) : Cuts regS (regB r) := by
  intro k hk
  have hh : ∀ s : RS, s = ([], 2) → (manyS 1000 mrkS (numBig (manyS 1000 celS (manyS 1000 doneS (varS (numS 1000 (numBig s).2).2).2).2).2).2).2 = ([], 2) := fun s e => by subst e; rfl
  have hki := h.ki
  unfold U8 at hki
  have hex : (regS ((regB r).take k, 0)).2 = if (numS 255 ((regB r).take k, 0)).1 = 0 then (numS 255 ((regB r).take k, 0)).2 else (manyS 1000 mrkS (numBig (manyS 1000 celS (manyS 1000 doneS (varS (numS 1000 (numBig (numS 255 ((regB r).take k, 0)).2).2).2).2).2).2).2).2 := by
    unfold regS
    simp only
    split <;> rfl
  rw [hex]
  unfold regB at hk ⊢
  rw [List.length_append] at hk
  by_cases h1 : k < (natB r.ki).length
  · rw [take_app_lt h1, natS_cuts (by omega) k h1]
    split
    · rfl
    · exact hh _ rfl
  · by_cases h0 : r.ki = 0
    · rw [if_pos h0] at hk
      simp at hk
      omega
    · rw [take_app_ge (by omega), natS_put _ hki.1 (by omega) (by omega)]
      simp only
      rw [if_neg (by omega)]
      rw [if_neg h0] at hk ⊢
      obtain ⟨ki, inc, st, va, dn, ou, la, ma⟩ := r
      obtain ⟨_, hi, hs, hv, hd, ho, hl, hm⟩ := h
      simp only at hi hs hv hd ho hl hm hk h1 ⊢
      have hkk : k - (natB ki).length < (natB inc ++ (natB st ++ (varB va ++ ((natB dn.length ++ dn.flatMap donB) ++ ((natB ou.length ++ ou.flatMap celB) ++ (natB la ++ (natB ma.length ++ ma.flatMap mrkB))))))).length := by omega
      revert hkk
      generalize k - (natB ki).length = j
      intro hj
      have cd : Cuts (manyS 1000 doneS) (natB dn.length ++ dn.flatMap donB) := manyS_cuts doneS_holds dn hd.2 (Nat.lt_of_le_of_lt hd.2 (by omega)) fun x hx => ⟨doneS_put (hd.1 x hx), doneS_cuts (hd.1 x hx)⟩
      have cc : Cuts (manyS 1000 celS) (natB ou.length ++ ou.flatMap celB) := manyS_cuts celS_holds ou ho.2 (Nat.lt_of_le_of_lt ho.2 (by omega)) fun x hx => ⟨celS_put (ho.1 x hx), celS_cuts (ho.1 x hx)⟩
      have cm : Cuts (manyS 1000 mrkS) (natB ma.length ++ ma.flatMap mrkB) := manyS_cuts mrkS_holds ma hm.2 (Nat.lt_of_le_of_lt hm.2 (by omega)) fun x hx => ⟨mrkS_put (hm.1 x hx), mrkS_cuts (hm.1 x hx)⟩
      refine cut_step (h := fun s => ((), (manyS 1000 mrkS (numBig (manyS 1000 celS (manyS 1000 doneS (varS (numS 1000 s).2).2).2).2).2).2)) (bigS_cuts hi) (fun t => by rw [bigS_put _ hi]) rfl ?_ j hj
      refine cut_step (h := fun s => ((), (manyS 1000 mrkS (numBig (manyS 1000 celS (manyS 1000 doneS (varS s).2).2).2).2).2)) (natS_cuts (by omega)) (fun t => by rw [natS_put _ hs.1 (by omega) (by omega)]) rfl ?_
      refine cut_step (h := fun s => ((), (manyS 1000 mrkS (numBig (manyS 1000 celS (manyS 1000 doneS s).2).2).2).2)) (varS_cuts hv.1 hv.2) (fun t => by rw [varS_put hv.1 hv.2]) rfl ?_
      refine cut_step (h := fun s => ((), (manyS 1000 mrkS (numBig (manyS 1000 celS s).2).2).2)) cd (fun t => by rw [List.append_assoc, manyS_putg (b := donB) (g := id) dn t hd.2 (Nat.lt_of_le_of_lt hd.2 (by omega)) (fun x hx t => doneS_put (hd.1 x hx) t)]) rfl ?_
      refine cut_step (h := fun s => ((), (manyS 1000 mrkS (numBig s).2).2)) cc (fun t => by rw [List.append_assoc, manyS_putg (b := celB) (g := id) ou t ho.2 (Nat.lt_of_le_of_lt ho.2 (by omega)) (fun x hx t => celS_put (ho.1 x hx) t)]) rfl ?_
      refine cut_step (h := fun s => ((), (manyS 1000 mrkS s).2)) (bigS_cuts hl) (fun t => by rw [bigS_put _ hl]) rfl ?_
      exact cm
theorem regS_ok {s : RS} (h : RSok s) : RSok (regS s).2 := by
  unfold regS
  simp only
  split
  · exact (numS_ok h).1
  · exact manyS_ok (fun _ h => mrkS_ok h) (numBig_ok (manyS_ok (fun _ h => celS_ok h) (manyS_ok (fun _ h => doneS_ok h) (varS_ok (numS_ok (numBig_ok (numS_ok h).1).1).1)))).1

theorem failed6_any {g : Nat} {s : RS} {w : World} (h : Rdr w g s.1 s.2) (hs : RSok s) : Calls Tryz.prog 206 #[takerV g] w fun e w' => e = .returned (.bool (!(decide (s.2 = 0)))) ∧ Below w.heap.size w w' := by
  have H := hide_ (h.made (.cells #[.pointer (some ⟨g, 0, none⟩)] 283))
  have HE := hide_ (End_st H.out)
  obtain ⟨q, hq⟩ : ∃ q, endS s = q := ⟨_, rfl⟩
  rw [hq] at HE
  have hc : (s.2 = 0 ∧ (q = 0 ∨ q = 4)) ∨ (s.2 ≠ 0 ∧ q ≠ 0 ∧ q ≠ 4) := by
    rw [← hq]
    unfold endS
    rcases hs.1 with h0 | h0 | h0 | h0
    · left
      rw [if_pos h0]
      refine ⟨h0, ?_⟩
      split <;> simp
    all_goals (right; rw [if_neg (by omega)]; omega)
  unfold takerV
  clear h hs hq
  rcases hc with ⟨h0, h1 | h1⟩ | ⟨h0, h1, h2⟩
  · have HD := hide_ (show (!(decide (s.2 = 0))) = false by simp [h0])
    subst h1
    clear h0
    go_enter Tryz.func206, Tryz.ntmps206
    go_wp2_with (refine HE.out.mono ?_; rintro e w1 ⟨rfl, rfl⟩)
    go_ret
    exact ⟨ret_boolT HD.out.symm, (Below.refl _ _).alloc (Nat.le_refl _) _⟩
  · have HD := hide_ (show (!(decide (s.2 = 0))) = false by simp [h0])
    subst h1
    clear h0
    go_enter Tryz.func206, Tryz.ntmps206
    go_wp2_with (refine HE.out.mono ?_; rintro e w1 ⟨rfl, rfl⟩)
    go_ret
    exact ⟨ret_boolT HD.out.symm, (Below.refl _ _).alloc (Nat.le_refl _) _⟩
  · have HD := hide_ (show (!(decide (s.2 = 0))) = true by simp [h0])
    have b0 : (q != 0) = true := bne_iff_ne.2 h1
    have b4 : (q != 4) = true := bne_iff_ne.2 h2
    clear h0 h1 h2
    go_enter Tryz.func206, Tryz.ntmps206
    go_wp2_with (refine HE.out.mono ?_; rintro e w1 ⟨rfl, rfl⟩)
    go_ret
    exact ⟨ret_boolT HD.out.symm, (Below.refl _ _).alloc (Nat.le_refl _) _⟩

def getS (s : RS) : RegP × RS := if (regS s).2.2 = 0 then (if mayG (regS s).1 then regS s else (zeroP, ([], 3))) else (zeroP, (regS s).2)

end Go.Proofs.YtnkjdijbfnmnhaaGreat

/-
  Contract of reg's Get, the call itself.
-/
namespace Go.Proofs.YtnkjdijbfnmnhaaGreat
open Go.RowKit

set_option maxRecDepth 100000 in
set_option maxHeartbeats 6400000 in
theorem GetReg_any {g : Nat} {s : RS} {w : World} (h : Rdr w g s.1 s.2) (hs : RSok s) : Calls Tryz.prog 134 #[.pointer (some ⟨g, 0, none⟩)] w (PartR RegM.v RegM.p RegM.ok RegM.ft w g (getS s)) := by
  have hgl : g < w.heap.size := h.glt
  have HREG := hide_ (reg6_any (w := ((w.alloc (.cells #[.int .u8 0, .int .u64 0, .int .i64 0, .slice none 0 0, .slice none 0 0, .slice none 0 0, .int .u64 0, .slice none 0 0] 31)).alloc (.cells #[.pointer (some ⟨g, 0, none⟩)] 283))) ((h.made _).made _) hs)
  have HOKS := hide_ (regS_ok hs)
  have HZ0 := hide_ (show BoxAt ((w.alloc (.cells #[.int .u8 0, .int .u64 0, .int .i64 0, .slice none 0 0, .slice none 0 0, .slice none 0 0, .int .u64 0, .slice none 0 0] 31)).alloc (.cells #[.pointer (some ⟨g, 0, none⟩)] 283)) w.heap.size #[.int .u8 0, .int .u64 0, .int .i64 0, .slice none 0 0, .slice none 0 0, .slice none 0 0, .int .u64 0, .slice none 0 0] 31 from (BoxAt.new w _ _).alloc (.cells #[.pointer (some ⟨g, 0, none⟩)] 283))
  have HT0 := hide_ (show BoxAt ((w.alloc (.cells #[.int .u8 0, .int .u64 0, .int .i64 0, .slice none 0 0, .slice none 0 0, .slice none 0 0, .int .u64 0, .slice none 0 0] 31)).alloc (.cells #[.pointer (some ⟨g, 0, none⟩)] 283)) (w.heap.size + 1) #[.pointer (some ⟨g, 0, none⟩)] 283 from by
    have h1 := BoxAt.new (w.alloc (.cells #[.int .u8 0, .int .u64 0, .int .i64 0, .slice none 0 0, .slice none 0 0, .slice none 0 0, .int .u64 0, .slice none 0 0] 31)) #[.pointer (some ⟨g, 0, none⟩)] 283
    simpa using h1)
  obtain ⟨R, hR⟩ : ∃ R, regS s = R := ⟨_, rfl⟩
  obtain ⟨G, hG⟩ : ∃ G, getS s = G := ⟨_, rfl⟩
  rw [hG]
  have HGS := hide_ (show G = if R.2.2 = 0 then (if mayG R.1 then R else (zeroP, ([], 3))) else (zeroP, R.2) by rw [← hG, ← hR]; rfl)
  rw [hR] at HREG HOKS
  clear h hs hR hG
  obtain ⟨rp, rs⟩ := R
  unfold takerV at HREG
  go_enter Tryz.func134, Tryz.ntmps134
  go_wp2_with fail
  refine HREG.out.mono ?_
  rintro en w2 ⟨x, rfl, hp, ho, hl, hr, hg⟩
  have HPX := hide_ hp
  have HLX := hide_ hl
  have HOX := hide_ (reg_local.below ho ((Below.refl _ _).alloc (Nat.le_refl _) (.cells x.box 31)))
  have HR2 := hide_ (hr.made (.cells x.box 31))
  have hz2 : w.heap.size + 2 ≤ w2.heap.size := by have h := hg.size; simpa using h
  have HG2 := hide_ (show w.grownBy (w2.alloc (.cells x.box 31)) (some g) from grown_join (grown_made (grown_made hg)) (World.grownBy_alloc _ _ _))
  have HZ2 := hide_ (show BoxAt (w2.alloc (.cells x.box 31)) w.heap.size #[.int .u8 0, .int .u64 0, .int .i64 0, .slice none 0 0, .slice none 0 0, .slice none 0 0, .int .u64 0, .slice none 0 0] 31 from BoxAt.alloc (box_far hg HZ0.out (by omega)) _)
  have HT2w := hide_ (show BoxAt w2 (w.heap.size + 1) #[.pointer (some ⟨g, 0, none⟩)] 283 from box_far hg HT0.out (by omega))
  have HT2 := hide_ (HT2w.out.alloc (.cells x.box 31))
  have HX2 := hide_ (BoxAt.new w2 x.box 31)
  have HFL := hide_ (failed6_any HR2.out HOKS.out)
  have HMY := hide_ (fun (u : World) (hb : Below (w2.alloc (.cells x.box 31)).heap.size (w2.alloc (.cells x.box 31)) u) => mayReg_any x (w2.alloc (.cells x.box 31)).heap.size u (reg_stable.below HOX.out hb) hb.size)
  rw [show mayG x.p = mayG rp by rw [HPX.out]] at HMY
  have HLO := hide_ (show w.heap.size < ((w.alloc (.cells #[.int .u8 0, .int .u64 0, .int .i64 0, .slice none 0 0, .slice none 0 0, .slice none 0 0, .int .u64 0, .slice none 0 0] 31)).alloc (.cells #[.pointer (some ⟨g, 0, none⟩)] 283)).heap.size by simp; omega)
  clear hp ho hl hr hg HREG HZ0 HT0
  obtain ⟨ki, inc, st, ⟨vA, vc, vl⟩, ⟨dA, dc, dl⟩, ⟨oA, oc, ol⟩, la, ⟨mA, mc, ml⟩⟩ := x
  simp only [RegM.v, RegM.box, Sl.v] at HR2 HG2 HZ2 HT2 HX2 HFL HMY HOX ⊢
  unfold takerV at HFL
  have hct := HT2w.out.cell
  have hw1 : w.heap.size + 1 < w2.heap.size := by omega
  have hw0 : w.heap.size < w2.heap.size := by omega
  go_wp2_with fail
  refine HFL.out.mono ?_
  rintro en w3 ⟨rfl, hb3⟩
  have HR3 := hide_ (HR2.out.below hb3)
  have HG3 := hide_ (grown_below HG2.out hb3)
  have HZ3 := hide_ (HZ2.out.below hb3)
  have HT3 := hide_ (HT2.out.below hb3)
  have HX3 := hide_ (HX2.out.below hb3)
  have HOX3 := hide_ (reg_local.below HOX.out hb3)
  have HB3 := hide_ hb3
  clear hb3 hct
  have hz3 : w2.heap.size < w3.heap.size := HX3.out.lt
  have hw2 : w.heap.size < w3.heap.size := by omega
  have hw3 : w.heap.size + 1 < w3.heap.size := by omega
  by_cases he : rs.2 = 0
  case neg =>
    have hq : G = (zeroP, rs) := by rw [HGS.out, if_neg he]
    have hd : (!(decide (rs.2 = 0))) = true := by simp [he]
    clear HGS
    subst hq
    clear he
    have r0 := (HZ3.out.cell 0).trans (show _ = some (.int .u8 0 : Value) from rfl)
    have g0 := HZ3.out.frozen 0
    have r1 := (HZ3.out.cell 1).trans (show _ = some (.int .u64 0 : Value) from rfl)
    have g1 := HZ3.out.frozen 1
    have r2 := (HZ3.out.cell 2).trans (show _ = some (.int .i64 0 : Value) from rfl)
    have g2 := HZ3.out.frozen 2
    have r3 := (HZ3.out.cell 3).trans (show _ = some (.slice none 0 0 : Value) from rfl)
    have g3 := HZ3.out.frozen 3
    have r4 := (HZ3.out.cell 4).trans (show _ = some (.slice none 0 0 : Value) from rfl)
    have g4 := HZ3.out.frozen 4
    have r5 := (HZ3.out.cell 5).trans (show _ = some (.slice none 0 0 : Value) from rfl)
    have g5 := HZ3.out.frozen 5
    have r6 := (HZ3.out.cell 6).trans (show _ = some (.int .u64 0 : Value) from rfl)
    have g6 := HZ3.out.frozen 6
    have r7 := (HZ3.out.cell 7).trans (show _ = some (.slice none 0 0 : Value) from rfl)
    have g7 := HZ3.out.frozen 7
    rw [hd]
    clear hd
    go_wp2
    refine bodyPost_ret (v := .agg #[.int .u8 0, .int .u64 0, .int .i64 0, .slice none 0 0, .slice none 0 0, .slice none 0 0, .int .u64 0, .slice none 0 0]) (by simp [results, Tryz.results134, go_sem, r0, r1, r2, r3, r4, r5, r6, r7]) rfl ?_
    clear r0 g0 r1 g1 r2 g2 r3 g3 r4 g4 r5 g5 r6 g6 r7 g7
    exact ⟨zeroM, rfl, rfl, zeroM_ok _ _, zeroM_lies _ _, ((((((((HR3.out.stored (by omega)).stored (by omega)).stored (by omega)).stored (by omega)).stored (by omega)).stored (by omega)).stored (by omega)).stored (by omega)), (grown_stored (grown_stored (grown_stored (grown_stored (grown_stored (grown_stored (grown_stored (grown_stored HG3.out (Nat.le_refl _)) (Nat.le_refl _)) (Nat.le_refl _)) (Nat.le_refl _)) (Nat.le_refl _)) (Nat.le_refl _)) (Nat.le_refl _)) (Nat.le_refl _))⟩
  have hd : (!(decide (rs.2 = 0))) = false := by simp [he]
  rw [hd]
  clear hd
  have HE0 := hide_ he
  have hG2 : G = if mayG rp then (rp, rs) else (zeroP, ([], 3)) := by rw [HGS.out, if_pos he]
  clear HGS he
  obtain ⟨q, hq⟩ : ∃ q, mayG rp = q := ⟨_, rfl⟩
  rw [hq] at HMY hG2
  have HGQ := hide_ hG2
  clear hq hG2
  have hcx := HX3.out.cell
  go_wp2_with fail
  refine (HMY.out _ HB3.out).mono ?_
  rintro en w4 ⟨rfl, hb4⟩
  have HR4 := hide_ (HR3.out.below hb4)
  have HG4 := hide_ (grown_below HG3.out hb4)
  have HZ4 := hide_ (HZ3.out.below hb4)
  have HT4 := hide_ (HT3.out.below hb4)
  have HX4 := hide_ (HX3.out.below hb4)
  have HOX4 := hide_ (reg_local.below HOX3.out hb4)
  clear hb4 hcx
  have hz4 : w2.heap.size < w4.heap.size := HX4.out.lt
  have hw4 : w.heap.size < w4.heap.size := by omega
  have hw5 : w.heap.size + 1 < w4.heap.size := by omega
  cases q with
  | true =>
    have hG3 : G = (rp, rs) := HGQ.out
    clear HGQ
    subst hG3
    have hcx := HX4.out.cell
    have r0 := (HZ4.out.cell 0).trans (show _ = some (.int .u8 0 : Value) from rfl)
    have g0 := HZ4.out.frozen 0
    have r1 := (HZ4.out.cell 1).trans (show _ = some (.int .u64 0 : Value) from rfl)
    have g1 := HZ4.out.frozen 1
    have r2 := (HZ4.out.cell 2).trans (show _ = some (.int .i64 0 : Value) from rfl)
    have g2 := HZ4.out.frozen 2
    have r3 := (HZ4.out.cell 3).trans (show _ = some (.slice none 0 0 : Value) from rfl)
    have g3 := HZ4.out.frozen 3
    have r4 := (HZ4.out.cell 4).trans (show _ = some (.slice none 0 0 : Value) from rfl)
    have g4 := HZ4.out.frozen 4
    have r5 := (HZ4.out.cell 5).trans (show _ = some (.slice none 0 0 : Value) from rfl)
    have g5 := HZ4.out.frozen 5
    have r6 := (HZ4.out.cell 6).trans (show _ = some (.int .u64 0 : Value) from rfl)
    have g6 := HZ4.out.frozen 6
    have r7 := (HZ4.out.cell 7).trans (show _ = some (.slice none 0 0 : Value) from rfl)
    have g7 := HZ4.out.frozen 7
    go_wp2
    refine bodyPost_ret (v := .agg #[.int .u8 ki, .int .u64 inc, .int .i64 st, .slice vA vl.length vc, .slice dA dl.length dc, .slice oA ol.length oc, .int .u64 la, .slice mA ml.length mc]) (by simp [results, Tryz.results134, go_sem, r0, r1, r2, r3, r4, r5, r6, r7]) rfl ?_
    clear r0 g0 r1 g1 r2 g2 r3 g3 r4 g4 r5 g5 r6 g6 r7 g7 hcx
    exact ⟨⟨ki, inc, st, ⟨vA, vc, vl⟩, ⟨dA, dc, dl⟩, ⟨oA, oc, ol⟩, la, ⟨mA, mc, ml⟩⟩, rfl, HPX.out, (keep_stored reg_local (keep_stored reg_local (keep_stored reg_local (keep_stored reg_local (keep_stored reg_local (keep_stored reg_local (keep_stored reg_local (keep_stored reg_local HOX4.out HLX.out HLO.out) HLX.out HLO.out) HLX.out HLO.out) HLX.out HLO.out) HLX.out HLO.out) HLX.out HLO.out) HLX.out HLO.out) HLX.out HLO.out), HLX.out.more (by simp; omega) (by have h1 := HG4.out.size; simp [World.setCell]; omega), ((((((((HR4.out.stored (by omega)).stored (by omega)).stored (by omega)).stored (by omega)).stored (by omega)).stored (by omega)).stored (by omega)).stored (by omega)), (grown_stored (grown_stored (grown_stored (grown_stored (grown_stored (grown_stored (grown_stored (grown_stored HG4.out (Nat.le_refl _)) (Nat.le_refl _)) (Nat.le_refl _)) (Nat.le_refl _)) (Nat.le_refl _)) (Nat.le_refl _)) (Nat.le_refl _)) (Nat.le_refl _))⟩
  | false =>
    have hG3 : G = (zeroP, ([], 3)) := HGQ.out
    clear HGQ
    subst hG3
    have hct := HT4.out.cell
    have HF := hide_ (Fail_live 3 (show Rdr w4 g rs.1 0 from HE0.out ▸ HR4.out) (by omega))
    go_wp2_with fail
    refine HF.out.mono ?_
    rintro en w5 ⟨rfl, hr5, hg5⟩
    have HR5 := hide_ hr5
    have HG5 := hide_ (grown_join HG4.out hg5)
    have HZ5 := hide_ (show BoxAt w5 w.heap.size #[.int .u8 0, .int .u64 0, .int .i64 0, .slice none 0 0, .slice none 0 0, .slice none 0 0, .int .u64 0, .slice none 0 0] 31 from box_far hg5 HZ4.out (by omega))
    have hw6 : w.heap.size < w5.heap.size := HZ5.out.lt
    clear hr5 hg5 hct
    have r0 := (HZ5.out.cell 0).trans (show _ = some (.int .u8 0 : Value) from rfl)
    have g0 := HZ5.out.frozen 0
    have r1 := (HZ5.out.cell 1).trans (show _ = some (.int .u64 0 : Value) from rfl)
    have g1 := HZ5.out.frozen 1
    have r2 := (HZ5.out.cell 2).trans (show _ = some (.int .i64 0 : Value) from rfl)
    have g2 := HZ5.out.frozen 2
    have r3 := (HZ5.out.cell 3).trans (show _ = some (.slice none 0 0 : Value) from rfl)
    have g3 := HZ5.out.frozen 3
    have r4 := (HZ5.out.cell 4).trans (show _ = some (.slice none 0 0 : Value) from rfl)
    have g4 := HZ5.out.frozen 4
    have r5 := (HZ5.out.cell 5).trans (show _ = some (.slice none 0 0 : Value) from rfl)
    have g5 := HZ5.out.frozen 5
    have r6 := (HZ5.out.cell 6).trans (show _ = some (.int .u64 0 : Value) from rfl)
    have g6 := HZ5.out.frozen 6
    have r7 := (HZ5.out.cell 7).trans (show _ = some (.slice none 0 0 : Value) from rfl)
    have g7 := HZ5.out.frozen 7
    go_wp2
    refine bodyPost_ret (v := .agg #[.int .u8 0, .int .u64 0, .int .i64 0, .slice none 0 0, .slice none 0 0, .slice none 0 0, .int .u64 0, .slice none 0 0]) (by simp [results, Tryz.results134, go_sem, r0, r1, r2, r3, r4, r5, r6, r7]) rfl ?_
    clear r0 g0 r1 g1 r2 g2 r3 g3 r4 g4 r5 g5 r6 g6 r7 g7
    exact ⟨zeroM, rfl, rfl, zeroM_ok _ _, zeroM_lies _ _, ((((((((HR5.out.stored (by omega)).stored (by omega)).stored (by omega)).stored (by omega)).stored (by omega)).stored (by omega)).stored (by omega)).stored (by omega)), (grown_stored (grown_stored (grown_stored (grown_stored (grown_stored (grown_stored (grown_stored (grown_stored HG5.out (Nat.le_refl _)) (Nat.le_refl _)) (Nat.le_refl _)) (Nat.le_refl _)) (Nat.le_refl _)) (Nat.le_refl _)) (Nat.le_refl _)) (Nat.le_refl _))⟩
end Go.Proofs.YtnkjdijbfnmnhaaGreat

/-
  How registers, replies come in.
-/
namespace Go.Proofs.YtnkjdijbfnmnhaaGreat
open Go.ChangeShapes Go.WideShapes Go.ChangeAt Go.RowKit Go.Joins Go.Deep

section
variable {H : Type} {enc : TypeId × Value → H} {P : Program} {w : World} {base : Nat} {spare : Nat → Bool} {held : Bool}
theorem field_many {e : TypeId} {fs : Array Field} {xs : List Value} {n : Nat} {y : DataW H × List MemPlace} (he : P.underlying e = some (.struct fs)) (h : DataW.trod enc P w base spare held n e xs = some y)
    (j : Nat) {f : Field} (hj : fs[j]? = some f) {o q : Nat} {ty : TypeId} {cs : List Value} (ht : f.type = ty) (ho : f.offset = o) (hc : P.cellsOf ty = q) (hx : (xs.drop o).take q = cs) :
    ∃ k z, DataW.trod enc P w base spare held k ty cs = some z := by
  obtain ⟨ys, k, _, _, _, hlen, hf⟩ := DataW.trod_struct he h
  have h1 := hf j f hj
  rw [ht, ho, hc, hx] at h1
  have hjl : j < ys.length := by rw [hlen]; exact (Array.getElem?_eq_some_iff.1 hj).1
  exact ⟨k, ys[j], h1.trans (List.getElem?_eq_getElem hjl)⟩
end

section
variable {H : Type} {enc : TypeId × Value → H} {w : World} {base : Nat} {spare : Nat → Bool} {held : Bool}

def RepM.cs (r : RepM) : List Value := [.int .i64 r.er, .int .u64 r.inc, .int .i64 r.st, r.va.v]

set_option maxRecDepth 100000 in
theorem el_rep {n : Nat} {xs : List Value} {y : DataW H × List MemPlace} (hl : xs.length = 4) (h : DataW.trod enc Tryz.prog w base spare held n 38 xs = some y) : ∃ t, xs = RepM.cs t ∧ RepM.ok w w.heap.size t := by
  match xs, hl with
  | [c0, c1, c2, c3], _ =>
    obtain ⟨_, _, h0⟩ := field_at Tryz.underlying38 h 0 rfl rfl rfl (by kernel_rfl) rfl
    obtain ⟨_, _, h1⟩ := field_at Tryz.underlying38 h 1 rfl rfl rfl (by kernel_rfl) rfl
    obtain ⟨_, _, h2⟩ := field_at Tryz.underlying38 h 2 rfl rfl rfl (by kernel_rfl) rfl
    obtain ⟨_, _, h3⟩ := field_at Tryz.underlying38 h 3 rfl rfl rfl (by kernel_rfl) rfl
    obtain ⟨a, rfl, ha⟩ := open_i64c Tryz.underlying36 h0
    obtain ⟨b, rfl, hb⟩ := open_u64c Tryz.underlying25 h1
    obtain ⟨c, rfl, hc⟩ := open_i64c Tryz.underlying3 h2
    obtain ⟨d, rfl, hd⟩ := open_intc h3
    exact ⟨⟨a, b, c, d⟩, rfl, ⟨ha, hb, hc⟩, hd⟩

set_option maxRecDepth 100000 in
theorem el_done {n : Nat} {xs : List Value} {y : DataW H × List MemPlace} (hl : xs.length = 6) (h : DataW.trod enc Tryz.prog w base spare held n 106 xs = some y) : ∃ t, xs = DoneM.cs t ∧ DoneM.ok w w.heap.size t := by
  match xs, hl with
  | [c0, c1, c2, c3, c4, c5], _ =>
    obtain ⟨_, _, h0⟩ := field_at Tryz.underlying106 h 0 rfl rfl rfl (by kernel_rfl) rfl
    obtain ⟨_, _, h1⟩ := field_at Tryz.underlying106 h 1 rfl rfl rfl (by kernel_rfl) rfl
    obtain ⟨_, _, h2⟩ := field_many (cs := [c2, c3, c4, c5]) (q := 4) Tryz.underlying106 h 2 rfl rfl rfl (by kernel_rfl) rfl
    obtain ⟨a, rfl, ha⟩ := open_u8c Tryz.underlying5 h0
    obtain ⟨b, rfl, hb⟩ := open_u64c Tryz.underlying25 h1
    obtain ⟨c, hc, hco⟩ := el_rep rfl h2
    obtain ⟨er, inc, st, va⟩ := c
    simp only [RepM.cs, List.cons.injEq, and_true] at hc
    obtain ⟨rfl, rfl, rfl, rfl⟩ := hc
    exact ⟨⟨a, b, er, inc, st, va⟩, rfl, ⟨ha, hb, hco.1⟩, hco.2⟩

theorem open_donec {n : Nat} {v : Value} {y : DataW H × List MemPlace} (h : DataW.trod enc Tryz.prog w base spare held n 27 [v] = some y) : ∃ s : Sl DoneM, v = s.v ∧ dnsOk w w.heap.size s := by
  obtain ⟨s, hv, h1, h2, h3, h4⟩ := open_sl DoneM.cs (DoneM.ok w w.heap.size) (q := 6) (by omega) Tryz.underlying27 (by kernel_rfl) (fun _ => rfl) (fun _ _ _ hl h => el_done hl h) h
  exact ⟨s, hv, h1, h2, h3, h4⟩

set_option maxRecDepth 100000 in
theorem el_reg {n : Nat} {xs : List Value} {y : DataW H × List MemPlace} (hl : xs.length = 8) (h : DataW.trod enc Tryz.prog w base spare held n 31 xs = some y) : ∃ t, xs = RegM.cs t ∧ RegM.ok w w.heap.size t := by
  match xs, hl with
  | [c0, c1, c2, c3, c4, c5, c6, c7], _ =>
    obtain ⟨_, _, h0⟩ := field_at Tryz.underlying31 h 0 rfl rfl rfl (by kernel_rfl) rfl
    obtain ⟨_, _, h1⟩ := field_at Tryz.underlying31 h 1 rfl rfl rfl (by kernel_rfl) rfl
    obtain ⟨_, _, h2⟩ := field_at Tryz.underlying31 h 2 rfl rfl rfl (by kernel_rfl) rfl
    obtain ⟨_, _, h3⟩ := field_at Tryz.underlying31 h 3 rfl rfl rfl (by kernel_rfl) rfl
    obtain ⟨_, _, h4⟩ := field_at Tryz.underlying31 h 4 rfl rfl rfl (by kernel_rfl) rfl
    obtain ⟨_, _, h5⟩ := field_at Tryz.underlying31 h 5 rfl rfl rfl (by kernel_rfl) rfl
    obtain ⟨_, _, h6⟩ := field_at Tryz.underlying31 h 6 rfl rfl rfl (by kernel_rfl) rfl
    obtain ⟨_, _, h7⟩ := field_at Tryz.underlying31 h 7 rfl rfl rfl (by kernel_rfl) rfl
    obtain ⟨a, rfl, ha⟩ := open_u8c Tryz.underlying5 h0
    obtain ⟨b, rfl, hb⟩ := open_u64c Tryz.underlying25 h1
    obtain ⟨c, rfl, hc⟩ := open_i64c Tryz.underlying3 h2
    obtain ⟨d, rfl, hd⟩ := open_intc h3
    obtain ⟨e, rfl, he⟩ := open_donec h4
    obtain ⟨f, rfl, hf⟩ := open_celc h5
    obtain ⟨g, rfl, hg⟩ := open_u64c Tryz.underlying25 h6
    obtain ⟨i, rfl, hi⟩ := open_mrkc h7
    exact ⟨⟨a, b, c, d, e, f, g, i⟩, rfl, ⟨ha, hb, hc, hg⟩, hd, he, hf, hi⟩

set_option maxRecDepth 100000 in
/-- a register that comes in -/
theorem open_reg {r : Reach} {b0 : Nat} {v : Value} {d : DataW H} {p : List MemPlace} (hv : Value.okWide Tryz.prog w r b0 31 v) (h : DataW.Trod enc Tryz.prog w base spare held 31 v d p) :
    ∃ s : RegM, v = s.v ∧ RegM.ok w w.heap.size s := by
  obtain ⟨cs, rfl, hsz⟩ := okWide_struct Tryz.underlying31 hv
  obtain ⟨fuel, hf⟩ := h
  obtain ⟨l⟩ := cs
  have h8 : Tryz.prog.cellsOf 31 = 8 := by kernel_rfl
  have hl : l.length = 8 := hsz.trans h8
  obtain ⟨s, e, hs⟩ := el_reg (by simpa [Value.cells] using hl) hf
  refine ⟨s, ?_, hs⟩
  have e2 : l = RegM.cs s := by simpa [Value.cells] using e
  rw [e2]
  rfl

set_option maxRecDepth 100000 in
/-- a reply that comes in -/
theorem open_rep {r : Reach} {b0 : Nat} {v : Value} {d : DataW H} {p : List MemPlace} (hv : Value.okWide Tryz.prog w r b0 38 v) (h : DataW.Trod enc Tryz.prog w base spare held 38 v d p) :
    ∃ s : RepM, v = s.v ∧ RepM.ok w w.heap.size s := by
  obtain ⟨cs, rfl, hsz⟩ := okWide_struct Tryz.underlying38 hv
  obtain ⟨fuel, hf⟩ := h
  obtain ⟨l⟩ := cs
  have h8 : Tryz.prog.cellsOf 38 = 4 := by kernel_rfl
  have hl : l.length = 4 := hsz.trans h8
  obtain ⟨s, e, hs⟩ := el_rep (by simpa [Value.cells] using hl) hf
  refine ⟨s, ?_, hs⟩
  have e2 : l = RepM.cs s := by simpa [Value.cells] using e
  rw [e2]
  rfl
end
end Go.Proofs.YtnkjdijbfnmnhaaGreat

/-
  What the laws of layer 6 have in common: the reference's May; how many bytes a register has; what was put is got back.
-/
namespace Go.Proofs.YtnkjdijbfnmnhaaGreat
open Go.RowKit

theorem reg_signs {w : World} {B : Nat} {r : RegM} (h : RegM.ok w B r) : (∀ m ∈ r.p.ma, 0 ≤ m.1) ∧ 0 ≤ r.p.ki := ⟨fun m hm => (h.2.2.2.2.2.2.2 m hm).1.1, h.1.1.1⟩
theorem refMay6_any (r : RegM) (B : Nat) (w : World) (hr : RegM.ok w B r) (hB : B ≤ w.heap.size) : Calls Tryz.prog 15 #[r.v] w fun e w' => e = .returned (.bool (mayG r.p)) ∧ Below w.heap.size w w' := by
  rw [← refMay_eq (reg_signs hr).1 (reg_signs hr).2]
  exact refMayR_any r B w hr hB fun u hu hBu => refLists_any r B u hu hBu

theorem regB_len {w : World} {B : Nat} {r : RegM} (hr : RegM.ok w B r) (hm : mayG r.p = true) : 0 < (regB r.p).length ∧ (regB r.p).length ≤ 10000 := by
  have hk := hr.1.1
  unfold U8 at hk
  have h0 : 0 < (natB r.p.ki).length := by
    unfold natB
    exact numB_pos _
  have h1 := natB_len r.p.ki (by show r.ki ≤ _; omega)
  unfold regB
  rw [List.length_append]
  by_cases hk0 : r.p.ki = 0
  · rw [if_pos hk0]
    simp
    omega
  · rw [if_neg hk0]
    obtain ⟨hinc, ⟨hst, hva⟩, ⟨hdl, hdc⟩, ⟨hol, hoc⟩, hml⟩ := stn_parts (may_stn hm hk0).1
    obtain ⟨⟨_, hu2, _, hu4⟩, hov, hod, hoo, hom⟩ := hr
    have e1 := natU_len r.p.inc hu2
    have e2 := natB_len r.p.st (by omega)
    have e3 := varB_len r.p.va hov.2.2.2 (by omega)
    have e4 := natB_len r.p.dn.length (by omega)
    have e5 : (r.p.dn.flatMap donB).length ≤ 600 * r.p.dn.length := flat_le (f := donB) r.p.dn fun z hz => by
      obtain ⟨d, hd, rfl⟩ := List.mem_map.1 hz
      exact don_len (hod.2.2.2 d hd) (hdc _ hz).2
    have e6 := natB_len r.p.ou.length (by omega)
    have e7 := flat_le (f := celB) r.p.ou fun z hz => cel_len (hoo.2.2.2 z hz) (hoc z hz)
    have e8 := natU_len r.p.la hu4
    have e9 := natB_len r.p.ma.length (by omega)
    have e10 := flat_le (f := mrkB) r.p.ma fun z hz => mrk_len (hom.2.2.2 z hz)
    simp only [List.length_append]
    omega

theorem getS_cut {w : World} {B : Nat} {r : RegM} (hr : RegM.ok w B r) (hm : mayG r.p = true) {k : Nat} (hk : k < (regB r.p).length) : getS ((regB r.p).take k, 0) = (zeroP, ([], 2)) := by
  have h := regS_cuts (regOk_of hr hm) k hk
  unfold getS
  rw [h]
  rfl
theorem getS_put {w : World} {B : Nat} {r : RegM} (hr : RegM.ok w B r) (hm : mayG r.p = true) : getS (regB r.p, 0) = (r.p, ([], 0)) := by
  have hk := hr.1.1
  unfold U8 at hk
  by_cases h0 : r.p.ki = 0
  · have hz : r.p = zeroP := by
      unfold mayG at hm
      rw [if_pos h0] at hm
      exact of_decide_eq_true hm
    have e : regS (regB r.p, 0) = (zeroP, ([], 0)) := by
      have hx : regB r.p = natB r.p.ki ++ [] := by unfold regB; rw [if_pos h0]
      have h1 := natS_put (n := r.p.ki) (most := 255) [] hk.1 (by show r.ki ≤ _; omega) (by omega)
      rw [hx]
      unfold regS
      rw [h1]
      simp only
      rw [if_pos (by rw [h0]; rfl)]
    unfold getS
    rw [e]
    rw [hz]
    decide
  · have h1 := regS_put (regOk_of hr hm) h0 []
    rw [List.append_nil] at h1
    unfold getS
    rw [h1]
    simp [hm]
end Go.Proofs.YtnkjdijbfnmnhaaGreat
