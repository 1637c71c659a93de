/-
  Texts of this claim put together: Msg2.
-/
import Derived.Test.YtkgnondlcaklnaaGreatJ45
import Derived.Test.YtkgnondlcaklnaaGreatJ38
import Derived.Test.YtkgnondlcaklnaaGreatJ44
import Derived.Test.YtkgnondlcaklnaaGreatJ06
import Derived.Lib.SmallJoins
/-
  A message's bytes: contracts of msg's heads, flag and Put.
-/
namespace Go.Proofs.YtkgnondlcaklnaaGreat
open Go.RowKit

def okN (b : Bool) : Nat := if b then 1 else 0
/-- a message's bytes -/
def msgB (p : MsgP) : List UInt8 := numB p.ki ++ (numB p.fr ++ (numB p.tt ++ (numB p.ke ++ (numB p.co ++ (balB p.bc p.bn p.bl ++ (numB (okN p.ok) ++ (balB p.ac p.an p.al ++ (regB p.r ++ (balB p.nc p.nn p.nl ++ numB p.mx)))))))))
def putM (p : MsgP) : List UInt8 × Int := if mayM p then (markB (msgB p), 0) else ([], 3)
theorem putM_yes {p : MsgP} (h : mayM p = true) : putM p = (markB (msgB p), 0) := by unfold putM; rw [if_pos h]
theorem putM_no {p : MsgP} (h : mayM p = false) : putM p = ([], 3) := by unfold putM; rw [h]; rfl
theorem has_reg {p : MsgP} (h : hasB p = true) : mayG p.r = true := by
  unfold hasB at h
  simp only [Bool.and_eq_true, decide_eq_true_eq] at h
  rw [h.2]
  rfl
theorem may_reg {p : MsgP} (h : mayM p = true) : mayG p.r = true := by
  unfold mayM at h
  simp only [Bool.and_eq_true] at h
  have h := h.2.2.2.2
  unfold tellB at h
  split at h
  · simp only [Bool.and_eq_true] at h
    exact has_reg h.2.1
  · split at h
    · simp only [Bool.and_eq_true] at h
      have h := h.1
      unfold promB at h
      split at h
      · simp only [Bool.and_eq_true] at h
        exact h.2.1
      · exact has_reg h
    · split at h
      · simp only [Bool.and_eq_true] at h
        exact h.2.2.1
      · split at h
        · simp only [Bool.and_eq_true] at h
          exact has_reg h.1
        · cases h

theorem flag_any (b : Bool) (w : World) : Calls Tryz.prog 37 #[.bool b] w fun e w' => e = .returned (.int .u64 (okN b)) ∧ w = w' := by
  cases b with
  | false =>
    go_enter Tryz.func37, Tryz.ntmps37
    go_wp2
    go_ret
    exact ⟨rfl, rfl⟩
  | true =>
    go_enter Tryz.func37, Tryz.ntmps37
    go_wp2
    go_ret
    exact ⟨rfl, rfl⟩

theorem head_ix (a b c d : Value) (w : World) : (Instr.index 81 (.agg #[a, b, c, d]) (.int .i64 0)).run Tryz.prog w = .ok a w ∧ (Instr.index 81 (.agg #[a, b, c, d]) (.int .i64 1)).run Tryz.prog w = .ok b w ∧
    (Instr.index 81 (.agg #[a, b, c, d]) (.int .i64 2)).run Tryz.prog w = .ok c w ∧ (Instr.index 81 (.agg #[a, b, c, d]) (.int .i64 3)).run Tryz.prog w = .ok d w := by
  refine ⟨?_, ?_, ?_, ?_⟩ <;> simp [Instr.index, run_underlying Tryz.underlying81, asIntOf, go_sem]

def headV (g : Nat) : Value := .agg #[.pointer (some ⟨g, 0, none⟩), .pointer (some ⟨g, 1, none⟩), .pointer (some ⟨g, 2, none⟩), .pointer (some ⟨g, 3, none⟩)]

set_option maxRecDepth 100000 in
theorem heads_any (g : Nat) (w : World) : Calls Tryz.prog 34 #[.pointer (some ⟨g, 0, none⟩)] w fun e w' => e = .returned (headV g) ∧ Below w.heap.size w w' := by
  go_enter Tryz.func34, Tryz.ntmps34
  go_wp2
  go_region
  obtain ⟨W1, hW1⟩ : ∃ W1, (w.alloc (.cells #[.pointer (some ⟨g, 0, none⟩), .pointer (some ⟨g, 1, none⟩), .pointer (some ⟨g, 2, none⟩), .pointer (some ⟨g, 3, none⟩)] 81)).drew = W1 := ⟨_, rfl⟩
  have HB := hide_ (show Below w.heap.size w W1 from hW1 ▸ ((Below.refl _ _).alloc (Nat.le_refl _) _).drew)
  have hx := (show BoxAt W1 w.heap.size #[.pointer (some ⟨g, 0, none⟩), .pointer (some ⟨g, 1, none⟩), .pointer (some ⟨g, 2, none⟩), .pointer (some ⟨g, 3, none⟩)] 81 from hW1 ▸ (BoxAt.new w _ _)).cell
  rw [hW1]
  clear hW1
  go_wp2
  refine bodyPost_ret (v := headV g) (by simp [results, Tryz.results34, go_sem, hx, headV]) rfl ?_
  exact ⟨rfl, HB.out⟩


def headsB (m : MsgM) (k : Nat) : List UInt8 := ([m.ki, m.fr, m.tt, m.ke].take k).flatMap numB

set_option maxRecDepth 100000 in
set_option maxHeartbeats 6400000 in
theorem putMsg_any (m : MsgM) (w : World) (hm : MsgM.good w w.heap.size m) : Calls Tryz.prog 16 #[m.v] w (PutsT (putM m.p) w) := by
  have hw1 : Below w.heap.size w (w.alloc (.cells m.box 51)) := (Below.refl _ _).alloc (Nat.le_refl _) _
  have HW := hide_ hw1
  have HX := hide_ (BoxAt.new w m.box 51)
  have HMY := hide_ (fun (u : World) (h : Below w.heap.size w u) => mayMsg_any m w.heap.size u (msg_stable.below hm h) h.size)
  have HRG := hide_ (fun (hmg : mayG m.r.p = true) (u : World) (h : Below w.heap.size w u) (p : List UInt8) (k cap : Nat) (A : Option Addr) (hk : p.length = k) (hp : k ≤ 1000) (hs : Sees u u.heap.size A (bv p)) => (by
    have h1 := putReg_any p k cap A m.r u.heap.size u hk hp hs (reg_stable.more (reg_stable.below hm.2 h) h.size) (Nat.le_refl _)
    rw [putRG_yes hmg] at h1
    exact h1 : Calls Tryz.prog 38 #[.slice A k cap, m.r.v] u (PutsT (p ++ regB m.r.p, 0) u)))
  have HIN := hide_ hm.1
  have HMR := hide_ (fun h : mayM m.p = true => (⟨may_reg h, (regB_len hm.2 (may_reg h)).2⟩ : mayG m.r.p = true ∧ (regB m.r.p).length ≤ 10000))
  have HMB := hide_ (show msgB m.p = numB m.ki ++ (numB m.fr ++ (numB m.tt ++ (numB m.ke ++ (numB m.co ++ (balB m.bc m.bn m.bl ++ (numB (okN m.ok) ++ (balB m.ac m.an m.al ++ (regB m.r.p ++ (balB m.nc m.nn m.nl ++ numB m.mx))))))))) from rfl)
  have HY := hide_ (fun h : mayM m.p = true => putM_yes h)
  have HN := hide_ (fun h : mayM m.p = false => putM_no h)
  obtain ⟨q, hq⟩ : ∃ q, mayM m.p = q := ⟨_, rfl⟩
  simp only [hq] at HMY HMR HY HN
  obtain ⟨R, hR⟩ : ∃ R, putM m.p = R := ⟨_, rfl⟩
  rw [hR] at HY HN ⊢
  obtain ⟨rb, hrb⟩ : ∃ rb, regB m.r.p = rb := ⟨_, rfl⟩
  obtain ⟨out, hout⟩ : ∃ out, msgB m.p = out := ⟨_, rfl⟩
  rw [hout] at HY HMB
  have HHB := hide_ (show headsB m = fun k => ([m.ki, m.fr, m.tt, m.ke].take k).flatMap numB from rfl)
  obtain ⟨hb, hhb⟩ : ∃ hb, headsB m = hb := ⟨_, rfl⟩
  rw [hhb] at HHB
  have HHF := hide_ (show hb 0 = [] ∧ hb 0 ++ numB m.ki = hb 1 ∧ hb 1 ++ numB m.fr = hb 2 ∧ hb 2 ++ numB m.tt = hb 3 ∧ hb 3 ++ numB m.ke = hb 4 ∧ (∀ k, k ≤ 4 → (hb k).length ≤ 40) ∧ numB m.ki ++ (numB m.fr ++ (numB m.tt ++ numB m.ke)) = hb 4 from by
    have hd := hm.1.1
    have n1 := numB_length m.ki (by omega)
    have n2 := numB_length m.fr (by omega)
    have n3 := numB_length m.tt (by omega)
    have n4 := numB_length m.ke (by omega)
    refine ⟨by rw [HHB.out]; rfl, by rw [HHB.out]; simp, by rw [HHB.out]; simp, by rw [HHB.out]; simp, by rw [HHB.out]; simp, fun k hk => ?_, by rw [HHB.out]; simp⟩
    rw [HHB.out]
    have : k = 0 ∨ k = 1 ∨ k = 2 ∨ k = 3 ∨ k = 4 := by omega
    rcases this with rfl | rfl | rfl | rfl | rfl <;> simp <;> omega)
  clear hm hq hR hout hw1 hhb HHB
  rw [hrb] at HMB
  simp only [hrb] at HRG HMR
  clear hrb
  obtain ⟨mg, hmg⟩ : ∃ b, mayG m.r.p = b := ⟨_, rfl⟩
  simp only [hmg] at HRG HMR
  clear hmg
  obtain ⟨ki, fr, tt, ke, co, bc, bn, bl, ok, ac, an, al, ⟨rk, inc, st, ⟨vA, vc, vl⟩, ⟨dA, dc, dl⟩, ⟨oA, oc, ol⟩, la, ⟨mA, mc, ml⟩⟩, nc, nn, nl, mx⟩ := m
  simp only [MsgM.v, MsgM.box, RegM.v, Sl.v] at HMY HRG HW HX ⊢
  simp only at HHF HMB
  go_enter Tryz.func16, Tryz.ntmps16
  go_wp2_with (refine ld_msg rfl _ rfl HX.out rfl rfl ?_)
  refine (HMY.out _ HW.out).mono ?_
  rintro en w1 ⟨rfl, hb1⟩
  have HB1 := hide_ (HW.out.trans (hb1.mono HW.out.size))
  have HX1 := hide_ (HX.out.below hb1)
  clear hb1
  have hz1 : w.heap.size < w1.heap.size := HX1.out.lt
  have hcx := HX1.out.cell
  cases q with
  | false =>
    obtain rfl := (HN.out rfl).symm
    go_wp2
    go_ret2
    exact ⟨none, 0, rfl, World.ownsRow_nil _ _ _ _, HB1.out⟩
  | true =>
  obtain rfl := (HY.out rfl).symm
  obtain ⟨hmg, hrl⟩ := HMR.out rfl
  have HRG1 := hide_ (HRG.out hmg)
  have HRL := hide_ hrl
  clear HN HY HMY HMR HRG hmg hrl
  go_wp2_with fail
  refine (heads_any w.heap.size w1).mono ?_
  rintro en w2 ⟨rfl, hb2⟩
  simp only [headV]
  have HB2 := hide_ (HB1.out.trans (hb2.mono HB1.out.size))
  have HX2 := hide_ (HX1.out.below hb2)
  clear hb2 hcx hz1
  go_wp2
  go_loopw [4, 12] (fun b i wr => ∃ k : Nat, k ≤ 4 ∧ i = .int .i64 k ∧ wr.ownsRow w.heap.size 5 1 b (hb k).length (bv (hb k)) ∧ Below w.heap.size w wr ∧ BoxAt wr (w.heap.size) #[.int .u8 ki, .int .u8 fr, .int .u8 tt, .int .u8 ke, .int .u64 co, .int .u64 bc, .int .u8 bn, .int .u32 bl, .bool ok, .int .u64 ac, .int .u8 an, .int .u32 al, .int .u8 rk, .int .u64 inc, .int .i64 st, .slice vA vl.length vc, .slice dA dl.length dc, .slice oA ol.length oc, .int .u64 la, .slice mA ml.length mc, .int .u64 nc, .int .u8 nn, .int .u32 nl, .int .u64 mx] 51) (fun _ i _ => 4 - (intOf i).toNat)
  case atStart =>
    refine ⟨0, by omega, rfl, ?_, HB2.out, HX2.out⟩
    rw [HHF.out.1]
    exact World.ownsRow_nil _ _ _ _
  case round =>
    obtain ⟨k, hk, rfl, hown, hbr, hxr⟩ := hrel
    obtain ⟨A0, c0, rfl⟩ := own_slice hown
    have HO := hide_ hown
    have HBR := hide_ hbr
    have HXR := hide_ hxr
    clear hown hbr hxr
    have hzr : w.heap.size < wr.heap.size := HXR.out.lt
    have hcx := HXR.out.cell
    by_cases hlt : k < 4
    · have hlk := HHF.out.2.2.2.2.2.1 k hk
      have hk4 : k = 0 ∨ k = 1 ∨ k = 2 ∨ k = 3 := by omega
      rcases hk4 with rfl | rfl | rfl | rfl
      · have hix := (head_ix (.pointer (some ⟨w.heap.size, 0, none⟩)) (.pointer (some ⟨w.heap.size, 1, none⟩)) (.pointer (some ⟨w.heap.size, 2, none⟩)) (.pointer (some ⟨w.heap.size, 3, none⟩)) wr).1
        have h8 : ki ≤ 255 := HIN.out.1.1
        go_wp2_with fail
        refine (PutNum_any (hb 0) (hb 1) ki wr.heap.size A0 _ c0 wr rfl HHF.out.2.1 (by omega) (Sees.own HO.out) (Nat.le_refl _) (by omega)).mono ?_
        rintro en w4 ⟨A4, c4, rfl, ho4, hb4⟩
        go_wp2
        go_roundw
        case rel => exact ⟨1, by omega, rfl, own_mono (base := wr.heap.size) (base' := w.heap.size) ho4 (by omega), HBR.out.trans (hb4.mono HBR.out.size), HXR.out.below hb4⟩
        case measure => simp [intOf]
      · have hix := (head_ix (.pointer (some ⟨w.heap.size, 0, none⟩)) (.pointer (some ⟨w.heap.size, 1, none⟩)) (.pointer (some ⟨w.heap.size, 2, none⟩)) (.pointer (some ⟨w.heap.size, 3, none⟩)) wr).2.1
        have h8 : fr ≤ 255 := HIN.out.1.2.1
        go_wp2_with fail
        refine (PutNum_any (hb 1) (hb 2) fr wr.heap.size A0 _ c0 wr rfl HHF.out.2.2.1 (by omega) (Sees.own HO.out) (Nat.le_refl _) (by omega)).mono ?_
        rintro en w4 ⟨A4, c4, rfl, ho4, hb4⟩
        go_wp2
        go_roundw
        case rel => exact ⟨2, by omega, rfl, own_mono (base := wr.heap.size) (base' := w.heap.size) ho4 (by omega), HBR.out.trans (hb4.mono HBR.out.size), HXR.out.below hb4⟩
        case measure => simp [intOf]
      · have hix := (head_ix (.pointer (some ⟨w.heap.size, 0, none⟩)) (.pointer (some ⟨w.heap.size, 1, none⟩)) (.pointer (some ⟨w.heap.size, 2, none⟩)) (.pointer (some ⟨w.heap.size, 3, none⟩)) wr).2.2.1
        have h8 : tt ≤ 255 := HIN.out.1.2.2.1
        go_wp2_with fail
        refine (PutNum_any (hb 2) (hb 3) tt wr.heap.size A0 _ c0 wr rfl HHF.out.2.2.2.1 (by omega) (Sees.own HO.out) (Nat.le_refl _) (by omega)).mono ?_
        rintro en w4 ⟨A4, c4, rfl, ho4, hb4⟩
        go_wp2
        go_roundw
        case rel => exact ⟨3, by omega, rfl, own_mono (base := wr.heap.size) (base' := w.heap.size) ho4 (by omega), HBR.out.trans (hb4.mono HBR.out.size), HXR.out.below hb4⟩
        case measure => simp [intOf]
      · have hix := (head_ix (.pointer (some ⟨w.heap.size, 0, none⟩)) (.pointer (some ⟨w.heap.size, 1, none⟩)) (.pointer (some ⟨w.heap.size, 2, none⟩)) (.pointer (some ⟨w.heap.size, 3, none⟩)) wr).2.2.2
        have h8 : ke ≤ 255 := HIN.out.1.2.2.2
        go_wp2_with fail
        refine (PutNum_any (hb 3) (hb 4) ke wr.heap.size A0 _ c0 wr rfl HHF.out.2.2.2.2.1 (by omega) (Sees.own HO.out) (Nat.le_refl _) (by omega)).mono ?_
        rintro en w4 ⟨A4, c4, rfl, ho4, hb4⟩
        go_wp2
        go_roundw
        case rel => exact ⟨4, by omega, rfl, own_mono (base := wr.heap.size) (base' := w.heap.size) ho4 (by omega), HBR.out.trans (hb4.mono HBR.out.size), HXR.out.below hb4⟩
        case measure => simp [intOf]
    · obtain rfl : k = 4 := by omega
      clear hk hlt
      have hlk := HHF.out.2.2.2.2.2.1 4 (by omega)
      obtain ⟨hin1, ⟨hin2, hin3⟩, ⟨hb5, hb6, hb7⟩, ⟨hb9, hb10, hb11⟩, hb20, hb21, hb22⟩ := HIN.out
      simp only at hin2 hin3 hb5 hb6 hb7 hb9 hb10 hb11 hb20 hb21 hb22
      have HI := hide_ (show co < 18446744073709551616 ∧ mx < 18446744073709551616 ∧ (bc < 18446744073709551616 ∧ bn ≤ 255 ∧ bl ≤ 4294967295) ∧ (ac < 18446744073709551616 ∧ an ≤ 255 ∧ al ≤ 4294967295) ∧ (nc < 18446744073709551616 ∧ nn ≤ 255 ∧ nl ≤ 4294967295) from ⟨hin2, hin3, ⟨hb5, hb6, hb7⟩, ⟨hb9, hb10, hb11⟩, hb20, hb21, hb22⟩)
      clear hin1 hin2 hin3 hb5 hb6 hb7 hb9 hb10 hb11 hb20 hb21 hb22 HIN
      obtain ⟨q5, hq5⟩ : ∃ r, (hb 4) ++ numB co = r := ⟨_, rfl⟩
      obtain ⟨q6, hq6⟩ : ∃ r, q5 ++ balB bc bn bl = r := ⟨_, rfl⟩
      obtain ⟨q7, hq7⟩ : ∃ r, q6 ++ numB (okN ok) = r := ⟨_, rfl⟩
      obtain ⟨q8, hq8⟩ : ∃ r, q7 ++ balB ac an al = r := ⟨_, rfl⟩
      obtain ⟨q9, hq9⟩ : ∃ r, q8 ++ rb = r := ⟨_, rfl⟩
      obtain ⟨q10, hq10⟩ : ∃ r, q9 ++ balB nc nn nl = r := ⟨_, rfl⟩
      obtain ⟨q11, hq11⟩ : ∃ r, q10 ++ numB mx = r := ⟨_, rfl⟩
      have HQ := hide_ (show (hb 4) ++ numB co = q5 ∧ q5 ++ balB bc bn bl = q6 ∧ q6 ++ numB (okN ok) = q7 ∧ q7 ++ balB ac an al = q8 ∧ q8 ++ rb = q9 ∧ q9 ++ balB nc nn nl = q10 ∧ q10 ++ numB mx = q11 from ⟨hq5, hq6, hq7, hq8, hq9, hq10, hq11⟩)
      have HOUT := hide_ (show out = q11 from by rw [HMB.out, ← hq11, ← hq10, ← hq9, ← hq8, ← hq7, ← hq6, ← hq5, ← HHF.out.2.2.2.2.2.2]; simp only [List.append_assoc])
      have HL := hide_ (show (hb 4).length ≤ 40 ∧ q5.length ≤ 50 ∧ q6.length ≤ 80 ∧ q7.length ≤ 90 ∧ q8.length ≤ 120 ∧ q9.length ≤ 10120 ∧ q10.length ≤ 10150 ∧ q11.length ≤ 10160 from by
        have n5 := numB_length co HI.out.1
        have n6 := balB_length HI.out.2.2.1.1 HI.out.2.2.1.2.1 HI.out.2.2.1.2.2
        have n7 := numB_length (okN ok) (by cases ok <;> simp [okN])
        have n8 := balB_length HI.out.2.2.2.1.1 HI.out.2.2.2.1.2.1 HI.out.2.2.2.1.2.2
        have n9 := HRL.out
        have n10 := balB_length HI.out.2.2.2.2.1 HI.out.2.2.2.2.2.1 HI.out.2.2.2.2.2.2
        have n11 := numB_length mx HI.out.2.1
        have e5 := congrArg List.length hq5
        have e6 := congrArg List.length hq6
        have e7 := congrArg List.length hq7
        have e8 := congrArg List.length hq8
        have e9 := congrArg List.length hq9
        have e10 := congrArg List.length hq10
        have e11 := congrArg List.length hq11
        simp only [List.length_append] at e5 e6 e7 e8 e9 e10 e11
        refine ⟨?_, ?_, ?_, ?_, ?_, ?_, ?_, ?_⟩ <;> omega)
      clear hlk hq5 hq6 hq7 hq8 hq9 hq10 hq11 HMB HHF HRL
      have H3 := hide_ HBR.out
      go_wp2_with fail
      refine (PutNum_any (hb 4) q5 co wr.heap.size A0 _ c0 wr rfl HQ.out.1 HI.out.1 (Sees.own HO.out) (Nat.le_refl _) (by have := HL.out.1; omega)).mono ?_
      rintro en v5 ⟨A15, c15, rfl, ho, hb⟩
      have HO5 := hide_ ho
      have HB25 := hide_ (HBR.out.trans (hb.mono HBR.out.size))
      have HX25 := hide_ (HXR.out.below hb)
      clear ho hb hcx hzr
      have hz : w.heap.size < v5.heap.size := HX25.out.lt
      have hcx := HX25.out.cell
      go_wp2_with fail
      refine (BalPut_any q5 q6 bc bn bl v5.heap.size A15 _ c15 v5 rfl HQ.out.2.1 HI.out.2.2.1.1 HI.out.2.2.1.2.1 HI.out.2.2.1.2.2 (Sees.own HO5.out) (Nat.le_refl _) (by have := HL.out.2.1; omega)).mono ?_
      rintro en v6 ⟨A16, c16, rfl, ho, hb⟩
      have HO6 := hide_ ho
      have HB26 := hide_ (HB25.out.trans (hb.mono HB25.out.size))
      have HX26 := hide_ (HX25.out.below hb)
      clear ho hb hcx hz
      have hz : w.heap.size < v6.heap.size := HX26.out.lt
      have hcx := HX26.out.cell
      go_wp2_with fail
      refine (flag_any ok _).mono ?_
      rintro en wf ⟨rfl, rfl⟩
      go_wp2_with fail
      refine (PutNum_any q6 q7 (okN ok) v6.heap.size A16 _ c16 v6 rfl HQ.out.2.2.1 (by cases ok <;> simp [okN]) (Sees.own HO6.out) (Nat.le_refl _) (by have := HL.out.2.2.1; omega)).mono ?_
      rintro en v7 ⟨A17, c17, rfl, ho, hb⟩
      have HO7 := hide_ ho
      have HB27 := hide_ (HB26.out.trans (hb.mono HB26.out.size))
      have HX27 := hide_ (HX26.out.below hb)
      clear ho hb hcx hz
      have hz : w.heap.size < v7.heap.size := HX27.out.lt
      have hcx := HX27.out.cell
      go_wp2_with fail
      refine (BalPut_any q7 q8 ac an al v7.heap.size A17 _ c17 v7 rfl HQ.out.2.2.2.1 HI.out.2.2.2.1.1 HI.out.2.2.2.1.2.1 HI.out.2.2.2.1.2.2 (Sees.own HO7.out) (Nat.le_refl _) (by have := HL.out.2.2.2.1; omega)).mono ?_
      rintro en v8 ⟨A18, c18, rfl, ho, hb⟩
      have HO8 := hide_ ho
      have HB28 := hide_ (HB27.out.trans (hb.mono HB27.out.size))
      have HX28 := hide_ (HX27.out.below hb)
      clear ho hb hcx hz
      have hz : w.heap.size < v8.heap.size := HX28.out.lt
      have hcx := HX28.out.cell
      go_wp2_with fail
      refine (HRG1.out _ HB28.out q8 _ c18 A18 rfl (by have := HL.out.2.2.2.2.1; omega) (Sees.own HO8.out)).mono ?_
      rintro en v9 ⟨A19, c19, rfl, ho, hb⟩
      simp only [HQ.out.2.2.2.2.1] at ho ⊢
      have HO9 := hide_ ho
      have HB29 := hide_ (HB28.out.trans (hb.mono HB28.out.size))
      have HX29 := hide_ (HX28.out.below hb)
      clear ho hb hcx hz
      have hz : w.heap.size < v9.heap.size := HX29.out.lt
      have hcx := HX29.out.cell
      go_wp2_with fail
      refine (BalPut_any q9 q10 nc nn nl v9.heap.size A19 _ c19 v9 rfl HQ.out.2.2.2.2.2.1 HI.out.2.2.2.2.1 HI.out.2.2.2.2.2.1 HI.out.2.2.2.2.2.2 (Sees.own HO9.out) (Nat.le_refl _) (by have := HL.out.2.2.2.2.2.1; omega)).mono ?_
      rintro en v10 ⟨A20, c20, rfl, ho, hb⟩
      have HO10 := hide_ ho
      have HB30 := hide_ (HB29.out.trans (hb.mono HB29.out.size))
      have HX30 := hide_ (HX29.out.below hb)
      clear ho hb hcx hz
      have hz : w.heap.size < v10.heap.size := HX30.out.lt
      have hcx := HX30.out.cell
      go_wp2_with fail
      refine (PutNum_any q10 q11 mx v10.heap.size A20 _ c20 v10 rfl HQ.out.2.2.2.2.2.2 HI.out.2.1 (Sees.own HO10.out) (Nat.le_refl _) (by have := HL.out.2.2.2.2.2.2.1; omega)).mono ?_
      rintro en v11 ⟨A21, c21, rfl, ho, hb⟩
      have HO11 := hide_ ho
      have HB31 := hide_ (HB30.out.trans (hb.mono HB30.out.size))
      have HX31 := hide_ (HX30.out.below hb)
      clear ho hb hcx hz
      have hz : w.heap.size < v11.heap.size := HX31.out.lt
      have hcx := HX31.out.cell
      clear hcx hz
      go_wp2_with fail
      refine (Mark_any q11 (markB q11) v11.heap.size A21 _ c21 v11 rfl rfl (by have := HL.out.2.2.2.2.2.2.2; omega) (Sees.own HO11.out) (Nat.le_refl _)).mono ?_
      rintro en wz ⟨Az, cz, rfl, ho, hb⟩
      have HOZ := hide_ (own_mono (base := v11.heap.size) (base' := w.heap.size) ho HB31.out.size)
      have HBZ := hide_ (HB31.out.trans (hb.mono HB31.out.size))
      clear ho hb
      go_wp2
      go_ret2
      obtain rfl := HOUT.out
      exact ⟨Az, cz, rfl, HOZ.out, HBZ.out⟩
end Go.Proofs.YtkgnondlcaklnaaGreat
