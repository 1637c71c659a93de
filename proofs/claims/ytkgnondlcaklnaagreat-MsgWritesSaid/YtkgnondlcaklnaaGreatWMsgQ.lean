/-
  The document's Put of a message.
-/
import Derived.Test.YtkgnondlcaklnaaGreatWMsgR
import Derived.Test.YtkgnondlcaklnaaGreatWMsgP
import Derived.Test.YtkgnondlcaklnaaGreatJ46
import Derived.Test.YtkgnondlcaklnaaGreatWRefBytes6
namespace Go.Proofs.YtkgnondlcaklnaaGreat
open Go.RowKit

theorem numB_ok1 : numB (okN true) = [1] := numB_small (by decide)
theorem numB_ok0 : numB (okN false) = [0] := numB_small (by decide)

def headsR (m : MsgM) (k : Nat) : List UInt8 := ([m.ki, m.fr, m.tt, m.ke, m.co].take k).flatMap numB

set_option maxRecDepth 100000 in
set_option maxHeartbeats 6400000 in
theorem refPutMsg_any (m : MsgM) (w : World) (hm : MsgM.good w w.heap.size m) : Calls Tryz.prog 17 #[m.v] w (PutsT (putM m.p) w) := by
  have hw1 : Below w.heap.size w (w.alloc (.cells m.box 51)) := (Below.refl _ _).alloc (Nat.le_refl _) _
  have HW := hide_ hw1
  have HX := hide_ (BoxAt.new w m.box 51)
  have HMY := hide_ (fun (u : World) (h : Below w.heap.size w u) => refMayMsg_any m w.heap.size u (msg_stable.below hm h) h.size)
  have HRG := hide_ (fun (hmg : mayG m.r.p = true) (u : World) (h : Below w.heap.size w u) => refBytes6_any m.r w.heap.size u (reg_stable.below hm.2 h) h.size hmg)
  have HIN := hide_ hm.1
  have HMR := hide_ (fun h : mayM m.p = true => (⟨may_reg h, (regB_len hm.2 (may_reg h)).2⟩ : mayG m.r.p = true ∧ (regB m.r.p).length ≤ 10000))
  have HMB := hide_ (show msgB m.p = numB m.ki ++ (numB m.fr ++ (numB m.tt ++ (numB m.ke ++ (numB m.co ++ (balB m.bc m.bn m.bl ++ (numB (okN m.ok) ++ (balB m.ac m.an m.al ++ (regB m.r.p ++ (balB m.nc m.nn m.nl ++ numB m.mx))))))))) from rfl)
  have HY := hide_ (fun h : mayM m.p = true => putM_yes h)
  have HN := hide_ (fun h : mayM m.p = false => putM_no h)
  obtain ⟨q, hq⟩ : ∃ q, mayM m.p = q := ⟨_, rfl⟩
  simp only [hq] at HMY HMR HY HN
  obtain ⟨R, hR⟩ : ∃ R, putM m.p = R := ⟨_, rfl⟩
  rw [hR] at HY HN ⊢
  obtain ⟨rb, hrb⟩ : ∃ rb, regB m.r.p = rb := ⟨_, rfl⟩
  obtain ⟨out, hout⟩ : ∃ out, msgB m.p = out := ⟨_, rfl⟩
  rw [hout] at HY HMB
  have HHB := hide_ (show headsR m = fun k => ([m.ki, m.fr, m.tt, m.ke, m.co].take k).flatMap numB from rfl)
  obtain ⟨hb, hhb⟩ : ∃ hb, headsR m = hb := ⟨_, rfl⟩
  rw [hhb] at HHB
  have HHF := hide_ (show hb 0 = [] ∧ hb 0 ++ numB m.ki = hb 1 ∧ hb 1 ++ numB m.fr = hb 2 ∧ hb 2 ++ numB m.tt = hb 3 ∧ hb 3 ++ numB m.ke = hb 4 ∧ hb 4 ++ numB m.co = hb 5 ∧ (∀ k, k ≤ 5 → (hb k).length ≤ 50) ∧ numB m.ki ++ (numB m.fr ++ (numB m.tt ++ (numB m.ke ++ numB m.co))) = hb 5 from by
    have hd := hm.1.1
    have n1 := numB_length m.ki (by omega)
    have n2 := numB_length m.fr (by omega)
    have n3 := numB_length m.tt (by omega)
    have n4 := numB_length m.ke (by omega)
    have n5 := numB_length m.co hm.1.2.1.1
    refine ⟨by rw [HHB.out]; rfl, by rw [HHB.out]; simp, by rw [HHB.out]; simp, by rw [HHB.out]; simp, by rw [HHB.out]; simp, by rw [HHB.out]; simp, fun k hk => ?_, by rw [HHB.out]; simp⟩
    rw [HHB.out]
    have : k = 0 ∨ k = 1 ∨ k = 2 ∨ k = 3 ∨ k = 4 ∨ k = 5 := by omega
    rcases this with rfl | rfl | rfl | rfl | rfl | rfl <;> simp <;> omega)
  clear hm hq hR hout hw1 hhb HHB
  rw [hrb] at HMB HMR
  simp only [hrb] at HRG
  clear hrb
  obtain ⟨mg, hmg⟩ : ∃ b, mayG m.r.p = b := ⟨_, rfl⟩
  simp only [hmg] at HRG HMR
  clear hmg
  obtain ⟨ki, fr, tt, ke, co, bc, bn, bl, ok, ac, an, al, ⟨rk, inc, st, ⟨vA, vc, vl⟩, ⟨dA, dc, dl⟩, ⟨oA, oc, ol⟩, la, ⟨mA, mc, ml⟩⟩, nc, nn, nl, mx⟩ := m
  simp only [MsgM.v, MsgM.box, RegM.v, Sl.v] at HMY HRG HW HX ⊢
  simp only at HHF HMB
  go_enter Tryz.func17, Tryz.ntmps17
  go_wp2_with (refine ld_msg rfl _ rfl HX.out rfl rfl ?_)
  refine (HMY.out _ HW.out).mono ?_
  rintro en w1 ⟨rfl, hb1⟩
  have HB1 := hide_ (HW.out.trans (hb1.mono HW.out.size))
  have HX1 := hide_ (HX.out.below hb1)
  clear hb1
  have hz1 : w.heap.size < w1.heap.size := HX1.out.lt
  have hcx := HX1.out.cell
  cases q with
  | false =>
    obtain rfl := (HN.out rfl).symm
    go_wp2
    go_ret2
    refine ⟨some ⟨w1.heap.size, 0, none⟩, 0, rfl, ?_, HB1.out.alloc HB1.out.size _⟩
    exact own_mono (base := w1.heap.size) (World.ownsRow_lit w1 #[] 0 (Nat.le_refl _) (by simp [maxLen]) rfl) HB1.out.size
  | true =>
  obtain rfl := (HY.out rfl).symm
  obtain ⟨hmg, hrl⟩ := HMR.out rfl
  have HRG1 := hide_ (HRG.out hmg)
  have HRL := hide_ hrl
  clear HN HY HMY HMR HRG hmg hrl
  have h80 : ki ≤ 255 := HIN.out.1.1
  have h81 : fr ≤ 255 := HIN.out.1.2.1
  have h82 : tt ≤ 255 := HIN.out.1.2.2.1
  have h83 : ke ≤ 255 := HIN.out.1.2.2.2
  go_wp2
  generalize hW2 : (w1.alloc (.cells #[.int .u64 ki, .int .u64 fr, .int .u64 tt, .int .u64 ke, .int .u64 co] 25)).alloc (.cells #[] 5) = W2
  have HX2 := hide_ (show BoxAt W2 w.heap.size #[.int .u8 ki, .int .u8 fr, .int .u8 tt, .int .u8 ke, .int .u64 co, .int .u64 bc, .int .u8 bn, .int .u32 bl, .bool ok, .int .u64 ac, .int .u8 an, .int .u32 al, .int .u8 rk, .int .u64 inc, .int .i64 st, .slice vA vl.length vc, .slice dA dl.length dc, .slice oA ol.length oc, .int .u64 la, .slice mA ml.length mc, .int .u64 nc, .int .u8 nn, .int .u32 nl, .int .u64 mx] 51 from hW2 ▸ (HX1.out.alloc _).alloc _)
  have HL2 := hide_ (show BoxAt W2 w1.heap.size #[.int .u64 ki, .int .u64 fr, .int .u64 tt, .int .u64 ke, .int .u64 co] 25 from hW2 ▸ (BoxAt.new w1 _ _).alloc _)
  have HO2 := hide_ (show W2.ownsRow (w1.heap.size + 1) 5 1 (.slice (some ⟨w1.heap.size + 1, 0, none⟩) 0 0) 0 [] from by rw [← hW2]; have h := World.ownsRow_lit (base := w1.heap.size + 1) (e := 5) (size := 1) (w1.alloc (.cells #[.int .u64 ki, .int .u64 fr, .int .u64 tt, .int .u64 ke, .int .u64 co] 25)) #[] 0 (by simp) (by simp [maxLen]) rfl; simpa using h)
  have HB2 := hide_ (show Below w.heap.size w W2 from hW2 ▸ (HB1.out.alloc HB1.out.size _).alloc (by have := HB1.out.size; simp; omega) _)
  have HZ2 := hide_ (show W2.heap.size = w1.heap.size + 2 from by rw [← hW2]; simp)
  have HLT := hide_ HX1.out.lt
  clear hW2 hcx hz1
  go_loopw [5, 29] (fun b i wr => ∃ k : Nat, k ≤ 5 ∧ i = .int .i64 k ∧ wr.ownsRow (w1.heap.size + 1) 5 1 b (hb k).length (bv (hb k)) ∧ Below w.heap.size w wr ∧ w1.heap.size + 1 ≤ wr.heap.size ∧ BoxAt wr w.heap.size #[.int .u8 ki, .int .u8 fr, .int .u8 tt, .int .u8 ke, .int .u64 co, .int .u64 bc, .int .u8 bn, .int .u32 bl, .bool ok, .int .u64 ac, .int .u8 an, .int .u32 al, .int .u8 rk, .int .u64 inc, .int .i64 st, .slice vA vl.length vc, .slice dA dl.length dc, .slice oA ol.length oc, .int .u64 la, .slice mA ml.length mc, .int .u64 nc, .int .u8 nn, .int .u32 nl, .int .u64 mx] 51 ∧ BoxAt wr w1.heap.size #[.int .u64 ki, .int .u64 fr, .int .u64 tt, .int .u64 ke, .int .u64 co] 25) (fun _ i _ => 5 - (intOf i).toNat)
  case atStart =>
    refine ⟨0, by omega, rfl, ?_, HB2.out, by have := HZ2.out; omega, HX2.out, HL2.out⟩
    rw [HHF.out.1]
    exact HO2.out
  case round =>
    obtain ⟨k, hk, rfl, hown, hbr, hsz, hxr, hlr⟩ := hrel
    obtain ⟨A0, c0, rfl⟩ := own_slice hown
    have HO := hide_ hown
    have HBR := hide_ hbr
    have HSR := hide_ hsz
    have HXR := hide_ hxr
    have HLR := hide_ hlr
    clear hown hbr hsz hxr hlr
    have hlk := HHF.out.2.2.2.2.2.2.1 k hk
    by_cases hlt : k < 5
    · have hk4 : k = 0 ∨ k = 1 ∨ k = 2 ∨ k = 3 ∨ k = 4 := by omega
      have hcl := HLR.out.cell
      rcases hk4 with rfl | rfl | rfl | rfl | rfl
      · go_wp2_with fail
        refine (refNum_any ki (numB ki) wr rfl (by omega)).mono ?_
        rintro en w4 ⟨A4, c4, rfl, ho4, hb4⟩
        have n4 := numB_length ki (by omega)
        have HO4 := hide_ (own_below HO.out hb4)
        have HQ4 := hide_ (Sees.own ho4)
        have HZ4 := hide_ (Nat.le_trans HSR.out hb4.size)
        have HX4 := hide_ (HXR.out.below hb4)
        have HL4 := hide_ (HLR.out.below hb4)
        have HB4 := hide_ (HBR.out.trans (hb4.mono HBR.out.size))
        clear ho4 hb4 hcl
        go_wp2_with (at_builtin; refine wpList_append_bytes (P := Tryz.prog) _ rfl (.tmp 32) (.tmp 37) 52 rfl (w1.heap.size + 1) 5 u8_info Tryz.underlying52 _ (hb 0).length (hb 0) (numB ki) (hb 1) HHF.out.2.1 rfl HO4.out w4.heap.size A4 _ c4 rfl rfl HQ4.out (by omega) HZ4.out ?_; intro A5 c5 w5 hown5 hb5)
        go_roundw
        case rel => exact ⟨1, by omega, rfl, hown5, HB4.out.trans (hb5.mono (by have := HLT.out; omega)), Nat.le_trans HZ4.out hb5.size, (hb5.block _ (by have := HLT.out; omega)).trans HX4.out, (hb5.block _ (by omega)).trans HL4.out⟩
        case measure => simp [intOf]
      · go_wp2_with fail
        refine (refNum_any fr (numB fr) wr rfl (by omega)).mono ?_
        rintro en w4 ⟨A4, c4, rfl, ho4, hb4⟩
        have n4 := numB_length fr (by omega)
        have HO4 := hide_ (own_below HO.out hb4)
        have HQ4 := hide_ (Sees.own ho4)
        have HZ4 := hide_ (Nat.le_trans HSR.out hb4.size)
        have HX4 := hide_ (HXR.out.below hb4)
        have HL4 := hide_ (HLR.out.below hb4)
        have HB4 := hide_ (HBR.out.trans (hb4.mono HBR.out.size))
        clear ho4 hb4 hcl
        go_wp2_with (at_builtin; refine wpList_append_bytes (P := Tryz.prog) _ rfl (.tmp 32) (.tmp 37) 52 rfl (w1.heap.size + 1) 5 u8_info Tryz.underlying52 _ (hb 1).length (hb 1) (numB fr) (hb 2) HHF.out.2.2.1 rfl HO4.out w4.heap.size A4 _ c4 rfl rfl HQ4.out (by omega) HZ4.out ?_; intro A5 c5 w5 hown5 hb5)
        go_roundw
        case rel => exact ⟨2, by omega, rfl, hown5, HB4.out.trans (hb5.mono (by have := HLT.out; omega)), Nat.le_trans HZ4.out hb5.size, (hb5.block _ (by have := HLT.out; omega)).trans HX4.out, (hb5.block _ (by omega)).trans HL4.out⟩
        case measure => simp [intOf]
      · go_wp2_with fail
        refine (refNum_any tt (numB tt) wr rfl (by omega)).mono ?_
        rintro en w4 ⟨A4, c4, rfl, ho4, hb4⟩
        have n4 := numB_length tt (by omega)
        have HO4 := hide_ (own_below HO.out hb4)
        have HQ4 := hide_ (Sees.own ho4)
        have HZ4 := hide_ (Nat.le_trans HSR.out hb4.size)
        have HX4 := hide_ (HXR.out.below hb4)
        have HL4 := hide_ (HLR.out.below hb4)
        have HB4 := hide_ (HBR.out.trans (hb4.mono HBR.out.size))
        clear ho4 hb4 hcl
        go_wp2_with (at_builtin; refine wpList_append_bytes (P := Tryz.prog) _ rfl (.tmp 32) (.tmp 37) 52 rfl (w1.heap.size + 1) 5 u8_info Tryz.underlying52 _ (hb 2).length (hb 2) (numB tt) (hb 3) HHF.out.2.2.2.1 rfl HO4.out w4.heap.size A4 _ c4 rfl rfl HQ4.out (by omega) HZ4.out ?_; intro A5 c5 w5 hown5 hb5)
        go_roundw
        case rel => exact ⟨3, by omega, rfl, hown5, HB4.out.trans (hb5.mono (by have := HLT.out; omega)), Nat.le_trans HZ4.out hb5.size, (hb5.block _ (by have := HLT.out; omega)).trans HX4.out, (hb5.block _ (by omega)).trans HL4.out⟩
        case measure => simp [intOf]
      · go_wp2_with fail
        refine (refNum_any ke (numB ke) wr rfl (by omega)).mono ?_
        rintro en w4 ⟨A4, c4, rfl, ho4, hb4⟩
        have n4 := numB_length ke (by omega)
        have HO4 := hide_ (own_below HO.out hb4)
        have HQ4 := hide_ (Sees.own ho4)
        have HZ4 := hide_ (Nat.le_trans HSR.out hb4.size)
        have HX4 := hide_ (HXR.out.below hb4)
        have HL4 := hide_ (HLR.out.below hb4)
        have HB4 := hide_ (HBR.out.trans (hb4.mono HBR.out.size))
        clear ho4 hb4 hcl
        go_wp2_with (at_builtin; refine wpList_append_bytes (P := Tryz.prog) _ rfl (.tmp 32) (.tmp 37) 52 rfl (w1.heap.size + 1) 5 u8_info Tryz.underlying52 _ (hb 3).length (hb 3) (numB ke) (hb 4) HHF.out.2.2.2.2.1 rfl HO4.out w4.heap.size A4 _ c4 rfl rfl HQ4.out (by omega) HZ4.out ?_; intro A5 c5 w5 hown5 hb5)
        go_roundw
        case rel => exact ⟨4, by omega, rfl, hown5, HB4.out.trans (hb5.mono (by have := HLT.out; omega)), Nat.le_trans HZ4.out hb5.size, (hb5.block _ (by have := HLT.out; omega)).trans HX4.out, (hb5.block _ (by omega)).trans HL4.out⟩
        case measure => simp [intOf]
      · go_wp2_with fail
        refine (refNum_any co (numB co) wr rfl HIN.out.2.1.1).mono ?_
        rintro en w4 ⟨A4, c4, rfl, ho4, hb4⟩
        have n4 := numB_length co HIN.out.2.1.1
        have HO4 := hide_ (own_below HO.out hb4)
        have HQ4 := hide_ (Sees.own ho4)
        have HZ4 := hide_ (Nat.le_trans HSR.out hb4.size)
        have HX4 := hide_ (HXR.out.below hb4)
        have HL4 := hide_ (HLR.out.below hb4)
        have HB4 := hide_ (HBR.out.trans (hb4.mono HBR.out.size))
        clear ho4 hb4 hcl
        go_wp2_with (at_builtin; refine wpList_append_bytes (P := Tryz.prog) _ rfl (.tmp 32) (.tmp 37) 52 rfl (w1.heap.size + 1) 5 u8_info Tryz.underlying52 _ (hb 4).length (hb 4) (numB co) (hb 5) HHF.out.2.2.2.2.2.1 rfl HO4.out w4.heap.size A4 _ c4 rfl rfl HQ4.out (by omega) HZ4.out ?_; intro A5 c5 w5 hown5 hb5)
        go_roundw
        case rel => exact ⟨5, by omega, rfl, hown5, HB4.out.trans (hb5.mono (by have := HLT.out; omega)), Nat.le_trans HZ4.out hb5.size, (hb5.block _ (by have := HLT.out; omega)).trans HX4.out, (hb5.block _ (by omega)).trans HL4.out⟩
        case measure => simp [intOf]
    · obtain rfl : k = 5 := by omega
      clear hk hlt
      have hlk5 := HHF.out.2.2.2.2.2.2.1 5 (by omega)
      obtain ⟨hin1, ⟨hin2, hin3⟩, ⟨hb5, hb6, hb7⟩, ⟨hb9, hb10, hb11⟩, hb20, hb21, hb22⟩ := HIN.out
      simp only at hin2 hin3 hb5 hb6 hb7 hb9 hb10 hb11 hb20 hb21 hb22
      have HI := hide_ (show mx < 18446744073709551616 ∧ (N64 bc ∧ bn ≤ 255 ∧ bl ≤ 4294967295) ∧ (N64 ac ∧ an ≤ 255 ∧ al ≤ 4294967295) ∧ (N64 nc ∧ nn ≤ 255 ∧ nl ≤ 4294967295) from ⟨hin3, ⟨hb5, hb6, hb7⟩, ⟨hb9, hb10, hb11⟩, hb20, hb21, hb22⟩)
      clear hin1 hin2 hin3 hb5 hb6 hb7 hb9 hb10 hb11 hb20 hb21 hb22 HIN hlk h80 h81 h82 h83
      obtain ⟨q6, hq6⟩ : ∃ r, hb 5 ++ balB bc bn bl = r := ⟨_, rfl⟩
      obtain ⟨q7, hq7⟩ : ∃ r, q6 ++ numB (okN ok) = r := ⟨_, rfl⟩
      obtain ⟨q8, hq8⟩ : ∃ r, q7 ++ balB ac an al = r := ⟨_, rfl⟩
      obtain ⟨q9, hq9⟩ : ∃ r, q8 ++ rb = r := ⟨_, rfl⟩
      obtain ⟨q10, hq10⟩ : ∃ r, q9 ++ balB nc nn nl = r := ⟨_, rfl⟩
      obtain ⟨q11, hq11⟩ : ∃ r, q10 ++ numB mx = r := ⟨_, rfl⟩
      have HQ := hide_ (show hb 5 ++ balB bc bn bl = q6 ∧ q6 ++ numB (okN ok) = q7 ∧ q7 ++ balB ac an al = q8 ∧ q8 ++ rb = q9 ∧ q9 ++ balB nc nn nl = q10 ∧ q10 ++ numB mx = q11 from ⟨hq6, hq7, hq8, hq9, hq10, hq11⟩)
      have HOUT := hide_ (show out = q11 from by rw [HMB.out, ← hq11, ← hq10, ← hq9, ← hq8, ← hq7, ← hq6, ← HHF.out.2.2.2.2.2.2.2]; simp only [List.append_assoc])
      have n6 := balB_length HI.out.2.1.1 HI.out.2.1.2.1 HI.out.2.1.2.2
      have n7 := numB_length (okN ok) (by cases ok <;> simp [okN])
      have n8 := balB_length HI.out.2.2.1.1 HI.out.2.2.1.2.1 HI.out.2.2.1.2.2
      have n9 := HRL.out
      have n10 := balB_length HI.out.2.2.2.1 HI.out.2.2.2.2.1 HI.out.2.2.2.2.2
      have n11 := numB_length mx HI.out.1
      have HNN := hide_ (show (balB bc bn bl).length ≤ 30 ∧ (balB ac an al).length ≤ 30 ∧ rb.length ≤ 10000 ∧ (balB nc nn nl).length ≤ 30 ∧ (numB mx).length ≤ 10 from ⟨n6, n8, n9, n10, n11⟩)
      have HL := hide_ (show (hb 5).length ≤ 50 ∧ q6.length ≤ 80 ∧ q7.length ≤ 90 ∧ q8.length ≤ 120 ∧ q9.length ≤ 10120 ∧ q10.length ≤ 10150 ∧ q11.length ≤ 10160 from by
        have e6 := congrArg List.length hq6
        have e7 := congrArg List.length hq7
        have e8 := congrArg List.length hq8
        have e9 := congrArg List.length hq9
        have e10 := congrArg List.length hq10
        have e11 := congrArg List.length hq11
        simp only [List.length_append] at e6 e7 e8 e9 e10 e11
        refine ⟨hlk5, ?_, ?_, ?_, ?_, ?_, ?_⟩ <;> omega)
      clear hlk5 n6 n7 n8 n9 n10 n11 hq6 hq7 hq8 hq9 hq10 hq11 HMB HHF HRL
      have hcx := HXR.out.cell
      cases ok with
      | true =>
        go_wp2_with fail
        refine (refBalPut_any bc bn bl (balB bc bn bl) _ rfl HI.out.2.1.1 HI.out.2.1.2.1 HI.out.2.1.2.2).mono ?_
        rintro en u6 ⟨A26, c26, rfl, ho, hb⟩
        have HP6 := hide_ (own_below HO.out hb)
        have HR6 := hide_ (Sees.own ho)
        have HBU := hide_ (HBR.out.trans (hb.mono HBR.out.size))
        have HSU := hide_ (Nat.le_trans HSR.out hb.size)
        have HXU := hide_ (HXR.out.below hb)
        clear ho hb hcx
        go_wp2_with (first | (at_builtin; refine wpList_append_bytes (P := Tryz.prog) _ rfl (.tmp 40) (.tmp 43) 52 rfl (w1.heap.size + 1) 5 u8_info Tryz.underlying52 _ (hb 5).length (hb 5) (balB bc bn bl) q6 HQ.out.1 rfl HP6.out u6.heap.size A26 _ c26 rfl rfl HR6.out (by have := HL.out.1; have := HNN.out.1; omega) HSU.out ?_; intro B6 d6 v6 ho hb; have HO6 := hide_ ho; have HB6 := hide_ (HBU.out.trans (hb.mono (by have := HLT.out; omega))); have HS6 := hide_ (Nat.le_trans HSU.out hb.size); have HX6 := hide_ (show BoxAt v6 _ _ _ from (hb.block _ (by have := HLT.out; omega)).trans HXU.out); clear ho hb HBU HSU HXU; have hcx := HX6.out.cell) | (at_builtin; refine wpList_append_byte (P := Tryz.prog) _ rfl (.tmp 47) (.tmp 48) 52 rfl (w1.heap.size + 1) 5 u8_info Tryz.underlying52 _ q6.length (bv q6) _ rfl HO6.out rfl (by have := HL.out.2.1; omega) HS6.out ?_; intro x7 v7 ho7 hb7; have HO7 := hide_ (own_rw ho7 (show q6.length + 1 = q7.length from by rw [← HQ.out.2.1, List.length_append, numB_ok1]; rfl) (show bv q6 ++ [.int .u8 1] = bv q7 from by rw [← HQ.out.2.1, bv_append, numB_ok1]; rfl)); have HB7 := hide_ (HB6.out.trans (hb7.mono (by have := HLT.out; omega))); have HS7 := hide_ (Nat.le_trans HS6.out hb7.size); have HX7 := hide_ (show BoxAt v7 _ _ _ from (hb7.block _ (by have := HLT.out; omega)).trans HX6.out); clear ho7 hb7 hcx; have hcx := HX7.out.cell))
        obtain ⟨A7, c7, hx7⟩ := own_slice HO7.out
        have HX7V := hide_ hx7
        clear hx7
        refine (refBalPut_any ac an al (balB ac an al) _ rfl HI.out.2.2.1.1 HI.out.2.2.1.2.1 HI.out.2.2.1.2.2).mono ?_
        rintro en u8 ⟨A28, c28, rfl, ho, hb⟩
        have HP8 := hide_ (own_below HO7.out hb)
        have HR8 := hide_ (Sees.own ho)
        have HBU := hide_ (HB7.out.trans (hb.mono HB7.out.size))
        have HSU := hide_ (Nat.le_trans HS7.out hb.size)
        have HXU := hide_ (HX7.out.below hb)
        clear ho hb hcx
        go_wp2_with (at_builtin; refine wpList_append_bytes (P := Tryz.prog) _ rfl (.tmp 53) (.tmp 56) 52 rfl (w1.heap.size + 1) 5 u8_info Tryz.underlying52 _ q7.length q7 (balB ac an al) q8 HQ.out.2.2.1 rfl HP8.out u8.heap.size A28 _ c28 rfl rfl HR8.out (by have := HL.out.2.2.1; have := HNN.out.2.1; omega) HSU.out ?_; intro B8 d8 v8 ho hb; have HO8 := hide_ ho; have HB8 := hide_ (HBU.out.trans (hb.mono (by have := HLT.out; omega))); have HS8 := hide_ (Nat.le_trans HSU.out hb.size); have HX8 := hide_ (show BoxAt v8 _ _ _ from (hb.block _ (by have := HLT.out; omega)).trans HXU.out); clear ho hb HBU HSU HXU; have hcx := HX8.out.cell)
        go_wp2_with fail
        refine (HRG1.out _ HB8.out).mono ?_
        rintro en u9 ⟨A29, c29, rfl, ho, hb⟩
        have HP9 := hide_ (own_below HO8.out hb)
        have HR9 := hide_ (Sees.own ho)
        have HBU := hide_ (HB8.out.trans (hb.mono HB8.out.size))
        have HSU := hide_ (Nat.le_trans HS8.out hb.size)
        have HXU := hide_ (HX8.out.below hb)
        clear ho hb hcx
        go_wp2_with (at_builtin; refine wpList_append_bytes (P := Tryz.prog) _ rfl (.tmp 58) (.tmp 61) 52 rfl (w1.heap.size + 1) 5 u8_info Tryz.underlying52 _ q8.length q8 (rb) q9 HQ.out.2.2.2.1 rfl HP9.out u9.heap.size A29 _ c29 rfl rfl HR9.out (by have := HL.out.2.2.2.1; have := HNN.out.2.2.1; omega) HSU.out ?_; intro B9 d9 v9 ho hb; have HO9 := hide_ ho; have HB9 := hide_ (HBU.out.trans (hb.mono (by have := HLT.out; omega))); have HS9 := hide_ (Nat.le_trans HSU.out hb.size); have HX9 := hide_ (show BoxAt v9 _ _ _ from (hb.block _ (by have := HLT.out; omega)).trans HXU.out); clear ho hb HBU HSU HXU; have hcx := HX9.out.cell)
        go_wp2_with fail
        refine (refBalPut_any nc nn nl (balB nc nn nl) _ rfl HI.out.2.2.2.1 HI.out.2.2.2.2.1 HI.out.2.2.2.2.2).mono ?_
        rintro en u10 ⟨A30, c30, rfl, ho, hb⟩
        have HP10 := hide_ (own_below HO9.out hb)
        have HR10 := hide_ (Sees.own ho)
        have HBU := hide_ (HB9.out.trans (hb.mono HB9.out.size))
        have HSU := hide_ (Nat.le_trans HS9.out hb.size)
        have HXU := hide_ (HX9.out.below hb)
        clear ho hb hcx
        go_wp2_with (at_builtin; refine wpList_append_bytes (P := Tryz.prog) _ rfl (.tmp 63) (.tmp 66) 52 rfl (w1.heap.size + 1) 5 u8_info Tryz.underlying52 _ q9.length q9 (balB nc nn nl) q10 HQ.out.2.2.2.2.1 rfl HP10.out u10.heap.size A30 _ c30 rfl rfl HR10.out (by have := HL.out.2.2.2.2.1; have := HNN.out.2.2.2.1; omega) HSU.out ?_; intro B10 d10 v10 ho hb; have HO10 := hide_ ho; have HB10 := hide_ (HBU.out.trans (hb.mono (by have := HLT.out; omega))); have HS10 := hide_ (Nat.le_trans HSU.out hb.size); have HX10 := hide_ (show BoxAt v10 _ _ _ from (hb.block _ (by have := HLT.out; omega)).trans HXU.out); clear ho hb HBU HSU HXU; have hcx := HX10.out.cell)
        go_wp2_with fail
        refine (refNum_any mx (numB mx) _ rfl HI.out.1).mono ?_
        rintro en u11 ⟨A31, c31, rfl, ho, hb⟩
        have HP11 := hide_ (own_below HO10.out hb)
        have HR11 := hide_ (Sees.own ho)
        have HBU := hide_ (HB10.out.trans (hb.mono HB10.out.size))
        have HSU := hide_ (Nat.le_trans HS10.out hb.size)
        have HXU := hide_ (HX10.out.below hb)
        clear ho hb hcx
        go_wp2_with (at_builtin; refine wpList_append_bytes (P := Tryz.prog) _ rfl (.tmp 68) (.tmp 71) 52 rfl (w1.heap.size + 1) 5 u8_info Tryz.underlying52 _ q10.length q10 (numB mx) q11 HQ.out.2.2.2.2.2 rfl HP11.out u11.heap.size A31 _ c31 rfl rfl HR11.out (by have := HL.out.2.2.2.2.2.1; have := HNN.out.2.2.2.2; omega) HSU.out ?_; intro B11 d11 v11 ho hb; have HO11 := hide_ ho; have HB11 := hide_ (HBU.out.trans (hb.mono (by have := HLT.out; omega))); have HS11 := hide_ (Nat.le_trans HSU.out hb.size); have HX11 := hide_ (show BoxAt v11 _ _ _ from (hb.block _ (by have := HLT.out; omega)).trans HXU.out); clear ho hb HBU HSU HXU; have hcx := HX11.out.cell)
        clear hcx
        refine (refMark_any q11 (markB q11) v11.heap.size B11 _ d11 v11 rfl rfl (by have := HL.out.2.2.2.2.2.2; omega) (Sees.own HO11.out) (Nat.le_refl _)).mono ?_
        rintro en vz ⟨Az, cz, rfl, ho, hb⟩
        have HOZ := hide_ (own_mono (base := v11.heap.size) (base' := w.heap.size) ho HB11.out.size)
        have HBZ := hide_ (HB11.out.trans (hb.mono HB11.out.size))
        clear ho hb
        go_wp2
        go_ret2
        obtain rfl := HOUT.out
        exact ⟨Az, cz, rfl, HOZ.out, HBZ.out⟩
      | false =>
        go_wp2_with fail
        refine (refBalPut_any bc bn bl (balB bc bn bl) _ rfl HI.out.2.1.1 HI.out.2.1.2.1 HI.out.2.1.2.2).mono ?_
        rintro en u6 ⟨A26, c26, rfl, ho, hb⟩
        have HP6 := hide_ (own_below HO.out hb)
        have HR6 := hide_ (Sees.own ho)
        have HBU := hide_ (HBR.out.trans (hb.mono HBR.out.size))
        have HSU := hide_ (Nat.le_trans HSR.out hb.size)
        have HXU := hide_ (HXR.out.below hb)
        clear ho hb hcx
        go_wp2_with (first | (at_builtin; refine wpList_append_bytes (P := Tryz.prog) _ rfl (.tmp 40) (.tmp 43) 52 rfl (w1.heap.size + 1) 5 u8_info Tryz.underlying52 _ (hb 5).length (hb 5) (balB bc bn bl) q6 HQ.out.1 rfl HP6.out u6.heap.size A26 _ c26 rfl rfl HR6.out (by have := HL.out.1; have := HNN.out.1; omega) HSU.out ?_; intro B6 d6 v6 ho hb; have HO6 := hide_ ho; have HB6 := hide_ (HBU.out.trans (hb.mono (by have := HLT.out; omega))); have HS6 := hide_ (Nat.le_trans HSU.out hb.size); have HX6 := hide_ (show BoxAt v6 _ _ _ from (hb.block _ (by have := HLT.out; omega)).trans HXU.out); clear ho hb HBU HSU HXU; have hcx := HX6.out.cell) | (at_builtin; refine wpList_append_byte (P := Tryz.prog) _ rfl (.tmp 50) (.tmp 51) 52 rfl (w1.heap.size + 1) 5 u8_info Tryz.underlying52 _ q6.length (bv q6) _ rfl HO6.out rfl (by have := HL.out.2.1; omega) HS6.out ?_; intro x7 v7 ho7 hb7; have HO7 := hide_ (own_rw ho7 (show q6.length + 1 = q7.length from by rw [← HQ.out.2.1, List.length_append, numB_ok0]; rfl) (show bv q6 ++ [.int .u8 0] = bv q7 from by rw [← HQ.out.2.1, bv_append, numB_ok0]; rfl)); have HB7 := hide_ (HB6.out.trans (hb7.mono (by have := HLT.out; omega))); have HS7 := hide_ (Nat.le_trans HS6.out hb7.size); have HX7 := hide_ (show BoxAt v7 _ _ _ from (hb7.block _ (by have := HLT.out; omega)).trans HX6.out); clear ho7 hb7 hcx; have hcx := HX7.out.cell))
        obtain ⟨A7, c7, hx7⟩ := own_slice HO7.out
        have HX7V := hide_ hx7
        clear hx7
        refine (refBalPut_any ac an al (balB ac an al) _ rfl HI.out.2.2.1.1 HI.out.2.2.1.2.1 HI.out.2.2.1.2.2).mono ?_
        rintro en u8 ⟨A28, c28, rfl, ho, hb⟩
        have HP8 := hide_ (own_below HO7.out hb)
        have HR8 := hide_ (Sees.own ho)
        have HBU := hide_ (HB7.out.trans (hb.mono HB7.out.size))
        have HSU := hide_ (Nat.le_trans HS7.out hb.size)
        have HXU := hide_ (HX7.out.below hb)
        clear ho hb hcx
        go_wp2_with (at_builtin; refine wpList_append_bytes (P := Tryz.prog) _ rfl (.tmp 53) (.tmp 56) 52 rfl (w1.heap.size + 1) 5 u8_info Tryz.underlying52 _ q7.length q7 (balB ac an al) q8 HQ.out.2.2.1 rfl HP8.out u8.heap.size A28 _ c28 rfl rfl HR8.out (by have := HL.out.2.2.1; have := HNN.out.2.1; omega) HSU.out ?_; intro B8 d8 v8 ho hb; have HO8 := hide_ ho; have HB8 := hide_ (HBU.out.trans (hb.mono (by have := HLT.out; omega))); have HS8 := hide_ (Nat.le_trans HSU.out hb.size); have HX8 := hide_ (show BoxAt v8 _ _ _ from (hb.block _ (by have := HLT.out; omega)).trans HXU.out); clear ho hb HBU HSU HXU; have hcx := HX8.out.cell)
        go_wp2_with fail
        refine (HRG1.out _ HB8.out).mono ?_
        rintro en u9 ⟨A29, c29, rfl, ho, hb⟩
        have HP9 := hide_ (own_below HO8.out hb)
        have HR9 := hide_ (Sees.own ho)
        have HBU := hide_ (HB8.out.trans (hb.mono HB8.out.size))
        have HSU := hide_ (Nat.le_trans HS8.out hb.size)
        have HXU := hide_ (HX8.out.below hb)
        clear ho hb hcx
        go_wp2_with (at_builtin; refine wpList_append_bytes (P := Tryz.prog) _ rfl (.tmp 58) (.tmp 61) 52 rfl (w1.heap.size + 1) 5 u8_info Tryz.underlying52 _ q8.length q8 (rb) q9 HQ.out.2.2.2.1 rfl HP9.out u9.heap.size A29 _ c29 rfl rfl HR9.out (by have := HL.out.2.2.2.1; have := HNN.out.2.2.1; omega) HSU.out ?_; intro B9 d9 v9 ho hb; have HO9 := hide_ ho; have HB9 := hide_ (HBU.out.trans (hb.mono (by have := HLT.out; omega))); have HS9 := hide_ (Nat.le_trans HSU.out hb.size); have HX9 := hide_ (show BoxAt v9 _ _ _ from (hb.block _ (by have := HLT.out; omega)).trans HXU.out); clear ho hb HBU HSU HXU; have hcx := HX9.out.cell)
        go_wp2_with fail
        refine (refBalPut_any nc nn nl (balB nc nn nl) _ rfl HI.out.2.2.2.1 HI.out.2.2.2.2.1 HI.out.2.2.2.2.2).mono ?_
        rintro en u10 ⟨A30, c30, rfl, ho, hb⟩
        have HP10 := hide_ (own_below HO9.out hb)
        have HR10 := hide_ (Sees.own ho)
        have HBU := hide_ (HB9.out.trans (hb.mono HB9.out.size))
        have HSU := hide_ (Nat.le_trans HS9.out hb.size)
        have HXU := hide_ (HX9.out.below hb)
        clear ho hb hcx
        go_wp2_with (at_builtin; refine wpList_append_bytes (P := Tryz.prog) _ rfl (.tmp 63) (.tmp 66) 52 rfl (w1.heap.size + 1) 5 u8_info Tryz.underlying52 _ q9.length q9 (balB nc nn nl) q10 HQ.out.2.2.2.2.1 rfl HP10.out u10.heap.size A30 _ c30 rfl rfl HR10.out (by have := HL.out.2.2.2.2.1; have := HNN.out.2.2.2.1; omega) HSU.out ?_; intro B10 d10 v10 ho hb; have HO10 := hide_ ho; have HB10 := hide_ (HBU.out.trans (hb.mono (by have := HLT.out; omega))); have HS10 := hide_ (Nat.le_trans HSU.out hb.size); have HX10 := hide_ (show BoxAt v10 _ _ _ from (hb.block _ (by have := HLT.out; omega)).trans HXU.out); clear ho hb HBU HSU HXU; have hcx := HX10.out.cell)
        go_wp2_with fail
        refine (refNum_any mx (numB mx) _ rfl HI.out.1).mono ?_
        rintro en u11 ⟨A31, c31, rfl, ho, hb⟩
        have HP11 := hide_ (own_below HO10.out hb)
        have HR11 := hide_ (Sees.own ho)
        have HBU := hide_ (HB10.out.trans (hb.mono HB10.out.size))
        have HSU := hide_ (Nat.le_trans HS10.out hb.size)
        have HXU := hide_ (HX10.out.below hb)
        clear ho hb hcx
        go_wp2_with (at_builtin; refine wpList_append_bytes (P := Tryz.prog) _ rfl (.tmp 68) (.tmp 71) 52 rfl (w1.heap.size + 1) 5 u8_info Tryz.underlying52 _ q10.length q10 (numB mx) q11 HQ.out.2.2.2.2.2 rfl HP11.out u11.heap.size A31 _ c31 rfl rfl HR11.out (by have := HL.out.2.2.2.2.2.1; have := HNN.out.2.2.2.2; omega) HSU.out ?_; intro B11 d11 v11 ho hb; have HO11 := hide_ ho; have HB11 := hide_ (HBU.out.trans (hb.mono (by have := HLT.out; omega))); have HS11 := hide_ (Nat.le_trans HSU.out hb.size); have HX11 := hide_ (show BoxAt v11 _ _ _ from (hb.block _ (by have := HLT.out; omega)).trans HXU.out); clear ho hb HBU HSU HXU; have hcx := HX11.out.cell)
        clear hcx
        refine (refMark_any q11 (markB q11) v11.heap.size B11 _ d11 v11 rfl rfl (by have := HL.out.2.2.2.2.2.2; omega) (Sees.own HO11.out) (Nat.le_refl _)).mono ?_
        rintro en vz ⟨Az, cz, rfl, ho, hb⟩
        have HOZ := hide_ (own_mono (base := v11.heap.size) (base' := w.heap.size) ho HB11.out.size)
        have HBZ := hide_ (HB11.out.trans (hb.mono HB11.out.size))
        clear ho hb
        go_wp2
        go_ret2
        obtain rfl := HOUT.out
        exact ⟨Az, cz, rfl, HOZ.out, HBZ.out⟩
end Go.Proofs.YtkgnondlcaklnaaGreat
