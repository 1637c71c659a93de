/-
  scrutineerlaw13.JournalGoes answers true for every input and leaves its input as it was; no condition.
-/
import Derived.Test.YtecbpmnolgkllaaJ51
import Derived.Deep.RegionHeld
namespace Go.Proofs.Ytecbpmnolgkllaa.journalGoes
open Go.ChangeShapes Go.WideShapes Go.ChangeAt Go.RowKit

set_option maxRecDepth 100000 in
set_option maxHeartbeats 6400000 in
theorem walk (n c : Int) (s : Sl ActM) (y : Nat) (hy : y ≤ 255) (w : World) (hs : actsOk w w.heap.size s) :
    Calls Try.prog 3 #[.int .i64 n, .int .i64 c, s.v, .int .u8 (y : Int)] w fun e w' => e = .returned (.bool true) ∧ Below w.heap.size w w' := by
  have HG := hide_ (great13_any n c s w.heap.size w hs)
  have HS := hide_ hs
  obtain ⟨A, cp, l⟩ := s
  simp only [Sl.v] at HG HS ⊢
  obtain ⟨m, hm⟩ : ∃ m, l.length = m := ⟨_, rfl⟩
  rw [hm] at HG ⊢
  have HM := hide_ hm
  clear hs hm
  by_cases hc6 : c < 6
  case pos =>
    go_enter Try.func3, Try.ntmps3
    go_wp2_with fail
    refine HG.out.mono ?_
    rintro e wg ⟨⟨b, rfl, hb⟩, rfl⟩
    have HBB := hide_ hb
    clear hb
    cases b with
    | true =>
      go_wp2_with (go_at_call 7; refine (awake13_any _).mono ?_; rintro e wz ⟨rfl, hbz⟩)
      go_ret
      exact ⟨rfl, hbz⟩
    | false =>
      go_wp2_with (go_at_call 7; refine (awake13_any _).mono ?_; rintro e wz ⟨rfl, hbz⟩)
      go_ret
      exact ⟨rfl, hbz⟩
  go_enter Try.func3, Try.ntmps3
  go_wp2_with fail
  refine HG.out.mono ?_
  rintro e wg ⟨⟨b, rfl, hb⟩, rfl⟩
  have HBB := hide_ hb
  clear hb
  cases b with
  | true =>
    go_wp2_with (go_at_call 7; refine (awake13_any _).mono ?_; rintro e wz ⟨rfl, hbz⟩)
    go_ret
    exact ⟨rfl, hbz⟩
  | false =>
  obtain ⟨⟨h1, h2, h3, h4, h5⟩, h6⟩ := HBB.out rfl
  have HREC := hide_ h6
  rw [HM.out] at h5
  obtain ⟨n, rfl⟩ : ∃ k : Nat, n = k := ⟨n.toNat, by omega⟩
  obtain ⟨c, rfl⟩ : ∃ k : Nat, c = k := ⟨c.toNat, by omega⟩
  clear HBB h6 h3 HG
  have hn1 : 64 ≤ n := by omega
  have hn2 : n ≤ 512 := by omega
  have hcc1 : 6 ≤ c := by omega
  have hcc2 : c ≤ 60 := by omega
  clear h1 h2 h4 hc6
  go_wp2_with fail
  refine (New_good n c _ hn1 hn2 (by omega) (by omega)).mono ?_
  rintro e w1 ⟨Lc, rfl, hd1, hb1, hs1⟩
  have HD1 := hide_ hd1
  have HB1 := hide_ hb1
  have HS1 := hide_ hs1
  clear hd1 hb1 hs1
  obtain ⟨bc, hbc⟩ : ∃ bc, Lc.b = bc := ⟨_, rfl⟩
  rw [hbc]
  have HBC := hide_ hbc
  clear hbc
  go_wp2_with fail
  refine (New_good n c _ hn1 hn2 (by omega) (by omega)).mono ?_
  rintro e w2 ⟨Ld, rfl, hd2, hb2, hs2⟩
  obtain ⟨bd, hbd⟩ : ∃ bd, Ld.b = bd := ⟨_, rfl⟩
  rw [hbd]
  have HBD := hide_ hbd
  have HD2 := hide_ hd2
  have HDC2 := hide_ (HD1.out.below hb2)
  have HB2 := hide_ (HB1.out.trans (hb2.mono HB1.out.size))
  have HAP := hide_ (show (∀ g, Lc.has g → w.heap.size ≤ g ∧ g < w1.heap.size) ∧ ∀ g, Ld.has g → w1.heap.size ≤ g from ⟨fun g hg => ⟨HS1.out g hg, HD1.out.lt hg⟩, hs2⟩)
  have HW12 := hide_ (show w.heap.size ≤ w1.heap.size ∧ w1.heap.size ≤ w2.heap.size from ⟨HB1.out.size, hb2.size⟩)
  have HOP := hide_ (Open_any HDC2.out (Fits13.make (n := n) (c := c) hcc1))
  rw [HBC.out] at HOP
  clear hd2 hb2 hs2 hbd HS1 HD1 HB1
  go_wp2_with fail
  refine HOP.out.mono ?_
  rintro e w3 ⟨jb, A3, c3, vs3, rfl, hj3, hja3, -, -, hb3⟩
  have HJ3 := hide_ hja3
  have HB3 := hide_ hb3
  have HLJ := hide_ hj3
  have HOQ := hide_ (Open_any (HD2.out.below hb3) (Fits13.make (n := n) (c := c) hcc1))
  rw [HBD.out] at HOQ
  clear hj3 hja3 hb3 HOP
  go_wp2_with fail
  refine HOQ.out.mono ?_
  rintro e w4 ⟨kb, A4, c4, vs4, rfl, hj4, hja4, -, -, hb4⟩
  have HP := hide_ (show TwoS w n c bc bd jb kb ⟨0, 0, []⟩ ⟨0, 0, []⟩ w4 from by
    obtain ⟨ha1, ha2⟩ := HAP.out
    obtain ⟨hw1, hw2⟩ := HW12.out
    have hj := HLJ.out
    have hs3 := HB3.out.size
    refine ⟨Lc, Ld, makeD n c, makeD n c, HBC.out, HBD.out, rfl, rfl, rfl, rfl, HJ3.out.below hb4, hja4, fun g e1 e2 => ?_, (HB2.out.trans (HB3.out.mono (by omega))).trans (hb4.mono (by omega)), fun g e => ?_, fun g e => ?_⟩
    · rcases e1 with e1 | e1
      · rcases e2 with e2 | e2
        · have := ha1 g e1
          have := ha2 g e2
          omega
        · have := ha1 g e1
          omega
      · rcases e2 with e2 | e2
        · have := HD2.out.lt e2
          omega
        · have := HJ3.out.lt (.inr rfl)
          omega
    · rcases e with e | e
      · exact (ha1 g e).1
      · omega
    · rcases e with e | e
      · have := ha2 g e
        omega
      · omega)
  clear hj4 hja4 hb4 HAP HW12 HOQ HD2 HDC2 HB2 HJ3 HB3 HLJ HBC HBD
  go_wp2
  go_loopw [16, 18, 19, 20, 21, 22] (fun s16 _ s19 _ _ _ wr => ∃ (k kb : Nat) (S : JS), k ≤ m ∧ s19 = .int .i64 (k : Int) ∧ s16 = .pointer (some ⟨kb, 0, none⟩) ∧ Hid (S.m ≤ k ∧ S.gen ≤ k) ∧ Hid (TwoS w n c bc bd jb kb S S wr)) (fun _ _ s19 _ _ _ _ => m - (intOf s19).toNat)
  case atStart => exact ⟨0, kb, ⟨0, 0, []⟩, Nat.zero_le _, rfl, rfl, hide_ ⟨Nat.le_refl _, Nat.le_refl _⟩, HP⟩
  case round =>
    obtain ⟨k, kb, S, hk, rfl, rfl, HSM, HP⟩ := hrel
    by_cases hlt : k < m
    case neg =>
      have hkm : m = k := by omega
      subst hkm
      have HO1 := hide_ HP.out.open
      have hfit := HP.out.room.1
      obtain ⟨q, hq⟩ : ∃ q, areaN c - S.used n = q := ⟨_, rfl⟩
      have HQ := hide_ hq
      have HLN := hide_ (show S.recs.length ≤ 2047 from by
        obtain ⟨L1, L2, D, E, e1, e2, e3, e4, e5, e6, h⟩ := HP.out
        exact h.j.f.many (by have := h.j.b.d.ok.n1; omega) h.j.b.d.ok.c2)
      obtain ⟨z, hz⟩ : ∃ z, S.recs.length = z := ⟨_, rfl⟩
      rw [hz] at HO1 HLN
      have HZ := hide_ hz
      clear hq hz hfit
      go_wp2_with fail
      refine HO1.out.mono ?_
      rintro e w5 ⟨jb5, A5, b5, o5, c5, rfl, hp5, hq5, hl5, hb5⟩
      have HP5 := hide_ hq5
      have HL5 := hide_ hl5
      have HO2 := hide_ hq5.turn.open
      rw [HZ.out] at HO2
      clear hp5 hq5 hl5 hb5 HO1
      go_wp2_with fail
      refine HO2.out.mono ?_
      rintro e w6 ⟨kb6, A6, b6, o6, c6, rfl, hp6, hq6, hl6, hb6⟩
      have HP6 := hide_ hq6.turn
      have HL56 := hide_ ((HL5.out.below hb6).more hb6.size)
      have HTX := hide_ (texts_any w6 A6 b6 o6 z c6 S.recs HZ.out (by have := HLN.out; omega) hl6)
      clear hp6 hq6 hl6 hb6 HO2 HP5 HL5
      go_wp2_with fail
      refine HTX.out.mono ?_
      rintro e w7 ⟨A7, c7, rfl, ho7, hb7⟩
      have HP7 := hide_ (HP6.out.below hb7)
      have HSA := hide_ (refSame13_any w7 A5 A7 b5 o5 z c5 c7 S.recs HZ.out (by have := HLN.out; omega) ((HL56.out.below hb7).more hb7.size) (Sees.own ho7))
      clear ho7 hb7 HTX HL56 HP6
      go_wp2_with fail
      refine HSA.out.mono ?_
      rintro e w8 ⟨rfl, hb8⟩
      have HP8 := hide_ (HP7.out.below hb8)
      have HR1 := hide_ (HP8.out.room.2)
      rw [HQ.out] at HR1
      clear hb8 HSA HP7
      go_wp2_with fail
      refine HR1.out.mono ?_
      rintro e w9 ⟨rfl, hb9⟩
      have HP9 := hide_ (HP8.out.below hb9)
      have HR2 := hide_ (HP9.out.turn.room.2)
      rw [HQ.out] at HR2
      clear hb9 HR1 HP8
      go_wp2_with fail
      refine HR2.out.mono ?_
      rintro e w10 ⟨rfl, hb10⟩
      have HP10 := hide_ (HP9.out.below hb10)
      have HBX := hide_ HP10.out.b
      clear hb10 HR2 HP9
      go_wp2_with (go_at_call 7; refine (awake13_any _).mono ?_; rintro e wz ⟨rfl, hbz⟩)
      go_ret
      exact ⟨rfl, HBX.out.trans (hbz.mono HBX.out.size)⟩
    obtain ⟨x, hx⟩ : ∃ x, l[k]? = some x := ⟨_, List.getElem?_eq_getElem (by rw [HM.out]; exact hlt)⟩
    have hmem := List.mem_of_getElem? hx
    obtain ⟨b, off, rfl, hb, q0, q1⟩ := HS.out.2.2.1.act hx
    have hrok := HS.out.2.2.2 x hmem
    obtain ⟨hr10, hr2100⟩ := HREC.out x hmem
    clear hx hmem
    obtain ⟨co, ra, rc, rl⟩ := x
    simp only at q0 q1 hr10 hr2100
    obtain ⟨z, hz⟩ : ∃ z, rl.length = z := ⟨_, rfl⟩
    rw [hz] at q1 hr10
    have HZ := hide_ hz
    have HR := hide_ (show rowsOk w w.heap.size ⟨ra, rc, rl⟩ from hrok)
    have H21 := hide_ hr2100
    have HXX := hide_ (show ∀ v, Below w.heap.size w v → v.cell? ⟨b, off + k * 2, none⟩ = some (.bool co) ∧ v.cell? ⟨b, off + k * 2 + 1, none⟩ = some (.slice ra z rc) ∧ b < v.heap.size from fun v hv => ⟨(hv.cell (p := ⟨b, off + k * 2, none⟩) hb).trans q0, (hv.cell (p := ⟨b, off + k * 2 + 1, none⟩) hb).trans q1, Nat.lt_of_lt_of_le hb hv.size⟩)
    have hmod : (wrap64 (y : Int)).tmod (m : Int) = ((y % m : Nat) : Int) := by rw [show wrap64 (y : Int) = (y : Int) from by unfold wrap64; omega, Int.tmod_eq_emod_of_nonneg (by omega)]; rfl
    obtain ⟨ym, hym⟩ : ∃ x, y % m = x := ⟨_, rfl⟩
    have hmod2 : (y : Int) % (m : Int) = ((ym : Nat) : Int) := by rw [← hym]; rfl
    rw [hym] at hmod
    have hm0 : ((m : Int) == 0) = false := by rw [beq_eq_false_iff_ne]; omega
    clear hz hrok hr2100 q0 q1 hym hb
    by_cases hat : k = ym
    case pos =>
      subst hat
      have HO := hide_ HP.out.turn.open
      go_upto_region 16 with (go_at_call 9; refine HO.out.mono ?_; rintro e W5 ⟨kb5, A5, b5, o5, c5, rfl, hp5, -, -, -⟩; (have HP5 := hide_ hp5.turn); clear hp5)
      clear HO HP
      obtain ⟨p0, p1, hbz⟩ := HXX.out W5 HP5.out.b
      have hmS := HSM.out
      cases co with
      | true =>
        obtain ⟨rb, ro, hlr⟩ := HR.out.recs
        have HLR := hide_ (show ∀ v, Below w.heap.size w v → LRecs v v.heap.size ra rb ro (rowsL rl) from fun v hv => (hlr.below hv).more hv.size)
        have HC1 := hide_ ((HP5.out.below (Below.refl _ _).drew).compact (cp := rc) (by omega) (by omega) (show (rowsL rl).length = z from by rw [rowsL_len, HZ.out]) (by omega) (HLR.out _ (HP5.out.below (Below.refl _ _).drew).b))
        obtain ⟨q, hq⟩ : ∃ q, compE S n c (rowsL rl) = q := ⟨_, rfl⟩
        rw [hq] at HC1
        have HQ := hide_ hq
        clear hlr hq
        go_upto_region 17 with fail
        go_region_held (fun u => u.cell? ⟨b, off + k * 2 + 1, none⟩ = some (.slice ra z rc))
          (first | exact p1 | exact s1 | exact t1)
          (first | (go_simp; go_at_call_of 10 jb; with_reducible refine HC1.out.mono ?_; rintro en w6 ⟨rfl, hp6⟩; (have s1 := (HXX.out _ hp6.b).2.1); (have HC2 := hide_ (hp6.turn.compact (cp := rc) (by omega) (by omega) (show (rowsL rl).length = z from by rw [rowsL_len, HZ.out]) (by omega) (HLR.out _ hp6.b))); (rw [HQ.out] at HC2); clear hp6) | (go_simp; go_at_call 10; with_reducible refine HC2.out.mono ?_; rintro en w7 ⟨rfl, hp7⟩; (have t1 := (HXX.out _ hp7.b).2.1); (have HP7 := hide_ hp7.turn); clear hp7))
        go_wp2
        go_roundw
        case rel =>
          have hsm := compS_small S n c (rowsL rl)
          exact ⟨k + 1, _, _, by omega, by go_num, rfl, hide_ ⟨by omega, by omega⟩, HP7⟩
        case measure => simp [intOf]; omega
      | false =>
        by_cases hz0 : z = 0
        case pos =>
          subst hz0
          go_wp2
          go_roundw
          case rel => exact ⟨k + 1, _, S, by omega, by go_num, rfl, hide_ ⟨by omega, by omega⟩, HP5⟩
          case measure => simp [intOf]; omega
        have hzp : 0 < z := by omega
        have hzb : ((z : Int) == 0) = false := by rw [beq_eq_false_iff_ne]; omega
        clear hz0
        obtain ⟨r, hr⟩ : ∃ r, rl[0]? = some r := ⟨_, List.getElem?_eq_getElem (by rw [HZ.out]; omega)⟩
        have hrs := HR.out.2.2.1
        rw [br_flat] at hrs
        obtain ⟨b2, o2, rfl, hb2, hc2⟩ := hrs.flat (by rw [List.length_map, HZ.out]; omega)
        have hx2 := hc2 0 _ (by rw [List.getElem?_map, hr]; rfl)
        have hbs := HR.out.2.2.2 r (List.mem_of_getElem? hr)
        clear hr hrs hc2
        obtain ⟨sa, sc, sl⟩ := r
        simp only [Sl.v, Nat.add_zero] at hx2
        have HSE := hide_ (show ∀ v, Below w.heap.size w v → Sees v v.heap.size sa (bv sl) from fun v hv => (hbs.1.below hv).more hv.size)
        obtain ⟨y1, hy1⟩ : ∃ x, sl.length = x := ⟨_, rfl⟩
        rw [hy1] at hx2
        have HY := hide_ hy1
        have HX2 := hide_ (show ∀ v, Below w.heap.size w v → v.cell? ⟨b2, o2, none⟩ = some (.slice sa y1 sc) ∧ b2 < v.heap.size from fun v hv => ⟨(hv.cell (p := ⟨b2, o2, none⟩) hb2).trans hx2, Nat.lt_of_lt_of_le hb2 hv.size⟩)
        obtain ⟨d1, hbz2⟩ := HX2.out W5 HP5.out.b
        have HPD := hide_ (HP5.out.below (Below.refl _ _).drew)
        have HRM := hide_ HPD.out.room.2
        have hfit := HPD.out.room.1
        obtain ⟨hrm0, hrm1⟩ := appS_room S n c sl
        have hsm := appS_small S n c sl
        obtain ⟨S2, hS2⟩ : ∃ x, appS S n c sl = x := ⟨_, rfl⟩
        obtain ⟨q, hq⟩ : ∃ x, appE S n c sl = x := ⟨_, rfl⟩
        obtain ⟨tk, htk⟩ : ∃ x, takeN13 S n sl = x := ⟨_, rfl⟩
        obtain ⟨ar, har⟩ : ∃ x, areaN c = x := ⟨_, rfl⟩
        obtain ⟨u1, hu1⟩ : ∃ x, S.used n = x := ⟨_, rfl⟩
        obtain ⟨u2, hu2⟩ : ∃ x, S2.used n = x := ⟨_, rfl⟩
        rw [hS2] at hrm0 hrm1 hsm
        rw [hq] at hrm0 hrm1
        rw [htk, har, hu2, hu1] at hrm0
        rw [har, hu1] at hfit HRM
        have hq1 : q ≠ 0 → u2 = u1 := fun e => by rw [← hu2, hrm1 e, hu1]
        have HRW := hide_ hrm0
        have HRX := hide_ hq1
        have HSM2 := hide_ (show S2.m ≤ k + 1 ∧ S2.gen ≤ k + 1 from by omega)
        have HE1 := hide_ hS2
        have HE2 := hide_ hq
        have HE3 := hide_ htk
        have HE4 := hide_ har
        have HE6 := hide_ hu2
        have har9 : ar ≤ 100 := by rw [← har]; unfold areaN; omega
        clear hy1 hx2 hb2 hbs hsm hrm0 hrm1 hq1 hS2 hq htk har hu1 hu2
        go_upto_region 20 with fail
        go_region_held (fun u => u.cell? ⟨b, off + k * 2 + 1, none⟩ = some (.slice (some ⟨b2, o2, none⟩) z rc) ∧ u.cell? ⟨b2, o2, none⟩ = some (.slice sa y1 sc))
          (first | exact ⟨p1, d1⟩ | exact ⟨s1, s2⟩ | exact ⟨t1, t2⟩)
          (first | (go_simp; go_at_call 11; with_reducible refine HRM.out.mono ?_; rintro en w6 ⟨rfl, hb6⟩; (have HP6 := hide_ (HPD.out.below hb6)); (have s1 := (HXX.out _ HP6.out.b).2.1); (have s2 := (HX2.out _ HP6.out.b).1); (have HTK := hide_ (HP6.out.takes (cp := sc) HY.out (HSE.out _ HP6.out.b))); (rw [HE3.out] at HTK); clear hb6) | (go_simp; go_at_call 12; with_reducible refine HTK.out.mono ?_; rintro en w7 ⟨rfl, hb7⟩; (have HP7 := hide_ (HP6.out.below hb7)); (have t1 := (HXX.out _ HP7.out.b).2.1); (have t2 := (HX2.out _ HP7.out.b).1); clear hb7))
        have hb7z := (HXX.out _ HP7.out.b).2.2
        have hb7y := (HX2.out _ HP7.out.b).2
        have HA1 := hide_ (HP7.out.append (cp := sc) (by omega) HY.out (HSE.out _ HP7.out.b))
        rw [HE1.out, HE2.out] at HA1
        clear p1 d1 s1 s2 HPD HRM HTK HP6
        go_wp2_with fail
        refine HA1.out.mono ?_
        rintro en w8 ⟨rfl, hp8⟩
        have HP8 := hide_ hp8
        obtain ⟨_, r1, r1z⟩ := HXX.out _ HP8.out.b
        obtain ⟨r2, r2z⟩ := HX2.out _ HP8.out.b
        have HA2 := hide_ (HP8.out.turn.append (cp := sc) (by omega) HY.out (HSE.out _ HP8.out.b))
        rw [HE1.out, HE2.out] at HA2
        clear t1 t2 hb7z hb7y hp8 HA1 HP7
        go_wp2_with fail
        refine HA2.out.mono ?_
        rintro en w9 ⟨rfl, hp9⟩
        have HP9 := hide_ hp9.turn
        have HR9 := hide_ HP9.out.room.2
        rw [HE4.out, HE6.out] at HR9
        clear hp9 HA2 HP8 r1 r2 r1z r2z
        by_cases hq0 : q = 0
        case pos =>
          obtain ⟨f1, f2⟩ := HRW.out hq0
          subst hq0
          have hsub : ((ar - u1 : Nat) : Int) - (tk : Int) = ((ar - u2 : Nat) : Int) := by omega
          obtain ⟨x1, hx1⟩ : ∃ x, ar - u1 = x := ⟨_, rfl⟩
          obtain ⟨x2, hx2⟩ : ∃ x, ar - u2 = x := ⟨_, rfl⟩
          rw [hx1, hx2] at hsub
          have hx29 : x2 ≤ 100 := by omega
          have hx19 : x1 ≤ 100 := by omega
          rw [hx2] at HR9
          rw [hx1]
          clear hx1 hx2 f1 f2
          go_wp2_with fail
          refine HR9.out.mono ?_
          rintro en w10 ⟨rfl, hb10⟩
          have HP10 := hide_ (HP9.out.below hb10)
          clear hb10 HR9 HP9
          go_wp2
          go_roundw
          case rel => exact ⟨k + 1, _, S2, by omega, by go_num, rfl, HSM2, HP10⟩
          case measure => simp [intOf]; omega
        have hd0 : ((q : Int) == 0) = false := by rw [beq_eq_false_iff_ne]; omega
        have hd1 : ((q : Int) != 0) = true := by rw [bne, hd0]; rfl
        have hd2 : (q == 0) = false := by rw [beq_eq_false_iff_ne]; omega
        have hd3 : (q != 0) = true := by rw [bne, hd2]; rfl
        have hu12 := HRX.out hq0
        subst hu12
        obtain ⟨x1, hx1⟩ : ∃ x, ar - u2 = x := ⟨_, rfl⟩
        rw [hx1] at HR9
        rw [hx1]
        clear hx1 hq0
        go_wp2_with fail
        refine HR9.out.mono ?_
        rintro en w10 ⟨rfl, hb10⟩
        have HP10 := hide_ (HP9.out.below hb10)
        clear hb10 HR9 HP9
        go_wp2
        go_roundw
        case rel => exact ⟨k + 1, _, S2, by omega, by go_num, rfl, HSM2, HP10⟩
        case measure => simp [intOf]; omega
    have hne : ((k : Int) == (ym : Int)) = false := by rw [beq_eq_false_iff_ne]; omega
    have hne2 : (k == ym) = false := by rw [beq_eq_false_iff_ne]; omega
    go_upto_region 16 with fail
    obtain ⟨W5, hW5⟩ : ∃ W5, W5 = wr := ⟨_, rfl⟩
    subst hW5
    have HP5 := hide_ HP.out
    clear HP
    obtain ⟨p0, p1, hbz⟩ := HXX.out W5 HP5.out.b
    have hmS := HSM.out
    cases co with
    | true =>
      obtain ⟨rb, ro, hlr⟩ := HR.out.recs
      have HLR := hide_ (show ∀ v, Below w.heap.size w v → LRecs v v.heap.size ra rb ro (rowsL rl) from fun v hv => (hlr.below hv).more hv.size)
      have HC1 := hide_ ((HP5.out.below (Below.refl _ _).drew).compact (cp := rc) (by omega) (by omega) (show (rowsL rl).length = z from by rw [rowsL_len, HZ.out]) (by omega) (HLR.out _ (HP5.out.below (Below.refl _ _).drew).b))
      obtain ⟨q, hq⟩ : ∃ q, compE S n c (rowsL rl) = q := ⟨_, rfl⟩
      rw [hq] at HC1
      have HQ := hide_ hq
      clear hlr hq
      go_upto_region 17 with fail
      go_region_held (fun u => u.cell? ⟨b, off + k * 2 + 1, none⟩ = some (.slice ra z rc))
        (first | exact p1 | exact s1 | exact t1)
        (first | (go_simp; go_at_call_of 10 jb; with_reducible refine HC1.out.mono ?_; rintro en w6 ⟨rfl, hp6⟩; (have s1 := (HXX.out _ hp6.b).2.1); (have HC2 := hide_ (hp6.turn.compact (cp := rc) (by omega) (by omega) (show (rowsL rl).length = z from by rw [rowsL_len, HZ.out]) (by omega) (HLR.out _ hp6.b))); (rw [HQ.out] at HC2); clear hp6) | (go_simp; go_at_call 10; with_reducible refine HC2.out.mono ?_; rintro en w7 ⟨rfl, hp7⟩; (have t1 := (HXX.out _ hp7.b).2.1); (have HP7 := hide_ hp7.turn); clear hp7))
      go_wp2
      go_roundw
      case rel =>
        have hsm := compS_small S n c (rowsL rl)
        exact ⟨k + 1, _, _, by omega, by go_num, rfl, hide_ ⟨by omega, by omega⟩, HP7⟩
      case measure => simp [intOf]; omega
    | false =>
      by_cases hz0 : z = 0
      case pos =>
        subst hz0
        go_wp2
        go_roundw
        case rel => exact ⟨k + 1, _, S, by omega, by go_num, rfl, hide_ ⟨by omega, by omega⟩, HP5⟩
        case measure => simp [intOf]; omega
      have hzp : 0 < z := by omega
      have hzb : ((z : Int) == 0) = false := by rw [beq_eq_false_iff_ne]; omega
      clear hz0
      obtain ⟨r, hr⟩ : ∃ r, rl[0]? = some r := ⟨_, List.getElem?_eq_getElem (by rw [HZ.out]; omega)⟩
      have hrs := HR.out.2.2.1
      rw [br_flat] at hrs
      obtain ⟨b2, o2, rfl, hb2, hc2⟩ := hrs.flat (by rw [List.length_map, HZ.out]; omega)
      have hx2 := hc2 0 _ (by rw [List.getElem?_map, hr]; rfl)
      have hbs := HR.out.2.2.2 r (List.mem_of_getElem? hr)
      clear hr hrs hc2
      obtain ⟨sa, sc, sl⟩ := r
      simp only [Sl.v, Nat.add_zero] at hx2
      have HSE := hide_ (show ∀ v, Below w.heap.size w v → Sees v v.heap.size sa (bv sl) from fun v hv => (hbs.1.below hv).more hv.size)
      obtain ⟨y1, hy1⟩ : ∃ x, sl.length = x := ⟨_, rfl⟩
      rw [hy1] at hx2
      have HY := hide_ hy1
      have HX2 := hide_ (show ∀ v, Below w.heap.size w v → v.cell? ⟨b2, o2, none⟩ = some (.slice sa y1 sc) ∧ b2 < v.heap.size from fun v hv => ⟨(hv.cell (p := ⟨b2, o2, none⟩) hb2).trans hx2, Nat.lt_of_lt_of_le hb2 hv.size⟩)
      obtain ⟨d1, hbz2⟩ := HX2.out W5 HP5.out.b
      have HPD := hide_ (HP5.out.below (Below.refl _ _).drew)
      have HRM := hide_ HPD.out.room.2
      have hfit := HPD.out.room.1
      obtain ⟨hrm0, hrm1⟩ := appS_room S n c sl
      have hsm := appS_small S n c sl
      obtain ⟨S2, hS2⟩ : ∃ x, appS S n c sl = x := ⟨_, rfl⟩
      obtain ⟨q, hq⟩ : ∃ x, appE S n c sl = x := ⟨_, rfl⟩
      obtain ⟨tk, htk⟩ : ∃ x, takeN13 S n sl = x := ⟨_, rfl⟩
      obtain ⟨ar, har⟩ : ∃ x, areaN c = x := ⟨_, rfl⟩
      obtain ⟨u1, hu1⟩ : ∃ x, S.used n = x := ⟨_, rfl⟩
      obtain ⟨u2, hu2⟩ : ∃ x, S2.used n = x := ⟨_, rfl⟩
      rw [hS2] at hrm0 hrm1 hsm
      rw [hq] at hrm0 hrm1
      rw [htk, har, hu2, hu1] at hrm0
      rw [har, hu1] at hfit HRM
      have hq1 : q ≠ 0 → u2 = u1 := fun e => by rw [← hu2, hrm1 e, hu1]
      have HRW := hide_ hrm0
      have HRX := hide_ hq1
      have HSM2 := hide_ (show S2.m ≤ k + 1 ∧ S2.gen ≤ k + 1 from by omega)
      have HE1 := hide_ hS2
      have HE2 := hide_ hq
      have HE3 := hide_ htk
      have HE4 := hide_ har
      have HE6 := hide_ hu2
      have har9 : ar ≤ 100 := by rw [← har]; unfold areaN; omega
      clear hy1 hx2 hb2 hbs hsm hrm0 hrm1 hq1 hS2 hq htk har hu1 hu2
      go_upto_region 20 with fail
      go_region_held (fun u => u.cell? ⟨b, off + k * 2 + 1, none⟩ = some (.slice (some ⟨b2, o2, none⟩) z rc) ∧ u.cell? ⟨b2, o2, none⟩ = some (.slice sa y1 sc))
        (first | exact ⟨p1, d1⟩ | exact ⟨s1, s2⟩ | exact ⟨t1, t2⟩)
        (first | (go_simp; go_at_call 11; with_reducible refine HRM.out.mono ?_; rintro en w6 ⟨rfl, hb6⟩; (have HP6 := hide_ (HPD.out.below hb6)); (have s1 := (HXX.out _ HP6.out.b).2.1); (have s2 := (HX2.out _ HP6.out.b).1); (have HTK := hide_ (HP6.out.takes (cp := sc) HY.out (HSE.out _ HP6.out.b))); (rw [HE3.out] at HTK); clear hb6) | (go_simp; go_at_call 12; with_reducible refine HTK.out.mono ?_; rintro en w7 ⟨rfl, hb7⟩; (have HP7 := hide_ (HP6.out.below hb7)); (have t1 := (HXX.out _ HP7.out.b).2.1); (have t2 := (HX2.out _ HP7.out.b).1); clear hb7))
      have hb7z := (HXX.out _ HP7.out.b).2.2
      have hb7y := (HX2.out _ HP7.out.b).2
      have HA1 := hide_ (HP7.out.append (cp := sc) (by omega) HY.out (HSE.out _ HP7.out.b))
      rw [HE1.out, HE2.out] at HA1
      clear p1 d1 s1 s2 HPD HRM HTK HP6
      go_wp2_with fail
      refine HA1.out.mono ?_
      rintro en w8 ⟨rfl, hp8⟩
      have HP8 := hide_ hp8
      obtain ⟨_, r1, r1z⟩ := HXX.out _ HP8.out.b
      obtain ⟨r2, r2z⟩ := HX2.out _ HP8.out.b
      have HA2 := hide_ (HP8.out.turn.append (cp := sc) (by omega) HY.out (HSE.out _ HP8.out.b))
      rw [HE1.out, HE2.out] at HA2
      clear t1 t2 hb7z hb7y hp8 HA1 HP7
      go_wp2_with fail
      refine HA2.out.mono ?_
      rintro en w9 ⟨rfl, hp9⟩
      have HP9 := hide_ hp9.turn
      have HR9 := hide_ HP9.out.room.2
      rw [HE4.out, HE6.out] at HR9
      clear hp9 HA2 HP8 r1 r2 r1z r2z
      by_cases hq0 : q = 0
      case pos =>
        obtain ⟨f1, f2⟩ := HRW.out hq0
        subst hq0
        have hsub : ((ar - u1 : Nat) : Int) - (tk : Int) = ((ar - u2 : Nat) : Int) := by omega
        obtain ⟨x1, hx1⟩ : ∃ x, ar - u1 = x := ⟨_, rfl⟩
        obtain ⟨x2, hx2⟩ : ∃ x, ar - u2 = x := ⟨_, rfl⟩
        rw [hx1, hx2] at hsub
        have hx29 : x2 ≤ 100 := by omega
        have hx19 : x1 ≤ 100 := by omega
        rw [hx2] at HR9
        rw [hx1]
        clear hx1 hx2 f1 f2
        go_wp2_with fail
        refine HR9.out.mono ?_
        rintro en w10 ⟨rfl, hb10⟩
        have HP10 := hide_ (HP9.out.below hb10)
        clear hb10 HR9 HP9
        go_wp2
        go_roundw
        case rel => exact ⟨k + 1, _, S2, by omega, by go_num, rfl, HSM2, HP10⟩
        case measure => simp [intOf]; omega
      have hd0 : ((q : Int) == 0) = false := by rw [beq_eq_false_iff_ne]; omega
      have hd1 : ((q : Int) != 0) = true := by rw [bne, hd0]; rfl
      have hd2 : (q == 0) = false := by rw [beq_eq_false_iff_ne]; omega
      have hd3 : (q != 0) = true := by rw [bne, hd2]; rfl
      have hu12 := HRX.out hq0
      subst hu12
      obtain ⟨x1, hx1⟩ : ∃ x, ar - u2 = x := ⟨_, rfl⟩
      rw [hx1] at HR9
      rw [hx1]
      clear hx1 hq0
      go_wp2_with fail
      refine HR9.out.mono ?_
      rintro en w10 ⟨rfl, hb10⟩
      have HP10 := hide_ (HP9.out.below hb10)
      clear hb10 HR9 HP9
      go_wp2
      go_roundw
      case rel => exact ⟨k + 1, _, S2, by omega, by go_num, rfl, HSM2, HP10⟩
      case measure => simp [intOf]; omega

theorem own : ownKnob Try.prog.godebug = none := by kernel_rfl
theorem laid : laidOutB Try.prog = true := by kernel_rfl

set_option maxRecDepth 100000 in
theorem contract (H : Type) (enc : TypeId × Value → H) (W : World) (base : Nat) (args : Array Value) (ds gs : List (DataW H)) (before : List MemPlace)
    (hval : ∀ (j : Nat) t v, Try.f3.params[j]? = some t → args[j]? = some v → Value.okWide Try.prog W .any base t v)
    (hW : DataW.Whole enc Try.prog Try.f3.params.toList Rows.journalGoesSpec.vars false W args.toList ds gs before) :
    Calls Try.prog 3 args W fun e W' => ∃ v, e = .returned v ∧ Rows.journalGoesSpec.post enc Try.prog Try.f3 false true false false W args v W' := by
  have hW' := hW
  obtain ⟨p, q, hA0, hV, rfl, hfz, hnd⟩ := hW
  have hA : DataW.TrodAll enc Try.prog W 0 (fun _ => true) true Try.f3.params.toList args.toList ds p := hA0
  rw [Try.params3] at hA hval
  obtain ⟨v0, vs0, d0, ds0, p0, q0, hargs, rfl, rfl, h0, r0⟩ := trodAll_cons hA
  obtain ⟨v1, vs1, d1, ds1, p1, q1, rfl, rfl, rfl, h1, r1⟩ := trodAll_cons r0
  obtain ⟨v2, vs2, d2, ds2, p2, q2, rfl, rfl, rfl, h2, r2⟩ := trodAll_cons r1
  obtain ⟨v3, vs3, d3, ds3, p3, q3, rfl, rfl, rfl, h3, r3⟩ := trodAll_cons r2
  obtain ⟨rfl, rfl, rfl⟩ := trodAll_nil r3
  obtain rfl : args = #[v0, v1, v2, v3] := by cases args; simp_all
  obtain ⟨rfl, rfl⟩ := trodVars_none hV
  obtain ⟨a0, rfl, rfl, rfl, w0⟩ := open_int Try.underlying3 (hval 0 3 v0 rfl rfl) h0
  have b0 : -9223372036854775808 ≤ a0 ∧ a0 ≤ 9223372036854775807 := by simpa [Lit.wf, IntKind.min, IntKind.max, IntKind.signed, IntKind.bits] using w0
  obtain ⟨a1, rfl, rfl, rfl, w1⟩ := open_int Try.underlying3 (hval 1 3 v1 rfl rfl) h1
  have b1 : -9223372036854775808 ≤ a1 ∧ a1 ≤ 9223372036854775807 := by simpa [Lit.wf, IntKind.min, IntKind.max, IntKind.signed, IntKind.bits] using w1
  obtain ⟨u2, rfl, bu2⟩ := open_acts (hval 2 22 v2 rfl rfl) h2
  obtain ⟨a3, rfl, rfl, rfl, w3⟩ := open_int Try.underlying5 (hval 3 5 v3 rfl rfl) h3
  have b3 : 0 ≤ a3 ∧ a3 ≤ 255 := by simpa [Lit.wf, IntKind.min, IntKind.max, IntKind.signed, IntKind.bits] using w3
  have fin : ∀ (e : Ending) (W' : World), e = .returned (.bool true) ∧ Below W.heap.size W W' → ∃ v, e = .returned v ∧ Rows.journalGoesSpec.post enc Try.prog Try.f3 false true false false W #[.int .i64 a0, .int .i64 a1, Sl.v u2, .int .u8 a3] v W' :=
    fun e W' ⟨he, hb⟩ => ⟨_, he, law_post laid (by kernel_rfl) rfl rfl rfl Try.underlying4 hW' hb⟩
  obtain ⟨y, rfl⟩ : ∃ y : Nat, a3 = y := ⟨a3.toNat, by omega⟩
  exact (walk a0 a1 u2 y (by omega) W bu2).mono fin

set_option maxRecDepth 100000 in
theorem lifted (os : Os) (started : os.Started) (H : Type) (enc : TypeId × Value → H) :
    ReturnsInHanded {} Try.checked os 3 .any (Rows.journalGoesSpec.pre6 enc Try.prog Try.f3 Rows.journalGoesRow.domain false) (Rows.journalGoesSpec.post enc Try.prog Try.f3 false true false false) := by
  refine returnsInHanded_of_change (C := Try.checked) (s := Rows.journalGoesSpec) own started (by kernel_rfl) Try.func3
    (ChangeSpec.witness6 (enc := enc) (C := Try.checked) false ⟨#[], #[.int .i64 0, .int .i64 0, .slice none 0 0, .int .u8 0], []⟩ 8 (by kernel_rfl) (by kernel_rfl) (by kernel_rfl) (by kernel_rfl)) ?_
  intro W base args ds gs before hval hW _ _
  exact contract H enc W base args ds gs before hval hW

theorem proved : Rows.JournalGoesSaid :=
  OpenClaim.holds_of_wide 3 Try.f3 rfl rfl rfl rfl rfl rfl rfl ⟨rfl, rfl, rfl, rfl, rfl⟩ rfl rfl rfl rfl rfl (by kernel_rfl) Try.func3 (by kernel_rfl)
    (of_decide_eq_true (by kernel_rfl)) (by unfold Func.isWrapper; first | (rw [if_pos (by decide +kernel)]; kernel_rfl) | (rw [if_neg (by decide +kernel)]; exact ⟨rfl, rfl⟩))
    (fun os started H enc _ => lifted os started H enc)

end Go.Proofs.Ytecbpmnolgkllaa.journalGoes
