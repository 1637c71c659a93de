/-
  Texts of this claim put together: Jn19.
-/
import Derived.Test.YtecbpmnolgkllaaJ48
import Derived.Test.YtecbpmnolgkllaaJ19
/-
  Contract of the journal's Compact: what fits, and what does not.
-/
namespace Go.Proofs.Ytecbpmnolgkllaa
open Go.RowKit

set_option maxRecDepth 100000 in
set_option maxHeartbeats 4000000 in
theorem Compact_any {w : World} {L : Lay} {D : Dk} {jb u b o n c : Nat} {A : Option Addr} {S : JS} {l : List (List UInt8)} (h : JBox w L D jb (2 * S.m) S.gen S.recs.length u) (hf : Fits13 D S) (hm1 : S.m + 1 ≤ 1000) (hg1 : S.gen + 1 ≤ 1000) (hn : l.length = n) (hn9 : n ≤ 1000) (hl : LRecs w w.heap.size A b o l) (hlong : longI l = false) :
    Calls Try.prog 10 #[.pointer (some ⟨jb, 0, none⟩), .slice A n c] w fun e w' =>
      (areaN D.c < usedN (S.gen + 1) D.n 1 l ∧ e = .returned (.int .i64 7) ∧ Below w.heap.size w w') ∨ (usedN (S.gen + 1) D.n 1 l ≤ areaN D.c ∧ e = .returned (.int .i64 0) ∧ JTurn w L D jb ⟨S.m + 1, S.gen + 1, l⟩ w') := by
  have HA := hide_ (jAnswers_any h)
  have HC := hide_ (contains_any w w.heap.size A b o n c l hn (by omega) hl)
  rw [hlong] at HC
  obtain ⟨c0, c1', c2, c3, c4, _⟩ := h.cells
  have f9 := h.x.free9
  have H := hide_ h
  have HF := hide_ hf
  have HL := hide_ hl
  have HN := hide_ hn
  have HLO := hide_ hlong
  obtain ⟨t0, ht0⟩ : ∃ x, 2 * S.m = x := ⟨_, rfl⟩
  obtain ⟨g1, hg1e⟩ : ∃ x, S.gen + 1 = x := ⟨_, rfl⟩
  have hw1 : IntKind.u64.wrap ((S.gen : Int) + 1) = (g1 : Int) := by rw [wrap_u64_13]; omega
  have hw2 : IntKind.u64.wrap (n : Int) = (n : Int) := by rw [wrap_u64_13]; omega
  rw [ht0] at c1'
  have HT0 := hide_ ht0
  have HG1 := hide_ hg1e
  clear h hf hn hl hlong ht0 hg1e
  go_enter Try.func10, Try.ntmps10
  go_upto_region 6 with (first | (go_at_call 27; refine HA.out.mono ?_; rintro _ _ ⟨rfl, rfl⟩) | (go_at_call 28; refine HC.out.mono ?_; rintro _ _ ⟨rfl, rfl⟩))
  have hbz : Below w.heap.size w (w.alloc (.cells #[.int .u64 0, .int .u64 0, .int .u64 0] 75)) := (Below.refl _ _).alloc (Nat.le_refl _) _
  obtain ⟨_, z1, z2, _, _, _⟩ := (H.out.below hbz).cells
  rw [HT0.out] at z1
  clear hbz
  go_region
  go_upto_region 7 with fail
  obtain ⟨W1, hW1⟩ : ∃ v, (w.alloc (.cells #[.int .u64 (t0 : Int), .int .u64 (g1 : Int), .int .u64 (n : Int)] 75)).drew = v := ⟨_, rfl⟩
  rw [hW1]
  have hb1 : Below w.heap.size w W1 := hW1 ▸ ((Below.refl _ _).alloc (Nat.le_refl _) _).drew
  have x1 : BoxAt W1 w.heap.size #[.int .u64 (t0 : Int), .int .u64 (g1 : Int), .int .u64 (n : Int)] 75 := hW1 ▸ BoxAt.new w _ _
  have HS1 := hide_ x1.lt
  have HB1 := hide_ hb1
  obtain ⟨lb, hlb⟩ : ∃ x, L.b = x := ⟨_, rfl⟩
  obtain ⟨s0, hs0⟩ : ∃ x, w.heap.size = x := ⟨_, rfl⟩
  rw [hs0] at x1 ⊢
  have HX := hide_ (show ∀ v, Below W1.heap.size W1 v → v.cell? ⟨s0, 0, none⟩ = some (.int .u64 (t0 : Int)) ∧ v.cell? ⟨s0, 1, none⟩ = some (.int .u64 (g1 : Int)) ∧ v.cell? ⟨s0, 2, none⟩ = some (.int .u64 (n : Int)) ∧ v.cell? ⟨jb, 0, none⟩ = some (.pointer (some ⟨lb, 0, none⟩)) from fun v hv => by
    have h2 := (x1.below hv).cell
    have h3 := (H.out.below (HB1.out.trans (hv.mono HB1.out.size))).cells.1
    rw [hlb] at h3
    exact ⟨h2 0, h2 1, h2 2, h3⟩)
  have HJ := hide_ (show ∀ v, Below W1.heap.size W1 v → JBox v L D jb (2 * S.m) S.gen S.recs.length u from fun v hv => H.out.below (HB1.out.trans (hv.mono HB1.out.size)))
  have HZ := hide_ (show ∀ v, Below W1.heap.size W1 v → Calls Try.prog 31 #[.pointer (some ⟨lb, 0, none⟩)] v fun e w' => e = .returned (.int .i64 (D.n : Int)) ∧ v = w' from fun v hv => by
    have := Size_any (HJ.out v hv).d
    rwa [hlb] at this)
  clear c0 c1' c2 c3 c4 f9 z1 z2 hW1 hb1 x1 hlb hs0 HA HC
  go_upto_region 9 with fail
  go_loopw [7, 8, 9, 34] (fun s7 _ _ s34 wr => ∃ (i z c1 : Nat) (A1 : Option Addr) (F : List UInt8), i ≤ n ∧ s34 = .int .i64 (i : Int) ∧ s7 = .slice A1 z c1 ∧ Hid (F = framesB (S.gen + 1) D.n 1 (l.take i)) ∧ Hid (F.length = z) ∧ Hid (wr.ownsRow W1.heap.size 5 1 (.slice A1 z c1) z (bv F)) ∧ Hid (Below W1.heap.size W1 wr) ∧ Hid (usedN (S.gen + 1) D.n 1 (l.take i) ≤ areaN D.c)) (fun _ _ _ s34 _ => n - (intOf s34).toNat)
  case atStart => exact ⟨0, 0, 0, none, [], Nat.zero_le _, rfl, rfl, hide_ rfl, hide_ rfl, hide_ (World.ownsRow_nil _ _ _ _), hide_ (Below.refl _ _), hide_ (Nat.zero_le _)⟩
  case round =>
    obtain ⟨i, z, c1, A1, F, hi, rfl, rfl, HFE, HFL, HO, HBW, HU⟩ := hrel
    by_cases hin : i < n
    · have hil : i < l.length := by rw [HN.out]; exact hin
      obtain ⟨r, hr⟩ : ∃ r, l[i] = r := ⟨_, rfl⟩
      have HRR := hide_ (show l[i]? = some r from by rw [List.getElem?_eq_getElem hil, hr])
      have hA := (HL.out.a (by omega)).1
      have HLB := hide_ (HL.out.below (HB1.out.trans (HBW.out.mono HB1.out.size)))
      obtain ⟨Ar, cr, xr, sr⟩ := HLB.out.r i r HRR.out
      have HSR := hide_ sr
      subst hA
      have hrl := longI_get HRR.out HLO.out
      have hlt : ((i : Int) < (n : Int)) = True := by simp; omega
      have hwi : IntKind.i64.wrap ((i : Int) + 1) = ((i + 1 : Nat) : Int) := by rw [IntKind.wrap_i64]; omega
      obtain ⟨i1, hi1⟩ : ∃ x, i + 1 = x := ⟨_, rfl⟩
      have hwu : IntKind.u64.wrap (i : Int) = (i : Int) := by rw [wrap_u64_13]; omega
      have hwu1 : IntKind.u64.wrap ((i : Int) + 1) = (i1 : Int) := by rw [wrap_u64_13]; omega
      have hn1 := H.out.d.ok.n1
      have hn2 := H.out.d.ok.n2
      have hcc := H.out.d.ok.c2
      have hrec : recN (S.gen + 1) D.n (i + 1) r ≤ 2048 := recN_le hn1 (by omega) (by omega) hrl
      have eus := usedN_take_succ (g := S.gen + 1) (n := D.n) HRR.out
      have eF := framesB_take_succ (g := S.gen + 1) (n := D.n) HRR.out
      have eR : (frameB (recB (S.gen + 1) (i + 1) r) D.n).length = recN (S.gen + 1) D.n (i + 1) r * D.n := frameB_len (by omega)
      have eL := framesB_len (g := S.gen + 1) (n := D.n) (by omega) 1 (l.take (i + 1))
      have eL0 := framesB_len (g := S.gen + 1) (n := D.n) (by omega) 1 (l.take i)
      have hzz : z ≤ 10000000 := by
        rw [← HFL.out, HFE.out, eL0]
        have := Nat.mul_le_mul (show usedN (S.gen + 1) D.n 1 (l.take i) ≤ 2047 from by have := HU.out; unfold areaN at this; omega) hn2
        omega
      obtain ⟨FR, hFR⟩ : ∃ x, frameB (recB (S.gen + 1) (i + 1) r) D.n = x := ⟨_, rfl⟩
      obtain ⟨F2, hF2⟩ : ∃ x, framesB (S.gen + 1) D.n 1 (l.take (i + 1)) = x := ⟨_, rfl⟩
      obtain ⟨q2, hq2⟩ : ∃ x, usedN (S.gen + 1) D.n 1 (l.take (i + 1)) = x := ⟨_, rfl⟩
      have hFRl : FR.length ≤ 10000000 := by
        rw [← hFR, eR]
        have := Nat.mul_le_mul hrec hn2
        omega
      have hq29 : q2 ≤ 5000 := by
        have := HU.out
        unfold areaN at this
        omega
      have HAPP := hide_ (show F ++ FR = F2 from by rw [HFE.out, ← hF2, eF, hFR])
      have HQ2 := hide_ hq2
      have HF2 := hide_ hF2
      rw [hF2, hq2] at eL
      have HFL2 := hide_ eL
      have HPR := hide_ (show ∀ v, Below W1.heap.size W1 v → Below wr.heap.size wr v → Calls Try.prog 30 #[.int .u64 (g1 : Int), .int .u64 (i1 : Int), .slice Ar r.length cr, .int .i64 (D.n : Int)] v (Puts v FR) from fun v hv hv2 => by
        rw [← hFR, ← HG1.out, ← hi1]
        exact putRecord_any (S.gen + 1) (i + 1) r w.heap.size Ar r.length cr D.n v (by omega) (by omega) rfl (by omega) hn1 hn2 (HSR.out.below (hv2.mono (Nat.le_trans HB1.out.size HBW.out.size))) (Nat.le_trans HB1.out.size hv.size))
      have HSE := hide_ (show ∀ v, Below W1.heap.size W1 v → ∀ b c1, Calls Try.prog 32 #[.pointer (some ⟨jb, 0, none⟩), .slice b F2.length c1] v fun e w' => e = .returned (.int .i64 (q2 : Int)) ∧ v = w' from fun v hv b c1 => by
        have hz9 : F2.length ≤ 2000000000 := by
          rw [HFL2.out]
          have := Nat.mul_le_mul hq29 hn2
          omega
        have := sectors_any (HJ.out v hv) F2.length b c1 hz9
        rwa [show F2.length / D.n = q2 from by rw [HFL2.out, Nat.mul_div_cancel _ (by omega)]] at this)
      have HAR := hide_ (show ∀ v, Below W1.heap.size W1 v → Calls Try.prog 33 #[.pointer (some ⟨jb, 0, none⟩)] v fun e w' => e = .returned (.int .i64 (areaN D.c : Int)) ∧ v = w' from fun v hv => area_any (HJ.out v hv) HF.out.c6)
      have HTOT := hide_ (show q2 ≤ usedN (S.gen + 1) D.n 1 l from hq2 ▸ usedN_take_le l (i + 1))
      have HI1 := hide_ hi1
      have HW := hide_ ((HBW.out).drew)
      obtain ⟨x0, x1, x2, x3⟩ := HX.out wr HBW.out
      have HZZ := hide_ (show F.length ≤ 10000000 ∧ FR.length ≤ 10000000 from ⟨HFL.out ▸ hzz, hFRl⟩)
      clear hr hil hrl hi1 hrec eus eF eR eL eL0 hFR hF2 hq2 hzz hFRl hn1 hn2 hcc sr
      go_upto_region 11 with fail
      go_region_held_law (fun v => v.cell? ⟨s0, 0, none⟩ = some (.int .u64 (t0 : Int)) ∧ v.cell? ⟨s0, 1, none⟩ = some (.int .u64 (g1 : Int)) ∧ v.cell? ⟨s0, 2, none⟩ = some (.int .u64 (n : Int)) ∧ v.cell? ⟨jb, 0, none⟩ = some (.pointer (some ⟨lb, 0, none⟩)))
        (first | exact ⟨x0, x1, x2, x3⟩ | exact HX.out _ HW.out | exact p2 | exact p3)
        (first | (go_simp; go_at_call 31; refine (HZ.out _ HW.out).mono ?_; rintro _ _ ⟨rfl, rfl⟩) | (go_simp; go_at_call 30; refine (HPR.out _ HW.out ((Below.refl _ _).drew)).mono ?_; rintro _ v2 ⟨A2, c2, rfl, ho2, hv2⟩; (have HO2 := hide_ ho2); (have HV2 := hide_ hv2); (have HW2 := hide_ (HW.out.trans (hv2.mono HW.out.size))); (have p2 := HX.out _ HW2.out); (have HOX := hide_ (show v2.ownsRow W1.heap.size 5 1 (.slice A1 z c1) F.length (bv F) from by rw [HFL.out]; exact own_below HO.out (((Below.refl wr.heap.size wr).drew).trans hv2))); clear ho2 hv2) | (refine step_append_row _ rfl _ _ 38 rfl W1.heap.size u8_info Try.underlying38 _ F FR F2 HAPP.out rfl HOX.out v2.heap.size A2 FR.length c2 rfl rfl (Sees.own HO2.out) HZZ.out HW2.out.size ?_; intro A4 c4 w4 hst4; (have HW4 := hide_ (HW2.out.trans (hst4.below (B := W1.heap.size) HOX.out (Nat.le_refl _) HW2.out.size))); (have HO4 := hide_ hst4.own); (have p3 := HX.out _ HW4.out); clear hst4))
      by_cases hfull : areaN D.c < q2
      · go_wp2_with (first | (go_at_call 32; refine (HSE.out _ HW4.out _ _).mono ?_; rintro _ _ ⟨rfl, rfl⟩) | (go_at_call 33; refine (HAR.out _ HW4.out).mono ?_; rintro _ _ ⟨rfl, rfl⟩))
        go_ret
        exact .inl ⟨by have := HTOT.out; omega, rfl, HB1.out.trans (HW4.out.mono HB1.out.size)⟩
      · go_wp2_with (first | (go_at_call 32; refine (HSE.out _ HW4.out _ _).mono ?_; rintro _ _ ⟨rfl, rfl⟩) | (go_at_call 33; refine (HAR.out _ HW4.out).mono ?_; rintro _ _ ⟨rfl, rfl⟩))
        go_roundw
        case rel => exact ⟨i + 1, F2.length, c4, A4, F2, hin, by first | rfl | trivial | simp, rfl, hide_ HF2.out.symm, hide_ rfl, HO4, HW4, hide_ (by rw [HQ2.out]; omega)⟩
        case measure => simp [intOf]; omega
    · have hin2 : n = i := by omega
      subst hin2
      have eT : l.take n = l := List.take_of_length_le (by rw [HN.out]; exact Nat.le_refl _)
      have hFE := HFE.out
      have hU := HU.out
      rw [eT] at hFE hU
      have hn1 := H.out.d.ok.n1
      have eL := framesB_len (g := S.gen + 1) (n := D.n) (by omega) 1 l
      obtain ⟨q, hq⟩ : ∃ x, usedN (S.gen + 1) D.n 1 l = x := ⟨_, rfl⟩
      rw [hq] at eL hU
      have hqz : q * D.n = z := by rw [← eL, ← hFE]; exact HFL.out
      obtain ⟨bb, hbb⟩ : ∃ bb, 0 < z → A1 = some ⟨bb, 0, none⟩ ∧ W1.heap.size ≤ bb ∧ z ≤ c1 ∧ RowIs wr bb F := by
        by_cases h0 : 0 < z
        · obtain ⟨b1, e, h1, h2, h3⟩ := own_row HO.out HFL.out h0
          exact ⟨b1, fun _ => ⟨e, h1, h2, h3⟩⟩
        · exact ⟨0, fun e => absurd e h0⟩
      have hpos : 0 < q → 0 < z := fun e => by rw [← hqz]; exact Nat.mul_pos e (by omega)
      have hbw : Below w.heap.size w wr := HB1.out.trans (HBW.out.mono HB1.out.size)
      have hJD : ∀ w', JDoes wr L (keepD D S.m (S.gen + 1) n (frontN D.c (S.gen + 1) + 0) F) jb (2 * S.m + 2) (S.gen + 1) n (0 + q) w' → JTurn w L D jb ⟨S.m + 1, S.gen + 1, l⟩ w' := fun w' hd => by
        refine keep_anew H.out.d.ok HF.out hm1 hg1 HLO.out (by rw [hq]; exact hU) ?_
        rw [HN.out, ← hFE, hq]
        exact JDoes.trans rfl (Chg.of_below hbw) (fun q e => .inl e) hd
      have hk := (keep_any (HJ.out wr HBW.out) HF.out.calm HF.out.w HF.out.c6 S.m (S.gen + 1) n 0 q z bb c1 A1 F (by omega) (by omega) (by omega) (fun e => ⟨(hbb (hpos e)).1, (hbb (hpos e)).2.2.2, fun e2 => by
        have h1 := H.out.d.lt e2
        have h2 := (hbb (hpos e)).2.1
        have h3 := HB1.out.size
        omega⟩) HFL.out hqz (by omega) (by
          by_cases h0 : 0 < z
          · exact (hbb h0).2.2.1
          · omega) (fun e => (hbb (hpos e)).2.2.2.lt)).mono (fun e w' hh => (⟨hh.1, hJD w' hh.2⟩ : e = .returned (.int .i64 0) ∧ JTurn w L D jb ⟨S.m + 1, S.gen + 1, l⟩ w'))
      rw [HT0.out, HG1.out] at hk
      have HK := hide_ (show Calls Try.prog 34 #[.pointer (some ⟨jb, 0, none⟩), .agg #[.int .u64 (t0 : Int), .int .u64 (g1 : Int), .int .u64 (n : Int)], .int .i64 0, .slice A1 z c1] wr fun e w' => e = .returned (.int .i64 0) ∧ JTurn w L D jb ⟨S.m + 1, S.gen + 1, l⟩ w' from by
        rw [← HG1.out]
        rw [← HG1.out] at hk
        exact hk)
      have HFIT := hide_ (hq ▸ hU : usedN (S.gen + 1) D.n 1 l ≤ areaN D.c)
      obtain ⟨x0, x1, x2, x3⟩ := HX.out wr HBW.out
      clear hk hJD hbb hpos hbw hqz hq eL hn1 hU hFE eT
      go_wp2_with (go_at_call 34; refine HK.out.mono ?_; rintro _ w5 ⟨rfl, hj5⟩; (have HJ5 := hide_ hj5); clear hj5)
      go_ret
      exact .inr ⟨HFIT.out, rfl, HJ5.out⟩

end Go.Proofs.Ytecbpmnolgkllaa
