/-
  Contract of layer 5's reference's Put.
-/
import Derived.Test.YtkjgplcfoihohaaRefP5
import Derived.Test.YtkjgplcfoihohaaPutT4
import Derived.Test.YtkjgplcfoihohaaRefT2
import Derived.Deep.RegionHeld
import Derived.IntWalk
namespace Go.Proofs.Ytkjgplcfoihohaa
open Go.RowKit

set_option maxRecDepth 100000 in
set_option maxHeartbeats 12800000 in
theorem refPutT_any (st vs : Int) (t : Sl RuM) (B : Nat) (w : World) (hs : rusOk w B t) (hB : B ≤ w.heap.size) :
    Calls Try.prog 11 #[tabV st vs t] w (PutsT (putR st vs t.l) w) := by
  have hw1 : Below w.heap.size w (w.alloc (.cells #[.int .i64 st, .int .i64 vs, .slice t.A t.l.length t.c] 24)) := (Below.refl _ _).alloc (Nat.le_refl _) _
  have HC := hide_ (refMayT_any st vs t B _ (rus_stable.below hs (hw1.mono hB)) (Nat.le_trans hB hw1.size))
  have HX := hide_ (BoxAt.new w #[.int .i64 st, .int .i64 vs, .slice t.A t.l.length t.c] 24)
  have HW := hide_ hw1
  have HS := hide_ hs
  obtain ⟨q, hq⟩ : ∃ q, mayT st vs t.l = q := ⟨_, rfl⟩
  rw [hq] at HC
  cases q with
  | false =>
    rw [putR_no hq]
    clear hs hw1 hq HX
    simp only [tabV, Sl.v] at HC HW ⊢
    obtain ⟨tA, tc, tl⟩ := t
    generalize tl.length = tn at HC HW ⊢
    go_enter Try.func11, Try.ntmps11
    go_wp2_with fail
    refine HC.out.mono ?_
    rintro en w1 ⟨rfl, hb⟩
    have HB := hide_ (HW.out.trans (hb.mono (by simp)))
    clear hb
    have HO := hide_ (World.ownsRow_lit (base := w.heap.size) (e := 5) (size := 1) w1 #[] 0 HB.out.size (by simp [maxLen]) (by simp))
    go_wp2
    go_ret2
    exact ⟨_, _, rfl, HO.out, HB.out.alloc HB.out.size _⟩
  | true =>
    rw [putR_yes hq]
    have hnum := mayT_num hq
    have hlen := rus_len hs hq
    obtain ⟨tA, tc, tl⟩ := t
    obtain ⟨n, hn⟩ : ∃ n, tl.length = n := ⟨_, rfl⟩
    simp only [hn] at hnum
    have HQ := hide_ hq
    have HN := hide_ hn
    have HL := hide_ hlen
    obtain ⟨ra, hra⟩ : ∃ r, [] ++ natB st = r := ⟨_, rfl⟩
    obtain ⟨rb, hrb⟩ : ∃ r, ra ++ natB vs = r := ⟨_, rfl⟩
    obtain ⟨r1, hr1⟩ : ∃ r, rb ++ natB n = r := ⟨_, rfl⟩
    obtain ⟨r, hr⟩ : ∃ r, tabBy st vs tl = r := ⟨_, rfl⟩
    have HR := hide_ (show r1 ++ tl.flatMap ruBy = r by
      rw [← hr, ← hr1, ← hrb, ← hra]
      unfold tabBy
      rw [hn]
      simp only [List.append_assoc, List.nil_append])
    have la : ra.length ≤ 10 := by rw [← hra]; simpa using natB_len st (by omega)
    have lb : rb.length ≤ 20 := by rw [← hrb, List.length_append]; have := natB_len vs (by omega); omega
    have lc : r1.length ≤ 30 := by rw [← hr1, List.length_append]; have := natB_len n (by omega); omega
    have HRA := hide_ hra
    have HRB := hide_ hrb
    have HRC := hide_ hr1
    have HLA := hide_ la
    have HLB := hide_ lb
    have HLC := hide_ lc
    have HST0 := hide_ (show (0 ≤ st ∧ st ≤ 9223372036854775807) ∧ (0 ≤ vs ∧ vs ≤ 9223372036854775807) ∧ (0 ≤ (n : Int) ∧ (n : Int) ≤ 9223372036854775807) by omega)
    have hnm : n ≤ 32 := hnum.2.2
    rw [hr]
    simp only [tabV, Sl.v, hn] at HC HW HX ⊢
    clear hs hw1 hq hra hrb hr1 hr hn hlen la lb lc hnum
    go_enter Try.func11, Try.ntmps11
    go_wp2_with fail
    refine HC.out.mono ?_
    rintro en w1 ⟨rfl, hb⟩
    have HB := hide_ (HW.out.trans (hb.mono (by simp)))
    have HX1 := hide_ (HX.out.below hb)
    clear hb HC
    have hz1 : w.heap.size < w1.heap.size := HX1.out.lt
    have HO0 := hide_ (show (w1.alloc (.cells #[] 5)).drew.ownsRow w1.heap.size 5 1 (.slice (some ⟨w1.heap.size, 0, none⟩) 0 0) ([] : List UInt8).length (bv []) by
      have h := World.ownsRow_lit (base := w1.heap.size) (e := 5) (size := 1) w1 #[] 0 (Nat.le_refl _) (by simp [maxLen]) (by simp)
      have h2 : (w1.alloc (.cells #[] 5)).ownsRow w1.heap.size 5 1 (.slice (some ⟨w1.heap.size, 0, none⟩) 0 0) ([] : List UInt8).length (bv []) := by simpa [bv] using h
      exact h2)
    have HX1A := hide_ (show BoxAt (w1.alloc (.cells #[] 5)).drew w.heap.size #[.int .i64 st, .int .i64 vs, .slice tA n tc] 24 from HX1.out.alloc (.cells #[] 5))
    have HX1D := hide_ (show BoxAt w1.drew w.heap.size #[.int .i64 st, .int .i64 vs, .slice tA n tc] 24 from HX1.out)
    go_upto_region 3 with fail
    refine wp_region_held_drew (S := fun w' => Hid (BoxAt w' w.heap.size #[.int .i64 st, .int .i64 vs, .slice tA n tc] 24) ∧ (∀ i : Nat, w'.cell? ⟨w.heap.size, i, none⟩ = (#[.int .i64 st, .int .i64 vs, .slice tA n tc] : Array Value)[i]?)) (by kernel_rfl) (⟨HX1D, HX1D.out.cell⟩) (fun hHeld => ?_)
    refine wpAnyH_take (i := 1) (oi := ⟨some 14, _, _, _, _, _⟩) (v := ?v1) rfl (by kernel_rfl) (by kernel_rfl) (by kernel_rfl) (fun _ _ _ h => h) (Or.inl ⟨by rfl, ?hy1⟩) (by assumption) ?rest1
    case hy1 => intro w hSw; (try dsimp only at hSw); go_simp <;> with_reducible rfl
    simp only [Act.put, List.setIfInBounds_toArray, List.set_cons_zero, List.set_cons_succ]
    refine wpAnyH_take (i := 2) (oi := ⟨some 15, _, _, _, _, _⟩) (v := ?v2) rfl (by kernel_rfl) (by kernel_rfl) (by kernel_rfl) (fun _ _ _ h => h) (Or.inl ⟨by rfl, ?hy2⟩) (by assumption) ?rest2
    case hy2 => intro w hSw; (try dsimp only at hSw); go_simp <;> with_reducible rfl
    simp only [Act.put, List.setIfInBounds_toArray, List.set_cons_zero, List.set_cons_succ]
    refine wpAnyH_take (i := 4) (oi := ⟨some 17, _, _, _, _, _⟩) (v := ?v3) rfl (by kernel_rfl) (by kernel_rfl) (by kernel_rfl) (fun _ _ _ h => h) (Or.inl ⟨by rfl, ?hy3⟩) (by assumption) ?rest3
    case hy3 => intro w hSw; (try dsimp only at hSw); go_simp <;> with_reducible rfl
    simp only [Act.put, List.setIfInBounds_toArray, List.set_cons_zero, List.set_cons_succ]
    refine wpAnyH_take (i := 5) (oi := ⟨some 18, _, _, _, _, _⟩) (v := ?v4) rfl (by kernel_rfl) (by kernel_rfl) (by kernel_rfl) (fun _ _ _ h => h) (Or.inl ⟨by rfl, ?hy4⟩) (by assumption) ?rest4
    case hy4 => intro w hSw; (try dsimp only at hSw); go_simp <;> with_reducible rfl
    simp only [Act.put, List.setIfInBounds_toArray, List.set_cons_zero, List.set_cons_succ]
    refine wpAnyH_take (i := 7) (oi := ⟨some 20, _, _, _, _, _⟩) (v := ?v5) rfl (by kernel_rfl) (by kernel_rfl) (by kernel_rfl) (fun _ _ _ h => h) (Or.inl ⟨by rfl, ?hy5⟩) (by assumption) ?rest5
    case hy5 => intro w hSw; (try dsimp only at hSw); go_simp <;> with_reducible rfl
    simp only [Act.put, List.setIfInBounds_toArray, List.set_cons_zero, List.set_cons_succ]
    refine wpAnyH_take (i := 8) (oi := ⟨some 21, _, _, _, _, _⟩) (v := ?v6) rfl (by kernel_rfl) (by kernel_rfl) (by kernel_rfl) (fun _ _ _ h => h) (Or.inl ⟨by rfl, ?hy6⟩) (by assumption) ?rest6
    case hy6 => intro w hSw; (try dsimp only at hSw); go_simp <;> with_reducible rfl
    simp only [Act.put, List.setIfInBounds_toArray, List.set_cons_zero, List.set_cons_succ]
    refine wpAnyH_take (i := 9) (oi := ⟨some 22, _, _, _, _, _⟩) (v := ?v7) rfl (by kernel_rfl) (by kernel_rfl) (by kernel_rfl) (fun _ _ _ h => h) (Or.inl ⟨by rfl, ?hy7⟩) (by assumption) ?rest7
    case hy7 => intro w hSw; (try dsimp only at hSw); go_simp <;> with_reducible rfl
    simp only [Act.put, List.setIfInBounds_toArray, List.set_cons_zero, List.set_cons_succ]
    refine wpAnyH_ready (rs := [0]) (by kernel_rfl) (by simp) ?_
    refine AllReadyH.cons rfl (fun K hK => ?_) AllReadyH.nil
    go_simp
    refine hK.out _ _ (⟨HX1A, HX1A.out.cell⟩) (fun hHeld => ?_)
    clear hK K
    refine wpAnyH_ready (rs := [3]) (by kernel_rfl) (by simp) ?_
    refine AllReadyH.cons rfl (fun K hK => ?_) AllReadyH.nil
    go_simp
    go_wp2_with fail
    refine (num5_any [] ra st w1.heap.size _ _ HRA.out HST0.out.1 (by simp) HO0.out (by simp)).mono ?_
    rintro en w2 ⟨A2, c2, rfl, hst2⟩
    have HST2 := hide_ (hst2)
    have HX2 := hide_ (HX1A.out.step (by decide) HO0.out hst2)
    clear hst2
    refine hK.out _ _ (⟨HX2, HX2.out.cell⟩) (fun hHeld => ?_)
    clear hK K
    refine wpAnyH_ready (rs := [6]) (by kernel_rfl) (by simp) ?_
    refine AllReadyH.cons rfl (fun K hK => ?_) AllReadyH.nil
    go_simp
    go_wp2_with fail
    refine (num5_any ra rb vs w1.heap.size _ _ HRB.out HST0.out.2.1 (by have := HLA.out; omega) HST2.out.own (by have := HST2.out.grow.size; simp at this; omega)).mono ?_
    rintro en w3 ⟨A3, c3, rfl, hst3⟩
    have HST3 := hide_ (HST2.out.trans hst3)
    have HX3 := hide_ (HX2.out.step (by decide) HST2.out.own hst3)
    clear hst3
    refine hK.out _ _ (⟨HX3, HX3.out.cell⟩) (fun hHeld => ?_)
    clear hK K
    refine wpAnyH_ready (rs := [10]) (by kernel_rfl) (by simp) ?_
    refine AllReadyH.cons rfl (fun K hK => ?_) AllReadyH.nil
    go_simp
    go_wp2_with fail
    refine (num5_any rb r1 n w1.heap.size _ _ HRC.out HST0.out.2.2 (by have := HLB.out; omega) HST3.out.own (by have := HST3.out.grow.size; simp at this; omega)).mono ?_
    rintro en w4 ⟨A4, c4, rfl, hst4⟩
    have HST4 := hide_ (HST3.out.trans hst4)
    have HX4 := hide_ (HX3.out.step (by decide) HST3.out.own hst4)
    clear hst4
    refine hK.out _ _ (⟨HX4, HX4.out.cell⟩) (fun hHeld => ?_)
    clear hK K
    refine wpAnyH_take (i := 11) (oi := ⟨some 4, _, _, _, _, _⟩) (v := ?v8) rfl (by kernel_rfl) (by kernel_rfl) (by kernel_rfl) (fun _ _ _ h => h) (Or.inl ⟨by rfl, ?hy8⟩) (by assumption) ?rest8
    case hy8 => intro w hSw; (try dsimp only at hSw); go_simp <;> with_reducible rfl
    simp only [Act.put, List.setIfInBounds_toArray, List.set_cons_zero, List.set_cons_succ]
    refine wpAnyH_done (by kernel_rfl) ?_ _
    have HST0' := hide_ HST4.out
    have hz4 : w1.heap.size + 1 ≤ w4.heap.size := by have := HST4.out.grow.size; simpa using this
    have hzx : w.heap.size < w4.heap.size := by omega
    have hcx := HX4.out.cell
    have HBW4 := hide_ (show Below w.heap.size w w4 from HB.out.trans ((((Below.refl w.heap.size w1).alloc (by omega) (.cells #[] 5)).drew).trans (HST4.out.below (r0 := []) HO0.out (by omega) (by simp; omega))))
    clear HST2 HST3 HX1A HX1D HX2 HX3
    go_wp2_with fail
    clear hcx
    go_loopw [4, 27] (fun b i wr => ∃ (k : Nat), k ≤ n ∧ i = .int .i64 k ∧ Hid (RowStep w1.heap.size (.slice A4 r1.length c4) w4 b wr (r1 ++ (tl.take k).flatMap ruBy)) ∧ Hid (BoxAt wr w.heap.size #[.int .i64 st, .int .i64 vs, .slice tA n tc] 24)) (fun _ i _ => n - (intOf i).toNat)
    case atStart => exact ⟨0, Nat.zero_le _, rfl, hide_ (by simpa using RowStep.refl HST4.out.own), HX4.out⟩
    case round =>
      obtain ⟨wo, hwo⟩ : ∃ wo, wo = wr := ⟨_, rfl⟩
      subst hwo
      obtain ⟨k, hk, rfl, HK, HXT⟩ := hrel
      have hzw : w4.heap.size ≤ wo.heap.size := HK.out.grow.size
      have hbw : Below B w wo := (HBW4.out.mono hB).trans (HK.out.below (r0 := r1) HST4.out.own (by omega) (by omega))
      have hzt : w.heap.size < wo.heap.size := HXT.out.lt
      have hcx := HXT.out.cell
      by_cases hlt : k < n
      case neg =>
        obtain rfl : k = n := by omega
        have HK2 := hide_ (show RowStep w1.heap.size _ w4 _ wo r by
          have h := HK.out
          rwa [← HN.out, List.take_length, HR.out] at h)
        clear HK
        obtain ⟨A9, c9, hA9⟩ := own_slice HK2.out.own
        subst hA9
        go_wp2
        go_ret2
        exact ⟨_, _, rfl, own_mono HK2.out.own (by omega), HBW4.out.trans (HK2.out.below (r0 := r1) HST4.out.own (by omega) (by omega))⟩
      have hs1 := (rus_stable.below HS.out hbw).2.2.1
      obtain ⟨x, hx⟩ : ∃ x, tl[k]? = some x := ⟨_, List.getElem?_eq_getElem (by rw [HN.out]; exact hlt)⟩
      obtain ⟨tb, ot, hAe, hab, e0, e1, e2, e3, e4, e5, e6⟩ := hs1.ru hx
      have hwz : tb < wo.heap.size := by omega
      subst hAe
      have hxo := HS.out.2.2.2 x (List.mem_of_getElem? hx)
      have hru := mayT_rule HQ.out hx
      obtain ⟨gl24, ⟨sl8, sl24⟩, ⟨el4, el24⟩⟩ := ruS_of hru
      obtain ⟨⟨p1, p2, p3, p4⟩, sp, ep⟩ := ruP_of hru
      have HXX := hide_ (show r1 ++ (tl.take (k + 1)).flatMap ruBy = (r1 ++ (tl.take k).flatMap ruBy) ++ ruBy x by
        rw [flat_snoc hx]
        simp only [List.append_assoc])
      have HLN := hide_ (show (r1 ++ (tl.take k).flatMap ruBy).length ≤ 300000 by
        have h1 := flat_take_le (f := ruBy) (q := 7000) tl HL.out k
        rw [HN.out] at h1
        rw [List.length_append]
        have := HLC.out
        omega)
      obtain ⟨fr, xc, xp, tt, ⟨gA, gc, gl⟩, ⟨sA, sc, sl⟩, ⟨eA, ec, el⟩⟩ := x
      obtain ⟨⟨i1, i2, i3, i4⟩, hg, hse, hem⟩ := hxo
      simp only at e0 e1 e2 e3 e4 e5 e6 i1 i2 i3 i4 hg hse hem gl24 sl8 sl24 el4 el24 p1 p2 p3 p4 sp ep
      obtain ⟨gn, hgn⟩ : ∃ n, gl.length = n := ⟨_, rfl⟩
      obtain ⟨sn, hsn⟩ : ∃ n, sl.length = n := ⟨_, rfl⟩
      obtain ⟨ee, hen⟩ : ∃ n, el.length = n := ⟨_, rfl⟩
      rw [hgn] at e4
      rw [hsn] at e5
      rw [hen] at e6
      obtain ⟨l0, hl0⟩ : ∃ l0, r1 ++ (tl.take k).flatMap ruBy = l0 := ⟨_, rfl⟩
      obtain ⟨l2, hl2⟩ : ∃ l2, r1 ++ (tl.take (k + 1)).flatMap ruBy = l2 := ⟨_, rfl⟩
      rw [hl0] at HK HLN HXX
      rw [hl2] at HXX
      have HL2 := hide_ hl2
      obtain ⟨q1, hq1⟩ : ∃ r, l0 ++ natB fr = r := ⟨_, rfl⟩
      obtain ⟨q2, hq2⟩ : ∃ r, q1 ++ natB xc = r := ⟨_, rfl⟩
      obtain ⟨q3, hq3⟩ : ∃ r, q2 ++ natB xp = r := ⟨_, rfl⟩
      obtain ⟨q4, hq4⟩ : ∃ r, q3 ++ natB tt = r := ⟨_, rfl⟩
      obtain ⟨q5, hq5⟩ : ∃ r, q4 ++ fmlB gl = r := ⟨_, rfl⟩
      obtain ⟨q6, hq6⟩ : ∃ r, q5 ++ natB sn = r := ⟨_, rfl⟩
      obtain ⟨q7, hq7⟩ : ∃ r, q6 ++ sl.flatMap setBy = r := ⟨_, rfl⟩
      obtain ⟨q8, hq8⟩ : ∃ r, q7 ++ natB ee = r := ⟨_, rfl⟩
      have hq9 : q8 ++ el.flatMap emBy = l2 := by
        rw [HXX.out, ← hq8, ← hq7, ← hq6, ← hq5, ← hq4, ← hq3, ← hq2, ← hq1]
        unfold ruBy setsBy emsBy
        simp only [hsn, hen, List.append_assoc]
      have n0 := HLN.out
      have n1 : q1.length ≤ 300010 := by rw [← hq1, List.length_append]; have := natB_len fr i1.2; omega
      have n2 : q2.length ≤ 300020 := by rw [← hq2, List.length_append]; have := natB_len xc i2.2; omega
      have n3 : q3.length ≤ 300030 := by rw [← hq3, List.length_append]; have := natB_len xp i3.2; omega
      have n4 : q4.length ≤ 300040 := by rw [← hq4, List.length_append]; have := natB_len tt i4.2; omega
      have n5 : q5.length ≤ 300540 := by rw [← hq5, List.length_append]; have := fmlB_len gl hg.2.2.2 gl24; omega
      have n6 : q6.length ≤ 300550 := by rw [← hq6, List.length_append]; have := natB_len sn (by omega); omega
      have n7 : q7.length ≤ 304550 := by
        rw [← hq7, List.length_append]
        have := flat_le (f := setBy) sl fun s hs => setBy_len (hse.2.2.2 s hs) (sl24 s hs)
        omega
      have n8 : q8.length ≤ 304560 := by rw [← hq8, List.length_append]; have := natB_len ee (by omega); omega
      have HNN := hide_ (show q1.length ≤ 300010 ∧ q2.length ≤ 300020 ∧ q3.length ≤ 300030 ∧ q4.length ≤ 300040 ∧ q5.length ≤ 300540 ∧ q6.length ≤ 300550 ∧ q7.length ≤ 304550 ∧ q8.length ≤ 304560 from ⟨n1, n2, n3, n4, n5, n6, n7, n8⟩)
      have HQQ := hide_ (show l0 ++ natB fr = q1 ∧ q1 ++ natB xc = q2 ∧ q2 ++ natB xp = q3 ∧ q3 ++ natB tt = q4 ∧ q4 ++ fmlB gl = q5 ∧ q5 ++ natB sn = q6 ∧ q6 ++ sl.flatMap setBy = q7 ∧ q7 ++ natB ee = q8 ∧ q8 ++ el.flatMap emBy = l2 from ⟨hq1, hq2, hq3, hq4, hq5, hq6, hq7, hq8, hq9⟩)
      have HI := hide_ (show (0 ≤ fr ∧ fr ≤ 9223372036854775807) ∧ (0 ≤ xc ∧ xc ≤ 9223372036854775807) ∧ (0 ≤ xp ∧ xp ≤ 9223372036854775807) ∧ (0 ≤ tt ∧ tt ≤ 9223372036854775807) from ⟨⟨p1, i1.2⟩, ⟨p2, i2.2⟩, ⟨p3, i3.2⟩, ⟨p4, i4.2⟩⟩)
      have hsn8 : sn ≤ 8 := by omega
      have hee4 : ee ≤ 4 := by omega
      have HG := hide_ hg
      have HSE := hide_ hse
      have HEM := hide_ hem
      have HGN := hide_ hgn
      have HSN := hide_ hsn
      have HEN := hide_ hen
      have HG24 := hide_ gl24
      have HSP := hide_ sp
      have HEP := hide_ ep
      have HS24 := hide_ sl24
      have HE24 := hide_ el24
      have HBW := hide_ hbw
      clear hl0 hl2 hx hs1 hru hq1 hq2 hq3 hq4 hq5 hq6 hq7 hq8 hq9 n0 n1 n2 n3 n4 n5 n6 n7 n8 i1 i2 i3 i4 hg hse hem hgn hsn hen gl24 sp ep sl24 el24 p1 p2 p3 p4 hbw sl8 el4
      have HB6 := hide_ (show BoxAt (wo.alloc (.cells #[.int .i64 fr, .int .i64 xc, .int .i64 xp, .int .i64 tt, .slice gA gn gc, .slice sA sn sc, .slice eA ee ec] 40)) wo.heap.size #[.int .i64 fr, .int .i64 xc, .int .i64 xp, .int .i64 tt, .slice gA gn gc, .slice sA sn sc, .slice eA ee ec] 40 from BoxAt.new wo _ _)
      have HB6D := hide_ (show BoxAt (wo.alloc (.cells #[.int .i64 fr, .int .i64 xc, .int .i64 xp, .int .i64 tt, .slice gA gn gc, .slice sA sn sc, .slice eA ee ec] 40)).drew wo.heap.size #[.int .i64 fr, .int .i64 xc, .int .i64 xp, .int .i64 tt, .slice gA gn gc, .slice sA sn sc, .slice eA ee ec] 40 from BoxAt.new wo _ _)
      have HXT6 := hide_ (show BoxAt (wo.alloc (.cells #[.int .i64 fr, .int .i64 xc, .int .i64 xp, .int .i64 tt, .slice gA gn gc, .slice sA sn sc, .slice eA ee ec] 40)).drew w.heap.size #[.int .i64 st, .int .i64 vs, .slice (some ⟨tb, ot, none⟩) n tc] 24 from HXT.out.alloc (.cells #[.int .i64 fr, .int .i64 xc, .int .i64 xp, .int .i64 tt, .slice gA gn gc, .slice sA sn sc, .slice eA ee ec] 40))
      have HU := hide_ (show Below wo.heap.size wo (wo.alloc (.cells #[.int .i64 fr, .int .i64 xc, .int .i64 xp, .int .i64 tt, .slice gA gn gc, .slice sA sn sc, .slice eA ee ec] 40)).drew from ((Below.refl _ _).alloc (Nat.le_refl _) _).drew)
      have HOK := hide_ (own_below HK.out.own HU.out)
      go_upto_region 8 with fail
      refine wp_region_held_drew (S := fun w' => Hid (BoxAt w' wo.heap.size #[.int .i64 fr, .int .i64 xc, .int .i64 xp, .int .i64 tt, .slice gA gn gc, .slice sA sn sc, .slice eA ee ec] 40) ∧ (∀ i : Nat, w'.cell? ⟨wo.heap.size, i, none⟩ = (#[.int .i64 fr, .int .i64 xc, .int .i64 xp, .int .i64 tt, .slice gA gn gc, .slice sA sn sc, .slice eA ee ec] : Array Value)[i]?)) (by kernel_rfl) (⟨HB6D, HB6D.out.cell⟩) (fun hHeld => ?_)
      refine wpAnyH_take (i := 0) (oi := ⟨some 35, _, _, _, _, _⟩) (v := ?v9) rfl (by kernel_rfl) (by kernel_rfl) (by kernel_rfl) (fun _ _ _ h => h) (Or.inl ⟨by rfl, ?hy9⟩) (by assumption) ?rest9
      case hy9 => intro w hSw; (try dsimp only at hSw); go_simp <;> with_reducible rfl
      simp only [Act.put, List.setIfInBounds_toArray, List.set_cons_zero, List.set_cons_succ]
      refine wpAnyH_take (i := 1) (oi := ⟨some 36, _, _, _, _, _⟩) (v := ?v10) rfl (by kernel_rfl) (by kernel_rfl) (by kernel_rfl) (fun _ _ _ h => h) (Or.inl ⟨by rfl, ?hy10⟩) (by assumption) ?rest10
      case hy10 => intro w hSw; (try dsimp only at hSw); go_simp <;> with_reducible rfl
      simp only [Act.put, List.setIfInBounds_toArray, List.set_cons_zero, List.set_cons_succ]
      refine wpAnyH_take (i := 2) (oi := ⟨some 37, _, _, _, _, _⟩) (v := ?v11) rfl (by kernel_rfl) (by kernel_rfl) (by kernel_rfl) (fun _ _ _ h => h) (Or.inl ⟨by rfl, ?hy11⟩) (by assumption) ?rest11
      case hy11 => intro w hSw; (try dsimp only at hSw); go_simp <;> with_reducible rfl
      simp only [Act.put, List.setIfInBounds_toArray, List.set_cons_zero, List.set_cons_succ]
      refine wpAnyH_take (i := 4) (oi := ⟨some 39, _, _, _, _, _⟩) (v := ?v12) rfl (by kernel_rfl) (by kernel_rfl) (by kernel_rfl) (fun _ _ _ h => h) (Or.inl ⟨by rfl, ?hy12⟩) (by assumption) ?rest12
      case hy12 => intro w hSw; (try dsimp only at hSw); go_simp <;> with_reducible rfl
      simp only [Act.put, List.setIfInBounds_toArray, List.set_cons_zero, List.set_cons_succ]
      refine wpAnyH_take (i := 5) (oi := ⟨some 40, _, _, _, _, _⟩) (v := ?v13) rfl (by kernel_rfl) (by kernel_rfl) (by kernel_rfl) (fun _ _ _ h => h) (Or.inl ⟨by rfl, ?hy13⟩) (by assumption) ?rest13
      case hy13 => intro w hSw; (try dsimp only at hSw); go_simp <;> with_reducible rfl
      simp only [Act.put, List.setIfInBounds_toArray, List.set_cons_zero, List.set_cons_succ]
      refine wpAnyH_take (i := 7) (oi := ⟨some 42, _, _, _, _, _⟩) (v := ?v14) rfl (by kernel_rfl) (by kernel_rfl) (by kernel_rfl) (fun _ _ _ h => h) (Or.inl ⟨by rfl, ?hy14⟩) (by assumption) ?rest14
      case hy14 => intro w hSw; (try dsimp only at hSw); go_simp <;> with_reducible rfl
      simp only [Act.put, List.setIfInBounds_toArray, List.set_cons_zero, List.set_cons_succ]
      refine wpAnyH_take (i := 8) (oi := ⟨some 43, _, _, _, _, _⟩) (v := ?v15) rfl (by kernel_rfl) (by kernel_rfl) (by kernel_rfl) (fun _ _ _ h => h) (Or.inl ⟨by rfl, ?hy15⟩) (by assumption) ?rest15
      case hy15 => intro w hSw; (try dsimp only at hSw); go_simp <;> with_reducible rfl
      simp only [Act.put, List.setIfInBounds_toArray, List.set_cons_zero, List.set_cons_succ]
      refine wpAnyH_take (i := 10) (oi := ⟨some 45, _, _, _, _, _⟩) (v := ?v16) rfl (by kernel_rfl) (by kernel_rfl) (by kernel_rfl) (fun _ _ _ h => h) (Or.inl ⟨by rfl, ?hy16⟩) (by assumption) ?rest16
      case hy16 => intro w hSw; (try dsimp only at hSw); go_simp <;> with_reducible rfl
      simp only [Act.put, List.setIfInBounds_toArray, List.set_cons_zero, List.set_cons_succ]
      refine wpAnyH_take (i := 11) (oi := ⟨some 46, _, _, _, _, _⟩) (v := ?v17) rfl (by kernel_rfl) (by kernel_rfl) (by kernel_rfl) (fun _ _ _ h => h) (Or.inl ⟨by rfl, ?hy17⟩) (by assumption) ?rest17
      case hy17 => intro w hSw; (try dsimp only at hSw); go_simp <;> with_reducible rfl
      simp only [Act.put, List.setIfInBounds_toArray, List.set_cons_zero, List.set_cons_succ]
      refine wpAnyH_ready (rs := [3]) (by kernel_rfl) (by simp) ?_
      refine AllReadyH.cons rfl (fun K hK => ?_) AllReadyH.nil
      go_simp
      go_wp2_with fail
      refine (num5_any l0 q1 fr w1.heap.size _ _ HQQ.out.1 HI.out.1 (by have := HLN.out; omega) HOK.out (by simp; omega)).mono ?_
      rintro en v11 ⟨A11, c11, rfl, hst11⟩
      have HST11 := hide_ (HK.out.trans (RowStep.fresh HU.out hst11))
      have HB11 := hide_ (HB6D.out.step (by decide) HOK.out hst11)
      have HXU11 := hide_ (HXT6.out.step (by decide) HOK.out hst11)
      clear hst11
      refine hK.out _ _ (⟨HB11, HB11.out.cell⟩) (fun hHeld => ?_)
      clear hK K
      refine wpAnyH_ready (rs := [6]) (by kernel_rfl) (by simp) ?_
      refine AllReadyH.cons rfl (fun K hK => ?_) AllReadyH.nil
      go_simp
      go_wp2_with fail
      refine (num5_any q1 q2 xc w1.heap.size _ _ HQQ.out.2.1 HI.out.2.1 (by have := HNN.out; omega) HST11.out.own (by have := HST11.out.grow.size; omega)).mono ?_
      rintro en v12 ⟨A12, c12, rfl, hst12⟩
      have HST12 := hide_ (HST11.out.trans hst12)
      have HB12 := hide_ (HB11.out.step (by decide) HST11.out.own hst12)
      have HXU12 := hide_ (HXU11.out.step (by decide) HST11.out.own hst12)
      clear hst12
      refine hK.out _ _ (⟨HB12, HB12.out.cell⟩) (fun hHeld => ?_)
      clear hK K
      refine wpAnyH_ready (rs := [9]) (by kernel_rfl) (by simp) ?_
      refine AllReadyH.cons rfl (fun K hK => ?_) AllReadyH.nil
      go_simp
      go_wp2_with fail
      refine (num5_any q2 q3 xp w1.heap.size _ _ HQQ.out.2.2.1 HI.out.2.2.1 (by have := HNN.out; omega) HST12.out.own (by have := HST12.out.grow.size; omega)).mono ?_
      rintro en v13 ⟨A13, c13, rfl, hst13⟩
      have HST13 := hide_ (HST12.out.trans hst13)
      have HB13 := hide_ (HB12.out.step (by decide) HST12.out.own hst13)
      have HXU13 := hide_ (HXU12.out.step (by decide) HST12.out.own hst13)
      clear hst13
      refine hK.out _ _ (⟨HB13, HB13.out.cell⟩) (fun hHeld => ?_)
      clear hK K
      refine wpAnyH_ready (rs := [12]) (by kernel_rfl) (by simp) ?_
      refine AllReadyH.cons rfl (fun K hK => ?_) AllReadyH.nil
      go_simp
      go_wp2_with fail
      refine (num5_any q3 q4 tt w1.heap.size _ _ HQQ.out.2.2.2.1 HI.out.2.2.2 (by have := HNN.out; omega) HST13.out.own (by have := HST13.out.grow.size; omega)).mono ?_
      rintro en v14 ⟨A14, c14, rfl, hst14⟩
      have HST14 := hide_ (HST13.out.trans hst14)
      have HB14 := hide_ (HB13.out.step (by decide) HST13.out.own hst14)
      have HXU14 := hide_ (HXU13.out.step (by decide) HST13.out.own hst14)
      clear hst14
      refine hK.out _ _ (⟨HB14, HB14.out.cell⟩) (fun hHeld => ?_)
      clear hK K
      refine wpAnyH_take (i := 13) (oi := ⟨some 4, _, _, _, _, _⟩) (v := ?v18) rfl (by kernel_rfl) (by kernel_rfl) (by kernel_rfl) (fun _ _ _ h => h) (Or.inl ⟨by rfl, ?hy18⟩) (by assumption) ?rest18
      case hy18 => intro w hSw; (try dsimp only at hSw); go_simp <;> with_reducible rfl
      simp only [Act.put, List.setIfInBounds_toArray, List.set_cons_zero, List.set_cons_succ]
      refine wpAnyH_done (by kernel_rfl) ?_ _
      have hzv : wo.heap.size < v14.heap.size := HB14.out.lt
      have hzv2 : w4.heap.size ≤ v14.heap.size := by omega
      have HBV := hide_ (show Below B w v14 from (HBW4.out.mono hB).trans (HST14.out.below (r0 := r1) HST4.out.own (by omega) (by omega)))
      have hcr := HB14.out.cell
      clear HST11 HST12 HST13 HB11 HB12 HB13 HXU11 HXU12 HXU13
      go_wp2_with fail
      refine (rfml5_any q4 q5 ⟨gA, gc, gl⟩ gn HGN.out w1.heap.size _ B _ HQQ.out.2.2.2.2.1 (by have := HNN.out; omega) HG24.out (toks_stable.below HG.out HBV.out) (by omega) HST14.out.own (by omega)).mono ?_
      rintro en v15 ⟨A15, c15, rfl, hst15⟩
      have HST15 := hide_ (HST14.out.trans hst15)
      have HB15 := hide_ (HB14.out.step (by decide) HST14.out.own hst15)
      have HXU15 := hide_ (HXU14.out.step (by decide) HST14.out.own hst15)
      clear hst15 hcr
      have hz15 : wo.heap.size < v15.heap.size := HB15.out.lt
      have hcr := HB15.out.cell
      go_wp2_with fail
      refine (num5_any q5 q6 sn w1.heap.size _ _ HQQ.out.2.2.2.2.2.1 (by omega) (by have := HNN.out; omega) HST15.out.own (by omega)).mono ?_
      rintro en v16 ⟨A16, c16, rfl, hst16⟩
      have HST16 := hide_ (HST15.out.trans hst16)
      have HB16 := hide_ (HB15.out.step (by decide) HST15.out.own hst16)
      have HXU16 := hide_ (HXU15.out.step (by decide) HST15.out.own hst16)
      clear hst16 hcr
      have hz16 : wo.heap.size < v16.heap.size := HB16.out.lt
      have hcr := HB16.out.cell
      go_wp2
      clear hcr hcx
      go_loopw [4, 60] (fun b i wl => ∃ (j : Nat), j ≤ sn ∧ i = .int .i64 j ∧ Hid (RowStep w1.heap.size (.slice A4 r1.length c4) w4 b wl (q6 ++ (sl.take j).flatMap setBy)) ∧ Hid (BoxAt wl wo.heap.size #[.int .i64 fr, .int .i64 xc, .int .i64 xp, .int .i64 tt, .slice gA gn gc, .slice sA sn sc, .slice eA ee ec] 40) ∧ Hid (BoxAt wl w.heap.size #[.int .i64 st, .int .i64 vs, .slice (some ⟨tb, ot, none⟩) n tc] 24)) (fun _ i _ => sn - (intOf i).toNat)
      case atStart => exact ⟨0, Nat.zero_le _, rfl, hide_ (by simpa using HST16.out), HB16.out, HXU16.out⟩
      case round =>
        obtain ⟨j, hj, rfl, HJ, HBJ, HXJ⟩ := hrel
        have hzj : w4.heap.size ≤ wr.heap.size := HJ.out.grow.size
        have hzo : wo.heap.size < wr.heap.size := HBJ.out.lt
        have hbj := hide_ (show Below B w wr from (HBW4.out.mono hB).trans (HJ.out.below (r0 := r1) HST4.out.own (by omega) (by omega)))
        have hcr := HBJ.out.cell
        by_cases hjl : j < sn
        · have hs2 := (sets_stable.below HSE.out hbj.out).2.2.1
          obtain ⟨y, hy⟩ : ∃ y, sl[j]? = some y := ⟨_, List.getElem?_eq_getElem (by rw [HSN.out]; exact hjl)⟩
          obtain ⟨ub, uo, hAe2, hab2, f0, f1⟩ := hs2.set hy
          have huz : ub < wr.heap.size := by omega
          subst hAe2
          have hyo := HSE.out.2.2.2 y (List.mem_of_getElem? hy)
          have hyp := HSP.out y (List.mem_of_getElem? hy)
          have hy24 := HS24.out y (List.mem_of_getElem? hy)
          have HYY := hide_ (show q6 ++ (sl.take (j + 1)).flatMap setBy = ((q6 ++ (sl.take j).flatMap setBy) ++ natB y.var) ++ fmlB y.val.l by
            rw [flat_snoc hy]
            unfold setBy
            simp only [List.append_assoc])
          have HLJ := hide_ (show (q6 ++ (sl.take j).flatMap setBy).length ≤ 304550 by
            have h1 := flat_take_le (f := setBy) (q := 500) sl (fun z hz => setBy_len (HSE.out.2.2.2 z hz) (HS24.out z hz)) j
            rw [HSN.out] at h1
            rw [List.length_append]
            have := HNN.out
            omega)
          obtain ⟨vr, ⟨vA, vc, vl⟩⟩ := y
          simp only at f0 f1 hyo hyp hy24 HYY
          obtain ⟨vn, hvn⟩ : ∃ n, vl.length = n := ⟨_, rfl⟩
          rw [hvn] at f1
          obtain ⟨m0, hm0⟩ : ∃ m, q6 ++ (sl.take j).flatMap setBy = m := ⟨_, rfl⟩
          obtain ⟨m2, hm2⟩ : ∃ m, q6 ++ (sl.take (j + 1)).flatMap setBy = m := ⟨_, rfl⟩
          rw [hm0] at HJ HLJ HYY
          rw [hm2] at HYY
          obtain ⟨m1, hm1⟩ : ∃ m, m0 ++ natB vr = m := ⟨_, rfl⟩
          rw [hm1] at HYY
          have HM1 := hide_ hm1
          have HM2 := hide_ hm2
          have HML := hide_ (show m1.length ≤ 304560 by rw [← hm1, List.length_append]; have := natB_len vr hyo.1.2; have := HLJ.out; omega)
          have HYV := hide_ (show 0 ≤ vr ∧ vr ≤ 9223372036854775807 from ⟨hyp, hyo.1.2⟩)
          have HYO := hide_ hyo.2
          have HY24 := hide_ hy24
          have HVN := hide_ hvn
          have HF := hide_ (fun (u : World) (hb : Below B wr u) (hx : BoxAt u wo.heap.size #[.int .i64 fr, .int .i64 xc, .int .i64 xp, .int .i64 tt, .slice gA gn gc, .slice (some ⟨ub, uo, none⟩) sn sc, .slice eA ee ec] 40) => show Hid (BoxAt u wo.heap.size #[.int .i64 fr, .int .i64 xc, .int .i64 xp, .int .i64 tt, .slice gA gn gc, .slice (some ⟨ub, uo, none⟩) sn sc, .slice eA ee ec] 40) ∧ (∀ i : Nat, u.cell? ⟨wo.heap.size, i, none⟩ = (#[.int .i64 fr, .int .i64 xc, .int .i64 xp, .int .i64 tt, .slice gA gn gc, .slice (some ⟨ub, uo, none⟩) sn sc, .slice eA ee ec] : Array Value)[i]?) ∧ u.cell? ⟨ub, uo + j * 2, none⟩ = some (.int .i64 vr) ∧ u.cell? ⟨ub, uo + j * 2 + 1, none⟩ = some (.slice vA vn vc) from ⟨hx, hx.cell, (hb.cell (p := ⟨ub, uo + j * 2, none⟩) hab2).trans f0, (hb.cell (p := ⟨ub, uo + j * 2 + 1, none⟩) hab2).trans f1⟩)
          have i1 : IntKind.i64.wrap (j : Int) = j := IntWalk.i64_in _ (by omega)
          clear hm0 hm1 hm2 hy hs2 hyo hyp hy24 hvn f0 f1 hcr
          go_upto_region 14 with fail
          refine wp_region_held_drew (S := fun w' => Hid (BoxAt w' wo.heap.size #[.int .i64 fr, .int .i64 xc, .int .i64 xp, .int .i64 tt, .slice gA gn gc, .slice (some ⟨ub, uo, none⟩) sn sc, .slice eA ee ec] 40) ∧ (∀ i : Nat, w'.cell? ⟨wo.heap.size, i, none⟩ = (#[.int .i64 fr, .int .i64 xc, .int .i64 xp, .int .i64 tt, .slice gA gn gc, .slice (some ⟨ub, uo, none⟩) sn sc, .slice eA ee ec] : Array Value)[i]?) ∧ w'.cell? ⟨ub, uo + j * 2, none⟩ = some (.int .i64 vr) ∧ w'.cell? ⟨ub, uo + j * 2 + 1, none⟩ = some (.slice vA vn vc)) (by kernel_rfl) (HF.out _ (Below.refl _ _).drew HBJ.out) (fun hHeld => ?_)
          refine wpAnyH_take (i := 0) (oi := ⟨some 63, _, _, _, _, _⟩) (v := ?v19) rfl (by kernel_rfl) (by kernel_rfl) (by kernel_rfl) (fun _ _ _ h => h) (Or.inl ⟨by rfl, ?hy19⟩) (by assumption) ?rest19
          case hy19 => intro w hSw; (try dsimp only at hSw); go_simp <;> with_reducible rfl
          simp only [Act.put, List.setIfInBounds_toArray, List.set_cons_zero, List.set_cons_succ]
          refine wpAnyH_take (i := 1) (oi := ⟨some 64, _, _, _, _, _⟩) (v := ?v20) rfl (by kernel_rfl) (by kernel_rfl) (by kernel_rfl) (fun _ _ _ h => h) (Or.inl ⟨by rfl, ?hy20⟩) (by assumption) ?rest20
          case hy20 => intro w hSw; (try dsimp only at hSw); go_simp <;> with_reducible rfl
          simp only [Act.put, List.setIfInBounds_toArray, List.set_cons_zero, List.set_cons_succ]
          refine wpAnyH_take (i := 2) (oi := ⟨some 65, _, _, _, _, _⟩) (v := ?v21) rfl (by kernel_rfl) (by kernel_rfl) (by kernel_rfl) (fun _ _ _ h => h) (Or.inl ⟨by rfl, ?hy21⟩) (by assumption) ?rest21
          case hy21 => intro w hSw; (try dsimp only at hSw); go_simp <;> with_reducible rfl
          simp only [Act.put, List.setIfInBounds_toArray, List.set_cons_zero, List.set_cons_succ]
          refine wpAnyH_take (i := 3) (oi := ⟨some 66, _, _, _, _, _⟩) (v := ?v22) rfl (by kernel_rfl) (by kernel_rfl) (by kernel_rfl) (fun _ _ _ h => h) (Or.inl ⟨by rfl, ?hy22⟩) (by assumption) ?rest22
          case hy22 => intro w hSw; (try dsimp only at hSw); go_simp <;> with_reducible rfl
          simp only [Act.put, List.setIfInBounds_toArray, List.set_cons_zero, List.set_cons_succ]
          refine wpAnyH_take (i := 4) (oi := ⟨some 67, _, _, _, _, _⟩) (v := ?v23) rfl (by kernel_rfl) (by kernel_rfl) (by kernel_rfl) (fun _ _ _ h => h) (Or.inl ⟨by rfl, ?hy23⟩) (by assumption) ?rest23
          case hy23 => intro w hSw; (try dsimp only at hSw); go_simp <;> with_reducible rfl
          simp only [Act.put, List.setIfInBounds_toArray, List.set_cons_zero, List.set_cons_succ]
          refine wpAnyH_take (i := 5) (oi := ⟨some 68, _, _, _, _, _⟩) (v := ?v24) rfl (by kernel_rfl) (by kernel_rfl) (by kernel_rfl) (fun _ _ _ h => h) (Or.inl ⟨by rfl, ?hy24⟩) (by assumption) ?rest24
          case hy24 => intro w hSw; (try dsimp only at hSw); go_simp <;> with_reducible rfl
          simp only [Act.put, List.setIfInBounds_toArray, List.set_cons_zero, List.set_cons_succ]
          refine wpAnyH_take (i := 6) (oi := ⟨some 69, _, _, _, _, _⟩) (v := ?v25) rfl (by kernel_rfl) (by kernel_rfl) (by kernel_rfl) (fun _ _ _ h => h) (Or.inl ⟨by rfl, ?hy25⟩) (by assumption) ?rest25
          case hy25 => intro w hSw; (try dsimp only at hSw); go_simp <;> with_reducible rfl
          simp only [Act.put, List.setIfInBounds_toArray, List.set_cons_zero, List.set_cons_succ]
          refine wpAnyH_take (i := 8) (oi := ⟨some 71, _, _, _, _, _⟩) (v := ?v26) rfl (by kernel_rfl) (by kernel_rfl) (by kernel_rfl) (fun _ _ _ h => h) (Or.inl ⟨by rfl, ?hy26⟩) (by assumption) ?rest26
          case hy26 => intro w hSw; (try dsimp only at hSw); go_simp <;> with_reducible rfl
          simp only [Act.put, List.setIfInBounds_toArray, List.set_cons_zero, List.set_cons_succ]
          refine wpAnyH_take (i := 9) (oi := ⟨some 72, _, _, _, _, _⟩) (v := ?v27) rfl (by kernel_rfl) (by kernel_rfl) (by kernel_rfl) (fun _ _ _ h => h) (Or.inl ⟨by rfl, ?hy27⟩) (by assumption) ?rest27
          case hy27 => intro w hSw; (try dsimp only at hSw); go_simp <;> with_reducible rfl
          simp only [Act.put, List.setIfInBounds_toArray, List.set_cons_zero, List.set_cons_succ]
          refine wpAnyH_take (i := 10) (oi := ⟨some 73, _, _, _, _, _⟩) (v := ?v28) rfl (by kernel_rfl) (by kernel_rfl) (by kernel_rfl) (fun _ _ _ h => h) (Or.inl ⟨by rfl, ?hy28⟩) (by assumption) ?rest28
          case hy28 => intro w hSw; (try dsimp only at hSw); go_simp <;> with_reducible rfl
          simp only [Act.put, List.setIfInBounds_toArray, List.set_cons_zero, List.set_cons_succ]
          refine wpAnyH_take (i := 11) (oi := ⟨some 74, _, _, _, _, _⟩) (v := ?v29) rfl (by kernel_rfl) (by kernel_rfl) (by kernel_rfl) (fun _ _ _ h => h) (Or.inl ⟨by rfl, ?hy29⟩) (by assumption) ?rest29
          case hy29 => intro w hSw; (try dsimp only at hSw); go_simp <;> with_reducible rfl
          simp only [Act.put, List.setIfInBounds_toArray, List.set_cons_zero, List.set_cons_succ]
          refine wpAnyH_take (i := 12) (oi := ⟨some 75, _, _, _, _, _⟩) (v := ?v30) rfl (by kernel_rfl) (by kernel_rfl) (by kernel_rfl) (fun _ _ _ h => h) (Or.inl ⟨by rfl, ?hy30⟩) (by assumption) ?rest30
          case hy30 => intro w hSw; (try dsimp only at hSw); go_simp <;> with_reducible rfl
          simp only [Act.put, List.setIfInBounds_toArray, List.set_cons_zero, List.set_cons_succ]
          refine wpAnyH_take (i := 13) (oi := ⟨some 76, _, _, _, _, _⟩) (v := ?v31) rfl (by kernel_rfl) (by kernel_rfl) (by kernel_rfl) (fun _ _ _ h => h) (Or.inl ⟨by rfl, ?hy31⟩) (by assumption) ?rest31
          case hy31 => intro w hSw; (try dsimp only at hSw); go_simp <;> with_reducible rfl
          simp only [Act.put, List.setIfInBounds_toArray, List.set_cons_zero, List.set_cons_succ]
          refine wpAnyH_ready (rs := [7]) (by kernel_rfl) (by simp) ?_
          refine AllReadyH.cons rfl (fun K hK => ?_) AllReadyH.nil
          go_simp
          go_wp2_with fail
          refine (num5_any m0 m1 vr w1.heap.size _ _ HM1.out HYV.out (by have := HLJ.out; omega) (own_below HJ.out.own (Below.refl _ _).drew) (by first | omega | (simp; omega))).mono ?_
          rintro en v21 ⟨A21, c21, rfl, hst21⟩
          have HSTX21 := hide_ (RowStep.fresh (Below.refl _ _).drew hst21)
          have HST21 := hide_ (HJ.out.trans HSTX21.out)
          have HB21 := hide_ (HBJ.out.step (by decide) HJ.out.own HSTX21.out)
          have HXU21 := hide_ (HXJ.out.step (by decide) HJ.out.own HSTX21.out)
          have HBL21 := hide_ (show Below B wr v21 from (HSTX21.out.below HJ.out.own (by omega) (by omega)))
          clear hst21
          refine hK.out _ _ (HF.out _ HBL21.out HB21.out) (fun hHeld => ?_)
          clear hK K
          refine wpAnyH_ready (rs := [14]) (by kernel_rfl) (by simp) ?_
          refine AllReadyH.cons rfl (fun K hK => ?_) AllReadyH.nil
          go_simp
          go_wp2_with fail
          refine (rfml5_any m1 m2 ⟨vA, vc, vl⟩ vn HVN.out w1.heap.size _ B _ HYY.out.symm (by have := HML.out; omega) HY24.out (toks_stable.below HYO.out (hbj.out.trans HBL21.out)) (by omega) HST21.out.own (by have := HST21.out.grow.size; omega)).mono ?_
          rintro en v22 ⟨A22, c22, rfl, hst22⟩
          have HSTX22 := hide_ hst22
          have HST22 := hide_ (HST21.out.trans HSTX22.out)
          have HB22 := hide_ (HB21.out.step (by decide) HST21.out.own HSTX22.out)
          have HXU22 := hide_ (HXU21.out.step (by decide) HST21.out.own HSTX22.out)
          have HBL22 := hide_ (show Below B wr v22 from HBL21.out.trans (HSTX22.out.below HST21.out.own (by omega) (by have := HBL21.out.size; omega)))
          clear hst22
          refine hK.out _ _ (HF.out _ HBL22.out HB22.out) (fun hHeld => ?_)
          clear hK K
          refine wpAnyH_take (i := 15) (oi := ⟨some 4, _, _, _, _, _⟩) (v := ?v32) rfl (by kernel_rfl) (by kernel_rfl) (by kernel_rfl) (fun _ _ _ h => h) (Or.inl ⟨by rfl, ?hy32⟩) (by assumption) ?rest32
          case hy32 => intro w hSw; (try dsimp only at hSw); go_simp <;> with_reducible rfl
          simp only [Act.put, List.setIfInBounds_toArray, List.set_cons_zero, List.set_cons_succ]
          refine wpAnyH_done (by kernel_rfl) ?_ _
          go_wp2_with fail
          go_roundw
          case rel => exact ⟨j + 1, by omega, by go_num, hide_ (by rw [HM2.out]; exact HST22.out), HB22, HXU22⟩
          case measure => simp [intOf]; omega
        have hjs : sn = j := by omega
        subst hjs
        have HJ2 := hide_ (show RowStep w1.heap.size (.slice A4 r1.length c4) w4 _ wr q7 by
          have h := HJ.out
          rwa [← HSN.out, List.take_length, HQQ.out.2.2.2.2.2.2.1] at h)
        clear HJ
        go_wp2_with fail
        refine (num5_any q7 q8 ee w1.heap.size _ _ HQQ.out.2.2.2.2.2.2.2.1 (by omega) (by have := HNN.out; omega) HJ2.out.own (by omega)).mono ?_
        rintro en v31 ⟨A31, c31, rfl, hst31⟩
        have HST31 := hide_ (HJ2.out.trans hst31)
        have HB31 := hide_ (HBJ.out.step (by decide) HJ2.out.own hst31)
        have HXU31 := hide_ (HXJ.out.step (by decide) HJ2.out.own hst31)
        clear hst31 hcr
        have hz31 : wo.heap.size < v31.heap.size := HB31.out.lt
        have hcr := HB31.out.cell
        go_wp2
        clear hcr
        go_loopw [4, 87] (fun b i wl => ∃ (j : Nat), j ≤ ee ∧ i = .int .i64 j ∧ Hid (RowStep w1.heap.size (.slice A4 r1.length c4) w4 b wl (q8 ++ (el.take j).flatMap emBy)) ∧ Hid (BoxAt wl wo.heap.size #[.int .i64 fr, .int .i64 xc, .int .i64 xp, .int .i64 tt, .slice gA gn gc, .slice sA sn sc, .slice eA ee ec] 40) ∧ Hid (BoxAt wl w.heap.size #[.int .i64 st, .int .i64 vs, .slice (some ⟨tb, ot, none⟩) n tc] 24)) (fun _ i _ => ee - (intOf i).toNat)
        case atStart => exact ⟨0, Nat.zero_le _, rfl, hide_ (by simpa using HST31.out), HB31.out, HXU31.out⟩
        case round =>
          obtain ⟨j, hj, rfl, HJ, HBJ, HXJ⟩ := hrel
          have hzj : w4.heap.size ≤ wr.heap.size := HJ.out.grow.size
          have hzo : wo.heap.size < wr.heap.size := HBJ.out.lt
          have hbj := hide_ (show Below B w wr from (HBW4.out.mono hB).trans (HJ.out.below (r0 := r1) HST4.out.own (by omega) (by omega)))
          have hcr := HBJ.out.cell
          by_cases hjl : j < ee
          · have hs2 := (ems_stable.below HEM.out hbj.out).2.2.1
            obtain ⟨y, hy⟩ : ∃ y, el[j]? = some y := ⟨_, List.getElem?_eq_getElem (by rw [HEN.out]; exact hjl)⟩
            obtain ⟨ub, uo, hAe2, hab2, f0, f1, f2⟩ := hs2.em hy
            have huz : ub < wr.heap.size := by omega
            subst hAe2
            have hyo := HEM.out.2.2.2 y (List.mem_of_getElem? hy)
            have hyp := HEP.out y (List.mem_of_getElem? hy)
            have hy24 := HE24.out y (List.mem_of_getElem? hy)
            have HYY := hide_ (show q8 ++ (el.take (j + 1)).flatMap emBy = (((q8 ++ (el.take j).flatMap emBy) ++ natB y.tg) ++ natB y.ac) ++ fmlB y.arg.l by
              rw [flat_snoc hy]
              unfold emBy
              simp only [List.append_assoc])
            have HLJ := hide_ (show (q8 ++ (el.take j).flatMap emBy).length ≤ 306700 by
              have h1 := flat_take_le (f := emBy) (q := 510) el (fun z hz => emBy_len (HEM.out.2.2.2 z hz) (HE24.out z hz)) j
              rw [HEN.out] at h1
              rw [List.length_append]
              have := HNN.out
              omega)
            obtain ⟨tg, xac, ⟨vA, vc, vl⟩⟩ := y
            simp only at f0 f1 f2 hyo hyp hy24 HYY
            obtain ⟨vn, hvn⟩ : ∃ n, vl.length = n := ⟨_, rfl⟩
            rw [hvn] at f2
            obtain ⟨m0, hm0⟩ : ∃ m, q8 ++ (el.take j).flatMap emBy = m := ⟨_, rfl⟩
            obtain ⟨m2, hm2⟩ : ∃ m, q8 ++ (el.take (j + 1)).flatMap emBy = m := ⟨_, rfl⟩
            rw [hm0] at HJ HLJ HYY
            rw [hm2] at HYY
            obtain ⟨m1, hm1⟩ : ∃ m, m0 ++ natB tg = m := ⟨_, rfl⟩
            rw [hm1] at HYY
            obtain ⟨m3, hm3⟩ : ∃ m, m1 ++ natB xac = m := ⟨_, rfl⟩
            rw [hm3] at HYY
            have ht1 : 0 ≤ tg := hyo.1.1
            have ht2 : tg ≤ 255 := hyo.1.2
            have HM1 := hide_ hm1
            have HM2 := hide_ hm2
            have HM3 := hide_ hm3
            have HML := hide_ (show m1.length ≤ 306710 ∧ m3.length ≤ 306720 by
              have h1 := HLJ.out
              rw [← hm3, ← hm1]
              simp only [List.length_append]
              have := natB_len tg (by omega)
              have := natB_len xac hyo.2.1.2
              omega)
            have HYV := hide_ (show (0 ≤ tg ∧ tg ≤ 9223372036854775807) ∧ (0 ≤ xac ∧ xac ≤ 9223372036854775807) from ⟨⟨ht1, by omega⟩, ⟨hyp, hyo.2.1.2⟩⟩)
            have HYO := hide_ hyo.2.2
            have HY24 := hide_ hy24
            have HVN := hide_ hvn
            have HF := hide_ (fun (u : World) (hb : Below B wr u) (hx : BoxAt u wo.heap.size #[.int .i64 fr, .int .i64 xc, .int .i64 xp, .int .i64 tt, .slice gA gn gc, .slice sA sn sc, .slice (some ⟨ub, uo, none⟩) ee ec] 40) => show Hid (BoxAt u wo.heap.size #[.int .i64 fr, .int .i64 xc, .int .i64 xp, .int .i64 tt, .slice gA gn gc, .slice sA sn sc, .slice (some ⟨ub, uo, none⟩) ee ec] 40) ∧ (∀ i : Nat, u.cell? ⟨wo.heap.size, i, none⟩ = (#[.int .i64 fr, .int .i64 xc, .int .i64 xp, .int .i64 tt, .slice gA gn gc, .slice sA sn sc, .slice (some ⟨ub, uo, none⟩) ee ec] : Array Value)[i]?) ∧ u.cell? ⟨ub, uo + j * 3, none⟩ = some (.int .u8 tg) ∧ u.cell? ⟨ub, uo + j * 3 + 1, none⟩ = some (.int .i64 xac) ∧ u.cell? ⟨ub, uo + j * 3 + 2, none⟩ = some (.slice vA vn vc) from ⟨hx, hx.cell, (hb.cell (p := ⟨ub, uo + j * 3, none⟩) hab2).trans f0, (hb.cell (p := ⟨ub, uo + j * 3 + 1, none⟩) hab2).trans f1, (hb.cell (p := ⟨ub, uo + j * 3 + 2, none⟩) hab2).trans f2⟩)
            have i1 : IntKind.i64.wrap (j : Int) = j := IntWalk.i64_in _ (by omega)
            have hwo : IntKind.i64.wrap tg = tg := IntWalk.i64_in _ (by omega)
            clear hm0 hm1 hm2 hm3 hy hs2 hyo hyp hy24 hvn f0 f1 f2 hcr
            go_upto_region 20 with fail
            refine wp_region_held_drew (S := fun w' => Hid (BoxAt w' wo.heap.size #[.int .i64 fr, .int .i64 xc, .int .i64 xp, .int .i64 tt, .slice gA gn gc, .slice sA sn sc, .slice (some ⟨ub, uo, none⟩) ee ec] 40) ∧ (∀ i : Nat, w'.cell? ⟨wo.heap.size, i, none⟩ = (#[.int .i64 fr, .int .i64 xc, .int .i64 xp, .int .i64 tt, .slice gA gn gc, .slice sA sn sc, .slice (some ⟨ub, uo, none⟩) ee ec] : Array Value)[i]?) ∧ w'.cell? ⟨ub, uo + j * 3, none⟩ = some (.int .u8 tg) ∧ w'.cell? ⟨ub, uo + j * 3 + 1, none⟩ = some (.int .i64 xac) ∧ w'.cell? ⟨ub, uo + j * 3 + 2, none⟩ = some (.slice vA vn vc)) (by kernel_rfl) (HF.out _ (Below.refl _ _).drew HBJ.out) (fun hHeld => ?_)
            refine wpAnyH_take (i := 0) (oi := ⟨some 90, _, _, _, _, _⟩) (v := ?v33) rfl (by kernel_rfl) (by kernel_rfl) (by kernel_rfl) (fun _ _ _ h => h) (Or.inl ⟨by rfl, ?hy33⟩) (by assumption) ?rest33
            case hy33 => intro w hSw; (try dsimp only at hSw); go_simp <;> with_reducible rfl
            simp only [Act.put, List.setIfInBounds_toArray, List.set_cons_zero, List.set_cons_succ]
            refine wpAnyH_take (i := 1) (oi := ⟨some 91, _, _, _, _, _⟩) (v := ?v34) rfl (by kernel_rfl) (by kernel_rfl) (by kernel_rfl) (fun _ _ _ h => h) (Or.inl ⟨by rfl, ?hy34⟩) (by assumption) ?rest34
            case hy34 => intro w hSw; (try dsimp only at hSw); go_simp <;> with_reducible rfl
            simp only [Act.put, List.setIfInBounds_toArray, List.set_cons_zero, List.set_cons_succ]
            refine wpAnyH_take (i := 2) (oi := ⟨some 92, _, _, _, _, _⟩) (v := ?v35) rfl (by kernel_rfl) (by kernel_rfl) (by kernel_rfl) (fun _ _ _ h => h) (Or.inl ⟨by rfl, ?hy35⟩) (by assumption) ?rest35
            case hy35 => intro w hSw; (try dsimp only at hSw); go_simp <;> with_reducible rfl
            simp only [Act.put, List.setIfInBounds_toArray, List.set_cons_zero, List.set_cons_succ]
            refine wpAnyH_take (i := 3) (oi := ⟨some 93, _, _, _, _, _⟩) (v := ?v36) rfl (by kernel_rfl) (by kernel_rfl) (by kernel_rfl) (fun _ _ _ h => h) (Or.inl ⟨by rfl, ?hy36⟩) (by assumption) ?rest36
            case hy36 => intro w hSw; (try dsimp only at hSw); go_simp <;> with_reducible rfl
            simp only [Act.put, List.setIfInBounds_toArray, List.set_cons_zero, List.set_cons_succ]
            refine wpAnyH_take (i := 4) (oi := ⟨some 94, _, _, _, _, _⟩) (v := ?v37) rfl (by kernel_rfl) (by kernel_rfl) (by kernel_rfl) (fun _ _ _ h => h) (Or.inl ⟨by rfl, ?hy37⟩) (by assumption) ?rest37
            case hy37 => intro w hSw; (try dsimp only at hSw); go_simp <;> with_reducible rfl
            simp only [Act.put, List.setIfInBounds_toArray, List.set_cons_zero, List.set_cons_succ]
            refine wpAnyH_take (i := 5) (oi := ⟨some 95, _, _, _, _, _⟩) (v := ?v38) rfl (by kernel_rfl) (by kernel_rfl) (by kernel_rfl) (fun _ _ _ h => h) (Or.inl ⟨by rfl, ?hy38⟩) (by assumption) ?rest38
            case hy38 => intro w hSw; (try dsimp only at hSw); go_simp <;> with_reducible rfl
            simp only [Act.put, List.setIfInBounds_toArray, List.set_cons_zero, List.set_cons_succ]
            refine wpAnyH_take (i := 6) (oi := ⟨some 96, _, _, _, _, _⟩) (v := ?v39) rfl (by kernel_rfl) (by kernel_rfl) (by kernel_rfl) (fun _ _ _ h => h) (Or.inl ⟨by rfl, ?hy39⟩) (by assumption) ?rest39
            case hy39 => intro w hSw; (try dsimp only at hSw); go_simp <;> with_reducible rfl
            simp only [Act.put, List.setIfInBounds_toArray, List.set_cons_zero, List.set_cons_succ]
            refine wpAnyH_take (i := 7) (oi := ⟨some 97, _, _, _, _, _⟩) (v := ?v40) rfl (by kernel_rfl) (by kernel_rfl) (by kernel_rfl) (fun _ _ _ h => h) (Or.inl ⟨by rfl, ?hy40⟩) (by assumption) ?rest40
            case hy40 => intro w hSw; (try dsimp only at hSw); go_simp <;> with_reducible rfl
            simp only [Act.put, List.setIfInBounds_toArray, List.set_cons_zero, List.set_cons_succ]
            refine wpAnyH_take (i := 9) (oi := ⟨some 99, _, _, _, _, _⟩) (v := ?v41) rfl (by kernel_rfl) (by kernel_rfl) (by kernel_rfl) (fun _ _ _ h => h) (Or.inl ⟨by rfl, ?hy41⟩) (by assumption) ?rest41
            case hy41 => intro w hSw; (try dsimp only at hSw); go_simp <;> with_reducible rfl
            simp only [Act.put, List.setIfInBounds_toArray, List.set_cons_zero, List.set_cons_succ]
            refine wpAnyH_take (i := 10) (oi := ⟨some 100, _, _, _, _, _⟩) (v := ?v42) rfl (by kernel_rfl) (by kernel_rfl) (by kernel_rfl) (fun _ _ _ h => h) (Or.inl ⟨by rfl, ?hy42⟩) (by assumption) ?rest42
            case hy42 => intro w hSw; (try dsimp only at hSw); go_simp <;> with_reducible rfl
            simp only [Act.put, List.setIfInBounds_toArray, List.set_cons_zero, List.set_cons_succ]
            refine wpAnyH_take (i := 11) (oi := ⟨some 101, _, _, _, _, _⟩) (v := ?v43) rfl (by kernel_rfl) (by kernel_rfl) (by kernel_rfl) (fun _ _ _ h => h) (Or.inl ⟨by rfl, ?hy43⟩) (by assumption) ?rest43
            case hy43 => intro w hSw; (try dsimp only at hSw); go_simp <;> with_reducible rfl
            simp only [Act.put, List.setIfInBounds_toArray, List.set_cons_zero, List.set_cons_succ]
            refine wpAnyH_take (i := 12) (oi := ⟨some 102, _, _, _, _, _⟩) (v := ?v44) rfl (by kernel_rfl) (by kernel_rfl) (by kernel_rfl) (fun _ _ _ h => h) (Or.inl ⟨by rfl, ?hy44⟩) (by assumption) ?rest44
            case hy44 => intro w hSw; (try dsimp only at hSw); go_simp <;> with_reducible rfl
            simp only [Act.put, List.setIfInBounds_toArray, List.set_cons_zero, List.set_cons_succ]
            refine wpAnyH_take (i := 13) (oi := ⟨some 103, _, _, _, _, _⟩) (v := ?v45) rfl (by kernel_rfl) (by kernel_rfl) (by kernel_rfl) (fun _ _ _ h => h) (Or.inl ⟨by rfl, ?hy45⟩) (by assumption) ?rest45
            case hy45 => intro w hSw; (try dsimp only at hSw); go_simp <;> with_reducible rfl
            simp only [Act.put, List.setIfInBounds_toArray, List.set_cons_zero, List.set_cons_succ]
            refine wpAnyH_take (i := 14) (oi := ⟨some 104, _, _, _, _, _⟩) (v := ?v46) rfl (by kernel_rfl) (by kernel_rfl) (by kernel_rfl) (fun _ _ _ h => h) (Or.inl ⟨by rfl, ?hy46⟩) (by assumption) ?rest46
            case hy46 => intro w hSw; (try dsimp only at hSw); go_simp <;> with_reducible rfl
            simp only [Act.put, List.setIfInBounds_toArray, List.set_cons_zero, List.set_cons_succ]
            refine wpAnyH_take (i := 16) (oi := ⟨some 106, _, _, _, _, _⟩) (v := ?v47) rfl (by kernel_rfl) (by kernel_rfl) (by kernel_rfl) (fun _ _ _ h => h) (Or.inl ⟨by rfl, ?hy47⟩) (by assumption) ?rest47
            case hy47 => intro w hSw; (try dsimp only at hSw); go_simp <;> with_reducible rfl
            simp only [Act.put, List.setIfInBounds_toArray, List.set_cons_zero, List.set_cons_succ]
            refine wpAnyH_take (i := 17) (oi := ⟨some 107, _, _, _, _, _⟩) (v := ?v48) rfl (by kernel_rfl) (by kernel_rfl) (by kernel_rfl) (fun _ _ _ h => h) (Or.inl ⟨by rfl, ?hy48⟩) (by assumption) ?rest48
            case hy48 => intro w hSw; (try dsimp only at hSw); go_simp <;> with_reducible rfl
            simp only [Act.put, List.setIfInBounds_toArray, List.set_cons_zero, List.set_cons_succ]
            refine wpAnyH_take (i := 18) (oi := ⟨some 108, _, _, _, _, _⟩) (v := ?v49) rfl (by kernel_rfl) (by kernel_rfl) (by kernel_rfl) (fun _ _ _ h => h) (Or.inl ⟨by rfl, ?hy49⟩) (by assumption) ?rest49
            case hy49 => intro w hSw; (try dsimp only at hSw); go_simp <;> with_reducible rfl
            simp only [Act.put, List.setIfInBounds_toArray, List.set_cons_zero, List.set_cons_succ]
            refine wpAnyH_take (i := 19) (oi := ⟨some 109, _, _, _, _, _⟩) (v := ?v50) rfl (by kernel_rfl) (by kernel_rfl) (by kernel_rfl) (fun _ _ _ h => h) (Or.inl ⟨by rfl, ?hy50⟩) (by assumption) ?rest50
            case hy50 => intro w hSw; (try dsimp only at hSw); go_simp <;> with_reducible rfl
            simp only [Act.put, List.setIfInBounds_toArray, List.set_cons_zero, List.set_cons_succ]
            refine wpAnyH_take (i := 20) (oi := ⟨some 110, _, _, _, _, _⟩) (v := ?v51) rfl (by kernel_rfl) (by kernel_rfl) (by kernel_rfl) (fun _ _ _ h => h) (Or.inl ⟨by rfl, ?hy51⟩) (by assumption) ?rest51
            case hy51 => intro w hSw; (try dsimp only at hSw); go_simp <;> with_reducible rfl
            simp only [Act.put, List.setIfInBounds_toArray, List.set_cons_zero, List.set_cons_succ]
            refine wpAnyH_take (i := 21) (oi := ⟨some 111, _, _, _, _, _⟩) (v := ?v52) rfl (by kernel_rfl) (by kernel_rfl) (by kernel_rfl) (fun _ _ _ h => h) (Or.inl ⟨by rfl, ?hy52⟩) (by assumption) ?rest52
            case hy52 => intro w hSw; (try dsimp only at hSw); go_simp <;> with_reducible rfl
            simp only [Act.put, List.setIfInBounds_toArray, List.set_cons_zero, List.set_cons_succ]
            refine wpAnyH_ready (rs := [8]) (by kernel_rfl) (by simp) ?_
            refine AllReadyH.cons rfl (fun K hK => ?_) AllReadyH.nil
            go_simp
            go_wp2_with fail
            refine (num5_any m0 m1 tg w1.heap.size _ _ HM1.out HYV.out.1 (by have := HLJ.out; omega) (own_below HJ.out.own (Below.refl _ _).drew) (by first | omega | (simp; omega))).mono ?_
            rintro en v41 ⟨A41, c41, rfl, hst41⟩
            have HSTX41 := hide_ (RowStep.fresh (Below.refl _ _).drew hst41)
            have HST41 := hide_ (HJ.out.trans HSTX41.out)
            have HB41 := hide_ (HBJ.out.step (by decide) HJ.out.own HSTX41.out)
            have HXU41 := hide_ (HXJ.out.step (by decide) HJ.out.own HSTX41.out)
            have HBL41 := hide_ (show Below B wr v41 from (HSTX41.out.below HJ.out.own (by omega) (by omega)))
            clear hst41
            refine hK.out _ _ (HF.out _ HBL41.out HB41.out) (fun hHeld => ?_)
            clear hK K
            refine wpAnyH_ready (rs := [15]) (by kernel_rfl) (by simp) ?_
            refine AllReadyH.cons rfl (fun K hK => ?_) AllReadyH.nil
            go_simp
            go_wp2_with fail
            refine (num5_any m1 m3 xac w1.heap.size _ _ HM3.out HYV.out.2 (by have := HML.out; omega) HST41.out.own (by have := HST41.out.grow.size; omega)).mono ?_
            rintro en v42 ⟨A42, c42, rfl, hst42⟩
            have HSTX42 := hide_ hst42
            have HST42 := hide_ (HST41.out.trans HSTX42.out)
            have HB42 := hide_ (HB41.out.step (by decide) HST41.out.own HSTX42.out)
            have HXU42 := hide_ (HXU41.out.step (by decide) HST41.out.own HSTX42.out)
            have HBL42 := hide_ (show Below B wr v42 from HBL41.out.trans (HSTX42.out.below HST41.out.own (by omega) (by have := HBL41.out.size; omega)))
            clear hst42
            refine hK.out _ _ (HF.out _ HBL42.out HB42.out) (fun hHeld => ?_)
            clear hK K
            refine wpAnyH_ready (rs := [22]) (by kernel_rfl) (by simp) ?_
            refine AllReadyH.cons rfl (fun K hK => ?_) AllReadyH.nil
            go_simp
            go_wp2_with fail
            refine (rfml5_any m3 m2 ⟨vA, vc, vl⟩ vn HVN.out w1.heap.size _ B _ HYY.out.symm (by have := HML.out; omega) HY24.out (toks_stable.below HYO.out (hbj.out.trans HBL42.out)) (by omega) HST42.out.own (by have := HST42.out.grow.size; omega)).mono ?_
            rintro en v43 ⟨A43, c43, rfl, hst43⟩
            have HSTX43 := hide_ hst43
            have HST43 := hide_ (HST42.out.trans HSTX43.out)
            have HB43 := hide_ (HB42.out.step (by decide) HST42.out.own HSTX43.out)
            have HXU43 := hide_ (HXU42.out.step (by decide) HST42.out.own HSTX43.out)
            have HBL43 := hide_ (show Below B wr v43 from HBL42.out.trans (HSTX43.out.below HST42.out.own (by omega) (by have := HBL42.out.size; omega)))
            clear hst43
            refine hK.out _ _ (HF.out _ HBL43.out HB43.out) (fun hHeld => ?_)
            clear hK K
            refine wpAnyH_take (i := 23) (oi := ⟨some 4, _, _, _, _, _⟩) (v := ?v53) rfl (by kernel_rfl) (by kernel_rfl) (by kernel_rfl) (fun _ _ _ h => h) (Or.inl ⟨by rfl, ?hy53⟩) (by assumption) ?rest53
            case hy53 => intro w hSw; (try dsimp only at hSw); go_simp <;> with_reducible rfl
            simp only [Act.put, List.setIfInBounds_toArray, List.set_cons_zero, List.set_cons_succ]
            refine wpAnyH_done (by kernel_rfl) ?_ _
            go_wp2_with fail
            go_roundw
            case rel => exact ⟨j + 1, by omega, by go_num, hide_ (by rw [HM2.out]; exact HST43.out), HB43, HXU43⟩
            case measure => simp [intOf]; omega
          have hjs : ee = j := by omega
          subst hjs
          have HJ2 := hide_ (show RowStep w1.heap.size (.slice A4 r1.length c4) w4 _ wr l2 by
            have h := HJ.out
            rwa [← HEN.out, List.take_length, HQQ.out.2.2.2.2.2.2.2.2] at h)
          clear HJ
          go_wp2_with fail
          go_roundw
          case rel => exact ⟨k + 1, by omega, by go_num, hide_ (by rw [HL2.out]; exact HJ2.out), HXJ⟩
          case measure => simp [intOf]; omega

end Go.Proofs.Ytkjgplcfoihohaa
