/-
  Contract of the reference's Find.
-/
import Derived.Test.YtkjgplcfoihohaaRefT2
namespace Go.Proofs.Ytkjgplcfoihohaa
open Go.RowKit

theorem takI_hit {sa ac pa : Int} {vars : List Int} {arg : Int} {l : List RuM} {k : Nat} (hk : k < l.length) (h : takX sa ac pa vars arg l k = true) (hb : ∀ j, j < k → takX sa ac pa vars arg l j = false) : takI sa ac pa vars arg l = k := idxI_hit hk h hb
theorem takI_none {sa ac pa : Int} {vars : List Int} {arg : Int} {l : List RuM} (hb : ∀ j, j < l.length → takX sa ac pa vars arg l j = false) : takI sa ac pa vars arg l = -1 := idxI_none hb

set_option maxRecDepth 100000 in
set_option maxHeartbeats 1600000 in
theorem refFind_any (st vs : Int) (t : Sl RuM) (sa ac pa : Int) (vars : List Int) (V : Option Addr) (m k : Nat) (arg : Int) (B : Nat) (w : World) (hm : vars.length = m) (hs : rusOk w B t) (hsv : Sees w B V (iv vars)) (hvi : ∀ v ∈ vars, I64 v) (ha : I64 arg) (hB : B ≤ w.heap.size) :
    Calls Try.prog 43 #[tabV st vs t, .int .i64 sa, .int .i64 ac, .int .i64 pa, .slice V m k, .int .i64 arg] w fun e w' => e = .returned (.int .i64 (findI st vs t.l sa ac pa vars arg)) ∧ Below w.heap.size w w' := by
  obtain ⟨tA, tc, tl⟩ := t
  obtain ⟨n, hn⟩ : ∃ n, tl.length = n := ⟨_, rfl⟩
  have hnm : n ≤ 9223372036854775807 := by have h1 := hs.1; have h2 := hs.2.1; unfold maxLen at h2; simp only [hn] at h1 h2; omega
  have hw1 : Below w.heap.size w (w.alloc (.cells #[.int .i64 st, .int .i64 vs, .slice tA n tc] 24)) := (Below.refl _ _).alloc (Nat.le_refl _) _
  have HMY := hide_ (refMayT_any st vs ⟨tA, tc, tl⟩ B _ (rus_stable.below hs (hw1.mono hB)) (Nat.le_trans hB hw1.size))
  have HX := hide_ (BoxAt.new w #[.int .i64 st, .int .i64 vs, .slice tA n tc] 24)
  have HW := hide_ hw1
  have HS := hide_ hs
  have HSV := hide_ hsv
  have HVI := hide_ hvi
  have HA := hide_ ha
  have HM := hide_ hm
  have HN := hide_ hn
  simp only [tabV, Sl.v, hn] at HMY ⊢
  obtain ⟨bm, hbm⟩ : ∃ b, mayT st vs tl = b := ⟨_, rfl⟩
  rw [hbm] at HMY
  have HR := hide_ (show findI st vs tl sa ac pa vars arg = if (decide ((m : Int) = vs) && bm) = true then takI sa ac pa vars arg tl else -1 by unfold findI fireB; rw [hm, hbm])
  generalize findI st vs tl sa ac pa vars arg = RR at HR
  clear hs hm hsv hvi ha hw1 hn hbm
  go_enter Try.func43, Try.ntmps43
  go_wp2_with fail
  refine HMY.out.mono ?_
  rintro en w1 ⟨rfl, hb⟩
  have HB := hide_ (HW.out.trans (hb.mono (by simp)))
  have HX1 := hide_ (HX.out.below hb)
  have hcx := HX1.out.cell
  have hz1 : w.heap.size < w1.heap.size := HX1.out.lt
  clear hb HMY
  cases bm with
  | false =>
    have HR1 := hide_ (show RR = -1 by rw [HR.out]; simp)
    go_wp2
    go_ret
    exact ⟨ret_i64T HR1.out.symm, HB.out⟩
  | true =>
  by_cases h : (m : Int) = vs
  case neg =>
    have HR1 := hide_ (show RR = -1 by rw [HR.out, decide_eq_false h]; simp)
    have hd : ((m : Int) != vs) = true := by simpa using h
    clear h HR
    go_wp2
    go_ret
    exact ⟨ret_i64T HR1.out.symm, HB.out⟩
  have HR1 := hide_ (show RR = takI sa ac pa vars arg tl by rw [HR.out, decide_eq_true h]; simp)
  have hd : ((m : Int) != vs) = false := by simpa using h
  clear h HR
  go_wp2
  clear hcx
  go_loopw [28] (fun i wr => ∃ j : Nat, j ≤ n ∧ i = .int .i64 j ∧ Hid (∀ y, y < j → takX sa ac pa vars arg tl y = false) ∧ Hid (BoxAt wr w.heap.size #[.int .i64 st, .int .i64 vs, .slice tA n tc] 24) ∧ Below w.heap.size w wr) (fun i _ => n - (intOf i).toNat)
  case atStart => exact ⟨0, Nat.zero_le _, rfl, (fun y hy => absurd hy (by omega)), HX1, HB.out⟩
  case round =>
    obtain ⟨j, hj, rfl, HJ, HXR, hb⟩ := hrel
    have hzw : w.heap.size < wr.heap.size := HXR.out.lt
    have HB0 := hide_ hb
    have hcx := HXR.out.cell
    by_cases hlt : j < n
    · obtain ⟨x, hx⟩ : ∃ x, tl[j]? = some x := ⟨_, List.getElem?_eq_getElem (by rw [HN.out]; exact hlt)⟩
      have hs1 := (rus_stable.below HS.out (hb.mono hB)).2.2.1
      obtain ⟨tb, ot, hAe, hab, f0, f1, f2, f3, f4, f5, f6⟩ := hs1.ru hx
      have hxo := ru_stable.below (HS.out.2.2.2 x (List.mem_of_getElem? hx)) (hb.mono hB)
      have hwz : tb < wr.heap.size := by omega
      have hjlt : j < tl.length := by rw [HN.out]; exact hlt
      have HNO := hide_ (fun (h : takX sa ac pa vars arg tl j = true) => (show RR = j by rw [HR1.out, takI_hit hjlt h HJ.out]))
      have HYE := hide_ (fun (h : takX sa ac pa vars arg tl j = false) => (show ∀ y, y < j + 1 → takX sa ac pa vars arg tl y = false from fun y hy => by
        by_cases e : y = j
        · rw [e]; exact h
        · exact HJ.out y (by omega)))
      obtain ⟨fr, xc, xp, tt, ⟨gA, gc, gl⟩, ⟨sA, sc, sl⟩, ⟨eA, ec, el⟩⟩ := x
      simp only at f0 f1 f2 f3 f4 f5 f6
      obtain ⟨q, hq⟩ : ∃ q, holdsB gl vars arg = q := ⟨_, rfl⟩
      have HXA := hide_ (show takX sa ac pa vars arg tl j = (decide (fr = sa) && (decide (xc = ac) && (decide (xp = pa) && q))) by rw [takX_at hx]; unfold isFor; rw [hq])
      obtain ⟨gn, hgn⟩ : ∃ n, gl.length = n := ⟨_, rfl⟩
      rw [hgn] at f4
      generalize sl.length = sn at f5
      generalize el.length = ee at f6
      have hwb := (Below.refl wr.heap.size wr).alloc (Nat.le_refl _) (.cells #[.int .i64 fr, .int .i64 xc, .int .i64 xp, .int .i64 tt, .slice gA gn gc, .slice sA sn sc, .slice eA ee ec] 40)
      have HWB := hide_ hwb
      have hg1 := toks_stable.below hxo.2.1 (hwb.mono (by omega))
      have HXB := hide_ (HXR.out.alloc (.cells #[.int .i64 fr, .int .i64 xc, .int .i64 xp, .int .i64 tt, .slice gA gn gc, .slice sA sn sc, .slice eA ee ec] 40))
      have HC := hide_ (refHolds_any gl vars arg B gA V gn gc m k _ hgn (hgn ▸ toks_n63 hg1) HM.out hg1.2.2.1 ((HSV.out.below (hb.mono hB)).below (hwb.mono (by omega))) (by simp; omega) hg1.2.2.2 HVI.out HA.out)
      rw [hq] at HC
      subst hAe
      clear hxo hs1 hx hb hjlt hq hgn hwb hg1
      by_cases e1 : fr = sa
      case neg =>
        have HJ2 := hide_ (HYE.out (by rw [HXA.out, decide_eq_false e1]; simp))
        have hd1 : (fr == sa) = false := beq_eq_false_iff_ne.2 e1
        clear e1 HC
        go_wp2
        go_roundw
        case rel => exact ⟨j + 1, by omega, by go_num, HJ2, HXB, HB0.out.trans (HWB.out.mono (by omega))⟩
        case measure => simp [intOf]; omega
      by_cases e2 : xc = ac
      case neg =>
        have HJ2 := hide_ (HYE.out (by rw [HXA.out, decide_eq_false e2]; simp))
        have hd1 : (fr == sa) = true := by simp [e1]
        have hd2 : (xc == ac) = false := beq_eq_false_iff_ne.2 e2
        clear e1 e2 HC
        go_wp2
        go_roundw
        case rel => exact ⟨j + 1, by omega, by go_num, HJ2, HXB, HB0.out.trans (HWB.out.mono (by omega))⟩
        case measure => simp [intOf]; omega
      by_cases e3 : xp = pa
      case neg =>
        have HJ2 := hide_ (HYE.out (by rw [HXA.out, decide_eq_false e3]; simp))
        have hd1 : (fr == sa) = true := by simp [e1]
        have hd2 : (xc == ac) = true := by simp [e2]
        have hd3 : (xp == pa) = false := beq_eq_false_iff_ne.2 e3
        clear e1 e2 e3 HC
        go_wp2
        go_roundw
        case rel => exact ⟨j + 1, by omega, by go_num, HJ2, HXB, HB0.out.trans (HWB.out.mono (by omega))⟩
        case measure => simp [intOf]; omega
      have HXC := hide_ (show takX sa ac pa vars arg tl j = q by rw [HXA.out, decide_eq_true e1, decide_eq_true e2, decide_eq_true e3]; simp)
      have hd1 : (fr == sa) = true := by simp [e1]
      have hd2 : (xc == ac) = true := by simp [e2]
      have hd3 : (xp == pa) = true := by simp [e3]
      clear e1 e2 e3 HXA
      go_wp2_with fail
      refine HC.out.mono ?_
      rintro en w5 ⟨rfl, hb5⟩
      have HB5 := hide_ ((HB0.out.trans (HWB.out.mono (by omega))).trans (hb5.mono (by simp; omega)))
      have HXD := hide_ (HXB.out.below hb5)
      clear hb5 hcx
      cases q with
      | true =>
        have HR2 := hide_ (HNO.out HXC.out)
        go_wp2
        go_ret
        exact ⟨ret_i64T HR2.out.symm, HB5.out⟩
      | false =>
        have HJ2 := hide_ (HYE.out HXC.out)
        go_wp2
        go_roundw
        case rel => exact ⟨j + 1, by omega, by go_num, HJ2, HXD, HB5.out⟩
        case measure => simp [intOf]; omega
    · obtain rfl : j = n := by omega
      have HR2 := hide_ (show RR = -1 by rw [HR1.out, takI_none (by rw [HN.out]; exact HJ.out)])
      go_wp2
      go_ret
      exact ⟨ret_i64T HR2.out.symm, hb⟩
end Go.Proofs.Ytkjgplcfoihohaa
