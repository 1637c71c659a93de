/-
  Contracts of conf's May and of the reference's.
-/
import Derived.Test.YtlcgihdphdkhpaaConfM
namespace Go.Proofs.Ytlcgihdphdkhpaa
open Go.RowKit

theorem rings_map {α β : Type} (f : α → β) (C : Nat) (a b : α) : ringsN C (f a) (f b) = (ringsN C a b).map f := by
  unfold ringsN
  split <;> rfl
theorem rings_two {α : Type} {C : Nat} {a b z : α} (h : z ∈ ringsN C a b) : z = a ∨ z = b := by
  unfold ringsN at h
  split at h
  · simpa using h
  · right; simpa using h
theorem rings_len {α : Type} (C : Nat) (a b : α) : (ringsN C a b).length ≤ 2 := by
  unfold ringsN
  split <;> simp
theorem NdM.ok.len {w : World} {B c : Nat} {A : Option Addr} {l : List UInt8} (h : NdM.ok w B ⟨A, c, l⟩) : l.length ≤ 100 := h.1
theorem mayC_bad {C : Nat} {x y z : NdM} (hz : z ∈ ringsN C x y) (h : okL z.l = false) : mayC C x.l y.l = false := by
  rw [← Bool.not_eq_true]
  intro hm
  have := rings_ok hm z.l (by rw [rings_map NdM.l]; exact List.mem_map.2 ⟨z, hz, rfl⟩)
  rw [h] at this
  cases this
theorem mayC_good {C : Nat} {x y : NdM} (h : ∀ z ∈ ringsN C x y, okL z.l = true) : mayC C x.l y.l = if C % 2 = 1 then decide (othN x.l y.l + othN y.l x.l = 1) else decide (x.l.length = 0) := by
  rw [mayC, show (ringsN C x.l y.l).all okL = true by
    rw [rings_map NdM.l, List.all_map, List.all_eq_true]
    exact h, Bool.true_and]
theorem pop_oth {l m : List UInt8} (hl : okL l = true) (hm : okL m = true) : popN 64 (setN l ^^^ setN m) = othN l m + othN m l :=
  pop_xor l m (mayN_nodup (okL_may hl)) (mayN_64 (okL_may hl)) (mayN_nodup (okL_may hm)) (mayN_64 (okL_may hm))

set_option maxRecDepth 100000 in
set_option maxHeartbeats 800000 in
theorem cMay_any (C : Nat) (x y : NdM) (B : Nat) (w : World) (hx : NdM.ok w B x) (hy : NdM.ok w B y) (hB : B ≤ w.heap.size) :
    Calls Try.prog 9 #[cfV C x y] w fun e w' => e = .returned (.bool (mayC C x.l y.l)) ∧ Below w.heap.size w w' := by
  have HR := hide_ (fun u => rings_any C x y u)
  have HT := hide_ (fun u => Between_any C x y u)
  have HBAD := hide_ (fun z hz h => mayC_bad (C := C) (x := x) (y := y) (z := z) hz h)
  have HGOOD := hide_ (fun h => mayC_good (C := C) (x := x) (y := y) h)
  have HALL := hide_ (fun (u : World) (hu : Below w.heap.size w u) z (hz : z ∈ ringsN C x y) => show NdM.ok u w.heap.size z from by
    rcases rings_two hz with rfl | rfl
    · exact (hx.more hB).below hu
    · exact (hy.more hB).below hu)
  have HOX := hide_ (fun (u : World) (hu : Below w.heap.size w u) => (hx.more hB).below hu)
  have HOY := hide_ (fun (u : World) (hu : Below w.heap.size w u) => (hy.more hB).below hu)
  have HXR := hide_ (show C % 2 = 1 → x ∈ ringsN C x y from fun h => by rw [ringsN, if_pos h]; simp)
  have HYR := hide_ (show y ∈ ringsN C x y from new_in _ _ _)
  have hrl := rings_len C x y
  obtain ⟨rs, hrs⟩ : ∃ rs, ringsN C x y = rs := ⟨_, rfl⟩
  obtain ⟨r, hr⟩ : ∃ r, mayC C x.l y.l = r := ⟨_, rfl⟩
  rw [hrs] at hrl
  simp only [hrs, hr] at HR HBAD HGOOD HALL HXR HYR ⊢
  clear hr hrs hx hy
  obtain ⟨A1, c1, l1⟩ := x
  obtain ⟨A2, c2, l2⟩ := y
  simp only [cfV, NdM.v] at HT HGOOD HOX HOY HR ⊢
  have HB0 := hide_ ((Below.refl w.heap.size w).alloc (Nat.le_refl _) (.cells #[.int .u64 C, .slice A1 l1.length c1, .slice A2 l2.length c2] 25))
  have HX0 := hide_ (BoxAt.new w #[.int .u64 C, .slice A1 l1.length c1, .slice A2 l2.length c2] 25)
  obtain ⟨W0, hW0⟩ : ∃ W0, w.alloc (.cells #[.int .u64 C, .slice A1 l1.length c1, .slice A2 l2.length c2] 25) = W0 := ⟨_, rfl⟩
  rw [hW0] at HB0 HX0
  have HW0 := hide_ hW0
  have hs0 : w.heap.size < W0.heap.size := HX0.out.lt
  clear hW0
  go_enter Try.func9, Try.ntmps9
  go_upto_region 1 with fail
  rw [HW0.out]
  have c0 := HX0.out.cell 0
  have c1' := HX0.out.cell 1
  have c2' := HX0.out.cell 2
  simp at c0 c1' c2'
  go_wp2_with fail
  refine (HR.out _).mono ?_
  rintro e w1 ⟨g, o, k, rfl, hk, hg, hg1, hc, hb1⟩
  have HB1 := hide_ (HB0.out.trans (hb1.mono HB0.out.size))
  have HX1 := hide_ (HX0.out.below hb1)
  have HC := hide_ hc
  have HK := hide_ hk
  have hk2 : k ≤ 2 := by omega
  clear hrl
  have hs1 : w.heap.size < w1.heap.size := HX1.out.lt
  clear hb1 c0 c1' c2' hc hk
  go_wp2_with fail
  go_loop [8] (fun i => ∃ m : Nat, m ≤ k ∧ i = .int .i64 m ∧ Hid (∀ j z, j < m → rs[j]? = some z → okL z.l = true)) (fun i => k - (intOf i).toNat)
  case atStart => exact ⟨0, by omega, rfl, hide_ (fun j z hj => by omega)⟩
  case round =>
    obtain ⟨m, hm, rfl, HM⟩ := hrel
    by_cases hlt : m < k
    · obtain ⟨z, hz⟩ : ∃ z, rs[m]? = some z := ⟨_, List.getElem?_eq_getElem (by rw [HK.out]; exact hlt)⟩
      have hcz := HC.out m z hz
      have HZ := hide_ (List.mem_of_getElem? hz)
      have HZO := hide_ (HALL.out w1 HB1.out z HZ.out)
      have HB := hide_ (HBAD.out z HZ.out)
      have HN := hide_ (fun (h : okL z.l = true) => show ∀ j z, j < m + 1 → rs[j]? = some z → okL z.l = true from fun j z' hj hz' => by
        by_cases hjm : j < m
        · exact HM.out j z' hjm hz'
        · obtain rfl : j = m := by omega
          rw [hz] at hz'
          injection hz' with hz'
          rw [← hz']
          exact h)
      clear hz
      obtain ⟨zA, zc, zl⟩ := z
      simp only at hcz HZO HB HN
      by_cases hz0 : zl.length = 0
      · have HF := hide_ (HB.out (by rw [okL, hz0]; rfl))
        go_wp2
        go_ret
        exact ⟨ret_bool9 HF.out.symm, HB1.out⟩
      · have HMY := hide_ (may9_any zl w.heap.size zA zl.length zc w1 rfl (by have := HZO.out.len; unfold maxLen; omega) HZO.out.2)
        have hok : okL zl = mayN zl := by rw [okL, show decide (0 < zl.length) = true from decide_eq_true (by omega), Bool.true_and]
        rw [hok] at HB HN
        obtain ⟨q, hq⟩ : ∃ q, mayN zl = q := ⟨_, rfl⟩
        rw [hq] at HMY HB HN
        clear hok hq
        have hd : ((zl.length : Int) == 0) = false := by rw [beq_eq_false_iff_ne]; omega
        cases q with
        | false =>
          have HF := hide_ (HB.out rfl)
          go_wp2_with fail
          refine HMY.out.mono ?_
          rintro e w2 ⟨rfl, rfl⟩
          go_wp2
          go_ret
          exact ⟨ret_bool9 HF.out.symm, HB1.out⟩
        | true =>
          have HN2 := hide_ (HN.out rfl)
          go_wp2_with fail
          refine HMY.out.mono ?_
          rintro e w2 ⟨rfl, rfl⟩
          go_wp2
          go_round
          case rel => exact ⟨m + 1, by omega, by go_num, HN2⟩
          case measure => simp [intOf]; omega
    · obtain rfl : k = m := by omega
      have HG := hide_ (HGOOD.out (fun z hz => by
        obtain ⟨j, hj, rfl⟩ := List.getElem_of_mem hz
        rw [HK.out] at hj
        exact HM.out j _ hj (List.getElem?_eq_getElem _)))
      have HXO := hide_ (fun (hC : C % 2 = 1) => show okL l1 = true from by
        obtain ⟨j, hj, e⟩ := List.getElem_of_mem (HXR.out hC)
        have := HM.out j _ (by rw [← HK.out]; exact hj) (List.getElem?_eq_getElem hj)
        rw [e] at this
        exact this)
      have HYO := hide_ (show okL l2 = true from by
        obtain ⟨j, hj, e⟩ := List.getElem_of_mem HYR.out
        have := HM.out j _ (by rw [← HK.out]; exact hj) (List.getElem?_eq_getElem hj)
        rw [e] at this
        exact this)
      clear HM
      have c0 := HX1.out.cell 0
      have c1' := HX1.out.cell 1
      have c2' := HX1.out.cell 2
      simp at c0 c1' c2'
      have HTT := HT.out w1
      by_cases hC : C % 2 = 1
      · have hd : decide (C % 2 = 1) = true := by simp [hC]
        rw [hd] at HTT
        have HTT := hide_ HTT
        rw [if_pos hC] at HG
        have HXK := hide_ (HXO.out hC)
        clear hC hd HXO
        go_wp2_with fail
        refine HTT.out.mono ?_
        rintro e w3 ⟨rfl, hb3⟩
        have HB3 := hide_ (HB1.out.trans (hb3.mono HB1.out.size))
        have HX3 := hide_ (HX1.out.below hb3)
        have hs3 : w.heap.size < w3.heap.size := HX3.out.lt
        clear hb3 c0 c1' c2'
        have c0 := HX3.out.cell 0
        have c1' := HX3.out.cell 1
        have c2' := HX3.out.cell 2
        simp at c0 c1' c2'
        have HPO := hide_ (pop_oth HXK.out HYO.out)
        have HS1 := hide_ (fun (u : World) (hu : ∃ q, u = w3.drewN q) => set_any l1 w.heap.size A1 l1.length c1 u rfl (by have := (HOX.out _ HB3.out).len; unfold maxLen; omega) (by obtain ⟨q, rfl⟩ := hu; exact (HOX.out _ HB3.out).2))
        have HS2 := hide_ (fun (u : World) (hu : ∃ q, u = w3.drewN q) => set_any l2 w.heap.size A2 l2.length c2 u rfl (by have := (HOY.out _ HB3.out).len; unfold maxLen; omega) (by obtain ⟨q, rfl⟩ := hu; exact (HOY.out _ HB3.out).2))
        have hxr := u64_xor_nat (setN l1) (setN l2) (setN_lt _) (setN_lt _)
        have HP := hide_ (fun u => ones_any (setN l1 ^^^ setN l2) u (Nat.xor_lt_two_pow (n := 64) (setN_lt l1) (setN_lt l2)))
        rw [HPO.out] at HP
        go_upto_region 8 with fail
        go_quiet (first | (go_at_call_of 24 l1; refine Calls.quiet_of_same (HS1.out _ ⟨_, rfl⟩)) | (go_at_call_of 24 l2; refine Calls.quiet_of_same (HS2.out _ ⟨_, rfl⟩)) | (go_at_call 23; refine Calls.quiet_of_same (HP.out _)))
        go_wp2
        go_ret
        exact ⟨ret_bool9 (by rw [HG.out, Bool.eq_iff_iff]; simp; omega), dN9 HB3.out _⟩
      · have hd : decide (C % 2 = 1) = false := by simp; omega
        rw [hd] at HTT
        have HTT := hide_ HTT
        rw [if_neg hC] at HG
        clear hC hd HXO
        go_wp2_with fail
        refine HTT.out.mono ?_
        rintro e w3 ⟨rfl, hb3⟩
        have HB3 := hide_ (HB1.out.trans (hb3.mono HB1.out.size))
        have HX3 := hide_ (HX1.out.below hb3)
        have hs3 : w.heap.size < w3.heap.size := HX3.out.lt
        clear hb3 c0 c1' c2'
        have c0 := HX3.out.cell 0
        have c1' := HX3.out.cell 1
        have c2' := HX3.out.cell 2
        simp at c0 c1' c2'
        go_wp2
        go_ret
        exact ⟨ret_bool9 (by rw [HG.out, Bool.eq_iff_iff]; simp), HB3.out⟩
end Go.Proofs.Ytlcgihdphdkhpaa
