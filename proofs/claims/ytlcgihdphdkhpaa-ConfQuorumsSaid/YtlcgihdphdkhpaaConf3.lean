/-
  The contract of the reference's May at configurations.
-/
import Derived.Test.YtlcgihdphdkhpaaConf2
namespace Go.Proofs.Ytlcgihdphdkhpaa
open Go.RowKit

theorem mayC_new0 {C : Nat} {o n : List UInt8} (h : okL n = false) : mayC C o n = false := by
  rw [← Bool.not_eq_true]
  intro hm
  rw [rings_ok hm n (new_in _ _ _)] at h
  cases h
theorem okL_of {l : List UInt8} (h : ¬ l.length = 0) : okL l = mayN l := by rw [okL, show decide (0 < l.length) = true from decide_eq_true (by omega), Bool.true_and]
theorem okL_zero {l : List UInt8} (h : l.length = 0) : okL l = false := by rw [okL, h]; rfl
theorem drew_below {w w' : World} (h : ∃ q, w' = w.drewN q) (B : Nat) : Below B w w' := by
  obtain ⟨q, rfl⟩ := h
  exact dN9 (Below.refl _ _) q

set_option maxRecDepth 100000 in
set_option maxHeartbeats 800000 in
theorem refMay10_any (C : Nat) (x y : NdM) (B : Nat) (w : World) (hx : NdM.ok w B x) (hy : NdM.ok w B y) (hB : B ≤ w.heap.size) :
    Calls Try.prog 10 #[cfV C x y] w fun e w' => e = .returned (.bool (mayC C x.l y.l)) ∧ Below w.heap.size w w' := by
  have HOX := hide_ (fun (u : World) (hu : Below w.heap.size w u) => (hx.more hB).below hu)
  have HOY := hide_ (fun (u : World) (hu : Below w.heap.size w u) => (hy.more hB).below hu)
  have H0 := hide_ (fun h => mayC_new0 (C := C) (o := x.l) (n := y.l) h)
  have H1 := hide_ (fun h => mayC_odd (C := C) (o := x.l) (n := y.l) h)
  have H2 := hide_ (fun h => mayC_even (C := C) (o := x.l) (n := y.l) h)
  obtain ⟨r, hr⟩ : ∃ r, mayC C x.l y.l = r := ⟨_, rfl⟩
  have hlx := hx.1
  have hly := hy.1
  simp only [hr] at H0 H1 H2 ⊢
  clear hr hx hy
  obtain ⟨A1, c1, l1⟩ := x
  obtain ⟨A2, c2, l2⟩ := y
  simp only [cfV, NdM.v] at H0 H1 H2 HOX HOY hlx hly ⊢
  have HB0 := hide_ ((Below.refl w.heap.size w).alloc (Nat.le_refl _) (.cells #[.int .u64 C, .slice A1 l1.length c1, .slice A2 l2.length c2] 25))
  have HX0 := hide_ (BoxAt.new w #[.int .u64 C, .slice A1 l1.length c1, .slice A2 l2.length c2] 25)
  obtain ⟨W0, hW0⟩ : ∃ W0, w.alloc (.cells #[.int .u64 C, .slice A1 l1.length c1, .slice A2 l2.length c2] 25) = W0 := ⟨_, rfl⟩
  rw [hW0] at HB0 HX0
  have HW0 := hide_ hW0
  have hs0 : w.heap.size < W0.heap.size := HX0.out.lt
  clear hW0
  go_enter Try.func10, Try.ntmps10
  go_upto_region 1 with fail
  rw [HW0.out]
  have c0 := HX0.out.cell 0
  have c1' := HX0.out.cell 1
  have c2' := HX0.out.cell 2
  simp at c0 c1' c2'
  by_cases hz : l2.length = 0
  · have HF := hide_ (H0.out (okL_zero hz))
    go_wp2
    go_ret
    exact ⟨ret_bool9 HF.out.symm, HB0.out⟩
  · have hd : ((l2.length : Int) == 0) = false := by rw [beq_eq_false_iff_ne]; omega
    have HM := hide_ (refMay9q_any l2 w.heap.size A2 l2.length c2 W0 rfl (by unfold maxLen; omega) (HOY.out W0 HB0.out).2)
    have hok := okL_of hz
    rw [hok] at H0 H1 H2
    obtain ⟨q, hq⟩ : ∃ q, mayN l2 = q := ⟨_, rfl⟩
    rw [hq] at HM H0 H1 H2
    clear hok hq
    cases q with
    | false =>
      have HF := hide_ (H0.out rfl)
      go_wp2_with fail
      refine HM.out.mono ?_
      rintro e w2 ⟨rfl, hw2⟩
      have HB2 := hide_ (HB0.out.trans ((drew_below hw2 _).mono HB0.out.size))
      clear hw2
      go_wp2
      go_ret
      exact ⟨ret_bool9 HF.out.symm, HB2.out⟩
    | true =>
      go_wp2_with fail
      refine HM.out.mono ?_
      rintro e w2 ⟨rfl, hw2⟩
      have HB2 := hide_ (HB0.out.trans ((drew_below hw2 _).mono HB0.out.size))
      have HX2 := hide_ (HX0.out.below (drew_below hw2 _))
      have hs2 : w.heap.size < w2.heap.size := HX2.out.lt
      clear hw2 c0 c1' c2'
      have c0 := HX2.out.cell 0
      have c1' := HX2.out.cell 1
      have c2' := HX2.out.cell 2
      simp at c0 c1' c2'
      by_cases hC : C % 2 = 1
      · have HR := hide_ (H1.out hC)
        have hce : (C : Int) % 2 = 1 := by omega
        clear hC
        by_cases hz1 : l1.length = 0
        · have hd1 : decide ((0 : Int) < (l1.length : Int)) = false := by simp [hz1]
          have hd1' : decide (0 < l1.length) = false := by simp [hz1]
          rw [okL_zero hz1] at HR
          go_upto_region 5 with fail
          go_quiet (fail)
          go_wp2
          go_ret
          exact ⟨ret_bool9 HR.out.symm, dN9 HB2.out _⟩
        · have hd1 : decide ((0 : Int) < (l1.length : Int)) = true := by rw [decide_eq_true_eq]; omega
          have hd1' : decide (0 < l1.length) = true := by rw [decide_eq_true_eq]; omega
          have HM1 := hide_ (fun (u : World) (hu : ∃ q, u = w2.drewN q) => refMay9q_any l1 w.heap.size A1 l1.length c1 u rfl (by unfold maxLen; omega) (by obtain ⟨q, rfl⟩ := hu; exact (HOX.out _ HB2.out).2))
          have HQ1 := hide_ (fun (u : World) (hu : ∃ q, u = w2.drewN q) => others_any ⟨A1, c1, l1⟩ ⟨A2, c2, l2⟩ w.heap.size u (by obtain ⟨q, rfl⟩ := hu; exact HOX.out _ (dN9 HB2.out q)) (by obtain ⟨q, rfl⟩ := hu; exact HOY.out _ (dN9 HB2.out q)))
          have HQ2 := hide_ (fun (u : World) (hu : ∃ q, u = w2.drewN q) => others_any ⟨A2, c2, l2⟩ ⟨A1, c1, l1⟩ w.heap.size u (by obtain ⟨q, rfl⟩ := hu; exact HOY.out _ (dN9 HB2.out q)) (by obtain ⟨q, rfl⟩ := hu; exact HOX.out _ (dN9 HB2.out q)))
          have ho1 := othN_le l1 l2
          have ho2 := othN_le l2 l1
          simp only [NdM.v] at HQ1 HQ2
          rw [okL_of hz1] at HR
          obtain ⟨o1, ho1'⟩ : ∃ o1, othN l1 l2 = o1 := ⟨_, rfl⟩
          obtain ⟨o2, ho2'⟩ : ∃ o2, othN l2 l1 = o2 := ⟨_, rfl⟩
          obtain ⟨q, hq⟩ : ∃ q, mayN l1 = q := ⟨_, rfl⟩
          rw [hq] at HM1 HR
          rw [ho1'] at HQ1 HR ho1
          rw [ho2'] at HQ2 HR ho2
          clear hq ho1' ho2'
          cases q with
          | false =>
            go_upto_region 5 with fail
            go_quiet (first | (go_at_call_of 25 l1; refine Calls.quiet_of (HM1.out _ ⟨_, rfl⟩)))
            go_wp2
            go_ret
            exact ⟨ret_bool9 HR.out.symm, dN9 HB2.out _⟩
          | true =>
            go_upto_region 5 with fail
            go_quiet (first | (go_at_call_of 25 l1; refine Calls.quiet_of (HM1.out _ ⟨_, rfl⟩)) | (go_at_call 26; first | with_reducible refine Calls.quiet_of_same (HQ1.out _ ⟨_, rfl⟩) | with_reducible refine Calls.quiet_of_same (HQ2.out _ ⟨_, rfl⟩)))
            go_wp2
            go_ret
            exact ⟨ret_bool9 (by rw [HR.out, Bool.eq_iff_iff]; simp; omega), dN9 HB2.out _⟩
      · have HR := hide_ (H2.out hC)
        have hce : (C : Int) % 2 = 0 := by omega
        clear hC
        go_wp2
        go_ret
        exact ⟨ret_bool9 (by rw [HR.out, Bool.eq_iff_iff]; simp), HB2.out⟩
end Go.Proofs.Ytlcgihdphdkhpaa
