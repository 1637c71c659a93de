/-
  scrutineerlaw10.ConfMeet answers true for every input and leaves its input as it was; no condition.
-/
import Derived.Test.YtlcgihdphdkhpaaOpen10
import Derived.Test.YtlcgihdphdkhpaaStep10b
import Derived.Test.YtlcgihdphdkhpaaLaw
namespace Go.Proofs.Ytlcgihdphdkhpaa.confMeet
open Go.ChangeShapes Go.WideShapes Go.ChangeAt Go.RowKit

set_option maxRecDepth 100000 in
theorem walk_long (C : Nat) (A1 : Option Addr) (n1 c1 : Nat) (A2 : Option Addr) (n2 c2 : Nat) (node key : UInt8) (a b : Nat) (w : World) (hg : (decide (80 < n1) || decide (80 < n2)) = true) (h1 : n1 ≤ maxLen) (h2 : n2 ≤ maxLen) :
    Calls Try.prog 4 #[.agg #[.int .u64 C, .slice A1 n1 c1, .slice A2 n2 c2], .int .u8 (node.toNat : Int), .int .u8 (key.toNat : Int), .int .u64 a, .int .u64 b] w fun e w' => e = .returned (.bool true) ∧ Below w.heap.size w w' := by
  have HG := hide_ (fun u => great10_any C A1 n1 c1 A2 n2 c2 u h1 h2)
  rw [hg] at HG
  clear hg h1 h2
  have HB0 := hide_ ((Below.refl w.heap.size w).alloc (Nat.le_refl _) (.cells #[.int .u64 C, .slice A1 n1 c1, .slice A2 n2 c2] 25))
  have HX0 := hide_ (BoxAt.new w #[.int .u64 C, .slice A1 n1 c1, .slice A2 n2 c2] 25)
  obtain ⟨W0, hW0⟩ : ∃ W0, w.alloc (.cells #[.int .u64 C, .slice A1 n1 c1, .slice A2 n2 c2] 25) = W0 := ⟨_, rfl⟩
  rw [hW0] at HB0 HX0
  have HW0 := hide_ hW0
  have hs0 : w.heap.size < W0.heap.size := HX0.out.lt
  clear hW0
  go_enter Try.func4, Try.ntmps4
  go_upto_region 1 with fail
  rw [HW0.out]
  have c0 := HX0.out.cell 0
  have c1' := HX0.out.cell 1
  have c2' := HX0.out.cell 2
  simp at c0 c1' c2'
  go_wp2_with fail
  refine (HG.out _).mono ?_
  rintro e w1 ⟨rfl, hb1⟩
  have HB1 := hide_ (HB0.out.trans (hb1.mono HB0.out.size))
  clear hb1
  go_wp2_with fail
  refine (awake10_any _).mono ?_
  rintro e wz ⟨rfl, hbz⟩
  go_wp2
  go_ret
  exact ⟨rfl, HB1.out.trans (hbz.mono HB1.out.size)⟩

set_option maxRecDepth 100000 in
set_option maxHeartbeats 3200000 in
theorem walk_short (C : Nat) (A1 : Option Addr) (n1 c1 : Nat) (l1 : List UInt8) (A2 : Option Addr) (n2 c2 : Nat) (l2 : List UInt8) (node key : UInt8) (a b : Nat) (w : World) (hC : C < 18446744073709551616) (e1 : l1.length = n1) (s1 : Sees w w.heap.size A1 (bv l1)) (e2 : l2.length = n2) (s2 : Sees w w.heap.size A2 (bv l2)) (h1 : n1 ≤ 80) (h2 : n2 ≤ 80) (ha : a < 18446744073709551616) (hb : b < 18446744073709551616) :
    Calls Try.prog 4 #[.agg #[.int .u64 C, .slice A1 n1 c1, .slice A2 n2 c2], .int .u8 (node.toNat : Int), .int .u8 (key.toNat : Int), .int .u64 a, .int .u64 b] w fun e w' => e = .returned (.bool true) ∧ Below w.heap.size w w' := by
  subst e1 e2
  have HG := hide_ (fun u => great10_any C A1 l1.length c1 A2 l2.length c2 u (by unfold maxLen; omega) (by unfold maxLen; omega))
  rw [show (decide (80 < l1.length) || decide (80 < l2.length)) = false by simp; omega] at HG
  have HOX := hide_ (fun (u : World) (hu : Below w.heap.size w u) => show NdM.ok u w.heap.size ⟨A1, c1, l1⟩ from ⟨by show l1.length ≤ 100; omega, s1.below hu⟩)
  have HOY := hide_ (fun (u : World) (hu : Below w.heap.size w u) => show NdM.ok u w.heap.size ⟨A2, c2, l2⟩ from ⟨by show l2.length ≤ 100; omega, s2.below hu⟩)
  have HQ := hide_ (fun (s : Nat) (hs : s < 18446744073709551616) (u : World) (hu : Below w.heap.size w u) => Quorum_any C ⟨A1, c1, l1⟩ ⟨A2, c2, l2⟩ key s w.heap.size u (HOX.out u hu) (HOY.out u hu) hu.size hs)
  have HA := hide_ (fun (u : World) (hu : Below w.heap.size w u) => All_any C ⟨A1, c1, l1⟩ ⟨A2, c2, l2⟩ key a w.heap.size u (HOX.out u hu) (HOY.out u hu) hu.size ha)
  have HM := hide_ (fun (u : World) (hu : Below w.heap.size w u) => refMay10_any C ⟨A1, c1, l1⟩ ⟨A2, c2, l2⟩ w.heap.size u (HOX.out u hu) (HOY.out u hu) hu.size)
  have HS := hide_ (fun (u : World) (hu : Below w.heap.size w u) => Step_any C ⟨A1, c1, l1⟩ ⟨A2, c2, l2⟩ node w.heap.size u (HOX.out u hu) (HOY.out u hu) hu.size hC)
  have M1 := hide_ (fun (h : quoC C l1 l2 key a = false) => show allC C l1 l2 key a = false from by
    rw [← Bool.not_eq_true] at h ⊢
    exact fun h2 => h (allC_quo h2))
  have M2 := hide_ (fun (h : quoC C l1 l2 key a = true) (h2 : quoC C l1 l2 key b = true) => show a &&& b ≠ 0 from fun e => quoC_meet h h2 e)
  have M3 := hide_ (fun (h : quoC C l1 l2 key a = true) (h0 : (stepN C l1 l2 node).1 = 0) (h2 : quoC (stepN C l1 l2 node).2.1 (stepN C l1 l2 node).2.2.1 (stepN C l1 l2 node).2.2.2 key b = true) => show a &&& b ≠ 0 from fun e => step_meet h0 h h2 e)
  obtain ⟨⟨er, D, l3, l4⟩, hst⟩ : ∃ s, stepN C l1 l2 node = s := ⟨_, rfl⟩
  unfold StOut at HS
  simp only [cfV, NdM.v, hst] at HQ HA HM HS M3
  have hand := u64_and_nat a b ha hb
  clear hst
  have HB0 := hide_ ((Below.refl w.heap.size w).alloc (Nat.le_refl _) (.cells #[.int .u64 C, .slice A1 l1.length c1, .slice A2 l2.length c2] 25))
  have HX0 := hide_ (BoxAt.new w #[.int .u64 C, .slice A1 l1.length c1, .slice A2 l2.length c2] 25)
  obtain ⟨W0, hW0⟩ : ∃ W0, w.alloc (.cells #[.int .u64 C, .slice A1 l1.length c1, .slice A2 l2.length c2] 25) = W0 := ⟨_, rfl⟩
  rw [hW0] at HB0 HX0
  have HW0 := hide_ hW0
  have hs0 : w.heap.size < W0.heap.size := HX0.out.lt
  clear hW0
  go_enter Try.func4, Try.ntmps4
  go_upto_region 1 with fail
  rw [HW0.out]
  have c0 := HX0.out.cell 0
  have c1' := HX0.out.cell 1
  have c2' := HX0.out.cell 2
  simp at c0 c1' c2'
  go_wp2_with fail
  refine (HG.out _).mono ?_
  rintro e w1 ⟨rfl, hb1⟩
  have HB1 := hide_ (HB0.out.trans (hb1.mono HB0.out.size))
  have HX1 := hide_ (HX0.out.below hb1)
  have hs1 : w.heap.size < w1.heap.size := HX1.out.lt
  clear hb1 c0 c1' c2'
  have c0 := HX1.out.cell 0
  have c1' := HX1.out.cell 1
  have c2' := HX1.out.cell 2
  simp at c0 c1' c2'
  obtain ⟨my, hmy⟩ : ∃ m, mayC C l1 l2 = m := ⟨_, rfl⟩
  simp only [hmy] at HM
  clear hmy
  cases my with
  | false =>
    clear M1 M2 M3
    go_wp2_with fail
    refine (HM.out _ HB1.out).mono ?_
    rintro e w2 ⟨rfl, hb2⟩
    have HB2 := hide_ (HB1.out.trans (hb2.mono HB1.out.size))
    have HX2 := hide_ (HX1.out.below hb2)
    have hs2 : w.heap.size < w2.heap.size := HX2.out.lt
    clear hb2 c0 c1' c2'
    have c0 := HX2.out.cell 0
    have c1' := HX2.out.cell 1
    have c2' := HX2.out.cell 2
    simp at c0 c1' c2'
    go_wp2_with fail
    refine (awake10_any _).mono ?_
    rintro e wz ⟨rfl, hbz⟩
    go_wp2
    go_ret
    exact ⟨rfl, HB2.out.trans (hbz.mono HB2.out.size)⟩
  | true =>
    go_wp2_with fail
    refine (HM.out _ HB1.out).mono ?_
    rintro e w2 ⟨rfl, hb2⟩
    have HB2 := hide_ (HB1.out.trans (hb2.mono HB1.out.size))
    have HX2 := hide_ (HX1.out.below hb2)
    have hs2 : w.heap.size < w2.heap.size := HX2.out.lt
    clear hb2 c0 c1' c2'
    have c0 := HX2.out.cell 0
    have c1' := HX2.out.cell 1
    have c2' := HX2.out.cell 2
    simp at c0 c1' c2'
    have HQ1 := hide_ (fun (u : World) (hu : Below w.heap.size w u) => HQ.out a ha u hu)
    have HQ2 := hide_ (fun (u : World) (hu : Below w.heap.size w u) => HQ.out b hb u hu)
    obtain ⟨qa, hqa⟩ : ∃ q, quoC C l1 l2 key a = q := ⟨_, rfl⟩
    obtain ⟨qb, hqb⟩ : ∃ q, quoC C l1 l2 key b = q := ⟨_, rfl⟩
    simp only [hqa] at HQ1 M1 M2 M3
    simp only [hqb] at HQ2 M2
    clear hqa hqb HQ
    cases qa with
    | false =>
      go_wp2_with fail
      refine (HQ1.out _ HB2.out).mono ?_
      rintro e w3 ⟨rfl, hb3⟩
      have HB3 := hide_ (HB2.out.trans (hb3.mono HB2.out.size))
      have HX3 := hide_ (HX2.out.below hb3)
      have hs3 : w.heap.size < w3.heap.size := HX3.out.lt
      clear hb3 c0 c1' c2'
      have c0 := HX3.out.cell 0
      have c1' := HX3.out.cell 1
      have c2' := HX3.out.cell 2
      simp at c0 c1' c2'
      go_wp2_with fail
      refine (HS.out _ HB3.out).mono ?_
      rintro e w4 ⟨x', y', rfl, hx', hy', hox, hoy, hb4⟩
      obtain ⟨A3, c3, l3⟩ := x'
      obtain ⟨A4, c4, l4⟩ := y'
      simp only at hx' hy'
      subst hx' hy'
      simp only
      have HB4 := hide_ ((HB3.out.trans (hb4.mono HB3.out.size)).alloc (Nat.le_trans HB3.out.size hb4.size) (.cells #[.int .u64 (D : Nat), .slice A3 l3.length c3, .slice A4 l4.length c4] 25))
      have HX4 := hide_ ((HX3.out.below hb4).alloc (.cells #[.int .u64 (D : Nat), .slice A3 l3.length c3, .slice A4 l4.length c4] 25))
      have HY4 := hide_ (BoxAt.new w4 #[.int .u64 (D : Nat), .slice A3 l3.length c3, .slice A4 l4.length c4] 25)
      have HOX2 := hide_ (hox.below ((Below.refl w4.heap.size w4).alloc (Nat.le_refl _) (.cells #[.int .u64 (D : Nat), .slice A3 l3.length c3, .slice A4 l4.length c4] 25)))
      have HOY2 := hide_ (hoy.below ((Below.refl w4.heap.size w4).alloc (Nat.le_refl _) (.cells #[.int .u64 (D : Nat), .slice A3 l3.length c3, .slice A4 l4.length c4] 25)))
      obtain ⟨WD, hWD⟩ : ∃ W, w4.alloc (.cells #[.int .u64 (D : Nat), .slice A3 l3.length c3, .slice A4 l4.length c4] 25) = W := ⟨_, rfl⟩
      have hgs : w4.heap.size < WD.heap.size := by rw [← hWD]; simp
      rw [hWD] at HB4 HX4 HY4 HOX2 HOY2
      have HWD := hide_ hWD
      have hsd : w.heap.size < WD.heap.size := HX4.out.lt
      obtain ⟨g, hgg⟩ : ∃ g, w4.heap.size = g := ⟨_, rfl⟩
      have HGG := hide_ hgg
      rw [hgg] at HY4 HOX2 HOY2 hgs
      have HE4 := hide_ (Below.refl g WD)
      clear hWD hgg hox hoy hb4 c0 c1' c2'
      go_upto_region 6 with fail
      rw [HWD.out, HGG.out]
      have c0 := HX4.out.cell 0
      have c1' := HX4.out.cell 1
      have c2' := HX4.out.cell 2
      simp at c0 c1' c2'
      have d0 := HY4.out.cell 0
      have d1 := HY4.out.cell 1
      have d2 := HY4.out.cell 2
      simp at d0 d1 d2
      have HQD := hide_ (fun (u : World) (hu : Below g WD u) => Quorum_any D ⟨A3, c3, l3⟩ ⟨A4, c4, l4⟩ key b g u (HOX2.out.below hu) (HOY2.out.below hu) (by have := hu.size; omega) hb)
      simp only [cfV, NdM.v] at HQD
      by_cases he : er = 0
      · have hee : (er != 0) = false := by rw [he]; rfl
        have HA1 := hide_ (fun (u : World) (hu : Below w.heap.size w u) => HA.out u hu)
        rw [M1.out (by first | trivial | rfl)] at HA1
        clear he M1 M2 M3
        go_wp2_with fail
        refine (HQ1.out _ HB4.out).mono ?_
        rintro e w5 ⟨rfl, hb5⟩
        have HB5 := hide_ (HB4.out.trans (hb5.mono HB4.out.size))
        have HE5 := hide_ (HE4.out.trans (hb5.mono (by omega)))
        have HX5 := hide_ (HX4.out.below hb5)
        have HY5 := hide_ (HY4.out.below hb5)
        have hs5 : w.heap.size < w5.heap.size := HX5.out.lt
        have ht5 : g < w5.heap.size := HY5.out.lt
        clear hb5 c0 c1' c2' d0 d1 d2
        have c0 := HX5.out.cell 0
        have c1' := HX5.out.cell 1
        have c2' := HX5.out.cell 2
        simp at c0 c1' c2'
        have d0 := HY5.out.cell 0
        have d1 := HY5.out.cell 1
        have d2 := HY5.out.cell 2
        simp at d0 d1 d2
        go_wp2_with fail
        refine (HA1.out _ HB5.out).mono ?_
        rintro e w6 ⟨rfl, hb6⟩
        have HB6 := hide_ (HB5.out.trans (hb6.mono HB5.out.size))
        have HE6 := hide_ (HE5.out.trans (hb6.mono (by omega)))
        have HX6 := hide_ (HX5.out.below hb6)
        have HY6 := hide_ (HY5.out.below hb6)
        have hs6 : w.heap.size < w6.heap.size := HX6.out.lt
        have ht6 : g < w6.heap.size := HY6.out.lt
        clear hb6 c0 c1' c2' d0 d1 d2
        have c0 := HX6.out.cell 0
        have c1' := HX6.out.cell 1
        have c2' := HX6.out.cell 2
        simp at c0 c1' c2'
        have d0 := HY6.out.cell 0
        have d1 := HY6.out.cell 1
        have d2 := HY6.out.cell 2
        simp at d0 d1 d2
        go_wp2_with fail
        refine (awake10_any _).mono ?_
        rintro e wz ⟨rfl, hbz⟩
        go_wp2
        go_ret
        exact ⟨rfl, HB6.out.trans (hbz.mono HB6.out.size)⟩
      · have hee : (er != 0) = true := by rw [bne_iff_ne]; exact he
        clear he M1 M2 M3
        go_wp2_with fail
        refine (awake10_any _).mono ?_
        rintro e wz ⟨rfl, hbz⟩
        go_wp2
        go_ret
        exact ⟨rfl, HB4.out.trans (hbz.mono HB4.out.size)⟩
    | true =>
      cases qb with
      | false =>
        go_wp2_with fail
        refine (HQ1.out _ HB2.out).mono ?_
        rintro e w3 ⟨rfl, hb3⟩
        have HB3 := hide_ (HB2.out.trans (hb3.mono HB2.out.size))
        have HX3 := hide_ (HX2.out.below hb3)
        have hs3 : w.heap.size < w3.heap.size := HX3.out.lt
        clear hb3 c0 c1' c2'
        have c0 := HX3.out.cell 0
        have c1' := HX3.out.cell 1
        have c2' := HX3.out.cell 2
        simp at c0 c1' c2'
        go_wp2_with fail
        refine (HQ2.out _ HB3.out).mono ?_
        rintro e w4 ⟨rfl, hb4⟩
        have HB4 := hide_ (HB3.out.trans (hb4.mono HB3.out.size))
        have HX4 := hide_ (HX3.out.below hb4)
        have hs4 : w.heap.size < w4.heap.size := HX4.out.lt
        clear hb4 c0 c1' c2'
        have c0 := HX4.out.cell 0
        have c1' := HX4.out.cell 1
        have c2' := HX4.out.cell 2
        simp at c0 c1' c2'
        go_wp2_with fail
        refine (HS.out _ HB4.out).mono ?_
        rintro e w5 ⟨x', y', rfl, hx', hy', hox, hoy, hb5⟩
        obtain ⟨A3, c3, l3⟩ := x'
        obtain ⟨A4, c4, l4⟩ := y'
        simp only at hx' hy'
        subst hx' hy'
        simp only
        have HB5 := hide_ ((HB4.out.trans (hb5.mono HB4.out.size)).alloc (Nat.le_trans HB4.out.size hb5.size) (.cells #[.int .u64 (D : Nat), .slice A3 l3.length c3, .slice A4 l4.length c4] 25))
        have HX5 := hide_ ((HX4.out.below hb5).alloc (.cells #[.int .u64 (D : Nat), .slice A3 l3.length c3, .slice A4 l4.length c4] 25))
        have HY5 := hide_ (BoxAt.new w5 #[.int .u64 (D : Nat), .slice A3 l3.length c3, .slice A4 l4.length c4] 25)
        have HOX2 := hide_ (hox.below ((Below.refl w5.heap.size w5).alloc (Nat.le_refl _) (.cells #[.int .u64 (D : Nat), .slice A3 l3.length c3, .slice A4 l4.length c4] 25)))
        have HOY2 := hide_ (hoy.below ((Below.refl w5.heap.size w5).alloc (Nat.le_refl _) (.cells #[.int .u64 (D : Nat), .slice A3 l3.length c3, .slice A4 l4.length c4] 25)))
        obtain ⟨WD, hWD⟩ : ∃ W, w5.alloc (.cells #[.int .u64 (D : Nat), .slice A3 l3.length c3, .slice A4 l4.length c4] 25) = W := ⟨_, rfl⟩
        have hgs : w5.heap.size < WD.heap.size := by rw [← hWD]; simp
        rw [hWD] at HB5 HX5 HY5 HOX2 HOY2
        have HWD := hide_ hWD
        have hsd : w.heap.size < WD.heap.size := HX5.out.lt
        obtain ⟨g, hgg⟩ : ∃ g, w5.heap.size = g := ⟨_, rfl⟩
        have HGG := hide_ hgg
        rw [hgg] at HY5 HOX2 HOY2 hgs
        have HE5 := hide_ (Below.refl g WD)
        clear hWD hgg hox hoy hb5 c0 c1' c2'
        go_upto_region 6 with fail
        rw [HWD.out, HGG.out]
        have c0 := HX5.out.cell 0
        have c1' := HX5.out.cell 1
        have c2' := HX5.out.cell 2
        simp at c0 c1' c2'
        have d0 := HY5.out.cell 0
        have d1 := HY5.out.cell 1
        have d2 := HY5.out.cell 2
        simp at d0 d1 d2
        have HQD := hide_ (fun (u : World) (hu : Below g WD u) => Quorum_any D ⟨A3, c3, l3⟩ ⟨A4, c4, l4⟩ key b g u (HOX2.out.below hu) (HOY2.out.below hu) (by have := hu.size; omega) hb)
        simp only [cfV, NdM.v] at HQD
        by_cases he : er = 0
        · have hee : (er != 0) = false := by rw [he]; rfl
          have M3 := hide_ (fun h2 => M3.out (by first | trivial | rfl) he h2)
          obtain ⟨qd, hqd⟩ : ∃ q, quoC D l3 l4 key b = q := ⟨_, rfl⟩
          obtain ⟨qal, hqal⟩ : ∃ q, allC C l1 l2 key a = q := ⟨_, rfl⟩
          simp only [hqd] at HQD M3
          simp only [hqal] at HA
          clear he hqd hqal M1 M2
          cases qd with
          | false =>
            clear M3
            go_wp2_with fail
            refine (HQ1.out _ HB5.out).mono ?_
            rintro e w6 ⟨rfl, hb6⟩
            have HB6 := hide_ (HB5.out.trans (hb6.mono HB5.out.size))
            have HE6 := hide_ (HE5.out.trans (hb6.mono (by omega)))
            have HX6 := hide_ (HX5.out.below hb6)
            have HY6 := hide_ (HY5.out.below hb6)
            have hs6 : w.heap.size < w6.heap.size := HX6.out.lt
            have ht6 : g < w6.heap.size := HY6.out.lt
            clear hb6 c0 c1' c2' d0 d1 d2
            have c0 := HX6.out.cell 0
            have c1' := HX6.out.cell 1
            have c2' := HX6.out.cell 2
            simp at c0 c1' c2'
            have d0 := HY6.out.cell 0
            have d1 := HY6.out.cell 1
            have d2 := HY6.out.cell 2
            simp at d0 d1 d2
            go_wp2_with fail
            refine (HQD.out _ HE6.out).mono ?_
            rintro e w7 ⟨rfl, hb7⟩
            have HB7 := hide_ (HB6.out.trans (hb7.mono HB6.out.size))
            have HE7 := hide_ (HE6.out.trans (hb7.mono (by omega)))
            have HX7 := hide_ (HX6.out.below hb7)
            have HY7 := hide_ (HY6.out.below hb7)
            have hs7 : w.heap.size < w7.heap.size := HX7.out.lt
            have ht7 : g < w7.heap.size := HY7.out.lt
            clear hb7 c0 c1' c2' d0 d1 d2
            have c0 := HX7.out.cell 0
            have c1' := HX7.out.cell 1
            have c2' := HX7.out.cell 2
            simp at c0 c1' c2'
            have d0 := HY7.out.cell 0
            have d1 := HY7.out.cell 1
            have d2 := HY7.out.cell 2
            simp at d0 d1 d2
            cases qal with
            | false =>
              go_wp2_with fail
              refine (HA.out _ HB7.out).mono ?_
              rintro e w8 ⟨rfl, hb8⟩
              have HB8 := hide_ (HB7.out.trans (hb8.mono HB7.out.size))
              have HE8 := hide_ (HE7.out.trans (hb8.mono (by omega)))
              have HX8 := hide_ (HX7.out.below hb8)
              have HY8 := hide_ (HY7.out.below hb8)
              have hs8 : w.heap.size < w8.heap.size := HX8.out.lt
              have ht8 : g < w8.heap.size := HY8.out.lt
              clear hb8 c0 c1' c2' d0 d1 d2
              have c0 := HX8.out.cell 0
              have c1' := HX8.out.cell 1
              have c2' := HX8.out.cell 2
              simp at c0 c1' c2'
              have d0 := HY8.out.cell 0
              have d1 := HY8.out.cell 1
              have d2 := HY8.out.cell 2
              simp at d0 d1 d2
              go_wp2_with fail
              refine (awake10_any _).mono ?_
              rintro e wz ⟨rfl, hbz⟩
              go_wp2
              go_ret
              exact ⟨rfl, HB8.out.trans (hbz.mono HB8.out.size)⟩
            | true =>
              go_wp2_with fail
              refine (HA.out _ HB7.out).mono ?_
              rintro e w8 ⟨rfl, hb8⟩
              have HB8 := hide_ (HB7.out.trans (hb8.mono HB7.out.size))
              have HE8 := hide_ (HE7.out.trans (hb8.mono (by omega)))
              have HX8 := hide_ (HX7.out.below hb8)
              have HY8 := hide_ (HY7.out.below hb8)
              have hs8 : w.heap.size < w8.heap.size := HX8.out.lt
              have ht8 : g < w8.heap.size := HY8.out.lt
              clear hb8 c0 c1' c2' d0 d1 d2
              have c0 := HX8.out.cell 0
              have c1' := HX8.out.cell 1
              have c2' := HX8.out.cell 2
              simp at c0 c1' c2'
              have d0 := HY8.out.cell 0
              have d1 := HY8.out.cell 1
              have d2 := HY8.out.cell 2
              simp at d0 d1 d2
              go_wp2_with fail
              refine (HQ1.out _ HB8.out).mono ?_
              rintro e w9 ⟨rfl, hb9⟩
              have HB9 := hide_ (HB8.out.trans (hb9.mono HB8.out.size))
              have HE9 := hide_ (HE8.out.trans (hb9.mono (by omega)))
              have HX9 := hide_ (HX8.out.below hb9)
              have HY9 := hide_ (HY8.out.below hb9)
              have hs9 : w.heap.size < w9.heap.size := HX9.out.lt
              have ht9 : g < w9.heap.size := HY9.out.lt
              clear hb9 c0 c1' c2' d0 d1 d2
              have c0 := HX9.out.cell 0
              have c1' := HX9.out.cell 1
              have c2' := HX9.out.cell 2
              simp at c0 c1' c2'
              have d0 := HY9.out.cell 0
              have d1 := HY9.out.cell 1
              have d2 := HY9.out.cell 2
              simp at d0 d1 d2
              go_wp2_with fail
              refine (awake10_any _).mono ?_
              rintro e wz ⟨rfl, hbz⟩
              go_wp2
              go_ret
              exact ⟨rfl, HB9.out.trans (hbz.mono HB9.out.size)⟩
          | true =>
            have habz : (((a &&& b : Nat) : Int) != 0) = true := by rw [bne_iff_ne]; have := M3.out (by first | trivial | rfl); omega
            clear M3
            go_wp2_with fail
            refine (HQ1.out _ HB5.out).mono ?_
            rintro e w6 ⟨rfl, hb6⟩
            have HB6 := hide_ (HB5.out.trans (hb6.mono HB5.out.size))
            have HE6 := hide_ (HE5.out.trans (hb6.mono (by omega)))
            have HX6 := hide_ (HX5.out.below hb6)
            have HY6 := hide_ (HY5.out.below hb6)
            have hs6 : w.heap.size < w6.heap.size := HX6.out.lt
            have ht6 : g < w6.heap.size := HY6.out.lt
            clear hb6 c0 c1' c2' d0 d1 d2
            have c0 := HX6.out.cell 0
            have c1' := HX6.out.cell 1
            have c2' := HX6.out.cell 2
            simp at c0 c1' c2'
            have d0 := HY6.out.cell 0
            have d1 := HY6.out.cell 1
            have d2 := HY6.out.cell 2
            simp at d0 d1 d2
            go_wp2_with fail
            refine (HQD.out _ HE6.out).mono ?_
            rintro e w7 ⟨rfl, hb7⟩
            have HB7 := hide_ (HB6.out.trans (hb7.mono HB6.out.size))
            have HE7 := hide_ (HE6.out.trans (hb7.mono (by omega)))
            have HX7 := hide_ (HX6.out.below hb7)
            have HY7 := hide_ (HY6.out.below hb7)
            have hs7 : w.heap.size < w7.heap.size := HX7.out.lt
            have ht7 : g < w7.heap.size := HY7.out.lt
            clear hb7 c0 c1' c2' d0 d1 d2
            have c0 := HX7.out.cell 0
            have c1' := HX7.out.cell 1
            have c2' := HX7.out.cell 2
            simp at c0 c1' c2'
            have d0 := HY7.out.cell 0
            have d1 := HY7.out.cell 1
            have d2 := HY7.out.cell 2
            simp at d0 d1 d2
            cases qal with
            | false =>
              go_wp2_with fail
              refine (HA.out _ HB7.out).mono ?_
              rintro e w8 ⟨rfl, hb8⟩
              have HB8 := hide_ (HB7.out.trans (hb8.mono HB7.out.size))
              have HE8 := hide_ (HE7.out.trans (hb8.mono (by omega)))
              have HX8 := hide_ (HX7.out.below hb8)
              have HY8 := hide_ (HY7.out.below hb8)
              have hs8 : w.heap.size < w8.heap.size := HX8.out.lt
              have ht8 : g < w8.heap.size := HY8.out.lt
              clear hb8 c0 c1' c2' d0 d1 d2
              have c0 := HX8.out.cell 0
              have c1' := HX8.out.cell 1
              have c2' := HX8.out.cell 2
              simp at c0 c1' c2'
              have d0 := HY8.out.cell 0
              have d1 := HY8.out.cell 1
              have d2 := HY8.out.cell 2
              simp at d0 d1 d2
              go_wp2_with fail
              refine (awake10_any _).mono ?_
              rintro e wz ⟨rfl, hbz⟩
              go_wp2
              go_ret
              exact ⟨rfl, HB8.out.trans (hbz.mono HB8.out.size)⟩
            | true =>
              go_wp2_with fail
              refine (HA.out _ HB7.out).mono ?_
              rintro e w8 ⟨rfl, hb8⟩
              have HB8 := hide_ (HB7.out.trans (hb8.mono HB7.out.size))
              have HE8 := hide_ (HE7.out.trans (hb8.mono (by omega)))
              have HX8 := hide_ (HX7.out.below hb8)
              have HY8 := hide_ (HY7.out.below hb8)
              have hs8 : w.heap.size < w8.heap.size := HX8.out.lt
              have ht8 : g < w8.heap.size := HY8.out.lt
              clear hb8 c0 c1' c2' d0 d1 d2
              have c0 := HX8.out.cell 0
              have c1' := HX8.out.cell 1
              have c2' := HX8.out.cell 2
              simp at c0 c1' c2'
              have d0 := HY8.out.cell 0
              have d1 := HY8.out.cell 1
              have d2 := HY8.out.cell 2
              simp at d0 d1 d2
              go_wp2_with fail
              refine (HQ1.out _ HB8.out).mono ?_
              rintro e w9 ⟨rfl, hb9⟩
              have HB9 := hide_ (HB8.out.trans (hb9.mono HB8.out.size))
              have HE9 := hide_ (HE8.out.trans (hb9.mono (by omega)))
              have HX9 := hide_ (HX8.out.below hb9)
              have HY9 := hide_ (HY8.out.below hb9)
              have hs9 : w.heap.size < w9.heap.size := HX9.out.lt
              have ht9 : g < w9.heap.size := HY9.out.lt
              clear hb9 c0 c1' c2' d0 d1 d2
              have c0 := HX9.out.cell 0
              have c1' := HX9.out.cell 1
              have c2' := HX9.out.cell 2
              simp at c0 c1' c2'
              have d0 := HY9.out.cell 0
              have d1 := HY9.out.cell 1
              have d2 := HY9.out.cell 2
              simp at d0 d1 d2
              go_wp2_with fail
              refine (awake10_any _).mono ?_
              rintro e wz ⟨rfl, hbz⟩
              go_wp2
              go_ret
              exact ⟨rfl, HB9.out.trans (hbz.mono HB9.out.size)⟩
        · have hee : (er != 0) = true := by rw [bne_iff_ne]; exact he
          clear he M1 M2 M3
          go_wp2_with fail
          refine (awake10_any _).mono ?_
          rintro e wz ⟨rfl, hbz⟩
          go_wp2
          go_ret
          exact ⟨rfl, HB5.out.trans (hbz.mono HB5.out.size)⟩
      | true =>
        have habq : (((a &&& b : Nat) : Int) == 0) = false := by rw [beq_eq_false_iff_ne]; have := M2.out (by first | trivial | rfl) (by first | trivial | rfl); omega
        go_wp2_with fail
        refine (HQ1.out _ HB2.out).mono ?_
        rintro e w3 ⟨rfl, hb3⟩
        have HB3 := hide_ (HB2.out.trans (hb3.mono HB2.out.size))
        have HX3 := hide_ (HX2.out.below hb3)
        have hs3 : w.heap.size < w3.heap.size := HX3.out.lt
        clear hb3 c0 c1' c2'
        have c0 := HX3.out.cell 0
        have c1' := HX3.out.cell 1
        have c2' := HX3.out.cell 2
        simp at c0 c1' c2'
        go_wp2_with fail
        refine (HQ2.out _ HB3.out).mono ?_
        rintro e w4 ⟨rfl, hb4⟩
        have HB4 := hide_ (HB3.out.trans (hb4.mono HB3.out.size))
        have HX4 := hide_ (HX3.out.below hb4)
        have hs4 : w.heap.size < w4.heap.size := HX4.out.lt
        clear hb4 c0 c1' c2'
        have c0 := HX4.out.cell 0
        have c1' := HX4.out.cell 1
        have c2' := HX4.out.cell 2
        simp at c0 c1' c2'
        go_wp2_with fail
        refine (HS.out _ HB4.out).mono ?_
        rintro e w5 ⟨x', y', rfl, hx', hy', hox, hoy, hb5⟩
        obtain ⟨A3, c3, l3⟩ := x'
        obtain ⟨A4, c4, l4⟩ := y'
        simp only at hx' hy'
        subst hx' hy'
        simp only
        have HB5 := hide_ ((HB4.out.trans (hb5.mono HB4.out.size)).alloc (Nat.le_trans HB4.out.size hb5.size) (.cells #[.int .u64 (D : Nat), .slice A3 l3.length c3, .slice A4 l4.length c4] 25))
        have HX5 := hide_ ((HX4.out.below hb5).alloc (.cells #[.int .u64 (D : Nat), .slice A3 l3.length c3, .slice A4 l4.length c4] 25))
        have HY5 := hide_ (BoxAt.new w5 #[.int .u64 (D : Nat), .slice A3 l3.length c3, .slice A4 l4.length c4] 25)
        have HOX2 := hide_ (hox.below ((Below.refl w5.heap.size w5).alloc (Nat.le_refl _) (.cells #[.int .u64 (D : Nat), .slice A3 l3.length c3, .slice A4 l4.length c4] 25)))
        have HOY2 := hide_ (hoy.below ((Below.refl w5.heap.size w5).alloc (Nat.le_refl _) (.cells #[.int .u64 (D : Nat), .slice A3 l3.length c3, .slice A4 l4.length c4] 25)))
        obtain ⟨WD, hWD⟩ : ∃ W, w5.alloc (.cells #[.int .u64 (D : Nat), .slice A3 l3.length c3, .slice A4 l4.length c4] 25) = W := ⟨_, rfl⟩
        have hgs : w5.heap.size < WD.heap.size := by rw [← hWD]; simp
        rw [hWD] at HB5 HX5 HY5 HOX2 HOY2
        have HWD := hide_ hWD
        have hsd : w.heap.size < WD.heap.size := HX5.out.lt
        obtain ⟨g, hgg⟩ : ∃ g, w5.heap.size = g := ⟨_, rfl⟩
        have HGG := hide_ hgg
        rw [hgg] at HY5 HOX2 HOY2 hgs
        have HE5 := hide_ (Below.refl g WD)
        clear hWD hgg hox hoy hb5 c0 c1' c2'
        go_upto_region 6 with fail
        rw [HWD.out, HGG.out]
        have c0 := HX5.out.cell 0
        have c1' := HX5.out.cell 1
        have c2' := HX5.out.cell 2
        simp at c0 c1' c2'
        have d0 := HY5.out.cell 0
        have d1 := HY5.out.cell 1
        have d2 := HY5.out.cell 2
        simp at d0 d1 d2
        have HQD := hide_ (fun (u : World) (hu : Below g WD u) => Quorum_any D ⟨A3, c3, l3⟩ ⟨A4, c4, l4⟩ key b g u (HOX2.out.below hu) (HOY2.out.below hu) (by have := hu.size; omega) hb)
        simp only [cfV, NdM.v] at HQD
        by_cases he : er = 0
        · have hee : (er != 0) = false := by rw [he]; rfl
          have M3 := hide_ (fun h2 => M3.out (by first | trivial | rfl) he h2)
          obtain ⟨qd, hqd⟩ : ∃ q, quoC D l3 l4 key b = q := ⟨_, rfl⟩
          obtain ⟨qal, hqal⟩ : ∃ q, allC C l1 l2 key a = q := ⟨_, rfl⟩
          simp only [hqd] at HQD M3
          simp only [hqal] at HA
          clear he hqd hqal M1 M2
          cases qd with
          | false =>
            clear M3
            go_wp2_with fail
            refine (HQ1.out _ HB5.out).mono ?_
            rintro e w6 ⟨rfl, hb6⟩
            have HB6 := hide_ (HB5.out.trans (hb6.mono HB5.out.size))
            have HE6 := hide_ (HE5.out.trans (hb6.mono (by omega)))
            have HX6 := hide_ (HX5.out.below hb6)
            have HY6 := hide_ (HY5.out.below hb6)
            have hs6 : w.heap.size < w6.heap.size := HX6.out.lt
            have ht6 : g < w6.heap.size := HY6.out.lt
            clear hb6 c0 c1' c2' d0 d1 d2
            have c0 := HX6.out.cell 0
            have c1' := HX6.out.cell 1
            have c2' := HX6.out.cell 2
            simp at c0 c1' c2'
            have d0 := HY6.out.cell 0
            have d1 := HY6.out.cell 1
            have d2 := HY6.out.cell 2
            simp at d0 d1 d2
            go_wp2_with fail
            refine (HQD.out _ HE6.out).mono ?_
            rintro e w7 ⟨rfl, hb7⟩
            have HB7 := hide_ (HB6.out.trans (hb7.mono HB6.out.size))
            have HE7 := hide_ (HE6.out.trans (hb7.mono (by omega)))
            have HX7 := hide_ (HX6.out.below hb7)
            have HY7 := hide_ (HY6.out.below hb7)
            have hs7 : w.heap.size < w7.heap.size := HX7.out.lt
            have ht7 : g < w7.heap.size := HY7.out.lt
            clear hb7 c0 c1' c2' d0 d1 d2
            have c0 := HX7.out.cell 0
            have c1' := HX7.out.cell 1
            have c2' := HX7.out.cell 2
            simp at c0 c1' c2'
            have d0 := HY7.out.cell 0
            have d1 := HY7.out.cell 1
            have d2 := HY7.out.cell 2
            simp at d0 d1 d2
            cases qal with
            | false =>
              go_wp2_with fail
              refine (HA.out _ HB7.out).mono ?_
              rintro e w8 ⟨rfl, hb8⟩
              have HB8 := hide_ (HB7.out.trans (hb8.mono HB7.out.size))
              have HE8 := hide_ (HE7.out.trans (hb8.mono (by omega)))
              have HX8 := hide_ (HX7.out.below hb8)
              have HY8 := hide_ (HY7.out.below hb8)
              have hs8 : w.heap.size < w8.heap.size := HX8.out.lt
              have ht8 : g < w8.heap.size := HY8.out.lt
              clear hb8 c0 c1' c2' d0 d1 d2
              have c0 := HX8.out.cell 0
              have c1' := HX8.out.cell 1
              have c2' := HX8.out.cell 2
              simp at c0 c1' c2'
              have d0 := HY8.out.cell 0
              have d1 := HY8.out.cell 1
              have d2 := HY8.out.cell 2
              simp at d0 d1 d2
              go_wp2_with fail
              refine (awake10_any _).mono ?_
              rintro e wz ⟨rfl, hbz⟩
              go_wp2
              go_ret
              exact ⟨rfl, HB8.out.trans (hbz.mono HB8.out.size)⟩
            | true =>
              go_wp2_with fail
              refine (HA.out _ HB7.out).mono ?_
              rintro e w8 ⟨rfl, hb8⟩
              have HB8 := hide_ (HB7.out.trans (hb8.mono HB7.out.size))
              have HE8 := hide_ (HE7.out.trans (hb8.mono (by omega)))
              have HX8 := hide_ (HX7.out.below hb8)
              have HY8 := hide_ (HY7.out.below hb8)
              have hs8 : w.heap.size < w8.heap.size := HX8.out.lt
              have ht8 : g < w8.heap.size := HY8.out.lt
              clear hb8 c0 c1' c2' d0 d1 d2
              have c0 := HX8.out.cell 0
              have c1' := HX8.out.cell 1
              have c2' := HX8.out.cell 2
              simp at c0 c1' c2'
              have d0 := HY8.out.cell 0
              have d1 := HY8.out.cell 1
              have d2 := HY8.out.cell 2
              simp at d0 d1 d2
              go_wp2_with fail
              refine (HQ1.out _ HB8.out).mono ?_
              rintro e w9 ⟨rfl, hb9⟩
              have HB9 := hide_ (HB8.out.trans (hb9.mono HB8.out.size))
              have HE9 := hide_ (HE8.out.trans (hb9.mono (by omega)))
              have HX9 := hide_ (HX8.out.below hb9)
              have HY9 := hide_ (HY8.out.below hb9)
              have hs9 : w.heap.size < w9.heap.size := HX9.out.lt
              have ht9 : g < w9.heap.size := HY9.out.lt
              clear hb9 c0 c1' c2' d0 d1 d2
              have c0 := HX9.out.cell 0
              have c1' := HX9.out.cell 1
              have c2' := HX9.out.cell 2
              simp at c0 c1' c2'
              have d0 := HY9.out.cell 0
              have d1 := HY9.out.cell 1
              have d2 := HY9.out.cell 2
              simp at d0 d1 d2
              go_wp2_with fail
              refine (awake10_any _).mono ?_
              rintro e wz ⟨rfl, hbz⟩
              go_wp2
              go_ret
              exact ⟨rfl, HB9.out.trans (hbz.mono HB9.out.size)⟩
          | true =>
            have habz : (((a &&& b : Nat) : Int) != 0) = true := by rw [bne_iff_ne]; have := M3.out (by first | trivial | rfl); omega
            clear M3
            go_wp2_with fail
            refine (HQ1.out _ HB5.out).mono ?_
            rintro e w6 ⟨rfl, hb6⟩
            have HB6 := hide_ (HB5.out.trans (hb6.mono HB5.out.size))
            have HE6 := hide_ (HE5.out.trans (hb6.mono (by omega)))
            have HX6 := hide_ (HX5.out.below hb6)
            have HY6 := hide_ (HY5.out.below hb6)
            have hs6 : w.heap.size < w6.heap.size := HX6.out.lt
            have ht6 : g < w6.heap.size := HY6.out.lt
            clear hb6 c0 c1' c2' d0 d1 d2
            have c0 := HX6.out.cell 0
            have c1' := HX6.out.cell 1
            have c2' := HX6.out.cell 2
            simp at c0 c1' c2'
            have d0 := HY6.out.cell 0
            have d1 := HY6.out.cell 1
            have d2 := HY6.out.cell 2
            simp at d0 d1 d2
            go_wp2_with fail
            refine (HQD.out _ HE6.out).mono ?_
            rintro e w7 ⟨rfl, hb7⟩
            have HB7 := hide_ (HB6.out.trans (hb7.mono HB6.out.size))
            have HE7 := hide_ (HE6.out.trans (hb7.mono (by omega)))
            have HX7 := hide_ (HX6.out.below hb7)
            have HY7 := hide_ (HY6.out.below hb7)
            have hs7 : w.heap.size < w7.heap.size := HX7.out.lt
            have ht7 : g < w7.heap.size := HY7.out.lt
            clear hb7 c0 c1' c2' d0 d1 d2
            have c0 := HX7.out.cell 0
            have c1' := HX7.out.cell 1
            have c2' := HX7.out.cell 2
            simp at c0 c1' c2'
            have d0 := HY7.out.cell 0
            have d1 := HY7.out.cell 1
            have d2 := HY7.out.cell 2
            simp at d0 d1 d2
            cases qal with
            | false =>
              go_wp2_with fail
              refine (HA.out _ HB7.out).mono ?_
              rintro e w8 ⟨rfl, hb8⟩
              have HB8 := hide_ (HB7.out.trans (hb8.mono HB7.out.size))
              have HE8 := hide_ (HE7.out.trans (hb8.mono (by omega)))
              have HX8 := hide_ (HX7.out.below hb8)
              have HY8 := hide_ (HY7.out.below hb8)
              have hs8 : w.heap.size < w8.heap.size := HX8.out.lt
              have ht8 : g < w8.heap.size := HY8.out.lt
              clear hb8 c0 c1' c2' d0 d1 d2
              have c0 := HX8.out.cell 0
              have c1' := HX8.out.cell 1
              have c2' := HX8.out.cell 2
              simp at c0 c1' c2'
              have d0 := HY8.out.cell 0
              have d1 := HY8.out.cell 1
              have d2 := HY8.out.cell 2
              simp at d0 d1 d2
              go_wp2_with fail
              refine (awake10_any _).mono ?_
              rintro e wz ⟨rfl, hbz⟩
              go_wp2
              go_ret
              exact ⟨rfl, HB8.out.trans (hbz.mono HB8.out.size)⟩
            | true =>
              go_wp2_with fail
              refine (HA.out _ HB7.out).mono ?_
              rintro e w8 ⟨rfl, hb8⟩
              have HB8 := hide_ (HB7.out.trans (hb8.mono HB7.out.size))
              have HE8 := hide_ (HE7.out.trans (hb8.mono (by omega)))
              have HX8 := hide_ (HX7.out.below hb8)
              have HY8 := hide_ (HY7.out.below hb8)
              have hs8 : w.heap.size < w8.heap.size := HX8.out.lt
              have ht8 : g < w8.heap.size := HY8.out.lt
              clear hb8 c0 c1' c2' d0 d1 d2
              have c0 := HX8.out.cell 0
              have c1' := HX8.out.cell 1
              have c2' := HX8.out.cell 2
              simp at c0 c1' c2'
              have d0 := HY8.out.cell 0
              have d1 := HY8.out.cell 1
              have d2 := HY8.out.cell 2
              simp at d0 d1 d2
              go_wp2_with fail
              refine (HQ1.out _ HB8.out).mono ?_
              rintro e w9 ⟨rfl, hb9⟩
              have HB9 := hide_ (HB8.out.trans (hb9.mono HB8.out.size))
              have HE9 := hide_ (HE8.out.trans (hb9.mono (by omega)))
              have HX9 := hide_ (HX8.out.below hb9)
              have HY9 := hide_ (HY8.out.below hb9)
              have hs9 : w.heap.size < w9.heap.size := HX9.out.lt
              have ht9 : g < w9.heap.size := HY9.out.lt
              clear hb9 c0 c1' c2' d0 d1 d2
              have c0 := HX9.out.cell 0
              have c1' := HX9.out.cell 1
              have c2' := HX9.out.cell 2
              simp at c0 c1' c2'
              have d0 := HY9.out.cell 0
              have d1 := HY9.out.cell 1
              have d2 := HY9.out.cell 2
              simp at d0 d1 d2
              go_wp2_with fail
              refine (awake10_any _).mono ?_
              rintro e wz ⟨rfl, hbz⟩
              go_wp2
              go_ret
              exact ⟨rfl, HB9.out.trans (hbz.mono HB9.out.size)⟩
        · have hee : (er != 0) = true := by rw [bne_iff_ne]; exact he
          clear he M1 M2 M3
          go_wp2_with fail
          refine (awake10_any _).mono ?_
          rintro e wz ⟨rfl, hbz⟩
          go_wp2
          go_ret
          exact ⟨rfl, HB5.out.trans (hbz.mono HB5.out.size)⟩

theorem own : ownKnob Try.prog.godebug = none := by kernel_rfl
theorem laid : laidOutB Try.prog = true := by kernel_rfl

set_option maxRecDepth 100000 in
theorem contract (H : Type) (enc : TypeId × Value → H) (W : World) (base : Nat) (args : Array Value) (ds gs : List (DataW H)) (before : List MemPlace)
    (hval : ∀ (j : Nat) t v, Try.f4.params[j]? = some t → args[j]? = some v → Value.okWide Try.prog W .any base t v)
    (hW : DataW.Whole enc Try.prog Try.f4.params.toList Rows.confMeetSpec.vars false W args.toList ds gs before) :
    Calls Try.prog 4 args W fun e W' => ∃ v, e = .returned v ∧ Rows.confMeetSpec.post enc Try.prog Try.f4 false true false false W args v W' := by
  have hW' := hW
  obtain ⟨p, q, hA0, hV, rfl, hfz, hnd⟩ := hW
  have hA : DataW.TrodAll enc Try.prog W 0 (fun _ => true) true Try.f4.params.toList args.toList ds p := hA0
  rw [Try.params4] at hA hval
  obtain ⟨v0, vs0, d0, ds0, p0, q0, hargs, rfl, rfl, h0, r0⟩ := trodAll_cons hA
  obtain ⟨v1, vs1, d1, ds1, p1, q1, rfl, rfl, rfl, h1, r1⟩ := trodAll_cons r0
  obtain ⟨v2, vs2, d2, ds2, p2, q2, rfl, rfl, rfl, h2, r2⟩ := trodAll_cons r1
  obtain ⟨v3, vs3, d3, ds3, p3, q3, rfl, rfl, rfl, h3, r3⟩ := trodAll_cons r2
  obtain ⟨v4, vs4, d4, ds4, p4, q4, rfl, rfl, rfl, h4, r4⟩ := trodAll_cons r3
  obtain ⟨rfl, rfl, rfl⟩ := trodAll_nil r4
  obtain rfl : args = #[v0, v1, v2, v3, v4] := by cases args; simp_all
  obtain ⟨rfl, rfl⟩ := trodVars_none hV
  obtain ⟨C0, P0, pn0, pc0, pl0, Q0, qn0, qc0, ql0, rfl, bc0, ⟨pe0, pm0, ps0⟩, qe0, qm0, qs0⟩ := open_conf (hval 0 25 v0 rfl rfl) h0
  obtain ⟨a1, rfl, rfl, rfl, w1⟩ := open_int Try.underlying5 (hval 1 5 v1 rfl rfl) h1
  have b1 : 0 ≤ a1 ∧ a1 ≤ 255 := by simpa [Lit.wf, IntKind.min, IntKind.max, IntKind.signed, IntKind.bits] using w1
  obtain ⟨a2, rfl, rfl, rfl, w2⟩ := open_int Try.underlying5 (hval 2 5 v2 rfl rfl) h2
  have b2 : 0 ≤ a2 ∧ a2 ≤ 255 := by simpa [Lit.wf, IntKind.min, IntKind.max, IntKind.signed, IntKind.bits] using w2
  obtain ⟨a3, rfl, rfl, rfl, w3⟩ := open_int Try.underlying22 (hval 3 22 v3 rfl rfl) h3
  have b3 : 0 ≤ a3 ∧ a3 ≤ 18446744073709551615 := by simpa [Lit.wf, IntKind.min, IntKind.max, IntKind.signed, IntKind.bits] using w3
  obtain ⟨a4, rfl, rfl, rfl, w4⟩ := open_int Try.underlying22 (hval 4 22 v4 rfl rfl) h4
  have b4 : 0 ≤ a4 ∧ a4 ≤ 18446744073709551615 := by simpa [Lit.wf, IntKind.min, IntKind.max, IntKind.signed, IntKind.bits] using w4
  have fin : ∀ (e : Ending) (W' : World), e = .returned (.bool true) ∧ Below W.heap.size W W' → ∃ v, e = .returned v ∧ Rows.confMeetSpec.post enc Try.prog Try.f4 false true false false W #[.agg #[.int .u64 C0, .slice P0 pn0 pc0, .slice Q0 qn0 qc0], .int .u8 a1, .int .u8 a2, .int .u64 a3, .int .u64 a4] v W' :=
    fun e W' ⟨he, hb⟩ => ⟨_, he, law_post laid (by kernel_rfl) rfl rfl rfl Try.underlying4 hW' hb⟩
  obtain ⟨node, rfl⟩ : ∃ x : UInt8, a1 = (x.toNat : Int) := ⟨UInt8.ofNat a1.toNat, by rw [UInt8.toNat_ofNat']; omega⟩
  obtain ⟨key, rfl⟩ : ∃ x : UInt8, a2 = (x.toNat : Int) := ⟨UInt8.ofNat a2.toNat, by rw [UInt8.toNat_ofNat']; omega⟩
  obtain ⟨a, rfl⟩ : ∃ x : Nat, a3 = (x : Int) := ⟨a3.toNat, by omega⟩
  obtain ⟨b, rfl⟩ : ∃ x : Nat, a4 = (x : Int) := ⟨a4.toNat, by omega⟩
  cases hg : (decide (80 < pn0) || decide (80 < qn0)) with
  | true => exact (walk_long C0 P0 pn0 pc0 Q0 qn0 qc0 node key a b W hg pm0 qm0).mono fin
  | false =>
    simp at hg
    exact (walk_short C0 P0 pn0 pc0 pl0 Q0 qn0 qc0 ql0 node key a b W bc0 pe0 ps0 qe0 qs0 (by omega) (by omega) (by omega) (by omega)).mono fin

set_option maxRecDepth 100000 in
theorem lifted (os : Os) (started : os.Started) (H : Type) (enc : TypeId × Value → H) :
    ReturnsInHanded {} Try.checked os 4 .any (Rows.confMeetSpec.pre6 enc Try.prog Try.f4 Rows.confMeetRow.domain false) (Rows.confMeetSpec.post enc Try.prog Try.f4 false true false false) := by
  refine returnsInHanded_of_change (C := Try.checked) (s := Rows.confMeetSpec) own started (by kernel_rfl) Try.func4
    (ChangeSpec.witness6 (enc := enc) (C := Try.checked) false ⟨#[], #[.agg #[.int .u64 0, .slice none 0 0, .slice none 0 0], .int .u8 0, .int .u8 0, .int .u64 0, .int .u64 0], []⟩ 8 (by kernel_rfl) (by kernel_rfl) (by kernel_rfl) (by kernel_rfl)) ?_
  intro W base args ds gs before hval hW _ _
  exact contract H enc W base args ds gs before hval hW

theorem proved : Rows.ConfMeetSaid :=
  OpenClaim.holds_of_wide 4 Try.f4 rfl rfl rfl rfl rfl rfl rfl ⟨rfl, rfl, rfl, rfl, rfl⟩ rfl rfl rfl rfl rfl (by kernel_rfl) Try.func4 (by kernel_rfl)
    (of_decide_eq_true (by kernel_rfl)) (by unfold Func.isWrapper; first | (rw [if_pos (by decide +kernel)]; kernel_rfl) | (rw [if_neg (by decide +kernel)]; exact ⟨rfl, rfl⟩))
    (fun os started H enc _ => lifted os started H enc)

end Go.Proofs.Ytlcgihdphdkhpaa.confMeet
