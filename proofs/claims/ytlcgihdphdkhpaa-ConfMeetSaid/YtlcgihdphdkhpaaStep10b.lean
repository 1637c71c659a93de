/-
  The contract of conf's Step.
-/
import Derived.Test.YtlcgihdphdkhpaaStep10
namespace Go.Proofs.Ytlcgihdphdkhpaa
open Go.RowKit

theorem grown_any10 {w w' : World} (h : Below w.heap.size w w') (row : Option Nat) : w.grownBy w' row := ⟨h.os, h.tape, h.output, h.size, fun k hk _ => h.block k hk⟩

/-- a configuration and an error -/
def StOut (s : Int × Nat × List UInt8 × List UInt8) (w : World) (e : Ending) (w' : World) : Prop :=
  ∃ x y : NdM, e = .returned (.tuple #[cfV s.2.1 x y, .int .i64 s.1]) ∧ x.l = s.2.2.1 ∧ y.l = s.2.2.2 ∧ NdM.ok w' w'.heap.size x ∧ NdM.ok w' w'.heap.size y ∧ Below w.heap.size w w'
theorem conf_zero : (Try.prog.info? 25).map (fun i => i.zero) = some (some (.agg #[.int .u64 0, .slice none 0 0, .slice none 0 0])) := by kernel_rfl

set_option maxRecDepth 100000 in
set_option maxHeartbeats 1600000 in
theorem Step_any (C : Nat) (x y : NdM) (node : UInt8) (B : Nat) (w : World) (hx : NdM.ok w B x) (hy : NdM.ok w B y) (hB : B ≤ w.heap.size) (hC2 : C < 18446744073709551616) :
    Calls Try.prog 18 #[cfV C x y, .int .u8 (node.toNat : Int)] w (StOut (stepN C x.l y.l node) w) := by
  have HM := hide_ (fun (u : World) (hu : Below w.heap.size w u) => cMay_any C x y w.heap.size u ((hx.more hB).below hu) ((hy.more hB).below hu) hu.size)
  have HST := hide_ (fun (hm : mayC C x.l y.l = true) (u : World) (hu : Below w.heap.size w u) => step_any C x y node w.heap.size u ((hy.more hB).below hu) hu.size hm hC2)
  have HNX := hide_ (fun (hm : mayC C x.l y.l = true) => stepN_next (x := node) hm)
  have HNO := hide_ (fun (hm : mayC C x.l y.l = false) => show stepN C x.l y.l node = (1, 0, [], []) from by rw [stepN, hm]; rfl)
  obtain ⟨r, hr⟩ : ∃ r, stepN C x.l y.l node = r := ⟨_, rfl⟩
  obtain ⟨my, hmy⟩ : ∃ my, mayC C x.l y.l = my := ⟨_, rfl⟩
  obtain ⟨nx, hnx⟩ : ∃ nx, nextN C y.l node = nx := ⟨_, rfl⟩
  have hnD : nx.1 < 18446744073709551616 := by
    rw [← hnx, nextN]
    split
    · exact Nat.mod_lt _ (by decide)
    · show C + 1 < _; omega
  simp only [hr, hmy, hnx] at HM HST HNX HNO ⊢
  clear hr hmy hnx hx hy
  obtain ⟨A1, c1, l1⟩ := x
  obtain ⟨A2, c2, l2⟩ := y
  obtain ⟨D, no, nn⟩ := nx
  simp only [cfV, NdM.v] at HM HST HNX hnD ⊢
  have HB0 := hide_ (((Below.refl w.heap.size w).alloc (Nat.le_refl _) (.cells #[.int .u64 C, .slice A1 l1.length c1, .slice A2 l2.length c2] 25)).alloc (by simp) (.cells #[.int .u64 0, .slice none 0 0, .slice none 0 0] 25))
  have HX0 := hide_ ((BoxAt.new w #[.int .u64 C, .slice A1 l1.length c1, .slice A2 l2.length c2] 25).alloc (.cells #[.int .u64 0, .slice none 0 0, .slice none 0 0] 25))
  have HZ0 := hide_ (BoxAt.new (w.alloc (.cells #[.int .u64 C, .slice A1 l1.length c1, .slice A2 l2.length c2] 25)) #[.int .u64 0, .slice none 0 0, .slice none 0 0] 25)
  obtain ⟨W0, hW0⟩ : ∃ W0, (w.alloc (.cells #[.int .u64 C, .slice A1 l1.length c1, .slice A2 l2.length c2] 25)).alloc (.cells #[.int .u64 0, .slice none 0 0, .slice none 0 0] 25) = W0 := ⟨_, rfl⟩
  rw [hW0] at HB0 HX0 HZ0
  have hsz : (w.alloc (.cells #[.int .u64 C, .slice A1 l1.length c1, .slice A2 l2.length c2] 25)).heap.size = w.heap.size + 1 := by simp
  rw [hsz] at HZ0
  have HW0 := hide_ hW0
  have hs0 : w.heap.size + 1 < W0.heap.size := HZ0.out.lt
  have hs0' : w.heap.size < W0.heap.size := by omega
  clear hW0 hsz
  go_enter Try.func18, Try.ntmps18
  go_upto_region 1 with fail
  rw [HW0.out]
  have c0 := HX0.out.cell 0
  have c1' := HX0.out.cell 1
  have c2' := HX0.out.cell 2
  simp at c0 c1' c2'
  cases my with
  | false =>
    have HR := hide_ (HNO.out rfl)
    go_wp2_with fail
    refine (HM.out _ HB0.out).mono ?_
    rintro e w1 ⟨rfl, hb1⟩
    have HB1 := hide_ (HB0.out.trans (hb1.mono HB0.out.size))
    have HZ1 := hide_ (HZ0.out.below hb1)
    clear hb1 c0 c1' c2' hs0 hs0'
    have z0 := HZ1.out.cell 0
    have z1 := HZ1.out.cell 1
    have z2 := HZ1.out.cell 2
    have f0 := HZ1.out.free9 0
    have f1 := HZ1.out.free9 1
    have f2 := HZ1.out.free9 2
    have hz3 := HZ1.out.lt
    simp at z0 z1 z2
    go_wp2
    have HE := hide_ (((HZ1.out.set9 0 (.int .u64 0)).set9 1 (.slice none 0 0)).set9 2 (.slice none 0 0))
    have q0 := HE.out.cell 0
    have q1 := HE.out.cell 1
    have q2 := HE.out.cell 2
    simp only [List.setIfInBounds_toArray, List.set_cons_zero, List.set_cons_succ, List.getElem?_toArray, List.getElem?_cons_zero, List.getElem?_cons_succ] at q0 q1 q2
    refine bodyPost_ret (v := .tuple #[.agg #[.int .u64 0, .slice none 0 0, .slice none 0 0], .int .i64 1]) (by simp [results, Try.results18, go_sem, q0, q1, q2]) rfl ?_
    have hG := grown_set3 w1 (w.heap.size + 1) 0 1 2 (.int .u64 0) (.slice none 0 0) (.slice none 0 0)
    rw [HR.out]
    exact ⟨⟨none, 0, []⟩, ⟨none, 0, []⟩, rfl, rfl, rfl, ⟨by show 0 ≤ 100; omega, Sees.empty _ _ _⟩, ⟨by show 0 ≤ 100; omega, Sees.empty _ _ _⟩, HB1.out.grown hG (by omega) (fun k hk => by injection hk with hk; omega)⟩
  | true =>
    have HN := hide_ (HNX.out rfl)
    go_wp2_with fail
    refine (HM.out _ HB0.out).mono ?_
    rintro e w1 ⟨rfl, hb1⟩
    have HB1 := hide_ (HB0.out.trans (hb1.mono HB0.out.size))
    have HX1 := hide_ (HX0.out.below hb1)
    have HZ1 := hide_ (HZ0.out.below hb1)
    have hs1 : w.heap.size + 1 < w1.heap.size := HZ1.out.lt
    have hs1' : w.heap.size < w1.heap.size := by omega
    clear hb1 c0 c1' c2' hs0 hs0' HM HNO HNX
    have c0 := HX1.out.cell 0
    have c1' := HX1.out.cell 1
    have c2' := HX1.out.cell 2
    simp at c0 c1' c2'
    go_wp2_with fail
    refine (HST.out (by first | trivial | rfl) _ HB1.out).mono ?_
    rintro e w2 ⟨x', y', rfl, hx', hy', hox, hoy, hap, hb2⟩
    obtain ⟨A3, c3, l3⟩ := x'
    obtain ⟨A4, c4, l4⟩ := y'
    simp only at hx' hy'
    subst hx' hy'
    simp only [cfV, NdM.v]
    have HAP := hide_ (fun (u : World) (hu : w2.grownBy u (some (w.heap.size + 1))) => hap (w.heap.size + 1) u hs1 hu)
    have HB2 := hide_ (HB1.out.trans (hb2.mono HB1.out.size))
    have HX2 := hide_ ((HX1.out.below hb2).alloc (.cells #[.int .u64 (D : Nat), .slice A3 l3.length c3, .slice A4 l4.length c4] 25))
    have HZ2 := hide_ ((HZ1.out.below hb2).alloc (.cells #[.int .u64 (D : Nat), .slice A3 l3.length c3, .slice A4 l4.length c4] 25))
    have HY2 := hide_ (BoxAt.new w2 #[.int .u64 (D : Nat), .slice A3 l3.length c3, .slice A4 l4.length c4] 25)
    have HB2' := hide_ (HB2.out.alloc HB2.out.size (.cells #[.int .u64 (D : Nat), .slice A3 l3.length c3, .slice A4 l4.length c4] 25))
    have HD3 := hide_ ((Below.refl w2.heap.size w2).alloc (Nat.le_refl _) (.cells #[.int .u64 (D : Nat), .slice A3 l3.length c3, .slice A4 l4.length c4] 25))
    have HOX := hide_ (hox.below ((Below.refl w2.heap.size w2).alloc (Nat.le_refl _) (.cells #[.int .u64 (D : Nat), .slice A3 l3.length c3, .slice A4 l4.length c4] 25)))
    have HOY := hide_ (hoy.below ((Below.refl w2.heap.size w2).alloc (Nat.le_refl _) (.cells #[.int .u64 (D : Nat), .slice A3 l3.length c3, .slice A4 l4.length c4] 25)))
    obtain ⟨W3, hW3⟩ : ∃ W3, w2.alloc (.cells #[.int .u64 (D : Nat), .slice A3 l3.length c3, .slice A4 l4.length c4] 25) = W3 := ⟨_, rfl⟩
    have hsz3 : w2.heap.size < W3.heap.size := by rw [← hW3]; simp
    rw [hW3] at HX2 HZ2 HY2 HB2' HOX HOY HD3
    have HW3 := hide_ hW3
    have hg2 : w.heap.size + 1 < w2.heap.size := (HZ1.out.below hb2).lt
    obtain ⟨g, hg⟩ : ∃ g, w2.heap.size = g := ⟨_, rfl⟩
    have HGG := hide_ hg
    rw [hg] at HY2 HOX HOY hsz3 hg2
    have hsx : w.heap.size < W3.heap.size := HX2.out.lt
    clear hW3 hg hb2 hox hoy hap c0 c1' c2' hs1 hs1' HX1 HZ1 HB1 HST
    go_upto_region 4 with fail
    rw [HW3.out, HGG.out]
    have d0 := HY2.out.cell 0
    have d1 := HY2.out.cell 1
    have d2 := HY2.out.cell 2
    simp at d0 d1 d2
    have HM2 := hide_ (cMay_any D ⟨A3, c3, l3⟩ ⟨A4, c4, l4⟩ g W3 HOX.out HOY.out (by omega))
    simp only [cfV, NdM.v] at HM2
    obtain ⟨m2, hm2⟩ : ∃ m2, mayC D l3 l4 = m2 := ⟨_, rfl⟩
    rw [hm2] at HM2 HN
    clear hm2
    cases m2 with
    | false =>
      have HR := hide_ (show r = (1, 0, [], []) by rw [HN.out]; rfl)
      go_wp2_with fail
      refine HM2.out.mono ?_
      rintro e w4 ⟨rfl, hb4⟩
      have HB4 := hide_ (HB2'.out.trans (hb4.mono HB2'.out.size))
      have HZ4 := hide_ (HZ2.out.below hb4)
      clear hb4 d0 d1 d2
      have z0 := HZ4.out.cell 0
      have z1 := HZ4.out.cell 1
      have z2 := HZ4.out.cell 2
      have f0 := HZ4.out.free9 0
      have f1 := HZ4.out.free9 1
      have f2 := HZ4.out.free9 2
      have hz3 := HZ4.out.lt
      simp at z0 z1 z2
      go_wp2
      have HE := hide_ (((HZ4.out.set9 0 (.int .u64 0)).set9 1 (.slice none 0 0)).set9 2 (.slice none 0 0))
      have q0 := HE.out.cell 0
      have q1 := HE.out.cell 1
      have q2 := HE.out.cell 2
      simp only [List.setIfInBounds_toArray, List.set_cons_zero, List.set_cons_succ, List.getElem?_toArray, List.getElem?_cons_zero, List.getElem?_cons_succ] at q0 q1 q2
      refine bodyPost_ret (v := .tuple #[.agg #[.int .u64 0, .slice none 0 0, .slice none 0 0], .int .i64 1]) (by simp [results, Try.results18, go_sem, q0, q1, q2]) rfl ?_
      have hG := grown_set3 w4 (w.heap.size + 1) 0 1 2 (.int .u64 0) (.slice none 0 0) (.slice none 0 0)
      rw [HR.out]
      exact ⟨⟨none, 0, []⟩, ⟨none, 0, []⟩, rfl, rfl, rfl, ⟨by show 0 ≤ 100; omega, Sees.empty _ _ _⟩, ⟨by show 0 ≤ 100; omega, Sees.empty _ _ _⟩, HB4.out.grown hG (by omega) (fun k hk => by injection hk with hk; omega)⟩
    | true =>
      go_wp2_with fail
      refine HM2.out.mono ?_
      rintro e w4 ⟨rfl, hb4⟩
      have HB4 := hide_ (HB2'.out.trans (hb4.mono HB2'.out.size))
      have HD4 := hide_ (HD3.out.trans (hb4.mono HD3.out.size))
      have HZ4 := hide_ (HZ2.out.below hb4)
      have HX4 := hide_ (HX2.out.below hb4)
      have HY4 := hide_ (HY2.out.below hb4)
      have HOX4 := hide_ ((HOX.out.below (hb4.mono (by omega))))
      have HOY4 := hide_ ((HOY.out.below (hb4.mono (by omega))))
      have hs4 : w.heap.size < w4.heap.size := HX4.out.lt
      have hs4' : g < w4.heap.size := HY4.out.lt
      clear hb4 d0 d1 d2
      have d0 := HY4.out.cell 0
      have d1 := HY4.out.cell 1
      have d2 := HY4.out.cell 2
      simp at d0 d1 d2
      have c0 := HX4.out.cell 0
      have c1' := HX4.out.cell 1
      have c2' := HX4.out.cell 2
      simp at c0 c1' c2'
      have z0 := HZ4.out.cell 0
      have z1 := HZ4.out.cell 1
      have z2 := HZ4.out.cell 2
      have f0 := HZ4.out.free9 0
      have f1 := HZ4.out.free9 1
      have f2 := HZ4.out.free9 2
      have hz3 := HZ4.out.lt
      simp at z0 z1 z2
      by_cases hbig : 9223372036854775808 ≤ C
      · have HR := hide_ (show r = (7, 0, [], []) by rw [HN.out, if_neg (by simp), if_pos hbig])
        have hbi : (9223372036854775808 : Int) ≤ (C : Int) := by omega
        go_wp2
        have HE := hide_ (((HZ4.out.set9 0 (.int .u64 0)).set9 1 (.slice none 0 0)).set9 2 (.slice none 0 0))
        have q0 := HE.out.cell 0
        have q1 := HE.out.cell 1
        have q2 := HE.out.cell 2
        simp only [List.setIfInBounds_toArray, List.set_cons_zero, List.set_cons_succ, List.getElem?_toArray, List.getElem?_cons_zero, List.getElem?_cons_succ] at q0 q1 q2
        refine bodyPost_ret (v := .tuple #[.agg #[.int .u64 0, .slice none 0 0, .slice none 0 0], .int .i64 7]) (by simp [results, Try.results18, go_sem, q0, q1, q2]) rfl ?_
        have hG := grown_set3 w4 (w.heap.size + 1) 0 1 2 (.int .u64 0) (.slice none 0 0) (.slice none 0 0)
        rw [HR.out]
        exact ⟨⟨none, 0, []⟩, ⟨none, 0, []⟩, rfl, rfl, rfl, ⟨by show 0 ≤ 100; omega, Sees.empty _ _ _⟩, ⟨by show 0 ≤ 100; omega, Sees.empty _ _ _⟩, HB4.out.grown hG (by omega) (fun k hk => by injection hk with hk; omega)⟩
      · have HR := hide_ (show r = (0, D, l3, l4) by rw [HN.out, if_neg (by simp), if_neg hbig])
        have hbi : ¬ (9223372036854775808 : Int) ≤ (C : Int) := by omega
        clear hbig hC2 HN hnD HX4
        obtain ⟨ci, hci⟩ : ∃ ci : Int, (C : Int) = ci := ⟨_, rfl⟩
        rw [hci] at hbi c0 ⊢
        clear hci
        go_wp2
        have HE := hide_ (((HZ4.out.set9 0 (.int .u64 (D : Nat))).set9 1 (.slice A3 l3.length c3)).set9 2 (.slice A4 l4.length c4))
        have q0 := HE.out.cell 0
        have q1 := HE.out.cell 1
        have q2 := HE.out.cell 2
        simp only [List.setIfInBounds_toArray, List.set_cons_zero, List.set_cons_succ, List.getElem?_toArray, List.getElem?_cons_zero, List.getElem?_cons_succ] at q0 q1 q2
        refine bodyPost_ret (v := .tuple #[.agg #[.int .u64 (D : Nat), .slice A3 l3.length c3, .slice A4 l4.length c4], .int .i64 0]) (by simp [results, Try.results18, go_sem, q0, q1, q2]) rfl ?_
        have hG := grown_set3 w4 (w.heap.size + 1) 0 1 2 (.int .u64 (D : Nat)) (.slice A3 l3.length c3) (.slice A4 l4.length c4)
        rw [HR.out]
        exact ⟨⟨A3, c3, l3⟩, ⟨A4, c4, l4⟩, rfl, rfl, rfl, (HAP.out _ (grown_join (grown_any10 HD4.out _) hG)).1, (HAP.out _ (grown_join (grown_any10 HD4.out _) hG)).2, HB4.out.grown hG (by omega) (fun k hk => by injection hk with hk; omega)⟩
end Go.Proofs.Ytlcgihdphdkhpaa
