/-
  Contracts of conf's step and Step.
-/
import Derived.Test.YtlcgihdphdkhpaaTurn10
namespace Go.Proofs.Ytlcgihdphdkhpaa
open Go.RowKit

theorem turnN_len (l : List UInt8) (x : UInt8) : (turnN l x).length ≤ l.length + 1 := by
  unfold turnN
  split
  · exact Nat.le_trans (List.length_filter_le _ _) (by omega)
  · rw [List.length_append, List.length_cons]
    have : ∀ l : List UInt8, (l.filter fun y => decide (y.toNat < x.toNat)).length + (l.filter fun y => decide (x.toNat < y.toNat)).length ≤ l.length := by
      intro l
      induction l with
      | nil => simp
      | cons y l ih =>
        rw [List.filter_cons, List.filter_cons]
        by_cases h1 : y.toNat < x.toNat
        · rw [if_pos (by simpa using h1), if_neg (by simp; omega)]
          simp only [List.length_cons]
          omega
        · rw [if_neg (by simpa using h1)]
          split
          · simp only [List.length_cons]
            omega
          · simp only [List.length_cons]
            omega
    have := this l
    omega

theorem cell_set1 (u : World) (g i : Nat) (v : Value) (p : Addr) (hp : p.block ≠ g) : (u.setCell ⟨g, i, none⟩ v).cell? p = u.cell? p := World.cell?_of_block (Below.heap_setCell u ⟨g, i, none⟩ v p.block hp)
theorem cell_set3 (u : World) (g i j k : Nat) (v1 v2 v3 : Value) (p : Addr) (hp : p.block ≠ g) : (((u.setCell ⟨g, i, none⟩ v1).setCell ⟨g, j, none⟩ v2).setCell ⟨g, k, none⟩ v3).cell? p = u.cell? p := by
  rw [cell_set1 _ _ _ _ _ hp, cell_set1 _ _ _ _ _ hp, cell_set1 _ _ _ _ _ hp]
theorem grown_set3 (u : World) (g i j k : Nat) (v1 v2 v3 : Value) : u.grownBy (((u.setCell ⟨g, i, none⟩ v1).setCell ⟨g, j, none⟩ v2).setCell ⟨g, k, none⟩ v3) (some g) := grown_set (grown_set (grown_cell9 u g i v1) j v2) k v3

theorem own_past {w u : World} {base g n c : Nat} {A : Option Addr} {xs : List Value} (h : w.ownsRow base 5 1 (.slice A n c) n xs) (hg : g < base) (hu : w.grownBy u (some g)) : Sees u u.heap.size A xs :=
  Sees.ownRow9 (own_other9 h (fun e => by have := (h.lt g e.symm).1; omega) hu)

/-- a configuration that comes back -/
def CfOut (D : Nat) (o n : List UInt8) (w : World) (e : Ending) (w' : World) : Prop :=
  ∃ x y : NdM, e = .returned (cfV D x y) ∧ x.l = o ∧ y.l = n ∧ NdM.ok w' w'.heap.size x ∧ NdM.ok w' w'.heap.size y ∧ (∀ (g : Nat) (u : World), g < w.heap.size → w'.grownBy u (some g) → NdM.ok u u.heap.size x ∧ NdM.ok u u.heap.size y) ∧ Below w.heap.size w w'

set_option maxRecDepth 100000 in
set_option maxHeartbeats 1600000 in
theorem step_even (C : Nat) (x y : NdM) (node : UInt8) (B : Nat) (w : World) (hy : NdM.ok w B y) (hB : B ≤ w.heap.size) (hr : y.l.Pairwise fun a b => a.toNat < b.toNat) (hl : y.l.length ≤ 64) (hC : ¬ C % 2 = 1) (hC2 : C < 18446744073709551616) :
    Calls Try.prog 36 #[cfV C x y, .int .u8 (node.toNat : Int)] w (CfOut (C + 1) y.l (turnN y.l node) w) := by
  have HT := hide_ (fun u => Between_any C x y u)
  have HOY := hide_ (fun (u : World) (hu : Below w.heap.size w u) => (hy.more hB).below hu)
  have HTL := hide_ (turnN_len y.l node)
  obtain ⟨A1, c1, l1⟩ := x
  obtain ⟨A2, c2, l2⟩ := y
  simp only at hr hl HTL ⊢
  have HCL := hide_ (fun (u : World) (hu : Below w.heap.size w u) => clone8_any l2 w.heap.size A2 l2.length c2 u rfl (by omega) (HOY.out u hu).2 hu.size)
  have HTU := hide_ (fun (u : World) (hu : Below w.heap.size w u) => turned_any l2 node w.heap.size A2 l2.length c2 u rfl (by omega) (HOY.out u hu).2 hu.size hr)
  obtain ⟨t, ht⟩ : ∃ t, turnN l2 node = t := ⟨_, rfl⟩
  rw [ht] at HTL
  simp only [ht] at HTU ⊢
  have hd : decide (C % 2 = 1) = false := by simp; omega
  simp only [cfV, NdM.v, hd] at HT ⊢
  have hwC : IntKind.u64.wrap ((C : Int) + 1) = (C : Int) + 1 := by rw [IntKind.wrap_u64]; omega
  clear ht hr hy hd hC
  have HB0 := hide_ (((Below.refl w.heap.size w).alloc (Nat.le_refl _) (.cells #[.int .u64 C, .slice A1 l1.length c1, .slice A2 l2.length c2] 25)).alloc (by simp) (.cells #[.int .u64 0, .slice none 0 0, .slice none 0 0] 25))
  have HX0 := hide_ ((BoxAt.new w #[.int .u64 C, .slice A1 l1.length c1, .slice A2 l2.length c2] 25).alloc (.cells #[.int .u64 0, .slice none 0 0, .slice none 0 0] 25))
  have HZ0 := hide_ (BoxAt.new (w.alloc (.cells #[.int .u64 C, .slice A1 l1.length c1, .slice A2 l2.length c2] 25)) #[.int .u64 0, .slice none 0 0, .slice none 0 0] 25)
  obtain ⟨W0, hW0⟩ : ∃ W0, (w.alloc (.cells #[.int .u64 C, .slice A1 l1.length c1, .slice A2 l2.length c2] 25)).alloc (.cells #[.int .u64 0, .slice none 0 0, .slice none 0 0] 25) = W0 := ⟨_, rfl⟩
  rw [hW0] at HB0 HX0 HZ0
  have hsz : (w.alloc (.cells #[.int .u64 C, .slice A1 l1.length c1, .slice A2 l2.length c2] 25)).heap.size = w.heap.size + 1 := by simp
  rw [hsz] at HZ0
  have HW0 := hide_ hW0
  have hs0 : w.heap.size + 1 < W0.heap.size := HZ0.out.lt
  clear hW0 hsz
  go_enter Try.func36, Try.ntmps36
  go_upto_region 1 with fail
  rw [HW0.out]
  have hs0' : w.heap.size < W0.heap.size := by omega
  have c0 := HX0.out.cell 0
  have c1' := HX0.out.cell 1
  have c2' := HX0.out.cell 2
  simp at c0 c1' c2'
  go_wp2_with fail
  refine (HT.out _).mono ?_
  rintro e w1 ⟨rfl, hb1⟩
  have HB1 := hide_ (HB0.out.trans (hb1.mono HB0.out.size))
  have HX1 := hide_ (HX0.out.below hb1)
  have HZ1 := hide_ (HZ0.out.below hb1)
  have hs1 : w.heap.size + 1 < w1.heap.size := HZ1.out.lt
  have hs1' : w.heap.size < w1.heap.size := by omega
  clear hb1 c0 c1' c2' hs0 hs0' HT
  have HS := hide_ (fun (u : World) (hu : Below w1.heap.size w1 u) => show (u.cell? ⟨w.heap.size, 0, none⟩ = some (.int .u64 C) ∧ u.cell? ⟨w.heap.size, 2, none⟩ = some (.slice A2 l2.length c2)) from by
    have h := HX1.out.below hu
    have c0 := h.cell 0
    have c2' := h.cell 2
    simp at c0 c2'
    exact ⟨c0, c2'⟩)
  have HQ := hide_ (Below.refl w1.heap.size w1)
  go_upto_region 3 with fail
  go_region_held (fun w' => w'.cell? ⟨w.heap.size, 0, none⟩ = some (.int .u64 C) ∧ w'.cell? ⟨w.heap.size, 2, none⟩ = some (.slice A2 l2.length c2)) (first | exact HS.out _ HQ.out | exact HS.out _ HQ2.out | exact HS.out _ HQ1.out | exact ⟨(cell_set3 _ _ _ _ _ _ _ _ _ (by simp)).trans (HS.out _ HQ2.out).1, (cell_set3 _ _ _ _ _ _ _ _ _ (by simp)).trans (HS.out _ HQ2.out).2⟩ | exact HS.out _ (HQ.out.drew)) (first | (go_at_call 46; refine (HCL.out _ (HB1.out.drew)).mono ?_; rintro e w2 ⟨A3, c3, rfl, ho3, hb3⟩; (have HQ1 := hide_ (HQ.out.drew.trans (hb3.mono (by simp)))); (have HO3 := hide_ ho3); clear ho3 hb3) | (go_at_call 47; refine (HTU.out _ (HB1.out.trans (HQ1.out.mono HB1.out.size))).mono ?_; rintro e w3 ⟨A4, c4, rfl, ho4, hb4⟩; (have HQ2 := hide_ (HQ1.out.trans (hb4.mono HQ1.out.size))); (have HO3' := hide_ (own_below HO3.out hb4)); (have HO4 := hide_ ho4); (have HZ3 := hide_ (HZ1.out.below HQ2.out)); (have z0 := HZ3.out.cell 0); (have z1 := HZ3.out.cell 1); (have z2 := HZ3.out.cell 2); (have f0 := HZ3.out.free9 0); (have f1 := HZ3.out.free9 1); (have f2 := HZ3.out.free9 2); (have hz3 := HZ3.out.lt); simp at z0 z1 z2; clear ho4 hb4))
  go_wp2
  have HE := hide_ (((HZ3.out.set9 0 (.int .u64 ((C : Int) + 1))).set9 1 (.slice A3 l2.length c3)).set9 2 (.slice A4 t.length c4))
  have q0 := HE.out.cell 0
  have q1 := HE.out.cell 1
  have q2 := HE.out.cell 2
  simp only [List.setIfInBounds_toArray, List.set_cons_zero, List.set_cons_succ, List.getElem?_toArray, List.getElem?_cons_zero, List.getElem?_cons_succ] at q0 q1 q2
  refine bodyPost_ret (v := .agg #[.int .u64 ((C : Int) + 1), .slice A3 l2.length c3, .slice A4 t.length c4]) (by simp [results, Try.results36, go_sem, q0, q1, q2]) rfl ?_
  have hG := grown_set3 w3 (w.heap.size + 1) 0 1 2 (.int .u64 ((C : Int) + 1)) (.slice A3 l2.length c3) (.slice A4 t.length c4)
  exact ⟨⟨A3, c3, l2⟩, ⟨A4, c4, t⟩, rfl, rfl, rfl, ⟨by show l2.length ≤ 100; omega, Sees.ownRow9 (own_other9 HO3'.out (HZ3.out.apart9 (by decide) HO3'.out) hG)⟩,
    ⟨by show t.length ≤ 100; have := HTL.out; omega, Sees.ownRow9 (own_other9 HO4.out (HZ3.out.apart9 (by decide) HO4.out) hG)⟩, fun g u hg hu => ⟨⟨by show l2.length ≤ 100; omega, own_past (own_other9 HO3'.out (HZ3.out.apart9 (by decide) HO3'.out) hG) (show g < w1.heap.size by omega) hu⟩, ⟨by show t.length ≤ 100; have := HTL.out; omega, own_past (own_other9 HO4.out (HZ3.out.apart9 (by decide) HO4.out) hG) (show g < w2.heap.size by have := HQ1.out.size; omega) hu⟩⟩, (HB1.out.trans (HQ2.out.mono HB1.out.size)).grown hG (by omega) (fun k hk => by injection hk with hk; omega)⟩
set_option maxRecDepth 100000 in
set_option maxHeartbeats 1600000 in
theorem step_odd (C : Nat) (x y : NdM) (node : UInt8) (B : Nat) (w : World) (hy : NdM.ok w B y) (hB : B ≤ w.heap.size) (hl : y.l.length ≤ 64) (hC : C % 2 = 1) (_hC2 : C < 18446744073709551616) :
    Calls Try.prog 36 #[cfV C x y, .int .u8 (node.toNat : Int)] w (CfOut ((C + 1) % 18446744073709551616) [] y.l w) := by
  have HT := hide_ (fun u => Between_any C x y u)
  have HOY := hide_ (fun (u : World) (hu : Below w.heap.size w u) => (hy.more hB).below hu)
  obtain ⟨A1, c1, l1⟩ := x
  obtain ⟨A2, c2, l2⟩ := y
  simp only at hl ⊢
  have HCL := hide_ (fun (u : World) (hu : Below w.heap.size w u) => clone8_any l2 w.heap.size A2 l2.length c2 u rfl (by omega) (HOY.out u hu).2 hu.size)
  have hd : decide (C % 2 = 1) = true := by simp; omega
  obtain ⟨D, hD⟩ : ∃ D, (C + 1) % 18446744073709551616 = D := ⟨_, rfl⟩
  rw [hD]
  simp only [cfV, NdM.v, hd] at HT ⊢
  have hwC : IntKind.u64.wrap ((C : Int) + 1) = (D : Int) := by rw [IntKind.wrap_u64]; omega
  clear hy hd hC hD
  have HB0 := hide_ (((Below.refl w.heap.size w).alloc (Nat.le_refl _) (.cells #[.int .u64 C, .slice A1 l1.length c1, .slice A2 l2.length c2] 25)).alloc (by simp) (.cells #[.int .u64 0, .slice none 0 0, .slice none 0 0] 25))
  have HX0 := hide_ ((BoxAt.new w #[.int .u64 C, .slice A1 l1.length c1, .slice A2 l2.length c2] 25).alloc (.cells #[.int .u64 0, .slice none 0 0, .slice none 0 0] 25))
  have HZ0 := hide_ (BoxAt.new (w.alloc (.cells #[.int .u64 C, .slice A1 l1.length c1, .slice A2 l2.length c2] 25)) #[.int .u64 0, .slice none 0 0, .slice none 0 0] 25)
  obtain ⟨W0, hW0⟩ : ∃ W0, (w.alloc (.cells #[.int .u64 C, .slice A1 l1.length c1, .slice A2 l2.length c2] 25)).alloc (.cells #[.int .u64 0, .slice none 0 0, .slice none 0 0] 25) = W0 := ⟨_, rfl⟩
  rw [hW0] at HB0 HX0 HZ0
  have hsz : (w.alloc (.cells #[.int .u64 C, .slice A1 l1.length c1, .slice A2 l2.length c2] 25)).heap.size = w.heap.size + 1 := by simp
  rw [hsz] at HZ0
  have HW0 := hide_ hW0
  have hs0 : w.heap.size + 1 < W0.heap.size := HZ0.out.lt
  clear hW0 hsz
  go_enter Try.func36, Try.ntmps36
  go_upto_region 1 with fail
  rw [HW0.out]
  have hs0' : w.heap.size < W0.heap.size := by omega
  have c0 := HX0.out.cell 0
  have c1' := HX0.out.cell 1
  have c2' := HX0.out.cell 2
  simp at c0 c1' c2'
  go_wp2_with fail
  refine (HT.out _).mono ?_
  rintro e w1 ⟨rfl, hb1⟩
  have HB1 := hide_ (HB0.out.trans (hb1.mono HB0.out.size))
  have HX1 := hide_ (HX0.out.below hb1)
  have HZ1 := hide_ (HZ0.out.below hb1)
  have hs1 : w.heap.size + 1 < w1.heap.size := HZ1.out.lt
  have hs1' : w.heap.size < w1.heap.size := by omega
  clear hb1 c0 c1' c2' hs0 hs0' HT
  have HS := hide_ (fun (u : World) (hu : Below w1.heap.size w1 u) => show (u.cell? ⟨w.heap.size, 0, none⟩ = some (.int .u64 C) ∧ u.cell? ⟨w.heap.size, 2, none⟩ = some (.slice A2 l2.length c2)) from by
    have h := HX1.out.below hu
    have c0 := h.cell 0
    have c2' := h.cell 2
    simp at c0 c2'
    exact ⟨c0, c2'⟩)
  have HQ := hide_ (Below.refl w1.heap.size w1)
  go_upto_region 2 with fail
  go_region_held (fun w' => w'.cell? ⟨w.heap.size, 0, none⟩ = some (.int .u64 C) ∧ w'.cell? ⟨w.heap.size, 2, none⟩ = some (.slice A2 l2.length c2)) (first | exact HS.out _ HQ.out | exact HS.out _ HQ1.out | exact ⟨(cell_set3 _ _ _ _ _ _ _ _ _ (by simp)).trans (HS.out _ HQ1.out).1, (cell_set3 _ _ _ _ _ _ _ _ _ (by simp)).trans (HS.out _ HQ1.out).2⟩ | exact HS.out _ (HQ.out.drew)) (first | (go_at_call 46; refine (HCL.out _ (HB1.out.drew)).mono ?_; rintro e w2 ⟨A3, c3, rfl, ho3, hb3⟩; (have HQ1 := hide_ (HQ.out.drew.trans (hb3.mono (by simp)))); (have HO3 := hide_ ho3); (have HZ3 := hide_ (HZ1.out.below HQ1.out)); (have z0 := HZ3.out.cell 0); (have z1 := HZ3.out.cell 1); (have z2 := HZ3.out.cell 2); (have f0 := HZ3.out.free9 0); (have f1 := HZ3.out.free9 1); (have f2 := HZ3.out.free9 2); (have hz3 := HZ3.out.lt); simp at z0 z1 z2; clear ho3 hb3))
  go_wp2
  have HE := hide_ (((HZ3.out.set9 0 (.int .u64 (D : Int))).set9 1 (.slice none 0 0)).set9 2 (.slice A3 l2.length c3))
  have q0 := HE.out.cell 0
  have q1 := HE.out.cell 1
  have q2 := HE.out.cell 2
  simp only [List.setIfInBounds_toArray, List.set_cons_zero, List.set_cons_succ, List.getElem?_toArray, List.getElem?_cons_zero, List.getElem?_cons_succ] at q0 q1 q2
  refine bodyPost_ret (v := .agg #[.int .u64 (D : Int), .slice none 0 0, .slice A3 l2.length c3]) (by simp [results, Try.results36, go_sem, q0, q1, q2]) rfl ?_
  have hG := grown_set3 w2 (w.heap.size + 1) 0 1 2 (.int .u64 (D : Int)) (.slice none 0 0) (.slice A3 l2.length c3)
  exact ⟨⟨none, 0, []⟩, ⟨A3, c3, l2⟩, rfl, rfl, rfl, ⟨by show 0 ≤ 100; omega, Sees.empty _ _ _⟩,
    ⟨by show l2.length ≤ 100; omega, Sees.ownRow9 (own_other9 HO3.out (HZ3.out.apart9 (by decide) HO3.out) hG)⟩, fun g u hg hu => ⟨⟨by show 0 ≤ 100; omega, Sees.empty _ _ _⟩, ⟨by show l2.length ≤ 100; omega, own_past (own_other9 HO3.out (HZ3.out.apart9 (by decide) HO3.out) hG) (show g < w1.heap.size by omega) hu⟩⟩, (HB1.out.trans (HQ1.out.mono HB1.out.size)).grown hG (by omega) (fun k hk => by injection hk with hk; omega)⟩

/-- what comes next -/
def nextN (C : Nat) (n : List UInt8) (x : UInt8) : Nat × List UInt8 × List UInt8 := if C % 2 = 1 then ((C + 1) % 18446744073709551616, [], n) else (C + 1, n, turnN n x)
theorem stepN_next {C : Nat} {o n : List UInt8} {x : UInt8} (h : mayC C o n = true) :
    stepN C o n x = if mayC (nextN C n x).1 (nextN C n x).2.1 (nextN C n x).2.2 = false then (1, 0, [], []) else if 9223372036854775808 ≤ C then (7, 0, [], []) else (0, nextN C n x) := by
  unfold stepN nextN
  rw [h]
  simp only [Bool.not_true, Bool.false_eq_true, if_false]
  by_cases hC : C % 2 = 1
  · simp only [if_pos hC]
    rw [may_back h (by omega)]
    simp only [Bool.true_eq_false, if_false]
    split
    · rfl
    · rw [Nat.mod_eq_of_lt (by omega)]
  · simp only [if_neg hC]
    rw [may_step h hC]
    by_cases hx : x.toNat < 64
    · rw [if_neg (by omega)]
      by_cases ht : (turnN n x).length = 0
      · have hq : (decide (x.toNat < 64) && decide (0 < (turnN n x).length)) = false := by rw [ht]; simp
        rw [hq, if_pos ht]
        rfl
      · have hq : (decide (x.toNat < 64) && decide (0 < (turnN n x).length)) = true := by
          rw [Bool.and_eq_true, decide_eq_true_eq, decide_eq_true_eq]
          omega
        rw [hq, if_neg ht]
        rfl
    · have hq : (decide (x.toNat < 64) && decide (0 < (turnN n x).length)) = false := by
        rw [show decide (x.toNat < 64) = false from decide_eq_false hx]
        rfl
      rw [hq, if_pos (by omega)]
      rfl

theorem step_any (C : Nat) (x y : NdM) (node : UInt8) (B : Nat) (w : World) (hy : NdM.ok w B y) (hB : B ≤ w.heap.size) (hm : mayC C x.l y.l = true) (hC2 : C < 18446744073709551616) :
    Calls Try.prog 36 #[cfV C x y, .int .u8 (node.toNat : Int)] w (CfOut (nextN C y.l node).1 (nextN C y.l node).2.1 (nextN C y.l node).2.2 w) := by
  have hmy := okL_may (rings_ok hm y.l (new_in _ _ _))
  unfold nextN
  by_cases hC : C % 2 = 1
  · simp only [if_pos hC]
    exact step_odd C x y node B w hy hB (mayN_len hmy) hC hC2
  · simp only [if_neg hC]
    exact step_even C x y node B w hy hB ((mayN_iff _).1 hmy).2 (mayN_len hmy) hC hC2
end Go.Proofs.Ytlcgihdphdkhpaa
