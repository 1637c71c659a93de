/-
  Contracts of the reference's Same and Step.
-/
import Derived.Test.YtlcgihdphdkhpaaStep10b
import Derived.Test.YtlcgihdphdkhpaaConf5
namespace Go.Proofs.Ytlcgihdphdkhpaa
open Go.RowKit

set_option maxRecDepth 100000 in
set_option maxHeartbeats 800000 in
theorem refSame10_any (C D : Nat) (x y : NdM) (x' y' : NdM) (B : Nat) (w : World) (hx : NdM.ok w B x) (hy : NdM.ok w B y) (hx' : NdM.ok w B x') (hy' : NdM.ok w B y') (hB : B ≤ w.heap.size) (hC : C = D) (hl : x.l = x'.l) (hn : y.l = y'.l) :
    Calls Try.prog 20 #[cfV C x y, cfV D x' y'] w fun e w' => e = .returned (.bool true) ∧ Below w.heap.size w w' := by
  subst hC
  obtain ⟨A1, c1, l1⟩ := x
  obtain ⟨A2, c2, l2⟩ := y
  obtain ⟨A3, c3, l3⟩ := x'
  obtain ⟨A4, c4, l4⟩ := y'
  simp only at hl hn
  subst hl hn
  simp only [cfV, NdM.v]
  have HB0 := hide_ (((Below.refl w.heap.size w).alloc (Nat.le_refl _) (.cells #[.int .u64 C, .slice A1 l1.length c1, .slice A2 l2.length c2] 25)).alloc (by simp) (.cells #[.int .u64 C, .slice A3 l1.length c3, .slice A4 l2.length c4] 25))
  have K1 := fun (l : List UInt8) (A : Option Addr) (c : Nat) (h : NdM.ok w B ⟨A, c, l⟩) => run_str (P := Try.prog) ((w.alloc (.cells #[.int .u64 C, .slice A1 l1.length c1, .slice A2 l2.length c2] 25)).alloc (.cells #[.int .u64 C, .slice A3 l1.length c3, .slice A4 l2.length c4] 25)) 23 9 5 Try.underlying23 Try.underlying5 Try.underlying9 l w.heap.size A l.length c rfl ((h.2.more hB).below HB0.out)
  have k1 := K1 l1 A1 c1 hx
  have k2 := K1 l2 A2 c2 hy
  have k3 := K1 l1 A3 c3 hx'
  have k4 := K1 l2 A4 c4 hy'
  clear K1 hx hy hx' hy'
  go_enter Try.func20, Try.ntmps20
  go_wp2
  go_ret
  exact ⟨ret_bool9 (by simp), HB0.out⟩

/-! the step, node by node -/
def tlN (l : List UInt8) (x : UInt8) (k : Nat) : List UInt8 := ((List.range k).map UInt8.ofNat).filter fun z => l.contains z != (z == x)
theorem tlN_succ (l : List UInt8) (x : UInt8) (k : Nat) : tlN l x (k + 1) = if (l.contains (UInt8.ofNat k) != (UInt8.ofNat k == x)) then tlN l x k ++ [UInt8.ofNat k] else tlN l x k := by
  unfold tlN
  rw [List.range_succ, List.map_append, List.filter_append, List.map_singleton]
  generalize ((List.range k).map UInt8.ofNat).filter (fun z => l.contains z != (z == x)) = m
  cases h : (l.contains (UInt8.ofNat k) != (UInt8.ofNat k == x)) with
  | false => rw [List.filter_cons_of_neg (by rw [h]; simp), List.filter_nil, List.append_nil]; rfl
  | true => rw [List.filter_cons_of_pos (p := fun z => l.contains z != (z == x)) h, List.filter_nil]; rfl
theorem tlN_len (l : List UInt8) (x : UInt8) (k : Nat) : (tlN l x k).length ≤ k := by
  refine Nat.le_trans (List.length_filter_le _ _) ?_
  simp
theorem tlN_turn {l : List UInt8} {x : UInt8} (h : mayN l = true) (hx : x.toNat < 64) : tlN l x 64 = turnN l x := by
  refine mayN_mem ?_ (mayN_turnN h hx) fun y => ?_
  · unfold tlN
    refine mayN_filter ?_ _
    decide +kernel
  · rw [mem_turnN, tlN, List.mem_filter]
    constructor
    · rintro ⟨_, h2⟩
      by_cases e : y = x
      · subst e
        right
        refine ⟨rfl, fun hm => ?_⟩
        rw [List.contains_iff_mem.2 hm] at h2
        simp at h2
      · left
        refine ⟨?_, e⟩
        rw [beq_eq_false_iff_ne.2 e] at h2
        rw [← List.contains_iff_mem]
        simpa using h2
    · intro h2
      have hy : y.toNat < 64 := by
        rcases h2 with h2 | h2
        · exact mayN_64 h y h2.1
        · rw [h2.1]; exact hx
      refine ⟨List.mem_map.2 ⟨y.toNat, by simp; exact hy, by simp⟩, ?_⟩
      rcases h2 with ⟨h2, h3⟩ | ⟨rfl, h3⟩
      · rw [List.contains_iff_mem.2 h2, beq_eq_false_iff_ne.2 h3]
        rfl
      · have : l.contains y = false := by rw [← Bool.not_eq_true, List.contains_iff_mem]; exact h3
        rw [this]
        simp

set_option maxRecDepth 100000 in
set_option maxHeartbeats 1600000 in
theorem refStep10_any (C : Nat) (x y : NdM) (node : UInt8) (B : Nat) (w : World) (hx : NdM.ok w B x) (hy : NdM.ok w B y) (hB : B ≤ w.heap.size) (hC2 : C < 18446744073709551616) :
    Calls Try.prog 19 #[cfV C x y, .int .u8 (node.toNat : Int)] w (StOut (stepN C x.l y.l node) w) := by
  have HM := hide_ (fun (u : World) (hu : Below w.heap.size w u) => refMay10_any C x y w.heap.size u ((hx.more hB).below hu) ((hy.more hB).below hu) hu.size)
  have HOY := hide_ (fun (u : World) (hu : Below w.heap.size w u) => (hy.more hB).below hu)
  have HNO := hide_ (fun (hm : mayC C x.l y.l = false) => show stepN C x.l y.l node = (1, 0, [], []) from by rw [stepN, hm]; rfl)
  have HYE := hide_ (fun (hm : mayC C x.l y.l = true) => show stepN C x.l y.l node = if C % 2 = 1 then (if 9223372036854775808 ≤ C then (7, 0, [], []) else (0, C + 1, [], y.l)) else if 64 ≤ node.toNat then (1, 0, [], []) else if (turnN y.l node).length = 0 then (1, 0, [], []) else if 9223372036854775808 ≤ C then (7, 0, [], []) else (0, C + 1, y.l, turnN y.l node) from by rw [stepN, hm]; rfl)
  have HTL := hide_ (fun (hm : mayC C x.l y.l = true) (hx : node.toNat < 64) => tlN_turn (okL_may (rings_ok hm y.l (new_in _ _ _))) hx)
  have HLS := hide_ (fun k => tlN_succ y.l node k)
  have HLL := hide_ (fun k => tlN_len y.l node k)
  obtain ⟨r, hr⟩ : ∃ r, stepN C x.l y.l node = r := ⟨_, rfl⟩
  obtain ⟨my, hmy⟩ : ∃ my, mayC C x.l y.l = my := ⟨_, rfl⟩
  have hnl := node.toNat_lt
  have hly := hy.1
  simp only [hr, hmy] at HM HNO HYE HTL ⊢
  clear hr hmy hx hy
  obtain ⟨A1, c1, l1⟩ := x
  obtain ⟨A2, c2, l2⟩ := y
  simp only [cfV, NdM.v] at HM HYE HTL HLS HLL hly ⊢
  have HB0 := hide_ (((Below.refl w.heap.size w).alloc (Nat.le_refl _) (.cells #[.int .u64 C, .slice A1 l1.length c1, .slice A2 l2.length c2] 25)).alloc (by simp) (.cells #[.int .u64 0, .slice none 0 0, .slice none 0 0] 25))
  have HX0 := hide_ ((BoxAt.new w #[.int .u64 C, .slice A1 l1.length c1, .slice A2 l2.length c2] 25).alloc (.cells #[.int .u64 0, .slice none 0 0, .slice none 0 0] 25))
  have HZ0 := hide_ (BoxAt.new (w.alloc (.cells #[.int .u64 C, .slice A1 l1.length c1, .slice A2 l2.length c2] 25)) #[.int .u64 0, .slice none 0 0, .slice none 0 0] 25)
  obtain ⟨W0, hW0⟩ : ∃ W0, (w.alloc (.cells #[.int .u64 C, .slice A1 l1.length c1, .slice A2 l2.length c2] 25)).alloc (.cells #[.int .u64 0, .slice none 0 0, .slice none 0 0] 25) = W0 := ⟨_, rfl⟩
  rw [hW0] at HB0 HX0 HZ0
  have hsz : (w.alloc (.cells #[.int .u64 C, .slice A1 l1.length c1, .slice A2 l2.length c2] 25)).heap.size = w.heap.size + 1 := by simp
  rw [hsz] at HZ0
  have HW0 := hide_ hW0
  have hs0 : w.heap.size + 1 < W0.heap.size := HZ0.out.lt
  have hs0' : w.heap.size < W0.heap.size := by omega
  clear hW0 hsz
  have HB1 := hide_ (HB0.out.alloc (by omega) (.cells #[.int .u64 0, .slice none 0 0, .slice none 0 0] 25))
  have HX1 := hide_ (HX0.out.alloc (.cells #[.int .u64 0, .slice none 0 0, .slice none 0 0] 25))
  have HZ1 := hide_ (HZ0.out.alloc (.cells #[.int .u64 0, .slice none 0 0, .slice none 0 0] 25))
  have HN1 := hide_ (BoxAt.new W0 #[.int .u64 0, .slice none 0 0, .slice none 0 0] 25)
  obtain ⟨W1, hW1⟩ : ∃ W1, W0.alloc (.cells #[.int .u64 0, .slice none 0 0, .slice none 0 0] 25) = W1 := ⟨_, rfl⟩
  obtain ⟨nb, hnb⟩ : ∃ nb, W0.heap.size = nb := ⟨_, rfl⟩
  have hs1 : W1.heap.size = nb + 1 := by rw [← hW1, ← hnb]; simp
  have hs0' : w.heap.size + 1 < nb := by omega
  rw [hW1] at HB1 HX1 HZ1 HN1
  rw [hnb] at HN1
  have HW1 := hide_ hW1
  have HNB := hide_ hnb
  clear hW1 hnb
  go_enter Try.func19, Try.ntmps19
  go_upto_region 1 with fail
  rw [HW0.out]
  go_upto_region 2 with fail
  rw [HW1.out, HNB.out]
  have HCI := hide_ (show ∃ ci : Int, (C : Int) = ci from ⟨_, rfl⟩)
  obtain ⟨ci, hci⟩ := HCI.out
  have HCC := hide_ hci
  have hci0 : 0 ≤ ci := by omega
  have hci1 : ci < 18446744073709551616 := by omega
  simp only [hci] at HM HX1 ⊢
  clear hci HCI hC2 HX0 HZ0
  have c0 := HX1.out.cell 0
  have c1' := HX1.out.cell 1
  have c2' := HX1.out.cell 2
  have z0 := HZ1.out.cell 0
  have z1 := HZ1.out.cell 1
  have z2 := HZ1.out.cell 2
  have f0 := HZ1.out.free9 0
  have f1 := HZ1.out.free9 1
  have f2 := HZ1.out.free9 2
  have n0 := HN1.out.cell 0
  have n1 := HN1.out.cell 1
  have n2 := HN1.out.cell 2
  simp at c0 c1' c2' z0 z1 z2 n0 n1 n2
  have hsA1 := HX1.out.lt
  have hsB1 := HZ1.out.lt
  have hsC1 := HN1.out.lt
  have HMM := hide_ (HM.out _ HB1.out)
  cases my with
  | false =>
    have HR := hide_ (HNO.out rfl)
    go_wp2_with fail
    refine HMM.out.mono ?_
    rintro e w2 ⟨rfl, hb2⟩
    have HB2 := hide_ (HB1.out.trans (hb2.mono HB1.out.size))
    have HX2 := hide_ (HX1.out.below hb2)
    have HZ2 := hide_ (HZ1.out.below hb2)
    have HN2 := hide_ (HN1.out.below hb2)
    clear hb2 c0 c1' c2' z0 z1 z2 n0 n1 n2 f0 f1 f2
    have c0 := HX2.out.cell 0
    have c1' := HX2.out.cell 1
    have c2' := HX2.out.cell 2
    have z0 := HZ2.out.cell 0
    have z1 := HZ2.out.cell 1
    have z2 := HZ2.out.cell 2
    have f0 := HZ2.out.free9 0
    have f1 := HZ2.out.free9 1
    have f2 := HZ2.out.free9 2
    have n0 := HN2.out.cell 0
    have n1 := HN2.out.cell 1
    have n2 := HN2.out.cell 2
    simp at c0 c1' c2' z0 z1 z2 n0 n1 n2
    have hsA2 := HX2.out.lt
    have hsB2 := HZ2.out.lt
    have hsC2 := HN2.out.lt
    go_wp2
    have HE := hide_ (((HZ2.out.set9 0 (.int .u64 0)).set9 1 (.slice none 0 0)).set9 2 (.slice none 0 0))
    have q0 := HE.out.cell 0
    have q1 := HE.out.cell 1
    have q2 := HE.out.cell 2
    simp only [List.setIfInBounds_toArray, List.set_cons_zero, List.set_cons_succ, List.getElem?_toArray, List.getElem?_cons_zero, List.getElem?_cons_succ] at q0 q1 q2
    refine bodyPost_ret (v := .tuple #[.agg #[.int .u64 0, .slice none 0 0, .slice none 0 0], .int .i64 1]) (by simp [results, Try.results19, go_sem, q0, q1, q2]) rfl ?_
    have hG := grown_set3 w2 (w.heap.size + 1) 0 1 2 (.int .u64 0) (.slice none 0 0) (.slice none 0 0)
    have hW := HB2.out.grown hG (by omega) (fun k hk => by injection hk with hk; omega)
    rw [HR.out]
    exact ⟨⟨none, 0, []⟩, ⟨none, 0, []⟩, rfl, rfl, rfl, ⟨by show 0 ≤ 100; omega, Sees.empty _ _ _⟩, ⟨by show 0 ≤ 100; omega, Sees.empty _ _ _⟩, hW⟩
  | true =>
    have HY := hide_ (HYE.out rfl)
    have HTT := hide_ (HTL.out rfl)
    clear HYE HTL HNO
    by_cases hC : C % 2 = 1
    · have hce : ci % 2 = 1 := by have := HCC.out; omega
      have hce2 : (ci % 2 == 0) = false := by rw [hce]; rfl
      have HY2 := hide_ (show r = if 9223372036854775808 ≤ C then (7, 0, [], []) else (0, C + 1, [], l2) by rw [HY.out, if_pos hC])
      clear HY hC
      go_wp2_with fail
      refine HMM.out.mono ?_
      rintro e w2 ⟨rfl, hb2⟩
      have HB2 := hide_ (HB1.out.trans (hb2.mono HB1.out.size))
      have HX2 := hide_ (HX1.out.below hb2)
      have HZ2 := hide_ (HZ1.out.below hb2)
      have HN2 := hide_ (HN1.out.below hb2)
      clear hb2 c0 c1' c2' z0 z1 z2 n0 n1 n2 f0 f1 f2
      have c0 := HX2.out.cell 0
      have c1' := HX2.out.cell 1
      have c2' := HX2.out.cell 2
      have z0 := HZ2.out.cell 0
      have z1 := HZ2.out.cell 1
      have z2 := HZ2.out.cell 2
      have f0 := HZ2.out.free9 0
      have f1 := HZ2.out.free9 1
      have f2 := HZ2.out.free9 2
      have n0 := HN2.out.cell 0
      have n1 := HN2.out.cell 1
      have n2 := HN2.out.cell 2
      simp at c0 c1' c2' z0 z1 z2 n0 n1 n2
      have hsA2 := HX2.out.lt
      have hsB2 := HZ2.out.lt
      have hsC2 := HN2.out.lt
      by_cases hbig : (9223372036854775808 : Int) ≤ ci
      · have HR := hide_ (show r = (7, 0, [], []) by rw [HY2.out, if_pos (by have := HCC.out; omega)])
        go_wp2
        have HE := hide_ (((HZ2.out.set9 0 (.int .u64 0)).set9 1 (.slice none 0 0)).set9 2 (.slice none 0 0))
        have q0 := HE.out.cell 0
        have q1 := HE.out.cell 1
        have q2 := HE.out.cell 2
        simp only [List.setIfInBounds_toArray, List.set_cons_zero, List.set_cons_succ, List.getElem?_toArray, List.getElem?_cons_zero, List.getElem?_cons_succ] at q0 q1 q2
        refine bodyPost_ret (v := .tuple #[.agg #[.int .u64 0, .slice none 0 0, .slice none 0 0], .int .i64 7]) (by simp [results, Try.results19, go_sem, q0, q1, q2]) rfl ?_
        have hG := grown_set3 w2 (w.heap.size + 1) 0 1 2 (.int .u64 0) (.slice none 0 0) (.slice none 0 0)
        have hW := HB2.out.grown hG (by omega) (fun k hk => by injection hk with hk; omega)
        rw [HR.out]
        exact ⟨⟨none, 0, []⟩, ⟨none, 0, []⟩, rfl, rfl, rfl, ⟨by show 0 ≤ 100; omega, Sees.empty _ _ _⟩, ⟨by show 0 ≤ 100; omega, Sees.empty _ _ _⟩, hW⟩
      · have HR := hide_ (show r = (0, C + 1, [], l2) by rw [HY2.out, if_neg (by have := HCC.out; omega)])
        have hw : IntKind.u64.wrap (ci + 1) = ci + 1 := by rw [IntKind.wrap_u64]; omega
        go_wp2
        have HE := hide_ (((HZ2.out.set9 0 (.int .u64 (ci + 1))).set9 1 (.slice none 0 0)).set9 2 (.slice A2 l2.length c2))
        have q0 := HE.out.cell 0
        have q1 := HE.out.cell 1
        have q2 := HE.out.cell 2
        simp only [List.setIfInBounds_toArray, List.set_cons_zero, List.set_cons_succ, List.getElem?_toArray, List.getElem?_cons_zero, List.getElem?_cons_succ] at q0 q1 q2
        refine bodyPost_ret (v := .tuple #[.agg #[.int .u64 (ci + 1), .slice none 0 0, .slice A2 l2.length c2], .int .i64 0]) (by simp [results, Try.results19, go_sem, q0, q1, q2]) rfl ?_
        have hG := grown_set3 w2 (w.heap.size + 1) 0 1 2 (.int .u64 (ci + 1)) (.slice none 0 0) (.slice A2 l2.length c2)
        have hW := HB2.out.grown hG (by omega) (fun k hk => by injection hk with hk; omega)
        rw [HR.out]
        have hret : Ending.returned (Value.tuple #[.agg #[.int .u64 (ci + 1), .slice none 0 0, .slice A2 l2.length c2], .int .i64 0]) = .returned (.tuple #[cfV (C + 1) ⟨none, 0, []⟩ ⟨A2, c2, l2⟩, .int .i64 0]) := by rw [← HCC.out]; rfl
        exact ⟨⟨none, 0, []⟩, ⟨A2, c2, l2⟩, hret, rfl, rfl, ⟨by show 0 ≤ 100; omega, Sees.empty _ _ _⟩, ⟨hly, ((HOY.out _ hW).2.more hW.size)⟩, hW⟩
    · have hce : ci % 2 = 0 := by have := HCC.out; omega
      have hce2 : (ci % 2 == 0) = true := by rw [hce]; rfl
      have hce3 : (ci % 2 == 1) = false := by rw [hce]; rfl
      have HY2 := hide_ (show r = if 64 ≤ node.toNat then (1, 0, [], []) else if (turnN l2 node).length = 0 then (1, 0, [], []) else if 9223372036854775808 ≤ C then (7, 0, [], []) else (0, C + 1, l2, turnN l2 node) by rw [HY.out, if_neg hC])
      clear HY hC
      by_cases hnb : 64 ≤ node.toNat
      · have HR := hide_ (show r = (1, 0, [], []) by rw [HY2.out, if_pos hnb])
        have hnb' : (63 : Int) < (node.toNat : Int) := by omega
        go_wp2_with fail
        refine HMM.out.mono ?_
        rintro e w2 ⟨rfl, hb2⟩
        have HB2 := hide_ (HB1.out.trans (hb2.mono HB1.out.size))
        have HX2 := hide_ (HX1.out.below hb2)
        have HZ2 := hide_ (HZ1.out.below hb2)
        have HN2 := hide_ (HN1.out.below hb2)
        clear hb2 c0 c1' c2' z0 z1 z2 n0 n1 n2 f0 f1 f2
        have c0 := HX2.out.cell 0
        have c1' := HX2.out.cell 1
        have c2' := HX2.out.cell 2
        have z0 := HZ2.out.cell 0
        have z1 := HZ2.out.cell 1
        have z2 := HZ2.out.cell 2
        have f0 := HZ2.out.free9 0
        have f1 := HZ2.out.free9 1
        have f2 := HZ2.out.free9 2
        have n0 := HN2.out.cell 0
        have n1 := HN2.out.cell 1
        have n2 := HN2.out.cell 2
        simp at c0 c1' c2' z0 z1 z2 n0 n1 n2
        have hsA2 := HX2.out.lt
        have hsB2 := HZ2.out.lt
        have hsC2 := HN2.out.lt
        go_wp2
        have HE := hide_ (((HZ2.out.set9 0 (.int .u64 0)).set9 1 (.slice none 0 0)).set9 2 (.slice none 0 0))
        have q0 := HE.out.cell 0
        have q1 := HE.out.cell 1
        have q2 := HE.out.cell 2
        simp only [List.setIfInBounds_toArray, List.set_cons_zero, List.set_cons_succ, List.getElem?_toArray, List.getElem?_cons_zero, List.getElem?_cons_succ] at q0 q1 q2
        refine bodyPost_ret (v := .tuple #[.agg #[.int .u64 0, .slice none 0 0, .slice none 0 0], .int .i64 1]) (by simp [results, Try.results19, go_sem, q0, q1, q2]) rfl ?_
        have hG := grown_set3 w2 (w.heap.size + 1) 0 1 2 (.int .u64 0) (.slice none 0 0) (.slice none 0 0)
        have hW := HB2.out.grown hG (by omega) (fun k hk => by injection hk with hk; omega)
        rw [HR.out]
        exact ⟨⟨none, 0, []⟩, ⟨none, 0, []⟩, rfl, rfl, rfl, ⟨by show 0 ≤ 100; omega, Sees.empty _ _ _⟩, ⟨by show 0 ≤ 100; omega, Sees.empty _ _ _⟩, hW⟩
      · have HT := hide_ (HTT.out (by omega))
        have HY3 := hide_ (show r = if (turnN l2 node).length = 0 then (1, 0, [], []) else if 9223372036854775808 ≤ C then (7, 0, [], []) else (0, C + 1, l2, turnN l2 node) by rw [HY2.out, if_neg hnb])
        obtain ⟨tn, htn⟩ : ∃ tn, turnN l2 node = tn := ⟨_, rfl⟩
        rw [htn] at HT HY3
        have hnb' : ¬ (63 : Int) < (node.toNat : Int) := by omega
        clear htn HY2 HTT hnb
        go_wp2_with fail
        refine HMM.out.mono ?_
        rintro e w2 ⟨rfl, hb2⟩
        have HB2 := hide_ (HB1.out.trans (hb2.mono HB1.out.size))
        have HX2 := hide_ (HX1.out.below hb2)
        have HZ2 := hide_ (HZ1.out.below hb2)
        have HN2 := hide_ (HN1.out.below hb2)
        clear hb2 c0 c1' c2' z0 z1 z2 n0 n1 n2 f0 f1 f2
        have c0 := HX2.out.cell 0
        have c1' := HX2.out.cell 1
        have c2' := HX2.out.cell 2
        have z0 := HZ2.out.cell 0
        have z1 := HZ2.out.cell 1
        have z2 := HZ2.out.cell 2
        have f0 := HZ2.out.free9 0
        have f1 := HZ2.out.free9 1
        have f2 := HZ2.out.free9 2
        have n0 := HN2.out.cell 0
        have n1 := HN2.out.cell 1
        have n2 := HN2.out.cell 2
        simp at c0 c1' c2' z0 z1 z2 n0 n1 n2
        have hsA2 := HX2.out.lt
        have hsB2 := HZ2.out.lt
        have hsC2 := HN2.out.lt
        go_upto_region 8 with fail
        clear hce hce2 hce3 hnb'
        have HO3 := hide_ (show (w2.alloc (.cells #[] 5)).ownsRow w2.heap.size 5 1 (.slice (some ⟨w2.heap.size, 0, none⟩) 0 0) 0 (bv (tlN l2 node 0)) from own_empty9 5 (Nat.le_refl _))
        have HBZ := hide_ ((Below.refl w2.heap.size w2).alloc (Nat.le_refl _) (.cells #[] 5))
        go_wp2
        go_loopw [7, 8] (fun o i wx => ∃ (k : Nat) (A6 : Option Addr) (n6 c6 : Nat), k ≤ 64 ∧ i = .int .u8 k ∧ o = .slice A6 n6 c6 ∧ Hid ((tlN l2 node k).length = n6) ∧ Hid (wx.ownsRow w2.heap.size 5 1 (.slice A6 n6 c6) n6 (bv (tlN l2 node k))) ∧ Hid (Below w2.heap.size w2 wx)) (fun _ i _ => 64 - (intOf i).toNat)
        case atStart => exact ⟨0, _, 0, 0, by omega, rfl, rfl, hide_ rfl, HO3, HBZ⟩
        case round =>
          obtain ⟨k, A6, n6, c6, hk, rfl, rfl, HN6, HO6, HB6⟩ := hrel
          have HXk := hide_ (HX2.out.below HB6.out)
          have HZk := hide_ (HZ2.out.below HB6.out)
          have HNk := hide_ (HN2.out.below HB6.out)
          have HBk := hide_ (HB2.out.trans (HB6.out.mono HB2.out.size))
          have hn6 : n6 ≤ k := by have := HLL.out k; have := HN6.out; omega
          clear c0 c1' c2' z0 z1 z2 n0 n1 n2 f0 f1 f2
          have c0 := HXk.out.cell 0
          have c1' := HXk.out.cell 1
          have c2' := HXk.out.cell 2
          have z0 := HZk.out.cell 0
          have z1 := HZk.out.cell 1
          have z2 := HZk.out.cell 2
          have f0 := HZk.out.free9 0
          have f1 := HZk.out.free9 1
          have f2 := HZk.out.free9 2
          have n0 := HNk.out.cell 0
          have n1 := HNk.out.cell 1
          have n2 := HNk.out.cell 2
          simp at c0 c1' c2' z0 z1 z2 n0 n1 n2
          have hsAk := HXk.out.lt
          have hsBk := HZk.out.lt
          have hsCk := HNk.out.lt
          by_cases hlt : k < 64
          · have hws : w2.heap.size ≤ wr.heap.size := HB6.out.size
            have hyb := HOY.out _ HBk.out
            have HH3 := hide_ (has10_any l2 (UInt8.ofNat k) w.heap.size A2 l2.length c2 wr rfl (by unfold maxLen; omega) hyb.2)
            rw [byte_of (show k < 256 by omega)] at HH3
            have hst := HLS.out k
            have hbe : (UInt8.ofNat k == node) = ((k : Int) == (node.toNat : Int)) := by
              have hbo := byte_of (show k < 256 by omega)
              rw [Bool.eq_iff_iff, beq_iff_eq, beq_iff_eq]
              constructor
              · rintro rfl
                exact hbo.symm
              · intro e
                apply UInt8.toNat_inj.1
                omega
            rw [hbe] at hst
            have HBA := hide_ (HB6.out.alloc hws (.cells #[.int .u8 (k : Int)] 5))
            have HOA := hide_ (HO6.out.alloc (.cells #[.int .u8 (k : Int)] 5))
            have HSN := hide_ (show Sees (wr.alloc (.cells #[.int .u8 (k : Int)] 5)) (wr.heap.size + 1) (some ⟨wr.heap.size, 0, none⟩) (bv [UInt8.ofNat k]) from sees_box wr _ _ _ (by rw [bv_one, byte_of (show k < 256 by omega)]))
            clear hbe hyb
            cases hin : l2.contains (UInt8.ofNat k) with
            | true =>
              rw [hin] at HH3 hst
              cases heq : ((k : Int) == (node.toNat : Int)) with
              | true =>
                have HSS := hide_ (show tlN l2 node (k + 1) = tlN l2 node k by rw [hst, heq]; rfl)
                clear hst hin
                go_wp2_with fail
                refine HH3.out.mono ?_
                rintro e w5 ⟨rfl, rfl⟩
                go_wp2
                go_roundw
                case rel => exact ⟨k + 1, A6, n6, c6, by omega, by go_num, rfl, hide_ (by rw [HSS.out]; exact HN6.out), hide_ (by rw [HSS.out]; exact HO6.out), HB6⟩
                case measure => simp [intOf]; omega
              | false =>
                have HSS := hide_ (show tlN l2 node (k + 1) = tlN l2 node k ++ [UInt8.ofNat k] by rw [hst, heq]; rfl)
                have HCV := hide_ (show bv (tlN l2 node k) ++ bv [UInt8.ofNat k] = bv (tlN l2 node (k + 1)) by rw [HSS.out, bv_append])
                have HNL := hide_ (show (tlN l2 node (k + 1)).length = n6 + 1 by rw [HSS.out, List.length_append, HN6.out]; rfl)
                clear hst hin
                go_wp2_with fail
                refine HH3.out.mono ?_
                rintro e w5 ⟨rfl, rfl⟩
                go_wp2_with (at_builtin; refine wpList_append_cells _ rfl _ _ 23 rfl w2.heap.size 5 _ 1 1 u8_info rfl (by omega) Try.underlying23 _ n6 (bv (tlN l2 node k)) rfl HOA.out (wr.heap.size + 1) (some ⟨wr.heap.size, 0, none⟩) 1 1 (bv [UInt8.ofNat k]) rfl rfl HSN.out (bv_oneCell _) (by omega) (by omega) (by simp; omega) (n6 + 1) rfl _ HCV.out ?_; intro A7 c7 w6 hown hb6; have HO7 := hide_ hown; have HB7 := hide_ hb6; clear hown hb6)
                go_roundw
                case rel => exact ⟨k + 1, A7, n6 + 1, c7, by omega, by go_num, rfl, HNL, HO7, hide_ (HBA.out.trans HB7.out)⟩
                case measure => simp [intOf]; omega
            | false =>
              rw [hin] at HH3 hst
              cases heq : ((k : Int) == (node.toNat : Int)) with
              | true =>
                have HSS := hide_ (show tlN l2 node (k + 1) = tlN l2 node k ++ [UInt8.ofNat k] by rw [hst, heq]; rfl)
                have HCV := hide_ (show bv (tlN l2 node k) ++ bv [UInt8.ofNat k] = bv (tlN l2 node (k + 1)) by rw [HSS.out, bv_append])
                have HNL := hide_ (show (tlN l2 node (k + 1)).length = n6 + 1 by rw [HSS.out, List.length_append, HN6.out]; rfl)
                clear hst hin
                go_wp2_with fail
                refine HH3.out.mono ?_
                rintro e w5 ⟨rfl, rfl⟩
                go_wp2_with (at_builtin; refine wpList_append_cells _ rfl _ _ 23 rfl w2.heap.size 5 _ 1 1 u8_info rfl (by omega) Try.underlying23 _ n6 (bv (tlN l2 node k)) rfl HOA.out (wr.heap.size + 1) (some ⟨wr.heap.size, 0, none⟩) 1 1 (bv [UInt8.ofNat k]) rfl rfl HSN.out (bv_oneCell _) (by omega) (by omega) (by simp; omega) (n6 + 1) rfl _ HCV.out ?_; intro A7 c7 w6 hown hb6; have HO7 := hide_ hown; have HB7 := hide_ hb6; clear hown hb6)
                go_roundw
                case rel => exact ⟨k + 1, A7, n6 + 1, c7, by omega, by go_num, rfl, HNL, HO7, hide_ (HBA.out.trans HB7.out)⟩
                case measure => simp [intOf]; omega
              | false =>
                have HSS := hide_ (show tlN l2 node (k + 1) = tlN l2 node k by rw [hst, heq]; rfl)
                clear hst hin
                go_wp2_with fail
                refine HH3.out.mono ?_
                rintro e w5 ⟨rfl, rfl⟩
                go_wp2
                go_roundw
                case rel => exact ⟨k + 1, A6, n6, c6, by omega, by go_num, rfl, hide_ (by rw [HSS.out]; exact HN6.out), hide_ (by rw [HSS.out]; exact HO6.out), HB6⟩
                case measure => simp [intOf]; omega
          · obtain rfl : k = 64 := by omega
            rw [HT.out] at HN6 HO6
            have HN := HN6.out
            subst HN
            by_cases hz : tn.length = 0
            · have HR := hide_ (show r = (1, 0, [], []) by rw [HY3.out, if_pos hz])
              go_wp2
              have HE := hide_ (((HZk.out.set9 0 (.int .u64 0)).set9 1 (.slice none 0 0)).set9 2 (.slice none 0 0))
              have q0 := HE.out.cell 0
              have q1 := HE.out.cell 1
              have q2 := HE.out.cell 2
              simp only [List.setIfInBounds_toArray, List.set_cons_zero, List.set_cons_succ, List.getElem?_toArray, List.getElem?_cons_zero, List.getElem?_cons_succ] at q0 q1 q2
              refine bodyPost_ret (v := .tuple #[.agg #[.int .u64 0, .slice none 0 0, .slice none 0 0], .int .i64 1]) (by simp [results, Try.results19, go_sem, q0, q1, q2]) rfl ?_
              have hG := grown_set3 wr (w.heap.size + 1) 0 1 2 (.int .u64 0) (.slice none 0 0) (.slice none 0 0)
              have hW := HBk.out.grown hG (by omega) (fun k hk => by injection hk with hk; omega)
              rw [HR.out]
              exact ⟨⟨none, 0, []⟩, ⟨none, 0, []⟩, rfl, rfl, rfl, ⟨by show 0 ≤ 100; omega, Sees.empty _ _ _⟩, ⟨by show 0 ≤ 100; omega, Sees.empty _ _ _⟩, hW⟩
            · have hz2 : ((tn.length : Int) == 0) = false := by rw [beq_eq_false_iff_ne]; omega
              by_cases hbig : (9223372036854775808 : Int) ≤ ci
              · have HR := hide_ (show r = (7, 0, [], []) by rw [HY3.out, if_neg hz, if_pos (by have := HCC.out; omega)])
                clear hz
                go_wp2
                have HE := hide_ (((HZk.out.set9 0 (.int .u64 0)).set9 1 (.slice none 0 0)).set9 2 (.slice none 0 0))
                have q0 := HE.out.cell 0
                have q1 := HE.out.cell 1
                have q2 := HE.out.cell 2
                simp only [List.setIfInBounds_toArray, List.set_cons_zero, List.set_cons_succ, List.getElem?_toArray, List.getElem?_cons_zero, List.getElem?_cons_succ] at q0 q1 q2
                refine bodyPost_ret (v := .tuple #[.agg #[.int .u64 0, .slice none 0 0, .slice none 0 0], .int .i64 7]) (by simp [results, Try.results19, go_sem, q0, q1, q2]) rfl ?_
                have hG := grown_set3 wr (w.heap.size + 1) 0 1 2 (.int .u64 0) (.slice none 0 0) (.slice none 0 0)
                have hW := HBk.out.grown hG (by omega) (fun k hk => by injection hk with hk; omega)
                rw [HR.out]
                exact ⟨⟨none, 0, []⟩, ⟨none, 0, []⟩, rfl, rfl, rfl, ⟨by show 0 ≤ 100; omega, Sees.empty _ _ _⟩, ⟨by show 0 ≤ 100; omega, Sees.empty _ _ _⟩, hW⟩
              · have HR := hide_ (show r = (0, C + 1, l2, tn) by rw [HY3.out, if_neg hz, if_neg (by have := HCC.out; omega)])
                have hw : IntKind.u64.wrap (ci + 1) = ci + 1 := by rw [IntKind.wrap_u64]; omega
                clear hz
                go_wp2
                have HE := hide_ (((HZk.out.set9 0 (.int .u64 (ci + 1))).set9 1 (.slice A2 l2.length c2)).set9 2 (.slice A6 tn.length c6))
                have q0 := HE.out.cell 0
                have q1 := HE.out.cell 1
                have q2 := HE.out.cell 2
                simp only [List.setIfInBounds_toArray, List.set_cons_zero, List.set_cons_succ, List.getElem?_toArray, List.getElem?_cons_zero, List.getElem?_cons_succ] at q0 q1 q2
                refine bodyPost_ret (v := .tuple #[.agg #[.int .u64 (ci + 1), .slice A2 l2.length c2, .slice A6 tn.length c6], .int .i64 0]) (by simp [results, Try.results19, go_sem, q0, q1, q2]) rfl ?_
                have hG := grown_set3 wr (w.heap.size + 1) 0 1 2 (.int .u64 (ci + 1)) (.slice A2 l2.length c2) (.slice A6 tn.length c6)
                have hW := HBk.out.grown hG (by omega) (fun k hk => by injection hk with hk; omega)
                rw [HR.out]
                have hret : Ending.returned (Value.tuple #[.agg #[.int .u64 (ci + 1), .slice A2 l2.length c2, .slice A6 tn.length c6], .int .i64 0]) = .returned (.tuple #[cfV (C + 1) ⟨A2, c2, l2⟩ ⟨A6, c6, tn⟩, .int .i64 0]) := by rw [← HCC.out]; rfl
                exact ⟨⟨A2, c2, l2⟩, ⟨A6, c6, tn⟩, hret, rfl, rfl, ⟨hly, ((HOY.out _ hW).2.more hW.size)⟩, ⟨by show tn.length ≤ 100; omega, Sees.ownRow9 (own_other9 HO6.out (HZk.out.apart9 (by decide) HO6.out) hG)⟩, hW⟩
end Go.Proofs.Ytlcgihdphdkhpaa
