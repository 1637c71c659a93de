/-
  Contracts of the reference's Quorum, Keepers and All.
-/
import Derived.Test.YtlcgihdphdkhpaaConf4
import Derived.Test.YtlcgihdphdkhpaaRing9
namespace Go.Proofs.Ytlcgihdphdkhpaa
open Go.RowKit

theorem quoC_odd {C : Nat} {o n : List UInt8} {key : UInt8} {s : Nat} (hC : C % 2 = 1) : quoC C o n key s = (mayC C o n && (quoL (ofM o key) s && quoL (ofM n key) s)) := by
  rw [quoC]
  congr 1
  simp [ringsN, hC]
theorem quoC_even {C : Nat} {o n : List UInt8} {key : UInt8} {s : Nat} (hC : ¬ C % 2 = 1) : quoC C o n key s = (mayC C o n && quoL (ofM n key) s) := by
  rw [quoC]
  congr 1
  simp [ringsN, hC]
theorem quoL_half (l : List UInt8) (s : Nat) : quoL l s = decide (l.length / 2 < cntN l s) := by
  rw [quoL, Bool.eq_iff_iff, decide_eq_true_eq, decide_eq_true_eq]
  omega

set_option maxRecDepth 100000 in
set_option maxHeartbeats 800000 in
theorem refQuorum_any (C : Nat) (x y : NdM) (key : UInt8) (s : Nat) (B : Nat) (w : World) (hx : NdM.ok w B x) (hy : NdM.ok w B y) (hB : B ≤ w.heap.size) (hs : s < 18446744073709551616) :
    Calls Try.prog 13 #[cfV C x y, .int .u8 (key.toNat : Int), .int .u64 s] w fun e w' => e = .returned (.bool (quoC C x.l y.l key s)) ∧ Below w.heap.size w w' := by
  have HM0 := hide_ (fun (u : World) (hu : Below w.heap.size w u) => refMay10_any C x y w.heap.size u ((hx.more hB).below hu) ((hy.more hB).below hu) hu.size)
  have HOX := hide_ (fun (u : World) (hu : Below w.heap.size w u) => (hx.more hB).below hu)
  have HOY := hide_ (fun (u : World) (hu : Below w.heap.size w u) => (hy.more hB).below hu)
  have H1 := hide_ (fun h => quoC_odd (C := C) (o := x.l) (n := y.l) (key := key) (s := s) h)
  have H2 := hide_ (fun h => quoC_even (C := C) (o := x.l) (n := y.l) (key := key) (s := s) h)
  obtain ⟨r, hr⟩ : ∃ r, quoC C x.l y.l key s = r := ⟨_, rfl⟩
  obtain ⟨my, hmy⟩ : ∃ my, mayC C x.l y.l = my := ⟨_, rfl⟩
  have hlx := hx.1
  have hly := hy.1
  simp only [hr, hmy] at H1 H2 HM0 ⊢
  clear hr hmy hx hy
  obtain ⟨A1, c1, l1⟩ := x
  obtain ⟨A2, c2, l2⟩ := y
  simp only [cfV, NdM.v] at H1 H2 HM0 hlx hly ⊢
  have HQ1 := hide_ (quoL_half (ofM l1 key) s)
  have HQ2 := hide_ (quoL_half (ofM l2 key) s)
  have HF1 := hide_ (fun (u : World) (hu : Below w.heap.size w u) => refOf9_any l1 key w.heap.size A1 l1.length c1 u rfl hlx (HOX.out u hu).2 hu.size)
  have HF2 := hide_ (fun (u : World) (hu : Below w.heap.size w u) => refOf9_any l2 key w.heap.size A2 l2.length c2 u rfl hly (HOY.out u hu).2 hu.size)
  have h31 := ofM_len l1 key
  have h32 := ofM_len l2 key
  have hk1 := cntN_le (ofM l1 key) s
  have hk2 := cntN_le (ofM l2 key) s
  obtain ⟨k1, he1⟩ : ∃ k1, ofM l1 key = k1 := ⟨_, rfl⟩
  obtain ⟨k2, he2⟩ : ∃ k2, ofM l2 key = k2 := ⟨_, rfl⟩
  rw [he1] at HQ1 HF1 h31 hk1 H1
  rw [he2] at HQ2 HF2 h32 hk2 H1 H2
  clear he1 he2
  have HB0 := hide_ ((Below.refl w.heap.size w).alloc (Nat.le_refl _) (.cells #[.int .u64 C, .slice A1 l1.length c1, .slice A2 l2.length c2] 25))
  have HX0 := hide_ (BoxAt.new w #[.int .u64 C, .slice A1 l1.length c1, .slice A2 l2.length c2] 25)
  obtain ⟨W0, hW0⟩ : ∃ W0, w.alloc (.cells #[.int .u64 C, .slice A1 l1.length c1, .slice A2 l2.length c2] 25) = W0 := ⟨_, rfl⟩
  rw [hW0] at HB0 HX0
  have HW0 := hide_ hW0
  have hs0 : w.heap.size < W0.heap.size := HX0.out.lt
  clear hW0
  go_enter Try.func13, Try.ntmps13
  go_upto_region 1 with fail
  rw [HW0.out]
  have c0 := HX0.out.cell 0
  have c1' := HX0.out.cell 1
  have c2' := HX0.out.cell 2
  simp at c0 c1' c2'
  have HMM := hide_ (HM0.out _ HB0.out)
  cases my with
  | false =>
    have HR := hide_ (show r = false by
      by_cases hC : C % 2 = 1
      · rw [H1.out hC]; rfl
      · rw [H2.out hC]; rfl)
    go_wp2_with fail
    refine HMM.out.mono ?_
    rintro e w1 ⟨rfl, hb1⟩
    go_wp2
    go_ret
    exact ⟨ret_bool9 HR.out.symm, HB0.out.trans (hb1.mono HB0.out.size)⟩
  | true =>
    have HR := hide_ (show r = (decide (k2.length / 2 < cntN k2 s) && (decide (¬ C % 2 = 1) || decide (k1.length / 2 < cntN k1 s))) by
      rw [← HQ1.out, ← HQ2.out]
      by_cases hC : C % 2 = 1
      · rw [H1.out hC, Bool.and_comm (quoL k2 s)]; simp [hC]
      · rw [H2.out hC]; simp [hC])
    clear H1 H2 HQ1 HQ2
    go_wp2_with fail
    refine HMM.out.mono ?_
    rintro e w1 ⟨rfl, hb1⟩
    have HB1 := hide_ (HB0.out.trans (hb1.mono HB0.out.size))
    have HX1 := hide_ (HX0.out.below hb1)
    have hs1 : w.heap.size < w1.heap.size := HX1.out.lt
    clear hb1 c0 c1' c2' HMM HM0
    have c0 := HX1.out.cell 0
    have c1' := HX1.out.cell 1
    have c2' := HX1.out.cell 2
    simp at c0 c1' c2'
    go_wp2_with fail
    refine (HF2.out _ HB1.out).mono ?_
    rintro e w2 ⟨A3, c3, rfl, ho3, hb3⟩
    have HC3 := hide_ (count_any k2 s w2.heap.size A3 k2.length c3 w2 hs rfl (by omega) (Sees.ownRow9 ho3))
    have HB2 := hide_ (HB1.out.trans (hb3.mono HB1.out.size))
    have HX2 := hide_ (HX1.out.below hb3)
    have hs2 : w.heap.size < w2.heap.size := HX2.out.lt
    clear hb3 ho3 c0 c1' c2'
    have c0 := HX2.out.cell 0
    have c1' := HX2.out.cell 1
    have c2' := HX2.out.cell 2
    simp at c0 c1' c2'
    obtain ⟨a2, ha2⟩ : ∃ a, cntN k2 s = a := ⟨_, rfl⟩
    obtain ⟨a1, ha1⟩ : ∃ a, cntN k1 s = a := ⟨_, rfl⟩
    rw [ha2] at HR HC3 hk2
    rw [ha1] at HR hk1
    have HA1 := hide_ ha1
    clear ha1 ha2
    by_cases hq : a2 ≤ k2.length / 2
    · have HRF := hide_ (show r = false by rw [HR.out, show decide (k2.length / 2 < a2) = false by simp; omega]; rfl)
      go_wp2_with fail
      refine HC3.out.mono ?_
      rintro e w3 ⟨rfl, rfl⟩
      go_wp2
      go_ret
      exact ⟨ret_bool9 HRF.out.symm, HB2.out⟩
    · have hqd : decide (k2.length / 2 < a2) = true := by simp; omega
      rw [hqd, Bool.true_and] at HR
      clear hqd
      by_cases hC : C % 2 = 1
      · have hce : (C : Int) % 2 = 1 := by omega
        have HRF := hide_ (show r = decide (k1.length / 2 < a1) by rw [HR.out]; simp [hC])
        clear HR hC
        go_wp2_with fail
        refine HC3.out.mono ?_
        rintro e w3 ⟨rfl, rfl⟩
        go_wp2_with fail
        refine (HF1.out _ HB2.out).mono ?_
        rintro e w4 ⟨A4, c4, rfl, ho4, hb4⟩
        have HC4 := hide_ (count_any k1 s w4.heap.size A4 k1.length c4 w4 hs rfl (by omega) (Sees.ownRow9 ho4))
        rw [HA1.out] at HC4
        have HB4 := hide_ (HB2.out.trans (hb4.mono HB2.out.size))
        clear hb4 ho4
        go_wp2_with fail
        refine HC4.out.mono ?_
        rintro e w5 ⟨rfl, rfl⟩
        go_wp2
        go_ret
        exact ⟨ret_bool9 (by rw [HRF.out, Bool.eq_iff_iff]; simp; omega), HB4.out⟩
      · have hce : (C : Int) % 2 = 0 := by omega
        have HRF := hide_ (show r = true by rw [HR.out]; simp [hC])
        clear HR hC
        go_wp2_with fail
        refine HC3.out.mono ?_
        rintro e w3 ⟨rfl, rfl⟩
        go_wp2
        go_ret
        exact ⟨ret_bool9 HRF.out.symm, HB2.out⟩

/-! keepers, rising -/
def keepC (C : Nat) (o n : List UInt8) (key : UInt8) : List UInt8 := listed ((ringsN C (ofM o key) (ofM n key)).flatMap id) 256
theorem mem_listed (l : List UInt8) (x : UInt8) : x ∈ listed l 256 ↔ x ∈ l := by
  rw [listed, List.mem_filter, List.contains_iff_mem]
  constructor
  · intro h
    exact h.2
  · intro h
    exact ⟨List.mem_map.2 ⟨x.toNat, by have := x.toNat_lt; simp; omega, by simp⟩, h⟩
theorem allL_iff (l : List UInt8) (s : Nat) : allL l s = true ↔ ∀ x ∈ l, s.testBit x.toNat = true := by
  rw [allL, decide_eq_true_eq, cntN, List.countP_eq_length]
theorem allC_keep (C : Nat) (o n : List UInt8) (key : UInt8) (s : Nat) : allC C o n key s = (mayC C o n && decide (cntN (keepC C o n key) s = (keepC C o n key).length)) := by
  rw [allC]
  congr 1
  rw [Bool.eq_iff_iff, List.all_eq_true, decide_eq_true_eq, cntN, List.countP_eq_length]
  have e : ringsN C (ofM o key) (ofM n key) = (ringsN C o n).map (fun l => ofM l key) := rings_map (fun l => ofM l key) C o n
  constructor
  · intro h x hx
    rw [keepC, mem_listed, e, List.mem_flatMap] at hx
    obtain ⟨l, hl, hx⟩ := hx
    obtain ⟨l0, hl0, rfl⟩ := List.mem_map.1 hl
    exact (allL_iff _ _).1 (h l0 hl0) x hx
  · intro h l hl
    rw [allL_iff]
    intro x hx
    refine h x ?_
    rw [keepC, mem_listed, e, List.mem_flatMap]
    exact ⟨_, List.mem_map.2 ⟨l, hl, rfl⟩, hx⟩
theorem keepC_odd {C : Nat} {o n : List UInt8} {key : UInt8} (hC : C % 2 = 1) : keepC C o n key = listed (ofM o key ++ ofM n key) 256 := by
  rw [keepC, ringsN, if_pos hC]
  simp
theorem keepC_even {C : Nat} {o n : List UInt8} {key : UInt8} (hC : ¬ C % 2 = 1) : keepC C o n key = listed (ofM n key) 256 := by
  rw [keepC, ringsN, if_neg hC]
  simp

set_option maxRecDepth 100000 in
set_option maxHeartbeats 1600000 in
theorem refKeepers10_any (C : Nat) (x y : NdM) (key : UInt8) (B : Nat) (w : World) (hx : NdM.ok w B x) (hy : NdM.ok w B y) (hB : B ≤ w.heap.size) :
    Calls Try.prog 17 #[cfV C x y, .int .u8 (key.toNat : Int)] w fun e w' => ∃ A' c', e = .returned (.slice A' (keepC C x.l y.l key).length c') ∧
      w'.ownsRow w.heap.size 5 1 (.slice A' (keepC C x.l y.l key).length c') (keepC C x.l y.l key).length (bv (keepC C x.l y.l key)) ∧ Below w.heap.size w w' := by
  have HOX := hide_ (fun (u : World) (hu : Below w.heap.size w u) => (hx.more hB).below hu)
  have HOY := hide_ (fun (u : World) (hu : Below w.heap.size w u) => (hy.more hB).below hu)
  have H1 := hide_ (fun h => keepC_odd (C := C) (o := x.l) (n := y.l) (key := key) h)
  have H2 := hide_ (fun h => keepC_even (C := C) (o := x.l) (n := y.l) (key := key) h)
  obtain ⟨r, hr⟩ : ∃ r, keepC C x.l y.l key = r := ⟨_, rfl⟩
  have hlx := hx.1
  have hly := hy.1
  simp only [hr] at H1 H2 ⊢
  clear hr hx hy
  obtain ⟨A1, c1, l1⟩ := x
  obtain ⟨A2, c2, l2⟩ := y
  simp only [cfV, NdM.v] at H1 H2 hlx hly ⊢
  have HF1 := hide_ (fun (u : World) (hu : Below w.heap.size w u) => refOf9_any l1 key w.heap.size A1 l1.length c1 u rfl hlx (HOX.out u hu).2 hu.size)
  have HF2 := hide_ (fun (u : World) (hu : Below w.heap.size w u) => refOf9_any l2 key w.heap.size A2 l2.length c2 u rfl hly (HOY.out u hu).2 hu.size)
  have h31 := ofM_len l1 key
  have h32 := ofM_len l2 key
  obtain ⟨k1, he1⟩ : ∃ k1, ofM l1 key = k1 := ⟨_, rfl⟩
  obtain ⟨k2, he2⟩ : ∃ k2, ofM l2 key = k2 := ⟨_, rfl⟩
  rw [he1] at HF1 h31 H1
  rw [he2] at HF2 h32 H1 H2
  clear he1 he2
  have HB0 := hide_ ((Below.refl w.heap.size w).alloc (Nat.le_refl _) (.cells #[.int .u64 C, .slice A1 l1.length c1, .slice A2 l2.length c2] 25))
  have HX0 := hide_ (BoxAt.new w #[.int .u64 C, .slice A1 l1.length c1, .slice A2 l2.length c2] 25)
  obtain ⟨W0, hW0⟩ : ∃ W0, w.alloc (.cells #[.int .u64 C, .slice A1 l1.length c1, .slice A2 l2.length c2] 25) = W0 := ⟨_, rfl⟩
  rw [hW0] at HB0 HX0
  have HW0 := hide_ hW0
  have hs0 : w.heap.size < W0.heap.size := HX0.out.lt
  clear hW0
  go_enter Try.func17, Try.ntmps17
  go_upto_region 1 with fail
  rw [HW0.out]
  have c0 := HX0.out.cell 0
  have c1' := HX0.out.cell 1
  have c2' := HX0.out.cell 2
  simp at c0 c1' c2'
  go_wp2_with fail
  refine (HF2.out _ HB0.out).mono ?_
  rintro e w1 ⟨A3, c3, rfl, ho3, hb3⟩
  have HS3 := hide_ (Sees.ownRow9 ho3)
  have HB1 := hide_ (HB0.out.trans (hb3.mono HB0.out.size))
  have HX1 := hide_ (HX0.out.below hb3)
  have hs1 : w.heap.size < w1.heap.size := HX1.out.lt
  clear hb3 ho3 c0 c1' c2'
  obtain ⟨n3, hn3⟩ : ∃ n3, k2.length = n3 := ⟨_, rfl⟩
  rw [hn3] at h32 ⊢
  have HN3 := hide_ hn3
  clear hn3
  by_cases hC : C % 2 = 1
  · have hce : (C : Int) % 2 = 1 := by omega
    have HR := hide_ (H1.out hC)
    clear H1 H2 hC
    have HB2 := hide_ (HB1.out.alloc HB1.out.size (.cells #[] 5))
    have HX2 := hide_ (HX1.out.alloc (.cells #[] 5))
    have HD2 := hide_ ((Below.refl w1.heap.size w1).alloc (Nat.le_refl _) (.cells #[] 5))
    obtain ⟨W2, hW2⟩ : ∃ W2, w1.alloc (.cells #[] 5) = W2 := ⟨_, rfl⟩
    rw [hW2] at HB2 HX2 HD2
    have HW2 := hide_ hW2
    have hs2 : w.heap.size < W2.heap.size := HX2.out.lt
    clear hW2
    have c0 := HX2.out.cell 0
    have c1' := HX2.out.cell 1
    have c2' := HX2.out.cell 2
    simp at c0 c1' c2'
    go_upto_region 3 with fail
    rw [HW2.out]
    go_wp2_with fail
    refine (HF1.out _ HB2.out).mono ?_
    rintro e w3 ⟨A4, c4, rfl, ho4, hb4⟩
    have HS4 := hide_ (Sees.ownRow9 ho4)
    have HB3 := hide_ (HB2.out.trans (hb4.mono HB2.out.size))
    have HD3 := hide_ (HD2.out.trans (hb4.mono HD2.out.size))
    have HS3' := hide_ ((HS3.out.below HD3.out).more HD3.out.size)
    clear hb4 ho4 c0 c1' c2'
    obtain ⟨n4, hn4⟩ : ∃ n4, k1.length = n4 := ⟨_, rfl⟩
    rw [hn4] at h31 ⊢
    have HN4 := hide_ hn4
    clear hn4
    obtain ⟨kk, hkk⟩ : ∃ kk, k1 ++ k2 = kk := ⟨_, rfl⟩
    rw [hkk] at HR
    have HCT := hide_ (fun (z : UInt8) => show kk.contains z = (k2.contains z || k1.contains z) by rw [← hkk, List.contains_append, Bool.or_comm])
    have HLS := hide_ (fun k => listed_succ kk k)
    have HLL := hide_ (fun k => listed_len kk k)
    have HO3 := hide_ (show (w3.alloc (.cells #[] 5)).ownsRow w3.heap.size 5 1 (.slice (some ⟨w3.heap.size, 0, none⟩) 0 0) 0 (bv (listed kk 0)) from own_empty9 5 (Nat.le_refl _))
    have HBZ := hide_ ((Below.refl w3.heap.size w3).alloc (Nat.le_refl _) (.cells #[] 5))
    clear hkk
    go_wp2
    go_loopw [7, 8] (fun o i wx => ∃ (k : Nat) (A6 : Option Addr) (n6 c6 : Nat), k ≤ 256 ∧ i = .int .i64 k ∧ o = .slice A6 n6 c6 ∧ Hid ((listed kk k).length = n6) ∧ Hid (wx.ownsRow w3.heap.size 5 1 (.slice A6 n6 c6) n6 (bv (listed kk k))) ∧ Hid (Below w3.heap.size w3 wx)) (fun _ i _ => 256 - (intOf i).toNat)
    case atStart => exact ⟨0, _, 0, 0, by omega, rfl, rfl, hide_ rfl, HO3, HBZ⟩
    case round =>
      obtain ⟨k, A6, n6, c6, hk, rfl, rfl, HN6, HO6, HB6⟩ := hrel
      by_cases hlt : k < 256
      · have hw8 : IntKind.u8.wrap (k : Int) = (k : Int) := by simp [IntKind.wrap, IntKind.bits, IntKind.signed]; omega
        have hn6 : n6 ≤ k := by have := HLL.out k; have := HN6.out; omega
        have hws : w3.heap.size ≤ wr.heap.size := HB6.out.size
        have HH3 := hide_ (has10_any k2 (UInt8.ofNat k) w3.heap.size A3 n3 c3 wr HN3.out (by unfold maxLen; omega) (HS3'.out.below HB6.out))
        have HH4 := hide_ (has10_any k1 (UInt8.ofNat k) w3.heap.size A4 n4 c4 wr HN4.out (by unfold maxLen; omega) (HS4.out.below HB6.out))
        rw [byte_of hlt] at HH3 HH4
        have hst := HLS.out k
        rw [HCT.out] at hst
        have HBA := hide_ (HB6.out.alloc hws (.cells #[.int .u8 (k : Int)] 5))
        have HOA := hide_ (HO6.out.alloc (.cells #[.int .u8 (k : Int)] 5))
        have HSN := hide_ (show Sees (wr.alloc (.cells #[.int .u8 (k : Int)] 5)) (wr.heap.size + 1) (some ⟨wr.heap.size, 0, none⟩) (bv [UInt8.ofNat k]) from sees_box wr _ _ _ (by rw [bv_one, byte_of hlt]))
        cases hin : k2.contains (UInt8.ofNat k) with
        | true =>
          rw [hin] at HH3 hst
          rw [Bool.true_or, if_pos rfl] at hst
          have HST := hide_ hst
          have HCV := hide_ (show bv (listed kk k) ++ bv [UInt8.ofNat k] = bv (listed kk (k + 1)) by rw [HST.out, bv_append])
          have HNL := hide_ (show (listed kk (k + 1)).length = n6 + 1 by rw [HST.out, List.length_append, HN6.out]; rfl)
          clear hin hst
          go_wp2_with fail
          refine HH3.out.mono ?_
          rintro e w5 ⟨rfl, rfl⟩
          go_wp2_with (at_builtin; refine wpList_append_cells _ rfl _ _ 23 rfl w3.heap.size 5 _ 1 1 u8_info rfl (by omega) Try.underlying23 _ n6 (bv (listed kk k)) rfl HOA.out (wr.heap.size + 1) (some ⟨wr.heap.size, 0, none⟩) 1 1 (bv [UInt8.ofNat k]) rfl rfl HSN.out (bv_oneCell _) (by omega) (by omega) (by simp; omega) (n6 + 1) rfl _ HCV.out ?_; intro A7 c7 w6 hown hb6; have HO7 := hide_ hown; have HB7 := hide_ hb6; clear hown hb6)
          go_roundw
          case rel => exact ⟨k + 1, A7, n6 + 1, c7, by omega, by go_num, rfl, HNL, HO7, hide_ (HBA.out.trans HB7.out)⟩
          case measure => simp [intOf]; omega
        | false =>
          rw [hin] at HH3 hst
          rw [Bool.false_or] at hst
          cases hin2 : k1.contains (UInt8.ofNat k) with
          | true =>
            rw [hin2] at HH4 hst
            rw [if_pos rfl] at hst
            have HST := hide_ hst
            have HCV := hide_ (show bv (listed kk k) ++ bv [UInt8.ofNat k] = bv (listed kk (k + 1)) by rw [HST.out, bv_append])
            have HNL := hide_ (show (listed kk (k + 1)).length = n6 + 1 by rw [HST.out, List.length_append, HN6.out]; rfl)
            clear hin hin2 hst
            go_wp2_with fail
            refine HH3.out.mono ?_
            rintro e w5 ⟨rfl, rfl⟩
            go_wp2_with fail
            refine HH4.out.mono ?_
            rintro e w5 ⟨rfl, rfl⟩
            go_wp2_with (at_builtin; refine wpList_append_cells _ rfl _ _ 23 rfl w3.heap.size 5 _ 1 1 u8_info rfl (by omega) Try.underlying23 _ n6 (bv (listed kk k)) rfl HOA.out (wr.heap.size + 1) (some ⟨wr.heap.size, 0, none⟩) 1 1 (bv [UInt8.ofNat k]) rfl rfl HSN.out (bv_oneCell _) (by omega) (by omega) (by simp; omega) (n6 + 1) rfl _ HCV.out ?_; intro A7 c7 w6 hown hb6; have HO7 := hide_ hown; have HB7 := hide_ hb6; clear hown hb6)
            go_roundw
            case rel => exact ⟨k + 1, A7, n6 + 1, c7, by omega, by go_num, rfl, HNL, HO7, hide_ (HBA.out.trans HB7.out)⟩
            case measure => simp [intOf]; omega
          | false =>
            rw [hin2] at HH4 hst
            rw [if_neg (by simp)] at hst
            have HST := hide_ hst
            clear hin hin2 hst
            go_wp2_with fail
            refine HH3.out.mono ?_
            rintro e w5 ⟨rfl, rfl⟩
            go_wp2_with fail
            refine HH4.out.mono ?_
            rintro e w5 ⟨rfl, rfl⟩
            go_wp2
            go_roundw
            case rel => exact ⟨k + 1, A6, n6, c6, by omega, by go_num, rfl, hide_ (by rw [HST.out]; exact HN6.out), hide_ (by rw [HST.out]; exact HO6.out), HB6⟩
            case measure => simp [intOf]; omega
      · obtain rfl : k = 256 := by omega
        rw [← HR.out] at HN6 HO6
        have HN := HN6.out
        subst HN
        go_wp2
        go_ret
        exact ⟨_, _, rfl, own_mono HO6.out HB3.out.size, HB3.out.trans (HB6.out.mono HB3.out.size)⟩
  · have hce : (C : Int) % 2 = 0 := by omega
    have HR := hide_ (H2.out hC)
    clear H1 H2 hC
    have HB3 := hide_ (HB1.out.alloc HB1.out.size (.cells #[] 5))
    have HX2 := hide_ (HX1.out.alloc (.cells #[] 5))
    have HS3' := hide_ ((HS3.out.below ((Below.refl w1.heap.size w1).alloc (Nat.le_refl _) (.cells #[] 5))).more (show w1.heap.size ≤ (w1.alloc (.cells #[] 5)).heap.size by simp))
    obtain ⟨w3, hW2⟩ : ∃ W2, w1.alloc (.cells #[] 5) = W2 := ⟨_, rfl⟩
    rw [hW2] at HB3 HX2 HS3'
    have HW2 := hide_ hW2
    have hs2 : w.heap.size < w3.heap.size := HX2.out.lt
    clear hW2
    have c0 := HX2.out.cell 0
    have c1' := HX2.out.cell 1
    have c2' := HX2.out.cell 2
    simp at c0 c1' c2'
    go_upto_region 3 with fail
    rw [HW2.out]
    go_upto_region 5 with fail
    clear hce
    obtain ⟨kk, hkk⟩ : ∃ kk, k2 = kk := ⟨_, rfl⟩
    rw [hkk] at HR
    have HCT := hide_ (fun (z : UInt8) => show kk.contains z = (k2.contains z || ([] : List UInt8).contains z) by rw [← hkk, show ([] : List UInt8).contains z = false from rfl, Bool.or_false])
    have HLS := hide_ (fun k => listed_succ kk k)
    have HLL := hide_ (fun k => listed_len kk k)
    have HO3 := hide_ (show (w3.alloc (.cells #[] 5)).ownsRow w3.heap.size 5 1 (.slice (some ⟨w3.heap.size, 0, none⟩) 0 0) 0 (bv (listed kk 0)) from own_empty9 5 (Nat.le_refl _))
    have HBZ := hide_ ((Below.refl w3.heap.size w3).alloc (Nat.le_refl _) (.cells #[] 5))
    clear hkk
    go_wp2
    go_loopw [7, 8] (fun o i wx => ∃ (k : Nat) (A6 : Option Addr) (n6 c6 : Nat), k ≤ 256 ∧ i = .int .i64 k ∧ o = .slice A6 n6 c6 ∧ Hid ((listed kk k).length = n6) ∧ Hid (wx.ownsRow w3.heap.size 5 1 (.slice A6 n6 c6) n6 (bv (listed kk k))) ∧ Hid (Below w3.heap.size w3 wx)) (fun _ i _ => 256 - (intOf i).toNat)
    case atStart => exact ⟨0, _, 0, 0, by omega, rfl, rfl, hide_ rfl, HO3, HBZ⟩
    case round =>
      obtain ⟨k, A6, n6, c6, hk, rfl, rfl, HN6, HO6, HB6⟩ := hrel
      by_cases hlt : k < 256
      · have hw8 : IntKind.u8.wrap (k : Int) = (k : Int) := by simp [IntKind.wrap, IntKind.bits, IntKind.signed]; omega
        have hn6 : n6 ≤ k := by have := HLL.out k; have := HN6.out; omega
        have hws : w3.heap.size ≤ wr.heap.size := HB6.out.size
        have HH3 := hide_ (has10_any k2 (UInt8.ofNat k) w3.heap.size A3 n3 c3 wr HN3.out (by unfold maxLen; omega) (HS3'.out.below HB6.out))
        have HH4 := hide_ (has10_any ([] : List UInt8) (UInt8.ofNat k) w3.heap.size (some ⟨w1.heap.size, 0, none⟩) 0 0 wr rfl (by unfold maxLen; omega) (Sees.empty _ _ _))
        rw [byte_of hlt] at HH3 HH4
        have hst := HLS.out k
        rw [HCT.out] at hst
        have HBA := hide_ (HB6.out.alloc hws (.cells #[.int .u8 (k : Int)] 5))
        have HOA := hide_ (HO6.out.alloc (.cells #[.int .u8 (k : Int)] 5))
        have HSN := hide_ (show Sees (wr.alloc (.cells #[.int .u8 (k : Int)] 5)) (wr.heap.size + 1) (some ⟨wr.heap.size, 0, none⟩) (bv [UInt8.ofNat k]) from sees_box wr _ _ _ (by rw [bv_one, byte_of hlt]))
        cases hin : k2.contains (UInt8.ofNat k) with
        | true =>
          rw [hin] at HH3 hst
          rw [Bool.true_or, if_pos rfl] at hst
          have HST := hide_ hst
          have HCV := hide_ (show bv (listed kk k) ++ bv [UInt8.ofNat k] = bv (listed kk (k + 1)) by rw [HST.out, bv_append])
          have HNL := hide_ (show (listed kk (k + 1)).length = n6 + 1 by rw [HST.out, List.length_append, HN6.out]; rfl)
          clear hin hst
          go_wp2_with fail
          refine HH3.out.mono ?_
          rintro e w5 ⟨rfl, rfl⟩
          go_wp2_with (at_builtin; refine wpList_append_cells _ rfl _ _ 23 rfl w3.heap.size 5 _ 1 1 u8_info rfl (by omega) Try.underlying23 _ n6 (bv (listed kk k)) rfl HOA.out (wr.heap.size + 1) (some ⟨wr.heap.size, 0, none⟩) 1 1 (bv [UInt8.ofNat k]) rfl rfl HSN.out (bv_oneCell _) (by omega) (by omega) (by simp; omega) (n6 + 1) rfl _ HCV.out ?_; intro A7 c7 w6 hown hb6; have HO7 := hide_ hown; have HB7 := hide_ hb6; clear hown hb6)
          go_roundw
          case rel => exact ⟨k + 1, A7, n6 + 1, c7, by omega, by go_num, rfl, HNL, HO7, hide_ (HBA.out.trans HB7.out)⟩
          case measure => simp [intOf]; omega
        | false =>
          rw [hin] at HH3 hst
          rw [Bool.false_or] at hst
          cases hin2 : ([] : List UInt8).contains (UInt8.ofNat k) with
          | true =>
            rw [hin2] at HH4 hst
            rw [if_pos rfl] at hst
            have HST := hide_ hst
            have HCV := hide_ (show bv (listed kk k) ++ bv [UInt8.ofNat k] = bv (listed kk (k + 1)) by rw [HST.out, bv_append])
            have HNL := hide_ (show (listed kk (k + 1)).length = n6 + 1 by rw [HST.out, List.length_append, HN6.out]; rfl)
            clear hin hin2 hst
            go_wp2_with fail
            refine HH3.out.mono ?_
            rintro e w5 ⟨rfl, rfl⟩
            go_wp2_with fail
            refine HH4.out.mono ?_
            rintro e w5 ⟨rfl, rfl⟩
            go_wp2_with (at_builtin; refine wpList_append_cells _ rfl _ _ 23 rfl w3.heap.size 5 _ 1 1 u8_info rfl (by omega) Try.underlying23 _ n6 (bv (listed kk k)) rfl HOA.out (wr.heap.size + 1) (some ⟨wr.heap.size, 0, none⟩) 1 1 (bv [UInt8.ofNat k]) rfl rfl HSN.out (bv_oneCell _) (by omega) (by omega) (by simp; omega) (n6 + 1) rfl _ HCV.out ?_; intro A7 c7 w6 hown hb6; have HO7 := hide_ hown; have HB7 := hide_ hb6; clear hown hb6)
            go_roundw
            case rel => exact ⟨k + 1, A7, n6 + 1, c7, by omega, by go_num, rfl, HNL, HO7, hide_ (HBA.out.trans HB7.out)⟩
            case measure => simp [intOf]; omega
          | false =>
            rw [hin2] at HH4 hst
            rw [if_neg (by simp)] at hst
            have HST := hide_ hst
            clear hin hin2 hst
            go_wp2_with fail
            refine HH3.out.mono ?_
            rintro e w5 ⟨rfl, rfl⟩
            go_wp2_with fail
            refine HH4.out.mono ?_
            rintro e w5 ⟨rfl, rfl⟩
            go_wp2
            go_roundw
            case rel => exact ⟨k + 1, A6, n6, c6, by omega, by go_num, rfl, hide_ (by rw [HST.out]; exact HN6.out), hide_ (by rw [HST.out]; exact HO6.out), HB6⟩
            case measure => simp [intOf]; omega
      · obtain rfl : k = 256 := by omega
        rw [← HR.out] at HN6 HO6
        have HN := HN6.out
        subst HN
        go_wp2
        go_ret
        exact ⟨_, _, rfl, own_mono HO6.out HB3.out.size, HB3.out.trans (HB6.out.mono HB3.out.size)⟩

set_option maxRecDepth 100000 in
theorem refAll_any (C : Nat) (x y : NdM) (key : UInt8) (s : Nat) (B : Nat) (w : World) (hx : NdM.ok w B x) (hy : NdM.ok w B y) (hB : B ≤ w.heap.size) (hs : s < 18446744073709551616) :
    Calls Try.prog 15 #[cfV C x y, .int .u8 (key.toNat : Int), .int .u64 s] w fun e w' => e = .returned (.bool (allC C x.l y.l key s)) ∧ Below w.heap.size w w' := by
  have HK := hide_ (fun (u : World) (hu : Below w.heap.size w u) => refKeepers10_any C x y key w.heap.size u ((hx.more hB).below hu) ((hy.more hB).below hu) hu.size)
  have HM := hide_ (fun (u : World) (hu : Below w.heap.size w u) => refMay10_any C x y w.heap.size u ((hx.more hB).below hu) ((hy.more hB).below hu) hu.size)
  have HA := hide_ (allC_keep C x.l y.l key s)
  have hkl : (keepC C x.l y.l key).length ≤ 256 := listed_len _ _
  have hcl := cntN_le (keepC C x.l y.l key) s
  obtain ⟨r, hr⟩ : ∃ r, allC C x.l y.l key s = r := ⟨_, rfl⟩
  obtain ⟨kp, hkp⟩ : ∃ kp, keepC C x.l y.l key = kp := ⟨_, rfl⟩
  obtain ⟨my, hmy⟩ : ∃ my, mayC C x.l y.l = my := ⟨_, rfl⟩
  rw [hkp] at hkl hcl
  simp only [hr, hkp, hmy] at HK HM HA ⊢
  clear hr hkp hmy hx hy
  obtain ⟨A1, c1, l1⟩ := x
  obtain ⟨A2, c2, l2⟩ := y
  simp only [cfV, NdM.v] at HK HM ⊢
  have HB0 := hide_ ((Below.refl w.heap.size w).alloc (Nat.le_refl _) (.cells #[.int .u64 C, .slice A1 l1.length c1, .slice A2 l2.length c2] 25))
  have HX0 := hide_ (BoxAt.new w #[.int .u64 C, .slice A1 l1.length c1, .slice A2 l2.length c2] 25)
  obtain ⟨W0, hW0⟩ : ∃ W0, w.alloc (.cells #[.int .u64 C, .slice A1 l1.length c1, .slice A2 l2.length c2] 25) = W0 := ⟨_, rfl⟩
  rw [hW0] at HB0 HX0
  have HW0 := hide_ hW0
  have hs0 : w.heap.size < W0.heap.size := HX0.out.lt
  clear hW0
  go_enter Try.func15, Try.ntmps15
  go_upto_region 1 with fail
  rw [HW0.out]
  have c0 := HX0.out.cell 0
  have c1' := HX0.out.cell 1
  have c2' := HX0.out.cell 2
  simp at c0 c1' c2'
  go_wp2_with fail
  refine (HK.out _ HB0.out).mono ?_
  rintro e w1 ⟨A3, c3, rfl, ho3, hb3⟩
  have HB1 := hide_ (HB0.out.trans (hb3.mono HB0.out.size))
  have HX1 := hide_ (HX0.out.below hb3)
  have HS3 := hide_ (Sees.ownRow9 ho3)
  have hs1 : w.heap.size < w1.heap.size := HX1.out.lt
  clear hb3 ho3 c0 c1' c2'
  have c0 := HX1.out.cell 0
  have c1' := HX1.out.cell 1
  have c2' := HX1.out.cell 2
  simp at c0 c1' c2'
  cases my with
  | false =>
    go_wp2_with fail
    refine (HM.out _ HB1.out).mono ?_
    rintro e w2 ⟨rfl, hb2⟩
    go_wp2
    go_ret
    exact ⟨ret_bool9 HA.out.symm, HB1.out.trans (hb2.mono HB1.out.size)⟩
  | true =>
    go_wp2_with fail
    refine (HM.out _ HB1.out).mono ?_
    rintro e w2 ⟨rfl, hb2⟩
    have HB2 := hide_ (HB1.out.trans (hb2.mono HB1.out.size))
    have HC := hide_ (count_any kp s w1.heap.size A3 kp.length c3 w2 hs rfl (by omega) (HS3.out.below hb2))
    clear hb2
    obtain ⟨a, ha⟩ : ∃ a, cntN kp s = a := ⟨_, rfl⟩
    rw [ha] at HC HA hcl
    clear ha
    go_wp2_with fail
    refine HC.out.mono ?_
    rintro e w3 ⟨rfl, rfl⟩
    go_wp2
    go_ret
    exact ⟨ret_bool9 (by rw [HA.out, Bool.true_and, Bool.eq_iff_iff]; simp; omega), HB2.out⟩
end Go.Proofs.Ytlcgihdphdkhpaa
