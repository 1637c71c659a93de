/-
  scrutineerlaw09.RingTurned answers true for every input and leaves its input as it was; no condition.
-/
import Derived.Test.YtpiikdinphnjbaaRing9
import Derived.Test.YtpiikdinphnjbaaHeld
import Derived.Test.YtpiikdinphnjbaaCopy7
import Derived.Test.YtpiikdinphnjbaaLaw
import Derived.Deep.RegionLaw
namespace Go.Proofs.Ytpiikdinphnjbaa.ringTurned
open Go.ChangeShapes Go.WideShapes Go.ChangeAt Go.RowKit

theorem walk_long (A : Option Addr) (n c : Nat) (k m : Int) (w : World) (h : 80 < n) (hm : n ≤ maxLen) :
    Calls Try.prog 6 #[.slice A n c, .int .u8 k, .int .u8 m] w fun e w' => e = .returned (.bool true) ∧ Below w.heap.size w w' := by
  unfold maxLen at hm
  go_enter Try.func6, Try.ntmps6
  go_wp2_with fail
  refine (awake09_any _).mono ?_
  rintro e w1 ⟨rfl, hb1⟩
  go_wp2
  go_ret
  exact ⟨rfl, hb1⟩

theorem congr_mem_turn (l : List UInt8) (k : Nat) (x : UInt8) : x ∈ l.drop k ++ l.take k ↔ x ∈ l := by
  rw [List.mem_append, or_comm, ← List.mem_append, List.take_append_drop]

theorem walk_none (A : Option Addr) (c : Nat) (k m : Int) (w : World) :
    Calls Try.prog 6 #[.slice A 0 c, .int .u8 k, .int .u8 m] w fun e w' => e = .returned (.bool true) ∧ Below w.heap.size w w' := by
  go_enter Try.func6, Try.ntmps6
  go_wp2_with fail
  refine (awake09_any _).mono ?_
  rintro e w1 ⟨rfl, hb1⟩
  go_wp2
  go_ret
  exact ⟨rfl, hb1⟩

set_option maxRecDepth 100000 in
set_option maxHeartbeats 3200000 in
theorem walk_short (l : List UInt8) (bt : Nat) (key : UInt8) (A : Option Addr) (n c : Nat) (w : World) (hn : l.length = n) (h0 : 0 < n) (h1 : n ≤ 80) (hbt : bt ≤ 255) (hnc : n ≤ c) (hs : Sees w w.heap.size A (bv l)) :
    Calls Try.prog 6 #[.slice A n c, .int .u8 (bt : Int), .int .u8 (key.toNat : Int)] w fun e w' => e = .returned (.bool true) ∧ Below w.heap.size w w' := by
  obtain ⟨k, hk⟩ : ∃ k, bt % n = k := ⟨_, rfl⟩
  have hkn : k < n := by rw [← hk]; exact Nat.mod_lt _ h0
  have hmod : Int.tmod (bt : Int) (n : Int) = (k : Int) := by rw [← hk]; simp [Int.tmod_eq_emod_of_nonneg]
  have hcm1 := congr_mem_turn l k
  have hringe : ringM (l.drop k ++ l.take k) = ringM l := ringM_congr hcm1
  have hofe : ofM (l.drop k ++ l.take k) key = ofM l key := ofM_congr hcm1 key
  have htl : (l.drop k ++ l.take k).length = n := by simp; omega
  have HRL := hide_ (show (ringM l).length ≤ 1000 by
    rw [ringM_len]
    have := nubs_len_le l
    omega)
  have HBB := hide_ (fun (u : World) (hu : Below w.heap.size w u) => Build_any l w.heap.size A n c u hn (by omega) (hs.below hu) hu.size)
  have HOO := hide_ (fun (u : World) (hu : Below w.heap.size w u) => Of9_any l key w.heap.size A n c u hn (by omega) (hs.below hu) hu.size)
  have HBT := hide_ (fun (u : World) (B : Nat) (R : Option Addr) (rc : Nat) (hR : Sees u B R (bv (l.drop k ++ l.take k))) (hB : B ≤ u.heap.size) => Build_any (l.drop k ++ l.take k) B R n rc u htl (by omega) hR hB)
  have HOT := hide_ (fun (u : World) (B : Nat) (R : Option Addr) (rc : Nat) (hR : Sees u B R (bv (l.drop k ++ l.take k))) (hB : B ≤ u.heap.size) => Of9_any (l.drop k ++ l.take k) key B R n rc u htl (by omega) hR hB)
  rw [hringe] at HBT
  rw [hofe] at HOT
  obtain ⟨r, hr⟩ : ∃ r, ringM l = r := ⟨_, rfl⟩
  obtain ⟨ok, hok⟩ : ∃ ok, ofM l key = ok := ⟨_, rfl⟩
  simp only [hr, hok] at HRL HBB HOO HBT HOT
  -- the row that is turned
  obtain ⟨b, o, rfl, hbB, hcell⟩ := hs.flat (by rw [bv_length]; omega)
  obtain ⟨W1, hW1⟩ : ∃ W1, (w.alloc (.cells #[] 5)).drew = W1 := ⟨_, rfl⟩
  have hb1 : Below w.heap.size w W1 := hW1 ▸ ((Below.refl _ _).alloc (Nat.le_refl _) _).drew
  have ho1 : W1.ownsRow w.heap.size 5 1 (.slice (some ⟨w.heap.size, 0, none⟩) 0 0) 0 [] := hW1 ▸ own_empty9 (w := w) (s := 1) 5 (Nat.le_refl _)
  have hd1 : Sees W1 w.heap.size (some ⟨b, o + k, none⟩) (bv (l.drop k)) := fun _ => ⟨_, rfl, hbB, fun j u hu => by
    rw [Addr.add_lit, hb1.cell (p := ⟨b, o + k + j, none⟩) hbB, Nat.add_assoc]
    exact hcell _ _ (by rw [bv_drop, List.getElem?_drop] at hu; exact hu)⟩
  obtain ⟨A2, c2, W2, hrun1, ho2, hg2, -⟩ := run_append_named (P := Try.prog) W1 w.heap.size 22 5 _ 1 1 u8_info rfl (by omega) Try.underlying22 _ 0 0 [] ho1 w.heap.size (some ⟨b, o + k, none⟩) (n - k) (c - k) (bv (l.drop k)) (by rw [bv_length, List.length_drop, hn]; omega) hd1 (bv_oneCell _) (by omega) (by omega) hb1.size
  have hb2 : Below w.heap.size w W2 := hb1.grown hg2 hb1.size (fun j hj => (ho1.lt j hj).1)
  have hd2 : Sees W2 w.heap.size (some ⟨b, o, none⟩) (bv (l.take k)) := by
    rw [bv_take]
    exact (hs.below hb2).take k
  rw [Nat.zero_add, List.nil_append] at ho2
  obtain ⟨A3, c3, W3, hrun2, ho3, hg3, -⟩ := run_append_named (P := Try.prog) W2 w.heap.size 22 5 _ 1 1 u8_info rfl (by omega) Try.underlying22 _ (n - k) c2 (bv (l.drop k)) ho2 w.heap.size (some ⟨b, o, none⟩) k c (bv (l.take k)) (by rw [bv_length, List.length_take, hn]; omega) hd2 (bv_oneCell _) (by omega) (by omega) hb2.size
  have hb3 : Below w.heap.size w W3 := hb2.grown hg3 hb2.size (fun j hj => (ho2.lt j hj).1)
  rw [← bv_append] at ho3
  have hnk : n - k + k = n := by omega
  rw [hnk] at ho3 hrun2
  rw [Nat.zero_add] at hrun1
  have HO3 := hide_ ho3
  have HB3 := hide_ hb3
  rw [← hW1] at hrun1
  have hck : ¬ c = k := by omega
  have hkc : k ≤ c := by omega
  have hkn2 : k ≤ n := by omega
  have hz0 : ((n : Int) == 0) = false := by rw [beq_eq_false_iff_ne]; omega
  have hz8 : decide ((80 : Int) < (n : Int)) = false := by simp; omega
  clear hW1 hb1 ho1 hd1 ho2 hg2 hb2 hd2 ho3 hg3 hb3 hringe hofe htl hcm1 hr hok hcell hs
  go_enter Try.func6, Try.ntmps6
  go_upto_region 4 with fail
  go_region_law (first | (refine step_append_known rfl _ _ 22 rfl _ _ (by first | rfl | simp [Act.eval]) (by first | rfl | simp [Act.eval]) hrun1 ?_) | (refine step_append_known rfl _ _ 22 rfl _ _ (by first | rfl | simp [Act.eval]) (by first | rfl | simp [Act.eval]) hrun2 ?_))
  have HS3 := hide_ (Sees.ownRow9 HO3.out)
  have HB1 := hide_ (fun (u : World) (hu : Below W3.heap.size W3 u) => HBT.out u W3.heap.size A3 c3 (HS3.out.below hu) hu.size)
  have HO1 := hide_ (fun (u : World) (hu : Below W3.heap.size W3 u) => HOT.out u W3.heap.size A3 c3 (HS3.out.below hu) hu.size)
  have HWU := hide_ (fun (u : World) (hu : Below W3.heap.size W3 u) => HB3.out.trans (hu.mono HB3.out.size))
  have HB2 := hide_ (fun (u : World) (hu : Below W3.heap.size W3 u) => HBB.out u (HWU.out u hu))
  have HO2 := hide_ (fun (u : World) (hu : Below W3.heap.size W3 u) => HOO.out u (HWU.out u hu))
  have HA := hide_ (fun (u : World) (_ : Below W3.heap.size W3 u) => awake09_any u)
  have HQ_w3 := hide_ (Below.refl W3.heap.size W3)
  clear HBT HOT HBB HOO HO3 hrun1 hrun2
  go_upto_region 5 with fail
  refine wp_region_held_drew (S := fun u => Below W3.heap.size W3 u) (by kernel_rfl) ((Below.refl _ _).drew) (fun hHeld => ?_)
  refine wpAnyH_take (i := 0) (oi := ⟨some 32, _, _, _, _, _⟩) (v := ?hv1) rfl (by kernel_rfl) (by kernel_rfl) (by kernel_rfl) (fun _ _ _ h => h) (Or.inl ⟨by rfl, ?hyy1⟩) (by assumption) ?hrest1
  case hyy1 => intro w hSw; (try dsimp only at hSw); go_simp <;> with_reducible rfl
  simp only [Act.put, List.setIfInBounds_toArray, List.set_cons_zero, List.set_cons_succ]
  refine wpAnyH_take (i := 2) (oi := ⟨some 34, _, _, _, _, _⟩) (v := ?hv2) rfl (by kernel_rfl) (by kernel_rfl) (by kernel_rfl) (fun _ _ _ h => h) (Or.inl ⟨by rfl, ?hyy2⟩) (by assumption) ?hrest2
  case hyy2 => intro w hSw; (try dsimp only at hSw); go_simp <;> with_reducible rfl
  simp only [Act.put, List.setIfInBounds_toArray, List.set_cons_zero, List.set_cons_succ]
  refine wpAnyH_ready (rs := [1]) (by kernel_rfl) (by simp) ?_
  refine AllReadyH.cons rfl (fun K hK => ?_) AllReadyH.nil
  go_simp
  go_wp2_with fail
  refine (HB1.out _ (HQ_w3.out.trans (hHeld.mono HQ_w3.out.size))).mono ?_
  rintro e v1 ⟨A5, n5, c5, rfl, hl_, ho_, hb_⟩
  have HP_v1 := hide_ (hHeld.trans (hb_.mono hHeld.size))
  have HQ_v1 := hide_ (HQ_w3.out.trans (HP_v1.out.mono HQ_w3.out.size))
  have HL5 := hide_ hl_
  have HS5 := hide_ (Sees.ownRow9 ho_)
  clear hl_ ho_
  clear hb_
  refine hK.out _ _ (HP_v1.out) (fun hHeld => ?_)
  clear hK K hHeld
  refine wpAnyH_more (S' := fun u => Below v1.heap.size v1 u) (fun u hu => HP_v1.out.trans (hu.mono HP_v1.out.size)) _ _ _ _ ?_
  have hHeld := Below.refl v1.heap.size v1
  refine wpAnyH_ready (rs := [3]) (by kernel_rfl) (by simp) ?_
  refine AllReadyH.cons rfl (fun K hK => ?_) AllReadyH.nil
  go_simp
  go_wp2_with fail
  refine (HB2.out _ (HQ_v1.out.trans (hHeld.mono HQ_v1.out.size))).mono ?_
  rintro e v2 ⟨A6, n6, c6, rfl, hl_, ho_, hb_⟩
  have HP_v2 := hide_ (hHeld.trans (hb_.mono hHeld.size))
  have HQ_v2 := hide_ (HQ_v1.out.trans (HP_v2.out.mono HQ_v1.out.size))
  obtain rfl : n6 = n5 := hl_.symm.trans HL5.out
  have hn6 : n6 ≤ 1000 := by have := HRL.out; omega
  have HS6 := hide_ (Sees.ownRow9 ho_)
  have HSAME := hide_ (fun (u : World) (hu : Below v2.heap.size v2 u) => same9_any r A5 A6 n6 c5 c6 u hl_ hn6 ((HS5.out.below (HP_v2.out.trans (hu.mono HP_v2.out.size))).more (Nat.le_trans HP_v2.out.size hu.size)) ((HS6.out.below hu).more hu.size))
  clear hl_ ho_
  clear hb_
  refine hK.out _ _ (HP_v2.out) (fun hHeld => ?_)
  clear hK K hHeld
  refine wpAnyH_more (S' := fun u => Below v2.heap.size v2 u) (fun u hu => HP_v2.out.trans (hu.mono HP_v2.out.size)) _ _ _ _ ?_
  have hHeld := Below.refl v2.heap.size v2
  refine wpAnyH_ready (rs := [4]) (by kernel_rfl) (by simp) ?_
  refine AllReadyH.cons rfl (fun K hK => ?_) AllReadyH.nil
  go_simp
  go_wp2_with fail
  refine (HSAME.out _ (hHeld)).mono ?_
  rintro e v3 ⟨rfl, hb_⟩
  have HP_v3 := hide_ (hHeld.trans (hb_.mono hHeld.size))
  have HQ_v3 := hide_ (HQ_v2.out.trans (HP_v3.out.mono HQ_v2.out.size))
  clear hb_
  refine hK.out _ _ (HP_v3.out) (fun hHeld => ?_)
  clear hK K hHeld
  refine wpAnyH_more (S' := fun u => Below v3.heap.size v3 u) (fun u hu => HP_v3.out.trans (hu.mono HP_v3.out.size)) _ _ _ _ ?_
  have hHeld := Below.refl v3.heap.size v3
  refine wpAnyH_take (i := 5) (oi := ⟨some 37, _, _, _, _, _⟩) (v := ?hv3) rfl (by kernel_rfl) (by kernel_rfl) (by kernel_rfl) (fun _ _ _ h => h) (Or.inl ⟨by rfl, ?hyy3⟩) (by assumption) ?hrest3
  case hyy3 => intro w hSw; (try dsimp only at hSw); go_simp <;> with_reducible rfl
  simp only [Act.put, List.setIfInBounds_toArray, List.set_cons_zero, List.set_cons_succ]
  refine wpAnyH_take (i := 6) (oi := ⟨some 38, _, _, _, _, _⟩) (v := ?hv4) rfl (by kernel_rfl) (by kernel_rfl) (by kernel_rfl) (fun _ _ _ h => h) (Or.inl ⟨by rfl, ?hyy4⟩) (by assumption) ?hrest4
  case hyy4 => intro w hSw; (try dsimp only at hSw); go_simp <;> with_reducible rfl
  simp only [Act.put, List.setIfInBounds_toArray, List.set_cons_zero, List.set_cons_succ]
  refine wpAnyH_take (i := 7) (oi := ⟨some 39, _, _, _, _, _⟩) (v := ?hv5) rfl (by kernel_rfl) (by kernel_rfl) (by kernel_rfl) (fun _ _ _ h => h) (Or.inl ⟨by rfl, ?hyy5⟩) (by assumption) ?hrest5
  case hyy5 => intro w hSw; (try dsimp only at hSw); go_simp <;> with_reducible rfl
  simp only [Act.put, List.setIfInBounds_toArray, List.set_cons_zero, List.set_cons_succ]
  refine wpAnyH_take (i := 10) (oi := ⟨some 42, _, _, _, _, _⟩) (v := ?hv6) rfl (by kernel_rfl) (by kernel_rfl) (by kernel_rfl) (fun _ _ _ h => h) (Or.inl ⟨by rfl, ?hyy6⟩) (by assumption) ?hrest6
  case hyy6 => intro w hSw; (try dsimp only at hSw); go_simp <;> with_reducible rfl
  simp only [Act.put, List.setIfInBounds_toArray, List.set_cons_zero, List.set_cons_succ]
  refine wpAnyH_take (i := 11) (oi := ⟨some 43, _, _, _, _, _⟩) (v := ?hv7) rfl (by kernel_rfl) (by kernel_rfl) (by kernel_rfl) (fun _ _ _ h => h) (Or.inl ⟨by rfl, ?hyy7⟩) (by assumption) ?hrest7
  case hyy7 => intro w hSw; (try dsimp only at hSw); go_simp <;> with_reducible rfl
  simp only [Act.put, List.setIfInBounds_toArray, List.set_cons_zero, List.set_cons_succ]
  refine wpAnyH_ready (rs := [8]) (by kernel_rfl) (by simp) ?_
  refine AllReadyH.cons rfl (fun K hK => ?_) AllReadyH.nil
  go_simp
  go_wp2_with fail
  refine (HO1.out _ (HQ_v3.out.trans (hHeld.mono HQ_v3.out.size))).mono ?_
  rintro e v4 ⟨A7, c7, rfl, ho_, hb_⟩
  have HP_v4 := hide_ (hHeld.trans (hb_.mono hHeld.size))
  have HQ_v4 := hide_ (HQ_v3.out.trans (HP_v4.out.mono HQ_v3.out.size))
  have HC_v4 := hide_ (fun (u : World) (hu : Below v4.heap.size v4 u) => run_str (P := Try.prog) u 22 9 5 Try.underlying22 Try.underlying5 Try.underlying9 _ v4.heap.size _ _ c7 rfl ((Sees.ownRow9 ho_).below hu))
  clear ho_
  clear hb_
  refine hK.out _ _ (HP_v4.out) (fun hHeld => ?_)
  clear hK K hHeld
  refine wpAnyH_more (S' := fun u => Below v4.heap.size v4 u) (fun u hu => HP_v4.out.trans (hu.mono HP_v4.out.size)) _ _ _ _ ?_
  have hHeld := Below.refl v4.heap.size v4
  refine wpAnyH_take (i := 9) (oi := ⟨some 41, _, _, _, _, _⟩) (v := ?hv8) rfl (by kernel_rfl) (by kernel_rfl) (by kernel_rfl) (fun _ _ _ h => h) (Or.inl ⟨by rfl, ?hyy8⟩) (by assumption) ?hrest8
  case hyy8 => intro w hSw; (try dsimp only at hSw); have hcv := HC_v4.out _ hSw; go_simp <;> with_reducible rfl
  simp only [Act.put, List.setIfInBounds_toArray, List.set_cons_zero, List.set_cons_succ]
  refine wpAnyH_ready (rs := [12]) (by kernel_rfl) (by simp) ?_
  refine AllReadyH.cons rfl (fun K hK => ?_) AllReadyH.nil
  go_simp
  go_wp2_with fail
  refine (HO2.out _ (HQ_v4.out.trans (hHeld.mono HQ_v4.out.size))).mono ?_
  rintro e v5 ⟨A8, c8, rfl, ho_, hb_⟩
  have HP_v5 := hide_ (hHeld.trans (hb_.mono hHeld.size))
  have HQ_v5 := hide_ (HQ_v4.out.trans (HP_v5.out.mono HQ_v4.out.size))
  have HC_v5 := hide_ (fun (u : World) (hu : Below v5.heap.size v5 u) => run_str (P := Try.prog) u 22 9 5 Try.underlying22 Try.underlying5 Try.underlying9 _ v5.heap.size _ _ c8 rfl ((Sees.ownRow9 ho_).below hu))
  clear ho_
  clear hb_
  refine hK.out _ _ (HP_v5.out) (fun hHeld => ?_)
  clear hK K hHeld
  refine wpAnyH_more (S' := fun u => Below v5.heap.size v5 u) (fun u hu => HP_v5.out.trans (hu.mono HP_v5.out.size)) _ _ _ _ ?_
  have hHeld := Below.refl v5.heap.size v5
  refine wpAnyH_take (i := 13) (oi := ⟨some 45, _, _, _, _, _⟩) (v := ?hv9) rfl (by kernel_rfl) (by kernel_rfl) (by kernel_rfl) (fun _ _ _ h => h) (Or.inl ⟨by rfl, ?hyy9⟩) (by assumption) ?hrest9
  case hyy9 => intro w hSw; (try dsimp only at hSw); have hcv := HC_v5.out _ hSw; go_simp <;> with_reducible rfl
  simp only [Act.put, List.setIfInBounds_toArray, List.set_cons_zero, List.set_cons_succ]
  refine wpAnyH_take (i := 14) (oi := ⟨some 46, _, _, _, _, _⟩) (v := ?hv10) rfl (by kernel_rfl) (by kernel_rfl) (by kernel_rfl) (fun _ _ _ h => h) (Or.inl ⟨by rfl, ?hyy10⟩) (by assumption) ?hrest10
  case hyy10 => intro w hSw; (try dsimp only at hSw); go_simp <;> with_reducible rfl
  simp only [Act.put, List.setIfInBounds_toArray, List.set_cons_zero, List.set_cons_succ]
  refine wpAnyH_take (i := 15) (oi := ⟨some 47, _, _, _, _, _⟩) (v := ?hv11) rfl (by kernel_rfl) (by kernel_rfl) (by kernel_rfl) (fun _ _ _ h => h) (Or.inl ⟨by rfl, ?hyy11⟩) (by assumption) ?hrest11
  case hyy11 => intro w hSw; (try dsimp only at hSw); go_simp <;> with_reducible rfl
  simp only [Act.put, List.setIfInBounds_toArray, List.set_cons_zero, List.set_cons_succ]
  refine wpAnyH_take (i := 16) (oi := ⟨some 48, _, _, _, _, _⟩) (v := ?hv12) rfl (by kernel_rfl) (by kernel_rfl) (by kernel_rfl) (fun _ _ _ h => h) (Or.inl ⟨by rfl, ?hyy12⟩) (by assumption) ?hrest12
  case hyy12 => intro w hSw; (try dsimp only at hSw); go_simp <;> with_reducible rfl
  simp only [Act.put, List.setIfInBounds_toArray, List.set_cons_zero, List.set_cons_succ]
  refine wpAnyH_ready (rs := [17]) (by kernel_rfl) (by simp) ?_
  refine AllReadyH.cons rfl (fun K hK => ?_) AllReadyH.nil
  go_simp
  go_wp2_with fail
  refine (HA.out _ (HQ_v5.out.trans (hHeld.mono HQ_v5.out.size))).mono ?_
  rintro e v6 ⟨rfl, hb_⟩
  have HP_v6 := hide_ (hHeld.trans (hb_.mono hHeld.size))
  have HQ_v6 := hide_ (HQ_v5.out.trans (HP_v6.out.mono HQ_v5.out.size))
  clear hb_
  refine hK.out _ _ (HP_v6.out) (fun hHeld => ?_)
  clear hK K hHeld
  refine wpAnyH_more (S' := fun u => Below v6.heap.size v6 u) (fun u hu => HP_v6.out.trans (hu.mono HP_v6.out.size)) _ _ _ _ ?_
  have hHeld := Below.refl v6.heap.size v6
  refine wpAnyH_take (i := 18) (oi := ⟨some 50, _, _, _, _, _⟩) (v := ?hv13) rfl (by kernel_rfl) (by kernel_rfl) (by kernel_rfl) (fun _ _ _ h => h) (Or.inl ⟨by rfl, ?hyy13⟩) (by assumption) ?hrest13
  case hyy13 => intro w hSw; (try dsimp only at hSw); go_simp <;> with_reducible rfl
  simp only [Act.put, List.setIfInBounds_toArray, List.set_cons_zero, List.set_cons_succ]
  refine wpAnyH_take (i := 19) (oi := ⟨some 6, _, _, _, _, _⟩) (v := ?hv14) rfl (by kernel_rfl) (by kernel_rfl) (by kernel_rfl) (fun _ _ _ h => h) (Or.inl ⟨by rfl, ?hyy14⟩) (by assumption) ?hrest14
  case hyy14 => intro w hSw; (try dsimp only at hSw); go_simp <;> with_reducible rfl
  simp only [Act.put, List.setIfInBounds_toArray, List.set_cons_zero, List.set_cons_succ]
  refine wpAnyH_done (by kernel_rfl) ?_ _
  go_wp2
  go_ret
  exact ⟨rfl, HWU.out _ HQ_v6.out⟩

theorem own : ownKnob Try.prog.godebug = none := by kernel_rfl
theorem laid : laidOutB Try.prog = true := by kernel_rfl
theorem cells8 : Try.prog.cellsOf 5 = 1 := by kernel_rfl

set_option maxRecDepth 100000 in
theorem contract (H : Type) (enc : TypeId × Value → H) (W : World) (base : Nat) (args : Array Value) (ds gs : List (DataW H)) (before : List MemPlace)
    (hval : ∀ (j : Nat) t v, Try.f6.params[j]? = some t → args[j]? = some v → Value.okWide Try.prog W .any base t v)
    (hW : DataW.Whole enc Try.prog Try.f6.params.toList Rows.ringTurnedSpec.vars false W args.toList ds gs before) :
    Calls Try.prog 6 args W fun e W' => ∃ v, e = .returned v ∧ Rows.ringTurnedSpec.post enc Try.prog Try.f6 false true false false W args v W' := by
  have hW' := hW
  obtain ⟨p, q, hA0, hV, rfl, hfz, hnd⟩ := hW
  have hA : DataW.TrodAll enc Try.prog W 0 (fun _ => true) true Try.f6.params.toList args.toList ds p := hA0
  rw [Try.params6] at hA hval
  obtain ⟨v0, vs0, d0, ds0, p0, q0, hargs, rfl, rfl, h0, r0⟩ := trodAll_cons hA
  obtain ⟨v1, vs1, d1, ds1, p1, q1, rfl, rfl, rfl, h1, r1⟩ := trodAll_cons r0
  obtain ⟨v2, vs2, d2, ds2, p2, q2, rfl, rfl, rfl, h2, r2⟩ := trodAll_cons r1
  obtain ⟨rfl, rfl, rfl⟩ := trodAll_nil r2
  obtain rfl : args = #[v0, v1, v2] := by cases args; simp_all
  obtain ⟨rfl, rfl⟩ := trodVars_none hV
  obtain ⟨A0, n0, c0, l0, rfl, e0, m0, M0, s0⟩ := open_bytes Try.underlying22 Try.underlying5 cells8 (hval 0 22 v0 rfl rfl) h0
  obtain ⟨a1, rfl, rfl, rfl, w1⟩ := open_int Try.underlying5 (hval 1 5 v1 rfl rfl) h1
  have b1 : 0 ≤ a1 ∧ a1 ≤ 255 := by simpa [Lit.wf, IntKind.min, IntKind.max, IntKind.signed, IntKind.bits] using w1
  obtain ⟨a2, rfl, rfl, rfl, w2⟩ := open_int Try.underlying5 (hval 2 5 v2 rfl rfl) h2
  have b2 : 0 ≤ a2 ∧ a2 ≤ 255 := by simpa [Lit.wf, IntKind.min, IntKind.max, IntKind.signed, IntKind.bits] using w2
  have fin : ∀ (e : Ending) (W' : World), e = .returned (.bool true) ∧ Below W.heap.size W W' → ∃ v, e = .returned v ∧ Rows.ringTurnedSpec.post enc Try.prog Try.f6 false true false false W #[.slice A0 n0 c0, .int .u8 a1, .int .u8 a2] v W' :=
    fun e W' ⟨he, hb⟩ => ⟨_, he, law_post laid (by kernel_rfl) rfl rfl rfl Try.underlying4 hW' hb⟩
  obtain ⟨bt, rfl⟩ : ∃ x : Nat, a1 = (x : Int) := ⟨a1.toNat, by omega⟩
  obtain ⟨key, rfl⟩ : ∃ x : UInt8, a2 = (x.toNat : Int) := ⟨UInt8.ofNat a2.toNat, by rw [UInt8.toNat_ofNat']; omega⟩
  by_cases hlong : 80 < n0
  · exact (walk_long A0 n0 c0 _ _ W hlong (Nat.le_trans m0 M0)).mono fin
  · by_cases hz : n0 = 0
    · subst hz
      exact (walk_none A0 c0 _ _ W).mono fin
    · exact (walk_short l0 bt key A0 n0 c0 W e0 (by omega) (by omega) (by omega) m0 s0).mono fin

set_option maxRecDepth 100000 in
theorem lifted (os : Os) (started : os.Started) (H : Type) (enc : TypeId × Value → H) :
    ReturnsInHanded {} Try.checked os 6 .any (Rows.ringTurnedSpec.pre6 enc Try.prog Try.f6 Rows.ringTurnedRow.domain false) (Rows.ringTurnedSpec.post enc Try.prog Try.f6 false true false false) := by
  refine returnsInHanded_of_change (C := Try.checked) (s := Rows.ringTurnedSpec) own started (by kernel_rfl) Try.func6
    (ChangeSpec.witness6 (enc := enc) (C := Try.checked) false ⟨#[], #[.slice none 0 0, .int .u8 0, .int .u8 0], []⟩ 8 (by kernel_rfl) (by kernel_rfl) (by kernel_rfl) (by kernel_rfl)) ?_
  intro W base args ds gs before hval hW _ _
  exact contract H enc W base args ds gs before hval hW

theorem proved : Rows.RingTurnedSaid :=
  OpenClaim.holds_of_wide 6 Try.f6 rfl rfl rfl rfl rfl rfl rfl ⟨rfl, rfl, rfl, rfl, rfl⟩ rfl rfl rfl rfl rfl (by kernel_rfl) Try.func6 (by kernel_rfl)
    (of_decide_eq_true (by kernel_rfl)) (by unfold Func.isWrapper; first | (rw [if_pos (by decide +kernel)]; kernel_rfl) | (rw [if_neg (by decide +kernel)]; exact ⟨rfl, rfl⟩))
    (fun os started H enc _ => lifted os started H enc)
end Go.Proofs.Ytpiikdinphnjbaa.ringTurned
