/-
  Texts of this claim put together: RisCell, RisMark.
-/
import Derived.Test.YtnkjdijbfnmnhaaGreatShort
import Derived.Test.YtnkjdijbfnmnhaaGreatJ32
import Derived.Deep.RegionHeld
import Derived.IntWalk
/-
  Contract of reg's rises at Cell.
-/
namespace Go.Proofs.YtnkjdijbfnmnhaaGreat
open Go.RowKit

set_option maxRecDepth 100000 in
set_option maxHeartbeats 6400000 in
theorem risesCell_any (fn : Nat) (lo hi : Int) (s : Sl (CelM)) (B : Nat) (w : World) (hs : celsOk w B s) (hB : B ≤ w.heap.size)
    (he : ∀ args w, (callFunc fn args).run Tryz.prog w = .ok (.enter fn args) w) (hf : ∀ (x : CelM) wr, x ∈ s.l → Calls Tryz.prog fn #[celV x] wr fun e w' => e = .returned (.int .u64 x.1) ∧ Below wr.heap.size wr w') :
    Calls Tryz.prog 296 #[s.v, .int .u64 lo, .int .u64 hi, .func (.func fn) #[] #[]] w fun e w' => e = .returned (.bool (risB (s.l.map (fun x => x.1)) lo hi)) ∧ Below B w w' := by
  obtain ⟨A, c, l⟩ := s
  obtain ⟨h1, h2, h3, h4⟩ := hs
  obtain ⟨n, hn⟩ : ∃ n, l.length = n := ⟨_, rfl⟩
  have HS := hide_ h3
  have HF := hide_ hf
  have HN := hide_ hn
  simp only [Sl.v, hn] at h1 h2 ⊢
  have hnm : n ≤ 9223372036854775807 := by unfold maxLen at h2; omega
  clear h3 hf hn h4 h1 h2
  go_enter Tryz.func296, Tryz.ntmps296
  go_wp2
  go_loopw [13] (fun i wr => ∃ k : Nat, k ≤ n ∧ i = .int .i64 k ∧ Hid (∀ j, j < k → risX (l.map (fun x => x.1)) lo hi j = false) ∧ Below B w wr) (fun i _ => n - (intOf i).toNat)
  case atStart => exact ⟨0, Nat.zero_le _, rfl, (fun j hj => absurd hj (by omega)), Below.refl _ _⟩
  case round =>
    obtain ⟨k, hk, rfl, HJ, hb⟩ := hrel
    by_cases hlt : k < n
    case neg =>
      obtain rfl : k = n := by omega
      have HP := hide_ (show risB (l.map (fun x => x.1)) lo hi = true from risB_all (by rw [List.length_map, HN.out]) HJ.out)
      go_wp2
      go_ret
      exact ⟨ret_boolT HP.out.symm, hb⟩
    obtain ⟨x, hx⟩ : ∃ x, l[k]? = some x := ⟨_, List.getElem?_eq_getElem (by rw [HN.out]; exact hlt)⟩
    have hs1 := HS.out.below hb
    have hxm : x ∈ l := List.mem_of_getElem? hx
    have hzw : w.heap.size ≤ wr.heap.size := hb.size
    obtain ⟨tb, ot, hAe, hab, e0, e1, e2, e3⟩ := hs1.cel hx
    have hwz : tb < wr.heap.size := by omega
    subst hAe
    have hat := map_at (f := (fun x => x.1)) hx
    have HC := hide_ (fun u => HF.out x u hxm)
    obtain ⟨cl, b, c', d⟩ := x
    simp only at e0 e1 e2 e3 hat HC
    have HRX := hide_ (risX_at (lo := lo) (hi := hi) hat)
    have HAT := hide_ hat
    have HBW := hide_ (show Below B w (wr.alloc (.cells #[.int .u64 cl, .int .u8 b, .int .i64 c', .int .i64 d] 108)) from hb.alloc (by omega) _)
    have HB0 := hide_ (show Below (wr.heap.size + 1) (wr.alloc (.cells #[.int .u64 cl, .int .u8 b, .int .i64 c', .int .i64 d] 108)) (wr.alloc (.cells #[.int .u64 cl, .int .u8 b, .int .i64 c', .int .i64 d] 108)).drew from (Below.refl _ _).drew)
    have HCX := hide_ (fun (u : World) (hu : Below (wr.heap.size + 1) (wr.alloc (.cells #[.int .u64 cl, .int .u8 b, .int .i64 c', .int .i64 d] 108)) u) => show ∀ i : Nat, u.cell? ⟨wr.heap.size, i, none⟩ = (#[.int .u64 cl, .int .u8 b, .int .i64 c', .int .i64 d] : Array Value)[i]? from (BoxAt.below (BoxAt.new wr #[.int .u64 cl, .int .u8 b, .int .i64 c', .int .i64 d] 108) (hu.mono (by simp))).cell)
    have HFIN := hide_ (fun (u : World) (hu : Below (wr.heap.size + 1) (wr.alloc (.cells #[.int .u64 cl, .int .u8 b, .int .i64 c', .int .i64 d] 108)) u) => show Below B w u from HBW.out.trans (hu.mono (by omega)))
    have HHS := hide_ hs1
    have HHX := hide_ hx
    clear hat hs1 hx hxm hb
    cases hin : inB cl lo hi with
    | false =>
      have HP := hide_ (show risB (l.map (fun x => x.1)) lo hi = false from risB_no (by rw [List.length_map, HN.out]) hlt (by rw [HRX.out, hin]; rfl))
      have HIN := hide_ hin
      clear hin
      go_upto_region 4 with fail
      refine wp_region_held_drew (S := (fun w' => (∀ i : Nat, w'.cell? ⟨wr.heap.size, i, none⟩ = (#[.int .u64 cl, .int .u8 b, .int .i64 c', .int .i64 d] : Array Value)[i]?))) (by kernel_rfl) (HCX.out _ HB0.out) (fun hHeld => ?_)
      refine tkY 0 18 ?v1 rfl ?hy1 (by assumption) ?rest1
      case hy1 => intro w hSw; (try dsimp only at hSw); go_simp <;> with_reducible rfl
      simp only [Act.put, sTI, sT0, sT1]
      refine tkY 1 19 ?v2 rfl ?hy2 (by assumption) ?rest2
      case hy2 => intro w hSw; (try dsimp only at hSw); go_simp <;> with_reducible rfl
      simp only [Act.put, sTI, sT0, sT1]
      refine tkY 3 21 ?v3 rfl ?hy3 (by assumption) ?rest3
      case hy3 => intro w hSw; (try dsimp only at hSw); go_simp <;> with_reducible rfl
      simp only [Act.put, sTI, sT0, sT1]
      refine tkY 4 22 ?v4 rfl ?hy4 (by assumption) ?rest4
      case hy4 => intro w hSw; (try dsimp only at hSw); go_simp <;> with_reducible rfl
      simp only [Act.put, sTI, sT0, sT1]
      refine wpAnyH_ready (rs := [2]) (by kernel_rfl) (by simp) ?_
      refine AllReadyH.cons rfl (fun K hK => ?_) AllReadyH.nil
      go_simp
      go_wp2_with fail
      refine (HC.out _).mono ?_
      rintro en w1 ⟨rfl, hbw1⟩
      have HBw1 := hide_ (HB0.out.trans (hbw1.mono (by simp)))
      clear hbw1
      refine hK.out _ _ (HCX.out _ HBw1.out) (fun hHeld => ?_)
      clear hK K
      refine wpAnyH_ready (rs := [5]) (by kernel_rfl) (by simp) ?_
      refine AllReadyH.cons rfl (fun K hK => ?_) AllReadyH.nil
      go_simp
      go_wp2_with (first | (go_at_call 328; refine (within64_any _ _ _ _).mono ?_; rw [HIN.out]; rintro en w2 ⟨rfl, rfl⟩))
      refine hK.out _ _ (HCX.out _ HBw1.out) (fun hHeld => ?_)
      clear hK K
      refine tkY 6 24 ?v5 rfl ?hy5 (by assumption) ?rest5
      case hy5 => intro w hSw; (try dsimp only at hSw); go_simp <;> with_reducible rfl
      simp only [Act.put, sTI, sT0, sT1]
      refine tkY 7 25 ?v6 rfl ?hy6 (by assumption) ?rest6
      case hy6 => intro w hSw; (try dsimp only at hSw); go_simp <;> with_reducible rfl
      simp only [Act.put, sTI, sT0, sT1]
      refine tkU 8 26 rfl (by assumption) ?_
      simp only [Act.put, sTI, sT0, sT1]
      refine tkU 9 27 rfl (by assumption) ?_
      simp only [Act.put, sTI, sT0, sT1]
      refine tkU 10 28 rfl (by assumption) ?_
      simp only [Act.put, sTI, sT0, sT1]
      refine tkU 11 29 rfl (by assumption) ?_
      simp only [Act.put, sTI, sT0, sT1]
      refine tkU 12 30 rfl (by assumption) ?_
      simp only [Act.put, sTI, sT0, sT1]
      refine tkU 13 31 rfl (by assumption) ?_
      simp only [Act.put, sTI, sT0, sT1]
      refine tkU 14 32 rfl (by assumption) ?_
      simp only [Act.put, sTI, sT0, sT1]
      refine tkU 15 33 rfl (by assumption) ?_
      simp only [Act.put, sTI, sT0, sT1]
      refine tkU 16 34 rfl (by assumption) ?_
      simp only [Act.put, sTI, sT0, sT1]
      refine tkU 17 35 rfl (by assumption) ?_
      simp only [Act.put, sTI, sT0, sT1]
      refine tkU 18 36 rfl (by assumption) ?_
      simp only [Act.put, sTI, sT0, sT1]
      refine tkU 19 37 rfl (by assumption) ?_
      simp only [Act.put, sTI, sT0, sT1]
      refine tkU 20 38 rfl (by assumption) ?_
      simp only [Act.put, sTI, sT0, sT1]
      refine tkU 21 39 rfl (by assumption) ?_
      simp only [Act.put, sTI, sT0, sT1]
      refine tkU 22 40 rfl (by assumption) ?_
      simp only [Act.put, sTI, sT0, sT1]
      refine tkY 23 41 ?v7 rfl ?hy7 (by assumption) ?rest7
      case hy7 => intro w hSw; (try dsimp only at hSw); go_simp <;> with_reducible rfl
      simp only [Act.put, sTI, sT0, sT1]
      refine wpAnyH_done (by kernel_rfl) ?_ _
      go_wp2_with fail
      go_ret
      exact ⟨ret_boolT HP.out.symm, HFIN.out _ HBw1.out⟩
    | true =>
    rcases k with _ | k
    · simp only [Nat.zero_mul, Nat.add_zero] at e0 e1 e2 e3
      have HJ2 := hide_ (show ∀ j, j < 0 + 1 → risX (l.map (fun x => x.1)) lo hi j = false from fun j hj => by
        obtain rfl : j = 0 := by omega
        rw [HRX.out, hin]; rfl)
      have HIN := hide_ hin
      clear hin
      go_upto_region 4 with fail
      refine wp_region_held_drew (S := (fun w' => (∀ i : Nat, w'.cell? ⟨wr.heap.size, i, none⟩ = (#[.int .u64 cl, .int .u8 b, .int .i64 c', .int .i64 d] : Array Value)[i]?))) (by kernel_rfl) (HCX.out _ HB0.out) (fun hHeld => ?_)
      refine tkY 0 18 ?v8 rfl ?hy8 (by assumption) ?rest8
      case hy8 => intro w hSw; (try dsimp only at hSw); go_simp <;> with_reducible rfl
      simp only [Act.put, sTI, sT0, sT1]
      refine tkY 1 19 ?v9 rfl ?hy9 (by assumption) ?rest9
      case hy9 => intro w hSw; (try dsimp only at hSw); go_simp <;> with_reducible rfl
      simp only [Act.put, sTI, sT0, sT1]
      refine tkY 3 21 ?v10 rfl ?hy10 (by assumption) ?rest10
      case hy10 => intro w hSw; (try dsimp only at hSw); go_simp <;> with_reducible rfl
      simp only [Act.put, sTI, sT0, sT1]
      refine tkY 4 22 ?v11 rfl ?hy11 (by assumption) ?rest11
      case hy11 => intro w hSw; (try dsimp only at hSw); go_simp <;> with_reducible rfl
      simp only [Act.put, sTI, sT0, sT1]
      refine wpAnyH_ready (rs := [2]) (by kernel_rfl) (by simp) ?_
      refine AllReadyH.cons rfl (fun K hK => ?_) AllReadyH.nil
      go_simp
      go_wp2_with fail
      refine (HC.out _).mono ?_
      rintro en w1 ⟨rfl, hbw1⟩
      have HBw1 := hide_ (HB0.out.trans (hbw1.mono (by simp)))
      clear hbw1
      refine hK.out _ _ (HCX.out _ HBw1.out) (fun hHeld => ?_)
      clear hK K
      refine wpAnyH_ready (rs := [5]) (by kernel_rfl) (by simp) ?_
      refine AllReadyH.cons rfl (fun K hK => ?_) AllReadyH.nil
      go_simp
      go_wp2_with (first | (go_at_call 328; refine (within64_any _ _ _ _).mono ?_; rw [HIN.out]; rintro en w2 ⟨rfl, rfl⟩))
      refine hK.out _ _ (HCX.out _ HBw1.out) (fun hHeld => ?_)
      clear hK K
      refine tkY 6 24 ?v12 rfl ?hy12 (by assumption) ?rest12
      case hy12 => intro w hSw; (try dsimp only at hSw); go_simp <;> with_reducible rfl
      simp only [Act.put, sTI, sT0, sT1]
      refine tkY 7 25 ?v13 rfl ?hy13 (by assumption) ?rest13
      case hy13 => intro w hSw; (try dsimp only at hSw); go_simp <;> with_reducible rfl
      simp only [Act.put, sTI, sT0, sT1]
      refine tkY 8 26 ?v14 rfl ?hy14 (by assumption) ?rest14
      case hy14 => intro w hSw; (try dsimp only at hSw); go_simp <;> with_reducible rfl
      simp only [Act.put, sTI, sT0, sT1]
      refine tkY 9 27 ?v15 rfl ?hy15 (by assumption) ?rest15
      case hy15 => intro w hSw; (try dsimp only at hSw); go_simp <;> with_reducible rfl
      simp only [Act.put, sTI, sT0, sT1]
      refine tkY 10 28 ?v16 rfl ?hy16 (by assumption) ?rest16
      case hy16 => intro w hSw; (try dsimp only at hSw); go_simp <;> with_reducible rfl
      simp only [Act.put, sTI, sT0, sT1]
      refine tkU 11 29 rfl (by assumption) ?_
      simp only [Act.put, sTI, sT0, sT1]
      refine tkU 12 30 rfl (by assumption) ?_
      simp only [Act.put, sTI, sT0, sT1]
      refine tkU 13 31 rfl (by assumption) ?_
      simp only [Act.put, sTI, sT0, sT1]
      refine tkU 14 32 rfl (by assumption) ?_
      simp only [Act.put, sTI, sT0, sT1]
      refine tkU 15 33 rfl (by assumption) ?_
      simp only [Act.put, sTI, sT0, sT1]
      refine tkU 16 34 rfl (by assumption) ?_
      simp only [Act.put, sTI, sT0, sT1]
      refine tkU 17 35 rfl (by assumption) ?_
      simp only [Act.put, sTI, sT0, sT1]
      refine tkU 18 36 rfl (by assumption) ?_
      simp only [Act.put, sTI, sT0, sT1]
      refine tkU 19 37 rfl (by assumption) ?_
      simp only [Act.put, sTI, sT0, sT1]
      refine tkU 20 38 rfl (by assumption) ?_
      simp only [Act.put, sTI, sT0, sT1]
      refine tkU 21 39 rfl (by assumption) ?_
      simp only [Act.put, sTI, sT0, sT1]
      refine tkY 22 40 ?v17 rfl ?hy17 (by assumption) ?rest17
      case hy17 => intro w hSw; (try dsimp only at hSw); go_simp <;> with_reducible rfl
      simp only [Act.put, sTI, sT0, sT1]
      refine tkY 23 41 ?v18 rfl ?hy18 (by assumption) ?rest18
      case hy18 => intro w hSw; (try dsimp only at hSw); go_simp <;> with_reducible rfl
      simp only [Act.put, sTI, sT0, sT1]
      refine wpAnyH_done (by kernel_rfl) ?_ _
      go_wp2_with fail
      go_roundw
      case rel => exact ⟨1, by omega, by go_num, HJ2, HFIN.out _ HBw1.out⟩
      case measure => simp [intOf]; omega
    · obtain ⟨y, hy⟩ : ∃ y, l[k]? = some y := ⟨_, List.getElem?_eq_getElem (by rw [HN.out]; omega)⟩
      have hym : y ∈ l := List.mem_of_getElem? hy
      have hpt := map_at (f := (fun x => x.1)) hy
      obtain ⟨tb2, ot2, hAe2, hab2, g0, g1, g2, g3⟩ := HHS.out.cel hy
      injection hAe2 with hAe2
      injection hAe2 with ht1 ht2
      subst ht1 ht2
      have HCP := hide_ (fun u => HF.out y u hym)
      obtain ⟨pcl, pb, pc, pd⟩ := y
      simp only at g0 g1 g2 g3 hpt HCP
      have hgd : (l.map (fun x => x.1)).getD (k + 1 - 1) 0 = pcl := by rw [Nat.add_sub_cancel, List.getD_eq_getElem?_getD, hpt]; rfl
      have HPX := hide_ (fun (u : World) (hu : Below (wr.heap.size + 1) (wr.alloc (.cells #[.int .u64 cl, .int .u8 b, .int .i64 c', .int .i64 d] 108)) u) => show u.cell? ⟨tb, ot + k * 4, none⟩ = some (.int .u64 pcl) ∧ u.cell? ⟨tb, ot + k * 4 + 1, none⟩ = some (.int .u8 pb) ∧ u.cell? ⟨tb, ot + k * 4 + 2, none⟩ = some (.int .i64 pc) ∧ u.cell? ⟨tb, ot + k * 4 + 3, none⟩ = some (.int .i64 pd) from ⟨(((((Below.refl _ _).alloc (Nat.le_refl _) (.cells #[.int .u64 cl, .int .u8 b, .int .i64 c', .int .i64 d] 108)).trans (hu.mono (Nat.le_succ _))).cell (p := ⟨tb, ot + k * 4, none⟩) hwz).trans g0), (((((Below.refl _ _).alloc (Nat.le_refl _) (.cells #[.int .u64 cl, .int .u8 b, .int .i64 c', .int .i64 d] 108)).trans (hu.mono (Nat.le_succ _))).cell (p := ⟨tb, ot + k * 4 + 1, none⟩) hwz).trans g1), (((((Below.refl _ _).alloc (Nat.le_refl _) (.cells #[.int .u64 cl, .int .u8 b, .int .i64 c', .int .i64 d] 108)).trans (hu.mono (Nat.le_succ _))).cell (p := ⟨tb, ot + k * 4 + 2, none⟩) hwz).trans g2), (((((Below.refl _ _).alloc (Nat.le_refl _) (.cells #[.int .u64 cl, .int .u8 b, .int .i64 c', .int .i64 d] 108)).trans (hu.mono (Nat.le_succ _))).cell (p := ⟨tb, ot + k * 4 + 3, none⟩) hwz).trans g3)⟩)
      have i1 : IntKind.i64.wrap (k : Int) = k := IntWalk.i64_in _ (by omega)
      have i5 : (k : Int) < (n : Int) := by omega
      have i2 : (0 : Int) ≤ (k : Int) + 1 := by omega
      have i3 : (k : Int) + 1 < (n : Int) := by omega
      have i4 : k < n := by omega
      clear hpt hy hym g0 g1 g2 g3
      by_cases hle : cl ≤ pcl
      · have HP := hide_ (show risB (l.map (fun x => x.1)) lo hi = false from risB_no (by rw [List.length_map, HN.out]) hlt (by rw [HRX.out, hin, hgd]; simp [hle]))
        have HIN := hide_ hin
        have hd := decide_eq_true hle
        clear hin hgd hle
        go_upto_region 4 with fail
        refine wp_region_held_drew (S := (fun w' => (∀ i : Nat, w'.cell? ⟨wr.heap.size, i, none⟩ = (#[.int .u64 cl, .int .u8 b, .int .i64 c', .int .i64 d] : Array Value)[i]?) ∧ w'.cell? ⟨tb, ot + k * 4, none⟩ = some (.int .u64 pcl) ∧ w'.cell? ⟨tb, ot + k * 4 + 1, none⟩ = some (.int .u8 pb) ∧ w'.cell? ⟨tb, ot + k * 4 + 2, none⟩ = some (.int .i64 pc) ∧ w'.cell? ⟨tb, ot + k * 4 + 3, none⟩ = some (.int .i64 pd))) (by kernel_rfl) (⟨HCX.out _ HB0.out, HPX.out _ HB0.out⟩) (fun hHeld => ?_)
        refine tkY 0 18 ?v19 rfl ?hy19 (by assumption) ?rest19
        case hy19 => intro w hSw; (try dsimp only at hSw); go_simp <;> with_reducible rfl
        simp only [Act.put, sTI, sT0, sT1]
        refine tkY 1 19 ?v20 rfl ?hy20 (by assumption) ?rest20
        case hy20 => intro w hSw; (try dsimp only at hSw); go_simp <;> with_reducible rfl
        simp only [Act.put, sTI, sT0, sT1]
        refine tkY 3 21 ?v21 rfl ?hy21 (by assumption) ?rest21
        case hy21 => intro w hSw; (try dsimp only at hSw); go_simp <;> with_reducible rfl
        simp only [Act.put, sTI, sT0, sT1]
        refine tkY 4 22 ?v22 rfl ?hy22 (by assumption) ?rest22
        case hy22 => intro w hSw; (try dsimp only at hSw); go_simp <;> with_reducible rfl
        simp only [Act.put, sTI, sT0, sT1]
        refine wpAnyH_ready (rs := [2]) (by kernel_rfl) (by simp) ?_
        refine AllReadyH.cons rfl (fun K hK => ?_) AllReadyH.nil
        go_simp
        go_wp2_with fail
        refine (HC.out _).mono ?_
        rintro en w1 ⟨rfl, hbw1⟩
        have HBw1 := hide_ (HB0.out.trans (hbw1.mono (by simp)))
        clear hbw1
        refine hK.out _ _ (⟨HCX.out _ HBw1.out, HPX.out _ HBw1.out⟩) (fun hHeld => ?_)
        clear hK K
        refine wpAnyH_ready (rs := [5]) (by kernel_rfl) (by simp) ?_
        refine AllReadyH.cons rfl (fun K hK => ?_) AllReadyH.nil
        go_simp
        go_wp2_with (first | (go_at_call 328; refine (within64_any _ _ _ _).mono ?_; rw [HIN.out]; rintro en w2 ⟨rfl, rfl⟩))
        refine hK.out _ _ (⟨HCX.out _ HBw1.out, HPX.out _ HBw1.out⟩) (fun hHeld => ?_)
        clear hK K
        refine tkY 6 24 ?v23 rfl ?hy23 (by assumption) ?rest23
        case hy23 => intro w hSw; (try dsimp only at hSw); go_simp <;> with_reducible rfl
        simp only [Act.put, sTI, sT0, sT1]
        refine tkY 7 25 ?v24 rfl ?hy24 (by assumption) ?rest24
        case hy24 => intro w hSw; (try dsimp only at hSw); go_simp <;> with_reducible rfl
        simp only [Act.put, sTI, sT0, sT1]
        refine tkY 8 26 ?v25 rfl ?hy25 (by assumption) ?rest25
        case hy25 => intro w hSw; (try dsimp only at hSw); go_simp <;> with_reducible rfl
        simp only [Act.put, sTI, sT0, sT1]
        refine tkY 9 27 ?v26 rfl ?hy26 (by assumption) ?rest26
        case hy26 => intro w hSw; (try dsimp only at hSw); go_simp <;> with_reducible rfl
        simp only [Act.put, sTI, sT0, sT1]
        refine tkY 10 28 ?v27 rfl ?hy27 (by assumption) ?rest27
        case hy27 => intro w hSw; (try dsimp only at hSw); go_simp <;> with_reducible rfl
        simp only [Act.put, sTI, sT0, sT1]
        refine tkY 11 29 ?v28 rfl ?hy28 (by assumption) ?rest28
        case hy28 => intro w hSw; (try dsimp only at hSw); go_simp <;> with_reducible rfl
        simp only [Act.put, sTI, sT0, sT1]
        refine tkY 12 30 ?v29 rfl ?hy29 (by assumption) ?rest29
        case hy29 => intro w hSw; (try dsimp only at hSw); go_simp <;> with_reducible rfl
        simp only [Act.put, sTI, sT0, sT1]
        refine tkY 14 32 ?v30 rfl ?hy30 (by assumption) ?rest30
        case hy30 => intro w hSw; (try dsimp only at hSw); go_simp <;> with_reducible rfl
        simp only [Act.put, sTI, sT0, sT1]
        refine tkY 15 33 ?v31 rfl ?hy31 (by assumption) ?rest31
        case hy31 => intro w hSw; (try dsimp only at hSw); go_simp <;> with_reducible rfl
        simp only [Act.put, sTI, sT0, sT1]
        refine tkY 16 34 ?v32 rfl ?hy32 (by assumption) ?rest32
        case hy32 => intro w hSw; (try dsimp only at hSw); go_simp <;> with_reducible rfl
        simp only [Act.put, sTI, sT0, sT1]
        refine tkY 17 35 ?v33 rfl ?hy33 (by assumption) ?rest33
        case hy33 => intro w hSw; (try dsimp only at hSw); go_simp <;> with_reducible rfl
        simp only [Act.put, sTI, sT0, sT1]
        refine tkY 18 36 ?v34 rfl ?hy34 (by assumption) ?rest34
        case hy34 => intro w hSw; (try dsimp only at hSw); go_simp <;> with_reducible rfl
        simp only [Act.put, sTI, sT0, sT1]
        refine tkY 19 37 ?v35 rfl ?hy35 (by assumption) ?rest35
        case hy35 => intro w hSw; (try dsimp only at hSw); go_simp <;> with_reducible rfl
        simp only [Act.put, sTI, sT0, sT1]
        refine wpAnyH_ready (rs := [13]) (by kernel_rfl) (by simp) ?_
        refine AllReadyH.cons rfl (fun K hK => ?_) AllReadyH.nil
        go_simp
        go_wp2_with fail
        refine (HC.out _).mono ?_
        rintro en w3 ⟨rfl, hbw3⟩
        have HBw3 := hide_ (HBw1.out.trans (hbw3.mono (by have h := HBw1.out.size; simp at h; omega)))
        clear hbw3
        refine hK.out _ _ (⟨HCX.out _ HBw3.out, HPX.out _ HBw3.out⟩) (fun hHeld => ?_)
        clear hK K
        refine wpAnyH_ready (rs := [20]) (by kernel_rfl) (by simp) ?_
        refine AllReadyH.cons rfl (fun K hK => ?_) AllReadyH.nil
        go_simp
        go_wp2_with fail
        refine (HCP.out _).mono ?_
        rintro en w4 ⟨rfl, hbw4⟩
        have HBw4 := hide_ (HBw3.out.trans (hbw4.mono (by have h := HBw3.out.size; simp at h; omega)))
        clear hbw4
        refine hK.out _ _ (⟨HCX.out _ HBw4.out, HPX.out _ HBw4.out⟩) (fun hHeld => ?_)
        clear hK K
        refine tkY 21 39 ?v36 rfl ?hy36 (by assumption) ?rest36
        case hy36 => intro w hSw; (try dsimp only at hSw); go_simp <;> with_reducible rfl
        simp only [Act.put, sTI, sT0, sT1]
        refine tkY 22 40 ?v37 rfl ?hy37 (by assumption) ?rest37
        case hy37 => intro w hSw; (try dsimp only at hSw); go_simp <;> with_reducible rfl
        simp only [Act.put, sTI, sT0, sT1]
        refine tkY 23 41 ?v38 rfl ?hy38 (by assumption) ?rest38
        case hy38 => intro w hSw; (try dsimp only at hSw); go_simp <;> with_reducible rfl
        simp only [Act.put, sTI, sT0, sT1]
        refine wpAnyH_done (by kernel_rfl) ?_ _
        go_wp2_with fail
        go_ret
        exact ⟨ret_boolT HP.out.symm, HFIN.out _ HBw4.out⟩
      · have HJ2 := hide_ (show ∀ j, j < k + 1 + 1 → risX (l.map (fun x => x.1)) lo hi j = false from fun j hj => by
          by_cases h : j = k + 1
          · rw [h, HRX.out, hin, hgd]; simp [hle]
          · exact HJ.out j (by omega))
        have HIN := hide_ hin
        have hd := decide_eq_false hle
        clear hin hgd hle
        go_upto_region 4 with fail
        refine wp_region_held_drew (S := (fun w' => (∀ i : Nat, w'.cell? ⟨wr.heap.size, i, none⟩ = (#[.int .u64 cl, .int .u8 b, .int .i64 c', .int .i64 d] : Array Value)[i]?) ∧ w'.cell? ⟨tb, ot + k * 4, none⟩ = some (.int .u64 pcl) ∧ w'.cell? ⟨tb, ot + k * 4 + 1, none⟩ = some (.int .u8 pb) ∧ w'.cell? ⟨tb, ot + k * 4 + 2, none⟩ = some (.int .i64 pc) ∧ w'.cell? ⟨tb, ot + k * 4 + 3, none⟩ = some (.int .i64 pd))) (by kernel_rfl) (⟨HCX.out _ HB0.out, HPX.out _ HB0.out⟩) (fun hHeld => ?_)
        refine tkY 0 18 ?v39 rfl ?hy39 (by assumption) ?rest39
        case hy39 => intro w hSw; (try dsimp only at hSw); go_simp <;> with_reducible rfl
        simp only [Act.put, sTI, sT0, sT1]
        refine tkY 1 19 ?v40 rfl ?hy40 (by assumption) ?rest40
        case hy40 => intro w hSw; (try dsimp only at hSw); go_simp <;> with_reducible rfl
        simp only [Act.put, sTI, sT0, sT1]
        refine tkY 3 21 ?v41 rfl ?hy41 (by assumption) ?rest41
        case hy41 => intro w hSw; (try dsimp only at hSw); go_simp <;> with_reducible rfl
        simp only [Act.put, sTI, sT0, sT1]
        refine tkY 4 22 ?v42 rfl ?hy42 (by assumption) ?rest42
        case hy42 => intro w hSw; (try dsimp only at hSw); go_simp <;> with_reducible rfl
        simp only [Act.put, sTI, sT0, sT1]
        refine wpAnyH_ready (rs := [2]) (by kernel_rfl) (by simp) ?_
        refine AllReadyH.cons rfl (fun K hK => ?_) AllReadyH.nil
        go_simp
        go_wp2_with fail
        refine (HC.out _).mono ?_
        rintro en w1 ⟨rfl, hbw1⟩
        have HBw1 := hide_ (HB0.out.trans (hbw1.mono (by simp)))
        clear hbw1
        refine hK.out _ _ (⟨HCX.out _ HBw1.out, HPX.out _ HBw1.out⟩) (fun hHeld => ?_)
        clear hK K
        refine wpAnyH_ready (rs := [5]) (by kernel_rfl) (by simp) ?_
        refine AllReadyH.cons rfl (fun K hK => ?_) AllReadyH.nil
        go_simp
        go_wp2_with (first | (go_at_call 328; refine (within64_any _ _ _ _).mono ?_; rw [HIN.out]; rintro en w2 ⟨rfl, rfl⟩))
        refine hK.out _ _ (⟨HCX.out _ HBw1.out, HPX.out _ HBw1.out⟩) (fun hHeld => ?_)
        clear hK K
        refine tkY 6 24 ?v43 rfl ?hy43 (by assumption) ?rest43
        case hy43 => intro w hSw; (try dsimp only at hSw); go_simp <;> with_reducible rfl
        simp only [Act.put, sTI, sT0, sT1]
        refine tkY 7 25 ?v44 rfl ?hy44 (by assumption) ?rest44
        case hy44 => intro w hSw; (try dsimp only at hSw); go_simp <;> with_reducible rfl
        simp only [Act.put, sTI, sT0, sT1]
        refine tkY 8 26 ?v45 rfl ?hy45 (by assumption) ?rest45
        case hy45 => intro w hSw; (try dsimp only at hSw); go_simp <;> with_reducible rfl
        simp only [Act.put, sTI, sT0, sT1]
        refine tkY 9 27 ?v46 rfl ?hy46 (by assumption) ?rest46
        case hy46 => intro w hSw; (try dsimp only at hSw); go_simp <;> with_reducible rfl
        simp only [Act.put, sTI, sT0, sT1]
        refine tkY 10 28 ?v47 rfl ?hy47 (by assumption) ?rest47
        case hy47 => intro w hSw; (try dsimp only at hSw); go_simp <;> with_reducible rfl
        simp only [Act.put, sTI, sT0, sT1]
        refine tkY 11 29 ?v48 rfl ?hy48 (by assumption) ?rest48
        case hy48 => intro w hSw; (try dsimp only at hSw); go_simp <;> with_reducible rfl
        simp only [Act.put, sTI, sT0, sT1]
        refine tkY 12 30 ?v49 rfl ?hy49 (by assumption) ?rest49
        case hy49 => intro w hSw; (try dsimp only at hSw); go_simp <;> with_reducible rfl
        simp only [Act.put, sTI, sT0, sT1]
        refine tkY 14 32 ?v50 rfl ?hy50 (by assumption) ?rest50
        case hy50 => intro w hSw; (try dsimp only at hSw); go_simp <;> with_reducible rfl
        simp only [Act.put, sTI, sT0, sT1]
        refine tkY 15 33 ?v51 rfl ?hy51 (by assumption) ?rest51
        case hy51 => intro w hSw; (try dsimp only at hSw); go_simp <;> with_reducible rfl
        simp only [Act.put, sTI, sT0, sT1]
        refine tkY 16 34 ?v52 rfl ?hy52 (by assumption) ?rest52
        case hy52 => intro w hSw; (try dsimp only at hSw); go_simp <;> with_reducible rfl
        simp only [Act.put, sTI, sT0, sT1]
        refine tkY 17 35 ?v53 rfl ?hy53 (by assumption) ?rest53
        case hy53 => intro w hSw; (try dsimp only at hSw); go_simp <;> with_reducible rfl
        simp only [Act.put, sTI, sT0, sT1]
        refine tkY 18 36 ?v54 rfl ?hy54 (by assumption) ?rest54
        case hy54 => intro w hSw; (try dsimp only at hSw); go_simp <;> with_reducible rfl
        simp only [Act.put, sTI, sT0, sT1]
        refine tkY 19 37 ?v55 rfl ?hy55 (by assumption) ?rest55
        case hy55 => intro w hSw; (try dsimp only at hSw); go_simp <;> with_reducible rfl
        simp only [Act.put, sTI, sT0, sT1]
        refine wpAnyH_ready (rs := [13]) (by kernel_rfl) (by simp) ?_
        refine AllReadyH.cons rfl (fun K hK => ?_) AllReadyH.nil
        go_simp
        go_wp2_with fail
        refine (HC.out _).mono ?_
        rintro en w3 ⟨rfl, hbw3⟩
        have HBw3 := hide_ (HBw1.out.trans (hbw3.mono (by have h := HBw1.out.size; simp at h; omega)))
        clear hbw3
        refine hK.out _ _ (⟨HCX.out _ HBw3.out, HPX.out _ HBw3.out⟩) (fun hHeld => ?_)
        clear hK K
        refine wpAnyH_ready (rs := [20]) (by kernel_rfl) (by simp) ?_
        refine AllReadyH.cons rfl (fun K hK => ?_) AllReadyH.nil
        go_simp
        go_wp2_with fail
        refine (HCP.out _).mono ?_
        rintro en w4 ⟨rfl, hbw4⟩
        have HBw4 := hide_ (HBw3.out.trans (hbw4.mono (by have h := HBw3.out.size; simp at h; omega)))
        clear hbw4
        refine hK.out _ _ (⟨HCX.out _ HBw4.out, HPX.out _ HBw4.out⟩) (fun hHeld => ?_)
        clear hK K
        refine tkY 21 39 ?v56 rfl ?hy56 (by assumption) ?rest56
        case hy56 => intro w hSw; (try dsimp only at hSw); go_simp <;> with_reducible rfl
        simp only [Act.put, sTI, sT0, sT1]
        refine tkY 22 40 ?v57 rfl ?hy57 (by assumption) ?rest57
        case hy57 => intro w hSw; (try dsimp only at hSw); go_simp <;> with_reducible rfl
        simp only [Act.put, sTI, sT0, sT1]
        refine tkY 23 41 ?v58 rfl ?hy58 (by assumption) ?rest58
        case hy58 => intro w hSw; (try dsimp only at hSw); go_simp <;> with_reducible rfl
        simp only [Act.put, sTI, sT0, sT1]
        refine wpAnyH_done (by kernel_rfl) ?_ _
        go_wp2_with fail
        go_roundw
        case rel => exact ⟨k + 1 + 1, by omega, by go_num, HJ2, HFIN.out _ HBw4.out⟩
        case measure => simp [intOf]; omega


end Go.Proofs.YtnkjdijbfnmnhaaGreat

/-
  Contract of reg's rises at Mark.
-/
namespace Go.Proofs.YtnkjdijbfnmnhaaGreat
open Go.RowKit

set_option maxRecDepth 100000 in
set_option maxHeartbeats 6400000 in
theorem risesMark_any (fn : Nat) (lo hi : Int) (s : Sl (MrkM)) (B : Nat) (w : World) (hs : mrksOk w B s) (hB : B ≤ w.heap.size)
    (he : ∀ args w, (callFunc fn args).run Tryz.prog w = .ok (.enter fn args) w) (hf : ∀ (x : MrkM) wr, x ∈ s.l → Calls Tryz.prog fn #[mrkV x] wr fun e w' => e = .returned (.int .u64 x.1) ∧ Below wr.heap.size wr w') :
    Calls Tryz.prog 300 #[s.v, .int .u64 lo, .int .u64 hi, .func (.func fn) #[] #[]] w fun e w' => e = .returned (.bool (risB (s.l.map (fun x => x.1)) lo hi)) ∧ Below B w w' := by
  obtain ⟨A, c, l⟩ := s
  obtain ⟨h1, h2, h3, h4⟩ := hs
  obtain ⟨n, hn⟩ : ∃ n, l.length = n := ⟨_, rfl⟩
  have HS := hide_ h3
  have HF := hide_ hf
  have HN := hide_ hn
  simp only [Sl.v, hn] at h1 h2 ⊢
  have hnm : n ≤ 9223372036854775807 := by unfold maxLen at h2; omega
  clear h3 hf hn h4 h1 h2
  go_enter Tryz.func300, Tryz.ntmps300
  go_wp2
  go_loopw [13] (fun i wr => ∃ k : Nat, k ≤ n ∧ i = .int .i64 k ∧ Hid (∀ j, j < k → risX (l.map (fun x => x.1)) lo hi j = false) ∧ Below B w wr) (fun i _ => n - (intOf i).toNat)
  case atStart => exact ⟨0, Nat.zero_le _, rfl, (fun j hj => absurd hj (by omega)), Below.refl _ _⟩
  case round =>
    obtain ⟨k, hk, rfl, HJ, hb⟩ := hrel
    by_cases hlt : k < n
    case neg =>
      obtain rfl : k = n := by omega
      have HP := hide_ (show risB (l.map (fun x => x.1)) lo hi = true from risB_all (by rw [List.length_map, HN.out]) HJ.out)
      go_wp2
      go_ret
      exact ⟨ret_boolT HP.out.symm, hb⟩
    obtain ⟨x, hx⟩ : ∃ x, l[k]? = some x := ⟨_, List.getElem?_eq_getElem (by rw [HN.out]; exact hlt)⟩
    have hs1 := HS.out.below hb
    have hxm : x ∈ l := List.mem_of_getElem? hx
    have hzw : w.heap.size ≤ wr.heap.size := hb.size
    obtain ⟨tb, ot, hAe, hab, e0, e1, e2⟩ := hs1.mrk hx
    have hwz : tb < wr.heap.size := by omega
    subst hAe
    have hat := map_at (f := (fun x => x.1)) hx
    have HC := hide_ (fun u => HF.out x u hxm)
    obtain ⟨cl, b, c'⟩ := x
    simp only at e0 e1 e2 hat HC
    have HRX := hide_ (risX_at (lo := lo) (hi := hi) hat)
    have HAT := hide_ hat
    have HBW := hide_ (show Below B w (wr.alloc (.cells #[.int .u8 cl, .int .u64 b, .int .u64 c'] 110)) from hb.alloc (by omega) _)
    have HB0 := hide_ (show Below (wr.heap.size + 1) (wr.alloc (.cells #[.int .u8 cl, .int .u64 b, .int .u64 c'] 110)) (wr.alloc (.cells #[.int .u8 cl, .int .u64 b, .int .u64 c'] 110)).drew from (Below.refl _ _).drew)
    have HCX := hide_ (fun (u : World) (hu : Below (wr.heap.size + 1) (wr.alloc (.cells #[.int .u8 cl, .int .u64 b, .int .u64 c'] 110)) u) => show ∀ i : Nat, u.cell? ⟨wr.heap.size, i, none⟩ = (#[.int .u8 cl, .int .u64 b, .int .u64 c'] : Array Value)[i]? from (BoxAt.below (BoxAt.new wr #[.int .u8 cl, .int .u64 b, .int .u64 c'] 110) (hu.mono (by simp))).cell)
    have HFIN := hide_ (fun (u : World) (hu : Below (wr.heap.size + 1) (wr.alloc (.cells #[.int .u8 cl, .int .u64 b, .int .u64 c'] 110)) u) => show Below B w u from HBW.out.trans (hu.mono (by omega)))
    have HHS := hide_ hs1
    have HHX := hide_ hx
    clear hat hs1 hx hxm hb
    cases hin : inB cl lo hi with
    | false =>
      have HP := hide_ (show risB (l.map (fun x => x.1)) lo hi = false from risB_no (by rw [List.length_map, HN.out]) hlt (by rw [HRX.out, hin]; rfl))
      have HIN := hide_ hin
      clear hin
      go_upto_region 4 with fail
      refine wp_region_held_drew (S := (fun w' => (∀ i : Nat, w'.cell? ⟨wr.heap.size, i, none⟩ = (#[.int .u8 cl, .int .u64 b, .int .u64 c'] : Array Value)[i]?))) (by kernel_rfl) (HCX.out _ HB0.out) (fun hHeld => ?_)
      refine tkY 0 18 ?v1 rfl ?hy1 (by assumption) ?rest1
      case hy1 => intro w hSw; (try dsimp only at hSw); go_simp <;> with_reducible rfl
      simp only [Act.put, sTI, sT0, sT1]
      refine tkY 1 19 ?v2 rfl ?hy2 (by assumption) ?rest2
      case hy2 => intro w hSw; (try dsimp only at hSw); go_simp <;> with_reducible rfl
      simp only [Act.put, sTI, sT0, sT1]
      refine tkY 3 21 ?v3 rfl ?hy3 (by assumption) ?rest3
      case hy3 => intro w hSw; (try dsimp only at hSw); go_simp <;> with_reducible rfl
      simp only [Act.put, sTI, sT0, sT1]
      refine tkY 4 22 ?v4 rfl ?hy4 (by assumption) ?rest4
      case hy4 => intro w hSw; (try dsimp only at hSw); go_simp <;> with_reducible rfl
      simp only [Act.put, sTI, sT0, sT1]
      refine wpAnyH_ready (rs := [2]) (by kernel_rfl) (by simp) ?_
      refine AllReadyH.cons rfl (fun K hK => ?_) AllReadyH.nil
      go_simp
      go_wp2_with fail
      refine (HC.out _).mono ?_
      rintro en w1 ⟨rfl, hbw1⟩
      have HBw1 := hide_ (HB0.out.trans (hbw1.mono (by simp)))
      clear hbw1
      refine hK.out _ _ (HCX.out _ HBw1.out) (fun hHeld => ?_)
      clear hK K
      refine wpAnyH_ready (rs := [5]) (by kernel_rfl) (by simp) ?_
      refine AllReadyH.cons rfl (fun K hK => ?_) AllReadyH.nil
      go_simp
      go_wp2_with (first | (go_at_call 328; refine (within64_any _ _ _ _).mono ?_; rw [HIN.out]; rintro en w2 ⟨rfl, rfl⟩))
      refine hK.out _ _ (HCX.out _ HBw1.out) (fun hHeld => ?_)
      clear hK K
      refine tkY 6 24 ?v5 rfl ?hy5 (by assumption) ?rest5
      case hy5 => intro w hSw; (try dsimp only at hSw); go_simp <;> with_reducible rfl
      simp only [Act.put, sTI, sT0, sT1]
      refine tkY 7 25 ?v6 rfl ?hy6 (by assumption) ?rest6
      case hy6 => intro w hSw; (try dsimp only at hSw); go_simp <;> with_reducible rfl
      simp only [Act.put, sTI, sT0, sT1]
      refine tkU 8 26 rfl (by assumption) ?_
      simp only [Act.put, sTI, sT0, sT1]
      refine tkU 9 27 rfl (by assumption) ?_
      simp only [Act.put, sTI, sT0, sT1]
      refine tkU 10 28 rfl (by assumption) ?_
      simp only [Act.put, sTI, sT0, sT1]
      refine tkU 11 29 rfl (by assumption) ?_
      simp only [Act.put, sTI, sT0, sT1]
      refine tkU 12 30 rfl (by assumption) ?_
      simp only [Act.put, sTI, sT0, sT1]
      refine tkU 13 31 rfl (by assumption) ?_
      simp only [Act.put, sTI, sT0, sT1]
      refine tkU 14 32 rfl (by assumption) ?_
      simp only [Act.put, sTI, sT0, sT1]
      refine tkU 15 33 rfl (by assumption) ?_
      simp only [Act.put, sTI, sT0, sT1]
      refine tkU 16 34 rfl (by assumption) ?_
      simp only [Act.put, sTI, sT0, sT1]
      refine tkU 17 35 rfl (by assumption) ?_
      simp only [Act.put, sTI, sT0, sT1]
      refine tkU 18 36 rfl (by assumption) ?_
      simp only [Act.put, sTI, sT0, sT1]
      refine tkU 19 37 rfl (by assumption) ?_
      simp only [Act.put, sTI, sT0, sT1]
      refine tkU 20 38 rfl (by assumption) ?_
      simp only [Act.put, sTI, sT0, sT1]
      refine tkU 21 39 rfl (by assumption) ?_
      simp only [Act.put, sTI, sT0, sT1]
      refine tkU 22 40 rfl (by assumption) ?_
      simp only [Act.put, sTI, sT0, sT1]
      refine tkY 23 41 ?v7 rfl ?hy7 (by assumption) ?rest7
      case hy7 => intro w hSw; (try dsimp only at hSw); go_simp <;> with_reducible rfl
      simp only [Act.put, sTI, sT0, sT1]
      refine wpAnyH_done (by kernel_rfl) ?_ _
      go_wp2_with fail
      go_ret
      exact ⟨ret_boolT HP.out.symm, HFIN.out _ HBw1.out⟩
    | true =>
    rcases k with _ | k
    · simp only [Nat.zero_mul, Nat.add_zero] at e0 e1 e2
      have HJ2 := hide_ (show ∀ j, j < 0 + 1 → risX (l.map (fun x => x.1)) lo hi j = false from fun j hj => by
        obtain rfl : j = 0 := by omega
        rw [HRX.out, hin]; rfl)
      have HIN := hide_ hin
      clear hin
      go_upto_region 4 with fail
      refine wp_region_held_drew (S := (fun w' => (∀ i : Nat, w'.cell? ⟨wr.heap.size, i, none⟩ = (#[.int .u8 cl, .int .u64 b, .int .u64 c'] : Array Value)[i]?))) (by kernel_rfl) (HCX.out _ HB0.out) (fun hHeld => ?_)
      refine tkY 0 18 ?v8 rfl ?hy8 (by assumption) ?rest8
      case hy8 => intro w hSw; (try dsimp only at hSw); go_simp <;> with_reducible rfl
      simp only [Act.put, sTI, sT0, sT1]
      refine tkY 1 19 ?v9 rfl ?hy9 (by assumption) ?rest9
      case hy9 => intro w hSw; (try dsimp only at hSw); go_simp <;> with_reducible rfl
      simp only [Act.put, sTI, sT0, sT1]
      refine tkY 3 21 ?v10 rfl ?hy10 (by assumption) ?rest10
      case hy10 => intro w hSw; (try dsimp only at hSw); go_simp <;> with_reducible rfl
      simp only [Act.put, sTI, sT0, sT1]
      refine tkY 4 22 ?v11 rfl ?hy11 (by assumption) ?rest11
      case hy11 => intro w hSw; (try dsimp only at hSw); go_simp <;> with_reducible rfl
      simp only [Act.put, sTI, sT0, sT1]
      refine wpAnyH_ready (rs := [2]) (by kernel_rfl) (by simp) ?_
      refine AllReadyH.cons rfl (fun K hK => ?_) AllReadyH.nil
      go_simp
      go_wp2_with fail
      refine (HC.out _).mono ?_
      rintro en w1 ⟨rfl, hbw1⟩
      have HBw1 := hide_ (HB0.out.trans (hbw1.mono (by simp)))
      clear hbw1
      refine hK.out _ _ (HCX.out _ HBw1.out) (fun hHeld => ?_)
      clear hK K
      refine wpAnyH_ready (rs := [5]) (by kernel_rfl) (by simp) ?_
      refine AllReadyH.cons rfl (fun K hK => ?_) AllReadyH.nil
      go_simp
      go_wp2_with (first | (go_at_call 328; refine (within64_any _ _ _ _).mono ?_; rw [HIN.out]; rintro en w2 ⟨rfl, rfl⟩))
      refine hK.out _ _ (HCX.out _ HBw1.out) (fun hHeld => ?_)
      clear hK K
      refine tkY 6 24 ?v12 rfl ?hy12 (by assumption) ?rest12
      case hy12 => intro w hSw; (try dsimp only at hSw); go_simp <;> with_reducible rfl
      simp only [Act.put, sTI, sT0, sT1]
      refine tkY 7 25 ?v13 rfl ?hy13 (by assumption) ?rest13
      case hy13 => intro w hSw; (try dsimp only at hSw); go_simp <;> with_reducible rfl
      simp only [Act.put, sTI, sT0, sT1]
      refine tkY 8 26 ?v14 rfl ?hy14 (by assumption) ?rest14
      case hy14 => intro w hSw; (try dsimp only at hSw); go_simp <;> with_reducible rfl
      simp only [Act.put, sTI, sT0, sT1]
      refine tkY 9 27 ?v15 rfl ?hy15 (by assumption) ?rest15
      case hy15 => intro w hSw; (try dsimp only at hSw); go_simp <;> with_reducible rfl
      simp only [Act.put, sTI, sT0, sT1]
      refine tkY 10 28 ?v16 rfl ?hy16 (by assumption) ?rest16
      case hy16 => intro w hSw; (try dsimp only at hSw); go_simp <;> with_reducible rfl
      simp only [Act.put, sTI, sT0, sT1]
      refine tkU 11 29 rfl (by assumption) ?_
      simp only [Act.put, sTI, sT0, sT1]
      refine tkU 12 30 rfl (by assumption) ?_
      simp only [Act.put, sTI, sT0, sT1]
      refine tkU 13 31 rfl (by assumption) ?_
      simp only [Act.put, sTI, sT0, sT1]
      refine tkU 14 32 rfl (by assumption) ?_
      simp only [Act.put, sTI, sT0, sT1]
      refine tkU 15 33 rfl (by assumption) ?_
      simp only [Act.put, sTI, sT0, sT1]
      refine tkU 16 34 rfl (by assumption) ?_
      simp only [Act.put, sTI, sT0, sT1]
      refine tkU 17 35 rfl (by assumption) ?_
      simp only [Act.put, sTI, sT0, sT1]
      refine tkU 18 36 rfl (by assumption) ?_
      simp only [Act.put, sTI, sT0, sT1]
      refine tkU 19 37 rfl (by assumption) ?_
      simp only [Act.put, sTI, sT0, sT1]
      refine tkU 20 38 rfl (by assumption) ?_
      simp only [Act.put, sTI, sT0, sT1]
      refine tkU 21 39 rfl (by assumption) ?_
      simp only [Act.put, sTI, sT0, sT1]
      refine tkY 22 40 ?v17 rfl ?hy17 (by assumption) ?rest17
      case hy17 => intro w hSw; (try dsimp only at hSw); go_simp <;> with_reducible rfl
      simp only [Act.put, sTI, sT0, sT1]
      refine tkY 23 41 ?v18 rfl ?hy18 (by assumption) ?rest18
      case hy18 => intro w hSw; (try dsimp only at hSw); go_simp <;> with_reducible rfl
      simp only [Act.put, sTI, sT0, sT1]
      refine wpAnyH_done (by kernel_rfl) ?_ _
      go_wp2_with fail
      go_roundw
      case rel => exact ⟨1, by omega, by go_num, HJ2, HFIN.out _ HBw1.out⟩
      case measure => simp [intOf]; omega
    · obtain ⟨y, hy⟩ : ∃ y, l[k]? = some y := ⟨_, List.getElem?_eq_getElem (by rw [HN.out]; omega)⟩
      have hym : y ∈ l := List.mem_of_getElem? hy
      have hpt := map_at (f := (fun x => x.1)) hy
      obtain ⟨tb2, ot2, hAe2, hab2, g0, g1, g2⟩ := HHS.out.mrk hy
      injection hAe2 with hAe2
      injection hAe2 with ht1 ht2
      subst ht1 ht2
      have HCP := hide_ (fun u => HF.out y u hym)
      obtain ⟨pcl, pb, pc⟩ := y
      simp only at g0 g1 g2 hpt HCP
      have hgd : (l.map (fun x => x.1)).getD (k + 1 - 1) 0 = pcl := by rw [Nat.add_sub_cancel, List.getD_eq_getElem?_getD, hpt]; rfl
      have HPX := hide_ (fun (u : World) (hu : Below (wr.heap.size + 1) (wr.alloc (.cells #[.int .u8 cl, .int .u64 b, .int .u64 c'] 110)) u) => show u.cell? ⟨tb, ot + k * 3, none⟩ = some (.int .u8 pcl) ∧ u.cell? ⟨tb, ot + k * 3 + 1, none⟩ = some (.int .u64 pb) ∧ u.cell? ⟨tb, ot + k * 3 + 2, none⟩ = some (.int .u64 pc) from ⟨(((((Below.refl _ _).alloc (Nat.le_refl _) (.cells #[.int .u8 cl, .int .u64 b, .int .u64 c'] 110)).trans (hu.mono (Nat.le_succ _))).cell (p := ⟨tb, ot + k * 3, none⟩) hwz).trans g0), (((((Below.refl _ _).alloc (Nat.le_refl _) (.cells #[.int .u8 cl, .int .u64 b, .int .u64 c'] 110)).trans (hu.mono (Nat.le_succ _))).cell (p := ⟨tb, ot + k * 3 + 1, none⟩) hwz).trans g1), (((((Below.refl _ _).alloc (Nat.le_refl _) (.cells #[.int .u8 cl, .int .u64 b, .int .u64 c'] 110)).trans (hu.mono (Nat.le_succ _))).cell (p := ⟨tb, ot + k * 3 + 2, none⟩) hwz).trans g2)⟩)
      have i1 : IntKind.i64.wrap (k : Int) = k := IntWalk.i64_in _ (by omega)
      have i5 : (k : Int) < (n : Int) := by omega
      have i2 : (0 : Int) ≤ (k : Int) + 1 := by omega
      have i3 : (k : Int) + 1 < (n : Int) := by omega
      have i4 : k < n := by omega
      clear hpt hy hym g0 g1 g2
      by_cases hle : cl ≤ pcl
      · have HP := hide_ (show risB (l.map (fun x => x.1)) lo hi = false from risB_no (by rw [List.length_map, HN.out]) hlt (by rw [HRX.out, hin, hgd]; simp [hle]))
        have HIN := hide_ hin
        have hd := decide_eq_true hle
        clear hin hgd hle
        go_upto_region 4 with fail
        refine wp_region_held_drew (S := (fun w' => (∀ i : Nat, w'.cell? ⟨wr.heap.size, i, none⟩ = (#[.int .u8 cl, .int .u64 b, .int .u64 c'] : Array Value)[i]?) ∧ w'.cell? ⟨tb, ot + k * 3, none⟩ = some (.int .u8 pcl) ∧ w'.cell? ⟨tb, ot + k * 3 + 1, none⟩ = some (.int .u64 pb) ∧ w'.cell? ⟨tb, ot + k * 3 + 2, none⟩ = some (.int .u64 pc))) (by kernel_rfl) (⟨HCX.out _ HB0.out, HPX.out _ HB0.out⟩) (fun hHeld => ?_)
        refine tkY 0 18 ?v19 rfl ?hy19 (by assumption) ?rest19
        case hy19 => intro w hSw; (try dsimp only at hSw); go_simp <;> with_reducible rfl
        simp only [Act.put, sTI, sT0, sT1]
        refine tkY 1 19 ?v20 rfl ?hy20 (by assumption) ?rest20
        case hy20 => intro w hSw; (try dsimp only at hSw); go_simp <;> with_reducible rfl
        simp only [Act.put, sTI, sT0, sT1]
        refine tkY 3 21 ?v21 rfl ?hy21 (by assumption) ?rest21
        case hy21 => intro w hSw; (try dsimp only at hSw); go_simp <;> with_reducible rfl
        simp only [Act.put, sTI, sT0, sT1]
        refine tkY 4 22 ?v22 rfl ?hy22 (by assumption) ?rest22
        case hy22 => intro w hSw; (try dsimp only at hSw); go_simp <;> with_reducible rfl
        simp only [Act.put, sTI, sT0, sT1]
        refine wpAnyH_ready (rs := [2]) (by kernel_rfl) (by simp) ?_
        refine AllReadyH.cons rfl (fun K hK => ?_) AllReadyH.nil
        go_simp
        go_wp2_with fail
        refine (HC.out _).mono ?_
        rintro en w1 ⟨rfl, hbw1⟩
        have HBw1 := hide_ (HB0.out.trans (hbw1.mono (by simp)))
        clear hbw1
        refine hK.out _ _ (⟨HCX.out _ HBw1.out, HPX.out _ HBw1.out⟩) (fun hHeld => ?_)
        clear hK K
        refine wpAnyH_ready (rs := [5]) (by kernel_rfl) (by simp) ?_
        refine AllReadyH.cons rfl (fun K hK => ?_) AllReadyH.nil
        go_simp
        go_wp2_with (first | (go_at_call 328; refine (within64_any _ _ _ _).mono ?_; rw [HIN.out]; rintro en w2 ⟨rfl, rfl⟩))
        refine hK.out _ _ (⟨HCX.out _ HBw1.out, HPX.out _ HBw1.out⟩) (fun hHeld => ?_)
        clear hK K
        refine tkY 6 24 ?v23 rfl ?hy23 (by assumption) ?rest23
        case hy23 => intro w hSw; (try dsimp only at hSw); go_simp <;> with_reducible rfl
        simp only [Act.put, sTI, sT0, sT1]
        refine tkY 7 25 ?v24 rfl ?hy24 (by assumption) ?rest24
        case hy24 => intro w hSw; (try dsimp only at hSw); go_simp <;> with_reducible rfl
        simp only [Act.put, sTI, sT0, sT1]
        refine tkY 8 26 ?v25 rfl ?hy25 (by assumption) ?rest25
        case hy25 => intro w hSw; (try dsimp only at hSw); go_simp <;> with_reducible rfl
        simp only [Act.put, sTI, sT0, sT1]
        refine tkY 9 27 ?v26 rfl ?hy26 (by assumption) ?rest26
        case hy26 => intro w hSw; (try dsimp only at hSw); go_simp <;> with_reducible rfl
        simp only [Act.put, sTI, sT0, sT1]
        refine tkY 10 28 ?v27 rfl ?hy27 (by assumption) ?rest27
        case hy27 => intro w hSw; (try dsimp only at hSw); go_simp <;> with_reducible rfl
        simp only [Act.put, sTI, sT0, sT1]
        refine tkY 11 29 ?v28 rfl ?hy28 (by assumption) ?rest28
        case hy28 => intro w hSw; (try dsimp only at hSw); go_simp <;> with_reducible rfl
        simp only [Act.put, sTI, sT0, sT1]
        refine tkY 12 30 ?v29 rfl ?hy29 (by assumption) ?rest29
        case hy29 => intro w hSw; (try dsimp only at hSw); go_simp <;> with_reducible rfl
        simp only [Act.put, sTI, sT0, sT1]
        refine tkY 14 32 ?v30 rfl ?hy30 (by assumption) ?rest30
        case hy30 => intro w hSw; (try dsimp only at hSw); go_simp <;> with_reducible rfl
        simp only [Act.put, sTI, sT0, sT1]
        refine tkY 15 33 ?v31 rfl ?hy31 (by assumption) ?rest31
        case hy31 => intro w hSw; (try dsimp only at hSw); go_simp <;> with_reducible rfl
        simp only [Act.put, sTI, sT0, sT1]
        refine tkY 16 34 ?v32 rfl ?hy32 (by assumption) ?rest32
        case hy32 => intro w hSw; (try dsimp only at hSw); go_simp <;> with_reducible rfl
        simp only [Act.put, sTI, sT0, sT1]
        refine tkY 17 35 ?v33 rfl ?hy33 (by assumption) ?rest33
        case hy33 => intro w hSw; (try dsimp only at hSw); go_simp <;> with_reducible rfl
        simp only [Act.put, sTI, sT0, sT1]
        refine tkY 18 36 ?v34 rfl ?hy34 (by assumption) ?rest34
        case hy34 => intro w hSw; (try dsimp only at hSw); go_simp <;> with_reducible rfl
        simp only [Act.put, sTI, sT0, sT1]
        refine tkY 19 37 ?v35 rfl ?hy35 (by assumption) ?rest35
        case hy35 => intro w hSw; (try dsimp only at hSw); go_simp <;> with_reducible rfl
        simp only [Act.put, sTI, sT0, sT1]
        refine wpAnyH_ready (rs := [13]) (by kernel_rfl) (by simp) ?_
        refine AllReadyH.cons rfl (fun K hK => ?_) AllReadyH.nil
        go_simp
        go_wp2_with fail
        refine (HC.out _).mono ?_
        rintro en w3 ⟨rfl, hbw3⟩
        have HBw3 := hide_ (HBw1.out.trans (hbw3.mono (by have h := HBw1.out.size; simp at h; omega)))
        clear hbw3
        refine hK.out _ _ (⟨HCX.out _ HBw3.out, HPX.out _ HBw3.out⟩) (fun hHeld => ?_)
        clear hK K
        refine wpAnyH_ready (rs := [20]) (by kernel_rfl) (by simp) ?_
        refine AllReadyH.cons rfl (fun K hK => ?_) AllReadyH.nil
        go_simp
        go_wp2_with fail
        refine (HCP.out _).mono ?_
        rintro en w4 ⟨rfl, hbw4⟩
        have HBw4 := hide_ (HBw3.out.trans (hbw4.mono (by have h := HBw3.out.size; simp at h; omega)))
        clear hbw4
        refine hK.out _ _ (⟨HCX.out _ HBw4.out, HPX.out _ HBw4.out⟩) (fun hHeld => ?_)
        clear hK K
        refine tkY 21 39 ?v36 rfl ?hy36 (by assumption) ?rest36
        case hy36 => intro w hSw; (try dsimp only at hSw); go_simp <;> with_reducible rfl
        simp only [Act.put, sTI, sT0, sT1]
        refine tkY 22 40 ?v37 rfl ?hy37 (by assumption) ?rest37
        case hy37 => intro w hSw; (try dsimp only at hSw); go_simp <;> with_reducible rfl
        simp only [Act.put, sTI, sT0, sT1]
        refine tkY 23 41 ?v38 rfl ?hy38 (by assumption) ?rest38
        case hy38 => intro w hSw; (try dsimp only at hSw); go_simp <;> with_reducible rfl
        simp only [Act.put, sTI, sT0, sT1]
        refine wpAnyH_done (by kernel_rfl) ?_ _
        go_wp2_with fail
        go_ret
        exact ⟨ret_boolT HP.out.symm, HFIN.out _ HBw4.out⟩
      · have HJ2 := hide_ (show ∀ j, j < k + 1 + 1 → risX (l.map (fun x => x.1)) lo hi j = false from fun j hj => by
          by_cases h : j = k + 1
          · rw [h, HRX.out, hin, hgd]; simp [hle]
          · exact HJ.out j (by omega))
        have HIN := hide_ hin
        have hd := decide_eq_false hle
        clear hin hgd hle
        go_upto_region 4 with fail
        refine wp_region_held_drew (S := (fun w' => (∀ i : Nat, w'.cell? ⟨wr.heap.size, i, none⟩ = (#[.int .u8 cl, .int .u64 b, .int .u64 c'] : Array Value)[i]?) ∧ w'.cell? ⟨tb, ot + k * 3, none⟩ = some (.int .u8 pcl) ∧ w'.cell? ⟨tb, ot + k * 3 + 1, none⟩ = some (.int .u64 pb) ∧ w'.cell? ⟨tb, ot + k * 3 + 2, none⟩ = some (.int .u64 pc))) (by kernel_rfl) (⟨HCX.out _ HB0.out, HPX.out _ HB0.out⟩) (fun hHeld => ?_)
        refine tkY 0 18 ?v39 rfl ?hy39 (by assumption) ?rest39
        case hy39 => intro w hSw; (try dsimp only at hSw); go_simp <;> with_reducible rfl
        simp only [Act.put, sTI, sT0, sT1]
        refine tkY 1 19 ?v40 rfl ?hy40 (by assumption) ?rest40
        case hy40 => intro w hSw; (try dsimp only at hSw); go_simp <;> with_reducible rfl
        simp only [Act.put, sTI, sT0, sT1]
        refine tkY 3 21 ?v41 rfl ?hy41 (by assumption) ?rest41
        case hy41 => intro w hSw; (try dsimp only at hSw); go_simp <;> with_reducible rfl
        simp only [Act.put, sTI, sT0, sT1]
        refine tkY 4 22 ?v42 rfl ?hy42 (by assumption) ?rest42
        case hy42 => intro w hSw; (try dsimp only at hSw); go_simp <;> with_reducible rfl
        simp only [Act.put, sTI, sT0, sT1]
        refine wpAnyH_ready (rs := [2]) (by kernel_rfl) (by simp) ?_
        refine AllReadyH.cons rfl (fun K hK => ?_) AllReadyH.nil
        go_simp
        go_wp2_with fail
        refine (HC.out _).mono ?_
        rintro en w1 ⟨rfl, hbw1⟩
        have HBw1 := hide_ (HB0.out.trans (hbw1.mono (by simp)))
        clear hbw1
        refine hK.out _ _ (⟨HCX.out _ HBw1.out, HPX.out _ HBw1.out⟩) (fun hHeld => ?_)
        clear hK K
        refine wpAnyH_ready (rs := [5]) (by kernel_rfl) (by simp) ?_
        refine AllReadyH.cons rfl (fun K hK => ?_) AllReadyH.nil
        go_simp
        go_wp2_with (first | (go_at_call 328; refine (within64_any _ _ _ _).mono ?_; rw [HIN.out]; rintro en w2 ⟨rfl, rfl⟩))
        refine hK.out _ _ (⟨HCX.out _ HBw1.out, HPX.out _ HBw1.out⟩) (fun hHeld => ?_)
        clear hK K
        refine tkY 6 24 ?v43 rfl ?hy43 (by assumption) ?rest43
        case hy43 => intro w hSw; (try dsimp only at hSw); go_simp <;> with_reducible rfl
        simp only [Act.put, sTI, sT0, sT1]
        refine tkY 7 25 ?v44 rfl ?hy44 (by assumption) ?rest44
        case hy44 => intro w hSw; (try dsimp only at hSw); go_simp <;> with_reducible rfl
        simp only [Act.put, sTI, sT0, sT1]
        refine tkY 8 26 ?v45 rfl ?hy45 (by assumption) ?rest45
        case hy45 => intro w hSw; (try dsimp only at hSw); go_simp <;> with_reducible rfl
        simp only [Act.put, sTI, sT0, sT1]
        refine tkY 9 27 ?v46 rfl ?hy46 (by assumption) ?rest46
        case hy46 => intro w hSw; (try dsimp only at hSw); go_simp <;> with_reducible rfl
        simp only [Act.put, sTI, sT0, sT1]
        refine tkY 10 28 ?v47 rfl ?hy47 (by assumption) ?rest47
        case hy47 => intro w hSw; (try dsimp only at hSw); go_simp <;> with_reducible rfl
        simp only [Act.put, sTI, sT0, sT1]
        refine tkY 11 29 ?v48 rfl ?hy48 (by assumption) ?rest48
        case hy48 => intro w hSw; (try dsimp only at hSw); go_simp <;> with_reducible rfl
        simp only [Act.put, sTI, sT0, sT1]
        refine tkY 12 30 ?v49 rfl ?hy49 (by assumption) ?rest49
        case hy49 => intro w hSw; (try dsimp only at hSw); go_simp <;> with_reducible rfl
        simp only [Act.put, sTI, sT0, sT1]
        refine tkY 14 32 ?v50 rfl ?hy50 (by assumption) ?rest50
        case hy50 => intro w hSw; (try dsimp only at hSw); go_simp <;> with_reducible rfl
        simp only [Act.put, sTI, sT0, sT1]
        refine tkY 15 33 ?v51 rfl ?hy51 (by assumption) ?rest51
        case hy51 => intro w hSw; (try dsimp only at hSw); go_simp <;> with_reducible rfl
        simp only [Act.put, sTI, sT0, sT1]
        refine tkY 16 34 ?v52 rfl ?hy52 (by assumption) ?rest52
        case hy52 => intro w hSw; (try dsimp only at hSw); go_simp <;> with_reducible rfl
        simp only [Act.put, sTI, sT0, sT1]
        refine tkY 17 35 ?v53 rfl ?hy53 (by assumption) ?rest53
        case hy53 => intro w hSw; (try dsimp only at hSw); go_simp <;> with_reducible rfl
        simp only [Act.put, sTI, sT0, sT1]
        refine tkY 18 36 ?v54 rfl ?hy54 (by assumption) ?rest54
        case hy54 => intro w hSw; (try dsimp only at hSw); go_simp <;> with_reducible rfl
        simp only [Act.put, sTI, sT0, sT1]
        refine tkY 19 37 ?v55 rfl ?hy55 (by assumption) ?rest55
        case hy55 => intro w hSw; (try dsimp only at hSw); go_simp <;> with_reducible rfl
        simp only [Act.put, sTI, sT0, sT1]
        refine wpAnyH_ready (rs := [13]) (by kernel_rfl) (by simp) ?_
        refine AllReadyH.cons rfl (fun K hK => ?_) AllReadyH.nil
        go_simp
        go_wp2_with fail
        refine (HC.out _).mono ?_
        rintro en w3 ⟨rfl, hbw3⟩
        have HBw3 := hide_ (HBw1.out.trans (hbw3.mono (by have h := HBw1.out.size; simp at h; omega)))
        clear hbw3
        refine hK.out _ _ (⟨HCX.out _ HBw3.out, HPX.out _ HBw3.out⟩) (fun hHeld => ?_)
        clear hK K
        refine wpAnyH_ready (rs := [20]) (by kernel_rfl) (by simp) ?_
        refine AllReadyH.cons rfl (fun K hK => ?_) AllReadyH.nil
        go_simp
        go_wp2_with fail
        refine (HCP.out _).mono ?_
        rintro en w4 ⟨rfl, hbw4⟩
        have HBw4 := hide_ (HBw3.out.trans (hbw4.mono (by have h := HBw3.out.size; simp at h; omega)))
        clear hbw4
        refine hK.out _ _ (⟨HCX.out _ HBw4.out, HPX.out _ HBw4.out⟩) (fun hHeld => ?_)
        clear hK K
        refine tkY 21 39 ?v56 rfl ?hy56 (by assumption) ?rest56
        case hy56 => intro w hSw; (try dsimp only at hSw); go_simp <;> with_reducible rfl
        simp only [Act.put, sTI, sT0, sT1]
        refine tkY 22 40 ?v57 rfl ?hy57 (by assumption) ?rest57
        case hy57 => intro w hSw; (try dsimp only at hSw); go_simp <;> with_reducible rfl
        simp only [Act.put, sTI, sT0, sT1]
        refine tkY 23 41 ?v58 rfl ?hy58 (by assumption) ?rest58
        case hy58 => intro w hSw; (try dsimp only at hSw); go_simp <;> with_reducible rfl
        simp only [Act.put, sTI, sT0, sT1]
        refine wpAnyH_done (by kernel_rfl) ?_ _
        go_wp2_with fail
        go_roundw
        case rel => exact ⟨k + 1 + 1, by omega, by go_num, HJ2, HFIN.out _ HBw4.out⟩
        case measure => simp [intOf]; omega


end Go.Proofs.YtnkjdijbfnmnhaaGreat
