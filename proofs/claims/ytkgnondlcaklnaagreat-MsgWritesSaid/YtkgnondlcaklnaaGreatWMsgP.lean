/-
  The document's Put of ballots.
-/
import Derived.Test.YtkgnondlcaklnaaGreatJ45
import Derived.Test.YtkgnondlcaklnaaGreatWRef
import Derived.Test.YtkgnondlcaklnaaGreatJ17
import Derived.Deep.RegionHeld
namespace Go.Proofs.YtkgnondlcaklnaaGreat
open Go.RowKit

set_option maxRecDepth 100000 in
set_option maxHeartbeats 3200000 in
set_option linter.unusedSimpArgs false in
theorem refBalPut_any (c n l : Nat) (r : List UInt8) (w : World) (hres : balB c n l = r) (hc : N64 c) (hn : n ≤ 255) (hl : l ≤ 4294967295) :
    Calls Tryz.prog 41 #[.agg #[.int .u64 c, .int .u8 n, .int .u32 l]] w (Puts w r) := by
  obtain ⟨p, hp⟩ : ∃ x, numB c ++ numB n = x := ⟨_, rfl⟩
  have hr : p ++ numB l = r := by rw [← hp, ← hres, balB]; simp
  have n1 := numB_length c hc
  have n2 := numB_length n (by omega)
  have n3 := numB_length l (by omega)
  have hpl : p.length ≤ 20 := by rw [← hp, List.length_append]; omega
  have HPL := hide_ hpl
  have HP := hide_ hp
  have HR := hide_ hr
  have HC := hide_ hc
  have HNL := hide_ (show (numB c).length ≤ 10 ∧ (numB n).length ≤ 10 ∧ (numB l).length ≤ 10 from ⟨n1, n2, n3⟩)
  have HX := hide_ (BoxAt.new w #[.int .u64 c, .int .u8 n, .int .u32 l] 49)
  have HW := hide_ (show Below w.heap.size w (w.alloc (.cells #[.int .u64 c, .int .u8 n, .int .u32 l] 49)) from (Below.refl _ _).alloc (Nat.le_refl _) _)
  clear hp hr hres hc n1 n2 n3 hpl
  go_enter Tryz.func41, Tryz.ntmps41
  go_upto_region 1 with fail
  generalize hW1 : w.alloc (.cells #[.int .u64 c, .int .u8 n, .int .u32 l] 49) = W1
  rw [hW1] at HX HW
  have HSZ := hide_ (show W1.heap.size = w.heap.size + 1 from by rw [← hW1]; simp)
  clear hW1
  have HSS := hide_ (fun (u : World) (h : Below W1.heap.size W1 u) => (show ∀ i : Nat, u.cell? ⟨w.heap.size, i, none⟩ = (#[.int .u64 c, .int .u8 n, .int .u32 l] : Array Value)[i]? from (HX.out.below h).cell))
  have HD := hide_ (show Below W1.heap.size W1 W1.drew from (Below.refl _ _).drew)
  refine wp_region_held_drew (S := fun u => ∀ i : Nat, u.cell? ⟨w.heap.size, i, none⟩ = (#[.int .u64 c, .int .u8 n, .int .u32 l] : Array Value)[i]?) (by kernel_rfl) (HSS.out _ HD.out) (fun hHeld => ?_)
  refine wpAnyH_take (i := 0) (oi := ⟨some 4, _, _, _, _, _⟩) (v := ?v1) rfl (by kernel_rfl) (by kernel_rfl) (by kernel_rfl) (fun _ _ _ h => h) (Or.inl ⟨by rfl, ?hy1⟩) (by assumption) ?rest1
  case hy1 => intro w hSw; (try dsimp only at hSw); go_simp <;> with_reducible rfl
  simp only [Act.put, List.setIfInBounds_toArray, List.set_cons_zero, List.set_cons_succ]
  refine wpAnyH_take (i := 1) (oi := ⟨some 5, _, _, _, _, _⟩) (v := ?v2) rfl (by kernel_rfl) (by kernel_rfl) (by kernel_rfl) (fun _ _ _ h => h) (Or.inl ⟨by rfl, ?hy2⟩) (by assumption) ?rest2
  case hy2 => intro w hSw; (try dsimp only at hSw); go_simp <;> with_reducible rfl
  simp only [Act.put, List.setIfInBounds_toArray, List.set_cons_zero, List.set_cons_succ]
  refine wpAnyH_take (i := 3) (oi := ⟨some 7, _, _, _, _, _⟩) (v := ?v3) rfl (by kernel_rfl) (by kernel_rfl) (by kernel_rfl) (fun _ _ _ h => h) (Or.inl ⟨by rfl, ?hy3⟩) (by assumption) ?rest3
  case hy3 => intro w hSw; (try dsimp only at hSw); go_simp <;> with_reducible rfl
  simp only [Act.put, List.setIfInBounds_toArray, List.set_cons_zero, List.set_cons_succ]
  refine wpAnyH_take (i := 4) (oi := ⟨some 8, _, _, _, _, _⟩) (v := ?v4) rfl (by kernel_rfl) (by kernel_rfl) (by kernel_rfl) (fun _ _ _ h => h) (Or.inl ⟨by rfl, ?hy4⟩) (by assumption) ?rest4
  case hy4 => intro w hSw; (try dsimp only at hSw); go_simp <;> with_reducible rfl
  simp only [Act.put, List.setIfInBounds_toArray, List.set_cons_zero, List.set_cons_succ]
  have hwr : IntKind.u64.wrap (n : Int) = n := IntWalk.u64_in _ (by omega)
  refine wpAnyH_take (i := 5) (oi := ⟨some 9, _, _, _, _, _⟩) (v := .int .u64 n) rfl (by kernel_rfl) (by kernel_rfl) (by kernel_rfl) (fun _ _ _ h => h) (Or.inl ⟨by rfl, ?hy5⟩) (by assumption) ?rest5
  case hy5 => intro w hSw; (try dsimp only at hSw); go_simp <;> first | (with_reducible rfl) | exact hwr
  simp only [Act.put, List.setIfInBounds_toArray, List.set_cons_zero, List.set_cons_succ]
  refine wpAnyH_ready (rs := [2]) (by kernel_rfl) (by simp) ?_
  refine AllReadyH.cons rfl (fun K hK => ?_) AllReadyH.nil
  go_simp
  go_wp2_with fail
  refine (refNum_any c (numB c) W1.drew rfl HC.out).mono ?_
  rintro en u1 ⟨A1, c1, rfl, ho1, hb1⟩
  have HU1 := hide_ (HD.out.trans hb1)
  have HO1 := hide_ ho1
  clear ho1 hb1
  refine hK.out _ _ (HSS.out _ HU1.out) (fun hHeld => ?_)
  clear hK K
  refine wpAnyH_ready (rs := [6]) (by kernel_rfl) (by simp) ?_
  refine AllReadyH.cons rfl (fun K hK => ?_) AllReadyH.nil
  go_simp
  go_wp2_with fail
  refine (refNum_any n (numB n) u1 rfl (by omega)).mono ?_
  rintro en u2 ⟨A2, c2, rfl, ho2, hb2⟩
  have HU2 := hide_ (HU1.out.trans (hb2.mono HU1.out.size))
  have HO2 := hide_ ho2
  have HO12 := hide_ (own_below HO1.out hb2)
  have HB2 := hide_ hb2.size
  clear ho2 hb2
  refine hK.out _ _ (HSS.out _ HU2.out) (fun hHeld => ?_)
  clear hK K
  refine wpAnyH_ready (rs := [7]) (by kernel_rfl) (by simp) ?_
  refine AllReadyH.cons rfl (fun K hK => ?_) AllReadyH.nil
  refine step_append_row _ (by rfl) _ _ 52 (by rfl) W1.heap.size u8_info Tryz.underlying52 _ (numB c) (numB n) p HP.out (by rfl) HO12.out u2.heap.size A2 _ c2 (by rfl) rfl (Sees.own HO2.out) ⟨by have := HNL.out; omega, by have := HNL.out; omega⟩ HU2.out.size ?_
  intro A3 c3 u3 hst
  have HU3 := hide_ (HU2.out.trans (hst.below HO12.out (B := W1.heap.size) (Nat.le_refl _) HU2.out.size))
  have HO3 := hide_ hst.own
  clear hst
  refine hK.out _ _ (HSS.out _ HU3.out) (fun hHeld => ?_)
  clear hK K
  simp only [Act.put, List.setIfInBounds_toArray, List.set_cons_zero, List.set_cons_succ]
  refine wpAnyH_take (i := 8) (oi := ⟨some 3, _, _, _, _, _⟩) (v := ?v6) rfl (by kernel_rfl) (by kernel_rfl) (by kernel_rfl) (fun _ _ _ h => h) (Or.inl ⟨by rfl, ?hy6⟩) (by assumption) ?rest6
  case hy6 => intro w hSw; (try dsimp only at hSw); go_simp <;> with_reducible rfl
  simp only [Act.put, List.setIfInBounds_toArray, List.set_cons_zero, List.set_cons_succ]
  refine wpAnyH_done (by kernel_rfl) ?_ _
  have hcx := HSS.out _ HU3.out
  have hl64 : IntKind.u64.wrap (l : Int) = l := IntWalk.u64_in _ (by omega)
  clear hwr
  go_wp2_with fail
  refine (refNum_any l (numB l) u3 rfl (by omega)).mono ?_
  rintro en u4 ⟨A4, c4, rfl, ho4, hb4⟩
  have HO4 := hide_ ho4
  have HO34 := hide_ (own_below HO3.out hb4)
  have HU4 := hide_ (HU3.out.trans (hb4.mono HU3.out.size))
  have HZ := hide_ (show W1.heap.size ≤ u4.heap.size from HU4.out.size)
  clear ho4 hb4 hcx
  go_wp2_with (at_builtin; refine wpList_append_bytes (P := Tryz.prog) _ rfl (.tmp 12) (.tmp 16) 52 rfl W1.heap.size 5 u8_info Tryz.underlying52 _ p.length p (numB l) r HR.out rfl HO34.out u4.heap.size A4 _ c4 rfl rfl (Sees.own HO4.out) (by have := HNL.out; have := HPL.out; omega) HZ.out ?_; intro A5 c5 u5 hown5 hb5)
  go_ret
  exact ⟨A5, c5, rfl, own_mono hown5 (by have := HSZ.out; omega), HW.out.trans ((HU4.out.trans hb5).mono (by have := HSZ.out; omega))⟩
end Go.Proofs.YtkgnondlcaklnaaGreat
