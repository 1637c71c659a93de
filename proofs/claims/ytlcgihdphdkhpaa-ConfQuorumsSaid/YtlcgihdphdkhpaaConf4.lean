/-
  Contracts of conf's Quorum and All.
-/
import Derived.Test.YtlcgihdphdkhpaaConf3
import Derived.Test.YtlcgihdphdkhpaaRing6
namespace Go.Proofs.Ytlcgihdphdkhpaa
open Go.RowKit

theorem eachC_bad {C : Nat} {x y z : NdM} {p : List UInt8 → Bool} (hz : z ∈ ringsN C x y) (h : p z.l = false) : (ringsN C x.l y.l).all p = false := by
  rw [rings_map NdM.l, List.all_map, List.all_eq_false]
  exact ⟨z, hz, by simp [h]⟩
theorem eachC_good {C : Nat} {x y : NdM} {p : List UInt8 → Bool} (h : ∀ z ∈ ringsN C x y, p z.l = true) : (ringsN C x.l y.l).all p = true := by
  rw [rings_map NdM.l, List.all_map, List.all_eq_true]
  exact h

set_option maxRecDepth 100000 in
set_option maxHeartbeats 800000 in
theorem each_any (f : Nat) (q : Nat → Nat → Bool) (C : Nat) (x y : NdM) (key : UInt8) (s : Nat) (B : Nat) (w : World) (hx : NdM.ok w B x) (hy : NdM.ok w B y) (hB : B ≤ w.heap.size) (hs : s < 18446744073709551616)
    (he : ∀ args w, (callFunc f args).run Try.prog w = .ok (.enter f args) w)
    (hf : ∀ (a b : Nat) (u : World), a ≤ 64 → b ≤ 64 → Calls Try.prog f #[.int .i64 a, .int .i64 b] u fun e w' => e = .returned (.bool (q a b)) ∧ w' = u) :
    Calls Try.prog 27 #[cfV C x y, .int .u8 (key.toNat : Int), .int .u64 s, .func (.func f) #[] #[]] w fun e w' =>
      e = .returned (.bool (mayC C x.l y.l && (ringsN C x.l y.l).all fun l => q (cntN (ofM l key) s) (ofM l key).length)) ∧ Below w.heap.size w w' := by
  have HF := hide_ hf
  have HM0 := hide_ (fun (u : World) (hu : Below w.heap.size w u) => cMay_any C x y w.heap.size u ((hx.more hB).below hu) ((hy.more hB).below hu) hu.size)
  have HR := hide_ (fun u => rings_any C x y u)
  have HBAD := hide_ (fun z hz h => eachC_bad (C := C) (x := x) (y := y) (z := z) (p := fun l => q (cntN (ofM l key) s) (ofM l key).length) hz h)
  have HGOOD := hide_ (fun h => eachC_good (C := C) (x := x) (y := y) (p := fun l => q (cntN (ofM l key) s) (ofM l key).length) h)
  have HALL := hide_ (fun (u : World) (hu : Below w.heap.size w u) z (hz : z ∈ ringsN C x y) => show NdM.ok u w.heap.size z from by
    rcases rings_two hz with rfl | rfl
    · exact (hx.more hB).below hu
    · exact (hy.more hB).below hu)
  have HOKS := hide_ (fun (hm : mayC C x.l y.l = true) z (hz : z ∈ ringsN C x y) => show mayN z.l = true from okL_may (rings_ok hm z.l (by rw [rings_map NdM.l]; exact List.mem_map.2 ⟨z, hz, rfl⟩)))
  have hrl := rings_len C x y
  obtain ⟨rs, hrs⟩ : ∃ rs, ringsN C x y = rs := ⟨_, rfl⟩
  obtain ⟨al, hal⟩ : ∃ al, ((ringsN C x.l y.l).all fun l => q (cntN (ofM l key) s) (ofM l key).length) = al := ⟨_, rfl⟩
  obtain ⟨my, hmy⟩ : ∃ my, mayC C x.l y.l = my := ⟨_, rfl⟩
  rw [hrs] at hrl
  simp only [hrs, hal, hmy] at HM0 HR HBAD HGOOD HALL HOKS ⊢
  clear hrs hal hmy hx hy hf
  obtain ⟨A1, c1, l1⟩ := x
  obtain ⟨A2, c2, l2⟩ := y
  simp only [cfV, NdM.v] at HM0 HR ⊢
  have HB0 := hide_ ((Below.refl w.heap.size w).alloc (Nat.le_refl _) (.cells #[.int .u64 C, .slice A1 l1.length c1, .slice A2 l2.length c2] 25))
  have HX0 := hide_ (BoxAt.new w #[.int .u64 C, .slice A1 l1.length c1, .slice A2 l2.length c2] 25)
  obtain ⟨W0, hW0⟩ : ∃ W0, w.alloc (.cells #[.int .u64 C, .slice A1 l1.length c1, .slice A2 l2.length c2] 25) = W0 := ⟨_, rfl⟩
  rw [hW0] at HB0 HX0
  have HW0 := hide_ hW0
  have hs0 : w.heap.size < W0.heap.size := HX0.out.lt
  clear hW0
  go_enter Try.func27, Try.ntmps27
  go_upto_region 1 with fail
  rw [HW0.out]
  have c0 := HX0.out.cell 0
  have c1' := HX0.out.cell 1
  have c2' := HX0.out.cell 2
  simp at c0 c1' c2'
  have HMM := hide_ (HM0.out _ HB0.out)
  cases my with
  | false =>
    go_wp2_with fail
    refine HMM.out.mono ?_
    rintro e w1 ⟨rfl, hb1⟩
    go_wp2
    go_ret
    exact ⟨rfl, HB0.out.trans (hb1.mono HB0.out.size)⟩
  | true =>
    have HOK := hide_ (HOKS.out rfl)
    go_wp2_with fail
    refine HMM.out.mono ?_
    rintro e w1 ⟨rfl, hb1⟩
    have HB1 := hide_ (HB0.out.trans (hb1.mono HB0.out.size))
    have HX1 := hide_ (HX0.out.below hb1)
    have hs1 : w.heap.size < w1.heap.size := HX1.out.lt
    clear hb1 c0 c1' c2' HOKS HMM HM0
    have c0 := HX1.out.cell 0
    have c1' := HX1.out.cell 1
    have c2' := HX1.out.cell 2
    simp at c0 c1' c2'
    go_wp2_with fail
    refine (HR.out _).mono ?_
    rintro e w2 ⟨g, o, k, rfl, hk, hg, hg1, hc, hb2⟩
    have HB2 := hide_ (HB1.out.trans (hb2.mono HB1.out.size))
    have HC := hide_ (fun (u : World) (hu : Below w2.heap.size w2 u) j z (hz : rs[j]? = some z) => show u.cell? ⟨g, o + j, none⟩ = some z.v from by rw [hu.cell (p := ⟨g, o + j, none⟩) hg1]; exact hc j z hz)
    have HK := hide_ hk
    have hk2 : k ≤ 2 := by omega
    have hg0 : w.heap.size ≤ g := by omega
    clear hrl hb2 c0 c1' c2' hc hk
    have HD0 := hide_ (Below.refl w2.heap.size w2)
    go_wp2_with fail
    go_loopw [18] (fun i wx => ∃ m : Nat, m ≤ k ∧ i = .int .i64 m ∧ Hid (∀ j z, j < m → rs[j]? = some z → q (cntN (ofM z.l key) s) (ofM z.l key).length = true) ∧ Hid (Below w2.heap.size w2 wx)) (fun i _ => k - (intOf i).toNat)
    case atStart => exact ⟨0, by omega, rfl, hide_ (fun j z hj => by omega), HD0⟩
    case round =>
      obtain ⟨m, hm, rfl, HM, HD⟩ := hrel
      have HBX := hide_ (HB2.out.trans (HD.out.mono HB2.out.size))
      by_cases hlt : m < k
      · obtain ⟨z, hz⟩ : ∃ z, rs[m]? = some z := ⟨_, List.getElem?_eq_getElem (by rw [HK.out]; exact hlt)⟩
        have hcz := HC.out wr HD.out m z hz
        have HZ := hide_ (List.mem_of_getElem? hz)
        have HZO := hide_ (HALL.out wr HBX.out z HZ.out)
        have HZM := HOK.out z HZ.out
        have HB := hide_ (HBAD.out z HZ.out)
        have HN := hide_ (fun (h : q (cntN (ofM z.l key) s) (ofM z.l key).length = true) => show ∀ j z, j < m + 1 → rs[j]? = some z → q (cntN (ofM z.l key) s) (ofM z.l key).length = true from fun j z' hj hz' => by
          by_cases hjm : j < m
          · exact HM.out j z' hjm hz'
          · obtain rfl : j = m := by omega
            rw [hz] at hz'
            injection hz' with hz'
            rw [← hz']
            exact h)
        clear hz
        have hgw : g < wr.heap.size := by have := HD.out.size; omega
        obtain ⟨zA, zc, zl⟩ := z
        simp only [NdM.v] at hcz HZO HB HN HZM
        have HOF := hide_ (Of9_any zl key w.heap.size zA zl.length zc wr rfl HZO.out.len HZO.out.2 HBX.out.size)
        have hp1 := keep_pop HZM key s
        have hp2 := keep_all HZM key
        have hl3 := ofM_len zl key
        have hcl := cntN_le (ofM zl key) s
        obtain ⟨kp, hkp⟩ : ∃ kp, ofM zl key = kp := ⟨_, rfl⟩
        rw [hkp] at hp1 hp2 hl3 hcl
        simp only [hkp] at HB HN HOF
        clear hkp HZM
        obtain ⟨a, ha⟩ : ∃ a, cntN kp s = a := ⟨_, rfl⟩
        obtain ⟨b, hb⟩ : ∃ b, kp.length = b := ⟨_, rfl⟩
        rw [ha, hb] at HB HN hcl
        rw [ha] at hp1
        rw [hb] at hp2 hl3 HOF
        have hKB := hide_ hb
        clear ha hb
        have hand := u64_and_nat (setN kp) s (setN_lt _) hs
        have HP1 := hide_ (fun u => ones_any (setN kp &&& s) u (Nat.lt_of_le_of_lt Nat.and_le_left (setN_lt _)))
        have HP2 := hide_ (fun u => ones_any (setN kp) u (setN_lt _))
        rw [hp1] at HP1
        rw [hp2] at HP2
        have HQ := hide_ (fun u => HF.out a b u (by omega) (by omega))
        obtain ⟨r, hr⟩ : ∃ r, q a b = r := ⟨_, rfl⟩
        rw [hr] at HQ HB HN
        clear hp1 hp2 hr
        go_wp2_with fail
        refine HOF.out.mono ?_
        rintro e w3 ⟨A3, c3, rfl, ho3, hb3⟩
        have HS3 := hide_ (set_any kp w3.heap.size A3 b c3 w3 hKB.out (by unfold maxLen; omega) (Sees.ownRow9 ho3))
        have HD3 := hide_ (HD.out.trans (hb3.mono HD.out.size))
        have HB3 := hide_ (HBX.out.trans (hb3.mono HBX.out.size))
        clear ho3 hb3
        go_wp2_with fail
        refine HS3.out.mono ?_
        rintro e w4 ⟨rfl, rfl⟩
        go_wp2_with fail
        refine (HP1.out _).mono ?_
        rintro e w5 ⟨rfl, rfl⟩
        go_wp2_with fail
        refine (HP2.out _).mono ?_
        rintro e w6 ⟨rfl, rfl⟩
        go_wp2_with fail
        refine (HQ.out _).mono ?_
        rintro e w7 ⟨rfl, rfl⟩
        cases r with
        | false =>
          have HFF := hide_ (HB.out rfl)
          go_wp2
          go_ret
          exact ⟨ret_bool9 (by rw [HFF.out]; rfl), HB3.out⟩
        | true =>
          have HNN := hide_ (HN.out rfl)
          go_wp2
          go_roundw
          case rel => exact ⟨m + 1, by omega, by go_num, HNN, HD3⟩
          case measure => simp [intOf]; omega
      · obtain rfl : k = m := by omega
        have HG := hide_ (HGOOD.out (fun z hz => by
          obtain ⟨j, hj, rfl⟩ := List.getElem_of_mem hz
          rw [HK.out] at hj
          exact HM.out j _ hj (List.getElem?_eq_getElem _)))
        go_wp2
        go_ret
        exact ⟨ret_bool9 (by rw [HG.out]; rfl), HBX.out⟩

set_option maxRecDepth 100000 in
theorem quoF_any (a b : Nat) (u : World) (_ha : a ≤ 64) (_hb : b ≤ 64) : Calls Try.prog 28 #[.int .i64 a, .int .i64 b] u fun e w' => e = .returned (.bool (decide (b < 2 * a))) ∧ w' = u := by
  go_enter Try.func28, Try.ntmps28
  go_wp2
  go_ret
  exact ⟨ret_bool9 (by rw [Bool.eq_iff_iff]; simp; omega), rfl⟩
set_option maxRecDepth 100000 in
theorem allF_any (a b : Nat) (u : World) (_ha : a ≤ 64) (_hb : b ≤ 64) : Calls Try.prog 31 #[.int .i64 a, .int .i64 b] u fun e w' => e = .returned (.bool (decide (a = b))) ∧ w' = u := by
  go_enter Try.func31, Try.ntmps31
  go_wp2
  go_ret
  exact ⟨ret_bool9 (by rw [Bool.eq_iff_iff]; simp; omega), rfl⟩

set_option maxRecDepth 100000 in
theorem Quorum_any (C : Nat) (x y : NdM) (key : UInt8) (s : Nat) (B : Nat) (w : World) (hx : NdM.ok w B x) (hy : NdM.ok w B y) (hB : B ≤ w.heap.size) (hs : s < 18446744073709551616) :
    Calls Try.prog 12 #[cfV C x y, .int .u8 (key.toNat : Int), .int .u64 s] w fun e w' => e = .returned (.bool (quoC C x.l y.l key s)) ∧ Below w.heap.size w w' := by
  have HE := hide_ (fun (u : World) (hu : Below w.heap.size w u) => each_any 28 (fun a b => decide (b < 2 * a)) C x y key s w.heap.size u ((hx.more hB).below hu) ((hy.more hB).below hu) hu.size hs (fun _ _ => rfl) quoF_any)
  have hq : (mayC C x.l y.l && (ringsN C x.l y.l).all fun l => decide ((ofM l key).length < 2 * cntN (ofM l key) s)) = quoC C x.l y.l key s := rfl
  simp only [hq] at HE
  generalize quoC C x.l y.l key s = r at HE ⊢
  clear hq hx hy
  obtain ⟨A1, c1, l1⟩ := x
  obtain ⟨A2, c2, l2⟩ := y
  simp only [cfV, NdM.v] at HE ⊢
  have HB0 := hide_ ((Below.refl w.heap.size w).alloc (Nat.le_refl _) (.cells #[.int .u64 C, .slice A1 l1.length c1, .slice A2 l2.length c2] 25))
  go_enter Try.func12, Try.ntmps12
  go_wp2_with fail
  refine (HE.out _ HB0.out).mono ?_
  rintro e w1 ⟨rfl, hb1⟩
  go_wp2
  go_ret
  exact ⟨rfl, HB0.out.trans (hb1.mono HB0.out.size)⟩
set_option maxRecDepth 100000 in
theorem All_any (C : Nat) (x y : NdM) (key : UInt8) (s : Nat) (B : Nat) (w : World) (hx : NdM.ok w B x) (hy : NdM.ok w B y) (hB : B ≤ w.heap.size) (hs : s < 18446744073709551616) :
    Calls Try.prog 14 #[cfV C x y, .int .u8 (key.toNat : Int), .int .u64 s] w fun e w' => e = .returned (.bool (allC C x.l y.l key s)) ∧ Below w.heap.size w w' := by
  have HE := hide_ (fun (u : World) (hu : Below w.heap.size w u) => each_any 31 (fun a b => decide (a = b)) C x y key s w.heap.size u ((hx.more hB).below hu) ((hy.more hB).below hu) hu.size hs (fun _ _ => rfl) allF_any)
  have hq : (mayC C x.l y.l && (ringsN C x.l y.l).all fun l => decide (cntN (ofM l key) s = (ofM l key).length)) = allC C x.l y.l key s := rfl
  simp only [hq] at HE
  generalize allC C x.l y.l key s = r at HE ⊢
  clear hq hx hy
  obtain ⟨A1, c1, l1⟩ := x
  obtain ⟨A2, c2, l2⟩ := y
  simp only [cfV, NdM.v] at HE ⊢
  have HB0 := hide_ ((Below.refl w.heap.size w).alloc (Nat.le_refl _) (.cells #[.int .u64 C, .slice A1 l1.length c1, .slice A2 l2.length c2] 25))
  go_enter Try.func14, Try.ntmps14
  go_wp2_with fail
  refine (HE.out _ HB0.out).mono ?_
  rintro e w1 ⟨rfl, hb1⟩
  go_wp2
  go_ret
  exact ⟨rfl, HB0.out.trans (hb1.mono HB0.out.size)⟩
end Go.Proofs.Ytlcgihdphdkhpaa
