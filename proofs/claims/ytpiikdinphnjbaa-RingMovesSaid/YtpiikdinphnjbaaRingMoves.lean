/-
  scrutineerlaw09.RingMoves answers true for every input and leaves its input as it was; no condition.
-/
import Derived.Test.YtpiikdinphnjbaaRing9
import Derived.Test.YtpiikdinphnjbaaLaw
namespace Go.Proofs.Ytpiikdinphnjbaa.ringMoves
open Go.ChangeShapes Go.WideShapes Go.ChangeAt Go.RowKit

theorem walk_long (A : Option Addr) (n c : Nat) (k m : Int) (w : World) (h : 80 < n) (hm : n ≤ maxLen) :
    Calls Try.prog 4 #[.slice A n c, .int .u8 k, .int .u8 m] w fun e w' => e = .returned (.bool true) ∧ Below w.heap.size w w' := by
  unfold maxLen at hm
  go_enter Try.func4, Try.ntmps4
  go_wp2_with fail
  refine (awake09_any _).mono ?_
  rintro e w1 ⟨rfl, hb1⟩
  go_wp2
  go_ret
  exact ⟨rfl, hb1⟩

/-- how many of a are not in b -/
def lostN (a b : List UInt8) : Nat := (a.filter fun x => !b.contains x).length
theorem lost_take {a b : List UInt8} {k : Nat} (hk : k < a.length) : lostN (a.take (k + 1)) b = lostN (a.take k) b + (if b.contains a[k] then 0 else 1) := by
  unfold lostN
  rw [List.take_succ_eq_append_getElem hk, List.filter_append, List.length_append]
  cases h : b.contains a[k] <;> simp_all
theorem lost_le {a b : List UInt8} (k : Nat) : lostN (a.take k) b ≤ a.length := Nat.le_trans (List.length_filter_le _ _) (by rw [List.length_take]; omega)

set_option maxRecDepth 100000 in
set_option maxHeartbeats 3200000 in
theorem walk_short (l : List UInt8) (more key : UInt8) (A : Option Addr) (n c : Nat) (w : World) (hn : l.length = n) (h1 : n ≤ 80) (hs : Sees w w.heap.size A (bv l)) :
    Calls Try.prog 4 #[.slice A n c, .int .u8 (more.toNat : Int), .int .u8 (key.toNat : Int)] w fun e w' => e = .returned (.bool true) ∧ Below w.heap.size w w' := by
  have HN := hide_ hn
  have HOF := hide_ (Of9_any l key w.heap.size A n c w hn (by omega) hs (Nat.le_refl _))
  have HOG := hide_ (fun (u : World) (R : Option Addr) (rc : Nat) (hR : Sees u u.heap.size R (bv (l ++ [more]))) => Of9_any (l ++ [more]) key u.heap.size R (n + 1) rc u (by simp [hn]) (by omega) hR (Nat.le_refl _))
  have HSV := hide_ (fun (u : World) (hu : Below w.heap.size w u) => hs.below hu)
  obtain ⟨hmv1, hmv2, hmv3⟩ := ofM_moves l more key
  have ha3 := ofM_len l key
  have hb3 := ofM_len (l ++ [more]) key
  have HCV := hide_ (bv_append l [more])
  obtain ⟨a, hae⟩ : ∃ a, ofM l key = a := ⟨_, rfl⟩
  obtain ⟨b, hbe⟩ : ∃ b, ofM (l ++ [more]) key = b := ⟨_, rfl⟩
  rw [hae] at HOF hmv1 hmv2 hmv3 ha3
  rw [hbe] at HOG hmv1 hmv2 hmv3 hb3
  obtain ⟨na, hna⟩ : ∃ na, a.length = na := ⟨_, rfl⟩
  obtain ⟨nb, hnb⟩ : ∃ nb, b.length = nb := ⟨_, rfl⟩
  rw [hna] at HOF ha3
  rw [hnb] at HOG hb3
  have HM1 := hide_ (show lostN a b ≤ 1 from hmv1)
  have HM2 := hide_ hmv2
  have HNA := hide_ hna
  have HNB := hide_ hnb
  have hab : na ≤ nb := by omega
  clear hae hbe hmv1 hmv2 hmv3 hs hn hna hnb
  go_enter Try.func4, Try.ntmps4
  go_wp2_with fail
  refine HOF.out.mono ?_
  rintro e w1 ⟨A1, c1, rfl, ho1, hb1⟩
  have HO1 := hide_ ho1
  have HB1 := hide_ hb1
  have hz1 := hb1.size
  have HSL := hide_ ((HSV.out w1 hb1).below ((Below.refl w.heap.size w1).alloc hz1 (.cells #[] 5)))
  have HE1 := hide_ (own_empty9 (w := w1) (s := 1) (base := w1.heap.size) 5 (Nat.le_refl _))
  have HLV := hide_ (show (bv l).length = n * 1 by rw [bv_length, HN.out]; omega)
  clear ho1 hb1
  go_wp2_with (first | (at_builtin; refine wpList_append_cells _ rfl _ _ 22 rfl w1.heap.size 5 _ 1 1 u8_info rfl (by omega) Try.underlying22 _ 0 [] rfl HE1.out w.heap.size A n c (bv l) rfl HLV.out HSL.out (bv_oneCell _) (by omega) (by omega) (by simp) n (by omega) (bv l) rfl ?_; intro A2 c2 w2 hown2 hb2; have HO2 := hide_ hown2; have HB2 := hide_ hb2; have HO2A := hide_ (hown2.alloc (.cells #[.int .u8 (more.toNat : Int)] 5)); have HSN := hide_ (sees_box w2 #[.int .u8 (more.toNat : Int)] 5 (bv [more]) rfl); (have hz2 : w1.heap.size + 1 ≤ w2.heap.size := by simpa using HB2.out.size); clear hown2 hb2) | (at_builtin; refine wpList_append_cells _ rfl _ _ 22 rfl w1.heap.size 5 _ 1 1 u8_info rfl (by omega) Try.underlying22 _ n (bv l) rfl HO2A.out (w2.heap.size + 1) (some ⟨w2.heap.size, 0, none⟩) 1 1 (bv [more]) rfl rfl HSN.out (bv_oneCell _) (by omega) (by omega) (by simp; omega) (n + 1) rfl _ HCV.out.symm ?_; intro A3 c3 w3 hown3 hb3'; have HO3 := hide_ hown3; have HB3 := hide_ hb3'; clear hown3 hb3'))
  go_wp2_with fail
  refine (HOG.out _ A3 c3 (Sees.ownRow9 HO3.out)).mono ?_
  rintro e w4 ⟨A4, c4, rfl, ho4, hb4⟩
  have HB14 := hide_ ((((Below.refl w1.heap.size w1).alloc (Nat.le_refl _) (.cells #[] 5)).trans HB2.out |>.alloc (by omega) (.cells #[.int .u8 (more.toNat : Int)] 5)).trans HB3.out |>.trans (hb4.mono (by have := HB3.out.size; simp at this; omega)))
  have HSA := hide_ (((Sees.ownRow9 HO1.out).below HB14.out).more HB14.out.size)
  have HSB := hide_ (Sees.ownRow9 ho4)
  have HW4 := hide_ (HB1.out.trans (HB14.out.mono hz1))
  have HLT := hide_ (fun k (hk : k < a.length) => lost_take (b := b) hk)
  have HLE := hide_ (fun k => show lostN (a.take k) b ≤ 3 from Nat.le_trans (lost_le k) (by rw [HNA.out]; exact ha3))
  have HCB := hide_ (fun k (x : UInt8) (hk : k < b.length) => contains_take (l := b) (k := k) x hk)
  have HCA := hide_ (fun k (x : UInt8) (hk : k < a.length) => contains_take (l := a) (k := k) x hk)
  have HFB := hide_ (show ∀ x, (b.take nb).contains x = b.contains x from fun x => by rw [← HNB.out, List.take_length])
  have HFA := hide_ (show ∀ x, (a.take na).contains x = a.contains x from fun x => by rw [← HNA.out, List.take_length])
  have HLA := hide_ (show lostN (a.take na) b ≤ 1 by rw [← HNA.out, List.take_length]; exact HM1.out)
  clear ho4 hb4 HO2 HB2 HO2A HSN HO3 HB3 HO1 HE1 HSL HLV HCV HOG HOF HSV HB14
  have HQ0 := hide_ (Below.refl w4.heap.size w4)
  go_wp2
  go_loopw [9, 10] (fun lo i wx => ∃ k : Nat, k ≤ na ∧ i = .int .i64 k ∧ lo = .int .i64 (lostN (a.take k) b : Nat) ∧ Hid (Below w4.heap.size w4 wx)) (fun _ i _ => na - (intOf i).toNat)
  case atStart => exact ⟨0, by omega, rfl, rfl, HQ0⟩
  case round =>
    obtain ⟨k, hk, rfl, rfl, HQ⟩ := hrel
    have hle := HLE.out k
    by_cases hlt : k < na
    · have hka : k < a.length := by rw [HNA.out]; exact hlt
      obtain ⟨x, hx⟩ : ∃ x, a[k] = x := ⟨_, rfl⟩
      have HST := HLT.out k hka
      rw [hx] at HST
      have HST := hide_ HST
      have HXK := hide_ hx
      clear hx
      obtain ⟨lk, hlk⟩ : ∃ lk, lostN (a.take k) b = lk := ⟨_, rfl⟩
      rw [hlk] at HST hle ⊢
      clear hlk
      obtain ⟨wo, hwo⟩ : ∃ wo, wo = wr := ⟨_, rfl⟩
      subst hwo
      go_wp2
      go_loopw [11, 12] (fun f i wx => ∃ j : Nat, j ≤ nb ∧ i = .int .i64 j ∧ f = .bool ((b.take j).contains x) ∧ Hid (Below w4.heap.size w4 wx)) (fun _ i _ => nb - (intOf i).toNat)
      case atStart => exact ⟨0, by omega, rfl, rfl, HQ⟩
      case round =>
        obtain ⟨j, hj, rfl, rfl, HQ2⟩ := hrel
        by_cases hjl : j < nb
        · have hjb : j < b.length := by rw [HNB.out]; exact hjl
          obtain ⟨ab, ao, rfl, hab1, hca⟩ := (HSA.out.below HQ2.out).u8 hka
          obtain ⟨bb, bo, rfl, hbb1, hcb⟩ := (HSB.out.below HQ2.out).u8 hjb
          rw [HXK.out] at hca
          have hz3 : ab < wr.heap.size := by have := HQ2.out.size; omega
          have hz4 : bb < wr.heap.size := by have := HQ2.out.size; omega
          have hst := HCB.out j x hjb
          obtain ⟨y, hy⟩ : ∃ y, b[j] = y := ⟨_, rfl⟩
          rw [hy] at hst hcb
          clear hy
          have HQ3 := hide_ (fun (q : Nat) => dN9 HQ2.out q)
          cases hin : (b.take j).contains x with
          | true =>
            rw [hin, Bool.true_or] at hst
            have HS2 := hide_ hst
            clear hst hin
            go_upto_region 12 with fail
            go_quiet (fail)
            go_wp2
            go_roundw
            case rel => exact ⟨j + 1, by omega, by go_num, by rw [HS2.out], HQ3.out _⟩
            case measure => simp [intOf]; omega
          | false =>
            rw [hin, Bool.false_or] at hst
            have HS2 := hide_ (show (b.take (j + 1)).contains x = ((x.toNat : Int) == (y.toNat : Int)) from hst.trans (by
              rw [Bool.eq_iff_iff, beq_iff_eq, beq_iff_eq]
              exact ⟨fun e => by rw [e], fun e => (UInt8.toNat_inj.1 (by omega)).symm⟩))
            obtain ⟨eq, heq⟩ : ∃ eq, ((x.toNat : Int) == (y.toNat : Int)) = eq := ⟨_, rfl⟩
            rw [heq] at HS2
            clear hst hin
            cases eq
            all_goals
              go_upto_region 12 with fail
              go_quiet (fail)
              go_wp2
              go_roundw
              case rel => exact ⟨j + 1, by omega, by go_num, by rw [HS2.out], HQ3.out _⟩
              case measure => simp [intOf]; omega
        · obtain rfl : nb = j := by omega
          rw [HFB.out]
          cases hin : b.contains x with
          | true =>
            have HS2 := hide_ (show lostN (a.take (k + 1)) b = lk by rw [HST.out, if_pos hin, Nat.add_zero])
            clear hin
            go_wp2
            go_roundw
            case rel => exact ⟨k + 1, by omega, by go_num, by rw [HS2.out], HQ2⟩
            case measure => simp [intOf]; omega
          | false =>
            have HS2 := hide_ (show lostN (a.take (k + 1)) b = lk + 1 by rw [HST.out, if_neg (by rw [hin]; decide)])
            clear hin
            go_wp2
            go_roundw
            case rel => exact ⟨k + 1, by omega, by go_num, by rw [HS2.out]; go_num, HQ2⟩
            case measure => simp [intOf]; omega
    · obtain rfl : na = k := by omega
      have hlast := HLA.out
      obtain ⟨lk, hlk⟩ : ∃ lk, lostN (a.take na) b = lk := ⟨_, rfl⟩
      rw [hlk] at hlast hle ⊢
      clear hlk
      have HQK := hide_ HQ.out
      have HME := hide_ (show ∀ y ∈ b, (((y.toNat : Int) == (more.toNat : Int)) || a.contains y) = true from fun y hy => by
        rcases HM2.out y hy with h | h
        · subst h
          simp
        · rw [List.contains_iff_mem.2 h, Bool.or_true])
      obtain ⟨wo, hwo⟩ : ∃ wo, wo = wr := ⟨_, rfl⟩
      subst hwo
      go_wp2
      go_loopw [13] (fun i wx => ∃ j : Nat, j ≤ nb ∧ i = .int .i64 j ∧ Hid (Below w4.heap.size w4 wx)) (fun i _ => nb - (intOf i).toNat)
      case atStart => exact ⟨0, by omega, rfl, HQK⟩
      case round =>
        obtain ⟨j, hj, rfl, HQ2⟩ := hrel
        by_cases hjl : j < nb
        · have hjb : j < b.length := by rw [HNB.out]; exact hjl
          obtain ⟨bb, bo, rfl, hbb1, hcb⟩ := (HSB.out.below HQ2.out).u8 hjb
          have hz4 : bb < wr.heap.size := by have := HQ2.out.size; omega
          have hym := HME.out b[j] (List.getElem_mem hjb)
          obtain ⟨y, hy⟩ : ∃ y, b[j] = y := ⟨_, rfl⟩
          have HYK := hide_ hy
          rw [hy] at hym hcb
          obtain ⟨em, hem⟩ : ∃ em, ((y.toNat : Int) == (more.toNat : Int)) = em := ⟨_, rfl⟩
          rw [hem] at hym
          have HYM := hide_ hym
          clear hy hym
          obtain ⟨wi, hwi⟩ : ∃ wi, wi = wr := ⟨_, rfl⟩
          subst hwi
          go_wp2
          go_loopw [14, 15] (fun f i wx => ∃ k : Nat, k ≤ na ∧ i = .int .i64 k ∧ f = .bool (em || (a.take k).contains y) ∧ Hid (Below w4.heap.size w4 wx)) (fun _ i _ => na - (intOf i).toNat)
          case atStart => exact ⟨0, by omega, rfl, by simp, HQ2⟩
          case round =>
            obtain ⟨k, hk2, rfl, rfl, HQ5⟩ := hrel
            by_cases hkl : k < na
            · have hka : k < a.length := by rw [HNA.out]; exact hkl
              obtain ⟨ab, ao, rfl, hab1, hca⟩ := (HSA.out.below HQ5.out).u8 hka
              obtain ⟨bb2, bo2, he, hbb2, hcb2⟩ := (HSB.out.below HQ5.out).u8 hjb
              injection he with he
              injection he with he1 he2
              subst he1 he2
              rw [HYK.out] at hcb2
              have hz5 : ab < wr.heap.size := by have := HQ5.out.size; omega
              have hz6 : bb < wr.heap.size := by have := HQ5.out.size; omega
              have hst := HCA.out k y hka
              obtain ⟨z, hz⟩ : ∃ z, a[k] = z := ⟨_, rfl⟩
              rw [hz] at hst hca
              clear hz
              have HQ6 := hide_ (fun (q : Nat) => dN9 HQ5.out q)
              obtain ⟨fd, hfd⟩ : ∃ fd, (em || (a.take k).contains y) = fd := ⟨_, rfl⟩
              rw [hfd]
              cases fd with
              | true =>
                have HS2 := hide_ (show (em || (a.take (k + 1)).contains y) = true by rw [hst, ← Bool.or_assoc, hfd, Bool.true_or])
                clear hst hfd
                go_upto_region 22 with fail
                go_quiet (fail)
                go_wp2
                go_roundw
                case rel => exact ⟨k + 1, by omega, by go_num, by rw [HS2.out], HQ6.out _⟩
                case measure => simp [intOf]; omega
              | false =>
                have HS2 := hide_ (show (em || (a.take (k + 1)).contains y) = ((z.toNat : Int) == (y.toNat : Int)) from by
                  rw [hst, ← Bool.or_assoc, hfd, Bool.false_or]
                  rw [Bool.eq_iff_iff, beq_iff_eq, beq_iff_eq]
                  exact ⟨fun e => by rw [e], fun e => UInt8.toNat_inj.1 (by omega)⟩)
                obtain ⟨eq, heq⟩ : ∃ eq, ((z.toNat : Int) == (y.toNat : Int)) = eq := ⟨_, rfl⟩
                rw [heq] at HS2
                clear hst hfd
                cases eq
                all_goals
                  go_upto_region 22 with fail
                  go_quiet (fail)
                  go_wp2
                  go_roundw
                  case rel => exact ⟨k + 1, by omega, by go_num, by rw [HS2.out], HQ6.out _⟩
                  case measure => simp [intOf]; omega
            · obtain rfl : na = k := by omega
              rw [HFA.out, HYM.out]
              go_wp2
              go_roundw
              case rel => exact ⟨j + 1, by omega, by go_num, HQ5⟩
              case measure => simp [intOf]; omega
        · obtain rfl : nb = j := by omega
          go_wp2_with fail
          refine (awake09_any _).mono ?_
          rintro e w9 ⟨rfl, hb9⟩
          have HW9 := hide_ ((HW4.out.trans (HQ2.out.mono HW4.out.size)).trans (hb9.mono (Nat.le_trans HW4.out.size HQ2.out.size)))
          clear hb9
          go_wp2
          go_ret
          exact ⟨rfl, HW9.out⟩

theorem own : ownKnob Try.prog.godebug = none := by kernel_rfl
theorem laid : laidOutB Try.prog = true := by kernel_rfl
theorem cells8 : Try.prog.cellsOf 5 = 1 := by kernel_rfl

set_option maxRecDepth 100000 in
theorem contract (H : Type) (enc : TypeId × Value → H) (W : World) (base : Nat) (args : Array Value) (ds gs : List (DataW H)) (before : List MemPlace)
    (hval : ∀ (j : Nat) t v, Try.f4.params[j]? = some t → args[j]? = some v → Value.okWide Try.prog W .any base t v)
    (hW : DataW.Whole enc Try.prog Try.f4.params.toList Rows.ringMovesSpec.vars false W args.toList ds gs before) :
    Calls Try.prog 4 args W fun e W' => ∃ v, e = .returned v ∧ Rows.ringMovesSpec.post enc Try.prog Try.f4 false true false false W args v W' := by
  have hW' := hW
  obtain ⟨p, q, hA0, hV, rfl, hfz, hnd⟩ := hW
  have hA : DataW.TrodAll enc Try.prog W 0 (fun _ => true) true Try.f4.params.toList args.toList ds p := hA0
  rw [Try.params4] at hA hval
  obtain ⟨v0, vs0, d0, ds0, p0, q0, hargs, rfl, rfl, h0, r0⟩ := trodAll_cons hA
  obtain ⟨v1, vs1, d1, ds1, p1, q1, rfl, rfl, rfl, h1, r1⟩ := trodAll_cons r0
  obtain ⟨v2, vs2, d2, ds2, p2, q2, rfl, rfl, rfl, h2, r2⟩ := trodAll_cons r1
  obtain ⟨rfl, rfl, rfl⟩ := trodAll_nil r2
  obtain rfl : args = #[v0, v1, v2] := by cases args; simp_all
  obtain ⟨rfl, rfl⟩ := trodVars_none hV
  obtain ⟨A0, n0, c0, l0, rfl, e0, m0, M0, s0⟩ := open_bytes Try.underlying22 Try.underlying5 cells8 (hval 0 22 v0 rfl rfl) h0
  obtain ⟨a1, rfl, rfl, rfl, w1⟩ := open_int Try.underlying5 (hval 1 5 v1 rfl rfl) h1
  have b1 : 0 ≤ a1 ∧ a1 ≤ 255 := by simpa [Lit.wf, IntKind.min, IntKind.max, IntKind.signed, IntKind.bits] using w1
  obtain ⟨a2, rfl, rfl, rfl, w2⟩ := open_int Try.underlying5 (hval 2 5 v2 rfl rfl) h2
  have b2 : 0 ≤ a2 ∧ a2 ≤ 255 := by simpa [Lit.wf, IntKind.min, IntKind.max, IntKind.signed, IntKind.bits] using w2
  have fin : ∀ (e : Ending) (W' : World), e = .returned (.bool true) ∧ Below W.heap.size W W' → ∃ v, e = .returned v ∧ Rows.ringMovesSpec.post enc Try.prog Try.f4 false true false false W #[.slice A0 n0 c0, .int .u8 a1, .int .u8 a2] v W' :=
    fun e W' ⟨he, hb⟩ => ⟨_, he, law_post laid (by kernel_rfl) rfl rfl rfl Try.underlying4 hW' hb⟩
  obtain ⟨more, rfl⟩ : ∃ x : UInt8, a1 = (x.toNat : Int) := ⟨UInt8.ofNat a1.toNat, by rw [UInt8.toNat_ofNat']; omega⟩
  obtain ⟨key, rfl⟩ : ∃ x : UInt8, a2 = (x.toNat : Int) := ⟨UInt8.ofNat a2.toNat, by rw [UInt8.toNat_ofNat']; omega⟩
  by_cases hlong : 80 < n0
  · exact (walk_long A0 n0 c0 _ _ W hlong (Nat.le_trans m0 M0)).mono fin
  · exact (walk_short l0 more key A0 n0 c0 W e0 (by omega) s0).mono fin

set_option maxRecDepth 100000 in
theorem lifted (os : Os) (started : os.Started) (H : Type) (enc : TypeId × Value → H) :
    ReturnsInHanded {} Try.checked os 4 .any (Rows.ringMovesSpec.pre6 enc Try.prog Try.f4 Rows.ringMovesRow.domain false) (Rows.ringMovesSpec.post enc Try.prog Try.f4 false true false false) := by
  refine returnsInHanded_of_change (C := Try.checked) (s := Rows.ringMovesSpec) own started (by kernel_rfl) Try.func4
    (ChangeSpec.witness6 (enc := enc) (C := Try.checked) false ⟨#[], #[.slice none 0 0, .int .u8 0, .int .u8 0], []⟩ 8 (by kernel_rfl) (by kernel_rfl) (by kernel_rfl) (by kernel_rfl)) ?_
  intro W base args ds gs before hval hW _ _
  exact contract H enc W base args ds gs before hval hW

theorem proved : Rows.RingMovesSaid :=
  OpenClaim.holds_of_wide 4 Try.f4 rfl rfl rfl rfl rfl rfl rfl ⟨rfl, rfl, rfl, rfl, rfl⟩ rfl rfl rfl rfl rfl (by kernel_rfl) Try.func4 (by kernel_rfl)
    (of_decide_eq_true (by kernel_rfl)) (by unfold Func.isWrapper; first | (rw [if_pos (by decide +kernel)]; kernel_rfl) | (rw [if_neg (by decide +kernel)]; exact ⟨rfl, rfl⟩))
    (fun os started H enc _ => lifted os started H enc)
end Go.Proofs.Ytpiikdinphnjbaa.ringMoves
