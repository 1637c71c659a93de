/-
  Texts of this claim put together: RefLists.
-/
import Derived.Test.YtnkjdijbfnmnhaaGreatShort
import Derived.Test.YtnkjdijbfnmnhaaGreatJ37
import Derived.BigQuiet
import Derived.IntWalk
import Derived.Deep.RegionHeld
import Derived.Deep.DeepCutAuto
/-
  Contract of layer 6's reference's lists.
-/
namespace Go.Proofs.YtnkjdijbfnmnhaaGreat
open Go.RowKit

set_option maxRecDepth 100000 in
set_option maxHeartbeats 25600000 in
theorem refLists_any (r : RegM) (B : Nat) (w : World) (hr : RegM.ok w B r) (hB : B ≤ w.heap.size) : Calls Tryz.prog 50 #[r.v] w fun e w' => e = .returned (.bool (listsB r.p)) ∧ Below w.heap.size w w' := by
  have HX := hide_ (BoxAt.new w r.box 31)
  have HW := hide_ ((Below.refl w.heap.size w).alloc (Nat.le_refl _) (.cells r.box 31))
  have HD := hide_ hr.2.2.1
  have HO := hide_ hr.2.2.2.1
  have HM := hide_ hr.2.2.2.2
  have m1 := sl_len hr.2.1
  have m2 := sl_len hr.2.2.1
  have m3 := sl_len hr.2.2.2.1
  have m4 := sl_len hr.2.2.2.2
  have hla : U64 r.la := hr.1.2.2.2
  have HLS := hide_ (show listsB r.p = ((decide (r.va.l.length ≤ 8) && (decide ((r.dn.l.map DoneM.p).length ≤ 8) && (decide (r.ou.l.length ≤ 8) && decide (r.ma.l.length ≤ 16)))) && (!(anyB (rdX (r.dn.l.map DoneM.p)) (r.dn.l.map DoneM.p).length) && (!(anyB (rcX r.la r.ou.l) r.ou.l.length) && !(anyB (rmX r.ma.l) r.ma.l.length)))) from rfl)
  rw [HLS.out, List.length_map]
  clear hr HLS
  obtain ⟨ki, inc, st, ⟨vA, vc, vl⟩, ⟨dA, dc, dl⟩, ⟨oA, oc, ol⟩, la, ⟨mA, mc, ml⟩⟩ := r
  obtain ⟨nv, hnv⟩ : ∃ n, vl.length = n := ⟨_, rfl⟩
  obtain ⟨nd, hnd⟩ : ∃ n, dl.length = n := ⟨_, rfl⟩
  obtain ⟨no, hno⟩ : ∃ n, ol.length = n := ⟨_, rfl⟩
  obtain ⟨nm, hnm⟩ : ∃ n, ml.length = n := ⟨_, rfl⟩
  simp only [RegM.v, RegM.box, Sl.v, hnv, hnd, hno, hnm] at HX HW m1 m2 m3 m4 hla ⊢
  have HND := hide_ hnd
  have HNO := hide_ hno
  have HNM := hide_ hnm
  have HLA := hide_ hla
  clear hnv hno hnm hnd hla
  obtain ⟨b1, hb1⟩ : ∃ b, anyB (rdX (dl.map DoneM.p)) nd = b := ⟨_, rfl⟩
  obtain ⟨b2, hb2⟩ : ∃ b, anyB (rcX la ol) no = b := ⟨_, rfl⟩
  obtain ⟨b3, hb3⟩ : ∃ b, anyB (rmX ml) nm = b := ⟨_, rfl⟩
  rw [hb1, hb2, hb3]
  have HB1 := hide_ hb1
  have HB2 := hide_ hb2
  have HB3 := hide_ hb3
  clear hb1 hb2 hb3
  by_cases c1 : nv ≤ 8
  case neg =>
    have d1 : decide (8 < (nv : Int)) = true := decide_eq_true (by omega)
    have HE := hide_ (decide_eq_false c1)
    clear c1
    go_enter Tryz.func50, Tryz.ntmps50
    go_wp2
    go_ret
    exact ⟨by rw [HE.out]; simp, HW.out⟩
  have d1 : decide (8 < (nv : Int)) = false := decide_eq_false (by omega)
  by_cases c2 : nd ≤ 8
  case neg =>
    have d2 : decide (8 < (nd : Int)) = true := decide_eq_true (by omega)
    have HE := hide_ (decide_eq_false c2)
    clear c1 c2
    go_enter Tryz.func50, Tryz.ntmps50
    go_wp2
    go_ret
    exact ⟨by rw [HE.out]; simp, HW.out⟩
  have d2 : decide (8 < (nd : Int)) = false := decide_eq_false (by omega)
  by_cases c3 : no ≤ 8
  case neg =>
    have d3 : decide (8 < (no : Int)) = true := decide_eq_true (by omega)
    have HE := hide_ (decide_eq_false c3)
    clear c1 c2 c3
    go_enter Tryz.func50, Tryz.ntmps50
    go_wp2
    go_ret
    exact ⟨by rw [HE.out]; simp, HW.out⟩
  have d3 : decide (8 < (no : Int)) = false := decide_eq_false (by omega)
  by_cases c4 : nm ≤ 16
  case neg =>
    have d4 : decide (16 < (nm : Int)) = true := decide_eq_true (by omega)
    have HE := hide_ (decide_eq_false c4)
    clear c1 c2 c3 c4
    go_enter Tryz.func50, Tryz.ntmps50
    go_wp2
    go_ret
    exact ⟨by rw [HE.out]; simp, HW.out⟩
  have d4 : decide (16 < (nm : Int)) = false := decide_eq_false (by omega)
  have HLE := hide_ (show (decide (nv ≤ 8) && (decide (nd ≤ 8) && (decide (no ≤ 8) && decide (nm ≤ 16)))) = true by simp [c1, c2, c3, c4])
  rw [HLE.out, Bool.true_and]
  have hd8 : nd ≤ 8 := c2
  have ho8 : no ≤ 8 := c3
  have hm8 : nm ≤ 16 := c4
  clear c1 c2 c3 c4 HLE
  go_enter Tryz.func50, Tryz.ntmps50
  go_wp2
  go_loopw [34] (fun i wr => ∃ k : Nat, k ≤ nd ∧ i = .int .i64 k ∧ Hid (∀ j, j < k → rdX (dl.map DoneM.p) j = false) ∧ Below w.heap.size w wr ∧ Hid (BoxAt wr w.heap.size #[.int .u8 ki, .int .u64 inc, .int .i64 st, .slice vA nv vc, .slice dA nd dc, .slice oA no oc, .int .u64 la, .slice mA nm mc] 31)) (fun i _ => nd - (intOf i).toNat)
  case atStart => exact ⟨0, Nat.zero_le _, rfl, (fun j hj => absurd hj (by omega)), HW.out, HX.out⟩
  case round =>
    obtain ⟨k, hk, rfl, HJ, hb, HXR⟩ := hrel
    have hz : w.heap.size < wr.heap.size := HXR.out.lt
    have hcx := HXR.out.cell
    have HB := hide_ hb
    by_cases hlt : k < nd
    case pos =>
      obtain ⟨x, hx⟩ : ∃ x, dl[k]? = some x := ⟨_, List.getElem?_eq_getElem (by rw [HND.out]; exact hlt)⟩
      obtain ⟨tb, ot, hAe, hab, e0, e1, e2, e3, e4, e5⟩ := (HD.out.2.2.1.below (hb.mono hB)).done hx
      have hwz : tb < wr.heap.size := by omega
      have hxo := HD.out.2.2.2 x (List.mem_of_getElem? hx)
      have HSL := hide_ (HD.out.2.2.1.below (hb.mono hB))
      subst hAe
      have hat : rdX (dl.map DoneM.p) k = (decide (x.cl < 1) || (decide (8 < x.cl) || (decide (x.sq = 0) || (!(repB x.p.2.2) || (decide (0 < k) && decide (x.cl ≤ ((dl.map DoneM.p).map (·.1)).getD (k - 1) 0)))))) := by
        unfold rdX
        rw [List.getElem?_map, hx]
        rfl
      have HRC := hide_ (fun (u : World) => refReply_any ⟨x.er, x.inc, x.st, x.va⟩ (sl_len hxo.2) u)
      rw [show repB (RepM.p ⟨x.er, x.inc, x.st, x.va⟩) = repB x.p.2.2 from rfl] at HRC
      obtain ⟨rp, hrp⟩ : ∃ b, repB x.p.2.2 = b := ⟨_, rfl⟩
      rw [hrp] at hat
      simp only [hrp] at HRC
      clear hrp
      have HHX := hide_ hx
      clear hx hb
      obtain ⟨cl, sq, er, inc2, st2, ⟨A, c, va⟩⟩ := x
      simp only at e0 e1 e2 e3 e4 e5 hat hxo HRC
      simp only [RepM.v, Sl.v] at HRC
      have HB0 := hide_ (show Below (wr.heap.size + 1) (wr.alloc (.cells #[.int .u8 cl, .int .u64 sq, .int .i64 er, .int .u64 inc2, .int .i64 st2, .slice A va.length c] 106)) (wr.alloc (.cells #[.int .u8 cl, .int .u64 sq, .int .i64 er, .int .u64 inc2, .int .i64 st2, .slice A va.length c] 106)).drew from (Below.refl _ _).drew)
      have HSX := hide_ (fun (u : World) (hu : Below (wr.heap.size + 1) (wr.alloc (.cells #[.int .u8 cl, .int .u64 sq, .int .i64 er, .int .u64 inc2, .int .i64 st2, .slice A va.length c] 106)) u) => show (∀ i : Nat, u.cell? ⟨w.heap.size, i, none⟩ = (#[.int .u8 ki, .int .u64 inc, .int .i64 st, .slice vA nv vc, .slice (some ⟨tb, ot, none⟩) nd dc, .slice oA no oc, .int .u64 la, .slice mA nm mc] : Array Value)[i]?) ∧ (∀ i : Nat, u.cell? ⟨wr.heap.size, i, none⟩ = (#[.int .u8 cl, .int .u64 sq, .int .i64 er, .int .u64 inc2, .int .i64 st2, .slice A va.length c] : Array Value)[i]?) from ⟨(BoxAt.below (HXR.out.alloc (.cells #[.int .u8 cl, .int .u64 sq, .int .i64 er, .int .u64 inc2, .int .i64 st2, .slice A va.length c] 106)) (hu.mono (by simp))).cell, (BoxAt.below (BoxAt.new wr #[.int .u8 cl, .int .u64 sq, .int .i64 er, .int .u64 inc2, .int .i64 st2, .slice A va.length c] 106) (hu.mono (by simp))).cell⟩)
      have HFI := hide_ (fun (u : World) (hu : Below (wr.heap.size + 1) (wr.alloc (.cells #[.int .u8 cl, .int .u64 sq, .int .i64 er, .int .u64 inc2, .int .i64 st2, .slice A va.length c] 106)) u) => show Below w.heap.size w u ∧ BoxAt u w.heap.size #[.int .u8 ki, .int .u64 inc, .int .i64 st, .slice vA nv vc, .slice (some ⟨tb, ot, none⟩) nd dc, .slice oA no oc, .int .u64 la, .slice mA nm mc] 31 from ⟨(HB.out.alloc HB.out.size (.cells #[.int .u8 cl, .int .u64 sq, .int .i64 er, .int .u64 inc2, .int .i64 st2, .slice A va.length c] 106)).trans (hu.mono (by omega)), BoxAt.below (HXR.out.alloc (.cells #[.int .u8 cl, .int .u64 sq, .int .i64 er, .int .u64 inc2, .int .i64 st2, .slice A va.length c] 106)) (hu.mono (by simp))⟩)
      have HFQ := hide_ (fun (n : Nat) => show Below (wr.heap.size + 1) (wr.alloc (.cells #[.int .u8 cl, .int .u64 sq, .int .i64 er, .int .u64 inc2, .int .i64 st2, .slice A va.length c] 106)) ((wr.alloc (.cells #[.int .u8 cl, .int .u64 sq, .int .i64 er, .int .u64 inc2, .int .i64 st2, .slice A va.length c] 106)).drewN n) from ⟨rfl, rfl, rfl, Nat.le_refl _, fun _ _ => rfl⟩)
      have HAT := hide_ hat
      clear hat hxo
      obtain ⟨rx, hrx⟩ : ∃ b, rdX (dl.map DoneM.p) k = b := ⟨_, rfl⟩
      have HRX := hide_ hrx
      rw [hrx] at HAT
      clear hrx
      go_upto_region 7 with fail
      go_cut [76] (fun c wx => c = .bool rx ∧ Below w.heap.size w wx ∧ Hid (BoxAt wx w.heap.size #[.int .u8 ki, .int .u64 inc, .int .i64 st, .slice vA nv vc, .slice (some ⟨tb, ot, none⟩) nd dc, .slice oA no oc, .int .u64 la, .slice mA nm mc] 31))
      case first =>
        by_cases q0 : cl < 1
        case pos =>
          have HP := hide_ (show rx = true by rw [HAT.out]; simp [q0])
          have hd0 : decide (cl < 1) = true := by simp [q0]
          clear q0
          refine wp_region_held_drew (S := fun w' => (∀ i : Nat, w'.cell? ⟨w.heap.size, i, none⟩ = (#[.int .u8 ki, .int .u64 inc, .int .i64 st, .slice vA nv vc, .slice (some ⟨tb, ot, none⟩) nd dc, .slice oA no oc, .int .u64 la, .slice mA nm mc] : Array Value)[i]?) ∧ (∀ i : Nat, w'.cell? ⟨wr.heap.size, i, none⟩ = (#[.int .u8 cl, .int .u64 sq, .int .i64 er, .int .u64 inc2, .int .i64 st2, .slice A va.length c] : Array Value)[i]?)) (by kernel_rfl) (HSX.out _ HB0.out) (fun hHeld => ?_)
          refine tkY 0 42 ?v1 rfl ?hy1 (by assumption) ?rest1
          case hy1 => intro w hSw; (try dsimp only at hSw); go_simp <;> with_reducible rfl
          simp only [Act.put, sTI, sT0, sT1]
          refine tkY 1 43 ?v2 rfl ?hy2 (by assumption) ?rest2
          case hy2 => intro w hSw; (try dsimp only at hSw); go_simp <;> with_reducible rfl
          simp only [Act.put, sTI, sT0, sT1]
          refine tkY 2 44 ?v3 rfl ?hy3 (by assumption) ?rest3
          case hy3 => intro w hSw; (try dsimp only at hSw); go_simp <;> with_reducible rfl
          simp only [Act.put, sTI, sT0, sT1]
          refine tkY 3 45 ?v4 rfl ?hy4 (by assumption) ?rest4
          case hy4 => intro w hSw; (try dsimp only at hSw); go_simp <;> with_reducible rfl
          simp only [Act.put, sTI, sT0, sT1]
          refine tkU 4 46 rfl (by assumption) ?_
          simp only [Act.put, sTI, sT0, sT1]
          refine tkU 5 47 rfl (by assumption) ?_
          simp only [Act.put, sTI, sT0, sT1]
          refine tkU 6 48 rfl (by assumption) ?_
          simp only [Act.put, sTI, sT0, sT1]
          refine tkY 7 49 ?v5 rfl ?hy5 (by assumption) ?rest5
          case hy5 => intro w hSw; (try dsimp only at hSw); go_simp <;> with_reducible rfl
          simp only [Act.put, sTI, sT0, sT1]
          refine tkY 8 50 ?v6 rfl ?hy6 (by assumption) ?rest6
          case hy6 => intro w hSw; (try dsimp only at hSw); go_simp <;> with_reducible rfl
          simp only [Act.put, sTI, sT0, sT1]
          refine tkU 9 51 rfl (by assumption) ?_
          simp only [Act.put, sTI, sT0, sT1]
          refine tkU 10 52 rfl (by assumption) ?_
          simp only [Act.put, sTI, sT0, sT1]
          refine tkU 11 53 rfl (by assumption) ?_
          simp only [Act.put, sTI, sT0, sT1]
          refine tkY 12 54 ?v7 rfl ?hy7 (by assumption) ?rest7
          case hy7 => intro w hSw; (try dsimp only at hSw); go_simp <;> with_reducible rfl
          simp only [Act.put, sTI, sT0, sT1]
          refine tkY 13 55 ?v8 rfl ?hy8 (by assumption) ?rest8
          case hy8 => intro w hSw; (try dsimp only at hSw); go_simp <;> with_reducible rfl
          simp only [Act.put, sTI, sT0, sT1]
          refine tkU 14 56 rfl (by assumption) ?_
          simp only [Act.put, sTI, sT0, sT1]
          refine tkU 15 57 rfl (by assumption) ?_
          simp only [Act.put, sTI, sT0, sT1]
          refine tkU 16 58 rfl (by assumption) ?_
          simp only [Act.put, sTI, sT0, sT1]
          refine tkU 17 59 rfl (by assumption) ?_
          simp only [Act.put, sTI, sT0, sT1]
          refine tkY 18 60 ?v9 rfl ?hy9 (by assumption) ?rest9
          case hy9 => intro w hSw; (try dsimp only at hSw); go_simp <;> with_reducible rfl
          simp only [Act.put, sTI, sT0, sT1]
          refine tkY 19 61 ?v10 rfl ?hy10 (by assumption) ?rest10
          case hy10 => intro w hSw; (try dsimp only at hSw); go_simp <;> with_reducible rfl
          simp only [Act.put, sTI, sT0, sT1]
          refine tkU 20 62 rfl (by assumption) ?_
          simp only [Act.put, sTI, sT0, sT1]
          refine tkU 21 63 rfl (by assumption) ?_
          simp only [Act.put, sTI, sT0, sT1]
          refine tkU 22 64 rfl (by assumption) ?_
          simp only [Act.put, sTI, sT0, sT1]
          refine tkU 23 65 rfl (by assumption) ?_
          simp only [Act.put, sTI, sT0, sT1]
          refine tkU 24 66 rfl (by assumption) ?_
          simp only [Act.put, sTI, sT0, sT1]
          refine tkU 25 67 rfl (by assumption) ?_
          simp only [Act.put, sTI, sT0, sT1]
          refine tkU 26 68 rfl (by assumption) ?_
          simp only [Act.put, sTI, sT0, sT1]
          refine tkU 27 69 rfl (by assumption) ?_
          simp only [Act.put, sTI, sT0, sT1]
          refine tkU 28 70 rfl (by assumption) ?_
          simp only [Act.put, sTI, sT0, sT1]
          refine tkU 29 71 rfl (by assumption) ?_
          simp only [Act.put, sTI, sT0, sT1]
          refine tkU 30 72 rfl (by assumption) ?_
          simp only [Act.put, sTI, sT0, sT1]
          refine tkU 31 73 rfl (by assumption) ?_
          simp only [Act.put, sTI, sT0, sT1]
          refine tkU 32 74 rfl (by assumption) ?_
          simp only [Act.put, sTI, sT0, sT1]
          refine tkU 33 75 rfl (by assumption) ?_
          simp only [Act.put, sTI, sT0, sT1]
          refine tkY 34 76 ?v11 rfl ?hy11 (by assumption) ?rest11
          case hy11 => intro w hSw; (try dsimp only at hSw); go_simp <;> with_reducible rfl
          simp only [Act.put, sTI, sT0, sT1]
          refine wpAnyH_done (by kernel_rfl) ?_ _
          go_wp2_with fail
          go_meet
          exact ⟨congrArg Value.bool HP.out.symm, (HFI.out _ HB0.out).1, (HFI.out _ HB0.out).2⟩
        have hd0 : decide (cl < 1) = false := decide_eq_false q0
        have Q0 := hide_ q0
        clear q0
        by_cases q1 : 8 < cl
        case pos =>
          have HP := hide_ (show rx = true by rw [HAT.out]; simp [q1])
          have hd1 : decide (8 < cl) = true := by simp [q1]
          clear q1
          refine wp_region_held_drew (S := fun w' => (∀ i : Nat, w'.cell? ⟨w.heap.size, i, none⟩ = (#[.int .u8 ki, .int .u64 inc, .int .i64 st, .slice vA nv vc, .slice (some ⟨tb, ot, none⟩) nd dc, .slice oA no oc, .int .u64 la, .slice mA nm mc] : Array Value)[i]?) ∧ (∀ i : Nat, w'.cell? ⟨wr.heap.size, i, none⟩ = (#[.int .u8 cl, .int .u64 sq, .int .i64 er, .int .u64 inc2, .int .i64 st2, .slice A va.length c] : Array Value)[i]?)) (by kernel_rfl) (HSX.out _ HB0.out) (fun hHeld => ?_)
          refine tkY 0 42 ?v12 rfl ?hy12 (by assumption) ?rest12
          case hy12 => intro w hSw; (try dsimp only at hSw); go_simp <;> with_reducible rfl
          simp only [Act.put, sTI, sT0, sT1]
          refine tkY 1 43 ?v13 rfl ?hy13 (by assumption) ?rest13
          case hy13 => intro w hSw; (try dsimp only at hSw); go_simp <;> with_reducible rfl
          simp only [Act.put, sTI, sT0, sT1]
          refine tkY 2 44 ?v14 rfl ?hy14 (by assumption) ?rest14
          case hy14 => intro w hSw; (try dsimp only at hSw); go_simp <;> with_reducible rfl
          simp only [Act.put, sTI, sT0, sT1]
          refine tkY 3 45 ?v15 rfl ?hy15 (by assumption) ?rest15
          case hy15 => intro w hSw; (try dsimp only at hSw); go_simp <;> with_reducible rfl
          simp only [Act.put, sTI, sT0, sT1]
          refine tkY 4 46 ?v16 rfl ?hy16 (by assumption) ?rest16
          case hy16 => intro w hSw; (try dsimp only at hSw); go_simp <;> with_reducible rfl
          simp only [Act.put, sTI, sT0, sT1]
          refine tkY 5 47 ?v17 rfl ?hy17 (by assumption) ?rest17
          case hy17 => intro w hSw; (try dsimp only at hSw); go_simp <;> with_reducible rfl
          simp only [Act.put, sTI, sT0, sT1]
          refine tkY 6 48 ?v18 rfl ?hy18 (by assumption) ?rest18
          case hy18 => intro w hSw; (try dsimp only at hSw); go_simp <;> with_reducible rfl
          simp only [Act.put, sTI, sT0, sT1]
          refine tkY 7 49 ?v19 rfl ?hy19 (by assumption) ?rest19
          case hy19 => intro w hSw; (try dsimp only at hSw); go_simp <;> with_reducible rfl
          simp only [Act.put, sTI, sT0, sT1]
          refine tkY 8 50 ?v20 rfl ?hy20 (by assumption) ?rest20
          case hy20 => intro w hSw; (try dsimp only at hSw); go_simp <;> with_reducible rfl
          simp only [Act.put, sTI, sT0, sT1]
          refine tkU 9 51 rfl (by assumption) ?_
          simp only [Act.put, sTI, sT0, sT1]
          refine tkU 10 52 rfl (by assumption) ?_
          simp only [Act.put, sTI, sT0, sT1]
          refine tkU 11 53 rfl (by assumption) ?_
          simp only [Act.put, sTI, sT0, sT1]
          refine tkY 12 54 ?v21 rfl ?hy21 (by assumption) ?rest21
          case hy21 => intro w hSw; (try dsimp only at hSw); go_simp <;> with_reducible rfl
          simp only [Act.put, sTI, sT0, sT1]
          refine tkY 13 55 ?v22 rfl ?hy22 (by assumption) ?rest22
          case hy22 => intro w hSw; (try dsimp only at hSw); go_simp <;> with_reducible rfl
          simp only [Act.put, sTI, sT0, sT1]
          refine tkU 14 56 rfl (by assumption) ?_
          simp only [Act.put, sTI, sT0, sT1]
          refine tkU 15 57 rfl (by assumption) ?_
          simp only [Act.put, sTI, sT0, sT1]
          refine tkU 16 58 rfl (by assumption) ?_
          simp only [Act.put, sTI, sT0, sT1]
          refine tkU 17 59 rfl (by assumption) ?_
          simp only [Act.put, sTI, sT0, sT1]
          refine tkY 18 60 ?v23 rfl ?hy23 (by assumption) ?rest23
          case hy23 => intro w hSw; (try dsimp only at hSw); go_simp <;> with_reducible rfl
          simp only [Act.put, sTI, sT0, sT1]
          refine tkY 19 61 ?v24 rfl ?hy24 (by assumption) ?rest24
          case hy24 => intro w hSw; (try dsimp only at hSw); go_simp <;> with_reducible rfl
          simp only [Act.put, sTI, sT0, sT1]
          refine tkU 20 62 rfl (by assumption) ?_
          simp only [Act.put, sTI, sT0, sT1]
          refine tkU 21 63 rfl (by assumption) ?_
          simp only [Act.put, sTI, sT0, sT1]
          refine tkU 22 64 rfl (by assumption) ?_
          simp only [Act.put, sTI, sT0, sT1]
          refine tkU 23 65 rfl (by assumption) ?_
          simp only [Act.put, sTI, sT0, sT1]
          refine tkU 24 66 rfl (by assumption) ?_
          simp only [Act.put, sTI, sT0, sT1]
          refine tkU 25 67 rfl (by assumption) ?_
          simp only [Act.put, sTI, sT0, sT1]
          refine tkU 26 68 rfl (by assumption) ?_
          simp only [Act.put, sTI, sT0, sT1]
          refine tkU 27 69 rfl (by assumption) ?_
          simp only [Act.put, sTI, sT0, sT1]
          refine tkU 28 70 rfl (by assumption) ?_
          simp only [Act.put, sTI, sT0, sT1]
          refine tkU 29 71 rfl (by assumption) ?_
          simp only [Act.put, sTI, sT0, sT1]
          refine tkU 30 72 rfl (by assumption) ?_
          simp only [Act.put, sTI, sT0, sT1]
          refine tkU 31 73 rfl (by assumption) ?_
          simp only [Act.put, sTI, sT0, sT1]
          refine tkU 32 74 rfl (by assumption) ?_
          simp only [Act.put, sTI, sT0, sT1]
          refine tkU 33 75 rfl (by assumption) ?_
          simp only [Act.put, sTI, sT0, sT1]
          refine tkY 34 76 ?v25 rfl ?hy25 (by assumption) ?rest25
          case hy25 => intro w hSw; (try dsimp only at hSw); go_simp <;> with_reducible rfl
          simp only [Act.put, sTI, sT0, sT1]
          refine wpAnyH_done (by kernel_rfl) ?_ _
          go_wp2_with fail
          go_meet
          exact ⟨congrArg Value.bool HP.out.symm, (HFI.out _ HB0.out).1, (HFI.out _ HB0.out).2⟩
        have hd1 : decide (8 < cl) = false := decide_eq_false q1
        have Q1 := hide_ q1
        clear q1
        by_cases q2 : sq = 0
        case pos =>
          have HP := hide_ (show rx = true by rw [HAT.out]; simp [q2])
          have hd2 : (sq == 0) = true := by simp [q2]
          clear q2
          refine wp_region_held_drew (S := fun w' => (∀ i : Nat, w'.cell? ⟨w.heap.size, i, none⟩ = (#[.int .u8 ki, .int .u64 inc, .int .i64 st, .slice vA nv vc, .slice (some ⟨tb, ot, none⟩) nd dc, .slice oA no oc, .int .u64 la, .slice mA nm mc] : Array Value)[i]?) ∧ (∀ i : Nat, w'.cell? ⟨wr.heap.size, i, none⟩ = (#[.int .u8 cl, .int .u64 sq, .int .i64 er, .int .u64 inc2, .int .i64 st2, .slice A va.length c] : Array Value)[i]?)) (by kernel_rfl) (HSX.out _ HB0.out) (fun hHeld => ?_)
          refine tkY 0 42 ?v26 rfl ?hy26 (by assumption) ?rest26
          case hy26 => intro w hSw; (try dsimp only at hSw); go_simp <;> with_reducible rfl
          simp only [Act.put, sTI, sT0, sT1]
          refine tkY 1 43 ?v27 rfl ?hy27 (by assumption) ?rest27
          case hy27 => intro w hSw; (try dsimp only at hSw); go_simp <;> with_reducible rfl
          simp only [Act.put, sTI, sT0, sT1]
          refine tkY 2 44 ?v28 rfl ?hy28 (by assumption) ?rest28
          case hy28 => intro w hSw; (try dsimp only at hSw); go_simp <;> with_reducible rfl
          simp only [Act.put, sTI, sT0, sT1]
          refine tkY 3 45 ?v29 rfl ?hy29 (by assumption) ?rest29
          case hy29 => intro w hSw; (try dsimp only at hSw); go_simp <;> with_reducible rfl
          simp only [Act.put, sTI, sT0, sT1]
          refine tkY 4 46 ?v30 rfl ?hy30 (by assumption) ?rest30
          case hy30 => intro w hSw; (try dsimp only at hSw); go_simp <;> with_reducible rfl
          simp only [Act.put, sTI, sT0, sT1]
          refine tkY 5 47 ?v31 rfl ?hy31 (by assumption) ?rest31
          case hy31 => intro w hSw; (try dsimp only at hSw); go_simp <;> with_reducible rfl
          simp only [Act.put, sTI, sT0, sT1]
          refine tkY 6 48 ?v32 rfl ?hy32 (by assumption) ?rest32
          case hy32 => intro w hSw; (try dsimp only at hSw); go_simp <;> with_reducible rfl
          simp only [Act.put, sTI, sT0, sT1]
          refine tkY 7 49 ?v33 rfl ?hy33 (by assumption) ?rest33
          case hy33 => intro w hSw; (try dsimp only at hSw); go_simp <;> with_reducible rfl
          simp only [Act.put, sTI, sT0, sT1]
          refine tkY 8 50 ?v34 rfl ?hy34 (by assumption) ?rest34
          case hy34 => intro w hSw; (try dsimp only at hSw); go_simp <;> with_reducible rfl
          simp only [Act.put, sTI, sT0, sT1]
          refine tkY 9 51 ?v35 rfl ?hy35 (by assumption) ?rest35
          case hy35 => intro w hSw; (try dsimp only at hSw); go_simp <;> with_reducible rfl
          simp only [Act.put, sTI, sT0, sT1]
          refine tkY 10 52 ?v36 rfl ?hy36 (by assumption) ?rest36
          case hy36 => intro w hSw; (try dsimp only at hSw); go_simp <;> with_reducible rfl
          simp only [Act.put, sTI, sT0, sT1]
          refine tkY 11 53 ?v37 rfl ?hy37 (by assumption) ?rest37
          case hy37 => intro w hSw; (try dsimp only at hSw); go_simp <;> with_reducible rfl
          simp only [Act.put, sTI, sT0, sT1]
          refine tkY 12 54 ?v38 rfl ?hy38 (by assumption) ?rest38
          case hy38 => intro w hSw; (try dsimp only at hSw); go_simp <;> with_reducible rfl
          simp only [Act.put, sTI, sT0, sT1]
          refine tkY 13 55 ?v39 rfl ?hy39 (by assumption) ?rest39
          case hy39 => intro w hSw; (try dsimp only at hSw); go_simp <;> with_reducible rfl
          simp only [Act.put, sTI, sT0, sT1]
          refine tkU 14 56 rfl (by assumption) ?_
          simp only [Act.put, sTI, sT0, sT1]
          refine tkU 15 57 rfl (by assumption) ?_
          simp only [Act.put, sTI, sT0, sT1]
          refine tkU 16 58 rfl (by assumption) ?_
          simp only [Act.put, sTI, sT0, sT1]
          refine tkU 17 59 rfl (by assumption) ?_
          simp only [Act.put, sTI, sT0, sT1]
          refine tkY 18 60 ?v40 rfl ?hy40 (by assumption) ?rest40
          case hy40 => intro w hSw; (try dsimp only at hSw); go_simp <;> with_reducible rfl
          simp only [Act.put, sTI, sT0, sT1]
          refine tkY 19 61 ?v41 rfl ?hy41 (by assumption) ?rest41
          case hy41 => intro w hSw; (try dsimp only at hSw); go_simp <;> with_reducible rfl
          simp only [Act.put, sTI, sT0, sT1]
          refine tkU 20 62 rfl (by assumption) ?_
          simp only [Act.put, sTI, sT0, sT1]
          refine tkU 21 63 rfl (by assumption) ?_
          simp only [Act.put, sTI, sT0, sT1]
          refine tkU 22 64 rfl (by assumption) ?_
          simp only [Act.put, sTI, sT0, sT1]
          refine tkU 23 65 rfl (by assumption) ?_
          simp only [Act.put, sTI, sT0, sT1]
          refine tkU 24 66 rfl (by assumption) ?_
          simp only [Act.put, sTI, sT0, sT1]
          refine tkU 25 67 rfl (by assumption) ?_
          simp only [Act.put, sTI, sT0, sT1]
          refine tkU 26 68 rfl (by assumption) ?_
          simp only [Act.put, sTI, sT0, sT1]
          refine tkU 27 69 rfl (by assumption) ?_
          simp only [Act.put, sTI, sT0, sT1]
          refine tkU 28 70 rfl (by assumption) ?_
          simp only [Act.put, sTI, sT0, sT1]
          refine tkU 29 71 rfl (by assumption) ?_
          simp only [Act.put, sTI, sT0, sT1]
          refine tkU 30 72 rfl (by assumption) ?_
          simp only [Act.put, sTI, sT0, sT1]
          refine tkU 31 73 rfl (by assumption) ?_
          simp only [Act.put, sTI, sT0, sT1]
          refine tkU 32 74 rfl (by assumption) ?_
          simp only [Act.put, sTI, sT0, sT1]
          refine tkU 33 75 rfl (by assumption) ?_
          simp only [Act.put, sTI, sT0, sT1]
          refine tkY 34 76 ?v42 rfl ?hy42 (by assumption) ?rest42
          case hy42 => intro w hSw; (try dsimp only at hSw); go_simp <;> with_reducible rfl
          simp only [Act.put, sTI, sT0, sT1]
          refine wpAnyH_done (by kernel_rfl) ?_ _
          go_wp2_with fail
          go_meet
          exact ⟨congrArg Value.bool HP.out.symm, (HFI.out _ HB0.out).1, (HFI.out _ HB0.out).2⟩
        have hd2 : (sq == 0) = false := by simp [q2]
        have Q2 := hide_ q2
        clear q2
        cases rp with
        | false =>
          have HP := hide_ (show rx = true by rw [HAT.out]; simp)
          refine wp_region_held_drew (S := fun w' => (∀ i : Nat, w'.cell? ⟨w.heap.size, i, none⟩ = (#[.int .u8 ki, .int .u64 inc, .int .i64 st, .slice vA nv vc, .slice (some ⟨tb, ot, none⟩) nd dc, .slice oA no oc, .int .u64 la, .slice mA nm mc] : Array Value)[i]?) ∧ (∀ i : Nat, w'.cell? ⟨wr.heap.size, i, none⟩ = (#[.int .u8 cl, .int .u64 sq, .int .i64 er, .int .u64 inc2, .int .i64 st2, .slice A va.length c] : Array Value)[i]?)) (by kernel_rfl) (HSX.out _ HB0.out) (fun hHeld => ?_)
          refine tkY 0 42 ?v43 rfl ?hy43 (by assumption) ?rest43
          case hy43 => intro w hSw; (try dsimp only at hSw); go_simp <;> with_reducible rfl
          simp only [Act.put, sTI, sT0, sT1]
          refine tkY 1 43 ?v44 rfl ?hy44 (by assumption) ?rest44
          case hy44 => intro w hSw; (try dsimp only at hSw); go_simp <;> with_reducible rfl
          simp only [Act.put, sTI, sT0, sT1]
          refine tkY 2 44 ?v45 rfl ?hy45 (by assumption) ?rest45
          case hy45 => intro w hSw; (try dsimp only at hSw); go_simp <;> with_reducible rfl
          simp only [Act.put, sTI, sT0, sT1]
          refine tkY 3 45 ?v46 rfl ?hy46 (by assumption) ?rest46
          case hy46 => intro w hSw; (try dsimp only at hSw); go_simp <;> with_reducible rfl
          simp only [Act.put, sTI, sT0, sT1]
          refine tkY 4 46 ?v47 rfl ?hy47 (by assumption) ?rest47
          case hy47 => intro w hSw; (try dsimp only at hSw); go_simp <;> with_reducible rfl
          simp only [Act.put, sTI, sT0, sT1]
          refine tkY 5 47 ?v48 rfl ?hy48 (by assumption) ?rest48
          case hy48 => intro w hSw; (try dsimp only at hSw); go_simp <;> with_reducible rfl
          simp only [Act.put, sTI, sT0, sT1]
          refine tkY 6 48 ?v49 rfl ?hy49 (by assumption) ?rest49
          case hy49 => intro w hSw; (try dsimp only at hSw); go_simp <;> with_reducible rfl
          simp only [Act.put, sTI, sT0, sT1]
          refine tkY 7 49 ?v50 rfl ?hy50 (by assumption) ?rest50
          case hy50 => intro w hSw; (try dsimp only at hSw); go_simp <;> with_reducible rfl
          simp only [Act.put, sTI, sT0, sT1]
          refine tkY 8 50 ?v51 rfl ?hy51 (by assumption) ?rest51
          case hy51 => intro w hSw; (try dsimp only at hSw); go_simp <;> with_reducible rfl
          simp only [Act.put, sTI, sT0, sT1]
          refine tkY 9 51 ?v52 rfl ?hy52 (by assumption) ?rest52
          case hy52 => intro w hSw; (try dsimp only at hSw); go_simp <;> with_reducible rfl
          simp only [Act.put, sTI, sT0, sT1]
          refine tkY 10 52 ?v53 rfl ?hy53 (by assumption) ?rest53
          case hy53 => intro w hSw; (try dsimp only at hSw); go_simp <;> with_reducible rfl
          simp only [Act.put, sTI, sT0, sT1]
          refine tkY 11 53 ?v54 rfl ?hy54 (by assumption) ?rest54
          case hy54 => intro w hSw; (try dsimp only at hSw); go_simp <;> with_reducible rfl
          simp only [Act.put, sTI, sT0, sT1]
          refine tkY 12 54 ?v55 rfl ?hy55 (by assumption) ?rest55
          case hy55 => intro w hSw; (try dsimp only at hSw); go_simp <;> with_reducible rfl
          simp only [Act.put, sTI, sT0, sT1]
          refine tkY 13 55 ?v56 rfl ?hy56 (by assumption) ?rest56
          case hy56 => intro w hSw; (try dsimp only at hSw); go_simp <;> with_reducible rfl
          simp only [Act.put, sTI, sT0, sT1]
          refine tkY 14 56 ?v57 rfl ?hy57 (by assumption) ?rest57
          case hy57 => intro w hSw; (try dsimp only at hSw); go_simp <;> with_reducible rfl
          simp only [Act.put, sTI, sT0, sT1]
          refine tkY 15 57 ?v58 rfl ?hy58 (by assumption) ?rest58
          case hy58 => intro w hSw; (try dsimp only at hSw); go_simp <;> with_reducible rfl
          simp only [Act.put, sTI, sT0, sT1]
          refine wpAnyH_ready (rs := [16]) (by kernel_rfl) (by simp) ?_
          refine AllReadyH.cons rfl (fun K hK => ?_) AllReadyH.nil
          go_simp
          go_wp2_with fail
          refine (HRC.out _).mono ?_
          rintro en w5 ⟨rfl, hb5⟩
          have HB5 := hide_ (HB0.out.trans (hb5.mono (by simp)))
          clear hb5
          refine hK.out _ _ (HSX.out _ HB5.out) (fun hHeld => ?_)
          clear hK K
          refine tkY 17 59 ?v59 rfl ?hy59 (by assumption) ?rest59
          case hy59 => intro w hSw; (try dsimp only at hSw); go_simp <;> with_reducible rfl
          simp only [Act.put, sTI, sT0, sT1]
          refine tkY 18 60 ?v60 rfl ?hy60 (by assumption) ?rest60
          case hy60 => intro w hSw; (try dsimp only at hSw); go_simp <;> with_reducible rfl
          simp only [Act.put, sTI, sT0, sT1]
          refine tkY 19 61 ?v61 rfl ?hy61 (by assumption) ?rest61
          case hy61 => intro w hSw; (try dsimp only at hSw); go_simp <;> with_reducible rfl
          simp only [Act.put, sTI, sT0, sT1]
          refine tkU 20 62 rfl (by assumption) ?_
          simp only [Act.put, sTI, sT0, sT1]
          refine tkU 21 63 rfl (by assumption) ?_
          simp only [Act.put, sTI, sT0, sT1]
          refine tkU 22 64 rfl (by assumption) ?_
          simp only [Act.put, sTI, sT0, sT1]
          refine tkU 23 65 rfl (by assumption) ?_
          simp only [Act.put, sTI, sT0, sT1]
          refine tkU 24 66 rfl (by assumption) ?_
          simp only [Act.put, sTI, sT0, sT1]
          refine tkU 25 67 rfl (by assumption) ?_
          simp only [Act.put, sTI, sT0, sT1]
          refine tkU 26 68 rfl (by assumption) ?_
          simp only [Act.put, sTI, sT0, sT1]
          refine tkU 27 69 rfl (by assumption) ?_
          simp only [Act.put, sTI, sT0, sT1]
          refine tkU 28 70 rfl (by assumption) ?_
          simp only [Act.put, sTI, sT0, sT1]
          refine tkU 29 71 rfl (by assumption) ?_
          simp only [Act.put, sTI, sT0, sT1]
          refine tkU 30 72 rfl (by assumption) ?_
          simp only [Act.put, sTI, sT0, sT1]
          refine tkU 31 73 rfl (by assumption) ?_
          simp only [Act.put, sTI, sT0, sT1]
          refine tkU 32 74 rfl (by assumption) ?_
          simp only [Act.put, sTI, sT0, sT1]
          refine tkU 33 75 rfl (by assumption) ?_
          simp only [Act.put, sTI, sT0, sT1]
          refine tkY 34 76 ?v62 rfl ?hy62 (by assumption) ?rest62
          case hy62 => intro w hSw; (try dsimp only at hSw); go_simp <;> with_reducible rfl
          simp only [Act.put, sTI, sT0, sT1]
          refine wpAnyH_done (by kernel_rfl) ?_ _
          go_wp2_with fail
          go_meet
          exact ⟨congrArg Value.bool HP.out.symm, (HFI.out _ HB5.out).1, (HFI.out _ HB5.out).2⟩
        | true =>
        rcases k with _ | k
        · simp only [Nat.zero_mul, Nat.add_zero] at e0 e1 e2 e3 e4 e5
          have HP := hide_ (show rx = false by rw [HAT.out]; simp [Q0.out, Q1.out, Q2.out])
          refine wp_region_held_drew (S := fun w' => (∀ i : Nat, w'.cell? ⟨w.heap.size, i, none⟩ = (#[.int .u8 ki, .int .u64 inc, .int .i64 st, .slice vA nv vc, .slice (some ⟨tb, ot, none⟩) nd dc, .slice oA no oc, .int .u64 la, .slice mA nm mc] : Array Value)[i]?) ∧ (∀ i : Nat, w'.cell? ⟨wr.heap.size, i, none⟩ = (#[.int .u8 cl, .int .u64 sq, .int .i64 er, .int .u64 inc2, .int .i64 st2, .slice A va.length c] : Array Value)[i]?)) (by kernel_rfl) (HSX.out _ HB0.out) (fun hHeld => ?_)
          refine tkY 0 42 ?v63 rfl ?hy63 (by assumption) ?rest63
          case hy63 => intro w hSw; (try dsimp only at hSw); go_simp <;> with_reducible rfl
          simp only [Act.put, sTI, sT0, sT1]
          refine tkY 1 43 ?v64 rfl ?hy64 (by assumption) ?rest64
          case hy64 => intro w hSw; (try dsimp only at hSw); go_simp <;> with_reducible rfl
          simp only [Act.put, sTI, sT0, sT1]
          refine tkY 2 44 ?v65 rfl ?hy65 (by assumption) ?rest65
          case hy65 => intro w hSw; (try dsimp only at hSw); go_simp <;> with_reducible rfl
          simp only [Act.put, sTI, sT0, sT1]
          refine tkY 3 45 ?v66 rfl ?hy66 (by assumption) ?rest66
          case hy66 => intro w hSw; (try dsimp only at hSw); go_simp <;> with_reducible rfl
          simp only [Act.put, sTI, sT0, sT1]
          refine tkY 4 46 ?v67 rfl ?hy67 (by assumption) ?rest67
          case hy67 => intro w hSw; (try dsimp only at hSw); go_simp <;> with_reducible rfl
          simp only [Act.put, sTI, sT0, sT1]
          refine tkY 5 47 ?v68 rfl ?hy68 (by assumption) ?rest68
          case hy68 => intro w hSw; (try dsimp only at hSw); go_simp <;> with_reducible rfl
          simp only [Act.put, sTI, sT0, sT1]
          refine tkY 6 48 ?v69 rfl ?hy69 (by assumption) ?rest69
          case hy69 => intro w hSw; (try dsimp only at hSw); go_simp <;> with_reducible rfl
          simp only [Act.put, sTI, sT0, sT1]
          refine tkY 7 49 ?v70 rfl ?hy70 (by assumption) ?rest70
          case hy70 => intro w hSw; (try dsimp only at hSw); go_simp <;> with_reducible rfl
          simp only [Act.put, sTI, sT0, sT1]
          refine tkY 8 50 ?v71 rfl ?hy71 (by assumption) ?rest71
          case hy71 => intro w hSw; (try dsimp only at hSw); go_simp <;> with_reducible rfl
          simp only [Act.put, sTI, sT0, sT1]
          refine tkY 9 51 ?v72 rfl ?hy72 (by assumption) ?rest72
          case hy72 => intro w hSw; (try dsimp only at hSw); go_simp <;> with_reducible rfl
          simp only [Act.put, sTI, sT0, sT1]
          refine tkY 10 52 ?v73 rfl ?hy73 (by assumption) ?rest73
          case hy73 => intro w hSw; (try dsimp only at hSw); go_simp <;> with_reducible rfl
          simp only [Act.put, sTI, sT0, sT1]
          refine tkY 11 53 ?v74 rfl ?hy74 (by assumption) ?rest74
          case hy74 => intro w hSw; (try dsimp only at hSw); go_simp <;> with_reducible rfl
          simp only [Act.put, sTI, sT0, sT1]
          refine tkY 12 54 ?v75 rfl ?hy75 (by assumption) ?rest75
          case hy75 => intro w hSw; (try dsimp only at hSw); go_simp <;> with_reducible rfl
          simp only [Act.put, sTI, sT0, sT1]
          refine tkY 13 55 ?v76 rfl ?hy76 (by assumption) ?rest76
          case hy76 => intro w hSw; (try dsimp only at hSw); go_simp <;> with_reducible rfl
          simp only [Act.put, sTI, sT0, sT1]
          refine tkY 14 56 ?v77 rfl ?hy77 (by assumption) ?rest77
          case hy77 => intro w hSw; (try dsimp only at hSw); go_simp <;> with_reducible rfl
          simp only [Act.put, sTI, sT0, sT1]
          refine tkY 15 57 ?v78 rfl ?hy78 (by assumption) ?rest78
          case hy78 => intro w hSw; (try dsimp only at hSw); go_simp <;> with_reducible rfl
          simp only [Act.put, sTI, sT0, sT1]
          refine wpAnyH_ready (rs := [16]) (by kernel_rfl) (by simp) ?_
          refine AllReadyH.cons rfl (fun K hK => ?_) AllReadyH.nil
          go_simp
          go_wp2_with fail
          refine (HRC.out _).mono ?_
          rintro en w5 ⟨rfl, hb5⟩
          have HB5 := hide_ (HB0.out.trans (hb5.mono (by simp)))
          clear hb5
          refine hK.out _ _ (HSX.out _ HB5.out) (fun hHeld => ?_)
          clear hK K
          refine tkY 17 59 ?v79 rfl ?hy79 (by assumption) ?rest79
          case hy79 => intro w hSw; (try dsimp only at hSw); go_simp <;> with_reducible rfl
          simp only [Act.put, sTI, sT0, sT1]
          refine tkY 18 60 ?v80 rfl ?hy80 (by assumption) ?rest80
          case hy80 => intro w hSw; (try dsimp only at hSw); go_simp <;> with_reducible rfl
          simp only [Act.put, sTI, sT0, sT1]
          refine tkY 19 61 ?v81 rfl ?hy81 (by assumption) ?rest81
          case hy81 => intro w hSw; (try dsimp only at hSw); go_simp <;> with_reducible rfl
          simp only [Act.put, sTI, sT0, sT1]
          refine tkY 20 62 ?v82 rfl ?hy82 (by assumption) ?rest82
          case hy82 => intro w hSw; (try dsimp only at hSw); go_simp <;> with_reducible rfl
          simp only [Act.put, sTI, sT0, sT1]
          refine tkY 21 63 ?v83 rfl ?hy83 (by assumption) ?rest83
          case hy83 => intro w hSw; (try dsimp only at hSw); go_simp <;> with_reducible rfl
          simp only [Act.put, sTI, sT0, sT1]
          refine tkY 22 64 ?v84 rfl ?hy84 (by assumption) ?rest84
          case hy84 => intro w hSw; (try dsimp only at hSw); go_simp <;> with_reducible rfl
          simp only [Act.put, sTI, sT0, sT1]
          refine tkU 23 65 rfl (by assumption) ?_
          simp only [Act.put, sTI, sT0, sT1]
          refine tkU 24 66 rfl (by assumption) ?_
          simp only [Act.put, sTI, sT0, sT1]
          refine tkU 25 67 rfl (by assumption) ?_
          simp only [Act.put, sTI, sT0, sT1]
          refine tkU 26 68 rfl (by assumption) ?_
          simp only [Act.put, sTI, sT0, sT1]
          refine tkU 27 69 rfl (by assumption) ?_
          simp only [Act.put, sTI, sT0, sT1]
          refine tkU 28 70 rfl (by assumption) ?_
          simp only [Act.put, sTI, sT0, sT1]
          refine tkU 29 71 rfl (by assumption) ?_
          simp only [Act.put, sTI, sT0, sT1]
          refine tkU 30 72 rfl (by assumption) ?_
          simp only [Act.put, sTI, sT0, sT1]
          refine tkU 31 73 rfl (by assumption) ?_
          simp only [Act.put, sTI, sT0, sT1]
          refine tkU 32 74 rfl (by assumption) ?_
          simp only [Act.put, sTI, sT0, sT1]
          refine tkY 33 75 ?v85 rfl ?hy85 (by assumption) ?rest85
          case hy85 => intro w hSw; (try dsimp only at hSw); go_simp <;> with_reducible rfl
          simp only [Act.put, sTI, sT0, sT1]
          refine tkY 34 76 ?v86 rfl ?hy86 (by assumption) ?rest86
          case hy86 => intro w hSw; (try dsimp only at hSw); go_simp <;> with_reducible rfl
          simp only [Act.put, sTI, sT0, sT1]
          refine wpAnyH_done (by kernel_rfl) ?_ _
          go_wp2_with fail
          go_meet
          exact ⟨congrArg Value.bool HP.out.symm, (HFI.out _ HB5.out).1, (HFI.out _ HB5.out).2⟩
        · obtain ⟨y, hy⟩ : ∃ y, dl[k]? = some y := ⟨_, List.getElem?_eq_getElem (by rw [HND.out]; omega)⟩
          obtain ⟨tb2, ot2, hAe2, hab2, g0, g1, g2, g3, g4, g5⟩ := HSL.out.done hy
          injection hAe2 with hAe2
          injection hAe2 with ht1 ht2
          subst ht1 ht2
          have hgd : ((dl.map DoneM.p).map (·.1)).getD (k + 1 - 1) 0 = y.cl := by
            rw [Nat.add_sub_cancel, List.getD_eq_getElem?_getD, List.getElem?_map, List.getElem?_map, hy]
            rfl
          obtain ⟨pcl, psq, per, pinc, pst, ⟨pA, pc, pva⟩⟩ := y
          simp only at g0 hgd
          have HPX := hide_ (fun (u : World) (hu : Below (wr.heap.size + 1) (wr.alloc (.cells #[.int .u8 cl, .int .u64 sq, .int .i64 er, .int .u64 inc2, .int .i64 st2, .slice A va.length c] 106)) u) => show u.cell? ⟨tb, ot + k * 6, none⟩ = some (.int .u8 pcl) from ((((Below.refl _ _).alloc (Nat.le_refl _) (.cells #[.int .u8 cl, .int .u64 sq, .int .i64 er, .int .u64 inc2, .int .i64 st2, .slice A va.length c] 106)).trans (hu.mono (Nat.le_succ _))).cell (p := ⟨tb, ot + k * 6, none⟩) hwz).trans g0)
          have i1 : IntKind.i64.wrap (k : Int) = k := IntWalk.i64_in _ (by omega)
          have i5 : (k : Int) < (nd : Int) := by omega
          have i2 : (0 : Int) ≤ (k : Int) + 1 := by omega
          have i3 : (k : Int) + 1 < (nd : Int) := by omega
          have i4 : k < nd := by omega
          clear hy g0 g1 g2 g3 g4 g5
          by_cases hle : cl ≤ pcl
          case pos =>
            have HP := hide_ (show rx = true by rw [HAT.out, hgd]; simp [hle])
            have hd := decide_eq_true hle
            clear hle hgd
            refine wp_region_held_drew (S := fun w' => (∀ i : Nat, w'.cell? ⟨w.heap.size, i, none⟩ = (#[.int .u8 ki, .int .u64 inc, .int .i64 st, .slice vA nv vc, .slice (some ⟨tb, ot, none⟩) nd dc, .slice oA no oc, .int .u64 la, .slice mA nm mc] : Array Value)[i]?) ∧ (∀ i : Nat, w'.cell? ⟨wr.heap.size, i, none⟩ = (#[.int .u8 cl, .int .u64 sq, .int .i64 er, .int .u64 inc2, .int .i64 st2, .slice A va.length c] : Array Value)[i]?) ∧ w'.cell? ⟨tb, ot + k * 6, none⟩ = some (.int .u8 pcl)) (by kernel_rfl) (⟨(HSX.out _ HB0.out).1, (HSX.out _ HB0.out).2, HPX.out _ HB0.out⟩) (fun hHeld => ?_)
            refine tkY 0 42 ?v87 rfl ?hy87 (by assumption) ?rest87
            case hy87 => intro w hSw; (try dsimp only at hSw); go_simp <;> with_reducible rfl
            simp only [Act.put, sTI, sT0, sT1]
            refine tkY 1 43 ?v88 rfl ?hy88 (by assumption) ?rest88
            case hy88 => intro w hSw; (try dsimp only at hSw); go_simp <;> with_reducible rfl
            simp only [Act.put, sTI, sT0, sT1]
            refine tkY 2 44 ?v89 rfl ?hy89 (by assumption) ?rest89
            case hy89 => intro w hSw; (try dsimp only at hSw); go_simp <;> with_reducible rfl
            simp only [Act.put, sTI, sT0, sT1]
            refine tkY 3 45 ?v90 rfl ?hy90 (by assumption) ?rest90
            case hy90 => intro w hSw; (try dsimp only at hSw); go_simp <;> with_reducible rfl
            simp only [Act.put, sTI, sT0, sT1]
            refine tkY 4 46 ?v91 rfl ?hy91 (by assumption) ?rest91
            case hy91 => intro w hSw; (try dsimp only at hSw); go_simp <;> with_reducible rfl
            simp only [Act.put, sTI, sT0, sT1]
            refine tkY 5 47 ?v92 rfl ?hy92 (by assumption) ?rest92
            case hy92 => intro w hSw; (try dsimp only at hSw); go_simp <;> with_reducible rfl
            simp only [Act.put, sTI, sT0, sT1]
            refine tkY 6 48 ?v93 rfl ?hy93 (by assumption) ?rest93
            case hy93 => intro w hSw; (try dsimp only at hSw); go_simp <;> with_reducible rfl
            simp only [Act.put, sTI, sT0, sT1]
            refine tkY 7 49 ?v94 rfl ?hy94 (by assumption) ?rest94
            case hy94 => intro w hSw; (try dsimp only at hSw); go_simp <;> with_reducible rfl
            simp only [Act.put, sTI, sT0, sT1]
            refine tkY 8 50 ?v95 rfl ?hy95 (by assumption) ?rest95
            case hy95 => intro w hSw; (try dsimp only at hSw); go_simp <;> with_reducible rfl
            simp only [Act.put, sTI, sT0, sT1]
            refine tkY 9 51 ?v96 rfl ?hy96 (by assumption) ?rest96
            case hy96 => intro w hSw; (try dsimp only at hSw); go_simp <;> with_reducible rfl
            simp only [Act.put, sTI, sT0, sT1]
            refine tkY 10 52 ?v97 rfl ?hy97 (by assumption) ?rest97
            case hy97 => intro w hSw; (try dsimp only at hSw); go_simp <;> with_reducible rfl
            simp only [Act.put, sTI, sT0, sT1]
            refine tkY 11 53 ?v98 rfl ?hy98 (by assumption) ?rest98
            case hy98 => intro w hSw; (try dsimp only at hSw); go_simp <;> with_reducible rfl
            simp only [Act.put, sTI, sT0, sT1]
            refine tkY 12 54 ?v99 rfl ?hy99 (by assumption) ?rest99
            case hy99 => intro w hSw; (try dsimp only at hSw); go_simp <;> with_reducible rfl
            simp only [Act.put, sTI, sT0, sT1]
            refine tkY 13 55 ?v100 rfl ?hy100 (by assumption) ?rest100
            case hy100 => intro w hSw; (try dsimp only at hSw); go_simp <;> with_reducible rfl
            simp only [Act.put, sTI, sT0, sT1]
            refine tkY 14 56 ?v101 rfl ?hy101 (by assumption) ?rest101
            case hy101 => intro w hSw; (try dsimp only at hSw); go_simp <;> with_reducible rfl
            simp only [Act.put, sTI, sT0, sT1]
            refine tkY 15 57 ?v102 rfl ?hy102 (by assumption) ?rest102
            case hy102 => intro w hSw; (try dsimp only at hSw); go_simp <;> with_reducible rfl
            simp only [Act.put, sTI, sT0, sT1]
            refine wpAnyH_ready (rs := [16]) (by kernel_rfl) (by simp) ?_
            refine AllReadyH.cons rfl (fun K hK => ?_) AllReadyH.nil
            go_simp
            go_wp2_with fail
            refine (HRC.out _).mono ?_
            rintro en w5 ⟨rfl, hb5⟩
            have HB5 := hide_ (HB0.out.trans (hb5.mono (by simp)))
            clear hb5
            refine hK.out _ _ (⟨(HSX.out _ HB5.out).1, (HSX.out _ HB5.out).2, HPX.out _ HB5.out⟩) (fun hHeld => ?_)
            clear hK K
            refine tkY 17 59 ?v103 rfl ?hy103 (by assumption) ?rest103
            case hy103 => intro w hSw; (try dsimp only at hSw); go_simp <;> with_reducible rfl
            simp only [Act.put, sTI, sT0, sT1]
            refine tkY 18 60 ?v104 rfl ?hy104 (by assumption) ?rest104
            case hy104 => intro w hSw; (try dsimp only at hSw); go_simp <;> with_reducible rfl
            simp only [Act.put, sTI, sT0, sT1]
            refine tkY 19 61 ?v105 rfl ?hy105 (by assumption) ?rest105
            case hy105 => intro w hSw; (try dsimp only at hSw); go_simp <;> with_reducible rfl
            simp only [Act.put, sTI, sT0, sT1]
            refine tkY 20 62 ?v106 rfl ?hy106 (by assumption) ?rest106
            case hy106 => intro w hSw; (try dsimp only at hSw); go_simp <;> with_reducible rfl
            simp only [Act.put, sTI, sT0, sT1]
            refine tkY 21 63 ?v107 rfl ?hy107 (by assumption) ?rest107
            case hy107 => intro w hSw; (try dsimp only at hSw); go_simp <;> with_reducible rfl
            simp only [Act.put, sTI, sT0, sT1]
            refine tkY 22 64 ?v108 rfl ?hy108 (by assumption) ?rest108
            case hy108 => intro w hSw; (try dsimp only at hSw); go_simp <;> with_reducible rfl
            simp only [Act.put, sTI, sT0, sT1]
            refine tkY 23 65 ?v109 rfl ?hy109 (by assumption) ?rest109
            case hy109 => intro w hSw; (try dsimp only at hSw); go_simp <;> with_reducible rfl
            simp only [Act.put, sTI, sT0, sT1]
            refine tkY 24 66 ?v110 rfl ?hy110 (by assumption) ?rest110
            case hy110 => intro w hSw; (try dsimp only at hSw); go_simp <;> with_reducible rfl
            simp only [Act.put, sTI, sT0, sT1]
            refine tkY 25 67 ?v111 rfl ?hy111 (by assumption) ?rest111
            case hy111 => intro w hSw; (try dsimp only at hSw); go_simp <;> with_reducible rfl
            simp only [Act.put, sTI, sT0, sT1]
            refine tkY 26 68 ?v112 rfl ?hy112 (by assumption) ?rest112
            case hy112 => intro w hSw; (try dsimp only at hSw); go_simp <;> with_reducible rfl
            simp only [Act.put, sTI, sT0, sT1]
            refine tkY 27 69 ?v113 rfl ?hy113 (by assumption) ?rest113
            case hy113 => intro w hSw; (try dsimp only at hSw); go_simp <;> with_reducible rfl
            simp only [Act.put, sTI, sT0, sT1]
            refine tkY 28 70 ?v114 rfl ?hy114 (by assumption) ?rest114
            case hy114 => intro w hSw; (try dsimp only at hSw); go_simp <;> with_reducible rfl
            simp only [Act.put, sTI, sT0, sT1]
            refine tkY 29 71 ?v115 rfl ?hy115 (by assumption) ?rest115
            case hy115 => intro w hSw; (try dsimp only at hSw); go_simp <;> with_reducible rfl
            simp only [Act.put, sTI, sT0, sT1]
            refine tkY 30 72 ?v116 rfl ?hy116 (by assumption) ?rest116
            case hy116 => intro w hSw; (try dsimp only at hSw); go_simp <;> with_reducible rfl
            simp only [Act.put, sTI, sT0, sT1]
            refine tkY 31 73 ?v117 rfl ?hy117 (by assumption) ?rest117
            case hy117 => intro w hSw; (try dsimp only at hSw); go_simp <;> with_reducible rfl
            simp only [Act.put, sTI, sT0, sT1]
            refine tkY 32 74 ?v118 rfl ?hy118 (by assumption) ?rest118
            case hy118 => intro w hSw; (try dsimp only at hSw); go_simp <;> with_reducible rfl
            simp only [Act.put, sTI, sT0, sT1]
            refine tkY 33 75 ?v119 rfl ?hy119 (by assumption) ?rest119
            case hy119 => intro w hSw; (try dsimp only at hSw); go_simp <;> with_reducible rfl
            simp only [Act.put, sTI, sT0, sT1]
            refine tkY 34 76 ?v120 rfl ?hy120 (by assumption) ?rest120
            case hy120 => intro w hSw; (try dsimp only at hSw); go_simp <;> with_reducible rfl
            simp only [Act.put, sTI, sT0, sT1]
            refine wpAnyH_done (by kernel_rfl) ?_ _
            go_wp2_with fail
            go_meet
            exact ⟨congrArg Value.bool HP.out.symm, (HFI.out _ HB5.out).1, (HFI.out _ HB5.out).2⟩
          have HP := hide_ (show rx = false by rw [HAT.out, hgd]; simp [Q0.out, Q1.out, Q2.out, hle])
          have hd := decide_eq_false hle
          clear hle hgd
          refine wp_region_held_drew (S := fun w' => (∀ i : Nat, w'.cell? ⟨w.heap.size, i, none⟩ = (#[.int .u8 ki, .int .u64 inc, .int .i64 st, .slice vA nv vc, .slice (some ⟨tb, ot, none⟩) nd dc, .slice oA no oc, .int .u64 la, .slice mA nm mc] : Array Value)[i]?) ∧ (∀ i : Nat, w'.cell? ⟨wr.heap.size, i, none⟩ = (#[.int .u8 cl, .int .u64 sq, .int .i64 er, .int .u64 inc2, .int .i64 st2, .slice A va.length c] : Array Value)[i]?) ∧ w'.cell? ⟨tb, ot + k * 6, none⟩ = some (.int .u8 pcl)) (by kernel_rfl) (⟨(HSX.out _ HB0.out).1, (HSX.out _ HB0.out).2, HPX.out _ HB0.out⟩) (fun hHeld => ?_)
          refine tkY 0 42 ?v121 rfl ?hy121 (by assumption) ?rest121
          case hy121 => intro w hSw; (try dsimp only at hSw); go_simp <;> with_reducible rfl
          simp only [Act.put, sTI, sT0, sT1]
          refine tkY 1 43 ?v122 rfl ?hy122 (by assumption) ?rest122
          case hy122 => intro w hSw; (try dsimp only at hSw); go_simp <;> with_reducible rfl
          simp only [Act.put, sTI, sT0, sT1]
          refine tkY 2 44 ?v123 rfl ?hy123 (by assumption) ?rest123
          case hy123 => intro w hSw; (try dsimp only at hSw); go_simp <;> with_reducible rfl
          simp only [Act.put, sTI, sT0, sT1]
          refine tkY 3 45 ?v124 rfl ?hy124 (by assumption) ?rest124
          case hy124 => intro w hSw; (try dsimp only at hSw); go_simp <;> with_reducible rfl
          simp only [Act.put, sTI, sT0, sT1]
          refine tkY 4 46 ?v125 rfl ?hy125 (by assumption) ?rest125
          case hy125 => intro w hSw; (try dsimp only at hSw); go_simp <;> with_reducible rfl
          simp only [Act.put, sTI, sT0, sT1]
          refine tkY 5 47 ?v126 rfl ?hy126 (by assumption) ?rest126
          case hy126 => intro w hSw; (try dsimp only at hSw); go_simp <;> with_reducible rfl
          simp only [Act.put, sTI, sT0, sT1]
          refine tkY 6 48 ?v127 rfl ?hy127 (by assumption) ?rest127
          case hy127 => intro w hSw; (try dsimp only at hSw); go_simp <;> with_reducible rfl
          simp only [Act.put, sTI, sT0, sT1]
          refine tkY 7 49 ?v128 rfl ?hy128 (by assumption) ?rest128
          case hy128 => intro w hSw; (try dsimp only at hSw); go_simp <;> with_reducible rfl
          simp only [Act.put, sTI, sT0, sT1]
          refine tkY 8 50 ?v129 rfl ?hy129 (by assumption) ?rest129
          case hy129 => intro w hSw; (try dsimp only at hSw); go_simp <;> with_reducible rfl
          simp only [Act.put, sTI, sT0, sT1]
          refine tkY 9 51 ?v130 rfl ?hy130 (by assumption) ?rest130
          case hy130 => intro w hSw; (try dsimp only at hSw); go_simp <;> with_reducible rfl
          simp only [Act.put, sTI, sT0, sT1]
          refine tkY 10 52 ?v131 rfl ?hy131 (by assumption) ?rest131
          case hy131 => intro w hSw; (try dsimp only at hSw); go_simp <;> with_reducible rfl
          simp only [Act.put, sTI, sT0, sT1]
          refine tkY 11 53 ?v132 rfl ?hy132 (by assumption) ?rest132
          case hy132 => intro w hSw; (try dsimp only at hSw); go_simp <;> with_reducible rfl
          simp only [Act.put, sTI, sT0, sT1]
          refine tkY 12 54 ?v133 rfl ?hy133 (by assumption) ?rest133
          case hy133 => intro w hSw; (try dsimp only at hSw); go_simp <;> with_reducible rfl
          simp only [Act.put, sTI, sT0, sT1]
          refine tkY 13 55 ?v134 rfl ?hy134 (by assumption) ?rest134
          case hy134 => intro w hSw; (try dsimp only at hSw); go_simp <;> with_reducible rfl
          simp only [Act.put, sTI, sT0, sT1]
          refine tkY 14 56 ?v135 rfl ?hy135 (by assumption) ?rest135
          case hy135 => intro w hSw; (try dsimp only at hSw); go_simp <;> with_reducible rfl
          simp only [Act.put, sTI, sT0, sT1]
          refine tkY 15 57 ?v136 rfl ?hy136 (by assumption) ?rest136
          case hy136 => intro w hSw; (try dsimp only at hSw); go_simp <;> with_reducible rfl
          simp only [Act.put, sTI, sT0, sT1]
          refine wpAnyH_ready (rs := [16]) (by kernel_rfl) (by simp) ?_
          refine AllReadyH.cons rfl (fun K hK => ?_) AllReadyH.nil
          go_simp
          go_wp2_with fail
          refine (HRC.out _).mono ?_
          rintro en w5 ⟨rfl, hb5⟩
          have HB5 := hide_ (HB0.out.trans (hb5.mono (by simp)))
          clear hb5
          refine hK.out _ _ (⟨(HSX.out _ HB5.out).1, (HSX.out _ HB5.out).2, HPX.out _ HB5.out⟩) (fun hHeld => ?_)
          clear hK K
          refine tkY 17 59 ?v137 rfl ?hy137 (by assumption) ?rest137
          case hy137 => intro w hSw; (try dsimp only at hSw); go_simp <;> with_reducible rfl
          simp only [Act.put, sTI, sT0, sT1]
          refine tkY 18 60 ?v138 rfl ?hy138 (by assumption) ?rest138
          case hy138 => intro w hSw; (try dsimp only at hSw); go_simp <;> with_reducible rfl
          simp only [Act.put, sTI, sT0, sT1]
          refine tkY 19 61 ?v139 rfl ?hy139 (by assumption) ?rest139
          case hy139 => intro w hSw; (try dsimp only at hSw); go_simp <;> with_reducible rfl
          simp only [Act.put, sTI, sT0, sT1]
          refine tkY 20 62 ?v140 rfl ?hy140 (by assumption) ?rest140
          case hy140 => intro w hSw; (try dsimp only at hSw); go_simp <;> with_reducible rfl
          simp only [Act.put, sTI, sT0, sT1]
          refine tkY 21 63 ?v141 rfl ?hy141 (by assumption) ?rest141
          case hy141 => intro w hSw; (try dsimp only at hSw); go_simp <;> with_reducible rfl
          simp only [Act.put, sTI, sT0, sT1]
          refine tkY 22 64 ?v142 rfl ?hy142 (by assumption) ?rest142
          case hy142 => intro w hSw; (try dsimp only at hSw); go_simp <;> with_reducible rfl
          simp only [Act.put, sTI, sT0, sT1]
          refine tkY 23 65 ?v143 rfl ?hy143 (by assumption) ?rest143
          case hy143 => intro w hSw; (try dsimp only at hSw); go_simp <;> with_reducible rfl
          simp only [Act.put, sTI, sT0, sT1]
          refine tkY 24 66 ?v144 rfl ?hy144 (by assumption) ?rest144
          case hy144 => intro w hSw; (try dsimp only at hSw); go_simp <;> with_reducible rfl
          simp only [Act.put, sTI, sT0, sT1]
          refine tkY 25 67 ?v145 rfl ?hy145 (by assumption) ?rest145
          case hy145 => intro w hSw; (try dsimp only at hSw); go_simp <;> with_reducible rfl
          simp only [Act.put, sTI, sT0, sT1]
          refine tkY 26 68 ?v146 rfl ?hy146 (by assumption) ?rest146
          case hy146 => intro w hSw; (try dsimp only at hSw); go_simp <;> with_reducible rfl
          simp only [Act.put, sTI, sT0, sT1]
          refine tkY 27 69 ?v147 rfl ?hy147 (by assumption) ?rest147
          case hy147 => intro w hSw; (try dsimp only at hSw); go_simp <;> with_reducible rfl
          simp only [Act.put, sTI, sT0, sT1]
          refine tkY 28 70 ?v148 rfl ?hy148 (by assumption) ?rest148
          case hy148 => intro w hSw; (try dsimp only at hSw); go_simp <;> with_reducible rfl
          simp only [Act.put, sTI, sT0, sT1]
          refine tkY 29 71 ?v149 rfl ?hy149 (by assumption) ?rest149
          case hy149 => intro w hSw; (try dsimp only at hSw); go_simp <;> with_reducible rfl
          simp only [Act.put, sTI, sT0, sT1]
          refine tkY 30 72 ?v150 rfl ?hy150 (by assumption) ?rest150
          case hy150 => intro w hSw; (try dsimp only at hSw); go_simp <;> with_reducible rfl
          simp only [Act.put, sTI, sT0, sT1]
          refine tkY 31 73 ?v151 rfl ?hy151 (by assumption) ?rest151
          case hy151 => intro w hSw; (try dsimp only at hSw); go_simp <;> with_reducible rfl
          simp only [Act.put, sTI, sT0, sT1]
          refine tkY 32 74 ?v152 rfl ?hy152 (by assumption) ?rest152
          case hy152 => intro w hSw; (try dsimp only at hSw); go_simp <;> with_reducible rfl
          simp only [Act.put, sTI, sT0, sT1]
          refine tkY 33 75 ?v153 rfl ?hy153 (by assumption) ?rest153
          case hy153 => intro w hSw; (try dsimp only at hSw); go_simp <;> with_reducible rfl
          simp only [Act.put, sTI, sT0, sT1]
          refine tkY 34 76 ?v154 rfl ?hy154 (by assumption) ?rest154
          case hy154 => intro w hSw; (try dsimp only at hSw); go_simp <;> with_reducible rfl
          simp only [Act.put, sTI, sT0, sT1]
          refine wpAnyH_done (by kernel_rfl) ?_ _
          go_wp2_with fail
          go_meet
          exact ⟨congrArg Value.bool HP.out.symm, (HFI.out _ HB5.out).1, (HFI.out _ HB5.out).2⟩
      case rest =>
        obtain ⟨rfl, hbc, HXC⟩ := hcut
        have HBC := hide_ hbc
        clear hbc
        cases rx with
        | true =>
          have HP := hide_ (show (!b1 && (!b2 && !b3)) = false by
            have h : b1 = true := by
              rw [← HB1.out, anyB_true]
              exact ⟨k, hlt, HRX.out⟩
            rw [h]
            simp)
          go_wp2
          go_ret
          exact ⟨ret_boolT HP.out.symm, HBC.out⟩
        | false =>
          have HJ2 := hide_ (show ∀ j, j < k + 1 → rdX (dl.map DoneM.p) j = false from fun j hj => by
            by_cases h : j = k
            · rw [h]; exact HRX.out
            · exact HJ.out j (by omega))
          go_wp2
          go_roundw
          case rel => exact ⟨k + 1, by omega, by go_num, HJ2, HBC.out, HXC⟩
          case measure => simp [intOf]; omega
    have hkn : nd = k := by omega
    subst hkn
    have HF1 := hide_ (show b1 = false by rw [← HB1.out]; exact anyB_false.2 HJ.out)
    have HBW1 := hide_ HB.out
    have HXR1 := hide_ HXR.out
    clear hb
    obtain rfl : b1 = false := HF1.out
    go_wp2
    clear hcx
    go_loopw [81] (fun i wr => ∃ k : Nat, k ≤ no ∧ i = .int .i64 k ∧ Hid (∀ j, j < k → rcX la ol j = false) ∧ Below w.heap.size w wr ∧ Hid (BoxAt wr w.heap.size #[.int .u8 ki, .int .u64 inc, .int .i64 st, .slice vA nv vc, .slice dA nd dc, .slice oA no oc, .int .u64 la, .slice mA nm mc] 31)) (fun i _ => no - (intOf i).toNat)
    case atStart => exact ⟨0, Nat.zero_le _, rfl, (fun j hj => absurd hj (by omega)), HBW1.out, HXR1.out⟩
    case round =>
      obtain ⟨k, hk, rfl, HJ, hb, HXR⟩ := hrel
      have hz : w.heap.size < wr.heap.size := HXR.out.lt
      have hcx := HXR.out.cell
      have HB := hide_ hb
      by_cases hlt : k < no
      case pos =>
        obtain ⟨x, hx⟩ : ∃ x, ol[k]? = some x := ⟨_, List.getElem?_eq_getElem (by rw [HNO.out]; exact hlt)⟩
        obtain ⟨tb, ot, hAe, hab, e0, e1, e2, e3⟩ := (HO.out.2.2.1.below (hb.mono hB)).cel hx
        have hwz : tb < wr.heap.size := by omega
        have hxo := HO.out.2.2.2 x (List.mem_of_getElem? hx)
        have HSL := hide_ (HO.out.2.2.1.below (hb.mono hB))
        subst hAe
        have hat : rcX la ol k = (decide (x.1 < 1) || (decide (la < x.1) || (decide (15 < x.2.1) || (decide (x.2.2.1 < 0) || (decide (31 < x.2.2.1) || (decide (0 < k) && decide (x.1 ≤ (ol.map (·.1)).getD (k - 1) 0))))))) := by
          unfold rcX
          rw [hx]
        have HHX := hide_ hx
        clear hx hb
        obtain ⟨cl, tg, ac, ar⟩ := x
        simp only at e0 e1 e2 e3 hat hxo
        have HB0 := hide_ (show Below (wr.heap.size + 1) (wr.alloc (.cells #[.int .u64 cl, .int .u8 tg, .int .i64 ac, .int .i64 ar] 108)) (wr.alloc (.cells #[.int .u64 cl, .int .u8 tg, .int .i64 ac, .int .i64 ar] 108)).drew from (Below.refl _ _).drew)
        have HSX := hide_ (fun (u : World) (hu : Below (wr.heap.size + 1) (wr.alloc (.cells #[.int .u64 cl, .int .u8 tg, .int .i64 ac, .int .i64 ar] 108)) u) => show (∀ i : Nat, u.cell? ⟨w.heap.size, i, none⟩ = (#[.int .u8 ki, .int .u64 inc, .int .i64 st, .slice vA nv vc, .slice dA nd dc, .slice (some ⟨tb, ot, none⟩) no oc, .int .u64 la, .slice mA nm mc] : Array Value)[i]?) ∧ (∀ i : Nat, u.cell? ⟨wr.heap.size, i, none⟩ = (#[.int .u64 cl, .int .u8 tg, .int .i64 ac, .int .i64 ar] : Array Value)[i]?) from ⟨(BoxAt.below (HXR.out.alloc (.cells #[.int .u64 cl, .int .u8 tg, .int .i64 ac, .int .i64 ar] 108)) (hu.mono (by simp))).cell, (BoxAt.below (BoxAt.new wr #[.int .u64 cl, .int .u8 tg, .int .i64 ac, .int .i64 ar] 108) (hu.mono (by simp))).cell⟩)
        have HFI := hide_ (fun (u : World) (hu : Below (wr.heap.size + 1) (wr.alloc (.cells #[.int .u64 cl, .int .u8 tg, .int .i64 ac, .int .i64 ar] 108)) u) => show Below w.heap.size w u ∧ BoxAt u w.heap.size #[.int .u8 ki, .int .u64 inc, .int .i64 st, .slice vA nv vc, .slice dA nd dc, .slice (some ⟨tb, ot, none⟩) no oc, .int .u64 la, .slice mA nm mc] 31 from ⟨(HB.out.alloc HB.out.size (.cells #[.int .u64 cl, .int .u8 tg, .int .i64 ac, .int .i64 ar] 108)).trans (hu.mono (by omega)), BoxAt.below (HXR.out.alloc (.cells #[.int .u64 cl, .int .u8 tg, .int .i64 ac, .int .i64 ar] 108)) (hu.mono (by simp))⟩)
        have HFQ := hide_ (fun (n : Nat) => show Below (wr.heap.size + 1) (wr.alloc (.cells #[.int .u64 cl, .int .u8 tg, .int .i64 ac, .int .i64 ar] 108)) ((wr.alloc (.cells #[.int .u64 cl, .int .u8 tg, .int .i64 ac, .int .i64 ar] 108)).drewN n) from ⟨rfl, rfl, rfl, Nat.le_refl _, fun _ _ => rfl⟩)
        have HAT := hide_ hat
        clear hat hxo
        obtain ⟨rx, hrx⟩ : ∃ b, rcX la ol k = b := ⟨_, rfl⟩
        have HRX := hide_ hrx
        rw [hrx] at HAT
        clear hrx
        go_upto_region 14 with fail
        go_cut [129] (fun c wx => c = .bool rx ∧ Below w.heap.size w wx ∧ Hid (BoxAt wx w.heap.size #[.int .u8 ki, .int .u64 inc, .int .i64 st, .slice vA nv vc, .slice dA nd dc, .slice (some ⟨tb, ot, none⟩) no oc, .int .u64 la, .slice mA nm mc] 31))
        case first =>
          have hq1 := (HXR.out.alloc (.cells #[.int .u64 cl, .int .u8 tg, .int .i64 ac, .int .i64 ar] 108)).cell
          have hq2 := (BoxAt.new wr #[.int .u64 cl, .int .u8 tg, .int .i64 ac, .int .i64 ar] 108).cell
          by_cases q0 : cl < 1
          case pos =>
            have HP := hide_ (show rx = true by rw [HAT.out]; simp [q0])
            have hd0 : decide (cl < 1) = true := by simp [q0]
            clear q0
            go_quiet (fail)
            go_wp2_with fail
            go_meet
            exact ⟨congrArg Value.bool HP.out.symm, (HFI.out _ (HFQ.out _)).1, (HFI.out _ (HFQ.out _)).2⟩
          have hd0 : decide (cl < 1) = false := decide_eq_false q0
          have Q0 := hide_ q0
          clear q0
          by_cases q1 : la < cl
          case pos =>
            have HP := hide_ (show rx = true by rw [HAT.out]; simp [q1])
            have hd1 : decide (la < cl) = true := by simp [q1]
            clear q1
            go_quiet (fail)
            go_wp2_with fail
            go_meet
            exact ⟨congrArg Value.bool HP.out.symm, (HFI.out _ (HFQ.out _)).1, (HFI.out _ (HFQ.out _)).2⟩
          have hd1 : decide (la < cl) = false := decide_eq_false q1
          have Q1 := hide_ q1
          clear q1
          by_cases q2 : 15 < tg
          case pos =>
            have HP := hide_ (show rx = true by rw [HAT.out]; simp [q2])
            have hd2 : decide (15 < tg) = true := by simp [q2]
            clear q2
            go_quiet (fail)
            go_wp2_with fail
            go_meet
            exact ⟨congrArg Value.bool HP.out.symm, (HFI.out _ (HFQ.out _)).1, (HFI.out _ (HFQ.out _)).2⟩
          have hd2 : decide (15 < tg) = false := decide_eq_false q2
          have Q2 := hide_ q2
          clear q2
          by_cases q3 : ac < 0
          case pos =>
            have HP := hide_ (show rx = true by rw [HAT.out]; simp [q3])
            have hd3 : decide (ac < 0) = true := by simp [q3]
            clear q3
            go_quiet (fail)
            go_wp2_with fail
            go_meet
            exact ⟨congrArg Value.bool HP.out.symm, (HFI.out _ (HFQ.out _)).1, (HFI.out _ (HFQ.out _)).2⟩
          have hd3 : decide (ac < 0) = false := decide_eq_false q3
          have Q3 := hide_ q3
          clear q3
          by_cases q4 : 31 < ac
          case pos =>
            have HP := hide_ (show rx = true by rw [HAT.out]; simp [q4])
            have hd4 : decide (31 < ac) = true := by simp [q4]
            clear q4
            go_quiet (fail)
            go_wp2_with fail
            go_meet
            exact ⟨congrArg Value.bool HP.out.symm, (HFI.out _ (HFQ.out _)).1, (HFI.out _ (HFQ.out _)).2⟩
          have hd4 : decide (31 < ac) = false := decide_eq_false q4
          have Q4 := hide_ q4
          clear q4
          rcases k with _ | k
          · simp only [Nat.zero_mul, Nat.add_zero] at e0 e1 e2 e3
            have HP := hide_ (show rx = false by rw [HAT.out]; simp [Q0.out, Q1.out, Q2.out, Q3.out, Q4.out])
            go_quiet (fail)
            go_wp2_with fail
            go_meet
            exact ⟨congrArg Value.bool HP.out.symm, (HFI.out _ (HFQ.out _)).1, (HFI.out _ (HFQ.out _)).2⟩
          · obtain ⟨y, hy⟩ : ∃ y, ol[k]? = some y := ⟨_, List.getElem?_eq_getElem (by rw [HNO.out]; omega)⟩
            obtain ⟨tb2, ot2, hAe2, hab2, g0, g1, g2, g3⟩ := HSL.out.cel hy
            injection hAe2 with hAe2
            injection hAe2 with ht1 ht2
            subst ht1 ht2
            have hgd : (ol.map (·.1)).getD (k + 1 - 1) 0 = y.1 := by
              rw [Nat.add_sub_cancel, List.getD_eq_getElem?_getD, List.getElem?_map, hy]
              rfl
            obtain ⟨pcl, ptg, pac, par⟩ := y
            simp only at g0 hgd
            have HPX := hide_ (fun (u : World) (hu : Below (wr.heap.size + 1) (wr.alloc (.cells #[.int .u64 cl, .int .u8 tg, .int .i64 ac, .int .i64 ar] 108)) u) => show u.cell? ⟨tb, ot + k * 4, none⟩ = some (.int .u64 pcl) from ((((Below.refl _ _).alloc (Nat.le_refl _) (.cells #[.int .u64 cl, .int .u8 tg, .int .i64 ac, .int .i64 ar] 108)).trans (hu.mono (Nat.le_succ _))).cell (p := ⟨tb, ot + k * 4, none⟩) hwz).trans g0)
            have i1 : IntKind.i64.wrap (k : Int) = k := IntWalk.i64_in _ (by omega)
            have i5 : (k : Int) < (no : Int) := by omega
            have i2 : (0 : Int) ≤ (k : Int) + 1 := by omega
            have i3 : (k : Int) + 1 < (no : Int) := by omega
            have i4 : k < no := by omega
            clear hy g1 g2 g3
            by_cases hle : cl ≤ pcl
            case pos =>
              have HP := hide_ (show rx = true by rw [HAT.out, hgd]; simp [hle])
              have hd := decide_eq_true hle
              clear hle hgd
              go_quiet (fail)
              go_wp2_with fail
              go_meet
              exact ⟨congrArg Value.bool HP.out.symm, (HFI.out _ (HFQ.out _)).1, (HFI.out _ (HFQ.out _)).2⟩
            have HP := hide_ (show rx = false by rw [HAT.out, hgd]; simp [Q0.out, Q1.out, Q2.out, Q3.out, Q4.out, hle])
            have hd := decide_eq_false hle
            clear hle hgd
            go_quiet (fail)
            go_wp2_with fail
            go_meet
            exact ⟨congrArg Value.bool HP.out.symm, (HFI.out _ (HFQ.out _)).1, (HFI.out _ (HFQ.out _)).2⟩
        case rest =>
          obtain ⟨rfl, hbc, HXC⟩ := hcut
          have HBC := hide_ hbc
          clear hbc
          cases rx with
          | true =>
            have HP := hide_ (show (!b2 && !b3) = false by
              have h : b2 = true := by
                rw [← HB2.out, anyB_true]
                exact ⟨k, hlt, HRX.out⟩
              rw [h]
              simp)
            go_wp2
            go_ret
            exact ⟨ret_boolT HP.out.symm, HBC.out⟩
          | false =>
            have HJ2 := hide_ (show ∀ j, j < k + 1 → rcX la ol j = false from fun j hj => by
              by_cases h : j = k
              · rw [h]; exact HRX.out
              · exact HJ.out j (by omega))
            go_wp2
            go_roundw
            case rel => exact ⟨k + 1, by omega, by go_num, HJ2, HBC.out, HXC⟩
            case measure => simp [intOf]; omega
      have hkn : no = k := by omega
      subst hkn
      have HF2 := hide_ (show b2 = false by rw [← HB2.out]; exact anyB_false.2 HJ.out)
      have HBW2 := hide_ HB.out
      have HXR2 := hide_ HXR.out
      clear hb
      obtain rfl : b2 = false := HF2.out
      go_wp2
      clear hcx
      go_loopw [134] (fun i wr => ∃ k : Nat, k ≤ nm ∧ i = .int .i64 k ∧ Hid (∀ j, j < k → rmX ml j = false) ∧ Below w.heap.size w wr ∧ Hid (BoxAt wr w.heap.size #[.int .u8 ki, .int .u64 inc, .int .i64 st, .slice vA nv vc, .slice dA nd dc, .slice oA no oc, .int .u64 la, .slice mA nm mc] 31)) (fun i _ => nm - (intOf i).toNat)
      case atStart => exact ⟨0, Nat.zero_le _, rfl, (fun j hj => absurd hj (by omega)), HBW2.out, HXR2.out⟩
      case round =>
        obtain ⟨k, hk, rfl, HJ, hb, HXR⟩ := hrel
        have hz : w.heap.size < wr.heap.size := HXR.out.lt
        have hcx := HXR.out.cell
        have HB := hide_ hb
        by_cases hlt : k < nm
        case pos =>
          obtain ⟨x, hx⟩ : ∃ x, ml[k]? = some x := ⟨_, List.getElem?_eq_getElem (by rw [HNM.out]; exact hlt)⟩
          obtain ⟨tb, ot, hAe, hab, e0, e1, e2⟩ := (HM.out.2.2.1.below (hb.mono hB)).mrk hx
          have hwz : tb < wr.heap.size := by omega
          have hxo := HM.out.2.2.2 x (List.mem_of_getElem? hx)
          have HSL := hide_ (HM.out.2.2.1.below (hb.mono hB))
          subst hAe
          have hat : rmX ml k = (decide (15 < x.1) || (decide (x.2.1 = 0) || (decide (x.2.2 = 0) || (decide (0 < k) && decide (x.1 ≤ (ml.map (·.1)).getD (k - 1) 0))))) := by
            unfold rmX
            rw [hx]
          have HHX := hide_ hx
          clear hx hb
          obtain ⟨cl, mi, mc2⟩ := x
          simp only at e0 e1 e2 hat hxo
          have HB0 := hide_ (show Below (wr.heap.size + 1) (wr.alloc (.cells #[.int .u8 cl, .int .u64 mi, .int .u64 mc2] 110)) (wr.alloc (.cells #[.int .u8 cl, .int .u64 mi, .int .u64 mc2] 110)).drew from (Below.refl _ _).drew)
          have HSX := hide_ (fun (u : World) (hu : Below (wr.heap.size + 1) (wr.alloc (.cells #[.int .u8 cl, .int .u64 mi, .int .u64 mc2] 110)) u) => show (∀ i : Nat, u.cell? ⟨w.heap.size, i, none⟩ = (#[.int .u8 ki, .int .u64 inc, .int .i64 st, .slice vA nv vc, .slice dA nd dc, .slice oA no oc, .int .u64 la, .slice (some ⟨tb, ot, none⟩) nm mc] : Array Value)[i]?) ∧ (∀ i : Nat, u.cell? ⟨wr.heap.size, i, none⟩ = (#[.int .u8 cl, .int .u64 mi, .int .u64 mc2] : Array Value)[i]?) from ⟨(BoxAt.below (HXR.out.alloc (.cells #[.int .u8 cl, .int .u64 mi, .int .u64 mc2] 110)) (hu.mono (by simp))).cell, (BoxAt.below (BoxAt.new wr #[.int .u8 cl, .int .u64 mi, .int .u64 mc2] 110) (hu.mono (by simp))).cell⟩)
          have HFI := hide_ (fun (u : World) (hu : Below (wr.heap.size + 1) (wr.alloc (.cells #[.int .u8 cl, .int .u64 mi, .int .u64 mc2] 110)) u) => show Below w.heap.size w u ∧ BoxAt u w.heap.size #[.int .u8 ki, .int .u64 inc, .int .i64 st, .slice vA nv vc, .slice dA nd dc, .slice oA no oc, .int .u64 la, .slice (some ⟨tb, ot, none⟩) nm mc] 31 from ⟨(HB.out.alloc HB.out.size (.cells #[.int .u8 cl, .int .u64 mi, .int .u64 mc2] 110)).trans (hu.mono (by omega)), BoxAt.below (HXR.out.alloc (.cells #[.int .u8 cl, .int .u64 mi, .int .u64 mc2] 110)) (hu.mono (by simp))⟩)
          have HFQ := hide_ (fun (n : Nat) => show Below (wr.heap.size + 1) (wr.alloc (.cells #[.int .u8 cl, .int .u64 mi, .int .u64 mc2] 110)) ((wr.alloc (.cells #[.int .u8 cl, .int .u64 mi, .int .u64 mc2] 110)).drewN n) from ⟨rfl, rfl, rfl, Nat.le_refl _, fun _ _ => rfl⟩)
          have HAT := hide_ hat
          clear hat hxo
          obtain ⟨rx, hrx⟩ : ∃ b, rmX ml k = b := ⟨_, rfl⟩
          have HRX := hide_ hrx
          rw [hrx] at HAT
          clear hrx
          go_upto_region 21 with fail
          go_cut [170] (fun c wx => c = .bool rx ∧ Below w.heap.size w wx ∧ Hid (BoxAt wx w.heap.size #[.int .u8 ki, .int .u64 inc, .int .i64 st, .slice vA nv vc, .slice dA nd dc, .slice oA no oc, .int .u64 la, .slice (some ⟨tb, ot, none⟩) nm mc] 31))
          case first =>
            have hq1 := (HXR.out.alloc (.cells #[.int .u8 cl, .int .u64 mi, .int .u64 mc2] 110)).cell
            have hq2 := (BoxAt.new wr #[.int .u8 cl, .int .u64 mi, .int .u64 mc2] 110).cell
            by_cases q0 : 15 < cl
            case pos =>
              have HP := hide_ (show rx = true by rw [HAT.out]; simp [q0])
              have hd0 : decide (15 < cl) = true := by simp [q0]
              clear q0
              go_quiet (fail)
              go_wp2_with fail
              go_meet
              exact ⟨congrArg Value.bool HP.out.symm, (HFI.out _ (HFQ.out _)).1, (HFI.out _ (HFQ.out _)).2⟩
            have hd0 : decide (15 < cl) = false := decide_eq_false q0
            have Q0 := hide_ q0
            clear q0
            by_cases q1 : mi = 0
            case pos =>
              have HP := hide_ (show rx = true by rw [HAT.out]; simp [q1])
              have hd1 : (mi == 0) = true := by simp [q1]
              clear q1
              go_quiet (fail)
              go_wp2_with fail
              go_meet
              exact ⟨congrArg Value.bool HP.out.symm, (HFI.out _ (HFQ.out _)).1, (HFI.out _ (HFQ.out _)).2⟩
            have hd1 : (mi == 0) = false := by simp [q1]
            have Q1 := hide_ q1
            clear q1
            by_cases q2 : mc2 = 0
            case pos =>
              have HP := hide_ (show rx = true by rw [HAT.out]; simp [q2])
              have hd2 : (mc2 == 0) = true := by simp [q2]
              clear q2
              go_quiet (fail)
              go_wp2_with fail
              go_meet
              exact ⟨congrArg Value.bool HP.out.symm, (HFI.out _ (HFQ.out _)).1, (HFI.out _ (HFQ.out _)).2⟩
            have hd2 : (mc2 == 0) = false := by simp [q2]
            have Q2 := hide_ q2
            clear q2
            rcases k with _ | k
            · simp only [Nat.zero_mul, Nat.add_zero] at e0 e1 e2
              have HP := hide_ (show rx = false by rw [HAT.out]; simp [Q0.out, Q1.out, Q2.out])
              go_quiet (fail)
              go_wp2_with fail
              go_meet
              exact ⟨congrArg Value.bool HP.out.symm, (HFI.out _ (HFQ.out _)).1, (HFI.out _ (HFQ.out _)).2⟩
            · obtain ⟨y, hy⟩ : ∃ y, ml[k]? = some y := ⟨_, List.getElem?_eq_getElem (by rw [HNM.out]; omega)⟩
              obtain ⟨tb2, ot2, hAe2, hab2, g0, g1, g2⟩ := HSL.out.mrk hy
              injection hAe2 with hAe2
              injection hAe2 with ht1 ht2
              subst ht1 ht2
              have hgd : (ml.map (·.1)).getD (k + 1 - 1) 0 = y.1 := by
                rw [Nat.add_sub_cancel, List.getD_eq_getElem?_getD, List.getElem?_map, hy]
                rfl
              obtain ⟨pcl, pmi, pmc⟩ := y
              simp only at g0 hgd
              have HPX := hide_ (fun (u : World) (hu : Below (wr.heap.size + 1) (wr.alloc (.cells #[.int .u8 cl, .int .u64 mi, .int .u64 mc2] 110)) u) => show u.cell? ⟨tb, ot + k * 3, none⟩ = some (.int .u8 pcl) from ((((Below.refl _ _).alloc (Nat.le_refl _) (.cells #[.int .u8 cl, .int .u64 mi, .int .u64 mc2] 110)).trans (hu.mono (Nat.le_succ _))).cell (p := ⟨tb, ot + k * 3, none⟩) hwz).trans g0)
              have i1 : IntKind.i64.wrap (k : Int) = k := IntWalk.i64_in _ (by omega)
              have i5 : (k : Int) < (nm : Int) := by omega
              have i2 : (0 : Int) ≤ (k : Int) + 1 := by omega
              have i3 : (k : Int) + 1 < (nm : Int) := by omega
              have i4 : k < nm := by omega
              clear hy g1 g2
              by_cases hle : cl ≤ pcl
              case pos =>
                have HP := hide_ (show rx = true by rw [HAT.out, hgd]; simp [hle])
                have hd := decide_eq_true hle
                clear hle hgd
                go_quiet (fail)
                go_wp2_with fail
                go_meet
                exact ⟨congrArg Value.bool HP.out.symm, (HFI.out _ (HFQ.out _)).1, (HFI.out _ (HFQ.out _)).2⟩
              have HP := hide_ (show rx = false by rw [HAT.out, hgd]; simp [Q0.out, Q1.out, Q2.out, hle])
              have hd := decide_eq_false hle
              clear hle hgd
              go_quiet (fail)
              go_wp2_with fail
              go_meet
              exact ⟨congrArg Value.bool HP.out.symm, (HFI.out _ (HFQ.out _)).1, (HFI.out _ (HFQ.out _)).2⟩
          case rest =>
            obtain ⟨rfl, hbc, HXC⟩ := hcut
            have HBC := hide_ hbc
            clear hbc
            cases rx with
            | true =>
              have HP := hide_ (show (!b3) = false by
                have h : b3 = true := by
                  rw [← HB3.out, anyB_true]
                  exact ⟨k, hlt, HRX.out⟩
                rw [h]
                simp)
              go_wp2
              go_ret
              exact ⟨ret_boolT HP.out.symm, HBC.out⟩
            | false =>
              have HJ2 := hide_ (show ∀ j, j < k + 1 → rmX ml j = false from fun j hj => by
                by_cases h : j = k
                · rw [h]; exact HRX.out
                · exact HJ.out j (by omega))
              go_wp2
              go_roundw
              case rel => exact ⟨k + 1, by omega, by go_num, HJ2, HBC.out, HXC⟩
              case measure => simp [intOf]; omega
        have hkn : nm = k := by omega
        subst hkn
        have HF3 := hide_ (show b3 = false by rw [← HB3.out]; exact anyB_false.2 HJ.out)
        have HBW3 := hide_ HB.out
        have HXR3 := hide_ HXR.out
        clear hb
        go_wp2
        go_ret
        exact ⟨ret_boolT (by rw [HF3.out]; rfl), HBW3.out⟩
end Go.Proofs.YtnkjdijbfnmnhaaGreat
