/-
  Texts of this claim put together: RefMay6, RefMayG.
-/
import Derived.Test.YtnkjdijbfnmnhaaGreatJ34
import Derived.Test.YtnkjdijbfnmnhaaGreatJ30
/-
  Contracts of layer 6's reference's reply and Great.
-/
namespace Go.Proofs.YtnkjdijbfnmnhaaGreat
open Go.RowKit

theorem refReply_any (r : RepM) (hm : r.va.l.length ≤ 9223372036854775807) (w : World) : Calls Tryz.prog 116 #[r.v] w fun e w' => e = .returned (.bool (repB r.p)) ∧ Below w.heap.size w w' := by
  obtain ⟨er, inc, st, ⟨A, c, va⟩⟩ := r
  obtain ⟨n, hn⟩ : ∃ n, va.length = n := ⟨_, rfl⟩
  simp only [hn] at hm
  have HR := hide_ (show repB (RepM.p ⟨er, inc, st, ⟨A, c, va⟩⟩) = (decide (0 ≤ er) && decide (er ≤ 99) && (decide (0 ≤ st) && decide (st < 32) && decide (n ≤ 8))) by
    unfold repB RepM.p staB inB
    rw [hn, show decide (st ≤ 31) = decide (st < 32) from decide_eq_decide.2 (by omega)])
  rw [HR.out]
  simp only [RepM.v, Sl.v, hn]
  have HB := hide_ ((Below.refl w.heap.size w).alloc (Nat.le_refl _) (.cells #[.int .i64 er, .int .u64 inc, .int .i64 st, .slice A n c] 38))
  clear hn HR
  by_cases h1 : 0 ≤ er
  case neg =>
    have d1 := decide_eq_false h1
    have HE := hide_ d1
    clear h1
    go_enter Tryz.func116, Tryz.ntmps116
    go_wp2
    go_ret
    exact ⟨by rw [HE.out]; simp, HB.out⟩
  have d1 := decide_eq_true h1
  have H1 := hide_ d1
  by_cases h2 : er ≤ 99
  case neg =>
    have d2 := decide_eq_false h2
    have HE := hide_ d2
    clear h1 h2
    go_enter Tryz.func116, Tryz.ntmps116
    go_wp2
    go_ret
    exact ⟨by rw [HE.out]; simp, HB.out⟩
  have d2 := decide_eq_true h2
  have H2 := hide_ d2
  by_cases h3 : 0 ≤ st
  case neg =>
    have d3 := decide_eq_false h3
    have HE := hide_ d3
    clear h1 h2 h3
    go_enter Tryz.func116, Tryz.ntmps116
    go_wp2
    go_ret
    exact ⟨by rw [HE.out]; simp, HB.out⟩
  have d3 := decide_eq_true h3
  have H3 := hide_ d3
  by_cases h4 : st < 32
  case neg =>
    have d4 := decide_eq_false h4
    have HE := hide_ d4
    clear h1 h2 h3 h4
    go_enter Tryz.func116, Tryz.ntmps116
    go_wp2
    go_ret
    exact ⟨by rw [HE.out]; simp, HB.out⟩
  have d4 := decide_eq_true h4
  have H4 := hide_ d4
  by_cases h5 : n ≤ 8
  case neg =>
    have d5 : decide ((n : Int) ≤ 8) = false := decide_eq_false (by omega)
    have HE := hide_ (decide_eq_false h5)
    clear h1 h2 h3 h4 h5
    go_enter Tryz.func116, Tryz.ntmps116
    go_wp2
    go_ret
    exact ⟨by rw [HE.out]; simp, HB.out⟩
  have d5 : decide ((n : Int) ≤ 8) = true := decide_eq_true (by omega)
  have H5 := hide_ (decide_eq_true h5)
  clear h1 h2 h3 h4 h5
  go_enter Tryz.func116, Tryz.ntmps116
  go_wp2
  go_ret
  exact ⟨by rw [H1.out, H2.out, H3.out, H4.out, H5.out]; simp, HB.out⟩

/-- what Great leaves: with no, the lists have room -/
def SomeG (r : RegM) (w : World) (e : Ending) (w' : World) : Prop := ∃ b : Bool, e = .returned (.bool b) ∧ Below w.heap.size w w' ∧ (b = false → r.va.l.length ≤ 50 ∧ r.dn.l.length ≤ 50 ∧ r.ou.l.length ≤ 50 ∧ r.ma.l.length ≤ 50 ∧ ∀ d ∈ r.dn.l, d.va.l.length ≤ 50)

theorem someG_mk {r : RegM} {w w' : World} {e : Ending} (b : Bool) (h1 : e = .returned (.bool b)) (h2 : Below w.heap.size w w') (h3 : b = false → r.va.l.length ≤ 50 ∧ r.dn.l.length ≤ 50 ∧ r.ou.l.length ≤ 50 ∧ r.ma.l.length ≤ 50 ∧ ∀ d ∈ r.dn.l, d.va.l.length ≤ 50) : SomeG r w e w' := ⟨b, h1, h2, h3⟩

set_option maxRecDepth 100000 in
set_option maxHeartbeats 3200000 in
theorem GreatG_any (r : RegM) (B : Nat) (w : World) (hr : RegM.ok w B r) (hB : B ≤ w.heap.size) : Calls Tryz.prog 39 #[r.v] w (SomeG r w) := by
  have HX := hide_ (BoxAt.new w r.box 31)
  have HW := hide_ ((Below.refl w.heap.size w).alloc (Nat.le_refl _) (.cells r.box 31))
  have HD := hide_ hr.2.2.1
  have m1 := sl_len hr.2.1
  have m2 := sl_len hr.2.2.1
  have m3 := sl_len hr.2.2.2.1
  have m4 := sl_len hr.2.2.2.2
  clear hr
  obtain ⟨ki, inc, st, ⟨vA, vc, vl⟩, ⟨dA, dc, dl⟩, ⟨oA, oc, ol⟩, la, ⟨mA, mc, ml⟩⟩ := r
  obtain ⟨nv, hnv⟩ : ∃ n, vl.length = n := ⟨_, rfl⟩
  obtain ⟨nd, hnd⟩ : ∃ n, dl.length = n := ⟨_, rfl⟩
  obtain ⟨no, hno⟩ : ∃ n, ol.length = n := ⟨_, rfl⟩
  obtain ⟨nm, hnm⟩ : ∃ n, ml.length = n := ⟨_, rfl⟩
  simp only [RegM.v, RegM.box, Sl.v, hnv, hnd, hno, hnm] at HX HW m1 m2 m3 m4 ⊢
  have HND := hide_ hnd
  have HNV := hide_ hnv
  have HNO := hide_ hno
  have HNM := hide_ hnm
  clear hnv hno hnm hnd
  by_cases c1 : 50 < nv
  · have d1 : decide (50 < (nv : Int)) = true := decide_eq_true (by omega)
    clear c1
    go_enter Tryz.func39, Tryz.ntmps39
    go_wp2
    go_ret
    exact someG_mk true rfl HW.out (fun h => by cases h)
  have d1 : decide (50 < (nv : Int)) = false := decide_eq_false (by omega)
  by_cases c2 : 50 < nd
  · have d2 : decide (50 < (nd : Int)) = true := decide_eq_true (by omega)
    clear c1 c2
    go_enter Tryz.func39, Tryz.ntmps39
    go_wp2
    go_ret
    exact someG_mk true rfl HW.out (fun h => by cases h)
  have d2 : decide (50 < (nd : Int)) = false := decide_eq_false (by omega)
  by_cases c3 : 50 < no
  · have d3 : decide (50 < (no : Int)) = true := decide_eq_true (by omega)
    clear c1 c2 c3
    go_enter Tryz.func39, Tryz.ntmps39
    go_wp2
    go_ret
    exact someG_mk true rfl HW.out (fun h => by cases h)
  have d3 : decide (50 < (no : Int)) = false := decide_eq_false (by omega)
  by_cases c4 : 50 < nm
  · have d4 : decide (50 < (nm : Int)) = true := decide_eq_true (by omega)
    clear c1 c2 c3 c4
    go_enter Tryz.func39, Tryz.ntmps39
    go_wp2
    go_ret
    exact someG_mk true rfl HW.out (fun h => by cases h)
  have d4 : decide (50 < (nm : Int)) = false := decide_eq_false (by omega)
  have hle : nv ≤ 50 ∧ nd ≤ 50 ∧ no ≤ 50 ∧ nm ≤ 50 := by omega
  have HLE := hide_ hle
  have hnd50 : nd ≤ 50 := hle.2.1
  clear c1 c2 c3 c4 hle
  go_enter Tryz.func39, Tryz.ntmps39
  go_wp2
  go_loopw [29] (fun i wr => ∃ k : Nat, k ≤ nd ∧ i = .int .i64 k ∧ Hid (∀ j d, j < k → dl[j]? = some d → d.va.l.length ≤ 50) ∧ Below w.heap.size w wr ∧ Hid (BoxAt wr w.heap.size #[.int .u8 ki, .int .u64 inc, .int .i64 st, .slice vA nv vc, .slice dA nd dc, .slice oA no oc, .int .u64 la, .slice mA nm mc] 31)) (fun i _ => nd - (intOf i).toNat)
  case atStart => exact ⟨0, Nat.zero_le _, rfl, (fun j d hj => absurd hj (by omega)), HW.out, HX.out⟩
  case round =>
    obtain ⟨k, hk, rfl, HJ, hb, HXR⟩ := hrel
    have hz : w.heap.size < wr.heap.size := HXR.out.lt
    have hcx := HXR.out.cell
    by_cases hlt : k < nd
    · obtain ⟨x, hx⟩ : ∃ x, dl[k]? = some x := ⟨_, List.getElem?_eq_getElem (by rw [HND.out]; exact hlt)⟩
      obtain ⟨tb, ot, hAe, hab, e0, e1, e2, e3, e4, e5⟩ := (HD.out.2.2.1.below (hb.mono hB)).done hx
      have hwz : tb < wr.heap.size := by omega
      have hxm := sl_len (HD.out.2.2.2 x (List.mem_of_getElem? hx)).2
      have HXX := hide_ hx
      subst hAe
      obtain ⟨cl, sq, er, inc2, st2, ⟨A, c, va⟩⟩ := x
      simp only at e5 hxm
      obtain ⟨m, hm⟩ : ∃ m, va.length = m := ⟨_, rfl⟩
      rw [hm] at e5 hxm
      have HM := hide_ hm
      have HB := hide_ hb
      clear hx hm e0 e1 e2 e3 e4 hb
      by_cases c5 : 50 < m
      · have d5 : decide (50 < (m : Int)) = true := decide_eq_true (by omega)
        clear c5
        go_wp2
        go_ret
        exact someG_mk true rfl HB.out (fun h => by cases h)
      · have d5 : decide (50 < (m : Int)) = false := decide_eq_false (by omega)
        have HJ2 := hide_ (show ∀ j d, j < k + 1 → dl[j]? = some d → d.va.l.length ≤ 50 from fun j d hj hd => by
          by_cases h : j = k
          · rw [h, HXX.out] at hd
            injection hd with hd
            rw [← hd]
            show va.length ≤ 50
            rw [HM.out]
            omega
          · exact HJ.out j d (by omega) hd)
        clear c5
        go_wp2
        go_roundw
        case rel => exact ⟨k + 1, by omega, by go_num, HJ2, HB.out, HXR⟩
        case measure => simp [intOf]; omega
    · obtain rfl : k = nd := by omega
      have HB := hide_ hb
      clear hb
      have HK := hide_ (show ∀ d ∈ dl, d.va.l.length ≤ 50 from fun d hd => by
        obtain ⟨j, hj, rfl⟩ := List.getElem_of_mem hd
        exact HJ.out j _ (by rw [← HND.out]; exact hj) (List.getElem?_eq_getElem hj))
      go_wp2
      go_ret
      exact someG_mk false rfl HB.out (fun _ => ⟨by show vl.length ≤ 50; rw [HNV.out]; exact HLE.out.1, by show dl.length ≤ 50; rw [HND.out]; exact HLE.out.2.1, by show ol.length ≤ 50; rw [HNO.out]; exact HLE.out.2.2.1, by show ml.length ≤ 50; rw [HNM.out]; exact HLE.out.2.2.2, HK.out⟩)
end Go.Proofs.YtnkjdijbfnmnhaaGreat

/-
  Contract of layer 6's reference's May.
-/
namespace Go.Proofs.YtnkjdijbfnmnhaaGreat
open Go.RowKit

set_option maxRecDepth 100000 in
set_option maxHeartbeats 6400000 in
theorem refMayR_any (r : RegM) (B : Nat) (w : World) (hr : RegM.ok w B r) (hB : B ≤ w.heap.size) (hl : ∀ u, RegM.ok u B r → B ≤ u.heap.size → Calls Tryz.prog 50 #[r.v] u fun e w' => e = .returned (.bool (listsB r.p)) ∧ Below u.heap.size u w') : Calls Tryz.prog 15 #[r.v] w fun e w' => e = .returned (.bool (refMayG r.p)) ∧ Below w.heap.size w w' := by
  have HX := hide_ (BoxAt.new w r.box 31)
  have HW := hide_ ((Below.refl w.heap.size w).alloc (Nat.le_refl _) (.cells r.box 31))
  have HLI := hide_ (fun (u : World) (hu : Below w.heap.size w u) => hl u (reg_stable.below hr (hu.mono hB)) (Nat.le_trans hB hu.size))
  have m1 := sl_len hr.2.1
  have m2 := sl_len hr.2.2.1
  have m3 := sl_len hr.2.2.2.1
  have m4 := sl_len hr.2.2.2.2
  have HMY := hide_ (show refMayG r.p = (if r.ki = 0 then decide (r.inc = 0) && (decide (r.st = 0) && (decide (r.la = 0) && (decide (r.va.l.length = 0) && (decide ((r.dn.l.map DoneM.p).length = 0) && (decide (r.ou.l.length = 0) && decide (r.ma.l.length = 0)))))) else if decide (2 < r.ki) || (decide (r.ki = 2) && (!(decide (r.st = 0)) || (decide (0 < r.va.l.length) || decide (0 < r.ou.l.length)))) then false else !(decide (r.inc = 0)) && (inB r.st 0 31 && listsB r.p)) from rfl)
  obtain ⟨q, hq⟩ : ∃ q, listsB r.p = q := ⟨_, rfl⟩
  obtain ⟨G, hG⟩ : ∃ G, refMayG r.p = G := ⟨_, rfl⟩
  rw [hG]
  rw [hG, hq, List.length_map] at HMY
  rw [hq] at HLI
  clear hq hG hr hl
  obtain ⟨ki, inc, st, ⟨vA, vc, vl⟩, ⟨dA, dc, dl⟩, ⟨oA, oc, ol⟩, la, ⟨mA, mc, ml⟩⟩ := r
  obtain ⟨nv, hnv⟩ : ∃ n, vl.length = n := ⟨_, rfl⟩
  obtain ⟨nd, hnd⟩ : ∃ n, dl.length = n := ⟨_, rfl⟩
  obtain ⟨no, hno⟩ : ∃ n, ol.length = n := ⟨_, rfl⟩
  obtain ⟨nm, hnm⟩ : ∃ n, ml.length = n := ⟨_, rfl⟩
  simp only [RegM.v, RegM.box, Sl.v, hnv, hnd, hno, hnm] at HX HW HLI HMY m1 m2 m3 m4 ⊢
  clear hnv hno hnm hnd
  unfold inB at HMY
  by_cases q1 : ki = 0
  case pos =>
    obtain rfl : ki = 0 := by omega
    try clear q1
    by_cases q2 : inc = 0
    case pos =>
      obtain rfl : inc = 0 := by omega
      try clear q2
      by_cases q3 : st = 0
      case pos =>
        obtain rfl : st = 0 := by omega
        try clear q3
        by_cases q4 : la = 0
        case pos =>
          obtain rfl : la = 0 := by omega
          try clear q4
          by_cases q5 : nv = 0
          case pos =>
            obtain rfl : nv = 0 := by omega
            try clear q5
            by_cases q6 : nd = 0
            case pos =>
              obtain rfl : nd = 0 := by omega
              try clear q6
              by_cases q7 : no = 0
              case pos =>
                obtain rfl : no = 0 := by omega
                try clear q7
                by_cases q8 : nm = 0
                case pos =>
                  obtain rfl : nm = 0 := by omega
                  try clear q8
                  have HP := hide_ (show G = true by rw [HMY.out]; simp)
                  go_enter Tryz.func15, Tryz.ntmps15
                  go_wp2
                  go_ret
                  exact ⟨ret_boolT HP.out.symm, by first | exact HW.out | exact HW.out.drew⟩
                case neg =>
                  have d8 : ((nm : Int) == 0) = false := beq_eq_false_iff_ne.2 (by omega)
                  have HP := hide_ (show G = false by rw [HMY.out]; simp [q8])
                  clear q8
                  go_enter Tryz.func15, Tryz.ntmps15
                  go_wp2
                  go_ret
                  exact ⟨ret_boolT HP.out.symm, by first | exact HW.out | exact HW.out.drew⟩
              case neg =>
                have d7 : ((no : Int) == 0) = false := beq_eq_false_iff_ne.2 (by omega)
                have HP := hide_ (show G = false by rw [HMY.out]; simp [q7])
                clear q7
                go_enter Tryz.func15, Tryz.ntmps15
                go_wp2
                go_ret
                exact ⟨ret_boolT HP.out.symm, by first | exact HW.out | exact HW.out.drew⟩
            case neg =>
              have d6 : ((nd : Int) == 0) = false := beq_eq_false_iff_ne.2 (by omega)
              have HP := hide_ (show G = false by rw [HMY.out]; simp [q6])
              clear q6
              go_enter Tryz.func15, Tryz.ntmps15
              go_wp2
              go_ret
              exact ⟨ret_boolT HP.out.symm, by first | exact HW.out | exact HW.out.drew⟩
          case neg =>
            have d5 : ((nv : Int) == 0) = false := beq_eq_false_iff_ne.2 (by omega)
            have HP := hide_ (show G = false by rw [HMY.out]; simp [q5])
            clear q5
            go_enter Tryz.func15, Tryz.ntmps15
            go_wp2
            go_ret
            exact ⟨ret_boolT HP.out.symm, by first | exact HW.out | exact HW.out.drew⟩
        case neg =>
          have d4 : (la == 0) = false := by simp [q4]
          have HP := hide_ (show G = false by rw [HMY.out]; simp [q4])
          clear q4
          go_enter Tryz.func15, Tryz.ntmps15
          go_wp2
          go_ret
          exact ⟨ret_boolT HP.out.symm, by first | exact HW.out | exact HW.out.drew⟩
      case neg =>
        have d3 : (st == 0) = false := by simp [q3]
        have b3 : (st != 0) = true := by simp [q3]
        have HP := hide_ (show G = false by rw [HMY.out]; simp [q3])
        clear q3
        go_enter Tryz.func15, Tryz.ntmps15
        go_wp2
        go_ret
        exact ⟨ret_boolT HP.out.symm, by first | exact HW.out | exact HW.out.drew⟩
    case neg =>
      have d2 : (inc == 0) = false := by simp [q2]
      have b2 : (inc != 0) = true := by simp [q2]
      have HP := hide_ (show G = false by rw [HMY.out]; simp [q2])
      clear q2
      go_enter Tryz.func15, Tryz.ntmps15
      go_wp2
      go_ret
      exact ⟨ret_boolT HP.out.symm, by first | exact HW.out | exact HW.out.drew⟩
  case neg =>
    have d1 : (ki == 0) = false := by simp [q1]
    by_cases q9 : 2 < ki
    case pos =>
      have d9 : decide (2 < ki) = true := decide_eq_true (by omega)
      have HP := hide_ (show G = false by rw [HMY.out]; simp [q1, q9])
      clear q1 q9
      go_enter Tryz.func15, Tryz.ntmps15
      go_wp2
      go_ret
      exact ⟨ret_boolT HP.out.symm, by first | exact HW.out | exact HW.out.drew⟩
    case neg =>
      have d9 : decide (2 < ki) = false := decide_eq_false (by omega)
      by_cases q10 : ki = 2
      case pos =>
        obtain rfl : ki = 2 := by omega
        try clear q10
        by_cases q11 : st = 0
        case pos =>
          obtain rfl : st = 0 := by omega
          try clear q11
          by_cases q12 : 0 < nv
          case pos =>
            have d12 : decide (0 < nv) = true := decide_eq_true (by omega)
            have HP := hide_ (show G = false by rw [HMY.out]; simp [q1, q9, q12])
            clear q1 q9 q12
            go_enter Tryz.func15, Tryz.ntmps15
            go_wp2
            go_ret
            exact ⟨ret_boolT HP.out.symm, by first | exact HW.out | exact HW.out.drew⟩
          case neg =>
            obtain rfl : nv = 0 := by omega
            clear q12
            by_cases q13 : 0 < no
            case pos =>
              have d13 : decide (0 < no) = true := decide_eq_true (by omega)
              have HP := hide_ (show G = false by rw [HMY.out]; simp [q1, q9, q13])
              clear q1 q9 q13
              go_enter Tryz.func15, Tryz.ntmps15
              go_wp2
              go_ret
              exact ⟨ret_boolT HP.out.symm, by first | exact HW.out | exact HW.out.drew⟩
            case neg =>
              obtain rfl : no = 0 := by omega
              clear q13
              by_cases q14 : inc = 0
              case pos =>
                obtain rfl : inc = 0 := by omega
                try clear q14
                have HP := hide_ (show G = false by rw [HMY.out]; simp [q1, q9])
                clear q1 q9
                go_enter Tryz.func15, Tryz.ntmps15
                go_wp2
                go_ret
                exact ⟨ret_boolT HP.out.symm, by first | exact HW.out | exact HW.out.drew⟩
              case neg =>
                have d14 : (inc == 0) = false := by simp [q14]
                have b14 : (inc != 0) = true := by simp [q14]
                have HP := hide_ (show G = q by rw [HMY.out]; simp [q1, q9, q14])
                clear q1 q9 q14
                go_enter Tryz.func15, Tryz.ntmps15
                have hcx := HX.out.cell
                go_wp2_with fail
                refine (HLI.out _ (by first | exact HW.out | exact HW.out.drew)).mono ?_
                rintro e w1 ⟨rfl, hb1⟩
                have HB1 := hide_ (show Below w.heap.size w w1 from (by first | exact HW.out.trans (hb1.mono (by simp)) | exact HW.out.drew.trans (hb1.mono (by simp))))
                clear hb1
                go_wp2
                go_ret
                exact ⟨ret_boolT HP.out.symm, by first | exact HB1.out | exact HB1.out.drew⟩
        case neg =>
          have d11 : (st == 0) = false := by simp [q11]
          have b11 : (st != 0) = true := by simp [q11]
          have HP := hide_ (show G = false by rw [HMY.out]; simp [q1, q9, q11])
          clear q1 q9 q11
          go_enter Tryz.func15, Tryz.ntmps15
          go_wp2
          go_ret
          exact ⟨ret_boolT HP.out.symm, by first | exact HW.out | exact HW.out.drew⟩
      case neg =>
        have d10 : (ki == 2) = false := by simp [q10]
        by_cases q15 : inc = 0
        case pos =>
          obtain rfl : inc = 0 := by omega
          try clear q15
          have HP := hide_ (show G = false by rw [HMY.out]; simp [q1, q9, q10])
          clear q1 q9 q10
          go_enter Tryz.func15, Tryz.ntmps15
          go_wp2
          go_ret
          exact ⟨ret_boolT HP.out.symm, by first | exact HW.out | exact HW.out.drew⟩
        case neg =>
          have d15 : (inc == 0) = false := by simp [q15]
          have b15 : (inc != 0) = true := by simp [q15]
          by_cases q16 : 0 ≤ st
          case pos =>
            have d16 : decide (0 ≤ st) = true := decide_eq_true (by omega)
            by_cases q17 : st < 32
            case pos =>
              have d17 : decide (st < 32) = true := decide_eq_true (by omega)
              have q99 : st ≤ 31 := by omega
              clear q17
              have HP := hide_ (show G = q by rw [HMY.out]; simp [q1, q9, q10, q15, q16, q99])
              clear q1 q9 q10 q15 q16 q99
              go_enter Tryz.func15, Tryz.ntmps15
              have hcx := HX.out.cell
              go_wp2_with fail
              refine (HLI.out _ (by first | exact HW.out | exact HW.out.drew)).mono ?_
              rintro e w1 ⟨rfl, hb1⟩
              have HB1 := hide_ (show Below w.heap.size w w1 from (by first | exact HW.out.trans (hb1.mono (by simp)) | exact HW.out.drew.trans (hb1.mono (by simp))))
              clear hb1
              go_wp2
              go_ret
              exact ⟨ret_boolT HP.out.symm, by first | exact HB1.out | exact HB1.out.drew⟩
            case neg =>
              have d17 : decide (st < 32) = false := decide_eq_false (by omega)
              have q98 : ¬ st ≤ 31 := by omega
              clear q17
              have HP := hide_ (show G = false by rw [HMY.out]; simp [q1, q9, q10, q15, q16, q98])
              clear q1 q9 q10 q15 q16 q98
              go_enter Tryz.func15, Tryz.ntmps15
              go_wp2
              go_ret
              exact ⟨ret_boolT HP.out.symm, by first | exact HW.out | exact HW.out.drew⟩
          case neg =>
            have d16 : decide (0 ≤ st) = false := decide_eq_false (by omega)
            have HP := hide_ (show G = false by rw [HMY.out]; simp [q1, q9, q10, q15, q16])
            clear q1 q9 q10 q15 q16
            go_enter Tryz.func15, Tryz.ntmps15
            go_wp2
            go_ret
            exact ⟨ret_boolT HP.out.symm, by first | exact HW.out | exact HW.out.drew⟩
end Go.Proofs.YtnkjdijbfnmnhaaGreat
