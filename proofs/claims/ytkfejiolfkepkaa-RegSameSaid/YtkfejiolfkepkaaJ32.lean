/-
  Texts of this claim put together: RefMayG.
-/
import Derived.Test.YtkfejiolfkepkaaJ31
/-
  Contract of layer 6's reference's May.
-/
namespace Go.Proofs.Ytkfejiolfkepkaa
open Go.RowKit

set_option maxRecDepth 100000 in
set_option maxHeartbeats 6400000 in
theorem refMayR_any (r : RegM) (B : Nat) (w : World) (hr : RegM.ok w B r) (hB : B ≤ w.heap.size) (hl : ∀ u, RegM.ok u B r → B ≤ u.heap.size → Calls Try.prog 26 #[r.v] u fun e w' => e = .returned (.bool (listsB r.p)) ∧ Below u.heap.size u w') : Calls Try.prog 9 #[r.v] w fun e w' => e = .returned (.bool (refMayG r.p)) ∧ Below w.heap.size w w' := by
  have HX := hide_ (BoxAt.new w r.box 29)
  have HW := hide_ ((Below.refl w.heap.size w).alloc (Nat.le_refl _) (.cells r.box 29))
  have HLI := hide_ (fun (u : World) (hu : Below w.heap.size w u) => hl u (reg_stable.below hr (hu.mono hB)) (Nat.le_trans hB hu.size))
  have m1 := sl_len hr.2.1
  have m2 := sl_len hr.2.2.1
  have m3 := sl_len hr.2.2.2.1
  have m4 := sl_len hr.2.2.2.2
  have HMY := hide_ (show refMayG r.p = (if r.ki = 0 then decide (r.inc = 0) && (decide (r.st = 0) && (decide (r.la = 0) && (decide (r.va.l.length = 0) && (decide ((r.dn.l.map DoneM.p).length = 0) && (decide (r.ou.l.length = 0) && decide (r.ma.l.length = 0)))))) else if decide (2 < r.ki) || (decide (r.ki = 2) && (!(decide (r.st = 0)) || (decide (0 < r.va.l.length) || decide (0 < r.ou.l.length)))) then false else !(decide (r.inc = 0)) && (inB r.st 0 31 && listsB r.p)) from rfl)
  obtain ⟨q, hq⟩ : ∃ q, listsB r.p = q := ⟨_, rfl⟩
  obtain ⟨G, hG⟩ : ∃ G, refMayG r.p = G := ⟨_, rfl⟩
  rw [hG]
  rw [hG, hq, List.length_map] at HMY
  rw [hq] at HLI
  clear hq hG hr hl
  obtain ⟨ki, inc, st, ⟨vA, vc, vl⟩, ⟨dA, dc, dl⟩, ⟨oA, oc, ol⟩, la, ⟨mA, mc, ml⟩⟩ := r
  obtain ⟨nv, hnv⟩ : ∃ n, vl.length = n := ⟨_, rfl⟩
  obtain ⟨nd, hnd⟩ : ∃ n, dl.length = n := ⟨_, rfl⟩
  obtain ⟨no, hno⟩ : ∃ n, ol.length = n := ⟨_, rfl⟩
  obtain ⟨nm, hnm⟩ : ∃ n, ml.length = n := ⟨_, rfl⟩
  simp only [RegM.v, RegM.box, Sl.v, hnv, hnd, hno, hnm] at HX HW HLI HMY m1 m2 m3 m4 ⊢
  clear hnv hno hnm hnd
  unfold inB at HMY
  by_cases q1 : ki = 0
  case pos =>
    obtain rfl : ki = 0 := by omega
    try clear q1
    by_cases q2 : inc = 0
    case pos =>
      obtain rfl : inc = 0 := by omega
      try clear q2
      by_cases q3 : st = 0
      case pos =>
        obtain rfl : st = 0 := by omega
        try clear q3
        by_cases q4 : la = 0
        case pos =>
          obtain rfl : la = 0 := by omega
          try clear q4
          by_cases q5 : nv = 0
          case pos =>
            obtain rfl : nv = 0 := by omega
            try clear q5
            by_cases q6 : nd = 0
            case pos =>
              obtain rfl : nd = 0 := by omega
              try clear q6
              by_cases q7 : no = 0
              case pos =>
                obtain rfl : no = 0 := by omega
                try clear q7
                by_cases q8 : nm = 0
                case pos =>
                  obtain rfl : nm = 0 := by omega
                  try clear q8
                  have HP := hide_ (show G = true by rw [HMY.out]; simp)
                  go_enter Try.func9, Try.ntmps9
                  go_wp2
                  go_ret
                  exact ⟨ret_boolT HP.out.symm, by first | exact HW.out | exact HW.out.drew⟩
                case neg =>
                  have d8 : ((nm : Int) == 0) = false := beq_eq_false_iff_ne.2 (by omega)
                  have HP := hide_ (show G = false by rw [HMY.out]; simp [q8])
                  clear q8
                  go_enter Try.func9, Try.ntmps9
                  go_wp2
                  go_ret
                  exact ⟨ret_boolT HP.out.symm, by first | exact HW.out | exact HW.out.drew⟩
              case neg =>
                have d7 : ((no : Int) == 0) = false := beq_eq_false_iff_ne.2 (by omega)
                have HP := hide_ (show G = false by rw [HMY.out]; simp [q7])
                clear q7
                go_enter Try.func9, Try.ntmps9
                go_wp2
                go_ret
                exact ⟨ret_boolT HP.out.symm, by first | exact HW.out | exact HW.out.drew⟩
            case neg =>
              have d6 : ((nd : Int) == 0) = false := beq_eq_false_iff_ne.2 (by omega)
              have HP := hide_ (show G = false by rw [HMY.out]; simp [q6])
              clear q6
              go_enter Try.func9, Try.ntmps9
              go_wp2
              go_ret
              exact ⟨ret_boolT HP.out.symm, by first | exact HW.out | exact HW.out.drew⟩
          case neg =>
            have d5 : ((nv : Int) == 0) = false := beq_eq_false_iff_ne.2 (by omega)
            have HP := hide_ (show G = false by rw [HMY.out]; simp [q5])
            clear q5
            go_enter Try.func9, Try.ntmps9
            go_wp2
            go_ret
            exact ⟨ret_boolT HP.out.symm, by first | exact HW.out | exact HW.out.drew⟩
        case neg =>
          have d4 : (la == 0) = false := by simp [q4]
          have HP := hide_ (show G = false by rw [HMY.out]; simp [q4])
          clear q4
          go_enter Try.func9, Try.ntmps9
          go_wp2
          go_ret
          exact ⟨ret_boolT HP.out.symm, by first | exact HW.out | exact HW.out.drew⟩
      case neg =>
        have d3 : (st == 0) = false := by simp [q3]
        have b3 : (st != 0) = true := by simp [q3]
        have HP := hide_ (show G = false by rw [HMY.out]; simp [q3])
        clear q3
        go_enter Try.func9, Try.ntmps9
        go_wp2
        go_ret
        exact ⟨ret_boolT HP.out.symm, by first | exact HW.out | exact HW.out.drew⟩
    case neg =>
      have d2 : (inc == 0) = false := by simp [q2]
      have b2 : (inc != 0) = true := by simp [q2]
      have HP := hide_ (show G = false by rw [HMY.out]; simp [q2])
      clear q2
      go_enter Try.func9, Try.ntmps9
      go_wp2
      go_ret
      exact ⟨ret_boolT HP.out.symm, by first | exact HW.out | exact HW.out.drew⟩
  case neg =>
    have d1 : (ki == 0) = false := by simp [q1]
    by_cases q9 : 2 < ki
    case pos =>
      have d9 : decide (2 < ki) = true := decide_eq_true (by omega)
      have HP := hide_ (show G = false by rw [HMY.out]; simp [q1, q9])
      clear q1 q9
      go_enter Try.func9, Try.ntmps9
      go_wp2
      go_ret
      exact ⟨ret_boolT HP.out.symm, by first | exact HW.out | exact HW.out.drew⟩
    case neg =>
      have d9 : decide (2 < ki) = false := decide_eq_false (by omega)
      by_cases q10 : ki = 2
      case pos =>
        obtain rfl : ki = 2 := by omega
        try clear q10
        by_cases q11 : st = 0
        case pos =>
          obtain rfl : st = 0 := by omega
          try clear q11
          by_cases q12 : 0 < nv
          case pos =>
            have d12 : decide (0 < nv) = true := decide_eq_true (by omega)
            have HP := hide_ (show G = false by rw [HMY.out]; simp [q1, q9, q12])
            clear q1 q9 q12
            go_enter Try.func9, Try.ntmps9
            go_wp2
            go_ret
            exact ⟨ret_boolT HP.out.symm, by first | exact HW.out | exact HW.out.drew⟩
          case neg =>
            obtain rfl : nv = 0 := by omega
            clear q12
            by_cases q13 : 0 < no
            case pos =>
              have d13 : decide (0 < no) = true := decide_eq_true (by omega)
              have HP := hide_ (show G = false by rw [HMY.out]; simp [q1, q9, q13])
              clear q1 q9 q13
              go_enter Try.func9, Try.ntmps9
              go_wp2
              go_ret
              exact ⟨ret_boolT HP.out.symm, by first | exact HW.out | exact HW.out.drew⟩
            case neg =>
              obtain rfl : no = 0 := by omega
              clear q13
              by_cases q14 : inc = 0
              case pos =>
                obtain rfl : inc = 0 := by omega
                try clear q14
                have HP := hide_ (show G = false by rw [HMY.out]; simp [q1, q9])
                clear q1 q9
                go_enter Try.func9, Try.ntmps9
                go_wp2
                go_ret
                exact ⟨ret_boolT HP.out.symm, by first | exact HW.out | exact HW.out.drew⟩
              case neg =>
                have d14 : (inc == 0) = false := by simp [q14]
                have b14 : (inc != 0) = true := by simp [q14]
                have HP := hide_ (show G = q by rw [HMY.out]; simp [q1, q9, q14])
                clear q1 q9 q14
                go_enter Try.func9, Try.ntmps9
                have hcx := HX.out.cell
                go_wp2_with fail
                refine (HLI.out _ (by first | exact HW.out | exact HW.out.drew)).mono ?_
                rintro e w1 ⟨rfl, hb1⟩
                have HB1 := hide_ (show Below w.heap.size w w1 from (by first | exact HW.out.trans (hb1.mono (by simp)) | exact HW.out.drew.trans (hb1.mono (by simp))))
                clear hb1
                go_wp2
                go_ret
                exact ⟨ret_boolT HP.out.symm, by first | exact HB1.out | exact HB1.out.drew⟩
        case neg =>
          have d11 : (st == 0) = false := by simp [q11]
          have b11 : (st != 0) = true := by simp [q11]
          have HP := hide_ (show G = false by rw [HMY.out]; simp [q1, q9, q11])
          clear q1 q9 q11
          go_enter Try.func9, Try.ntmps9
          go_wp2
          go_ret
          exact ⟨ret_boolT HP.out.symm, by first | exact HW.out | exact HW.out.drew⟩
      case neg =>
        have d10 : (ki == 2) = false := by simp [q10]
        by_cases q15 : inc = 0
        case pos =>
          obtain rfl : inc = 0 := by omega
          try clear q15
          have HP := hide_ (show G = false by rw [HMY.out]; simp [q1, q9, q10])
          clear q1 q9 q10
          go_enter Try.func9, Try.ntmps9
          go_wp2
          go_ret
          exact ⟨ret_boolT HP.out.symm, by first | exact HW.out | exact HW.out.drew⟩
        case neg =>
          have d15 : (inc == 0) = false := by simp [q15]
          have b15 : (inc != 0) = true := by simp [q15]
          by_cases q16 : 0 ≤ st
          case pos =>
            have d16 : decide (0 ≤ st) = true := decide_eq_true (by omega)
            by_cases q17 : st < 32
            case pos =>
              have d17 : decide (st < 32) = true := decide_eq_true (by omega)
              have q99 : st ≤ 31 := by omega
              clear q17
              have HP := hide_ (show G = q by rw [HMY.out]; simp [q1, q9, q10, q15, q16, q99])
              clear q1 q9 q10 q15 q16 q99
              go_enter Try.func9, Try.ntmps9
              have hcx := HX.out.cell
              go_wp2_with fail
              refine (HLI.out _ (by first | exact HW.out | exact HW.out.drew)).mono ?_
              rintro e w1 ⟨rfl, hb1⟩
              have HB1 := hide_ (show Below w.heap.size w w1 from (by first | exact HW.out.trans (hb1.mono (by simp)) | exact HW.out.drew.trans (hb1.mono (by simp))))
              clear hb1
              go_wp2
              go_ret
              exact ⟨ret_boolT HP.out.symm, by first | exact HB1.out | exact HB1.out.drew⟩
            case neg =>
              have d17 : decide (st < 32) = false := decide_eq_false (by omega)
              have q98 : ¬ st ≤ 31 := by omega
              clear q17
              have HP := hide_ (show G = false by rw [HMY.out]; simp [q1, q9, q10, q15, q16, q98])
              clear q1 q9 q10 q15 q16 q98
              go_enter Try.func9, Try.ntmps9
              go_wp2
              go_ret
              exact ⟨ret_boolT HP.out.symm, by first | exact HW.out | exact HW.out.drew⟩
          case neg =>
            have d16 : decide (0 ≤ st) = false := decide_eq_false (by omega)
            have HP := hide_ (show G = false by rw [HMY.out]; simp [q1, q9, q10, q15, q16])
            clear q1 q9 q10 q15 q16
            go_enter Try.func9, Try.ntmps9
            go_wp2
            go_ret
            exact ⟨ret_boolT HP.out.symm, by first | exact HW.out | exact HW.out.drew⟩
end Go.Proofs.Ytkfejiolfkepkaa
