/-
  Texts of this claim put together: Op7.
-/
import Derived.Test.YtpiikdinphnjbaaGreatJ30
import Derived.Test.YtpiikdinphnjbaaGreatJ22
import Derived.Test.YtpiikdinphnjbaaGreatJ26
/-
  Operations in memory, how they come in, and which may be: engine's May, the reference's.
-/
namespace Go.Proofs.YtpiikdinphnjbaaGreat
open Go.ChangeShapes Go.WideShapes Go.ChangeAt Go.RowKit Go.Joins Go.Deep

structure OpM where
  ki : Int
  ke : Int
  cl : Int
  sq : Int
  ac : Int
  pa : Int
  ar : Int
  so : Int
  inc : Int
  ce : Int
def OpM.cs (o : OpM) : List Value := [.int .u8 o.ki, .int .u8 o.ke, .int .u8 o.cl, .int .u64 o.sq, .int .i64 o.ac, .int .i64 o.pa, .int .i64 o.ar, .int .u8 o.so, .int .u64 o.inc, .int .u64 o.ce]
def OpM.v (o : OpM) : Value := .agg #[.int .u8 o.ki, .int .u8 o.ke, .int .u8 o.cl, .int .u64 o.sq, .int .i64 o.ac, .int .i64 o.pa, .int .i64 o.ar, .int .u8 o.so, .int .u64 o.inc, .int .u64 o.ce]
def OpM.box (o : OpM) : Array Value := #[.int .u8 o.ki, .int .u8 o.ke, .int .u8 o.cl, .int .u64 o.sq, .int .i64 o.ac, .int .i64 o.pa, .int .i64 o.ar, .int .u8 o.so, .int .u64 o.inc, .int .u64 o.ce]
def OpM.ok (o : OpM) : Prop := (U8 o.ki ∧ U8 o.ke ∧ U8 o.cl) ∧ U64 o.sq ∧ (I64 o.ac ∧ I64 o.pa ∧ I64 o.ar) ∧ U8 o.so ∧ U64 o.inc ∧ U64 o.ce

section
variable {H : Type} {enc : TypeId × Value → H} {w : World} {base : Nat} {spare : Nat → Bool} {held : Bool}
set_option maxRecDepth 100000 in
theorem el_op {n : Nat} {xs : List Value} {y : DataW H × List MemPlace} (hl : xs.length = 10) (h : DataW.trod enc Tryz.prog w base spare held n 33 xs = some y) : ∃ t, xs = OpM.cs t ∧ OpM.ok t := by
  match xs, hl with
  | [c0, c1, c2, c3, c4, c5, c6, c7, c8, c9], _ =>
    obtain ⟨_, _, h0⟩ := field_at Tryz.underlying33 h 0 rfl rfl rfl (by kernel_rfl) rfl
    obtain ⟨_, _, h1⟩ := field_at Tryz.underlying33 h 1 rfl rfl rfl (by kernel_rfl) rfl
    obtain ⟨_, _, h2⟩ := field_at Tryz.underlying33 h 2 rfl rfl rfl (by kernel_rfl) rfl
    obtain ⟨_, _, h3⟩ := field_at Tryz.underlying33 h 3 rfl rfl rfl (by kernel_rfl) rfl
    obtain ⟨_, _, h4⟩ := field_at Tryz.underlying33 h 4 rfl rfl rfl (by kernel_rfl) rfl
    obtain ⟨_, _, h5⟩ := field_at Tryz.underlying33 h 5 rfl rfl rfl (by kernel_rfl) rfl
    obtain ⟨_, _, h6⟩ := field_at Tryz.underlying33 h 6 rfl rfl rfl (by kernel_rfl) rfl
    obtain ⟨_, _, h7⟩ := field_at Tryz.underlying33 h 7 rfl rfl rfl (by kernel_rfl) rfl
    obtain ⟨_, _, h8⟩ := field_at Tryz.underlying33 h 8 rfl rfl rfl (by kernel_rfl) rfl
    obtain ⟨_, _, h9⟩ := field_at Tryz.underlying33 h 9 rfl rfl rfl (by kernel_rfl) rfl
    obtain ⟨a0, rfl, b0⟩ := open_u8c Tryz.underlying5 h0
    obtain ⟨a1, rfl, b1⟩ := open_u8c Tryz.underlying5 h1
    obtain ⟨a2, rfl, b2⟩ := open_u8c Tryz.underlying5 h2
    obtain ⟨a3, rfl, b3⟩ := open_u64c Tryz.underlying25 h3
    obtain ⟨a4, rfl, b4⟩ := open_i64c Tryz.underlying3 h4
    obtain ⟨a5, rfl, b5⟩ := open_i64c Tryz.underlying3 h5
    obtain ⟨a6, rfl, b6⟩ := open_i64c Tryz.underlying2 h6
    obtain ⟨a7, rfl, b7⟩ := open_u8c Tryz.underlying5 h7
    obtain ⟨a8, rfl, b8⟩ := open_u64c Tryz.underlying25 h8
    obtain ⟨a9, rfl, b9⟩ := open_u64c Tryz.underlying25 h9
    exact ⟨⟨a0, a1, a2, a3, a4, a5, a6, a7, a8, a9⟩, rfl, ⟨b0, b1, b2⟩, b3, ⟨b4, b5, b6⟩, b7, b8, b9⟩
set_option maxRecDepth 100000 in
/-- an operation that comes in -/
theorem open_op {r : Reach} {b0 : Nat} {v : Value} {d : DataW H} {p : List MemPlace} (hv : Value.okWide Tryz.prog w r b0 33 v) (h : DataW.Trod enc Tryz.prog w base spare held 33 v d p) :
    ∃ s : OpM, v = s.v ∧ OpM.ok s := by
  obtain ⟨cs, rfl, hsz⟩ := okWide_struct Tryz.underlying33 hv
  obtain ⟨fuel, hf⟩ := h
  obtain ⟨l⟩ := cs
  have h8 : Tryz.prog.cellsOf 33 = 10 := by kernel_rfl
  have hl : l.length = 10 := hsz.trans h8
  obtain ⟨s, e, hs⟩ := el_op (by simpa [Value.cells] using hl) hf
  refine ⟨s, ?_, hs⟩
  have e2 : l = OpM.cs s := by simpa [Value.cells] using e
  rw [e2]
  rfl
end

/-- has it what its kind asks? -/
def mayKindB (o : OpM) : Bool :=
  if o.ki = 1 then !(decide (o.cl = 0)) else if o.ki = 3 then !(decide (o.cl = 0)) else if o.ki = 4 then !(decide (o.cl = 0))
  else if o.ki = 2 then !(decide (o.cl = 0)) && !(decide (o.pa = 0))
  else if o.ki = 5 then decide (o.cl = 0) && (!(decide (o.inc = 0)) && !(decide (o.ce = 0))) else if o.ki = 6 then decide (o.cl = 0) && (!(decide (o.inc = 0)) && !(decide (o.ce = 0)))
  else if o.ki = 7 then decide (o.cl = 0) else false
def mayO (o : OpM) : Bool := decide (o.ke < 16) && (decide (o.so < 16) && (decide (o.cl ≤ 8) && ((decide (o.sq = 0) == decide (o.cl = 0)) && (inB o.ac 0 31 && (inB o.pa 0 7 && mayKindB o)))))

theorem below7_any (n m : Int) (b : Bool) (hb : (decide (0 ≤ n) && decide (n < m)) = b) (w : World) : Calls Tryz.prog 53 #[.int .i64 n, .int .i64 m] w fun e w' => e = .returned (.bool b) ∧ w = w' := by
  subst hb
  by_cases h1 : 0 ≤ n
  · have d1 := decide_eq_true h1
    have H1 := hide_ d1
    by_cases h2 : n < m
    · have d2 := decide_eq_true h2
      have H2 := hide_ d2
      clear h1 h2
      go_enter Tryz.func53, Tryz.ntmps53
      go_wp2
      go_ret
      exact ⟨ret_boolT (by rw [H1.out, H2.out]; rfl), rfl⟩
    · have d2 := decide_eq_false h2
      have H2 := hide_ d2
      clear h1 h2
      go_enter Tryz.func53, Tryz.ntmps53
      go_wp2
      go_ret
      exact ⟨ret_boolT (by rw [H1.out, H2.out]; rfl), rfl⟩
  · have d1 := decide_eq_false h1
    have H1 := hide_ d1
    clear h1
    go_enter Tryz.func53, Tryz.ntmps53
    go_wp2
    go_ret
    exact ⟨ret_boolT (by rw [H1.out]; rfl), rfl⟩

set_option maxRecDepth 100000 in
set_option maxHeartbeats 6400000 in
theorem mayKind_any (o : OpM) (w : World) : Calls Tryz.prog 54 #[o.v] w fun e w' => e = .returned (.bool (mayKindB o)) ∧ Below w.heap.size w w' := by
  have HW := hide_ (show Below w.heap.size w (w.alloc (.cells o.box 33)) from (Below.refl _ _).alloc (Nat.le_refl _) _)
  have HX := hide_ (BoxAt.new w o.box 33)
  obtain ⟨ki, ke, cl, sq, ac, pa, ar, so, inc, ce⟩ := o
  simp only [OpM.v, OpM.box] at HW HX ⊢
  obtain ⟨G, hG⟩ : ∃ G, mayKindB ⟨ki, ke, cl, sq, ac, pa, ar, so, inc, ce⟩ = G := ⟨_, rfl⟩
  have HG := hide_ hG
  rw [hG]
  clear hG
  by_cases q_k1 : ki = 1
  case pos =>
    subst q_k1
    by_cases q_cl : cl = 0
    case pos =>
      have d_cl : (cl == 0) = true := beq_iff_eq.2 q_cl
      have b_cl : (cl != 0) = false := by simp [q_cl]
      have HP := hide_ (show G = false by rw [← HG.out]; unfold mayKindB; simp [*])
      clear q_cl
      go_enter Tryz.func54, Tryz.ntmps54
      go_wp2
      go_ret
      exact ⟨ret_boolT HP.out.symm, HW.out⟩
    case neg =>
      have d_cl : (cl == 0) = false := beq_eq_false_iff_ne.2 q_cl
      have b_cl : (cl != 0) = true := bne_iff_ne.2 q_cl
      have HP := hide_ (show G = true by rw [← HG.out]; unfold mayKindB; simp [*])
      clear q_cl
      go_enter Tryz.func54, Tryz.ntmps54
      go_wp2
      go_ret
      exact ⟨ret_boolT HP.out.symm, HW.out⟩
  case neg =>
    have d_k1 : (ki == 1) = false := beq_eq_false_iff_ne.2 q_k1
    have b_k1 : (ki != 1) = true := bne_iff_ne.2 q_k1
    by_cases q_k3 : ki = 3
    case pos =>
      subst q_k3
      by_cases q_cl : cl = 0
      case pos =>
        have d_cl : (cl == 0) = true := beq_iff_eq.2 q_cl
        have b_cl : (cl != 0) = false := by simp [q_cl]
        have HP := hide_ (show G = false by rw [← HG.out]; unfold mayKindB; simp [*])
        clear q_k1 q_cl
        go_enter Tryz.func54, Tryz.ntmps54
        go_wp2
        go_ret
        exact ⟨ret_boolT HP.out.symm, HW.out⟩
      case neg =>
        have d_cl : (cl == 0) = false := beq_eq_false_iff_ne.2 q_cl
        have b_cl : (cl != 0) = true := bne_iff_ne.2 q_cl
        have HP := hide_ (show G = true by rw [← HG.out]; unfold mayKindB; simp [*])
        clear q_k1 q_cl
        go_enter Tryz.func54, Tryz.ntmps54
        go_wp2
        go_ret
        exact ⟨ret_boolT HP.out.symm, HW.out⟩
    case neg =>
      have d_k3 : (ki == 3) = false := beq_eq_false_iff_ne.2 q_k3
      have b_k3 : (ki != 3) = true := bne_iff_ne.2 q_k3
      by_cases q_k4 : ki = 4
      case pos =>
        subst q_k4
        by_cases q_cl : cl = 0
        case pos =>
          have d_cl : (cl == 0) = true := beq_iff_eq.2 q_cl
          have b_cl : (cl != 0) = false := by simp [q_cl]
          have HP := hide_ (show G = false by rw [← HG.out]; unfold mayKindB; simp [*])
          clear q_k1 q_k3 q_cl
          go_enter Tryz.func54, Tryz.ntmps54
          go_wp2
          go_ret
          exact ⟨ret_boolT HP.out.symm, HW.out⟩
        case neg =>
          have d_cl : (cl == 0) = false := beq_eq_false_iff_ne.2 q_cl
          have b_cl : (cl != 0) = true := bne_iff_ne.2 q_cl
          have HP := hide_ (show G = true by rw [← HG.out]; unfold mayKindB; simp [*])
          clear q_k1 q_k3 q_cl
          go_enter Tryz.func54, Tryz.ntmps54
          go_wp2
          go_ret
          exact ⟨ret_boolT HP.out.symm, HW.out⟩
      case neg =>
        have d_k4 : (ki == 4) = false := beq_eq_false_iff_ne.2 q_k4
        have b_k4 : (ki != 4) = true := bne_iff_ne.2 q_k4
        by_cases q_k2 : ki = 2
        case pos =>
          subst q_k2
          by_cases q_cl : cl = 0
          case pos =>
            have d_cl : (cl == 0) = true := beq_iff_eq.2 q_cl
            have b_cl : (cl != 0) = false := by simp [q_cl]
            have HP := hide_ (show G = false by rw [← HG.out]; unfold mayKindB; simp [*])
            clear q_k1 q_k3 q_k4 q_cl
            go_enter Tryz.func54, Tryz.ntmps54
            go_wp2
            go_ret
            exact ⟨ret_boolT HP.out.symm, HW.out⟩
          case neg =>
            have d_cl : (cl == 0) = false := beq_eq_false_iff_ne.2 q_cl
            have b_cl : (cl != 0) = true := bne_iff_ne.2 q_cl
            by_cases q_pa : pa = 0
            case pos =>
              have d_pa : (pa == 0) = true := beq_iff_eq.2 q_pa
              have b_pa : (pa != 0) = false := by simp [q_pa]
              have HP := hide_ (show G = false by rw [← HG.out]; unfold mayKindB; simp [*])
              clear q_k1 q_k3 q_k4 q_cl q_pa
              go_enter Tryz.func54, Tryz.ntmps54
              go_wp2
              go_ret
              exact ⟨ret_boolT HP.out.symm, HW.out⟩
            case neg =>
              have d_pa : (pa == 0) = false := beq_eq_false_iff_ne.2 q_pa
              have b_pa : (pa != 0) = true := bne_iff_ne.2 q_pa
              have HP := hide_ (show G = true by rw [← HG.out]; unfold mayKindB; simp [*])
              clear q_k1 q_k3 q_k4 q_cl q_pa
              go_enter Tryz.func54, Tryz.ntmps54
              go_wp2
              go_ret
              exact ⟨ret_boolT HP.out.symm, HW.out⟩
        case neg =>
          have d_k2 : (ki == 2) = false := beq_eq_false_iff_ne.2 q_k2
          have b_k2 : (ki != 2) = true := bne_iff_ne.2 q_k2
          by_cases q_k5 : ki = 5
          case pos =>
            subst q_k5
            by_cases q_cl : cl = 0
            case pos =>
              have d_cl : (cl == 0) = true := beq_iff_eq.2 q_cl
              have b_cl : (cl != 0) = false := by simp [q_cl]
              by_cases q_inc : inc = 0
              case pos =>
                have d_inc : (inc == 0) = true := beq_iff_eq.2 q_inc
                have b_inc : (inc != 0) = false := by simp [q_inc]
                have HP := hide_ (show G = false by rw [← HG.out]; unfold mayKindB; simp [*])
                clear q_k1 q_k3 q_k4 q_k2 q_cl q_inc
                go_enter Tryz.func54, Tryz.ntmps54
                go_wp2
                go_ret
                exact ⟨ret_boolT HP.out.symm, HW.out⟩
              case neg =>
                have d_inc : (inc == 0) = false := beq_eq_false_iff_ne.2 q_inc
                have b_inc : (inc != 0) = true := bne_iff_ne.2 q_inc
                by_cases q_ce : ce = 0
                case pos =>
                  have d_ce : (ce == 0) = true := beq_iff_eq.2 q_ce
                  have b_ce : (ce != 0) = false := by simp [q_ce]
                  have HP := hide_ (show G = false by rw [← HG.out]; unfold mayKindB; simp [*])
                  clear q_k1 q_k3 q_k4 q_k2 q_cl q_inc q_ce
                  go_enter Tryz.func54, Tryz.ntmps54
                  go_wp2
                  go_ret
                  exact ⟨ret_boolT HP.out.symm, HW.out⟩
                case neg =>
                  have d_ce : (ce == 0) = false := beq_eq_false_iff_ne.2 q_ce
                  have b_ce : (ce != 0) = true := bne_iff_ne.2 q_ce
                  have HP := hide_ (show G = true by rw [← HG.out]; unfold mayKindB; simp [*])
                  clear q_k1 q_k3 q_k4 q_k2 q_cl q_inc q_ce
                  go_enter Tryz.func54, Tryz.ntmps54
                  go_wp2
                  go_ret
                  exact ⟨ret_boolT HP.out.symm, HW.out⟩
            case neg =>
              have d_cl : (cl == 0) = false := beq_eq_false_iff_ne.2 q_cl
              have b_cl : (cl != 0) = true := bne_iff_ne.2 q_cl
              have HP := hide_ (show G = false by rw [← HG.out]; unfold mayKindB; simp [*])
              clear q_k1 q_k3 q_k4 q_k2 q_cl
              go_enter Tryz.func54, Tryz.ntmps54
              go_wp2
              go_ret
              exact ⟨ret_boolT HP.out.symm, HW.out⟩
          case neg =>
            have d_k5 : (ki == 5) = false := beq_eq_false_iff_ne.2 q_k5
            have b_k5 : (ki != 5) = true := bne_iff_ne.2 q_k5
            by_cases q_k6 : ki = 6
            case pos =>
              subst q_k6
              by_cases q_cl : cl = 0
              case pos =>
                have d_cl : (cl == 0) = true := beq_iff_eq.2 q_cl
                have b_cl : (cl != 0) = false := by simp [q_cl]
                by_cases q_inc : inc = 0
                case pos =>
                  have d_inc : (inc == 0) = true := beq_iff_eq.2 q_inc
                  have b_inc : (inc != 0) = false := by simp [q_inc]
                  have HP := hide_ (show G = false by rw [← HG.out]; unfold mayKindB; simp [*])
                  clear q_k1 q_k3 q_k4 q_k2 q_k5 q_cl q_inc
                  go_enter Tryz.func54, Tryz.ntmps54
                  go_wp2
                  go_ret
                  exact ⟨ret_boolT HP.out.symm, HW.out⟩
                case neg =>
                  have d_inc : (inc == 0) = false := beq_eq_false_iff_ne.2 q_inc
                  have b_inc : (inc != 0) = true := bne_iff_ne.2 q_inc
                  by_cases q_ce : ce = 0
                  case pos =>
                    have d_ce : (ce == 0) = true := beq_iff_eq.2 q_ce
                    have b_ce : (ce != 0) = false := by simp [q_ce]
                    have HP := hide_ (show G = false by rw [← HG.out]; unfold mayKindB; simp [*])
                    clear q_k1 q_k3 q_k4 q_k2 q_k5 q_cl q_inc q_ce
                    go_enter Tryz.func54, Tryz.ntmps54
                    go_wp2
                    go_ret
                    exact ⟨ret_boolT HP.out.symm, HW.out⟩
                  case neg =>
                    have d_ce : (ce == 0) = false := beq_eq_false_iff_ne.2 q_ce
                    have b_ce : (ce != 0) = true := bne_iff_ne.2 q_ce
                    have HP := hide_ (show G = true by rw [← HG.out]; unfold mayKindB; simp [*])
                    clear q_k1 q_k3 q_k4 q_k2 q_k5 q_cl q_inc q_ce
                    go_enter Tryz.func54, Tryz.ntmps54
                    go_wp2
                    go_ret
                    exact ⟨ret_boolT HP.out.symm, HW.out⟩
              case neg =>
                have d_cl : (cl == 0) = false := beq_eq_false_iff_ne.2 q_cl
                have b_cl : (cl != 0) = true := bne_iff_ne.2 q_cl
                have HP := hide_ (show G = false by rw [← HG.out]; unfold mayKindB; simp [*])
                clear q_k1 q_k3 q_k4 q_k2 q_k5 q_cl
                go_enter Tryz.func54, Tryz.ntmps54
                go_wp2
                go_ret
                exact ⟨ret_boolT HP.out.symm, HW.out⟩
            case neg =>
              have d_k6 : (ki == 6) = false := beq_eq_false_iff_ne.2 q_k6
              have b_k6 : (ki != 6) = true := bne_iff_ne.2 q_k6
              by_cases q_k7 : ki = 7
              case pos =>
                subst q_k7
                by_cases q_cl : cl = 0
                case pos =>
                  have d_cl : (cl == 0) = true := beq_iff_eq.2 q_cl
                  have b_cl : (cl != 0) = false := by simp [q_cl]
                  have HP := hide_ (show G = true by rw [← HG.out]; unfold mayKindB; simp [*])
                  clear q_k1 q_k3 q_k4 q_k2 q_k5 q_k6 q_cl
                  go_enter Tryz.func54, Tryz.ntmps54
                  go_wp2
                  go_ret
                  exact ⟨ret_boolT HP.out.symm, HW.out⟩
                case neg =>
                  have d_cl : (cl == 0) = false := beq_eq_false_iff_ne.2 q_cl
                  have b_cl : (cl != 0) = true := bne_iff_ne.2 q_cl
                  have HP := hide_ (show G = false by rw [← HG.out]; unfold mayKindB; simp [*])
                  clear q_k1 q_k3 q_k4 q_k2 q_k5 q_k6 q_cl
                  go_enter Tryz.func54, Tryz.ntmps54
                  go_wp2
                  go_ret
                  exact ⟨ret_boolT HP.out.symm, HW.out⟩
              case neg =>
                have d_k7 : (ki == 7) = false := beq_eq_false_iff_ne.2 q_k7
                have b_k7 : (ki != 7) = true := bne_iff_ne.2 q_k7
                have HP := hide_ (show G = false by rw [← HG.out]; unfold mayKindB; simp [*])
                clear q_k1 q_k3 q_k4 q_k2 q_k5 q_k6 q_k7
                go_enter Tryz.func54, Tryz.ntmps54
                go_wp2
                go_ret
                exact ⟨ret_boolT HP.out.symm, HW.out⟩

set_option maxRecDepth 100000 in
set_option maxHeartbeats 6400000 in
theorem MayO_any (o : OpM) (w : World) : Calls Tryz.prog 30 #[o.v] w fun e w' => e = .returned (.bool (mayO o)) ∧ Below w.heap.size w w' := by
  have HMK := hide_ (fun (u : World) => mayKind_any o u)
  have HW := hide_ (show Below w.heap.size w (w.alloc (.cells o.box 33)) from (Below.refl _ _).alloc (Nat.le_refl _) _)
  have HX := hide_ (BoxAt.new w o.box 33)
  obtain ⟨ki, ke, cl, sq, ac, pa, ar, so, inc, ce⟩ := o
  simp only [OpM.v, OpM.box] at HW HX ⊢
  simp only [OpM.v] at HMK
  obtain ⟨qk, hqk⟩ : ∃ q, mayKindB ⟨ki, ke, cl, sq, ac, pa, ar, so, inc, ce⟩ = q := ⟨_, rfl⟩
  simp only [hqk] at HMK
  obtain ⟨G, hG⟩ : ∃ G, mayO ⟨ki, ke, cl, sq, ac, pa, ar, so, inc, ce⟩ = G := ⟨_, rfl⟩
  have HG := hide_ (show G = (decide (ke < 16) && (decide (so < 16) && (decide (cl ≤ 8) && ((decide (sq = 0) == decide (cl = 0)) && (inB ac 0 31 && (inB pa 0 7 && qk)))))) by rw [← hG, ← hqk]; rfl)
  rw [hG]
  clear hG hqk
  by_cases q_ke : ke < 16
  case pos =>
    have d_ke : decide (ke < 16) = true := decide_eq_true q_ke
    by_cases q_so : so < 16
    case pos =>
      have d_so : decide (so < 16) = true := decide_eq_true q_so
      by_cases q_cm : cl ≤ 8
      case pos =>
        have d_cm : decide (cl ≤ 8) = true := decide_eq_true q_cm
        by_cases q_sq : sq = 0
        case pos =>
          have d_sq : (sq == 0) = true := beq_iff_eq.2 q_sq
          have b_sq : (sq != 0) = false := by simp [q_sq]
          by_cases q_cl : cl = 0
          case pos =>
            have d_cl : (cl == 0) = true := beq_iff_eq.2 q_cl
            have b_cl : (cl != 0) = false := by simp [q_cl]
            by_cases q_a0 : 0 ≤ ac
            case pos =>
              by_cases q_a1 : ac ≤ 31
              case pos =>
                by_cases q_p0 : 0 ≤ pa
                case pos =>
                  by_cases q_p1 : pa ≤ 7
                  case pos =>
                    have HP := hide_ (show G = qk by rw [HG.out]; unfold inB; simp [*])
                    have HA := hide_ (fun (u : World) => below7_any ac 32 true (by simp; omega) u)
                    have HB := hide_ (fun (u : World) => below7_any pa 8 true (by simp; omega) u)
                    clear q_ke q_so q_cm q_sq q_cl q_a0 q_a1 q_p0 q_p1
                    have hcx := HX.out.cell
                    go_enter Tryz.func30, Tryz.ntmps30
                    go_wp2_with fail
                    refine (HA.out _).mono ?_
                    rintro e1 w1 ⟨rfl, rfl⟩
                    go_wp2_with fail
                    refine (HB.out _).mono ?_
                    rintro e2 w2 ⟨rfl, rfl⟩
                    go_wp2_with fail
                    refine (HMK.out _).mono ?_
                    rintro e3 w3 ⟨rfl, hb3⟩
                    have HB3 := hide_ (HW.out.trans (hb3.mono (by simp)))
                    clear hb3 hcx
                    go_wp2
                    go_ret
                    exact ⟨ret_boolT HP.out.symm, HB3.out⟩
                  case neg =>
                    have HP := hide_ (show G = false by rw [HG.out]; unfold inB; simp [*])
                    have HA := hide_ (fun (u : World) => below7_any ac 32 true (by simp; omega) u)
                    have HB := hide_ (fun (u : World) => below7_any pa 8 false (by simp; omega) u)
                    clear q_ke q_so q_cm q_sq q_cl q_a0 q_a1 q_p0 q_p1
                    have hcx := HX.out.cell
                    go_enter Tryz.func30, Tryz.ntmps30
                    go_wp2_with fail
                    refine (HA.out _).mono ?_
                    rintro e1 w1 ⟨rfl, rfl⟩
                    go_wp2_with fail
                    refine (HB.out _).mono ?_
                    rintro e2 w2 ⟨rfl, rfl⟩
                    go_wp2
                    go_ret
                    exact ⟨ret_boolT HP.out.symm, HW.out⟩
                case neg =>
                  have HP := hide_ (show G = false by rw [HG.out]; unfold inB; simp [*])
                  have HA := hide_ (fun (u : World) => below7_any ac 32 true (by simp; omega) u)
                  have HB := hide_ (fun (u : World) => below7_any pa 8 false (by simp; omega) u)
                  clear q_ke q_so q_cm q_sq q_cl q_a0 q_a1 q_p0
                  have hcx := HX.out.cell
                  go_enter Tryz.func30, Tryz.ntmps30
                  go_wp2_with fail
                  refine (HA.out _).mono ?_
                  rintro e1 w1 ⟨rfl, rfl⟩
                  go_wp2_with fail
                  refine (HB.out _).mono ?_
                  rintro e2 w2 ⟨rfl, rfl⟩
                  go_wp2
                  go_ret
                  exact ⟨ret_boolT HP.out.symm, HW.out⟩
              case neg =>
                have HP := hide_ (show G = false by rw [HG.out]; unfold inB; simp [*])
                have HA := hide_ (fun (u : World) => below7_any ac 32 false (by simp; omega) u)
                clear q_ke q_so q_cm q_sq q_cl q_a0 q_a1
                have hcx := HX.out.cell
                go_enter Tryz.func30, Tryz.ntmps30
                go_wp2_with fail
                refine (HA.out _).mono ?_
                rintro e1 w1 ⟨rfl, rfl⟩
                go_wp2
                go_ret
                exact ⟨ret_boolT HP.out.symm, HW.out⟩
            case neg =>
              have HP := hide_ (show G = false by rw [HG.out]; unfold inB; simp [*])
              have HA := hide_ (fun (u : World) => below7_any ac 32 false (by simp; omega) u)
              clear q_ke q_so q_cm q_sq q_cl q_a0
              have hcx := HX.out.cell
              go_enter Tryz.func30, Tryz.ntmps30
              go_wp2_with fail
              refine (HA.out _).mono ?_
              rintro e1 w1 ⟨rfl, rfl⟩
              go_wp2
              go_ret
              exact ⟨ret_boolT HP.out.symm, HW.out⟩
          case neg =>
            have d_cl : (cl == 0) = false := beq_eq_false_iff_ne.2 q_cl
            have b_cl : (cl != 0) = true := bne_iff_ne.2 q_cl
            have HP := hide_ (show G = false by rw [HG.out]; unfold inB; simp [*])
            clear q_ke q_so q_cm q_sq q_cl
            have hcx := HX.out.cell
            go_enter Tryz.func30, Tryz.ntmps30
            go_wp2
            go_ret
            exact ⟨ret_boolT HP.out.symm, HW.out⟩
        case neg =>
          have d_sq : (sq == 0) = false := beq_eq_false_iff_ne.2 q_sq
          have b_sq : (sq != 0) = true := bne_iff_ne.2 q_sq
          by_cases q_cl : cl = 0
          case pos =>
            have d_cl : (cl == 0) = true := beq_iff_eq.2 q_cl
            have b_cl : (cl != 0) = false := by simp [q_cl]
            have HP := hide_ (show G = false by rw [HG.out]; unfold inB; simp [*])
            clear q_ke q_so q_cm q_sq q_cl
            have hcx := HX.out.cell
            go_enter Tryz.func30, Tryz.ntmps30
            go_wp2
            go_ret
            exact ⟨ret_boolT HP.out.symm, HW.out⟩
          case neg =>
            have d_cl : (cl == 0) = false := beq_eq_false_iff_ne.2 q_cl
            have b_cl : (cl != 0) = true := bne_iff_ne.2 q_cl
            by_cases q_a0 : 0 ≤ ac
            case pos =>
              by_cases q_a1 : ac ≤ 31
              case pos =>
                by_cases q_p0 : 0 ≤ pa
                case pos =>
                  by_cases q_p1 : pa ≤ 7
                  case pos =>
                    have HP := hide_ (show G = qk by rw [HG.out]; unfold inB; simp [*])
                    have HA := hide_ (fun (u : World) => below7_any ac 32 true (by simp; omega) u)
                    have HB := hide_ (fun (u : World) => below7_any pa 8 true (by simp; omega) u)
                    clear q_ke q_so q_cm q_sq q_cl q_a0 q_a1 q_p0 q_p1
                    have hcx := HX.out.cell
                    go_enter Tryz.func30, Tryz.ntmps30
                    go_wp2_with fail
                    refine (HA.out _).mono ?_
                    rintro e1 w1 ⟨rfl, rfl⟩
                    go_wp2_with fail
                    refine (HB.out _).mono ?_
                    rintro e2 w2 ⟨rfl, rfl⟩
                    go_wp2_with fail
                    refine (HMK.out _).mono ?_
                    rintro e3 w3 ⟨rfl, hb3⟩
                    have HB3 := hide_ (HW.out.trans (hb3.mono (by simp)))
                    clear hb3 hcx
                    go_wp2
                    go_ret
                    exact ⟨ret_boolT HP.out.symm, HB3.out⟩
                  case neg =>
                    have HP := hide_ (show G = false by rw [HG.out]; unfold inB; simp [*])
                    have HA := hide_ (fun (u : World) => below7_any ac 32 true (by simp; omega) u)
                    have HB := hide_ (fun (u : World) => below7_any pa 8 false (by simp; omega) u)
                    clear q_ke q_so q_cm q_sq q_cl q_a0 q_a1 q_p0 q_p1
                    have hcx := HX.out.cell
                    go_enter Tryz.func30, Tryz.ntmps30
                    go_wp2_with fail
                    refine (HA.out _).mono ?_
                    rintro e1 w1 ⟨rfl, rfl⟩
                    go_wp2_with fail
                    refine (HB.out _).mono ?_
                    rintro e2 w2 ⟨rfl, rfl⟩
                    go_wp2
                    go_ret
                    exact ⟨ret_boolT HP.out.symm, HW.out⟩
                case neg =>
                  have HP := hide_ (show G = false by rw [HG.out]; unfold inB; simp [*])
                  have HA := hide_ (fun (u : World) => below7_any ac 32 true (by simp; omega) u)
                  have HB := hide_ (fun (u : World) => below7_any pa 8 false (by simp; omega) u)
                  clear q_ke q_so q_cm q_sq q_cl q_a0 q_a1 q_p0
                  have hcx := HX.out.cell
                  go_enter Tryz.func30, Tryz.ntmps30
                  go_wp2_with fail
                  refine (HA.out _).mono ?_
                  rintro e1 w1 ⟨rfl, rfl⟩
                  go_wp2_with fail
                  refine (HB.out _).mono ?_
                  rintro e2 w2 ⟨rfl, rfl⟩
                  go_wp2
                  go_ret
                  exact ⟨ret_boolT HP.out.symm, HW.out⟩
              case neg =>
                have HP := hide_ (show G = false by rw [HG.out]; unfold inB; simp [*])
                have HA := hide_ (fun (u : World) => below7_any ac 32 false (by simp; omega) u)
                clear q_ke q_so q_cm q_sq q_cl q_a0 q_a1
                have hcx := HX.out.cell
                go_enter Tryz.func30, Tryz.ntmps30
                go_wp2_with fail
                refine (HA.out _).mono ?_
                rintro e1 w1 ⟨rfl, rfl⟩
                go_wp2
                go_ret
                exact ⟨ret_boolT HP.out.symm, HW.out⟩
            case neg =>
              have HP := hide_ (show G = false by rw [HG.out]; unfold inB; simp [*])
              have HA := hide_ (fun (u : World) => below7_any ac 32 false (by simp; omega) u)
              clear q_ke q_so q_cm q_sq q_cl q_a0
              have hcx := HX.out.cell
              go_enter Tryz.func30, Tryz.ntmps30
              go_wp2_with fail
              refine (HA.out _).mono ?_
              rintro e1 w1 ⟨rfl, rfl⟩
              go_wp2
              go_ret
              exact ⟨ret_boolT HP.out.symm, HW.out⟩
      case neg =>
        have d_cm : decide (cl ≤ 8) = false := decide_eq_false q_cm
        have HP := hide_ (show G = false by rw [HG.out]; unfold inB; simp [*])
        clear q_ke q_so q_cm
        have hcx := HX.out.cell
        go_enter Tryz.func30, Tryz.ntmps30
        go_wp2
        go_ret
        exact ⟨ret_boolT HP.out.symm, HW.out⟩
    case neg =>
      have d_so : decide (so < 16) = false := decide_eq_false q_so
      have HP := hide_ (show G = false by rw [HG.out]; unfold inB; simp [*])
      clear q_ke q_so
      have hcx := HX.out.cell
      go_enter Tryz.func30, Tryz.ntmps30
      go_wp2
      go_ret
      exact ⟨ret_boolT HP.out.symm, HW.out⟩
  case neg =>
    have d_ke : decide (ke < 16) = false := decide_eq_false q_ke
    have HP := hide_ (show G = false by rw [HG.out]; unfold inB; simp [*])
    clear q_ke
    have hcx := HX.out.cell
    go_enter Tryz.func30, Tryz.ntmps30
    go_wp2
    go_ret
    exact ⟨ret_boolT HP.out.symm, HW.out⟩

set_option maxRecDepth 100000 in
set_option maxHeartbeats 12800000 in
theorem refMayO_any (o : OpM) (w : World) (ho : OpM.ok o) : Calls Tryz.prog 23 #[o.v] w fun e w' => e = .returned (.bool (mayO o)) ∧ Below w.heap.size w w' := by
  have hk0 : 0 ≤ o.ki := ho.1.1.1
  clear ho
  have HW := hide_ (show Below w.heap.size w (w.alloc (.cells o.box 33)) from (Below.refl _ _).alloc (Nat.le_refl _) _)
  have HX := hide_ (BoxAt.new w o.box 33)
  obtain ⟨ki, ke, cl, sq, ac, pa, ar, so, inc, ce⟩ := o
  simp only [OpM.v, OpM.box] at HW HX ⊢
  simp only at hk0
  obtain ⟨G, hG⟩ : ∃ G, mayO ⟨ki, ke, cl, sq, ac, pa, ar, so, inc, ce⟩ = G := ⟨_, rfl⟩
  have HG := hide_ (show G = (decide (ke < 16) && (decide (so < 16) && (decide (cl ≤ 8) && ((decide (sq = 0) == decide (cl = 0)) && (inB ac 0 31 && (inB pa 0 7 && mayKindB ⟨ki, ke, cl, sq, ac, pa, ar, so, inc, ce⟩)))))) by rw [← hG]; rfl)
  rw [hG]
  clear hG
  by_cases q_ke : 15 < ke
  case pos =>
    have d_ke : decide (15 < ke) = true := decide_eq_true q_ke
    have HP := hide_ (show G = false by
      rw [HG.out]
      have x_ke : ¬ ke < 16 := by omega
      unfold inB mayKindB
      simp [*])
    clear q_ke
    go_enter Tryz.func23, Tryz.ntmps23
    go_wp2
    go_ret
    exact ⟨ret_boolT HP.out.symm, HW.out⟩
  case neg =>
    have d_ke : decide (15 < ke) = false := decide_eq_false q_ke
    by_cases q_so : 15 < so
    case pos =>
      have d_so : decide (15 < so) = true := decide_eq_true q_so
      have HP := hide_ (show G = false by
        rw [HG.out]
        have x_ke : ke < 16 := by omega
        have x_so : ¬ so < 16 := by omega
        unfold inB mayKindB
        simp [*])
      clear q_ke q_so
      go_enter Tryz.func23, Tryz.ntmps23
      go_wp2
      go_ret
      exact ⟨ret_boolT HP.out.symm, HW.out⟩
    case neg =>
      have d_so : decide (15 < so) = false := decide_eq_false q_so
      by_cases q_cm : 8 < cl
      case pos =>
        have d_cm : decide (8 < cl) = true := decide_eq_true q_cm
        have HP := hide_ (show G = false by
          rw [HG.out]
          have x_ke : ke < 16 := by omega
          have x_so : so < 16 := by omega
          have x_cm : ¬ cl ≤ 8 := by omega
          unfold inB mayKindB
          simp [*])
        clear q_ke q_so q_cm
        go_enter Tryz.func23, Tryz.ntmps23
        go_wp2
        go_ret
        exact ⟨ret_boolT HP.out.symm, HW.out⟩
      case neg =>
        have d_cm : decide (8 < cl) = false := decide_eq_false q_cm
        by_cases q_a0 : ac < 0
        case pos =>
          have d_a0 : decide (ac < 0) = true := decide_eq_true q_a0
          have HP := hide_ (show G = false by
            rw [HG.out]
            have x_ke : ke < 16 := by omega
            have x_so : so < 16 := by omega
            have x_cm : cl ≤ 8 := by omega
            have x_a0 : ¬ 0 ≤ ac := by omega
            unfold inB mayKindB
            simp [*])
          clear q_ke q_so q_cm q_a0
          go_enter Tryz.func23, Tryz.ntmps23
          go_wp2
          go_ret
          exact ⟨ret_boolT HP.out.symm, HW.out⟩
        case neg =>
          have d_a0 : decide (ac < 0) = false := decide_eq_false q_a0
          by_cases q_a1 : 31 < ac
          case pos =>
            have d_a1 : decide (31 < ac) = true := decide_eq_true q_a1
            have HP := hide_ (show G = false by
              rw [HG.out]
              have x_ke : ke < 16 := by omega
              have x_so : so < 16 := by omega
              have x_cm : cl ≤ 8 := by omega
              have x_a0 : 0 ≤ ac := by omega
              have x_a1 : ¬ ac ≤ 31 := by omega
              unfold inB mayKindB
              simp [*])
            clear q_ke q_so q_cm q_a0 q_a1
            go_enter Tryz.func23, Tryz.ntmps23
            go_wp2
            go_ret
            exact ⟨ret_boolT HP.out.symm, HW.out⟩
          case neg =>
            have d_a1 : decide (31 < ac) = false := decide_eq_false q_a1
            by_cases q_p0 : pa < 0
            case pos =>
              have d_p0 : decide (pa < 0) = true := decide_eq_true q_p0
              have HP := hide_ (show G = false by
                rw [HG.out]
                have x_ke : ke < 16 := by omega
                have x_so : so < 16 := by omega
                have x_cm : cl ≤ 8 := by omega
                have x_a0 : 0 ≤ ac := by omega
                have x_a1 : ac ≤ 31 := by omega
                have x_p0 : ¬ 0 ≤ pa := by omega
                unfold inB mayKindB
                simp [*])
              clear q_ke q_so q_cm q_a0 q_a1 q_p0
              go_enter Tryz.func23, Tryz.ntmps23
              go_wp2
              go_ret
              exact ⟨ret_boolT HP.out.symm, HW.out⟩
            case neg =>
              have d_p0 : decide (pa < 0) = false := decide_eq_false q_p0
              by_cases q_p1 : 7 < pa
              case pos =>
                have d_p1 : decide (7 < pa) = true := decide_eq_true q_p1
                have HP := hide_ (show G = false by
                  rw [HG.out]
                  have x_ke : ke < 16 := by omega
                  have x_so : so < 16 := by omega
                  have x_cm : cl ≤ 8 := by omega
                  have x_a0 : 0 ≤ ac := by omega
                  have x_a1 : ac ≤ 31 := by omega
                  have x_p0 : 0 ≤ pa := by omega
                  have x_p1 : ¬ pa ≤ 7 := by omega
                  unfold inB mayKindB
                  simp [*])
                clear q_ke q_so q_cm q_a0 q_a1 q_p0 q_p1
                go_enter Tryz.func23, Tryz.ntmps23
                go_wp2
                go_ret
                exact ⟨ret_boolT HP.out.symm, HW.out⟩
              case neg =>
                have d_p1 : decide (7 < pa) = false := decide_eq_false q_p1
                by_cases q_cl : cl = 0
                case pos =>
                  have d_cl : (cl == 0) = true := beq_iff_eq.2 q_cl
                  have b_cl : (cl != 0) = false := by simp [q_cl]
                  by_cases q_sq : sq = 0
                  case pos =>
                    have d_sq : (sq == 0) = true := beq_iff_eq.2 q_sq
                    have b_sq : (sq != 0) = false := by simp [q_sq]
                    by_cases q_k1 : ki = 1
                    case pos =>
                      subst q_k1
                      have HP := hide_ (show G = false by
                        rw [HG.out]
                        have x_ke : ke < 16 := by omega
                        have x_so : so < 16 := by omega
                        have x_cm : cl ≤ 8 := by omega
                        have x_a0 : 0 ≤ ac := by omega
                        have x_a1 : ac ≤ 31 := by omega
                        have x_p0 : 0 ≤ pa := by omega
                        have x_p1 : pa ≤ 7 := by omega
                        unfold inB mayKindB
                        simp [*])
                      clear q_ke q_so q_cm q_a0 q_a1 q_p0 q_p1 q_cl q_sq
                      go_enter Tryz.func23, Tryz.ntmps23
                      go_wp2
                      go_ret
                      exact ⟨ret_boolT HP.out.symm, HW.out⟩
                    case neg =>
                      have d_k1 : (ki == 1) = false := beq_eq_false_iff_ne.2 q_k1
                      have b_k1 : (ki != 1) = true := bne_iff_ne.2 q_k1
                      by_cases q_k3 : ki = 3
                      case pos =>
                        subst q_k3
                        have HP := hide_ (show G = false by
                          rw [HG.out]
                          have x_ke : ke < 16 := by omega
                          have x_so : so < 16 := by omega
                          have x_cm : cl ≤ 8 := by omega
                          have x_a0 : 0 ≤ ac := by omega
                          have x_a1 : ac ≤ 31 := by omega
                          have x_p0 : 0 ≤ pa := by omega
                          have x_p1 : pa ≤ 7 := by omega
                          unfold inB mayKindB
                          simp [*])
                        clear q_ke q_so q_cm q_a0 q_a1 q_p0 q_p1 q_cl q_sq q_k1
                        go_enter Tryz.func23, Tryz.ntmps23
                        go_wp2
                        go_ret
                        exact ⟨ret_boolT HP.out.symm, HW.out⟩
                      case neg =>
                        have d_k3 : (ki == 3) = false := beq_eq_false_iff_ne.2 q_k3
                        have b_k3 : (ki != 3) = true := bne_iff_ne.2 q_k3
                        by_cases q_k4 : ki = 4
                        case pos =>
                          subst q_k4
                          have HP := hide_ (show G = false by
                            rw [HG.out]
                            have x_ke : ke < 16 := by omega
                            have x_so : so < 16 := by omega
                            have x_cm : cl ≤ 8 := by omega
                            have x_a0 : 0 ≤ ac := by omega
                            have x_a1 : ac ≤ 31 := by omega
                            have x_p0 : 0 ≤ pa := by omega
                            have x_p1 : pa ≤ 7 := by omega
                            unfold inB mayKindB
                            simp [*])
                          clear q_ke q_so q_cm q_a0 q_a1 q_p0 q_p1 q_cl q_sq q_k1 q_k3
                          go_enter Tryz.func23, Tryz.ntmps23
                          go_wp2
                          go_ret
                          exact ⟨ret_boolT HP.out.symm, HW.out⟩
                        case neg =>
                          have d_k4 : (ki == 4) = false := beq_eq_false_iff_ne.2 q_k4
                          have b_k4 : (ki != 4) = true := bne_iff_ne.2 q_k4
                          by_cases q_k2 : ki = 2
                          case pos =>
                            subst q_k2
                            have HP := hide_ (show G = false by
                              rw [HG.out]
                              have x_ke : ke < 16 := by omega
                              have x_so : so < 16 := by omega
                              have x_cm : cl ≤ 8 := by omega
                              have x_a0 : 0 ≤ ac := by omega
                              have x_a1 : ac ≤ 31 := by omega
                              have x_p0 : 0 ≤ pa := by omega
                              have x_p1 : pa ≤ 7 := by omega
                              unfold inB mayKindB
                              simp [*])
                            clear q_ke q_so q_cm q_a0 q_a1 q_p0 q_p1 q_cl q_sq q_k1 q_k3 q_k4
                            go_enter Tryz.func23, Tryz.ntmps23
                            go_wp2
                            go_ret
                            exact ⟨ret_boolT HP.out.symm, HW.out⟩
                          case neg =>
                            have d_k2 : (ki == 2) = false := beq_eq_false_iff_ne.2 q_k2
                            have b_k2 : (ki != 2) = true := bne_iff_ne.2 q_k2
                            by_cases q_k5 : ki = 5
                            case pos =>
                              subst q_k5
                              by_cases q_inc : inc = 0
                              case pos =>
                                have d_inc : (inc == 0) = true := beq_iff_eq.2 q_inc
                                have b_inc : (inc != 0) = false := by simp [q_inc]
                                have HP := hide_ (show G = false by
                                  rw [HG.out]
                                  have x_ke : ke < 16 := by omega
                                  have x_so : so < 16 := by omega
                                  have x_cm : cl ≤ 8 := by omega
                                  have x_a0 : 0 ≤ ac := by omega
                                  have x_a1 : ac ≤ 31 := by omega
                                  have x_p0 : 0 ≤ pa := by omega
                                  have x_p1 : pa ≤ 7 := by omega
                                  unfold inB mayKindB
                                  simp [*])
                                clear q_ke q_so q_cm q_a0 q_a1 q_p0 q_p1 q_cl q_sq q_k1 q_k3 q_k4 q_k2 q_inc
                                go_enter Tryz.func23, Tryz.ntmps23
                                go_wp2
                                go_ret
                                exact ⟨ret_boolT HP.out.symm, HW.out⟩
                              case neg =>
                                have d_inc : (inc == 0) = false := beq_eq_false_iff_ne.2 q_inc
                                have b_inc : (inc != 0) = true := bne_iff_ne.2 q_inc
                                by_cases q_ce : ce = 0
                                case pos =>
                                  have d_ce : (ce == 0) = true := beq_iff_eq.2 q_ce
                                  have b_ce : (ce != 0) = false := by simp [q_ce]
                                  have HP := hide_ (show G = false by
                                    rw [HG.out]
                                    have x_ke : ke < 16 := by omega
                                    have x_so : so < 16 := by omega
                                    have x_cm : cl ≤ 8 := by omega
                                    have x_a0 : 0 ≤ ac := by omega
                                    have x_a1 : ac ≤ 31 := by omega
                                    have x_p0 : 0 ≤ pa := by omega
                                    have x_p1 : pa ≤ 7 := by omega
                                    unfold inB mayKindB
                                    simp [*])
                                  clear q_ke q_so q_cm q_a0 q_a1 q_p0 q_p1 q_cl q_sq q_k1 q_k3 q_k4 q_k2 q_inc q_ce
                                  go_enter Tryz.func23, Tryz.ntmps23
                                  go_wp2
                                  go_ret
                                  exact ⟨ret_boolT HP.out.symm, HW.out⟩
                                case neg =>
                                  have d_ce : (ce == 0) = false := beq_eq_false_iff_ne.2 q_ce
                                  have b_ce : (ce != 0) = true := bne_iff_ne.2 q_ce
                                  have HP := hide_ (show G = true by
                                    rw [HG.out]
                                    have x_ke : ke < 16 := by omega
                                    have x_so : so < 16 := by omega
                                    have x_cm : cl ≤ 8 := by omega
                                    have x_a0 : 0 ≤ ac := by omega
                                    have x_a1 : ac ≤ 31 := by omega
                                    have x_p0 : 0 ≤ pa := by omega
                                    have x_p1 : pa ≤ 7 := by omega
                                    unfold inB mayKindB
                                    simp [*])
                                  clear q_ke q_so q_cm q_a0 q_a1 q_p0 q_p1 q_cl q_sq q_k1 q_k3 q_k4 q_k2 q_inc q_ce
                                  go_enter Tryz.func23, Tryz.ntmps23
                                  go_wp2
                                  go_ret
                                  exact ⟨ret_boolT HP.out.symm, HW.out⟩
                            case neg =>
                              have d_k5 : (ki == 5) = false := beq_eq_false_iff_ne.2 q_k5
                              have b_k5 : (ki != 5) = true := bne_iff_ne.2 q_k5
                              by_cases q_k6 : ki = 6
                              case pos =>
                                subst q_k6
                                by_cases q_inc : inc = 0
                                case pos =>
                                  have d_inc : (inc == 0) = true := beq_iff_eq.2 q_inc
                                  have b_inc : (inc != 0) = false := by simp [q_inc]
                                  have HP := hide_ (show G = false by
                                    rw [HG.out]
                                    have x_ke : ke < 16 := by omega
                                    have x_so : so < 16 := by omega
                                    have x_cm : cl ≤ 8 := by omega
                                    have x_a0 : 0 ≤ ac := by omega
                                    have x_a1 : ac ≤ 31 := by omega
                                    have x_p0 : 0 ≤ pa := by omega
                                    have x_p1 : pa ≤ 7 := by omega
                                    unfold inB mayKindB
                                    simp [*])
                                  clear q_ke q_so q_cm q_a0 q_a1 q_p0 q_p1 q_cl q_sq q_k1 q_k3 q_k4 q_k2 q_k5 q_inc
                                  go_enter Tryz.func23, Tryz.ntmps23
                                  go_wp2
                                  go_ret
                                  exact ⟨ret_boolT HP.out.symm, HW.out⟩
                                case neg =>
                                  have d_inc : (inc == 0) = false := beq_eq_false_iff_ne.2 q_inc
                                  have b_inc : (inc != 0) = true := bne_iff_ne.2 q_inc
                                  by_cases q_ce : ce = 0
                                  case pos =>
                                    have d_ce : (ce == 0) = true := beq_iff_eq.2 q_ce
                                    have b_ce : (ce != 0) = false := by simp [q_ce]
                                    have HP := hide_ (show G = false by
                                      rw [HG.out]
                                      have x_ke : ke < 16 := by omega
                                      have x_so : so < 16 := by omega
                                      have x_cm : cl ≤ 8 := by omega
                                      have x_a0 : 0 ≤ ac := by omega
                                      have x_a1 : ac ≤ 31 := by omega
                                      have x_p0 : 0 ≤ pa := by omega
                                      have x_p1 : pa ≤ 7 := by omega
                                      unfold inB mayKindB
                                      simp [*])
                                    clear q_ke q_so q_cm q_a0 q_a1 q_p0 q_p1 q_cl q_sq q_k1 q_k3 q_k4 q_k2 q_k5 q_inc q_ce
                                    go_enter Tryz.func23, Tryz.ntmps23
                                    go_wp2
                                    go_ret
                                    exact ⟨ret_boolT HP.out.symm, HW.out⟩
                                  case neg =>
                                    have d_ce : (ce == 0) = false := beq_eq_false_iff_ne.2 q_ce
                                    have b_ce : (ce != 0) = true := bne_iff_ne.2 q_ce
                                    have HP := hide_ (show G = true by
                                      rw [HG.out]
                                      have x_ke : ke < 16 := by omega
                                      have x_so : so < 16 := by omega
                                      have x_cm : cl ≤ 8 := by omega
                                      have x_a0 : 0 ≤ ac := by omega
                                      have x_a1 : ac ≤ 31 := by omega
                                      have x_p0 : 0 ≤ pa := by omega
                                      have x_p1 : pa ≤ 7 := by omega
                                      unfold inB mayKindB
                                      simp [*])
                                    clear q_ke q_so q_cm q_a0 q_a1 q_p0 q_p1 q_cl q_sq q_k1 q_k3 q_k4 q_k2 q_k5 q_inc q_ce
                                    go_enter Tryz.func23, Tryz.ntmps23
                                    go_wp2
                                    go_ret
                                    exact ⟨ret_boolT HP.out.symm, HW.out⟩
                              case neg =>
                                have d_k6 : (ki == 6) = false := beq_eq_false_iff_ne.2 q_k6
                                have b_k6 : (ki != 6) = true := bne_iff_ne.2 q_k6
                                by_cases q_k7 : ki = 7
                                case pos =>
                                  subst q_k7
                                  have HP := hide_ (show G = true by
                                    rw [HG.out]
                                    have x_ke : ke < 16 := by omega
                                    have x_so : so < 16 := by omega
                                    have x_cm : cl ≤ 8 := by omega
                                    have x_a0 : 0 ≤ ac := by omega
                                    have x_a1 : ac ≤ 31 := by omega
                                    have x_p0 : 0 ≤ pa := by omega
                                    have x_p1 : pa ≤ 7 := by omega
                                    unfold inB mayKindB
                                    simp [*])
                                  clear q_ke q_so q_cm q_a0 q_a1 q_p0 q_p1 q_cl q_sq q_k1 q_k3 q_k4 q_k2 q_k5 q_k6
                                  go_enter Tryz.func23, Tryz.ntmps23
                                  go_wp2
                                  go_ret
                                  exact ⟨ret_boolT HP.out.symm, HW.out⟩
                                case neg =>
                                  have d_k7 : (ki == 7) = false := beq_eq_false_iff_ne.2 q_k7
                                  have b_k7 : (ki != 7) = true := bne_iff_ne.2 q_k7
                                  have HP := hide_ (show G = false by
                                    rw [HG.out]
                                    have x_ke : ke < 16 := by omega
                                    have x_so : so < 16 := by omega
                                    have x_cm : cl ≤ 8 := by omega
                                    have x_a0 : 0 ≤ ac := by omega
                                    have x_a1 : ac ≤ 31 := by omega
                                    have x_p0 : 0 ≤ pa := by omega
                                    have x_p1 : pa ≤ 7 := by omega
                                    unfold inB mayKindB
                                    simp [*])
                                  have hk7 : decide (ki < 1) = true ∨ (decide (ki < 1) = false ∧ decide (7 < ki) = true) := by
                                    by_cases h : ki < 1
                                    · exact .inl (decide_eq_true h)
                                    · exact .inr ⟨decide_eq_false h, decide_eq_true (by omega)⟩
                                  clear q_ke q_so q_cm q_a0 q_a1 q_p0 q_p1 q_cl q_sq q_k1 q_k3 q_k4 q_k2 q_k5 q_k6 q_k7
                                  rcases hk7 with hk7 | ⟨hk7, hk8⟩
                                  all_goals
                                    go_enter Tryz.func23, Tryz.ntmps23
                                    go_wp2
                                    go_ret
                                    exact ⟨ret_boolT HP.out.symm, HW.out⟩
                  case neg =>
                    have d_sq : (sq == 0) = false := beq_eq_false_iff_ne.2 q_sq
                    have b_sq : (sq != 0) = true := bne_iff_ne.2 q_sq
                    have HP := hide_ (show G = false by
                      rw [HG.out]
                      have x_ke : ke < 16 := by omega
                      have x_so : so < 16 := by omega
                      have x_cm : cl ≤ 8 := by omega
                      have x_a0 : 0 ≤ ac := by omega
                      have x_a1 : ac ≤ 31 := by omega
                      have x_p0 : 0 ≤ pa := by omega
                      have x_p1 : pa ≤ 7 := by omega
                      unfold inB mayKindB
                      simp [*])
                    clear q_ke q_so q_cm q_a0 q_a1 q_p0 q_p1 q_cl q_sq
                    go_enter Tryz.func23, Tryz.ntmps23
                    go_wp2
                    go_ret
                    exact ⟨ret_boolT HP.out.symm, HW.out⟩
                case neg =>
                  have d_cl : (cl == 0) = false := beq_eq_false_iff_ne.2 q_cl
                  have b_cl : (cl != 0) = true := bne_iff_ne.2 q_cl
                  by_cases q_sq : sq = 0
                  case pos =>
                    have d_sq : (sq == 0) = true := beq_iff_eq.2 q_sq
                    have b_sq : (sq != 0) = false := by simp [q_sq]
                    have HP := hide_ (show G = false by
                      rw [HG.out]
                      have x_ke : ke < 16 := by omega
                      have x_so : so < 16 := by omega
                      have x_cm : cl ≤ 8 := by omega
                      have x_a0 : 0 ≤ ac := by omega
                      have x_a1 : ac ≤ 31 := by omega
                      have x_p0 : 0 ≤ pa := by omega
                      have x_p1 : pa ≤ 7 := by omega
                      unfold inB mayKindB
                      simp [*])
                    clear q_ke q_so q_cm q_a0 q_a1 q_p0 q_p1 q_cl q_sq
                    go_enter Tryz.func23, Tryz.ntmps23
                    go_wp2
                    go_ret
                    exact ⟨ret_boolT HP.out.symm, HW.out⟩
                  case neg =>
                    have d_sq : (sq == 0) = false := beq_eq_false_iff_ne.2 q_sq
                    have b_sq : (sq != 0) = true := bne_iff_ne.2 q_sq
                    by_cases q_k1 : ki = 1
                    case pos =>
                      subst q_k1
                      have HP := hide_ (show G = true by
                        rw [HG.out]
                        have x_ke : ke < 16 := by omega
                        have x_so : so < 16 := by omega
                        have x_cm : cl ≤ 8 := by omega
                        have x_a0 : 0 ≤ ac := by omega
                        have x_a1 : ac ≤ 31 := by omega
                        have x_p0 : 0 ≤ pa := by omega
                        have x_p1 : pa ≤ 7 := by omega
                        unfold inB mayKindB
                        simp [*])
                      clear q_ke q_so q_cm q_a0 q_a1 q_p0 q_p1 q_cl q_sq
                      go_enter Tryz.func23, Tryz.ntmps23
                      go_wp2
                      go_ret
                      exact ⟨ret_boolT HP.out.symm, HW.out⟩
                    case neg =>
                      have d_k1 : (ki == 1) = false := beq_eq_false_iff_ne.2 q_k1
                      have b_k1 : (ki != 1) = true := bne_iff_ne.2 q_k1
                      by_cases q_k3 : ki = 3
                      case pos =>
                        subst q_k3
                        have HP := hide_ (show G = true by
                          rw [HG.out]
                          have x_ke : ke < 16 := by omega
                          have x_so : so < 16 := by omega
                          have x_cm : cl ≤ 8 := by omega
                          have x_a0 : 0 ≤ ac := by omega
                          have x_a1 : ac ≤ 31 := by omega
                          have x_p0 : 0 ≤ pa := by omega
                          have x_p1 : pa ≤ 7 := by omega
                          unfold inB mayKindB
                          simp [*])
                        clear q_ke q_so q_cm q_a0 q_a1 q_p0 q_p1 q_cl q_sq q_k1
                        go_enter Tryz.func23, Tryz.ntmps23
                        go_wp2
                        go_ret
                        exact ⟨ret_boolT HP.out.symm, HW.out⟩
                      case neg =>
                        have d_k3 : (ki == 3) = false := beq_eq_false_iff_ne.2 q_k3
                        have b_k3 : (ki != 3) = true := bne_iff_ne.2 q_k3
                        by_cases q_k4 : ki = 4
                        case pos =>
                          subst q_k4
                          have HP := hide_ (show G = true by
                            rw [HG.out]
                            have x_ke : ke < 16 := by omega
                            have x_so : so < 16 := by omega
                            have x_cm : cl ≤ 8 := by omega
                            have x_a0 : 0 ≤ ac := by omega
                            have x_a1 : ac ≤ 31 := by omega
                            have x_p0 : 0 ≤ pa := by omega
                            have x_p1 : pa ≤ 7 := by omega
                            unfold inB mayKindB
                            simp [*])
                          clear q_ke q_so q_cm q_a0 q_a1 q_p0 q_p1 q_cl q_sq q_k1 q_k3
                          go_enter Tryz.func23, Tryz.ntmps23
                          go_wp2
                          go_ret
                          exact ⟨ret_boolT HP.out.symm, HW.out⟩
                        case neg =>
                          have d_k4 : (ki == 4) = false := beq_eq_false_iff_ne.2 q_k4
                          have b_k4 : (ki != 4) = true := bne_iff_ne.2 q_k4
                          by_cases q_k2 : ki = 2
                          case pos =>
                            subst q_k2
                            by_cases q_pa : pa = 0
                            case pos =>
                              have d_pa : (pa == 0) = true := beq_iff_eq.2 q_pa
                              have b_pa : (pa != 0) = false := by simp [q_pa]
                              have HP := hide_ (show G = false by
                                rw [HG.out]
                                have x_ke : ke < 16 := by omega
                                have x_so : so < 16 := by omega
                                have x_cm : cl ≤ 8 := by omega
                                have x_a0 : 0 ≤ ac := by omega
                                have x_a1 : ac ≤ 31 := by omega
                                have x_p0 : 0 ≤ pa := by omega
                                have x_p1 : pa ≤ 7 := by omega
                                unfold inB mayKindB
                                simp [*])
                              clear q_ke q_so q_cm q_a0 q_a1 q_p0 q_p1 q_cl q_sq q_k1 q_k3 q_k4 q_pa
                              go_enter Tryz.func23, Tryz.ntmps23
                              go_wp2
                              go_ret
                              exact ⟨ret_boolT HP.out.symm, HW.out⟩
                            case neg =>
                              have d_pa : (pa == 0) = false := beq_eq_false_iff_ne.2 q_pa
                              have b_pa : (pa != 0) = true := bne_iff_ne.2 q_pa
                              have HP := hide_ (show G = true by
                                rw [HG.out]
                                have x_ke : ke < 16 := by omega
                                have x_so : so < 16 := by omega
                                have x_cm : cl ≤ 8 := by omega
                                have x_a0 : 0 ≤ ac := by omega
                                have x_a1 : ac ≤ 31 := by omega
                                have x_p0 : 0 ≤ pa := by omega
                                have x_p1 : pa ≤ 7 := by omega
                                unfold inB mayKindB
                                simp [*])
                              clear q_ke q_so q_cm q_a0 q_a1 q_p0 q_p1 q_cl q_sq q_k1 q_k3 q_k4 q_pa
                              go_enter Tryz.func23, Tryz.ntmps23
                              go_wp2
                              go_ret
                              exact ⟨ret_boolT HP.out.symm, HW.out⟩
                          case neg =>
                            have d_k2 : (ki == 2) = false := beq_eq_false_iff_ne.2 q_k2
                            have b_k2 : (ki != 2) = true := bne_iff_ne.2 q_k2
                            by_cases q_k5 : ki = 5
                            case pos =>
                              subst q_k5
                              have HP := hide_ (show G = false by
                                rw [HG.out]
                                have x_ke : ke < 16 := by omega
                                have x_so : so < 16 := by omega
                                have x_cm : cl ≤ 8 := by omega
                                have x_a0 : 0 ≤ ac := by omega
                                have x_a1 : ac ≤ 31 := by omega
                                have x_p0 : 0 ≤ pa := by omega
                                have x_p1 : pa ≤ 7 := by omega
                                unfold inB mayKindB
                                simp [*])
                              clear q_ke q_so q_cm q_a0 q_a1 q_p0 q_p1 q_cl q_sq q_k1 q_k3 q_k4 q_k2
                              go_enter Tryz.func23, Tryz.ntmps23
                              go_wp2
                              go_ret
                              exact ⟨ret_boolT HP.out.symm, HW.out⟩
                            case neg =>
                              have d_k5 : (ki == 5) = false := beq_eq_false_iff_ne.2 q_k5
                              have b_k5 : (ki != 5) = true := bne_iff_ne.2 q_k5
                              by_cases q_k6 : ki = 6
                              case pos =>
                                subst q_k6
                                have HP := hide_ (show G = false by
                                  rw [HG.out]
                                  have x_ke : ke < 16 := by omega
                                  have x_so : so < 16 := by omega
                                  have x_cm : cl ≤ 8 := by omega
                                  have x_a0 : 0 ≤ ac := by omega
                                  have x_a1 : ac ≤ 31 := by omega
                                  have x_p0 : 0 ≤ pa := by omega
                                  have x_p1 : pa ≤ 7 := by omega
                                  unfold inB mayKindB
                                  simp [*])
                                clear q_ke q_so q_cm q_a0 q_a1 q_p0 q_p1 q_cl q_sq q_k1 q_k3 q_k4 q_k2 q_k5
                                go_enter Tryz.func23, Tryz.ntmps23
                                go_wp2
                                go_ret
                                exact ⟨ret_boolT HP.out.symm, HW.out⟩
                              case neg =>
                                have d_k6 : (ki == 6) = false := beq_eq_false_iff_ne.2 q_k6
                                have b_k6 : (ki != 6) = true := bne_iff_ne.2 q_k6
                                by_cases q_k7 : ki = 7
                                case pos =>
                                  subst q_k7
                                  have HP := hide_ (show G = false by
                                    rw [HG.out]
                                    have x_ke : ke < 16 := by omega
                                    have x_so : so < 16 := by omega
                                    have x_cm : cl ≤ 8 := by omega
                                    have x_a0 : 0 ≤ ac := by omega
                                    have x_a1 : ac ≤ 31 := by omega
                                    have x_p0 : 0 ≤ pa := by omega
                                    have x_p1 : pa ≤ 7 := by omega
                                    unfold inB mayKindB
                                    simp [*])
                                  clear q_ke q_so q_cm q_a0 q_a1 q_p0 q_p1 q_cl q_sq q_k1 q_k3 q_k4 q_k2 q_k5 q_k6
                                  go_enter Tryz.func23, Tryz.ntmps23
                                  go_wp2
                                  go_ret
                                  exact ⟨ret_boolT HP.out.symm, HW.out⟩
                                case neg =>
                                  have d_k7 : (ki == 7) = false := beq_eq_false_iff_ne.2 q_k7
                                  have b_k7 : (ki != 7) = true := bne_iff_ne.2 q_k7
                                  have HP := hide_ (show G = false by
                                    rw [HG.out]
                                    have x_ke : ke < 16 := by omega
                                    have x_so : so < 16 := by omega
                                    have x_cm : cl ≤ 8 := by omega
                                    have x_a0 : 0 ≤ ac := by omega
                                    have x_a1 : ac ≤ 31 := by omega
                                    have x_p0 : 0 ≤ pa := by omega
                                    have x_p1 : pa ≤ 7 := by omega
                                    unfold inB mayKindB
                                    simp [*])
                                  have hk7 : decide (ki < 1) = true ∨ (decide (ki < 1) = false ∧ decide (7 < ki) = true) := by
                                    by_cases h : ki < 1
                                    · exact .inl (decide_eq_true h)
                                    · exact .inr ⟨decide_eq_false h, decide_eq_true (by omega)⟩
                                  clear q_ke q_so q_cm q_a0 q_a1 q_p0 q_p1 q_cl q_sq q_k1 q_k3 q_k4 q_k2 q_k5 q_k6 q_k7
                                  rcases hk7 with hk7 | ⟨hk7, hk8⟩
                                  all_goals
                                    go_enter Tryz.func23, Tryz.ntmps23
                                    go_wp2
                                    go_ret
                                    exact ⟨ret_boolT HP.out.symm, HW.out⟩
end Go.Proofs.YtpiikdinphnjbaaGreat
