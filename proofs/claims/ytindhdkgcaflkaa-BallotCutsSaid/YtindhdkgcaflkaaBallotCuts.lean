/-
  scrutineerlaw03.BallotCuts answers true for every input and leaves its input as it was; no condition.
-/
import Derived.Test.YtindhdkgcaflkaaBal4
import Derived.Test.YtindhdkgcaflkaaOpenBal
namespace Go.Proofs.Ytindhdkgcaflkaa.ballotCuts
open Go.ChangeShapes Go.WideShapes Go.ChangeAt Go.RowKit

theorem walk_out (c n l : Nat) (i : Int) (w : World) (hc : c < 18446744073709551616) (hn : n ≤ 255) (hl : l ≤ 4294967295) (hi : i < 0 ∨ ((balB c n l).length : Int) ≤ i) :
    Calls Try.prog 5 #[.agg #[.int .u64 c, .int .u8 n, .int .u32 l], .int .i64 i] w fun e w' => e = .returned (.bool true) ∧ Below w.heap.size w w' := by
  have hlen := balB_length hc hn hl
  have hpos := balB_pos c n l
  obtain ⟨r, hr⟩ : ∃ r, balB c n l = r := ⟨_, rfl⟩
  rw [hr] at hi hlen hpos
  have HR := hide_ hr
  have HC := hide_ hc
  clear hr hc
  rcases hi with hi | hi
  all_goals
    go_enter Try.func5, Try.ntmps5
    go_wp2_with fail
    refine (BalPut_any [] r c n l 0 none _ 0 _ rfl HR.out HC.out hn hl (Sees.empty _ _ _) (by omega) (by simp)).mono ?_
    rintro e w1 ⟨A1, c1, rfl, hown1, hb1⟩
    go_wp2_with fail
    refine (awake03_any _).mono ?_
    rintro e w2 ⟨rfl, hb2⟩
    go_wp2
    go_ret
    exact ⟨rfl, ((Below.refl _ _).alloc (Nat.le_refl _) _).trans ((hb1.trans (hb2.mono hb1.size)).mono (by simp))⟩

theorem walk_cut (c n l i : Nat) (w : World) (hc : c < 18446744073709551616) (hn : n ≤ 255) (hl : l ≤ 4294967295) (hi : i < (balB c n l).length) :
    Calls Try.prog 5 #[.agg #[.int .u64 c, .int .u8 n, .int .u32 l], .int .i64 i] w fun e w' => e = .returned (.bool true) ∧ Below w.heap.size w w' := by
  have hlen := balB_length hc hn hl
  have hsh := takeB_short hc hn hl hi
  obtain ⟨r, hr⟩ : ∃ r, balB c n l = r := ⟨_, rfl⟩
  rw [hr] at hi hlen hsh
  have hti : (r.take i).length = i := by rw [List.length_take]; omega
  have TI := hide_ hti
  have SH := hide_ hsh
  have HR := hide_ hr
  have HC := hide_ hc
  clear hr hc hsh hti
  go_enter Try.func5, Try.ntmps5
  go_wp2_with fail
  refine (BalPut_any [] r c n l 0 none _ 0 _ rfl HR.out HC.out hn hl (Sees.empty _ _ _) (by omega) (by simp)).mono ?_
  rintro e w1 ⟨A1, c1, rfl, hown1, hb1⟩
  have hcap : r.length ≤ c1 := own_cap hown1
  have hs1 := (Sees.own hown1).take i
  rw [← bv_take] at hs1
  go_wp2_with fail
  refine (New_any (r.take i) w1.heap.size A1 _ c1 w1 TI.out hs1 (Nat.le_refl _) (by omega)).mono ?_
  rintro e w2 ⟨g, rfl, hg, hr2, hb2⟩
  go_wp2_with fail
  refine (Get_live hr2 (by rw [TI.out]; omega)).mono ?_
  rw [SH.out]
  rintro e w3 ⟨rfl, hr3, hg3⟩
  go_wp2_with fail
  refine (None_yes _).mono ?_
  rintro e w4 ⟨rfl, hb4⟩
  have hr4 := hr3.below hb4
  go_wp2_with fail
  refine (End_live hr4 2 (by simp)).mono ?_
  rintro e w5 ⟨rfl, rfl⟩
  go_wp2_with fail
  refine (awake03_any _).mono ?_
  rintro e w6 ⟨rfl, hb6⟩
  go_wp2
  go_ret
  have hb02 := hb1.trans (hb2.mono hb1.size)
  have hb03 := hb02.grown hg3 hb02.size fun k hk => by injection hk with hk; have := hb1.size; omega
  have hb04 := hb03.trans (hb4.mono hb03.size)
  exact ⟨rfl, ((Below.refl _ _).alloc (Nat.le_refl _) _).trans ((hb04.trans (hb6.mono hb04.size)).mono (by simp))⟩

theorem own : ownKnob Try.prog.godebug = none := by kernel_rfl
theorem laid : laidOutB Try.prog = true := by kernel_rfl

theorem contract (H : Type) (enc : TypeId × Value → H) (W : World) (base : Nat) (args : Array Value) (ds gs : List (DataW H)) (before : List MemPlace)
    (hval : ∀ (j : Nat) t v, Try.f5.params[j]? = some t → args[j]? = some v → Value.okWide Try.prog W .any base t v)
    (hW : DataW.Whole enc Try.prog Try.f5.params.toList Rows.ballotCutsSpec.vars false W args.toList ds gs before) :
    Calls Try.prog 5 args W fun e W' => ∃ v, e = .returned v ∧ Rows.ballotCutsSpec.post enc Try.prog Try.f5 false true false false W args v W' := by
  have hW' := hW
  obtain ⟨p, q, hA0, hV, rfl, hfz, hnd⟩ := hW
  have hA : DataW.TrodAll enc Try.prog W 0 (fun _ => true) true Try.f5.params.toList args.toList ds p := hA0
  rw [Try.params5] at hA hval
  obtain ⟨v0, vs0, d0, ds0, p0, q0, hargs, rfl, rfl, h0, r0⟩ := trodAll_cons hA
  obtain ⟨v1, vs1, d1, ds1, p1, q1, rfl, rfl, rfl, h1, r1⟩ := trodAll_cons r0
  obtain ⟨rfl, rfl, rfl⟩ := trodAll_nil r1
  obtain rfl : args = #[v0, v1] := by cases args; simp_all
  obtain ⟨rfl, rfl⟩ := trodVars_none hV
  obtain ⟨x0, y0, z0, rfl, bx0, by0, bz0⟩ := open_bal (hval 0 25 v0 rfl rfl) h0
  obtain ⟨a1, rfl, rfl, rfl, w1⟩ := open_int Try.underlying3 (hval 1 3 v1 rfl rfl) h1
  have b1 : -9223372036854775808 ≤ a1 ∧ a1 ≤ 9223372036854775807 := by simpa [Lit.wf, IntKind.min, IntKind.max, IntKind.signed, IntKind.bits] using w1
  have fin : ∀ (e : Ending) (W' : World), e = .returned (.bool true) ∧ Below W.heap.size W W' → ∃ v, e = .returned v ∧ Rows.ballotCutsSpec.post enc Try.prog Try.f5 false true false false W #[.agg #[.int .u64 x0, .int .u8 y0, .int .u32 z0], .int .i64 a1] v W' :=
    fun e W' ⟨he, hb⟩ => ⟨_, he, law_post laid (by kernel_rfl) rfl rfl rfl Try.underlying4 hW' hb⟩
  by_cases hi : a1 < 0 ∨ ((balB x0 y0 z0).length : Int) ≤ a1
  · exact (walk_out x0 y0 z0 a1 W bx0 by0 bz0 hi).mono fin
  · obtain ⟨i, rfl⟩ := Int.eq_ofNat_of_zero_le (show 0 ≤ a1 by omega)
    exact (walk_cut x0 y0 z0 i W bx0 by0 bz0 (by omega)).mono fin

set_option maxRecDepth 100000 in
theorem lifted (os : Os) (started : os.Started) (H : Type) (enc : TypeId × Value → H) :
    ReturnsInHanded {} Try.checked os 5 .any (Rows.ballotCutsSpec.pre6 enc Try.prog Try.f5 Rows.ballotCutsRow.domain false) (Rows.ballotCutsSpec.post enc Try.prog Try.f5 false true false false) := by
  refine returnsInHanded_of_change (C := Try.checked) (s := Rows.ballotCutsSpec) own started (by kernel_rfl) Try.func5
    (ChangeSpec.witness6 (enc := enc) (C := Try.checked) false ⟨#[], #[.agg #[.int .u64 0, .int .u8 0, .int .u32 0], .int .i64 0], []⟩ 8 (by kernel_rfl) (by kernel_rfl) (by kernel_rfl) (by kernel_rfl)) ?_
  intro W base args ds gs before hval hW _ _
  exact contract H enc W base args ds gs before hval hW

theorem proved : Rows.BallotCutsSaid :=
  OpenClaim.holds_of_wide 5 Try.f5 rfl rfl rfl rfl rfl rfl rfl ⟨rfl, rfl, rfl, rfl, rfl⟩ rfl rfl rfl rfl rfl (by kernel_rfl) Try.func5 (by kernel_rfl)
    (of_decide_eq_true (by kernel_rfl)) (by unfold Func.isWrapper; first | (rw [if_pos (by decide +kernel)]; kernel_rfl) | (rw [if_neg (by decide +kernel)]; exact ⟨rfl, rfl⟩))
    (fun os started H enc _ => lifted os started H enc)
end Go.Proofs.Ytindhdkgcaflkaa.ballotCuts
