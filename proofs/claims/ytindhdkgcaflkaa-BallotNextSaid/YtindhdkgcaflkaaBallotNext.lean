/-
  scrutineerlaw03.BallotNext answers true for every input and leaves its input as it was; no condition.
-/
import Derived.Test.YtindhdkgcaflkaaBal2
import Derived.Deep.RegionHeld
import Derived.Test.YtindhdkgcaflkaaOpenBal
namespace Go.Proofs.Ytindhdkgcaflkaa.ballotNext
open Go.ChangeShapes Go.WideShapes Go.ChangeAt Go.RowKit

theorem less_of {c s : Nat} (n l n' l' : Nat) (h : c ≤ s) : cmpB c n l (s + 1) n' l' = -1 := by
  rw [cmpB, cmpN_lt (by omega), if_pos (by decide)]

theorem less_calls {s : Int} (n l c' n' l' : Nat) (h0 : 0 ≤ s) (hle : (c' : Int) ≤ s) (w : World) :
    Calls Try.prog 6 #[.agg #[.int .u64 c', .int .u8 n', .int .u32 l'], .agg #[.int .u64 (s + 1), .int .u8 n, .int .u32 l]] w fun e w' => e = .returned (.int .i64 (-1)) ∧ Below w.heap.size w w' := by
  obtain ⟨k, rfl⟩ := Int.eq_ofNat_of_zero_le h0
  have h := Compare_any c' n' l' (k + 1) n l w
  rw [less_of n' l' n l (show c' ≤ k by omega)] at h
  exact h

set_option maxRecDepth 100000 in
theorem walk_full (s : Int) (n l c' n' l' : Nat) (w : World) (h : 9223372036854775808 ≤ s) :
    Calls Try.prog 4 #[.int .u64 s, .int .u8 n, .int .u32 l, .agg #[.int .u64 c', .int .u8 n', .int .u32 l']] w fun e w' => e = .returned (.bool true) ∧ Below w.heap.size w w' := by
  go_enter Try.func4, Try.ntmps4
  go_wp2_with fail
  refine (Next_no s n l _ h).mono ?_
  rintro e w1 ⟨rfl, hb1⟩
  go_wp2_with fail
  refine (awake03_any _).mono ?_
  rintro e w2 ⟨rfl, hb2⟩
  go_wp2
  go_ret
  exact ⟨rfl, ((Below.refl _ _).alloc (Nat.le_refl _) _).trans (((hb1.alloc hb1.size _).trans (hb2.mono (by have := hb1.size; simp at this ⊢; omega))).mono (by simp))⟩

set_option maxRecDepth 100000 in
theorem walk_more (s : Int) (n l c' n' l' : Nat) (w : World) (h : s < 9223372036854775808) (h0 : 0 ≤ s) (hgt : s < (c' : Int)) :
    Calls Try.prog 4 #[.int .u64 s, .int .u8 n, .int .u32 l, .agg #[.int .u64 c', .int .u8 n', .int .u32 l']] w fun e w' => e = .returned (.bool true) ∧ Below w.heap.size w w' := by
  go_enter Try.func4, Try.ntmps4
  go_wp2_with fail
  refine (Next_yes s n l _ h h0).mono ?_
  rintro e w1 ⟨rfl, hb1⟩
  have k0 : ∀ o, (w1.alloc o).cell? ⟨w.heap.size, 0, none⟩ = some (.int .u64 c') := fun o => by
    have h : w1.cell? ⟨w.heap.size, 0, none⟩ = some (.int .u64 c') := by rw [hb1.cell (by simp)]; simp [go_sem]
    rw [World.cell?_alloc_some _ _ _ (by rw [h]; rfl), h]
  go_wp2_with (refine (awake03_any _).mono ?_; rintro e w2 ⟨rfl, hb2⟩)
  go_ret
  exact ⟨rfl, ((Below.refl _ _).alloc (Nat.le_refl _) _).trans (((hb1.alloc hb1.size _).trans (hb2.mono (by have := hb1.size; simp at this ⊢; omega))).mono (by simp))⟩

set_option maxRecDepth 100000 in
theorem walk_less (s : Int) (n l c' n' l' : Nat) (w : World) (h : s < 9223372036854775808) (h0 : 0 ≤ s) (hle : (c' : Int) ≤ s) :
    Calls Try.prog 4 #[.int .u64 s, .int .u8 n, .int .u32 l, .agg #[.int .u64 c', .int .u8 n', .int .u32 l']] w fun e w' => e = .returned (.bool true) ∧ Below w.heap.size w w' := by
  have k := less_calls n l c' n' l' h0 hle
  have KC := hide_ k
  clear k
  go_enter Try.func4, Try.ntmps4
  go_wp2_with fail
  refine (Next_yes s n l _ h h0).mono ?_
  rintro e w1 ⟨rfl, hb1⟩
  have k0 : ∀ o, (w1.alloc o).cell? ⟨w.heap.size, 0, none⟩ = some (.int .u64 c') := fun o => by
    have h : w1.cell? ⟨w.heap.size, 0, none⟩ = some (.int .u64 c') := by rw [hb1.cell (by simp)]; simp [go_sem]
    rw [World.cell?_alloc_some _ _ _ (by rw [h]; rfl), h]
  have k1 : ∀ o, (w1.alloc o).cell? ⟨w.heap.size, 1, none⟩ = some (.int .u8 n') := fun o => by
    have h : w1.cell? ⟨w.heap.size, 1, none⟩ = some (.int .u8 n') := by rw [hb1.cell (by simp)]; simp [go_sem]
    rw [World.cell?_alloc_some _ _ _ (by rw [h]; rfl), h]
  have k2 : ∀ o, (w1.alloc o).cell? ⟨w.heap.size, 2, none⟩ = some (.int .u32 l') := fun o => by
    have h : w1.cell? ⟨w.heap.size, 2, none⟩ = some (.int .u32 l') := by rw [hb1.cell (by simp)]; simp [go_sem]
    rw [World.cell?_alloc_some _ _ _ (by rw [h]; rfl), h]
  go_wp2_with fail
  refine (KC.out _).mono ?_
  rintro e w2 ⟨rfl, hb2⟩
  have hb02 := (hb1.alloc hb1.size _).trans (hb2.mono (by have := hb1.size; simp at this ⊢; omega))
  go_wp2_with (refine (awake03_any _).mono ?_; rintro e w3 ⟨rfl, hb3⟩)
  go_ret
  exact ⟨rfl, ((Below.refl _ _).alloc (Nat.le_refl _) _).trans ((hb02.trans (hb3.mono hb02.size)).mono (by simp))⟩

theorem own : ownKnob Try.prog.godebug = none := by kernel_rfl
theorem laid : laidOutB Try.prog = true := by kernel_rfl

theorem contract (H : Type) (enc : TypeId × Value → H) (W : World) (base : Nat) (args : Array Value) (ds gs : List (DataW H)) (before : List MemPlace)
    (hval : ∀ (j : Nat) t v, Try.f4.params[j]? = some t → args[j]? = some v → Value.okWide Try.prog W .any base t v)
    (hW : DataW.Whole enc Try.prog Try.f4.params.toList Rows.ballotNextSpec.vars false W args.toList ds gs before) :
    Calls Try.prog 4 args W fun e W' => ∃ v, e = .returned v ∧ Rows.ballotNextSpec.post enc Try.prog Try.f4 false true false false W args v W' := by
  have hW' := hW
  obtain ⟨p, q, hA0, hV, rfl, hfz, hnd⟩ := hW
  have hA : DataW.TrodAll enc Try.prog W 0 (fun _ => true) true Try.f4.params.toList args.toList ds p := hA0
  rw [Try.params4] at hA hval
  obtain ⟨v0, vs0, d0, ds0, p0, q0, hargs, rfl, rfl, h0, r0⟩ := trodAll_cons hA
  obtain ⟨v1, vs1, d1, ds1, p1, q1, rfl, rfl, rfl, h1, r1⟩ := trodAll_cons r0
  obtain ⟨v2, vs2, d2, ds2, p2, q2, rfl, rfl, rfl, h2, r2⟩ := trodAll_cons r1
  obtain ⟨v3, vs3, d3, ds3, p3, q3, rfl, rfl, rfl, h3, r3⟩ := trodAll_cons r2
  obtain ⟨rfl, rfl, rfl⟩ := trodAll_nil r3
  obtain rfl : args = #[v0, v1, v2, v3] := by cases args; simp_all
  obtain ⟨rfl, rfl⟩ := trodVars_none hV
  obtain ⟨a0, rfl, rfl, rfl, w0⟩ := open_int Try.underlying22 (hval 0 22 v0 rfl rfl) h0
  have b0 : 0 ≤ a0 ∧ a0 ≤ 18446744073709551615 := by simpa [Lit.wf, IntKind.min, IntKind.max, IntKind.signed, IntKind.bits] using w0
  obtain ⟨a1, rfl, rfl, rfl, w1⟩ := open_int Try.underlying5 (hval 1 5 v1 rfl rfl) h1
  have b1 : 0 ≤ a1 ∧ a1 ≤ 255 := by simpa [Lit.wf, IntKind.min, IntKind.max, IntKind.signed, IntKind.bits] using w1
  obtain ⟨a2, rfl, rfl, rfl, w2⟩ := open_int Try.underlying23 (hval 2 23 v2 rfl rfl) h2
  have b2 : 0 ≤ a2 ∧ a2 ≤ 4294967295 := by simpa [Lit.wf, IntKind.min, IntKind.max, IntKind.signed, IntKind.bits] using w2
  obtain ⟨x3, y3, z3, rfl, _, _, _⟩ := open_bal (hval 3 25 v3 rfl rfl) h3
  have fin : ∀ (e : Ending) (W' : World), e = .returned (.bool true) ∧ Below W.heap.size W W' → ∃ v, e = .returned v ∧ Rows.ballotNextSpec.post enc Try.prog Try.f4 false true false false W #[.int .u64 a0, .int .u8 a1, .int .u32 a2, .agg #[.int .u64 x3, .int .u8 y3, .int .u32 z3]] v W' :=
    fun e W' ⟨he, hb⟩ => ⟨_, he, law_post laid (by kernel_rfl) rfl rfl rfl Try.underlying4 hW' hb⟩
  obtain ⟨n, rfl⟩ := Int.eq_ofNat_of_zero_le b1.1
  obtain ⟨l, rfl⟩ := Int.eq_ofNat_of_zero_le b2.1
  by_cases hi : 9223372036854775808 ≤ a0
  · exact (walk_full a0 n l x3 y3 z3 W hi).mono fin
  · by_cases hx : a0 < (x3 : Int)
    · exact (walk_more a0 n l x3 y3 z3 W (by omega) b0.1 hx).mono fin
    · exact (walk_less a0 n l x3 y3 z3 W (by omega) b0.1 (by omega)).mono fin

set_option maxRecDepth 100000 in
theorem lifted (os : Os) (started : os.Started) (H : Type) (enc : TypeId × Value → H) :
    ReturnsInHanded {} Try.checked os 4 .any (Rows.ballotNextSpec.pre6 enc Try.prog Try.f4 Rows.ballotNextRow.domain false) (Rows.ballotNextSpec.post enc Try.prog Try.f4 false true false false) := by
  refine returnsInHanded_of_change (C := Try.checked) (s := Rows.ballotNextSpec) own started (by kernel_rfl) Try.func4
    (ChangeSpec.witness6 (enc := enc) (C := Try.checked) false ⟨#[], #[.int .u64 0, .int .u8 0, .int .u32 0, .agg #[.int .u64 0, .int .u8 0, .int .u32 0]], []⟩ 8 (by kernel_rfl) (by kernel_rfl) (by kernel_rfl) (by kernel_rfl)) ?_
  intro W base args ds gs before hval hW _ _
  exact contract H enc W base args ds gs before hval hW

theorem proved : Rows.BallotNextSaid :=
  OpenClaim.holds_of_wide 4 Try.f4 rfl rfl rfl rfl rfl rfl rfl ⟨rfl, rfl, rfl, rfl, rfl⟩ rfl rfl rfl rfl rfl (by kernel_rfl) Try.func4 (by kernel_rfl)
    (of_decide_eq_true (by kernel_rfl)) (by unfold Func.isWrapper; first | (rw [if_pos (by decide +kernel)]; kernel_rfl) | (rw [if_neg (by decide +kernel)]; exact ⟨rfl, rfl⟩))
    (fun os started H enc _ => lifted os started H enc)
end Go.Proofs.Ytindhdkgcaflkaa.ballotNext
