/-
  scrutineerlaw01.PackBack answers true for every input and leaves its input as it was; no condition.
-/
import Derived.Test.YtcdllfmdmjignaaNums
import Derived.Test.YtcdllfmdmjignaaLaw
namespace Go.Proofs.Ytcdllfmdmjignaa.packBack
open Go.ChangeShapes Go.WideShapes Go.ChangeAt Go.RowKit

set_option maxRecDepth 100000 in
theorem walk_long (A : Option Addr) (n c : Nat) (x i : Int) (w : World) (h : 500 < n) (hm : n ≤ maxLen) :
    Calls Try.prog 4 #[.int .u64 x, .int .i64 i, .slice A n c] w fun e w' => e = .returned (.bool true) ∧ Below w.heap.size w w' := by
  unfold maxLen at hm
  go_enter Try.func4, Try.ntmps4
  go_wp2_with fail
  refine (awake_any _).mono ?_
  rintro e w1 ⟨rfl, hb1⟩
  go_wp2
  go_ret
  exact ⟨rfl, hb1⟩

set_option maxRecDepth 100000 in
set_option maxHeartbeats 400000 in
theorem walk_short (row : List UInt8) (A : Option Addr) (n c x : Nat) (i : Int) (w : World) (hn : row.length = n) (h1 : n ≤ 500) (hx : x < 18446744073709551616)
    (hi1 : -9223372036854775808 ≤ i) (hi2 : i ≤ 9223372036854775807) (hs : Sees w w.heap.size A (bv row)) :
    Calls Try.prog 4 #[.int .u64 x, .int .i64 i, .slice A n c] w fun e w' => e = .returned (.bool true) ∧ Below w.heap.size w w' := by
  have hf := foldN_lt i hi1 hi2
  have hnl := numB_length x hx
  have hil := numB_length (foldN i) hf
  have hrl := numB_length row.length (by omega)
  obtain ⟨r1, hr1⟩ : ∃ r, numB x = r := ⟨_, rfl⟩
  obtain ⟨r2, hr2⟩ : ∃ r, r1 ++ intB i = r := ⟨_, rfl⟩
  obtain ⟨r3, hr3⟩ : ∃ r, r2 ++ rowB row = r := ⟨_, rfl⟩
  have l1 : r1.length ≤ 10 := by rw [← hr1]; exact hnl
  have l2 : r2.length ≤ 20 := by rw [← hr2, List.length_append, intB]; omega
  have l3 : r3.length ≤ 530 := by rw [← hr3, List.length_append, rowB, List.length_append]; omega
  have hrow : row.length ≤ 500 := by omega
  have t1 : takeUp x r3 = .inl (x, intB i ++ rowB row) := by rw [← hr3, ← hr2, ← hr1, List.append_assoc]; exact takeUp_put x x _ hx (Nat.le_refl _)
  have t2 : takeN 0 0 (intB i ++ rowB row) = .inl (foldN i, rowB row) := takeN_put _ _ hf
  have t3 : takeR (n : Int) (rowB row) = .inl (row, []) := by
    have h := takeR_put row [] (n : Int) (by omega) (by omega)
    rwa [List.append_nil] at h
  have l4 : (intB i ++ rowB row).length ≤ 530 := by
    have h : r3.length = r1.length + (intB i ++ rowB row).length := by rw [← hr3, ← hr2, List.append_assoc, List.length_append]
    omega
  have l5 : (rowB row).length ≤ 530 := by rw [rowB, List.length_append]; omega
  have HN := hide_ hn
  have R1 := hide_ hr1
  have R2 := hide_ hr2
  have R3 := hide_ hr3
  have T1 := hide_ t1
  have T2 := hide_ t2
  have T3 := hide_ t3
  have HX := hide_ hx
  have HI := hide_ hi1
  have HJ := hide_ hi2
  clear hn hr1 hr2 hr3 t1 t2 t3 hx hi1 hi2 hnl hil hrl hf
  go_enter Try.func4, Try.ntmps4
  go_wp2_with fail
  refine (PutNum_any [] r1 x 0 none _ 0 w rfl R1.out HX.out (Sees.empty _ _ _) (by omega) (by simp)).mono ?_
  rintro e w1 ⟨A1, c1, rfl, hown1, hb1⟩
  go_wp2_with fail
  refine (PutInt_any r1 r2 i w1.heap.size A1 _ c1 w1 rfl R2.out HI.out HJ.out (Sees.own hown1) (Nat.le_refl _) (by omega)).mono ?_
  rintro e w2 ⟨A2, c2, rfl, hown2, hb2⟩
  have hb02 : Below w.heap.size w w2 := hb1.trans (hb2.mono hb1.size)
  go_wp2_with fail
  refine (PutRow_any r2 row r3 w2.heap.size A2 A _ n c2 c w2 rfl HN.out R3.out (Sees.own hown2) ((hs.below hb02).more hb02.size) (Nat.le_refl _) (by omega) (by omega)).mono ?_
  rintro e w3 ⟨A3, c3, rfl, hown3, hb3⟩
  have hb03 : Below w.heap.size w w3 := hb02.trans (hb3.mono hb02.size)
  go_wp2_with fail
  refine (New_any r3 w3.heap.size A3 _ c3 w3 rfl (Sees.own hown3) (Nat.le_refl _) (by omega)).mono ?_
  rintro e w4 ⟨g, rfl, hg, hr4, hb4⟩
  have hb04 : Below w.heap.size w w4 := hb03.trans (hb4.mono hb03.size)
  have hwg : w.heap.size ≤ g := Nat.le_trans hb03.size hg
  have hrow' : ∀ k, some g = some k → w.heap.size ≤ k := fun k hk => by injection hk with hk; omega
  go_wp2_with fail
  refine (Num_live x hr4 (by omega)).mono ?_
  rw [T1.out]
  rintro e w5 ⟨rfl, hr5, hg5⟩
  have hb05 : Below w.heap.size w w5 := hb04.grown hg5 hb04.size hrow'
  go_wp2_with fail
  refine (Int_live hr5 (by omega)).mono ?_
  rw [T2.out]
  rintro e w6 ⟨rfl, hr6, hg6⟩
  rw [unfold_fold]
  have hb06 : Below w.heap.size w w6 := hb05.grown hg6 hb05.size hrow'
  go_wp2_with fail
  refine (Row_live (n : Int) hr6 (by omega) (by omega) (by omega)).mono ?_
  rw [T3.out]
  rintro e w7 ⟨A7, c7, ⟨rfl, hr7, hg7⟩, hown7⟩
  have hb07 : Below w.heap.size w w7 := hb06.grown hg7 hb06.size hrow'
  have k1 := run_str (P := Try.prog) w7 22 9 5 Try.underlying22 Try.underlying5 Try.underlying9 row _ A7 row.length c7 rfl (Sees.own hown7)
  have k2 := run_str (P := Try.prog) w7 22 9 5 Try.underlying22 Try.underlying5 Try.underlying9 row _ A n c HN.out (hs.below hb07)
  go_wp2_with (first | (go_at_call 18; refine (End_live hr7 0 (by simp)).mono ?_; rintro e w8 ⟨rfl, rfl⟩) | (go_at_call 7; refine (awake_any _).mono ?_; rintro e w9 ⟨rfl, hb9⟩))
  go_ret
  exact ⟨rfl, hb07.trans (hb9.mono hb07.size)⟩

theorem own : ownKnob Try.prog.godebug = none := by kernel_rfl
theorem laid : laidOutB Try.prog = true := by kernel_rfl
theorem cells8 : Try.prog.cellsOf 5 = 1 := by kernel_rfl

theorem contract (H : Type) (enc : TypeId × Value → H) (W : World) (base : Nat) (args : Array Value) (ds gs : List (DataW H)) (before : List MemPlace)
    (hval : ∀ (j : Nat) t v, Try.f4.params[j]? = some t → args[j]? = some v → Value.okWide Try.prog W .any base t v)
    (hW : DataW.Whole enc Try.prog Try.f4.params.toList Rows.packBackSpec.vars false W args.toList ds gs before) :
    Calls Try.prog 4 args W fun e W' => ∃ v, e = .returned v ∧ Rows.packBackSpec.post enc Try.prog Try.f4 false true false false W args v W' := by
  have hW' := hW
  obtain ⟨p, q, hA0, hV, rfl, hfz, hnd⟩ := hW
  have hA : DataW.TrodAll enc Try.prog W 0 (fun _ => true) true Try.f4.params.toList args.toList ds p := hA0
  rw [Try.params4] at hA hval
  obtain ⟨v0, vs0, d0, ds0, p0, q0, hargs, rfl, rfl, h0, r0⟩ := trodAll_cons hA
  obtain ⟨v1, vs1, d1, ds1, p1, q1, rfl, rfl, rfl, h1, r1⟩ := trodAll_cons r0
  obtain ⟨v2, vs2, d2, ds2, p2, q2, rfl, rfl, rfl, h2, r2⟩ := trodAll_cons r1
  obtain ⟨rfl, rfl, rfl⟩ := trodAll_nil r2
  obtain rfl : args = #[v0, v1, v2] := by cases args; simp_all
  obtain ⟨rfl, rfl⟩ := trodVars_none hV
  obtain ⟨a0, rfl, rfl, rfl, w0⟩ := open_int Try.underlying23 (hval 0 23 v0 rfl rfl) h0
  have b0 : 0 ≤ a0 ∧ a0 ≤ 18446744073709551615 := by simpa [Lit.wf, IntKind.min, IntKind.max, IntKind.signed, IntKind.bits] using w0
  obtain ⟨a1, rfl, rfl, rfl, w1⟩ := open_int Try.underlying2 (hval 1 2 v1 rfl rfl) h1
  have b1 : -9223372036854775808 ≤ a1 ∧ a1 ≤ 9223372036854775807 := by simpa [Lit.wf, IntKind.min, IntKind.max, IntKind.signed, IntKind.bits] using w1
  obtain ⟨A2, n2, c2, l2, rfl, e2, m2, M2, s2⟩ := open_bytes Try.underlying22 Try.underlying5 cells8 (hval 2 22 v2 rfl rfl) h2
  have fin : ∀ (e : Ending) (W' : World), e = .returned (.bool true) ∧ Below W.heap.size W W' → ∃ v, e = .returned v ∧ Rows.packBackSpec.post enc Try.prog Try.f4 false true false false W #[.int .u64 a0, .int .i64 a1, .slice A2 n2 c2] v W' :=
    fun e W' ⟨he, hb⟩ => ⟨_, he, law_post laid (by kernel_rfl) rfl rfl rfl Try.underlying4 hW' hb⟩
  by_cases hlong : 500 < n2
  · exact (walk_long A2 n2 c2 a0 a1 W hlong (Nat.le_trans m2 M2)).mono fin
  · obtain ⟨x, rfl⟩ := Int.eq_ofNat_of_zero_le b0.1
    exact (walk_short l2 A2 n2 c2 x a1 W e2 (by omega) (by omega) b1.1 b1.2 s2).mono fin

set_option maxRecDepth 100000 in
theorem lifted (os : Os) (started : os.Started) (H : Type) (enc : TypeId × Value → H) :
    ReturnsInHanded {} Try.checked os 4 .any (Rows.packBackSpec.pre6 enc Try.prog Try.f4 Rows.packBackRow.domain false) (Rows.packBackSpec.post enc Try.prog Try.f4 false true false false) := by
  refine returnsInHanded_of_change (C := Try.checked) (s := Rows.packBackSpec) own started (by kernel_rfl) Try.func4
    (ChangeSpec.witness6 (enc := enc) (C := Try.checked) false ⟨#[], #[.int .u64 0, .int .i64 0, .slice none 0 0], []⟩ 8 (by kernel_rfl) (by kernel_rfl) (by kernel_rfl) (by kernel_rfl)) ?_
  intro W base args ds gs before hval hW _ _
  exact contract H enc W base args ds gs before hval hW

theorem proved : Rows.PackBackSaid :=
  OpenClaim.holds_of_wide 4 Try.f4 rfl rfl rfl rfl rfl rfl rfl ⟨rfl, rfl, rfl, rfl, rfl⟩ rfl rfl rfl rfl rfl (by kernel_rfl) Try.func4 (by kernel_rfl)
    (of_decide_eq_true (by kernel_rfl)) (by unfold Func.isWrapper; first | (rw [if_pos (by decide +kernel)]; kernel_rfl) | (rw [if_neg (by decide +kernel)]; exact ⟨rfl, rfl⟩))
    (fun os started H enc _ => lifted os started H enc)
end Go.Proofs.Ytcdllfmdmjignaa.packBack
