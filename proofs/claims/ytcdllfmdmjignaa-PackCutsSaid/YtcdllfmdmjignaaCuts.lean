/-
  scrutineerlaw01.PackCuts answers true for every input and leaves its input as it was; no condition.
-/
import Derived.Test.YtcdllfmdmjignaaNums
import Derived.Test.YtcdllfmdmjignaaLaw
namespace Go.Proofs.Ytcdllfmdmjignaa.packCuts
open Go.ChangeShapes Go.WideShapes Go.ChangeAt Go.RowKit

set_option maxRecDepth 100000 in
theorem walk_long (A : Option Addr) (n c : Nat) (x i : Int) (w : World) (h : 500 < n) (hm : n ≤ maxLen) :
    Calls Try.prog 6 #[.int .u64 x, .slice A n c, .int .i64 i] w fun e w' => e = .returned (.bool true) ∧ Below w.heap.size w w' := by
  unfold maxLen at hm
  go_enter Try.func6, Try.ntmps6
  go_wp2_with fail
  refine (awake_any _).mono ?_
  rintro e w1 ⟨rfl, hb1⟩
  go_wp2
  go_ret
  exact ⟨rfl, hb1⟩

set_option maxRecDepth 100000 in
set_option maxHeartbeats 400000 in
theorem walk_out (row : List UInt8) (A : Option Addr) (n c x : Nat) (i : Int) (w : World) (hn : row.length = n) (h1 : n ≤ 500) (hx : x < 18446744073709551616)
    (hi : i < 0 ∨ (numB x ++ rowB row).length ≤ i) (hs : Sees w w.heap.size A (bv row)) :
    Calls Try.prog 6 #[.int .u64 x, .slice A n c, .int .i64 i] w fun e w' => e = .returned (.bool true) ∧ Below w.heap.size w w' := by
  have hnl := numB_length x hx
  have hrl := numB_length row.length (by omega)
  obtain ⟨r1, hr1⟩ : ∃ r, numB x = r := ⟨_, rfl⟩
  obtain ⟨r2, hr2⟩ : ∃ r, r1 ++ rowB row = r := ⟨_, rfl⟩
  rw [hr1, hr2] at hi
  have l1 : r1.length ≤ 10 := by rw [← hr1]; exact hnl
  have l2 : r2.length ≤ 520 ∧ n < r2.length := by
    have hp := numB_pos row.length
    rw [← hr2, List.length_append, rowB, List.length_append]
    omega
  obtain ⟨l2, l3⟩ := l2
  have hrow : row.length ≤ 500 := by omega
  have HN := hide_ hn
  have R1 := hide_ hr1
  have R2 := hide_ hr2
  have HX := hide_ hx
  clear hn hr1 hr2 hx hnl hrl
  rcases hi with hi | hi
  · go_enter Try.func6, Try.ntmps6
    go_wp2_with fail
    refine (PutNum_any [] r1 x 0 none _ 0 w rfl R1.out HX.out (Sees.empty _ _ _) (by omega) (by simp)).mono ?_
    rintro e w1 ⟨A1, c1, rfl, hown1, hb1⟩
    go_wp2_with fail
    refine (PutRow_any r1 row r2 w1.heap.size A1 A _ n c1 c w1 rfl HN.out R2.out (Sees.own hown1) ((hs.below hb1).more hb1.size) (Nat.le_refl _) (by omega) (by omega)).mono ?_
    rintro e w2 ⟨A2, c2, rfl, hown2, hb2⟩
    have hb02 : Below w.heap.size w w2 := hb1.trans (hb2.mono hb1.size)
    go_wp2_with (refine (awake_any _).mono ?_; rintro e w3 ⟨rfl, hb3⟩)
    go_ret
    exact ⟨rfl, hb02.trans (hb3.mono hb02.size)⟩
  · go_enter Try.func6, Try.ntmps6
    go_wp2_with fail
    refine (PutNum_any [] r1 x 0 none _ 0 w rfl R1.out HX.out (Sees.empty _ _ _) (by omega) (by simp)).mono ?_
    rintro e w1 ⟨A1, c1, rfl, hown1, hb1⟩
    go_wp2_with fail
    refine (PutRow_any r1 row r2 w1.heap.size A1 A _ n c1 c w1 rfl HN.out R2.out (Sees.own hown1) ((hs.below hb1).more hb1.size) (Nat.le_refl _) (by omega) (by omega)).mono ?_
    rintro e w2 ⟨A2, c2, rfl, hown2, hb2⟩
    have hb02 : Below w.heap.size w w2 := hb1.trans (hb2.mono hb1.size)
    go_wp2_with (refine (awake_any _).mono ?_; rintro e w3 ⟨rfl, hb3⟩)
    go_ret
    exact ⟨rfl, hb02.trans (hb3.mono hb02.size)⟩

set_option maxRecDepth 100000 in
set_option maxHeartbeats 400000 in
theorem walk_cut (row : List UInt8) (A : Option Addr) (n c x i : Nat) (w : World) (hn : row.length = n) (h1 : n ≤ 500) (hx : x < 18446744073709551616)
    (hi : i < (numB x ++ rowB row).length) (hs : Sees w w.heap.size A (bv row)) :
    Calls Try.prog 6 #[.int .u64 x, .slice A n c, .int .i64 i] w fun e w' => e = .returned (.bool true) ∧ Below w.heap.size w w' := by
  have hnl := numB_length x hx
  have hrl := numB_length row.length (by omega)
  obtain ⟨r1, hr1⟩ : ∃ r, numB x = r := ⟨_, rfl⟩
  obtain ⟨r2, hr2⟩ : ∃ r, r1 ++ rowB row = r := ⟨_, rfl⟩
  have hcase : takeUp x (r2.take i) = .inr 2 ∨ ∃ t, takeUp x (r2.take i) = .inl (x, t) ∧ takeR (n : Int) t = .inr 2 ∧ t.length ≤ 520 := by
    rw [← hr2, ← hr1]
    by_cases hk : i < (numB x).length
    · left
      rw [List.take_append, Nat.sub_eq_zero_of_le (by omega), List.take_zero, List.append_nil]
      exact takeUp_short x i x hx hk
    · right
      rw [List.length_append] at hi
      refine ⟨(rowB row).take (i - (numB x).length), ?_, takeR_short row (n : Int) _ (by omega) (by omega) (by omega), ?_⟩
      · rw [List.take_append, List.take_of_length_le (by omega)]
        exact takeUp_put x x _ hx (Nat.le_refl _)
      · have : (rowB row).length ≤ 520 := by rw [rowB, List.length_append]; omega
        have h3 := List.length_take_le (i - (numB x).length) (rowB row)
        have h4 := List.length_take_le' (i - (numB x).length) (rowB row)
        omega
  rw [hr1, hr2] at hi
  have l1 : r1.length ≤ 10 := by rw [← hr1]; exact hnl
  have l2 : r2.length ≤ 520 := by
    rw [← hr2, List.length_append, rowB, List.length_append]
    omega
  have hrow : row.length ≤ 500 := by omega
  have hti : (r2.take i).length = i := by rw [List.length_take]; omega
  have TI := hide_ hti
  have HC := hide_ hcase
  have HN := hide_ hn
  have R1 := hide_ hr1
  have R2 := hide_ hr2
  have HX := hide_ hx
  clear hn hr1 hr2 hx hnl hrl hcase hti
  go_enter Try.func6, Try.ntmps6
  go_wp2_with fail
  refine (PutNum_any [] r1 x 0 none _ 0 w rfl R1.out HX.out (Sees.empty _ _ _) (by omega) (by simp)).mono ?_
  rintro e w1 ⟨A1, c1, rfl, hown1, hb1⟩
  go_wp2_with fail
  refine (PutRow_any r1 row r2 w1.heap.size A1 A _ n c1 c w1 rfl HN.out R2.out (Sees.own hown1) ((hs.below hb1).more hb1.size) (Nat.le_refl _) (by omega) (by omega)).mono ?_
  rintro e w2 ⟨A2, c2, rfl, hown2, hb2⟩
  have hb02 : Below w.heap.size w w2 := hb1.trans (hb2.mono hb1.size)
  have hcap : r2.length ≤ c2 := own_cap hown2
  go_wp2_with fail
  have hs2 := (Sees.own hown2).take i
  rw [← bv_take] at hs2
  refine (New_any (r2.take i) w2.heap.size A2 _ c2 w2 TI.out hs2 (Nat.le_refl _) (by omega)).mono ?_
  rintro e w4 ⟨g, rfl, hg, hr4, hb4⟩
  have hb04 : Below w.heap.size w w4 := hb02.trans (hb4.mono hb02.size)
  have hwg : w.heap.size ≤ g := Nat.le_trans hb02.size hg
  have hrow' : ∀ k, some g = some k → w.heap.size ≤ k := fun k hk => by injection hk with hk; omega
  go_wp2_with fail
  refine (Num_live x hr4 (by rw [TI.out]; omega)).mono ?_
  rcases HC.out with h | ⟨t, h, h2, h3⟩
  · rw [h]
    rintro e w5 ⟨rfl, hr5, hg5⟩
    clear h
    have hb05 : Below w.heap.size w w5 := hb04.grown hg5 hb04.size hrow'
    go_wp2_with fail
    refine (Row_err _ hr5 (by omega)).mono ?_
    rintro e w6 ⟨rfl, rfl⟩
    go_wp2_with (first | (go_at_call 18; refine (End_live hr5 2 (by simp)).mono ?_; rintro e w8 ⟨rfl, rfl⟩) | (go_at_call 7; refine (awake_any _).mono ?_; rintro e w9 ⟨rfl, hb9⟩))
    go_ret
    exact ⟨rfl, hb05.trans (hb9.mono hb05.size)⟩
  · rw [h]
    rintro e w5 ⟨rfl, hr5, hg5⟩
    have H2 := hide_ h2
    clear h h2
    have hb05 : Below w.heap.size w w5 := hb04.grown hg5 hb04.size hrow'
    go_wp2_with fail
    refine (Row_live (n : Int) hr5 (by omega) (by omega) (by omega)).mono ?_
    rw [H2.out]
    rintro e w6 ⟨rfl, hr6, hg6⟩
    have hb06 : Below w.heap.size w w6 := hb05.grown hg6 hb05.size hrow'
    go_wp2_with (first | (go_at_call 18; refine (End_live hr6 2 (by simp)).mono ?_; rintro e w8 ⟨rfl, rfl⟩) | (go_at_call 7; refine (awake_any _).mono ?_; rintro e w9 ⟨rfl, hb9⟩))
    go_ret
    exact ⟨rfl, hb06.trans (hb9.mono hb06.size)⟩

theorem own : ownKnob Try.prog.godebug = none := by kernel_rfl
theorem laid : laidOutB Try.prog = true := by kernel_rfl
theorem cells8 : Try.prog.cellsOf 5 = 1 := by kernel_rfl

theorem contract (H : Type) (enc : TypeId × Value → H) (W : World) (base : Nat) (args : Array Value) (ds gs : List (DataW H)) (before : List MemPlace)
    (hval : ∀ (j : Nat) t v, Try.f6.params[j]? = some t → args[j]? = some v → Value.okWide Try.prog W .any base t v)
    (hW : DataW.Whole enc Try.prog Try.f6.params.toList Rows.packCutsSpec.vars false W args.toList ds gs before) :
    Calls Try.prog 6 args W fun e W' => ∃ v, e = .returned v ∧ Rows.packCutsSpec.post enc Try.prog Try.f6 false true false false W args v W' := by
  have hW' := hW
  obtain ⟨p, q, hA0, hV, rfl, hfz, hnd⟩ := hW
  have hA : DataW.TrodAll enc Try.prog W 0 (fun _ => true) true Try.f6.params.toList args.toList ds p := hA0
  rw [Try.params6] at hA hval
  obtain ⟨v0, vs0, d0, ds0, p0, q0, hargs, rfl, rfl, h0, r0⟩ := trodAll_cons hA
  obtain ⟨v1, vs1, d1, ds1, p1, q1, rfl, rfl, rfl, h1, r1⟩ := trodAll_cons r0
  obtain ⟨v2, vs2, d2, ds2, p2, q2, rfl, rfl, rfl, h2, r2⟩ := trodAll_cons r1
  obtain ⟨rfl, rfl, rfl⟩ := trodAll_nil r2
  obtain rfl : args = #[v0, v1, v2] := by cases args; simp_all
  obtain ⟨rfl, rfl⟩ := trodVars_none hV
  obtain ⟨a0, rfl, rfl, rfl, w0⟩ := open_int Try.underlying23 (hval 0 23 v0 rfl rfl) h0
  have b0 : 0 ≤ a0 ∧ a0 ≤ 18446744073709551615 := by simpa [Lit.wf, IntKind.min, IntKind.max, IntKind.signed, IntKind.bits] using w0
  obtain ⟨A1, n1, c1, l1, rfl, e1, m1, M1, s1⟩ := open_bytes Try.underlying22 Try.underlying5 cells8 (hval 1 22 v1 rfl rfl) h1
  obtain ⟨a2, rfl, rfl, rfl, w2⟩ := open_int Try.underlying3 (hval 2 3 v2 rfl rfl) h2
  have b2 : -9223372036854775808 ≤ a2 ∧ a2 ≤ 9223372036854775807 := by simpa [Lit.wf, IntKind.min, IntKind.max, IntKind.signed, IntKind.bits] using w2
  have fin : ∀ (e : Ending) (W' : World), e = .returned (.bool true) ∧ Below W.heap.size W W' → ∃ v, e = .returned v ∧ Rows.packCutsSpec.post enc Try.prog Try.f6 false true false false W #[.int .u64 a0, .slice A1 n1 c1, .int .i64 a2] v W' :=
    fun e W' ⟨he, hb⟩ => ⟨_, he, law_post laid (by kernel_rfl) rfl rfl rfl Try.underlying4 hW' hb⟩
  by_cases hlong : 500 < n1
  · exact (walk_long A1 n1 c1 a0 a2 W hlong (Nat.le_trans m1 M1)).mono fin
  · obtain ⟨x, rfl⟩ := Int.eq_ofNat_of_zero_le b0.1
    by_cases hi : a2 < 0 ∨ (numB x ++ rowB l1).length ≤ a2
    · exact (walk_out l1 A1 n1 c1 x a2 W e1 (by omega) (by omega) hi s1).mono fin
    · obtain ⟨i, rfl⟩ := Int.eq_ofNat_of_zero_le (show 0 ≤ a2 by omega)
      exact (walk_cut l1 A1 n1 c1 x i W e1 (by omega) (by omega) (by omega) s1).mono fin

set_option maxRecDepth 100000 in
theorem lifted (os : Os) (started : os.Started) (H : Type) (enc : TypeId × Value → H) :
    ReturnsInHanded {} Try.checked os 6 .any (Rows.packCutsSpec.pre6 enc Try.prog Try.f6 Rows.packCutsRow.domain false) (Rows.packCutsSpec.post enc Try.prog Try.f6 false true false false) := by
  refine returnsInHanded_of_change (C := Try.checked) (s := Rows.packCutsSpec) own started (by kernel_rfl) Try.func6
    (ChangeSpec.witness6 (enc := enc) (C := Try.checked) false ⟨#[], #[.int .u64 0, .slice none 0 0, .int .i64 0], []⟩ 8 (by kernel_rfl) (by kernel_rfl) (by kernel_rfl) (by kernel_rfl)) ?_
  intro W base args ds gs before hval hW _ _
  exact contract H enc W base args ds gs before hval hW

theorem proved : Rows.PackCutsSaid :=
  OpenClaim.holds_of_wide 6 Try.f6 rfl rfl rfl rfl rfl rfl rfl ⟨rfl, rfl, rfl, rfl, rfl⟩ rfl rfl rfl rfl rfl (by kernel_rfl) Try.func6 (by kernel_rfl)
    (of_decide_eq_true (by kernel_rfl)) (by unfold Func.isWrapper; first | (rw [if_pos (by decide +kernel)]; kernel_rfl) | (rw [if_neg (by decide +kernel)]; exact ⟨rfl, rfl⟩))
    (fun os started H enc _ => lifted os started H enc)
end Go.Proofs.Ytcdllfmdmjignaa.packCuts
