/-
  scrutineerlaw01.PackPuts answers true for every input and leaves its input as it was; no condition.
-/
import Derived.Test.YtcdllfmdmjignaaRef
import Derived.Test.YtcdllfmdmjignaaLaw
namespace Go.Proofs.Ytcdllfmdmjignaa.packPuts
open Go.ChangeShapes Go.WideShapes Go.ChangeAt Go.RowKit

set_option maxRecDepth 100000 in
theorem walk_long (A A2 : Option Addr) (n n2 c c2 : Nat) (x i : Int) (w : World) (h : 500 < n ∨ 500 < n2) (hm : n ≤ maxLen) (hm2 : n2 ≤ maxLen) :
    Calls Try.prog 3 #[.slice A n c, .int .u64 x, .int .i64 i, .slice A2 n2 c2] w fun e w' => e = .returned (.bool true) ∧ Below w.heap.size w w' := by
  unfold maxLen at hm hm2
  by_cases h1 : 500 < n
  · clear h
    go_enter Try.func3, Try.ntmps3
    go_wp2_with fail
    refine (awake_any _).mono ?_
    rintro e w1 ⟨rfl, hb1⟩
    go_wp2
    go_ret
    exact ⟨rfl, hb1⟩
  · have h2 : 500 < n2 := by omega
    clear h
    go_enter Try.func3, Try.ntmps3
    go_wp2_with fail
    refine (awake_any _).mono ?_
    rintro e w1 ⟨rfl, hb1⟩
    go_wp2
    go_ret
    exact ⟨rfl, hb1⟩

set_option maxRecDepth 100000 in
set_option maxHeartbeats 400000 in
theorem walk_short (l row : List UInt8) (A A2 : Option Addr) (n n2 c c2 : Nat) (x : Nat) (i : Int) (w : World) (hn : l.length = n) (hn2 : row.length = n2) (h1 : n ≤ 500) (h2 : n2 ≤ 500) (hx : x < 18446744073709551616)
    (hi1 : -9223372036854775808 ≤ i) (hi2 : i ≤ 9223372036854775807) (hs : Sees w w.heap.size A (bv l)) (hs2 : Sees w w.heap.size A2 (bv row)) :
    Calls Try.prog 3 #[.slice A n c, .int .u64 x, .int .i64 i, .slice A2 n2 c2] w fun e w' => e = .returned (.bool true) ∧ Below w.heap.size w w' := by
  have hnl := numB_length x hx
  have hil := numB_length (foldN i) (foldN_lt i hi1 hi2)
  have hrl := numB_length row.length (by omega)
  obtain ⟨r2, hr2⟩ : ∃ r, l ++ numB x = r := ⟨_, rfl⟩
  obtain ⟨r3, hr3⟩ : ∃ r, r2 ++ intB i = r := ⟨_, rfl⟩
  obtain ⟨r4, hr4⟩ : ∃ r, r3 ++ rowB row = r := ⟨_, rfl⟩
  have l2 : r2.length ≤ 510 := by rw [← hr2, List.length_append]; omega
  have l3 : r3.length ≤ 520 := by rw [← hr3, List.length_append, intB]; omega
  have l4 : r4.length ≤ 1030 := by rw [← hr4, List.length_append, rowB, List.length_append]; omega
  have hl : l.length ≤ 500 := by omega
  have hrow : row.length ≤ 500 := by omega
  have HN := hide_ hn
  have HN2 := hide_ hn2
  have R2 := hide_ hr2
  have R3 := hide_ hr3
  have R4 := hide_ hr4
  have HX := hide_ hx
  have HI := hide_ hi1
  have HJ := hide_ hi2
  clear hn hn2 hr2 hr3 hr4 hx hi1 hi2
  go_enter Try.func3, Try.ntmps3
  go_wp2_with (at_builtin; refine wpList_append_bytes (P := Try.prog) _ rfl (.tmp 21) (.tmp 22) 22 rfl w.heap.size 5 u8_info Try.underlying22 _ 0 [] l l rfl rfl (World.ownsRow_lit w #[] 0 (Nat.le_refl _) (by simp [maxLen]) rfl) w.heap.size A n c rfl HN.out (hs.below ((Below.refl _ _).alloc (Nat.le_refl _) _)) (by omega) (by simp) ?_; intro A1 c1 w1 hown1 hb1)
  have hb1' : Below w.heap.size w w1 := ((Below.refl _ _).alloc (Nat.le_refl _) _).trans hb1
  refine (PutNum_any l r2 x w1.heap.size A1 _ c1 w1 rfl R2.out HX.out (Sees.own hown1) (Nat.le_refl _) (by omega)).mono ?_
  rintro e w2 ⟨A2', c2', rfl, hown2, hb2⟩
  go_wp2_with fail
  refine (PutInt_any r2 r3 i w2.heap.size A2' _ c2' w2 rfl R3.out HI.out HJ.out (Sees.own hown2) (Nat.le_refl _) (by omega)).mono ?_
  rintro e w3 ⟨A3, c3, rfl, hown3, hb3⟩
  have hb13 : Below w1.heap.size w1 w3 := hb2.trans (hb3.mono hb2.size)
  have hb03 : Below w.heap.size w w3 := hb1'.trans (hb13.mono hb1'.size)
  go_wp2_with fail
  refine (PutRow_any r3 row r4 w3.heap.size A3 A2 _ n2 c3 c2 w3 rfl HN2.out R4.out (Sees.own hown3) ((hs2.below hb03).more hb03.size) (Nat.le_refl _) (by omega) (by omega)).mono ?_
  rintro e w4 ⟨A4, c4, rfl, hown4, hb4⟩
  have hb14 : Below w1.heap.size w1 w4 := hb13.trans (hb4.mono hb13.size)
  have hb04 : Below w.heap.size w w4 := hb1'.trans (hb14.mono hb1'.size)
  have hz04 := hb04.size
  go_wp2_with (at_builtin; refine wpList_append_bytes (P := Try.prog) _ rfl (.tmp 31) (.tmp 32) 22 rfl w4.heap.size 5 u8_info Try.underlying22 _ 0 [] l l rfl rfl (World.ownsRow_lit w4 #[] 0 (Nat.le_refl _) (by simp [maxLen]) rfl) w.heap.size A n c rfl HN.out ((hs.below hb04).below ((Below.refl _ _).alloc hb04.size _)) (by omega) (by simp) ?_; intro A5 c5 w5 hown5 hb5)
  have hb5' : Below w4.heap.size w4 w5 := ((Below.refl _ _).alloc (Nat.le_refl _) _).trans hb5
  refine (refNum_any x _ w5 rfl HX.out).mono ?_
  rintro e w6 ⟨A6, c6, rfl, hown6, hb6⟩
  have hb6' : Below w4.heap.size w4 w6 := hb5'.trans (hb6.mono hb5'.size)
  have hown5' := own_below hown5 hb6
  go_wp2_with (at_builtin; refine wpList_append_bytes (P := Try.prog) _ rfl (.tmp 33) (.tmp 35) 22 rfl w4.heap.size 5 u8_info Try.underlying22 _ _ l (numB x) r2 R2.out rfl hown5' w6.heap.size A6 _ c6 rfl rfl (Sees.own hown6) (by omega) hb6'.size ?_; intro A7 c7 w7 hown7 hb7)
  have hb7' : Below w4.heap.size w4 w7 := hb6'.trans hb7
  refine (refInt_any i _ w7 rfl HI.out HJ.out).mono ?_
  rintro e w8 ⟨A8, c8, rfl, hown8, hb8⟩
  have hb8' : Below w4.heap.size w4 w8 := hb7'.trans (hb8.mono hb7'.size)
  have hown7' := own_below hown7 hb8
  have hil' : (intB i).length ≤ 10 := hil
  go_wp2_with (at_builtin; refine wpList_append_bytes (P := Try.prog) _ rfl (.tmp 36) (.tmp 38) 22 rfl w4.heap.size 5 u8_info Try.underlying22 _ _ r2 (intB i) r3 R3.out rfl hown7' w8.heap.size A8 _ c8 rfl rfl (Sees.own hown8) (by omega) hb8'.size ?_; intro A9 c9 w9 hown9 hb9)
  have hb9' : Below w4.heap.size w4 w9 := hb8'.trans hb9
  have hb09 : Below w.heap.size w w9 := hb04.trans (hb9'.mono hz04)
  refine (refRow_any row _ w.heap.size A2 n2 c2 w9 HN2.out rfl (hs2.below hb09) hb09.size (by omega)).mono ?_
  rintro e w10 ⟨A10, c10, rfl, hown10, hb10⟩
  have hb10' : Below w4.heap.size w4 w10 := hb9'.trans (hb10.mono hb9'.size)
  have hown9' := own_below hown9 hb10
  have hrw : (rowB row).length ≤ 510 := by rw [rowB, List.length_append]; omega
  clear hnl hil hil' hrl
  go_wp2_with (at_builtin; refine wpList_append_bytes (P := Try.prog) _ rfl (.tmp 39) (.tmp 41) 22 rfl w4.heap.size 5 u8_info Try.underlying22 _ _ r3 (rowB row) r4 R4.out rfl hown9' w10.heap.size A10 _ c10 rfl rfl (Sees.own hown10) (by omega) hb10'.size ?_; intro A11 c11 w11 hown11 hb11; (have hb11' : Below w4.heap.size w4 w11 := hb10'.trans hb11); (have k1 := run_str (P := Try.prog) w11 22 9 5 Try.underlying22 Try.underlying5 Try.underlying9 r4 _ A4 r4.length c4 rfl ((Sees.own hown4).below hb11')); (have k2 := run_str (P := Try.prog) w11 22 9 5 Try.underlying22 Try.underlying5 Try.underlying9 r4 _ A11 r4.length c11 rfl (Sees.own hown11)); (have k3 := run_str (P := Try.prog) w11 22 9 5 Try.underlying22 Try.underlying5 Try.underlying9 l _ A1 l.length c1 rfl ((Sees.own hown1).below (hb14.trans (hb11'.mono hb14.size)))); (have k4 := run_str (P := Try.prog) w11 22 9 5 Try.underlying22 Try.underlying5 Try.underlying9 l _ A n c HN.out (hs.below (hb04.trans (hb11'.mono hz04)))))
  refine (awake_any _).mono ?_
  rintro e w12 ⟨rfl, hb12⟩
  go_wp2
  go_ret
  exact ⟨rfl, (hb04.trans (hb11'.mono hz04)).trans (hb12.mono (Nat.le_trans hz04 hb11'.size))⟩

theorem own : ownKnob Try.prog.godebug = none := by kernel_rfl
theorem laid : laidOutB Try.prog = true := by kernel_rfl
theorem cells8 : Try.prog.cellsOf 5 = 1 := by kernel_rfl

theorem contract (H : Type) (enc : TypeId × Value → H) (W : World) (base : Nat) (args : Array Value) (ds gs : List (DataW H)) (before : List MemPlace)
    (hval : ∀ (j : Nat) t v, Try.f3.params[j]? = some t → args[j]? = some v → Value.okWide Try.prog W .any base t v)
    (hW : DataW.Whole enc Try.prog Try.f3.params.toList Rows.packPutsSpec.vars false W args.toList ds gs before) :
    Calls Try.prog 3 args W fun e W' => ∃ v, e = .returned v ∧ Rows.packPutsSpec.post enc Try.prog Try.f3 false true false false W args v W' := by
  have hW' := hW
  obtain ⟨p, q, hA0, hV, rfl, hfz, hnd⟩ := hW
  have hA : DataW.TrodAll enc Try.prog W 0 (fun _ => true) true Try.f3.params.toList args.toList ds p := hA0
  rw [Try.params3] at hA hval
  obtain ⟨v0, vs0, d0, ds0, p0, q0, hargs, rfl, rfl, h0, r0⟩ := trodAll_cons hA
  obtain ⟨v1, vs1, d1, ds1, p1, q1, rfl, rfl, rfl, h1, r1⟩ := trodAll_cons r0
  obtain ⟨v2, vs2, d2, ds2, p2, q2, rfl, rfl, rfl, h2, r2⟩ := trodAll_cons r1
  obtain ⟨v3, vs3, d3, ds3, p3, q3, rfl, rfl, rfl, h3, r3⟩ := trodAll_cons r2
  obtain ⟨rfl, rfl, rfl⟩ := trodAll_nil r3
  obtain rfl : args = #[v0, v1, v2, v3] := by cases args; simp_all
  obtain ⟨rfl, rfl⟩ := trodVars_none hV
  obtain ⟨A0, n0, c0, l0, rfl, e0, m0, M0, s0⟩ := open_bytes Try.underlying22 Try.underlying5 cells8 (hval 0 22 v0 rfl rfl) h0
  obtain ⟨a1, rfl, rfl, rfl, w1⟩ := open_int Try.underlying23 (hval 1 23 v1 rfl rfl) h1
  have b1 : 0 ≤ a1 ∧ a1 ≤ 18446744073709551615 := by simpa [Lit.wf, IntKind.min, IntKind.max, IntKind.signed, IntKind.bits] using w1
  obtain ⟨a2, rfl, rfl, rfl, w2⟩ := open_int Try.underlying2 (hval 2 2 v2 rfl rfl) h2
  have b2 : -9223372036854775808 ≤ a2 ∧ a2 ≤ 9223372036854775807 := by simpa [Lit.wf, IntKind.min, IntKind.max, IntKind.signed, IntKind.bits] using w2
  obtain ⟨A3, n3, c3, l3, rfl, e3, m3, M3, s3⟩ := open_bytes Try.underlying22 Try.underlying5 cells8 (hval 3 22 v3 rfl rfl) h3
  have fin : ∀ (e : Ending) (W' : World), e = .returned (.bool true) ∧ Below W.heap.size W W' → ∃ v, e = .returned v ∧ Rows.packPutsSpec.post enc Try.prog Try.f3 false true false false W #[.slice A0 n0 c0, .int .u64 a1, .int .i64 a2, .slice A3 n3 c3] v W' :=
    fun e W' ⟨he, hb⟩ => ⟨_, he, law_post laid (by kernel_rfl) rfl rfl rfl Try.underlying4 hW' hb⟩
  by_cases hlong : 500 < n0 ∨ 500 < n3
  · exact (walk_long A0 A3 n0 n3 c0 c3 a1 a2 W hlong (Nat.le_trans m0 M0) (Nat.le_trans m3 M3)).mono fin
  · obtain ⟨x, rfl⟩ := Int.eq_ofNat_of_zero_le b1.1
    exact (walk_short l0 l3 A0 A3 n0 n3 c0 c3 x a2 W e0 e3 (by omega) (by omega) (by omega) b2.1 b2.2 s0 s3).mono fin

set_option maxRecDepth 100000 in
theorem lifted (os : Os) (started : os.Started) (H : Type) (enc : TypeId × Value → H) :
    ReturnsInHanded {} Try.checked os 3 .any (Rows.packPutsSpec.pre6 enc Try.prog Try.f3 Rows.packPutsRow.domain false) (Rows.packPutsSpec.post enc Try.prog Try.f3 false true false false) := by
  refine returnsInHanded_of_change (C := Try.checked) (s := Rows.packPutsSpec) own started (by kernel_rfl) Try.func3
    (ChangeSpec.witness6 (enc := enc) (C := Try.checked) false ⟨#[], #[.slice none 0 0, .int .u64 0, .int .i64 0, .slice none 0 0], []⟩ 8 (by kernel_rfl) (by kernel_rfl) (by kernel_rfl) (by kernel_rfl)) ?_
  intro W base args ds gs before hval hW _ _
  exact contract H enc W base args ds gs before hval hW

theorem proved : Rows.PackPutsSaid :=
  OpenClaim.holds_of_wide 3 Try.f3 rfl rfl rfl rfl rfl rfl rfl ⟨rfl, rfl, rfl, rfl, rfl⟩ rfl rfl rfl rfl rfl (by kernel_rfl) Try.func3 (by kernel_rfl)
    (of_decide_eq_true (by kernel_rfl)) (by unfold Func.isWrapper; first | (rw [if_pos (by decide +kernel)]; kernel_rfl) | (rw [if_neg (by decide +kernel)]; exact ⟨rfl, rfl⟩))
    (fun os started H enc _ => lifted os started H enc)
end Go.Proofs.Ytcdllfmdmjignaa.packPuts
