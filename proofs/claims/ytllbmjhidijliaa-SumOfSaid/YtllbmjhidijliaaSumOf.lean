/-
  scrutineerlaw02.SumOf answers true for every input and leaves its input as it was; no condition.
-/
import Derived.Test.YtllbmjhidijliaaMark
import Derived.Test.YtllbmjhidijliaaLaw
namespace Go.Proofs.Ytllbmjhidijliaa.sumOf
open Go.ChangeShapes Go.WideShapes Go.ChangeAt Go.RowKit

theorem walk_long (A A2 : Option Addr) (n n2 c c2 : Nat) (w : World) (h : 2000 < n ∨ 2000 < n2) (hm : n ≤ maxLen) (hm2 : n2 ≤ maxLen) :
    Calls Try.prog 3 #[.slice A n c, .slice A2 n2 c2] w fun e w' => e = .returned (.bool true) ∧ Below w.heap.size w w' := by
  unfold maxLen at hm hm2
  by_cases h1 : 2000 < n
  · clear h
    go_enter Try.func3, Try.ntmps3
    go_wp2_with fail
    refine (awake_any _).mono ?_
    rintro e w1 ⟨rfl, hb1⟩
    go_wp2
    go_ret
    exact ⟨rfl, hb1⟩
  · have h2 : 2000 < n2 := by omega
    clear h
    go_enter Try.func3, Try.ntmps3
    go_wp2_with fail
    refine (awake_any _).mono ?_
    rintro e w1 ⟨rfl, hb1⟩
    go_wp2
    go_ret
    exact ⟨rfl, hb1⟩

theorem crc_more (l m : List UInt8) : 4294967295 - crcR (4294967295 - crc l) m = crc (l ++ m) := by
  have h := crcR_lt l 4294967295 (by omega)
  have e : 4294967295 - crc l = crcR 4294967295 l := by unfold crc; omega
  rw [e]
  unfold crc
  rw [crcR_append]

set_option maxHeartbeats 400000 in
theorem walk_short (l m : List UInt8) (A A2 : Option Addr) (n n2 c c2 : Nat) (w : World) (hn : l.length = n) (hn2 : m.length = n2) (h1 : n ≤ 2000) (h2 : n2 ≤ 2000)
    (hs : Sees w w.heap.size A (bv l)) (hs2 : Sees w w.heap.size A2 (bv m)) :
    Calls Try.prog 3 #[.slice A n c, .slice A2 n2 c2] w fun e w' => e = .returned (.bool true) ∧ Below w.heap.size w w' := by
  have hcl := crc_lt l
  have hml : n ≤ maxLen := by unfold maxLen; omega
  have hml2 : n2 ≤ maxLen := by unfold maxLen; omega
  obtain ⟨r, hr⟩ : ∃ r, l ++ m = r := ⟨_, rfl⟩
  have hc := crc_more l m
  have hrl : r.length ≤ 4000 := by rw [← hr, List.length_append]; omega
  rw [hr] at hc
  have HC := hide_ hc
  have HR := hide_ hr
  clear hc hr
  have HN := hide_ hn
  have HN2 := hide_ hn2
  clear hn hn2
  go_enter Try.func3, Try.ntmps3
  go_wp2_with fail
  refine (Of_any l w.heap.size A n c w HN.out hml hs (Nat.le_refl _)).mono ?_
  rintro e w1 ⟨rfl, hb1⟩
  go_wp2_with fail
  refine (refOf_any l w.heap.size A n c w1 HN.out hml (hs.below hb1)).mono ?_
  rintro e w1' ⟨rfl, rfl⟩
  go_wp2_with fail
  refine (Of_any l w.heap.size A n c w1 HN.out hml (hs.below hb1) hb1.size).mono ?_
  rintro e w2 ⟨rfl, hb2⟩
  have hb02 := hb1.trans (hb2.mono hb1.size)
  go_wp2_with fail
  refine (More_any (crc l) m w.heap.size A2 n2 c2 w2 HN2.out hcl hml2 (hs2.below hb02) hb02.size).mono ?_
  rw [HC.out]
  rintro e w3 ⟨rfl, hb3⟩
  have hb03 := hb02.trans (hb3.mono hb02.size)
  have hz3 := hb03.size
  have hl := HN.out
  have hl2 := HN2.out
  have HL := hide_ hl
  have HL2 := hide_ hl2
  have hle : l.length ≤ 2000 := by rw [HN.out]; exact h1
  clear hl hl2
  go_wp2_with (first | (at_builtin; refine wpList_append_bytes (P := Try.prog) _ rfl (.tmp 24) (.tmp 25) 22 rfl w3.heap.size 5 u8_info Try.underlying22 _ 0 [] l l rfl rfl (World.ownsRow_lit w3 #[] 0 (Nat.le_refl _) (by simp [maxLen]) rfl) w.heap.size A n c rfl HN.out ((hs.below hb03).below ((Below.refl _ _).alloc hz3 _)) (by omega) (by simp) ?_; intro A1 c1 w4 hown4 hb4; (have hb34 : Below w3.heap.size w3 w4 := ((Below.refl _ _).alloc (Nat.le_refl _) _).trans hb4); (have hb04 := hb03.trans (hb34.mono hz3))) | (at_builtin; refine wpList_append_bytes (P := Try.prog) _ rfl (.tmp 26) (.tmp 27) 22 rfl w3.heap.size 5 u8_info Try.underlying22 _ _ l m r HR.out rfl hown4 w.heap.size A2 n2 c2 rfl HN2.out (hs2.below hb04) (by omega) hb34.size ?_; intro A2' c2' w5 hown5 hb5; (have hb35 : Below w3.heap.size w3 w5 := hb34.trans hb5); (have hb05 := hb03.trans (hb35.mono hz3))))
  refine (refOf_any r w5.heap.size A2' _ c2' w5 rfl (by unfold maxLen; omega) (Sees.own hown5)).mono ?_
  rintro e w6 ⟨rfl, rfl⟩
  go_wp2_with fail
  refine (awake_any _).mono ?_
  rintro e w7 ⟨rfl, hb7⟩
  go_wp2
  go_ret
  exact ⟨rfl, hb05.trans (hb7.mono hb05.size)⟩

theorem own : ownKnob Try.prog.godebug = none := by kernel_rfl
theorem laid : laidOutB Try.prog = true := by kernel_rfl
theorem cells8 : Try.prog.cellsOf 5 = 1 := by kernel_rfl

theorem contract (H : Type) (enc : TypeId × Value → H) (W : World) (base : Nat) (args : Array Value) (ds gs : List (DataW H)) (before : List MemPlace)
    (hval : ∀ (j : Nat) t v, Try.f3.params[j]? = some t → args[j]? = some v → Value.okWide Try.prog W .any base t v)
    (hW : DataW.Whole enc Try.prog Try.f3.params.toList Rows.sumOfSpec.vars false W args.toList ds gs before) :
    Calls Try.prog 3 args W fun e W' => ∃ v, e = .returned v ∧ Rows.sumOfSpec.post enc Try.prog Try.f3 false true false false W args v W' := by
  have hW' := hW
  obtain ⟨p, q, hA0, hV, rfl, hfz, hnd⟩ := hW
  have hA : DataW.TrodAll enc Try.prog W 0 (fun _ => true) true Try.f3.params.toList args.toList ds p := hA0
  rw [Try.params3] at hA hval
  obtain ⟨v0, vs0, d0, ds0, p0, q0, hargs, rfl, rfl, h0, r0⟩ := trodAll_cons hA
  obtain ⟨v1, vs1, d1, ds1, p1, q1, rfl, rfl, rfl, h1, r1⟩ := trodAll_cons r0
  obtain ⟨rfl, rfl, rfl⟩ := trodAll_nil r1
  obtain rfl : args = #[v0, v1] := by cases args; simp_all
  obtain ⟨rfl, rfl⟩ := trodVars_none hV
  obtain ⟨A0, n0, c0, l0, rfl, e0, m0, M0, s0⟩ := open_bytes Try.underlying22 Try.underlying5 cells8 (hval 0 22 v0 rfl rfl) h0
  obtain ⟨A1, n1, c1, l1, rfl, e1, m1, M1, s1⟩ := open_bytes Try.underlying22 Try.underlying5 cells8 (hval 1 22 v1 rfl rfl) h1
  have fin : ∀ (e : Ending) (W' : World), e = .returned (.bool true) ∧ Below W.heap.size W W' → ∃ v, e = .returned v ∧ Rows.sumOfSpec.post enc Try.prog Try.f3 false true false false W #[.slice A0 n0 c0, .slice A1 n1 c1] v W' :=
    fun e W' ⟨he, hb⟩ => ⟨_, he, law_post laid (by kernel_rfl) rfl rfl rfl Try.underlying4 hW' hb⟩
  by_cases hlong : 2000 < n0 ∨ 2000 < n1
  · exact (walk_long A0 A1 n0 n1 c0 c1 W hlong (Nat.le_trans m0 M0) (Nat.le_trans m1 M1)).mono fin
  · exact (walk_short l0 l1 A0 A1 n0 n1 c0 c1 W e0 e1 (by omega) (by omega) s0 s1).mono fin

set_option maxRecDepth 100000 in
theorem lifted (os : Os) (started : os.Started) (H : Type) (enc : TypeId × Value → H) :
    ReturnsInHanded {} Try.checked os 3 .any (Rows.sumOfSpec.pre6 enc Try.prog Try.f3 Rows.sumOfRow.domain false) (Rows.sumOfSpec.post enc Try.prog Try.f3 false true false false) := by
  refine returnsInHanded_of_change (C := Try.checked) (s := Rows.sumOfSpec) own started (by kernel_rfl) Try.func3
    (ChangeSpec.witness6 (enc := enc) (C := Try.checked) false ⟨#[], #[.slice none 0 0, .slice none 0 0], []⟩ 8 (by kernel_rfl) (by kernel_rfl) (by kernel_rfl) (by kernel_rfl)) ?_
  intro W base args ds gs before hval hW _ _
  exact contract H enc W base args ds gs before hval hW

theorem proved : Rows.SumOfSaid :=
  OpenClaim.holds_of_wide 3 Try.f3 rfl rfl rfl rfl rfl rfl rfl ⟨rfl, rfl, rfl, rfl, rfl⟩ rfl rfl rfl rfl rfl (by kernel_rfl) Try.func3 (by kernel_rfl)
    (of_decide_eq_true (by kernel_rfl)) (by unfold Func.isWrapper; first | (rw [if_pos (by decide +kernel)]; kernel_rfl) | (rw [if_neg (by decide +kernel)]; exact ⟨rfl, rfl⟩))
    (fun os started H enc _ => lifted os started H enc)
end Go.Proofs.Ytllbmjhidijliaa.sumOf
