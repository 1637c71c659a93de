/-
  scrutineerlaw02.SumMarks answers true for every input and leaves its input as it was; no condition.
-/
import Derived.Test.YtllbmjhidijliaaMark
import Derived.Test.YtllbmjhidijliaaLaw
namespace Go.Proofs.Ytllbmjhidijliaa.sumMarks
open Go.ChangeShapes Go.WideShapes Go.ChangeAt Go.RowKit

theorem walk_long (A : Option Addr) (n c : Nat) (w : World) (h : 2000 < n) (hm : n ≤ maxLen) :
    Calls Try.prog 4 #[.slice A n c] w fun e w' => e = .returned (.bool true) ∧ Below w.heap.size w w' := by
  unfold maxLen at hm
  go_enter Try.func4, Try.ntmps4
  go_wp2_with fail
  refine (awake_any _).mono ?_
  rintro e w1 ⟨rfl, hb1⟩
  go_wp2
  go_ret
  exact ⟨rfl, hb1⟩

set_option maxHeartbeats 1000000 in
theorem walk_short (l : List UInt8) (A : Option Addr) (n c : Nat) (w : World) (hn : l.length = n) (h1 : n ≤ 2000) (hnc : n ≤ c) (hs : Sees w w.heap.size A (bv l)) :
    Calls Try.prog 4 #[.slice A n c] w fun e w' => e = .returned (.bool true) ∧ Below w.heap.size w w' := by
  obtain ⟨x, hx⟩ : ∃ x, markB l = x := ⟨_, rfl⟩
  obtain ⟨⟨z, ze⟩, hz⟩ : ∃ r, fitsL l = r := ⟨_, rfl⟩
  have hxl : x.length ≤ 2004 := by rw [← hx, markB_length]; omega
  have hf : fitsL x = (l, 0) := by rw [← hx]; exact fitsL_mark l
  have hll : l.length ≤ 2000 := by omega
  have HX := hide_ hx
  have HZ := hide_ hz
  have HF := hide_ hf
  have HN := hide_ hn
  clear hx hz hf hn
  go_enter Try.func4, Try.ntmps4
  go_wp2_with (at_builtin; refine wpList_append_bytes (P := Try.prog) _ rfl (.tmp 15) (.tmp 16) 22 rfl w.heap.size 5 u8_info Try.underlying22 _ 0 [] l l rfl rfl (World.ownsRow_lit w #[] 0 (Nat.le_refl _) (by simp [maxLen]) rfl) w.heap.size A n c rfl HN.out (hs.below ((Below.refl _ _).alloc (Nat.le_refl _) _)) (by omega) (by simp) ?_; intro A1 c1 w1 hown1 hb1)
  have hb01 : Below w.heap.size w w1 := ((Below.refl _ _).alloc (Nat.le_refl _) _).trans hb1
  have hs1 := Sees.own hown1
  have hcap1 := own_cap hown1
  refine (Mark_any l x w1.heap.size A1 _ c1 w1 rfl HX.out (by omega) hs1 (Nat.le_refl _)).mono ?_
  rintro e w2 ⟨A2, c2, rfl, hown2, hb2⟩
  have hb02 := hb01.trans (hb2.mono hb01.size)
  have hs2 := Sees.own hown2
  have hcap2 := own_cap hown2
  go_wp2_with fail
  refine (Fits_to x l 0 A2 _ c2 w2 HF.out rfl (by omega) hs2 hcap2).mono ?_
  rintro e w3 ⟨A3, n3, c3, rfl, hn3, hs3, hb3⟩
  have hb13 := hb2.trans (hb3.mono hb2.size)
  have hb03 := hb01.trans (hb13.mono hb01.size)
  have H3 := hide_ hn3
  clear hn3
  go_wp2_with fail
  refine (Fits_to l z ze A1 _ c1 w3 HZ.out rfl (by omega) ((hs1.below hb13).more hb13.size) hcap1).mono ?_
  rintro e w4 ⟨A4, n4, c4, rfl, hn4, hs4, hb4⟩
  have hb14 := hb13.trans (hb4.mono hb13.size)
  have hb04 := hb01.trans (hb14.mono hb01.size)
  have H4 := hide_ hn4
  clear hn4
  go_wp2_with fail
  refine (refFits_to l z ze A n c w4 HZ.out HN.out (by omega) ((hs.below hb04).more hb04.size) hnc).mono ?_
  rintro e w5 ⟨A5, n5, c5, rfl, hn5, hs5, hb5⟩
  have hb05 := hb04.trans (hb5.mono hb04.size)
  have H5 := hide_ hn5
  clear hn5
  have hall : ∀ u, Below w5.heap.size w5 u →
      (convert 22 9 (.slice A2 x.length c2)).run Try.prog u = .ok (.string (strOf x)) u ∧ (convert 22 9 (.slice A3 n3 c3)).run Try.prog u = .ok (.string (strOf l)) u ∧
      (convert 22 9 (.slice A n c)).run Try.prog u = .ok (.string (strOf l)) u ∧ (convert 22 9 (.slice A4 n4 c4)).run Try.prog u = .ok (.string (strOf z)) u ∧
      (convert 22 9 (.slice A5 n5 c5)).run Try.prog u = .ok (.string (strOf z)) u ∧ (convert 22 9 (.slice A1 l.length c1)).run Try.prog u = .ok (.string (strOf l)) u := by
    intro u hu
    have h45 := hb4.trans (hb5.mono hb4.size)
    have h35 := hb3.trans (h45.mono hb3.size)
    have h25 := hb2.trans (h35.mono hb2.size)
    refine ⟨?_, ?_, ?_, ?_, ?_, ?_⟩
    · exact run_str (P := Try.prog) u 22 9 5 Try.underlying22 Try.underlying5 Try.underlying9 x _ A2 _ c2 rfl (hs2.below (h35.trans (hu.mono h35.size)))
    · exact run_str (P := Try.prog) u 22 9 5 Try.underlying22 Try.underlying5 Try.underlying9 l _ A3 n3 c3 H3.out (hs3.below (h45.trans (hu.mono h45.size)))
    · exact run_str (P := Try.prog) u 22 9 5 Try.underlying22 Try.underlying5 Try.underlying9 l _ A n c HN.out (hs.below (hb05.trans (hu.mono hb05.size)))
    · exact run_str (P := Try.prog) u 22 9 5 Try.underlying22 Try.underlying5 Try.underlying9 z _ A4 n4 c4 H4.out (hs4.below (hb5.trans (hu.mono hb5.size)))
    · exact run_str (P := Try.prog) u 22 9 5 Try.underlying22 Try.underlying5 Try.underlying9 z _ A5 n5 c5 H5.out (hs5.below hu)
    · exact run_str (P := Try.prog) u 22 9 5 Try.underlying22 Try.underlying5 Try.underlying9 l _ A1 _ c1 rfl (hs1.below (h25.trans (hu.mono h25.size)))
  have HA := hide_ hall
  clear hall
  go_wp2
  go_region_held (fun u => (convert 22 9 (.slice A2 x.length c2)).run Try.prog u = .ok (.string (strOf x)) u ∧ (convert 22 9 (.slice A3 n3 c3)).run Try.prog u = .ok (.string (strOf l)) u ∧
      (convert 22 9 (.slice A n c)).run Try.prog u = .ok (.string (strOf l)) u ∧ (convert 22 9 (.slice A4 n4 c4)).run Try.prog u = .ok (.string (strOf z)) u ∧
      (convert 22 9 (.slice A5 n5 c5)).run Try.prog u = .ok (.string (strOf z)) u ∧ (convert 22 9 (.slice A1 l.length c1)).run Try.prog u = .ok (.string (strOf l)) u)
    (first | exact HA.out _ (Below.refl _ _).drew | exact HA.out _ hb07 | exact HA.out _ hb06)
    (first | (go_at_call 14; refine (refMark_any l x w.heap.size A n c w5.drew HN.out HX.out (by omega) (hs.below hb05.drew) hb05.size).mono ?_; rintro e w6 ⟨A6, c6, rfl, hown6, hb6⟩; (have hb06 := Below.of_drew hb6); (have k1 := run_str (P := Try.prog) w6 22 9 5 Try.underlying22 Try.underlying5 Try.underlying9 x _ A6 x.length c6 rfl (Sees.own hown6))) | (go_at_call 7; refine (awake_any _).mono ?_; rintro e w7 ⟨rfl, hb7⟩; (have hb07 := hb06.trans (hb7.mono hb06.size))))
  go_wp2
  go_ret
  exact ⟨rfl, hb05.trans (hb07.mono hb05.size)⟩

theorem own : ownKnob Try.prog.godebug = none := by kernel_rfl
theorem laid : laidOutB Try.prog = true := by kernel_rfl
theorem cells8 : Try.prog.cellsOf 5 = 1 := by kernel_rfl

theorem contract (H : Type) (enc : TypeId × Value → H) (W : World) (base : Nat) (args : Array Value) (ds gs : List (DataW H)) (before : List MemPlace)
    (hval : ∀ (j : Nat) t v, Try.f4.params[j]? = some t → args[j]? = some v → Value.okWide Try.prog W .any base t v)
    (hW : DataW.Whole enc Try.prog Try.f4.params.toList Rows.sumMarksSpec.vars false W args.toList ds gs before) :
    Calls Try.prog 4 args W fun e W' => ∃ v, e = .returned v ∧ Rows.sumMarksSpec.post enc Try.prog Try.f4 false true false false W args v W' := by
  have hW' := hW
  obtain ⟨p, q, hA0, hV, rfl, hfz, hnd⟩ := hW
  have hA : DataW.TrodAll enc Try.prog W 0 (fun _ => true) true Try.f4.params.toList args.toList ds p := hA0
  rw [Try.params4] at hA hval
  obtain ⟨v0, vs0, d0, ds0, p0, q0, hargs, rfl, rfl, h0, r0⟩ := trodAll_cons hA
  obtain ⟨rfl, rfl, rfl⟩ := trodAll_nil r0
  obtain rfl : args = #[v0] := by cases args; simp_all
  obtain ⟨rfl, rfl⟩ := trodVars_none hV
  obtain ⟨A0, n0, c0, l0, rfl, e0, m0, M0, s0⟩ := open_bytes Try.underlying22 Try.underlying5 cells8 (hval 0 22 v0 rfl rfl) h0
  have fin : ∀ (e : Ending) (W' : World), e = .returned (.bool true) ∧ Below W.heap.size W W' → ∃ v, e = .returned v ∧ Rows.sumMarksSpec.post enc Try.prog Try.f4 false true false false W #[.slice A0 n0 c0] v W' :=
    fun e W' ⟨he, hb⟩ => ⟨_, he, law_post laid (by kernel_rfl) rfl rfl rfl Try.underlying4 hW' hb⟩
  by_cases hlong : 2000 < n0
  · exact (walk_long A0 n0 c0 W hlong (Nat.le_trans m0 M0)).mono fin
  · exact (walk_short l0 A0 n0 c0 W e0 (by omega) m0 s0).mono fin

set_option maxRecDepth 100000 in
theorem lifted (os : Os) (started : os.Started) (H : Type) (enc : TypeId × Value → H) :
    ReturnsInHanded {} Try.checked os 4 .any (Rows.sumMarksSpec.pre6 enc Try.prog Try.f4 Rows.sumMarksRow.domain false) (Rows.sumMarksSpec.post enc Try.prog Try.f4 false true false false) := by
  refine returnsInHanded_of_change (C := Try.checked) (s := Rows.sumMarksSpec) own started (by kernel_rfl) Try.func4
    (ChangeSpec.witness6 (enc := enc) (C := Try.checked) false ⟨#[], #[.slice none 0 0], []⟩ 8 (by kernel_rfl) (by kernel_rfl) (by kernel_rfl) (by kernel_rfl)) ?_
  intro W base args ds gs before hval hW _ _
  exact contract H enc W base args ds gs before hval hW

theorem proved : Rows.SumMarksSaid :=
  OpenClaim.holds_of_wide 4 Try.f4 rfl rfl rfl rfl rfl rfl rfl ⟨rfl, rfl, rfl, rfl, rfl⟩ rfl rfl rfl rfl rfl (by kernel_rfl) Try.func4 (by kernel_rfl)
    (of_decide_eq_true (by kernel_rfl)) (by unfold Func.isWrapper; first | (rw [if_pos (by decide +kernel)]; kernel_rfl) | (rw [if_neg (by decide +kernel)]; exact ⟨rfl, rfl⟩))
    (fun os started H enc _ => lifted os started H enc)
end Go.Proofs.Ytllbmjhidijliaa.sumMarks
