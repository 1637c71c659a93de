/-
  scrutineerlaw08.HashLast answers true for every input and leaves its input as it was; no condition.
-/
import Derived.Test.YtccfjaefnejjmaaHash
import Derived.Test.YtccfjaefnejjmaaBase
import Derived.Test.YtccfjaefnejjmaaLaw
namespace Go.Proofs.Ytccfjaefnejjmaa.hashLast
open Go.ChangeShapes Go.WideShapes Go.ChangeAt Go.RowKit

theorem walk_long (A : Option Addr) (n c : Nat) (x y : Int) (w : World) (h : 2000 < n) (hm : n ≤ maxLen) :
    Calls Try.prog 5 #[.slice A n c, .int .u8 x, .int .u8 y] w fun e w' => e = .returned (.bool true) ∧ Below w.heap.size w w' := by
  unfold maxLen at hm
  go_enter Try.func5, Try.ntmps5
  go_wp2_with fail
  refine (awake08_any _).mono ?_
  rintro e w1 ⟨rfl, hb1⟩
  go_wp2
  go_ret
  exact ⟨rfl, hb1⟩

theorem last_same (l : List UInt8) (x y : UInt8) : fnv (l ++ [x]) = fnv (l ++ [y]) ↔ (x.toNat : Int) = (y.toNat : Int) := by
  constructor
  · intro h
    unfold fnv at h
    rw [fnvR_snoc, fnvR_snoc] at h
    rw [fnvB_inj (fnvR_lt l _ (by unfold u64Top; omega)) h]
  · intro h
    have : x = y := UInt8.toNat_inj.1 (by omega)
    rw [this]

set_option maxRecDepth 100000 in
theorem walk_short (l : List UInt8) (x y : UInt8) (A : Option Addr) (n c : Nat) (w : World) (hn : l.length = n) (h1 : n ≤ 2000) (hs : Sees w w.heap.size A (bv l)) :
    Calls Try.prog 5 #[.slice A n c, .int .u8 x.toNat, .int .u8 y.toNat] w fun e w' => e = .returned (.bool true) ∧ Below w.heap.size w w' := by
  subst hn
  have HOX := hide_ (fun u A' c' (h : Sees u u.heap.size A' (bv (l ++ [x]))) => hashOf_any (l ++ [x]) u.heap.size A' (l.length + 1) c' u (by simp) (by unfold maxLen; omega) h)
  have HOY := hide_ (fun u A' c' (h : Sees u u.heap.size A' (bv (l ++ [y]))) => hashOf_any (l ++ [y]) u.heap.size A' (l.length + 1) c' u (by simp) (by unfold maxLen; omega) h)
  have HSAME := hide_ (last_same l x y)
  have HBX := hide_ (show bv l ++ [.int .u8 (x.toNat : Int)] = bv (l ++ [x]) from (bv_append l [x]).symm)
  have HBY := hide_ (show bv l ++ [.int .u8 (y.toNat : Int)] = bv (l ++ [y]) from (bv_append l [y]).symm)
  generalize fnv (l ++ [x]) = hx at HOX HSAME
  generalize fnv (l ++ [y]) = hy at HOY HSAME
  go_enter Try.func5, Try.ntmps5
  go_wp2_with (first | (at_builtin; refine wpList_append_bytes (P := Try.prog) _ rfl (.tmp 13) (.tmp 14) 22 rfl w.heap.size 5 u8_info Try.underlying22 _ 0 [] l l rfl rfl (World.ownsRow_lit w #[] 0 (Nat.le_refl _) (by simp [maxLen]) rfl) w.heap.size A _ c rfl rfl (hs.below ((Below.refl _ _).alloc (Nat.le_refl _) _)) (by omega) (by simp) ?_; intro A1 c1 w1 hown1 hb1; (have hb01 : Below w.heap.size w w1 := ((Below.refl _ _).alloc (Nat.le_refl _) _).trans hb1)) | (at_builtin; refine wpList_append_byte (P := Try.prog) _ rfl (.tmp 15) (.tmp 17) 22 rfl w.heap.size 5 u8_info Try.underlying22 _ _ (bv l) _ rfl hown1 rfl (by omega) hb01.size ?_; intro v2 w2 hown2 hb2; obtain ⟨A2, c2, rfl⟩ := own_slice hown2; (have hb02 := hb01.trans hb2)))
  have HS2 := hide_ (show Sees w2 w2.heap.size A2 (bv (l ++ [x])) from by rw [← HBX.out]; exact Sees.own hown2)
  refine (HOX.out _ _ _ HS2.out).mono ?_
  rintro e w2' ⟨rfl, rfl⟩
  have hb2s := hb02.size
  go_wp2_with (first | (at_builtin; refine wpList_append_bytes (P := Try.prog) _ rfl (.tmp 20) (.tmp 21) 22 rfl w.heap.size 5 u8_info Try.underlying22 _ 0 [] l l rfl rfl (World.ownsRow_lit w2 #[] 0 hb2s (by simp [maxLen]) rfl) w.heap.size A _ c rfl rfl (hs.below (hb02.alloc hb2s _)) (by omega) (by simp; omega) ?_; intro A3 c3 w3 hown3 hb3; (have hb03 : Below w.heap.size w w3 := (hb02.alloc hb2s _).trans hb3)) | (at_builtin; refine wpList_append_byte (P := Try.prog) _ rfl (.tmp 22) (.tmp 24) 22 rfl w.heap.size 5 u8_info Try.underlying22 _ _ (bv l) _ rfl hown3 rfl (by omega) hb03.size ?_; intro v4 w4 hown4 hb4; obtain ⟨A4, c4, rfl⟩ := own_slice hown4; (have hb04 := hb03.trans hb4)))
  have HS4 := hide_ (show Sees w4 w4.heap.size A4 (bv (l ++ [y])) from by rw [← HBY.out]; exact Sees.own hown4)
  refine (HOY.out _ _ _ HS4.out).mono ?_
  rintro e w4' ⟨rfl, rfl⟩
  have hd : (((hx : Int) == (hy : Int)) == ((x.toNat : Int) == (y.toNat : Int))) = true := by
    by_cases h : hx = hy
    · have h2 := HSAME.out.1 h
      rw [h, h2]
      simp
    · have h2 : ¬ ((x.toNat : Int) = (y.toNat : Int)) := fun e => h (HSAME.out.2 e)
      have e1 : ((hx : Int) == (hy : Int)) = false := beq_eq_false_iff_ne.2 (by omega)
      have e2 : ((x.toNat : Int) == (y.toNat : Int)) = false := beq_eq_false_iff_ne.2 h2
      rw [e1, e2]
      rfl
  go_wp2_with fail
  refine (awake08_any _).mono ?_
  rintro e w5 ⟨rfl, hb5⟩
  go_wp2
  go_ret
  exact ⟨rfl, hb04.trans (hb5.mono hb04.size)⟩

theorem own : ownKnob Try.prog.godebug = none := by kernel_rfl
theorem laid : laidOutB Try.prog = true := by kernel_rfl
theorem cells8 : Try.prog.cellsOf 5 = 1 := by kernel_rfl

set_option maxRecDepth 100000 in
theorem contract (H : Type) (enc : TypeId × Value → H) (W : World) (base : Nat) (args : Array Value) (ds gs : List (DataW H)) (before : List MemPlace)
    (hval : ∀ (j : Nat) t v, Try.f5.params[j]? = some t → args[j]? = some v → Value.okWide Try.prog W .any base t v)
    (hW : DataW.Whole enc Try.prog Try.f5.params.toList Rows.hashLastSpec.vars false W args.toList ds gs before) :
    Calls Try.prog 5 args W fun e W' => ∃ v, e = .returned v ∧ Rows.hashLastSpec.post enc Try.prog Try.f5 false true false false W args v W' := by
  have hW' := hW
  obtain ⟨p, q, hA0, hV, rfl, hfz, hnd⟩ := hW
  have hA : DataW.TrodAll enc Try.prog W 0 (fun _ => true) true Try.f5.params.toList args.toList ds p := hA0
  rw [Try.params5] at hA hval
  obtain ⟨v0, vs0, d0, ds0, p0, q0, hargs, rfl, rfl, h0, r0⟩ := trodAll_cons hA
  obtain ⟨v1, vs1, d1, ds1, p1, q1, rfl, rfl, rfl, h1, r1⟩ := trodAll_cons r0
  obtain ⟨v2, vs2, d2, ds2, p2, q2, rfl, rfl, rfl, h2, r2⟩ := trodAll_cons r1
  obtain ⟨rfl, rfl, rfl⟩ := trodAll_nil r2
  obtain rfl : args = #[v0, v1, v2] := by cases args; simp_all
  obtain ⟨rfl, rfl⟩ := trodVars_none hV
  obtain ⟨A0, n0, c0, l0, rfl, e0, m0, M0, s0⟩ := open_bytes Try.underlying22 Try.underlying5 cells8 (hval 0 22 v0 rfl rfl) h0
  obtain ⟨a1, rfl, rfl, rfl, w1⟩ := open_int Try.underlying5 (hval 1 5 v1 rfl rfl) h1
  have b1 : 0 ≤ a1 ∧ a1 ≤ 255 := by simpa [Lit.wf, IntKind.min, IntKind.max, IntKind.signed, IntKind.bits] using w1
  obtain ⟨a2, rfl, rfl, rfl, w2⟩ := open_int Try.underlying5 (hval 2 5 v2 rfl rfl) h2
  have b2 : 0 ≤ a2 ∧ a2 ≤ 255 := by simpa [Lit.wf, IntKind.min, IntKind.max, IntKind.signed, IntKind.bits] using w2
  have fin : ∀ (e : Ending) (W' : World), e = .returned (.bool true) ∧ Below W.heap.size W W' → ∃ v, e = .returned v ∧ Rows.hashLastSpec.post enc Try.prog Try.f5 false true false false W #[.slice A0 n0 c0, .int .u8 a1, .int .u8 a2] v W' :=
    fun e W' ⟨he, hb⟩ => ⟨_, he, law_post laid (by kernel_rfl) rfl rfl rfl Try.underlying4 hW' hb⟩
  by_cases hlong : 2000 < n0
  · exact (walk_long A0 n0 c0 a1 a2 W hlong (Nat.le_trans m0 M0)).mono fin
  · obtain ⟨x, rfl⟩ : ∃ x : UInt8, a1 = (x.toNat : Int) := ⟨UInt8.ofNat a1.toNat, by rw [UInt8.toNat_ofNat']; omega⟩
    obtain ⟨y, rfl⟩ : ∃ y : UInt8, a2 = (y.toNat : Int) := ⟨UInt8.ofNat a2.toNat, by rw [UInt8.toNat_ofNat']; omega⟩
    exact (walk_short l0 x y A0 n0 c0 W e0 (by omega) s0).mono fin

set_option maxRecDepth 100000 in
theorem lifted (os : Os) (started : os.Started) (H : Type) (enc : TypeId × Value → H) :
    ReturnsInHanded {} Try.checked os 5 .any (Rows.hashLastSpec.pre6 enc Try.prog Try.f5 Rows.hashLastRow.domain false) (Rows.hashLastSpec.post enc Try.prog Try.f5 false true false false) := by
  refine returnsInHanded_of_change (C := Try.checked) (s := Rows.hashLastSpec) own started (by kernel_rfl) Try.func5
    (ChangeSpec.witness6 (enc := enc) (C := Try.checked) false ⟨#[], #[.slice none 0 0, .int .u8 0, .int .u8 0], []⟩ 8 (by kernel_rfl) (by kernel_rfl) (by kernel_rfl) (by kernel_rfl)) ?_
  intro W base args ds gs before hval hW _ _
  exact contract H enc W base args ds gs before hval hW

theorem proved : Rows.HashLastSaid :=
  OpenClaim.holds_of_wide 5 Try.f5 rfl rfl rfl rfl rfl rfl rfl ⟨rfl, rfl, rfl, rfl, rfl⟩ rfl rfl rfl rfl rfl (by kernel_rfl) Try.func5 (by kernel_rfl)
    (of_decide_eq_true (by kernel_rfl)) (by unfold Func.isWrapper; first | (rw [if_pos (by decide +kernel)]; kernel_rfl) | (rw [if_neg (by decide +kernel)]; exact ⟨rfl, rfl⟩))
    (fun os started H enc _ => lifted os started H enc)
end Go.Proofs.Ytccfjaefnejjmaa.hashLast
