/-
  scrutineerlaw12.SectorNew answers true for every input and leaves its input as it was; no condition.
-/
import Derived.Test.YtimgmpmibempaaaAw12
namespace Go.Proofs.Ytimgmpmibempaaa.sectorNew
open Go.ChangeShapes Go.WideShapes Go.ChangeAt Go.RowKit

theorem walk_long (n c i : Int) (A : Option Addr) (m cp : Nat) (t : Bool) (w : World) (hg : 600 < m) :
    Calls Try.prog 5 #[.int .i64 n, .int .i64 c, .int .i64 i, .slice A m cp, .bool t] w fun e w' => e = .returned (.bool true) ∧ Below w.heap.size w w' := by

  go_enter Try.func5, Try.ntmps5
  go_wp2_with (go_at_call 8; refine (awake12_any _).mono ?_; rintro e wz ⟨rfl, hbz⟩)
  go_ret
  exact ⟨rfl, hbz⟩

set_option maxRecDepth 100000 in
theorem walk_bad (n c i : Int) (A : Option Addr) (m cp : Nat) (t : Bool) (w : World) (hg : ¬ 600 < m) (h : ¬ (64 ≤ n ∧ n ≤ 512 ∧ 1 ≤ c ∧ c ≤ 4096)) :
    Calls Try.prog 5 #[.int .i64 n, .int .i64 c, .int .i64 i, .slice A m cp, .bool t] w fun e w' => e = .returned (.bool true) ∧ Below w.heap.size w w' := by
  have HN := hide_ (New_bad n c w h)
  by_cases h1 : n < 64
  · clear h
    go_enter Try.func5, Try.ntmps5
    go_wp2_with (first | (go_at_call 9; refine HN.out.mono ?_; rintro e w1 ⟨rfl, rfl⟩) | (go_at_call 8; refine (awake12_any _).mono ?_; rintro e wz ⟨rfl, hbz⟩) | (go_at_call 22; refine (Fuse_nil _ _).mono ?_; rintro e wn ⟨rfl, rfl⟩) | (go_at_call 23; refine (Fall_nil _).mono ?_; rintro e wn ⟨rfl, rfl⟩) | (go_at_call 17; refine (Back_nil _ _ _).mono ?_; rintro e wn ⟨rfl, rfl⟩) | (go_at_call 19; refine (Read_nil _ _).mono ?_; rintro e wn ⟨rfl, rfl⟩) | (go_at_call 20; refine (Write_nil _ _ _).mono ?_; rintro e wn ⟨rfl, rfl⟩) | (go_at_call 21; refine (Sync_nil _).mono ?_; rintro e wn ⟨rfl, rfl⟩) | (go_at_call 24; refine (Spoil_nil _ _ _ _).mono ?_; rintro e wn ⟨rfl, rfl⟩) | (go_at_call 14; refine (IsOn_nil _).mono ?_; rintro e wn ⟨rfl, rfl⟩) | (go_at_call 10; refine (Size_nil _).mono ?_; rintro e wn ⟨rfl, rfl⟩) | (go_at_call 11; refine (Count_nil _).mono ?_; rintro e wn ⟨rfl, rfl⟩) | (go_at_call 15; refine (Falls_nil _).mono ?_; rintro e wn ⟨rfl, rfl⟩) | (go_at_call 16; refine (Waits_nil _).mono ?_; rintro e wn ⟨rfl, rfl⟩))
    go_ret
    exact ⟨rfl, hbz⟩
  by_cases h2 : 512 < n
  · clear h
    go_enter Try.func5, Try.ntmps5
    go_wp2_with (first | (go_at_call 9; refine HN.out.mono ?_; rintro e w1 ⟨rfl, rfl⟩) | (go_at_call 8; refine (awake12_any _).mono ?_; rintro e wz ⟨rfl, hbz⟩) | (go_at_call 22; refine (Fuse_nil _ _).mono ?_; rintro e wn ⟨rfl, rfl⟩) | (go_at_call 23; refine (Fall_nil _).mono ?_; rintro e wn ⟨rfl, rfl⟩) | (go_at_call 17; refine (Back_nil _ _ _).mono ?_; rintro e wn ⟨rfl, rfl⟩) | (go_at_call 19; refine (Read_nil _ _).mono ?_; rintro e wn ⟨rfl, rfl⟩) | (go_at_call 20; refine (Write_nil _ _ _).mono ?_; rintro e wn ⟨rfl, rfl⟩) | (go_at_call 21; refine (Sync_nil _).mono ?_; rintro e wn ⟨rfl, rfl⟩) | (go_at_call 24; refine (Spoil_nil _ _ _ _).mono ?_; rintro e wn ⟨rfl, rfl⟩) | (go_at_call 14; refine (IsOn_nil _).mono ?_; rintro e wn ⟨rfl, rfl⟩) | (go_at_call 10; refine (Size_nil _).mono ?_; rintro e wn ⟨rfl, rfl⟩) | (go_at_call 11; refine (Count_nil _).mono ?_; rintro e wn ⟨rfl, rfl⟩) | (go_at_call 15; refine (Falls_nil _).mono ?_; rintro e wn ⟨rfl, rfl⟩) | (go_at_call 16; refine (Waits_nil _).mono ?_; rintro e wn ⟨rfl, rfl⟩))
    go_ret
    exact ⟨rfl, hbz⟩
  by_cases h3 : c < 1
  · clear h
    go_enter Try.func5, Try.ntmps5
    go_wp2_with (first | (go_at_call 9; refine HN.out.mono ?_; rintro e w1 ⟨rfl, rfl⟩) | (go_at_call 8; refine (awake12_any _).mono ?_; rintro e wz ⟨rfl, hbz⟩) | (go_at_call 22; refine (Fuse_nil _ _).mono ?_; rintro e wn ⟨rfl, rfl⟩) | (go_at_call 23; refine (Fall_nil _).mono ?_; rintro e wn ⟨rfl, rfl⟩) | (go_at_call 17; refine (Back_nil _ _ _).mono ?_; rintro e wn ⟨rfl, rfl⟩) | (go_at_call 19; refine (Read_nil _ _).mono ?_; rintro e wn ⟨rfl, rfl⟩) | (go_at_call 20; refine (Write_nil _ _ _).mono ?_; rintro e wn ⟨rfl, rfl⟩) | (go_at_call 21; refine (Sync_nil _).mono ?_; rintro e wn ⟨rfl, rfl⟩) | (go_at_call 24; refine (Spoil_nil _ _ _ _).mono ?_; rintro e wn ⟨rfl, rfl⟩) | (go_at_call 14; refine (IsOn_nil _).mono ?_; rintro e wn ⟨rfl, rfl⟩) | (go_at_call 10; refine (Size_nil _).mono ?_; rintro e wn ⟨rfl, rfl⟩) | (go_at_call 11; refine (Count_nil _).mono ?_; rintro e wn ⟨rfl, rfl⟩) | (go_at_call 15; refine (Falls_nil _).mono ?_; rintro e wn ⟨rfl, rfl⟩) | (go_at_call 16; refine (Waits_nil _).mono ?_; rintro e wn ⟨rfl, rfl⟩))
    go_ret
    exact ⟨rfl, hbz⟩
  have h4 : 4096 < c := by omega
  clear h
  go_enter Try.func5, Try.ntmps5
  go_wp2_with (first | (go_at_call 9; refine HN.out.mono ?_; rintro e w1 ⟨rfl, rfl⟩) | (go_at_call 8; refine (awake12_any _).mono ?_; rintro e wz ⟨rfl, hbz⟩) | (go_at_call 22; refine (Fuse_nil _ _).mono ?_; rintro e wn ⟨rfl, rfl⟩) | (go_at_call 23; refine (Fall_nil _).mono ?_; rintro e wn ⟨rfl, rfl⟩) | (go_at_call 17; refine (Back_nil _ _ _).mono ?_; rintro e wn ⟨rfl, rfl⟩) | (go_at_call 19; refine (Read_nil _ _).mono ?_; rintro e wn ⟨rfl, rfl⟩) | (go_at_call 20; refine (Write_nil _ _ _).mono ?_; rintro e wn ⟨rfl, rfl⟩) | (go_at_call 21; refine (Sync_nil _).mono ?_; rintro e wn ⟨rfl, rfl⟩) | (go_at_call 24; refine (Spoil_nil _ _ _ _).mono ?_; rintro e wn ⟨rfl, rfl⟩) | (go_at_call 14; refine (IsOn_nil _).mono ?_; rintro e wn ⟨rfl, rfl⟩) | (go_at_call 10; refine (Size_nil _).mono ?_; rintro e wn ⟨rfl, rfl⟩) | (go_at_call 11; refine (Count_nil _).mono ?_; rintro e wn ⟨rfl, rfl⟩) | (go_at_call 15; refine (Falls_nil _).mono ?_; rintro e wn ⟨rfl, rfl⟩) | (go_at_call 16; refine (Waits_nil _).mono ?_; rintro e wn ⟨rfl, rfl⟩))
  go_ret
  exact ⟨rfl, hbz⟩

set_option maxRecDepth 100000 in
theorem walk_good (n c : Nat) (i : Int) (A : Option Addr) (m cp : Nat) (t : Bool) (w : World) (hg : ¬ 600 < m) (h1 : 64 ≤ n) (h2 : n ≤ 512) (h3 : 1 ≤ c) (h4 : c ≤ 4096) :
    Calls Try.prog 5 #[.int .i64 (n : Int), .int .i64 (c : Int), .int .i64 i, .slice A m cp, .bool t] w fun e w' => e = .returned (.bool true) ∧ Below w.heap.size w w' := by
  have HN := hide_ (New_good n c w h1 h2 h3 h4)
  have i1 : ¬ (n : Int) < 64 := by omega
  have i2 : ¬ 512 < (n : Int) := by omega
  have i3 : ¬ (c : Int) < 1 := by omega
  have i4 : ¬ 4096 < (c : Int) := by omega
  go_enter Try.func5, Try.ntmps5
  go_wp2_with (first | (go_at_call 9; refine HN.out.mono ?_; rintro e w1 ⟨L, rfl, hd, hb, _⟩; (have HD := hide_ hd); (have HB := hide_ hb); clear hd hb) | (go_at_call 8; refine (awake12_any _).mono ?_; rintro e wz ⟨rfl, hbz⟩) | (go_at_call_of 14 L.b; with_reducible refine (IsOn_any HD.out).mono ?_; rintro e wn ⟨rfl, rfl⟩) | (go_at_call 14; with_reducible refine (IsOn_any HD.out).mono ?_; rintro e wn ⟨rfl, rfl⟩) | (go_at_call 15; with_reducible refine (Falls_any HD.out).mono ?_; rintro e wn ⟨rfl, rfl⟩) | (go_at_call 16; with_reducible refine (Waits_any HD.out).mono ?_; rintro e wn ⟨rfl, rfl⟩) | (go_at_call 22; refine (Fuse_nil _ _).mono ?_; rintro e wn ⟨rfl, rfl⟩) | (go_at_call 23; refine (Fall_nil _).mono ?_; rintro e wn ⟨rfl, rfl⟩) | (go_at_call 17; refine (Back_nil _ _ _).mono ?_; rintro e wn ⟨rfl, rfl⟩) | (go_at_call 19; refine (Read_nil _ _).mono ?_; rintro e wn ⟨rfl, rfl⟩) | (go_at_call 20; refine (Write_nil _ _ _).mono ?_; rintro e wn ⟨rfl, rfl⟩) | (go_at_call 21; refine (Sync_nil _).mono ?_; rintro e wn ⟨rfl, rfl⟩) | (go_at_call 24; refine (Spoil_nil _ _ _ _).mono ?_; rintro e wn ⟨rfl, rfl⟩) | (go_at_call 14; refine (IsOn_nil _).mono ?_; rintro e wn ⟨rfl, rfl⟩) | (go_at_call 10; refine (Size_nil _).mono ?_; rintro e wn ⟨rfl, rfl⟩) | (go_at_call 11; refine (Count_nil _).mono ?_; rintro e wn ⟨rfl, rfl⟩) | (go_at_call 15; refine (Falls_nil _).mono ?_; rintro e wn ⟨rfl, rfl⟩) | (go_at_call 16; refine (Waits_nil _).mono ?_; rintro e wn ⟨rfl, rfl⟩))
  go_ret
  exact ⟨rfl, HB.out.trans (hbz.mono HB.out.size)⟩

theorem own : ownKnob Try.prog.godebug = none := by kernel_rfl
theorem laid : laidOutB Try.prog = true := by kernel_rfl
theorem cells8 : Try.prog.cellsOf 5 = 1 := by kernel_rfl

set_option maxRecDepth 100000 in
theorem contract (H : Type) (enc : TypeId × Value → H) (W : World) (base : Nat) (args : Array Value) (ds gs : List (DataW H)) (before : List MemPlace)
    (hval : ∀ (j : Nat) t v, Try.f5.params[j]? = some t → args[j]? = some v → Value.okWide Try.prog W .any base t v)
    (hW : DataW.Whole enc Try.prog Try.f5.params.toList Rows.sectorNewSpec.vars false W args.toList ds gs before) :
    Calls Try.prog 5 args W fun e W' => ∃ v, e = .returned v ∧ Rows.sectorNewSpec.post enc Try.prog Try.f5 false true false false W args v W' := by
  have hW' := hW
  obtain ⟨p, q, hA0, hV, rfl, hfz, hnd⟩ := hW
  have hA : DataW.TrodAll enc Try.prog W 0 (fun _ => true) true Try.f5.params.toList args.toList ds p := hA0
  rw [Try.params5] at hA hval
  obtain ⟨v0, vs0, d0, ds0, p0, q0, hargs, rfl, rfl, h0, r0⟩ := trodAll_cons hA
  obtain ⟨v1, vs1, d1, ds1, p1, q1, rfl, rfl, rfl, h1, r1⟩ := trodAll_cons r0
  obtain ⟨v2, vs2, d2, ds2, p2, q2, rfl, rfl, rfl, h2, r2⟩ := trodAll_cons r1
  obtain ⟨v3, vs3, d3, ds3, p3, q3, rfl, rfl, rfl, h3, r3⟩ := trodAll_cons r2
  obtain ⟨v4, vs4, d4, ds4, p4, q4, rfl, rfl, rfl, h4, r4⟩ := trodAll_cons r3
  obtain ⟨rfl, rfl, rfl⟩ := trodAll_nil r4
  obtain rfl : args = #[v0, v1, v2, v3, v4] := by cases args; simp_all
  obtain ⟨rfl, rfl⟩ := trodVars_none hV
  obtain ⟨a0, rfl, rfl, rfl, w0⟩ := open_int Try.underlying3 (hval 0 3 v0 rfl rfl) h0
  have b0 : -9223372036854775808 ≤ a0 ∧ a0 ≤ 9223372036854775807 := by simpa [Lit.wf, IntKind.min, IntKind.max, IntKind.signed, IntKind.bits] using w0
  obtain ⟨a1, rfl, rfl, rfl, w1⟩ := open_int Try.underlying3 (hval 1 3 v1 rfl rfl) h1
  have b1 : -9223372036854775808 ≤ a1 ∧ a1 ≤ 9223372036854775807 := by simpa [Lit.wf, IntKind.min, IntKind.max, IntKind.signed, IntKind.bits] using w1
  obtain ⟨a2, rfl, rfl, rfl, w2⟩ := open_int Try.underlying3 (hval 2 3 v2 rfl rfl) h2
  have b2 : -9223372036854775808 ≤ a2 ∧ a2 ≤ 9223372036854775807 := by simpa [Lit.wf, IntKind.min, IntKind.max, IntKind.signed, IntKind.bits] using w2
  obtain ⟨A3, n3, c3, l3, rfl, e3, m3, M3, s3⟩ := open_bytes Try.underlying38 Try.underlying5 cells8 (hval 3 38 v3 rfl rfl) h3
  obtain ⟨t4, rfl, rfl, rfl⟩ := open_bool Try.underlying4 (hval 4 4 v4 rfl rfl) h4
  have fin : ∀ (e : Ending) (W' : World), e = .returned (.bool true) ∧ Below W.heap.size W W' → ∃ v, e = .returned v ∧ Rows.sectorNewSpec.post enc Try.prog Try.f5 false true false false W #[.int .i64 a0, .int .i64 a1, .int .i64 a2, .slice A3 n3 c3, .bool t4] v W' :=
    fun e W' ⟨he, hb⟩ => ⟨_, he, law_post laid (by kernel_rfl) rfl rfl rfl Try.underlying4 hW' hb⟩
  by_cases hg : 600 < n3
  · exact (walk_long a0 a1 a2 A3 n3 c3 t4 W hg).mono fin
  by_cases h : 64 ≤ a0 ∧ a0 ≤ 512 ∧ 1 ≤ a1 ∧ a1 ≤ 4096
  · obtain ⟨p, rfl⟩ : ∃ p : Nat, a0 = (p : Int) := ⟨a0.toNat, by omega⟩
    obtain ⟨q, rfl⟩ : ∃ q : Nat, a1 = (q : Int) := ⟨a1.toNat, by omega⟩
    exact (walk_good p q a2 A3 n3 c3 t4 W hg (by omega) (by omega) (by omega) (by omega)).mono fin
  · exact (walk_bad a0 a1 a2 A3 n3 c3 t4 W hg h).mono fin

set_option maxRecDepth 100000 in
theorem lifted (os : Os) (started : os.Started) (H : Type) (enc : TypeId × Value → H) :
    ReturnsInHanded {} Try.checked os 5 .any (Rows.sectorNewSpec.pre6 enc Try.prog Try.f5 Rows.sectorNewRow.domain false) (Rows.sectorNewSpec.post enc Try.prog Try.f5 false true false false) := by
  refine returnsInHanded_of_change (C := Try.checked) (s := Rows.sectorNewSpec) own started (by kernel_rfl) Try.func5
    (ChangeSpec.witness6 (enc := enc) (C := Try.checked) false ⟨#[], #[.int .i64 0, .int .i64 0, .int .i64 0, .slice none 0 0, .bool false], []⟩ 8 (by kernel_rfl) (by kernel_rfl) (by kernel_rfl) (by kernel_rfl)) ?_
  intro W base args ds gs before hval hW _ _
  exact contract H enc W base args ds gs before hval hW

theorem proved : Rows.SectorNewSaid :=
  OpenClaim.holds_of_wide 5 Try.f5 rfl rfl rfl rfl rfl rfl rfl ⟨rfl, rfl, rfl, rfl, rfl⟩ rfl rfl rfl rfl rfl (by kernel_rfl) Try.func5 (by kernel_rfl)
    (of_decide_eq_true (by kernel_rfl)) (by unfold Func.isWrapper; first | (rw [if_pos (by decide +kernel)]; kernel_rfl) | (rw [if_neg (by decide +kernel)]; exact ⟨rfl, rfl⟩))
    (fun os started H enc _ => lifted os started H enc)
end Go.Proofs.Ytimgmpmibempaaa.sectorNew
