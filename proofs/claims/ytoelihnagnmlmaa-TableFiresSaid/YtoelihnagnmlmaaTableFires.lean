/-
  scrutineerlaw05.TableFires answers true for every input and leaves its input as it was; no condition.
-/
import Derived.Test.YtoelihnagnmlmaaSame05
import Derived.Test.YtoelihnagnmlmaaRefT4
import Derived.Deep.RegionHeld
namespace Go.Proofs.Ytoelihnagnmlmaa.tableFires
open Go.ChangeShapes Go.WideShapes Go.ChangeAt Go.RowKit

set_option maxRecDepth 100000 in
set_option maxHeartbeats 3200000 in
theorem walk (st vs : Int) (t : Sl RuM) (sa ac pa : Int) (vars : List Int) (arg : Int) (V : Option Addr) (m k : Nat) (w : World) (hs : rusOk w w.heap.size t) (hm : vars.length = m) (hk : k ≤ maxLen) (hmk : m ≤ k) (hsv : Sees w w.heap.size V (iv vars)) (hvi : ∀ v ∈ vars, I64 v) (ha : I64 arg) :
    Calls Try.prog 3 #[tabV st vs t, .int .i64 sa, .int .i64 ac, .int .i64 pa, .slice V m k, .int .i64 arg] w fun e w' => e = .returned (.bool true) ∧ Below w.heap.size w w' := by
  have hm63 : m ≤ 9223372036854775807 := by unfold maxLen at hk; omega
  have hw1 : Below w.heap.size w (w.alloc (.cells #[.int .i64 st, .int .i64 vs, .slice t.A t.l.length t.c] 24)) := (Below.refl _ _).alloc (Nat.le_refl _) _
  have HG := hide_ (Great_any st vs t w.heap.size _ (rus_stable.below hs hw1) hw1.size)
  have HF := hide_ (fun (wr : World) (V1 : Option Addr) (k1 : Nat) (hb : Below w.heap.size w wr) (h1 : Sees wr wr.heap.size V1 (iv vars)) => Fire_any st vs t sa ac pa vars V1 m k1 arg wr.heap.size wr hm (rus_stable.more (rus_stable.below hs hb) hb.size) h1 hvi ha (Nat.le_refl _))
  have HRF := hide_ (fun (wr : World) (hb : Below w.heap.size w wr) => refFire_any st vs t sa ac pa vars V m k arg w.heap.size wr hm (rus_stable.below hs hb) (hsv.below hb) hvi ha hb.size)
  have HFI := hide_ (fun (wr : World) (hb : Below w.heap.size w wr) => Find_any st vs t sa ac pa vars V m k arg w.heap.size wr hm (rus_stable.below hs hb) (hsv.below hb) hvi ha hb.size)
  have HRI := hide_ (fun (wr : World) (hb : Below w.heap.size w wr) => refFind_any st vs t sa ac pa vars V m k arg w.heap.size wr hm (rus_stable.below hs hb) (hsv.below hb) hvi ha hb.size)
  have HMI := hide_ (fun (wr : World) (hb : Below w.heap.size w wr) => MayT_any st vs t w.heap.size wr (rus_stable.below hs hb) hb.size)
  have HRM := hide_ (fun (wr : World) (hb : Below w.heap.size w wr) => refMayT_any st vs t w.heap.size wr (rus_stable.below hs hb) hb.size)
  have HW := hide_ hw1
  have HX := hide_ (BoxAt.new w #[.int .i64 st, .int .i64 vs, .slice t.A t.l.length t.c] 24)
  have HST := hide_ (fire_stays st vs t.l sa ac pa vars arg)
  have HM := hide_ hm
  have HSV := hide_ hsv
  clear hs hm hk hmk hsv hvi ha hw1
  generalize fireR st vs t.l sa ac pa vars arg = R at HF HRF HST
  generalize findI st vs t.l sa ac pa vars arg = F at HFI HRI
  generalize mayT st vs t.l = q at HMI HRM
  obtain ⟨tA, tc, tl⟩ := t
  simp only [tabV, Sl.v] at HG HF HRF HFI HRI HMI HRM HW HX ⊢
  generalize tl.length = tn at HG HF HRF HFI HRI HMI HRM HW HX ⊢
  go_enter Try.func3, Try.ntmps3
  go_wp2_with fail
  refine HG.out.mono ?_
  rintro en w1 ⟨b, rfl, hb⟩
  have HB := hide_ (HW.out.trans (hb.mono (by simp)))
  have HX1 := hide_ (HX.out.below hb)
  clear hb HG
  by_cases hfar : b = true ∨ 100 < m
  · cases b with
    | true =>
      go_wp2_with fail
      refine (awake05_any _).mono ?_
      rintro en w2 ⟨rfl, hb2⟩
      go_wp2
      go_ret
      exact ⟨rfl, HB.out.trans (hb2.mono HB.out.size)⟩
    | false =>
      have h2 : 100 < m := by rcases hfar with h | h; cases h; exact h
      have hd : decide (100 < (m : Int)) = true := decide_eq_true (by omega)
      clear hfar
      go_wp2_with fail
      refine (awake05_any _).mono ?_
      rintro en w2 ⟨rfl, hb2⟩
      go_wp2
      go_ret
      exact ⟨rfl, HB.out.trans (hb2.mono HB.out.size)⟩
  obtain rfl : b = false := by cases b <;> simp_all
  have hm100 : m ≤ 100 := by omega
  have hd : decide (100 < (m : Int)) = false := decide_eq_false (by omega)
  clear hfar
  have H1 := hide_ (World.ownsRow_lit (base := w1.heap.size) (e := 2) (size := 1) w1 #[] 0 (Nat.le_refl _) (by simp [maxLen]) (by simp))
  have H2 := hide_ (show (iv vars).length = m * 1 by rw [iv_length, HM.out]; omega)
  have H3 := hide_ (HSV.out.below (HB.out.alloc HB.out.size (.cells #[] 2)))
  have HXA := hide_ (HX1.out.alloc (.cells #[] 2))
  have hz1 : w.heap.size < w1.heap.size := HX1.out.lt
  go_wp2_with (at_builtin; refine wpList_append_cells _ rfl _ _ 25 rfl w1.heap.size 2 (.int .i64 0) 1 8 i64_info rfl (by omega) Try.underlying25 _ 0 [] rfl H1.out w.heap.size V m k (iv vars) rfl H2.out H3.out (iv_one vars) (by omega) (by omega) (by simp) m (by omega) (iv vars) rfl ?_; intro A1 c1 w2 hown hb2; (have HO2 := hide_ hown); (have HB2 := hide_ ((HB.out.alloc HB.out.size (.cells #[] 2)).trans (hb2.mono (by omega)))); (have HX2 := hide_ (show BoxAt w2 w.heap.size #[.int .i64 st, .int .i64 vs, .slice tA tn tc] 24 from (hb2.block _ (by omega)).trans HXA.out)); (have hcx := HX2.out.cell); (have hz2 : w.heap.size < w2.heap.size := HX2.out.lt); clear hown hb2)
  refine (HF.out w2 A1 c1 HB2.out (Sees.ownRow HO2.out)).mono ?_
  rintro en w3 ⟨A3, c3, A4, c4, rfl, ho3, ho4, hb3⟩
  obtain ⟨s, va, ca, er⟩ := R
  simp only at ho3 ho4
  have hle : va.length ≤ 1000 ∧ ca.length ≤ 1000 := by
    rcases HST.out with ⟨er, _, hR⟩ | ⟨s, v, c, hR, _, hv, hc4, _⟩
    · injection hR with _ hR
      injection hR with h1 hR
      injection hR with h2 _
      subst h1 h2
      simp
    · injection hR with _ hR
      injection hR with h1 hR
      injection hR with h2 _
      subst h1 h2
      have := HM.out
      omega
  obtain ⟨n, hn⟩ : ∃ n, va.length = n := ⟨_, rfl⟩
  obtain ⟨nc, hnc⟩ : ∃ n, ca.length = n := ⟨_, rfl⟩
  simp only [hn, hnc] at ho3 ho4 hle ⊢
  have HVN := hide_ hn
  have HCN := hide_ hnc
  have HO3 := hide_ ho3
  have HC3 := hide_ ho4
  have HB3 := hide_ (HB2.out.trans (hb3.mono (by omega)))
  have HX3 := hide_ (HX2.out.below hb3)
  have HO3' := hide_ (own_below HO2.out hb3)
  have HBW := hide_ hb3
  obtain ⟨n1, n2⟩ := hle
  clear hcx ho3 ho4 hb3 hn hnc
  have hcx := HX3.out.cell
  go_wp2_with fail
  refine (HRF.out w3 HB3.out).mono ?_
  rintro en w4 ⟨A5, c5, A6, c6, rfl, hs5, hs6, hb4⟩
  simp only [HVN.out, HCN.out]
  have HB4 := hide_ (HB3.out.trans (hb4.mono HB3.out.size))
  have HX4 := hide_ (HX3.out.below hb4)
  have HO4 := hide_ (own_below HO3.out hb4)
  have HO4' := hide_ (own_below HO3'.out hb4)
  have HBW4 := hide_ (HBW.out.trans (hb4.mono HBW.out.size))
  have HSM := hide_ (same_any s er va ca n nc A3 A4 A5 A6 c3 c4 c5 c6 w4.heap.size w4 HVN.out HCN.out n1 n2 (Sees.ownRow HO4.out) (Sees.ownRow (own_below HC3.out hb4)) hs5 hs6 (Nat.le_refl _))
  clear hcx hs5 hs6 hb4
  go_wp2_with fail
  refine HSM.out.mono ?_
  rintro en w5 ⟨rfl, hb5⟩
  have HB5 := hide_ (HB4.out.trans (hb5.mono HB4.out.size))
  have HX5 := hide_ (HX4.out.below hb5)
  have HO5 := hide_ (own_below HO4.out hb5)
  have HO5' := hide_ (own_below HO4'.out hb5)
  have hz5 : w2.heap.size ≤ w5.heap.size := (HBW4.out.trans (hb5.mono HBW4.out.size)).size
  clear hb5
  go_wp2
  go_loopw [18] (fun i wr => ∃ j : Nat, j ≤ n ∧ i = .int .i64 j ∧ Hid (∃ a', a'.length = n ∧ wr.ownsRow w2.heap.size 2 1 (.slice A3 n c3) n (iv a')) ∧ Below w2.heap.size w5 wr) (fun i _ => n - (intOf i).toNat)
  case atStart => exact ⟨0, Nat.zero_le _, rfl, ⟨va, HVN.out, HO5.out⟩, Below.refl _ _⟩
  case round =>
    obtain ⟨j, hj, rfl, HO, hb⟩ := hrel
    have HB0 := hide_ hb
    by_cases hlt : j < n
    · obtain ⟨a', ha', ho'⟩ := HO.out
      obtain ⟨g, rfl, hg1, hg2, ⟨u, hcu⟩, hfz⟩ := own_ivar ho' ha' hlt
      have HO6 := hide_ (show ∃ a2 : List Int, a2.length = n ∧ (wr.setCell ⟨g, j, none⟩ (.int .i64 99)).ownsRow w2.heap.size 2 1 (.slice (some ⟨g, 0, none⟩) n c3) n (iv a2) from ⟨a'.set j 99, by simpa using ha', by
        have h := (ho'.stored j (.int .i64 99)).1
        rwa [show (iv a').set j (.int .i64 99) = iv (a'.set j 99) by simp [iv, List.map_set]] at h⟩)
      have HAL := hide_ ha'
      clear ho' hb ha'
      go_wp2
      go_roundw
      case rel => exact ⟨j + 1, by omega, by go_num, HO6, HB0.out.setCell (p := ⟨g, j, none⟩) hg1 _⟩
      case measure => simp [intOf]; omega
    · obtain rfl : j = n := by omega
      have HX6 := hide_ (show BoxAt wr w.heap.size #[.int .i64 st, .int .i64 vs, .slice tA tn tc] 24 from (hb.block _ hz2).trans HX5.out)
      have HO6 := hide_ (own_keep HO5'.out (fun g hg => hb.block g (HO2.out.lt g hg).2))
      have HB6 := hide_ (HB5.out.trans (hb.mono (by omega)))
      clear hb HO
      have HSO := hide_ (Sees.ownRow HO6.out)
      have HSW := hide_ (HSV.out.below HB6.out)
      go_wp2
      go_loopw [19] (fun i wq => ∃ y : Nat, y ≤ m ∧ i = .int .i64 y ∧ Below wr.heap.size wr wq) (fun i _ => m - (intOf i).toNat)
      case atStart => exact ⟨0, Nat.zero_le _, rfl, Below.refl _ _⟩
      case round =>
        obtain ⟨y, hy, rfl, hb⟩ := hrel
        have HB7 := hide_ (HB6.out.trans (hb.mono HB6.out.size))
        have HX7 := hide_ (HX6.out.below hb)
        have HBQ := hide_ hb
        have hzw : w.heap.size < wr.heap.size := HX7.out.lt
        by_cases hlty : y < m
        · obtain ⟨b1, o1, e1, hb1, g1⟩ := (HSO.out.below hb).int (k := y) (by rw [HM.out]; exact hlty)
          obtain ⟨b3, o3, e3, hb3, g3⟩ := (HSV.out.below HB7.out).int (k := y) (by rw [HM.out]; exact hlty)
          generalize vars.getD y 0 = x at g1 g3
          have hw1 : b1 < wr.heap.size := Nat.lt_of_lt_of_le hb1 hb.size
          have hw3 : b3 < wr.heap.size := by omega
          have HF := hide_ (show ∀ u, Below wr.heap.size wr u → u.cell? ⟨b1, o1 + y, none⟩ = some (.int .i64 x) ∧ u.cell? ⟨b3, o3 + y, none⟩ = some (.int .i64 x) from
            fun u hb => ⟨(hb.cell (p := ⟨b1, o1 + y, none⟩) hw1).trans g1, (hb.cell (p := ⟨b3, o3 + y, none⟩) hw3).trans g3⟩)
          subst e1 e3
          clear hb g1 g3
          go_wp2
          go_region_held (fun u => u.cell? ⟨b1, o1 + y, none⟩ = some (.int .i64 x) ∧ u.cell? ⟨b3, o3 + y, none⟩ = some (.int .i64 x)) (exact HF.out _ (Below.refl _ _).drew) (fail)
          go_wp2
          go_roundw
          case rel => exact ⟨y + 1, by omega, by go_num, HBQ.out.drew⟩
          case measure => simp [intOf]; omega
        · obtain rfl : y = m := by omega
          have HXD := hide_ (HX7.out.below (Below.refl _ _).drew)
          have HBD := hide_ (HB7.out.drew)
          clear hb HBQ HB6 HX6 HSO HSW HO6
          go_wp2
          go_region_held (fun u => Hid (BoxAt u w.heap.size #[.int .i64 st, .int .i64 vs, .slice tA tn tc] 24) ∧ (∀ i : Nat, u.cell? ⟨w.heap.size, i, none⟩ = (#[.int .i64 st, .int .i64 vs, .slice tA tn tc] : Array Value)[i]?)) (first | exact ⟨HXD, HXD.out.cell⟩ | exact ⟨HXE, HXE.out.cell⟩ | exact ⟨HXG, HXG.out.cell⟩ | exact ⟨HXI, HXI.out.cell⟩ | exact ⟨HXJ, HXJ.out.cell⟩ | exact ⟨HXK, HXK.out.cell⟩) (first | (go_at_call 13; refine (HFI.out _ HBD.out).mono ?_; rintro en x1 ⟨rfl, bx1⟩; (have HBE := hide_ (HBD.out.trans (bx1.mono HBD.out.size))); (have HXE := hide_ (HXD.out.below bx1)); clear bx1) | (go_at_call 14; refine (HRI.out _ HBE.out).mono ?_; rintro en x2 ⟨rfl, bx2⟩; (have HBG := hide_ (HBE.out.trans (bx2.mono HBE.out.size))); (have HXG := hide_ (HXE.out.below bx2)); clear bx2) | (go_at_call 15; refine (HMI.out _ HBG.out).mono ?_; rintro en x3 ⟨rfl, bx3⟩; (have HBI := hide_ (HBG.out.trans (bx3.mono HBG.out.size))); (have HXI := hide_ (HXG.out.below bx3)); clear bx3) | (go_at_call 16; refine (HRM.out _ HBI.out).mono ?_; rintro en x4 ⟨rfl, bx4⟩; (have HBJ := hide_ (HBI.out.trans (bx4.mono HBI.out.size))); (have HXJ := hide_ (HXI.out.below bx4)); clear bx4) | (go_at_call 9; refine (awake05_any _).mono ?_; rintro en x5 ⟨rfl, bx5⟩; (have HBK := hide_ (HBJ.out.trans (bx5.mono HBJ.out.size))); (have HXK := hide_ (HXJ.out.below bx5)); clear bx5))
          go_wp2
          go_ret
          exact ⟨rfl, HBK.out⟩

theorem own : ownKnob Try.prog.godebug = none := by kernel_rfl
theorem laid : laidOutB Try.prog = true := by kernel_rfl
theorem cells64 : Try.prog.cellsOf 2 = 1 := by kernel_rfl

set_option maxRecDepth 100000 in
theorem contract (H : Type) (enc : TypeId × Value → H) (W : World) (base : Nat) (args : Array Value) (ds gs : List (DataW H)) (before : List MemPlace)
    (hval : ∀ (j : Nat) t v, Try.f3.params[j]? = some t → args[j]? = some v → Value.okWide Try.prog W .any base t v)
    (hW : DataW.Whole enc Try.prog Try.f3.params.toList Rows.tableFiresSpec.vars false W args.toList ds gs before) :
    Calls Try.prog 3 args W fun e W' => ∃ v, e = .returned v ∧ Rows.tableFiresSpec.post enc Try.prog Try.f3 false true false false W args v W' := by
  have hW' := hW
  obtain ⟨p, q, hA0, hV, rfl, hfz, hnd⟩ := hW
  have hA : DataW.TrodAll enc Try.prog W 0 (fun _ => true) true Try.f3.params.toList args.toList ds p := hA0
  rw [Try.params3] at hA hval
  obtain ⟨v0, vs0, d0, ds0, p0, q0, hargs, rfl, rfl, h0, r0⟩ := trodAll_cons hA
  obtain ⟨v1, vs1, d1, ds1, p1, q1, rfl, rfl, rfl, h1, r1⟩ := trodAll_cons r0
  obtain ⟨v2, vs2, d2, ds2, p2, q2, rfl, rfl, rfl, h2, r2⟩ := trodAll_cons r1
  obtain ⟨v3, vs3, d3, ds3, p3, q3, rfl, rfl, rfl, h3, r3⟩ := trodAll_cons r2
  obtain ⟨v4, vs4, d4, ds4, p4, q4, rfl, rfl, rfl, h4, r4⟩ := trodAll_cons r3
  obtain ⟨v5, vs5, d5, ds5, p5, q5, rfl, rfl, rfl, h5, r5⟩ := trodAll_cons r4
  obtain ⟨rfl, rfl, rfl⟩ := trodAll_nil r5
  obtain rfl : args = #[v0, v1, v2, v3, v4, v5] := by cases args; simp_all
  obtain ⟨rfl, rfl⟩ := trodVars_none hV
  obtain ⟨x0, y0, z0, rfl, bx0, by0, bz0⟩ := open_table (hval 0 24 v0 rfl rfl) h0
  obtain ⟨a1, rfl, rfl, rfl, w1⟩ := open_int Try.underlying3 (hval 1 3 v1 rfl rfl) h1
  have b1 : -9223372036854775808 ≤ a1 ∧ a1 ≤ 9223372036854775807 := by simpa [Lit.wf, IntKind.min, IntKind.max, IntKind.signed, IntKind.bits] using w1
  obtain ⟨a2, rfl, rfl, rfl, w2⟩ := open_int Try.underlying3 (hval 2 3 v2 rfl rfl) h2
  have b2 : -9223372036854775808 ≤ a2 ∧ a2 ≤ 9223372036854775807 := by simpa [Lit.wf, IntKind.min, IntKind.max, IntKind.signed, IntKind.bits] using w2
  obtain ⟨a3, rfl, rfl, rfl, w3⟩ := open_int Try.underlying3 (hval 3 3 v3 rfl rfl) h3
  have b3 : -9223372036854775808 ≤ a3 ∧ a3 ≤ 9223372036854775807 := by simpa [Lit.wf, IntKind.min, IntKind.max, IntKind.signed, IntKind.bits] using w3
  obtain ⟨A4, n4, c4, l4, rfl, e4, m4, M4, s4, t4⟩ := open_i64s Try.underlying25 Try.underlying2 cells64 (hval 4 25 v4 rfl rfl) h4
  obtain ⟨a5, rfl, rfl, rfl, w5⟩ := open_int Try.underlying2 (hval 5 2 v5 rfl rfl) h5
  have b5 : -9223372036854775808 ≤ a5 ∧ a5 ≤ 9223372036854775807 := by simpa [Lit.wf, IntKind.min, IntKind.max, IntKind.signed, IntKind.bits] using w5
  have fin : ∀ (e : Ending) (W' : World), e = .returned (.bool true) ∧ Below W.heap.size W W' → ∃ v, e = .returned v ∧ Rows.tableFiresSpec.post enc Try.prog Try.f3 false true false false W #[tabV x0 y0 z0, .int .i64 a1, .int .i64 a2, .int .i64 a3, .slice A4 n4 c4, .int .i64 a5] v W' :=
    fun e W' ⟨he, hb⟩ => ⟨_, he, law_post laid (by kernel_rfl) rfl rfl rfl Try.underlying4 hW' hb⟩
  exact (walk x0 y0 z0 a1 a2 a3 l4 a5 A4 n4 c4 W bz0 e4 M4 m4 s4 t4 b5).mono fin

set_option maxRecDepth 100000 in
theorem lifted (os : Os) (started : os.Started) (H : Type) (enc : TypeId × Value → H) :
    ReturnsInHanded {} Try.checked os 3 .any (Rows.tableFiresSpec.pre6 enc Try.prog Try.f3 Rows.tableFiresRow.domain false) (Rows.tableFiresSpec.post enc Try.prog Try.f3 false true false false) := by
  refine returnsInHanded_of_change (C := Try.checked) (s := Rows.tableFiresSpec) own started (by kernel_rfl) Try.func3
    (ChangeSpec.witness6 (enc := enc) (C := Try.checked) false ⟨#[], #[.agg #[.int .i64 0, .int .i64 0, .slice none 0 0], .int .i64 0, .int .i64 0, .int .i64 0, .slice none 0 0, .int .i64 0], []⟩ 8 (by kernel_rfl) (by kernel_rfl) (by kernel_rfl) (by kernel_rfl)) ?_
  intro W base args ds gs before hval hW _ _
  exact contract H enc W base args ds gs before hval hW

theorem proved : Rows.TableFiresSaid :=
  OpenClaim.holds_of_wide 3 Try.f3 rfl rfl rfl rfl rfl rfl rfl ⟨rfl, rfl, rfl, rfl, rfl⟩ rfl rfl rfl rfl rfl (by kernel_rfl) Try.func3 (by kernel_rfl)
    (of_decide_eq_true (by kernel_rfl)) (by unfold Func.isWrapper; first | (rw [if_pos (by decide +kernel)]; kernel_rfl) | (rw [if_neg (by decide +kernel)]; exact ⟨rfl, rfl⟩))
    (fun os started H enc _ => lifted os started H enc)
end Go.Proofs.Ytoelihnagnmlmaa.tableFires
