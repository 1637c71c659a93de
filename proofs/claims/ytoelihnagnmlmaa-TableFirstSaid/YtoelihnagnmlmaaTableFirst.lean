/-
  scrutineerlaw05.TableFirst answers true for every input and leaves its input as it was; no condition.
-/
import Derived.Test.YtoelihnagnmlmaaTabX
import Derived.Deep.DeepCutAuto
namespace Go.Proofs.Ytoelihnagnmlmaa.tableFirst
open Go.ChangeShapes Go.WideShapes Go.ChangeAt Go.RowKit

/-- is the law's question put? -/
def Gate (st vs : Int) (l : List RuM) (n m : Nat) (a d : Int) (x : Value) : Prop :=
  ∃ bad : Bool, x = .bool bad ∧ (bad = false → mayT st vs l = true ∧ n ≤ 31 ∧ (0 ≤ a ∧ a < n) ∧ (0 ≤ d ∧ d < st) ∧ (m : Int) = vs)
theorem Gate.bad {st vs : Int} {l : List RuM} {n m : Nat} {a d : Int} : Gate st vs l n m a d (.bool true) := ⟨true, rfl, fun h => by cases h⟩

set_option maxRecDepth 100000 in
set_option maxHeartbeats 3200000 in
theorem walk (st vs : Int) (t : Sl RuM) (d : Int) (vars : List Int) (arg a : Int) (V : Option Addr) (m k : Nat) (w : World) (hi : I64 d) (hs : rusOk w w.heap.size t) (hm : vars.length = m) (hk : k ≤ maxLen) (hmk : m ≤ k) (hsv : Sees w w.heap.size V (iv vars)) (hvi : ∀ v ∈ vars, I64 v) (ha : I64 arg) :
    Calls Try.prog 4 #[tabV st vs t, .int .i64 d, .slice V m k, .int .i64 arg, .int .i64 a] w fun e w' => e = .returned (.bool true) ∧ Below w.heap.size w w' := by
  have hm63 : m ≤ 9223372036854775807 := by unfold maxLen at hk; omega
  obtain ⟨tA, tc, tl⟩ := t
  obtain ⟨n, hn⟩ : ∃ n, tl.length = n := ⟨_, rfl⟩
  have hnm : n ≤ 9223372036854775807 := by have h1 := hs.1; have h2 := hs.2.1; unfold maxLen at h2; simp only [hn] at h1 h2; omega
  have hw1 : Below w.heap.size w (w.alloc (.cells #[.int .i64 st, .int .i64 vs, .slice tA n tc] 24)) := (Below.refl _ _).alloc (Nat.le_refl _) _
  have HG := hide_ (Great_any st vs ⟨tA, tc, tl⟩ w.heap.size _ (rus_stable.below hs hw1) hw1.size)
  have HMY := hide_ (fun (wr : World) (hb : Below w.heap.size w wr) => refMayT_any st vs ⟨tA, tc, tl⟩ w.heap.size wr (rus_stable.below hs hb) hb.size)
  have HX := hide_ (BoxAt.new w #[.int .i64 st, .int .i64 vs, .slice tA n tc] 24)
  have HW := hide_ hw1
  have HS := hide_ hs
  have HSV := hide_ hsv
  have HVI := hide_ hvi
  have HA := hide_ ha
  have HM := hide_ hm
  have HN := hide_ hn
  have HI := hide_ hi
  simp only [tabV, Sl.v, hn] at HG HMY ⊢
  obtain ⟨bm, hbm⟩ : ∃ b, mayT st vs tl = b := ⟨_, rfl⟩
  simp only [hbm] at HMY
  have HBM := hide_ hbm
  clear hs hm hk hmk hsv hvi ha hw1 hn hi hbm
  go_enter Try.func4, Try.ntmps4
  go_upto_region 1 with fail
  go_cut [57] (fun x wx => Gate st vs tl n m a d x ∧ Hid (BoxAt wx w.heap.size #[.int .i64 st, .int .i64 vs, .slice tA n tc] 24) ∧ Below w.heap.size w wx)
  case first =>
    go_wp2_with fail
    refine HG.out.mono ?_
    rintro en w1 ⟨b, rfl, hb⟩
    have HB := hide_ (HW.out.trans (hb.mono (by simp)))
    have HX1 := hide_ (HX.out.below hb)
    have hcx := HX1.out.cell
    clear hb HG
    cases b with
    | true =>
      go_wp2_with fail
      go_meet
      exact ⟨.bad, HX1, HB.out⟩
    | false =>
    go_wp2_with fail
    refine (HMY.out _ HB.out).mono ?_
    rintro en w2 ⟨rfl, hb2⟩
    have HB2 := hide_ (HB.out.trans (hb2.mono HB.out.size))
    have HX2 := hide_ (HX1.out.below hb2)
    clear hcx hb2 HMY
    have hcx := HX2.out.cell
    have hz2 : w.heap.size < w2.heap.size := HX2.out.lt
    cases bm with
    | false =>
      go_wp2_with fail
      go_meet
      exact ⟨.bad, HX2, HB2.out⟩
    | true =>
    by_cases c1 : 31 < n
    · have d1 : decide (31 < (n : Int)) = true := decide_eq_true (by omega)
      go_wp2_with fail
      go_meet
      exact ⟨.bad, HX2, HB2.out⟩
    have d1 : decide (31 < (n : Int)) = false := decide_eq_false (by omega)
    by_cases c2 : a < 0
    · have d2 : decide (a < 0) = true := decide_eq_true c2
      go_wp2_with fail
      go_meet
      exact ⟨.bad, HX2, HB2.out⟩
    have d2 : decide (a < 0) = false := decide_eq_false c2
    by_cases c3 : (n : Int) ≤ a
    · have d3 : decide ((n : Int) ≤ a) = true := decide_eq_true c3
      go_wp2_with fail
      go_meet
      exact ⟨.bad, HX2, HB2.out⟩
    have d3 : decide ((n : Int) ≤ a) = false := decide_eq_false c3
    by_cases c4 : d < 0
    · have d4 : decide (d < 0) = true := decide_eq_true c4
      go_wp2_with fail
      go_meet
      exact ⟨.bad, HX2, HB2.out⟩
    have d4 : decide (d < 0) = false := decide_eq_false c4
    by_cases c5 : st ≤ d
    · have d5 : decide (st ≤ d) = true := decide_eq_true c5
      go_wp2_with fail
      go_meet
      exact ⟨.bad, HX2, HB2.out⟩
    have d5 : decide (st ≤ d) = false := decide_eq_false c5
    by_cases c6 : (m : Int) = vs
    · have d6 : ((m : Int) != vs) = false := by simpa using c6
      have HGT := hide_ (show Gate st vs tl n m a d (.bool false) from ⟨false, rfl, fun _ => ⟨HBM.out, by omega, ⟨by omega, by omega⟩, ⟨by omega, by omega⟩, c6⟩⟩)
      clear c6
      go_wp2_with fail
      go_meet
      exact ⟨HGT.out, HX2, HB2.out⟩
    · have d6 : ((m : Int) != vs) = true := by simpa using c6
      clear c6
      go_wp2_with fail
      go_meet
      exact ⟨.bad, HX2, HB2.out⟩
  case rest =>
    obtain ⟨⟨bad, rfl, hgt⟩, HXC, hbc⟩ := hcut
    have HGT := hide_ hgt
    have HBC := hide_ hbc
    have hcx := HXC.out.cell
    have hzc : w.heap.size < wc.heap.size := HXC.out.lt
    clear hgt hbc HX HW HG HMY HBM
    cases bad with
    | true =>
      go_wp2_with fail
      refine (awake05_any _).mono ?_
      rintro en w3 ⟨rfl, hb3⟩
      go_wp2
      go_ret
      exact ⟨rfl, HBC.out.trans (hb3.mono HBC.out.size)⟩
    | false =>
    obtain ⟨hmay, hn31, ⟨ha1, ha2⟩, hd, hmv⟩ := HGT.out rfl
    obtain ⟨at_, rfl⟩ := Int.eq_ofNat_of_zero_le ha1
    have hat : at_ < n := by omega
    obtain ⟨r, hr⟩ : ∃ r, tl[at_]? = some r := ⟨_, List.getElem?_eq_getElem (by rw [HN.out]; exact hat)⟩
    have hff := first_fire (vars := vars) arg hmay hr (by rw [HN.out]; exact hn31) hd (by rw [HM.out]; exact hmv)
    have hs1 := rus_stable.below HS.out HBC.out
    obtain ⟨tb, ot, hAe, hab, f0, f1, f2, f3, f4, f5, f6⟩ := hs1.2.2.1.ru hr
    have hwz : tb < wc.heap.size := by omega
    have hro := (HS.out.2.2.2 r (List.mem_of_getElem? hr)).1
    have HTS := hide_ hs1.2.2.1
    subst hAe
    obtain ⟨fr, xc, xp, td, ⟨gA, gc, gl⟩, ⟨sA, sc, sl⟩, ⟨eA, ec, el⟩⟩ := r
    simp only at f0 f1 f2 f3 f4 f5 f6 hff hro
    generalize gl.length = gn at f4
    generalize sl.length = sn at f5
    generalize el.length = ee at f6
    have HFF := hide_ hff
    have HNR := hide_ (fun (u : World) (B : Nat) => newRu_ok (w := u) (B := B) hro.1 hro.2.1 hro.2.2.1 HI.out)
    clear hff hs1 hr hmay hro ha1 ha2 hd
    have HOW := hide_ (World.ownsRow_lit (base := wc.heap.size + 1 + 1) (e := 42) (size := 7) ((wc.alloc (.cells #[.int .i64 fr, .int .i64 xc, .int .i64 xp, .int .i64 td, .slice gA gn gc, .slice sA sn sc, .slice eA ee ec] 42)).alloc (.cells #[.int .i64 st, .int .i64 vs, .slice (some ⟨tb, ot, none⟩) n tc] 24)) #[.int .i64 fr, .int .i64 xc, .int .i64 xp, .int .i64 d, .slice none 0 0, .slice none 0 0, .slice none 0 0] 1 (by simp) (by simp [maxLen]) (by simp))
    have HFL := hide_ (show (tl.flatMap RuM.cs).length = n * 7 by rw [ru_flat_len, HN.out])
    have HB3 := hide_ (show Below w.heap.size wc (((wc.alloc (.cells #[.int .i64 fr, .int .i64 xc, .int .i64 xp, .int .i64 td, .slice gA gn gc, .slice sA sn sc, .slice eA ee ec] 42)).alloc (.cells #[.int .i64 st, .int .i64 vs, .slice (some ⟨tb, ot, none⟩) n tc] 24)).alloc (.cells #[.int .i64 fr, .int .i64 xc, .int .i64 xp, .int .i64 d, .slice none 0 0, .slice none 0 0, .slice none 0 0] 42)) from (((Below.refl _ _).alloc (by omega) _).alloc (by simp; omega) _).alloc (by simp; omega) _)
    have HSS := hide_ (HTS.out.below HB3.out)
    have HYS := hide_ (show (#[Value.int .i64 fr, .int .i64 xc, .int .i64 xp, .int .i64 d, .slice none 0 0, .slice none 0 0, .slice none 0 0] : Array Value).toList ++ tl.flatMap RuM.cs = (newRu fr xc xp d :: tl).flatMap RuM.cs from rfl)
    have HXR3 := hide_ (show BoxAt (((wc.alloc (.cells #[.int .i64 fr, .int .i64 xc, .int .i64 xp, .int .i64 td, .slice gA gn gc, .slice sA sn sc, .slice eA ee ec] 42)).alloc (.cells #[.int .i64 st, .int .i64 vs, .slice (some ⟨tb, ot, none⟩) n tc] 24)).alloc (.cells #[.int .i64 fr, .int .i64 xc, .int .i64 xp, .int .i64 d, .slice none 0 0, .slice none 0 0, .slice none 0 0] 42)) wc.heap.size #[.int .i64 fr, .int .i64 xc, .int .i64 xp, .int .i64 td, .slice gA gn gc, .slice sA sn sc, .slice eA ee ec] 42 from ((BoxAt.new wc _ _).alloc _).alloc _)
    have HXT3 := hide_ (show BoxAt (((wc.alloc (.cells #[.int .i64 fr, .int .i64 xc, .int .i64 xp, .int .i64 td, .slice gA gn gc, .slice sA sn sc, .slice eA ee ec] 42)).alloc (.cells #[.int .i64 st, .int .i64 vs, .slice (some ⟨tb, ot, none⟩) n tc] 24)).alloc (.cells #[.int .i64 fr, .int .i64 xc, .int .i64 xp, .int .i64 d, .slice none 0 0, .slice none 0 0, .slice none 0 0] 42)) (wc.heap.size + 1) #[.int .i64 st, .int .i64 vs, .slice (some ⟨tb, ot, none⟩) n tc] 24 from by
      have := (BoxAt.new (wc.alloc (.cells #[.int .i64 fr, .int .i64 xc, .int .i64 xp, .int .i64 td, .slice gA gn gc, .slice sA sn sc, .slice eA ee ec] 42)) #[.int .i64 st, .int .i64 vs, .slice (some ⟨tb, ot, none⟩) n tc] 24).alloc (.cells #[.int .i64 fr, .int .i64 xc, .int .i64 xp, .int .i64 d, .slice none 0 0, .slice none 0 0, .slice none 0 0] 42)
      simpa using this)
    have hz1 : w.heap.size < wc.heap.size + 1 := by omega
    have hz2 : w.heap.size < wc.heap.size + 1 + 1 := by omega
    go_wp2_with (at_builtin; refine wpList_append_cells _ rfl _ _ 22 rfl (wc.heap.size + 1 + 1) 42 _ 7 104 rule_info rfl (by omega) Try.underlying22 _ 1 _ (by simp; rfl) HOW.out w.heap.size (some ⟨tb, ot, none⟩) n tc (tl.flatMap RuM.cs) rfl HFL.out HSS.out (ru_one tl) (by omega) (by omega) (by simp) (n + 1) (by omega) _ HYS.out ?_; intro A2 c2 w3 hown hb3; (have HO3 := hide_ hown); (have HBB := hide_ hb3); (have HXR4 := hide_ (show BoxAt w3 wc.heap.size #[.int .i64 fr, .int .i64 xc, .int .i64 xp, .int .i64 td, .slice gA gn gc, .slice sA sn sc, .slice eA ee ec] 42 from (hb3.block _ (by omega)).trans HXR3.out)); (have HXT4 := hide_ (show BoxAt w3 (wc.heap.size + 1) #[.int .i64 st, .int .i64 vs, .slice (some ⟨tb, ot, none⟩) n tc] 24 from (hb3.block _ (by omega)).trans HXT3.out)); (have hcr := HXR4.out.cell); (have hct := HXT4.out.cell); (have hcf : w3.frozen? ⟨wc.heap.size + 1, 2, none⟩ = false := by (have h := HXT4.out; unfold BoxAt at h; simp [World.frozen?, h])); (have hz3 : wc.heap.size + 1 < w3.heap.size := HXT4.out.lt); (have hz4 : wc.heap.size < w3.heap.size := HXR4.out.lt); clear hown hb3)
    clear hcr hct hcf hcx
    have HB4 := hide_ (((HBC.out.trans HB3.out).trans (HBB.out.mono (by omega))).setCell (p := ⟨wc.heap.size + 1, 2, none⟩) (by simp; omega) (.slice A2 (n + 1) c2))
    have HO4 := hide_ (ownsRow_setCell_below HO3.out (a := ⟨wc.heap.size + 1, 2, none⟩) (by simp) (.slice A2 (n + 1) c2))
    have HLE := hide_ (show (newRu fr xc xp d :: tl).length = n + 1 by rw [List.length_cons, HN.out])
    have HRX := hide_ (rus_own (A := A2) (c := c2) (l := newRu fr xc xp d :: tl) (by rw [HLE.out]; exact HO4.out) (fun x hx => by
      rcases List.mem_cons.1 hx with rfl | hx
      · exact HNR.out _ _
      · exact ru_stable.more (ru_stable.below (HS.out.2.2.2 x hx) HB4.out) HB4.out.size))
    have HFIRE := hide_ (Fire_any st vs ⟨A2, c2, newRu fr xc xp d :: tl⟩ fr xc xp vars V m k arg _ _ HM.out HRX.out ((HSV.out.below HB4.out).more HB4.out.size) HVI.out HA.out (Nat.le_refl _))
    rw [HFF.out.1] at HFIRE
    simp only [tabV, Sl.v, HLE.out] at HFIRE
    have HXR5 := hide_ (show BoxAt (w3.setCell ⟨wc.heap.size + 1, 2, none⟩ (.slice A2 (n + 1) c2)) wc.heap.size #[.int .i64 fr, .int .i64 xc, .int .i64 xp, .int .i64 td, .slice gA gn gc, .slice sA sn sc, .slice eA ee ec] 42 from (Below.heap_setCell _ _ _ _ (by simp)).trans HXR4.out)
    have HXT5 := hide_ (show BoxAt (w3.setCell ⟨wc.heap.size + 1, 2, none⟩ (.slice A2 (n + 1) c2)) (wc.heap.size + 1) #[.int .i64 st, .int .i64 vs, .slice A2 (n + 1) c2] 24 from heap_set 2 _ HXT4.out)
    refine HFIRE.out.mono ?_
    rintro en w5 ⟨A5, c5, A6, c6, rfl, -, -, hb5⟩
    simp only [List.length_nil, HM.out]
    have HB5 := hide_ (HB4.out.trans (hb5.mono HB4.out.size))
    have HXR6 := hide_ (HXR5.out.below hb5)
    have HXT6 := hide_ (HXT5.out.below hb5)
    have HFIND := hide_ (Find_any st vs ⟨A2, c2, newRu fr xc xp d :: tl⟩ fr xc xp vars V m k arg _ w5 HM.out (rus_stable.below HRX.out hb5) (((HSV.out.below HB4.out).more HB4.out.size).below hb5) HVI.out HA.out hb5.size)
    rw [HFF.out.2] at HFIND
    simp only [tabV, Sl.v, HLE.out] at HFIND
    have hcr := HXR6.out.cell
    have hct := HXT6.out.cell
    clear hb5
    go_wp2_with fail
    refine HFIND.out.mono ?_
    rintro en w6 ⟨rfl, hb6⟩
    have HB6 := hide_ (HB5.out.trans (hb6.mono HB5.out.size))
    clear hb6 hcr hct
    go_wp2_with fail
    refine (awake05_any _).mono ?_
    rintro en w7 ⟨rfl, hb7⟩
    go_wp2
    go_ret
    exact ⟨rfl, HB6.out.trans (hb7.mono HB6.out.size)⟩

theorem own : ownKnob Try.prog.godebug = none := by kernel_rfl
theorem laid : laidOutB Try.prog = true := by kernel_rfl
theorem cells64 : Try.prog.cellsOf 2 = 1 := by kernel_rfl

set_option maxRecDepth 100000 in
theorem contract (H : Type) (enc : TypeId × Value → H) (W : World) (base : Nat) (args : Array Value) (ds gs : List (DataW H)) (before : List MemPlace)
    (hval : ∀ (j : Nat) t v, Try.f4.params[j]? = some t → args[j]? = some v → Value.okWide Try.prog W .any base t v)
    (hW : DataW.Whole enc Try.prog Try.f4.params.toList Rows.tableFirstSpec.vars false W args.toList ds gs before) :
    Calls Try.prog 4 args W fun e W' => ∃ v, e = .returned v ∧ Rows.tableFirstSpec.post enc Try.prog Try.f4 false true false false W args v W' := by
  have hW' := hW
  obtain ⟨p, q, hA0, hV, rfl, hfz, hnd⟩ := hW
  have hA : DataW.TrodAll enc Try.prog W 0 (fun _ => true) true Try.f4.params.toList args.toList ds p := hA0
  rw [Try.params4] at hA hval
  obtain ⟨v0, vs0, d0, ds0, p0, q0, hargs, rfl, rfl, h0, r0⟩ := trodAll_cons hA
  obtain ⟨v1, vs1, d1, ds1, p1, q1, rfl, rfl, rfl, h1, r1⟩ := trodAll_cons r0
  obtain ⟨v2, vs2, d2, ds2, p2, q2, rfl, rfl, rfl, h2, r2⟩ := trodAll_cons r1
  obtain ⟨v3, vs3, d3, ds3, p3, q3, rfl, rfl, rfl, h3, r3⟩ := trodAll_cons r2
  obtain ⟨v4, vs4, d4, ds4, p4, q4, rfl, rfl, rfl, h4, r4⟩ := trodAll_cons r3
  obtain ⟨rfl, rfl, rfl⟩ := trodAll_nil r4
  obtain rfl : args = #[v0, v1, v2, v3, v4] := by cases args; simp_all
  obtain ⟨rfl, rfl⟩ := trodVars_none hV
  obtain ⟨x0, y0, z0, rfl, bx0, by0, bz0⟩ := open_table (hval 0 24 v0 rfl rfl) h0
  obtain ⟨a1, rfl, rfl, rfl, w1⟩ := open_int Try.underlying3 (hval 1 3 v1 rfl rfl) h1
  have b1 : -9223372036854775808 ≤ a1 ∧ a1 ≤ 9223372036854775807 := by simpa [Lit.wf, IntKind.min, IntKind.max, IntKind.signed, IntKind.bits] using w1
  obtain ⟨A2, n2, c2, l2, rfl, e2, m2, M2, s2, t2⟩ := open_i64s Try.underlying25 Try.underlying2 cells64 (hval 2 25 v2 rfl rfl) h2
  obtain ⟨a3, rfl, rfl, rfl, w3⟩ := open_int Try.underlying2 (hval 3 2 v3 rfl rfl) h3
  have b3 : -9223372036854775808 ≤ a3 ∧ a3 ≤ 9223372036854775807 := by simpa [Lit.wf, IntKind.min, IntKind.max, IntKind.signed, IntKind.bits] using w3
  obtain ⟨a4, rfl, rfl, rfl, w4⟩ := open_int Try.underlying3 (hval 4 3 v4 rfl rfl) h4
  have b4 : -9223372036854775808 ≤ a4 ∧ a4 ≤ 9223372036854775807 := by simpa [Lit.wf, IntKind.min, IntKind.max, IntKind.signed, IntKind.bits] using w4
  have fin : ∀ (e : Ending) (W' : World), e = .returned (.bool true) ∧ Below W.heap.size W W' → ∃ v, e = .returned v ∧ Rows.tableFirstSpec.post enc Try.prog Try.f4 false true false false W #[tabV x0 y0 z0, .int .i64 a1, .slice A2 n2 c2, .int .i64 a3, .int .i64 a4] v W' :=
    fun e W' ⟨he, hb⟩ => ⟨_, he, law_post laid (by kernel_rfl) rfl rfl rfl Try.underlying4 hW' hb⟩
  exact (walk x0 y0 z0 a1 l2 a3 a4 A2 n2 c2 W b1 bz0 e2 M2 m2 s2 t2 b3).mono fin

set_option maxRecDepth 100000 in
theorem lifted (os : Os) (started : os.Started) (H : Type) (enc : TypeId × Value → H) :
    ReturnsInHanded {} Try.checked os 4 .any (Rows.tableFirstSpec.pre6 enc Try.prog Try.f4 Rows.tableFirstRow.domain false) (Rows.tableFirstSpec.post enc Try.prog Try.f4 false true false false) := by
  refine returnsInHanded_of_change (C := Try.checked) (s := Rows.tableFirstSpec) own started (by kernel_rfl) Try.func4
    (ChangeSpec.witness6 (enc := enc) (C := Try.checked) false ⟨#[], #[.agg #[.int .i64 0, .int .i64 0, .slice none 0 0], .int .i64 0, .slice none 0 0, .int .i64 0, .int .i64 0], []⟩ 8 (by kernel_rfl) (by kernel_rfl) (by kernel_rfl) (by kernel_rfl)) ?_
  intro W base args ds gs before hval hW _ _
  exact contract H enc W base args ds gs before hval hW

theorem proved : Rows.TableFirstSaid :=
  OpenClaim.holds_of_wide 4 Try.f4 rfl rfl rfl rfl rfl rfl rfl ⟨rfl, rfl, rfl, rfl, rfl⟩ rfl rfl rfl rfl rfl (by kernel_rfl) Try.func4 (by kernel_rfl)
    (of_decide_eq_true (by kernel_rfl)) (by unfold Func.isWrapper; first | (rw [if_pos (by decide +kernel)]; kernel_rfl) | (rw [if_neg (by decide +kernel)]; exact ⟨rfl, rfl⟩))
    (fun os started H enc _ => lifted os started H enc)
end Go.Proofs.Ytoelihnagnmlmaa.tableFirst
