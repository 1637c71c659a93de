/-
  scrutineerlaw05.TableOthers answers true for every input and leaves its input as it was; no condition.
-/
import Derived.Test.YtkjgplcfoihohaaTabZ
import Derived.Test.YtkjgplcfoihohaaSame05
import Derived.Test.YtkjgplcfoihohaaRefT4
import Derived.Deep.RegionHeldLaw
import Derived.Deep.DeepCutAuto
namespace Go.Proofs.Ytkjgplcfoihohaa.tableOthers
open Go.ChangeShapes Go.WideShapes Go.ChangeAt Go.RowKit

/-- is the law's question put? -/
def Gate (n m : Nat) (a : Int) (r : RuM) (sa ac pa : Int) (x : Value) : Prop :=
  ∃ bad : Bool, x = .bool bad ∧ (bad = false → n ≤ 31 ∧ (0 ≤ a ∧ a ≤ n) ∧ m ≤ 100 ∧ ¬(r.fr = sa ∧ r.ac = ac ∧ r.pa = pa))
theorem Gate.bad {n m : Nat} {a : Int} {r : RuM} {sa ac pa : Int} : Gate n m a r sa ac pa (.bool true) := ⟨true, rfl, fun h => by cases h⟩

set_option maxRecDepth 100000 in
set_option maxHeartbeats 3200000 in
theorem walk (st vs : Int) (t : Sl RuM) (r : RuM) (a sa ac pa : Int) (vars : List Int) (arg : Int) (V : Option Addr) (m k : Nat) (w : World) (hs : rusOk w w.heap.size t) (hro : RuM.ok w w.heap.size r) (hm : vars.length = m) (hk : k ≤ maxLen) (hmk : m ≤ k) (hsv : Sees w w.heap.size V (iv vars)) (hvi : ∀ v ∈ vars, I64 v) (ha : I64 arg) :
    Calls Try.prog 4 #[tabV st vs t, r.v, .int .i64 a, .int .i64 sa, .int .i64 ac, .int .i64 pa, .slice V m k, .int .i64 arg] w fun e w' => e = .returned (.bool true) ∧ Below w.heap.size w w' := by
  have hm63 : m ≤ 9223372036854775807 := by unfold maxLen at hk; omega
  obtain ⟨tA, tc, tl⟩ := t
  obtain ⟨n, hn⟩ : ∃ n, tl.length = n := ⟨_, rfl⟩
  have hnc : n ≤ tc ∧ tc ≤ 9223372036854775807 := by have h1 := hs.1; have h2 := hs.2.1; unfold maxLen at h2; simp only [hn] at h1 h2; omega
  have hnm : n ≤ 9223372036854775807 := by omega
  have HS := hide_ hs
  have HRO := hide_ hro
  have HSV := hide_ hsv
  have HVI := hide_ hvi
  have HA := hide_ ha
  have HM := hide_ hm
  have HN := hide_ hn
  have HRK := hide_ (show ∃ r0, r0 = r from ⟨r, rfl⟩)
  have HRE := hide_ (rfl : r = r)
  obtain ⟨rr, hrr⟩ : ∃ rr, rr = r := ⟨r, rfl⟩
  have HRR := hide_ hrr
  clear hrr HRK HRE
  obtain ⟨fr, xc, xp, td, ⟨gA, gc, gl⟩, ⟨sA, sc, sl⟩, ⟨eA, ec, el⟩⟩ := r
  obtain ⟨gn, hgn⟩ : ∃ n, gl.length = n := ⟨_, rfl⟩
  obtain ⟨sn, hsn⟩ : ∃ n, sl.length = n := ⟨_, rfl⟩
  obtain ⟨ee, hen⟩ : ∃ n, el.length = n := ⟨_, rfl⟩
  have HRC := hide_ (show RuM.cs rr = [.int .i64 fr, .int .i64 xc, .int .i64 xp, .int .i64 td, .slice gA gn gc, .slice sA sn sc, .slice eA ee ec] by rw [HRR.out, ← hgn, ← hsn, ← hen]; rfl)
  have HFR := hide_ (show rr.fr = fr ∧ rr.ac = xc ∧ rr.pa = xp by rw [HRR.out]; exact ⟨rfl, rfl, rfl⟩)
  have HRO2 := hide_ (show RuM.ok w w.heap.size rr by rw [HRR.out]; exact HRO.out)
  have hw1 : Below w.heap.size w ((w.alloc (.cells #[.int .i64 st, .int .i64 vs, .slice tA n tc] 24)).alloc (.cells #[.int .i64 fr, .int .i64 xc, .int .i64 xp, .int .i64 td, .slice gA gn gc, .slice sA sn sc, .slice eA ee ec] 40)) := ((Below.refl _ _).alloc (Nat.le_refl _) _).alloc (by simp) _
  have HG := hide_ (Great_any st vs ⟨tA, tc, tl⟩ w.heap.size _ (rus_stable.below hs hw1) hw1.size)
  have HX := hide_ ((BoxAt.new w #[.int .i64 st, .int .i64 vs, .slice tA n tc] 24).alloc (.cells #[.int .i64 fr, .int .i64 xc, .int .i64 xp, .int .i64 td, .slice gA gn gc, .slice sA sn sc, .slice eA ee ec] 40))
  have HY := hide_ (show BoxAt ((w.alloc (.cells #[.int .i64 st, .int .i64 vs, .slice tA n tc] 24)).alloc (.cells #[.int .i64 fr, .int .i64 xc, .int .i64 xp, .int .i64 td, .slice gA gn gc, .slice sA sn sc, .slice eA ee ec] 40)) (w.heap.size + 1) #[.int .i64 fr, .int .i64 xc, .int .i64 xp, .int .i64 td, .slice gA gn gc, .slice sA sn sc, .slice eA ee ec] 40 by
    have := BoxAt.new (w.alloc (.cells #[.int .i64 st, .int .i64 vs, .slice tA n tc] 24)) #[.int .i64 fr, .int .i64 xc, .int .i64 xp, .int .i64 td, .slice gA gn gc, .slice sA sn sc, .slice eA ee ec] 40
    simpa using this)
  have HW := hide_ hw1
  simp only [tabV, RuM.v, Sl.v, hn, hgn, hsn, hen] at HG ⊢
  clear hs hro hm hk hmk hsv hvi ha hw1 hn hgn hsn hen HRO HRR
  go_enter Try.func4, Try.ntmps4
  go_upto_region 1 with fail
  go_cut [63] (fun x wx => Gate n m a rr sa ac pa x ∧ Hid (BoxAt wx w.heap.size #[.int .i64 st, .int .i64 vs, .slice tA n tc] 24) ∧ Hid (BoxAt wx (w.heap.size + 1) #[.int .i64 fr, .int .i64 xc, .int .i64 xp, .int .i64 td, .slice gA gn gc, .slice sA sn sc, .slice eA ee ec] 40) ∧ Below w.heap.size w wx)
  case first =>
    go_wp2_with fail
    refine HG.out.mono ?_
    rintro en w1 ⟨b, rfl, hb⟩
    have HB := hide_ (HW.out.trans (hb.mono (by simp; omega)))
    have HX1 := hide_ (HX.out.below hb)
    have HY1 := hide_ (HY.out.below hb)
    have hcx := HX1.out.cell
    have hcy := HY1.out.cell
    have hz1 : w.heap.size < w1.heap.size := HX1.out.lt
    have hz2 : w.heap.size + 1 < w1.heap.size := HY1.out.lt
    clear hb HG
    cases b with
    | true =>
      go_wp2_with fail
      go_meet
      exact ⟨.bad, HX1, HY1, HB.out⟩
    | false =>
    by_cases c1 : 31 < n
    · have d1 : decide (31 < (n : Int)) = true := decide_eq_true (by omega)
      go_wp2_with fail
      go_meet
      exact ⟨.bad, HX1, HY1, HB.out⟩
    have d1 : decide (31 < (n : Int)) = false := decide_eq_false (by omega)
    by_cases c2 : a < 0
    · have d2 : decide (a < 0) = true := decide_eq_true c2
      go_wp2_with fail
      go_meet
      exact ⟨.bad, HX1, HY1, HB.out⟩
    have d2 : decide (a < 0) = false := decide_eq_false c2
    by_cases c3 : (n : Int) < a
    · have d3 : decide ((n : Int) < a) = true := decide_eq_true c3
      go_wp2_with fail
      go_meet
      exact ⟨.bad, HX1, HY1, HB.out⟩
    have d3 : decide ((n : Int) < a) = false := decide_eq_false c3
    by_cases c4 : 100 < m
    · have d4 : decide (100 < (m : Int)) = true := decide_eq_true (by omega)
      go_wp2_with fail
      go_meet
      exact ⟨.bad, HX1, HY1, HB.out⟩
    have d4 : decide (100 < (m : Int)) = false := decide_eq_false (by omega)
    by_cases e1 : fr = sa
    case neg =>
      have d5 : (fr == sa) = false := beq_eq_false_iff_ne.2 e1
      have HGT := hide_ (show Gate n m a rr sa ac pa (.bool false) from ⟨false, rfl, fun _ => ⟨by omega, ⟨by omega, by omega⟩, by omega, fun h => e1 (HFR.out.1 ▸ h.1)⟩⟩)
      clear e1
      go_wp2_with fail
      go_meet
      exact ⟨HGT.out, HX1, HY1, HB.out⟩
    have d5 : (fr == sa) = true := by simp [e1]
    by_cases e2 : xc = ac
    case neg =>
      have d6 : (xc == ac) = false := beq_eq_false_iff_ne.2 e2
      have HGT := hide_ (show Gate n m a rr sa ac pa (.bool false) from ⟨false, rfl, fun _ => ⟨by omega, ⟨by omega, by omega⟩, by omega, fun h => e2 (HFR.out.2.1 ▸ h.2.1)⟩⟩)
      clear e1 e2
      go_wp2_with fail
      go_meet
      exact ⟨HGT.out, HX1, HY1, HB.out⟩
    have d6 : (xc == ac) = true := by simp [e2]
    by_cases e3 : xp = pa
    case neg =>
      have d7 : (xp == pa) = false := beq_eq_false_iff_ne.2 e3
      have HGT := hide_ (show Gate n m a rr sa ac pa (.bool false) from ⟨false, rfl, fun _ => ⟨by omega, ⟨by omega, by omega⟩, by omega, fun h => e3 (HFR.out.2.2 ▸ h.2.2)⟩⟩)
      clear e1 e2 e3
      go_wp2_with fail
      go_meet
      exact ⟨HGT.out, HX1, HY1, HB.out⟩
    have d7 : (xp == pa) = true := by simp [e3]
    clear e1 e2 e3
    go_wp2_with fail
    go_meet
    exact ⟨.bad, HX1, HY1, HB.out⟩
  case rest =>
    obtain ⟨⟨bad, rfl, hgt⟩, HXC, HYC, hbc⟩ := hcut
    have HGT := hide_ hgt
    have HBC := hide_ hbc
    have hcx := HXC.out.cell
    have hcy := HYC.out.cell
    have hzc : w.heap.size < wc.heap.size := HXC.out.lt
    have hzc1 : w.heap.size + 1 < wc.heap.size := HYC.out.lt
    clear hgt hbc HX HY HW HG
    cases bad with
    | true =>
      go_wp2_with fail
      refine (awake05_any _).mono ?_
      rintro en w3 ⟨rfl, hb3⟩
      go_wp2
      go_ret
      exact ⟨rfl, HBC.out.trans (hb3.mono HBC.out.size)⟩
    | false =>
    obtain ⟨hn31, ⟨ha1, ha2⟩, hm100, hno⟩ := HGT.out rfl
    obtain ⟨at_, rfl⟩ := Int.eq_ofNat_of_zero_le ha1
    have hat : at_ ≤ n := by omega
    have HNO := hide_ hno
    clear hno ha1 ha2 HGT
    go_upto_region 4 with fail
    obtain ⟨wd, hwd⟩ : ∃ wd, wd = wc := ⟨_, rfl⟩
    subst hwd
    have HFL1 := hide_ (show ((tl.take at_).flatMap RuM.cs).length = at_ * 7 by rw [ru_flat_len, List.length_take, HN.out, Nat.min_eq_left hat])
    have HFL2 := hide_ (show ((tl.drop at_).flatMap RuM.cs).length = (n - at_) * 7 by rw [ru_flat_len, List.length_drop, HN.out])
    have HTX := hide_ ((HS.out.2.2.1.below HBC.out).below ((Below.refl wd.heap.size wd).alloc (Nat.le_refl _) (.cells #[.int .i64 st, .int .i64 vs, .slice tA n tc] 24) |>.mono (show w.heap.size ≤ wd.heap.size by omega)))
    have HSS1 := hide_ (fun (u : World) (hb : Below (wd.heap.size + 1) (wd.alloc (.cells #[.int .i64 st, .int .i64 vs, .slice tA n tc] 24)) u) => show Sees u w.heap.size tA ((tl.take at_).flatMap RuM.cs) by
      have h := (HTX.out.below (hb.mono (by omega))).take (at_ * 7)
      rwa [flat_takes] at h)
    have HSS2 := hide_ (fun (u : World) (hb : Below (wd.heap.size + 1) (wd.alloc (.cells #[.int .i64 st, .int .i64 vs, .slice tA n tc] 24)) u) => show Sees u w.heap.size (if tc * 7 = at_ * 7 then tA else tA.map (·.add (at_ * 7))) ((tl.drop at_).flatMap RuM.cs) by
      have h := (HTX.out.below (hb.mono (by omega))).drop (at_ * 7) (tc * 7) (by rw [ru_flat_len, HN.out]; omega)
      rwa [flat_drops] at h)
    have HWX := hide_ (show Below wd.heap.size wd (wd.alloc (.cells #[.int .i64 st, .int .i64 vs, .slice tA n tc] 24)) from (Below.refl _ _).alloc (Nat.le_refl _) _)
    have HF := hide_ (fun (u : World) (hb : Below wd.heap.size wd u) => show (∀ i : Nat, u.cell? ⟨w.heap.size, i, none⟩ = (#[.int .i64 st, .int .i64 vs, .slice tA n tc] : Array Value)[i]?) ∧ (∀ i : Nat, u.cell? ⟨w.heap.size + 1, i, none⟩ = (#[.int .i64 fr, .int .i64 xc, .int .i64 xp, .int .i64 td, .slice gA gn gc, .slice sA sn sc, .slice eA ee ec] : Array Value)[i]?) from
      ⟨(HXC.out.below hb).cell, (HYC.out.below hb).cell⟩)
    have HB0 := hide_ (show Below (wd.heap.size + 1) (wd.alloc (.cells #[.int .i64 st, .int .i64 vs, .slice tA n tc] 24)) (wd.alloc (.cells #[.int .i64 st, .int .i64 vs, .slice tA n tc] 24)).drew from (Below.refl _ _).drew)
    have HBA := hide_ (show Below (wd.heap.size + 1) (wd.alloc (.cells #[.int .i64 st, .int .i64 vs, .slice tA n tc] 24)) ((wd.alloc (.cells #[.int .i64 st, .int .i64 vs, .slice tA n tc] 24)).alloc (.cells #[] 40)).drew from ((Below.refl _ _).alloc (by simp) _).drew)
    have HBB := hide_ (show Below (wd.heap.size + 1) (wd.alloc (.cells #[.int .i64 st, .int .i64 vs, .slice tA n tc] 24)) (((wd.alloc (.cells #[.int .i64 st, .int .i64 vs, .slice tA n tc] 24)).alloc (.cells #[] 40)).alloc (.cells #[.int .i64 fr, .int .i64 xc, .int .i64 xp, .int .i64 td, .slice gA gn gc, .slice sA sn sc, .slice eA ee ec] 40)).drew from (((Below.refl _ _).alloc (by simp) _).alloc (by simp) _).drew)
    have HBR := hide_ (show Below (wd.heap.size + 1) (wd.alloc (.cells #[.int .i64 st, .int .i64 vs, .slice tA n tc] 24)) ((wd.alloc (.cells #[.int .i64 st, .int .i64 vs, .slice tA n tc] 24)).alloc (.cells #[.int .i64 fr, .int .i64 xc, .int .i64 xp, .int .i64 td, .slice gA gn gc, .slice sA sn sc, .slice eA ee ec] 40)).drew from ((Below.refl _ _).alloc (by simp) _).drew)
    have HBV := hide_ (show Below (wd.heap.size + 1) (wd.alloc (.cells #[.int .i64 st, .int .i64 vs, .slice tA n tc] 24)) (((wd.alloc (.cells #[.int .i64 st, .int .i64 vs, .slice tA n tc] 24)).alloc (.cells #[.int .i64 fr, .int .i64 xc, .int .i64 xp, .int .i64 td, .slice gA gn gc, .slice sA sn sc, .slice eA ee ec] 40)).alloc (.cells #[] 40)).drew from (((Below.refl _ _).alloc (by simp) _).alloc (by simp) _).drew)
    have HOA := hide_ (show ((wd.alloc (.cells #[.int .i64 st, .int .i64 vs, .slice tA n tc] 24)).alloc (.cells #[] 40)).drew.ownsRow (wd.heap.size + 1) 40 7 (.slice (some ⟨wd.heap.size + 1, 0, none⟩) 0 0) 0 [] by
      have h := World.ownsRow_lit (base := wd.heap.size + 1) (e := 40) (size := 7) (wd.alloc (.cells #[.int .i64 st, .int .i64 vs, .slice tA n tc] 24)) #[] 0 (by simp) (by simp [maxLen]) (by simp)
      have h2 : ((wd.alloc (.cells #[.int .i64 st, .int .i64 vs, .slice tA n tc] 24)).alloc (.cells #[] 40)).ownsRow (wd.heap.size + 1) 40 7 (.slice (some ⟨wd.heap.size + 1, 0, none⟩) 0 0) 0 [] := by simpa using h
      exact h2)
    have HOB := hide_ (show (((wd.alloc (.cells #[.int .i64 st, .int .i64 vs, .slice tA n tc] 24)).alloc (.cells #[] 40)).alloc (.cells #[.int .i64 fr, .int .i64 xc, .int .i64 xp, .int .i64 td, .slice gA gn gc, .slice sA sn sc, .slice eA ee ec] 40)).drew.ownsRow (wd.heap.size + 1) 40 7 (.slice (some ⟨wd.heap.size + 1, 0, none⟩) 0 0) 0 [] from HOA.out.alloc (.cells #[.int .i64 fr, .int .i64 xc, .int .i64 xp, .int .i64 td, .slice gA gn gc, .slice sA sn sc, .slice eA ee ec] 40))
    have HOC := hide_ (show (((wd.alloc (.cells #[.int .i64 st, .int .i64 vs, .slice tA n tc] 24)).alloc (.cells #[.int .i64 fr, .int .i64 xc, .int .i64 xp, .int .i64 td, .slice gA gn gc, .slice sA sn sc, .slice eA ee ec] 40)).alloc (.cells #[] 40)).drew.ownsRow (wd.heap.size + 1) 40 7 (.slice (some ⟨wd.heap.size + 1 + 1, 0, none⟩) 0 0) 0 [] by
      have h := World.ownsRow_lit (base := wd.heap.size + 1) (e := 40) (size := 7) ((wd.alloc (.cells #[.int .i64 st, .int .i64 vs, .slice tA n tc] 24)).alloc (.cells #[.int .i64 fr, .int .i64 xc, .int .i64 xp, .int .i64 td, .slice gA gn gc, .slice sA sn sc, .slice eA ee ec] 40)) #[] 0 (by simp) (by simp [maxLen]) (by simp)
      have h2 : (((wd.alloc (.cells #[.int .i64 st, .int .i64 vs, .slice tA n tc] 24)).alloc (.cells #[.int .i64 fr, .int .i64 xc, .int .i64 xp, .int .i64 td, .slice gA gn gc, .slice sA sn sc, .slice eA ee ec] 40)).alloc (.cells #[] 40)).ownsRow (wd.heap.size + 1) 40 7 (.slice (some ⟨wd.heap.size + 1 + 1, 0, none⟩) 0 0) 0 [] := by simpa using h
      exact h2)
    have HRB := hide_ (show Sees (((wd.alloc (.cells #[.int .i64 st, .int .i64 vs, .slice tA n tc] 24)).alloc (.cells #[] 40)).alloc (.cells #[.int .i64 fr, .int .i64 xc, .int .i64 xp, .int .i64 td, .slice gA gn gc, .slice sA sn sc, .slice eA ee ec] 40)).drew (wd.heap.size + 1 + 1 + 1) (some ⟨wd.heap.size + 1 + 1, 0, none⟩) (RuM.cs rr) by
      have h := sees_box ((wd.alloc (.cells #[.int .i64 st, .int .i64 vs, .slice tA n tc] 24)).alloc (.cells #[] 40)) #[.int .i64 fr, .int .i64 xc, .int .i64 xp, .int .i64 td, .slice gA gn gc, .slice sA sn sc, .slice eA ee ec] 40 (RuM.cs rr) (by rw [HRC.out])
      have h2 : Sees (((wd.alloc (.cells #[.int .i64 st, .int .i64 vs, .slice tA n tc] 24)).alloc (.cells #[] 40)).alloc (.cells #[.int .i64 fr, .int .i64 xc, .int .i64 xp, .int .i64 td, .slice gA gn gc, .slice sA sn sc, .slice eA ee ec] 40)) (wd.heap.size + 1 + 1 + 1) (some ⟨wd.heap.size + 1 + 1, 0, none⟩) (RuM.cs rr) := by simpa using h
      exact h2.keep fun _ _ => rfl)
    have HRV := hide_ (show Sees (((wd.alloc (.cells #[.int .i64 st, .int .i64 vs, .slice tA n tc] 24)).alloc (.cells #[.int .i64 fr, .int .i64 xc, .int .i64 xp, .int .i64 td, .slice gA gn gc, .slice sA sn sc, .slice eA ee ec] 40)).alloc (.cells #[] 40)).drew (wd.heap.size + 1 + 1) (some ⟨wd.heap.size + 1, 0, none⟩) (RuM.cs rr) by
      have h := sees_box (wd.alloc (.cells #[.int .i64 st, .int .i64 vs, .slice tA n tc] 24)) #[.int .i64 fr, .int .i64 xc, .int .i64 xp, .int .i64 td, .slice gA gn gc, .slice sA sn sc, .slice eA ee ec] 40 (RuM.cs rr) (by rw [HRC.out])
      have h2 : Sees ((wd.alloc (.cells #[.int .i64 st, .int .i64 vs, .slice tA n tc] 24)).alloc (.cells #[.int .i64 fr, .int .i64 xc, .int .i64 xp, .int .i64 td, .slice gA gn gc, .slice sA sn sc, .slice eA ee ec] 40)) (wd.heap.size + 1 + 1) (some ⟨wd.heap.size + 1, 0, none⟩) (RuM.cs rr) := by simpa using h
      exact (h2.below ((Below.refl _ _).alloc (by simp) (.cells #[] 40))).keep fun _ _ => rfl)
    have HP1 := hide_ (show ((tl.take at_).flatMap RuM.cs ++ RuM.cs rr) ++ (tl.drop at_).flatMap RuM.cs = (putIn tl at_ rr).flatMap RuM.cs from putIn_cells tl at_ rr)
    have HR1 := hide_ (show (RuM.cs rr).length = 1 * 7 from rfl)
    have HR7 := hide_ (show ∀ u ∈ RuM.cs rr, u.oneCell' = true by
      have h := ru_one [rr]
      simpa using h)
    have hz1 : w.heap.size < wd.heap.size + 1 := by omega
    have hz2 : w.heap.size + 1 < wd.heap.size + 1 := by omega
    obtain ⟨tB, htB⟩ : ∃ tB, (if tc * 7 = at_ * 7 then tA else tA.map (·.add (at_ * 7))) = tB := ⟨_, rfl⟩
    rw [htB] at HSS2
    have ho1 : (0 : Int) ≤ (at_ : Int) := by omega
    have ho2 : (at_ : Int) ≤ (tc : Int) := by omega
    have ho3 : (at_ : Int) ≤ (n : Int) := by omega
    have k1 : ∀ w' : World, (Instr.sliceAt 22 (.slice tA n tc) none (some (.int .i64 at_)) none).run Try.prog w' = .ok (.slice tA at_ tc) w' := fun w' => by
      rw [run_sliceAt_slice w' _ _ _ _ _ Try.underlying22, run_slice_h w' _ _ _ _ Try.underlying22 _ _ ho1 ho2]
      rcases tA with _ | ad <;> simp [go_sem, sliced, Addr.add]
    have k2 : ∀ w' : World, (Instr.sliceAt 22 (.slice tA n tc) (some (.int .i64 at_)) none none).run Try.prog w' = .ok (.slice tB (n - at_) (tc - at_)) w' := fun w' => by
      rw [run_sliceAt_slice w' _ _ _ _ _ Try.underlying22, run_slice_l w' _ _ _ _ Try.underlying22 _ _ ho1 ho3, ← htB]
      have h7 : (sizeOf (Try.prog.elem 22)).run Try.prog w' = .ok 7 w' := by kernel_rfl
      rw [h7]
      have e7 : (tc * 7 = at_ * 7) = (tc = at_) := by
        apply propext
        omega
      simp only [e7]
      simp [sliced, Result.andThen]
    have HTB := hide_ htB
    clear hcx hcy htB ho1 ho2 ho3
    go_cut [] (fun wx => ∃ A c, Hid (BoxAt wx wd.heap.size #[.int .i64 st, .int .i64 vs, .slice A (n + 1) c] 24) ∧ Hid (wx.ownsRow (wd.heap.size + 1) 40 7 (.slice A (n + 1) c) (n + 1) ((putIn tl at_ rr).flatMap RuM.cs)) ∧ Hid (Below wd.heap.size wd wx))
    case first =>
      go_region_held_law (fun w' => (∀ i : Nat, w'.cell? ⟨w.heap.size, i, none⟩ = (#[.int .i64 st, .int .i64 vs, .slice tA n tc] : Array Value)[i]?) ∧ (∀ i : Nat, w'.cell? ⟨w.heap.size + 1, i, none⟩ = (#[.int .i64 fr, .int .i64 xc, .int .i64 xp, .int .i64 td, .slice gA gn gc, .slice sA sn sc, .slice eA ee ec] : Array Value)[i]?))
        (first | exact HF.out _ (HWX.out.trans (HB0.out.mono (Nat.le_succ _))) | exact HF.out _ (HWX.out.trans (HBA.out.mono (Nat.le_succ _))) | exact HF.out _ (HWX.out.trans (HBB.out.mono (Nat.le_succ _))) | exact HF.out _ (HWX.out.trans (HBR.out.mono (Nat.le_succ _))) | exact HF.out _ (HWX.out.trans (HBV.out.mono (Nat.le_succ _))) | exact HF.out _ (HWX.out.trans (HB1.out.mono (Nat.le_succ _))) | exact HF.out _ (HWX.out.trans (HBR1.out.mono (Nat.le_succ _))) | exact HF.out _ (HWX.out.trans (HB2.out.mono (Nat.le_succ _))) | exact HF.out _ (HWX.out.trans (HB3.out.mono (Nat.le_succ _))) | exact HF.out _ ((HWX.out.trans (HB3.out.mono (Nat.le_succ _))).setCell (p := ⟨wd.heap.size, 2, none⟩) (Nat.le_refl _) _))
        (first | (refine step_append_cells _ rfl _ _ 22 rfl (wd.heap.size + 1) 40 _ 7 104 rule_info rfl (by omega) Try.underlying22 _ 0 [] rfl HOA.out w.heap.size tA at_ tc ((tl.take at_).flatMap RuM.cs) rfl HFL1.out (HSS1.out _ HBA.out) (ru_one _) (by omega) (by omega) (by simp) at_ (by omega) ((tl.take at_).flatMap RuM.cs) rfl ?_; intro A1 c1 w1 hown1 hgr1 hbk1; (have HO1 := hide_ hown1); (have hsz1 := hgr1.size); simp at hsz1; (have HB1 := hide_ (show Below (wd.heap.size + 1) (wd.alloc (.cells #[.int .i64 st, .int .i64 vs, .slice tA n tc] 24)) w1 from HBA.out.grown hgr1 (by simp <;> omega) (by intro k hk; injection hk with hk; simp only at hk; omega))); (have HBR1 := hide_ (show Below (wd.heap.size + 1) (wd.alloc (.cells #[.int .i64 st, .int .i64 vs, .slice tA n tc] 24)) (w1.alloc (.cells #[.int .i64 fr, .int .i64 xc, .int .i64 xp, .int .i64 td, .slice gA gn gc, .slice sA sn sc, .slice eA ee ec] 40)) from HB1.out.alloc (by omega) _)); (have HRN1 := hide_ (sees_box w1 #[.int .i64 fr, .int .i64 xc, .int .i64 xp, .int .i64 td, .slice gA gn gc, .slice sA sn sc, .slice eA ee ec] 40 (RuM.cs rr) (by rw [HRC.out]))); clear hown1 hgr1 hbk1) | (refine step_append_cells _ rfl _ _ 22 rfl (wd.heap.size + 1) 40 _ 7 104 rule_info rfl (by omega) Try.underlying22 _ 0 [] rfl HOB.out w.heap.size tA at_ tc ((tl.take at_).flatMap RuM.cs) rfl HFL1.out (HSS1.out _ HBB.out) (ru_one _) (by omega) (by omega) (by simp <;> omega) at_ (by omega) ((tl.take at_).flatMap RuM.cs) rfl ?_; intro A1 c1 w1 hown1 hgr1 hbk1; (have HO1 := hide_ hown1); (have hsz1 := hgr1.size); simp at hsz1; (have HB1 := hide_ (show Below (wd.heap.size + 1) (wd.alloc (.cells #[.int .i64 st, .int .i64 vs, .slice tA n tc] 24)) w1 from HBB.out.grown hgr1 (by simp <;> omega) (by intro k hk; injection hk with hk; simp only at hk; omega))); (have HRS1 := hide_ (show Sees w1 _ (some ⟨wd.heap.size + 1 + 1, 0, none⟩) (RuM.cs rr) from HRB.out.spot (hgr1.block _ (by simp) (by intro e; injection e with e; simp only at e; omega)))); clear hown1 hgr1 hbk1) | (refine step_append_cells _ rfl _ _ 22 rfl (wd.heap.size + 1) 40 _ 7 104 rule_info rfl (by omega) Try.underlying22 _ 0 [] rfl HOC.out w.heap.size tA at_ tc ((tl.take at_).flatMap RuM.cs) rfl HFL1.out (HSS1.out _ HBV.out) (ru_one _) (by omega) (by omega) (by simp <;> omega) at_ (by omega) ((tl.take at_).flatMap RuM.cs) rfl ?_; intro A1 c1 w1 hown1 hgr1 hbk1; (have HO1 := hide_ hown1); (have hsz1 := hgr1.size); simp at hsz1; (have HB1 := hide_ (show Below (wd.heap.size + 1) (wd.alloc (.cells #[.int .i64 st, .int .i64 vs, .slice tA n tc] 24)) w1 from HBV.out.grown hgr1 (by simp <;> omega) (by intro k hk; injection hk with hk; simp only at hk; omega))); (have HRS1 := hide_ (show Sees w1 _ (some ⟨wd.heap.size + 1, 0, none⟩) (RuM.cs rr) from HRV.out.spot (hgr1.block _ (by simp) (by intro e; injection e with e; simp only at e; omega)))); clear hown1 hgr1 hbk1) | (refine step_append_cells _ rfl _ _ 22 rfl (wd.heap.size + 1) 40 _ 7 104 rule_info rfl (by omega) Try.underlying22 (.slice A1 at_ c1) at_ ((tl.take at_).flatMap RuM.cs) rfl (HO1.out.alloc _) _ _ 1 1 (RuM.cs rr) rfl HR1.out HRN1.out HR7.out (by omega) (by omega) (by simp <;> omega) (at_ + 1) rfl ((tl.take at_).flatMap RuM.cs ++ RuM.cs rr) rfl ?_; intro A2 c2 w2 hown2 hgr2 hbk2; (have HO2 := hide_ hown2); (have hsz2 := hgr2.size); (have HB2 := hide_ (show Below (wd.heap.size + 1) (wd.alloc (.cells #[.int .i64 st, .int .i64 vs, .slice tA n tc] 24)) w2 from HBR1.out.grown hgr2 (by first | omega | (simp; omega)) (fun k hk => (HO1.out.lt k hk).1))); clear hown2 hgr2 hbk2) | (refine step_append_cells _ rfl _ _ 22 rfl (wd.heap.size + 1) 40 _ 7 104 rule_info rfl (by omega) Try.underlying22 (.slice A1 at_ c1) at_ ((tl.take at_).flatMap RuM.cs) rfl HO1.out _ _ 1 1 (RuM.cs rr) rfl HR1.out HRS1.out HR7.out (by omega) (by omega) (by omega) (at_ + 1) rfl ((tl.take at_).flatMap RuM.cs ++ RuM.cs rr) rfl ?_; intro A2 c2 w2 hown2 hgr2 hbk2; (have HO2 := hide_ hown2); (have hsz2 := hgr2.size); (have HB2 := hide_ (show Below (wd.heap.size + 1) (wd.alloc (.cells #[.int .i64 st, .int .i64 vs, .slice tA n tc] 24)) w2 from HB1.out.grown hgr2 (by first | omega | (simp; omega)) (fun k hk => (HO1.out.lt k hk).1))); clear hown2 hgr2 hbk2) | (refine step_append_cells _ rfl _ _ 22 rfl (wd.heap.size + 1) 40 _ 7 104 rule_info rfl (by omega) Try.underlying22 (.slice A2 (at_ + 1) c2) (at_ + 1) ((tl.take at_).flatMap RuM.cs ++ RuM.cs rr) rfl HO2.out w.heap.size tB (n - at_) (tc - at_) ((tl.drop at_).flatMap RuM.cs) rfl HFL2.out (HSS2.out _ HB2.out) (ru_one _) (by omega) (by omega) (by have := HB2.out.size; simp at this; omega) (n + 1) (by omega) ((putIn tl at_ rr).flatMap RuM.cs) HP1.out ?_; intro A3 c3 w3 hown3 hgr3 hbk3; (have HO3 := hide_ hown3); (have HB3 := hide_ (show Below (wd.heap.size + 1) (wd.alloc (.cells #[.int .i64 st, .int .i64 vs, .slice tA n tc] 24)) w3 from HB2.out.grown hgr3 (by have := HB2.out.size; simp at this; omega) (fun k hk => (HO2.out.lt k hk).1))); (have HX3 := hide_ (show BoxAt w3 wd.heap.size #[.int .i64 st, .int .i64 vs, .slice tA n tc] 24 from (HB3.out.block _ (by omega)).trans (BoxAt.new wd #[.int .i64 st, .int .i64 vs, .slice tA n tc] 24))); (have hcx3 := HX3.out.cell); (have hcf3 : w3.frozen? ⟨wd.heap.size, 2, none⟩ = false := by (have h := HX3.out; unfold BoxAt at h; simp [World.frozen?, h])); (have hz3 : wd.heap.size < w3.heap.size := HX3.out.lt); clear hown3 hgr3 hbk3))
      all_goals (go_wp2_with fail)
      all_goals go_meet
      all_goals exact ⟨A3, c3, heap_set 2 _ HX3.out, ownsRow_setCell_below HO3.out (a := ⟨wd.heap.size, 2, none⟩) (Nat.lt_succ_self _) _, (HWX.out.trans (HB3.out.mono (Nat.le_succ _))).setCell (p := ⟨wd.heap.size, 2, none⟩) (Nat.le_refl _) _⟩
    case rest =>
      obtain ⟨A, c, HXX, HOX, HBX⟩ := hcut
      clear HSS1 HSS2 HTX HF HWX HB0 HBA HBB HBR HBV HOA HOB HOC HRB HRV HP1 HR1 HR7 HFL1 HFL2 k1 k2 HTB
      have hzw : w.heap.size < wd.heap.size := hzc
      have HB1 := hide_ (HBC.out.trans (HBX.out.mono (by omega)))
      have HLN := hide_ (show (putIn tl at_ rr).length = n + 1 by rw [putIn_len tl at_ rr (by rw [HN.out]; exact hat), HN.out])
      have HRX := hide_ (rus_own (A := A) (c := c) (l := putIn tl at_ rr) (by rw [HLN.out]; exact HOX.out) (fun x hx => by
        rcases putIn_mem hx with hx | rfl
        · exact ru_stable.more (ru_stable.below (HS.out.2.2.2 x hx) HB1.out) HB1.out.size
        · exact ru_stable.more (ru_stable.below HRO2.out HB1.out) HB1.out.size))
      have HXT := hide_ (HXC.out.below HBX.out)
      have hzx : wd.heap.size < wc.heap.size := HXX.out.lt
      have hcx := HXX.out.cell
      have HG := hide_ (Great_any st vs ⟨A, c, putIn tl at_ rr⟩ wc.heap.size wc HRX.out (Nat.le_refl _))
      simp only [tabV, Sl.v, HLN.out] at HG
      clear hzc hzc1 hz1 hz2 HXC HYC HOX
      go_wp2_with fail
      refine HG.out.mono ?_
      rintro en w1 ⟨b, rfl, hb1⟩
      have HBW1 := hide_ hb1
      have HX1 := hide_ (HXX.out.below hb1)
      have HT1 := hide_ (HXT.out.below hb1)
      have HC1 := hide_ (HB1.out.trans (hb1.mono HB1.out.size))
      clear hb1 hcx HG
      have hz1 : wd.heap.size < w1.heap.size := HX1.out.lt
      have hcx := HX1.out.cell
      cases b with
      | true =>
        go_wp2_with fail
        refine (awake05_any _).mono ?_
        rintro en w3 ⟨rfl, hb3⟩
        go_wp2
        go_ret
        exact ⟨rfl, HC1.out.trans (hb3.mono HC1.out.size)⟩
      | false =>
      have HRX1 := hide_ (rus_stable.below HRX.out HBW1.out)
      have HM1 := hide_ (refMayT_any st vs ⟨A, c, putIn tl at_ rr⟩ wc.heap.size w1 HRX1.out HBW1.out.size)
      obtain ⟨q, hq⟩ : ∃ q, mayT st vs (putIn tl at_ rr) = q := ⟨_, rfl⟩
      simp only [tabV, Sl.v, HLN.out, hq] at HM1
      have HQ := hide_ hq
      clear hq
      go_wp2_with fail
      refine HM1.out.mono ?_
      rintro en w2 ⟨rfl, hb2⟩
      have HBW2 := hide_ (HBW1.out.trans (hb2.mono HBW1.out.size))
      have HX2 := hide_ (HX1.out.below hb2)
      have HT2 := hide_ (HT1.out.below hb2)
      have HC2 := hide_ (HC1.out.trans (hb2.mono HC1.out.size))
      clear hb2 hcx HM1
      have hz2 : wd.heap.size < w2.heap.size := HX2.out.lt
      have hcx := HX2.out.cell
      cases q with
      | false =>
        go_wp2_with fail
        refine (awake05_any _).mono ?_
        rintro en w3 ⟨rfl, hb3⟩
        go_wp2
        go_ret
        exact ⟨rfl, HC2.out.trans (hb3.mono HC2.out.size)⟩
      | true =>
      have HFO := hide_ (fire_others (sa := sa) (ac := ac) (pa := pa) (vars := vars) (arg := arg) (by rw [HN.out]; exact hn31) HQ.out (isFor_not HNO.out))
      have HFIRE := hide_ (Fire_any st vs ⟨A, c, putIn tl at_ rr⟩ sa ac pa vars V m k arg wc.heap.size w2 HM.out (rus_stable.below HRX.out HBW2.out) ((HSV.out.below HC2.out).more (Nat.le_trans (Nat.le_of_lt hzw) (Nat.le_of_lt hzx))) HVI.out HA.out HBW2.out.size)
      rw [HFO.out] at HFIRE
      have HST := hide_ (fire_stays st vs tl sa ac pa vars arg)
      have HRF := hide_ (fun (wr : World) (hb : Below w.heap.size w wr) => refFire_any st vs ⟨tA, tc, tl⟩ sa ac pa vars V m k arg w.heap.size wr HM.out (rus_stable.below HS.out hb) (HSV.out.below hb) HVI.out HA.out hb.size)
      simp only [tabV, Sl.v, HLN.out, HN.out] at HFIRE HRF
      obtain ⟨R, hR⟩ : ∃ R, fireR st vs tl sa ac pa vars arg = R := ⟨_, rfl⟩
      rw [hR] at HFIRE HST
      simp only [hR] at HRF
      clear hR HFO
      go_wp2_with fail
      refine HFIRE.out.mono ?_
      rintro en w3 ⟨A3, c3, A4, c4, rfl, ho3, ho4, hb3⟩
      obtain ⟨s, va, ca, er⟩ := R
      simp only at ho3 ho4
      have hle : va.length ≤ 1000 ∧ ca.length ≤ 1000 := by
        rcases HST.out with ⟨er, _, hR⟩ | ⟨s, v, c, hR, _, hv, hc4, _⟩
        · injection hR with _ hR
          injection hR with h1 hR
          injection hR with h2 _
          subst h1 h2
          simp
        · injection hR with _ hR
          injection hR with h1 hR
          injection hR with h2 _
          subst h1 h2
          have := HM.out
          omega
      obtain ⟨nv, hnv⟩ : ∃ n, va.length = n := ⟨_, rfl⟩
      obtain ⟨nc, hnc⟩ : ∃ n, ca.length = n := ⟨_, rfl⟩
      simp only [hnv, hnc] at ho3 ho4 hle ⊢
      have HVN := hide_ hnv
      have HCN := hide_ hnc
      have HO3 := hide_ ho3
      have HC3 := hide_ ho4
      have HB3 := hide_ (HC2.out.trans (hb3.mono HC2.out.size))
      have HT3 := hide_ (HT2.out.below hb3)
      obtain ⟨n1, n2⟩ := hle
      clear hcx ho3 ho4 hb3 hnv hnc HFIRE
      have hz3 : w.heap.size < w3.heap.size := HT3.out.lt
      have hcx := HT3.out.cell
      go_wp2_with fail
      refine (HRF.out w3 HB3.out).mono ?_
      rintro en w4 ⟨A5, c5, A6, c6, rfl, hs5, hs6, hb4⟩
      simp only [HVN.out, HCN.out]
      have HB4 := hide_ (HB3.out.trans (hb4.mono HB3.out.size))
      have HSM := hide_ (same_any s er va ca nv nc A3 A4 A5 A6 c3 c4 c5 c6 w4.heap.size w4 HVN.out HCN.out n1 n2 (Sees.ownRow (own_below HO3.out hb4)) (Sees.ownRow (own_below HC3.out hb4)) hs5 hs6 (Nat.le_refl _))
      clear hcx hs5 hs6 hb4
      go_wp2_with fail
      refine HSM.out.mono ?_
      rintro en w5 ⟨rfl, hb5⟩
      have HB5 := hide_ (HB4.out.trans (hb5.mono HB4.out.size))
      clear hb5
      go_wp2_with fail
      refine (awake05_any _).mono ?_
      rintro en w6 ⟨rfl, hb6⟩
      go_wp2
      go_ret
      exact ⟨rfl, HB5.out.trans (hb6.mono HB5.out.size)⟩

theorem own : ownKnob Try.prog.godebug = none := by kernel_rfl
theorem laid : laidOutB Try.prog = true := by kernel_rfl
theorem cells64 : Try.prog.cellsOf 2 = 1 := by kernel_rfl

set_option maxRecDepth 100000 in
theorem contract (H : Type) (enc : TypeId × Value → H) (W : World) (base : Nat) (args : Array Value) (ds gs : List (DataW H)) (before : List MemPlace)
    (hval : ∀ (j : Nat) t v, Try.f4.params[j]? = some t → args[j]? = some v → Value.okWide Try.prog W .any base t v)
    (hW : DataW.Whole enc Try.prog Try.f4.params.toList Rows.tableOthersSpec.vars false W args.toList ds gs before) :
    Calls Try.prog 4 args W fun e W' => ∃ v, e = .returned v ∧ Rows.tableOthersSpec.post enc Try.prog Try.f4 false true false false W args v W' := by
  have hW' := hW
  obtain ⟨p, q, hA0, hV, rfl, hfz, hnd⟩ := hW
  have hA : DataW.TrodAll enc Try.prog W 0 (fun _ => true) true Try.f4.params.toList args.toList ds p := hA0
  rw [Try.params4] at hA hval
  obtain ⟨v0, vs0, d0, ds0, p0, q0, hargs, rfl, rfl, h0, r0⟩ := trodAll_cons hA
  obtain ⟨v1, vs1, d1, ds1, p1, q1, rfl, rfl, rfl, h1, r1⟩ := trodAll_cons r0
  obtain ⟨v2, vs2, d2, ds2, p2, q2, rfl, rfl, rfl, h2, r2⟩ := trodAll_cons r1
  obtain ⟨v3, vs3, d3, ds3, p3, q3, rfl, rfl, rfl, h3, r3⟩ := trodAll_cons r2
  obtain ⟨v4, vs4, d4, ds4, p4, q4, rfl, rfl, rfl, h4, r4⟩ := trodAll_cons r3
  obtain ⟨v5, vs5, d5, ds5, p5, q5, rfl, rfl, rfl, h5, r5⟩ := trodAll_cons r4
  obtain ⟨v6, vs6, d6, ds6, p6, q6, rfl, rfl, rfl, h6, r6⟩ := trodAll_cons r5
  obtain ⟨v7, vs7, d7, ds7, p7, q7, rfl, rfl, rfl, h7, r7⟩ := trodAll_cons r6
  obtain ⟨rfl, rfl, rfl⟩ := trodAll_nil r7
  obtain rfl : args = #[v0, v1, v2, v3, v4, v5, v6, v7] := by cases args; simp_all
  obtain ⟨rfl, rfl⟩ := trodVars_none hV
  obtain ⟨x0, y0, z0, rfl, bx0, by0, bz0⟩ := open_table (hval 0 24 v0 rfl rfl) h0
  obtain ⟨u1, rfl, bu1⟩ := open_rule (hval 1 40 v1 rfl rfl) h1
  obtain ⟨a2, rfl, rfl, rfl, w2⟩ := open_int Try.underlying3 (hval 2 3 v2 rfl rfl) h2
  have b2 : -9223372036854775808 ≤ a2 ∧ a2 ≤ 9223372036854775807 := by simpa [Lit.wf, IntKind.min, IntKind.max, IntKind.signed, IntKind.bits] using w2
  obtain ⟨a3, rfl, rfl, rfl, w3⟩ := open_int Try.underlying3 (hval 3 3 v3 rfl rfl) h3
  have b3 : -9223372036854775808 ≤ a3 ∧ a3 ≤ 9223372036854775807 := by simpa [Lit.wf, IntKind.min, IntKind.max, IntKind.signed, IntKind.bits] using w3
  obtain ⟨a4, rfl, rfl, rfl, w4⟩ := open_int Try.underlying3 (hval 4 3 v4 rfl rfl) h4
  have b4 : -9223372036854775808 ≤ a4 ∧ a4 ≤ 9223372036854775807 := by simpa [Lit.wf, IntKind.min, IntKind.max, IntKind.signed, IntKind.bits] using w4
  obtain ⟨a5, rfl, rfl, rfl, w5⟩ := open_int Try.underlying3 (hval 5 3 v5 rfl rfl) h5
  have b5 : -9223372036854775808 ≤ a5 ∧ a5 ≤ 9223372036854775807 := by simpa [Lit.wf, IntKind.min, IntKind.max, IntKind.signed, IntKind.bits] using w5
  obtain ⟨A6, n6, c6, l6, rfl, e6, m6, M6, s6, t6⟩ := open_i64s Try.underlying41 Try.underlying2 cells64 (hval 6 41 v6 rfl rfl) h6
  obtain ⟨a7, rfl, rfl, rfl, w7⟩ := open_int Try.underlying2 (hval 7 2 v7 rfl rfl) h7
  have b7 : -9223372036854775808 ≤ a7 ∧ a7 ≤ 9223372036854775807 := by simpa [Lit.wf, IntKind.min, IntKind.max, IntKind.signed, IntKind.bits] using w7
  have fin : ∀ (e : Ending) (W' : World), e = .returned (.bool true) ∧ Below W.heap.size W W' → ∃ v, e = .returned v ∧ Rows.tableOthersSpec.post enc Try.prog Try.f4 false true false false W #[tabV x0 y0 z0, RuM.v u1, .int .i64 a2, .int .i64 a3, .int .i64 a4, .int .i64 a5, .slice A6 n6 c6, .int .i64 a7] v W' :=
    fun e W' ⟨he, hb⟩ => ⟨_, he, law_post laid (by kernel_rfl) rfl rfl rfl Try.underlying4 hW' hb⟩
  exact (walk x0 y0 z0 u1 a2 a3 a4 a5 l6 a7 A6 n6 c6 W bz0 bu1 e6 M6 m6 s6 t6 b7).mono fin

set_option maxRecDepth 100000 in
theorem lifted (os : Os) (started : os.Started) (H : Type) (enc : TypeId × Value → H) :
    ReturnsInHanded {} Try.checked os 4 .any (Rows.tableOthersSpec.pre6 enc Try.prog Try.f4 Rows.tableOthersRow.domain false) (Rows.tableOthersSpec.post enc Try.prog Try.f4 false true false false) := by
  refine returnsInHanded_of_change (C := Try.checked) (s := Rows.tableOthersSpec) own started (by kernel_rfl) Try.func4
    (ChangeSpec.witness6 (enc := enc) (C := Try.checked) false ⟨#[], #[.agg #[.int .i64 0, .int .i64 0, .slice none 0 0], .agg #[.int .i64 0, .int .i64 0, .int .i64 0, .int .i64 0, .slice none 0 0, .slice none 0 0, .slice none 0 0], .int .i64 0, .int .i64 0, .int .i64 0, .int .i64 0, .slice none 0 0, .int .i64 0], []⟩ 8 (by kernel_rfl) (by kernel_rfl) (by kernel_rfl) (by kernel_rfl)) ?_
  intro W base args ds gs before hval hW _ _
  exact contract H enc W base args ds gs before hval hW

theorem proved : Rows.TableOthersSaid :=
  OpenClaim.holds_of_wide 4 Try.f4 rfl rfl rfl rfl rfl rfl rfl ⟨rfl, rfl, rfl, rfl, rfl⟩ rfl rfl rfl rfl rfl (by kernel_rfl) Try.func4 (by kernel_rfl)
    (of_decide_eq_true (by kernel_rfl)) (by unfold Func.isWrapper; first | (rw [if_pos (by decide +kernel)]; kernel_rfl) | (rw [if_neg (by decide +kernel)]; exact ⟨rfl, rfl⟩))
    (fun os started H enc _ => lifted os started H enc)
end Go.Proofs.Ytkjgplcfoihohaa.tableOthers
