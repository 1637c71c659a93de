/-
  Texts of this claim put together: RefT2.
-/
import Derived.Test.YtkgnondlcaklnaaGreatJ24
import Derived.Test.YtkgnondlcaklnaaGreatJ18
import Derived.Deep.RegionHeld
/-
  Contracts of the reference's May and Find.
-/
namespace Go.Proofs.YtkgnondlcaklnaaGreat
open Go.RowKit

theorem ruX_at' {st vs : Int} {l : List RuM} {k : Nat} {x : RuM} (h : l[k]? = some x) : ruX st vs l k = !(ruB st vs x) := by unfold ruX; rw [h]
theorem rusB_some {st vs : Int} {l : List RuM} {k : Nat} (hk : k < l.length) (h : ruX st vs l k = true) : rusB st vs l = false := by
  unfold rusB
  rw [anyB_true.2 ⟨k, hk, h⟩]
  simp
theorem rusB_all {st vs : Int} {l : List RuM} (h8 : l.length ≤ 32) (h : ∀ j, j < l.length → ruX st vs l j = false) : rusB st vs l = true := by
  unfold rusB
  rw [anyB_false.2 h, decide_eq_true h8]
  rfl

set_option maxRecDepth 100000 in
set_option maxHeartbeats 1600000 in
theorem refMayT_any (st vs : Int) (t : Sl RuM) (B : Nat) (w : World) (hs : rusOk w B t) (hB : B ≤ w.heap.size) :
    Calls Tryz.prog 30 #[tabV st vs t] w fun e w' => e = .returned (.bool (mayT st vs t.l)) ∧ Below w.heap.size w w' := by
  obtain ⟨tA, tc, tl⟩ := t
  obtain ⟨n, hn⟩ : ∃ n, tl.length = n := ⟨_, rfl⟩
  have hnm : n ≤ 9223372036854775807 := by have h1 := hs.1; have h2 := hs.2.1; unfold maxLen at h2; simp only [hn] at h1 h2; omega
  have HN := hide_ hn
  have HS := hide_ hs
  have hw1 := (Below.refl w.heap.size w).alloc (Nat.le_refl _) (.cells #[.int .i64 st, .int .i64 vs, .slice tA n tc] 24)
  have HW := hide_ hw1
  have HX := hide_ (BoxAt.new w #[.int .i64 st, .int .i64 vs, .slice tA n tc] 24)
  have HR := hide_ (show mayT st vs tl = (inB st 1 32 && (inB vs 0 8 && rusB st vs tl)) from rfl)
  generalize mayT st vs tl = RR at HR
  simp only [tabV, Sl.v, hn]
  clear hs hn hw1
  by_cases c1 : st < 1
  · have HR1 := hide_ (show RR = false by rw [HR.out, inB_false.2 (.inl (by omega))]; rfl)
    have d1 : decide (st < 1) = true := decide_eq_true c1
    go_enter Tryz.func30, Tryz.ntmps30
    go_wp2
    go_ret
    exact ⟨ret_boolT HR1.out.symm, HW.out⟩
  have d1 : decide (st < 1) = false := decide_eq_false c1
  by_cases c2 : 32 < st
  · have HR1 := hide_ (show RR = false by rw [HR.out, inB_false.2 (.inr (by omega))]; rfl)
    have d2 : decide (32 < st) = true := decide_eq_true c2
    go_enter Tryz.func30, Tryz.ntmps30
    go_wp2
    go_ret
    exact ⟨ret_boolT HR1.out.symm, HW.out⟩
  have d2 : decide (32 < st) = false := decide_eq_false c2
  by_cases c3 : vs < 0
  · have HR1 := hide_ (show RR = false by rw [HR.out, inB_false.2 (.inl (by omega) : vs < 0 ∨ 8 < vs)]; simp)
    have d3 : decide (vs < 0) = true := decide_eq_true c3
    go_enter Tryz.func30, Tryz.ntmps30
    go_wp2
    go_ret
    exact ⟨ret_boolT HR1.out.symm, HW.out⟩
  have d3 : decide (vs < 0) = false := decide_eq_false c3
  by_cases c4 : 8 < vs
  · have HR1 := hide_ (show RR = false by rw [HR.out, inB_false.2 (.inr (by omega) : vs < 0 ∨ 8 < vs)]; simp)
    have d4 : decide (8 < vs) = true := decide_eq_true c4
    go_enter Tryz.func30, Tryz.ntmps30
    go_wp2
    go_ret
    exact ⟨ret_boolT HR1.out.symm, HW.out⟩
  have d4 : decide (8 < vs) = false := decide_eq_false c4
  by_cases c5 : 32 < n
  · have HR1 := hide_ (show RR = false by
      have : rusB st vs tl = false := by unfold rusB; rw [HN.out, decide_eq_false (by omega)]; rfl
      rw [HR.out, this]
      simp)
    have d5 : decide (32 < (n : Int)) = true := decide_eq_true (by omega)
    go_enter Tryz.func30, Tryz.ntmps30
    go_wp2
    go_ret
    exact ⟨ret_boolT HR1.out.symm, HW.out⟩
  have d5 : decide (32 < (n : Int)) = false := decide_eq_false (by omega)
  have HRB := hide_ (show RR = rusB st vs tl by rw [HR.out, inB_true.2 ⟨by omega, by omega⟩, inB_true.2 (⟨by omega, by omega⟩ : 0 ≤ vs ∧ vs ≤ 8)]; rfl)
  have s1 : 1 ≤ st ∧ st ≤ 32 := by omega
  have s2 : 0 ≤ vs ∧ vs ≤ 8 := by omega
  have HS1 := hide_ s1
  have HS2 := hide_ s2
  clear s1 s2 HR
  go_enter Tryz.func30, Tryz.ntmps30
  go_wp2
  go_loopw [31] (fun i wr => ∃ k : Nat, k ≤ n ∧ i = .int .i64 k ∧ Hid (∀ j, j < k → ruX st vs tl j = false) ∧ Hid (BoxAt wr w.heap.size #[.int .i64 st, .int .i64 vs, .slice tA n tc] 24) ∧ Below w.heap.size w wr) (fun i _ => n - (intOf i).toNat)
  case atStart => exact ⟨0, Nat.zero_le _, rfl, (fun j hj => absurd hj (by omega)), HX, HW.out⟩
  case round =>
    obtain ⟨k, hk, rfl, HJ, HXR, hb⟩ := hrel
    have hzw : w.heap.size < wr.heap.size := HXR.out.lt
    have HB0 := hide_ hb
    by_cases hlt : k < n
    · obtain ⟨x, hx⟩ : ∃ x, tl[k]? = some x := ⟨_, List.getElem?_eq_getElem (by rw [HN.out]; exact hlt)⟩
      have hs1 := (rus_stable.below HS.out (hb.mono hB)).2.2.1
      obtain ⟨tb, ot, hAe, hab, f0, f1, f2, f3, f4, f5, f6⟩ := hs1.ru hx
      have hxo := ru_stable.below (HS.out.2.2.2 x (List.mem_of_getElem? hx)) (hb.mono hB)
      have hwz : tb < wr.heap.size := by omega
      have hklt : k < tl.length := by rw [HN.out]; exact hlt
      have HNO := hide_ (fun (h : ruX st vs tl k = true) => (show RR = false by rw [HRB.out, rusB_some hklt h]))
      have HYE := hide_ (fun (h : ruX st vs tl k = false) => (show ∀ j, j < k + 1 → ruX st vs tl j = false from fun j hj => by
        by_cases e : j = k
        · rw [e]; exact h
        · exact HJ.out j (by omega)))
      obtain ⟨q, hq⟩ : ∃ q, ruB st vs x = q := ⟨_, rfl⟩
      have HXA := hide_ (show ruX st vs tl k = !q by rw [ruX_at' hx, hq])
      have HCALL := hide_ (refRule_any st vs x B wr.drew HS1.out HS2.out (ru_stable.below hxo (Below.refl _ _).drew) (by simp; omega))
      rw [hq] at HCALL
      obtain ⟨fr, xc, xp, tt, ⟨gA, gc, gl⟩, ⟨sA, sc, sl⟩, ⟨eA, ec, el⟩⟩ := x
      simp only at f0 f1 f2 f3 f4 f5 f6
      simp only [RuM.v, Sl.v] at HCALL
      generalize gl.length = gn at f4 HCALL
      generalize sl.length = sn at f5 HCALL
      generalize el.length = ee at f6 HCALL
      subst hAe
      have HF := hide_ (show ∀ u, Below wr.heap.size wr u → (∀ i : Nat, u.cell? ⟨w.heap.size, i, none⟩ = (#[.int .i64 st, .int .i64 vs, .slice (some ⟨tb, ot, none⟩) n tc] : Array Value)[i]?) ∧ u.cell? ⟨tb, ot + k * 7, none⟩ = some (.int .i64 fr) ∧ u.cell? ⟨tb, ot + k * 7 + 1, none⟩ = some (.int .i64 xc) ∧ u.cell? ⟨tb, ot + k * 7 + 2, none⟩ = some (.int .i64 xp) ∧ u.cell? ⟨tb, ot + k * 7 + 3, none⟩ = some (.int .i64 tt) ∧ u.cell? ⟨tb, ot + k * 7 + 4, none⟩ = some (.slice gA gn gc) ∧ u.cell? ⟨tb, ot + k * 7 + 5, none⟩ = some (.slice sA sn sc) ∧ u.cell? ⟨tb, ot + k * 7 + 6, none⟩ = some (.slice eA ee ec) from
        fun u hb => ⟨(HXR.out.below hb).cell, (hb.cell (p := ⟨tb, ot + k * 7, none⟩) hwz).trans f0, (hb.cell (p := ⟨tb, ot + k * 7 + 1, none⟩) hwz).trans f1, (hb.cell (p := ⟨tb, ot + k * 7 + 2, none⟩) hwz).trans f2, (hb.cell (p := ⟨tb, ot + k * 7 + 3, none⟩) hwz).trans f3, (hb.cell (p := ⟨tb, ot + k * 7 + 4, none⟩) hwz).trans f4, (hb.cell (p := ⟨tb, ot + k * 7 + 5, none⟩) hwz).trans f5, (hb.cell (p := ⟨tb, ot + k * 7 + 6, none⟩) hwz).trans f6⟩)
      clear hq hx hxo hs1 hb hklt f0 f1 f2 f3 f4 f5 f6
      go_wp2
      go_region_held (fun u => (∀ i : Nat, u.cell? ⟨w.heap.size, i, none⟩ = (#[.int .i64 st, .int .i64 vs, .slice (some ⟨tb, ot, none⟩) n tc] : Array Value)[i]?) ∧ u.cell? ⟨tb, ot + k * 7, none⟩ = some (.int .i64 fr) ∧ u.cell? ⟨tb, ot + k * 7 + 1, none⟩ = some (.int .i64 xc) ∧ u.cell? ⟨tb, ot + k * 7 + 2, none⟩ = some (.int .i64 xp) ∧ u.cell? ⟨tb, ot + k * 7 + 3, none⟩ = some (.int .i64 tt) ∧ u.cell? ⟨tb, ot + k * 7 + 4, none⟩ = some (.slice gA gn gc) ∧ u.cell? ⟨tb, ot + k * 7 + 5, none⟩ = some (.slice sA sn sc) ∧ u.cell? ⟨tb, ot + k * 7 + 6, none⟩ = some (.slice eA ee ec)) (first | exact HF.out _ (Below.refl _ _).drew | exact HF.out _ HB1.out) (first | (go_at_call 69; refine HCALL.out.mono ?_; rintro en w2 ⟨rfl, hb2⟩; (have HB1 := hide_ (Below.of_drew hb2)); clear hb2))
      cases q with
      | false =>
        have HR1 := hide_ (HNO.out HXA.out)
        go_wp2
        go_ret
        exact ⟨ret_boolT HR1.out.symm, HB0.out.trans (HB1.out.mono (by omega))⟩
      | true =>
        have HJ2 := hide_ (HYE.out HXA.out)
        go_wp2
        go_roundw
        case rel => exact ⟨k + 1, by omega, by go_num, HJ2, HXR.out.below HB1.out, HB0.out.trans (HB1.out.mono (by omega))⟩
        case measure => simp [intOf]; omega
    · obtain rfl : k = n := by omega
      have HR1 := hide_ (show RR = true by rw [HRB.out, rusB_all (by rw [HN.out]; omega) (by rw [HN.out]; exact HJ.out)])
      go_wp2
      go_ret
      exact ⟨ret_boolT HR1.out.symm, hb⟩
end Go.Proofs.YtkgnondlcaklnaaGreat
