/-
  Texts of this claim put together: RefMay6, RefMayG, RefLists, Tk6Rep.
-/
import Derived.Test.YtkgnondlcaklnaaJ33
import Derived.Test.YtkgnondlcaklnaaJ23
import Derived.BigQuiet
import Derived.IntWalk
import Derived.Deep.RegionHeld
import Derived.Deep.DeepCutAuto
/-
  Contracts of layer 6's reference's reply and Great.
-/
namespace Go.Proofs.Ytkgnondlcaklnaa
open Go.RowKit

/-- what Great leaves: with no, the lists have room -/
def SomeG (r : RegM) (w : World) (e : Ending) (w' : World) : Prop := ∃ b : Bool, e = .returned (.bool b) ∧ Below w.heap.size w w' ∧ (b = false → r.va.l.length ≤ 50 ∧ r.dn.l.length ≤ 50 ∧ r.ou.l.length ≤ 50 ∧ r.ma.l.length ≤ 50 ∧ ∀ d ∈ r.dn.l, d.va.l.length ≤ 50)

theorem someG_mk {r : RegM} {w w' : World} {e : Ending} (b : Bool) (h1 : e = .returned (.bool b)) (h2 : Below w.heap.size w w') (h3 : b = false → r.va.l.length ≤ 50 ∧ r.dn.l.length ≤ 50 ∧ r.ou.l.length ≤ 50 ∧ r.ma.l.length ≤ 50 ∧ ∀ d ∈ r.dn.l, d.va.l.length ≤ 50) : SomeG r w e w' := ⟨b, h1, h2, h3⟩

set_option maxRecDepth 100000 in
set_option maxHeartbeats 3200000 in
theorem GreatG_any (r : RegM) (B : Nat) (w : World) (hr : RegM.ok w B r) (hB : B ≤ w.heap.size) : Calls Try.prog 5 #[r.v] w (SomeG r w) := by
  have HX := hide_ (BoxAt.new w r.box 31)
  have HW := hide_ ((Below.refl w.heap.size w).alloc (Nat.le_refl _) (.cells r.box 31))
  have HD := hide_ hr.2.2.1
  have m1 := sl_len hr.2.1
  have m2 := sl_len hr.2.2.1
  have m3 := sl_len hr.2.2.2.1
  have m4 := sl_len hr.2.2.2.2
  clear hr
  obtain ⟨ki, inc, st, ⟨vA, vc, vl⟩, ⟨dA, dc, dl⟩, ⟨oA, oc, ol⟩, la, ⟨mA, mc, ml⟩⟩ := r
  obtain ⟨nv, hnv⟩ : ∃ n, vl.length = n := ⟨_, rfl⟩
  obtain ⟨nd, hnd⟩ : ∃ n, dl.length = n := ⟨_, rfl⟩
  obtain ⟨no, hno⟩ : ∃ n, ol.length = n := ⟨_, rfl⟩
  obtain ⟨nm, hnm⟩ : ∃ n, ml.length = n := ⟨_, rfl⟩
  simp only [RegM.v, RegM.box, Sl.v, hnv, hnd, hno, hnm] at HX HW m1 m2 m3 m4 ⊢
  have HND := hide_ hnd
  have HNV := hide_ hnv
  have HNO := hide_ hno
  have HNM := hide_ hnm
  clear hnv hno hnm hnd
  by_cases c1 : 50 < nv
  · have d1 : decide (50 < (nv : Int)) = true := decide_eq_true (by omega)
    clear c1
    go_enter Try.func5, Try.ntmps5
    go_wp2
    go_ret
    exact someG_mk true rfl HW.out (fun h => by cases h)
  have d1 : decide (50 < (nv : Int)) = false := decide_eq_false (by omega)
  by_cases c2 : 50 < nd
  · have d2 : decide (50 < (nd : Int)) = true := decide_eq_true (by omega)
    clear c1 c2
    go_enter Try.func5, Try.ntmps5
    go_wp2
    go_ret
    exact someG_mk true rfl HW.out (fun h => by cases h)
  have d2 : decide (50 < (nd : Int)) = false := decide_eq_false (by omega)
  by_cases c3 : 50 < no
  · have d3 : decide (50 < (no : Int)) = true := decide_eq_true (by omega)
    clear c1 c2 c3
    go_enter Try.func5, Try.ntmps5
    go_wp2
    go_ret
    exact someG_mk true rfl HW.out (fun h => by cases h)
  have d3 : decide (50 < (no : Int)) = false := decide_eq_false (by omega)
  by_cases c4 : 50 < nm
  · have d4 : decide (50 < (nm : Int)) = true := decide_eq_true (by omega)
    clear c1 c2 c3 c4
    go_enter Try.func5, Try.ntmps5
    go_wp2
    go_ret
    exact someG_mk true rfl HW.out (fun h => by cases h)
  have d4 : decide (50 < (nm : Int)) = false := decide_eq_false (by omega)
  have hle : nv ≤ 50 ∧ nd ≤ 50 ∧ no ≤ 50 ∧ nm ≤ 50 := by omega
  have HLE := hide_ hle
  have hnd50 : nd ≤ 50 := hle.2.1
  clear c1 c2 c3 c4 hle
  go_enter Try.func5, Try.ntmps5
  go_wp2
  go_loopw [29] (fun i wr => ∃ k : Nat, k ≤ nd ∧ i = .int .i64 k ∧ Hid (∀ j d, j < k → dl[j]? = some d → d.va.l.length ≤ 50) ∧ Below w.heap.size w wr ∧ Hid (BoxAt wr w.heap.size #[.int .u8 ki, .int .u64 inc, .int .i64 st, .slice vA nv vc, .slice dA nd dc, .slice oA no oc, .int .u64 la, .slice mA nm mc] 31)) (fun i _ => nd - (intOf i).toNat)
  case atStart => exact ⟨0, Nat.zero_le _, rfl, (fun j d hj => absurd hj (by omega)), HW.out, HX.out⟩
  case round =>
    obtain ⟨k, hk, rfl, HJ, hb, HXR⟩ := hrel
    have hz : w.heap.size < wr.heap.size := HXR.out.lt
    have hcx := HXR.out.cell
    by_cases hlt : k < nd
    · obtain ⟨x, hx⟩ : ∃ x, dl[k]? = some x := ⟨_, List.getElem?_eq_getElem (by rw [HND.out]; exact hlt)⟩
      obtain ⟨tb, ot, hAe, hab, e0, e1, e2, e3, e4, e5⟩ := (HD.out.2.2.1.below (hb.mono hB)).done hx
      have hwz : tb < wr.heap.size := by omega
      have hxm := sl_len (HD.out.2.2.2 x (List.mem_of_getElem? hx)).2
      have HXX := hide_ hx
      subst hAe
      obtain ⟨cl, sq, er, inc2, st2, ⟨A, c, va⟩⟩ := x
      simp only at e5 hxm
      obtain ⟨m, hm⟩ : ∃ m, va.length = m := ⟨_, rfl⟩
      rw [hm] at e5 hxm
      have HM := hide_ hm
      have HB := hide_ hb
      clear hx hm e0 e1 e2 e3 e4 hb
      by_cases c5 : 50 < m
      · have d5 : decide (50 < (m : Int)) = true := decide_eq_true (by omega)
        clear c5
        go_wp2
        go_ret
        exact someG_mk true rfl HB.out (fun h => by cases h)
      · have d5 : decide (50 < (m : Int)) = false := decide_eq_false (by omega)
        have HJ2 := hide_ (show ∀ j d, j < k + 1 → dl[j]? = some d → d.va.l.length ≤ 50 from fun j d hj hd => by
          by_cases h : j = k
          · rw [h, HXX.out] at hd
            injection hd with hd
            rw [← hd]
            show va.length ≤ 50
            rw [HM.out]
            omega
          · exact HJ.out j d (by omega) hd)
        clear c5
        go_wp2
        go_roundw
        case rel => exact ⟨k + 1, by omega, by go_num, HJ2, HB.out, HXR⟩
        case measure => simp [intOf]; omega
    · obtain rfl : k = nd := by omega
      have HB := hide_ hb
      clear hb
      have HK := hide_ (show ∀ d ∈ dl, d.va.l.length ≤ 50 from fun d hd => by
        obtain ⟨j, hj, rfl⟩ := List.getElem_of_mem hd
        exact HJ.out j _ (by rw [← HND.out]; exact hj) (List.getElem?_eq_getElem hj))
      go_wp2
      go_ret
      exact someG_mk false rfl HB.out (fun _ => ⟨by show vl.length ≤ 50; rw [HNV.out]; exact HLE.out.1, by show dl.length ≤ 50; rw [HND.out]; exact HLE.out.2.1, by show ol.length ≤ 50; rw [HNO.out]; exact HLE.out.2.2.1, by show ml.length ≤ 50; rw [HNM.out]; exact HLE.out.2.2.2, HK.out⟩)
end Go.Proofs.Ytkgnondlcaklnaa

/-
  Contract of layer 6's reference's May.
-/
namespace Go.Proofs.Ytkgnondlcaklnaa
open Go.RowKit

end Go.Proofs.Ytkgnondlcaklnaa
/-
  Contract of layer 6's reference's lists.
-/
namespace Go.Proofs.Ytkgnondlcaklnaa
open Go.RowKit

end Go.Proofs.Ytkgnondlcaklnaa
/-
  Contract of reg's taker's method: Rep.
-/
namespace Go.Proofs.Ytkgnondlcaklnaa
open Go.RowKit

set_option maxRecDepth 100000 in
set_option maxHeartbeats 6400000 in
theorem reply6_any {g : Nat} {s : RS} {w : World} (h : Rdr w g s.1 s.2) (hs : RSok s) : Calls Try.prog 98 #[takerV g] w (PartR RepM.v RepM.p RepM.ok RepM.ft w g (repS s)) := by
  have hgl : g < w.heap.size := h.glt
  have hb1 := (numS_ok (most := 1000) hs).2
  have hk1 := (numS_ok (most := 1000) hs).1
  have HC1 := hide_ (fun (u : World) (hr : Rdr u g s.1 s.2) => tOther6_any hr hs)
  obtain ⟨n1, hn1⟩ : ∃ n, (numS 1000 s).1 = n := ⟨_, rfl⟩
  obtain ⟨s1, hs1⟩ : ∃ t, (numS 1000 s).2 = t := ⟨_, rfl⟩
  rw [hn1] at hb1
  rw [hs1] at hk1
  simp only [hn1, hs1] at HC1
  have hb2 := (numBig_ok hk1).2
  have hk2 := (numBig_ok hk1).1
  have HC2 := hide_ (fun (u : World) (hr : Rdr u g s1.1 s1.2) => tNumber6_any hr hk1)
  obtain ⟨n2, hn2⟩ : ∃ n, (numBig s1).1 = n := ⟨_, rfl⟩
  obtain ⟨s2, hs2⟩ : ∃ t, (numBig s1).2 = t := ⟨_, rfl⟩
  rw [hn2] at hb2
  rw [hs2] at hk2
  simp only [hn2, hs2] at HC2
  have hb3 := (numS_ok (most := 1000) hk2).2
  have hk3 := (numS_ok (most := 1000) hk2).1
  have HC3 := hide_ (fun (u : World) (hr : Rdr u g s2.1 s2.2) => tOther6_any hr hk2)
  obtain ⟨n3, hn3⟩ : ∃ n, (numS 1000 s2).1 = n := ⟨_, rfl⟩
  obtain ⟨s3, hs3⟩ : ∃ t, (numS 1000 s2).2 = t := ⟨_, rfl⟩
  rw [hn3] at hb3
  rw [hs3] at hk3
  simp only [hn3, hs3] at HC3
  have hk4 := varS_ok hk3
  have HC4 := hide_ (fun (u : World) (hr : Rdr u g s3.1 s3.2) => intsOf6_any hr hk3)
  obtain ⟨n4, hn4⟩ : ∃ n, (varS s3).1 = n := ⟨_, rfl⟩
  obtain ⟨s4, hs4⟩ : ∃ t, (varS s3).2 = t := ⟨_, rfl⟩
  rw [hs4] at hk4
  simp only [show varS s3 = (n4, s4) by rw [← hn4, ← hs4]] at HC4
  have HP := hide_ (show repS s = ((((n1 : Int), (n2 : Int), (n3 : Int), n4) : RepP), s4) by unfold repS; simp only [hn1, hs1, hn2, hs2, hn3, hs3, hn4, hs4])
  have HB1 := hide_ hb1
  have HB2 := hide_ hb2
  have HB3 := hide_ hb3
  rw [HP.out]
  have HG0 := hide_ (World.grownBy.refl ((w.alloc (.cells #[.pointer (some ⟨g, 0, none⟩)] 95)).alloc (.cells #[.int .i64 0, .int .u64 0, .int .i64 0, .slice none 0 0] 46)).drew (some g))
  have HR0 := hide_ (show Rdr ((w.alloc (.cells #[.pointer (some ⟨g, 0, none⟩)] 95)).alloc (.cells #[.int .i64 0, .int .u64 0, .int .i64 0, .slice none 0 0] 46)).drew g s.1 s.2 from ((h.made _).made _).drawn)
  have HBX := hide_ (fun (u : World) (hu : (w.alloc (.cells #[.pointer (some ⟨g, 0, none⟩)] 95)).grownBy u (some g)) => show u.cell? ⟨w.heap.size, 0, none⟩ = some (.pointer (some ⟨g, 0, none⟩)) by
    have h1 := BoxAt.new w #[.pointer (some ⟨g, 0, none⟩)] 95
    exact cell_of_row _ _ 0 _ _ _ (box_far hu h1 (by omega)))
  have HZ := hide_ (fun (u : World) (hu : ((w.alloc (.cells #[.pointer (some ⟨g, 0, none⟩)] 95)).alloc (.cells #[.int .i64 0, .int .u64 0, .int .i64 0, .slice none 0 0] 46)).drew.grownBy u (some g)) => show u.heap[w.heap.size + 1]? = some (.cells #[.int .i64 0, .int .u64 0, .int .i64 0, .slice none 0 0] 46 (0, 0)) from box_far hu (by
    have := BoxAt.new (w.alloc (.cells #[.pointer (some ⟨g, 0, none⟩)] 95)) #[.int .i64 0, .int .u64 0, .int .i64 0, .slice none 0 0] 46
    have h2 : ((w.alloc (.cells #[.pointer (some ⟨g, 0, none⟩)] 95)).alloc (.cells #[.int .i64 0, .int .u64 0, .int .i64 0, .slice none 0 0] 46)).heap[w.heap.size + 1]? = some (.cells #[.int .i64 0, .int .u64 0, .int .i64 0, .slice none 0 0] 46 (0, 0)) := by simpa [BoxAt] using this
    exact h2) (by omega))
  clear h hs hn1 hn2 hn3 hn4 hs1 hs2 hs3 hs4 hk1 hk2 hk3 hk4
  unfold takerV
  go_enter Try.func98, Try.ntmps98
  go_wp2
  refine wp_region_held_drew (S := fun w' => w'.cell? ⟨w.heap.size, 0, none⟩ = some (.pointer (some ⟨g, 0, none⟩))) (by kernel_rfl) (HBX.out _ (grown_made (grown_ndrew HG0.out))) (fun hHeld => ?_)
  refine wpAnyH_take (i := 0) (oi := ⟨some 3, _, _, _, _, _⟩) (v := ?v1) rfl (by kernel_rfl) (by kernel_rfl) (by kernel_rfl) (fun _ _ _ h => h) (Or.inl ⟨by rfl, ?hy1⟩) (by assumption) ?rest1
  case hy1 => intro w hSw; (try dsimp only at hSw); go_simp <;> with_reducible rfl
  simp only [Act.put, List.setIfInBounds_toArray, List.set_cons_zero, List.set_cons_succ]
  refine wpAnyH_take (i := 2) (oi := ⟨some 5, _, _, _, _, _⟩) (v := ?v2) rfl (by kernel_rfl) (by kernel_rfl) (by kernel_rfl) (fun _ _ _ h => h) (Or.inl ⟨by rfl, ?hy2⟩) (by assumption) ?rest2
  case hy2 => intro w hSw; (try dsimp only at hSw); go_simp <;> with_reducible rfl
  simp only [Act.put, List.setIfInBounds_toArray, List.set_cons_zero, List.set_cons_succ]
  refine wpAnyH_take (i := 4) (oi := ⟨some 7, _, _, _, _, _⟩) (v := ?v3) rfl (by kernel_rfl) (by kernel_rfl) (by kernel_rfl) (fun _ _ _ h => h) (Or.inl ⟨by rfl, ?hy3⟩) (by assumption) ?rest3
  case hy3 => intro w hSw; (try dsimp only at hSw); go_simp <;> with_reducible rfl
  simp only [Act.put, List.setIfInBounds_toArray, List.set_cons_zero, List.set_cons_succ]
  refine wpAnyH_take (i := 6) (oi := ⟨some 9, _, _, _, _, _⟩) (v := ?v4) rfl (by kernel_rfl) (by kernel_rfl) (by kernel_rfl) (fun _ _ _ h => h) (Or.inl ⟨by rfl, ?hy4⟩) (by assumption) ?rest4
  case hy4 => intro w hSw; (try dsimp only at hSw); go_simp <;> with_reducible rfl
  simp only [Act.put, List.setIfInBounds_toArray, List.set_cons_zero, List.set_cons_succ]
  refine wpAnyH_take (i := 7) (oi := ⟨some 10, _, _, _, _, _⟩) (v := ?v5) rfl (by kernel_rfl) (by kernel_rfl) (by kernel_rfl) (fun _ _ _ h => h) (Or.inl ⟨by rfl, ?hy5⟩) (by assumption) ?rest5
  case hy5 => intro w hSw; (try dsimp only at hSw); go_simp <;> with_reducible rfl
  simp only [Act.put, List.setIfInBounds_toArray, List.set_cons_zero, List.set_cons_succ]
  refine wpAnyH_take (i := 8) (oi := ⟨some 11, _, _, _, _, _⟩) (v := ?v6) rfl (by kernel_rfl) (by kernel_rfl) (by kernel_rfl) (fun _ _ _ h => h) (Or.inl ⟨by rfl, ?hy6⟩) (by assumption) ?rest6
  case hy6 => intro w hSw; (try dsimp only at hSw); go_simp <;> with_reducible rfl
  simp only [Act.put, List.setIfInBounds_toArray, List.set_cons_zero, List.set_cons_succ]
  refine wpAnyH_take (i := 9) (oi := ⟨some 12, _, _, _, _, _⟩) (v := ?v7) rfl (by kernel_rfl) (by kernel_rfl) (by kernel_rfl) (fun _ _ _ h => h) (Or.inl ⟨by rfl, ?hy7⟩) (by assumption) ?rest7
  case hy7 => intro w hSw; (try dsimp only at hSw); go_simp <;> with_reducible rfl
  simp only [Act.put, List.setIfInBounds_toArray, List.set_cons_zero, List.set_cons_succ]
  refine wpAnyH_ready (rs := [1]) (by kernel_rfl) (by simp) ?_
  refine AllReadyH.cons rfl (fun K hK => ?_) AllReadyH.nil
  go_simp
  go_wp2_with fail
  refine (HC1.out _ HR0.out).mono ?_
  rintro en w1 ⟨rfl, hr1, hg1⟩
  have HR1 := hide_ hr1
  have HG1 := hide_ (grown_join HG0.out hg1)
  clear hr1 hg1
  refine hK.out _ _ (HBX.out _ (grown_made (grown_ndrew HG1.out))) (fun hHeld => ?_)
  clear hK K
  refine wpAnyH_ready (rs := [3]) (by kernel_rfl) (by simp) ?_
  refine AllReadyH.cons rfl (fun K hK => ?_) AllReadyH.nil
  go_simp
  go_wp2_with fail
  refine (HC2.out _ HR1.out).mono ?_
  rintro en w2 ⟨rfl, hr2, hg2⟩
  have HR2 := hide_ hr2
  have HG2 := hide_ (grown_join HG1.out hg2)
  clear hr2 hg2
  refine hK.out _ _ (HBX.out _ (grown_made (grown_ndrew HG2.out))) (fun hHeld => ?_)
  clear hK K
  refine wpAnyH_ready (rs := [5]) (by kernel_rfl) (by simp) ?_
  refine AllReadyH.cons rfl (fun K hK => ?_) AllReadyH.nil
  go_simp
  go_wp2_with fail
  refine (HC3.out _ HR2.out).mono ?_
  rintro en w3 ⟨rfl, hr3, hg3⟩
  have HR3 := hide_ hr3
  have HG3 := hide_ (grown_join HG2.out hg3)
  clear hr3 hg3
  refine hK.out _ _ (HBX.out _ (grown_made (grown_ndrew HG3.out))) (fun hHeld => ?_)
  clear hK K
  refine wpAnyH_ready (rs := [10]) (by kernel_rfl) (by simp) ?_
  refine AllReadyH.cons rfl (fun K hK => ?_) AllReadyH.nil
  go_simp
  go_wp2_with fail
  refine (HC4.out _ HR3.out).mono ?_
  rintro en w4 ⟨x4, rfl, hp4, ho4, hl4, hr4, hg4⟩
  obtain ⟨xA4, xc4, xl4⟩ := x4
  simp only [Sl.v]
  have HPP4 := hide_ hp4
  have HOK4 := hide_ ho4
  have HLI4 := hide_ hl4
  clear hp4 ho4 hl4
  have HR4 := hide_ hr4
  have HG4 := hide_ (grown_join HG3.out hg4)
  clear hr4 hg4
  refine hK.out _ _ (HBX.out _ (grown_made (grown_ndrew HG4.out))) (fun hHeld => ?_)
  clear hK K
  refine wpAnyH_take (i := 11) (oi := ⟨some 14, _, _, _, _, _⟩) (v := ?v8) rfl (by kernel_rfl) (by kernel_rfl) (by kernel_rfl) (fun _ _ _ h => h) (Or.inl ⟨by rfl, ?hy8⟩) (by assumption) ?rest8
  case hy8 => intro w hSw; (try dsimp only at hSw); go_simp <;> with_reducible rfl
  simp only [Act.put, List.setIfInBounds_toArray, List.set_cons_zero, List.set_cons_succ]
  have hkz := HZ.out _ HG4.out
  have q0 : w4.cell? ⟨w.heap.size + 1, 0, none⟩ = some (.int .i64 0) := by rw [cell_of_row _ _ 0 _ _ _ hkz]; rfl
  have f0 : w4.frozen? ⟨w.heap.size + 1, 0, none⟩ = false := by simp [World.frozen?, hkz]
  have q1 : w4.cell? ⟨w.heap.size + 1, 1, none⟩ = some (.int .u64 0) := by rw [cell_of_row _ _ 1 _ _ _ hkz]; rfl
  have f1 : w4.frozen? ⟨w.heap.size + 1, 1, none⟩ = false := by simp [World.frozen?, hkz]
  have q2 : w4.cell? ⟨w.heap.size + 1, 2, none⟩ = some (.int .i64 0) := by rw [cell_of_row _ _ 2 _ _ _ hkz]; rfl
  have f2 : w4.frozen? ⟨w.heap.size + 1, 2, none⟩ = false := by simp [World.frozen?, hkz]
  have q3 : w4.cell? ⟨w.heap.size + 1, 3, none⟩ = some (.slice none 0 0) := by rw [cell_of_row _ _ 3 _ _ _ hkz]; rfl
  have f3 : w4.frozen? ⟨w.heap.size + 1, 3, none⟩ = false := by simp [World.frozen?, hkz]
  clear hkz
  refine wpAnyH_ready (rs := [12]) (by kernel_rfl) (by simp) ?_
  refine AllReadyH.cons rfl (fun K hK => ?_) AllReadyH.nil
  go_simp
  refine hK.out _ _ (HBX.out _ (grown_stored (grown_stored (grown_stored (grown_stored (grown_made (grown_ndrew HG4.out)) (by simp)) (by simp)) (by simp)) (by simp))) (fun hHeld => ?_)
  clear hK K
  refine wpAnyH_done (by kernel_rfl) ?_ _
  go_wp2
  refine bodyPost_ret (v := .agg #[.int .i64 n1, .int .u64 n2, .int .i64 n3, .slice xA4 xl4.length xc4]) (by simp [results, Try.results98, go_sem, q0, q1, q2, q3]) rfl ?_
  clear q0 f0 q1 f1 q2 f2 q3 f3
  have hzp : w.heap.size + 1 < w3.heap.size := by
    have h1 := HG3.out.size
    simp at h1
    omega
  refine ⟨⟨n1, n2, n3, xA4, xc4, xl4⟩, rfl, by rw [← HPP4.out]; rfl, ⟨⟨by have := HB1.out; unfold I64; simp; omega, HB2.out, by have := HB3.out; unfold I64; simp; omega⟩, (keep_stored ints_local (keep_stored ints_local (keep_stored ints_local (keep_stored ints_local HOK4.out HLI4.out hzp) HLI4.out hzp) HLI4.out hzp) HLI4.out hzp)⟩, HLI4.out.more (by omega) (by simp), ((((HR4.out.stored (by omega)).stored (by omega)).stored (by omega)).stored (by omega)), (grown_stored (grown_stored (grown_stored (grown_stored (grown_made (grown_made (grown_ndrew HG4.out))) (Nat.le_succ _)) (Nat.le_succ _)) (Nat.le_succ _)) (Nat.le_succ _))⟩

end Go.Proofs.Ytkgnondlcaklnaa
