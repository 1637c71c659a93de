/-
  Texts of this claim put together: Fire, Fire2.
-/
import Derived.Test.YtkgnondlcaklnaaGreatJ11
import Derived.Test.YtkgnondlcaklnaaGreatJ18
import Derived.Test.YtkgnondlcaklnaaGreatJ15
/-
  Contracts of table's setAll, emitAll and Fire.
-/
namespace Go.Proofs.YtkgnondlcaklnaaGreat
open Go.RowKit

/-- what setAll leaves -/
def SetAll (r : Option (List Int)) (w : World) (e : Ending) (w' : World) : Prop :=
  (∃ a A c, r = some a ∧ e = .returned (.tuple #[.slice A a.length c, .bool true]) ∧ w'.ownsRow w.heap.size 2 1 (.slice A a.length c) a.length (iv a) ∧ Below w.heap.size w w') ∨
  (r = none ∧ e = .returned (.tuple #[.slice none 0 0, .bool false]) ∧ Below w.heap.size w w')
def EmitAll (r : Option (List (Int × Int × Int))) (w : World) (e : Ending) (w' : World) : Prop :=
  (∃ a A c, r = some a ∧ e = .returned (.tuple #[.slice A a.length c, .bool true]) ∧ w'.ownsRow w.heap.size 74 4 (.slice A a.length c) a.length (cv a) ∧ Below w.heap.size w w') ∨
  (r = none ∧ e = .returned (.tuple #[.slice none 0 0, .bool false]) ∧ Below w.heap.size w w')

theorem own_ivar {w : World} {base n c : Nat} {A : Option Addr} {l : List Int} {j : Nat} {e : TypeId} (h : w.ownsRow base e 1 (.slice A n c) n (iv l)) (hn : l.length = n) (hj : j < n) :
    ∃ g, A = some ⟨g, 0, none⟩ ∧ base ≤ g ∧ g < w.heap.size ∧ (∃ u, w.cell? ⟨g, j, none⟩ = some u) ∧ w.frozen? ⟨g, j, none⟩ = false := by
  rcases h.2 with ⟨_, h0'⟩ | ⟨g, cap, cur, hv, hb, hg, hc, _, _, hx⟩
  · omega
  · injection hv with hA _ hcap
    subst hA hcap
    refine ⟨g, rfl, hb, (Array.getElem?_eq_some_iff.1 hg).1, ?_, h.frozenAt j⟩
    rw [h.cellAt j (by omega)]
    exact ⟨_, List.getElem?_eq_getElem (by rw [iv_length]; omega)⟩

set_option maxRecDepth 100000 in
set_option maxHeartbeats 1600000 in
theorem setAll_any (s : Sl SetM) (vars : List Int) (V : Option Addr) (m k : Nat) (arg : Int) (B : Nat) (w : World) (hm : vars.length = m) (hm2 : m ≤ 8) (hs : setsOk w B s) (hsB : setsB m s.l = true) (hsv : Sees w B V (iv vars)) (hvi : ∀ v ∈ vars, I64 v) (ha : I64 arg) (hB : B ≤ w.heap.size) :
    Calls Tryz.prog 141 #[s.v, .slice V m k, .int .i64 arg] w (SetAll (setAllR s.l vars arg) w) := by
  obtain ⟨A, c, l⟩ := s
  obtain ⟨h1, h2, h3, h4⟩ := hs
  simp only at h1 h2 h3 h4 hsB
  have hl8 := setsB_len hsB
  obtain ⟨n, hn⟩ : ∃ n, l.length = n := ⟨_, rfl⟩
  have HN := hide_ hn
  have HM := hide_ hm
  have HS := hide_ h3
  have H4 := hide_ h4
  have HB := hide_ hsB
  have HSV := hide_ hsv
  have HVI := hide_ hvi
  have HA := hide_ ha
  have HR := hide_ (show setAllR l vars arg = setRun l vars arg n by unfold setAllR; rw [hn])
  simp only [Sl.v, hn]
  rw [hn] at hl8
  clear hn hm h3 h4 hsB hsv hvi ha h1 h2
  generalize setAllR l vars arg = R at HR ⊢
  go_enter Tryz.func141, Tryz.ntmps141
  go_wp2_with fail
  refine (clone_any vars V m k B _ HM.out (by omega) HSV.out hB).mono ?_
  rintro en w1 ⟨A1, c1, rfl, hown, hb1⟩
  have HO := hide_ hown
  have HB1 := hide_ hb1
  have hz1 := hb1.size
  clear hown hb1
  go_wp2
  go_loopw [17] (fun i wr => ∃ (j : Nat) (cur : List Int), j ≤ n ∧ i = .int .i64 j ∧ Hid (setRun l vars arg j = some cur) ∧ Hid (wr.ownsRow w.heap.size 2 1 (.slice A1 m c1) m (iv cur)) ∧ Below w.heap.size w wr) (fun i _ => n - (intOf i).toNat)
  case atStart => exact ⟨0, vars, Nat.zero_le _, rfl, (rfl : _ = _), HO.out, HB1.out⟩
  case round =>
    obtain ⟨j, cur, hj, rfl, HJ, HO1, hb⟩ := hrel
    by_cases hlt : j < n
    · obtain ⟨x, hx⟩ : ∃ x, l[j]? = some x := ⟨_, List.getElem?_eq_getElem (by rw [HN.out]; exact hlt)⟩
      have hs1 := HS.out.below (hb.mono hB)
      obtain ⟨tb, ot, rfl, hab, e0, e1⟩ := hs1.set hx
      have hwz : tb < wr.heap.size := by have := hb.size; omega
      have hxok := set_stable.below (H4.out x (List.mem_of_getElem? hx)) (hb.mono hB)
      have hvar := setsB_var HB.out hx
      have hcl := setRun_len HJ.out
      have HX := hide_ hx
      obtain ⟨var, ⟨vA, vc, vl⟩⟩ := x
      simp only at e0 e1 hvar
      obtain ⟨vn, hvn⟩ : ∃ vn, vl.length = vn := ⟨_, rfl⟩
      rw [hvn] at e1
      obtain ⟨q, hq⟩ : ∃ q, evalR vl vars arg = q := ⟨_, rfl⟩
      obtain ⟨qx, qe⟩ := q
      have HQ := hide_ hq
      have hwb := (Below.refl B wr).alloc (by have := hb.size; omega) (.cells #[.int .i64 var, .slice vA vn vc] 105)
      have hv2 := toks_stable.below hxok.2 hwb
      have HV := hide_ hv2
      have HVN := hide_ hvn
      have HW := hide_ hwb
      have HSV1 := hide_ (HSV.out.below ((hb.mono hB).trans hwb))
      obtain ⟨vi, rfl⟩ := Int.eq_ofNat_of_zero_le hvar.1
      have hvi2 : vi < m := by omega
      obtain ⟨g, rfl, hg1, hg2, ⟨u, hcu⟩, hfz⟩ := own_ivar HO1.out (hcl.trans HM.out) hvi2
      clear hx hs1 hxok hcl hvn hq hwb hv2 hvar
      go_wp2_with fail
      refine (Eval_any vl vars arg B vA V vn vc m k _ HVN.out (HVN.out ▸ toks_n63 HV.out) HM.out HV.out.2.2.1 HSV1.out (by simp; omega) HV.out.2.2.2 HVI.out HA.out).mono ?_
      rw [HQ.out]
      rintro en w2 ⟨rfl, hb2⟩
      have HB2 := hide_ hb2
      obtain ⟨hc, hf⟩ := bcell hb2
      have hz2 : wr.heap.size + 1 ≤ w2.heap.size := by simpa using hb2.size
      clear hb2
      by_cases hqe : qe = 0
      · subst hqe
        have HO2 := hide_ (own_mono (own_below (own_below HO1.out ((Below.refl _ _).alloc (Nat.le_refl _) (.cells #[.int .i64 vi, .slice vA vn vc] 105))) HB2.out) (Nat.le_refl _))
        have HO3 := hide_ (HO2.out.stored vi (.int .i64 qx)).1
        have HJ2 := hide_ (setRun_yes HJ.out HX.out HQ.out)
        go_wp2
        go_roundw
        case rel =>
          refine ⟨j + 1, cur.set vi qx, by omega, by go_num, hide_ (by simpa using HJ2.out), ?_, ?_⟩
          · have := HO3.out
            rw [show (iv cur).set vi (.int .i64 qx) = iv (cur.set vi qx) by simp [iv, List.map_set]] at this
            exact this
          · exact ((hb.alloc hb.size _).trans (HB2.out.mono (by simp; have := hb.size; omega))).setCell (p := ⟨g, vi, none⟩) hg1 _
        case measure => simp [intOf]; omega
      · have HN2 := hide_ (show R = none from HR.out.trans (setRun_no HJ.out HX.out HQ.out hqe (by omega)))
        have hd : (qe != 0) = true := by simpa using hqe
        clear hqe
        go_wp2
        go_ret2
        exact .inr ⟨HN2.out, rfl, (hb.alloc hb.size _).trans (HB2.out.mono (by simp; have := hb.size; omega))⟩
    · obtain rfl : j = n := by omega
      have hcl := setRun_len HJ.out
      have HCL := hide_ (hcl.trans HM.out)
      have HN2 := hide_ (HR.out.trans HJ.out)
      clear hcl
      go_wp2
      go_ret2
      refine .inl ⟨cur, _, _, HN2.out, by rw [HCL.out]; exact rfl, ?_, hb⟩
      rw [HCL.out]
      exact HO1.out

theorem ownCells_below {w w' : World} {b : Nat} {v : Value} {n : Nat} {xs : List Value} (h : w.ownsRow b 74 4 v n xs) (hb : Below w.heap.size w w') : w'.ownsRow b 74 4 v n xs := own_below h hb

set_option maxRecDepth 100000 in
set_option maxHeartbeats 1600000 in
theorem emitAll_any (s : Sl EmM) (vars : List Int) (V : Option Addr) (m k : Nat) (arg : Int) (B : Nat) (w : World) (hm : vars.length = m) (hs : emsOk w B s) (hl4 : s.l.length ≤ 4) (hsv : Sees w B V (iv vars)) (hvi : ∀ v ∈ vars, I64 v) (ha : I64 arg) (hB : B ≤ w.heap.size) :
    Calls Tryz.prog 142 #[s.v, .slice V m k, .int .i64 arg] w (EmitAll (emAllR s.l vars arg) w) := by
  obtain ⟨A, c, l⟩ := s
  obtain ⟨h1, h2, h3, h4⟩ := hs
  simp only at h1 h2 h3 h4 hl4
  obtain ⟨n, hn⟩ : ∃ n, l.length = n := ⟨_, rfl⟩
  have HN := hide_ hn
  have HM := hide_ hm
  have HS := hide_ h3
  have H4 := hide_ h4
  have HSV := hide_ hsv
  have HVI := hide_ hvi
  have HA := hide_ ha
  have HR := hide_ (show emAllR l vars arg = emRun l vars arg n by unfold emAllR; rw [hn])
  simp only [Sl.v, hn]
  rw [hn] at hl4
  clear hn hm h3 h4 hsv hvi ha h1 h2
  generalize emAllR l vars arg = R at HR ⊢
  go_enter Tryz.func142, Tryz.ntmps142
  go_wp2
  go_loopw [8, 15] (fun v i wr => ∃ (j : Nat) (cur : List (Int × Int × Int)) (A1 : Option Addr) (c1 : Nat), j ≤ n ∧ i = .int .i64 j ∧ v = .slice A1 j c1 ∧ Hid (emRun l vars arg j = some cur) ∧ Hid (wr.ownsRow w.heap.size 74 4 (.slice A1 j c1) j (cv cur)) ∧ Below w.heap.size w wr) (fun _ i _ => n - (intOf i).toNat)
  case atStart => exact ⟨0, [], none, 0, Nat.zero_le _, rfl, rfl, (rfl : _ = _), World.ownsRow_nil _ _ _ _, Below.refl _ _⟩
  case round =>
    obtain ⟨j, cur, A1, c1, hj, rfl, rfl, HJ, HO1, hb⟩ := hrel
    by_cases hlt : j < n
    · obtain ⟨x, hx⟩ : ∃ x, l[j]? = some x := ⟨_, List.getElem?_eq_getElem (by rw [HN.out]; exact hlt)⟩
      have hs1 := HS.out.below (hb.mono hB)
      obtain ⟨tb, ot, rfl, hab, e0, e1, e2⟩ := hs1.em hx
      have hzw : w.heap.size ≤ wr.heap.size := hb.size
      have hwz : tb < wr.heap.size := by have := hb.size; omega
      have hxok := em_stable.below (H4.out x (List.mem_of_getElem? hx)) (hb.mono hB)
      have HX := hide_ hx
      obtain ⟨tg, ac, ⟨vA, vc, vl⟩⟩ := x
      simp only at e0 e1 e2
      obtain ⟨vn, hvn⟩ : ∃ vn, vl.length = vn := ⟨_, rfl⟩
      rw [hvn] at e2
      obtain ⟨q, hq⟩ : ∃ q, evalR vl vars arg = q := ⟨_, rfl⟩
      obtain ⟨qx, qe⟩ := q
      have HQ := hide_ hq
      have hwb := (Below.refl B wr).alloc (by have := hb.size; omega) (.cells #[.int .u8 tg, .int .i64 ac, .slice vA vn vc] 107)
      have hv2 := toks_stable.below hxok.2.2 hwb
      have HV := hide_ hv2
      have HVN := hide_ hvn
      have HW := hide_ hwb
      have HSV1 := hide_ (HSV.out.below ((hb.mono hB).trans hwb))
      clear hx hs1 hxok hvn hq hwb hv2
      go_wp2_with fail
      refine (Eval_any vl vars arg B vA V vn vc m k _ HVN.out (HVN.out ▸ toks_n63 HV.out) HM.out HV.out.2.2.1 HSV1.out (by simp; omega) HV.out.2.2.2 HVI.out HA.out).mono ?_
      rw [HQ.out]
      rintro en w2 ⟨rfl, hb2⟩
      have HB2 := hide_ hb2
      obtain ⟨hc, hf⟩ := bcell hb2
      have hz2 : wr.heap.size + 1 ≤ w2.heap.size := by simpa using hb2.size
      clear hb2
      by_cases hqe : qe = 0
      · subst hqe
        have hO2 := own_below (own_below HO1.out ((Below.refl _ _).alloc (Nat.le_refl _) (.cells #[.int .u8 tg, .int .i64 ac, .slice vA vn vc] 107))) HB2.out
        have HO2 := hide_ (hO2.alloc (.cells #[.int .u64 0, .int .u8 tg, .int .i64 ac, .int .i64 qx] 74))
        have HSN := hide_ (sees_box w2 #[.int .u64 0, .int .u8 tg, .int .i64 ac, .int .i64 qx] 74 (cv [(tg, ac, qx)]) rfl)
        have H1C := hide_ (show ∀ u ∈ cv [(tg, ac, qx)], u.oneCell' = true by intro u hu; simp [cv, cellC] at hu; rcases hu with rfl | rfl | rfl | rfl <;> rfl)
        have HJ2 := hide_ (emRun_yes HJ.out HX.out HQ.out)
        have HBW := hide_ ((hb.alloc hb.size (.cells #[.int .u8 tg, .int .i64 ac, .slice vA vn vc] 107)).trans (HB2.out.mono (by simp; omega)))
        have hwz2 := HBW.out.size
        have HCV := hide_ (cv_append cur [(tg, ac, qx)])
        clear hO2
        go_wp2_with (at_builtin; refine wpList_append_cells _ rfl _ _ 28 rfl w.heap.size 74 _ 4 32 cell_info rfl (by omega) Tryz.underlying28 _ j (cv cur) rfl HO2.out (w2.heap.size + 1) (some ⟨w2.heap.size, 0, none⟩) 1 1 (cv [(tg, ac, qx)]) rfl rfl HSN.out H1C.out (by omega) (by omega) (by simp; omega) (j + 1) rfl (cv (cur ++ [(tg, ac, qx)])) HCV.out.symm ?_; intro A2 c2 w3 hown hb3; have HO3 := hide_ hown; have HB3 := hide_ hb3; clear hown hb3)
        go_roundw
        case rel => exact ⟨j + 1, _, _, _, by omega, by go_num, rfl, HJ2.out, by assumption, (HBW.out.alloc (by omega) _).trans (by assumption)⟩
        case measure => simp [intOf]; omega
      · have HN2 := hide_ (show R = none from HR.out.trans (emRun_no HJ.out HX.out HQ.out hqe (by omega)))
        have hd : (qe != 0) = true := by simpa using hqe
        clear hqe
        go_wp2
        go_ret2
        exact .inr ⟨HN2.out, rfl, (hb.alloc hb.size _).trans (HB2.out.mono (by simp; have := hb.size; omega))⟩
    · obtain rfl : j = n := by omega
      have HCL := hide_ (emRun_len HJ.out)
      have HN2 := hide_ (HR.out.trans HJ.out)
      go_wp2
      go_ret2
      refine .inl ⟨cur, _, _, HN2.out, by rw [HCL.out]; exact rfl, ?_, hb⟩
      rw [HCL.out]
      exact HO1.out
end Go.Proofs.YtkgnondlcaklnaaGreat

/-
  Contract of table's Fire.
-/
namespace Go.Proofs.YtkgnondlcaklnaaGreat
open Go.RowKit

/-- what Fire leaves -/
def Fires (r : Int × List Int × List (Int × Int × Int) × Int) (w : World) (e : Ending) (w' : World) : Prop :=
  ∃ A c A2 c2, e = .returned (.tuple #[.int .i64 r.1, .slice A r.2.1.length c, .slice A2 r.2.2.1.length c2, .int .i64 r.2.2.2]) ∧ w'.ownsRow w.heap.size 2 1 (.slice A r.2.1.length c) r.2.1.length (iv r.2.1) ∧
    w'.ownsRow w.heap.size 74 4 (.slice A2 r.2.2.1.length c2) r.2.2.1.length (cv r.2.2.1) ∧ Below w.heap.size w w'
theorem Fires.none {R : Int × List Int × List (Int × Int × Int) × Int} {e : Int} {w w' : World} (h : R = (0, [], [], e)) (hb : Below w.heap.size w w') : Fires R w (.returned (.tuple #[.int .i64 0, .slice none 0 0, .slice none 0 0, .int .i64 e])) w' := by
  subst h
  exact ⟨_, _, _, _, rfl, World.ownsRow_nil _ _ _ _, World.ownsRow_nil _ _ _ _, hb⟩

set_option maxRecDepth 100000 in
set_option maxHeartbeats 1600000 in
theorem Fire_any (st vs : Int) (t : Sl RuM) (sa ac pa : Int) (vars : List Int) (V : Option Addr) (m k : Nat) (arg : Int) (B : Nat) (w : World) (hm : vars.length = m) (hs : rusOk w B t) (hsv : Sees w B V (iv vars)) (hvi : ∀ v ∈ vars, I64 v) (ha : I64 arg) (hB : B ≤ w.heap.size) :
    Calls Tryz.prog 102 #[tabV st vs t, .int .i64 sa, .int .i64 ac, .int .i64 pa, .slice V m k, .int .i64 arg] w (Fires (fireR st vs t.l sa ac pa vars arg) w) := by
  have hw1 : Below w.heap.size w (w.alloc (.cells #[.int .i64 st, .int .i64 vs, .slice t.A t.l.length t.c] 24)) := (Below.refl _ _).alloc (Nat.le_refl _) _
  have HC := hide_ (mayFire_any st vs t B _ vars V m k hm (rus_stable.below hs (hw1.mono hB)) (Nat.le_trans hB hw1.size))
  have HD := hide_ (fun (wr : World) (hb : Below w.heap.size w wr) => taken_any t sa ac pa vars V m k arg B wr hm (rus_stable.below hs (hb.mono hB)) (hsv.below (hb.mono hB)) hvi ha (Nat.le_trans hB hb.size))
  have HW := hide_ hw1
  have HS := hide_ hs
  have HSV := hide_ hsv
  have HVI := hide_ hvi
  have HA := hide_ ha
  have HM := hide_ hm
  obtain ⟨q, hq⟩ : ∃ q, fireB st vs t.l vars = q := ⟨_, rfl⟩
  have HQ := hide_ hq
  rw [hq] at HC
  obtain ⟨R, hR⟩ : ∃ R, fireR st vs t.l sa ac pa vars arg = R := ⟨_, rfl⟩
  have HR := hide_ hR
  rw [hR]
  obtain ⟨tA, tc, tl⟩ := t
  obtain ⟨tn, htn⟩ : ∃ n, tl.length = n := ⟨_, rfl⟩
  have HTN := hide_ htn
  have htm : tn ≤ 9223372036854775807 := by have h1 := hs.1; have h2 := hs.2.1; unfold maxLen at h2; simp only [htn] at h1 h2; omega
  simp only [tabV, Sl.v, htn] at HC HW HD ⊢
  clear hs hw1 hm hsv hvi ha hq hR htn
  go_enter Tryz.func102, Tryz.ntmps102
  go_wp2_with fail
  refine HC.out.mono ?_
  rintro en w1 ⟨rfl, hb⟩
  have HB := hide_ (HW.out.trans (hb.mono (by simp)))
  have HC1 := hide_ (bcell hb)
  have hz1 : w.heap.size < w1.heap.size := by have := hb.size; simp at this; omega
  clear hb
  cases q with
  | false =>
    have HR1 := hide_ (show R = (0, [], [], 10) by
      rw [← HR.out]
      unfold fireR
      rw [if_neg (by rw [HQ.out]; simp)])
    go_wp2
    exact bodyPost_ret (v := .tuple #[.int .i64 0, .slice none 0 0, .slice none 0 0, .int .i64 10]) (by simp [results, Tryz.results102, go_sem]) rfl (Fires.none HR1.out HB.out)
  | true =>
  have hmay : mayT st vs tl = true := by
    have h := HQ.out
    unfold fireB at h
    simp only [Bool.and_eq_true] at h
    exact h.2
  have hms : (m : Int) = vs := by
    have h := HQ.out
    unfold fireB at h
    rw [HM.out] at h
    simp only [Bool.and_eq_true, decide_eq_true_eq] at h
    exact h.1
  have hnum := mayT_num hmay
  have hm8 : m ≤ 8 := by omega
  have HMAY := hide_ hmay
  have HMS := hide_ hms
  clear hmay hms hnum
  obtain ⟨hc, hf⟩ := HC1.out
  cases hi : idxO (takX sa ac pa vars arg tl) tl.length with
  | none =>
    have HT := hide_ (show takI sa ac pa vars arg tl = -1 by unfold takI idxI; rw [hi])
    have HR1 := hide_ (show R = (0, [], [], 13) by
      rw [← HR.out]
      unfold fireR
      rw [if_pos HQ.out, hi])
    clear hi
    go_wp2_with fail
    refine (HD.out _ HB.out).mono ?_
    rw [HT.out]
    rintro en w2 ⟨rfl, hb2⟩
    have HB2 := hide_ (HB.out.trans (hb2.mono HB.out.size))
    clear hb2
    go_wp2
    exact bodyPost_ret (v := .tuple #[.int .i64 0, .slice none 0 0, .slice none 0 0, .int .i64 13]) (by simp [results, Tryz.results102, go_sem]) rfl (Fires.none HR1.out HB2.out)
  | some j =>
    obtain ⟨hj1, _, _⟩ := idx_some hi
    obtain ⟨x, hx⟩ : ∃ x, tl[j]? = some x := ⟨_, List.getElem?_eq_getElem hj1⟩
    have HT := hide_ (show takI sa ac pa vars arg tl = j by unfold takI idxI; rw [hi])
    have hjn : j < tn := by rw [← HTN.out]; exact hj1
    have HX := hide_ hx
    have HI := hide_ hi
    clear hi hj1
    go_wp2_with fail
    refine (HD.out _ HB.out).mono ?_
    rw [HT.out]
    rintro en w2 ⟨rfl, hb2⟩
    have HB2 := hide_ (HB.out.trans (hb2.mono HB.out.size))
    have hz2 : w1.heap.size ≤ w2.heap.size := hb2.size
    obtain ⟨hc2, hf2⟩ := bcell hb2
    clear hb2
    have hs2 := (rus_stable.below HS.out (HB2.out.mono hB)).2.2.1
    obtain ⟨tb, ot, rfl, hab, e0, e1, e2, e3, e4, e5, e6⟩ := hs2.ru hx
    have hwz : tb < w2.heap.size := by omega
    have hrule := ruB_parts (mayT_rule HMAY.out hx)
    have hxok := (rus_stable.below HS.out (HB2.out.mono hB)).2.2.2 x (List.mem_of_getElem? hx)
    have HXO := hide_ hxok
    have HRU := hide_ hrule
    clear hs2 hx hrule hxok
    obtain ⟨fr, xc, xp, tt, ⟨gA, gc, gl⟩, ⟨sA, sc, sl⟩, ⟨eA, ec, el⟩⟩ := x
    obtain ⟨-, -, hxs, hxe⟩ := HXO.out
    obtain ⟨-, -, -, -, -, hrs, hre⟩ := HRU.out
    simp only at e0 e1 e2 e3 e4 e5 e6 hxs hxe hrs hre
    obtain ⟨gn, hgn⟩ : ∃ n, gl.length = n := ⟨_, rfl⟩
    obtain ⟨sn, hsn⟩ : ∃ n, sl.length = n := ⟨_, rfl⟩
    obtain ⟨ee, hen⟩ : ∃ n, el.length = n := ⟨_, rfl⟩
    rw [hgn] at e4
    rw [hsn] at e5
    rw [hen] at e6
    have hwb := (Below.refl w.heap.size w2).alloc HB2.out.size (.cells #[.int .i64 fr, .int .i64 xc, .int .i64 xp, .int .i64 tt, .slice gA gn gc, .slice sA sn sc, .slice eA ee ec] 103)
    have HBX := hide_ (HB2.out.trans hwb)
    have hset := setAll_any ⟨sA, sc, sl⟩ vars V m k arg B _ HM.out hm8 (sets_stable.below hxs (hwb.mono hB)) (by rw [HMS.out]; exact hrs) (HSV.out.below (HBX.out.mono hB)) HVI.out HA.out (Nat.le_trans hB HBX.out.size)
    have HSET := hide_ hset
    have HEM := hide_ (fun (wr : World) (hb : Below w.heap.size (w2.alloc (.cells #[.int .i64 fr, .int .i64 xc, .int .i64 xp, .int .i64 tt, .slice gA gn gc, .slice sA sn sc, .slice eA ee ec] 103)) wr) =>
      emitAll_any ⟨eA, ec, el⟩ vars V m k arg B wr HM.out (ems_stable.below hxe ((hwb.trans hb).mono hB)) (emsB_len hre) (HSV.out.below ((HBX.out.trans hb).mono hB)) HVI.out HA.out (Nat.le_trans hB (HBX.out.trans hb).size))
    have HR1 := hide_ (show R = fireOut tt (setAllR sl vars arg) (emAllR el vars arg) by
      rw [← HR.out]
      unfold fireR
      rw [if_pos HQ.out, HI.out]
      simp only [HX.out])
    simp only [Sl.v, hsn] at HSET
    simp only [Sl.v, hen] at HEM
    generalize setAllR sl vars arg = ra at HSET HR1
    generalize emAllR el vars arg = rb at HEM HR1
    clear hset hwb hxs hxe hrs hre hgn hsn hen
    have hz2' : w.heap.size < w2.heap.size := by omega
    go_wp2_with fail
    refine HSET.out.mono ?_
    rintro en w3 (⟨a, A3, c3, hra, rfl, ho3, hb3⟩ | ⟨hra, rfl, hb3⟩)
    · have HRA := hide_ hra
      have HO3 := hide_ ho3
      have HB3 := hide_ hb3
      obtain ⟨hc3, hf3⟩ := bcell hb3
      have hz3 : w2.heap.size < w3.heap.size := by have := hb3.size; simp at this; omega
      clear hra ho3 hb3
      go_wp2_with fail
      refine (HEM.out _ (HB3.out.mono (by simp; omega))).mono ?_
      rintro en w4 (⟨b, A4, c4, hrb, rfl, ho4, hb4⟩ | ⟨hrb, rfl, hb4⟩)
      · have HO4 := hide_ ho4
        have HB4 := hide_ hb4
        obtain ⟨hc4, hf4⟩ := bcell hb4
        have HR2 := hide_ (show R = (tt, a, b, 0) by rw [HR1.out, HRA.out, hrb, fireOut_yes])
        clear hrb ho4 hb4
        go_wp2
        refine bodyPost_ret (v := .tuple #[.int .i64 tt, .slice A3 a.length c3, .slice A4 b.length c4, .int .i64 0]) (by simp [results, Tryz.results102, go_sem]) rfl ?_
        rw [HR2.out]
        exact ⟨A3, c3, A4, c4, rfl, own_mono (own_below HO3.out HB4.out) (by simp; omega), own_mono HO4.out (by omega), (HBX.out.trans (HB3.out.mono (by simp; omega))).trans (HB4.out.mono (by omega))⟩
      · have HB4 := hide_ hb4
        have HR2 := hide_ (show R = (0, [], [], 18) by rw [HR1.out, hrb, fireOut_no2])
        clear hrb hb4
        go_wp2
        exact bodyPost_ret (v := .tuple #[.int .i64 0, .slice none 0 0, .slice none 0 0, .int .i64 18]) (by simp [results, Tryz.results102, go_sem]) rfl (Fires.none HR2.out ((HBX.out.trans (HB3.out.mono (by simp; omega))).trans (HB4.out.mono (by omega))))
    · have HB3 := hide_ hb3
      obtain ⟨hc3, hf3⟩ := bcell hb3
      have hz3 : w2.heap.size < w3.heap.size := by have := hb3.size; simp at this; omega
      have HR2 := hide_ (show R = (0, [], [], 18) by rw [HR1.out, hra, fireOut_no1])
      clear hra hb3
      go_wp2_with fail
      refine (HEM.out _ (HB3.out.mono (by simp; omega))).mono ?_
      rintro en w4 (⟨b, A4, c4, hrb, rfl, ho4, hb4⟩ | ⟨hrb, rfl, hb4⟩)
      all_goals
        have HB4 := hide_ hb4
        go_wp2
        exact bodyPost_ret (v := .tuple #[.int .i64 0, .slice none 0 0, .slice none 0 0, .int .i64 18]) (by simp [results, Tryz.results102, go_sem]) rfl (Fires.none HR2.out ((HBX.out.trans (HB3.out.mono (by simp; omega))).trans (HB4.out.mono (by omega))))
end Go.Proofs.YtkgnondlcaklnaaGreat
