/-
  Texts of this claim put together: Cons7, App7, Gr7.
-/
import Derived.Test.YtpiikdinphnjbaaGreatJ47
import Derived.Test.YtpiikdinphnjbaaGreatJ38
import Derived.Test.YtpiikdinphnjbaaGreatJ39
import Derived.Test.YtpiikdinphnjbaaGreatJ35
import Derived.Test.YtpiikdinphnjbaaGreatJ30
import Derived.Test.YtpiikdinphnjbaaGreatJ18
import Derived.Test.YtpiikdinphnjbaaGreatJ06
/-
  Contract of engine's consume.
-/
namespace Go.Proofs.YtpiikdinphnjbaaGreat
open Go.RowKit

theorem fireG_ma (ts tv : Int) (tl : List RuM) (r : RegP) (ac pa ar : Int) : (fireG ts tv tl r ac pa ar).1.ma = r.ma ∧ (fireG ts tv tl r ac pa ar).1.dn = r.dn := by
  unfold fireG
  split
  · rcases fireR ts tv tl r.st ac pa r.va ar with ⟨s, v, c, e⟩
    simp only
    split
    · split <;> exact ⟨rfl, rfl⟩
    · exact ⟨rfl, rfl⟩
  · exact ⟨rfl, rfl⟩

set_option maxRecDepth 100000 in
set_option maxHeartbeats 12800000 in
theorem consume_any (ts tv : Int) (t : Sl RuM) (x : RegM) (o : OpM) (B lo z : Nat) (w : World) (ht : rusOk w B t) (hBz : B ≤ z) (h : At7 w lo z x) (ho : OpM.ok o) (h1 : x.ou.l.length ≤ 50) (hr : Ris (fun d : MrkM => d.1) x.ma.l) (hl : x.ma.l.length ≤ 50) :
    Calls Tryz.prog 43 #[tabV ts tv t, .pointer (some ⟨z, 0, none⟩), o.v] w (Does (consumeG ts tv t.l x.p o) lo z w) := by
  obtain ⟨W0, hW0⟩ : ∃ W0, (w.alloc (.cells #[.int .i64 ts, .int .i64 tv, .slice t.A t.l.length t.c] 24)).alloc (.cells o.box 33) = W0 := ⟨_, rfl⟩
  have hb0 : Below w.heap.size w W0 := hW0 ▸ ((Below.refl _ _).alloc (Nat.le_refl _) _).alloc (by simp) _
  have HXT := hide_ (show BoxAt W0 w.heap.size #[.int .i64 ts, .int .i64 tv, .slice t.A t.l.length t.c] 24 from hW0 ▸ (BoxAt.new w _ _).alloc _)
  have HXO := hide_ (show BoxAt W0 (w.heap.size + 1) o.box 33 from by
    have h := BoxAt.new (w.alloc (.cells #[.int .i64 ts, .int .i64 tv, .slice t.A t.l.length t.c] 24)) o.box 33
    rw [hW0] at h
    simpa using h)
  have HAT0 := hide_ (h.below hb0)
  have HB0 := hide_ hb0
  have HLO := hide_ h.low
  have HSZ := hide_ h.size
  have hB : B ≤ w.heap.size := Nat.le_trans hBz (Nat.le_of_lt h.box.lt)
  have HOW := hide_ h.fresh.ou
  have HSE := hide_ (Settled_any x o.so o.inc o.ce W0.drew.heap.size W0.drew ((HAT0.out.below (Below.refl _ _).drew).fresh.ok) (Nat.le_refl _))
  have HFI := hide_ (fun (u : World) (hk : Kp z lo w u) (hat : At7 u lo z x) => fire_any ts tv t x o.ac 0 o.ar B lo z u (rus_stable.below ht (hk.1.mono hBz)) hBz hat ho.2.2.1.2.2 h1)
  have HOK := hide_ ho
  have HR := hide_ hr
  have HLN := hide_ hl
  obtain ⟨RR, hRR⟩ : ∃ R, consumeG ts tv t.l x.p o = R := ⟨_, rfl⟩
  have HRR := hide_ hRR
  rw [hRR]
  have HW0 := hide_ hW0
  obtain ⟨FF, hFF⟩ : ∃ F, fireG ts tv t.l x.p o.ac 0 o.ar = F := ⟨_, rfl⟩
  have HFF := hide_ (show FF.1.ma = x.p.ma from hFF ▸ (fireG_ma ts tv t.l x.p o.ac 0 o.ar).1)
  have HRR2 := hide_ (show RR = if setdB o.so o.inc o.ce x.p.ma = true then (x.p, 14) else if x.p.ki = 1 then (⟨FF.1.ki, FF.1.inc, FF.1.st, FF.1.va, FF.1.dn, FF.1.ou, FF.1.la, putL (·.1) FF.1.ma (o.so, o.inc, o.ce)⟩, FF.2) else (x.p, 11) by
    rw [← hRR, ← hFF]
    rfl)
  simp only [hFF] at HFI
  clear ht hRR hW0 hb0 ho hr hl hFF HRR hB
  obtain ⟨tA, tc, tl⟩ := t
  obtain ⟨oki, ke, cl, sq, ac, pa, ar, so, oinc, ce⟩ := o
  obtain ⟨ki, inc, st, ⟨vA, vc, vl⟩, ⟨dA, dc, dl⟩, ⟨oA, oc, ol⟩, la, ⟨mA, mc, ml⟩⟩ := x
  simp only [tabV, Sl.v, OpM.v, OpM.box, RegM.v] at HFI HSE HXT HXO HW0 h1 ⊢
  clear h1 h
  obtain ⟨qs, hqs⟩ : ∃ q, setdB so oinc ce ml = q := ⟨_, rfl⟩
  simp only [RegM.p, hqs] at HSE HRR2 HFF
  clear hqs
  go_enter Tryz.func43, Tryz.ntmps43
  go_upto_region 1 with fail
  rw [HW0.out]
  have hcx := HAT0.out.box.cell
  simp only [RegM.box] at hcx
  have hz0 : z < W0.heap.size := HAT0.out.box.lt
  have hco := HXO.out.cell
  have hzo : w.heap.size + 1 < W0.heap.size := HXO.out.lt
  refine wp_region_held_drew (S := fun w' => (∀ i : Nat, w'.cell? ⟨z, i, none⟩ = (#[.int .u8 ki, .int .u64 inc, .int .i64 st, .slice vA vl.length vc, .slice dA dl.length dc, .slice oA ol.length oc, .int .u64 la, .slice mA ml.length mc] : Array Value)[i]?) ∧ (∀ i : Nat, w'.cell? ⟨w.heap.size + 1, i, none⟩ = (#[.int .u8 oki, .int .u8 ke, .int .u8 cl, .int .u64 sq, .int .i64 ac, .int .i64 pa, .int .i64 ar, .int .u8 so, .int .u64 oinc, .int .u64 ce] : Array Value)[i]?)) (by kernel_rfl) (⟨fun i => HAT0.out.box.cell i, fun i => HXO.out.cell i⟩) (fun hHeld => ?_)
  refine wpAnyH_take (i := 0) (oi := ⟨some 9, _, _, _, _, _⟩) (v := ?v1) rfl (by kernel_rfl) (by kernel_rfl) (by kernel_rfl) (fun _ _ _ h => h) (Or.inl ⟨by rfl, ?hy1⟩) (by assumption) ?rest1
  case hy1 => intro w hSw; (try dsimp only at hSw); go_simp <;> with_reducible rfl
  simp only [Act.put, List.setIfInBounds_toArray, List.set_cons_zero, List.set_cons_succ]
  refine wpAnyH_take (i := 1) (oi := ⟨some 10, _, _, _, _, _⟩) (v := ?v2) rfl (by kernel_rfl) (by kernel_rfl) (by kernel_rfl) (fun _ _ _ h => h) (Or.inl ⟨by rfl, ?hy2⟩) (by assumption) ?rest2
  case hy2 => intro w hSw; (try dsimp only at hSw); go_simp <;> with_reducible rfl
  simp only [Act.put, List.setIfInBounds_toArray, List.set_cons_zero, List.set_cons_succ]
  refine wpAnyH_take (i := 2) (oi := ⟨some 11, _, _, _, _, _⟩) (v := ?v3) rfl (by kernel_rfl) (by kernel_rfl) (by kernel_rfl) (fun _ _ _ h => h) (Or.inl ⟨by rfl, ?hy3⟩) (by assumption) ?rest3
  case hy3 => intro w hSw; (try dsimp only at hSw); go_simp <;> with_reducible rfl
  simp only [Act.put, List.setIfInBounds_toArray, List.set_cons_zero, List.set_cons_succ]
  refine wpAnyH_take (i := 3) (oi := ⟨some 12, _, _, _, _, _⟩) (v := ?v4) rfl (by kernel_rfl) (by kernel_rfl) (by kernel_rfl) (fun _ _ _ h => h) (Or.inl ⟨by rfl, ?hy4⟩) (by assumption) ?rest4
  case hy4 => intro w hSw; (try dsimp only at hSw); go_simp <;> with_reducible rfl
  simp only [Act.put, List.setIfInBounds_toArray, List.set_cons_zero, List.set_cons_succ]
  refine wpAnyH_take (i := 4) (oi := ⟨some 13, _, _, _, _, _⟩) (v := ?v5) rfl (by kernel_rfl) (by kernel_rfl) (by kernel_rfl) (fun _ _ _ h => h) (Or.inl ⟨by rfl, ?hy5⟩) (by assumption) ?rest5
  case hy5 => intro w hSw; (try dsimp only at hSw); go_simp <;> with_reducible rfl
  simp only [Act.put, List.setIfInBounds_toArray, List.set_cons_zero, List.set_cons_succ]
  refine wpAnyH_take (i := 5) (oi := ⟨some 14, _, _, _, _, _⟩) (v := ?v6) rfl (by kernel_rfl) (by kernel_rfl) (by kernel_rfl) (fun _ _ _ h => h) (Or.inl ⟨by rfl, ?hy6⟩) (by assumption) ?rest6
  case hy6 => intro w hSw; (try dsimp only at hSw); go_simp <;> with_reducible rfl
  simp only [Act.put, List.setIfInBounds_toArray, List.set_cons_zero, List.set_cons_succ]
  refine wpAnyH_take (i := 6) (oi := ⟨some 15, _, _, _, _, _⟩) (v := ?v7) rfl (by kernel_rfl) (by kernel_rfl) (by kernel_rfl) (fun _ _ _ h => h) (Or.inl ⟨by rfl, ?hy7⟩) (by assumption) ?rest7
  case hy7 => intro w hSw; (try dsimp only at hSw); go_simp <;> with_reducible rfl
  simp only [Act.put, List.setIfInBounds_toArray, List.set_cons_zero, List.set_cons_succ]
  refine wpAnyH_take (i := 7) (oi := ⟨some 16, _, _, _, _, _⟩) (v := ?v8) rfl (by kernel_rfl) (by kernel_rfl) (by kernel_rfl) (fun _ _ _ h => h) (Or.inl ⟨by rfl, ?hy8⟩) (by assumption) ?rest8
  case hy8 => intro w hSw; (try dsimp only at hSw); go_simp <;> with_reducible rfl
  simp only [Act.put, List.setIfInBounds_toArray, List.set_cons_zero, List.set_cons_succ]
  refine wpAnyH_take (i := 8) (oi := ⟨some 17, _, _, _, _, _⟩) (v := ?v9) rfl (by kernel_rfl) (by kernel_rfl) (by kernel_rfl) (fun _ _ _ h => h) (Or.inl ⟨by rfl, ?hy9⟩) (by assumption) ?rest9
  case hy9 => intro w hSw; (try dsimp only at hSw); go_simp <;> with_reducible rfl
  simp only [Act.put, List.setIfInBounds_toArray, List.set_cons_zero, List.set_cons_succ]
  refine wpAnyH_ready (rs := [9]) (by kernel_rfl) (by simp) ?_
  refine AllReadyH.cons rfl (fun K hK => ?_) AllReadyH.nil
  go_simp
  go_wp2_with fail
  refine HSE.out.mono ?_
  rintro e1 w1 ⟨rfl, hb1⟩
  have HD0 := hide_ (show Below W0.heap.size W0 w1 from (Below.refl _ _).drew.trans hb1)
  clear hb1
  refine hK.out _ _ (⟨fun i => (HAT0.out.below HD0.out).box.cell i, fun i => (HXO.out.below HD0.out).cell i⟩) (fun hHeld => ?_)
  clear hK K
  refine wpAnyH_done (by kernel_rfl) ?_ _
  have HAT1 := hide_ (HAT0.out.below HD0.out)
  have HXT1 := hide_ (HXT.out.below HD0.out)
  have HXO1 := hide_ (HXO.out.below HD0.out)
  have HK1 := hide_ (show Kp z lo w w1 from Kp.of ((HB0.out.trans (HD0.out.mono HB0.out.size)).mono HSZ.out) HLO.out)
  clear hcx hz0 hco hzo
  have hcx := HAT1.out.box.cell
  simp only [RegM.box] at hcx
  have hz1 : z < w1.heap.size := HAT1.out.box.lt
  have hco := HXO1.out.cell
  have hzo : w.heap.size + 1 < w1.heap.size := HXO1.out.lt
  have hct := HXT1.out.cell
  have hzt : w.heap.size < w1.heap.size := HXT1.out.lt
  cases qs with
  | true =>
    have HP := hide_ (show RR = (RegM.p ⟨ki, inc, st, ⟨vA, vc, vl⟩, ⟨dA, dc, dl⟩, ⟨oA, oc, ol⟩, la, ⟨mA, mc, ml⟩⟩, 14) by rw [HRR2.out]; exact if_pos rfl)
    go_wp2
    go_ret
    rw [HP.out]
    exact ⟨_, rfl, rfl, HAT1.out, HK1.out⟩
  | false =>
  have HRR3 := hide_ (HRR2.out.trans (if_neg (by simp)))
  by_cases k1 : ki = 1
  case neg =>
    have HP := hide_ (show RR = (RegM.p ⟨ki, inc, st, ⟨vA, vc, vl⟩, ⟨dA, dc, dl⟩, ⟨oA, oc, ol⟩, la, ⟨mA, mc, ml⟩⟩, 11) by rw [HRR3.out]; exact if_neg (by exact k1))
    have d1 : (ki != 1) = true := bne_iff_ne.2 k1
    clear k1
    go_wp2
    go_ret
    rw [HP.out]
    exact ⟨_, rfl, rfl, HAT1.out, HK1.out⟩
  subst k1
  have HRR4 := hide_ (HRR3.out.trans (if_pos (by rfl)))
  go_wp2_with fail
  refine (HFI.out w1 HK1.out HAT1.out).mono ?_
  rintro e2 w2 ⟨⟨y, rfl, hyp, hat2, hk2⟩, hkb⟩
  have HYP := hide_ hyp
  have HK2 := hide_ (HK1.out.trans hk2)
  have hl5 : w.heap.size + 2 ≤ W0.heap.size := by rw [← HW0.out]; simp
  have hzl : z < w.heap.size := by have := HLO.out; have := HSZ.out; omega
  have HXO2 := hide_ (hkb.box HXO1.out (by omega) (fun e => by have := (HOW.out.lt _ e).2; omega))
  have hs2 : w.heap.size + 2 ≤ w2.heap.size := by have := hk2.1.size; have := HD0.out.size; omega
  clear hyp hk2 hkb hcx hz1 hco hzo hct hzt
  obtain ⟨yki, yinc, yst, ⟨yvA, yvc, yvl⟩, ⟨ydA, ydc, ydl⟩, ⟨yoA, yoc, yol⟩, yla, ⟨ymA, ymc, yml⟩⟩ := y
  have hym : yml = ml := by
    have h1 := HYP.out
    have h2 := HFF.out
    rw [← h1] at h2
    exact h2
  subst hym
  obtain ⟨nm, hnm⟩ : ∃ n, yml.length = n := ⟨_, rfl⟩
  have HNM := hide_ hnm
  simp only [hnm] at HLN
  have HP := hide_ (show RR = (⟨yki, yinc, yst, yvl, ydl.map DoneM.p, yol, yla, putL (fun d : MrkM => d.1) yml (so, oinc, ce)⟩, FF.2) by
    rw [HRR4.out, ← HYP.out]
    rfl)
  have hbx := hat2.box
  simp only [RegM.box, hnm] at hbx
  have HX2 := hide_ hbx
  have HF2 := hide_ hat2.fresh
  have hlow2 : lo ≤ w2.heap.size := hat2.size
  clear hbx hat2
  obtain ⟨W3, hW3⟩ : ∃ W3, w2.alloc (.cells #[.int .u8 so, .int .u64 oinc, .int .u64 ce] 65) = W3 := ⟨_, rfl⟩
  have hb3 : Below w2.heap.size w2 W3 := hW3 ▸ (Below.refl _ _).alloc (Nat.le_refl _) _
  have HXM := hide_ (show BoxAt W3 w2.heap.size #[.int .u8 so, .int .u64 oinc, .int .u64 ce] 65 from hW3 ▸ BoxAt.new _ _ _)
  have HX3 := hide_ (HX2.out.below hb3)
  have HFD := hide_ (show Fresh W3.drew lo _ from (HF2.out.below hb3).below (Below.refl _ _).drew)
  have HB3 := hide_ (show Below lo w2 W3.drew from (hb3.mono hlow2).trans (Below.refl _ _).drew)
  have HPU := hide_ (ptInMark_any ymA nm ymc yml (so, oinc, ce) lo W3.drew (by have := HFD.out.ma; simp only [hnm] at this; exact this) hnm HLN.out (Nat.le_trans hlow2 hb3.size) HR.out)
  simp only [mrkV] at HPU
  obtain ⟨PL, hPL⟩ : ∃ PL, putL (fun d : MrkM => d.1) yml (so, oinc, ce) = PL := ⟨_, rfl⟩
  rw [hPL] at HPU HP
  have HPL := hide_ hPL
  have HW3 := hide_ hW3
  have hco := HXO2.out.cell
  have hzo := HXO2.out.lt
  clear hb3 hW3 hnm hPL
  go_upto_region 7 with fail
  rw [HW3.out]
  clear hco hzo
  have hc0 := HX3.out.cell
  have hd0 := HXM.out.cell
  have hz0 : z < W3.heap.size := HX3.out.lt
  have hzd : w2.heap.size < W3.heap.size := HXM.out.lt
  go_region_with (go_at_call 63; refine HPU.out.mono ?_; rintro e3 w3 ⟨A3, c3, rfl, ho3, hg3⟩; have hb4 := (Below.refl lo W3.drew).grown hg3 (Nat.le_trans hlow2 HB3.out.size) (fun k hk => (HFD.out.ma.lt k (by rw [HNM.out]; exact hk)).1); have HG3 := hide_ hg3; have HBX := hide_ (show BoxAt w3 z _ _ from (hb4.block z HLO.out).trans HX3.out); have hcb := HBX.out.cell; have hfb := HBX.out.frozen; have hzb := HBX.out.lt; have HO3 := hide_ ho3; have HB4 := hide_ hb4; clear ho3 hb4 hg3)
  all_goals
    go_wp2
    go_ret
    rw [HP.out]
    have hg2 : W3.drew.grownBy w3 (Value.slice ymA yml.length ymc).ownBlock := by rw [HNM.out]; exact HG3.out
    have hfr : Fresh w3 lo ⟨yki, yinc, yst, ⟨yvA, yvc, yvl⟩, ⟨ydA, ydc, ydl⟩, ⟨yoA, yoc, yol⟩, yla, ⟨A3, c3, PL⟩⟩ :=
      ⟨HFD.out.num, HFD.out.va.beside HFD.out.ma (by decide) hg2, own_beside HFD.out.dn HFD.out.ma (by decide) hg2, fun d hd => ⟨(HFD.out.di d hd).1, (HFD.out.di d hd).2.beside HFD.out.ma (by decide) hg2⟩, own_beside HFD.out.ou HFD.out.ma (by decide) hg2, HFD.out.oi, HO3.out, fun d hd => by
        have hd2 : d ∈ putL (fun d : MrkM => d.1) yml (so, oinc, ce) := by rw [HPL.out]; exact hd
        rcases putL_mem hd2 with rfl | hd3
        · exact ⟨HOK.out.2.2.2.1, HOK.out.2.2.2.2.1, HOK.out.2.2.2.2.2⟩
        · exact HFD.out.mi d hd3⟩
    refine ⟨⟨yki, yinc, yst, ⟨yvA, yvc, yvl⟩, ⟨ydA, ydc, ydl⟩, ⟨yoA, yoc, yol⟩, yla, ⟨A3, c3, PL⟩⟩, rfl, rfl, ⟨heap_set 7 _ HBX.out, hfr.far HLO.out, HLO.out, ?_⟩, ?_⟩
    · have h1 := HB4.out.size
      have h2 := HB3.out.size
      simp [World.setCell] at h1 h2 ⊢
      omega
    · exact Kp.box (Kp.trans (HK2.out.trans (Kp.of HB3.out HLO.out)) (Kp.of HB4.out HLO.out))
end Go.Proofs.YtpiikdinphnjbaaGreat

/-
  Contracts of engine's do and Apply; layer 7's awake.
-/
namespace Go.Proofs.YtpiikdinphnjbaaGreat
open Go.RowKit

theorem fireR_er (st vs : Int) (l : List RuM) (sa ac pa : Int) (vars : List Int) (arg : Int) : 0 ≤ (fireR st vs l sa ac pa vars arg).2.2.2 ∧ (fireR st vs l sa ac pa vars arg).2.2.2 ≤ 18 := by
  unfold fireR
  split
  · cases idxO (takX sa ac pa vars arg l) l.length with
    | none => simp
    | some k =>
      simp only
      cases l[k]? with
      | none => simp
      | some r =>
        simp only
        cases setAllR r.se.l vars arg with
        | none => rw [fireOut_no1]; simp
        | some a =>
          cases emAllR r.em.l vars arg with
          | none => rw [fireOut_no2]; simp
          | some c => rw [fireOut_yes]; simp
  · simp
theorem fireG_facts (ts tv : Int) (tl : List RuM) (r : RegP) (ac pa ar : Int) : (0 ≤ (fireG ts tv tl r ac pa ar).2 ∧ (fireG ts tv tl r ac pa ar).2 ≤ 20) ∧ (fireG ts tv tl r ac pa ar).1.va.length = r.va.length ∧ (fireG ts tv tl r ac pa ar).1.ki = r.ki := by
  have h1 := fireR_er ts tv tl r.st ac pa r.va ar
  have h2 := fire_stays ts tv tl r.st ac pa r.va ar
  unfold fireG
  split
  · revert h1 h2
    rcases fireR ts tv tl r.st ac pa r.va ar with ⟨s, v, c, e⟩
    intro h1 h2
    simp only at h1 h2 ⊢
    split
    · rename_i he
      subst he
      split
      · refine ⟨by omega, ?_, rfl⟩
        rcases h2 with ⟨e, he, h3⟩ | ⟨s2, v2, c2, h3, -, h4, -⟩
        · injection h3 with _ h3
          injection h3 with _ h3
          injection h3 with _ h3
          exact absurd h3.symm he
        · injection h3 with _ h3
          injection h3 with h3 _
          rw [h3]
          exact h4.2
      · exact ⟨by omega, rfl, rfl⟩
    · exact ⟨by omega, rfl, rfl⟩
  · exact ⟨by omega, rfl, rfl⟩
theorem doG_facts (ts tv : Int) (tl : List RuM) (r : RegP) (o : OpM) (cn : Int) (hv : tv.toNat ≤ 8) (h1 : r.va.length ≤ 50) :
    (0 ≤ (doG ts tv tl r o cn).2 ∧ (doG ts tv tl r o cn).2 ≤ 20) ∧ (doG ts tv tl r o cn).1.va.length ≤ 50 ∧ (doG ts tv tl r o cn).1.dn = r.dn := by
  unfold doG
  split
  · unfold createG
    split
    · exact ⟨by simp, h1, rfl⟩
    · refine ⟨by simp, ?_, rfl⟩
      simp only [List.length_replicate]
      omega
  · split
    · have h := fireG_facts ts tv tl r o.ac o.pa o.ar
      exact ⟨h.1, by rw [h.2.1]; exact h1, (fireG_ma ts tv tl r o.ac o.pa o.ar).2⟩
    · split
      · unfold readG
        split <;> exact ⟨by simp, h1, rfl⟩
      · split
        · unfold removeG
          split
          · split
            · exact ⟨by simp, by simp, rfl⟩
            · exact ⟨by simp, h1, rfl⟩
          · exact ⟨by simp, h1, rfl⟩
        · split
          · unfold consumeG
            split
            · exact ⟨by simp, h1, rfl⟩
            · split
              · have h := fireG_facts ts tv tl r o.ac 0 o.ar
                have h4 := (fireG_ma ts tv tl r o.ac 0 o.ar).2
                revert h h4
                rcases fireG ts tv tl r o.ac 0 o.ar with ⟨y, e⟩
                intro h h4
                exact ⟨h.1, by simp only at h ⊢; rw [h.2.1]; exact h1, h4⟩
              · exact ⟨by simp, h1, rfl⟩
          · split
            · unfold clearG
              refine ⟨by simp, ?_, ?_⟩ <;> simp only <;> split <;> first | exact h1 | rfl
            · exact ⟨by simp, h1, rfl⟩

theorem noteG_reply (r : RegP) (o : OpM) (p : RepP) (e : Int) : replyG (noteG r o p) e = replyG r e ∧ (noteG r o p).va = r.va := by
  unfold noteG
  split
  · exact ⟨rfl, rfl⟩
  · split <;> exact ⟨rfl, rfl⟩

theorem mayO_kind {o : OpM} (h : mayO o = true) : o.ki = 1 ∨ o.ki = 2 ∨ o.ki = 3 ∨ o.ki = 4 ∨ o.ki = 5 ∨ o.ki = 6 ∨ o.ki = 7 := by
  unfold mayO at h
  simp only [Bool.and_eq_true] at h
  have h1 := h.2.2.2.2.2.2
  unfold mayKindB at h1
  by_cases k1 : o.ki = 1
  · exact .inl k1
  by_cases k2 : o.ki = 2
  · exact .inr (.inl k2)
  by_cases k3 : o.ki = 3
  · exact .inr (.inr (.inl k3))
  by_cases k4 : o.ki = 4
  · exact .inr (.inr (.inr (.inl k4)))
  by_cases k5 : o.ki = 5
  · exact .inr (.inr (.inr (.inr (.inl k5))))
  by_cases k6 : o.ki = 6
  · exact .inr (.inr (.inr (.inr (.inr (.inl k6)))))
  by_cases k7 : o.ki = 7
  · exact .inr (.inr (.inr (.inr (.inr (.inr k7)))))
  rw [if_neg k1, if_neg k3, if_neg k4, if_neg k2, if_neg k5, if_neg k6, if_neg k7] at h1
  cases h1

theorem mayG_ris {r : RegP} (h : mayG r = true) : risB (r.dn.map (·.1)) 1 8 = true ∧ risB (r.ma.map (·.1)) 0 15 = true ∧ r.ou.length ≤ 8 ∧ r.va.length ≤ 8 := by
  have z : ∀ lo hi : Int, risB ([] : List Int) lo hi = true := fun lo hi => risB_true.2 (by simp)
  have st : stnB r = true → risB (r.dn.map (·.1)) 1 8 = true ∧ risB (r.ma.map (·.1)) 0 15 = true ∧ r.ou.length ≤ 8 ∧ r.va.length ≤ 8 := fun h => by
    unfold stnB staB dnsB ousB mksB at h
    simp only [Bool.and_eq_true, decide_eq_true_eq] at h
    exact ⟨h.2.2.1.1, h.2.2.2.2.1, h.2.2.2.1.1, h.2.1.2⟩
  unfold mayG at h
  split at h
  · have := of_decide_eq_true h
    subst this
    exact ⟨z _ _, z _ _, by simp [zeroP], by simp [zeroP]⟩
  · split at h
    · exact st h
    · split at h
      · rw [Bool.and_eq_true] at h
        exact st h.1
      · cases h
theorem ris_p {x : RegM} (h : mayG x.p = true) : Ris (fun d : DoneM => d.cl) x.dn.l ∧ Ris (fun d : MrkM => d.1) x.ma.l := by
  have h1 := mayG_ris h
  refine ⟨Ris.of (lo := 1) (hi := 8) ?_, Ris.of h1.2.1⟩
  have h2 := h1.1
  simp only [RegM.p, List.map_map] at h2
  exact h2

theorem do_any (ts tv : Int) (t : Sl RuM) (x : RegM) (o : OpM) (cn : Int) (B lo z : Nat) (w : World) (ht : rusOk w B t) (hBz : B ≤ z) (h : At7 w lo z x) (ho : OpM.ok o) (hm : mayO o = true) (hc : U64 cn) (hv : 0 ≤ tv ∧ tv ≤ 8) (hx : mayG x.p = true) (h1 : x.ou.l.length ≤ 50) (h2 : x.ma.l.length ≤ 50) :
    Calls Tryz.prog 20 #[tabV ts tv t, .pointer (some ⟨z, 0, none⟩), o.v, .int .u64 cn] w (Does (doG ts tv t.l x.p o cn) lo z w) := by
  obtain ⟨nv, rfl⟩ : ∃ n : Nat, tv = n := ⟨tv.toNat, by omega⟩
  have hB : B ≤ w.heap.size := Nat.le_trans hBz (Nat.le_of_lt h.box.lt)
  have hat : ∀ u, Below w.heap.size w u → At7 u lo z x := fun u hu => h.below hu
  have hts : ∀ u, Below w.heap.size w u → rusOk u B t := fun u hu => rus_stable.below ht (hu.mono hB)
  unfold doG
  rcases mayO_kind hm with hk | hk | hk | hk | hk | hk | hk
  · rw [if_pos hk]
    exact do_create ts t.A t.l.length t.c x o cn lo z nv w h hk (by omega) hc
  · rw [if_neg (by omega), if_pos hk]
    exact do_fire ts nv t.A t.l.length t.c _ o cn lo z w h.size h.low hk fun u hu => (fire_any ts nv t x o.ac o.pa o.ar B lo z u (hts u hu) hBz (hat u hu) ho.2.2.1.2.2 h1).mono fun _ _ h => h.1
  · rw [if_neg (by omega), if_neg (by omega), if_pos hk]
    exact do_read ts nv t.A t.l.length t.c _ o cn lo z w h.size h.low hk fun u hu => read_any x lo z u (hat u hu)
  · rw [if_neg (by omega), if_neg (by omega), if_neg (by omega), if_pos hk]
    exact do_remove ts nv t.A t.l.length t.c _ o cn lo z w h.size h.low hk fun u hu => remove_any x lo z u (hat u hu)
  · rw [if_neg (by omega), if_neg (by omega), if_neg (by omega), if_neg (by omega), if_pos hk]
    exact do_consume ts nv t.A t.l.length t.c _ o cn lo z w h.size h.low hk fun u hu => consume_any ts nv t x o B lo z u (hts u hu) hBz (hat u hu) ho h1 (ris_p hx).2 h2
  · rw [if_neg (by omega), if_neg (by omega), if_neg (by omega), if_neg (by omega), if_neg (by omega), if_pos hk]
    exact do_clear ts nv t.A t.l.length t.c _ o cn lo z w h.size h.low hk fun u hu => clear_any x o.inc o.ce lo z u (hat u hu) h1
  · rw [if_neg (by omega), if_neg (by omega), if_neg (by omega), if_neg (by omega), if_neg (by omega), if_neg (by omega)]
    exact do_same ts nv t.A t.l.length t.c x o cn lo z w h.size h.low hk h

theorem apply_right (ts tv : Int) (t : Sl RuM) (x : RegM) (o : OpM) (cn : Int) (B : Nat) (w : World) (ht : rusOk w B t) (hx : RegM.ok w B x) (ho : OpM.ok o) (hc : U64 cn) (hB : B ≤ w.heap.size)
    (hr : rightB ts tv t.l x.p o cn = true) (h1 : x.va.l.length ≤ 50) (h2 : x.dn.l.length ≤ 50) (h3 : x.ou.l.length ≤ 50) (h4 : x.ma.l.length ≤ 50) (h5 : ∀ d ∈ x.dn.l, d.va.l.length ≤ 50) :
    Calls Tryz.prog 8 #[tabV ts tv t, x.v, o.v, .int .u64 cn] w (Applies (applyG ts tv t.l x.p o cn) 0 w) := by
  obtain ⟨hm, hmo, hmt, hcn⟩ := rightB_lens hr
  have hv : 0 ≤ tv ∧ tv ≤ 8 := (mayT_num hmt).2.1
  have hd := doG_facts ts tv t.l x.p o cn (by omega) h1
  have hn := noteG_reply (doG ts tv t.l x.p o cn).1 o (replyG (doG ts tv t.l x.p o cn).1 (doG ts tv t.l x.p o cn).2) (doG ts tv t.l x.p o cn).2
  refine apply_of ts tv t x o cn (doG ts tv t.l x.p o cn) (againG x.p.dn o) (noteG (doG ts tv t.l x.p o cn).1 o (replyG (doG ts tv t.l x.p o cn).1 (doG ts tv t.l x.p o cn).2)) B w ht hx hB hr h1 h2 h3 h4 h5 ?_ ?_ ?_ ?_ hd.2.1 ?_ hn.1
  · intro u c hc hcp
    rw [← hcp]
    refine again_any c o u.heap.size u hc (Nat.le_refl _) fun d hdm => ?_
    have h6 : DoneM.p d ∈ x.p.dn := by
      rw [← hcp]
      exact List.mem_map.2 ⟨d, hdm, rfl⟩
    obtain ⟨d2, h7, h8⟩ := List.mem_map.1 h6
    have h9 : d.va.l = d2.va.l := congrArg (fun p : DoneP => p.2.2.2.2.2) h8.symm
    rw [h9]
    exact h5 d2 h7
  · intro u c lo z hts hBz hat hcp
    have := do_any ts tv t c o cn B lo z u hts hBz hat ho hmo hc hv (by rw [hcp]; exact hm) (by have := congrArg (fun p : RegP => p.ou) hcp; simp only [RegM.p] at this; rw [this]; exact h3) (by have := congrArg (fun p : RegP => p.ma) hcp; simp only [RegM.p] at this; rw [this]; exact h4)
    rw [hcp] at this
    exact this
  · intro u c y lo z hat hcp hyp hyn hyo
    have hdn : c.p.dn = x.p.dn := by rw [hcp]; exact hd.2.2
    have hris : Ris (fun d : DoneM => d.cl) c.dn.l := by
      refine Ris.of (lo := 1) (hi := 8) ?_
      have h6 := (mayG_ris hm).1
      rw [← hdn] at h6
      simp only [RegM.p, List.map_map] at h6
      exact h6
    have hlen : c.dn.l.length ≤ 50 := by
      have h6 := congrArg List.length hdn
      simp only [RegM.p, List.length_map] at h6
      omega
    have := note_any c o y lo z u hat hris hlen ⟨ho.1.2.2, ho.2.1⟩ ⟨hyn, hyo⟩
    rw [hcp, hyp] at this
    exact this
  · unfold I64
    omega
  · rw [hn.2]
    exact hd.2.1

/-- the document's example -/
theorem awake07_any (w : World) : Calls Tryz.prog 7 #[] w fun e w' => e = .returned (.bool true) ∧ Below w.heap.size w w' := by
  have HAP := hide_ (fun (u : World) => apply_right 1 0 ⟨none, 0, []⟩ zeroM ⟨1, 0, 1, 1, 0, 0, 0, 0, 0, 0⟩ 7 0 u ⟨by simp, by simp [maxLen], Sees.empty _ _ _, by simp⟩ (zeroM_ok _ _) (by unfold OpM.ok U8 U64 I64; simp) (by unfold U64; simp) (Nat.zero_le _) (by decide) (by simp [zeroM]) (by simp [zeroM]) (by simp [zeroM]) (by simp [zeroM]) (by simp [zeroM]))
  simp only [tabV, Sl.v, zeroM, RegM.v, OpM.v, List.length_nil] at HAP
  have e1 : applyG 1 0 [] (RegM.p zeroM) ⟨1, 0, 1, 1, 0, 0, 0, 0, 0, 0⟩ 7 = (⟨1, 7, 0, [], [(1, 1, 0, 7, 0, [])], [], 0, []⟩, (0, 7, 0, [])) := by decide
  simp only [zeroM] at e1
  rw [e1] at HAP
  go_enter Tryz.func7, Tryz.ntmps7
  go_wp2_with fail
  refine (HAP.out _).mono ?_
  rintro en w1 ⟨x, y, rfl, hxp, hyp, -, -, -, hb⟩
  have HB := hide_ hb
  clear hb HAP
  obtain ⟨ki, inc, st, ⟨vA, vc, vl⟩, ⟨dA, dc, dl⟩, ⟨oA, oc, ol⟩, la, ⟨mA, mc, ml⟩⟩ := x
  obtain ⟨er, yi, ys, ⟨yA, yc, yl⟩⟩ := y
  simp only [RegM.p, RegP.mk.injEq] at hxp
  simp only [RepM.p, Prod.mk.injEq] at hyp
  obtain ⟨rfl, rfl, -⟩ := hxp
  obtain ⟨rfl, rfl, -⟩ := hyp
  simp only [RegM.v, RepM.v, Sl.v]
  have HF := hide_ (fun (o1 o2 : Obj) => show Below w.heap.size w ((w1.alloc o1).alloc o2) from (HB.out.alloc HB.out.size o1).alloc (by have := HB.out.size; simp; omega) o2)
  go_wp2
  go_ret
  exact ⟨rfl, HF.out _ _⟩
end Go.Proofs.YtpiikdinphnjbaaGreat

/-
  What layer 7's laws have in common: great; what a reading, an OpSame and a doing twice come to.
-/
namespace Go.Proofs.YtpiikdinphnjbaaGreat
open Go.RowKit

set_option maxRecDepth 100000 in
set_option maxHeartbeats 3200000 in
theorem great7_any (ts tv : Int) (t : Sl RuM) (r : RegM) (B : Nat) (w : World) (ht : rusOk w B t) (hr : RegM.ok w B r) (hB : B ≤ w.heap.size) :
    Calls Tryz.prog 6 #[tabV ts tv t, r.v] w (SomeG r w) := by
  have HG := hide_ (fun (u : World) (hb : Below w.heap.size w u) => Great_any ts tv t B u (rus_stable.below ht (hb.mono hB)) (Nat.le_trans hB hb.size))
  have HR := hide_ (fun (u : World) (hb : Below w.heap.size w u) => GreatG_any r B u (reg_stable.below hr (hb.mono hB)) (Nat.le_trans hB hb.size))
  have HM := hide_ (fun (w' : World) (e : Ending) (b : Bool) h1 h2 h3 => someG_mk (r := r) (w := w) (w' := w') (e := e) b h1 h2 h3)
  obtain ⟨Q, hQ⟩ : ∃ Q, SomeG r w = Q := ⟨_, rfl⟩
  simp only [hQ] at HM
  rw [hQ]
  clear ht hr hQ
  obtain ⟨tA, tc, tl⟩ := t
  obtain ⟨ki, inc, st, ⟨vA, vc, vl⟩, ⟨dA, dc, dl⟩, ⟨oA, oc, ol⟩, la, ⟨mA, mc, ml⟩⟩ := r
  simp only [tabV, RegM.v, Sl.v] at HG HR ⊢
  obtain ⟨W0, hW0⟩ : ∃ W0, (w.alloc (.cells #[.int .i64 ts, .int .i64 tv, .slice tA tl.length tc] 24)).alloc (.cells #[.int .u8 ki, .int .u64 inc, .int .i64 st, .slice vA vl.length vc, .slice dA dl.length dc, .slice oA ol.length oc, .int .u64 la, .slice mA ml.length mc] 31) = W0 := ⟨_, rfl⟩
  have HXR := hide_ (show BoxAt W0 (w.heap.size + 1) #[.int .u8 ki, .int .u64 inc, .int .i64 st, .slice vA vl.length vc, .slice dA dl.length dc, .slice oA ol.length oc, .int .u64 la, .slice mA ml.length mc] 31 from by
    have h := BoxAt.new (w.alloc (.cells #[.int .i64 ts, .int .i64 tv, .slice tA tl.length tc] 24)) #[.int .u8 ki, .int .u64 inc, .int .i64 st, .slice vA vl.length vc, .slice dA dl.length dc, .slice oA ol.length oc, .int .u64 la, .slice mA ml.length mc] 31
    rw [hW0] at h
    simpa using h)
  have HB0 := hide_ (show Below w.heap.size w W0 from hW0 ▸ ((Below.refl _ _).alloc (Nat.le_refl _) _).alloc (by simp) _)
  have HW0 := hide_ hW0
  clear hW0
  go_enter Tryz.func6, Tryz.ntmps6
  go_wp2_with fail
  rw [HW0.out]
  refine (HG.out _ HB0.out).mono ?_
  rintro e1 w1 ⟨b1, rfl, hb1⟩
  have HB1 := hide_ (HB0.out.trans (hb1.mono HB0.out.size))
  have HR1 := hide_ (HXR.out.below hb1)
  have hcr := HR1.out.cell
  have hzr := HR1.out.lt
  clear hb1
  cases b1 with
  | true =>
    have HF := hide_ (HM.out w1 (.returned (.bool true)) true rfl HB1.out (fun h => by cases h))
    go_wp2
    exact HF.out
  | false =>
    go_wp2_with fail
    refine (HR.out _ HB1.out).mono ?_
    rintro e2 w2 ⟨b2, rfl, hb2, hl⟩
    have HF := hide_ (HM.out w2 (.returned (.bool b2)) b2 rfl (HB1.out.trans (hb2.mono HB1.out.size)) hl)
    clear hb2 hl
    go_wp2
    exact HF.out

/-- without its entries -/
def dn0 (r : RegP) : RegP := ⟨r.ki, r.inc, r.st, r.va, [], r.ou, r.la, r.ma⟩
theorem noteG_dn0 (r : RegP) (o : OpM) (p : RepP) : dn0 (noteG r o p) = dn0 r := by
  unfold noteG
  split
  · rfl
  · split <;> rfl
theorem again_zero {r : RegP} {o : OpM} (h : mayG r = true) (h0 : o.cl = 0) : againG r.dn o = none := by
  have h1 := (mayG_ris h).1
  unfold againG
  rw [idx_none fun j hj => ?_]
  unfold againK
  rw [List.getElem?_eq_getElem hj]
  simp only
  unfold againX
  have h2 := ris_in h1 (r.dn[j]).1 (List.mem_map.2 ⟨_, List.getElem_mem hj, rfl⟩)
  have h3 : ¬ (r.dn[j]).1 = o.cl := by omega
  simp [h3]
theorem apply_same {ts tv : Int} {tl : List RuM} {r : RegP} {o : OpM} {cn : Int} (h : rightB ts tv tl r o cn = true) (hk : o.ki = 7) : (applyG ts tv tl r o cn).1 = r ∧ (applyG ts tv tl r o cn).2.1 = 0 := by
  obtain ⟨hm, hmo, -, -⟩ := rightB_lens h
  have h0 : o.cl = 0 := by
    unfold mayO at hmo
    simp only [Bool.and_eq_true] at hmo
    have h1 := hmo.2.2.2.2.2.2
    unfold mayKindB at h1
    rw [if_neg (by omega), if_neg (by omega), if_neg (by omega), if_neg (by omega), if_neg (by omega), if_neg (by omega), if_pos hk] at h1
    simpa using h1
  have hd : doG ts tv tl r o cn = (r, 0) := by
    unfold doG
    rw [if_neg (by omega), if_neg (by omega), if_neg (by omega), if_neg (by omega), if_neg (by omega), if_neg (by omega)]
  unfold applyG
  rw [again_zero hm h0, hd]
  unfold pickG noteG replyG
  simp only
  rw [if_pos h0]
  refine ⟨rfl, ?_⟩
  simp only [if_true]
  split <;> rfl
theorem apply_reads {ts tv : Int} {tl : List RuM} {r : RegP} {o : OpM} {cn : Int} (h : rightB ts tv tl r o cn = true) (hk : o.ki = 3 ∨ o.ki = 7) : dn0 (applyG ts tv tl r o cn).1 = dn0 r := by
  rcases hk with hk | hk
  · have hd : (doG ts tv tl r o cn).1 = r := by
      unfold doG
      rw [if_neg (by omega), if_neg (by omega), if_pos hk]
      unfold readG
      split <;> rfl
    unfold applyG
    cases againG r.dn o with
    | some p => rfl
    | none =>
      unfold pickG
      simp only
      rw [noteG_dn0, hd]
  · rw [(apply_same h hk).1]
end Go.Proofs.YtpiikdinphnjbaaGreat
