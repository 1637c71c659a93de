/-
  scrutineerlaw11.MsgWrites answers true for every input and leaves its input as it was; no condition.
-/
import Derived.Test.YtkgnondlcaklnaaGreatJ48
import Derived.Test.YtkgnondlcaklnaaGreatJ49
import Derived.Test.YtkgnondlcaklnaaGreatWMsgQ
import Derived.Test.YtkgnondlcaklnaaGreatJ38
import Derived.Test.YtkgnondlcaklnaaGreatLaw
import Derived.Deep.RegionHeld
namespace Go.Proofs.YtkgnondlcaklnaaGreat.msgWrites
open Go.ChangeShapes Go.WideShapes Go.ChangeAt Go.RowKit

theorem q0 {α : Type} (a b : α) (l : List α) : (a :: l).set 0 b = b :: l := rfl
theorem q1 {α : Type} (a b : α) (l : List α) (n : Nat) : (a :: l).set (n + 1) b = a :: l.set n b := rfl
theorem qI {α : Type} (l : List α) (i : Nat) (b : α) : l.toArray.setIfInBounds i b = (l.set i b).toArray := by simp

/-- a message that is read as a whole, in a region that draws its order -/
theorem yl_msg {ops : Array Oper} {S : World → Prop} {op : Oper} {a : Act} (hw : Region.wanted op (yielded ops a.tmps) = true) (x : Operand) (ho : op.op = .load 51 x) {V : Value} {cs : Array Value} (hV : V = .agg cs) {g : Nat} {t : TypeId}
    (hS : ∀ w, S w → BoxAt w g cs t) (hn : cs.size = 24) (hx : a.eval x = .pointer (some ⟨g, 0, none⟩)) : YieldsIf Tryz.prog ops S op V a := by
  subst hV
  obtain ⟨d, hu, hd⟩ := msg_row
  have h := yieldsIf_load_mid (P := Tryz.prog) (S := S) hw _ x ho g 0 hx cs.toList d (fun w hs => (hS w hs).range) hu hd (by rw [msg_size]; simp [hn])
  simpa using h

set_option maxRecDepth 100000 in
set_option maxHeartbeats 12800000 in
set_option linter.unusedSimpArgs false in
theorem walk (m : MsgM) (w : World) (hm : MsgM.good w w.heap.size m) :
    Calls Tryz.prog 4 #[m.v] w fun e w' => e = .returned (.bool true) ∧ Below w.heap.size w w' := by
  have HG := hide_ (fun (u : World) (h : Below w.heap.size w u) => GreatG_any m.r w.heap.size u (reg_stable.below hm.2 h) h.size)
  have HP := hide_ (fun (u : World) (h : Below w.heap.size w u) => putMsg_any m u (msg_stable.more (msg_stable.below hm h) h.size))
  have HRP := hide_ (fun (u : World) (h : Below w.heap.size w u) => refPutMsg_any m u (msg_stable.more (msg_stable.below hm h) h.size))
  have HMA := hide_ (fun (u : World) (h : Below w.heap.size w u) => mayMsg_any m w.heap.size u (msg_stable.below hm h) h.size)
  have HMR := hide_ (fun (u : World) (h : Below w.heap.size w u) => refMayMsg_any m w.heap.size u (msg_stable.below hm h) h.size)
  have HY := hide_ (fun h : mayM m.p = true => putM_yes h)
  have HN := hide_ (fun h : mayM m.p = false => putM_no h)
  have HGB := hide_ (fun (h : mayM m.p = true) (r : List UInt8) (A : Option Addr) (n c : Nat) (u : World) (hr : markB (msgB m.p) = r) => Get_back m w.heap.size w r A n c u hm h hr)
  have HSE := hide_ (fun (x : MsgM) (u v : World) (h : Below w.heap.size w u) (huv : Below u.heap.size u v) (hx : MsgM.good v u.heap.size x) (heq : x.p = m.p) => refSameMsgEq_any x m u.heap.size v hx (msg_stable.below (msg_stable.more (msg_stable.below hm h) h.size) huv) huv.size heq)
  obtain ⟨q, hq⟩ : ∃ q, mayM m.p = q := ⟨_, rfl⟩
  simp only [hq] at HY HN HMA HMR HGB
  obtain ⟨R, hR⟩ : ∃ R, putM m.p = R := ⟨_, rfl⟩
  simp only [hR] at HP HRP HY HN
  obtain ⟨bs, hbs⟩ : ∃ b, msgB m.p = b := ⟨_, rfl⟩
  simp only [hbs] at HY HGB
  obtain ⟨V, hV⟩ : ∃ V, m.v = V := ⟨_, rfl⟩
  rw [hV]
  have HV := hide_ (show V = .agg m.box from hV.symm)
  simp only [hV] at HP HRP HMA HMR
  clear hq hR hbs hm hV
  simp only [RegM.v, Sl.v] at HG
  go_enter Tryz.func4, Tryz.ntmps4
  go_wp2_with (refine box_msg (by rfl) _ (by rfl) (by rfl) HV.out ?_; intro W0 HX0 HB0 HZ0; have hcx := HX0.out.cell; simp only [MsgM.box] at hcx)
  refine (HG.out _ HB0.out).mono ?_
  rintro en w1 ⟨b, rfl, hb1, -⟩
  have HB1 := hide_ (HB0.out.trans (hb1.mono HB0.out.size))
  have HX1 := hide_ (HX0.out.below hb1)
  clear hb1 hcx HG HX0 HB0 HZ0
  cases b with
  | true =>
    go_wp2_with fail
    refine (awake11_any _).mono ?_
    rintro en wz ⟨rfl, hbz⟩
    go_wp2
    go_ret
    exact ⟨rfl, HB1.out.trans (hbz.mono HB1.out.size)⟩
  | false =>
  obtain ⟨rb, re⟩ := R
  obtain ⟨n, hn⟩ : ∃ n, rb.length = n := ⟨_, rfl⟩
  have HNL := hide_ hn
  clear hn
  go_wp2_with (refine ld_msg (by rfl) _ (by rfl) HX1.out (by rfl) (by rfl) ?_)
  rw [← HV.out]
  refine (HP.out _ HB1.out).mono ?_
  rintro en w2 ⟨A1, c1, rfl, ho2, hb2⟩
  simp only [HNL.out] at ho2 ⊢
  have HB2 := hide_ (HB1.out.trans (hb2.mono HB1.out.size))
  have HX2 := hide_ (HX1.out.below hb2)
  have HS2 := hide_ (Sees.own ho2)
  have HC1 := hide_ (own_cap ho2)
  clear ho2 hb2 HP HX1
  go_wp2_with (refine ld_msg (by rfl) _ (by rfl) HX2.out (by rfl) (by rfl) ?_)
  rw [← HV.out]
  refine (HRP.out _ HB2.out).mono ?_
  rintro en w3 ⟨A2, c2, rfl, ho3, hb3⟩
  simp only [HNL.out] at ho3 ⊢
  have HB3 := hide_ (HB2.out.trans (hb3.mono HB2.out.size))
  have HX3 := hide_ (HX2.out.below hb3)
  have HS3 := hide_ ((HS2.out.below hb3).more hb3.size)
  have HT3 := hide_ (Sees.own ho3)
  clear ho3 hb3 HRP HX2 HS2 HB2
  have HSS := hide_ (fun (u : World) (h : Below w3.heap.size w3 u) => (⟨HX3.out.below h, run_str (P := Tryz.prog) u 52 9 5 Tryz.underlying52 Tryz.underlying5 Tryz.underlying9 rb _ A1 n c1 HNL.out (HS3.out.below h), run_str (P := Tryz.prog) u 52 9 5 Tryz.underlying52 Tryz.underlying5 Tryz.underlying9 rb _ A2 n c2 HNL.out (HT3.out.below h)⟩ : BoxAt u w.heap.size m.box 51 ∧ (convert 52 9 (.slice A1 n c1)).run Tryz.prog u = .ok (.string (strOf rb)) u ∧ (convert 52 9 (.slice A2 n c2)).run Tryz.prog u = .ok (.string (strOf rb)) u))
  have HB := hide_ (fun (u : World) (h : Below w3.heap.size w3 u) => (HB3.out.trans (h.mono HB3.out.size) : Below w.heap.size w u))
  have HD := hide_ (show Below w3.heap.size w3 w3.drew from (Below.refl _ _).drew)
  go_upto_region 5 with fail
  refine wp_region_held_drew (S := fun u => BoxAt u w.heap.size m.box 51 ∧ (convert 52 9 (.slice A1 n c1)).run Tryz.prog u = .ok (.string (strOf rb)) u ∧ (convert 52 9 (.slice A2 n c2)).run Tryz.prog u = .ok (.string (strOf rb)) u) (by kernel_rfl) (HSS.out _ HD.out) (fun hHeld => ?_)
  refine wpAnyH_take (i := 0) (oi := ⟨some 23, _, _, _, _, _⟩) (v := ?v1) rfl (by kernel_rfl) (by kernel_rfl) (by kernel_rfl) (fun _ _ _ h => h) (Or.inl ⟨by rfl, ?hy1⟩) (by assumption) ?rest1
  case hy1 => intro w hSw; (try dsimp only at hSw); go_simp <;> with_reducible rfl
  simp only [Act.put, qI, q0, q1]
  refine wpAnyH_take (i := 1) (oi := ⟨some 24, _, _, _, _, _⟩) (v := ?v2) rfl (by kernel_rfl) (by kernel_rfl) (by kernel_rfl) (fun _ _ _ h => h) (Or.inl ⟨by rfl, ?hy2⟩) (by assumption) ?rest2
  case hy2 => intro w hSw; (try dsimp only at hSw); go_simp <;> with_reducible rfl
  simp only [Act.put, qI, q0, q1]
  refine wpAnyH_take (i := 2) (oi := ⟨some 25, _, _, _, _, _⟩) (v := ?v3) rfl (by kernel_rfl) (by kernel_rfl) (by kernel_rfl) (fun _ _ _ h => h) (Or.inl ⟨by rfl, ?hy3⟩) (by assumption) ?rest3
  case hy3 => intro w hSw; (try dsimp only at hSw); go_simp <;> with_reducible rfl
  simp only [Act.put, qI, q0, q1]
  refine wpAnyH_take (i := 3) (oi := ⟨some 26, _, _, _, _, _⟩) (v := ?v4) rfl (by kernel_rfl) (by kernel_rfl) (by kernel_rfl) (fun _ _ _ h => h) (Or.inl ⟨by rfl, ?hy4⟩) (by assumption) ?rest4
  case hy4 => intro w hSw; (try dsimp only at hSw); go_simp <;> with_reducible rfl
  simp only [Act.put, qI, q0, q1]
  refine wpAnyH_take (i := 4) (oi := ⟨some 27, _, _, _, _, _⟩) (v := ?v5) rfl (by kernel_rfl) (by kernel_rfl) (by kernel_rfl) (fun _ _ _ h => h) (Or.inl ⟨by rfl, ?hy5⟩) (by assumption) ?rest5
  case hy5 => intro w hSw; (try dsimp only at hSw); go_simp <;> with_reducible rfl
  simp only [Act.put, qI, q0, q1]
  refine wpAnyH_take (i := 5) (oi := ⟨some 28, _, _, _, _, _⟩) (v := ?v6) rfl (by kernel_rfl) (by kernel_rfl) (by kernel_rfl) (fun _ _ _ h => h) (Or.inl ⟨by rfl, ?hy6⟩) (by assumption) ?rest6
  case hy6 => intro w hSw; (try dsimp only at hSw); go_simp <;> with_reducible rfl
  simp only [Act.put, qI, q0, q1]
  refine wpAnyH_take (i := 6) (oi := ⟨some 29, _, _, _, _, _⟩) (v := ?v7) rfl (by kernel_rfl) (by kernel_rfl) (by kernel_rfl) (fun _ _ _ h => h) (Or.inl ⟨by rfl, ?hy7⟩) (by assumption) ?rest7
  case hy7 => intro w hSw; (try dsimp only at hSw); go_simp <;> with_reducible rfl
  simp only [Act.put, qI, q0, q1]
  refine wpAnyH_take (i := 7) (oi := ⟨some 30, _, _, _, _, _⟩) (v := ?v8) rfl (by kernel_rfl) (by kernel_rfl) (by kernel_rfl) (fun _ _ _ h => h) (Or.inl ⟨by rfl, ?hy8⟩) (by assumption) ?rest8
  case hy8 => intro w hSw; (try dsimp only at hSw); go_simp <;> with_reducible rfl
  simp only [Act.put, qI, q0, q1]
  refine wpAnyH_take (i := 8) (oi := ⟨some 31, _, _, _, _, _⟩) (v := ?v9) rfl (by kernel_rfl) (by kernel_rfl) (by kernel_rfl) (fun _ _ _ h => h) (Or.inl ⟨by rfl, ?hy9⟩) (by assumption) ?rest9
  case hy9 => intro w hSw; (try dsimp only at hSw); go_simp <;> with_reducible rfl
  simp only [Act.put, qI, q0, q1]
  refine wpAnyH_take (i := 9) (oi := ⟨some 32, _, _, _, _, _⟩) (v := ?v10) rfl (by kernel_rfl) (by kernel_rfl) (by kernel_rfl) (fun _ _ _ h => h) (Or.inl ⟨by rfl, ?hy10⟩) (by assumption) ?rest10
  case hy10 => intro w hSw; (try dsimp only at hSw); go_simp <;> with_reducible rfl
  simp only [Act.put, qI, q0, q1]
  refine wpAnyH_take (i := 10) (oi := ⟨some 33, _, _, _, _, _⟩) (v := ?v11) rfl (by kernel_rfl) (by kernel_rfl) (by kernel_rfl) (fun _ _ _ h => h) (Or.inl ⟨by rfl, ?hy11⟩) (by assumption) ?rest11
  case hy11 => intro w hSw; (try dsimp only at hSw); go_simp <;> with_reducible rfl
  simp only [Act.put, qI, q0, q1]
  refine wpAnyH_take (i := 11) (oi := ⟨some 34, _, _, _, _, _⟩) (v := V) rfl (by kernel_rfl) (by kernel_rfl) (by kernel_rfl) (fun _ _ _ h => h) (yl_msg (by rfl) _ (by rfl) HV.out (fun _ h => h.1) (by rfl) (by rfl)) (by assumption) ?_
  simp only [Act.put, qI, q0, q1]
  refine wpAnyH_take (i := 13) (oi := ⟨some 36, _, _, _, _, _⟩) (v := V) rfl (by kernel_rfl) (by kernel_rfl) (by kernel_rfl) (fun _ _ _ h => h) (yl_msg (by rfl) _ (by rfl) HV.out (fun _ h => h.1) (by rfl) (by rfl)) (by assumption) ?_
  simp only [Act.put, qI, q0, q1]
  refine wpAnyH_ready (rs := [12]) (by kernel_rfl) (by simp) ?_
  refine AllReadyH.cons rfl (fun K hK => ?_) AllReadyH.nil
  go_simp
  go_wp2_with fail
  refine (HMA.out _ (HB.out _ HD.out)).mono ?_
  rintro en u1 ⟨rfl, hbu⟩
  have HU1 := hide_ (HD.out.trans (hbu.mono HD.out.size))
  clear hbu
  refine hK.out _ _ (HSS.out _ HU1.out) (fun hHeld => ?_)
  clear hK K
  refine wpAnyH_ready (rs := [14]) (by kernel_rfl) (by simp) ?_
  refine AllReadyH.cons rfl (fun K hK => ?_) AllReadyH.nil
  go_simp
  go_wp2_with fail
  refine (HMR.out _ (HB.out _ HU1.out)).mono ?_
  rintro en u2 ⟨rfl, hbu⟩
  have HU2 := hide_ (HU1.out.trans (hbu.mono HU1.out.size))
  clear hbu
  refine hK.out _ _ (HSS.out _ HU2.out) (fun hHeld => ?_)
  clear hK K
  refine wpAnyH_take (i := 15) (oi := ⟨some 38, _, _, _, _, _⟩) (v := ?v12) rfl (by kernel_rfl) (by kernel_rfl) (by kernel_rfl) (fun _ _ _ h => h) (Or.inl ⟨by rfl, ?hy12⟩) (by assumption) ?rest12
  case hy12 => intro w hSw; (try dsimp only at hSw); go_simp <;> with_reducible rfl
  simp only [Act.put, qI, q0, q1]
  refine wpAnyH_take (i := 16) (oi := ⟨some 39, _, _, _, _, _⟩) (v := ?v13) rfl (by kernel_rfl) (by kernel_rfl) (by kernel_rfl) (fun _ _ _ h => h) (Or.inl ⟨by rfl, ?hy13⟩) (by assumption) ?rest13
  case hy13 => intro w hSw; (try dsimp only at hSw); go_simp <;> with_reducible rfl
  simp only [Act.put, qI, q0, q1]
  refine wpAnyH_done (by kernel_rfl) ?_ _
  have HX4 := hide_ (HX3.out.below HU2.out)
  have HS4 := hide_ ((HS3.out.below HU2.out).more HU2.out.size)
  have HB4 := hide_ (HB.out _ HU2.out)
  clear hHeld HSS HB HD HU1 HU2 HX3 HS3 HT3 HB3 HMA HMR
  cases q with
  | false =>
    obtain ⟨rfl, rfl⟩ : rb = [] ∧ re = 3 := by have h := HN.out rfl; injection h with h1 h2; exact ⟨h1, h2⟩
    go_wp2_with fail
    refine (awake11_any _).mono ?_
    rintro en wz ⟨rfl, hbz⟩
    go_wp2
    go_ret
    exact ⟨rfl, HB4.out.trans (hbz.mono HB4.out.size)⟩
  | true =>
  obtain ⟨hrb, rfl⟩ : rb = markB bs ∧ re = 0 := by have h := HY.out rfl; injection h with h1 h2; exact ⟨h1, h2⟩
  have HG2 := hide_ (HGB.out rfl rb A1 n c1 u2 hrb.symm HNL.out HS4.out HC1.out)
  clear hrb HY HN HGB
  go_wp2_with fail
  refine HG2.out.mono ?_
  rintro en w5 ⟨x, rfl, hxp, hxg, hb5⟩
  have HB5 := hide_ (HB4.out.trans (hb5.mono HB4.out.size))
  have HX5 := hide_ (HX4.out.below hb5)
  have HXP := hide_ hxp
  have HXG := hide_ hxg
  clear hb5 hxp hxg HX4 HB4 HS4 HG2
  obtain ⟨V2, hV2⟩ : ∃ V, x.v = V := ⟨_, rfl⟩
  rw [hV2]
  have HV2 := hide_ (show V2 = .agg x.box from hV2.symm)
  clear hV2
  go_wp2_with (first | (refine st_msg (by rfl) _ _ (by rfl) (by rfl) (by rfl) HV2.out (by rfl) (by simp [MsgM.box, Value.oneCell']) (BoxAt.new w5 #[.int .u8 0, .int .u8 0, .int .u8 0, .int .u8 0, .int .u64 0, .int .u64 0, .int .u8 0, .int .u32 0, .bool false, .int .u64 0, .int .u8 0, .int .u32 0, .int .u8 0, .int .u64 0, .int .i64 0, .slice none 0 0, .slice none 0 0, .slice none 0 0, .int .u64 0, .slice none 0 0, .int .u64 0, .int .u8 0, .int .u32 0, .int .u64 0] 51) (by rfl) ?_; intro W5 HBW HGW HSW; have HX6 := hide_ (((Below.refl w5.heap.size w5).alloc (Nat.le_refl _) (.cells #[.int .u8 0, .int .u8 0, .int .u8 0, .int .u8 0, .int .u64 0, .int .u64 0, .int .u8 0, .int .u32 0, .bool false, .int .u64 0, .int .u8 0, .int .u32 0, .int .u8 0, .int .u64 0, .int .i64 0, .slice none 0 0, .slice none 0 0, .slice none 0 0, .int .u64 0, .slice none 0 0, .int .u64 0, .int .u8 0, .int .u32 0, .int .u64 0] 51)).grown HGW.out (by simp) fun j hj => by injection hj with hj; omega); have HB6 := hide_ (HB5.out.trans (HX6.out.mono HB5.out.size)); have HX7 := hide_ (HX5.out.below HX6.out)) | (refine ld_msg (by rfl) _ (by rfl) HBW.out (by rfl) (by rfl) ?_) | (refine ld_msg (by rfl) _ (by rfl) HX7.out (by rfl) (by rfl) ?_))
  refine (HSE.out x w5 W5 HB5.out HX6.out (msg_stable.below HXG.out HX6.out) HXP.out).mono ?_
  rintro en w6 ⟨rfl, hb6⟩
  have HB7 := hide_ (HB6.out.trans (hb6.mono HB6.out.size))
  clear hb6
  go_wp2_with fail
  refine (awake11_any _).mono ?_
  rintro en wz ⟨rfl, hbz⟩
  go_wp2
  go_ret
  exact ⟨rfl, HB7.out.trans (hbz.mono HB7.out.size)⟩
theorem own : ownKnob Tryz.prog.godebug = none := by kernel_rfl
theorem laid : laidOutB Tryz.prog = true := by kernel_rfl

set_option maxRecDepth 100000 in
theorem contract (H : Type) (enc : TypeId × Value → H) (W : World) (base : Nat) (args : Array Value) (ds gs : List (DataW H)) (before : List MemPlace)
    (hval : ∀ (j : Nat) t v, Tryz.f4.params[j]? = some t → args[j]? = some v → Value.okWide Tryz.prog W .any base t v)
    (hW : DataW.Whole enc Tryz.prog Tryz.f4.params.toList Rows.msgWritesSpec.vars false W args.toList ds gs before) :
    Calls Tryz.prog 4 args W fun e W' => ∃ v, e = .returned v ∧ Rows.msgWritesSpec.post enc Tryz.prog Tryz.f4 false true false false W args v W' := by
  have hW' := hW
  obtain ⟨p, q, hA0, hV, rfl, hfz, hnd⟩ := hW
  have hA : DataW.TrodAll enc Tryz.prog W 0 (fun _ => true) true Tryz.f4.params.toList args.toList ds p := hA0
  rw [Tryz.params4] at hA hval
  obtain ⟨v0, vs0, d0, ds0, p0, q0, hargs, rfl, rfl, h0, r0⟩ := trodAll_cons hA
  obtain ⟨rfl, rfl, rfl⟩ := trodAll_nil r0
  obtain rfl : args = #[v0] := by cases args; simp_all
  obtain ⟨rfl, rfl⟩ := trodVars_none hV
  obtain ⟨u0, rfl, bu0⟩ := open_msg (hval 0 51 v0 rfl rfl) h0
  have fin : ∀ (e : Ending) (W' : World), e = .returned (.bool true) ∧ Below W.heap.size W W' → ∃ v, e = .returned v ∧ Rows.msgWritesSpec.post enc Tryz.prog Tryz.f4 false true false false W #[MsgM.v u0] v W' :=
    fun e W' ⟨he, hb⟩ => ⟨_, he, law_post laid (by kernel_rfl) rfl rfl rfl Tryz.underlying4 hW' hb⟩
  exact (walk u0 W bu0).mono fin

set_option maxRecDepth 100000 in
theorem lifted (os : Os) (started : os.Started) (H : Type) (enc : TypeId × Value → H) :
    ReturnsInHanded {} Tryz.checked os 4 .any (Rows.msgWritesSpec.pre6 enc Tryz.prog Tryz.f4 Rows.msgWritesRow.domain false) (Rows.msgWritesSpec.post enc Tryz.prog Tryz.f4 false true false false) := by
  refine returnsInHanded_of_change (C := Tryz.checked) (s := Rows.msgWritesSpec) own started (by kernel_rfl) Tryz.func4
    (ChangeSpec.witness6 (enc := enc) (C := Tryz.checked) false ⟨#[], #[.agg #[.int .u8 0, .int .u8 0, .int .u8 0, .int .u8 0, .int .u64 0, .int .u64 0, .int .u8 0, .int .u32 0, .bool false, .int .u64 0, .int .u8 0, .int .u32 0, .int .u8 0, .int .u64 0, .int .i64 0, .slice none 0 0, .slice none 0 0, .slice none 0 0, .int .u64 0, .slice none 0 0, .int .u64 0, .int .u8 0, .int .u32 0, .int .u64 0]], []⟩ 8 (by kernel_rfl) (by kernel_rfl) (by kernel_rfl) (by kernel_rfl)) ?_
  intro W base args ds gs before hval hW _ _
  exact contract H enc W base args ds gs before hval hW

theorem proved : Rows.MsgWritesSaid :=
  OpenClaim.holds_of_wide 4 Tryz.f4 rfl rfl rfl rfl rfl rfl rfl ⟨rfl, rfl, rfl, rfl, rfl⟩ rfl rfl rfl rfl rfl (by kernel_rfl) Tryz.func4 (by kernel_rfl)
    (of_decide_eq_true (by kernel_rfl)) (by unfold Func.isWrapper; first | (rw [if_pos (by decide +kernel)]; kernel_rfl) | (rw [if_neg (by decide +kernel)]; exact ⟨rfl, rfl⟩))
    (fun os started H enc _ => lifted os started H enc)

end Go.Proofs.YtkgnondlcaklnaaGreat.msgWrites
