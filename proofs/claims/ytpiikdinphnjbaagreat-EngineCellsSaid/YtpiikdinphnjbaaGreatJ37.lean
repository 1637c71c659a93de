/-
  Texts of this claim put together: Cre7, Rep7, EngG.
-/
import Derived.Test.YtpiikdinphnjbaaGreatJ36
import Derived.Test.YtpiikdinphnjbaaGreatJ02
import Derived.Deep.RegionHeld
import Derived.Test.YtpiikdinphnjbaaGreatJ30
import Derived.Test.YtpiikdinphnjbaaGreatJ08
import Derived.Test.YtpiikdinphnjbaaGreatJ31
/-
  A register of one's own behind a pointer; contracts of engine's create.
-/
namespace Go.Proofs.YtpiikdinphnjbaaGreat
open Go.RowKit

/-- a register in rows of one's own from lo on, its fields in the block z below them -/
structure At7 (w : World) (lo z : Nat) (x : RegM) : Prop where
  box : BoxAt w z x.box 31
  fresh : Fresh w lo x
  low : z < lo
  size : lo ≤ w.heap.size
/-- below lo nothing but the block z has changed -/
def Kp (z lo : Nat) (w w' : World) : Prop := Below z w w' ∧ ∀ k, z < k → k < lo → w'.heap[k]? = w.heap[k]?
theorem Kp.refl (z lo : Nat) (w : World) : Kp z lo w w := ⟨Below.refl _ _, fun _ _ _ => rfl⟩
theorem Kp.trans {z lo : Nat} {w w1 w2 : World} (h1 : Kp z lo w w1) (h2 : Kp z lo w1 w2) : Kp z lo w w2 := ⟨h1.1.trans h2.1, fun k a b => (h2.2 k a b).trans (h1.2 k a b)⟩
theorem Kp.of {z lo : Nat} {w w' : World} (h : Below lo w w') (hz : z < lo) : Kp z lo w w' := ⟨h.mono (by omega), fun k _ b => h.block k b⟩
theorem Kp.box {z lo i : Nat} {w w' : World} {u : Value} (h : Kp z lo w w') : Kp z lo w (w'.setCell ⟨z, i, none⟩ u) :=
  ⟨h.1.setCell (p := ⟨z, i, none⟩) (Nat.le_refl _) u, fun k a b => (Below.heap_setCell w' ⟨z, i, none⟩ u k (by show k ≠ z; omega)).trans (h.2 k a b)⟩
theorem Kp.row {z lo g i : Nat} {w w' : World} {u : Value} (h : Kp z lo w w') (hz : z < lo) (hg : lo ≤ g) : Kp z lo w (w'.setCell ⟨g, i, none⟩ u) :=
  ⟨h.1.setCell (p := ⟨g, i, none⟩) (by show z ≤ g; omega) u, fun k a b => (Below.heap_setCell w' ⟨g, i, none⟩ u k (by show k ≠ g; omega)).trans (h.2 k a b)⟩

def createG (r : RegP) (nv : Nat) (cn : Int) : RegP × Int := if r.ki = 1 then (r, 12) else (⟨1, cn, 0, List.replicate nv 0, r.dn, [], 0, r.ma⟩, 0)
/-- what an operation at a pointer leaves -/
def Does (r : RegP × Int) (lo z : Nat) (w : World) (e : Ending) (w' : World) : Prop := ∃ x, e = .returned (.int .i64 r.2) ∧ x.p = r.1 ∧ At7 w' lo z x ∧ Kp z lo w w'

set_option maxRecDepth 100000 in
set_option maxHeartbeats 6400000 in
theorem create_any (x : RegM) (nv : Nat) (cn : Int) (lo z : Nat) (w : World) (h : At7 w lo z x) (hn : nv ≤ 8) (hc : U64 cn) :
    Calls Tryz.prog 39 #[.pointer (some ⟨z, 0, none⟩), .int .i64 nv, .int .u64 cn] w (Does (createG x.p nv cn) lo z w) := by
  have HX := hide_ h.box
  have HF := hide_ h.fresh
  have HLO := hide_ h.low
  have HSZ := hide_ h.size
  have HC := hide_ hc
  have hz : z < w.heap.size := h.box.lt
  clear h hc
  obtain ⟨ki, inc, st, ⟨vA, vc, vl⟩, ⟨dA, dc, dl⟩, ⟨oA, oc, ol⟩, la, ⟨mA, mc, ml⟩⟩ := x
  simp only [RegM.box] at HX
  obtain ⟨R, hR⟩ : ∃ R, createG (RegM.p ⟨ki, inc, st, ⟨vA, vc, vl⟩, ⟨dA, dc, dl⟩, ⟨oA, oc, ol⟩, la, ⟨mA, mc, ml⟩⟩) nv cn = R := ⟨_, rfl⟩
  rw [hR]
  have HR := hide_ hR
  clear hR
  by_cases k1 : ki = 1
  case pos =>
    subst k1
    have HP := hide_ (show R = (RegM.p ⟨1, inc, st, ⟨vA, vc, vl⟩, ⟨dA, dc, dl⟩, ⟨oA, oc, ol⟩, la, ⟨mA, mc, ml⟩⟩, 12) by rw [← HR.out]; rfl)
    have hcx := HX.out.cell
    go_enter Tryz.func39, Tryz.ntmps39
    go_wp2
    go_ret
    rw [HP.out]
    exact ⟨⟨1, inc, st, ⟨vA, vc, vl⟩, ⟨dA, dc, dl⟩, ⟨oA, oc, ol⟩, la, ⟨mA, mc, ml⟩⟩, rfl, rfl, ⟨HX.out, HF.out, HLO.out, HSZ.out⟩, Kp.refl _ _ _⟩
  have HP := hide_ (show R = (⟨1, cn, 0, List.replicate nv 0, dl.map DoneM.p, [], 0, ml⟩, 0) by rw [← HR.out]; unfold createG; rw [if_neg (show ¬ (RegM.p ⟨ki, inc, st, ⟨vA, vc, vl⟩, ⟨dA, dc, dl⟩, ⟨oA, oc, ol⟩, la, ⟨mA, mc, ml⟩⟩).ki = 1 from k1)]; rfl)
  have d1 : (ki == 1) = false := beq_eq_false_iff_ne.2 k1
  clear k1 HR
  have hcx := HX.out.cell
  go_enter Tryz.func39, Tryz.ntmps39
  go_upto_region 3 with fail
  obtain ⟨i0, hi, hz0, hz1, hz2⟩ := info_parts i64_info
  obtain ⟨w5, kmk, hown5, hg5⟩ := run_makeSlice_full (P := Tryz.prog) w.drew lo 26 2 i0 (.int .i64 0) 1 Tryz.underlying26 hi hz0 hz1 .i64 .i64 nv (by omega) (by rw [hz2]; omega) (by unfold maxLen; omega) HSZ.out
  have hbl : Below lo w w5 := ((Below.refl _ _).drew).trans (Below.of_grown hg5 HSZ.out (by simp))
  have hbw : Below w.heap.size w w5 := ((Below.refl _ _).drew).trans (Below.of_grown hg5 (Nat.le_refl _) (by simp))
  have HBL := hide_ hbl
  have HX5 := hide_ (HX.out.below hbw)
  have HF5 := hide_ (HF.out.below hbw)
  have HV5 := hide_ (show OwnVars w5 lo ⟨some ⟨w.heap.size, 0, none⟩, nv, List.replicate nv 0⟩ from ⟨by
    have h2 : iv (List.replicate nv 0) = (madeCells (Value.int .i64 0).cells (nv * 1)).toList := by
      rw [Nat.mul_one]
      exact (by simp [iv] : iv (List.replicate nv 0) = List.replicate nv (.int .i64 0)).trans (toList_madeCells_one (.int .i64 0) nv).symm
    simp only [List.length_replicate]
    rw [h2]
    exact hown5, fun y hy => by rw [List.eq_of_mem_replicate hy]; unfold I64; simp⟩)
  have HS5 := hide_ hbl.size
  have hz5 : z < w5.heap.size := HX5.out.lt
  have n1 : (0 : Int) ≤ (nv : Int) := by omega
  clear hown5 hg5 hbl hbw hi hz0 hz1 hz2 hcx
  have HDR := hide_ (show Below w.heap.size w w.drew from (Below.refl _ _).drew)

  have HFR := hide_ (⟨⟨by unfold U8; simp, HC.out, by unfold I64; simp, by unfold U64; simp⟩, HV5.out, HF5.out.dn, HF5.out.di, World.ownsRow_nil _ _ _ _, by simp, HF5.out.ma, HF5.out.mi⟩ : Fresh w5 lo ⟨1, cn, 0, ⟨some ⟨w.heap.size, 0, none⟩, nv, List.replicate nv 0⟩, ⟨dA, dc, dl⟩, ⟨none, 0, []⟩, 0, ⟨mA, mc, ml⟩⟩)
  have HAT := hide_ (show At7 ((((((((w5.setCell ⟨z, 0, none⟩ (.int .u8 1)).setCell ⟨z, 1, none⟩ (.int .u64 cn)).setCell ⟨z, 2, none⟩ (.int .i64 0)).setCell ⟨z, 3, none⟩ (.slice (some ⟨w.heap.size, 0, none⟩) nv nv)).setCell ⟨z, 4, none⟩ (.slice dA dl.length dc)).setCell ⟨z, 5, none⟩ (.slice none 0 0)).setCell ⟨z, 6, none⟩ (.int .u64 0)).setCell ⟨z, 7, none⟩ (.slice mA ml.length mc)) lo z ⟨1, cn, 0, ⟨some ⟨w.heap.size, 0, none⟩, nv, List.replicate nv 0⟩, ⟨dA, dc, dl⟩, ⟨none, 0, []⟩, 0, ⟨mA, mc, ml⟩⟩ from ⟨by simp only [RegM.box, List.length_replicate, List.length_nil]; exact (heap_set_all8 HX5.out), (Fresh.far (b := z) (i := 7) (u := .slice mA ml.length mc) (Fresh.far (b := z) (i := 6) (u := .int .u64 0) (Fresh.far (b := z) (i := 5) (u := .slice none 0 0) (Fresh.far (b := z) (i := 4) (u := .slice dA dl.length dc) (Fresh.far (b := z) (i := 3) (u := .slice (some ⟨w.heap.size, 0, none⟩) nv nv) (Fresh.far (b := z) (i := 2) (u := .int .i64 0) (Fresh.far (b := z) (i := 1) (u := .int .u64 cn) (Fresh.far (b := z) (i := 0) (u := .int .u8 1) HFR.out HLO.out) HLO.out) HLO.out) HLO.out) HLO.out) HLO.out) HLO.out) HLO.out), HLO.out, by have := HS5.out; have := HSZ.out; simp [World.setCell]; omega⟩)
  have HKP := hide_ (show Kp z lo w ((((((((w5.setCell ⟨z, 0, none⟩ (.int .u8 1)).setCell ⟨z, 1, none⟩ (.int .u64 cn)).setCell ⟨z, 2, none⟩ (.int .i64 0)).setCell ⟨z, 3, none⟩ (.slice (some ⟨w.heap.size, 0, none⟩) nv nv)).setCell ⟨z, 4, none⟩ (.slice dA dl.length dc)).setCell ⟨z, 5, none⟩ (.slice none 0 0)).setCell ⟨z, 6, none⟩ (.int .u64 0)).setCell ⟨z, 7, none⟩ (.slice mA ml.length mc)) from (Kp.box (Kp.box (Kp.box (Kp.box (Kp.box (Kp.box (Kp.box (Kp.box (Kp.of HBL.out HLO.out))))))))))
  refine wp_region_held_drew (S := fun w' => w'.cell? ⟨z, 4, none⟩ = some (.slice dA dl.length dc) ∧ w'.cell? ⟨z, 7, none⟩ = some (.slice mA ml.length mc)) (by kernel_rfl) (⟨(HX.out.below HDR.out).cell 4, (HX.out.below HDR.out).cell 7⟩) (fun hHeld => ?_)
  refine wpAnyH_take (i := 0) (oi := ⟨some 12, _, _, _, _, _⟩) (v := ?v1) rfl (by kernel_rfl) (by kernel_rfl) (by kernel_rfl) (fun _ _ _ h => h) (Or.inl ⟨by rfl, ?hy1⟩) (by assumption) ?rest1
  case hy1 => intro w hSw; (try dsimp only at hSw); go_simp <;> with_reducible rfl
  simp only [Act.put, List.setIfInBounds_toArray, List.set_cons_zero, List.set_cons_succ]
  refine wpAnyH_take (i := 1) (oi := ⟨some 13, _, _, _, _, _⟩) (v := ?v2) rfl (by kernel_rfl) (by kernel_rfl) (by kernel_rfl) (fun _ _ _ h => h) (Or.inl ⟨by rfl, ?hy2⟩) (by assumption) ?rest2
  case hy2 => intro w hSw; (try dsimp only at hSw); go_simp <;> with_reducible rfl
  simp only [Act.put, List.setIfInBounds_toArray, List.set_cons_zero, List.set_cons_succ]
  refine wpAnyH_take (i := 2) (oi := ⟨some 14, _, _, _, _, _⟩) (v := ?v3) rfl (by kernel_rfl) (by kernel_rfl) (by kernel_rfl) (fun _ _ _ h => h) (Or.inl ⟨by rfl, ?hy3⟩) (by assumption) ?rest3
  case hy3 => intro w hSw; (try dsimp only at hSw); go_simp <;> with_reducible rfl
  simp only [Act.put, List.setIfInBounds_toArray, List.set_cons_zero, List.set_cons_succ]
  refine wpAnyH_take (i := 4) (oi := ⟨some 16, _, _, _, _, _⟩) (v := ?v4) rfl (by kernel_rfl) (by kernel_rfl) (by kernel_rfl) (fun _ _ _ h => h) (Or.inl ⟨by rfl, ?hy4⟩) (by assumption) ?rest4
  case hy4 => intro w hSw; (try dsimp only at hSw); go_simp <;> with_reducible rfl
  simp only [Act.put, List.setIfInBounds_toArray, List.set_cons_zero, List.set_cons_succ]
  refine wpAnyH_take (i := 5) (oi := ⟨some 17, _, _, _, _, _⟩) (v := ?v5) rfl (by kernel_rfl) (by kernel_rfl) (by kernel_rfl) (fun _ _ _ h => h) (Or.inl ⟨by rfl, ?hy5⟩) (by assumption) ?rest5
  case hy5 => intro w hSw; (try dsimp only at hSw); go_simp <;> with_reducible rfl
  simp only [Act.put, List.setIfInBounds_toArray, List.set_cons_zero, List.set_cons_succ]
  refine wpAnyH_take (i := 6) (oi := ⟨some 18, _, _, _, _, _⟩) (v := ?v6) rfl (by kernel_rfl) (by kernel_rfl) (by kernel_rfl) (fun _ _ _ h => h) (Or.inl ⟨by rfl, ?hy6⟩) (by assumption) ?rest6
  case hy6 => intro w hSw; (try dsimp only at hSw); go_simp <;> with_reducible rfl
  simp only [Act.put, List.setIfInBounds_toArray, List.set_cons_zero, List.set_cons_succ]
  refine wpAnyH_take (i := 7) (oi := ⟨some 19, _, _, _, _, _⟩) (v := ?v7) rfl (by kernel_rfl) (by kernel_rfl) (by kernel_rfl) (fun _ _ _ h => h) (Or.inl ⟨by rfl, ?hy7⟩) (by assumption) ?rest7
  case hy7 => intro w hSw; (try dsimp only at hSw); go_simp <;> with_reducible rfl
  simp only [Act.put, List.setIfInBounds_toArray, List.set_cons_zero, List.set_cons_succ]
  refine wpAnyH_take (i := 8) (oi := ⟨some 20, _, _, _, _, _⟩) (v := ?v8) rfl (by kernel_rfl) (by kernel_rfl) (by kernel_rfl) (fun _ _ _ h => h) (Or.inl ⟨by rfl, ?hy8⟩) (by assumption) ?rest8
  case hy8 => intro w hSw; (try dsimp only at hSw); go_simp <;> with_reducible rfl
  simp only [Act.put, List.setIfInBounds_toArray, List.set_cons_zero, List.set_cons_succ]
  refine wpAnyH_take (i := 9) (oi := ⟨some 21, _, _, _, _, _⟩) (v := ?v9) rfl (by kernel_rfl) (by kernel_rfl) (by kernel_rfl) (fun _ _ _ h => h) (Or.inl ⟨by rfl, ?hy9⟩) (by assumption) ?rest9
  case hy9 => intro w hSw; (try dsimp only at hSw); go_simp <;> with_reducible rfl
  simp only [Act.put, List.setIfInBounds_toArray, List.set_cons_zero, List.set_cons_succ]
  refine wpAnyH_take (i := 10) (oi := ⟨some 22, _, _, _, _, _⟩) (v := ?v10) rfl (by kernel_rfl) (by kernel_rfl) (by kernel_rfl) (fun _ _ _ h => h) (Or.inl ⟨by rfl, ?hy10⟩) (by assumption) ?rest10
  case hy10 => intro w hSw; (try dsimp only at hSw); go_simp <;> with_reducible rfl
  simp only [Act.put, List.setIfInBounds_toArray, List.set_cons_zero, List.set_cons_succ]
  refine wpAnyH_take (i := 11) (oi := ⟨some 23, _, _, _, _, _⟩) (v := ?v11) rfl (by kernel_rfl) (by kernel_rfl) (by kernel_rfl) (fun _ _ _ h => h) (Or.inl ⟨by rfl, ?hy11⟩) (by assumption) ?rest11
  case hy11 => intro w hSw; (try dsimp only at hSw); go_simp <;> with_reducible rfl
  simp only [Act.put, List.setIfInBounds_toArray, List.set_cons_zero, List.set_cons_succ]
  refine wpAnyH_ready (rs := [3]) (by kernel_rfl) (by simp) ?_
  refine AllReadyH.cons rfl (fun K hK => ?_) AllReadyH.nil
  go_simp
  refine hK.out _ _ (⟨HX5.out.cell 4, HX5.out.cell 7⟩) (fun hHeld => ?_)
  clear hK K
  refine wpAnyH_take (i := 12) (oi := ⟨some 24, _, _, _, _, _⟩) (v := ?v12) rfl (by kernel_rfl) (by kernel_rfl) (by kernel_rfl) (fun _ _ _ h => h) (Or.inl ⟨by rfl, ?hy12⟩) (by assumption) ?rest12
  case hy12 => intro w hSw; (try dsimp only at hSw); go_simp <;> with_reducible rfl
  simp only [Act.put, List.setIfInBounds_toArray, List.set_cons_zero, List.set_cons_succ]
  refine wpAnyH_take (i := 13) (oi := ⟨some 25, _, _, _, _, _⟩) (v := ?v13) rfl (by kernel_rfl) (by kernel_rfl) (by kernel_rfl) (fun _ _ _ h => h) (Or.inl ⟨by rfl, ?hy13⟩) (by assumption) ?rest13
  case hy13 => intro w hSw; (try dsimp only at hSw); go_simp <;> with_reducible rfl
  simp only [Act.put, List.setIfInBounds_toArray, List.set_cons_zero, List.set_cons_succ]
  refine wpAnyH_ready (rs := [14]) (by kernel_rfl) (by simp) ?_
  refine AllReadyH.cons rfl (fun K hK => ?_) AllReadyH.nil
  go_simp
  have r0 := (HX5.out.cell 0).trans (show _ = some (.int .u8 ki : Value) from rfl)
  have g0 := HX5.out.frozen 0
  have r1 := (HX5.out.cell 1).trans (show _ = some (.int .u64 inc : Value) from rfl)
  have g1 := HX5.out.frozen 1
  have r2 := (HX5.out.cell 2).trans (show _ = some (.int .i64 st : Value) from rfl)
  have g2 := HX5.out.frozen 2
  have r3 := (HX5.out.cell 3).trans (show _ = some (.slice vA vl.length vc : Value) from rfl)
  have g3 := HX5.out.frozen 3
  have r4 := (HX5.out.cell 4).trans (show _ = some (.slice dA dl.length dc : Value) from rfl)
  have g4 := HX5.out.frozen 4
  have r5 := (HX5.out.cell 5).trans (show _ = some (.slice oA ol.length oc : Value) from rfl)
  have g5 := HX5.out.frozen 5
  have r6 := (HX5.out.cell 6).trans (show _ = some (.int .u64 la : Value) from rfl)
  have g6 := HX5.out.frozen 6
  have r7 := (HX5.out.cell 7).trans (show _ = some (.slice mA ml.length mc : Value) from rfl)
  have g7 := HX5.out.frozen 7
  go_simp
  clear r0 g0 r1 g1 r2 g2 r3 g3 r4 g4 r5 g5 r6 g6 r7 g7
  refine hK.out _ _ (⟨HAT.out.box.cell 4, HAT.out.box.cell 7⟩) (fun hHeld => ?_)
  clear hK K
  refine wpAnyH_done (by kernel_rfl) ?_ _
  go_wp2_with fail
  go_ret
  rw [HP.out]
  exact ⟨_, rfl, by simp only [RegM.p], HAT.out, HKP.out⟩
end Go.Proofs.YtpiikdinphnjbaaGreat

/-
  Contracts of engine's replyOf.
-/
namespace Go.Proofs.YtpiikdinphnjbaaGreat
open Go.RowKit

/-- the reply to an operation that came to this register and this error -/
def replyG (r : RegP) (e : Int) : RepP := if e = 0 then (if r.ki = 1 then (0, r.inc, r.st, r.va) else (0, 0, 0, [])) else (e, 0, 0, [])
/-- what replyOf leaves -/
def Replies (p : RepP) (w : World) (e : Ending) (w' : World) : Prop := ∃ y : RepM, e = .returned y.v ∧ y.p = p ∧ (I64 y.er ∧ U64 y.inc ∧ I64 y.st) ∧ OwnVars w' w.heap.size y.va ∧ Below w.heap.size w w'

set_option maxRecDepth 100000 in
set_option maxHeartbeats 6400000 in
theorem replyOf_any (x : RegM) (e : Int) (B : Nat) (w : World) (hx : RegM.ok w B x) (he : I64 e) (hB : B ≤ w.heap.size) (h1 : x.va.l.length ≤ 50) :
    Calls Tryz.prog 22 #[x.v, .int .i64 e] w (Replies (replyG x.p e) w) := by
  have HV := hide_ (fun (u : World) (hb : Below w.heap.size w u) => (ints_stable.below hx.2.1 (hb.mono hB)).sees)
  have HVI := hide_ hx.2.1.2.2.2
  have HNUM := hide_ hx.1
  have HE := hide_ he
  clear hx he
  obtain ⟨ki, inc, st, ⟨vA, vc, vl⟩, ⟨dA, dc, dl⟩, ⟨oA, oc, ol⟩, la, ⟨mA, mc, ml⟩⟩ := x
  obtain ⟨nv, hnv⟩ : ∃ n, vl.length = n := ⟨_, rfl⟩
  simp only [RegM.v, Sl.v, hnv] at HV HVI HNUM h1 ⊢
  have HNV := hide_ hnv
  obtain ⟨R, hR⟩ : ∃ R, replyG (RegM.p ⟨ki, inc, st, ⟨vA, vc, vl⟩, ⟨dA, dc, dl⟩, ⟨oA, oc, ol⟩, la, ⟨mA, mc, ml⟩⟩) e = R := ⟨_, rfl⟩
  have HR := hide_ (show R = if e = 0 then (if ki = 1 then (0, inc, st, vl) else (0, 0, 0, [])) else (e, 0, 0, []) by rw [← hR]; rfl)
  rw [hR]
  clear hR hnv
  obtain ⟨W0, hW0⟩ : ∃ W0, (w.alloc (.cells #[.int .u8 ki, .int .u64 inc, .int .i64 st, .slice vA nv vc, .slice dA dl.length dc, .slice oA ol.length oc, .int .u64 la, .slice mA ml.length mc] 31)).alloc (.cells #[.int .i64 0, .int .u64 0, .int .i64 0, .slice none 0 0] 38) = W0 := ⟨_, rfl⟩
  have HX := hide_ (show BoxAt W0 w.heap.size #[.int .u8 ki, .int .u64 inc, .int .i64 st, .slice vA nv vc, .slice dA dl.length dc, .slice oA ol.length oc, .int .u64 la, .slice mA ml.length mc] 31 from hW0 ▸ (BoxAt.new w #[.int .u8 ki, .int .u64 inc, .int .i64 st, .slice vA nv vc, .slice dA dl.length dc, .slice oA ol.length oc, .int .u64 la, .slice mA ml.length mc] 31).alloc _)
  have HZ := hide_ (show BoxAt W0 (w.heap.size + 1) #[.int .i64 0, .int .u64 0, .int .i64 0, .slice none 0 0] 38 from by
    have h := BoxAt.new (w.alloc (.cells #[.int .u8 ki, .int .u64 inc, .int .i64 st, .slice vA nv vc, .slice dA dl.length dc, .slice oA ol.length oc, .int .u64 la, .slice mA ml.length mc] 31)) #[.int .i64 0, .int .u64 0, .int .i64 0, .slice none 0 0] 38
    rw [hW0] at h
    simpa using h)
  have HB0 := hide_ (show Below w.heap.size w W0 from hW0 ▸ ((Below.refl _ _).alloc (Nat.le_refl _) _).alloc (by simp) _)
  have HW0 := hide_ hW0
  clear hW0
  by_cases q1 : e = 0
  case neg =>
    have HP := hide_ (show R = (e, 0, 0, []) by rw [HR.out, if_neg q1])
    have b1 : (e != 0) = true := bne_iff_ne.2 q1
    clear q1
    go_enter Tryz.func22, Tryz.ntmps22
    go_wp2
    refine bodyPost_ret (v := .agg #[.int .i64 e, .int .u64 0, .int .i64 0, .slice none 0 0]) (by simp [results, Tryz.results22, go_sem]) rfl ?_
    rw [HP.out]
    refine ⟨⟨e, 0, 0, ⟨none, 0, []⟩⟩, rfl, rfl, ⟨HE.out, by unfold U64; simp, by unfold I64; simp⟩, ⟨World.ownsRow_nil _ _ _ _, by simp⟩, ?_⟩
    first | exact HB0.out | (iterate 4 refine Below.setCell ?_ (by simp) _) <;> exact ((Below.refl _ _).alloc (Nat.le_refl _) _).alloc (by simp) _ | exact ((Below.refl _ _).alloc (Nat.le_refl _) _).alloc (by simp) _
  subst q1
  by_cases q2 : ki = 1
  case neg =>
    have HP := hide_ (show R = (0, 0, 0, []) by rw [HR.out, if_pos rfl, if_neg q2])
    have b2 : (ki != 1) = true := bne_iff_ne.2 q2
    clear q2
    go_enter Tryz.func22, Tryz.ntmps22
    go_wp2
    refine bodyPost_ret (v := .agg #[.int .i64 0, .int .u64 0, .int .i64 0, .slice none 0 0]) (by simp [results, Tryz.results22, go_sem]) rfl ?_
    rw [HP.out]
    refine ⟨⟨0, 0, 0, ⟨none, 0, []⟩⟩, rfl, rfl, ⟨by unfold I64; simp, by unfold U64; simp, by unfold I64; simp⟩, ⟨World.ownsRow_nil _ _ _ _, by simp⟩, ?_⟩
    first | exact HB0.out | (iterate 4 refine Below.setCell ?_ (by simp) _) <;> exact ((Below.refl _ _).alloc (Nat.le_refl _) _).alloc (by simp) _ | exact ((Below.refl _ _).alloc (Nat.le_refl _) _).alloc (by simp) _
  subst q2
  have HP := hide_ (show R = (0, inc, st, vl) by rw [HR.out, if_pos rfl, if_pos rfl])
  go_enter Tryz.func22, Tryz.ntmps22
  go_upto_region 3 with fail
  rw [HW0.out]
  have HN := hide_ (show Below W0.heap.size W0 W0.drew from (Below.refl _ _).drew)
  have HSS := hide_ (fun (w' : World) (h : Below W0.heap.size W0 w') => show (∀ i : Nat, w'.cell? ⟨w.heap.size, i, none⟩ = (#[.int .u8 1, .int .u64 inc, .int .i64 st, .slice vA nv vc, .slice dA dl.length dc, .slice oA ol.length oc, .int .u64 la, .slice mA ml.length mc] : Array Value)[i]?) from (HX.out.below h).cell)
  refine wp_region_held_drew (S := fun w' => (∀ i : Nat, w'.cell? ⟨w.heap.size, i, none⟩ = (#[.int .u8 1, .int .u64 inc, .int .i64 st, .slice vA nv vc, .slice dA dl.length dc, .slice oA ol.length oc, .int .u64 la, .slice mA ml.length mc] : Array Value)[i]?)) (by kernel_rfl) (HSS.out _ HN.out) (fun hHeld => ?_)
  refine wpAnyH_take (i := 0) (oi := ⟨some 14, _, _, _, _, _⟩) (v := ?v1) rfl (by kernel_rfl) (by kernel_rfl) (by kernel_rfl) (fun _ _ _ h => h) (Or.inl ⟨by rfl, ?hy1⟩) (by assumption) ?rest1
  case hy1 => intro w hSw; (try dsimp only at hSw); go_simp <;> with_reducible rfl
  simp only [Act.put, List.setIfInBounds_toArray, List.set_cons_zero, List.set_cons_succ]
  refine wpAnyH_take (i := 1) (oi := ⟨some 15, _, _, _, _, _⟩) (v := ?v2) rfl (by kernel_rfl) (by kernel_rfl) (by kernel_rfl) (fun _ _ _ h => h) (Or.inl ⟨by rfl, ?hy2⟩) (by assumption) ?rest2
  case hy2 => intro w hSw; (try dsimp only at hSw); go_simp <;> with_reducible rfl
  simp only [Act.put, List.setIfInBounds_toArray, List.set_cons_zero, List.set_cons_succ]
  refine wpAnyH_take (i := 2) (oi := ⟨some 16, _, _, _, _, _⟩) (v := ?v3) rfl (by kernel_rfl) (by kernel_rfl) (by kernel_rfl) (fun _ _ _ h => h) (Or.inl ⟨by rfl, ?hy3⟩) (by assumption) ?rest3
  case hy3 => intro w hSw; (try dsimp only at hSw); go_simp <;> with_reducible rfl
  simp only [Act.put, List.setIfInBounds_toArray, List.set_cons_zero, List.set_cons_succ]
  refine wpAnyH_take (i := 3) (oi := ⟨some 17, _, _, _, _, _⟩) (v := ?v4) rfl (by kernel_rfl) (by kernel_rfl) (by kernel_rfl) (fun _ _ _ h => h) (Or.inl ⟨by rfl, ?hy4⟩) (by assumption) ?rest4
  case hy4 => intro w hSw; (try dsimp only at hSw); go_simp <;> with_reducible rfl
  simp only [Act.put, List.setIfInBounds_toArray, List.set_cons_zero, List.set_cons_succ]
  refine wpAnyH_take (i := 4) (oi := ⟨some 18, _, _, _, _, _⟩) (v := ?v5) rfl (by kernel_rfl) (by kernel_rfl) (by kernel_rfl) (fun _ _ _ h => h) (Or.inl ⟨by rfl, ?hy5⟩) (by assumption) ?rest5
  case hy5 => intro w hSw; (try dsimp only at hSw); go_simp <;> with_reducible rfl
  simp only [Act.put, List.setIfInBounds_toArray, List.set_cons_zero, List.set_cons_succ]
  refine wpAnyH_take (i := 5) (oi := ⟨some 19, _, _, _, _, _⟩) (v := ?v6) rfl (by kernel_rfl) (by kernel_rfl) (by kernel_rfl) (fun _ _ _ h => h) (Or.inl ⟨by rfl, ?hy6⟩) (by assumption) ?rest6
  case hy6 => intro w hSw; (try dsimp only at hSw); go_simp <;> with_reducible rfl
  simp only [Act.put, List.setIfInBounds_toArray, List.set_cons_zero, List.set_cons_succ]
  refine wpAnyH_ready (rs := [6]) (by kernel_rfl) (by simp) ?_
  refine AllReadyH.cons rfl (fun K hK => ?_) AllReadyH.nil
  go_simp
  go_wp2_with fail
  refine (clone_any vl vA nv vc B _ HNV.out (by omega) (HV.out _ (HB0.out.trans (HN.out.mono HB0.out.size))) (Nat.le_trans hB (HB0.out.trans (HN.out.mono HB0.out.size)).size)).mono ?_
  rintro en w5 ⟨A5, c5, rfl, ho5, hb5⟩
  have HB5 := hide_ (HN.out.trans (hb5.mono HN.out.size))
  have HO5 := hide_ ho5
  have HZ5 := hide_ (HZ.out.below HB5.out)
  have r0 := (HZ5.out.cell 0).trans (show _ = some (.int .i64 0 : Value) from rfl)
  have g0 := HZ5.out.frozen 0
  have r1 := (HZ5.out.cell 1).trans (show _ = some (.int .u64 0 : Value) from rfl)
  have g1 := HZ5.out.frozen 1
  have r2 := (HZ5.out.cell 2).trans (show _ = some (.int .i64 0 : Value) from rfl)
  have g2 := HZ5.out.frozen 2
  have r3 := (HZ5.out.cell 3).trans (show _ = some (.slice none 0 0 : Value) from rfl)
  have g3 := HZ5.out.frozen 3
  clear ho5 hb5
  refine hK.out _ _ (HSS.out _ HB5.out) (fun hHeld => ?_)
  clear hK K
  refine wpAnyH_take (i := 7) (oi := ⟨some 21, _, _, _, _, _⟩) (v := ?v7) rfl (by kernel_rfl) (by kernel_rfl) (by kernel_rfl) (fun _ _ _ h => h) (Or.inl ⟨by rfl, ?hy7⟩) (by assumption) ?rest7
  case hy7 => intro w hSw; (try dsimp only at hSw); go_simp <;> with_reducible rfl
  simp only [Act.put, List.setIfInBounds_toArray, List.set_cons_zero, List.set_cons_succ]
  refine wpAnyH_ready (rs := [8]) (by kernel_rfl) (by simp) ?_
  refine AllReadyH.cons rfl (fun K hK => ?_) AllReadyH.nil
  go_simp
  have HFIN := hide_ (show Below w.heap.size w ((((w5.setCell ⟨w.heap.size + 1, 0, none⟩ (.int .i64 0)).setCell ⟨w.heap.size + 1, 1, none⟩ (.int .u64 inc)).setCell ⟨w.heap.size + 1, 2, none⟩ (.int .i64 st)).setCell ⟨w.heap.size + 1, 3, none⟩ (.slice A5 nv c5)) from ((((((HB0.out.trans (HB5.out.mono HB0.out.size)).setCell (p := ⟨w.heap.size + 1, 0, none⟩) (Nat.le_succ _) _)).setCell (p := ⟨w.heap.size + 1, 1, none⟩) (Nat.le_succ _) _)).setCell (p := ⟨w.heap.size + 1, 2, none⟩) (Nat.le_succ _) _).setCell (p := ⟨w.heap.size + 1, 3, none⟩) (Nat.le_succ _) _)
  refine hK.out _ _ (fun i => by simpa [go_sem] using (HX.out.below HB5.out).cell i) (fun hHeld => ?_)
  clear hK K
  refine wpAnyH_done (by kernel_rfl) ?_ _
  go_wp2_with fail
  refine bodyPost_ret (v := .agg #[.int .i64 0, .int .u64 inc, .int .i64 st, .slice A5 nv c5]) (by simp [results, Tryz.results22, go_sem, r0, r1, r2, r3]) rfl ?_
  rw [HP.out]
  refine ⟨⟨0, inc, st, ⟨A5, c5, vl⟩⟩, by simp only [RepM.v, Sl.v, HNV.out], rfl, ⟨by unfold I64; simp, HNUM.out.2.1, HNUM.out.2.2.1⟩, ?_, ?_⟩
  · have h := own_mono (base' := w.heap.size + 2) HO5.out (by have := HN.out.size; rw [← HW0.out] at this ⊢; simp)
    have h4 : OwnVars w5 (w.heap.size + 2) ⟨A5, c5, vl⟩ := ⟨by simp only [HNV.out]; exact h, HVI.out⟩
    exact OwnVars.less ((((h4.far (by omega)).far (by omega)).far (by omega)).far (by omega)) (by omega)
  · exact HFIN.out
end Go.Proofs.YtpiikdinphnjbaaGreat

/-
  What an operation does to a register, as plain functions.
-/
namespace Go.Proofs.YtpiikdinphnjbaaGreat
open Go.RowKit

/-- a part put into a list whose keys rise: over the one of its key, if there is one -/
def putL {α : Type} (key : α → Int) (l : List α) (d : α) : List α := l.filter (fun x => decide (key x < key d)) ++ d :: l.filter (fun x => decide (key d < key x))
def againX (o : OpM) (d : DoneP) : Bool := decide (d.1 = o.cl) && decide (o.sq ≤ d.2.1)
def againK (o : OpM) (l : List DoneP) (k : Nat) : Bool := match l[k]? with | some d => againX o d | none => false
/-- the reply to an operation that was done already -/
def againG (l : List DoneP) (o : OpM) : Option RepP := match idxO (againK o l) l.length with
  | none => none
  | some k => match l[k]? with
    | none => none
    | some d => some (if o.sq < d.2.1 then (15, 0, 0, []) else d.2.2)
/-- cells with their numbers -/
def numG (la : Int) : List (Int × Int × Int) → List CelM
  | [] => []
  | c :: l => (la + 1, c.1, c.2.1, c.2.2) :: numG (la + 1) l
def roomB (r : RegP) (n : Nat) : Bool := decide (r.ou.length + n ≤ 8) && decide (r.la ≤ 9223372036854775808 - (n : Int))
def fireG (ts tv : Int) (tl : List RuM) (r : RegP) (ac pa ar : Int) : RegP × Int :=
  if r.ki = 1 then
    (match fireR ts tv tl r.st ac pa r.va ar with
    | (st, va, cells, e) => if e = 0 then (if roomB r cells.length = true then (⟨r.ki, r.inc, st, va, r.dn, r.ou ++ numG r.la cells, r.la + cells.length, r.ma⟩, 0) else (r, 20)) else (r, e))
  else (r, 11)
def readG (r : RegP) : RegP × Int := if r.ki = 1 then (r, 0) else (r, 11)
def removeG (r : RegP) : RegP × Int := if r.ki = 1 then (if r.ou.length = 0 then (⟨2, r.inc, 0, [], r.dn, [], 0, r.ma⟩, 0) else (r, 16)) else (r, 11)
def consumeG (ts tv : Int) (tl : List RuM) (r : RegP) (o : OpM) : RegP × Int :=
  if setdB o.so o.inc o.ce r.ma = true then (r, 14) else if r.ki = 1 then
    (match fireG ts tv tl r o.ac 0 o.ar with | (x, e) => (⟨x.ki, x.inc, x.st, x.va, x.dn, x.ou, x.la, putL (·.1) x.ma (o.so, o.inc, o.ce)⟩, e))
  else (r, 11)
def clearG (r : RegP) (inc ce : Int) : RegP × Int := (if r.inc = inc then ⟨r.ki, r.inc, r.st, r.va, r.dn, r.ou.filter (fun c => !(decide (c.1 = ce))), r.la, r.ma⟩ else r, 0)
def doG (ts tv : Int) (tl : List RuM) (r : RegP) (o : OpM) (cn : Int) : RegP × Int :=
  if o.ki = 1 then createG r tv.toNat cn else if o.ki = 2 then fireG ts tv tl r o.ac o.pa o.ar else if o.ki = 3 then readG r else if o.ki = 4 then removeG r
  else if o.ki = 5 then consumeG ts tv tl r o else if o.ki = 6 then clearG r o.inc o.ce else (r, 0)
def noteG (r : RegP) (o : OpM) (p : RepP) : RegP := if o.cl = 0 then r else if r.ki = 0 then r else ⟨r.ki, r.inc, r.st, r.va, putL (·.1) r.dn (o.cl, o.sq, p), r.ou, r.la, r.ma⟩
def pickG (a : Option RepP) (r : RegP) (s : RegP × RepP) : RegP × RepP := match a with
  | some p => (r, p)
  | none => s
def applyG (ts tv : Int) (tl : List RuM) (r : RegP) (o : OpM) (cn : Int) : RegP × RepP :=
  pickG (againG r.dn o) r (noteG (doG ts tv tl r o cn).1 o (replyG (doG ts tv tl r o cn).1 (doG ts tv tl r o cn).2), replyG (doG ts tv tl r o cn).1 (doG ts tv tl r o cn).2)

/-- what again leaves -/
def Agains (a : Option RepP) (w : World) (e : Ending) (w' : World) : Prop := ∃ y : RepM, e = .returned (.tuple #[y.v, .bool a.isSome]) ∧ y.p = a.getD (0, 0, 0, []) ∧ (I64 y.er ∧ U64 y.inc ∧ I64 y.st) ∧ OwnVars w' w.heap.size y.va ∧ Below w.heap.size w w'
/-- what note leaves -/
def Notes (r : RegP) (lo z : Nat) (w : World) (e : Ending) (w' : World) : Prop := ∃ x, e = .returned (.tuple #[]) ∧ x.p = r ∧ At7 w' lo z x ∧ Kp z lo w w'
/-- what Apply leaves -/
def Applies (p : RegP × RepP) (er : Int) (w : World) (e : Ending) (w' : World) : Prop := ∃ (x : RegM) (y : RepM), e = .returned (.tuple #[x.v, y.v, .int .i64 er]) ∧ x.p = p.1 ∧ y.p = p.2 ∧ Fresh w' w.heap.size x ∧ (I64 y.er ∧ U64 y.inc ∧ I64 y.st) ∧ OwnVars w' w.heap.size y.va ∧ Below w.heap.size w w'

theorem At7.below {w w' : World} {lo z : Nat} {x : RegM} (h : At7 w lo z x) (hb : Below w.heap.size w w') : At7 w' lo z x := ⟨h.box.below hb, h.fresh.below hb, h.low, Nat.le_trans h.size hb.size⟩
theorem Kp.keep {z lo k : Nat} {w w' : World} {cs : Array Value} {t : TypeId} (h : Kp z lo w w') (hb : BoxAt w k cs t) (h1 : k ≠ z) (h2 : k < lo) : BoxAt w' k cs t := by
  rcases Nat.lt_or_ge k z with hk | hk
  · exact (h.1.block k hk).trans hb
  · exact (h.2 k (by omega) h2).trans hb
theorem Fresh.less {w : World} {lo lo' : Nat} {x : RegM} (h : Fresh w lo x) (hb : lo' ≤ lo) : Fresh w lo' x :=
  ⟨h.num, h.va.less hb, own_mono h.dn hb, fun d hd => ⟨(h.di d hd).1, (h.di d hd).2.less hb⟩, own_mono h.ou hb, h.oi, own_mono h.ma hb, h.mi⟩

/-- Apply's boxes: the contract, the operation, both results -/
structure Bxs (w : World) (h : Nat) (TB OB : Array Value) : Prop where
  t : BoxAt w h TB 24
  o : BoxAt w (h + 1 + 1) OB 33
  g : BoxAt w (h + 1 + 1 + 1) #[.int .u8 0, .int .u64 0, .int .i64 0, .slice none 0 0, .slice none 0 0, .slice none 0 0, .int .u64 0, .slice none 0 0] 31
  p : BoxAt w (h + 1 + 1 + 1 + 1) #[.int .i64 0, .int .u64 0, .int .i64 0, .slice none 0 0] 38
section
variable {w w' : World} {h : Nat} {TB OB : Array Value}
theorem Bxs.below (b : Bxs w h TB OB) (hb : Below w.heap.size w w') : Bxs w' h TB OB := ⟨b.t.below hb, b.o.below hb, b.g.below hb, b.p.below hb⟩
theorem Bxs.alloc (b : Bxs w h TB OB) (o : Obj) : Bxs (w.alloc o) h TB OB := ⟨b.t.alloc o, b.o.alloc o, b.g.alloc o, b.p.alloc o⟩
theorem Bxs.set (b : Bxs w h TB OB) {k i : Nat} {u : Value} (h0 : h ≠ k) (h2 : h + 1 + 1 ≠ k) (h3 : h + 1 + 1 + 1 ≠ k) (h4 : h + 1 + 1 + 1 + 1 ≠ k) : Bxs (w.setCell ⟨k, i, none⟩ u) h TB OB := ⟨b.t.apart h0, b.o.apart h2, b.g.apart h3, b.p.apart h4⟩
theorem Bxs.keep (b : Bxs w h TB OB) {lo : Nat} (hk : Kp (h + 1) lo w w') (hl : h + 5 ≤ lo) : Bxs w' h TB OB := ⟨hk.keep b.t (by omega) (by omega), hk.keep b.o (by omega) (by omega), hk.keep b.g (by omega) (by omega), hk.keep b.p (by omega) (by omega)⟩
end
end Go.Proofs.YtpiikdinphnjbaaGreat
