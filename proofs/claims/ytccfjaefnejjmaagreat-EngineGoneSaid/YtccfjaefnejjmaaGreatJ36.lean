/-
  Texts of this claim put together: Cre7.
-/
import Derived.Test.YtccfjaefnejjmaaGreatJ35
import Derived.Test.YtccfjaefnejjmaaGreatJ01
import Derived.Deep.RegionHeld
/-
  A register of one's own behind a pointer; contracts of engine's create.
-/
namespace Go.Proofs.YtccfjaefnejjmaaGreat
open Go.RowKit

/-- a register in rows of one's own from lo on, its fields in the block z below them -/
structure At7 (w : World) (lo z : Nat) (x : RegM) : Prop where
  box : BoxAt w z x.box 31
  fresh : Fresh w lo x
  low : z < lo
  size : lo ≤ w.heap.size
/-- below lo nothing but the block z has changed -/
def Kp (z lo : Nat) (w w' : World) : Prop := Below z w w' ∧ ∀ k, z < k → k < lo → w'.heap[k]? = w.heap[k]?
theorem Kp.refl (z lo : Nat) (w : World) : Kp z lo w w := ⟨Below.refl _ _, fun _ _ _ => rfl⟩
theorem Kp.trans {z lo : Nat} {w w1 w2 : World} (h1 : Kp z lo w w1) (h2 : Kp z lo w1 w2) : Kp z lo w w2 := ⟨h1.1.trans h2.1, fun k a b => (h2.2 k a b).trans (h1.2 k a b)⟩
theorem Kp.of {z lo : Nat} {w w' : World} (h : Below lo w w') (hz : z < lo) : Kp z lo w w' := ⟨h.mono (by omega), fun k _ b => h.block k b⟩
theorem Kp.box {z lo i : Nat} {w w' : World} {u : Value} (h : Kp z lo w w') : Kp z lo w (w'.setCell ⟨z, i, none⟩ u) :=
  ⟨h.1.setCell (p := ⟨z, i, none⟩) (Nat.le_refl _) u, fun k a b => (Below.heap_setCell w' ⟨z, i, none⟩ u k (by show k ≠ z; omega)).trans (h.2 k a b)⟩
theorem Kp.row {z lo g i : Nat} {w w' : World} {u : Value} (h : Kp z lo w w') (hz : z < lo) (hg : lo ≤ g) : Kp z lo w (w'.setCell ⟨g, i, none⟩ u) :=
  ⟨h.1.setCell (p := ⟨g, i, none⟩) (by show z ≤ g; omega) u, fun k a b => (Below.heap_setCell w' ⟨g, i, none⟩ u k (by show k ≠ g; omega)).trans (h.2 k a b)⟩

def createG (r : RegP) (nv : Nat) (cn : Int) : RegP × Int := if r.ki = 1 then (r, 12) else (⟨1, cn, 0, List.replicate nv 0, r.dn, [], 0, r.ma⟩, 0)
/-- what an operation at a pointer leaves -/
def Does (r : RegP × Int) (lo z : Nat) (w : World) (e : Ending) (w' : World) : Prop := ∃ x, e = .returned (.int .i64 r.2) ∧ x.p = r.1 ∧ At7 w' lo z x ∧ Kp z lo w w'

set_option maxRecDepth 100000 in
set_option maxHeartbeats 6400000 in
theorem create_any (x : RegM) (nv : Nat) (cn : Int) (lo z : Nat) (w : World) (h : At7 w lo z x) (hn : nv ≤ 8) (hc : U64 cn) :
    Calls Tryz.prog 49 #[.pointer (some ⟨z, 0, none⟩), .int .i64 nv, .int .u64 cn] w (Does (createG x.p nv cn) lo z w) := by
  have HX := hide_ h.box
  have HF := hide_ h.fresh
  have HLO := hide_ h.low
  have HSZ := hide_ h.size
  have HC := hide_ hc
  have hz : z < w.heap.size := h.box.lt
  clear h hc
  obtain ⟨ki, inc, st, ⟨vA, vc, vl⟩, ⟨dA, dc, dl⟩, ⟨oA, oc, ol⟩, la, ⟨mA, mc, ml⟩⟩ := x
  simp only [RegM.box] at HX
  obtain ⟨R, hR⟩ : ∃ R, createG (RegM.p ⟨ki, inc, st, ⟨vA, vc, vl⟩, ⟨dA, dc, dl⟩, ⟨oA, oc, ol⟩, la, ⟨mA, mc, ml⟩⟩) nv cn = R := ⟨_, rfl⟩
  rw [hR]
  have HR := hide_ hR
  clear hR
  by_cases k1 : ki = 1
  case pos =>
    subst k1
    have HP := hide_ (show R = (RegM.p ⟨1, inc, st, ⟨vA, vc, vl⟩, ⟨dA, dc, dl⟩, ⟨oA, oc, ol⟩, la, ⟨mA, mc, ml⟩⟩, 12) by rw [← HR.out]; rfl)
    have hcx := HX.out.cell
    go_enter Tryz.func49, Tryz.ntmps49
    go_wp2
    go_ret
    rw [HP.out]
    exact ⟨⟨1, inc, st, ⟨vA, vc, vl⟩, ⟨dA, dc, dl⟩, ⟨oA, oc, ol⟩, la, ⟨mA, mc, ml⟩⟩, rfl, rfl, ⟨HX.out, HF.out, HLO.out, HSZ.out⟩, Kp.refl _ _ _⟩
  have HP := hide_ (show R = (⟨1, cn, 0, List.replicate nv 0, dl.map DoneM.p, [], 0, ml⟩, 0) by rw [← HR.out]; unfold createG; rw [if_neg (show ¬ (RegM.p ⟨ki, inc, st, ⟨vA, vc, vl⟩, ⟨dA, dc, dl⟩, ⟨oA, oc, ol⟩, la, ⟨mA, mc, ml⟩⟩).ki = 1 from k1)]; rfl)
  have d1 : (ki == 1) = false := beq_eq_false_iff_ne.2 k1
  clear k1 HR
  have hcx := HX.out.cell
  go_enter Tryz.func49, Tryz.ntmps49
  go_upto_region 3 with fail
  obtain ⟨i0, hi, hz0, hz1, hz2⟩ := info_parts i64_info
  obtain ⟨w5, kmk, hown5, hg5⟩ := run_makeSlice_full (P := Tryz.prog) w.drew lo 26 2 i0 (.int .i64 0) 1 Tryz.underlying26 hi hz0 hz1 .i64 .i64 nv (by omega) (by rw [hz2]; omega) (by unfold maxLen; omega) HSZ.out
  have hbl : Below lo w w5 := ((Below.refl _ _).drew).trans (Below.of_grown hg5 HSZ.out (by simp))
  have hbw : Below w.heap.size w w5 := ((Below.refl _ _).drew).trans (Below.of_grown hg5 (Nat.le_refl _) (by simp))
  have HBL := hide_ hbl
  have HX5 := hide_ (HX.out.below hbw)
  have HF5 := hide_ (HF.out.below hbw)
  have HV5 := hide_ (show OwnVars w5 lo ⟨some ⟨w.heap.size, 0, none⟩, nv, List.replicate nv 0⟩ from ⟨by
    have h2 : iv (List.replicate nv 0) = (madeCells (Value.int .i64 0).cells (nv * 1)).toList := by
      rw [Nat.mul_one]
      exact (by simp [iv] : iv (List.replicate nv 0) = List.replicate nv (.int .i64 0)).trans (toList_madeCells_one (.int .i64 0) nv).symm
    simp only [List.length_replicate]
    rw [h2]
    exact hown5, fun y hy => by rw [List.eq_of_mem_replicate hy]; unfold I64; simp⟩)
  have HS5 := hide_ hbl.size
  have hz5 : z < w5.heap.size := HX5.out.lt
  have n1 : (0 : Int) ≤ (nv : Int) := by omega
  clear hown5 hg5 hbl hbw hi hz0 hz1 hz2 hcx
  have HDR := hide_ (show Below w.heap.size w w.drew from (Below.refl _ _).drew)

  have HFR := hide_ (⟨⟨by unfold U8; simp, HC.out, by unfold I64; simp, by unfold U64; simp⟩, HV5.out, HF5.out.dn, HF5.out.di, World.ownsRow_nil _ _ _ _, by simp, HF5.out.ma, HF5.out.mi⟩ : Fresh w5 lo ⟨1, cn, 0, ⟨some ⟨w.heap.size, 0, none⟩, nv, List.replicate nv 0⟩, ⟨dA, dc, dl⟩, ⟨none, 0, []⟩, 0, ⟨mA, mc, ml⟩⟩)
  have HAT := hide_ (show At7 ((((((((w5.setCell ⟨z, 0, none⟩ (.int .u8 1)).setCell ⟨z, 1, none⟩ (.int .u64 cn)).setCell ⟨z, 2, none⟩ (.int .i64 0)).setCell ⟨z, 3, none⟩ (.slice (some ⟨w.heap.size, 0, none⟩) nv nv)).setCell ⟨z, 4, none⟩ (.slice dA dl.length dc)).setCell ⟨z, 5, none⟩ (.slice none 0 0)).setCell ⟨z, 6, none⟩ (.int .u64 0)).setCell ⟨z, 7, none⟩ (.slice mA ml.length mc)) lo z ⟨1, cn, 0, ⟨some ⟨w.heap.size, 0, none⟩, nv, List.replicate nv 0⟩, ⟨dA, dc, dl⟩, ⟨none, 0, []⟩, 0, ⟨mA, mc, ml⟩⟩ from ⟨by simp only [RegM.box, List.length_replicate, List.length_nil]; exact (heap_set_all8 HX5.out), (Fresh.far (b := z) (i := 7) (u := .slice mA ml.length mc) (Fresh.far (b := z) (i := 6) (u := .int .u64 0) (Fresh.far (b := z) (i := 5) (u := .slice none 0 0) (Fresh.far (b := z) (i := 4) (u := .slice dA dl.length dc) (Fresh.far (b := z) (i := 3) (u := .slice (some ⟨w.heap.size, 0, none⟩) nv nv) (Fresh.far (b := z) (i := 2) (u := .int .i64 0) (Fresh.far (b := z) (i := 1) (u := .int .u64 cn) (Fresh.far (b := z) (i := 0) (u := .int .u8 1) HFR.out HLO.out) HLO.out) HLO.out) HLO.out) HLO.out) HLO.out) HLO.out) HLO.out), HLO.out, by have := HS5.out; have := HSZ.out; simp [World.setCell]; omega⟩)
  have HKP := hide_ (show Kp z lo w ((((((((w5.setCell ⟨z, 0, none⟩ (.int .u8 1)).setCell ⟨z, 1, none⟩ (.int .u64 cn)).setCell ⟨z, 2, none⟩ (.int .i64 0)).setCell ⟨z, 3, none⟩ (.slice (some ⟨w.heap.size, 0, none⟩) nv nv)).setCell ⟨z, 4, none⟩ (.slice dA dl.length dc)).setCell ⟨z, 5, none⟩ (.slice none 0 0)).setCell ⟨z, 6, none⟩ (.int .u64 0)).setCell ⟨z, 7, none⟩ (.slice mA ml.length mc)) from (Kp.box (Kp.box (Kp.box (Kp.box (Kp.box (Kp.box (Kp.box (Kp.box (Kp.of HBL.out HLO.out))))))))))
  refine wp_region_held_drew (S := fun w' => w'.cell? ⟨z, 4, none⟩ = some (.slice dA dl.length dc) ∧ w'.cell? ⟨z, 7, none⟩ = some (.slice mA ml.length mc)) (by kernel_rfl) (⟨(HX.out.below HDR.out).cell 4, (HX.out.below HDR.out).cell 7⟩) (fun hHeld => ?_)
  refine wpAnyH_take (i := 0) (oi := ⟨some 12, _, _, _, _, _⟩) (v := ?v1) rfl (by kernel_rfl) (by kernel_rfl) (by kernel_rfl) (fun _ _ _ h => h) (Or.inl ⟨by rfl, ?hy1⟩) (by assumption) ?rest1
  case hy1 => intro w hSw; (try dsimp only at hSw); go_simp <;> with_reducible rfl
  simp only [Act.put, List.setIfInBounds_toArray, List.set_cons_zero, List.set_cons_succ]
  refine wpAnyH_take (i := 1) (oi := ⟨some 13, _, _, _, _, _⟩) (v := ?v2) rfl (by kernel_rfl) (by kernel_rfl) (by kernel_rfl) (fun _ _ _ h => h) (Or.inl ⟨by rfl, ?hy2⟩) (by assumption) ?rest2
  case hy2 => intro w hSw; (try dsimp only at hSw); go_simp <;> with_reducible rfl
  simp only [Act.put, List.setIfInBounds_toArray, List.set_cons_zero, List.set_cons_succ]
  refine wpAnyH_take (i := 2) (oi := ⟨some 14, _, _, _, _, _⟩) (v := ?v3) rfl (by kernel_rfl) (by kernel_rfl) (by kernel_rfl) (fun _ _ _ h => h) (Or.inl ⟨by rfl, ?hy3⟩) (by assumption) ?rest3
  case hy3 => intro w hSw; (try dsimp only at hSw); go_simp <;> with_reducible rfl
  simp only [Act.put, List.setIfInBounds_toArray, List.set_cons_zero, List.set_cons_succ]
  refine wpAnyH_take (i := 4) (oi := ⟨some 16, _, _, _, _, _⟩) (v := ?v4) rfl (by kernel_rfl) (by kernel_rfl) (by kernel_rfl) (fun _ _ _ h => h) (Or.inl ⟨by rfl, ?hy4⟩) (by assumption) ?rest4
  case hy4 => intro w hSw; (try dsimp only at hSw); go_simp <;> with_reducible rfl
  simp only [Act.put, List.setIfInBounds_toArray, List.set_cons_zero, List.set_cons_succ]
  refine wpAnyH_take (i := 5) (oi := ⟨some 17, _, _, _, _, _⟩) (v := ?v5) rfl (by kernel_rfl) (by kernel_rfl) (by kernel_rfl) (fun _ _ _ h => h) (Or.inl ⟨by rfl, ?hy5⟩) (by assumption) ?rest5
  case hy5 => intro w hSw; (try dsimp only at hSw); go_simp <;> with_reducible rfl
  simp only [Act.put, List.setIfInBounds_toArray, List.set_cons_zero, List.set_cons_succ]
  refine wpAnyH_take (i := 6) (oi := ⟨some 18, _, _, _, _, _⟩) (v := ?v6) rfl (by kernel_rfl) (by kernel_rfl) (by kernel_rfl) (fun _ _ _ h => h) (Or.inl ⟨by rfl, ?hy6⟩) (by assumption) ?rest6
  case hy6 => intro w hSw; (try dsimp only at hSw); go_simp <;> with_reducible rfl
  simp only [Act.put, List.setIfInBounds_toArray, List.set_cons_zero, List.set_cons_succ]
  refine wpAnyH_take (i := 7) (oi := ⟨some 19, _, _, _, _, _⟩) (v := ?v7) rfl (by kernel_rfl) (by kernel_rfl) (by kernel_rfl) (fun _ _ _ h => h) (Or.inl ⟨by rfl, ?hy7⟩) (by assumption) ?rest7
  case hy7 => intro w hSw; (try dsimp only at hSw); go_simp <;> with_reducible rfl
  simp only [Act.put, List.setIfInBounds_toArray, List.set_cons_zero, List.set_cons_succ]
  refine wpAnyH_take (i := 8) (oi := ⟨some 20, _, _, _, _, _⟩) (v := ?v8) rfl (by kernel_rfl) (by kernel_rfl) (by kernel_rfl) (fun _ _ _ h => h) (Or.inl ⟨by rfl, ?hy8⟩) (by assumption) ?rest8
  case hy8 => intro w hSw; (try dsimp only at hSw); go_simp <;> with_reducible rfl
  simp only [Act.put, List.setIfInBounds_toArray, List.set_cons_zero, List.set_cons_succ]
  refine wpAnyH_take (i := 9) (oi := ⟨some 21, _, _, _, _, _⟩) (v := ?v9) rfl (by kernel_rfl) (by kernel_rfl) (by kernel_rfl) (fun _ _ _ h => h) (Or.inl ⟨by rfl, ?hy9⟩) (by assumption) ?rest9
  case hy9 => intro w hSw; (try dsimp only at hSw); go_simp <;> with_reducible rfl
  simp only [Act.put, List.setIfInBounds_toArray, List.set_cons_zero, List.set_cons_succ]
  refine wpAnyH_take (i := 10) (oi := ⟨some 22, _, _, _, _, _⟩) (v := ?v10) rfl (by kernel_rfl) (by kernel_rfl) (by kernel_rfl) (fun _ _ _ h => h) (Or.inl ⟨by rfl, ?hy10⟩) (by assumption) ?rest10
  case hy10 => intro w hSw; (try dsimp only at hSw); go_simp <;> with_reducible rfl
  simp only [Act.put, List.setIfInBounds_toArray, List.set_cons_zero, List.set_cons_succ]
  refine wpAnyH_take (i := 11) (oi := ⟨some 23, _, _, _, _, _⟩) (v := ?v11) rfl (by kernel_rfl) (by kernel_rfl) (by kernel_rfl) (fun _ _ _ h => h) (Or.inl ⟨by rfl, ?hy11⟩) (by assumption) ?rest11
  case hy11 => intro w hSw; (try dsimp only at hSw); go_simp <;> with_reducible rfl
  simp only [Act.put, List.setIfInBounds_toArray, List.set_cons_zero, List.set_cons_succ]
  refine wpAnyH_ready (rs := [3]) (by kernel_rfl) (by simp) ?_
  refine AllReadyH.cons rfl (fun K hK => ?_) AllReadyH.nil
  go_simp
  refine hK.out _ _ (⟨HX5.out.cell 4, HX5.out.cell 7⟩) (fun hHeld => ?_)
  clear hK K
  refine wpAnyH_take (i := 12) (oi := ⟨some 24, _, _, _, _, _⟩) (v := ?v12) rfl (by kernel_rfl) (by kernel_rfl) (by kernel_rfl) (fun _ _ _ h => h) (Or.inl ⟨by rfl, ?hy12⟩) (by assumption) ?rest12
  case hy12 => intro w hSw; (try dsimp only at hSw); go_simp <;> with_reducible rfl
  simp only [Act.put, List.setIfInBounds_toArray, List.set_cons_zero, List.set_cons_succ]
  refine wpAnyH_take (i := 13) (oi := ⟨some 25, _, _, _, _, _⟩) (v := ?v13) rfl (by kernel_rfl) (by kernel_rfl) (by kernel_rfl) (fun _ _ _ h => h) (Or.inl ⟨by rfl, ?hy13⟩) (by assumption) ?rest13
  case hy13 => intro w hSw; (try dsimp only at hSw); go_simp <;> with_reducible rfl
  simp only [Act.put, List.setIfInBounds_toArray, List.set_cons_zero, List.set_cons_succ]
  refine wpAnyH_ready (rs := [14]) (by kernel_rfl) (by simp) ?_
  refine AllReadyH.cons rfl (fun K hK => ?_) AllReadyH.nil
  go_simp
  have r0 := (HX5.out.cell 0).trans (show _ = some (.int .u8 ki : Value) from rfl)
  have g0 := HX5.out.frozen 0
  have r1 := (HX5.out.cell 1).trans (show _ = some (.int .u64 inc : Value) from rfl)
  have g1 := HX5.out.frozen 1
  have r2 := (HX5.out.cell 2).trans (show _ = some (.int .i64 st : Value) from rfl)
  have g2 := HX5.out.frozen 2
  have r3 := (HX5.out.cell 3).trans (show _ = some (.slice vA vl.length vc : Value) from rfl)
  have g3 := HX5.out.frozen 3
  have r4 := (HX5.out.cell 4).trans (show _ = some (.slice dA dl.length dc : Value) from rfl)
  have g4 := HX5.out.frozen 4
  have r5 := (HX5.out.cell 5).trans (show _ = some (.slice oA ol.length oc : Value) from rfl)
  have g5 := HX5.out.frozen 5
  have r6 := (HX5.out.cell 6).trans (show _ = some (.int .u64 la : Value) from rfl)
  have g6 := HX5.out.frozen 6
  have r7 := (HX5.out.cell 7).trans (show _ = some (.slice mA ml.length mc : Value) from rfl)
  have g7 := HX5.out.frozen 7
  go_simp
  clear r0 g0 r1 g1 r2 g2 r3 g3 r4 g4 r5 g5 r6 g6 r7 g7
  refine hK.out _ _ (⟨HAT.out.box.cell 4, HAT.out.box.cell 7⟩) (fun hHeld => ?_)
  clear hK K
  refine wpAnyH_done (by kernel_rfl) ?_ _
  go_wp2_with fail
  go_ret
  rw [HP.out]
  exact ⟨_, rfl, by simp only [RegM.p], HAT.out, HKP.out⟩
end Go.Proofs.YtccfjaefnejjmaaGreat
