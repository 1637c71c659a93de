/-
  Texts of this claim put together: Fire7.
-/
import Derived.Test.YtpiikdinphnjbaaGreatJ46
import Derived.Deep.RegionLaw
/-
  Contract of engine's fire.
-/
namespace Go.Proofs.YtpiikdinphnjbaaGreat
open Go.RowKit

section
variable {P : Program}
/-- an append onto a row of one's own, under a name of its own -/
theorem run_append_named (w : World) (base : Nat) (t e : TypeId) (z : Value) (size bytes : Nat) (hinfo : (P.info? e).map (fun i => (i.zero, i.size, i.bytes)) = some (some z, size, bytes)) (hzs : z.cells.size = size) (hsz : 0 < size) (ht : P.underlying t = some (.slice e))
    (A : Option Addr) (n c : Nat) (xs : List Value) (hown : w.ownsRow base e size (.slice A n c) n xs) (B : Nat) (D : Option Addr) (m k : Nat) (news : List Value) (hl : news.length = m * size) (hr : Sees w B D news) (h1 : ∀ u ∈ news, u.oneCell' = true) (hm : n + m ≤ 1000000) (hb : bytes ≤ 1000) (hbase : base ≤ w.heap.size) :
    ∃ A' c' w', (∀ ty, (Builtin.append_ #[t, t] ty #[.slice A n c, .slice D m k]).run P w = .ok (.slice A' (n + m) c') w') ∧ w'.ownsRow base e size (.slice A' (n + m) c') (n + m) (xs ++ news) ∧ w.grownBy w' (Value.slice A n c).ownBlock ∧ ((Value.slice A' (n + m) c').ownBlock = (Value.slice A n c).ownBlock ∨ (Value.slice A' (n + m) c').ownBlock = some w.heap.size) := by
  obtain ⟨i0, hi, hz0, hz1, hz2⟩ := info_parts hinfo
  obtain ⟨v', w', hrun, h2, h3, h4⟩ := run_append_rows (P := P) w base t 0 e i0 z size bytes ht hi hz0 hz1 hz2 hzs hsz (.slice A n c) n xs hown B D m k news hl hr h1 (by unfold maxLen; omega)
    (Nat.le_trans (Nat.mul_le_mul hm hb) (by decide)) hbase
  obtain ⟨A', c', rfl⟩ : ∃ A' c', v' = .slice A' (n + m) c' := by
    rcases h2.2 with ⟨rfl, h0⟩ | ⟨g, cap, cur, rfl, _⟩
    · exact ⟨none, 0, by rw [h0]⟩
    · exact ⟨_, _, rfl⟩
  exact ⟨A', c', w', fun ty => hrun, h2, h3, h4⟩
end
theorem numG_len (la : Int) (l : List (Int × Int × Int)) : (numG la l).length = l.length := by
  induction l generalizing la with
  | nil => rfl
  | cons c l ih => simp only [numG, List.length_cons, ih]
theorem numG_at (la : Int) (l : List (Int × Int × Int)) (k : Nat) (c : Int × Int × Int) (h : l[k]? = some c) : (numG la l)[k]? = some (la + k + 1, c.1, c.2.1, c.2.2) := by
  induction l generalizing la k with
  | nil => simp at h
  | cons d l ih =>
    match k, h with
    | 0, h =>
      simp at h
      subst h
      simp [numG]
    | k + 1, h =>
      have := ih (la + 1) k (by simpa using h)
      simp only [numG, List.getElem?_cons_succ, this]
      congr 2
      omega
theorem own_stays {w w' : World} {base : Nat} {e : TypeId} {size n : Nat} {v : Value} {xs : List Value} (h : w.ownsRow base e size v n xs) (hb : ∀ g, v.ownBlock = some g → w'.heap[g]? = w.heap[g]?) : w'.ownsRow base e size v n xs := by
  refine ⟨h.1, ?_⟩
  rcases h.2 with h0 | ⟨g, cap, cur, rfl, h1, hg, h2⟩
  · exact .inl h0
  · exact .inr ⟨g, cap, cur, rfl, h1, (hb g rfl).trans hg, h2⟩
/-- but for z and one row nothing that was has changed -/
def KeepB (b : Option Nat) (z : Nat) (w w' : World) : Prop := ∀ k, k < w.heap.size → k ≠ z → b ≠ some k → w'.heap[k]? = w.heap[k]?
theorem KeepB.of {b : Option Nat} {z : Nat} {w w' : World} (h : Below w.heap.size w w') : KeepB b z w w' := fun k hk _ _ => h.block k hk
theorem KeepB.box {b : Option Nat} {z k : Nat} {w w' : World} {cs : Array Value} {t : TypeId} (h : KeepB b z w w') (hb : BoxAt w k cs t) (h1 : k ≠ z) (h2 : b ≠ some k) : BoxAt w' k cs t := (h k hb.lt h1 h2).trans hb
theorem At7.size_lt {w : World} {lo z : Nat} {x : RegM} (h : At7 w lo z x) : z < w.heap.size := h.box.lt

set_option maxRecDepth 100000 in
set_option maxHeartbeats 12800000 in
theorem fire_any (ts tv : Int) (t : Sl RuM) (x : RegM) (ac pa ar : Int) (B lo z : Nat) (w : World) (ht : rusOk w B t) (hBz : B ≤ z) (h : At7 w lo z x) (har : I64 ar) (h1 : x.ou.l.length ≤ 50) :
    Calls Tryz.prog 40 #[tabV ts tv t, .pointer (some ⟨z, 0, none⟩), .int .i64 ac, .int .i64 pa, .int .i64 ar] w (fun e w' => Does (fireG ts tv t.l x.p ac pa ar) lo z w e w' ∧ KeepB (Value.slice x.ou.A x.ou.l.length x.ou.c).ownBlock z w w') := by
  obtain ⟨W0, hW0⟩ : ∃ W0, w.alloc (.cells #[.int .i64 ts, .int .i64 tv, .slice t.A t.l.length t.c] 24) = W0 := ⟨_, rfl⟩
  have hb0 : Below w.heap.size w W0 := hW0 ▸ (Below.refl _ _).alloc (Nat.le_refl _) _
  have HXT := hide_ (show BoxAt W0 w.heap.size #[.int .i64 ts, .int .i64 tv, .slice t.A t.l.length t.c] 24 from hW0 ▸ BoxAt.new w _ _)
  have HAT0 := hide_ (h.below hb0)
  have HB0 := hide_ hb0
  have HLO := hide_ h.low
  have HSZ := hide_ h.size
  have hB : B ≤ w.heap.size := Nat.le_trans hBz (Nat.le_of_lt h.box.lt)
  have htd : rusOk W0.drew W0.heap.size t := rus_stable.more (rus_stable.below ht ((hb0.mono hB).trans (Below.refl _ _).drew)) (Nat.le_trans hB hb0.size)
  have hvi := h.fresh.va.2
  have HNU := hide_ (fireR_nums ht ts tv x.st ac pa hvi har)
  have HFS := hide_ (fire_stays ts tv t.l x.st ac pa x.va.l ar)
  have HFI := hide_ (Fire_any ts tv t x.st ac pa x.va.l x.va.A x.va.l.length x.va.c ar W0.heap.size W0.drew rfl htd ((HAT0.out.fresh.va.ok.sees).below (Below.refl _ _).drew) hvi har (Nat.le_refl _))
  obtain ⟨RR, hRR⟩ : ∃ R, fireG ts tv t.l x.p ac pa ar = R := ⟨_, rfl⟩
  have HRR := hide_ hRR
  rw [hRR]
  have HW0 := hide_ hW0
  clear ht htd hRR hW0 hb0 hvi
  obtain ⟨tA, tc, tl⟩ := t
  obtain ⟨ki, inc, st, ⟨vA, vc, vl⟩, ⟨dA, dc, dl⟩, ⟨oA, oc, ol⟩, la, ⟨mA, mc, ml⟩⟩ := x
  simp only [tabV, Sl.v, RegM.p] at HFI HNU HFS HRR HXT HW0 h1 ⊢
  have HLA := hide_ h.fresh.num.2.2.2
  have hcx := h.box.cell
  have hz := h.box.lt
  clear h
  simp only [RegM.box] at hcx
  by_cases k1 : ki = 1
  case neg =>
    have HP := hide_ (show RR = (RegM.p ⟨ki, inc, st, ⟨vA, vc, vl⟩, ⟨dA, dc, dl⟩, ⟨oA, oc, ol⟩, la, ⟨mA, mc, ml⟩⟩, 11) by rw [← HRR.out]; unfold fireG; rw [if_neg (by exact k1)]; rfl)
    have d1 : (ki != 1) = true := bne_iff_ne.2 k1
    have hc0 := HAT0.out.box.cell
    simp only [RegM.box] at hc0
    have hz0 := HAT0.out.box.lt
    clear k1
    go_enter Tryz.func40, Tryz.ntmps40
    go_wp2
    rw [HW0.out]
    go_ret
    rw [HP.out]
    exact ⟨⟨_, rfl, rfl, HAT0.out, Kp.of (HB0.out.mono HSZ.out) HLO.out⟩, KeepB.of HB0.out⟩
  subst k1
  obtain ⟨⟨s, v, cc, er⟩, hR⟩ : ∃ R, fireR ts tv tl st ac pa vl ar = R := ⟨_, rfl⟩
  simp only [hR] at HFI HNU HFS
  have HRR2 := hide_ (show RR = if er = 0 then (if roomB (RegM.p ⟨1, inc, st, ⟨vA, vc, vl⟩, ⟨dA, dc, dl⟩, ⟨oA, oc, ol⟩, la, ⟨mA, mc, ml⟩⟩) cc.length = true then (⟨1, inc, s, v, dl.map DoneM.p, ol ++ numG la cc, la + cc.length, ml⟩, 0) else (RegM.p ⟨1, inc, st, ⟨vA, vc, vl⟩, ⟨dA, dc, dl⟩, ⟨oA, oc, ol⟩, la, ⟨mA, mc, ml⟩⟩, 20)) else (RegM.p ⟨1, inc, st, ⟨vA, vc, vl⟩, ⟨dA, dc, dl⟩, ⟨oA, oc, ol⟩, la, ⟨mA, mc, ml⟩⟩, er) by
    rw [← HRR.out]
    unfold fireG
    rw [if_pos (by rfl)]
    simp only [hR]
    rfl)
  clear HRR hR
  have HOW := hide_ HAT0.out.fresh.ou
  by_cases he : er = 0
  case neg =>
    have HP := hide_ (show RR = (RegM.p ⟨1, inc, st, ⟨vA, vc, vl⟩, ⟨dA, dc, dl⟩, ⟨oA, oc, ol⟩, la, ⟨mA, mc, ml⟩⟩, er) by rw [HRR2.out, if_neg he])
    have d2 : (er != 0) = true := bne_iff_ne.2 he
    clear he
    go_enter Tryz.func40, Tryz.ntmps40
    go_upto_region 3 with fail
    rw [HW0.out]
    clear hcx
    have hcx := HAT0.out.box.cell
    simp only [RegM.box] at hcx
    have hz0 : z < W0.heap.size := HAT0.out.box.lt
    have hct := HXT.out.cell
    have hzt : w.heap.size < W0.heap.size := HXT.out.lt
    go_region_with (go_at_call 61; refine HFI.out.mono ?_; rintro e1 w1 ⟨A1, c1, A2, c2, rfl, ho1, ho2, hb1⟩; have HO1 := hide_ ho1; have HO2 := hide_ ho2; have HD0 := hide_ (show Below W0.heap.size W0 w1 from (Below.refl _ _).drew.trans hb1); have HAT1 := hide_ (HAT0.out.below HD0.out); have HBW1 := hide_ (show Below w.heap.size w w1 from HB0.out.trans (HD0.out.mono HB0.out.size)); have HK1 := hide_ (show Kp z lo w w1 from Kp.of ((HB0.out.trans (HD0.out.mono HB0.out.size)).mono HSZ.out) HLO.out); clear ho1 ho2 hb1; have hcx1 := HAT1.out.box.cell; simp only [RegM.box] at hcx1; have hz1 : z < w1.heap.size := HAT1.out.box.lt)
    all_goals
      (try go_wp2)
      go_ret
      rw [HP.out]
      exact ⟨⟨_, rfl, rfl, HAT1.out, HK1.out⟩, KeepB.of HBW1.out⟩
  subst he
  obtain ⟨nc, hnc⟩ : ∃ n, cc.length = n := ⟨_, rfl⟩
  have HFS2 := hide_ (show nc ≤ 4 by
    rcases HFS.out with ⟨e, he, h2⟩ | ⟨s2, v2, c2, h2, -, -, h4, -⟩
    · injection h2 with _ h2
      injection h2 with _ h2
      injection h2 with _ h2
      exact absurd h2.symm he
    · injection h2 with _ h2
      injection h2 with _ h2
      injection h2 with h2 _
      rw [← hnc, h2]
      exact h4)
  have hn4 : nc ≤ 4 := HFS2.out
  simp only [hnc] at HFI HRR2
  simp only [if_true] at HRR2
  go_enter Tryz.func40, Tryz.ntmps40
  go_upto_region 3 with fail
  rw [HW0.out]
  clear hcx
  have hcx := HAT0.out.box.cell
  simp only [RegM.box] at hcx
  have hz0 : z < W0.heap.size := HAT0.out.box.lt
  have hct := HXT.out.cell
  have hzt : w.heap.size < W0.heap.size := HXT.out.lt

  refine wp_region_held_drew (S := fun w' => (∀ i : Nat, w'.cell? ⟨z, i, none⟩ = (#[.int .u8 1, .int .u64 inc, .int .i64 st, .slice vA vl.length vc, .slice dA dl.length dc, .slice oA ol.length oc, .int .u64 la, .slice mA ml.length mc] : Array Value)[i]?) ∧ (∀ i : Nat, w'.cell? ⟨w.heap.size, i, none⟩ = (#[.int .i64 ts, .int .i64 tv, .slice tA tl.length tc] : Array Value)[i]?)) (by kernel_rfl) (⟨fun i => HAT0.out.box.cell i, fun i => HXT.out.cell i⟩) (fun hHeld => ?_)
  refine wpAnyH_take (i := 0) (oi := ⟨some 23, _, _, _, _, _⟩) (v := ?v1) rfl (by kernel_rfl) (by kernel_rfl) (by kernel_rfl) (fun _ _ _ h => h) (Or.inl ⟨by rfl, ?hy1⟩) (by assumption) ?rest1
  case hy1 => intro w hSw; (try dsimp only at hSw); go_simp <;> with_reducible rfl
  simp only [Act.put, List.setIfInBounds_toArray, List.set_cons_zero, List.set_cons_succ]
  refine wpAnyH_take (i := 1) (oi := ⟨some 24, _, _, _, _, _⟩) (v := ?v2) rfl (by kernel_rfl) (by kernel_rfl) (by kernel_rfl) (fun _ _ _ h => h) (Or.inl ⟨by rfl, ?hy2⟩) (by assumption) ?rest2
  case hy2 => intro w hSw; (try dsimp only at hSw); go_simp <;> with_reducible rfl
  simp only [Act.put, List.setIfInBounds_toArray, List.set_cons_zero, List.set_cons_succ]
  refine wpAnyH_take (i := 2) (oi := ⟨some 25, _, _, _, _, _⟩) (v := ?v3) rfl (by kernel_rfl) (by kernel_rfl) (by kernel_rfl) (fun _ _ _ h => h) (Or.inl ⟨by rfl, ?hy3⟩) (by assumption) ?rest3
  case hy3 => intro w hSw; (try dsimp only at hSw); go_simp <;> with_reducible rfl
  simp only [Act.put, List.setIfInBounds_toArray, List.set_cons_zero, List.set_cons_succ]
  refine wpAnyH_take (i := 3) (oi := ⟨some 26, _, _, _, _, _⟩) (v := ?v4) rfl (by kernel_rfl) (by kernel_rfl) (by kernel_rfl) (fun _ _ _ h => h) (Or.inl ⟨by rfl, ?hy4⟩) (by assumption) ?rest4
  case hy4 => intro w hSw; (try dsimp only at hSw); go_simp <;> with_reducible rfl
  simp only [Act.put, List.setIfInBounds_toArray, List.set_cons_zero, List.set_cons_succ]
  refine wpAnyH_take (i := 4) (oi := ⟨some 27, _, _, _, _, _⟩) (v := ?v5) rfl (by kernel_rfl) (by kernel_rfl) (by kernel_rfl) (fun _ _ _ h => h) (Or.inl ⟨by rfl, ?hy5⟩) (by assumption) ?rest5
  case hy5 => intro w hSw; (try dsimp only at hSw); go_simp <;> with_reducible rfl
  simp only [Act.put, List.setIfInBounds_toArray, List.set_cons_zero, List.set_cons_succ]
  refine wpAnyH_take (i := 5) (oi := ⟨some 28, _, _, _, _, _⟩) (v := ?v6) rfl (by kernel_rfl) (by kernel_rfl) (by kernel_rfl) (fun _ _ _ h => h) (Or.inl ⟨by rfl, ?hy6⟩) (by assumption) ?rest6
  case hy6 => intro w hSw; (try dsimp only at hSw); go_simp <;> with_reducible rfl
  simp only [Act.put, List.setIfInBounds_toArray, List.set_cons_zero, List.set_cons_succ]
  refine wpAnyH_take (i := 6) (oi := ⟨some 29, _, _, _, _, _⟩) (v := ?v7) rfl (by kernel_rfl) (by kernel_rfl) (by kernel_rfl) (fun _ _ _ h => h) (Or.inl ⟨by rfl, ?hy7⟩) (by assumption) ?rest7
  case hy7 => intro w hSw; (try dsimp only at hSw); go_simp <;> with_reducible rfl
  simp only [Act.put, List.setIfInBounds_toArray, List.set_cons_zero, List.set_cons_succ]
  refine wpAnyH_take (i := 7) (oi := ⟨some 30, _, _, _, _, _⟩) (v := ?v8) rfl (by kernel_rfl) (by kernel_rfl) (by kernel_rfl) (fun _ _ _ h => h) (Or.inl ⟨by rfl, ?hy8⟩) (by assumption) ?rest8
  case hy8 => intro w hSw; (try dsimp only at hSw); go_simp <;> with_reducible rfl
  simp only [Act.put, List.setIfInBounds_toArray, List.set_cons_zero, List.set_cons_succ]
  refine wpAnyH_take (i := 8) (oi := ⟨some 31, _, _, _, _, _⟩) (v := ?v9) rfl (by kernel_rfl) (by kernel_rfl) (by kernel_rfl) (fun _ _ _ h => h) (Or.inl ⟨by rfl, ?hy9⟩) (by assumption) ?rest9
  case hy9 => intro w hSw; (try dsimp only at hSw); go_simp <;> with_reducible rfl
  simp only [Act.put, List.setIfInBounds_toArray, List.set_cons_zero, List.set_cons_succ]
  refine wpAnyH_take (i := 9) (oi := ⟨some 32, _, _, _, _, _⟩) (v := ?v10) rfl (by kernel_rfl) (by kernel_rfl) (by kernel_rfl) (fun _ _ _ h => h) (Or.inl ⟨by rfl, ?hy10⟩) (by assumption) ?rest10
  case hy10 => intro w hSw; (try dsimp only at hSw); go_simp <;> with_reducible rfl
  simp only [Act.put, List.setIfInBounds_toArray, List.set_cons_zero, List.set_cons_succ]
  refine wpAnyH_take (i := 10) (oi := ⟨some 33, _, _, _, _, _⟩) (v := ?v11) rfl (by kernel_rfl) (by kernel_rfl) (by kernel_rfl) (fun _ _ _ h => h) (Or.inl ⟨by rfl, ?hy11⟩) (by assumption) ?rest11
  case hy11 => intro w hSw; (try dsimp only at hSw); go_simp <;> with_reducible rfl
  simp only [Act.put, List.setIfInBounds_toArray, List.set_cons_zero, List.set_cons_succ]
  refine wpAnyH_take (i := 11) (oi := ⟨some 34, _, _, _, _, _⟩) (v := ?v12) rfl (by kernel_rfl) (by kernel_rfl) (by kernel_rfl) (fun _ _ _ h => h) (Or.inl ⟨by rfl, ?hy12⟩) (by assumption) ?rest12
  case hy12 => intro w hSw; (try dsimp only at hSw); go_simp <;> with_reducible rfl
  simp only [Act.put, List.setIfInBounds_toArray, List.set_cons_zero, List.set_cons_succ]
  refine wpAnyH_ready (rs := [12]) (by kernel_rfl) (by simp) ?_
  refine AllReadyH.cons rfl (fun K hK => ?_) AllReadyH.nil
  go_simp
  go_wp2_with fail
  refine HFI.out.mono ?_
  rintro e1 w1 ⟨A1, c1, A2, c2, rfl, ho1, ho2, hb1⟩
  have HO1 := hide_ ho1
  have ho22 : w1.ownsRow W0.heap.size 51 4 (.slice A2 nc c2) nc (cv cc) := (by rw [← hnc]; exact ho2)
  have HO2 := hide_ ho22
  have HD0 := hide_ (show Below W0.heap.size W0 w1 from (Below.refl _ _).drew.trans hb1)
  have HAT1 := hide_ (HAT0.out.below HD0.out)
  have HBW1 := hide_ (show Below w.heap.size w w1 from HB0.out.trans (HD0.out.mono HB0.out.size))
  have HK1 := hide_ (show Kp z lo w w1 from Kp.of ((HB0.out.trans (HD0.out.mono HB0.out.size)).mono HSZ.out) HLO.out)
  clear ho1 ho2 ho22 hb1
  refine hK.out _ _ (⟨fun i => HAT1.out.box.cell i, fun i => (HXT.out.below HD0.out).cell i⟩) (fun hHeld => ?_)
  clear hK K
  refine wpAnyH_take (i := 13) (oi := ⟨some 22, _, _, _, _, _⟩) (v := ?v13) rfl (by kernel_rfl) (by kernel_rfl) (by kernel_rfl) (fun _ _ _ h => h) (Or.inl ⟨by rfl, ?hy13⟩) (by assumption) ?rest13
  case hy13 => intro w hSw; (try dsimp only at hSw); go_simp <;> with_reducible rfl
  simp only [Act.put, List.setIfInBounds_toArray, List.set_cons_zero, List.set_cons_succ]
  refine wpAnyH_take (i := 14) (oi := ⟨some 36, _, _, _, _, _⟩) (v := ?v14) rfl (by kernel_rfl) (by kernel_rfl) (by kernel_rfl) (fun _ _ _ h => h) (Or.inl ⟨by rfl, ?hy14⟩) (by assumption) ?rest14
  case hy14 => intro w hSw; (try dsimp only at hSw); go_simp <;> with_reducible rfl
  simp only [Act.put, List.setIfInBounds_toArray, List.set_cons_zero, List.set_cons_succ]
  refine wpAnyH_take (i := 15) (oi := ⟨some 37, _, _, _, _, _⟩) (v := ?v15) rfl (by kernel_rfl) (by kernel_rfl) (by kernel_rfl) (fun _ _ _ h => h) (Or.inl ⟨by rfl, ?hy15⟩) (by assumption) ?rest15
  case hy15 => intro w hSw; (try dsimp only at hSw); go_simp <;> with_reducible rfl
  simp only [Act.put, List.setIfInBounds_toArray, List.set_cons_zero, List.set_cons_succ]
  refine wpAnyH_take (i := 16) (oi := ⟨some 38, _, _, _, _, _⟩) (v := ?v16) rfl (by kernel_rfl) (by kernel_rfl) (by kernel_rfl) (fun _ _ _ h => h) (Or.inl ⟨by rfl, ?hy16⟩) (by assumption) ?rest16
  case hy16 => intro w hSw; (try dsimp only at hSw); go_simp <;> with_reducible rfl
  simp only [Act.put, List.setIfInBounds_toArray, List.set_cons_zero, List.set_cons_succ]
  refine wpAnyH_take (i := 17) (oi := ⟨some 39, _, _, _, _, _⟩) (v := ?v17) rfl (by kernel_rfl) (by kernel_rfl) (by kernel_rfl) (fun _ _ _ h => h) (Or.inl ⟨by rfl, ?hy17⟩) (by assumption) ?rest17
  case hy17 => intro w hSw; (try dsimp only at hSw); go_simp <;> with_reducible rfl
  simp only [Act.put, List.setIfInBounds_toArray, List.set_cons_zero, List.set_cons_succ]
  refine wpAnyH_take (i := 18) (oi := ⟨some 11, _, _, _, _, _⟩) (v := ?v18) rfl (by kernel_rfl) (by kernel_rfl) (by kernel_rfl) (fun _ _ _ h => h) (Or.inl ⟨by rfl, ?hy18⟩) (by assumption) ?rest18
  case hy18 => intro w hSw; (try dsimp only at hSw); go_simp <;> with_reducible rfl
  simp only [Act.put, List.setIfInBounds_toArray, List.set_cons_zero, List.set_cons_succ]
  refine wpAnyH_take (i := 19) (oi := ⟨some 12, _, _, _, _, _⟩) (v := ?v19) rfl (by kernel_rfl) (by kernel_rfl) (by kernel_rfl) (fun _ _ _ h => h) (Or.inl ⟨by rfl, ?hy19⟩) (by assumption) ?rest19
  case hy19 => intro w hSw; (try dsimp only at hSw); go_simp <;> with_reducible rfl
  simp only [Act.put, List.setIfInBounds_toArray, List.set_cons_zero, List.set_cons_succ]
  refine wpAnyH_take (i := 20) (oi := ⟨some 13, _, _, _, _, _⟩) (v := ?v20) rfl (by kernel_rfl) (by kernel_rfl) (by kernel_rfl) (fun _ _ _ h => h) (Or.inl ⟨by rfl, ?hy20⟩) (by assumption) ?rest20
  case hy20 => intro w hSw; (try dsimp only at hSw); go_simp <;> with_reducible rfl
  simp only [Act.put, List.setIfInBounds_toArray, List.set_cons_zero, List.set_cons_succ]
  refine wpAnyH_take (i := 21) (oi := ⟨some 14, _, _, _, _, _⟩) (v := ?v21) rfl (by kernel_rfl) (by kernel_rfl) (by kernel_rfl) (fun _ _ _ h => h) (Or.inl ⟨by rfl, ?hy21⟩) (by assumption) ?rest21
  case hy21 => intro w hSw; (try dsimp only at hSw); go_simp <;> with_reducible rfl
  simp only [Act.put, List.setIfInBounds_toArray, List.set_cons_zero, List.set_cons_succ]
  refine wpAnyH_done (by kernel_rfl) ?_ _
  clear hcx hct hzt hz0
  have hcx1 := HAT1.out.box.cell
  simp only [RegM.box] at hcx1
  have hz1 : z < w1.heap.size := HAT1.out.box.lt
  have HHR := hide_ (hasRoom_any ⟨1, inc, st, ⟨vA, vc, vl⟩, ⟨dA, dc, dl⟩, ⟨oA, oc, ol⟩, la, ⟨mA, mc, ml⟩⟩ nc w1 HLA.out h1 (by omega))
  obtain ⟨qr, hqr⟩ : ∃ q, roomB (RegM.p ⟨1, inc, st, ⟨vA, vc, vl⟩, ⟨dA, dc, dl⟩, ⟨oA, oc, ol⟩, la, ⟨mA, mc, ml⟩⟩) nc = q := ⟨_, rfl⟩
  rw [hqr] at HHR HRR2
  have HQR := hide_ (show qr = (decide (ol.length + nc ≤ 8) && decide (la ≤ 9223372036854775808 - (nc : Int))) from hqr.symm)
  simp only [RegM.v, Sl.v] at HHR
  have HNC := hide_ hnc
  clear hqr hnc
  go_wp2_with fail
  refine HHR.out.mono ?_
  rintro e2 w2 ⟨rfl, hb2⟩
  have HB2 := hide_ hb2
  have HAT2 := hide_ (HAT1.out.below hb2)
  have HBW2 := hide_ (show Below w.heap.size w w2 from HBW1.out.trans (hb2.mono HBW1.out.size))
  have HK2 := hide_ (HK1.out.trans (Kp.of (hb2.mono HAT1.out.size) HLO.out))
  clear hb2 hcx1 HHR
  have hcx := HAT2.out.box.cell
  have hfx := HAT2.out.box.frozen
  simp only [RegM.box] at hcx
  have hz2 : z < w2.heap.size := HAT2.out.box.lt
  cases qr with
  | false =>
    have HP := hide_ (show RR = (RegM.p ⟨1, inc, st, ⟨vA, vc, vl⟩, ⟨dA, dc, dl⟩, ⟨oA, oc, ol⟩, la, ⟨mA, mc, ml⟩⟩, 20) by rw [HRR2.out, if_neg (by simp)])
    go_wp2
    go_ret
    rw [HP.out]
    exact ⟨⟨_, rfl, rfl, HAT2.out, HK2.out⟩, KeepB.of HBW2.out⟩
  | true =>
  have hq := HQR.out
  rw [eq_comm, Bool.and_eq_true, decide_eq_true_eq, decide_eq_true_eq] at hq
  have hq1 := hq.1
  have hq2 := hq.2
  have HP := hide_ (show RR = (⟨1, inc, s, v, dl.map DoneM.p, ol ++ numG la cc, la + nc, ml⟩, 0) by rw [HRR2.out, if_pos rfl])
  obtain ⟨W3, hW3⟩ : ∃ W3, (w2.setCell ⟨z, 2, none⟩ (.int .i64 s)).setCell ⟨z, 3, none⟩ (.slice A1 v.length c1) = W3 := ⟨_, rfl⟩
  have HBX3 := hide_ (show BoxAt W3 z #[.int .u8 1, .int .u64 inc, .int .i64 s, .slice A1 v.length c1, .slice dA dl.length dc, .slice oA ol.length oc, .int .u64 la, .slice mA ml.length mc] 31 from hW3 ▸ heap_set 3 _ (heap_set 2 _ HAT2.out.box))
  have HFR3 := hide_ (show Fresh W3 lo ⟨1, inc, s, ⟨A1, c1, v⟩, ⟨dA, dc, dl⟩, ⟨oA, oc, ol⟩, la, ⟨mA, mc, ml⟩⟩ from by
    have hf := HAT2.out.fresh
    have hv : OwnVars w2 lo ⟨A1, c1, v⟩ := ⟨own_mono (own_below HO1.out HB2.out) (Nat.le_trans HSZ.out HB0.out.size), HNU.out.2.1⟩
    have hf2 : Fresh w2 lo ⟨1, inc, s, ⟨A1, c1, v⟩, ⟨dA, dc, dl⟩, ⟨oA, oc, ol⟩, la, ⟨mA, mc, ml⟩⟩ := ⟨⟨hf.num.1, hf.num.2.1, HNU.out.1, hf.num.2.2.2⟩, hv, hf.dn, hf.di, hf.ou, hf.oi, hf.ma, hf.mi⟩
    rw [← hW3]
    exact (hf2.far HLO.out).far HLO.out)
  have HK3 := hide_ (show Kp z lo w W3 from hW3 ▸ (HK2.out.box).box)
  have HA3 := hide_ (show W3.ownsRow W0.heap.size 51 4 (.slice A2 nc c2) nc (cv cc) from by
    rw [← hW3]
    have h4 : w2.ownsRow W0.heap.size 51 4 (.slice A2 nc c2) nc (cv cc) := own_below HO2.out HB2.out
    exact ownsRow_setCell_below (ownsRow_setCell_below h4 (a := ⟨z, 2, none⟩) HAT0.out.box.lt _) (a := ⟨z, 3, none⟩) HAT0.out.box.lt _)
  have hs3 : W3.heap.size = w2.heap.size := by rw [← hW3]; simp [World.setCell]
  have hs2 : lo ≤ w2.heap.size := HAT2.out.size
  have HAT3 := hide_ (show At7 W3 lo z ⟨1, inc, s, ⟨A1, c1, v⟩, ⟨dA, dc, dl⟩, ⟨oA, oc, ol⟩, la, ⟨mA, mc, ml⟩⟩ from ⟨HBX3.out, HFR3.out, HLO.out, by omega⟩)
  have HOB := hide_ (show ∀ g, (Value.slice oA ol.length oc).ownBlock = some g → (Value.slice A2 nc c2).ownBlock ≠ some g from fun g hg e => by
    have h2 := (HOW.out.lt g hg).2
    have h3 := (HA3.out.lt g e).1
    omega)
  have HKB3 := hide_ (show KeepB (Value.slice oA ol.length oc).ownBlock z w W3 from fun g hg hgz _ => by
    rw [← hW3]
    exact (Below.heap_setCell _ ⟨z, 3, none⟩ _ g hgz).trans ((Below.heap_setCell _ ⟨z, 2, none⟩ _ g hgz).trans (HBW2.out.block g hg)))
  have hsw3 : w.heap.size ≤ W3.heap.size := by have := HBW2.out.size; omega
  have HW3 := hide_ hW3
  clear hW3 hq
  go_wp2
  rw [HW3.out]
  clear hcx hfx hz2
  go_loopw [60] (fun i wr => ∃ k : Nat, k ≤ nc ∧ i = .int .i64 k ∧ Hid (∃ (Ok : Option Addr) (ok : Nat) (Lk : List CelM), Lk = ol ++ (numG la cc).take k ∧ At7 wr lo z ⟨1, inc, s, ⟨A1, c1, v⟩, ⟨dA, dc, dl⟩, ⟨Ok, ok, Lk⟩, (la + k), ⟨mA, mc, ml⟩⟩ ∧ ∀ g, (Value.slice Ok Lk.length ok).ownBlock = some g → (Value.slice A2 nc c2).ownBlock ≠ some g ∧ ((Value.slice oA ol.length oc).ownBlock = some g ∨ w.heap.size ≤ g)) ∧ Hid (KeepB (Value.slice oA ol.length oc).ownBlock z w wr ∧ w.heap.size ≤ wr.heap.size) ∧ Hid (Kp z lo w wr) ∧ Hid (wr.ownsRow W0.heap.size 51 4 (.slice A2 nc c2) nc (cv cc))) (fun i _ => nc - (intOf i).toNat)
  case atStart => exact ⟨0, Nat.zero_le _, rfl, ⟨oA, oc, ol, by simp, by simpa using HAT3.out, fun g hg => ⟨HOB.out g hg, .inl hg⟩⟩, ⟨HKB3.out, hsw3⟩, HK3.out, HA3.out⟩
  case round =>
    obtain ⟨k, hk, rfl, HL, HKBR, HKR, HAR⟩ := hrel
    obtain ⟨Ok, ok, Lk, hLk, hat, hob⟩ := HL.out
    have HLK := hide_ hLk
    have HATR := hide_ hat
    have HOBR := hide_ hob
    clear hLk hat hob HL
    by_cases hlt : k < nc
    case neg =>
      obtain rfl : k = nc := by omega
      have HFIN := hide_ (show Does RR lo z w (.returned (.int .i64 0)) wr from by
        rw [HP.out]
        refine ⟨_, rfl, ?_, HATR.out, HKR.out⟩
        simp only [RegM.p]
        rw [HLK.out, List.take_of_length_le (by rw [numG_len, HNC.out]; exact Nat.le_refl _)])
      go_wp2
      go_ret
      exact ⟨HFIN.out, HKBR.out.1⟩
    obtain ⟨x, hx⟩ : ∃ x, cc[k]? = some x := ⟨_, List.getElem?_eq_getElem (by rw [HNC.out]; exact hlt)⟩
    obtain ⟨g2, rfl, hg21, hg22, -⟩ := own_some HAR.out (by omega)
    have HX := hide_ hx
    have HXN := hide_ (HNU.out.2.2 x (List.mem_of_getElem? hx))
    have e0 : wr.cell? ⟨g2, k * 4, none⟩ = some (.int .u64 0) := by
      rw [HAR.out.cellAt (k * 4) (by omega)]
      exact (flat_get (cs := cellC) (q := 4) (fun _ => rfl) cc k 0 _ hx (by omega)).trans rfl
    have e1 : wr.cell? ⟨g2, k * 4 + 1, none⟩ = some (.int .u8 x.1) := by
      rw [HAR.out.cellAt (k * 4 + 1) (by omega)]
      exact (flat_get (cs := cellC) (q := 4) (fun _ => rfl) cc k 1 _ hx (by omega)).trans rfl
    have e2 : wr.cell? ⟨g2, k * 4 + 2, none⟩ = some (.int .i64 x.2.1) := by
      rw [HAR.out.cellAt (k * 4 + 2) (by omega)]
      exact (flat_get (cs := cellC) (q := 4) (fun _ => rfl) cc k 2 _ hx (by omega)).trans rfl
    have e3 : wr.cell? ⟨g2, k * 4 + 3, none⟩ = some (.int .i64 x.2.2) := by
      rw [HAR.out.cellAt (k * 4 + 3) (by omega)]
      exact (flat_get (cs := cellC) (q := 4) (fun _ => rfl) cc k 3 _ hx (by omega)).trans rfl
    clear hx
    obtain ⟨tg, xa, xr⟩ := x
    simp only at e0 e1 e2 e3 HXN
    obtain ⟨m, hm⟩ : ∃ m, Lk.length = m := ⟨_, rfl⟩
    have hmv : m ≤ 8 := by rw [← hm, HLK.out]; simp only [List.length_append, List.length_take]; omega
    have hla := HLA.out
    have hla1 := hla.1
    have hla2 := hla.2
    have hw1 : IntKind.u64.wrap (la + (k : Int) + 1) = la + (k : Int) + 1 := by rw [IntKind.wrap_u64]; omega
    have hbx := HATR.out.box
    simp only [RegM.box, hm] at hbx
    have HBR := hide_ hbx
    have hcx := hbx.cell
    have hfx := hbx.frozen
    have hzr := hbx.lt
    have hzw : z ≠ wr.heap.size := by omega
    clear hla hbx
    have hlow : lo ≤ wr.heap.size := HATR.out.size
    obtain ⟨W5, hW5⟩ : ∃ W5, (wr.setCell ⟨z, 6, none⟩ (.int .u64 (la + (k : Int) + 1))).alloc (.cells #[.int .u64 (la + (k : Int) + 1), .int .u8 tg, .int .i64 xa, .int .i64 xr] 51) = W5 := ⟨_, rfl⟩
    have hsc : (wr.setCell ⟨z, 6, none⟩ (.int .u64 (la + (k : Int) + 1))).heap.size = wr.heap.size := by simp [World.setCell]
    have hal : Below wr.heap.size (wr.setCell ⟨z, 6, none⟩ (.int .u64 (la + (k : Int) + 1))) W5 := hW5 ▸ (Below.refl _ _).alloc (by rw [hsc]; exact Nat.le_refl _) _
    have hk5 : ∀ g, g < wr.heap.size → g ≠ z → W5.heap[g]? = wr.heap[g]? := fun g hg hgz => (hal.block g hg).trans (Below.heap_setCell _ ⟨z, 6, none⟩ _ g hgz)
    have HBZ5 := hide_ (show BoxAt W5 z #[.int .u8 1, .int .u64 inc, .int .i64 s, .slice A1 v.length c1, .slice dA dl.length dc, .slice Ok m ok, .int .u64 (la + (k : Int) + 1), .slice mA ml.length mc] 31 from (hal.block z hzr).trans (heap_set 6 _ HBR.out))
    have HBC5 := hide_ (show BoxAt W5 wr.heap.size #[.int .u64 (la + (k : Int) + 1), .int .u8 tg, .int .i64 xa, .int .i64 xr] 51 from by
      have h := BoxAt.new (wr.setCell ⟨z, 6, none⟩ (.int .u64 (la + (k : Int) + 1))) #[.int .u64 (la + (k : Int) + 1), .int .u8 tg, .int .i64 xa, .int .i64 xr] 51
      rw [hW5, hsc] at h
      exact h)
    have HFR5 := hide_ (show Fresh W5 lo ⟨1, inc, s, ⟨A1, c1, v⟩, ⟨dA, dc, dl⟩, ⟨Ok, ok, Lk⟩, (la + k), ⟨mA, mc, ml⟩⟩ from by
      have hot := HATR.out.fresh
      have hk6 : ∀ {b s n : Nat} {e : TypeId} {v : Value} {xs : List Value}, wr.ownsRow b e s v n xs → lo ≤ b → W5.ownsRow b e s v n xs := fun h hlb => own_stays h (fun g hg => by
        have hgl := h.lt g hg
        exact hk5 g hgl.2 (by have := HLO.out; omega))
      exact ⟨⟨hot.num.1, hot.num.2.1, hot.num.2.2.1, hot.num.2.2.2⟩, ⟨hk6 hot.va.1 (Nat.le_refl _), hot.va.2⟩, hk6 hot.dn (Nat.le_refl _), fun d hd => ⟨(hot.di d hd).1, hk6 (hot.di d hd).2.1 (Nat.le_refl _), (hot.di d hd).2.2⟩, hk6 hot.ou (Nat.le_refl _), hot.oi, hk6 hot.ma (Nat.le_refl _), hot.mi⟩)
    have HAR5 := hide_ (show W5.ownsRow W0.heap.size 51 4 (.slice (some ⟨g2, 0, none⟩) nc c2) nc (cv cc) from own_stays HAR.out (fun g hg => by
      have hgl := HAR.out.lt g hg
      exact hk5 g hgl.2 (by have := HAT0.out.box.lt; omega)))
    have HK5 := hide_ (show Kp z lo w W5 from hW5 ▸ ((HKR.out.box).trans (Kp.of ((Below.refl lo _).alloc (by rw [hsc]; exact hlow) _) HLO.out)))
    have hs5 : W5.heap.size = wr.heap.size + 1 := by rw [← hW5]; simp [World.setCell]
    obtain ⟨W6, hW6⟩ : ∃ W6, (W5.alloc (.cells #[.int .u64 (la + (k : Int) + 1), .int .u8 tg, .int .i64 xa, .int .i64 xr] 51)).drew = W6 := ⟨_, rfl⟩
    have hb6 : Below W5.heap.size W5 W6 := hW6 ▸ ((Below.refl _ _).alloc (Nat.le_refl _) _).drew
    have HBZ6 := hide_ (HBZ5.out.below hb6)
    have HBC6 := hide_ (HBC5.out.below hb6)
    have HFR6 := hide_ (HFR5.out.below hb6)
    have HAR6 := hide_ (own_below HAR5.out hb6)
    have HBN6 := hide_ (show BoxAt W6 W5.heap.size #[.int .u64 (la + (k : Int) + 1), .int .u8 tg, .int .i64 xa, .int .i64 xr] 51 from hW6 ▸ (BoxAt.new W5 _ _).below (Below.refl _ _).drew)
    have hs6 : W6.heap.size = W5.heap.size + 1 := by rw [← hW6]; simp
    obtain ⟨A7, c7, W7, hrun, ho7, hg7, hn7⟩ := run_append_named (P := Tryz.prog) W6 lo 28 51 _ 4 32 cell_info rfl (by omega) Tryz.underlying28 Ok m ok (Lk.flatMap celC) (by have := HFR6.out.ou; simp only [hm] at this; exact this) (W5.heap.size + 1) (some ⟨W5.heap.size, 0, none⟩) 1 1 (celC (la + (k : Int) + 1, tg, xa, xr)) rfl
      (fun _ => ⟨⟨W5.heap.size, 0, none⟩, rfl, Nat.lt_succ_self _, fun j u hj => by
        rw [Addr.add_lit, Nat.zero_add, HBN6.out.cell]
        simpa [celC] using hj⟩) (fun u hu => cel_one [(la + (k : Int) + 1, tg, xa, xr)] u (by simpa using hu)) (by omega) (by omega) (by omega)
    have hbl7 : Below lo W6 W7 := (Below.refl lo W6).grown hg7 (by omega) (fun g hg => (HFR6.out.ou.lt g (by simp only [hm]; exact hg)).1)
    have HBZ7 := hide_ (show BoxAt W7 z _ _ from (hbl7.block z HLO.out).trans HBZ6.out)
    have hne7 : ∀ g, (Value.slice Ok m ok).ownBlock = some g → lo ≤ g ∧ g < wr.heap.size := fun g hg => by
      have h2 := HATR.out.fresh.ou
      simp only [hm] at h2
      exact h2.lt g hg
    have HBC7 := hide_ (show BoxAt W7 wr.heap.size _ _ from (hg7.block wr.heap.size HBC6.out.lt (fun e => by have := (hne7 _ e.symm).2; omega)).trans HBC6.out)
    have hown7 : W7.ownsRow lo 51 4 (.slice A7 (m + 1) c7) (m + 1) ((Lk ++ [(la + (k : Int) + 1, tg, xa, xr)]).flatMap celC) := by
      rw [List.flatMap_append]
      simpa using ho7
    have hln : (Lk ++ [(la + (k : Int) + 1, tg, xa, xr)]).length = m + 1 := by rw [List.length_append, hm]; rfl
    have HFR7 := hide_ (show Fresh W7 lo ⟨1, inc, s, ⟨A1, c1, v⟩, ⟨dA, dc, dl⟩, ⟨A7, c7, Lk ++ [(la + (k : Int) + 1, tg, xa, xr)]⟩, (la + (k : Int) + 1), ⟨mA, mc, ml⟩⟩ from by
      have hf := HFR6.out
      have hou := hf.ou
      simp only [hm] at hou
      refine ⟨⟨hf.num.1, hf.num.2.1, hf.num.2.2.1, by unfold U64; simp only; omega⟩, hf.va.beside hou (by decide) hg7, own_beside hf.dn hou (by decide) hg7, fun d hd => ⟨(hf.di d hd).1, (hf.di d hd).2.beside hou (by decide) hg7⟩, by simp only [hln]; exact hown7, fun y hy => ?_, own_beside hf.ma hou (by decide) hg7, hf.mi⟩
      rcases List.mem_append.1 hy with hy | hy
      · exact hf.oi y hy
      · rw [List.mem_singleton] at hy
        subst hy
        exact ⟨by unfold U64; simp only; omega, HXN.out.1, HXN.out.2.1, HXN.out.2.2⟩)
    have HAR7 := hide_ (show W7.ownsRow W0.heap.size 51 4 (.slice (some ⟨g2, 0, none⟩) nc c2) nc (cv cc) from HAR6.out.kept hg7 (.inr (fun e => by
      have h2 := HOBR.out
      simp only [hm] at h2
      exact (h2 g2 e.symm).1 rfl)))
    have HOB7 := hide_ (show ∀ g, (Value.slice A7 (m + 1) c7).ownBlock = some g → (Value.slice (some ⟨g2, 0, none⟩) nc c2).ownBlock ≠ some g from fun g hg e => by
      rcases hn7 with h2 | h2
      · have h3 := HOBR.out
        simp only [hm] at h3
        exact (h3 g (h2 ▸ hg)).1 e
      · rw [h2] at hg
        injection hg with hg
        have h4 := (HAR6.out.lt g e).2
        omega)
    have hs7 : W6.heap.size ≤ W7.heap.size := hg7.size
    have hsr := HKBR.out.2
    have HOO7 := hide_ (show ∀ g, (Value.slice A7 (m + 1) c7).ownBlock = some g → ((Value.slice oA ol.length oc).ownBlock = some g ∨ w.heap.size ≤ g) from fun g hg => by
      rcases hn7 with h2 | h2
      · have h3 := HOBR.out
        simp only [hm] at h3
        exact (h3 g (h2 ▸ hg)).2
      · rw [h2] at hg
        injection hg with hg
        exact .inr (by omega))
    have HKB7 := hide_ (show KeepB (Value.slice oA ol.length oc).ownBlock z w W7 from fun g hg hgz hgb => by
      have h1 : wr.heap[g]? = w.heap[g]? := HKBR.out.1 g hg hgz hgb
      have h2 : W5.heap[g]? = wr.heap[g]? := hk5 g (by omega) hgz
      have h3 : W6.heap[g]? = W5.heap[g]? := hb6.block g (by omega)
      have h4 : W7.heap[g]? = W6.heap[g]? := hg7.block g (by omega) (fun e => by
        have h5 := HOBR.out
        simp only [hm] at h5
        rcases (h5 g e.symm).2 with h6 | h6
        · exact hgb h6
        · omega)
      exact h4.trans (h3.trans (h2.trans h1)))
    obtain ⟨W8, hW8⟩ : ∃ W8, W7.setCell ⟨z, 5, none⟩ (.slice A7 (m + 1) c7) = W8 := ⟨_, rfl⟩
    have HAT8 := hide_ (show At7 W8 lo z ⟨1, inc, s, ⟨A1, c1, v⟩, ⟨dA, dc, dl⟩, ⟨A7, c7, Lk ++ [(la + (k : Int) + 1, tg, xa, xr)]⟩, (la + (k : Int) + 1), ⟨mA, mc, ml⟩⟩ from ⟨by
      rw [← hW8]
      simp only [RegM.box, hln]
      exact heap_set 5 _ HBZ7.out, hW8 ▸ HFR7.out.far HLO.out, HLO.out, by rw [← hW8]; simp [World.setCell]; omega⟩)
    have HK8 := hide_ (show Kp z lo w W8 from hW8 ▸ (((HK5.out.trans (Kp.of (hb6.mono (by omega)) HLO.out)).trans (Kp.of hbl7 HLO.out)).box))
    have HAR8 := hide_ (show W8.ownsRow W0.heap.size 51 4 (.slice (some ⟨g2, 0, none⟩) nc c2) nc (cv cc) from hW8 ▸ ownsRow_setCell_below HAR7.out (show z < W0.heap.size from HAT0.out.box.lt) _)
    have HKB8 := hide_ (show KeepB (Value.slice oA ol.length oc).ownBlock z w W8 ∧ w.heap.size ≤ W8.heap.size from ⟨fun g hg hgz hgb => by
      rw [← hW8]
      exact (Below.heap_setCell _ ⟨z, 5, none⟩ _ g hgz).trans (HKB7.out g hg hgz hgb), by rw [← hW8]; simp [World.setCell]; omega⟩)
    have HLK8 := hide_ (show Lk ++ [(la + (k : Int) + 1, tg, xa, xr)] = ol ++ (numG la cc).take (k + 1) by
      rw [List.take_add_one, numG_at la cc k _ HX.out, HLK.out, List.append_assoc]
      rfl)
    have HW5 := hide_ hW5
    have HW6 := hide_ hW6
    have HW8 := hide_ hW8
    have HLN := hide_ hln
    clear hW5 hW6 hW8 hal hk5 hsc hb6 ho7 hg7 hbl7 hne7 hown7 hn7 hln
    have hz5 : z < W5.heap.size := HBZ5.out.lt
    have hz7 : z < W7.heap.size := HBZ7.out.lt
    have hgw2 : g2 < wr.heap.size := hg22
    go_upto_region 14 with fail
    rw [HW5.out]
    clear e0 e1 e2 e3 hcx hfx
    have hrun2 := hrun
    rw [← HW6.out] at hrun2
    have HS5 := hide_ hs5
    clear hs5 hs6
    have hz5c := HBZ5.out.cell 5
    have hc0c := HBC5.out.cell 0
    have hc1c := HBC5.out.cell 1
    have hc2c := HBC5.out.cell 2
    have hc3c := HBC5.out.cell 3
    have hz7c := HBZ7.out.cell 5
    have hz7f := HBZ7.out.frozen 5
    have hzl5 : wr.heap.size < W5.heap.size := HBC5.out.lt
    simp at hz5c hc0c hc1c hc2c hc3c hz7c
    go_region_law (refine step_append_known rfl _ _ 28 rfl _ _ (by simp [Act.eval]) (by simp [Act.eval]) hrun2 ?_)
    all_goals
      rw [HW8.out]
      go_wp2
      go_roundw
      case rel => exact ⟨k + 1, by omega, by go_num, ⟨A7, c7, _, HLK8.out, by have h := HAT8.out; rw [show la + ((k + 1 : Nat) : Int) = la + (k : Int) + 1 by omega]; exact h, by rw [HLN.out]; exact fun g hg => ⟨HOB7.out g hg, HOO7.out g hg⟩⟩, HKB8.out, HK8.out, HAR8.out⟩
      case measure => simp [intOf]; omega
end Go.Proofs.YtpiikdinphnjbaaGreat
