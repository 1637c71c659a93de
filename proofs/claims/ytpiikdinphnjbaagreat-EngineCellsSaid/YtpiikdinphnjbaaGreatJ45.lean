/-
  Texts of this claim put together: Del7.
-/
import Derived.Test.YtpiikdinphnjbaaGreatJ44
/-
  slices.DeleteFunc of cells in a row of one's own; engine's clearCell, read, remove.
-/
namespace Go.Proofs.YtpiikdinphnjbaaGreat
open Go.RowKit

section
variable {P : Program}
theorem zeroCells_one {z : Array Value} (hz : ∀ v ∈ z.toList, v.oneCell' = true) (hs : 0 < z.size) (n : Nat) : ∀ v ∈ (Builtin.zeroCells z n).toList, v.oneCell' = true := by
  intro v hv
  simp only [Builtin.zeroCells, Array.toList_map, List.mem_map] at hv
  obtain ⟨i, _, rfl⟩ := hv
  have hlt : i % z.size < z.size := Nat.mod_lt _ hs
  rw [getElem!_pos z (i % z.size) hlt]
  exact hz _ (by simp)
theorem run_clear_named (w : World) (t elem : TypeId) (i : TypeInfo) (z : Value) (q g o m k : Nat) (cur : Array Value) (ty0 : TypeId)
    (hu : P.underlying t = some (.slice elem)) (hi : P.info? elem = some i) (hz : i.zero = some z) (hq : z.cells.size = q) (hq0 : 0 < q) (h1 : ∀ v ∈ z.cells.toList, v.oneCell' = true) (hm : 0 < m)
    (hg : w.heap[g]? = some (.cells cur ty0 (0, 0))) (hfit : o + m * q ≤ cur.size) :
    ∃ w', (∀ ty, (Builtin.clear_ #[t] ty #[.slice (some ⟨g, o, none⟩) m k]).run P w = .ok (.tuple #[]) w') ∧
      (∃ Z : List Value, Z.length = m * q ∧ w'.heap[g]? = some (.cells (cur.toList.take o ++ Z ++ cur.toList.drop (o + Z.length)).toArray ty0 (0, 0))) ∧ w.grownBy w' (some g) ∧ w'.heap.size = w.heap.size := by
  have hl : (Builtin.zeroCells z.cells m).toList.length = m * q := by simp [Builtin.zeroCells, hq]
  have hst := run_storeCells_at P g o ty0 (Builtin.zeroCells z.cells m).toList 0 cur w hg (by rw [hl]; simpa using hfit) (zeroCells_one h1 (by omega) m)
  refine ⟨_, fun ty => ?_, ⟨_, hl, setRow_heap w g cur _ ty0 _ hg⟩, ⟨rfl, rfl, rfl, by simp, fun k _ hk => setRow_other w g k _ (fun e => hk (by rw [e]))⟩, by simp⟩
  obtain ⟨m, rfl⟩ : ∃ j, m = j + 1 := ⟨m - 1, by omega⟩
  simp only [Nat.add_zero] at hst
  simp [Builtin.clear_, run_underlying hu, zeroValue, typeInfo, hi, hz, hst]
/-- the walk's step: a clear whose run is known -/
theorem wpList_clear_known (w : World) {ops : Array Oper} {rest : List Oper} {o : Oper} {a : Act} {Q : Exit → Act → World → Prop} (hgd : Region.wanted o (yielded ops a.tmps) = true) (d : Operand) (t : TypeId)
    (ho : o.op = .call { callee := .builtin .clear, args := #[d], argTypes := #[t] }) (v : Value) (hd : a.eval d = v) {v' : Value} {w' : World}
    (hr : ∀ ty, (Builtin.clear_ #[t] ty #[v]).run P w = .ok v' w') (h : wpList P ops Q rest (a.put o.dst v') w') : wpList P ops Q (o :: rest) a w := by
  refine wpList_step fun _ hK => ?_
  rw [if_pos hgd]
  unfold Oper.wp execOp
  simp only [ho, resolve, invoke, builtin, Sem.run_bind, Sem.run_pure, Result.andThen_ok, List.map_toArray, List.map_cons, List.map_nil, hd, hr]
  exact hK _ _ h
end
/-- what a deletion leaves -/
def DelOut (r : List CelM) (lo : Nat) (row : Option Nat) (w : World) (e : Ending) (w' : World) : Prop :=
  ∃ A' c', e = .returned (.slice A' r.length c') ∧ w'.ownsRow lo 51 4 (.slice A' r.length c') r.length (r.flatMap celC) ∧ w.grownBy w' row
theorem grown_more {a b c : World} {row : Option Nat} (h : a.grownBy b row) (k : b.grownBy c row) : a.grownBy c row :=
  ⟨k.os.trans h.os, k.tape.trans h.tape, k.output.trans h.output, Nat.le_trans h.size k.size, fun i hi hne => (k.block i (Nat.lt_of_lt_of_le hi h.size) hne).trans (h.block i hi hne)⟩
theorem grown_of {w w' : World} (h : Below w.heap.size w w') (row : Option Nat) : w.grownBy w' row := ⟨h.os, h.tape, h.output, h.size, fun k hk _ => h.block k hk⟩

set_option maxRecDepth 100000 in
set_option maxHeartbeats 6400000 in
theorem del_any (p : CelM → Bool) (f : Nat) (cap : Array Value) (I : World → Prop) (A : Option Addr) (n c : Nat) (l : List CelM) (lo : Nat) (w : World) (h : w.ownsRow lo 51 4 (.slice A n c) n (l.flatMap celC)) (hl : l.length = n) (hn : n ≤ 50) (hci : ∀ x ∈ l, celIn x) (hI : I w)
    (hst : ∀ u u', I u → u.grownBy u' (Value.slice A n c).ownBlock → I u') (he : ∀ args w, (callFunc f args).run Tryz.prog w = .ok (.enter f args) w)
    (hf : ∀ x wr, I wr → Calls Tryz.prog f (#[celV x] ++ cap) wr fun e w' => e = .returned (.bool (p x)) ∧ Below wr.heap.size wr w') :
    Calls Tryz.prog 65 #[.slice A n c, .func (.func f) #[] cap] w (DelOut (l.filter fun x => !p x) lo (Value.slice A n c).ownBlock w) := by
  have HO := hide_ h
  have HL := hide_ hl
  have HST := hide_ hst
  have HF := hide_ hf
  have HI := hide_ hI
  have hcn : n ≤ c := own_cap h
  have HCO := hide_ (show celsOk w w.heap.size ⟨A, c, l⟩ from ⟨by simp only [hl]; exact hcn, (own_bounds h).2, Sees.ownRow h, hci⟩)
  have HIX := hide_ (indexCell_any (fun k => match l[k]? with | some x => p x | none => false) (fun _ u => I u) f cap ⟨A, c, l⟩ w.heap.size w HCO.out (Nat.le_refl _) hI he (fun k x wr hx hb hIk => by
    simp only [hx]
    exact (hf x wr hIk).mono fun e w' h => ⟨h.1, fun _ => hst _ _ hIk (grown_of h.2 _), h.2.mono hb.size⟩))
  simp only [Sl.v, hl] at HIX
  obtain ⟨R, hR⟩ : ∃ R, l.filter (fun x => !p x) = R := ⟨_, rfl⟩
  have HR := hide_ hR
  rw [hR]
  clear h hl hst hf hI hR hci
  cases hi : idxO (fun k => match l[k]? with | some x => p x | none => false) n with
  | none =>
    have h1 : idxI (fun k => match l[k]? with | some x => p x | none => false) n = -1 := by unfold idxI; rw [hi]
    rw [h1] at HIX
    have HP := hide_ (show R = l by
      rw [← HR.out]
      refine List.filter_eq_self.2 fun x hx => ?_
      obtain ⟨k, hk, rfl⟩ := List.getElem_of_mem hx
      have h2 := idxI_none (p := fun k => match l[k]? with | some x => p x | none => false) (n := n)
      unfold idxO at hi
      rw [List.find?_eq_none] at hi
      have := hi k (by rw [List.mem_range]; have := HL.out; omega)
      simp only [List.getElem?_eq_getElem hk] at this
      simpa using this)
    clear hi h1
    go_enter Tryz.func65, Tryz.ntmps65
    go_wp2_with fail
    refine HIX.out.mono ?_
    rintro en w1 ⟨rfl, hb1⟩
    have HB1 := hide_ hb1
    clear hb1
    go_wp2
    go_ret
    rw [HP.out]
    exact ⟨A, c, by rw [HL.out]; rfl, by rw [HL.out]; exact own_below HO.out HB1.out, grown_of HB1.out _⟩
  | some k0 =>
    obtain ⟨hk1, hk2, hk3⟩ := idx_some hi
    have h1 : idxI (fun k => match l[k]? with | some x => p x | none => false) n = k0 := by unfold idxI; rw [hi]
    rw [h1] at HIX
    have HK2 := hide_ hk2
    have HK3 := hide_ hk3
    obtain ⟨g, rfl, hg1, hg2, -⟩ := own_some HO.out (by omega)
    clear hi h1 hk2 hk3
    obtain ⟨x0, hx0⟩ : ∃ x, l[k0]? = some x := ⟨_, List.getElem?_eq_getElem (by rw [HL.out]; exact hk1)⟩
    have HT0 := hide_ (show (l.take (k0 + 1)).filter (fun x => !p x) = l.take k0 by
      rw [List.take_add_one, hx0, List.filter_append, filter_full fun x hx => ?_]
      · have := HK2.out
        simp only [hx0] at this
        simp [this]
      · obtain ⟨t, ht, hx⟩ := mem_take_at hx
        have := HK3.out t ht
        simp only [hx] at this
        simp [this])
    clear hx0
    go_enter Tryz.func65, Tryz.ntmps65
    go_wp2_with fail
    refine HIX.out.mono ?_
    rintro en w1 ⟨rfl, hb1⟩
    have HB1 := hide_ hb1
    clear hb1
    have HO1 := hide_ (own_below HO.out HB1.out)
    have HI1 := hide_ (HST.out _ _ HI.out (grown_of HB1.out _))
    have d12 : ((k0 : Int) == -1) = false := beq_eq_false_iff_ne.2 (by omega)
    go_wp2
    go_loopw [5, 6] (fun i j wr => ∃ (a b : Nat) (m : List CelM), a < b ∧ b ≤ n ∧ i = .int .i64 a ∧ j = .int .i64 b ∧ Hid (m.length = n ∧ m.take a = (l.take b).filter (fun x => !p x) ∧ m.drop b = l.drop b) ∧ Hid (wr.ownsRow lo 51 4 (.slice (some ⟨g, 0, none⟩) n c) n (m.flatMap celC)) ∧ Hid (I wr) ∧ Hid (w.grownBy wr (some g))) (fun _ j _ => n - (intOf j).toNat)
    case atStart => exact ⟨k0, k0 + 1, l, by omega, by omega, rfl, by go_num, ⟨HL.out, HT0.out.symm, rfl⟩, HO1.out, HI1.out, grown_of HB1.out _⟩
    case round =>
      obtain ⟨a, b, m, hab, hbn, rfl, rfl, HM, HW, HIW, HG⟩ := hrel
      by_cases hlt : b < n
      · obtain ⟨x, hx⟩ : ∃ x, l[b]? = some x := ⟨_, List.getElem?_eq_getElem (by rw [HL.out]; exact hlt)⟩
        have hxm : m[b]? = some x := by
          have := congrArg (fun y => y[0]?) HM.out.2.2
          simp only [List.getElem?_drop, Nat.add_zero] at this
          rw [this, hx]
        have HX := hide_ hx
        have hgw : g < wr.heap.size := (HW.out.lt g rfl).2
        have e0 : wr.cell? ⟨g, b * 4, none⟩ = some (.int .u64 x.1) := by
          rw [HW.out.cellAt (b * 4) (by omega)]
          exact (flat_get (cs := celC) (q := 4) (fun _ => rfl) m b 0 _ hxm (by omega)).trans rfl
        have e1 : wr.cell? ⟨g, b * 4 + 1, none⟩ = some (.int .u8 x.2.1) := by
          rw [HW.out.cellAt (b * 4 + 1) (by omega)]
          exact (flat_get (cs := celC) (q := 4) (fun _ => rfl) m b 1 _ hxm (by omega)).trans rfl
        have e2 : wr.cell? ⟨g, b * 4 + 2, none⟩ = some (.int .i64 x.2.2.1) := by
          rw [HW.out.cellAt (b * 4 + 2) (by omega)]
          exact (flat_get (cs := celC) (q := 4) (fun _ => rfl) m b 2 _ hxm (by omega)).trans rfl
        have e3 : wr.cell? ⟨g, b * 4 + 3, none⟩ = some (.int .i64 x.2.2.2) := by
          rw [HW.out.cellAt (b * 4 + 3) (by omega)]
          exact (flat_get (cs := celC) (q := 4) (fun _ => rfl) m b 3 _ hxm (by omega)).trans rfl
        have HTK := hide_ (show (l.take (b + 1)).filter (fun x => !p x) = m.take a ++ if p x = true then [] else [x] by
          rw [List.take_add_one, hx, List.filter_append, HM.out.2.1]
          cases hp : p x <;> simp [hp])
        have HDR := hide_ (show m.drop (b + 1) = l.drop (b + 1) by
          have := congrArg (List.drop 1) HM.out.2.2
          simpa [List.drop_drop, Nat.add_comm] using this)
        clear hx hxm
        obtain ⟨cn, tg, ac, ar⟩ := x
        simp only at e0 e1 e2 e3
        have HBX := hide_ (show Below wr.heap.size wr (wr.alloc (.cells #[.int .u64 cn, .int .u8 tg, .int .i64 ac, .int .i64 ar] 51)) from (Below.refl _ _).alloc (Nat.le_refl _) _)
        have HXB := hide_ (BoxAt.new wr #[.int .u64 cn, .int .u8 tg, .int .i64 ac, .int .i64 ar] 51)
        have HC := hide_ (HF.out (cn, tg, ac, ar) _ (HST.out _ _ HIW.out (grown_of HBX.out _)))
        go_wp2_with fail
        clear e0 e1 e2 e3
        refine HC.out.mono ?_
        rintro en w2 ⟨rfl, hb2⟩
        have HB2 := hide_ (HBX.out.trans (hb2.mono (by simp)))
        have HX2 := hide_ (HXB.out.below hb2)
        have HO2 := hide_ (own_below HW.out HB2.out)
        have HI2 := hide_ (HST.out _ _ HIW.out (grown_of HB2.out _))
        have HG2 := hide_ (grown_more HG.out (grown_of HB2.out _))
        have hgw2 : g < w2.heap.size := (HO2.out.lt g rfl).2
        have hcx := HX2.out.cell
        have hzx := HX2.out.lt
        clear hb2
        cases hp : p (cn, tg, ac, ar) with
        | true =>
          have HN := hide_ (show m.take a = (l.take (b + 1)).filter (fun x => !p x) by rw [HTK.out, hp]; simp)
          clear hp
          go_wp2
          go_roundw
          case rel => exact ⟨a, b + 1, m, by omega, by omega, rfl, by go_num, ⟨HM.out.1, HN.out, HDR.out⟩, HO2.out, HI2.out, HG2.out⟩
          case measure => simp [intOf]; omega
        | false =>
          have hml := HM.out.1
          have HSET := hide_ (show (m.set a (cn, tg, ac, ar)).length = n ∧ (m.set a (cn, tg, ac, ar)).take (a + 1) = (l.take (b + 1)).filter (fun x => !p x) ∧ (m.set a (cn, tg, ac, ar)).drop (b + 1) = l.drop (b + 1) by
            refine ⟨by rw [List.length_set]; exact hml, ?_, ?_⟩
            · rw [HTK.out, hp, List.take_add_one, List.take_set_of_le (by omega), List.getElem?_set, if_pos rfl, if_pos (by omega)]
              rfl
            · rw [List.drop_set_of_lt (by omega)]
              exact HDR.out)
          obtain ⟨ya, hya⟩ : ∃ y, m[a]? = some y := ⟨_, List.getElem?_eq_getElem (by omega)⟩
          have e0 : w2.cell? ⟨g, a * 4, none⟩ = some (.int .u64 ya.1) := by
            rw [HO2.out.cellAt (a * 4) (by omega)]
            exact (flat_get (cs := celC) (q := 4) (fun _ => rfl) m a 0 _ hya (by omega)).trans rfl
          have e1 : w2.cell? ⟨g, a * 4 + 1, none⟩ = some (.int .u8 ya.2.1) := by
            rw [HO2.out.cellAt (a * 4 + 1) (by omega)]
            exact (flat_get (cs := celC) (q := 4) (fun _ => rfl) m a 1 _ hya (by omega)).trans rfl
          have e2 : w2.cell? ⟨g, a * 4 + 2, none⟩ = some (.int .i64 ya.2.2.1) := by
            rw [HO2.out.cellAt (a * 4 + 2) (by omega)]
            exact (flat_get (cs := celC) (q := 4) (fun _ => rfl) m a 2 _ hya (by omega)).trans rfl
          have e3 : w2.cell? ⟨g, a * 4 + 3, none⟩ = some (.int .i64 ya.2.2.2) := by
            rw [HO2.out.cellAt (a * 4 + 3) (by omega)]
            exact (flat_get (cs := celC) (q := 4) (fun _ => rfl) m a 3 _ hya (by omega)).trans rfl
          have f0 : w2.frozen? ⟨g, a * 4, none⟩ = false := HO2.out.frozenAt _
          have f1 : w2.frozen? ⟨g, a * 4 + 1, none⟩ = false := HO2.out.frozenAt _
          have f2 : w2.frozen? ⟨g, a * 4 + 2, none⟩ = false := HO2.out.frozenAt _
          have f3 : w2.frozen? ⟨g, a * 4 + 3, none⟩ = false := HO2.out.frozenAt _
          obtain ⟨U, hU⟩ : ∃ U, w2.setCells g (a * 4) [.int .u64 cn, .int .u8 tg, .int .i64 ac, .int .i64 ar] = U := ⟨_, rfl⟩
          have hU2 := own_setCells [.int .u64 cn, .int .u8 tg, .int .i64 ac, .int .i64 ar] (a * 4) w2 _ HO2.out (by rw [flat_len (q := 4) (fun _ => rfl), hml]; simp; omega)
          rw [hU] at hU2
          have hfo := flat_over (cs := celC) (q := 4) (fun _ => rfl) (l := m) (i := a) (d := (cn, tg, ac, ar)) (by omega)
          have HOU := hide_ (show U.ownsRow lo 51 4 (.slice (some ⟨g, 0, none⟩) n c) n ((m.set a (cn, tg, ac, ar)).flatMap celC) by rw [← hfo]; exact hU2.1)
          have HGU := hide_ (grown_more HG2.out hU2.2.1)
          have HIU := hide_ (HST.out _ _ HI2.out hU2.2.1)
          have HU := hide_ (show ((((w2.setCell ⟨g, a * 4, none⟩ (.int .u64 cn)).setCell ⟨g, a * 4 + 1, none⟩ (.int .u8 tg)).setCell ⟨g, a * 4 + 2, none⟩ (.int .i64 ac)).setCell ⟨g, a * 4 + 3, none⟩ (.int .i64 ar)) = U from hU)
          clear hp hU hU2 hya hfo hml
          go_wp2
          rw [HU.out]
          go_roundw
          case rel => exact ⟨a + 1, b + 1, _, by omega, by omega, by go_num, by go_num, HSET, HOU, HIU, HGU⟩
          case measure => simp [intOf]; omega
      · obtain rfl : b = n := by omega
        have HRL := hide_ (show m.take a = R by rw [HM.out.2.1, List.take_of_length_le (by rw [HL.out]; exact Nat.le_refl _), HR.out])
        have hml := HM.out.1
        obtain ⟨i0, hi0, hz0, hz1, hz2⟩ := info_parts cell_info
        obtain ⟨hlen, h0 | ⟨g', cap', cur, h0, hlog, hg, hnc, hcm, hcs, htake⟩⟩ := HW.out
        · exact absurd h0.1 (by simp)
        simp only [Value.slice.injEq, Option.some.injEq, Addr.mk.injEq, and_true, true_and] at h0
        obtain ⟨rfl, rfl⟩ := h0
        obtain ⟨U, hcl, ⟨Z, hZ, hUh⟩, hUg, hUs⟩ := run_clear_named (P := Tryz.prog) wr 28 51 i0 _ 4 g (a * 4) (b - a) (c - a) cur 51 Tryz.underlying28 hi0 hz0 rfl (by omega) (by intro v hv; simp [Value.cells] at hv; rcases hv with rfl | rfl | rfl | rfl <;> rfl) (by omega) hg (by rw [hcs]; omega)
        have hRl : R.length = a := by rw [← HRL.out, List.length_take]; omega
        have hta : (cur.toList.take (a * 4)) = R.flatMap celC := by
          rw [← HRL.out, ← flat_take (cs := celC) (q := 4) (fun _ => rfl), ← htake, List.take_take, Nat.min_eq_left (by omega)]
        have HOUT := hide_ (show DelOut R lo (some g) w (.returned (.slice (some ⟨g, 0, none⟩) a c)) U from
          ⟨some ⟨g, 0, none⟩, c, by rw [hRl], by
            rw [hRl]
            refine ⟨by rw [flat_len (q := 4) (fun _ => rfl), hRl], .inr ⟨g, c, _, rfl, hlog, hUh, by omega, hcm, ?_, ?_⟩⟩
            · simp only [List.size_toArray, List.length_append, List.length_take, List.length_drop, Array.length_toList, hcs, hZ]
              omega
            · show List.take (a * 4) (cur.toList.take (a * 4) ++ Z ++ _) = _
              rw [List.append_assoc, List.take_append_of_le_length (by simp only [List.length_take, Array.length_toList, hcs]; omega), List.take_take, Nat.min_self]
              exact hta, grown_more HG.out hUg⟩)
        have hc63 : c ≤ 9223372036854775807 := by unfold maxLen at hcm; omega
        have hn1 : ¬ (c = a) := by omega
        clear hlen hlog hg hcm hcs htake hUh hUg hUs hZ hRl hta hi0 hz0 hz1 hz2 hml
        go_wp2_with (at_builtin; refine wpList_clear_known _ rfl _ 28 rfl _ rfl hcl ?_)
        go_ret
        exact HOUT.out
end Go.Proofs.YtpiikdinphnjbaaGreat
