/-
  Texts of this claim put together: Find6, Many, Tk5, Tk6, Tk6b, May6.
-/
import Derived.Test.YtpiikdinphnjbaaGreatJ22
import Derived.Test.YtpiikdinphnjbaaGreatJ09
import Derived.Deep.RegionHeldLaw
import Derived.IntWalk
import Derived.Test.YtpiikdinphnjbaaGreatJ23
import Derived.Test.YtpiikdinphnjbaaGreatJ24
import Derived.Test.YtpiikdinphnjbaaGreatJ25
/-
  Contracts of IndexFunc and ContainsFunc at entries, cells and marks.
-/
namespace Go.Proofs.YtpiikdinphnjbaaGreat
open Go.RowKit

set_option maxHeartbeats 800000 in
set_option maxRecDepth 100000 in
theorem indexDone_any (p : Nat → Bool) (I : Nat → World → Prop) (f : Nat) (cap : Array Value) (s : Sl (DoneM)) (B : Nat) (w : World) (hs : dnsOk w B s) (hB : B ≤ w.heap.size) (h0 : I 0 w)
    (he : ∀ args w, (callFunc f args).run Tryz.prog w = .ok (.enter f args) w) (hf : ∀ k x wr, s.l[k]? = some x → Below B w wr → I k wr → Calls Tryz.prog f (#[DoneM.v x] ++ cap) wr (Ans B wr (p k) (I (k + 1)))) :
    Calls Tryz.prog 37 #[s.v, .func (.func f) #[] cap] w fun e w' => e = .returned (.int .i64 (idxI p s.l.length)) ∧ Below B w w' := by
  obtain ⟨A, c, l⟩ := s
  obtain ⟨h1, h2, h3, h4⟩ := hs
  obtain ⟨n, hn⟩ : ∃ n, l.length = n := ⟨_, rfl⟩
  have HS := hide_ h3
  have HF := hide_ hf
  have HN := hide_ hn
  have HI := hide_ h0
  simp only [Sl.v, hn] at h1 h2 ⊢
  have hnm : n ≤ 9223372036854775807 := by unfold maxLen at h2; omega
  clear h3 hf hn h0 h4 h1 h2
  go_enter Tryz.func37, Tryz.ntmps37
  go_wp2
  go_loopw [8] (fun i wr => ∃ k : Nat, k ≤ n ∧ i = .int .i64 k ∧ Hid (∀ j, j < k → p j = false) ∧ Hid (I k wr) ∧ Below B w wr) (fun i _ => n - (intOf i).toNat)
  case atStart => exact ⟨0, Nat.zero_le _, rfl, (fun j hj => absurd hj (by omega)), HI.out, Below.refl _ _⟩
  case round =>
    obtain ⟨k, hk, rfl, HJ, HK, hb⟩ := hrel
    by_cases hlt : k < n
    · obtain ⟨x, hx⟩ : ∃ x, l[k]? = some x := ⟨_, List.getElem?_eq_getElem (by rw [HN.out]; exact hlt)⟩
      have hs1 := HS.out.below hb
      obtain ⟨tb, ot, rfl, hab, e0, e1, e2, e3, e4, e5⟩ := hs1.done hx
      have hwz : tb < wr.heap.size := by have := hb.size; omega
      have HC := hide_ (HF.out k x wr hx hb HK.out)
      have HX := hide_ hx
      clear hx hs1
      obtain ⟨cl, sq, er, inc, st, ⟨vA, vc, vl⟩⟩ := x
      go_wp2_with fail
      refine HC.out.mono ?_
      rintro en w2 ⟨rfl, hI2, hb2⟩
      have HI2 := hide_ hI2
      clear hI2
      cases hp : p k with
      | true =>
        have HP := hide_ (show idxI p n = k from idxI_hit hlt hp HJ.out)
        clear hp
        go_wp2
        go_ret
        exact ⟨ret_i64T HP.out.symm, hb.trans hb2⟩
      | false =>
        have HJ2 := hide_ (show ∀ j, j < k + 1 → p j = false from fun j hj => by
          by_cases h : j = k
          · rw [h]; exact hp
          · exact HJ.out j (by omega))
        have HI3 := hide_ (HI2.out hp)
        clear hp
        go_wp2
        go_roundw
        case rel => exact ⟨k + 1, by omega, by go_num, HJ2, HI3, hb.trans hb2⟩
        case measure => simp [intOf]; omega
    · obtain rfl : k = n := by omega
      have HP := hide_ (show idxI p k = -1 from idxI_none HJ.out)
      go_wp2
      go_ret
      exact ⟨ret_i64T HP.out.symm, hb⟩

theorem containsDone_any (p : Nat → Bool) (I : Nat → World → Prop) (f : Nat) (cap : Array Value) (s : Sl (DoneM)) (B : Nat) (w : World) (hs : dnsOk w B s) (hB : B ≤ w.heap.size) (h0 : I 0 w)
    (he : ∀ args w, (callFunc f args).run Tryz.prog w = .ok (.enter f args) w) (hf : ∀ k x wr, s.l[k]? = some x → Below B w wr → I k wr → Calls Tryz.prog f (#[DoneM.v x] ++ cap) wr (Ans B wr (p k) (I (k + 1)))) :
    Calls Tryz.prog 109 #[s.v, .func (.func f) #[] cap] w fun e w' => e = .returned (.bool (anyB p s.l.length)) ∧ Below B w w' := by
  have HC := hide_ (indexDone_any p I f cap s B w hs hB h0 he hf)
  have HP := hide_ (anyB_idx p s.l.length)
  clear hf he hs h0
  generalize s.l.length = n at HC HP
  obtain ⟨q, hq⟩ : ∃ q, idxI p n = q := ⟨_, rfl⟩
  rw [hq] at HC HP
  clear hq
  generalize s.v = v at HC
  go_enter Tryz.func109, Tryz.ntmps109
  go_wp2_with fail
  refine HC.out.mono ?_
  rintro en w1 ⟨rfl, hb⟩
  go_wp2
  go_ret
  exact ⟨ret_boolT HP.out, hb⟩


set_option maxHeartbeats 800000 in
set_option maxRecDepth 100000 in
theorem indexCell_any (p : Nat → Bool) (I : Nat → World → Prop) (f : Nat) (cap : Array Value) (s : Sl (CelM)) (B : Nat) (w : World) (hs : celsOk w B s) (hB : B ≤ w.heap.size) (h0 : I 0 w)
    (he : ∀ args w, (callFunc f args).run Tryz.prog w = .ok (.enter f args) w) (hf : ∀ k x wr, s.l[k]? = some x → Below B w wr → I k wr → Calls Tryz.prog f (#[celV x] ++ cap) wr (Ans B wr (p k) (I (k + 1)))) :
    Calls Tryz.prog 96 #[s.v, .func (.func f) #[] cap] w fun e w' => e = .returned (.int .i64 (idxI p s.l.length)) ∧ Below B w w' := by
  obtain ⟨A, c, l⟩ := s
  obtain ⟨h1, h2, h3, h4⟩ := hs
  obtain ⟨n, hn⟩ : ∃ n, l.length = n := ⟨_, rfl⟩
  have HS := hide_ h3
  have HF := hide_ hf
  have HN := hide_ hn
  have HI := hide_ h0
  simp only [Sl.v, hn] at h1 h2 ⊢
  have hnm : n ≤ 9223372036854775807 := by unfold maxLen at h2; omega
  clear h3 hf hn h0 h4 h1 h2
  go_enter Tryz.func96, Tryz.ntmps96
  go_wp2
  go_loopw [8] (fun i wr => ∃ k : Nat, k ≤ n ∧ i = .int .i64 k ∧ Hid (∀ j, j < k → p j = false) ∧ Hid (I k wr) ∧ Below B w wr) (fun i _ => n - (intOf i).toNat)
  case atStart => exact ⟨0, Nat.zero_le _, rfl, (fun j hj => absurd hj (by omega)), HI.out, Below.refl _ _⟩
  case round =>
    obtain ⟨k, hk, rfl, HJ, HK, hb⟩ := hrel
    by_cases hlt : k < n
    · obtain ⟨x, hx⟩ : ∃ x, l[k]? = some x := ⟨_, List.getElem?_eq_getElem (by rw [HN.out]; exact hlt)⟩
      have hs1 := HS.out.below hb
      obtain ⟨tb, ot, rfl, hab, e0, e1, e2, e3⟩ := hs1.cel hx
      have hwz : tb < wr.heap.size := by have := hb.size; omega
      have HC := hide_ (HF.out k x wr hx hb HK.out)
      have HX := hide_ hx
      clear hx hs1
      obtain ⟨cl, b, c', d⟩ := x
      go_wp2_with fail
      refine HC.out.mono ?_
      rintro en w2 ⟨rfl, hI2, hb2⟩
      have HI2 := hide_ hI2
      clear hI2
      cases hp : p k with
      | true =>
        have HP := hide_ (show idxI p n = k from idxI_hit hlt hp HJ.out)
        clear hp
        go_wp2
        go_ret
        exact ⟨ret_i64T HP.out.symm, hb.trans hb2⟩
      | false =>
        have HJ2 := hide_ (show ∀ j, j < k + 1 → p j = false from fun j hj => by
          by_cases h : j = k
          · rw [h]; exact hp
          · exact HJ.out j (by omega))
        have HI3 := hide_ (HI2.out hp)
        clear hp
        go_wp2
        go_roundw
        case rel => exact ⟨k + 1, by omega, by go_num, HJ2, HI3, hb.trans hb2⟩
        case measure => simp [intOf]; omega
    · obtain rfl : k = n := by omega
      have HP := hide_ (show idxI p k = -1 from idxI_none HJ.out)
      go_wp2
      go_ret
      exact ⟨ret_i64T HP.out.symm, hb⟩

theorem containsCell_any (p : Nat → Bool) (I : Nat → World → Prop) (f : Nat) (cap : Array Value) (s : Sl (CelM)) (B : Nat) (w : World) (hs : celsOk w B s) (hB : B ≤ w.heap.size) (h0 : I 0 w)
    (he : ∀ args w, (callFunc f args).run Tryz.prog w = .ok (.enter f args) w) (hf : ∀ k x wr, s.l[k]? = some x → Below B w wr → I k wr → Calls Tryz.prog f (#[celV x] ++ cap) wr (Ans B wr (p k) (I (k + 1)))) :
    Calls Tryz.prog 113 #[s.v, .func (.func f) #[] cap] w fun e w' => e = .returned (.bool (anyB p s.l.length)) ∧ Below B w w' := by
  have HC := hide_ (indexCell_any p I f cap s B w hs hB h0 he hf)
  have HP := hide_ (anyB_idx p s.l.length)
  clear hf he hs h0
  generalize s.l.length = n at HC HP
  obtain ⟨q, hq⟩ : ∃ q, idxI p n = q := ⟨_, rfl⟩
  rw [hq] at HC HP
  clear hq
  generalize s.v = v at HC
  go_enter Tryz.func113, Tryz.ntmps113
  go_wp2_with fail
  refine HC.out.mono ?_
  rintro en w1 ⟨rfl, hb⟩
  go_wp2
  go_ret
  exact ⟨ret_boolT HP.out, hb⟩


set_option maxHeartbeats 800000 in
set_option maxRecDepth 100000 in
theorem indexMark_any (p : Nat → Bool) (I : Nat → World → Prop) (f : Nat) (cap : Array Value) (s : Sl (MrkM)) (B : Nat) (w : World) (hs : mrksOk w B s) (hB : B ≤ w.heap.size) (h0 : I 0 w)
    (he : ∀ args w, (callFunc f args).run Tryz.prog w = .ok (.enter f args) w) (hf : ∀ k x wr, s.l[k]? = some x → Below B w wr → I k wr → Calls Tryz.prog f (#[mrkV x] ++ cap) wr (Ans B wr (p k) (I (k + 1)))) :
    Calls Tryz.prog 52 #[s.v, .func (.func f) #[] cap] w fun e w' => e = .returned (.int .i64 (idxI p s.l.length)) ∧ Below B w w' := by
  obtain ⟨A, c, l⟩ := s
  obtain ⟨h1, h2, h3, h4⟩ := hs
  obtain ⟨n, hn⟩ : ∃ n, l.length = n := ⟨_, rfl⟩
  have HS := hide_ h3
  have HF := hide_ hf
  have HN := hide_ hn
  have HI := hide_ h0
  simp only [Sl.v, hn] at h1 h2 ⊢
  have hnm : n ≤ 9223372036854775807 := by unfold maxLen at h2; omega
  clear h3 hf hn h0 h4 h1 h2
  go_enter Tryz.func52, Tryz.ntmps52
  go_wp2
  go_loopw [8] (fun i wr => ∃ k : Nat, k ≤ n ∧ i = .int .i64 k ∧ Hid (∀ j, j < k → p j = false) ∧ Hid (I k wr) ∧ Below B w wr) (fun i _ => n - (intOf i).toNat)
  case atStart => exact ⟨0, Nat.zero_le _, rfl, (fun j hj => absurd hj (by omega)), HI.out, Below.refl _ _⟩
  case round =>
    obtain ⟨k, hk, rfl, HJ, HK, hb⟩ := hrel
    by_cases hlt : k < n
    · obtain ⟨x, hx⟩ : ∃ x, l[k]? = some x := ⟨_, List.getElem?_eq_getElem (by rw [HN.out]; exact hlt)⟩
      have hs1 := HS.out.below hb
      obtain ⟨tb, ot, rfl, hab, e0, e1, e2⟩ := hs1.mrk hx
      have hwz : tb < wr.heap.size := by have := hb.size; omega
      have HC := hide_ (HF.out k x wr hx hb HK.out)
      have HX := hide_ hx
      clear hx hs1
      obtain ⟨cl, b, c'⟩ := x
      go_wp2_with fail
      refine HC.out.mono ?_
      rintro en w2 ⟨rfl, hI2, hb2⟩
      have HI2 := hide_ hI2
      clear hI2
      cases hp : p k with
      | true =>
        have HP := hide_ (show idxI p n = k from idxI_hit hlt hp HJ.out)
        clear hp
        go_wp2
        go_ret
        exact ⟨ret_i64T HP.out.symm, hb.trans hb2⟩
      | false =>
        have HJ2 := hide_ (show ∀ j, j < k + 1 → p j = false from fun j hj => by
          by_cases h : j = k
          · rw [h]; exact hp
          · exact HJ.out j (by omega))
        have HI3 := hide_ (HI2.out hp)
        clear hp
        go_wp2
        go_roundw
        case rel => exact ⟨k + 1, by omega, by go_num, HJ2, HI3, hb.trans hb2⟩
        case measure => simp [intOf]; omega
    · obtain rfl : k = n := by omega
      have HP := hide_ (show idxI p k = -1 from idxI_none HJ.out)
      go_wp2
      go_ret
      exact ⟨ret_i64T HP.out.symm, hb⟩

theorem containsMark_any (p : Nat → Bool) (I : Nat → World → Prop) (f : Nat) (cap : Array Value) (s : Sl (MrkM)) (B : Nat) (w : World) (hs : mrksOk w B s) (hB : B ≤ w.heap.size) (h0 : I 0 w)
    (he : ∀ args w, (callFunc f args).run Tryz.prog w = .ok (.enter f args) w) (hf : ∀ k x wr, s.l[k]? = some x → Below B w wr → I k wr → Calls Tryz.prog f (#[mrkV x] ++ cap) wr (Ans B wr (p k) (I (k + 1)))) :
    Calls Tryz.prog 28 #[s.v, .func (.func f) #[] cap] w fun e w' => e = .returned (.bool (anyB p s.l.length)) ∧ Below B w w' := by
  have HC := hide_ (indexMark_any p I f cap s B w hs hB h0 he hf)
  have HP := hide_ (anyB_idx p s.l.length)
  clear hf he hs h0
  generalize s.l.length = n at HC HP
  obtain ⟨q, hq⟩ : ∃ q, idxI p n = q := ⟨_, rfl⟩
  rw [hq] at HC HP
  clear hq
  generalize s.v = v at HC
  go_enter Tryz.func28, Tryz.ntmps28
  go_wp2_with fail
  refine HC.out.mono ?_
  rintro en w1 ⟨rfl, hb⟩
  go_wp2
  go_ret
  exact ⟨ret_boolT HP.out, hb⟩



end Go.Proofs.YtpiikdinphnjbaaGreat

/-
  A part put behind those that have been collected: the walk's step.
-/
namespace Go.Proofs.YtpiikdinphnjbaaGreat
open Go.RowKit

section
variable {P : Program}
theorem wpList_append_coll {α : Type} {T : TypeId} {q : Nat} {cs : α → List Value} {p : World → Nat → α → Prop} {f : α → Nat → Prop} {lo : Nat} {v : Value} {xs : List α} (w : World) {ops : Array Oper} {rest : List Oper} {o : Oper} {a : Act} {Q : Exit → Act → World → Prop}
    (hgd : Region.wanted o (yielded ops a.tmps) = true) (so xo : Operand) (t : TypeId) (ho : o.op = .call { callee := .builtin .append, args := #[so, xo], argTypes := #[t, t] })
    (z : Value) (bytes : Nat) (hinfo : (P.info? T).map (fun i => (i.zero, i.size, i.bytes)) = some (some z, q, bytes)) (hzs : z.cells.size = q) (hq : 0 < q) (hby : bytes ≤ 1000) (ht : P.underlying t = some (.slice T))
    (hC : Coll T q cs p f lo v xs w) (hp : Local p f) (x : α) (hx : p w w.heap.size x) (hfx : ∀ k, f x k → (lo ≤ k ∧ k < w.heap.size) ∧ v.ownBlock ≠ some k) (hlo : lo ≤ w.heap.size)
    (cells : Array Value) (hcells : cells.toList = cs x) (hlen : (cs x).length = q) (hone : ∀ u ∈ cs x, u.oneCell' = true) (hn : xs.length ≤ 100000)
    (hs : a.eval so = v) (hxo : a.eval xo = .slice (some ⟨w.heap.size, 0, none⟩) 1 1)
    (h : ∀ A' c' w', Coll T q cs p f lo (.slice A' (xs.length + 1) c') (xs ++ [x]) w' → w.grownBy w' v.ownBlock → wpList P ops Q rest (a.put o.dst (.slice A' (xs.length + 1) c')) w') : wpList P ops Q (o :: rest) a (w.alloc (.cells cells T)) := by
  refine wpList_step fun _ hK => ?_
  rw [if_pos hgd]
  obtain ⟨i0, hi, hz0, hz1, hz2⟩ := info_parts hinfo
  have hA : Below w.heap.size w (w.alloc (.cells cells T)) := (Below.refl _ _).alloc (Nat.le_refl _) _
  have hC2 := hC.below hp hA
  have hsz : (w.alloc (.cells cells T)).heap.size = w.heap.size + 1 := by simp
  obtain ⟨v', w', hrun, h2, h3, h4⟩ := run_append_rows (P := P) (w.alloc (.cells cells T)) lo t o.type T i0 z q bytes ht hi hz0 hz1 hz2 hzs hq v xs.length (xs.flatMap cs) hC2.own (w.heap.size + 1) (some ⟨w.heap.size, 0, none⟩) 1 1 (cs x) (by rw [hlen, Nat.one_mul]) (sees_box w cells T (cs x) hcells) hone (by unfold maxLen; omega)
    (Nat.le_trans (Nat.mul_le_mul (show xs.length + 1 ≤ 100001 by omega) hby) (by decide)) (by omega)
  have hv : ∃ A' c', v' = .slice A' (xs.length + 1) c' := by
    rcases h2.2 with ⟨rfl, h0⟩ | ⟨g, cap, cur, rfl, _⟩
    · exact ⟨none, 0, by rw [h0]⟩
    · exact ⟨_, _, rfl⟩
  obtain ⟨A', c', rfl⟩ := hv
  unfold Oper.wp execOp
  simp only [ho, resolve, invoke, builtin, Sem.run_bind, Sem.run_pure, Result.andThen_ok, List.map_toArray, List.map_cons, List.map_nil, hs, hxo, hrun]
  refine hK _ _ (h A' c' w' ?_ ?_)
  · refine hC2.snoc hp (hp.below hx hA) (fun k hk => ?_) h2 h3 fun k hk => ?_
    · have := hfx k hk
      exact ⟨by omega, this.2⟩
    · rcases h4 with h4 | h4
      · exact .inl (h4 ▸ hk)
      · rw [h4] at hk
        injection hk with hk
        exact .inr (by omega)
  · exact (World.grownBy_alloc w _ _).trans h3
end

/-- a part that a call has just made can be put behind those of before -/
theorem part_far {α : Type} {T : TypeId} {q : Nat} {cs : α → List Value} {p : World → Nat → α → Prop} {f : α → Nat → Prop} {lo : Nat} {v : Value} {xs : List α} {w w' : World} {x : α} (hC : Coll T q cs p f lo v xs w) (hlo : lo ≤ w.heap.size) (hx : Lies f x w.heap.size w'.heap.size) :
    ∀ k, f x k → (lo ≤ k ∧ k < w'.heap.size) ∧ v.ownBlock ≠ some k := fun k hk => by
  have h1 := hx k hk
  refine ⟨⟨by omega, h1.2⟩, fun e => ?_⟩
  have := (hC.own.lt k e).2
  omega
theorem own_from {α : Type} {T : TypeId} {q : Nat} {cs : α → List Value} {p : World → Nat → α → Prop} {f : α → Nat → Prop} {lo : Nat} {v : Value} {xs : List α} {w : World} (hC : Coll T q cs p f lo v xs w) : ∀ k, v.ownBlock = some k → lo ≤ k := fun k e => (hC.own.lt k e).1
end Go.Proofs.YtpiikdinphnjbaaGreat

/-
  Contracts of table's taker: numbers; many parts of a kind.
-/
namespace Go.Proofs.YtpiikdinphnjbaaGreat
open Go.RowKit

end Go.Proofs.YtpiikdinphnjbaaGreat

/-
  Contracts of reg's taker: numbers; many parts of a kind.
-/
namespace Go.Proofs.YtpiikdinphnjbaaGreat
open Go.RowKit

def intV (x : Int) : Value := .int .i64 x
theorem done_info : (Tryz.prog.info? 63).map (fun i => (i.zero, i.size, i.bytes)) = some (some (.agg #[.int .u8 0, .int .u64 0, .int .i64 0, .int .u64 0, .int .i64 0, .slice none 0 0]), 6, 64) := by kernel_rfl
theorem mark_info : (Tryz.prog.info? 65).map (fun i => (i.zero, i.size, i.bytes)) = some (some (.agg #[.int .u8 0, .int .u64 0, .int .u64 0]), 3, 24) := by kernel_rfl
theorem int_one1 (x : Int) : ∀ u ∈ intC x, u.oneCell' = true := by
  intro u hu
  simp only [intC, List.mem_cons, List.not_mem_nil, or_false] at hu
  rcases hu with rfl
  rfl
theorem cel_one1 (x : CelM) : ∀ u ∈ celC x, u.oneCell' = true := by
  intro u hu
  simp only [celC, List.mem_cons, List.not_mem_nil, or_false] at hu
  rcases hu with rfl | rfl | rfl | rfl <;> rfl
theorem mrk_one1 (x : MrkM) : ∀ u ∈ mrkC x, u.oneCell' = true := by
  intro u hu
  simp only [mrkC, List.mem_cons, List.not_mem_nil, or_false] at hu
  rcases hu with rfl | rfl | rfl <;> rfl
theorem done_one1 (x : DoneM) : ∀ u ∈ x.cs, u.oneCell' = true := by
  intro u hu
  simp only [DoneM.cs, List.mem_cons, List.not_mem_nil, or_false, Sl.v] at hu
  rcases hu with rfl | rfl | rfl | rfl | rfl | rfl <;> rfl

end Go.Proofs.YtpiikdinphnjbaaGreat

/-
  Contracts of reg's taker: cells, marks, replies, entries.
-/
namespace Go.Proofs.YtpiikdinphnjbaaGreat
open Go.RowKit

/-- a reply -/
structure RepM where
  er : Int
  inc : Int
  st : Int
  va : IntS
def RepM.v (d : RepM) : Value := .agg #[.int .i64 d.er, .int .u64 d.inc, .int .i64 d.st, d.va.v]
def RepM.ok (w : World) (B : Nat) (d : RepM) : Prop := (I64 d.er ∧ U64 d.inc ∧ I64 d.st) ∧ intsOk w B d.va
def RepM.ft (d : RepM) : Nat → Prop := Sl.ft noFt d.va
def RepM.p (d : RepM) : RepP := (d.er, d.inc, d.st, d.va.l)
theorem rep_local : Local RepM.ok RepM.ft := fun w w' B B' x h hk hB => ⟨h.1, ints_local w w' B B' x.va h.2 hk hB⟩
theorem rep_stable : Stable RepM.ok := fun w w' B B' x h hk hB => ⟨h.1, ints_stable w w' B B' x.va h.2 hk hB⟩
theorem done_of {w : World} {B : Nat} {a b : Int} {r : RepM} (h1 : U8 a) (h2 : U64 b) (h : RepM.ok w B r) : DoneM.ok w B ⟨a, b, r.er, r.inc, r.st, r.va⟩ := ⟨⟨h1, h2, h.1⟩, h.2⟩

end Go.Proofs.YtpiikdinphnjbaaGreat

/-
  Contracts of reg's functions that tell which registers may be, but for May.
-/
namespace Go.Proofs.YtpiikdinphnjbaaGreat
open Go.RowKit

theorem mayState_any (st : Int) (A : Option Addr) (va : List Int) (n c : Nat) (hn : va.length = n) (hm : n ≤ 9223372036854775807) (w : World) : Calls Tryz.prog 79 #[.int .i64 st, .slice A n c] w fun e w' => e = .returned (.bool (staB st va)) ∧ w = w' := by
  have HR := hide_ (show staB st va = (inB st 0 31 && decide (n ≤ 8)) by unfold staB; rw [hn])
  rw [HR.out]
  clear hn
  cases h : inB st 0 31 with
  | false =>
    have HI := hide_ h
    clear h
    go_enter Tryz.func79, Tryz.ntmps79
    go_wp2_with fail
    refine (withinInt_any _ _ _ _).mono ?_
    rw [HI.out]
    rintro en w1 ⟨rfl, rfl⟩
    go_wp2
    go_ret
    exact ⟨rfl, rfl⟩
  | true =>
    have HI := hide_ h
    clear h
    by_cases h8 : n ≤ 8
    · have hd : decide ((n : Int) ≤ 8) = true := decide_eq_true (by omega)
      have HD := hide_ (show (true && decide (n ≤ 8)) = true by simp [h8])
      clear h8
      go_enter Tryz.func79, Tryz.ntmps79
      go_wp2_with fail
      refine (withinInt_any _ _ _ _).mono ?_
      rw [HI.out]
      rintro en w1 ⟨rfl, rfl⟩
      go_wp2
      go_ret
      exact ⟨ret_boolT HD.out.symm, rfl⟩
    · have hd : decide ((n : Int) ≤ 8) = false := decide_eq_false (by omega)
      have HD := hide_ (show (true && decide (n ≤ 8)) = false by simp [h8])
      clear h8
      go_enter Tryz.func79, Tryz.ntmps79
      go_wp2_with fail
      refine (withinInt_any _ _ _ _).mono ?_
      rw [HI.out]
      rintro en w1 ⟨rfl, rfl⟩
      go_wp2
      go_ret
      exact ⟨ret_boolT HD.out.symm, rfl⟩

theorem mayReply_any (r : RepM) (hm : r.va.l.length ≤ 9223372036854775807) (w : World) : Calls Tryz.prog 107 #[r.v] w fun e w' => e = .returned (.bool (repB r.p)) ∧ Below w.heap.size w w' := by
  obtain ⟨er, inc, st, ⟨A, c, va⟩⟩ := r
  obtain ⟨n, hn⟩ : ∃ n, va.length = n := ⟨_, rfl⟩
  simp only [hn] at hm
  have HS := hide_ (fun u => mayState_any st A va n c hn hm u)
  simp only [RepM.v, Sl.v, RepM.p, hn]
  clear hn
  have HR := hide_ (show repB (er, inc, st, va) = (inB er 0 99 && staB st va) from rfl)
  rw [HR.out]
  clear HR
  cases h : inB er 0 99 with
  | false =>
    have HI := hide_ h
    clear h
    go_enter Tryz.func107, Tryz.ntmps107
    go_wp2_with fail
    refine (withinErr_any _ _ _ _).mono ?_
    rw [HI.out]
    rintro en w1 ⟨rfl, rfl⟩
    go_wp2
    go_ret
    exact ⟨rfl, (Below.refl _ _).alloc (Nat.le_refl _) _⟩
  | true =>
    have HI := hide_ h
    clear h
    obtain ⟨q, hq⟩ : ∃ q, staB st va = q := ⟨_, rfl⟩
    simp only [hq] at HS
    rw [hq]
    clear hq
    go_enter Tryz.func107, Tryz.ntmps107
    go_wp2_with fail
    refine (withinErr_any _ _ _ _).mono ?_
    rw [HI.out]
    rintro en w1 ⟨rfl, rfl⟩
    go_wp2_with fail
    refine (HS.out _).mono ?_
    rintro en w2 ⟨rfl, rfl⟩
    go_wp2
    go_ret
    exact ⟨by simp, (Below.refl _ _).alloc (Nat.le_refl _) _⟩

theorem numD_any (x : DoneM) (hx : U8 x.cl) (w : World) : Calls Tryz.prog 105 #[x.v] w fun e w' => e = .returned (.int .u64 x.cl) ∧ Below w.heap.size w w' := by
  obtain ⟨cl, sq, er, inc, st, ⟨vA, vc, vl⟩⟩ := x
  obtain ⟨h1, h2⟩ := hx
  simp only at h1 h2
  simp only [DoneM.v, Sl.v]
  go_enter Tryz.func105, Tryz.ntmps105
  go_wp2
  go_ret
  exact ⟨rfl, (Below.refl _ _).alloc (Nat.le_refl _) _⟩
theorem numC_any (x : CelM) (w : World) : Calls Tryz.prog 110 #[celV x] w fun e w' => e = .returned (.int .u64 x.1) ∧ Below w.heap.size w w' := by
  obtain ⟨a, b, c, d⟩ := x
  simp only [celV]
  go_enter Tryz.func110, Tryz.ntmps110
  go_wp2
  go_ret
  exact ⟨rfl, (Below.refl _ _).alloc (Nat.le_refl _) _⟩
theorem numM_any (x : MrkM) (hx : U8 x.1) (w : World) : Calls Tryz.prog 114 #[mrkV x] w fun e w' => e = .returned (.int .u64 x.1) ∧ Below w.heap.size w w' := by
  obtain ⟨a, b, c⟩ := x
  obtain ⟨h1, h2⟩ := hx
  simp only at h1 h2
  simp only [mrkV]
  go_enter Tryz.func114, Tryz.ntmps114
  go_wp2
  go_ret
  exact ⟨rfl, (Below.refl _ _).alloc (Nat.le_refl _) _⟩

theorem mayNotD_any (x : DoneM) (hm : x.va.l.length ≤ 9223372036854775807) (w : World) : Calls Tryz.prog 106 #[x.v] w fun e w' => e = .returned (.bool (decide (x.sq = 0) || !(repB x.p.2.2))) ∧ Below w.heap.size w w' := by
  obtain ⟨cl, sq, er, inc, st, ⟨vA, vc, vl⟩⟩ := x
  have HC := hide_ (fun u => mayReply_any ⟨er, inc, st, ⟨vA, vc, vl⟩⟩ hm u)
  simp only [RepM.v, Sl.v, RepM.p] at HC
  simp only [DoneM.v, Sl.v, DoneM.p]
  obtain ⟨q, hq⟩ : ∃ q, repB (er, inc, st, vl) = q := ⟨_, rfl⟩
  simp only [hq] at HC ⊢
  clear hq hm
  by_cases h0 : sq = 0
  · have hb : (sq == 0) = true := by simp [h0]
    have HD := hide_ (show (decide (sq = 0) || !q) = true by simp [h0])
    clear h0
    go_enter Tryz.func106, Tryz.ntmps106
    go_wp2
    go_ret
    exact ⟨ret_boolT HD.out.symm, (Below.refl _ _).alloc (Nat.le_refl _) _⟩
  · have hb : (sq == 0) = false := beq_eq_false_iff_ne.2 h0
    have HD := hide_ (show (decide (sq = 0) || !q) = !q by simp [h0])
    clear h0
    go_enter Tryz.func106, Tryz.ntmps106
    go_wp2_with fail
    refine (HC.out _).mono ?_
    rintro en w1 ⟨rfl, hb1⟩
    have HB1 := hide_ (((Below.refl w.heap.size w).alloc (Nat.le_refl _) _).trans (hb1.mono (by simp)))
    clear hb1
    go_wp2
    go_ret
    exact ⟨ret_boolT HD.out.symm, HB1.out⟩
theorem mayNotC_any (x : CelM) (w : World) : Calls Tryz.prog 111 #[celV x] w fun e w' => e = .returned (.bool (decide (16 ≤ x.2.1) || !(inB x.2.2.1 0 31))) ∧ Below w.heap.size w w' := by
  obtain ⟨a, b, c, d⟩ := x
  simp only [celV]
  by_cases h0 : 16 ≤ b
  · have hb : decide (16 ≤ b) = true := decide_eq_true h0
    have HD := hide_ (show (decide (16 ≤ b) || !(inB c 0 31)) = true by simp [h0])
    clear h0
    go_enter Tryz.func111, Tryz.ntmps111
    go_wp2
    go_ret
    exact ⟨ret_boolT HD.out.symm, (Below.refl _ _).alloc (Nat.le_refl _) _⟩
  · have hb : decide (16 ≤ b) = false := decide_eq_false h0
    have HD := hide_ (show (decide (16 ≤ b) || !(inB c 0 31)) = !(inB c 0 31) by simp [h0])
    clear h0
    go_enter Tryz.func111, Tryz.ntmps111
    go_wp2_with fail
    refine (withinInt_any _ _ _ _).mono ?_
    rintro en w1 ⟨rfl, rfl⟩
    go_wp2
    go_ret
    exact ⟨ret_boolT HD.out.symm, (Below.refl _ _).alloc (Nat.le_refl _) _⟩
theorem mayNotM_any (x : MrkM) (w : World) : Calls Tryz.prog 115 #[mrkV x] w fun e w' => e = .returned (.bool (decide (x.2.1 = 0) || decide (x.2.2 = 0))) ∧ Below w.heap.size w w' := by
  obtain ⟨a, b, c⟩ := x
  simp only [mrkV]
  by_cases h0 : b = 0
  · have hb : (b == 0) = true := by simp [h0]
    have HD := hide_ (show (decide (b = 0) || decide (c = 0)) = true by simp [h0])
    clear h0
    go_enter Tryz.func115, Tryz.ntmps115
    go_wp2
    go_ret
    exact ⟨ret_boolT HD.out.symm, (Below.refl _ _).alloc (Nat.le_refl _) _⟩
  · have hb : (b == 0) = false := beq_eq_false_iff_ne.2 h0
    have HD := hide_ (show (decide (b = 0) || decide (c = 0)) = (c == 0) by rw [decide_eq_false h0, Bool.false_or, Bool.eq_iff_iff]; simp)
    clear h0
    go_enter Tryz.func115, Tryz.ntmps115
    go_wp2
    go_ret
    exact ⟨ret_boolT HD.out.symm, (Below.refl _ _).alloc (Nat.le_refl _) _⟩
end Go.Proofs.YtpiikdinphnjbaaGreat
