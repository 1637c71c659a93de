/-
  Texts of this claim put together: Find6, Many, Tk5, Tk6, Tk6b, May6, May6b, EqInt.
-/
import Derived.Test.YtnkjdijbfnmnhaaGreatJ32
import Derived.Test.YtnkjdijbfnmnhaaGreatJ16
import Derived.Deep.RegionHeldLaw
import Derived.IntWalk
import Derived.Test.YtnkjdijbfnmnhaaGreatJ33
import Derived.Test.YtnkjdijbfnmnhaaGreatShort
import Derived.Deep.RegionHeld
/-
  Contracts of IndexFunc and ContainsFunc at entries, cells and marks.
-/
namespace Go.Proofs.YtnkjdijbfnmnhaaGreat
open Go.RowKit

set_option maxHeartbeats 800000 in
set_option maxRecDepth 100000 in
theorem indexDone_any (p : Nat → Bool) (I : Nat → World → Prop) (f : Nat) (cap : Array Value) (s : Sl (DoneM)) (B : Nat) (w : World) (hs : dnsOk w B s) (hB : B ≤ w.heap.size) (h0 : I 0 w)
    (he : ∀ args w, (callFunc f args).run Tryz.prog w = .ok (.enter f args) w) (hf : ∀ k x wr, s.l[k]? = some x → Below B w wr → I k wr → Calls Tryz.prog f (#[DoneM.v x] ++ cap) wr (Ans B wr (p k) (I (k + 1)))) :
    Calls Tryz.prog 102 #[s.v, .func (.func f) #[] cap] w fun e w' => e = .returned (.int .i64 (idxI p s.l.length)) ∧ Below B w w' := by
  obtain ⟨A, c, l⟩ := s
  obtain ⟨h1, h2, h3, h4⟩ := hs
  obtain ⟨n, hn⟩ : ∃ n, l.length = n := ⟨_, rfl⟩
  have HS := hide_ h3
  have HF := hide_ hf
  have HN := hide_ hn
  have HI := hide_ h0
  simp only [Sl.v, hn] at h1 h2 ⊢
  have hnm : n ≤ 9223372036854775807 := by unfold maxLen at h2; omega
  clear h3 hf hn h0 h4 h1 h2
  go_enter Tryz.func102, Tryz.ntmps102
  go_wp2
  go_loopw [8] (fun i wr => ∃ k : Nat, k ≤ n ∧ i = .int .i64 k ∧ Hid (∀ j, j < k → p j = false) ∧ Hid (I k wr) ∧ Below B w wr) (fun i _ => n - (intOf i).toNat)
  case atStart => exact ⟨0, Nat.zero_le _, rfl, (fun j hj => absurd hj (by omega)), HI.out, Below.refl _ _⟩
  case round =>
    obtain ⟨k, hk, rfl, HJ, HK, hb⟩ := hrel
    by_cases hlt : k < n
    · obtain ⟨x, hx⟩ : ∃ x, l[k]? = some x := ⟨_, List.getElem?_eq_getElem (by rw [HN.out]; exact hlt)⟩
      have hs1 := HS.out.below hb
      obtain ⟨tb, ot, rfl, hab, e0, e1, e2, e3, e4, e5⟩ := hs1.done hx
      have hwz : tb < wr.heap.size := by have := hb.size; omega
      have HC := hide_ (HF.out k x wr hx hb HK.out)
      have HX := hide_ hx
      clear hx hs1
      obtain ⟨cl, sq, er, inc, st, ⟨vA, vc, vl⟩⟩ := x
      go_wp2_with fail
      refine HC.out.mono ?_
      rintro en w2 ⟨rfl, hI2, hb2⟩
      have HI2 := hide_ hI2
      clear hI2
      cases hp : p k with
      | true =>
        have HP := hide_ (show idxI p n = k from idxI_hit hlt hp HJ.out)
        clear hp
        go_wp2
        go_ret
        exact ⟨ret_i64T HP.out.symm, hb.trans hb2⟩
      | false =>
        have HJ2 := hide_ (show ∀ j, j < k + 1 → p j = false from fun j hj => by
          by_cases h : j = k
          · rw [h]; exact hp
          · exact HJ.out j (by omega))
        have HI3 := hide_ (HI2.out hp)
        clear hp
        go_wp2
        go_roundw
        case rel => exact ⟨k + 1, by omega, by go_num, HJ2, HI3, hb.trans hb2⟩
        case measure => simp [intOf]; omega
    · obtain rfl : k = n := by omega
      have HP := hide_ (show idxI p k = -1 from idxI_none HJ.out)
      go_wp2
      go_ret
      exact ⟨ret_i64T HP.out.symm, hb⟩

theorem containsDone_any (p : Nat → Bool) (I : Nat → World → Prop) (f : Nat) (cap : Array Value) (s : Sl (DoneM)) (B : Nat) (w : World) (hs : dnsOk w B s) (hB : B ≤ w.heap.size) (h0 : I 0 w)
    (he : ∀ args w, (callFunc f args).run Tryz.prog w = .ok (.enter f args) w) (hf : ∀ k x wr, s.l[k]? = some x → Below B w wr → I k wr → Calls Tryz.prog f (#[DoneM.v x] ++ cap) wr (Ans B wr (p k) (I (k + 1)))) :
    Calls Tryz.prog 293 #[s.v, .func (.func f) #[] cap] w fun e w' => e = .returned (.bool (anyB p s.l.length)) ∧ Below B w w' := by
  have HC := hide_ (indexDone_any p I f cap s B w hs hB h0 he hf)
  have HP := hide_ (anyB_idx p s.l.length)
  clear hf he hs h0
  generalize s.l.length = n at HC HP
  obtain ⟨q, hq⟩ : ∃ q, idxI p n = q := ⟨_, rfl⟩
  rw [hq] at HC HP
  clear hq
  generalize s.v = v at HC
  go_enter Tryz.func293, Tryz.ntmps293
  go_wp2_with fail
  refine HC.out.mono ?_
  rintro en w1 ⟨rfl, hb⟩
  go_wp2
  go_ret
  exact ⟨ret_boolT HP.out, hb⟩


set_option maxHeartbeats 800000 in
set_option maxRecDepth 100000 in
theorem indexCell_any (p : Nat → Bool) (I : Nat → World → Prop) (f : Nat) (cap : Array Value) (s : Sl (CelM)) (B : Nat) (w : World) (hs : celsOk w B s) (hB : B ≤ w.heap.size) (h0 : I 0 w)
    (he : ∀ args w, (callFunc f args).run Tryz.prog w = .ok (.enter f args) w) (hf : ∀ k x wr, s.l[k]? = some x → Below B w wr → I k wr → Calls Tryz.prog f (#[celV x] ++ cap) wr (Ans B wr (p k) (I (k + 1)))) :
    Calls Tryz.prog 251 #[s.v, .func (.func f) #[] cap] w fun e w' => e = .returned (.int .i64 (idxI p s.l.length)) ∧ Below B w w' := by
  obtain ⟨A, c, l⟩ := s
  obtain ⟨h1, h2, h3, h4⟩ := hs
  obtain ⟨n, hn⟩ : ∃ n, l.length = n := ⟨_, rfl⟩
  have HS := hide_ h3
  have HF := hide_ hf
  have HN := hide_ hn
  have HI := hide_ h0
  simp only [Sl.v, hn] at h1 h2 ⊢
  have hnm : n ≤ 9223372036854775807 := by unfold maxLen at h2; omega
  clear h3 hf hn h0 h4 h1 h2
  go_enter Tryz.func251, Tryz.ntmps251
  go_wp2
  go_loopw [8] (fun i wr => ∃ k : Nat, k ≤ n ∧ i = .int .i64 k ∧ Hid (∀ j, j < k → p j = false) ∧ Hid (I k wr) ∧ Below B w wr) (fun i _ => n - (intOf i).toNat)
  case atStart => exact ⟨0, Nat.zero_le _, rfl, (fun j hj => absurd hj (by omega)), HI.out, Below.refl _ _⟩
  case round =>
    obtain ⟨k, hk, rfl, HJ, HK, hb⟩ := hrel
    by_cases hlt : k < n
    · obtain ⟨x, hx⟩ : ∃ x, l[k]? = some x := ⟨_, List.getElem?_eq_getElem (by rw [HN.out]; exact hlt)⟩
      have hs1 := HS.out.below hb
      obtain ⟨tb, ot, rfl, hab, e0, e1, e2, e3⟩ := hs1.cel hx
      have hwz : tb < wr.heap.size := by have := hb.size; omega
      have HC := hide_ (HF.out k x wr hx hb HK.out)
      have HX := hide_ hx
      clear hx hs1
      obtain ⟨cl, b, c', d⟩ := x
      go_wp2_with fail
      refine HC.out.mono ?_
      rintro en w2 ⟨rfl, hI2, hb2⟩
      have HI2 := hide_ hI2
      clear hI2
      cases hp : p k with
      | true =>
        have HP := hide_ (show idxI p n = k from idxI_hit hlt hp HJ.out)
        clear hp
        go_wp2
        go_ret
        exact ⟨ret_i64T HP.out.symm, hb.trans hb2⟩
      | false =>
        have HJ2 := hide_ (show ∀ j, j < k + 1 → p j = false from fun j hj => by
          by_cases h : j = k
          · rw [h]; exact hp
          · exact HJ.out j (by omega))
        have HI3 := hide_ (HI2.out hp)
        clear hp
        go_wp2
        go_roundw
        case rel => exact ⟨k + 1, by omega, by go_num, HJ2, HI3, hb.trans hb2⟩
        case measure => simp [intOf]; omega
    · obtain rfl : k = n := by omega
      have HP := hide_ (show idxI p k = -1 from idxI_none HJ.out)
      go_wp2
      go_ret
      exact ⟨ret_i64T HP.out.symm, hb⟩

theorem containsCell_any (p : Nat → Bool) (I : Nat → World → Prop) (f : Nat) (cap : Array Value) (s : Sl (CelM)) (B : Nat) (w : World) (hs : celsOk w B s) (hB : B ≤ w.heap.size) (h0 : I 0 w)
    (he : ∀ args w, (callFunc f args).run Tryz.prog w = .ok (.enter f args) w) (hf : ∀ k x wr, s.l[k]? = some x → Below B w wr → I k wr → Calls Tryz.prog f (#[celV x] ++ cap) wr (Ans B wr (p k) (I (k + 1)))) :
    Calls Tryz.prog 297 #[s.v, .func (.func f) #[] cap] w fun e w' => e = .returned (.bool (anyB p s.l.length)) ∧ Below B w w' := by
  have HC := hide_ (indexCell_any p I f cap s B w hs hB h0 he hf)
  have HP := hide_ (anyB_idx p s.l.length)
  clear hf he hs h0
  generalize s.l.length = n at HC HP
  obtain ⟨q, hq⟩ : ∃ q, idxI p n = q := ⟨_, rfl⟩
  rw [hq] at HC HP
  clear hq
  generalize s.v = v at HC
  go_enter Tryz.func297, Tryz.ntmps297
  go_wp2_with fail
  refine HC.out.mono ?_
  rintro en w1 ⟨rfl, hb⟩
  go_wp2
  go_ret
  exact ⟨ret_boolT HP.out, hb⟩


set_option maxHeartbeats 800000 in
set_option maxRecDepth 100000 in
theorem indexMark_any (p : Nat → Bool) (I : Nat → World → Prop) (f : Nat) (cap : Array Value) (s : Sl (MrkM)) (B : Nat) (w : World) (hs : mrksOk w B s) (hB : B ≤ w.heap.size) (h0 : I 0 w)
    (he : ∀ args w, (callFunc f args).run Tryz.prog w = .ok (.enter f args) w) (hf : ∀ k x wr, s.l[k]? = some x → Below B w wr → I k wr → Calls Tryz.prog f (#[mrkV x] ++ cap) wr (Ans B wr (p k) (I (k + 1)))) :
    Calls Tryz.prog 311 #[s.v, .func (.func f) #[] cap] w fun e w' => e = .returned (.int .i64 (idxI p s.l.length)) ∧ Below B w w' := by
  obtain ⟨A, c, l⟩ := s
  obtain ⟨h1, h2, h3, h4⟩ := hs
  obtain ⟨n, hn⟩ : ∃ n, l.length = n := ⟨_, rfl⟩
  have HS := hide_ h3
  have HF := hide_ hf
  have HN := hide_ hn
  have HI := hide_ h0
  simp only [Sl.v, hn] at h1 h2 ⊢
  have hnm : n ≤ 9223372036854775807 := by unfold maxLen at h2; omega
  clear h3 hf hn h0 h4 h1 h2
  go_enter Tryz.func311, Tryz.ntmps311
  go_wp2
  go_loopw [8] (fun i wr => ∃ k : Nat, k ≤ n ∧ i = .int .i64 k ∧ Hid (∀ j, j < k → p j = false) ∧ Hid (I k wr) ∧ Below B w wr) (fun i _ => n - (intOf i).toNat)
  case atStart => exact ⟨0, Nat.zero_le _, rfl, (fun j hj => absurd hj (by omega)), HI.out, Below.refl _ _⟩
  case round =>
    obtain ⟨k, hk, rfl, HJ, HK, hb⟩ := hrel
    by_cases hlt : k < n
    · obtain ⟨x, hx⟩ : ∃ x, l[k]? = some x := ⟨_, List.getElem?_eq_getElem (by rw [HN.out]; exact hlt)⟩
      have hs1 := HS.out.below hb
      obtain ⟨tb, ot, rfl, hab, e0, e1, e2⟩ := hs1.mrk hx
      have hwz : tb < wr.heap.size := by have := hb.size; omega
      have HC := hide_ (HF.out k x wr hx hb HK.out)
      have HX := hide_ hx
      clear hx hs1
      obtain ⟨cl, b, c'⟩ := x
      go_wp2_with fail
      refine HC.out.mono ?_
      rintro en w2 ⟨rfl, hI2, hb2⟩
      have HI2 := hide_ hI2
      clear hI2
      cases hp : p k with
      | true =>
        have HP := hide_ (show idxI p n = k from idxI_hit hlt hp HJ.out)
        clear hp
        go_wp2
        go_ret
        exact ⟨ret_i64T HP.out.symm, hb.trans hb2⟩
      | false =>
        have HJ2 := hide_ (show ∀ j, j < k + 1 → p j = false from fun j hj => by
          by_cases h : j = k
          · rw [h]; exact hp
          · exact HJ.out j (by omega))
        have HI3 := hide_ (HI2.out hp)
        clear hp
        go_wp2
        go_roundw
        case rel => exact ⟨k + 1, by omega, by go_num, HJ2, HI3, hb.trans hb2⟩
        case measure => simp [intOf]; omega
    · obtain rfl : k = n := by omega
      have HP := hide_ (show idxI p k = -1 from idxI_none HJ.out)
      go_wp2
      go_ret
      exact ⟨ret_i64T HP.out.symm, hb⟩

theorem containsMark_any (p : Nat → Bool) (I : Nat → World → Prop) (f : Nat) (cap : Array Value) (s : Sl (MrkM)) (B : Nat) (w : World) (hs : mrksOk w B s) (hB : B ≤ w.heap.size) (h0 : I 0 w)
    (he : ∀ args w, (callFunc f args).run Tryz.prog w = .ok (.enter f args) w) (hf : ∀ k x wr, s.l[k]? = some x → Below B w wr → I k wr → Calls Tryz.prog f (#[mrkV x] ++ cap) wr (Ans B wr (p k) (I (k + 1)))) :
    Calls Tryz.prog 246 #[s.v, .func (.func f) #[] cap] w fun e w' => e = .returned (.bool (anyB p s.l.length)) ∧ Below B w w' := by
  have HC := hide_ (indexMark_any p I f cap s B w hs hB h0 he hf)
  have HP := hide_ (anyB_idx p s.l.length)
  clear hf he hs h0
  generalize s.l.length = n at HC HP
  obtain ⟨q, hq⟩ : ∃ q, idxI p n = q := ⟨_, rfl⟩
  rw [hq] at HC HP
  clear hq
  generalize s.v = v at HC
  go_enter Tryz.func246, Tryz.ntmps246
  go_wp2_with fail
  refine HC.out.mono ?_
  rintro en w1 ⟨rfl, hb⟩
  go_wp2
  go_ret
  exact ⟨ret_boolT HP.out, hb⟩



end Go.Proofs.YtnkjdijbfnmnhaaGreat

/-
  A part put behind those that have been collected: the walk's step.
-/
namespace Go.Proofs.YtnkjdijbfnmnhaaGreat
open Go.RowKit

section
variable {P : Program}
theorem wpList_append_coll {α : Type} {T : TypeId} {q : Nat} {cs : α → List Value} {p : World → Nat → α → Prop} {f : α → Nat → Prop} {lo : Nat} {v : Value} {xs : List α} (w : World) {ops : Array Oper} {rest : List Oper} {o : Oper} {a : Act} {Q : Exit → Act → World → Prop}
    (hgd : Region.wanted o (yielded ops a.tmps) = true) (so xo : Operand) (t : TypeId) (ho : o.op = .call { callee := .builtin .append, args := #[so, xo], argTypes := #[t, t] })
    (z : Value) (bytes : Nat) (hinfo : (P.info? T).map (fun i => (i.zero, i.size, i.bytes)) = some (some z, q, bytes)) (hzs : z.cells.size = q) (hq : 0 < q) (hby : bytes ≤ 1000) (ht : P.underlying t = some (.slice T))
    (hC : Coll T q cs p f lo v xs w) (hp : Local p f) (x : α) (hx : p w w.heap.size x) (hfx : ∀ k, f x k → (lo ≤ k ∧ k < w.heap.size) ∧ v.ownBlock ≠ some k) (hlo : lo ≤ w.heap.size)
    (cells : Array Value) (hcells : cells.toList = cs x) (hlen : (cs x).length = q) (hone : ∀ u ∈ cs x, u.oneCell' = true) (hn : xs.length ≤ 100000)
    (hs : a.eval so = v) (hxo : a.eval xo = .slice (some ⟨w.heap.size, 0, none⟩) 1 1)
    (h : ∀ A' c' w', Coll T q cs p f lo (.slice A' (xs.length + 1) c') (xs ++ [x]) w' → w.grownBy w' v.ownBlock → wpList P ops Q rest (a.put o.dst (.slice A' (xs.length + 1) c')) w') : wpList P ops Q (o :: rest) a (w.alloc (.cells cells T)) := by
  refine wpList_step fun _ hK => ?_
  rw [if_pos hgd]
  obtain ⟨i0, hi, hz0, hz1, hz2⟩ := info_parts hinfo
  have hA : Below w.heap.size w (w.alloc (.cells cells T)) := (Below.refl _ _).alloc (Nat.le_refl _) _
  have hC2 := hC.below hp hA
  have hsz : (w.alloc (.cells cells T)).heap.size = w.heap.size + 1 := by simp
  obtain ⟨v', w', hrun, h2, h3, h4⟩ := run_append_rows (P := P) (w.alloc (.cells cells T)) lo t o.type T i0 z q bytes ht hi hz0 hz1 hz2 hzs hq v xs.length (xs.flatMap cs) hC2.own (w.heap.size + 1) (some ⟨w.heap.size, 0, none⟩) 1 1 (cs x) (by rw [hlen, Nat.one_mul]) (sees_box w cells T (cs x) hcells) hone (by unfold maxLen; omega)
    (Nat.le_trans (Nat.mul_le_mul (show xs.length + 1 ≤ 100001 by omega) hby) (by decide)) (by omega)
  have hv : ∃ A' c', v' = .slice A' (xs.length + 1) c' := by
    rcases h2.2 with ⟨rfl, h0⟩ | ⟨g, cap, cur, rfl, _⟩
    · exact ⟨none, 0, by rw [h0]⟩
    · exact ⟨_, _, rfl⟩
  obtain ⟨A', c', rfl⟩ := hv
  unfold Oper.wp execOp
  simp only [ho, resolve, invoke, builtin, Sem.run_bind, Sem.run_pure, Result.andThen_ok, List.map_toArray, List.map_cons, List.map_nil, hs, hxo, hrun]
  refine hK _ _ (h A' c' w' ?_ ?_)
  · refine hC2.snoc hp (hp.below hx hA) (fun k hk => ?_) h2 h3 fun k hk => ?_
    · have := hfx k hk
      exact ⟨by omega, this.2⟩
    · rcases h4 with h4 | h4
      · exact .inl (h4 ▸ hk)
      · rw [h4] at hk
        injection hk with hk
        exact .inr (by omega)
  · exact (World.grownBy_alloc w _ _).trans h3
end

/-- a part that a call has just made can be put behind those of before -/
theorem part_far {α : Type} {T : TypeId} {q : Nat} {cs : α → List Value} {p : World → Nat → α → Prop} {f : α → Nat → Prop} {lo : Nat} {v : Value} {xs : List α} {w w' : World} {x : α} (hC : Coll T q cs p f lo v xs w) (hlo : lo ≤ w.heap.size) (hx : Lies f x w.heap.size w'.heap.size) :
    ∀ k, f x k → (lo ≤ k ∧ k < w'.heap.size) ∧ v.ownBlock ≠ some k := fun k hk => by
  have h1 := hx k hk
  refine ⟨⟨by omega, h1.2⟩, fun e => ?_⟩
  have := (hC.own.lt k e).2
  omega
theorem own_from {α : Type} {T : TypeId} {q : Nat} {cs : α → List Value} {p : World → Nat → α → Prop} {f : α → Nat → Prop} {lo : Nat} {v : Value} {xs : List α} {w : World} (hC : Coll T q cs p f lo v xs w) : ∀ k, v.ownBlock = some k → lo ≤ k := fun k e => (hC.own.lt k e).1
end Go.Proofs.YtnkjdijbfnmnhaaGreat

/-
  Contracts of table's taker: numbers; many parts of a kind.
-/
namespace Go.Proofs.YtnkjdijbfnmnhaaGreat
open Go.RowKit

def takerV (g : Nat) : Value := .agg #[.pointer (some ⟨g, 0, none⟩)]
def tokV (t : Int × Int) : Value := .agg #[.int .u8 t.1, .int .i64 t.2]
def SetM.bare (s : SetM) : SetM := ⟨s.var, ⟨none, 0, s.val.l⟩⟩
def EmM.bare (s : EmM) : EmM := ⟨s.tg, s.ac, ⟨none, 0, s.arg.l⟩⟩
def RuM.bare (r : RuM) : RuM := ⟨r.fr, r.ac, r.pa, r.tt, ⟨none, 0, r.gu.l⟩, ⟨none, 0, r.se.l.map SetM.bare⟩, ⟨none, 0, r.em.l.map EmM.bare⟩⟩

theorem set_info : (Tryz.prog.info? 176).map (fun i => (i.zero, i.size, i.bytes)) = some (some (.agg #[.int .i64 0, .slice none 0 0]), 2, 32) := by kernel_rfl
theorem em_info : (Tryz.prog.info? 178).map (fun i => (i.zero, i.size, i.bytes)) = some (some (.agg #[.int .u8 0, .int .i64 0, .slice none 0 0]), 3, 40) := by kernel_rfl
theorem toks_one1 (x : Int × Int) : ∀ u ∈ tokC x, u.oneCell' = true := by
  intro u hu
  simp only [tokC, List.mem_cons, List.not_mem_nil, or_false] at hu
  rcases hu with rfl | rfl <;> rfl
theorem set_one1 (x : SetM) : ∀ u ∈ x.cs, u.oneCell' = true := by
  intro u hu
  simp only [SetM.cs, List.mem_cons, List.not_mem_nil, or_false, Sl.v] at hu
  rcases hu with rfl | rfl <;> rfl
theorem em_one1 (x : EmM) : ∀ u ∈ x.cs, u.oneCell' = true := by
  intro u hu
  simp only [EmM.cs, List.mem_cons, List.not_mem_nil, or_false, Sl.v] at hu
  rcases hu with rfl | rfl | rfl <;> rfl
theorem ru_one1 (x : RuM) : ∀ u ∈ x.cs, u.oneCell' = true := by
  intro u hu
  simp only [RuM.cs, List.mem_cons, List.not_mem_nil, or_false, Sl.v] at hu
  rcases hu with rfl | rfl | rfl | rfl | rfl | rfl | rfl <;> rfl

end Go.Proofs.YtnkjdijbfnmnhaaGreat

/-
  Contracts of reg's taker: numbers; many parts of a kind.
-/
namespace Go.Proofs.YtnkjdijbfnmnhaaGreat
open Go.RowKit

def intV (x : Int) : Value := .int .i64 x
theorem done_info : (Tryz.prog.info? 106).map (fun i => (i.zero, i.size, i.bytes)) = some (some (.agg #[.int .u8 0, .int .u64 0, .int .i64 0, .int .u64 0, .int .i64 0, .slice none 0 0]), 6, 64) := by kernel_rfl
theorem mark_info : (Tryz.prog.info? 110).map (fun i => (i.zero, i.size, i.bytes)) = some (some (.agg #[.int .u8 0, .int .u64 0, .int .u64 0]), 3, 24) := by kernel_rfl
theorem int_one1 (x : Int) : ∀ u ∈ intC x, u.oneCell' = true := by
  intro u hu
  simp only [intC, List.mem_cons, List.not_mem_nil, or_false] at hu
  rcases hu with rfl
  rfl
theorem cel_one1 (x : CelM) : ∀ u ∈ celC x, u.oneCell' = true := by
  intro u hu
  simp only [celC, List.mem_cons, List.not_mem_nil, or_false] at hu
  rcases hu with rfl | rfl | rfl | rfl <;> rfl
theorem mrk_one1 (x : MrkM) : ∀ u ∈ mrkC x, u.oneCell' = true := by
  intro u hu
  simp only [mrkC, List.mem_cons, List.not_mem_nil, or_false] at hu
  rcases hu with rfl | rfl | rfl <;> rfl
theorem done_one1 (x : DoneM) : ∀ u ∈ x.cs, u.oneCell' = true := by
  intro u hu
  simp only [DoneM.cs, List.mem_cons, List.not_mem_nil, or_false, Sl.v] at hu
  rcases hu with rfl | rfl | rfl | rfl | rfl | rfl <;> rfl

set_option maxRecDepth 100000 in
theorem tOther6_any {g : Nat} {s : RS} {w : World} (h : Rdr w g s.1 s.2) (hs : RSok s) : Calls Tryz.prog 265 #[takerV g] w (LeavesS w g (.int .i64 (numS 1000 s).1) (numS 1000 s).2) := by
  have H := hide_ (h.made (.cells #[.pointer (some ⟨g, 0, none⟩)] 283))
  have HS := hide_ hs
  have hb := (numS_ok (most := 1000) hs).2
  have HC := hide_ (Num_st 1000 H.out hs)
  obtain ⟨n, hn⟩ : ∃ n, (numS 1000 s).1 = n := ⟨_, rfl⟩
  obtain ⟨s2, hs2⟩ : ∃ s2, (numS 1000 s).2 = s2 := ⟨_, rfl⟩
  rw [hn] at hb
  rw [hn, hs2] at HC ⊢
  unfold takerV
  clear h hs hn hs2
  go_enter Tryz.func265, Tryz.ntmps265
  go_wp2_with fail
  refine HC.out.mono ?_
  rintro e w1 ⟨rfl, hr1, hg1⟩
  go_wp2
  go_ret
  exact ⟨rfl, hr1, grown_made hg1⟩

set_option maxRecDepth 100000 in
theorem tSmall6_any {g : Nat} {s : RS} {w : World} (h : Rdr w g s.1 s.2) (hs : RSok s) : Calls Tryz.prog 263 #[takerV g] w (LeavesS w g (.int .u8 (numS 255 s).1) (numS 255 s).2) := by
  have H := hide_ (h.made (.cells #[.pointer (some ⟨g, 0, none⟩)] 283))
  have HS := hide_ hs
  have hb := (numS_ok (most := 255) hs).2
  have HC := hide_ (Num_st 255 H.out hs)
  obtain ⟨n, hn⟩ : ∃ n, (numS 255 s).1 = n := ⟨_, rfl⟩
  obtain ⟨s2, hs2⟩ : ∃ s2, (numS 255 s).2 = s2 := ⟨_, rfl⟩
  rw [hn] at hb
  rw [hn, hs2] at HC ⊢
  unfold takerV
  clear h hs hn hs2
  go_enter Tryz.func263, Tryz.ntmps263
  go_wp2_with fail
  refine HC.out.mono ?_
  rintro e w1 ⟨rfl, hr1, hg1⟩
  go_wp2
  go_ret
  exact ⟨rfl, hr1, grown_made hg1⟩

set_option maxRecDepth 100000 in
theorem tNumber06_any {g : Nat} {s : RS} {w : World} (h : Rdr w g s.1 s.2) (hs : RSok s) : Calls Tryz.prog 264 #[takerV g] w (LeavesS w g (.int .u64 (numS 18446744073709551615 s).1) (numS 18446744073709551615 s).2) := by
  have H := hide_ (h.made (.cells #[.pointer (some ⟨g, 0, none⟩)] 283))
  have HS := hide_ hs
  have hb := (numS_ok (most := 18446744073709551615) hs).2
  have HC := hide_ (Num_st 18446744073709551615 H.out hs)
  obtain ⟨n, hn⟩ : ∃ n, (numS 18446744073709551615 s).1 = n := ⟨_, rfl⟩
  obtain ⟨s2, hs2⟩ : ∃ s2, (numS 18446744073709551615 s).2 = s2 := ⟨_, rfl⟩
  rw [hn] at hb
  rw [hn, hs2] at HC ⊢
  unfold takerV
  clear h hs hn hs2
  go_enter Tryz.func264, Tryz.ntmps264
  go_wp2_with fail
  refine HC.out.mono ?_
  rintro e w1 ⟨rfl, hr1, hg1⟩
  go_wp2
  go_ret
  exact ⟨rfl, hr1, grown_made hg1⟩

/-- a number without a limit -/
def numBig (s : RS) : Nat × RS := numS 18446744073709551615 s
theorem numBig_ok {s : RS} (h : RSok s) : RSok (numBig s).2 ∧ U64 ((numBig s).1 : Int) := ⟨(numS_ok h).1, by
  have h1 := (numS_ok (most := 18446744073709551615) h).2
  unfold U64 numBig
  omega⟩
theorem tNumber6_any {g : Nat} {s : RS} {w : World} (h : Rdr w g s.1 s.2) (hs : RSok s) : Calls Tryz.prog 264 #[takerV g] w (LeavesS w g (.int .u64 (numBig s).1) (numBig s).2) := tNumber06_any h hs

set_option maxRecDepth 100000 in
set_option maxHeartbeats 800000 in
theorem manyInt6_any {β : Type} {g : Nat} {s : RS} {w : World} (pp : Int → β) (fn : Nat) (bound cap : Array Value) (fS : RS → β × RS) (h : Rdr w g s.1 s.2) (hs : RSok s) (hfS : ∀ s, RSok s → RSok (fS s).2)
    (he : ∀ args w, (callFunc fn args).run Tryz.prog w = .ok (.enter fn args) w)
    (hf : ∀ w1 s1, w.grownBy w1 (some g) → Rdr w1 g s1.1 s1.2 → RSok s1 → Calls Tryz.prog fn (bound ++ cap) w1 (PartR intV pp (fun _ _ x => I64 x) noFt w1 g (fS s1))) :
    Calls Tryz.prog 266 #[takerV g, .func (.func fn) bound cap] w (PartR Sl.v (fun x => x.l.map pp) intsOk (Sl.ft noFt) w g (manyS 1000 fS s)) := by
  have H := hide_ (h.made (.cells #[.pointer (some ⟨g, 0, none⟩)] 283))
  have hgl : g < w.heap.size := h.glt
  have hb := (numS_ok (most := 1000) hs).2
  have HS1 := hide_ (numS_ok (most := 1000) hs).1
  have HC := hide_ (tOther6_any H.out hs)
  have HF := hide_ hf
  have HFS := hide_ hfS
  have HR := hide_ (show manyS 1000 fS s = iterS fS (numS 1000 s).1 (numS 1000 s).2 from rfl)
  obtain ⟨n, hn⟩ : ∃ n, (numS 1000 s).1 = n := ⟨_, rfl⟩
  obtain ⟨s1, hs1⟩ : ∃ s1, (numS 1000 s).2 = s1 := ⟨_, rfl⟩
  rw [hn] at hb
  rw [hs1] at HS1
  rw [hn, hs1] at HC HR
  rw [HR.out]
  unfold takerV
  have hnn : n ≤ 1000 := by omega
  clear h hs hn hs1 hf hfS HR
  go_enter Tryz.func266, Tryz.ntmps266
  go_wp2_with fail
  refine HC.out.mono ?_
  rintro e w1 ⟨rfl, hr1, hg1⟩
  have HR1 := hide_ hr1
  have HG1 := hide_ (grown_made hg1)
  clear hr1 hg1 HC
  go_wp2
  go_loopw [5, 8] (fun v i wr => ∃ (k : Nat) (xs : List (Int)), k ≤ n ∧ i = .int .i64 k ∧ xs.length = k ∧ Hid (xs.map pp = (iterS fS k s1).1) ∧ Hid (Coll 2 1 intC (fun _ _ x => I64 x) noFt w.heap.size v xs wr) ∧ Hid (Rdr wr g (iterS fS k s1).2.1 (iterS fS k s1).2.2) ∧ Hid (w.grownBy wr (some g))) (fun _ i _ => n - (intOf i).toNat)
  case atStart => exact ⟨0, [], Nat.zero_le _, rfl, rfl, rfl, Coll.nil _, HR1.out, HG1.out⟩
  case round =>
    obtain ⟨k, xs, hk, rfl, hxs, HX, HCO, HRD, HG⟩ := hrel
    by_cases hlt : k < n
    · have HCALL := hide_ (HF.out _ _ HG.out HRD.out (iterS_ok HFS.out k s1 HS1.out))
      have hzw : w.heap.size ≤ wr.heap.size := HG.out.size
      go_wp2_with fail
      refine HCALL.out.mono ?_
      rintro e w2 ⟨x, rfl, hpx, hok, hli, hrd, hg2⟩
      have HX2 := hide_ (show (xs ++ [x]).map pp = (iterS fS (k + 1) s1).1 by rw [iterS_snoc, List.map_append, HX.out, ← hpx]; rfl)
      have HR2 := hide_ (show Rdr w2 g (iterS fS (k + 1) s1).2.1 (iterS fS (k + 1) s1).2.2 by rw [iterS_snoc]; exact hrd)
      have HG2 := hide_ (grown_join HG.out hg2)
      have HCO2 := hide_ (HCO.out.grown (local_plain I64) hg2 hgl)
      have HFAR := hide_ (show ∀ k, noFt x k → (w.heap.size ≤ k ∧ k < w2.heap.size) ∧ _ from part_far HCO.out hzw hli)
      have HOK := hide_ hok
      have HLEN := hide_ hxs
      have hz2 : w.heap.size ≤ w2.heap.size := HG2.out.size
      have hxl : xs.length ≤ 100000 := by omega
      clear hpx hok hli hrd hg2 HX HCO HRD HG HCALL hxs
      obtain ⟨x0, hx0⟩ : ∃ x0, x0 = x := ⟨_, rfl⟩
      have HX0 := hide_ hx0
      rw [← hx0] at HX2 HFAR HOK
      clear hx0
      simp only [intV]
      go_wp2_with (at_builtin; refine wpList_append_coll w2 rfl _ _ 26 rfl _ _ i64_info rfl (by omega) (by omega) Tryz.underlying26 HCO2.out (local_plain I64) x0 HOK.out HFAR.out hz2 _ (by rw [HX0.out]; rfl) rfl (int_one1 _) hxl rfl rfl ?_; intro A3 c3 w3 hco3 hg3; (have HCO3 := hide_ hco3); (have HG3 := hide_ (grown_also HG2.out hg3 (own_from HCO2.out))); (have HR3 := hide_ (HR2.out.other hg3 (fun k hk => by (have := own_from HCO2.out k hk); omega))); clear hco3 hg3)
      go_roundw
      case rel => exact ⟨k + 1, xs ++ [x0], by omega, by go_num, by simp [HLEN.out], HX2, HCO3, HR3, HG3⟩
      case measure => simp [intOf]; omega
    · obtain rfl : k = n := by omega
      obtain ⟨A, c, hA⟩ := HCO.out.val
      subst hA
      obtain ⟨hso, hsl⟩ := HCO.out.slice rfl
      have HSO := hide_ hso
      have HSL := hide_ hsl
      clear hso hsl
      go_wp2
      go_ret
      exact ⟨⟨A, c, xs⟩, rfl, HX.out, HSO.out, HSL.out, HRD.out, HG.out⟩

set_option maxRecDepth 100000 in
set_option maxHeartbeats 800000 in
theorem manyDone6_any {β : Type} {g : Nat} {s : RS} {w : World} (pp : DoneM → β) (fn : Nat) (bound cap : Array Value) (fS : RS → β × RS) (h : Rdr w g s.1 s.2) (hs : RSok s) (hfS : ∀ s, RSok s → RSok (fS s).2)
    (he : ∀ args w, (callFunc fn args).run Tryz.prog w = .ok (.enter fn args) w)
    (hf : ∀ w1 s1, w.grownBy w1 (some g) → Rdr w1 g s1.1 s1.2 → RSok s1 → Calls Tryz.prog fn (bound ++ cap) w1 (PartR DoneM.v pp DoneM.ok DoneM.ft w1 g (fS s1))) :
    Calls Tryz.prog 268 #[takerV g, .func (.func fn) bound cap] w (PartR Sl.v (fun x => x.l.map pp) dnsOk (Sl.ft DoneM.ft) w g (manyS 1000 fS s)) := by
  have H := hide_ (h.made (.cells #[.pointer (some ⟨g, 0, none⟩)] 283))
  have hgl : g < w.heap.size := h.glt
  have hb := (numS_ok (most := 1000) hs).2
  have HS1 := hide_ (numS_ok (most := 1000) hs).1
  have HC := hide_ (tOther6_any H.out hs)
  have HF := hide_ hf
  have HFS := hide_ hfS
  have HR := hide_ (show manyS 1000 fS s = iterS fS (numS 1000 s).1 (numS 1000 s).2 from rfl)
  obtain ⟨n, hn⟩ : ∃ n, (numS 1000 s).1 = n := ⟨_, rfl⟩
  obtain ⟨s1, hs1⟩ : ∃ s1, (numS 1000 s).2 = s1 := ⟨_, rfl⟩
  rw [hn] at hb
  rw [hs1] at HS1
  rw [hn, hs1] at HC HR
  rw [HR.out]
  unfold takerV
  have hnn : n ≤ 1000 := by omega
  clear h hs hn hs1 hf hfS HR
  go_enter Tryz.func268, Tryz.ntmps268
  go_wp2_with fail
  refine HC.out.mono ?_
  rintro e w1 ⟨rfl, hr1, hg1⟩
  have HR1 := hide_ hr1
  have HG1 := hide_ (grown_made hg1)
  clear hr1 hg1 HC
  go_wp2
  go_loopw [5, 8] (fun v i wr => ∃ (k : Nat) (xs : List (DoneM)), k ≤ n ∧ i = .int .i64 k ∧ xs.length = k ∧ Hid (xs.map pp = (iterS fS k s1).1) ∧ Hid (Coll 106 6 DoneM.cs DoneM.ok DoneM.ft w.heap.size v xs wr) ∧ Hid (Rdr wr g (iterS fS k s1).2.1 (iterS fS k s1).2.2) ∧ Hid (w.grownBy wr (some g))) (fun _ i _ => n - (intOf i).toNat)
  case atStart => exact ⟨0, [], Nat.zero_le _, rfl, rfl, rfl, Coll.nil _, HR1.out, HG1.out⟩
  case round =>
    obtain ⟨k, xs, hk, rfl, hxs, HX, HCO, HRD, HG⟩ := hrel
    by_cases hlt : k < n
    · have HCALL := hide_ (HF.out _ _ HG.out HRD.out (iterS_ok HFS.out k s1 HS1.out))
      have hzw : w.heap.size ≤ wr.heap.size := HG.out.size
      go_wp2_with fail
      refine HCALL.out.mono ?_
      rintro e w2 ⟨x, rfl, hpx, hok, hli, hrd, hg2⟩
      have HX2 := hide_ (show (xs ++ [x]).map pp = (iterS fS (k + 1) s1).1 by rw [iterS_snoc, List.map_append, HX.out, ← hpx]; rfl)
      have HR2 := hide_ (show Rdr w2 g (iterS fS (k + 1) s1).2.1 (iterS fS (k + 1) s1).2.2 by rw [iterS_snoc]; exact hrd)
      have HG2 := hide_ (grown_join HG.out hg2)
      have HCO2 := hide_ (HCO.out.grown (done_local) hg2 hgl)
      have HFAR := hide_ (show ∀ k, DoneM.ft x k → (w.heap.size ≤ k ∧ k < w2.heap.size) ∧ _ from part_far HCO.out hzw hli)
      have HOK := hide_ hok
      have HLEN := hide_ hxs
      have hz2 : w.heap.size ≤ w2.heap.size := HG2.out.size
      have hxl : xs.length ≤ 100000 := by omega
      clear hpx hok hli hrd hg2 HX HCO HRD HG HCALL hxs
      obtain ⟨x0, hx0⟩ : ∃ x0, x0 = x := ⟨_, rfl⟩
      have HX0 := hide_ hx0
      rw [← hx0] at HX2 HFAR HOK
      clear hx0
      obtain ⟨cl, sq, er, inc, st, ⟨vA, vc, vl⟩⟩ := x
      simp only [DoneM.v, Sl.v]
      go_wp2_with (at_builtin; refine wpList_append_coll w2 rfl _ _ 27 rfl _ _ done_info rfl (by omega) (by omega) Tryz.underlying27 HCO2.out (done_local) x0 HOK.out HFAR.out hz2 _ (by rw [HX0.out]; rfl) rfl (done_one1 _) hxl rfl rfl ?_; intro A3 c3 w3 hco3 hg3; (have HCO3 := hide_ hco3); (have HG3 := hide_ (grown_also HG2.out hg3 (own_from HCO2.out))); (have HR3 := hide_ (HR2.out.other hg3 (fun k hk => by (have := own_from HCO2.out k hk); omega))); clear hco3 hg3)
      go_roundw
      case rel => exact ⟨k + 1, xs ++ [x0], by omega, by go_num, by simp [HLEN.out], HX2, HCO3, HR3, HG3⟩
      case measure => simp [intOf]; omega
    · obtain rfl : k = n := by omega
      obtain ⟨A, c, hA⟩ := HCO.out.val
      subst hA
      obtain ⟨hso, hsl⟩ := HCO.out.slice rfl
      have HSO := hide_ hso
      have HSL := hide_ hsl
      clear hso hsl
      go_wp2
      go_ret
      exact ⟨⟨A, c, xs⟩, rfl, HX.out, HSO.out, HSL.out, HRD.out, HG.out⟩

set_option maxRecDepth 100000 in
set_option maxHeartbeats 800000 in
theorem manyCell6_any {β : Type} {g : Nat} {s : RS} {w : World} (pp : CelM → β) (fn : Nat) (bound cap : Array Value) (fS : RS → β × RS) (h : Rdr w g s.1 s.2) (hs : RSok s) (hfS : ∀ s, RSok s → RSok (fS s).2)
    (he : ∀ args w, (callFunc fn args).run Tryz.prog w = .ok (.enter fn args) w)
    (hf : ∀ w1 s1, w.grownBy w1 (some g) → Rdr w1 g s1.1 s1.2 → RSok s1 → Calls Tryz.prog fn (bound ++ cap) w1 (PartR celV pp (fun _ _ c => celIn c) noFt w1 g (fS s1))) :
    Calls Tryz.prog 270 #[takerV g, .func (.func fn) bound cap] w (PartR Sl.v (fun x => x.l.map pp) celsOk (Sl.ft noFt) w g (manyS 1000 fS s)) := by
  have H := hide_ (h.made (.cells #[.pointer (some ⟨g, 0, none⟩)] 283))
  have hgl : g < w.heap.size := h.glt
  have hb := (numS_ok (most := 1000) hs).2
  have HS1 := hide_ (numS_ok (most := 1000) hs).1
  have HC := hide_ (tOther6_any H.out hs)
  have HF := hide_ hf
  have HFS := hide_ hfS
  have HR := hide_ (show manyS 1000 fS s = iterS fS (numS 1000 s).1 (numS 1000 s).2 from rfl)
  obtain ⟨n, hn⟩ : ∃ n, (numS 1000 s).1 = n := ⟨_, rfl⟩
  obtain ⟨s1, hs1⟩ : ∃ s1, (numS 1000 s).2 = s1 := ⟨_, rfl⟩
  rw [hn] at hb
  rw [hs1] at HS1
  rw [hn, hs1] at HC HR
  rw [HR.out]
  unfold takerV
  have hnn : n ≤ 1000 := by omega
  clear h hs hn hs1 hf hfS HR
  go_enter Tryz.func270, Tryz.ntmps270
  go_wp2_with fail
  refine HC.out.mono ?_
  rintro e w1 ⟨rfl, hr1, hg1⟩
  have HR1 := hide_ hr1
  have HG1 := hide_ (grown_made hg1)
  clear hr1 hg1 HC
  go_wp2
  go_loopw [5, 8] (fun v i wr => ∃ (k : Nat) (xs : List (CelM)), k ≤ n ∧ i = .int .i64 k ∧ xs.length = k ∧ Hid (xs.map pp = (iterS fS k s1).1) ∧ Hid (Coll 108 4 celC (fun _ _ c => celIn c) noFt w.heap.size v xs wr) ∧ Hid (Rdr wr g (iterS fS k s1).2.1 (iterS fS k s1).2.2) ∧ Hid (w.grownBy wr (some g))) (fun _ i _ => n - (intOf i).toNat)
  case atStart => exact ⟨0, [], Nat.zero_le _, rfl, rfl, rfl, Coll.nil _, HR1.out, HG1.out⟩
  case round =>
    obtain ⟨k, xs, hk, rfl, hxs, HX, HCO, HRD, HG⟩ := hrel
    by_cases hlt : k < n
    · have HCALL := hide_ (HF.out _ _ HG.out HRD.out (iterS_ok HFS.out k s1 HS1.out))
      have hzw : w.heap.size ≤ wr.heap.size := HG.out.size
      go_wp2_with fail
      refine HCALL.out.mono ?_
      rintro e w2 ⟨x, rfl, hpx, hok, hli, hrd, hg2⟩
      have HX2 := hide_ (show (xs ++ [x]).map pp = (iterS fS (k + 1) s1).1 by rw [iterS_snoc, List.map_append, HX.out, ← hpx]; rfl)
      have HR2 := hide_ (show Rdr w2 g (iterS fS (k + 1) s1).2.1 (iterS fS (k + 1) s1).2.2 by rw [iterS_snoc]; exact hrd)
      have HG2 := hide_ (grown_join HG.out hg2)
      have HCO2 := hide_ (HCO.out.grown (local_plain celIn) hg2 hgl)
      have HFAR := hide_ (show ∀ k, noFt x k → (w.heap.size ≤ k ∧ k < w2.heap.size) ∧ _ from part_far HCO.out hzw hli)
      have HOK := hide_ hok
      have HLEN := hide_ hxs
      have hz2 : w.heap.size ≤ w2.heap.size := HG2.out.size
      have hxl : xs.length ≤ 100000 := by omega
      clear hpx hok hli hrd hg2 HX HCO HRD HG HCALL hxs
      obtain ⟨x0, hx0⟩ : ∃ x0, x0 = x := ⟨_, rfl⟩
      have HX0 := hide_ hx0
      rw [← hx0] at HX2 HFAR HOK
      clear hx0
      obtain ⟨a, b, c, d⟩ := x
      simp only [celV]
      go_wp2_with (at_builtin; refine wpList_append_coll w2 rfl _ _ 28 rfl _ _ cell_info rfl (by omega) (by omega) Tryz.underlying28 HCO2.out (local_plain celIn) x0 HOK.out HFAR.out hz2 _ (by rw [HX0.out]; rfl) rfl (cel_one1 _) hxl rfl rfl ?_; intro A3 c3 w3 hco3 hg3; (have HCO3 := hide_ hco3); (have HG3 := hide_ (grown_also HG2.out hg3 (own_from HCO2.out))); (have HR3 := hide_ (HR2.out.other hg3 (fun k hk => by (have := own_from HCO2.out k hk); omega))); clear hco3 hg3)
      go_roundw
      case rel => exact ⟨k + 1, xs ++ [x0], by omega, by go_num, by simp [HLEN.out], HX2, HCO3, HR3, HG3⟩
      case measure => simp [intOf]; omega
    · obtain rfl : k = n := by omega
      obtain ⟨A, c, hA⟩ := HCO.out.val
      subst hA
      obtain ⟨hso, hsl⟩ := HCO.out.slice rfl
      have HSO := hide_ hso
      have HSL := hide_ hsl
      clear hso hsl
      go_wp2
      go_ret
      exact ⟨⟨A, c, xs⟩, rfl, HX.out, HSO.out, HSL.out, HRD.out, HG.out⟩

set_option maxRecDepth 100000 in
set_option maxHeartbeats 800000 in
theorem manyMark6_any {β : Type} {g : Nat} {s : RS} {w : World} (pp : MrkM → β) (fn : Nat) (bound cap : Array Value) (fS : RS → β × RS) (h : Rdr w g s.1 s.2) (hs : RSok s) (hfS : ∀ s, RSok s → RSok (fS s).2)
    (he : ∀ args w, (callFunc fn args).run Tryz.prog w = .ok (.enter fn args) w)
    (hf : ∀ w1 s1, w.grownBy w1 (some g) → Rdr w1 g s1.1 s1.2 → RSok s1 → Calls Tryz.prog fn (bound ++ cap) w1 (PartR mrkV pp (fun _ _ c => mrkIn c) noFt w1 g (fS s1))) :
    Calls Tryz.prog 272 #[takerV g, .func (.func fn) bound cap] w (PartR Sl.v (fun x => x.l.map pp) mrksOk (Sl.ft noFt) w g (manyS 1000 fS s)) := by
  have H := hide_ (h.made (.cells #[.pointer (some ⟨g, 0, none⟩)] 283))
  have hgl : g < w.heap.size := h.glt
  have hb := (numS_ok (most := 1000) hs).2
  have HS1 := hide_ (numS_ok (most := 1000) hs).1
  have HC := hide_ (tOther6_any H.out hs)
  have HF := hide_ hf
  have HFS := hide_ hfS
  have HR := hide_ (show manyS 1000 fS s = iterS fS (numS 1000 s).1 (numS 1000 s).2 from rfl)
  obtain ⟨n, hn⟩ : ∃ n, (numS 1000 s).1 = n := ⟨_, rfl⟩
  obtain ⟨s1, hs1⟩ : ∃ s1, (numS 1000 s).2 = s1 := ⟨_, rfl⟩
  rw [hn] at hb
  rw [hs1] at HS1
  rw [hn, hs1] at HC HR
  rw [HR.out]
  unfold takerV
  have hnn : n ≤ 1000 := by omega
  clear h hs hn hs1 hf hfS HR
  go_enter Tryz.func272, Tryz.ntmps272
  go_wp2_with fail
  refine HC.out.mono ?_
  rintro e w1 ⟨rfl, hr1, hg1⟩
  have HR1 := hide_ hr1
  have HG1 := hide_ (grown_made hg1)
  clear hr1 hg1 HC
  go_wp2
  go_loopw [5, 8] (fun v i wr => ∃ (k : Nat) (xs : List (MrkM)), k ≤ n ∧ i = .int .i64 k ∧ xs.length = k ∧ Hid (xs.map pp = (iterS fS k s1).1) ∧ Hid (Coll 110 3 mrkC (fun _ _ c => mrkIn c) noFt w.heap.size v xs wr) ∧ Hid (Rdr wr g (iterS fS k s1).2.1 (iterS fS k s1).2.2) ∧ Hid (w.grownBy wr (some g))) (fun _ i _ => n - (intOf i).toNat)
  case atStart => exact ⟨0, [], Nat.zero_le _, rfl, rfl, rfl, Coll.nil _, HR1.out, HG1.out⟩
  case round =>
    obtain ⟨k, xs, hk, rfl, hxs, HX, HCO, HRD, HG⟩ := hrel
    by_cases hlt : k < n
    · have HCALL := hide_ (HF.out _ _ HG.out HRD.out (iterS_ok HFS.out k s1 HS1.out))
      have hzw : w.heap.size ≤ wr.heap.size := HG.out.size
      go_wp2_with fail
      refine HCALL.out.mono ?_
      rintro e w2 ⟨x, rfl, hpx, hok, hli, hrd, hg2⟩
      have HX2 := hide_ (show (xs ++ [x]).map pp = (iterS fS (k + 1) s1).1 by rw [iterS_snoc, List.map_append, HX.out, ← hpx]; rfl)
      have HR2 := hide_ (show Rdr w2 g (iterS fS (k + 1) s1).2.1 (iterS fS (k + 1) s1).2.2 by rw [iterS_snoc]; exact hrd)
      have HG2 := hide_ (grown_join HG.out hg2)
      have HCO2 := hide_ (HCO.out.grown (local_plain mrkIn) hg2 hgl)
      have HFAR := hide_ (show ∀ k, noFt x k → (w.heap.size ≤ k ∧ k < w2.heap.size) ∧ _ from part_far HCO.out hzw hli)
      have HOK := hide_ hok
      have HLEN := hide_ hxs
      have hz2 : w.heap.size ≤ w2.heap.size := HG2.out.size
      have hxl : xs.length ≤ 100000 := by omega
      clear hpx hok hli hrd hg2 HX HCO HRD HG HCALL hxs
      obtain ⟨x0, hx0⟩ : ∃ x0, x0 = x := ⟨_, rfl⟩
      have HX0 := hide_ hx0
      rw [← hx0] at HX2 HFAR HOK
      clear hx0
      obtain ⟨a, b, c⟩ := x
      simp only [mrkV]
      go_wp2_with (at_builtin; refine wpList_append_coll w2 rfl _ _ 29 rfl _ _ mark_info rfl (by omega) (by omega) Tryz.underlying29 HCO2.out (local_plain mrkIn) x0 HOK.out HFAR.out hz2 _ (by rw [HX0.out]; rfl) rfl (mrk_one1 _) hxl rfl rfl ?_; intro A3 c3 w3 hco3 hg3; (have HCO3 := hide_ hco3); (have HG3 := hide_ (grown_also HG2.out hg3 (own_from HCO2.out))); (have HR3 := hide_ (HR2.out.other hg3 (fun k hk => by (have := own_from HCO2.out k hk); omega))); clear hco3 hg3)
      go_roundw
      case rel => exact ⟨k + 1, xs ++ [x0], by omega, by go_num, by simp [HLEN.out], HX2, HCO3, HR3, HG3⟩
      case measure => simp [intOf]; omega
    · obtain rfl : k = n := by omega
      obtain ⟨A, c, hA⟩ := HCO.out.val
      subst hA
      obtain ⟨hso, hsl⟩ := HCO.out.slice rfl
      have HSO := hide_ hso
      have HSL := hide_ hsl
      clear hso hsl
      go_wp2
      go_ret
      exact ⟨⟨A, c, xs⟩, rfl, HX.out, HSO.out, HSL.out, HRD.out, HG.out⟩

end Go.Proofs.YtnkjdijbfnmnhaaGreat

/-
  Contracts of reg's taker: cells, marks, replies, entries.
-/
namespace Go.Proofs.YtnkjdijbfnmnhaaGreat
open Go.RowKit

/-- a reply -/
structure RepM where
  er : Int
  inc : Int
  st : Int
  va : IntS
def RepM.v (d : RepM) : Value := .agg #[.int .i64 d.er, .int .u64 d.inc, .int .i64 d.st, d.va.v]
def RepM.ok (w : World) (B : Nat) (d : RepM) : Prop := (I64 d.er ∧ U64 d.inc ∧ I64 d.st) ∧ intsOk w B d.va
def RepM.ft (d : RepM) : Nat → Prop := Sl.ft noFt d.va
def RepM.p (d : RepM) : RepP := (d.er, d.inc, d.st, d.va.l)
theorem rep_local : Local RepM.ok RepM.ft := fun w w' B B' x h hk hB => ⟨h.1, ints_local w w' B B' x.va h.2 hk hB⟩
theorem rep_stable : Stable RepM.ok := fun w w' B B' x h hk hB => ⟨h.1, ints_stable w w' B B' x.va h.2 hk hB⟩
theorem done_of {w : World} {B : Nat} {a b : Int} {r : RepM} (h1 : U8 a) (h2 : U64 b) (h : RepM.ok w B r) : DoneM.ok w B ⟨a, b, r.er, r.inc, r.st, r.va⟩ := ⟨⟨h1, h2, h.1⟩, h.2⟩

def varS (s : RS) : List Int × RS := manyS 1000 intS s
def repS (s : RS) : RepP × RS :=
  ((((numS 1000 s).1 : Int), ((numBig (numS 1000 s).2).1 : Int), ((numS 1000 (numBig (numS 1000 s).2).2).1 : Int), (varS (numS 1000 (numBig (numS 1000 s).2).2).2).1), (varS (numS 1000 (numBig (numS 1000 s).2).2).2).2)
def doneS (s : RS) : DoneP × RS :=
  ((((numS 255 s).1 : Int), ((numBig (numS 255 s).2).1 : Int), (repS (numBig (numS 255 s).2).2).1), (repS (numBig (numS 255 s).2).2).2)
def celS (s : RS) : CelM × RS :=
  ((((numBig s).1 : Int), ((numS 255 (numBig s).2).1 : Int), ((numS 1000 (numS 255 (numBig s).2).2).1 : Int), (intS (numS 1000 (numS 255 (numBig s).2).2).2).1), (intS (numS 1000 (numS 255 (numBig s).2).2).2).2)
def mrkS (s : RS) : MrkM × RS :=
  ((((numS 255 s).1 : Int), ((numBig (numS 255 s).2).1 : Int), ((numBig (numBig (numS 255 s).2).2).1 : Int)), (numBig (numBig (numS 255 s).2).2).2)
theorem varS_ok {s : RS} (h : RSok s) : RSok (varS s).2 := manyS_ok (fun _ h => (intS_ok h).1) h
theorem repS_ok {s : RS} (h : RSok s) : RSok (repS s).2 := varS_ok (numS_ok (numBig_ok (numS_ok h).1).1).1
theorem doneS_ok {s : RS} (h : RSok s) : RSok (doneS s).2 := repS_ok (numBig_ok (numS_ok h).1).1
theorem celS_ok {s : RS} (h : RSok s) : RSok (celS s).2 := (intS_ok (numS_ok (numS_ok (numBig_ok h).1).1).1).1
theorem mrkS_ok {s : RS} (h : RSok s) : RSok (mrkS s).2 := (numBig_ok (numBig_ok (numS_ok h).1).1).1

set_option maxRecDepth 100000 in
/-- many whole numbers, by the reader's own method -/
theorem intsOf6_any {g : Nat} {s : RS} {w : World} (h : Rdr w g s.1 s.2) (hs : RSok s) : Calls Tryz.prog 266 #[takerV g, .func (.func 267) #[.pointer (some ⟨g, 0, none⟩)] #[]] w (PartR Sl.v (fun x => x.l) intsOk (Sl.ft noFt) w g (varS s)) := by
  refine (manyInt6_any id 267 #[.pointer (some ⟨g, 0, none⟩)] #[] intS h hs (fun _ h => (intS_ok h).1) (fun _ _ => rfl) (fun w1 s1 _ hr hs1 => (Int_st hr hs1).mono ?_)).mono ?_
  · rintro en w2 ⟨rfl, hr2, hg2⟩
    exact ⟨(intS s1).1, rfl, rfl, (intS_ok hs1).2, fun _ h => h.elim, hr2, hg2⟩
  · rintro en w2 ⟨x, rfl, hp, ho, hl, hr, hg⟩
    exact ⟨x, rfl, by rw [← show x.l.map id = (varS s).1 from hp, List.map_id], ho, hl, hr, hg⟩

end Go.Proofs.YtnkjdijbfnmnhaaGreat

/-
  Contracts of reg's functions that tell which registers may be, but for May.
-/
namespace Go.Proofs.YtnkjdijbfnmnhaaGreat
open Go.RowKit

theorem mayState_any (st : Int) (A : Option Addr) (va : List Int) (n c : Nat) (hn : va.length = n) (hm : n ≤ 9223372036854775807) (w : World) : Calls Tryz.prog 232 #[.int .i64 st, .slice A n c] w fun e w' => e = .returned (.bool (staB st va)) ∧ w = w' := by
  have HR := hide_ (show staB st va = (inB st 0 31 && decide (n ≤ 8)) by unfold staB; rw [hn])
  rw [HR.out]
  clear hn
  cases h : inB st 0 31 with
  | false =>
    have HI := hide_ h
    clear h
    go_enter Tryz.func232, Tryz.ntmps232
    go_wp2_with fail
    refine (withinInt_any _ _ _ _).mono ?_
    rw [HI.out]
    rintro en w1 ⟨rfl, rfl⟩
    go_wp2
    go_ret
    exact ⟨rfl, rfl⟩
  | true =>
    have HI := hide_ h
    clear h
    by_cases h8 : n ≤ 8
    · have hd : decide ((n : Int) ≤ 8) = true := decide_eq_true (by omega)
      have HD := hide_ (show (true && decide (n ≤ 8)) = true by simp [h8])
      clear h8
      go_enter Tryz.func232, Tryz.ntmps232
      go_wp2_with fail
      refine (withinInt_any _ _ _ _).mono ?_
      rw [HI.out]
      rintro en w1 ⟨rfl, rfl⟩
      go_wp2
      go_ret
      exact ⟨ret_boolT HD.out.symm, rfl⟩
    · have hd : decide ((n : Int) ≤ 8) = false := decide_eq_false (by omega)
      have HD := hide_ (show (true && decide (n ≤ 8)) = false by simp [h8])
      clear h8
      go_enter Tryz.func232, Tryz.ntmps232
      go_wp2_with fail
      refine (withinInt_any _ _ _ _).mono ?_
      rw [HI.out]
      rintro en w1 ⟨rfl, rfl⟩
      go_wp2
      go_ret
      exact ⟨ret_boolT HD.out.symm, rfl⟩

theorem mayReply_any (r : RepM) (hm : r.va.l.length ≤ 9223372036854775807) (w : World) : Calls Tryz.prog 291 #[r.v] w fun e w' => e = .returned (.bool (repB r.p)) ∧ Below w.heap.size w w' := by
  obtain ⟨er, inc, st, ⟨A, c, va⟩⟩ := r
  obtain ⟨n, hn⟩ : ∃ n, va.length = n := ⟨_, rfl⟩
  simp only [hn] at hm
  have HS := hide_ (fun u => mayState_any st A va n c hn hm u)
  simp only [RepM.v, Sl.v, RepM.p, hn]
  clear hn
  have HR := hide_ (show repB (er, inc, st, va) = (inB er 0 99 && staB st va) from rfl)
  rw [HR.out]
  clear HR
  cases h : inB er 0 99 with
  | false =>
    have HI := hide_ h
    clear h
    go_enter Tryz.func291, Tryz.ntmps291
    go_wp2_with fail
    refine (withinErr_any _ _ _ _).mono ?_
    rw [HI.out]
    rintro en w1 ⟨rfl, rfl⟩
    go_wp2
    go_ret
    exact ⟨rfl, (Below.refl _ _).alloc (Nat.le_refl _) _⟩
  | true =>
    have HI := hide_ h
    clear h
    obtain ⟨q, hq⟩ : ∃ q, staB st va = q := ⟨_, rfl⟩
    simp only [hq] at HS
    rw [hq]
    clear hq
    go_enter Tryz.func291, Tryz.ntmps291
    go_wp2_with fail
    refine (withinErr_any _ _ _ _).mono ?_
    rw [HI.out]
    rintro en w1 ⟨rfl, rfl⟩
    go_wp2_with fail
    refine (HS.out _).mono ?_
    rintro en w2 ⟨rfl, rfl⟩
    go_wp2
    go_ret
    exact ⟨by simp, (Below.refl _ _).alloc (Nat.le_refl _) _⟩

theorem numD_any (x : DoneM) (hx : U8 x.cl) (w : World) : Calls Tryz.prog 289 #[x.v] w fun e w' => e = .returned (.int .u64 x.cl) ∧ Below w.heap.size w w' := by
  obtain ⟨cl, sq, er, inc, st, ⟨vA, vc, vl⟩⟩ := x
  obtain ⟨h1, h2⟩ := hx
  simp only at h1 h2
  simp only [DoneM.v, Sl.v]
  go_enter Tryz.func289, Tryz.ntmps289
  go_wp2
  go_ret
  exact ⟨rfl, (Below.refl _ _).alloc (Nat.le_refl _) _⟩
theorem numC_any (x : CelM) (w : World) : Calls Tryz.prog 294 #[celV x] w fun e w' => e = .returned (.int .u64 x.1) ∧ Below w.heap.size w w' := by
  obtain ⟨a, b, c, d⟩ := x
  simp only [celV]
  go_enter Tryz.func294, Tryz.ntmps294
  go_wp2
  go_ret
  exact ⟨rfl, (Below.refl _ _).alloc (Nat.le_refl _) _⟩
theorem numM_any (x : MrkM) (hx : U8 x.1) (w : World) : Calls Tryz.prog 298 #[mrkV x] w fun e w' => e = .returned (.int .u64 x.1) ∧ Below w.heap.size w w' := by
  obtain ⟨a, b, c⟩ := x
  obtain ⟨h1, h2⟩ := hx
  simp only at h1 h2
  simp only [mrkV]
  go_enter Tryz.func298, Tryz.ntmps298
  go_wp2
  go_ret
  exact ⟨rfl, (Below.refl _ _).alloc (Nat.le_refl _) _⟩

theorem mayNotD_any (x : DoneM) (hm : x.va.l.length ≤ 9223372036854775807) (w : World) : Calls Tryz.prog 290 #[x.v] w fun e w' => e = .returned (.bool (decide (x.sq = 0) || !(repB x.p.2.2))) ∧ Below w.heap.size w w' := by
  obtain ⟨cl, sq, er, inc, st, ⟨vA, vc, vl⟩⟩ := x
  have HC := hide_ (fun u => mayReply_any ⟨er, inc, st, ⟨vA, vc, vl⟩⟩ hm u)
  simp only [RepM.v, Sl.v, RepM.p] at HC
  simp only [DoneM.v, Sl.v, DoneM.p]
  obtain ⟨q, hq⟩ : ∃ q, repB (er, inc, st, vl) = q := ⟨_, rfl⟩
  simp only [hq] at HC ⊢
  clear hq hm
  by_cases h0 : sq = 0
  · have hb : (sq == 0) = true := by simp [h0]
    have HD := hide_ (show (decide (sq = 0) || !q) = true by simp [h0])
    clear h0
    go_enter Tryz.func290, Tryz.ntmps290
    go_wp2
    go_ret
    exact ⟨ret_boolT HD.out.symm, (Below.refl _ _).alloc (Nat.le_refl _) _⟩
  · have hb : (sq == 0) = false := beq_eq_false_iff_ne.2 h0
    have HD := hide_ (show (decide (sq = 0) || !q) = !q by simp [h0])
    clear h0
    go_enter Tryz.func290, Tryz.ntmps290
    go_wp2_with fail
    refine (HC.out _).mono ?_
    rintro en w1 ⟨rfl, hb1⟩
    have HB1 := hide_ (((Below.refl w.heap.size w).alloc (Nat.le_refl _) _).trans (hb1.mono (by simp)))
    clear hb1
    go_wp2
    go_ret
    exact ⟨ret_boolT HD.out.symm, HB1.out⟩
theorem mayNotC_any (x : CelM) (w : World) : Calls Tryz.prog 295 #[celV x] w fun e w' => e = .returned (.bool (decide (16 ≤ x.2.1) || !(inB x.2.2.1 0 31))) ∧ Below w.heap.size w w' := by
  obtain ⟨a, b, c, d⟩ := x
  simp only [celV]
  by_cases h0 : 16 ≤ b
  · have hb : decide (16 ≤ b) = true := decide_eq_true h0
    have HD := hide_ (show (decide (16 ≤ b) || !(inB c 0 31)) = true by simp [h0])
    clear h0
    go_enter Tryz.func295, Tryz.ntmps295
    go_wp2
    go_ret
    exact ⟨ret_boolT HD.out.symm, (Below.refl _ _).alloc (Nat.le_refl _) _⟩
  · have hb : decide (16 ≤ b) = false := decide_eq_false h0
    have HD := hide_ (show (decide (16 ≤ b) || !(inB c 0 31)) = !(inB c 0 31) by simp [h0])
    clear h0
    go_enter Tryz.func295, Tryz.ntmps295
    go_wp2_with fail
    refine (withinInt_any _ _ _ _).mono ?_
    rintro en w1 ⟨rfl, rfl⟩
    go_wp2
    go_ret
    exact ⟨ret_boolT HD.out.symm, (Below.refl _ _).alloc (Nat.le_refl _) _⟩
theorem mayNotM_any (x : MrkM) (w : World) : Calls Tryz.prog 299 #[mrkV x] w fun e w' => e = .returned (.bool (decide (x.2.1 = 0) || decide (x.2.2 = 0))) ∧ Below w.heap.size w w' := by
  obtain ⟨a, b, c⟩ := x
  simp only [mrkV]
  by_cases h0 : b = 0
  · have hb : (b == 0) = true := by simp [h0]
    have HD := hide_ (show (decide (b = 0) || decide (c = 0)) = true by simp [h0])
    clear h0
    go_enter Tryz.func299, Tryz.ntmps299
    go_wp2
    go_ret
    exact ⟨ret_boolT HD.out.symm, (Below.refl _ _).alloc (Nat.le_refl _) _⟩
  · have hb : (b == 0) = false := beq_eq_false_iff_ne.2 h0
    have HD := hide_ (show (decide (b = 0) || decide (c = 0)) = (c == 0) by rw [decide_eq_false h0, Bool.false_or, Bool.eq_iff_iff]; simp)
    clear h0
    go_enter Tryz.func299, Tryz.ntmps299
    go_wp2
    go_ret
    exact ⟨ret_boolT HD.out.symm, (Below.refl _ _).alloc (Nat.le_refl _) _⟩
end Go.Proofs.YtnkjdijbfnmnhaaGreat

/-
  Contracts of reg's mayDone, mayOut, mayMarks, mayStand.
-/
namespace Go.Proofs.YtnkjdijbfnmnhaaGreat
open Go.RowKit

theorem sl_len {α : Type} {cs : α → List Value} {p : World → Nat → α → Prop} {w : World} {B : Nat} {s : Sl α} (h : Sl.ok cs p w B s) : s.l.length ≤ 9223372036854775807 := by
  have h3 := h.1
  have h4 := h.2.1
  unfold maxLen at h4
  omega

set_option maxRecDepth 100000 in
theorem mayDone_any (s : Sl DoneM) (B : Nat) (w : World) (hs : dnsOk w B s) (hB : B ≤ w.heap.size) : Calls Tryz.prog 233 #[s.v] w fun e w' => e = .returned (.bool (dnsB (s.l.map DoneM.p))) ∧ Below B w w' := by
  have HR := hide_ (risesDone_any 289 1 8 s B w hs hB (fun _ _ => rfl) (fun x wr hx => numD_any x (hs.2.2.2 x hx).1.1 wr))
  have HC := hide_ (fun (u : World) (hb : Below B w u) => containsDone_any (dnX (s.l.map DoneM.p)) (fun _ _ => True) 290 #[] s B u (dns_stable.below hs hb) (Nat.le_trans hB hb.size) trivial (fun _ _ => rfl) (fun k x wr hx hb2 _ => by
    show Calls Tryz.prog 290 #[DoneM.v x] wr _
    refine (mayNotD_any x (sl_len (hs.2.2.2 x (List.mem_of_getElem? hx)).2) wr).mono ?_
    rintro en w2 ⟨rfl, hb3⟩
    exact ⟨ret_boolT (by rw [dnX_at (d := x.p) (by rw [List.getElem?_map, hx]; rfl)]; rfl), fun _ => trivial, hb3.mono (Nat.le_trans (Nat.le_trans hB hb.size) hb2.size)⟩))
  have HD := hide_ (show dnsB (s.l.map DoneM.p) = (risB (s.l.map (fun x => x.cl)) 1 8 && !(anyB (dnX (s.l.map DoneM.p)) s.l.length)) by
    unfold dnsB
    rw [List.map_map, List.length_map]
    rfl)
  rw [HD.out]
  obtain ⟨q1, h1⟩ : ∃ q, risB (s.l.map (fun x => x.cl)) 1 8 = q := ⟨_, rfl⟩
  obtain ⟨q2, h2⟩ : ∃ q, anyB (dnX (s.l.map DoneM.p)) s.l.length = q := ⟨_, rfl⟩
  simp only [h1] at HR ⊢
  simp only [h2] at HC ⊢
  clear HD h1 h2 hs
  simp only [Sl.v] at HR HC ⊢
  go_enter Tryz.func233, Tryz.ntmps233
  go_wp2_with fail
  refine HR.out.mono ?_
  rintro en w1 ⟨rfl, hb1⟩
  cases q1 with
  | false =>
    go_wp2
    go_ret
    exact ⟨rfl, hb1⟩
  | true =>
    have HB1 := hide_ hb1
    clear hb1
    go_wp2_with fail
    refine (HC.out _ HB1.out).mono ?_
    rintro en w2 ⟨rfl, hb2⟩
    have HB2 := hide_ (HB1.out.trans hb2)
    clear hb2
    go_wp2
    go_ret
    exact ⟨by simp, HB2.out⟩

set_option maxRecDepth 100000 in
theorem mayMarks_any (s : Sl MrkM) (B : Nat) (w : World) (hs : mrksOk w B s) (hB : B ≤ w.heap.size) : Calls Tryz.prog 235 #[s.v] w fun e w' => e = .returned (.bool (mksB s.l)) ∧ Below B w w' := by
  have HR := hide_ (risesMark_any 298 0 15 s B w hs hB (fun _ _ => rfl) (fun x wr hx => numM_any x (hs.2.2.2 x hx).1 wr))
  have HC := hide_ (fun (u : World) (hb : Below B w u) => containsMark_any (mkX s.l) (fun _ _ => True) 299 #[] s B u (mrks_stable.below hs hb) (Nat.le_trans hB hb.size) trivial (fun _ _ => rfl) (fun k x wr hx hb2 _ => by
    show Calls Tryz.prog 299 #[mrkV x] wr _
    refine (mayNotM_any x wr).mono ?_
    rintro en w2 ⟨rfl, hb3⟩
    exact ⟨ret_boolT (by rw [mkX_at hx]), fun _ => trivial, hb3.mono (Nat.le_trans (Nat.le_trans hB hb.size) hb2.size)⟩))
  have HD := hide_ (show mksB s.l = (risB (s.l.map (fun x => x.1)) 0 15 && !(anyB (mkX s.l) s.l.length)) from rfl)
  rw [HD.out]
  obtain ⟨q1, h1⟩ : ∃ q, risB (s.l.map (fun x => x.1)) 0 15 = q := ⟨_, rfl⟩
  obtain ⟨q2, h2⟩ : ∃ q, anyB (mkX s.l) s.l.length = q := ⟨_, rfl⟩
  simp only [h1] at HR ⊢
  simp only [h2] at HC ⊢
  clear HD h1 h2 hs
  simp only [Sl.v] at HR HC ⊢
  go_enter Tryz.func235, Tryz.ntmps235
  go_wp2_with fail
  refine HR.out.mono ?_
  rintro en w1 ⟨rfl, hb1⟩
  cases q1 with
  | false =>
    go_wp2
    go_ret
    exact ⟨rfl, hb1⟩
  | true =>
    have HB1 := hide_ hb1
    clear hb1
    go_wp2_with fail
    refine (HC.out _ HB1.out).mono ?_
    rintro en w2 ⟨rfl, hb2⟩
    have HB2 := hide_ (HB1.out.trans hb2)
    clear hb2
    go_wp2
    go_ret
    exact ⟨by simp, HB2.out⟩

set_option maxRecDepth 100000 in
theorem mayOut_any (s : Sl CelM) (la : Int) (B : Nat) (w : World) (hs : celsOk w B s) (hB : B ≤ w.heap.size) : Calls Tryz.prog 234 #[s.v, .int .u64 la] w fun e w' => e = .returned (.bool (ousB s.l la)) ∧ Below B w w' := by
  have HR := hide_ (risesCell_any 294 1 la s B w hs hB (fun _ _ => rfl) (fun x wr _ => numC_any x wr))
  have HC := hide_ (fun (u : World) (hb : Below B w u) => containsCell_any (ouX s.l) (fun _ _ => True) 295 #[] s B u (cels_stable.below hs hb) (Nat.le_trans hB hb.size) trivial (fun _ _ => rfl) (fun k x wr hx hb2 _ => by
    show Calls Tryz.prog 295 #[celV x] wr _
    refine (mayNotC_any x wr).mono ?_
    rintro en w2 ⟨rfl, hb3⟩
    exact ⟨ret_boolT (by rw [ouX_at hx]), fun _ => trivial, hb3.mono (Nat.le_trans (Nat.le_trans hB hb.size) hb2.size)⟩))
  have hm := sl_len hs
  have HD := hide_ (show ousB s.l la = (decide (s.l.length ≤ 8) && (risB (s.l.map (fun x => x.1)) 1 la && !(anyB (ouX s.l) s.l.length))) from rfl)
  rw [HD.out]
  obtain ⟨q1, h1⟩ : ∃ q, risB (s.l.map (fun x => x.1)) 1 la = q := ⟨_, rfl⟩
  obtain ⟨q2, h2⟩ : ∃ q, anyB (ouX s.l) s.l.length = q := ⟨_, rfl⟩
  simp only [h1] at HR ⊢
  simp only [h2] at HC ⊢
  clear HD h1 h2 hs
  obtain ⟨n, hn⟩ : ∃ n, s.l.length = n := ⟨_, rfl⟩
  simp only [Sl.v, hn] at HR HC hm ⊢
  clear hn
  by_cases h8 : n ≤ 8
  case neg =>
    have hd : decide ((n : Int) ≤ 8) = false := decide_eq_false (by omega)
    have HE := hide_ (show (decide (n ≤ 8) && (q1 && !q2)) = false by simp [h8])
    clear h8
    go_enter Tryz.func234, Tryz.ntmps234
    go_wp2
    go_ret
    exact ⟨ret_boolT HE.out.symm, Below.refl _ _⟩
  have hd : decide ((n : Int) ≤ 8) = true := decide_eq_true (by omega)
  have HE := hide_ (show (decide (n ≤ 8) && (q1 && !q2)) = (q1 && !q2) by simp [h8])
  rw [HE.out]
  clear h8 HE
  go_enter Tryz.func234, Tryz.ntmps234
  go_wp2_with fail
  refine HR.out.mono ?_
  rintro en w1 ⟨rfl, hb1⟩
  cases q1 with
  | false =>
    go_wp2
    go_ret
    exact ⟨rfl, hb1⟩
  | true =>
    have HB1 := hide_ hb1
    clear hb1
    go_wp2_with fail
    refine (HC.out _ HB1.out).mono ?_
    rintro en w2 ⟨rfl, hb2⟩
    have HB2 := hide_ (HB1.out.trans hb2)
    clear hb2
    go_wp2
    go_ret
    exact ⟨by simp, HB2.out⟩

/-- a register's box -/
def RegM.box (r : RegM) : Array Value := #[.int .u8 r.ki, .int .u64 r.inc, .int .i64 r.st, .slice r.va.A r.va.l.length r.va.c, .slice r.dn.A r.dn.l.length r.dn.c, .slice r.ou.A r.ou.l.length r.ou.c, .int .u64 r.la, .slice r.ma.A r.ma.l.length r.ma.c]

set_option maxRecDepth 100000 in
set_option maxHeartbeats 3200000 in
theorem mayStand_any6 (r : RegM) (B : Nat) (w : World) (hr : RegM.ok w B r) (hB : B ≤ w.heap.size) : Calls Tryz.prog 171 #[r.v] w fun e w' => e = .returned (.bool (stnB r.p)) ∧ Below B w w' := by
  have HW := hide_ (show Below B w (w.alloc (.cells r.box 31)) from (Below.refl _ _).alloc hB _)
  have HX := hide_ (BoxAt.new w r.box 31)
  have HS := hide_ (fun (u : World) => mayState_any r.st r.va.A r.va.l r.va.l.length r.va.c rfl (sl_len hr.2.1) u)
  have HD := hide_ (fun (u : World) (hb : Below B w u) => mayDone_any r.dn u.heap.size u (dns_stable.more (dns_stable.below hr.2.2.1 hb) (Nat.le_trans hB hb.size)) (Nat.le_refl _))
  have HO := hide_ (fun (u : World) (hb : Below B w u) => mayOut_any r.ou r.la u.heap.size u (cels_stable.more (cels_stable.below hr.2.2.2.1 hb) (Nat.le_trans hB hb.size)) (Nat.le_refl _))
  have HM := hide_ (fun (u : World) (hb : Below B w u) => mayMarks_any r.ma u.heap.size u (mrks_stable.more (mrks_stable.below hr.2.2.2.2 hb) (Nat.le_trans hB hb.size)) (Nat.le_refl _))
  have HP := hide_ (show stnB r.p = (!(decide (r.inc = 0)) && (staB r.st r.va.l && (dnsB (r.dn.l.map DoneM.p) && (ousB r.ou.l r.la && mksB r.ma.l)))) from rfl)
  rw [HP.out]
  obtain ⟨q1, h1⟩ : ∃ q, staB r.st r.va.l = q := ⟨_, rfl⟩
  obtain ⟨q2, h2⟩ : ∃ q, dnsB (r.dn.l.map DoneM.p) = q := ⟨_, rfl⟩
  obtain ⟨q3, h3⟩ : ∃ q, ousB r.ou.l r.la = q := ⟨_, rfl⟩
  obtain ⟨q4, h4⟩ : ∃ q, mksB r.ma.l = q := ⟨_, rfl⟩
  simp only [h1] at HS ⊢
  simp only [h2] at HD ⊢
  simp only [h3] at HO ⊢
  simp only [h4] at HM ⊢
  clear HP h1 h2 h3 h4 hr
  obtain ⟨ki, inc, st, ⟨vA, vc, vl⟩, ⟨dA, dc, dl⟩, ⟨oA, oc, ol⟩, la, ⟨mA, mc, ml⟩⟩ := r
  simp only [RegM.v, RegM.box, Sl.v] at HS HD HO HM HW HX ⊢
  by_cases hi : inc = 0
  · have hd : (inc != 0) = false := by simp [hi]
    have HE := hide_ (show (!(decide (inc = 0)) && (q1 && (q2 && (q3 && q4)))) = false by simp [hi])
    clear hi
    go_enter Tryz.func171, Tryz.ntmps171
    go_wp2
    go_ret
    exact ⟨ret_boolT HE.out.symm, HW.out⟩
  have hd : (inc != 0) = true := by simp [hi]
  have HE := hide_ (show (!(decide (inc = 0)) && (q1 && (q2 && (q3 && q4)))) = (q1 && (q2 && (q3 && q4))) by simp [hi])
  rw [HE.out]
  clear hi HE
  go_enter Tryz.func171, Tryz.ntmps171
  go_wp2_with fail
  refine (HS.out _).mono ?_
  rintro en w1 ⟨rfl, rfl⟩
  cases q1 with
  | false =>
    go_wp2
    go_ret
    exact ⟨rfl, HW.out⟩
  | true =>
  go_wp2_with fail
  refine (HD.out _ HW.out).mono ?_
  rintro en w2 ⟨rfl, hb2⟩
  have HB2 := hide_ (HW.out.trans (hb2.mono (Nat.le_trans hB HW.out.size)))
  have HX2 := hide_ (HX.out.below hb2)
  clear hb2
  have hz2 : w.heap.size < w2.heap.size := HX2.out.lt
  have hcx := HX2.out.cell
  cases q2 with
  | false =>
    go_wp2
    go_ret
    exact ⟨rfl, HB2.out⟩
  | true =>
  go_wp2_with fail
  refine (HO.out _ HB2.out).mono ?_
  rintro en w3 ⟨rfl, hb3⟩
  have HB3 := hide_ (HB2.out.trans (hb3.mono (Nat.le_trans hB HB2.out.size)))
  have HX3 := hide_ (HX2.out.below hb3)
  clear hb3
  clear hcx
  have hz3 : w.heap.size < w3.heap.size := HX3.out.lt
  have hcx := HX3.out.cell
  cases q3 with
  | false =>
    go_wp2
    go_ret
    exact ⟨rfl, HB3.out⟩
  | true =>
  go_wp2_with fail
  refine (HM.out _ HB3.out).mono ?_
  rintro en w4 ⟨rfl, hb4⟩
  have HB4 := hide_ (HB3.out.trans (hb4.mono (Nat.le_trans hB HB3.out.size)))
  have HX4 := hide_ (HX3.out.below hb4)
  clear hb4
  clear hcx
  go_wp2
  go_ret
  exact ⟨by simp, HB4.out⟩
end Go.Proofs.YtnkjdijbfnmnhaaGreat

/-
  Contract of slices.Equal at Int.
-/
namespace Go.Proofs.YtnkjdijbfnmnhaaGreat
open Go.RowKit

set_option maxRecDepth 100000 in
set_option maxHeartbeats 3200000 in
theorem equalInt_any (l1 l2 : List (Int)) (A1 A2 : Option Addr) (n1 n2 c1 c2 B : Nat) (w : World) (hn1 : l1.length = n1) (hn2 : l2.length = n2) (hm : n1 ≤ 9223372036854775807) (hm2 : n2 ≤ 9223372036854775807) (h1 : Sees w B A1 (l1.flatMap intC)) (h2 : Sees w B A2 (l2.flatMap intC)) (hB : B ≤ w.heap.size) :
    Calls Tryz.prog 195 #[.slice A1 n1 c1, .slice A2 n2 c2] w fun e w' => e = .returned (.bool (decide (l1 = l2))) ∧ Below w.heap.size w w' := by
  by_cases hne : n1 = n2
  case neg =>
    have HD := hide_ (show decide (l1 = l2) = false by rw [decide_eq_false_iff_not]; intro e; exact hne (by rw [← hn1, ← hn2, e]))
    have hb : ((n1 : Int) != (n2 : Int)) = true := by simpa using (show ¬ (n1 : Int) = n2 by omega)
    clear hn1 hn2 h1 h2 hne
    go_enter Tryz.func195, Tryz.ntmps195
    go_wp2
    go_ret
    exact ⟨ret_boolT HD.out.symm, Below.refl _ _⟩
  subst hne
  have hb : ((n1 : Int) != (n1 : Int)) = false := by simp
  have HN1 := hide_ hn1
  have HN2 := hide_ hn2
  have HS1 := hide_ h1
  have HS2 := hide_ h2
  clear hn1 hn2 h1 h2
  go_enter Tryz.func195, Tryz.ntmps195
  go_wp2
  go_loopw [13] (fun i wr => ∃ k : Nat, k ≤ n1 ∧ i = .int .i64 k ∧ Hid (∀ j, j < k → l1[j]? = l2[j]?) ∧ Below w.heap.size w wr) (fun i _ => n1 - (intOf i).toNat)
  case atStart => exact ⟨0, Nat.zero_le _, rfl, (fun j hj => absurd hj (by omega)), Below.refl _ _⟩
  case round =>
    obtain ⟨k, hk, rfl, HJ, hb'⟩ := hrel
    have HBW := hide_ hb'
    have hzw : w.heap.size ≤ wr.heap.size := hb'.size
    by_cases hlt : k < n1
    case neg =>
      obtain rfl : k = n1 := by omega
      have HD := hide_ (show decide (l1 = l2) = true by
        rw [decide_eq_true_eq]
        refine List.ext_getElem? fun j => ?_
        by_cases h : j < k
        · exact HJ.out j h
        · rw [List.getElem?_eq_none (by rw [HN1.out]; omega), List.getElem?_eq_none (by rw [HN2.out]; omega)])
      clear hb'
      go_wp2
      go_ret
      exact ⟨ret_boolT HD.out.symm, HBW.out⟩
    obtain ⟨x, hx⟩ : ∃ x, l1[k]? = some x := ⟨_, List.getElem?_eq_getElem (by rw [HN1.out]; exact hlt)⟩
    obtain ⟨y, hy⟩ : ∃ y, l2[k]? = some y := ⟨_, List.getElem?_eq_getElem (by rw [HN2.out]; exact hlt)⟩
    obtain ⟨tb, ot, hAe, hab, e0⟩ := (HS1.out.below (hb'.mono hB)).i64 hx
    obtain ⟨ub, uo, hAe2, hab2, g0⟩ := (HS2.out.below (hb'.mono hB)).i64 hy
    have hwz : tb < wr.heap.size := by omega
    have huz : ub < wr.heap.size := by omega
    subst hAe hAe2
    have HX := hide_ hx
    have HY := hide_ hy
    clear hx hy hb' HS1 HS2
    by_cases hq : x = y
    case neg =>
      have HD := hide_ (show decide (l1 = l2) = false by rw [decide_eq_false_iff_not]; rintro rfl; have h := HX.out.symm.trans HY.out; simp at h; exact hq (by simp [h]))
      have hd : (x == y) = false := beq_eq_false_iff_ne.2 hq
      have hd2 : (x != y) = true := bne_iff_ne.2 hq
      clear hq
      go_upto_region 6 with fail
      refine wp_region_held_drew (S := fun w' => w'.cell? ⟨tb, ot + k, none⟩ = some (.int .i64 x) ∧ w'.cell? ⟨ub, uo + k, none⟩ = some (.int .i64 y)) (by kernel_rfl) (⟨e0, g0⟩) (fun hHeld => ?_)
      refine tkY 0 16 ?v1 rfl ?hy1 (by assumption) ?rest1
      case hy1 => intro w hSw; (try dsimp only at hSw); go_simp <;> with_reducible rfl
      simp only [Act.put, sTI, sT0, sT1]
      refine tkY 1 17 ?v2 rfl ?hy2 (by assumption) ?rest2
      case hy2 => intro w hSw; (try dsimp only at hSw); go_simp <;> with_reducible rfl
      simp only [Act.put, sTI, sT0, sT1]
      refine tkY 2 18 ?v3 rfl ?hy3 (by assumption) ?rest3
      case hy3 => intro w hSw; (try dsimp only at hSw); go_simp <;> with_reducible rfl
      simp only [Act.put, sTI, sT0, sT1]
      refine tkY 3 19 ?v4 rfl ?hy4 (by assumption) ?rest4
      case hy4 => intro w hSw; (try dsimp only at hSw); go_simp <;> with_reducible rfl
      simp only [Act.put, sTI, sT0, sT1]
      refine tkY 4 20 ?v5 rfl ?hy5 (by assumption) ?rest5
      case hy5 => intro w hSw; (try dsimp only at hSw); go_simp <;> with_reducible rfl
      simp only [Act.put, sTI, sT0, sT1]
      refine tkY 5 21 ?v6 rfl ?hy6 (by assumption) ?rest6
      case hy6 => intro w hSw; (try dsimp only at hSw); go_simp <;> with_reducible rfl
      simp only [Act.put, sTI, sT0, sT1]
      refine tkY 6 22 ?v7 rfl ?hy7 (by assumption) ?rest7
      case hy7 => intro w hSw; (try dsimp only at hSw); go_simp <;> with_reducible rfl
      simp only [Act.put, sTI, sT0, sT1]
      refine tkY 7 23 ?v8 rfl ?hy8 (by assumption) ?rest8
      case hy8 => intro w hSw; (try dsimp only at hSw); go_simp <;> with_reducible rfl
      simp only [Act.put, sTI, sT0, sT1]
      refine tkY 8 24 ?v9 rfl ?hy9 (by assumption) ?rest9
      case hy9 => intro w hSw; (try dsimp only at hSw); go_simp <;> with_reducible rfl
      simp only [Act.put, sTI, sT0, sT1]
      refine wpAnyH_done (by kernel_rfl) ?_ _
      go_wp2_with fail
      go_ret
      exact ⟨ret_boolT HD.out.symm, HBW.out.drew⟩
    subst hq
    have HJ2 := hide_ (show ∀ j, j < k + 1 → l1[j]? = l2[j]? from fun j hj => by
      by_cases h : j = k
      · rw [h, HX.out, HY.out]
      · exact HJ.out j (by omega))
    go_upto_region 6 with fail
    refine wp_region_held_drew (S := fun w' => w'.cell? ⟨tb, ot + k, none⟩ = some (.int .i64 x) ∧ w'.cell? ⟨ub, uo + k, none⟩ = some (.int .i64 x)) (by kernel_rfl) (⟨e0, g0⟩) (fun hHeld => ?_)
    refine tkY 0 16 ?v10 rfl ?hy10 (by assumption) ?rest10
    case hy10 => intro w hSw; (try dsimp only at hSw); go_simp <;> with_reducible rfl
    simp only [Act.put, sTI, sT0, sT1]
    refine tkY 1 17 ?v11 rfl ?hy11 (by assumption) ?rest11
    case hy11 => intro w hSw; (try dsimp only at hSw); go_simp <;> with_reducible rfl
    simp only [Act.put, sTI, sT0, sT1]
    refine tkY 2 18 ?v12 rfl ?hy12 (by assumption) ?rest12
    case hy12 => intro w hSw; (try dsimp only at hSw); go_simp <;> with_reducible rfl
    simp only [Act.put, sTI, sT0, sT1]
    refine tkY 3 19 ?v13 rfl ?hy13 (by assumption) ?rest13
    case hy13 => intro w hSw; (try dsimp only at hSw); go_simp <;> with_reducible rfl
    simp only [Act.put, sTI, sT0, sT1]
    refine tkY 4 20 ?v14 rfl ?hy14 (by assumption) ?rest14
    case hy14 => intro w hSw; (try dsimp only at hSw); go_simp <;> with_reducible rfl
    simp only [Act.put, sTI, sT0, sT1]
    refine tkY 5 21 ?v15 rfl ?hy15 (by assumption) ?rest15
    case hy15 => intro w hSw; (try dsimp only at hSw); go_simp <;> with_reducible rfl
    simp only [Act.put, sTI, sT0, sT1]
    refine tkY 6 22 ?v16 rfl ?hy16 (by assumption) ?rest16
    case hy16 => intro w hSw; (try dsimp only at hSw); go_simp <;> with_reducible rfl
    simp only [Act.put, sTI, sT0, sT1]
    refine tkY 7 23 ?v17 rfl ?hy17 (by assumption) ?rest17
    case hy17 => intro w hSw; (try dsimp only at hSw); go_simp <;> with_reducible rfl
    simp only [Act.put, sTI, sT0, sT1]
    refine tkY 8 24 ?v18 rfl ?hy18 (by assumption) ?rest18
    case hy18 => intro w hSw; (try dsimp only at hSw); go_simp <;> with_reducible rfl
    simp only [Act.put, sTI, sT0, sT1]
    refine wpAnyH_done (by kernel_rfl) ?_ _
    go_wp2_with fail
    go_roundw
    case rel => exact ⟨k + 1, by omega, by go_num, HJ2, HBW.out.drew⟩
    case measure => simp [intOf]; omega

end Go.Proofs.YtnkjdijbfnmnhaaGreat
