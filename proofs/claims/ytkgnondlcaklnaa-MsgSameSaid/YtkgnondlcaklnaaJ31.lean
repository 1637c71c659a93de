/-
  Texts of this claim put together: Find6, Many, Tk5.
-/
import Derived.Test.YtkgnondlcaklnaaJ27
import Derived.Test.YtkgnondlcaklnaaJ12
import Derived.Test.YtkgnondlcaklnaaJ26
/-
  Contracts of IndexFunc and ContainsFunc at entries, cells and marks.
-/
namespace Go.Proofs.Ytkgnondlcaklnaa
open Go.RowKit

set_option maxHeartbeats 800000 in
set_option maxRecDepth 100000 in
theorem indexDone_any (p : Nat → Bool) (I : Nat → World → Prop) (f : Nat) (cap : Array Value) (s : Sl (DoneM)) (B : Nat) (w : World) (hs : dnsOk w B s) (hB : B ≤ w.heap.size) (h0 : I 0 w)
    (he : ∀ args w, (callFunc f args).run Try.prog w = .ok (.enter f args) w) (hf : ∀ k x wr, s.l[k]? = some x → Below B w wr → I k wr → Calls Try.prog f (#[DoneM.v x] ++ cap) wr (Ans B wr (p k) (I (k + 1)))) :
    Calls Try.prog 104 #[s.v, .func (.func f) #[] cap] w fun e w' => e = .returned (.int .i64 (idxI p s.l.length)) ∧ Below B w w' := by
  obtain ⟨A, c, l⟩ := s
  obtain ⟨h1, h2, h3, h4⟩ := hs
  obtain ⟨n, hn⟩ : ∃ n, l.length = n := ⟨_, rfl⟩
  have HS := hide_ h3
  have HF := hide_ hf
  have HN := hide_ hn
  have HI := hide_ h0
  simp only [Sl.v, hn] at h1 h2 ⊢
  have hnm : n ≤ 9223372036854775807 := by unfold maxLen at h2; omega
  clear h3 hf hn h0 h4 h1 h2
  go_enter Try.func104, Try.ntmps104
  go_wp2
  go_loopw [8] (fun i wr => ∃ k : Nat, k ≤ n ∧ i = .int .i64 k ∧ Hid (∀ j, j < k → p j = false) ∧ Hid (I k wr) ∧ Below B w wr) (fun i _ => n - (intOf i).toNat)
  case atStart => exact ⟨0, Nat.zero_le _, rfl, (fun j hj => absurd hj (by omega)), HI.out, Below.refl _ _⟩
  case round =>
    obtain ⟨k, hk, rfl, HJ, HK, hb⟩ := hrel
    by_cases hlt : k < n
    · obtain ⟨x, hx⟩ : ∃ x, l[k]? = some x := ⟨_, List.getElem?_eq_getElem (by rw [HN.out]; exact hlt)⟩
      have hs1 := HS.out.below hb
      obtain ⟨tb, ot, rfl, hab, e0, e1, e2, e3, e4, e5⟩ := hs1.done hx
      have hwz : tb < wr.heap.size := by have := hb.size; omega
      have HC := hide_ (HF.out k x wr hx hb HK.out)
      have HX := hide_ hx
      clear hx hs1
      obtain ⟨cl, sq, er, inc, st, ⟨vA, vc, vl⟩⟩ := x
      go_wp2_with fail
      refine HC.out.mono ?_
      rintro en w2 ⟨rfl, hI2, hb2⟩
      have HI2 := hide_ hI2
      clear hI2
      cases hp : p k with
      | true =>
        have HP := hide_ (show idxI p n = k from idxI_hit hlt hp HJ.out)
        clear hp
        go_wp2
        go_ret
        exact ⟨ret_i64T HP.out.symm, hb.trans hb2⟩
      | false =>
        have HJ2 := hide_ (show ∀ j, j < k + 1 → p j = false from fun j hj => by
          by_cases h : j = k
          · rw [h]; exact hp
          · exact HJ.out j (by omega))
        have HI3 := hide_ (HI2.out hp)
        clear hp
        go_wp2
        go_roundw
        case rel => exact ⟨k + 1, by omega, by go_num, HJ2, HI3, hb.trans hb2⟩
        case measure => simp [intOf]; omega
    · obtain rfl : k = n := by omega
      have HP := hide_ (show idxI p k = -1 from idxI_none HJ.out)
      go_wp2
      go_ret
      exact ⟨ret_i64T HP.out.symm, hb⟩

theorem containsDone_any (p : Nat → Bool) (I : Nat → World → Prop) (f : Nat) (cap : Array Value) (s : Sl (DoneM)) (B : Nat) (w : World) (hs : dnsOk w B s) (hB : B ≤ w.heap.size) (h0 : I 0 w)
    (he : ∀ args w, (callFunc f args).run Try.prog w = .ok (.enter f args) w) (hf : ∀ k x wr, s.l[k]? = some x → Below B w wr → I k wr → Calls Try.prog f (#[DoneM.v x] ++ cap) wr (Ans B wr (p k) (I (k + 1)))) :
    Calls Try.prog 88 #[s.v, .func (.func f) #[] cap] w fun e w' => e = .returned (.bool (anyB p s.l.length)) ∧ Below B w w' := by
  have HC := hide_ (indexDone_any p I f cap s B w hs hB h0 he hf)
  have HP := hide_ (anyB_idx p s.l.length)
  clear hf he hs h0
  generalize s.l.length = n at HC HP
  obtain ⟨q, hq⟩ : ∃ q, idxI p n = q := ⟨_, rfl⟩
  rw [hq] at HC HP
  clear hq
  generalize s.v = v at HC
  go_enter Try.func88, Try.ntmps88
  go_wp2_with fail
  refine HC.out.mono ?_
  rintro en w1 ⟨rfl, hb⟩
  go_wp2
  go_ret
  exact ⟨ret_boolT HP.out, hb⟩


set_option maxHeartbeats 800000 in
set_option maxRecDepth 100000 in
theorem indexCell_any (p : Nat → Bool) (I : Nat → World → Prop) (f : Nat) (cap : Array Value) (s : Sl (CelM)) (B : Nat) (w : World) (hs : celsOk w B s) (hB : B ≤ w.heap.size) (h0 : I 0 w)
    (he : ∀ args w, (callFunc f args).run Try.prog w = .ok (.enter f args) w) (hf : ∀ k x wr, s.l[k]? = some x → Below B w wr → I k wr → Calls Try.prog f (#[celV x] ++ cap) wr (Ans B wr (p k) (I (k + 1)))) :
    Calls Try.prog 105 #[s.v, .func (.func f) #[] cap] w fun e w' => e = .returned (.int .i64 (idxI p s.l.length)) ∧ Below B w w' := by
  obtain ⟨A, c, l⟩ := s
  obtain ⟨h1, h2, h3, h4⟩ := hs
  obtain ⟨n, hn⟩ : ∃ n, l.length = n := ⟨_, rfl⟩
  have HS := hide_ h3
  have HF := hide_ hf
  have HN := hide_ hn
  have HI := hide_ h0
  simp only [Sl.v, hn] at h1 h2 ⊢
  have hnm : n ≤ 9223372036854775807 := by unfold maxLen at h2; omega
  clear h3 hf hn h0 h4 h1 h2
  go_enter Try.func105, Try.ntmps105
  go_wp2
  go_loopw [8] (fun i wr => ∃ k : Nat, k ≤ n ∧ i = .int .i64 k ∧ Hid (∀ j, j < k → p j = false) ∧ Hid (I k wr) ∧ Below B w wr) (fun i _ => n - (intOf i).toNat)
  case atStart => exact ⟨0, Nat.zero_le _, rfl, (fun j hj => absurd hj (by omega)), HI.out, Below.refl _ _⟩
  case round =>
    obtain ⟨k, hk, rfl, HJ, HK, hb⟩ := hrel
    by_cases hlt : k < n
    · obtain ⟨x, hx⟩ : ∃ x, l[k]? = some x := ⟨_, List.getElem?_eq_getElem (by rw [HN.out]; exact hlt)⟩
      have hs1 := HS.out.below hb
      obtain ⟨tb, ot, rfl, hab, e0, e1, e2, e3⟩ := hs1.cel hx
      have hwz : tb < wr.heap.size := by have := hb.size; omega
      have HC := hide_ (HF.out k x wr hx hb HK.out)
      have HX := hide_ hx
      clear hx hs1
      obtain ⟨cl, b, c', d⟩ := x
      go_wp2_with fail
      refine HC.out.mono ?_
      rintro en w2 ⟨rfl, hI2, hb2⟩
      have HI2 := hide_ hI2
      clear hI2
      cases hp : p k with
      | true =>
        have HP := hide_ (show idxI p n = k from idxI_hit hlt hp HJ.out)
        clear hp
        go_wp2
        go_ret
        exact ⟨ret_i64T HP.out.symm, hb.trans hb2⟩
      | false =>
        have HJ2 := hide_ (show ∀ j, j < k + 1 → p j = false from fun j hj => by
          by_cases h : j = k
          · rw [h]; exact hp
          · exact HJ.out j (by omega))
        have HI3 := hide_ (HI2.out hp)
        clear hp
        go_wp2
        go_roundw
        case rel => exact ⟨k + 1, by omega, by go_num, HJ2, HI3, hb.trans hb2⟩
        case measure => simp [intOf]; omega
    · obtain rfl : k = n := by omega
      have HP := hide_ (show idxI p k = -1 from idxI_none HJ.out)
      go_wp2
      go_ret
      exact ⟨ret_i64T HP.out.symm, hb⟩

theorem containsCell_any (p : Nat → Bool) (I : Nat → World → Prop) (f : Nat) (cap : Array Value) (s : Sl (CelM)) (B : Nat) (w : World) (hs : celsOk w B s) (hB : B ≤ w.heap.size) (h0 : I 0 w)
    (he : ∀ args w, (callFunc f args).run Try.prog w = .ok (.enter f args) w) (hf : ∀ k x wr, s.l[k]? = some x → Below B w wr → I k wr → Calls Try.prog f (#[celV x] ++ cap) wr (Ans B wr (p k) (I (k + 1)))) :
    Calls Try.prog 92 #[s.v, .func (.func f) #[] cap] w fun e w' => e = .returned (.bool (anyB p s.l.length)) ∧ Below B w w' := by
  have HC := hide_ (indexCell_any p I f cap s B w hs hB h0 he hf)
  have HP := hide_ (anyB_idx p s.l.length)
  clear hf he hs h0
  generalize s.l.length = n at HC HP
  obtain ⟨q, hq⟩ : ∃ q, idxI p n = q := ⟨_, rfl⟩
  rw [hq] at HC HP
  clear hq
  generalize s.v = v at HC
  go_enter Try.func92, Try.ntmps92
  go_wp2_with fail
  refine HC.out.mono ?_
  rintro en w1 ⟨rfl, hb⟩
  go_wp2
  go_ret
  exact ⟨ret_boolT HP.out, hb⟩


set_option maxHeartbeats 800000 in
set_option maxRecDepth 100000 in
theorem indexMark_any (p : Nat → Bool) (I : Nat → World → Prop) (f : Nat) (cap : Array Value) (s : Sl (MrkM)) (B : Nat) (w : World) (hs : mrksOk w B s) (hB : B ≤ w.heap.size) (h0 : I 0 w)
    (he : ∀ args w, (callFunc f args).run Try.prog w = .ok (.enter f args) w) (hf : ∀ k x wr, s.l[k]? = some x → Below B w wr → I k wr → Calls Try.prog f (#[mrkV x] ++ cap) wr (Ans B wr (p k) (I (k + 1)))) :
    Calls Try.prog 106 #[s.v, .func (.func f) #[] cap] w fun e w' => e = .returned (.int .i64 (idxI p s.l.length)) ∧ Below B w w' := by
  obtain ⟨A, c, l⟩ := s
  obtain ⟨h1, h2, h3, h4⟩ := hs
  obtain ⟨n, hn⟩ : ∃ n, l.length = n := ⟨_, rfl⟩
  have HS := hide_ h3
  have HF := hide_ hf
  have HN := hide_ hn
  have HI := hide_ h0
  simp only [Sl.v, hn] at h1 h2 ⊢
  have hnm : n ≤ 9223372036854775807 := by unfold maxLen at h2; omega
  clear h3 hf hn h0 h4 h1 h2
  go_enter Try.func106, Try.ntmps106
  go_wp2
  go_loopw [8] (fun i wr => ∃ k : Nat, k ≤ n ∧ i = .int .i64 k ∧ Hid (∀ j, j < k → p j = false) ∧ Hid (I k wr) ∧ Below B w wr) (fun i _ => n - (intOf i).toNat)
  case atStart => exact ⟨0, Nat.zero_le _, rfl, (fun j hj => absurd hj (by omega)), HI.out, Below.refl _ _⟩
  case round =>
    obtain ⟨k, hk, rfl, HJ, HK, hb⟩ := hrel
    by_cases hlt : k < n
    · obtain ⟨x, hx⟩ : ∃ x, l[k]? = some x := ⟨_, List.getElem?_eq_getElem (by rw [HN.out]; exact hlt)⟩
      have hs1 := HS.out.below hb
      obtain ⟨tb, ot, rfl, hab, e0, e1, e2⟩ := hs1.mrk hx
      have hwz : tb < wr.heap.size := by have := hb.size; omega
      have HC := hide_ (HF.out k x wr hx hb HK.out)
      have HX := hide_ hx
      clear hx hs1
      obtain ⟨cl, b, c'⟩ := x
      go_wp2_with fail
      refine HC.out.mono ?_
      rintro en w2 ⟨rfl, hI2, hb2⟩
      have HI2 := hide_ hI2
      clear hI2
      cases hp : p k with
      | true =>
        have HP := hide_ (show idxI p n = k from idxI_hit hlt hp HJ.out)
        clear hp
        go_wp2
        go_ret
        exact ⟨ret_i64T HP.out.symm, hb.trans hb2⟩
      | false =>
        have HJ2 := hide_ (show ∀ j, j < k + 1 → p j = false from fun j hj => by
          by_cases h : j = k
          · rw [h]; exact hp
          · exact HJ.out j (by omega))
        have HI3 := hide_ (HI2.out hp)
        clear hp
        go_wp2
        go_roundw
        case rel => exact ⟨k + 1, by omega, by go_num, HJ2, HI3, hb.trans hb2⟩
        case measure => simp [intOf]; omega
    · obtain rfl : k = n := by omega
      have HP := hide_ (show idxI p k = -1 from idxI_none HJ.out)
      go_wp2
      go_ret
      exact ⟨ret_i64T HP.out.symm, hb⟩

theorem containsMark_any (p : Nat → Bool) (I : Nat → World → Prop) (f : Nat) (cap : Array Value) (s : Sl (MrkM)) (B : Nat) (w : World) (hs : mrksOk w B s) (hB : B ≤ w.heap.size) (h0 : I 0 w)
    (he : ∀ args w, (callFunc f args).run Try.prog w = .ok (.enter f args) w) (hf : ∀ k x wr, s.l[k]? = some x → Below B w wr → I k wr → Calls Try.prog f (#[mrkV x] ++ cap) wr (Ans B wr (p k) (I (k + 1)))) :
    Calls Try.prog 96 #[s.v, .func (.func f) #[] cap] w fun e w' => e = .returned (.bool (anyB p s.l.length)) ∧ Below B w w' := by
  have HC := hide_ (indexMark_any p I f cap s B w hs hB h0 he hf)
  have HP := hide_ (anyB_idx p s.l.length)
  clear hf he hs h0
  generalize s.l.length = n at HC HP
  obtain ⟨q, hq⟩ : ∃ q, idxI p n = q := ⟨_, rfl⟩
  rw [hq] at HC HP
  clear hq
  generalize s.v = v at HC
  go_enter Try.func96, Try.ntmps96
  go_wp2_with fail
  refine HC.out.mono ?_
  rintro en w1 ⟨rfl, hb⟩
  go_wp2
  go_ret
  exact ⟨ret_boolT HP.out, hb⟩



end Go.Proofs.Ytkgnondlcaklnaa

/-
  A part put behind those that have been collected: the walk's step.
-/
namespace Go.Proofs.Ytkgnondlcaklnaa
open Go.RowKit

section
variable {P : Program}
theorem wpList_append_coll {α : Type} {T : TypeId} {q : Nat} {cs : α → List Value} {p : World → Nat → α → Prop} {f : α → Nat → Prop} {lo : Nat} {v : Value} {xs : List α} (w : World) {ops : Array Oper} {rest : List Oper} {o : Oper} {a : Act} {Q : Exit → Act → World → Prop}
    (hgd : Region.wanted o (yielded ops a.tmps) = true) (so xo : Operand) (t : TypeId) (ho : o.op = .call { callee := .builtin .append, args := #[so, xo], argTypes := #[t, t] })
    (z : Value) (bytes : Nat) (hinfo : (P.info? T).map (fun i => (i.zero, i.size, i.bytes)) = some (some z, q, bytes)) (hzs : z.cells.size = q) (hq : 0 < q) (hby : bytes ≤ 1000) (ht : P.underlying t = some (.slice T))
    (hC : Coll T q cs p f lo v xs w) (hp : Local p f) (x : α) (hx : p w w.heap.size x) (hfx : ∀ k, f x k → (lo ≤ k ∧ k < w.heap.size) ∧ v.ownBlock ≠ some k) (hlo : lo ≤ w.heap.size)
    (cells : Array Value) (hcells : cells.toList = cs x) (hlen : (cs x).length = q) (hone : ∀ u ∈ cs x, u.oneCell' = true) (hn : xs.length ≤ 100000)
    (hs : a.eval so = v) (hxo : a.eval xo = .slice (some ⟨w.heap.size, 0, none⟩) 1 1)
    (h : ∀ A' c' w', Coll T q cs p f lo (.slice A' (xs.length + 1) c') (xs ++ [x]) w' → w.grownBy w' v.ownBlock → wpList P ops Q rest (a.put o.dst (.slice A' (xs.length + 1) c')) w') : wpList P ops Q (o :: rest) a (w.alloc (.cells cells T)) := by
  refine wpList_step fun _ hK => ?_
  rw [if_pos hgd]
  obtain ⟨i0, hi, hz0, hz1, hz2⟩ := info_parts hinfo
  have hA : Below w.heap.size w (w.alloc (.cells cells T)) := (Below.refl _ _).alloc (Nat.le_refl _) _
  have hC2 := hC.below hp hA
  have hsz : (w.alloc (.cells cells T)).heap.size = w.heap.size + 1 := by simp
  obtain ⟨v', w', hrun, h2, h3, h4⟩ := run_append_rows (P := P) (w.alloc (.cells cells T)) lo t o.type T i0 z q bytes ht hi hz0 hz1 hz2 hzs hq v xs.length (xs.flatMap cs) hC2.own (w.heap.size + 1) (some ⟨w.heap.size, 0, none⟩) 1 1 (cs x) (by rw [hlen, Nat.one_mul]) (sees_box w cells T (cs x) hcells) hone (by unfold maxLen; omega)
    (Nat.le_trans (Nat.mul_le_mul (show xs.length + 1 ≤ 100001 by omega) hby) (by decide)) (by omega)
  have hv : ∃ A' c', v' = .slice A' (xs.length + 1) c' := by
    rcases h2.2 with ⟨rfl, h0⟩ | ⟨g, cap, cur, rfl, _⟩
    · exact ⟨none, 0, by rw [h0]⟩
    · exact ⟨_, _, rfl⟩
  obtain ⟨A', c', rfl⟩ := hv
  unfold Oper.wp execOp
  simp only [ho, resolve, invoke, builtin, Sem.run_bind, Sem.run_pure, Result.andThen_ok, List.map_toArray, List.map_cons, List.map_nil, hs, hxo, hrun]
  refine hK _ _ (h A' c' w' ?_ ?_)
  · refine hC2.snoc hp (hp.below hx hA) (fun k hk => ?_) h2 h3 fun k hk => ?_
    · have := hfx k hk
      exact ⟨by omega, this.2⟩
    · rcases h4 with h4 | h4
      · exact .inl (h4 ▸ hk)
      · rw [h4] at hk
        injection hk with hk
        exact .inr (by omega)
  · exact (World.grownBy_alloc w _ _).trans h3
end

/-- a part that a call has just made can be put behind those of before -/
theorem part_far {α : Type} {T : TypeId} {q : Nat} {cs : α → List Value} {p : World → Nat → α → Prop} {f : α → Nat → Prop} {lo : Nat} {v : Value} {xs : List α} {w w' : World} {x : α} (hC : Coll T q cs p f lo v xs w) (hlo : lo ≤ w.heap.size) (hx : Lies f x w.heap.size w'.heap.size) :
    ∀ k, f x k → (lo ≤ k ∧ k < w'.heap.size) ∧ v.ownBlock ≠ some k := fun k hk => by
  have h1 := hx k hk
  refine ⟨⟨by omega, h1.2⟩, fun e => ?_⟩
  have := (hC.own.lt k e).2
  omega
theorem own_from {α : Type} {T : TypeId} {q : Nat} {cs : α → List Value} {p : World → Nat → α → Prop} {f : α → Nat → Prop} {lo : Nat} {v : Value} {xs : List α} {w : World} (hC : Coll T q cs p f lo v xs w) : ∀ k, v.ownBlock = some k → lo ≤ k := fun k e => (hC.own.lt k e).1
end Go.Proofs.Ytkgnondlcaklnaa

/-
  Contracts of table's taker: numbers; many parts of a kind.
-/
namespace Go.Proofs.Ytkgnondlcaklnaa
open Go.RowKit

def takerV (g : Nat) : Value := .agg #[.pointer (some ⟨g, 0, none⟩)]
def tokV (t : Int × Int) : Value := .agg #[.int .u8 t.1, .int .i64 t.2]
def SetM.bare (s : SetM) : SetM := ⟨s.var, ⟨none, 0, s.val.l⟩⟩
def EmM.bare (s : EmM) : EmM := ⟨s.tg, s.ac, ⟨none, 0, s.arg.l⟩⟩
def RuM.bare (r : RuM) : RuM := ⟨r.fr, r.ac, r.pa, r.tt, ⟨none, 0, r.gu.l⟩, ⟨none, 0, r.se.l.map SetM.bare⟩, ⟨none, 0, r.em.l.map EmM.bare⟩⟩

end Go.Proofs.Ytkgnondlcaklnaa
