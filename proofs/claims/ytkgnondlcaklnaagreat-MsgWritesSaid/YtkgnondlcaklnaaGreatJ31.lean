/-
  Texts of this claim put together: Find6, Many, Tk5, Tk6.
-/
import Derived.Test.YtkgnondlcaklnaaGreatJ27
import Derived.Test.YtkgnondlcaklnaaGreatJ12
/-
  Contracts of IndexFunc and ContainsFunc at entries, cells and marks.
-/
namespace Go.Proofs.YtkgnondlcaklnaaGreat
open Go.RowKit

set_option maxHeartbeats 800000 in
set_option maxRecDepth 100000 in
theorem indexDone_any (p : Nat → Bool) (I : Nat → World → Prop) (f : Nat) (cap : Array Value) (s : Sl (DoneM)) (B : Nat) (w : World) (hs : dnsOk w B s) (hB : B ≤ w.heap.size) (h0 : I 0 w)
    (he : ∀ args w, (callFunc f args).run Tryz.prog w = .ok (.enter f args) w) (hf : ∀ k x wr, s.l[k]? = some x → Below B w wr → I k wr → Calls Tryz.prog f (#[DoneM.v x] ++ cap) wr (Ans B wr (p k) (I (k + 1)))) :
    Calls Tryz.prog 59 #[s.v, .func (.func f) #[] cap] w fun e w' => e = .returned (.int .i64 (idxI p s.l.length)) ∧ Below B w w' := by
  obtain ⟨A, c, l⟩ := s
  obtain ⟨h1, h2, h3, h4⟩ := hs
  obtain ⟨n, hn⟩ : ∃ n, l.length = n := ⟨_, rfl⟩
  have HS := hide_ h3
  have HF := hide_ hf
  have HN := hide_ hn
  have HI := hide_ h0
  simp only [Sl.v, hn] at h1 h2 ⊢
  have hnm : n ≤ 9223372036854775807 := by unfold maxLen at h2; omega
  clear h3 hf hn h0 h4 h1 h2
  go_enter Tryz.func59, Tryz.ntmps59
  go_wp2
  go_loopw [8] (fun i wr => ∃ k : Nat, k ≤ n ∧ i = .int .i64 k ∧ Hid (∀ j, j < k → p j = false) ∧ Hid (I k wr) ∧ Below B w wr) (fun i _ => n - (intOf i).toNat)
  case atStart => exact ⟨0, Nat.zero_le _, rfl, (fun j hj => absurd hj (by omega)), HI.out, Below.refl _ _⟩
  case round =>
    obtain ⟨k, hk, rfl, HJ, HK, hb⟩ := hrel
    by_cases hlt : k < n
    · obtain ⟨x, hx⟩ : ∃ x, l[k]? = some x := ⟨_, List.getElem?_eq_getElem (by rw [HN.out]; exact hlt)⟩
      have hs1 := HS.out.below hb
      obtain ⟨tb, ot, rfl, hab, e0, e1, e2, e3, e4, e5⟩ := hs1.done hx
      have hwz : tb < wr.heap.size := by have := hb.size; omega
      have HC := hide_ (HF.out k x wr hx hb HK.out)
      have HX := hide_ hx
      clear hx hs1
      obtain ⟨cl, sq, er, inc, st, ⟨vA, vc, vl⟩⟩ := x
      go_wp2_with fail
      refine HC.out.mono ?_
      rintro en w2 ⟨rfl, hI2, hb2⟩
      have HI2 := hide_ hI2
      clear hI2
      cases hp : p k with
      | true =>
        have HP := hide_ (show idxI p n = k from idxI_hit hlt hp HJ.out)
        clear hp
        go_wp2
        go_ret
        exact ⟨ret_i64T HP.out.symm, hb.trans hb2⟩
      | false =>
        have HJ2 := hide_ (show ∀ j, j < k + 1 → p j = false from fun j hj => by
          by_cases h : j = k
          · rw [h]; exact hp
          · exact HJ.out j (by omega))
        have HI3 := hide_ (HI2.out hp)
        clear hp
        go_wp2
        go_roundw
        case rel => exact ⟨k + 1, by omega, by go_num, HJ2, HI3, hb.trans hb2⟩
        case measure => simp [intOf]; omega
    · obtain rfl : k = n := by omega
      have HP := hide_ (show idxI p k = -1 from idxI_none HJ.out)
      go_wp2
      go_ret
      exact ⟨ret_i64T HP.out.symm, hb⟩

theorem containsDone_any (p : Nat → Bool) (I : Nat → World → Prop) (f : Nat) (cap : Array Value) (s : Sl (DoneM)) (B : Nat) (w : World) (hs : dnsOk w B s) (hB : B ≤ w.heap.size) (h0 : I 0 w)
    (he : ∀ args w, (callFunc f args).run Tryz.prog w = .ok (.enter f args) w) (hf : ∀ k x wr, s.l[k]? = some x → Below B w wr → I k wr → Calls Tryz.prog f (#[DoneM.v x] ++ cap) wr (Ans B wr (p k) (I (k + 1)))) :
    Calls Tryz.prog 179 #[s.v, .func (.func f) #[] cap] w fun e w' => e = .returned (.bool (anyB p s.l.length)) ∧ Below B w w' := by
  have HC := hide_ (indexDone_any p I f cap s B w hs hB h0 he hf)
  have HP := hide_ (anyB_idx p s.l.length)
  clear hf he hs h0
  generalize s.l.length = n at HC HP
  obtain ⟨q, hq⟩ : ∃ q, idxI p n = q := ⟨_, rfl⟩
  rw [hq] at HC HP
  clear hq
  generalize s.v = v at HC
  go_enter Tryz.func179, Tryz.ntmps179
  go_wp2_with fail
  refine HC.out.mono ?_
  rintro en w1 ⟨rfl, hb⟩
  go_wp2
  go_ret
  exact ⟨ret_boolT HP.out, hb⟩


set_option maxHeartbeats 800000 in
set_option maxRecDepth 100000 in
theorem indexCell_any (p : Nat → Bool) (I : Nat → World → Prop) (f : Nat) (cap : Array Value) (s : Sl (CelM)) (B : Nat) (w : World) (hs : celsOk w B s) (hB : B ≤ w.heap.size) (h0 : I 0 w)
    (he : ∀ args w, (callFunc f args).run Tryz.prog w = .ok (.enter f args) w) (hf : ∀ k x wr, s.l[k]? = some x → Below B w wr → I k wr → Calls Tryz.prog f (#[celV x] ++ cap) wr (Ans B wr (p k) (I (k + 1)))) :
    Calls Tryz.prog 148 #[s.v, .func (.func f) #[] cap] w fun e w' => e = .returned (.int .i64 (idxI p s.l.length)) ∧ Below B w w' := by
  obtain ⟨A, c, l⟩ := s
  obtain ⟨h1, h2, h3, h4⟩ := hs
  obtain ⟨n, hn⟩ : ∃ n, l.length = n := ⟨_, rfl⟩
  have HS := hide_ h3
  have HF := hide_ hf
  have HN := hide_ hn
  have HI := hide_ h0
  simp only [Sl.v, hn] at h1 h2 ⊢
  have hnm : n ≤ 9223372036854775807 := by unfold maxLen at h2; omega
  clear h3 hf hn h0 h4 h1 h2
  go_enter Tryz.func148, Tryz.ntmps148
  go_wp2
  go_loopw [8] (fun i wr => ∃ k : Nat, k ≤ n ∧ i = .int .i64 k ∧ Hid (∀ j, j < k → p j = false) ∧ Hid (I k wr) ∧ Below B w wr) (fun i _ => n - (intOf i).toNat)
  case atStart => exact ⟨0, Nat.zero_le _, rfl, (fun j hj => absurd hj (by omega)), HI.out, Below.refl _ _⟩
  case round =>
    obtain ⟨k, hk, rfl, HJ, HK, hb⟩ := hrel
    by_cases hlt : k < n
    · obtain ⟨x, hx⟩ : ∃ x, l[k]? = some x := ⟨_, List.getElem?_eq_getElem (by rw [HN.out]; exact hlt)⟩
      have hs1 := HS.out.below hb
      obtain ⟨tb, ot, rfl, hab, e0, e1, e2, e3⟩ := hs1.cel hx
      have hwz : tb < wr.heap.size := by have := hb.size; omega
      have HC := hide_ (HF.out k x wr hx hb HK.out)
      have HX := hide_ hx
      clear hx hs1
      obtain ⟨cl, b, c', d⟩ := x
      go_wp2_with fail
      refine HC.out.mono ?_
      rintro en w2 ⟨rfl, hI2, hb2⟩
      have HI2 := hide_ hI2
      clear hI2
      cases hp : p k with
      | true =>
        have HP := hide_ (show idxI p n = k from idxI_hit hlt hp HJ.out)
        clear hp
        go_wp2
        go_ret
        exact ⟨ret_i64T HP.out.symm, hb.trans hb2⟩
      | false =>
        have HJ2 := hide_ (show ∀ j, j < k + 1 → p j = false from fun j hj => by
          by_cases h : j = k
          · rw [h]; exact hp
          · exact HJ.out j (by omega))
        have HI3 := hide_ (HI2.out hp)
        clear hp
        go_wp2
        go_roundw
        case rel => exact ⟨k + 1, by omega, by go_num, HJ2, HI3, hb.trans hb2⟩
        case measure => simp [intOf]; omega
    · obtain rfl : k = n := by omega
      have HP := hide_ (show idxI p k = -1 from idxI_none HJ.out)
      go_wp2
      go_ret
      exact ⟨ret_i64T HP.out.symm, hb⟩

theorem containsCell_any (p : Nat → Bool) (I : Nat → World → Prop) (f : Nat) (cap : Array Value) (s : Sl (CelM)) (B : Nat) (w : World) (hs : celsOk w B s) (hB : B ≤ w.heap.size) (h0 : I 0 w)
    (he : ∀ args w, (callFunc f args).run Tryz.prog w = .ok (.enter f args) w) (hf : ∀ k x wr, s.l[k]? = some x → Below B w wr → I k wr → Calls Tryz.prog f (#[celV x] ++ cap) wr (Ans B wr (p k) (I (k + 1)))) :
    Calls Tryz.prog 183 #[s.v, .func (.func f) #[] cap] w fun e w' => e = .returned (.bool (anyB p s.l.length)) ∧ Below B w w' := by
  have HC := hide_ (indexCell_any p I f cap s B w hs hB h0 he hf)
  have HP := hide_ (anyB_idx p s.l.length)
  clear hf he hs h0
  generalize s.l.length = n at HC HP
  obtain ⟨q, hq⟩ : ∃ q, idxI p n = q := ⟨_, rfl⟩
  rw [hq] at HC HP
  clear hq
  generalize s.v = v at HC
  go_enter Tryz.func183, Tryz.ntmps183
  go_wp2_with fail
  refine HC.out.mono ?_
  rintro en w1 ⟨rfl, hb⟩
  go_wp2
  go_ret
  exact ⟨ret_boolT HP.out, hb⟩


set_option maxHeartbeats 800000 in
set_option maxRecDepth 100000 in
theorem indexMark_any (p : Nat → Bool) (I : Nat → World → Prop) (f : Nat) (cap : Array Value) (s : Sl (MrkM)) (B : Nat) (w : World) (hs : mrksOk w B s) (hB : B ≤ w.heap.size) (h0 : I 0 w)
    (he : ∀ args w, (callFunc f args).run Tryz.prog w = .ok (.enter f args) w) (hf : ∀ k x wr, s.l[k]? = some x → Below B w wr → I k wr → Calls Tryz.prog f (#[mrkV x] ++ cap) wr (Ans B wr (p k) (I (k + 1)))) :
    Calls Tryz.prog 197 #[s.v, .func (.func f) #[] cap] w fun e w' => e = .returned (.int .i64 (idxI p s.l.length)) ∧ Below B w w' := by
  obtain ⟨A, c, l⟩ := s
  obtain ⟨h1, h2, h3, h4⟩ := hs
  obtain ⟨n, hn⟩ : ∃ n, l.length = n := ⟨_, rfl⟩
  have HS := hide_ h3
  have HF := hide_ hf
  have HN := hide_ hn
  have HI := hide_ h0
  simp only [Sl.v, hn] at h1 h2 ⊢
  have hnm : n ≤ 9223372036854775807 := by unfold maxLen at h2; omega
  clear h3 hf hn h0 h4 h1 h2
  go_enter Tryz.func197, Tryz.ntmps197
  go_wp2
  go_loopw [8] (fun i wr => ∃ k : Nat, k ≤ n ∧ i = .int .i64 k ∧ Hid (∀ j, j < k → p j = false) ∧ Hid (I k wr) ∧ Below B w wr) (fun i _ => n - (intOf i).toNat)
  case atStart => exact ⟨0, Nat.zero_le _, rfl, (fun j hj => absurd hj (by omega)), HI.out, Below.refl _ _⟩
  case round =>
    obtain ⟨k, hk, rfl, HJ, HK, hb⟩ := hrel
    by_cases hlt : k < n
    · obtain ⟨x, hx⟩ : ∃ x, l[k]? = some x := ⟨_, List.getElem?_eq_getElem (by rw [HN.out]; exact hlt)⟩
      have hs1 := HS.out.below hb
      obtain ⟨tb, ot, rfl, hab, e0, e1, e2⟩ := hs1.mrk hx
      have hwz : tb < wr.heap.size := by have := hb.size; omega
      have HC := hide_ (HF.out k x wr hx hb HK.out)
      have HX := hide_ hx
      clear hx hs1
      obtain ⟨cl, b, c'⟩ := x
      go_wp2_with fail
      refine HC.out.mono ?_
      rintro en w2 ⟨rfl, hI2, hb2⟩
      have HI2 := hide_ hI2
      clear hI2
      cases hp : p k with
      | true =>
        have HP := hide_ (show idxI p n = k from idxI_hit hlt hp HJ.out)
        clear hp
        go_wp2
        go_ret
        exact ⟨ret_i64T HP.out.symm, hb.trans hb2⟩
      | false =>
        have HJ2 := hide_ (show ∀ j, j < k + 1 → p j = false from fun j hj => by
          by_cases h : j = k
          · rw [h]; exact hp
          · exact HJ.out j (by omega))
        have HI3 := hide_ (HI2.out hp)
        clear hp
        go_wp2
        go_roundw
        case rel => exact ⟨k + 1, by omega, by go_num, HJ2, HI3, hb.trans hb2⟩
        case measure => simp [intOf]; omega
    · obtain rfl : k = n := by omega
      have HP := hide_ (show idxI p k = -1 from idxI_none HJ.out)
      go_wp2
      go_ret
      exact ⟨ret_i64T HP.out.symm, hb⟩

theorem containsMark_any (p : Nat → Bool) (I : Nat → World → Prop) (f : Nat) (cap : Array Value) (s : Sl (MrkM)) (B : Nat) (w : World) (hs : mrksOk w B s) (hB : B ≤ w.heap.size) (h0 : I 0 w)
    (he : ∀ args w, (callFunc f args).run Tryz.prog w = .ok (.enter f args) w) (hf : ∀ k x wr, s.l[k]? = some x → Below B w wr → I k wr → Calls Tryz.prog f (#[mrkV x] ++ cap) wr (Ans B wr (p k) (I (k + 1)))) :
    Calls Tryz.prog 143 #[s.v, .func (.func f) #[] cap] w fun e w' => e = .returned (.bool (anyB p s.l.length)) ∧ Below B w w' := by
  have HC := hide_ (indexMark_any p I f cap s B w hs hB h0 he hf)
  have HP := hide_ (anyB_idx p s.l.length)
  clear hf he hs h0
  generalize s.l.length = n at HC HP
  obtain ⟨q, hq⟩ : ∃ q, idxI p n = q := ⟨_, rfl⟩
  rw [hq] at HC HP
  clear hq
  generalize s.v = v at HC
  go_enter Tryz.func143, Tryz.ntmps143
  go_wp2_with fail
  refine HC.out.mono ?_
  rintro en w1 ⟨rfl, hb⟩
  go_wp2
  go_ret
  exact ⟨ret_boolT HP.out, hb⟩



end Go.Proofs.YtkgnondlcaklnaaGreat

/-
  A part put behind those that have been collected: the walk's step.
-/
namespace Go.Proofs.YtkgnondlcaklnaaGreat
open Go.RowKit

section
variable {P : Program}
theorem wpList_append_coll {α : Type} {T : TypeId} {q : Nat} {cs : α → List Value} {p : World → Nat → α → Prop} {f : α → Nat → Prop} {lo : Nat} {v : Value} {xs : List α} (w : World) {ops : Array Oper} {rest : List Oper} {o : Oper} {a : Act} {Q : Exit → Act → World → Prop}
    (hgd : Region.wanted o (yielded ops a.tmps) = true) (so xo : Operand) (t : TypeId) (ho : o.op = .call { callee := .builtin .append, args := #[so, xo], argTypes := #[t, t] })
    (z : Value) (bytes : Nat) (hinfo : (P.info? T).map (fun i => (i.zero, i.size, i.bytes)) = some (some z, q, bytes)) (hzs : z.cells.size = q) (hq : 0 < q) (hby : bytes ≤ 1000) (ht : P.underlying t = some (.slice T))
    (hC : Coll T q cs p f lo v xs w) (hp : Local p f) (x : α) (hx : p w w.heap.size x) (hfx : ∀ k, f x k → (lo ≤ k ∧ k < w.heap.size) ∧ v.ownBlock ≠ some k) (hlo : lo ≤ w.heap.size)
    (cells : Array Value) (hcells : cells.toList = cs x) (hlen : (cs x).length = q) (hone : ∀ u ∈ cs x, u.oneCell' = true) (hn : xs.length ≤ 100000)
    (hs : a.eval so = v) (hxo : a.eval xo = .slice (some ⟨w.heap.size, 0, none⟩) 1 1)
    (h : ∀ A' c' w', Coll T q cs p f lo (.slice A' (xs.length + 1) c') (xs ++ [x]) w' → w.grownBy w' v.ownBlock → wpList P ops Q rest (a.put o.dst (.slice A' (xs.length + 1) c')) w') : wpList P ops Q (o :: rest) a (w.alloc (.cells cells T)) := by
  refine wpList_step fun _ hK => ?_
  rw [if_pos hgd]
  obtain ⟨i0, hi, hz0, hz1, hz2⟩ := info_parts hinfo
  have hA : Below w.heap.size w (w.alloc (.cells cells T)) := (Below.refl _ _).alloc (Nat.le_refl _) _
  have hC2 := hC.below hp hA
  have hsz : (w.alloc (.cells cells T)).heap.size = w.heap.size + 1 := by simp
  obtain ⟨v', w', hrun, h2, h3, h4⟩ := run_append_rows (P := P) (w.alloc (.cells cells T)) lo t o.type T i0 z q bytes ht hi hz0 hz1 hz2 hzs hq v xs.length (xs.flatMap cs) hC2.own (w.heap.size + 1) (some ⟨w.heap.size, 0, none⟩) 1 1 (cs x) (by rw [hlen, Nat.one_mul]) (sees_box w cells T (cs x) hcells) hone (by unfold maxLen; omega)
    (Nat.le_trans (Nat.mul_le_mul (show xs.length + 1 ≤ 100001 by omega) hby) (by decide)) (by omega)
  have hv : ∃ A' c', v' = .slice A' (xs.length + 1) c' := by
    rcases h2.2 with ⟨rfl, h0⟩ | ⟨g, cap, cur, rfl, _⟩
    · exact ⟨none, 0, by rw [h0]⟩
    · exact ⟨_, _, rfl⟩
  obtain ⟨A', c', rfl⟩ := hv
  unfold Oper.wp execOp
  simp only [ho, resolve, invoke, builtin, Sem.run_bind, Sem.run_pure, Result.andThen_ok, List.map_toArray, List.map_cons, List.map_nil, hs, hxo, hrun]
  refine hK _ _ (h A' c' w' ?_ ?_)
  · refine hC2.snoc hp (hp.below hx hA) (fun k hk => ?_) h2 h3 fun k hk => ?_
    · have := hfx k hk
      exact ⟨by omega, this.2⟩
    · rcases h4 with h4 | h4
      · exact .inl (h4 ▸ hk)
      · rw [h4] at hk
        injection hk with hk
        exact .inr (by omega)
  · exact (World.grownBy_alloc w _ _).trans h3
end

/-- a part that a call has just made can be put behind those of before -/
theorem part_far {α : Type} {T : TypeId} {q : Nat} {cs : α → List Value} {p : World → Nat → α → Prop} {f : α → Nat → Prop} {lo : Nat} {v : Value} {xs : List α} {w w' : World} {x : α} (hC : Coll T q cs p f lo v xs w) (hlo : lo ≤ w.heap.size) (hx : Lies f x w.heap.size w'.heap.size) :
    ∀ k, f x k → (lo ≤ k ∧ k < w'.heap.size) ∧ v.ownBlock ≠ some k := fun k hk => by
  have h1 := hx k hk
  refine ⟨⟨by omega, h1.2⟩, fun e => ?_⟩
  have := (hC.own.lt k e).2
  omega
theorem own_from {α : Type} {T : TypeId} {q : Nat} {cs : α → List Value} {p : World → Nat → α → Prop} {f : α → Nat → Prop} {lo : Nat} {v : Value} {xs : List α} {w : World} (hC : Coll T q cs p f lo v xs w) : ∀ k, v.ownBlock = some k → lo ≤ k := fun k e => (hC.own.lt k e).1
end Go.Proofs.YtkgnondlcaklnaaGreat

/-
  Contracts of table's taker: numbers; many parts of a kind.
-/
namespace Go.Proofs.YtkgnondlcaklnaaGreat
open Go.RowKit

def takerV (g : Nat) : Value := .agg #[.pointer (some ⟨g, 0, none⟩)]
def tokV (t : Int × Int) : Value := .agg #[.int .u8 t.1, .int .i64 t.2]
def SetM.bare (s : SetM) : SetM := ⟨s.var, ⟨none, 0, s.val.l⟩⟩
def EmM.bare (s : EmM) : EmM := ⟨s.tg, s.ac, ⟨none, 0, s.arg.l⟩⟩
def RuM.bare (r : RuM) : RuM := ⟨r.fr, r.ac, r.pa, r.tt, ⟨none, 0, r.gu.l⟩, ⟨none, 0, r.se.l.map SetM.bare⟩, ⟨none, 0, r.em.l.map EmM.bare⟩⟩

theorem set_info : (Tryz.prog.info? 105).map (fun i => (i.zero, i.size, i.bytes)) = some (some (.agg #[.int .i64 0, .slice none 0 0]), 2, 32) := by kernel_rfl
theorem em_info : (Tryz.prog.info? 107).map (fun i => (i.zero, i.size, i.bytes)) = some (some (.agg #[.int .u8 0, .int .i64 0, .slice none 0 0]), 3, 40) := by kernel_rfl
theorem toks_one1 (x : Int × Int) : ∀ u ∈ tokC x, u.oneCell' = true := by
  intro u hu
  simp only [tokC, List.mem_cons, List.not_mem_nil, or_false] at hu
  rcases hu with rfl | rfl <;> rfl
theorem set_one1 (x : SetM) : ∀ u ∈ x.cs, u.oneCell' = true := by
  intro u hu
  simp only [SetM.cs, List.mem_cons, List.not_mem_nil, or_false, Sl.v] at hu
  rcases hu with rfl | rfl <;> rfl
theorem em_one1 (x : EmM) : ∀ u ∈ x.cs, u.oneCell' = true := by
  intro u hu
  simp only [EmM.cs, List.mem_cons, List.not_mem_nil, or_false, Sl.v] at hu
  rcases hu with rfl | rfl | rfl <;> rfl
theorem ru_one1 (x : RuM) : ∀ u ∈ x.cs, u.oneCell' = true := by
  intro u hu
  simp only [RuM.cs, List.mem_cons, List.not_mem_nil, or_false, Sl.v] at hu
  rcases hu with rfl | rfl | rfl | rfl | rfl | rfl | rfl <;> rfl

end Go.Proofs.YtkgnondlcaklnaaGreat

/-
  Contracts of reg's taker: numbers; many parts of a kind.
-/
namespace Go.Proofs.YtkgnondlcaklnaaGreat
open Go.RowKit

def intV (x : Int) : Value := .int .i64 x
theorem done_info : (Tryz.prog.info? 72).map (fun i => (i.zero, i.size, i.bytes)) = some (some (.agg #[.int .u8 0, .int .u64 0, .int .i64 0, .int .u64 0, .int .i64 0, .slice none 0 0]), 6, 64) := by kernel_rfl
theorem mark_info : (Tryz.prog.info? 76).map (fun i => (i.zero, i.size, i.bytes)) = some (some (.agg #[.int .u8 0, .int .u64 0, .int .u64 0]), 3, 24) := by kernel_rfl
theorem int_one1 (x : Int) : ∀ u ∈ intC x, u.oneCell' = true := by
  intro u hu
  simp only [intC, List.mem_cons, List.not_mem_nil, or_false] at hu
  rcases hu with rfl
  rfl
theorem cel_one1 (x : CelM) : ∀ u ∈ celC x, u.oneCell' = true := by
  intro u hu
  simp only [celC, List.mem_cons, List.not_mem_nil, or_false] at hu
  rcases hu with rfl | rfl | rfl | rfl <;> rfl
theorem mrk_one1 (x : MrkM) : ∀ u ∈ mrkC x, u.oneCell' = true := by
  intro u hu
  simp only [mrkC, List.mem_cons, List.not_mem_nil, or_false] at hu
  rcases hu with rfl | rfl | rfl <;> rfl
theorem done_one1 (x : DoneM) : ∀ u ∈ x.cs, u.oneCell' = true := by
  intro u hu
  simp only [DoneM.cs, List.mem_cons, List.not_mem_nil, or_false, Sl.v] at hu
  rcases hu with rfl | rfl | rfl | rfl | rfl | rfl <;> rfl

set_option maxRecDepth 100000 in
theorem tOther6_any {g : Nat} {s : RS} {w : World} (h : Rdr w g s.1 s.2) (hs : RSok s) : Calls Tryz.prog 164 #[takerV g] w (LeavesS w g (.int .i64 (numS 1000 s).1) (numS 1000 s).2) := by
  have H := hide_ (h.made (.cells #[.pointer (some ⟨g, 0, none⟩)] 170))
  have HS := hide_ hs
  have hb := (numS_ok (most := 1000) hs).2
  have HC := hide_ (Num_st 1000 H.out hs)
  obtain ⟨n, hn⟩ : ∃ n, (numS 1000 s).1 = n := ⟨_, rfl⟩
  obtain ⟨s2, hs2⟩ : ∃ s2, (numS 1000 s).2 = s2 := ⟨_, rfl⟩
  rw [hn] at hb
  rw [hn, hs2] at HC ⊢
  unfold takerV
  clear h hs hn hs2
  go_enter Tryz.func164, Tryz.ntmps164
  go_wp2_with fail
  refine HC.out.mono ?_
  rintro e w1 ⟨rfl, hr1, hg1⟩
  go_wp2
  go_ret
  exact ⟨rfl, hr1, grown_made hg1⟩

set_option maxRecDepth 100000 in
theorem tSmall6_any {g : Nat} {s : RS} {w : World} (h : Rdr w g s.1 s.2) (hs : RSok s) : Calls Tryz.prog 162 #[takerV g] w (LeavesS w g (.int .u8 (numS 255 s).1) (numS 255 s).2) := by
  have H := hide_ (h.made (.cells #[.pointer (some ⟨g, 0, none⟩)] 170))
  have HS := hide_ hs
  have hb := (numS_ok (most := 255) hs).2
  have HC := hide_ (Num_st 255 H.out hs)
  obtain ⟨n, hn⟩ : ∃ n, (numS 255 s).1 = n := ⟨_, rfl⟩
  obtain ⟨s2, hs2⟩ : ∃ s2, (numS 255 s).2 = s2 := ⟨_, rfl⟩
  rw [hn] at hb
  rw [hn, hs2] at HC ⊢
  unfold takerV
  clear h hs hn hs2
  go_enter Tryz.func162, Tryz.ntmps162
  go_wp2_with fail
  refine HC.out.mono ?_
  rintro e w1 ⟨rfl, hr1, hg1⟩
  go_wp2
  go_ret
  exact ⟨rfl, hr1, grown_made hg1⟩

set_option maxRecDepth 100000 in
theorem tNumber06_any {g : Nat} {s : RS} {w : World} (h : Rdr w g s.1 s.2) (hs : RSok s) : Calls Tryz.prog 163 #[takerV g] w (LeavesS w g (.int .u64 (numS 18446744073709551615 s).1) (numS 18446744073709551615 s).2) := by
  have H := hide_ (h.made (.cells #[.pointer (some ⟨g, 0, none⟩)] 170))
  have HS := hide_ hs
  have hb := (numS_ok (most := 18446744073709551615) hs).2
  have HC := hide_ (Num_st 18446744073709551615 H.out hs)
  obtain ⟨n, hn⟩ : ∃ n, (numS 18446744073709551615 s).1 = n := ⟨_, rfl⟩
  obtain ⟨s2, hs2⟩ : ∃ s2, (numS 18446744073709551615 s).2 = s2 := ⟨_, rfl⟩
  rw [hn] at hb
  rw [hn, hs2] at HC ⊢
  unfold takerV
  clear h hs hn hs2
  go_enter Tryz.func163, Tryz.ntmps163
  go_wp2_with fail
  refine HC.out.mono ?_
  rintro e w1 ⟨rfl, hr1, hg1⟩
  go_wp2
  go_ret
  exact ⟨rfl, hr1, grown_made hg1⟩

/-- a number without a limit -/
def numBig (s : RS) : Nat × RS := numS 18446744073709551615 s
theorem numBig_ok {s : RS} (h : RSok s) : RSok (numBig s).2 ∧ U64 ((numBig s).1 : Int) := ⟨(numS_ok h).1, by
  have h1 := (numS_ok (most := 18446744073709551615) h).2
  unfold U64 numBig
  omega⟩
theorem tNumber6_any {g : Nat} {s : RS} {w : World} (h : Rdr w g s.1 s.2) (hs : RSok s) : Calls Tryz.prog 163 #[takerV g] w (LeavesS w g (.int .u64 (numBig s).1) (numBig s).2) := tNumber06_any h hs

set_option maxRecDepth 100000 in
set_option maxHeartbeats 800000 in
theorem manyInt6_any {β : Type} {g : Nat} {s : RS} {w : World} (pp : Int → β) (fn : Nat) (bound cap : Array Value) (fS : RS → β × RS) (h : Rdr w g s.1 s.2) (hs : RSok s) (hfS : ∀ s, RSok s → RSok (fS s).2)
    (he : ∀ args w, (callFunc fn args).run Tryz.prog w = .ok (.enter fn args) w)
    (hf : ∀ w1 s1, w.grownBy w1 (some g) → Rdr w1 g s1.1 s1.2 → RSok s1 → Calls Tryz.prog fn (bound ++ cap) w1 (PartR intV pp (fun _ _ x => I64 x) noFt w1 g (fS s1))) :
    Calls Tryz.prog 165 #[takerV g, .func (.func fn) bound cap] w (PartR Sl.v (fun x => x.l.map pp) intsOk (Sl.ft noFt) w g (manyS 1000 fS s)) := by
  have H := hide_ (h.made (.cells #[.pointer (some ⟨g, 0, none⟩)] 170))
  have hgl : g < w.heap.size := h.glt
  have hb := (numS_ok (most := 1000) hs).2
  have HS1 := hide_ (numS_ok (most := 1000) hs).1
  have HC := hide_ (tOther6_any H.out hs)
  have HF := hide_ hf
  have HFS := hide_ hfS
  have HR := hide_ (show manyS 1000 fS s = iterS fS (numS 1000 s).1 (numS 1000 s).2 from rfl)
  obtain ⟨n, hn⟩ : ∃ n, (numS 1000 s).1 = n := ⟨_, rfl⟩
  obtain ⟨s1, hs1⟩ : ∃ s1, (numS 1000 s).2 = s1 := ⟨_, rfl⟩
  rw [hn] at hb
  rw [hs1] at HS1
  rw [hn, hs1] at HC HR
  rw [HR.out]
  unfold takerV
  have hnn : n ≤ 1000 := by omega
  clear h hs hn hs1 hf hfS HR
  go_enter Tryz.func165, Tryz.ntmps165
  go_wp2_with fail
  refine HC.out.mono ?_
  rintro e w1 ⟨rfl, hr1, hg1⟩
  have HR1 := hide_ hr1
  have HG1 := hide_ (grown_made hg1)
  clear hr1 hg1 HC
  go_wp2
  go_loopw [5, 8] (fun v i wr => ∃ (k : Nat) (xs : List (Int)), k ≤ n ∧ i = .int .i64 k ∧ xs.length = k ∧ Hid (xs.map pp = (iterS fS k s1).1) ∧ Hid (Coll 2 1 intC (fun _ _ x => I64 x) noFt w.heap.size v xs wr) ∧ Hid (Rdr wr g (iterS fS k s1).2.1 (iterS fS k s1).2.2) ∧ Hid (w.grownBy wr (some g))) (fun _ i _ => n - (intOf i).toNat)
  case atStart => exact ⟨0, [], Nat.zero_le _, rfl, rfl, rfl, Coll.nil _, HR1.out, HG1.out⟩
  case round =>
    obtain ⟨k, xs, hk, rfl, hxs, HX, HCO, HRD, HG⟩ := hrel
    by_cases hlt : k < n
    · have HCALL := hide_ (HF.out _ _ HG.out HRD.out (iterS_ok HFS.out k s1 HS1.out))
      have hzw : w.heap.size ≤ wr.heap.size := HG.out.size
      go_wp2_with fail
      refine HCALL.out.mono ?_
      rintro e w2 ⟨x, rfl, hpx, hok, hli, hrd, hg2⟩
      have HX2 := hide_ (show (xs ++ [x]).map pp = (iterS fS (k + 1) s1).1 by rw [iterS_snoc, List.map_append, HX.out, ← hpx]; rfl)
      have HR2 := hide_ (show Rdr w2 g (iterS fS (k + 1) s1).2.1 (iterS fS (k + 1) s1).2.2 by rw [iterS_snoc]; exact hrd)
      have HG2 := hide_ (grown_join HG.out hg2)
      have HCO2 := hide_ (HCO.out.grown (local_plain I64) hg2 hgl)
      have HFAR := hide_ (show ∀ k, noFt x k → (w.heap.size ≤ k ∧ k < w2.heap.size) ∧ _ from part_far HCO.out hzw hli)
      have HOK := hide_ hok
      have HLEN := hide_ hxs
      have hz2 : w.heap.size ≤ w2.heap.size := HG2.out.size
      have hxl : xs.length ≤ 100000 := by omega
      clear hpx hok hli hrd hg2 HX HCO HRD HG HCALL hxs
      obtain ⟨x0, hx0⟩ : ∃ x0, x0 = x := ⟨_, rfl⟩
      have HX0 := hide_ hx0
      rw [← hx0] at HX2 HFAR HOK
      clear hx0
      simp only [intV]
      go_wp2_with (at_builtin; refine wpList_append_coll w2 rfl _ _ 26 rfl _ _ i64_info rfl (by omega) (by omega) Tryz.underlying26 HCO2.out (local_plain I64) x0 HOK.out HFAR.out hz2 _ (by rw [HX0.out]; rfl) rfl (int_one1 _) hxl rfl rfl ?_; intro A3 c3 w3 hco3 hg3; (have HCO3 := hide_ hco3); (have HG3 := hide_ (grown_also HG2.out hg3 (own_from HCO2.out))); (have HR3 := hide_ (HR2.out.other hg3 (fun k hk => by (have := own_from HCO2.out k hk); omega))); clear hco3 hg3)
      go_roundw
      case rel => exact ⟨k + 1, xs ++ [x0], by omega, by go_num, by simp [HLEN.out], HX2, HCO3, HR3, HG3⟩
      case measure => simp [intOf]; omega
    · obtain rfl : k = n := by omega
      obtain ⟨A, c, hA⟩ := HCO.out.val
      subst hA
      obtain ⟨hso, hsl⟩ := HCO.out.slice rfl
      have HSO := hide_ hso
      have HSL := hide_ hsl
      clear hso hsl
      go_wp2
      go_ret
      exact ⟨⟨A, c, xs⟩, rfl, HX.out, HSO.out, HSL.out, HRD.out, HG.out⟩

set_option maxRecDepth 100000 in
set_option maxHeartbeats 800000 in
theorem manyDone6_any {β : Type} {g : Nat} {s : RS} {w : World} (pp : DoneM → β) (fn : Nat) (bound cap : Array Value) (fS : RS → β × RS) (h : Rdr w g s.1 s.2) (hs : RSok s) (hfS : ∀ s, RSok s → RSok (fS s).2)
    (he : ∀ args w, (callFunc fn args).run Tryz.prog w = .ok (.enter fn args) w)
    (hf : ∀ w1 s1, w.grownBy w1 (some g) → Rdr w1 g s1.1 s1.2 → RSok s1 → Calls Tryz.prog fn (bound ++ cap) w1 (PartR DoneM.v pp DoneM.ok DoneM.ft w1 g (fS s1))) :
    Calls Tryz.prog 167 #[takerV g, .func (.func fn) bound cap] w (PartR Sl.v (fun x => x.l.map pp) dnsOk (Sl.ft DoneM.ft) w g (manyS 1000 fS s)) := by
  have H := hide_ (h.made (.cells #[.pointer (some ⟨g, 0, none⟩)] 170))
  have hgl : g < w.heap.size := h.glt
  have hb := (numS_ok (most := 1000) hs).2
  have HS1 := hide_ (numS_ok (most := 1000) hs).1
  have HC := hide_ (tOther6_any H.out hs)
  have HF := hide_ hf
  have HFS := hide_ hfS
  have HR := hide_ (show manyS 1000 fS s = iterS fS (numS 1000 s).1 (numS 1000 s).2 from rfl)
  obtain ⟨n, hn⟩ : ∃ n, (numS 1000 s).1 = n := ⟨_, rfl⟩
  obtain ⟨s1, hs1⟩ : ∃ s1, (numS 1000 s).2 = s1 := ⟨_, rfl⟩
  rw [hn] at hb
  rw [hs1] at HS1
  rw [hn, hs1] at HC HR
  rw [HR.out]
  unfold takerV
  have hnn : n ≤ 1000 := by omega
  clear h hs hn hs1 hf hfS HR
  go_enter Tryz.func167, Tryz.ntmps167
  go_wp2_with fail
  refine HC.out.mono ?_
  rintro e w1 ⟨rfl, hr1, hg1⟩
  have HR1 := hide_ hr1
  have HG1 := hide_ (grown_made hg1)
  clear hr1 hg1 HC
  go_wp2
  go_loopw [5, 8] (fun v i wr => ∃ (k : Nat) (xs : List (DoneM)), k ≤ n ∧ i = .int .i64 k ∧ xs.length = k ∧ Hid (xs.map pp = (iterS fS k s1).1) ∧ Hid (Coll 72 6 DoneM.cs DoneM.ok DoneM.ft w.heap.size v xs wr) ∧ Hid (Rdr wr g (iterS fS k s1).2.1 (iterS fS k s1).2.2) ∧ Hid (w.grownBy wr (some g))) (fun _ i _ => n - (intOf i).toNat)
  case atStart => exact ⟨0, [], Nat.zero_le _, rfl, rfl, rfl, Coll.nil _, HR1.out, HG1.out⟩
  case round =>
    obtain ⟨k, xs, hk, rfl, hxs, HX, HCO, HRD, HG⟩ := hrel
    by_cases hlt : k < n
    · have HCALL := hide_ (HF.out _ _ HG.out HRD.out (iterS_ok HFS.out k s1 HS1.out))
      have hzw : w.heap.size ≤ wr.heap.size := HG.out.size
      go_wp2_with fail
      refine HCALL.out.mono ?_
      rintro e w2 ⟨x, rfl, hpx, hok, hli, hrd, hg2⟩
      have HX2 := hide_ (show (xs ++ [x]).map pp = (iterS fS (k + 1) s1).1 by rw [iterS_snoc, List.map_append, HX.out, ← hpx]; rfl)
      have HR2 := hide_ (show Rdr w2 g (iterS fS (k + 1) s1).2.1 (iterS fS (k + 1) s1).2.2 by rw [iterS_snoc]; exact hrd)
      have HG2 := hide_ (grown_join HG.out hg2)
      have HCO2 := hide_ (HCO.out.grown (done_local) hg2 hgl)
      have HFAR := hide_ (show ∀ k, DoneM.ft x k → (w.heap.size ≤ k ∧ k < w2.heap.size) ∧ _ from part_far HCO.out hzw hli)
      have HOK := hide_ hok
      have HLEN := hide_ hxs
      have hz2 : w.heap.size ≤ w2.heap.size := HG2.out.size
      have hxl : xs.length ≤ 100000 := by omega
      clear hpx hok hli hrd hg2 HX HCO HRD HG HCALL hxs
      obtain ⟨x0, hx0⟩ : ∃ x0, x0 = x := ⟨_, rfl⟩
      have HX0 := hide_ hx0
      rw [← hx0] at HX2 HFAR HOK
      clear hx0
      obtain ⟨cl, sq, er, inc, st, ⟨vA, vc, vl⟩⟩ := x
      simp only [DoneM.v, Sl.v]
      go_wp2_with (at_builtin; refine wpList_append_coll w2 rfl _ _ 27 rfl _ _ done_info rfl (by omega) (by omega) Tryz.underlying27 HCO2.out (done_local) x0 HOK.out HFAR.out hz2 _ (by rw [HX0.out]; rfl) rfl (done_one1 _) hxl rfl rfl ?_; intro A3 c3 w3 hco3 hg3; (have HCO3 := hide_ hco3); (have HG3 := hide_ (grown_also HG2.out hg3 (own_from HCO2.out))); (have HR3 := hide_ (HR2.out.other hg3 (fun k hk => by (have := own_from HCO2.out k hk); omega))); clear hco3 hg3)
      go_roundw
      case rel => exact ⟨k + 1, xs ++ [x0], by omega, by go_num, by simp [HLEN.out], HX2, HCO3, HR3, HG3⟩
      case measure => simp [intOf]; omega
    · obtain rfl : k = n := by omega
      obtain ⟨A, c, hA⟩ := HCO.out.val
      subst hA
      obtain ⟨hso, hsl⟩ := HCO.out.slice rfl
      have HSO := hide_ hso
      have HSL := hide_ hsl
      clear hso hsl
      go_wp2
      go_ret
      exact ⟨⟨A, c, xs⟩, rfl, HX.out, HSO.out, HSL.out, HRD.out, HG.out⟩

set_option maxRecDepth 100000 in
set_option maxHeartbeats 800000 in
theorem manyCell6_any {β : Type} {g : Nat} {s : RS} {w : World} (pp : CelM → β) (fn : Nat) (bound cap : Array Value) (fS : RS → β × RS) (h : Rdr w g s.1 s.2) (hs : RSok s) (hfS : ∀ s, RSok s → RSok (fS s).2)
    (he : ∀ args w, (callFunc fn args).run Tryz.prog w = .ok (.enter fn args) w)
    (hf : ∀ w1 s1, w.grownBy w1 (some g) → Rdr w1 g s1.1 s1.2 → RSok s1 → Calls Tryz.prog fn (bound ++ cap) w1 (PartR celV pp (fun _ _ c => celIn c) noFt w1 g (fS s1))) :
    Calls Tryz.prog 169 #[takerV g, .func (.func fn) bound cap] w (PartR Sl.v (fun x => x.l.map pp) celsOk (Sl.ft noFt) w g (manyS 1000 fS s)) := by
  have H := hide_ (h.made (.cells #[.pointer (some ⟨g, 0, none⟩)] 170))
  have hgl : g < w.heap.size := h.glt
  have hb := (numS_ok (most := 1000) hs).2
  have HS1 := hide_ (numS_ok (most := 1000) hs).1
  have HC := hide_ (tOther6_any H.out hs)
  have HF := hide_ hf
  have HFS := hide_ hfS
  have HR := hide_ (show manyS 1000 fS s = iterS fS (numS 1000 s).1 (numS 1000 s).2 from rfl)
  obtain ⟨n, hn⟩ : ∃ n, (numS 1000 s).1 = n := ⟨_, rfl⟩
  obtain ⟨s1, hs1⟩ : ∃ s1, (numS 1000 s).2 = s1 := ⟨_, rfl⟩
  rw [hn] at hb
  rw [hs1] at HS1
  rw [hn, hs1] at HC HR
  rw [HR.out]
  unfold takerV
  have hnn : n ≤ 1000 := by omega
  clear h hs hn hs1 hf hfS HR
  go_enter Tryz.func169, Tryz.ntmps169
  go_wp2_with fail
  refine HC.out.mono ?_
  rintro e w1 ⟨rfl, hr1, hg1⟩
  have HR1 := hide_ hr1
  have HG1 := hide_ (grown_made hg1)
  clear hr1 hg1 HC
  go_wp2
  go_loopw [5, 8] (fun v i wr => ∃ (k : Nat) (xs : List (CelM)), k ≤ n ∧ i = .int .i64 k ∧ xs.length = k ∧ Hid (xs.map pp = (iterS fS k s1).1) ∧ Hid (Coll 74 4 celC (fun _ _ c => celIn c) noFt w.heap.size v xs wr) ∧ Hid (Rdr wr g (iterS fS k s1).2.1 (iterS fS k s1).2.2) ∧ Hid (w.grownBy wr (some g))) (fun _ i _ => n - (intOf i).toNat)
  case atStart => exact ⟨0, [], Nat.zero_le _, rfl, rfl, rfl, Coll.nil _, HR1.out, HG1.out⟩
  case round =>
    obtain ⟨k, xs, hk, rfl, hxs, HX, HCO, HRD, HG⟩ := hrel
    by_cases hlt : k < n
    · have HCALL := hide_ (HF.out _ _ HG.out HRD.out (iterS_ok HFS.out k s1 HS1.out))
      have hzw : w.heap.size ≤ wr.heap.size := HG.out.size
      go_wp2_with fail
      refine HCALL.out.mono ?_
      rintro e w2 ⟨x, rfl, hpx, hok, hli, hrd, hg2⟩
      have HX2 := hide_ (show (xs ++ [x]).map pp = (iterS fS (k + 1) s1).1 by rw [iterS_snoc, List.map_append, HX.out, ← hpx]; rfl)
      have HR2 := hide_ (show Rdr w2 g (iterS fS (k + 1) s1).2.1 (iterS fS (k + 1) s1).2.2 by rw [iterS_snoc]; exact hrd)
      have HG2 := hide_ (grown_join HG.out hg2)
      have HCO2 := hide_ (HCO.out.grown (local_plain celIn) hg2 hgl)
      have HFAR := hide_ (show ∀ k, noFt x k → (w.heap.size ≤ k ∧ k < w2.heap.size) ∧ _ from part_far HCO.out hzw hli)
      have HOK := hide_ hok
      have HLEN := hide_ hxs
      have hz2 : w.heap.size ≤ w2.heap.size := HG2.out.size
      have hxl : xs.length ≤ 100000 := by omega
      clear hpx hok hli hrd hg2 HX HCO HRD HG HCALL hxs
      obtain ⟨x0, hx0⟩ : ∃ x0, x0 = x := ⟨_, rfl⟩
      have HX0 := hide_ hx0
      rw [← hx0] at HX2 HFAR HOK
      clear hx0
      obtain ⟨a, b, c, d⟩ := x
      simp only [celV]
      go_wp2_with (at_builtin; refine wpList_append_coll w2 rfl _ _ 28 rfl _ _ cell_info rfl (by omega) (by omega) Tryz.underlying28 HCO2.out (local_plain celIn) x0 HOK.out HFAR.out hz2 _ (by rw [HX0.out]; rfl) rfl (cel_one1 _) hxl rfl rfl ?_; intro A3 c3 w3 hco3 hg3; (have HCO3 := hide_ hco3); (have HG3 := hide_ (grown_also HG2.out hg3 (own_from HCO2.out))); (have HR3 := hide_ (HR2.out.other hg3 (fun k hk => by (have := own_from HCO2.out k hk); omega))); clear hco3 hg3)
      go_roundw
      case rel => exact ⟨k + 1, xs ++ [x0], by omega, by go_num, by simp [HLEN.out], HX2, HCO3, HR3, HG3⟩
      case measure => simp [intOf]; omega
    · obtain rfl : k = n := by omega
      obtain ⟨A, c, hA⟩ := HCO.out.val
      subst hA
      obtain ⟨hso, hsl⟩ := HCO.out.slice rfl
      have HSO := hide_ hso
      have HSL := hide_ hsl
      clear hso hsl
      go_wp2
      go_ret
      exact ⟨⟨A, c, xs⟩, rfl, HX.out, HSO.out, HSL.out, HRD.out, HG.out⟩

set_option maxRecDepth 100000 in
set_option maxHeartbeats 800000 in
theorem manyMark6_any {β : Type} {g : Nat} {s : RS} {w : World} (pp : MrkM → β) (fn : Nat) (bound cap : Array Value) (fS : RS → β × RS) (h : Rdr w g s.1 s.2) (hs : RSok s) (hfS : ∀ s, RSok s → RSok (fS s).2)
    (he : ∀ args w, (callFunc fn args).run Tryz.prog w = .ok (.enter fn args) w)
    (hf : ∀ w1 s1, w.grownBy w1 (some g) → Rdr w1 g s1.1 s1.2 → RSok s1 → Calls Tryz.prog fn (bound ++ cap) w1 (PartR mrkV pp (fun _ _ c => mrkIn c) noFt w1 g (fS s1))) :
    Calls Tryz.prog 171 #[takerV g, .func (.func fn) bound cap] w (PartR Sl.v (fun x => x.l.map pp) mrksOk (Sl.ft noFt) w g (manyS 1000 fS s)) := by
  have H := hide_ (h.made (.cells #[.pointer (some ⟨g, 0, none⟩)] 170))
  have hgl : g < w.heap.size := h.glt
  have hb := (numS_ok (most := 1000) hs).2
  have HS1 := hide_ (numS_ok (most := 1000) hs).1
  have HC := hide_ (tOther6_any H.out hs)
  have HF := hide_ hf
  have HFS := hide_ hfS
  have HR := hide_ (show manyS 1000 fS s = iterS fS (numS 1000 s).1 (numS 1000 s).2 from rfl)
  obtain ⟨n, hn⟩ : ∃ n, (numS 1000 s).1 = n := ⟨_, rfl⟩
  obtain ⟨s1, hs1⟩ : ∃ s1, (numS 1000 s).2 = s1 := ⟨_, rfl⟩
  rw [hn] at hb
  rw [hs1] at HS1
  rw [hn, hs1] at HC HR
  rw [HR.out]
  unfold takerV
  have hnn : n ≤ 1000 := by omega
  clear h hs hn hs1 hf hfS HR
  go_enter Tryz.func171, Tryz.ntmps171
  go_wp2_with fail
  refine HC.out.mono ?_
  rintro e w1 ⟨rfl, hr1, hg1⟩
  have HR1 := hide_ hr1
  have HG1 := hide_ (grown_made hg1)
  clear hr1 hg1 HC
  go_wp2
  go_loopw [5, 8] (fun v i wr => ∃ (k : Nat) (xs : List (MrkM)), k ≤ n ∧ i = .int .i64 k ∧ xs.length = k ∧ Hid (xs.map pp = (iterS fS k s1).1) ∧ Hid (Coll 76 3 mrkC (fun _ _ c => mrkIn c) noFt w.heap.size v xs wr) ∧ Hid (Rdr wr g (iterS fS k s1).2.1 (iterS fS k s1).2.2) ∧ Hid (w.grownBy wr (some g))) (fun _ i _ => n - (intOf i).toNat)
  case atStart => exact ⟨0, [], Nat.zero_le _, rfl, rfl, rfl, Coll.nil _, HR1.out, HG1.out⟩
  case round =>
    obtain ⟨k, xs, hk, rfl, hxs, HX, HCO, HRD, HG⟩ := hrel
    by_cases hlt : k < n
    · have HCALL := hide_ (HF.out _ _ HG.out HRD.out (iterS_ok HFS.out k s1 HS1.out))
      have hzw : w.heap.size ≤ wr.heap.size := HG.out.size
      go_wp2_with fail
      refine HCALL.out.mono ?_
      rintro e w2 ⟨x, rfl, hpx, hok, hli, hrd, hg2⟩
      have HX2 := hide_ (show (xs ++ [x]).map pp = (iterS fS (k + 1) s1).1 by rw [iterS_snoc, List.map_append, HX.out, ← hpx]; rfl)
      have HR2 := hide_ (show Rdr w2 g (iterS fS (k + 1) s1).2.1 (iterS fS (k + 1) s1).2.2 by rw [iterS_snoc]; exact hrd)
      have HG2 := hide_ (grown_join HG.out hg2)
      have HCO2 := hide_ (HCO.out.grown (local_plain mrkIn) hg2 hgl)
      have HFAR := hide_ (show ∀ k, noFt x k → (w.heap.size ≤ k ∧ k < w2.heap.size) ∧ _ from part_far HCO.out hzw hli)
      have HOK := hide_ hok
      have HLEN := hide_ hxs
      have hz2 : w.heap.size ≤ w2.heap.size := HG2.out.size
      have hxl : xs.length ≤ 100000 := by omega
      clear hpx hok hli hrd hg2 HX HCO HRD HG HCALL hxs
      obtain ⟨x0, hx0⟩ : ∃ x0, x0 = x := ⟨_, rfl⟩
      have HX0 := hide_ hx0
      rw [← hx0] at HX2 HFAR HOK
      clear hx0
      obtain ⟨a, b, c⟩ := x
      simp only [mrkV]
      go_wp2_with (at_builtin; refine wpList_append_coll w2 rfl _ _ 29 rfl _ _ mark_info rfl (by omega) (by omega) Tryz.underlying29 HCO2.out (local_plain mrkIn) x0 HOK.out HFAR.out hz2 _ (by rw [HX0.out]; rfl) rfl (mrk_one1 _) hxl rfl rfl ?_; intro A3 c3 w3 hco3 hg3; (have HCO3 := hide_ hco3); (have HG3 := hide_ (grown_also HG2.out hg3 (own_from HCO2.out))); (have HR3 := hide_ (HR2.out.other hg3 (fun k hk => by (have := own_from HCO2.out k hk); omega))); clear hco3 hg3)
      go_roundw
      case rel => exact ⟨k + 1, xs ++ [x0], by omega, by go_num, by simp [HLEN.out], HX2, HCO3, HR3, HG3⟩
      case measure => simp [intOf]; omega
    · obtain rfl : k = n := by omega
      obtain ⟨A, c, hA⟩ := HCO.out.val
      subst hA
      obtain ⟨hso, hsl⟩ := HCO.out.slice rfl
      have HSO := hide_ hso
      have HSL := hide_ hsl
      clear hso hsl
      go_wp2
      go_ret
      exact ⟨⟨A, c, xs⟩, rfl, HX.out, HSO.out, HSL.out, HRD.out, HG.out⟩

end Go.Proofs.YtkgnondlcaklnaaGreat
