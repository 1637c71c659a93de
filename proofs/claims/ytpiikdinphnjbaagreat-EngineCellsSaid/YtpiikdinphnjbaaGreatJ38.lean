/-
  Texts of this claim put together: PutL, Awk7a, Kinds7.
-/
import Derived.Test.YtpiikdinphnjbaaGreatJ37
import Derived.Test.YtpiikdinphnjbaaGreatJ31
import Derived.Test.YtpiikdinphnjbaaGreatJ26
/-
  A part put into a list whose numbers rise: plain mathematics.
-/
namespace Go.Proofs.YtpiikdinphnjbaaGreat

/-- numbers that rise -/
def Ris {α : Type} (key : α → Int) (l : List α) : Prop := l.Pairwise fun x y => key x < key y
theorem ris_of {l : List Int} {lo hi : Int} (h : risB l lo hi = true) : l.Pairwise (fun x y => x < y) := by
  have step : ∀ j (hj : j + 1 < l.length), l[j] < l[j + 1] := fun j hj => by
    have h1 := risB_true.1 h (j + 1) hj
    rw [risX_at (List.getElem?_eq_getElem hj)] at h1
    simp only [Bool.or_eq_false_iff, Bool.and_eq_false_iff, decide_eq_false_iff_not, Nat.add_sub_cancel, List.getD_eq_getElem?_getD, List.getElem?_eq_getElem (show j < l.length by omega), Option.getD_some] at h1
    rcases h1.2 with h2 | h2 <;> omega
  rw [List.pairwise_iff_getElem]
  intro i j hi hj hij
  obtain ⟨m, rfl⟩ : ∃ m, j = i + 1 + m := ⟨j - (i + 1), by omega⟩
  clear hij
  induction m with
  | zero => exact step i hj
  | succ m ih =>
    have h1 := ih (by omega)
    have h2 := step (i + 1 + m) hj
    exact Int.lt_trans h1 h2
theorem ris_in {l : List Int} {lo hi : Int} (h : risB l lo hi = true) : ∀ x ∈ l, lo ≤ x ∧ x ≤ hi := by
  intro x hx
  obtain ⟨k, hk, rfl⟩ := List.getElem_of_mem hx
  have := ris_far h k _ (List.getElem?_eq_getElem hk)
  omega
theorem ris_mk {l : List Int} {lo hi : Int} (h : l.Pairwise (fun x y => x < y)) (hb : ∀ x ∈ l, lo ≤ x ∧ x ≤ hi) : risB l lo hi = true := by
  rw [risB_true]
  intro j hj
  rw [risX_at (List.getElem?_eq_getElem hj)]
  simp only [Bool.or_eq_false_iff, Bool.not_eq_false', Bool.and_eq_false_iff, decide_eq_false_iff_not]
  refine ⟨inB_true.2 (hb _ (List.getElem_mem hj)), ?_⟩
  rcases Nat.eq_zero_or_pos j with h0 | h0
  · exact .inl (by omega)
  · right
    rw [List.pairwise_iff_getElem] at h
    have := h (j - 1) j (by omega) hj (by omega)
    rw [List.getD_eq_getElem?_getD, List.getElem?_eq_getElem (show j - 1 < l.length by omega), Option.getD_some]
    omega
theorem Ris.of {α : Type} {key : α → Int} {l : List α} {lo hi : Int} (h : risB (l.map key) lo hi = true) : Ris key l := by
  have := ris_of h
  rwa [List.pairwise_map] at this
section
variable {α β : Type} {key : α → Int} {l : List α} {d y : α} {i : Nat}
theorem filter_full {p : α → Bool} {l : List α} (h : ∀ x ∈ l, p x = true) : l.filter p = l := List.filter_eq_self.2 h
theorem filter_none {p : α → Bool} {l : List α} (h : ∀ x ∈ l, p x = false) : l.filter p = [] := List.filter_eq_nil_iff.2 fun x hx => by simp [h x hx]
theorem mem_take_at {x : α} (h : x ∈ l.take i) : ∃ t, t < i ∧ l[t]? = some x := by
  obtain ⟨t, ht, rfl⟩ := List.getElem_of_mem h
  rw [List.length_take] at ht
  exact ⟨t, by omega, by rw [List.getElem_take, List.getElem?_eq_getElem (by omega)]⟩
theorem mem_drop_at {x : α} (h : x ∈ l.drop i) : ∃ t, i ≤ t ∧ l[t]? = some x := by
  obtain ⟨t, ht, rfl⟩ := List.getElem_of_mem h
  rw [List.length_drop] at ht
  exact ⟨i + t, by omega, by rw [List.getElem_drop, List.getElem?_eq_getElem (by omega)]⟩
theorem putL_not (h1 : ∀ t x, t < i → l[t]? = some x → key x < key d) (h2 : ∀ t x, i ≤ t → l[t]? = some x → key d < key x) : putL key l d = l.take i ++ d :: l.drop i := by
  unfold putL
  have e1 : l.filter (fun x => decide (key x < key d)) = l.take i := by
    conv => lhs; rw [← List.take_append_drop i l]
    rw [List.filter_append, filter_full fun x hx => ?_, filter_none fun x hx => ?_, List.append_nil]
    · obtain ⟨t, ht, hx⟩ := mem_drop_at hx
      have := h2 t x ht hx
      simp only [decide_eq_false_iff_not]
      omega
    · obtain ⟨t, ht, hx⟩ := mem_take_at hx
      simpa using h1 t x ht hx
  have e2 : l.filter (fun x => decide (key d < key x)) = l.drop i := by
    conv => lhs; rw [← List.take_append_drop i l]
    rw [List.filter_append, filter_none fun x hx => ?_, filter_full fun x hx => ?_, List.nil_append]
    · obtain ⟨t, ht, hx⟩ := mem_drop_at hx
      simpa using h2 t x ht hx
    · obtain ⟨t, ht, hx⟩ := mem_take_at hx
      have := h1 t x ht hx
      simp only [decide_eq_false_iff_not]
      omega
  rw [e1, e2]
theorem putL_there (hr : Ris key l) (hy : l[i]? = some y) (hk : key y = key d) : putL key l d = l.set i d := by
  have hlt := (List.getElem?_eq_some_iff.1 hy).1
  have hp := List.pairwise_iff_getElem.1 hr
  have hyi : l[i] = y := (List.getElem?_eq_some_iff.1 hy).2
  have h1 : ∀ t x, t < i → l[t]? = some x → key x < key d := fun t x ht hx => by
    obtain ⟨h3, rfl⟩ := List.getElem?_eq_some_iff.1 hx
    have := hp t i h3 hlt ht
    rw [hyi, hk] at this
    exact this
  have h2 : ∀ t x, i + 1 ≤ t → l[t]? = some x → key d < key x := fun t x ht hx => by
    obtain ⟨h3, rfl⟩ := List.getElem?_eq_some_iff.1 hx
    have := hp i t hlt h3 (by omega)
    rw [hyi, hk] at this
    exact this
  have hs : l = l.take i ++ y :: l.drop (i + 1) := by
    rw [← hyi, List.getElem_cons_drop, List.take_append_drop]
  unfold putL
  have e1 : l.filter (fun x => decide (key x < key d)) = l.take i := by
    conv => lhs; rw [hs]
    rw [List.filter_append, filter_full fun x hx => ?_, filter_none fun x hx => ?_, List.append_nil]
    · rcases List.mem_cons.1 hx with rfl | hx
      · simp [hk]
      · obtain ⟨t, ht, hx⟩ := mem_drop_at hx
        have := h2 t x ht hx
        simp only [decide_eq_false_iff_not]
        omega
    · obtain ⟨t, ht, hx⟩ := mem_take_at hx
      simpa using h1 t x ht hx
  have e2 : l.filter (fun x => decide (key d < key x)) = l.drop (i + 1) := by
    conv => lhs; rw [hs]
    rw [List.filter_append, filter_none fun x hx => ?_, List.filter_cons_of_neg (by simp [hk]), filter_full fun x hx => ?_, List.nil_append]
    · obtain ⟨t, ht, hx⟩ := mem_drop_at hx
      simpa using h2 t x ht hx
    · obtain ⟨t, ht, hx⟩ := mem_take_at hx
      have := h1 t x ht hx
      simp only [decide_eq_false_iff_not]
      omega
  rw [e1, e2, List.set_eq_take_append_cons_drop, if_pos hlt]
theorem putL_map {f : α → β} {kb : β → Int} (h : ∀ x, kb (f x) = key x) : putL kb (l.map f) (f d) = (putL key l d).map f := by
  unfold putL
  rw [List.map_append, List.map_cons, List.filter_map, List.filter_map, h d]
  congr 3
  · congr 1
    funext x
    simp [h]
  · congr 1
    funext x
    simp [h]
theorem putL_mem {x : α} (h : x ∈ putL key l d) : x = d ∨ x ∈ l := by
  unfold putL at h
  rcases List.mem_append.1 h with h | h
  · exact .inr (List.mem_filter.1 h).1
  · rcases List.mem_cons.1 h with h | h
    · exact .inl h
    · exact .inr (List.mem_filter.1 h).1
theorem mem_putL (key : α → Int) (l : List α) (d : α) : d ∈ putL key l d := by
  unfold putL
  simp
theorem putL_keeps {x : α} (h : x ∈ l) (hk : key x ≠ key d) : x ∈ putL key l d := by
  unfold putL
  rcases Int.lt_or_gt_of_ne hk with h1 | h1
  · exact List.mem_append_left _ (List.mem_filter.2 ⟨h, by simpa using h1⟩)
  · exact List.mem_append_right _ (List.mem_cons_of_mem _ (List.mem_filter.2 ⟨h, by simpa using h1⟩))
theorem Ris.putL (h : Ris key l) (d : α) : Ris key (putL key l d) := by
  unfold Ris at h ⊢
  unfold Go.Proofs.YtpiikdinphnjbaaGreat.putL
  rw [List.pairwise_append, List.pairwise_cons]
  refine ⟨h.filter _, ⟨fun x hx => ?_, h.filter _⟩, fun x hx y hy => ?_⟩
  · simpa using (List.mem_filter.1 hx).2
  · have h1 : key x < key d := by simpa using (List.mem_filter.1 hx).2
    rcases List.mem_cons.1 hy with rfl | hy
    · exact h1
    · have h2 : key d < key y := by simpa using (List.mem_filter.1 hy).2
      omega
theorem putL_ris {lo hi : Int} (h : risB (l.map key) lo hi = true) (h1 : lo ≤ key d) (h2 : key d ≤ hi) : risB ((putL key l d).map key) lo hi = true := by
  refine ris_mk ?_ fun x hx => ?_
  · rw [List.pairwise_map]
    exact (Ris.of h).putL d
  · obtain ⟨y, hy, rfl⟩ := List.mem_map.1 hx
    rcases putL_mem hy with rfl | hy
    · exact ⟨h1, h2⟩
    · exact ris_in h _ (List.mem_map.2 ⟨y, hy, rfl⟩)
theorem putL_len : (putL key l d).length ≤ l.length + 1 := by
  unfold putL
  rw [List.length_append, List.length_cons]
  have : (l.filter (fun x => decide (key x < key d))).length + (l.filter (fun x => decide (key d < key x))).length ≤ l.length := by
    induction l with
    | nil => simp
    | cons a l ih =>
      by_cases h1 : key a < key d
      · rw [List.filter_cons_of_pos (by simpa using h1), List.filter_cons_of_neg (by simp; omega)]
        simp only [List.length_cons]
        omega
      · by_cases h2 : key d < key a
        · rw [List.filter_cons_of_neg (by simp; omega), List.filter_cons_of_pos (by simpa using h2)]
          simp only [List.length_cons]
          omega
        · rw [List.filter_cons_of_neg (by simp; omega), List.filter_cons_of_neg (by simp; omega)]
          simp only [List.length_cons]
          omega
  omega
/-- the document's way of putting, element by element -/
def ptB (key : α → Int) (l : List α) (d : α) : Bool := l.any fun x => decide (key d ≤ key x)
def ptL (key : α → Int) (l : List α) (d : α) : List α := if ptB key l d = true then putL key l d else l
theorem ptL_nil (key : α → Int) (d : α) : ptB key [] d = false ∧ ptL key [] d = [] := ⟨rfl, rfl⟩
theorem ptL_no (h : ptB key l d = false) : ptL key l d = l ∧ putL key l d = l ++ [d] := by
  have h1 : ∀ x ∈ l, key x < key d := fun x hx => by
    unfold ptB at h
    rw [List.any_eq_false] at h
    have := h x hx
    simp only [decide_eq_true_eq] at this
    omega
  refine ⟨by unfold ptL; rw [if_neg (by simp [h])], ?_⟩
  unfold putL
  rw [filter_full fun x hx => by simpa using h1 x hx, filter_none fun x hx => by have := h1 x hx; simp only [decide_eq_false_iff_not]; omega]
theorem ptL_yes (h : ptB key l d = true) : ptL key l d = putL key l d := by unfold ptL; rw [if_pos h]
theorem ptB_snoc (x : α) : ptB key (l ++ [x]) d = (ptB key l d || decide (key d ≤ key x)) := by
  unfold ptB
  rw [List.any_append]
  simp
/-- nothing was put yet, and it is put ahead of x -/
theorem ptL_now {x : α} (h : ptB key l d = false) (hx : key d ≤ key x) : ptB key (l ++ [x]) d = true ∧ ptL key (l ++ [x]) d = if key x = key d then l ++ [d] else l ++ [d] ++ [x] := by
  have h0 : ptB key (l ++ [x]) d = true := by rw [ptB_snoc, h]; simpa using hx
  refine ⟨h0, ?_⟩
  rw [ptL_yes h0]
  have h1 := (ptL_no h).2
  unfold putL at h1 ⊢
  rw [List.filter_append, List.filter_append]
  by_cases hk : key x = key d
  · rw [if_pos hk, List.filter_cons_of_neg (by simp; omega), List.filter_cons_of_neg (by simp; omega)]
    simpa using h1
  · rw [if_neg hk, List.filter_cons_of_neg (by simp; omega), List.filter_cons_of_pos (by simp; omega), ← h1]
    simp
/-- it was put, and x stands behind it -/
theorem ptL_then {x : α} (hr : Ris key (l ++ [x])) (h : ptB key l d = true) : ptB key (l ++ [x]) d = true ∧ key x ≠ key d ∧ ptL key (l ++ [x]) d = ptL key l d ++ [x] := by
  have h0 : ptB key (l ++ [x]) d = true := by rw [ptB_snoc, h]; rfl
  have hlt : key d < key x := by
    unfold ptB at h
    obtain ⟨y, hy, hk⟩ := List.any_eq_true.1 h
    have := (List.pairwise_append.1 hr).2.2 y hy x (by simp)
    simp only [decide_eq_true_eq] at hk
    omega
  refine ⟨h0, by omega, ?_⟩
  rw [ptL_yes h0, ptL_yes h]
  unfold putL
  rw [List.filter_append, List.filter_append, List.filter_cons_of_neg (by simp; omega), List.filter_cons_of_pos (by simpa using hlt)]
  simp
/-- nothing was put yet, and x stands ahead of it -/
theorem ptL_late {x : α} (h : ptB key l d = false) (hx : ¬ key d ≤ key x) : ptB key (l ++ [x]) d = false ∧ key x ≠ key d ∧ ptL key (l ++ [x]) d = ptL key l d ++ [x] := by
  have h0 : ptB key (l ++ [x]) d = false := by rw [ptB_snoc, h]; simpa using hx
  exact ⟨h0, by omega, by rw [(ptL_no h0).1, (ptL_no h).1]⟩
theorem ris_take (h : Ris key l) (k : Nat) : Ris key (l.take k) := List.Pairwise.sublist (List.take_sublist k l) h
end
end Go.Proofs.YtpiikdinphnjbaaGreat

/-
  Parts of engine's Apply where a register has no entries: again, do of a create, put into an empty list.
-/
namespace Go.Proofs.YtpiikdinphnjbaaGreat
open Go.RowKit

section
variable {P : Program}
/-- the walk's step: append of cells onto a row of one's own: what else has changed -/
theorem wpList_append_grown (w : World) {ops : Array Oper} {rest : List Oper} {o : Oper} {a : Act} {Q : Exit → Act → World → Prop} (hgd : Region.wanted o (yielded ops a.tmps) = true) (s x : Operand) (t : TypeId)
    (ho : o.op = .call { callee := .builtin .append, args := #[s, x], argTypes := #[t, t] })
    (base : Nat) (e : TypeId) (z : Value) (size bytes : Nat) (hinfo : (P.info? e).map (fun i => (i.zero, i.size, i.bytes)) = some (some z, size, bytes)) (hzs : z.cells.size = size) (hsz : 0 < size) (ht : P.underlying t = some (.slice e))
    (v : Value) (n : Nat) (xs : List Value) (hs : a.eval s = v) (hown : w.ownsRow base e size v n xs)
    (B : Nat) (A : Option Addr) (m c : Nat) (news : List Value) (hx : a.eval x = .slice A m c) (hl : news.length = m * size) (hr : Sees w B A news) (h1 : ∀ u ∈ news, u.oneCell' = true) (hm : n + m ≤ 1000000) (hb : bytes ≤ 1000) (hbase : base ≤ w.heap.size)
    (r : Nat) (hr2 : n + m = r) (ys : List Value) (hys : xs ++ news = ys)
    (h : ∀ A' c' w', w'.ownsRow base e size (.slice A' r c') r ys → w.grownBy w' v.ownBlock → wpList P ops Q rest (a.put o.dst (.slice A' r c')) w') : wpList P ops Q (o :: rest) a w := by
  refine wpList_step fun _ hK => ?_
  rw [if_pos hgd]
  obtain ⟨i0, hi, hz0, hz1, hz2⟩ := info_parts hinfo
  subst hr2 hys
  obtain ⟨v', w', hrun, h2, h3, _⟩ := run_append_rows (P := P) w base t o.type e i0 z size bytes ht hi hz0 hz1 hz2 hzs hsz v n xs hown B A m c news hl hr h1 (by unfold maxLen; omega)
    (Nat.le_trans (Nat.mul_le_mul hm hb) (by decide)) hbase
  have hv : ∃ A' c', v' = .slice A' (n + m) c' := by
    rcases h2.2 with ⟨rfl, h0⟩ | ⟨g, cap, cur, rfl, _⟩
    · exact ⟨none, 0, by rw [h0]⟩
    · exact ⟨_, _, rfl⟩
  obtain ⟨A', c', rfl⟩ := hv
  unfold Oper.wp execOp
  simp only [ho, resolve, invoke, builtin, Sem.run_bind, Sem.run_pure, Result.andThen_ok, List.map_toArray, List.map_cons, List.map_nil, hs, hx, hrun]
  exact hK _ _ (h A' c' w' h2 h3)
end

set_option maxRecDepth 100000 in
set_option maxHeartbeats 6400000 in
theorem do_create (ts : Int) (tA : Option Addr) (tn tc : Nat) (x : RegM) (o : OpM) (cn : Int) (lo z nv : Nat) (w : World) (h : At7 w lo z x) (ho : o.ki = 1) (hn : nv ≤ 8) (hc : U64 cn) :
    Calls Tryz.prog 20 #[.agg #[.int .i64 ts, .int .i64 nv, .slice tA tn tc], .pointer (some ⟨z, 0, none⟩), o.v, .int .u64 cn] w (Does (createG x.p nv cn) lo z w) := by
  obtain ⟨W0, hW0⟩ : ∃ W0, (w.alloc (.cells #[.int .i64 ts, .int .i64 nv, .slice tA tn tc] 24)).alloc (.cells o.box 33) = W0 := ⟨_, rfl⟩
  have hb0 : Below w.heap.size w W0 := hW0 ▸ ((Below.refl _ _).alloc (Nat.le_refl _) _).alloc (by simp) _
  have h0 : At7 W0 lo z x := ⟨h.box.below hb0, h.fresh.below hb0, h.low, Nat.le_trans h.size hb0.size⟩
  have HCR := hide_ (create_any x nv cn lo z W0 h0 hn hc)
  have HK := hide_ (Kp.of (z := z) (hb0.mono h.size) h.low)
  have HW0 := hide_ hW0
  clear hW0 h0 hb0 h
  obtain ⟨ki, ke, cl, sq, ac, pa, ar, so, inc, ce⟩ := o
  simp only at ho
  subst ho
  simp only [OpM.v, OpM.box] at HW0 ⊢
  go_enter Tryz.func20, Tryz.ntmps20
  go_wp2_with fail
  rw [HW0.out]
  refine HCR.out.mono ?_
  rintro en w1 ⟨y, rfl, hp, hat, hk⟩
  have HP := hide_ hp
  have HAT := hide_ hat
  have HKP := hide_ (HK.out.trans hk)
  clear hp hat hk
  go_wp2
  go_ret
  exact ⟨y, rfl, HP.out, HAT.out, HKP.out⟩

theorem note1_any (d : DoneM) (w : World) : Calls Tryz.prog 46 #[DoneM.v d] w fun e w' => e = .returned (.int .u8 d.cl) ∧ Below w.heap.size w w' := by
  obtain ⟨cl, sq, er, inc, st, ⟨A, c, va⟩⟩ := d
  simp only [DoneM.v, Sl.v]
  go_enter Tryz.func46, Tryz.ntmps46
  go_wp2
  go_ret
  exact ⟨rfl, (Below.refl _ _).alloc (Nat.le_refl _) _⟩

set_option maxRecDepth 100000 in
set_option maxHeartbeats 3200000 in
theorem ins_nil (A B : Option Addr) (c bc : Nat) (d : DoneM) (lo b : Nat) (w : World) (h : w.ownsRow lo 63 6 (.slice A 0 c) 0 []) (hlo : lo ≤ w.heap.size) (hs : Sees w b B (DoneM.cs d)) :
    Calls Tryz.prog 70 #[.slice A 0 c, .int .i64 0, .slice B 1 bc] w fun e w' => ∃ A' c', e = .returned (.slice A' 1 c') ∧ w'.ownsRow lo 63 6 (.slice A' 1 c') 1 (DoneM.cs d) ∧ w.grownBy w' (Value.slice A 0 c).ownBlock := by
  have HO := hide_ h
  have HS := hide_ hs
  have H1 := hide_ (show ∀ u ∈ DoneM.cs d, u.oneCell' = true from fun u hu => don_one [d] u (by simpa using hu))
  clear h hs
  by_cases hc : c = 0
  case pos =>
    subst hc
    go_enter Tryz.func70, Tryz.ntmps70
    go_wp2_with (at_builtin; refine wpList_append_grown _ rfl _ _ 27 rfl lo 63 (.agg #[.int .u8 0, .int .u64 0, .int .i64 0, .int .u64 0, .int .i64 0, .slice none 0 0]) 6 64 done_info rfl (by omega) Tryz.underlying27 _ 0 [] rfl HO.out b B 1 bc (DoneM.cs d) rfl rfl HS.out H1.out (by omega) (by omega) hlo 1 (by omega) (DoneM.cs d) rfl ?_; intro A5 c5 w1 hown hb)
    go_ret
    exact ⟨_, _, rfl, by assumption, by assumption⟩
  go_enter Tryz.func70, Tryz.ntmps70
  go_wp2_with (at_builtin; refine wpList_append_grown _ rfl _ _ 27 rfl lo 63 (.agg #[.int .u8 0, .int .u64 0, .int .i64 0, .int .u64 0, .int .i64 0, .slice none 0 0]) 6 64 done_info rfl (by omega) Tryz.underlying27 _ 0 [] rfl HO.out b B 1 bc (DoneM.cs d) rfl rfl HS.out H1.out (by omega) (by omega) hlo 1 (by omega) (DoneM.cs d) rfl ?_; intro A5 c5 w1 hown hb)
  go_ret
  exact ⟨_, _, rfl, by assumption, by assumption⟩
end Go.Proofs.YtpiikdinphnjbaaGreat

/-
  Engine's do, kind by kind, over any contracts of what it calls.
-/
namespace Go.Proofs.YtpiikdinphnjbaaGreat
open Go.RowKit

theorem Does.of {R : RegP × Int} {lo z : Nat} {w W0 w' : World} {e : Ending} (h : Does R lo z W0 e w') (hk : Kp z lo w W0) : Does R lo z w e w' := by
  obtain ⟨x, h1, h2, h3, h4⟩ := h
  exact ⟨x, h1, h2, h3, hk.trans h4⟩

set_option maxRecDepth 100000 in
set_option maxHeartbeats 6400000 in
theorem do_fire (ts tv : Int) (tA : Option Addr) (tn tc : Nat) (R : RegP × Int) (o : OpM) (cn : Int) (lo z : Nat) (w : World) (hlo : lo ≤ w.heap.size) (hz : z < lo) (ho : o.ki = 2)
    (HC : ∀ u, Below w.heap.size w u → Calls Tryz.prog 40 #[.agg #[.int .i64 ts, .int .i64 tv, .slice tA tn tc], .pointer (some ⟨z, 0, none⟩), .int .i64 o.ac, .int .i64 o.pa, .int .i64 o.ar] u (Does R lo z u)) :
    Calls Tryz.prog 20 #[.agg #[.int .i64 ts, .int .i64 tv, .slice tA tn tc], .pointer (some ⟨z, 0, none⟩), o.v, .int .u64 cn] w (Does R lo z w) := by
  obtain ⟨W0, hW0⟩ : ∃ W0, (w.alloc (.cells #[.int .i64 ts, .int .i64 tv, .slice tA tn tc] 24)).alloc (.cells o.box 33) = W0 := ⟨_, rfl⟩
  have hb0 : Below w.heap.size w W0 := hW0 ▸ ((Below.refl _ _).alloc (Nat.le_refl _) _).alloc (by simp) _
  have HK := hide_ (Kp.of (z := z) (hb0.mono hlo) hz)
  have HCR := hide_ (HC W0 hb0)
  have HW0 := hide_ hW0
  clear hW0 hb0 HC
  obtain ⟨ki, ke, cl, sq, ac, pa, ar, so, inc, ce⟩ := o
  simp only at ho
  subst ho
  simp only [OpM.v, OpM.box] at HW0 HCR ⊢
  go_enter Tryz.func20, Tryz.ntmps20
  go_wp2_with fail
  rw [HW0.out]
  refine HCR.out.mono ?_
  rintro en w1 ⟨y, rfl, hp, hat, hk⟩
  have HP := hide_ hp
  have HAT := hide_ hat
  have HKP := hide_ (HK.out.trans hk)
  clear hp hat hk
  go_wp2
  go_ret
  exact ⟨y, rfl, HP.out, HAT.out, HKP.out⟩

set_option maxRecDepth 100000 in
set_option maxHeartbeats 6400000 in
theorem do_read (ts tv : Int) (tA : Option Addr) (tn tc : Nat) (R : RegP × Int) (o : OpM) (cn : Int) (lo z : Nat) (w : World) (hlo : lo ≤ w.heap.size) (hz : z < lo) (ho : o.ki = 3)
    (HC : ∀ u, Below w.heap.size w u → Calls Tryz.prog 41 #[.pointer (some ⟨z, 0, none⟩)] u (Does R lo z u)) :
    Calls Tryz.prog 20 #[.agg #[.int .i64 ts, .int .i64 tv, .slice tA tn tc], .pointer (some ⟨z, 0, none⟩), o.v, .int .u64 cn] w (Does R lo z w) := by
  obtain ⟨W0, hW0⟩ : ∃ W0, (w.alloc (.cells #[.int .i64 ts, .int .i64 tv, .slice tA tn tc] 24)).alloc (.cells o.box 33) = W0 := ⟨_, rfl⟩
  have hb0 : Below w.heap.size w W0 := hW0 ▸ ((Below.refl _ _).alloc (Nat.le_refl _) _).alloc (by simp) _
  have HK := hide_ (Kp.of (z := z) (hb0.mono hlo) hz)
  have HCR := hide_ (HC W0 hb0)
  have HW0 := hide_ hW0
  clear hW0 hb0 HC
  obtain ⟨ki, ke, cl, sq, ac, pa, ar, so, inc, ce⟩ := o
  simp only at ho
  subst ho
  simp only [OpM.v, OpM.box] at HW0  ⊢
  go_enter Tryz.func20, Tryz.ntmps20
  go_wp2_with fail
  rw [HW0.out]
  refine HCR.out.mono ?_
  rintro en w1 ⟨y, rfl, hp, hat, hk⟩
  have HP := hide_ hp
  have HAT := hide_ hat
  have HKP := hide_ (HK.out.trans hk)
  clear hp hat hk
  go_wp2
  go_ret
  exact ⟨y, rfl, HP.out, HAT.out, HKP.out⟩

set_option maxRecDepth 100000 in
set_option maxHeartbeats 6400000 in
theorem do_remove (ts tv : Int) (tA : Option Addr) (tn tc : Nat) (R : RegP × Int) (o : OpM) (cn : Int) (lo z : Nat) (w : World) (hlo : lo ≤ w.heap.size) (hz : z < lo) (ho : o.ki = 4)
    (HC : ∀ u, Below w.heap.size w u → Calls Tryz.prog 42 #[.pointer (some ⟨z, 0, none⟩)] u (Does R lo z u)) :
    Calls Tryz.prog 20 #[.agg #[.int .i64 ts, .int .i64 tv, .slice tA tn tc], .pointer (some ⟨z, 0, none⟩), o.v, .int .u64 cn] w (Does R lo z w) := by
  obtain ⟨W0, hW0⟩ : ∃ W0, (w.alloc (.cells #[.int .i64 ts, .int .i64 tv, .slice tA tn tc] 24)).alloc (.cells o.box 33) = W0 := ⟨_, rfl⟩
  have hb0 : Below w.heap.size w W0 := hW0 ▸ ((Below.refl _ _).alloc (Nat.le_refl _) _).alloc (by simp) _
  have HK := hide_ (Kp.of (z := z) (hb0.mono hlo) hz)
  have HCR := hide_ (HC W0 hb0)
  have HW0 := hide_ hW0
  clear hW0 hb0 HC
  obtain ⟨ki, ke, cl, sq, ac, pa, ar, so, inc, ce⟩ := o
  simp only at ho
  subst ho
  simp only [OpM.v, OpM.box] at HW0  ⊢
  go_enter Tryz.func20, Tryz.ntmps20
  go_wp2_with fail
  rw [HW0.out]
  refine HCR.out.mono ?_
  rintro en w1 ⟨y, rfl, hp, hat, hk⟩
  have HP := hide_ hp
  have HAT := hide_ hat
  have HKP := hide_ (HK.out.trans hk)
  clear hp hat hk
  go_wp2
  go_ret
  exact ⟨y, rfl, HP.out, HAT.out, HKP.out⟩

set_option maxRecDepth 100000 in
set_option maxHeartbeats 6400000 in
theorem do_consume (ts tv : Int) (tA : Option Addr) (tn tc : Nat) (R : RegP × Int) (o : OpM) (cn : Int) (lo z : Nat) (w : World) (hlo : lo ≤ w.heap.size) (hz : z < lo) (ho : o.ki = 5)
    (HC : ∀ u, Below w.heap.size w u → Calls Tryz.prog 43 #[.agg #[.int .i64 ts, .int .i64 tv, .slice tA tn tc], .pointer (some ⟨z, 0, none⟩), o.v] u (Does R lo z u)) :
    Calls Tryz.prog 20 #[.agg #[.int .i64 ts, .int .i64 tv, .slice tA tn tc], .pointer (some ⟨z, 0, none⟩), o.v, .int .u64 cn] w (Does R lo z w) := by
  obtain ⟨W0, hW0⟩ : ∃ W0, (w.alloc (.cells #[.int .i64 ts, .int .i64 tv, .slice tA tn tc] 24)).alloc (.cells o.box 33) = W0 := ⟨_, rfl⟩
  have hb0 : Below w.heap.size w W0 := hW0 ▸ ((Below.refl _ _).alloc (Nat.le_refl _) _).alloc (by simp) _
  have HK := hide_ (Kp.of (z := z) (hb0.mono hlo) hz)
  have HCR := hide_ (HC W0 hb0)
  have HW0 := hide_ hW0
  clear hW0 hb0 HC
  obtain ⟨ki, ke, cl, sq, ac, pa, ar, so, inc, ce⟩ := o
  simp only at ho
  subst ho
  simp only [OpM.v, OpM.box] at HW0 HCR ⊢
  go_enter Tryz.func20, Tryz.ntmps20
  go_wp2_with fail
  rw [HW0.out]
  refine HCR.out.mono ?_
  rintro en w1 ⟨y, rfl, hp, hat, hk⟩
  have HP := hide_ hp
  have HAT := hide_ hat
  have HKP := hide_ (HK.out.trans hk)
  clear hp hat hk
  go_wp2
  go_ret
  exact ⟨y, rfl, HP.out, HAT.out, HKP.out⟩

set_option maxRecDepth 100000 in
set_option maxHeartbeats 6400000 in
theorem do_clear (ts tv : Int) (tA : Option Addr) (tn tc : Nat) (r : RegP) (o : OpM) (cn : Int) (lo z : Nat) (w : World) (hlo : lo ≤ w.heap.size) (hz : z < lo) (ho : o.ki = 6)
    (HC : ∀ u, Below w.heap.size w u → Calls Tryz.prog 44 #[.pointer (some ⟨z, 0, none⟩), .int .u64 o.inc, .int .u64 o.ce] u (Notes r lo z u)) :
    Calls Tryz.prog 20 #[.agg #[.int .i64 ts, .int .i64 tv, .slice tA tn tc], .pointer (some ⟨z, 0, none⟩), o.v, .int .u64 cn] w (Does (r, 0) lo z w) := by
  obtain ⟨W0, hW0⟩ : ∃ W0, (w.alloc (.cells #[.int .i64 ts, .int .i64 tv, .slice tA tn tc] 24)).alloc (.cells o.box 33) = W0 := ⟨_, rfl⟩
  have hb0 : Below w.heap.size w W0 := hW0 ▸ ((Below.refl _ _).alloc (Nat.le_refl _) _).alloc (by simp) _
  have HK := hide_ (Kp.of (z := z) (hb0.mono hlo) hz)
  have HCR := hide_ (HC W0 hb0)
  have HW0 := hide_ hW0
  clear hW0 hb0 HC
  obtain ⟨ki, ke, cl, sq, ac, pa, ar, so, inc, ce⟩ := o
  simp only at ho
  subst ho
  simp only [OpM.v, OpM.box] at HW0 HCR ⊢
  go_enter Tryz.func20, Tryz.ntmps20
  go_wp2_with fail
  rw [HW0.out]
  refine HCR.out.mono ?_
  rintro en w1 ⟨y, rfl, hp, hat, hk⟩
  have HP := hide_ hp
  have HAT := hide_ hat
  have HKP := hide_ (HK.out.trans hk)
  clear hp hat hk
  go_wp2
  go_ret
  exact ⟨y, rfl, HP.out, HAT.out, HKP.out⟩

set_option maxRecDepth 100000 in
set_option maxHeartbeats 6400000 in
theorem do_same (ts tv : Int) (tA : Option Addr) (tn tc : Nat) (x : RegM) (o : OpM) (cn : Int) (lo z : Nat) (w : World) (hlo : lo ≤ w.heap.size) (hz : z < lo) (ho : o.ki = 7)
    (h : At7 w lo z x) :
    Calls Tryz.prog 20 #[.agg #[.int .i64 ts, .int .i64 tv, .slice tA tn tc], .pointer (some ⟨z, 0, none⟩), o.v, .int .u64 cn] w (Does (x.p, 0) lo z w) := by
  obtain ⟨W0, hW0⟩ : ∃ W0, (w.alloc (.cells #[.int .i64 ts, .int .i64 tv, .slice tA tn tc] 24)).alloc (.cells o.box 33) = W0 := ⟨_, rfl⟩
  have hb0 : Below w.heap.size w W0 := hW0 ▸ ((Below.refl _ _).alloc (Nat.le_refl _) _).alloc (by simp) _
  have HK := hide_ (Kp.of (z := z) (hb0.mono hlo) hz)
  have H0 := hide_ (h.below hb0)
  have HW0 := hide_ hW0
  clear hW0 hb0 h
  obtain ⟨ki, ke, cl, sq, ac, pa, ar, so, inc, ce⟩ := o
  simp only at ho
  subst ho
  simp only [OpM.v, OpM.box] at HW0  ⊢
  go_enter Tryz.func20, Tryz.ntmps20
  go_wp2
  rw [HW0.out]
  go_ret
  exact ⟨x, rfl, rfl, H0.out, HK.out⟩

end Go.Proofs.YtpiikdinphnjbaaGreat
